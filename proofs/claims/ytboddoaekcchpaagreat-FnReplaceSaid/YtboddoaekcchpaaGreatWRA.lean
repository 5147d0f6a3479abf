/- 11 texts in one: SPts StrsF SeqS SortW FreeVI Pr IntC Drw DrZ TDepA TDepI. -/
import Derived.Test.YtboddoaekcchpaaGreatTPts
import Derived.Test.YtboddoaekcchpaaGreatGr
import Derived.RangeFuncNested
import Derived.RangeFuncBound
import Derived.RangeFuncCalls
import Derived.RangeFuncLeaves
import Derived.Shelf.Abstract
import Derived.Shelf.RegionOpen
import Derived.WalkKit
import Derived.OwnWalkIn
import Derived.TacticsInMore
import Derived.LoopNIn
import Derived.LoopIn
import Derived.Test.YtboddoaekcchpaaGreatOwn
import Derived.Test.YtboddoaekcchpaaGreatTSet
import Derived.Sort.MapsRangeIn
import Derived.RangeFuncSeq
import Derived.BigQuiet
import Derived.Deep.QuietTactic
import Derived.Test.YtboddoaekcchpaaGreatSFree
import Derived.Test.YtboddoaekcchpaaGreatTFreeL
import Derived.Test.YtboddoaekcchpaaGreatTTerm
import Derived.Test.YtboddoaekcchpaaGreatTText
import Derived.IntWalk
import Derived.Below
import Derived.Test.YtboddoaekcchpaaGreatInvR
import Derived.Test.YtboddoaekcchpaaGreatTxt
import Derived.Test.YtboddoaekcchpaaGreatDig
import Derived.Test.YtboddoaekcchpaaGreatOne
import Derived.ProofKit
import Derived.Lib.SmallJoins
import Derived.Deep.Matrix
import Derived.SizedLaws
import Derived.Deep.WholeRow
import Derived.Test.YtboddoaekcchpaaGreatTDep
import Derived.Test.YtboddoaekcchpaaGreatTSizeF
namespace Go.Proofs.YtboddoaekcchpaaGreat
/- SPts -/
section
open Go.RowKit

/-- What l5Read leaves, with a term or without: a node and its parts, none where there is no term. -/
theorem sterm_kids {s : ByteArray} {w w' : World} {e : Ending} (h : STermPost s w e w') : ∃ a b A k c ok xs, e = .returned (.tuple #[.agg #[.int .u8 a, .int .u8 b, .slice A k c], .bool ok]) ∧ w.grownBy w' none ∧
    w'.ownsRow 0 57 3 (.slice A k c) xs.length (flat3 xs) ∧ All2 (SN w' (fun b => w.heap.size ≤ b)) (match readT s with | some t => t.kids | none => ([] : List Tm)) xs := by
  unfold STermPost at h
  cases hr : readT s with
  | none =>
    rw [hr] at h
    exact ⟨0, 0, none, 0, 0, false, [], h.1, h.2, ⟨rfl, .inl ⟨rfl, rfl⟩⟩, trivial⟩
  | some t =>
    rw [hr] at h
    obtain ⟨a, b, A, k, c, he, hg, hs⟩ := h
    obtain ⟨xs, ho, ha⟩ := hs.kids
    exact ⟨a, b, A, k, c, true, xs, he, hg, ho, ha⟩

/-- Whatever lies in cells of a type lies as it lay. -/
def KeepT (ty : TypeId) (w w' : World) : Prop := ∀ (v : Nat) (cs : Array Value) (fr : Nat × Nat), w.heap[v]? = some (.cells cs ty fr) → w'.heap[v]? = some (.cells cs ty fr)
theorem KeepT.grown {ty : TypeId} {w w1 w2 : World} (h : KeepT ty w w1) (hg : w1.grownBy w2 none) : KeepT ty w w2 := fun v cs fr hv => by
  have := h v cs fr hv
  exact (hg.block v (blk_lt this) (by simp)).trans this
/-- A row of another type is written. -/
theorem KeepT.row {ty e : TypeId} {w w1 w2 : World} {base size n : Nat} {sv : Value} {xs : List Value} (h : KeepT ty w w1) (ho : w1.ownsRow base e size sv n xs) (he : e ≠ ty) (hg : w1.grownBy w2 sv.ownBlock) : KeepT ty w w2 := fun v cs fr hv => by
  have h1 := h v cs fr hv
  refine (hg.block v (blk_lt h1) ?_).trans h1
  intro hb
  rcases ho.2 with ⟨hs, _⟩ | ⟨g, cap, cur, hs, _, hgg, _⟩
  · subst hs; simp [Value.ownBlock] at hb
  · subst hs
    simp only [Value.ownBlock, Option.some.injEq] at hb
    subst hb
    rw [hgg] at h1
    cases h1
    exact he rfl
theorem own_keepT {w w' : World} {base : Nat} {e : TypeId} {size n : Nat} {v : Value} {xs : List Value} (h : w.ownsRow base e size v n xs) (hk : KeepT e w w') : w'.ownsRow base e size v n xs := by
  refine ⟨h.1, ?_⟩
  rcases h.2 with hn | ⟨g, cap, cur, rfl, hb, hgg, rest⟩
  · exact .inl hn
  · exact .inr ⟨g, cap, cur, rfl, hb, hk _ _ _ hgg, rest⟩
theorem SN.keepT {w w' : World} {S : Nat → Prop} (hk : KeepT 57 w w') : ∀ (t : Tm) (x : Int × Int × Value), SN w S t x → SN w' S t x
  | .dig _, _, ⟨h1, h2, ho, hS⟩ => ⟨h1, h2, own_keepT ho hk, hS⟩
  | .var _, _, ⟨h1, h2, ho, hS⟩ => ⟨h1, h2, own_keepT ho hk, hS⟩
  | .pre _ s, _, ⟨h1, h2, y, ho, hS, h3⟩ => ⟨h1, h2, y, own_keepT ho hk, hS, SN.keepT hk s y h3⟩
  | .two _ s t, _, ⟨h1, h2, y, z, ho, hS, h3, h4⟩ => ⟨h1, h2, y, z, own_keepT ho hk, hS, SN.keepT hk s y h3, SN.keepT hk t z h4⟩
  | .loop _ _ s t, _, ⟨h1, h2, y, z, ho, hS, h3, h4⟩ => ⟨h1, h2, y, z, own_keepT ho hk, hS, SN.keepT hk s y h3, SN.keepT hk t z h4⟩

set_option maxRecDepth 100000 in
set_option maxHeartbeats 2000000 in
theorem tpts_spec (s : ByteArray) (hs : s.size ≤ 1048576) (w : World) :
    Calls Tryz.prog 32 #[.string s] w (PtsPost (partsA s) w) := by
  obtain ⟨i0, hi0, hz0, hz1, hz2⟩ := info_parts infoStr
  have H := Lib.hid (fun u => sterm_any s hs u)
  obtain ⟨ss, hb⟩ : ∃ b, partsA s = b := ⟨_, rfl⟩
  rw [hb]
  have HSS : Hid ((match readT s with | some t => t.kids | none => ([] : List Tm)).map (fun k : Tm => bytesOf k.txt) = ss) := Lib.hid (by
    rw [← hb]; unfold partsA; cases readT s <;> rfl)
  have HLE : Hid (∀ t ∈ (match readT s with | some t => t.kids | none => ([] : List Tm)), t.Ok ∧ t.txt.length ≤ 80) := Lib.hid (by
    intro t ht
    cases hr : readT s with
    | none => rw [hr] at ht; simp at ht
    | some t' =>
      rw [hr] at ht
      have h1 := Tm.kids_ok (readT_some hr).2.2.1 ht
      have h2 := readT_len hr
      have h3 := (readT_some hr).1
      exact ⟨h1.1, by omega⟩)
  have HKL2 : Hid ((match readT s with | some t => t.kids | none => ([] : List Tm)).length ≤ 2) := Lib.hid (by
    cases readT s with
    | none => simp
    | some t => exact kids_len t)
  clear hb
  have HOW0 := Lib.hid (World.ownsRow_made (base := w.heap.size) (e := 9) (size := 1) w #[] 0 (Nat.le_refl _) (by simp) (by simp))
  go_enter Tryz.func32, Tryz.ntmps32
  go_wp2_with fail
  refine (H.out _).mono ?_
  intro e w0 hp
  obtain ⟨a, b, A, k, c, ok, xs, rfl, hg, ho, ha⟩ := sterm_kids hp
  generalize (match readT s with | some t => t.kids | none => ([] : List Tm)) = ks at HSS HLE HKL2 ha
  obtain ⟨hk, hkc, -⟩ := srow3 ho
  have hlen := All2.length _ _ ha
  have HKL := Lib.hid hk
  have HLEN := Lib.hid hlen
  have HO := Lib.hid ho
  have HA := Lib.hid ha
  have hk2 : k ≤ 2 := by have := HKL2.out; omega
  have HW0 := Lib.hid (own_keep HOW0.out (fun b hb => hg.block b (HOW0.out.lt b hb).2 (by simp)))
  have HG := Lib.hid ((World.grownBy_alloc w (.cells #[] 9) none).trans hg)
  have HX := Lib.hid (c3_new w0 (.int .u8 a) (.int .u8 b) (.slice A k c) 57)
  have x0 := HX.out.c0
  have x1 := HX.out.c1
  have x2 := HX.out.c2
  clear hp hg ho ha hk hlen
  go_wp2_with fail
  go_loopw [3, 17] (fun u i wr => ∃ j : Nat, j ≤ k ∧ i = .int .i64 j ∧ Hid (wr.ownsRow w.heap.size 9 1 u (ss.take j).length (strV (ss.take j))) ∧ Hid (w.grownBy wr none) ∧ Hid (KeepT 57 w0 wr)) (fun _ i _ => k - (intOf i).toNat)
  case atStart => exact ⟨0, Nat.zero_le _, rfl, Lib.hid (HW0.out.alloc _), Lib.hid (HG.out.trans (World.grownBy_alloc _ _ _)), Lib.hid (KeepT.grown (fun _ _ _ h => h) (World.grownBy_alloc _ _ _))⟩
  case round =>
    obtain ⟨j, hj, rfl, how, hgr, hkt⟩ := hrel
    by_cases hlt : j < k
    · obtain ⟨-, -, hrow⟩ := srow3 (own_keepT HO.out hkt.out)
      obtain ⟨g, rfl, hg1, hcell⟩ := hrow (by omega)
      obtain ⟨tj, ⟨a2, b2, sv2⟩, htj, hxj, hpj⟩ := HA.out.get (j := j) (by have := HKL.out; omega)
      obtain ⟨A2, k2, c2, hsv⟩ := hpj.form
      simp only at hsv
      subst hsv
      obtain ⟨q0, q1, q2⟩ := hcell j _ hxj
      have hle := HLE.out tj (List.mem_of_getElem? htj)
      have HCALL := Lib.hid (stxt_any tj _ a2 b2 A2 k2 c2 (wr.alloc (.cells #[.int .u8 a2, .int .u8 b2, .slice A2 k2 c2] 57)) hle.1 (by omega) ((SN.keepT hkt.out _ _ hpj).grown (World.grownBy_alloc _ _ _)))
      obtain ⟨X, hX⟩ : ∃ X, bytesOf tj.txt = X := ⟨_, rfl⟩
      unfold STxtPost at HCALL
      rw [hX] at HCALL
      have HX' : Hid (ss[j]? = some X) := Lib.hid (by rw [← HSS.out, List.getElem?_map, htj, ← hX]; rfl)
      obtain ⟨Av, nv, cv, rfl⟩ := own_form how.out
      have hlj : (ss.take j).length = j := by
        rw [List.length_take]
        have := (List.getElem?_eq_some_iff.1 HX'.out).1
        omega
      have hnv : nv = j := (own_len how.out).trans hlj
      subst hnv
      have HLJ := Lib.hid hlj
      simp only at q0 q1 q2
      clear hpj htj hxj hcell hX hle hlj hrow
      go_wp2_with fail
      refine HCALL.out.mono ?_
      rintro e w2 ⟨rfl, hg2'⟩
      have hg2 := (World.grownBy_alloc wr (.cells #[.int .u8 a2, .int .u8 b2, .slice A2 k2 c2] 57) none).trans hg2'
      have HG2 := Lib.hid hg2
      have HKT2 := Lib.hid ((hkt.out.grown hg2).grown (World.grownBy_alloc w2 (.cells #[.string X] 9) none))
      have own1 := (own_keep how.out (fun b hb => hg2.block b (how.out.lt b hb).2 (by simp))).alloc (.cells #[.string X] 9)
      rw [HLJ.out] at own1
      have hw2 : w.heap.size ≤ w2.heap.size := Nat.le_trans hgr.out.size hg2.size
      clear hg2 hg2' q0 q1 q2
      go_wp2_with (at_builtin; refine wpList_append_own_at _ rfl _ _ 43 rfl w.heap.size 9 i0 (.string .empty) 1 16 Tryz.underlying43 hi0 hz0 hz1 hz2 rfl (by decide) _ _ _ rfl own1 ⟨w2.heap.size, 0, none⟩ 1 1 [.string X] rfl rfl ?a1 ?a2 ?a3 ?a4 ?a5 ?_)
      case a1 => exact cell_one_new _ _ _
      case a2 => simp [Value.oneCell']
      case a3 => simp only [maxLen]; omega
      case a4 => omega
      case a5 => simp; omega
      intro v8 w8 hown8 hg8 _ _
      have HKT8 := Lib.hid (HKT2.out.row own1 (by decide) hg8)
      obtain ⟨A8, k8, c8, rfl⟩ := own_form hown8
      have hmore := str_more hgr.out how.out (HG2.out.trans (World.grownBy_alloc w2 (.cells #[.string X] 9) none)) hown8 hg8 (by rw [List.length_append, HLJ.out]; rfl)
      rw [take_snoc' HX'.out] at hmore
      have HM := Lib.hid hmore
      clear hmore hown8 hg8 own1
      go_wp2_with fail
      go_roundw
      case rel => exact ⟨nv + 1, by omega, by go_num, Lib.hid HM.out.1, Lib.hid HM.out.2, HKT8⟩
      case measure => simp [intOf]; omega
    · have hjk : j = k := by omega
      have HJ := Lib.hid hjk
      obtain ⟨Av, nv, cv, rfl⟩ := own_form how.out
      clear hjk
      go_wp2_with fail
      go_ret
      refine ⟨_, rfl, hgr.out, ?_⟩
      have e1 : ss.take j = ss := List.take_of_length_le (by rw [← HSS.out, List.length_map, HLEN.out, HJ.out, HKL.out]; exact Nat.le_refl _)
      have := how.out
      rw [e1] at this
      exact this
end

/- StrsF -/
section
section
open Go.RowKit

/-- The slice's cells are these strings. -/
def Strs (w : World) (A : Option Addr) (ss : List ByteArray) : Prop :=
  0 < ss.length → ∃ b off, A = some ⟨b, off, none⟩ ∧ b < w.heap.size ∧ ∀ (j : Nat) (s : ByteArray), ss[j]? = some s → w.cell? ⟨b, off + j, none⟩ = some (.string s)
theorem Strs.grown {w w' : World} {A : Option Addr} {ss : List ByteArray} (h : Strs w A ss) (hg : w.grownBy w' none) : Strs w' A ss := fun hl => by
  obtain ⟨b, off, rfl, hb, hc⟩ := h hl
  exact ⟨b, off, rfl, Nat.lt_of_lt_of_le hb hg.size, fun j s hj => hg.cell (hc j s hj) (by simp)⟩

/-- The sum of the lengths. -/
def tot : List ByteArray → Nat
  | [] => 0
  | s :: l => s.size + tot l
theorem tot_append : ∀ (l m : List ByteArray), tot (l ++ m) = tot l + tot m
  | [], m => by simp [tot]
  | s :: l, m => by simp [tot, tot_append l m, Nat.add_assoc]
theorem tot_step {ss : List ByteArray} {j : Nat} {s : ByteArray} (h : ss[j]? = some s) : tot (ss.take (j + 1)) = tot (ss.take j) + s.size := by
  rw [List.take_add_one, h, tot_append]
  simp [tot]
end
end

/- SeqS -/
section
section
open Go.RowKit

/-- Whatever is no cells of these types lies as it lay. -/
structure KeepsX (X : TypeId → Prop) (W W' : World) : Prop where
  size : W.heap.size ≤ W'.heap.size
  same : ∀ (k : Nat) (o : Obj), W.heap[k]? = some o → (∀ xs t m, o = .cells xs t m → ¬ X t) → W'.heap[k]? = some o

theorem KeepsX.refl (X : TypeId → Prop) (W : World) : KeepsX X W W := ⟨Nat.le_refl _, fun _ _ h _ => h⟩
theorem KeepsX.trans {X : TypeId → Prop} {A B C : World} (h : KeepsX X A B) (k : KeepsX X B C) : KeepsX X A C :=
  ⟨Nat.le_trans h.size k.size, fun i o hi ho => k.same i o (h.same i o hi ho) ho⟩
theorem not_cells_spares {o : Obj} (h : o.isCells = false) (X : TypeId → Prop) : ∀ xs t m, o = .cells xs t m → ¬ X t := fun xs t m e => by subst e; cases h
theorem KeepsX.from {X : TypeId → Prop} {W W' : World} (h : KeepsX X W W') (B : Nat) : KeepsFrom B W W' :=
  ⟨h.size, fun k o _ hk ho => h.same k o hk (not_cells_spares ho X)⟩
theorem KeepsX.grown {X : TypeId → Prop} {W W' : World} (h : W.grownBy W' none) : KeepsX X W W' :=
  ⟨h.size, fun k o hk _ => (h.block k (Array.getElem?_eq_some_iff.1 hk).1 (fun e => by cases e)).trans hk⟩
theorem KeepsX.alloc {X : TypeId → Prop} (W : World) (o : Obj) : KeepsX X W (W.alloc o) := KeepsX.grown (World.grownBy_alloc W o none)
/-- A step that turns one block of such cells. -/
theorem KeepsX.grownX {X : TypeId → Prop} {W W' : World} {g : Nat} {xs : Array Value} {t : TypeId} {m : Nat × Nat} (h : W.grownBy W' (some g)) (hg : W.heap[g]? = some (.cells xs t m)) (ht : X t) : KeepsX X W W' :=
  ⟨h.size, fun k o hk ho => (h.block k (Array.getElem?_eq_some_iff.1 hk).1 (fun e => by cases e; rw [hg] at hk; cases hk; exact ho _ _ _ rfl ht)).trans hk⟩
theorem KeepsX.cell {X : TypeId → Prop} {W W' : World} (h : KeepsX X W W') {b : Nat} {v : Value} {t : TypeId} {m : Nat × Nat} (hb : W.heap[b]? = some (.cells #[v] t m)) (ht : ¬ X t) : W'.heap[b]? = some (.cells #[v] t m) :=
  h.same b _ hb (fun xs t' m' e => by cases e; exact ht)
theorem ownFrom_keepsX {β : Type} (X : TypeId → Prop) (W0 : World) {B : Nat} (hB : W0.heap.size ≤ B) : OwnFrom B (fun (_ : β) W => KeepsX X W0 W) := fun s A C row hs hg hr =>
  ⟨Nat.le_trans hs.size hg.size, fun k o hk ho => (hg.block k (Nat.lt_of_lt_of_le (Array.getElem?_eq_some_iff.1 hk).1 hs.size) (fun e => by
    have h1 := (hr k e.symm).1
    have h2 := (Array.getElem?_eq_some_iff.1 hk).1
    omega)).trans (hs.same k o hk ho)⟩
theorem OwnFrom.mono' {β : Type} {B B' : Nat} {I : β → World → Prop} (h : OwnFrom B I) (hB : B ≤ B') : OwnFrom B' I := fun s W W' row hs hg hr =>
  h s W W' row hs hg (fun r e => ⟨Nat.le_trans hB (hr r e).1, (hr r e).2⟩)
/-- A round: the loop's record is busy meanwhile, and ready again. -/
theorem KeepsX.round {X : TypeId → Prop} {W W3 : World} {l : Nat} {o o2 : Obj} (hl : W.heap[l]? = some o) (h : KeepsX X (W.putObj l o2) W3) : KeepsX X W (W3.putObj l o) := by
  have hlt := (Array.getElem?_eq_some_iff.1 hl).1
  refine ⟨by simpa using h.size, fun k o' hk ho => ?_⟩
  by_cases e : k = l
  · subst e
    rw [hl] at hk
    cases hk
    exact World.putObj_heap_same (Nat.lt_of_lt_of_le (by simpa using hlt) h.size)
  · rw [World.putObj_heap_other e]
    exact h.same k o' (by rw [World.putObj_heap_other e]; exact hk) ho

/-- **An iterator's contract**: these numbers come, one by one, or a round has said 'no more'. -/
def SeqOwn (X : TypeId → Prop) (P : Program) (g : Nat) (lb : Array Value) (zs : List Int) (w : World) : Prop :=
  ∀ (n l : Nat) (J Jx : List Int → World → Prop) (W : World), KeepsX X w W → OwnFrom W.heap.size J → OwnFrom W.heap.size Jx →
    (∀ m pre x W1, J pre W1 → pre.length < zs.length → YieldAt Fence.wide m P l #[.int .i64 x] W1 fun e W' =>
      (e = .returned (.bool true) ∧ J (pre ++ [x]) W' ∧ KeepsX X W1 W') ∨ (e = .returned (.bool false) ∧ Jx (pre ++ [x]) W' ∧ KeepsFrom W.heap.size W1 W')) →
    J [] W →
    CallsIn Fence.wide n P g (#[.func (.yield l) #[] #[]] ++ lb) W fun e W' => (∃ v, e = .returned v) ∧ (J zs W' ∨ ∃ pre, pre <+: zs ∧ Jx pre W')

/-- How the body of a round may be left. -/
def rangeEnd (X : TypeId → Prop) (B : Nat) (I Ix : List Int → World → Prop) (xs : List Int) (W : World) : Exit → Act → World → Prop
  | .normal, _, W' => KeepsX X W W' ∧ I xs W'
  | .ret, _, W' => KeepsFrom B W W' ∧ Ix xs W'
  | _, _, _ => False

/-- The mark of a loop. -/
def mark (D : Nat) : Deferred := { target := .collected D, args := #[] }

theorem range_own {P : Program} {g : Operand} {p : Tmp} {assign body : Code} {Q : Exit → Act → World → Prop} {a : Act} {w : World} {n : Nat} {X : TypeId → Prop}
    {gf : Nat} {lb : Array Value} (hg : a.eval g = .func (.func gf) #[] lb) (eg : ∀ args w, (callFunc gf args).run P w = .ok (.enter gf args) w)
    {zs : List Int} (hseq : SeqOwn X P gf lb zs w) (I Ix : List Int → World → Prop) (hI : OwnFrom w.heap.size I) (hIx : OwnFrom w.heap.size Ix) (h0 : I [] w) (a₁ : Int → Act)
    (hassign : ∀ (l m : Nat) (x : Int) (W : World) (K : Act → World → Prop), K (a₁ x) W →
      assign.wpIn (Fence.wide.inRound l) m P (Exit.then K (fun _ _ _ => False)) { tmps := a.tmps.setIfInBounds p (.int .i64 x), defers := [] } W)
    (hbody : ∀ (l m : Nat) (pre : List Int) (x : Int) (W : World), I pre W → pre.length < zs.length → body.wpIn (Fence.wide.inRound l) m P (rangeEnd X w.heap.size I Ix (pre ++ [x]) W) (a₁ x) W)
    (hdone : ∀ (D : Nat) (W : World), w.heap.size ≤ D → I zs W → W.heap[D]? = some (.deferred (some [])) → Q .normal { a with defers := mark D :: a.defers } W)
    (hstop : ∀ (D : Nat) (pre : List Int) (W : World), w.heap.size ≤ D → pre <+: zs → Ix pre W → W.heap[D]? = some (.deferred (some [])) → Code.ret.wpIn Fence.wide n P Q { a with defers := mark D :: a.defers } W) :
    (Code.rangeFunc g #[p] assign body).wpIn Fence.wide n P Q a w := by
  refine wpIn_rangeFunc ?_
  intro fn hfn
  obtain ⟨R, hR⟩ : ∃ R : LoopState → Option Code → Loop, R = fun st pe => { state := st, pending := pe, fn, tmps := a.tmps, params := #[p], assign, body, defers := w.heap.size } := ⟨_, rfl⟩
  obtain ⟨V, hV⟩ : ∃ V, (w.alloc (.deferred (some []))).alloc (.loop (R .ready none)) = V := ⟨_, rfl⟩
  have vs : V.heap.size = w.heap.size + 2 := by rw [← hV]; simp
  have vg : w.grownBy V none := by rw [← hV]; exact (World.grownBy_alloc _ _ _).trans (World.grownBy_alloc _ _ _)
  have vl : V.heap[w.heap.size + 1]? = some (.loop (R .ready none)) := by
    have h1 := World.alloc_heap_new (w.alloc (.deferred (some []))) (.loop (R .ready none))
    rw [World.size_alloc] at h1
    rw [← hV]; exact h1
  have vd : V.heap[w.heap.size]? = some (.deferred (some [])) := by
    rw [← hV]; exact (Below.heap_alloc _ _ _ (by simp)).trans (World.alloc_heap_new w _)
  refine ⟨w.heap.size + 1, [mark w.heap.size], V, { target := .fn (.func gf) lb, args := #[.func (.yield (w.heap.size + 1)) #[] #[]] }, V, gf, #[.func (.yield (w.heap.size + 1)) #[] #[]] ++ lb, V, ?_, ?_, ?_, ?_, ?_, ?_⟩
  · rw [← hV, hR]; exact run_enterLoop_outer _ _ _ _ _
  · simp only [resolve, hg]
    simp [go_sem]
  · intro _ _; trivial
  · simp [invoke, go_sem, eg]
  · intro h; cases h
  · -- what stands beside the invariant: the loop's record and the block of its mark
    have side : ∀ (st : LoopState) (pe : Option Code) (A B : World) (row : Option Nat), A.grownBy B row → (∀ r, row = some r → V.heap.size ≤ r ∧ ∃ o : Obj, A.heap[r]? = some o ∧ o.isCells = false) →
        A.heap[w.heap.size + 1]? = some (.loop (R st pe)) ∧ A.heap[w.heap.size]? = some (.deferred (some [])) → B.heap[w.heap.size + 1]? = some (.loop (R st pe)) ∧ B.heap[w.heap.size]? = some (.deferred (some [])) := fun st pe A B row hg' hr hs =>
      ⟨(hg'.block _ (Array.getElem?_eq_some_iff.1 hs.1).1 (fun e => by have := (hr _ e.symm).1; omega)).trans hs.1,
       (hg'.block _ (Array.getElem?_eq_some_iff.1 hs.2).1 (fun e => by have := (hr _ e.symm).1; omega)).trans hs.2⟩
    have hI2 : OwnFrom V.heap.size (fun pre W => I pre W ∧ W.heap[w.heap.size + 1]? = some (.loop (R .ready none)) ∧ W.heap[w.heap.size]? = some (.deferred (some []))) := fun s A B row hs hg' hr =>
      ⟨hI s A B row hs.1 hg' (fun r e => ⟨by have := (hr r e).1; omega, (hr r e).2⟩), side _ _ A B row hg' hr hs.2⟩
    have hIx2 : OwnFrom V.heap.size (fun pre W => Ix pre W ∧ W.heap[w.heap.size + 1]? = some (.loop (R .done (some .ret))) ∧ W.heap[w.heap.size]? = some (.deferred (some []))) := fun s A B row hs hg' hr =>
      ⟨hIx s A B row hs.1 hg' (fun r e => ⟨by have := (hr r e).1; omega, (hr r e).2⟩), side _ _ A B row hg' hr hs.2⟩
    refine (hseq _ (w.heap.size + 1) _ _ V (KeepsX.grown vg) hI2 hIx2 ?_ ⟨hI [] w V none h0 vg (fun r e => by cases e), vl, vd⟩).mono ?_
    · rintro m pre x W ⟨hi, hl, hk⟩ hlen
      have hlt : w.heap.size + 1 < W.heap.size := (Array.getElem?_eq_some_iff.1 hl).1
      have hy := run_yield (P := P) (args := #[.int .i64 x]) hl (by rw [hR]; rfl)
      rw [hR] at hy
      have hz : ((#[p] : Array Tmp).zip #[Value.int .i64 x]).foldl (fun t (q, v) => t.setIfInBounds q v) a.tmps = a.tmps.setIfInBounds p (.int .i64 x) := by simp
      refine ⟨fn, _, assign, body, hy, roundIn_of_wpIn hfn ?_⟩
      show assign.wpIn _ _ P _ { tmps := ((#[p] : Array Tmp).zip #[Value.int .i64 x]).foldl (fun t (q, v) => t.setIfInBounds q v) a.tmps, defers := [] } W
      rw [hz]
      refine hassign _ _ x W _ ⟨_, run_beginRound hl (by rw [hR]), ?_⟩
      obtain ⟨Wb, hWb⟩ : ∃ Wb, W.putObj (w.heap.size + 1) (.loop { R .ready none with state := .busy }) = Wb := ⟨_, rfl⟩
      have hlb : Wb.heap[w.heap.size + 1]? = some (.loop { R .ready none with state := .busy }) := by rw [← hWb]; exact World.putObj_heap_same hlt
      have hkb : Wb.heap[w.heap.size]? = some (.deferred (some [])) := by rw [← hWb]; exact (World.putObj_heap_other (by omega)).trans hk
      have hib : I pre Wb := by rw [← hWb]; exact hI.putObj _ hi (by omega) hl rfl
      rw [hWb]
      refine wpIn_mono (hbody _ _ pre x Wb hib hlen) ?_
      have last : ∀ (jump : Option Code) (W3 : World), KeepsFrom w.heap.size Wb W3 →
          (Instr.endRound (w.heap.size + 1) jump).run P W3 = .ok (.bool jump.isNone) (W3.putObj (w.heap.size + 1) (.loop (R (if jump.isNone then .ready else .done) jump))) ∧
          W3.heap[w.heap.size + 1]? = some (.loop { R .ready none with state := .busy }) ∧ W3.heap[w.heap.size]? = some (.deferred (some [])) := fun jump W3 hk3 => by
        have h3 := hk3.same _ _ (by omega) hlb rfl
        have h4 := run_endRound (P := P) jump h3
        refine ⟨?_, h3, hk3.same _ _ (Nat.le_refl _) hkb rfl⟩
        rw [h4, hR]
      rintro e a3 W3 hp
      cases e with
      | normal =>
        obtain ⟨hk3, hi3⟩ := hp
        obtain ⟨hr, hl3, hd3⟩ := last none W3 (hk3.from _)
        have hlt3 := (Array.getElem?_eq_some_iff.1 hl3).1
        refine ⟨_, _, hr, .inl ⟨rfl, ⟨hI.putObj _ hi3 (by omega) hl3 rfl, World.putObj_heap_same hlt3, (World.putObj_heap_other (by omega)).trans hd3⟩, ?_⟩⟩
        rw [← hWb] at hk3
        exact KeepsX.round hl hk3
      | ret =>
        obtain ⟨hk3, hi3⟩ := hp
        obtain ⟨hr, hl3, hd3⟩ := last (some .ret) W3 hk3
        have hlt3 := (Array.getElem?_eq_some_iff.1 hl3).1
        refine ⟨_, _, hr, .inr ⟨rfl, ⟨hIx.putObj _ hi3 (by omega) hl3 rfl, World.putObj_heap_same hlt3, (World.putObj_heap_other (by omega)).trans hd3⟩, ?_⟩⟩
        refine ⟨?_, fun k o hk ho hc => ?_⟩
        · have := hk3.size
          rw [← hWb] at this
          simpa using this
        · rw [World.putObj_heap_other (by omega)]
          refine hk3.same k o (by omega) ?_ hc
          rw [← hWb, World.putObj_heap_other (by omega)]
          exact ho
      | exit id => exact hp.elim
      | goto t => exact hp.elim
      | panic ch => exact hp.elim
      | outgrown => exact hp.elim
    · rintro e W2 ⟨⟨v, rfl⟩, (⟨hi, hl, hk⟩ | ⟨pre, hpre, hi, hl, hk⟩)⟩
      · have h5 := run_endLoop (P := P) hl (by rw [hR]; simp)
        refine ⟨none, _, by rw [h5, hR], hdone _ _ (Nat.le_refl _) (hI.putObj _ hi (by omega) hl rfl) ((World.putObj_heap_other (by omega)).trans hk)⟩
      · have h5 := run_endLoop (P := P) hl (by rw [hR]; simp)
        refine ⟨some .ret, _, by rw [h5, hR], hstop _ pre _ (Nat.le_refl _) hpre (hIx.putObj _ hi (by omega) hl rfl) ((World.putObj_heap_other (by omega)).trans hk)⟩

/-- At the function's end: its marks, one by one. -/
theorem leaves_marks {P : Program} {n : Nat} {fn : Func} {tmps : Array Value} {R : Ending → World → Prop} {v : Value} (K : World → Prop)
    (hres : ∀ w, (results fn tmps).run P w = .ok v w) (hR : ∀ w, K w → R (.returned v) w) :
    ∀ (ds : List Nat) (w : World), (∀ (D : Nat) (w : World), D ∈ ds → K w → w.heap[D]? = some (.deferred (some [])) → K (w.putObj D (.deferred none))) → ds.Nodup → (∀ D ∈ ds, w.heap[D]? = some (.deferred (some []))) → K w → LeavesInM Fence.wide n P fn tmps R (ds.map mark) .returning w
  | [], w, _, _, _, hK => ⟨v, hres w, hR w hK⟩
  | D :: ds, w, hs, hn, hd, hK => by
    obtain ⟨h1, h2⟩ := List.nodup_cons.1 hn
    refine ⟨by simp, .inl ⟨D, _, rfl, run_takeDeferred (hd D (by simp)), ?_⟩⟩
    refine leaves_marks K hres hR ds _ (fun D' w hm => hs D' w (by simp [hm])) h2 (fun D' hm => ?_) (hs D w (by simp) hK (hd D (by simp)))
    have hne : D' ≠ D := fun e => h1 (e ▸ hm)
    rw [World.putObj_heap_other hne]
    exact hd D' (by simp [hm])
end

section
open Go.RowKit

/-- Whatever is no cells of these blocks and types lies as it lay. -/
structure KeepsK (X : Nat → TypeId → Prop) (W W' : World) : Prop where
  size : W.heap.size ≤ W'.heap.size
  same : ∀ (k : Nat) (o : Obj), W.heap[k]? = some o → (∀ xs t m, o = .cells xs t m → ¬ X k t) → W'.heap[k]? = some o

theorem KeepsK.refl (X : Nat → TypeId → Prop) (W : World) : KeepsK X W W := ⟨Nat.le_refl _, fun _ _ h _ => h⟩
theorem KeepsK.trans {X : Nat → TypeId → Prop} {A B C : World} (h : KeepsK X A B) (k : KeepsK X B C) : KeepsK X A C :=
  ⟨Nat.le_trans h.size k.size, fun i o hi ho => k.same i o (h.same i o hi ho) ho⟩
theorem not_cells_sparesK {o : Obj} (h : o.isCells = false) (X : Nat → TypeId → Prop) (k : Nat) : ∀ xs t m, o = .cells xs t m → ¬ X k t := fun xs t m e => by subst e; cases h
theorem KeepsK.from {X : Nat → TypeId → Prop} {W W' : World} (h : KeepsK X W W') (B : Nat) : KeepsFrom B W W' :=
  ⟨h.size, fun k o _ hk ho => h.same k o hk (not_cells_sparesK ho X k)⟩
theorem KeepsK.grown {X : Nat → TypeId → Prop} {W W' : World} (h : W.grownBy W' none) : KeepsK X W W' :=
  ⟨h.size, fun k o hk _ => (h.block k (Array.getElem?_eq_some_iff.1 hk).1 (fun e => by cases e)).trans hk⟩
theorem KeepsK.alloc {X : Nat → TypeId → Prop} (W : World) (o : Obj) : KeepsK X W (W.alloc o) := KeepsK.grown (World.grownBy_alloc W o none)
/-- A step that turns one block of such cells. -/
theorem KeepsK.grownX {X : Nat → TypeId → Prop} {W W' : World} {g : Nat} {xs : Array Value} {t : TypeId} {m : Nat × Nat} (h : W.grownBy W' (some g)) (hg : W.heap[g]? = some (.cells xs t m)) (ht : X g t) : KeepsK X W W' :=
  ⟨h.size, fun k o hk ho => (h.block k (Array.getElem?_eq_some_iff.1 hk).1 (fun e => by cases e; rw [hg] at hk; cases hk; exact ho _ _ _ rfl ht)).trans hk⟩
theorem KeepsK.cell {X : Nat → TypeId → Prop} {W W' : World} (h : KeepsK X W W') {b : Nat} {v : Value} {t : TypeId} {m : Nat × Nat} (hb : W.heap[b]? = some (.cells #[v] t m)) (ht : ¬ X b t) : W'.heap[b]? = some (.cells #[v] t m) :=
  h.same b _ hb (fun xs t' m' e => by cases e; exact ht)
theorem KeepsK.row {X : Nat → TypeId → Prop} {W W' : World} (h : KeepsK X W W') {b : Nat} {xs : Array Value} {t : TypeId} {m : Nat × Nat} (hb : W.heap[b]? = some (.cells xs t m)) (ht : ¬ X b t) : W'.heap[b]? = some (.cells xs t m) :=
  h.same b _ hb (fun xs t' m' e => by cases e; exact ht)
theorem ownFrom_keepsK {β : Type} (X : Nat → TypeId → Prop) (W0 : World) {B : Nat} (hB : W0.heap.size ≤ B) : OwnFrom B (fun (_ : β) W => KeepsK X W0 W) := fun s A C row hs hg hr =>
  ⟨Nat.le_trans hs.size hg.size, fun k o hk ho => (hg.block k (Nat.lt_of_lt_of_le (Array.getElem?_eq_some_iff.1 hk).1 hs.size) (fun e => by
    have h1 := (hr k e.symm).1
    have h2 := (Array.getElem?_eq_some_iff.1 hk).1
    omega)).trans (hs.same k o hk ho)⟩
/-- A round: the loop's record is busy meanwhile, and ready again. -/
theorem KeepsK.round {X : Nat → TypeId → Prop} {W W3 : World} {l : Nat} {o o2 : Obj} (hl : W.heap[l]? = some o) (h : KeepsK X (W.putObj l o2) W3) : KeepsK X W (W3.putObj l o) := by
  have hlt := (Array.getElem?_eq_some_iff.1 hl).1
  refine ⟨by simpa using h.size, fun k o' hk ho => ?_⟩
  by_cases e : k = l
  · subst e
    rw [hl] at hk
    cases hk
    exact World.putObj_heap_same (Nat.lt_of_lt_of_le (by simpa using hlt) h.size)
  · rw [World.putObj_heap_other e]
    exact h.same k o' (by rw [World.putObj_heap_other e]; exact hk) ho
theorem ownFrom_keepsF {β : Type} (B0 : Nat) (W0 : World) {B : Nat} (hB : W0.heap.size ≤ B) : OwnFrom B (fun (_ : β) W => KeepsFrom B0 W0 W) := fun s A C row hs hg hr =>
  ⟨Nat.le_trans hs.size hg.size, fun k o hb hk ho => (hg.block k (Nat.lt_of_lt_of_le (Array.getElem?_eq_some_iff.1 hk).1 hs.size) (fun e => by
    have h1 := (hr k e.symm).1
    have h2 := (Array.getElem?_eq_some_iff.1 hk).1
    omega)).trans (hs.same k o hb hk ho)⟩
theorem KeepsFrom.upK {B B' : Nat} {W W' : World} (h : KeepsFrom B W W') (hB : B ≤ B') : KeepsFrom B' W W' := ⟨h.size, fun k o hb hk ho => h.same k o (Nat.le_trans hB hb) hk ho⟩
theorem RoundIn.inRoundK {F : Fence} {n : Nat} {P : Program} {l : Nat} {f : FuncId} {tmps : Array Value} {assign body : Code} {w : World} {R : Ending → World → Prop} (l0 : Nat)
    (h : RoundIn F n P l f tmps assign body w R) : RoundIn (F.inRound l0) n P l f tmps assign body w R := h

/-- **An iterator's contract**: these things come, one by one, or a round has said 'no more'. -/
def SeqOwnK {α : Type} (vs : α → Array Value) (X : Nat → TypeId → Prop) (P : Program) (g : Nat) (lb : Array Value) (zs : List α) (w : World) : Prop :=
  ∀ (n l : Nat) (J Jx : List α → World → Prop) (W : World), KeepsK X w W → OwnFrom W.heap.size J → OwnFrom W.heap.size Jx →
    (∀ m pre x W1, J pre W1 → pre ++ [x] <+: zs → YieldAt Fence.wide m P l (vs x) W1 fun e W' =>
      (e = .returned (.bool true) ∧ J (pre ++ [x]) W' ∧ KeepsK X W1 W') ∨ (e = .returned (.bool false) ∧ Jx (pre ++ [x]) W' ∧ KeepsFrom W.heap.size W1 W')) →
    J [] W →
    CallsIn Fence.wide n P g (#[.func (.yield l) #[] #[]] ++ lb) W fun e W' => (∃ v, e = .returned v) ∧ (J zs W' ∨ ∃ pre, pre <+: zs ∧ Jx pre W')

/-- How the body of a round may be left. -/
def rangeEndK {α : Type} (X : Nat → TypeId → Prop) (B : Nat) (I Ix : List α → World → Prop) (xs : List α) (W : World) : Exit → Act → World → Prop
  | .normal, _, W' => KeepsK X W W' ∧ I xs W'
  | .ret, _, W' => KeepsFrom B W W' ∧ Ix xs W'
  | _, _, _ => False

theorem range_ownK {α : Type} (vs : α → Array Value) {P : Program} {g : Operand} {ps : Array Tmp} {assign body : Code} {Q : Exit → Act → World → Prop} {a : Act} {w : World} {n : Nat} {X : Nat → TypeId → Prop}
    {gf : Nat} {lb : Array Value} (hg : a.eval g = .func (.func gf) #[] lb) (eg : ∀ args w, (callFunc gf args).run P w = .ok (.enter gf args) w)
    {zs : List α} (hseq : SeqOwnK vs X P gf lb zs w) (I Ix : List α → World → Prop) (hI : OwnFrom w.heap.size I) (hIx : OwnFrom w.heap.size Ix) (h0 : I [] w) (hsz : ∀ x, (vs x).size = ps.size) (a₁ : α → Act)
    (hassign : ∀ (l m : Nat) (x : α) (W : World) (K : Act → World → Prop), K (a₁ x) W →
      assign.wpIn (Fence.wide.inRound l) m P (Exit.then K (fun _ _ _ => False)) { tmps := (ps.zip (vs x)).foldl (fun t (q, v) => t.setIfInBounds q v) a.tmps, defers := [] } W)
    (hbody : ∀ (l m : Nat) (pre : List α) (x : α) (W : World), w.heap.size ≤ l → (∃ r, W.heap[l]? = some (.loop r)) → I pre W → pre ++ [x] <+: zs → body.wpIn (Fence.wide.inRound l) m P (rangeEndK X w.heap.size I Ix (pre ++ [x]) W) (a₁ x) W)
    (hdone : ∀ (D : Nat) (W : World), w.heap.size ≤ D → I zs W → W.heap[D]? = some (.deferred (some [])) → Q .normal { a with defers := mark D :: a.defers } W)
    (hstop : ∀ (D : Nat) (pre : List α) (W : World), w.heap.size ≤ D → pre <+: zs → Ix pre W → W.heap[D]? = some (.deferred (some [])) → Code.ret.wpIn Fence.wide n P Q { a with defers := mark D :: a.defers } W) :
    (Code.rangeFunc g ps assign body).wpIn Fence.wide n P Q a w := by
  refine wpIn_rangeFunc ?_
  intro fn hfn
  obtain ⟨R, hR⟩ : ∃ R : LoopState → Option Code → Loop, R = fun st pe => { state := st, pending := pe, fn, tmps := a.tmps, params := ps, assign, body, defers := w.heap.size } := ⟨_, rfl⟩
  obtain ⟨V, hV⟩ : ∃ V, (w.alloc (.deferred (some []))).alloc (.loop (R .ready none)) = V := ⟨_, rfl⟩
  have vsz : V.heap.size = w.heap.size + 2 := by rw [← hV]; simp
  have vg : w.grownBy V none := by rw [← hV]; exact (World.grownBy_alloc _ _ _).trans (World.grownBy_alloc _ _ _)
  have vl : V.heap[w.heap.size + 1]? = some (.loop (R .ready none)) := by
    have h1 := World.alloc_heap_new (w.alloc (.deferred (some []))) (.loop (R .ready none))
    rw [World.size_alloc] at h1
    rw [← hV]; exact h1
  have vd : V.heap[w.heap.size]? = some (.deferred (some [])) := by
    rw [← hV]; exact (Below.heap_alloc _ _ _ (by simp)).trans (World.alloc_heap_new w _)
  refine ⟨w.heap.size + 1, [mark w.heap.size], V, { target := .fn (.func gf) lb, args := #[.func (.yield (w.heap.size + 1)) #[] #[]] }, V, gf, #[.func (.yield (w.heap.size + 1)) #[] #[]] ++ lb, V, ?_, ?_, ?_, ?_, ?_, ?_⟩
  · rw [← hV, hR]; exact run_enterLoop_outer _ _ _ _ _
  · simp only [resolve, hg]
    simp [go_sem]
  · intro _ _; trivial
  · simp [invoke, go_sem, eg]
  · intro h; cases h
  · -- what stands beside the invariant: the loop's record and the block of its mark
    have side : ∀ (st : LoopState) (pe : Option Code) (A B : World) (row : Option Nat), A.grownBy B row → (∀ r, row = some r → V.heap.size ≤ r ∧ ∃ o : Obj, A.heap[r]? = some o ∧ o.isCells = false) →
        A.heap[w.heap.size + 1]? = some (.loop (R st pe)) ∧ A.heap[w.heap.size]? = some (.deferred (some [])) → B.heap[w.heap.size + 1]? = some (.loop (R st pe)) ∧ B.heap[w.heap.size]? = some (.deferred (some [])) := fun st pe A B row hg' hr hs =>
      ⟨(hg'.block _ (Array.getElem?_eq_some_iff.1 hs.1).1 (fun e => by have := (hr _ e.symm).1; omega)).trans hs.1,
       (hg'.block _ (Array.getElem?_eq_some_iff.1 hs.2).1 (fun e => by have := (hr _ e.symm).1; omega)).trans hs.2⟩
    have hI2 : OwnFrom V.heap.size (fun pre W => I pre W ∧ W.heap[w.heap.size + 1]? = some (.loop (R .ready none)) ∧ W.heap[w.heap.size]? = some (.deferred (some []))) := fun s A B row hs hg' hr =>
      ⟨hI s A B row hs.1 hg' (fun r e => ⟨by have := (hr r e).1; omega, (hr r e).2⟩), side _ _ A B row hg' hr hs.2⟩
    have hIx2 : OwnFrom V.heap.size (fun pre W => Ix pre W ∧ W.heap[w.heap.size + 1]? = some (.loop (R .done (some .ret))) ∧ W.heap[w.heap.size]? = some (.deferred (some []))) := fun s A B row hs hg' hr =>
      ⟨hIx s A B row hs.1 hg' (fun r e => ⟨by have := (hr r e).1; omega, (hr r e).2⟩), side _ _ A B row hg' hr hs.2⟩
    refine (hseq _ (w.heap.size + 1) _ _ V (KeepsK.grown vg) hI2 hIx2 ?_ ⟨hI [] w V none h0 vg (fun r e => by cases e), vl, vd⟩).mono ?_
    · rintro m pre x W ⟨hi, hl, hk⟩ hlen
      have hlt : w.heap.size + 1 < W.heap.size := (Array.getElem?_eq_some_iff.1 hl).1
      have hy := run_yield (P := P) (args := (vs x)) hl (by rw [hR]; exact hsz x)
      rw [hR] at hy
      refine ⟨fn, _, assign, body, hy, roundIn_of_wpIn hfn ?_⟩
      refine hassign _ _ x W _ ⟨_, run_beginRound hl (by rw [hR]), ?_⟩
      obtain ⟨Wb, hWb⟩ : ∃ Wb, W.putObj (w.heap.size + 1) (.loop { R .ready none with state := .busy }) = Wb := ⟨_, rfl⟩
      have hlb : Wb.heap[w.heap.size + 1]? = some (.loop { R .ready none with state := .busy }) := by rw [← hWb]; exact World.putObj_heap_same hlt
      have hkb : Wb.heap[w.heap.size]? = some (.deferred (some [])) := by rw [← hWb]; exact (World.putObj_heap_other (by omega)).trans hk
      have hib : I pre Wb := by rw [← hWb]; exact hI.putObj _ hi (by omega) hl rfl
      rw [hWb]
      refine wpIn_mono (hbody _ _ pre x Wb (by omega) ⟨_, hlb⟩ hib hlen) ?_
      have last : ∀ (jump : Option Code) (W3 : World), KeepsFrom w.heap.size Wb W3 →
          (Instr.endRound (w.heap.size + 1) jump).run P W3 = .ok (.bool jump.isNone) (W3.putObj (w.heap.size + 1) (.loop (R (if jump.isNone then .ready else .done) jump))) ∧
          W3.heap[w.heap.size + 1]? = some (.loop { R .ready none with state := .busy }) ∧ W3.heap[w.heap.size]? = some (.deferred (some [])) := fun jump W3 hk3 => by
        have h3 := hk3.same _ _ (by omega) hlb rfl
        have h4 := run_endRound (P := P) jump h3
        refine ⟨?_, h3, hk3.same _ _ (Nat.le_refl _) hkb rfl⟩
        rw [h4, hR]
      rintro e a3 W3 hp
      cases e with
      | normal =>
        obtain ⟨hk3, hi3⟩ := hp
        obtain ⟨hr, hl3, hd3⟩ := last none W3 (hk3.from _)
        have hlt3 := (Array.getElem?_eq_some_iff.1 hl3).1
        refine ⟨_, _, hr, .inl ⟨rfl, ⟨hI.putObj _ hi3 (by omega) hl3 rfl, World.putObj_heap_same hlt3, (World.putObj_heap_other (by omega)).trans hd3⟩, ?_⟩⟩
        rw [← hWb] at hk3
        exact KeepsK.round hl hk3
      | ret =>
        obtain ⟨hk3, hi3⟩ := hp
        obtain ⟨hr, hl3, hd3⟩ := last (some .ret) W3 hk3
        have hlt3 := (Array.getElem?_eq_some_iff.1 hl3).1
        refine ⟨_, _, hr, .inr ⟨rfl, ⟨hIx.putObj _ hi3 (by omega) hl3 rfl, World.putObj_heap_same hlt3, (World.putObj_heap_other (by omega)).trans hd3⟩, ?_⟩⟩
        refine ⟨?_, fun k o hk ho hc => ?_⟩
        · have := hk3.size
          rw [← hWb] at this
          simpa using this
        · rw [World.putObj_heap_other (by omega)]
          refine hk3.same k o (by omega) ?_ hc
          rw [← hWb, World.putObj_heap_other (by omega)]
          exact ho
      | exit id => exact hp.elim
      | goto t => exact hp.elim
      | panic ch => exact hp.elim
      | outgrown => exact hp.elim
    · rintro e W2 ⟨⟨v, rfl⟩, (⟨hi, hl, hk⟩ | ⟨pre, hpre, hi, hl, hk⟩)⟩
      · have h5 := run_endLoop (P := P) hl (by rw [hR]; simp)
        refine ⟨none, _, by rw [h5, hR], hdone _ _ (Nat.le_refl _) (hI.putObj _ hi (by omega) hl rfl) ((World.putObj_heap_other (by omega)).trans hk)⟩
      · have h5 := run_endLoop (P := P) hl (by rw [hR]; simp)
        refine ⟨some .ret, _, by rw [h5, hR], hstop _ pre _ (Nat.le_refl _) hpre (hIx.putObj _ hi (by omega) hl rfl) ((World.putObj_heap_other (by omega)).trans hk)⟩

/-- The same within a round of another loop: no mark. -/
theorem range_inK {α : Type} (vs : α → Array Value) {P : Program} {g : Operand} {ps : Array Tmp} {assign body : Code} {Q : Exit → Act → World → Prop} {a : Act} {w : World} {n : Nat} {X : Nat → TypeId → Prop}
    {l₀ : Nat} {r₀ : Loop} (hl₀ : w.heap[l₀]? = some (.loop r₀)) {gf : Nat} {lb : Array Value} (hg : a.eval g = .func (.func gf) #[] lb) (eg : ∀ args w, (callFunc gf args).run P w = .ok (.enter gf args) w)
    {zs : List α} (hseq : SeqOwnK vs X P gf lb zs w) (I Ix : List α → World → Prop) (hI : OwnFrom w.heap.size I) (hIx : OwnFrom w.heap.size Ix) (h0 : I [] w) (hsz : ∀ x, (vs x).size = ps.size) (a₁ : α → Act)
    (hassign : ∀ (l m : Nat) (x : α) (W : World) (K : Act → World → Prop), K (a₁ x) W →
      assign.wpIn (Fence.wide.inRound l) m P (Exit.then K (fun _ _ _ => False)) { tmps := (ps.zip (vs x)).foldl (fun t (q, v) => t.setIfInBounds q v) a.tmps, defers := [] } W)
    (hbody : ∀ (l m : Nat) (pre : List α) (x : α) (W : World), w.heap.size ≤ l → (∃ r, W.heap[l]? = some (.loop r)) → I pre W → pre ++ [x] <+: zs → body.wpIn (Fence.wide.inRound l) m P (rangeEndK X w.heap.size I Ix (pre ++ [x]) W) (a₁ x) W)
    (hdone : ∀ (W : World), I zs W → Q .normal a W)
    (hstop : ∀ (pre : List α) (W : World), pre <+: zs → Ix pre W → Code.ret.wpIn (Fence.wide.inRound l₀) n P Q a W) :
    (Code.rangeFunc g ps assign body).wpIn (Fence.wide.inRound l₀) n P Q a w := by
  refine wpIn_rangeFunc ?_
  intro fn hfn
  obtain ⟨R, hR⟩ : ∃ R : LoopState → Option Code → Loop, R = fun st pe => { state := st, pending := pe, fn, tmps := a.tmps, params := ps, assign, body, defers := r₀.defers } := ⟨_, rfl⟩
  obtain ⟨V, hV⟩ : ∃ V, w.alloc (.loop (R .ready none)) = V := ⟨_, rfl⟩
  have vsz : V.heap.size = w.heap.size + 1 := by rw [← hV]; simp
  have vg : w.grownBy V none := by rw [← hV]; exact World.grownBy_alloc _ _ _
  have vl : V.heap[w.heap.size]? = some (.loop (R .ready none)) := by rw [← hV]; exact World.alloc_heap_new w _
  refine ⟨w.heap.size, [], V, { target := .fn (.func gf) lb, args := #[.func (.yield w.heap.size) #[] #[]] }, V, gf, #[.func (.yield w.heap.size) #[] #[]] ++ lb, V, ?_, ?_, ?_, ?_, ?_, ?_⟩
  · rw [← hV, hR]; exact run_enterLoop_inner hl₀ _ _ _ _ _
  · simp only [resolve, hg]
    simp [go_sem]
  · intro _ _; trivial
  · simp [invoke, go_sem, eg]
  · intro h; cases h
  · have side : ∀ (st : LoopState) (pe : Option Code) (A B : World) (row : Option Nat), A.grownBy B row → (∀ r, row = some r → V.heap.size ≤ r ∧ ∃ o : Obj, A.heap[r]? = some o ∧ o.isCells = false) →
        A.heap[w.heap.size]? = some (.loop (R st pe)) → B.heap[w.heap.size]? = some (.loop (R st pe)) := fun st pe A B row hg' hr hs =>
      (hg'.block _ (Array.getElem?_eq_some_iff.1 hs).1 (fun e => by have := (hr _ e.symm).1; omega)).trans hs
    have hI2 : OwnFrom V.heap.size (fun pre W => I pre W ∧ W.heap[w.heap.size]? = some (.loop (R .ready none))) := fun s A B row hs hg' hr =>
      ⟨hI s A B row hs.1 hg' (fun r e => ⟨by have := (hr r e).1; omega, (hr r e).2⟩), side _ _ A B row hg' hr hs.2⟩
    have hIx2 : OwnFrom V.heap.size (fun pre W => Ix pre W ∧ W.heap[w.heap.size]? = some (.loop (R .done (some .ret)))) := fun s A B row hs hg' hr =>
      ⟨hIx s A B row hs.1 hg' (fun r e => ⟨by have := (hr r e).1; omega, (hr r e).2⟩), side _ _ A B row hg' hr hs.2⟩
    refine (hseq _ w.heap.size _ _ V (KeepsK.grown vg) hI2 hIx2 ?_ ⟨hI [] w V none h0 vg (fun r e => by cases e), vl⟩).mono ?_
    · rintro m pre x W ⟨hi, hl⟩ hlen
      have hlt : w.heap.size < W.heap.size := (Array.getElem?_eq_some_iff.1 hl).1
      have hy := run_yield (P := P) (args := (vs x)) hl (by rw [hR]; exact hsz x)
      rw [hR] at hy
      refine ⟨fn, _, assign, body, hy, roundIn_of_wpIn hfn ?_⟩
      refine hassign _ _ x W _ ⟨_, run_beginRound hl (by rw [hR]), ?_⟩
      obtain ⟨Wb, hWb⟩ : ∃ Wb, W.putObj w.heap.size (.loop { R .ready none with state := .busy }) = Wb := ⟨_, rfl⟩
      have hlb : Wb.heap[w.heap.size]? = some (.loop { R .ready none with state := .busy }) := by rw [← hWb]; exact World.putObj_heap_same hlt
      have hib : I pre Wb := by rw [← hWb]; exact hI.putObj _ hi (by omega) hl rfl
      rw [hWb]
      refine wpIn_mono (hbody _ _ pre x Wb (Nat.le_refl _) ⟨_, hlb⟩ hib hlen) ?_
      have last : ∀ (jump : Option Code) (W3 : World), KeepsFrom w.heap.size Wb W3 →
          (Instr.endRound w.heap.size jump).run P W3 = .ok (.bool jump.isNone) (W3.putObj w.heap.size (.loop (R (if jump.isNone then .ready else .done) jump))) ∧
          W3.heap[w.heap.size]? = some (.loop { R .ready none with state := .busy }) := fun jump W3 hk3 => by
        have h3 := hk3.same _ _ (Nat.le_refl _) hlb rfl
        have h4 := run_endRound (P := P) jump h3
        refine ⟨?_, h3⟩
        rw [h4, hR]
      rintro e a3 W3 hp
      cases e with
      | normal =>
        obtain ⟨hk3, hi3⟩ := hp
        obtain ⟨hr, hl3⟩ := last none W3 (hk3.from _)
        have hlt3 := (Array.getElem?_eq_some_iff.1 hl3).1
        refine ⟨_, _, hr, .inl ⟨rfl, ⟨hI.putObj _ hi3 (by omega) hl3 rfl, World.putObj_heap_same hlt3⟩, ?_⟩⟩
        rw [← hWb] at hk3
        exact KeepsK.round hl hk3
      | ret =>
        obtain ⟨hk3, hi3⟩ := hp
        obtain ⟨hr, hl3⟩ := last (some .ret) W3 hk3
        have hlt3 := (Array.getElem?_eq_some_iff.1 hl3).1
        refine ⟨_, _, hr, .inr ⟨rfl, ⟨hIx.putObj _ hi3 (by omega) hl3 rfl, World.putObj_heap_same hlt3⟩, ?_⟩⟩
        refine ⟨?_, fun k o hk ho hc => ?_⟩
        · have := hk3.size
          rw [← hWb] at this
          simpa using this
        · rw [World.putObj_heap_other (by omega)]
          refine hk3.same k o (by omega) ?_ hc
          rw [← hWb, World.putObj_heap_other (by omega)]
          exact ho
      | exit id => exact hp.elim
      | goto t => exact hp.elim
      | panic ch => exact hp.elim
      | outgrown => exact hp.elim
    · rintro e W2 ⟨⟨v, rfl⟩, (⟨hi, hl⟩ | ⟨pre, hpre, hi, hl⟩)⟩
      · have h5 := run_endLoop (P := P) hl (by rw [hR]; simp)
        exact ⟨none, _, by rw [h5, hR], hdone _ (hI.putObj _ hi (by omega) hl rfl)⟩
      · have h5 := run_endLoop (P := P) hl (by rw [hR]; simp)
        exact ⟨some .ret, _, by rw [h5, hR], hstop pre _ hpre (hIx.putObj _ hi (by omega) hl rfl)⟩
end

section
open Go.RowKit

/-- **An iterator's contract**: things come one by one, each one allowed behind those that came, and what came in the end is whole. -/
def SeqSetK {α : Type} (vs : α → Array Value) (X : Nat → TypeId → Prop) (P : Program) (g : Nat) (lb : Array Value) (Pre : List α → α → Prop) (End : List α → Prop) (w : World) : Prop :=
  ∀ (n l : Nat) (J : List α → World → Prop) (W : World), KeepsK X w W → OwnFrom W.heap.size J →
    (∀ m pre x W1, J pre W1 → Pre pre x → YieldAt Fence.wide m P l (vs x) W1 fun e W' => e = .returned (.bool true) ∧ J (pre ++ [x]) W' ∧ KeepsK X W1 W') →
    J [] W →
    CallsIn Fence.wide n P g (#[.func (.yield l) #[] #[]] ++ lb) W fun e W' => (∃ v, e = .returned v) ∧ ∃ zs, End zs ∧ J zs W'

/-- How the body of a round may be left. -/
def rangeEndS {α : Type} (X : Nat → TypeId → Prop) (I : List α → World → Prop) (xs : List α) (W : World) : Exit → Act → World → Prop
  | .normal, _, W' => KeepsK X W W' ∧ I xs W'
  | _, _, _ => False

theorem range_ownS {α : Type} (vs : α → Array Value) {P : Program} {g : Operand} {ps : Array Tmp} {assign body : Code} {Q : Exit → Act → World → Prop} {a : Act} {w : World} {n : Nat} {X : Nat → TypeId → Prop}
    {gf : Nat} {lb : Array Value} (hg : a.eval g = .func (.func gf) #[] lb) (eg : ∀ args w, (callFunc gf args).run P w = .ok (.enter gf args) w)
    {Pre : List α → α → Prop} {End : List α → Prop} (hseq : SeqSetK vs X P gf lb Pre End w) (I : List α → World → Prop) (hI : OwnFrom w.heap.size I) (h0 : I [] w) (hsz : ∀ x, (vs x).size = ps.size) (a₁ : α → Act)
    (hassign : ∀ (l m : Nat) (x : α) (W : World) (K : Act → World → Prop), K (a₁ x) W →
      assign.wpIn (Fence.wide.inRound l) m P (Exit.then K (fun _ _ _ => False)) { tmps := (ps.zip (vs x)).foldl (fun t (q, v) => t.setIfInBounds q v) a.tmps, defers := [] } W)
    (hbody : ∀ (l m : Nat) (pre : List α) (x : α) (W : World), w.heap.size ≤ l → (∃ r, W.heap[l]? = some (.loop r)) → I pre W → Pre pre x → body.wpIn (Fence.wide.inRound l) m P (rangeEndS X I (pre ++ [x]) W) (a₁ x) W)
    (hdone : ∀ (D : Nat) (zs : List α) (W : World), w.heap.size ≤ D → End zs → I zs W → W.heap[D]? = some (.deferred (some [])) → Q .normal { a with defers := mark D :: a.defers } W) :
    (Code.rangeFunc g ps assign body).wpIn Fence.wide n P Q a w := by
  refine wpIn_rangeFunc ?_
  intro fn hfn
  obtain ⟨R, hR⟩ : ∃ R : LoopState → Option Code → Loop, R = fun st pe => { state := st, pending := pe, fn, tmps := a.tmps, params := ps, assign, body, defers := w.heap.size } := ⟨_, rfl⟩
  obtain ⟨V, hV⟩ : ∃ V, (w.alloc (.deferred (some []))).alloc (.loop (R .ready none)) = V := ⟨_, rfl⟩
  have vsz : V.heap.size = w.heap.size + 2 := by rw [← hV]; simp
  have vg : w.grownBy V none := by rw [← hV]; exact (World.grownBy_alloc _ _ _).trans (World.grownBy_alloc _ _ _)
  have vl : V.heap[w.heap.size + 1]? = some (.loop (R .ready none)) := by
    have h1 := World.alloc_heap_new (w.alloc (.deferred (some []))) (.loop (R .ready none))
    rw [World.size_alloc] at h1
    rw [← hV]; exact h1
  have vd : V.heap[w.heap.size]? = some (.deferred (some [])) := by
    rw [← hV]; exact (Below.heap_alloc _ _ _ (by simp)).trans (World.alloc_heap_new w _)
  refine ⟨w.heap.size + 1, [mark w.heap.size], V, { target := .fn (.func gf) lb, args := #[.func (.yield (w.heap.size + 1)) #[] #[]] }, V, gf, #[.func (.yield (w.heap.size + 1)) #[] #[]] ++ lb, V, ?_, ?_, ?_, ?_, ?_, ?_⟩
  · rw [← hV, hR]; exact run_enterLoop_outer _ _ _ _ _
  · simp only [resolve, hg]
    simp [go_sem]
  · intro _ _; trivial
  · simp [invoke, go_sem, eg]
  · intro h; cases h
  · -- what stands beside the invariant: the loop's record and the block of its mark
    have side : ∀ (st : LoopState) (pe : Option Code) (A B : World) (row : Option Nat), A.grownBy B row → (∀ r, row = some r → V.heap.size ≤ r ∧ ∃ o : Obj, A.heap[r]? = some o ∧ o.isCells = false) →
        A.heap[w.heap.size + 1]? = some (.loop (R st pe)) ∧ A.heap[w.heap.size]? = some (.deferred (some [])) → B.heap[w.heap.size + 1]? = some (.loop (R st pe)) ∧ B.heap[w.heap.size]? = some (.deferred (some [])) := fun st pe A B row hg' hr hs =>
      ⟨(hg'.block _ (Array.getElem?_eq_some_iff.1 hs.1).1 (fun e => by have := (hr _ e.symm).1; omega)).trans hs.1,
       (hg'.block _ (Array.getElem?_eq_some_iff.1 hs.2).1 (fun e => by have := (hr _ e.symm).1; omega)).trans hs.2⟩
    have hI2 : OwnFrom V.heap.size (fun pre W => I pre W ∧ W.heap[w.heap.size + 1]? = some (.loop (R .ready none)) ∧ W.heap[w.heap.size]? = some (.deferred (some []))) := fun s A B row hs hg' hr =>
      ⟨hI s A B row hs.1 hg' (fun r e => ⟨by have := (hr r e).1; omega, (hr r e).2⟩), side _ _ A B row hg' hr hs.2⟩
    refine (hseq _ (w.heap.size + 1) _ V (KeepsK.grown vg) hI2 ?_ ⟨hI [] w V none h0 vg (fun r e => by cases e), vl, vd⟩).mono ?_
    · rintro m pre x W ⟨hi, hl, hk⟩ hlen
      have hlt : w.heap.size + 1 < W.heap.size := (Array.getElem?_eq_some_iff.1 hl).1
      have hy := run_yield (P := P) (args := (vs x)) hl (by rw [hR]; exact hsz x)
      rw [hR] at hy
      refine ⟨fn, _, assign, body, hy, roundIn_of_wpIn hfn ?_⟩
      refine hassign _ _ x W _ ⟨_, run_beginRound hl (by rw [hR]), ?_⟩
      obtain ⟨Wb, hWb⟩ : ∃ Wb, W.putObj (w.heap.size + 1) (.loop { R .ready none with state := .busy }) = Wb := ⟨_, rfl⟩
      have hlb : Wb.heap[w.heap.size + 1]? = some (.loop { R .ready none with state := .busy }) := by rw [← hWb]; exact World.putObj_heap_same hlt
      have hkb : Wb.heap[w.heap.size]? = some (.deferred (some [])) := by rw [← hWb]; exact (World.putObj_heap_other (by omega)).trans hk
      have hib : I pre Wb := by rw [← hWb]; exact hI.putObj _ hi (by omega) hl rfl
      rw [hWb]
      refine wpIn_mono (hbody _ _ pre x Wb (by omega) ⟨_, hlb⟩ hib hlen) ?_
      have last : ∀ (jump : Option Code) (W3 : World), KeepsFrom w.heap.size Wb W3 →
          (Instr.endRound (w.heap.size + 1) jump).run P W3 = .ok (.bool jump.isNone) (W3.putObj (w.heap.size + 1) (.loop (R (if jump.isNone then .ready else .done) jump))) ∧
          W3.heap[w.heap.size + 1]? = some (.loop { R .ready none with state := .busy }) ∧ W3.heap[w.heap.size]? = some (.deferred (some [])) := fun jump W3 hk3 => by
        have h3 := hk3.same _ _ (by omega) hlb rfl
        have h4 := run_endRound (P := P) jump h3
        refine ⟨?_, h3, hk3.same _ _ (Nat.le_refl _) hkb rfl⟩
        rw [h4, hR]
      rintro e a3 W3 hp
      cases e with
      | normal =>
        obtain ⟨hk3, hi3⟩ := hp
        obtain ⟨hr, hl3, hd3⟩ := last none W3 (hk3.from _)
        have hlt3 := (Array.getElem?_eq_some_iff.1 hl3).1
        refine ⟨_, _, hr, rfl, ⟨hI.putObj _ hi3 (by omega) hl3 rfl, World.putObj_heap_same hlt3, (World.putObj_heap_other (by omega)).trans hd3⟩, ?_⟩
        rw [← hWb] at hk3
        exact KeepsK.round hl hk3
      | ret => exact hp.elim
      | exit id => exact hp.elim
      | goto t => exact hp.elim
      | panic ch => exact hp.elim
      | outgrown => exact hp.elim
    · rintro e W2 ⟨⟨v, rfl⟩, zs, hend, hi, hl, hk⟩
      have h5 := run_endLoop (P := P) hl (by rw [hR]; simp)
      exact ⟨none, _, by rw [h5, hR], hdone _ zs _ (Nat.le_refl _) hend (hI.putObj _ hi (by omega) hl rfl) ((World.putObj_heap_other (by omega)).trans hk)⟩
end
end

/- SortW -/
section
section
open Go.RowKit Go.Maps Go.Shelf
attribute [local go_sem] Oper.semAt_some

/-- A list has each variable of a set once. -/
def SetOf (f : Int → Bool) (ss : List Int) : Prop := ss.Nodup ∧ ∀ x, x ∈ ss ↔ (0 ≤ x ∧ x ≤ 255 ∧ f x = true)
def SetPre (f : Int → Bool) (pre : List Int) (x : Int) : Prop := (pre ++ [x]).Nodup ∧ (∀ y ∈ pre ++ [x], 0 ≤ y ∧ y ≤ 255 ∧ f y = true)
def byV (x : Int) : Array Value := #[.int .u8 x]
/-- What came, while some are left. -/
def CollV (D : DataW Unit) (left : Lit → Bool) (ss : List Int) : Prop := ss.Nodup ∧ (∀ x ∈ ss, 0 ≤ x ∧ x ≤ 255) ∧ ∀ x, 0 ≤ x → x ≤ 255 → (x ∈ ss ↔ (has D (.int .u8 x) = true ∧ left (.int .u8 x) = false))
theorem CollV.start (D : DataW Unit) : CollV D (has D) [] := ⟨List.nodup_nil, by simp, fun x _ _ => by cases has D (.int .u8 x) <;> simp⟩
theorem CollV.step {D : DataW Unit} {left : Lit → Bool} {ss : List Int} (h : CollV D left ss) {x : Int} {y : DataW Unit} (h0 : 0 ≤ x) (h1 : x ≤ 255) (hlk : left (.int .u8 x) = true) (hat : ∀ zd, D.atKey (.int .u8 x) zd = y) :
    CollV D (fun z => left z && !z.sameKey (.int .u8 x)) (ss ++ [x]) ∧ x ∉ ss ∧ has D (.int .u8 x) = true := by
  have hhas : has D (.int .u8 x) = true := has_true_of_atKey hat
  have hnew : x ∉ ss := fun hx => by have := ((h.2.2 x h0 h1).1 hx).2; rw [hlk] at this; cases this
  refine ⟨⟨List.nodup_append.2 ⟨h.1, by simp, fun a ha b hb => by simp at hb; subst hb; exact fun e => hnew (e ▸ ha)⟩, fun z hz => ?_, fun z hz0 hz1 => ?_⟩, hnew, hhas⟩
  · rcases List.mem_append.1 hz with hz | hz
    · exact h.2.1 z hz
    · simp at hz; subst hz; exact ⟨h0, h1⟩
  · by_cases hz : z = x
    · subst hz; simp [hhas, Lit.sameKey]
    · simp [h.2.2 z hz0 hz1, hz, Lit.sameKey]
theorem keyV_inv {key : Value} {kl : Lit} (h : keyOf Tryz.prog 51 key = some kl) : ∃ x : Int, key = .int .u8 x ∧ kl = .int .u8 x ∧ (Lit.int .u8 x).wf = true := by
  cases key <;> simp [keyOf, Tryz.underlying51, mapKey] at h
  rename_i q a
  obtain ⟨⟨rfl, hw⟩, rfl⟩ := h
  exact ⟨a, rfl, rfl, hw⟩
theorem wf_u8 {x : Int} (h : (Lit.int .u8 x).wf = true) : 0 ≤ x ∧ x ≤ 255 := by
  simp [Lit.wf, IntKind.min, IntKind.max, IntKind.signed, IntKind.bits] at h
  omega
theorem VSet.keep {w w' : World} {X : Nat → TypeId → Prop} {b m : Nat} {D : DataW Unit} {k : TypeId} {R : Value → Option (DataW Unit × List MemPlace)} (h : w.ownsMap Tryz.prog k R b m D) (hk : KeepsK X w w') : w'.ownsMap Tryz.prog k R b m D := by
  obtain ⟨es, clock, hb, h1, h2, h3⟩ := h
  exact ⟨es, clock, hk.same _ _ hb (fun xs t m e => by cases e), h1, h2, h3⟩

theorem KeepsK.walks {X : Nat → TypeId → Prop} {W W' : World} (h : KeepsK X W W') : KeepsWalks W W' :=
  ⟨h.size, fun k o hk ho => h.same k o hk (fun xs t m e => by subst e; simp [Obj.isWalk] at ho)⟩

set_option maxRecDepth 100000 in
set_option maxHeartbeats 2000000 in
theorem keys_iter (X : Nat → TypeId → Prop) (bm b m : Nat) (f : Int → Bool) (w : World) (hs : VSet w b m f) (hbox : w.heap[bm]? = some (.cells #[.map (some b)] 69 (0, 0))) (hX : ¬ X bm 69) :
    SeqSetK byV X Tryz.prog 54 #[.pointer (some ⟨bm, 0, none⟩)] (SetPre f) (SetOf f) w := by
  intro n l J W hW hJ hY h0
  obtain ⟨D, ho0, hr⟩ := hs
  have hb1 := hW.cell hbox hX
  have hc : W.cell? ⟨bm, 0, none⟩ = some (.map (some b)) := by simp [World.cell?, hb1]
  have ho : W.ownsMap Tryz.prog 51 (plainElem Tryz.prog 4) b m D := VSet.keep ho0 hW
  have HY := Lib.hid hY
  have HR := Lib.hid hr
  show CallsIn Fence.wide n Tryz.prog _ #[.func (.yield l) #[] #[], .pointer (some ⟨bm, 0, none⟩)] W _
  refine callsIn_of_wp Tryz.func54 rfl trivial ?_ rfl
  simp only [Tryz.ntmps54, List.size_toArray, List.length_cons, List.length_nil, Nat.reduceAdd, Nat.reduceSub, Array.replicate_succ, Array.replicate_zero, List.push_toArray, List.append_toArray, List.nil_append, List.cons_append]
  clear hY hr hbox hb1 hW ho0
  gi_wp2_with (first
    | (gi_at_range; refine wpListIn_range_own _ rfl _ 69 rfl 51 4 keyedV Tryz.underlying69 _ b m _ rfl ho ?_; intro w0 hrg0 hg0 hs0)
    | gi_in)
  go_frame
  gi_loopw [3] (fun _ wr => ∃ (left : Lit → Bool) (cnt : Nat) (ss : List Int), wr.ranges Tryz.prog 51 (plainElem Tryz.prog 4) b W.heap.size m D left cnt ∧ CollV D left ss ∧ J ss wr)
    (fun _ wr => wr.rangeLeft b W.heap.size)
  case atStart =>
    exact ⟨_, _, [], hrg0, CollV.start D, hJ [] W w0 none h0 hg0 (fun r e => by cases e)⟩
  case round =>
    obtain ⟨left, cnt, ss, hrg, hC, hJs⟩ := hrel
    gi_wp2_with (first
      | (gi_at_next; refine wpListIn_next_ranges _ rfl _ rfl 51 keyedV (plainElem Tryz.prog 4) (Value.int .u8) id (fun key kl hk => by obtain ⟨x, hx, _⟩ := keyV_inv hk; exact ⟨x, hx⟩) (fun v _ _ => ⟨v, rfl⟩) b W.heap.size m _ _ _ rfl hrg ?_ ?_)
      | gi_in)
    · intro hc0 hl0
      gi_wp2
      go_end0
      refine ⟨⟨_, rfl⟩, ss, ⟨hC.1, fun x => ⟨fun hx => ?_, fun hx => ?_⟩⟩, hJs⟩
      · have hb := hC.2.1 x hx
        have := ((hC.2.2 x hb.1 hb.2).1 hx).1
        rw [(HR.out x hb.1 hb.2).1] at this
        exact ⟨hb.1, hb.2, this⟩
      · exact (hC.2.2 x hx.1 hx.2.1).2 ⟨by rw [(HR.out x hx.1 hx.2.1).1]; exact hx.2.2, hl0 _⟩
    · intro x c kl yd yp w2 cnt2 hkey hlk hv hat hrg2 hlt hg2 hs2 hen
      obtain ⟨x', ex, rfl, hwf⟩ := keyV_inv hkey
      cases ex
      obtain ⟨hx0, hx1⟩ := wf_u8 hwf
      obtain ⟨hC2, hnew, hhas⟩ := hC.step hx0 hx1 hlk hat
      have hpre : SetPre f ss x := ⟨hC2.1, fun z hz => by
        have hb := hC2.2.1 z hz
        have := ((hC2.2.2 z hb.1 hb.2).1 hz).1
        rw [(HR.out z hb.1 hb.2).1] at this
        exact ⟨hb.1, hb.2, this⟩⟩
      have hJ2 : J ss w2 := hJ ss wr w2 (some W.heap.size) hJs hg2 (fun r e => by cases e; obtain ⟨o, ho, how⟩ := hrg.iter_walk; exact ⟨Nat.le_refl _, o, ho, by cases o <;> first | rfl | (simp [Obj.isWalk] at how)⟩)
      have hyd := HY.out (n - 1) ss x w2 hJ2 hpre
      unfold byV at hyd
      obtain ⟨fn, tmps, assign, body, hy, hRd⟩ := hyd
      gi_wp2_with (refine ⟨fun h => (by cases h), ?_⟩; refine hRd.mono ?_; clear hRd; rintro e W3 ⟨rfl, hJ3, hk3⟩)
      have hrg3 := hrg2.of_walks hk3.walks
      go_roundw
      case rel => exact ⟨_, cnt2, ss ++ [x], hrg3, hC2, hJ3⟩
      case measure => rw [hrg3.left_eq, hrg.left_eq]; exact hlt
end

section
open Go.RowKit Go.Shelf
attribute [local go_sem] Oper.semAt_some

abbrev TV : TypeId := 51
abbrev TSV : TypeId := 64
theorem infoV : (Tryz.prog.info? TV).map (fun i => (i.zero, i.size, i.bytes)) = some (some (.int .u8 0), 1, 1) := by kernel_rfl
def varV (ss : List Int) : List Value := ss.map (Value.int .u8)

theorem nodup_le : ∀ (m l : List Int), l.Nodup → (∀ x ∈ l, x ∈ m) → l.length ≤ m.length
  | [], l, _, h => by
    cases l with
    | nil => simp
    | cons a l => exact absurd (h a (by simp)) (by simp)
  | a :: m, l, hn, h => by
    have h1 : (l.filter fun x => x != a).length ≤ m.length := nodup_le m _ (hn.filter _) (fun x hx => by
      obtain ⟨hx1, hx2⟩ := List.mem_filter.1 hx
      have := h x hx1
      rcases List.mem_cons.1 this with e | e
      · subst e; simp at hx2
      · exact e)
    have h2 : l.length ≤ (l.filter fun x => x != a).length + 1 := by
      clear h1 h
      induction l with
      | nil => simp
      | cons b l ih =>
        obtain ⟨hb, hl⟩ := List.nodup_cons.1 hn
        by_cases e : b = a
        · subst e
          have : l.filter (fun x => x != b) = l := List.filter_eq_self.2 (fun x hx => by simp; intro e; subst e; exact hb hx)
          simp [this]
        · have := ih hl
          simp [e]; omega
    simp only [List.length_cons]; omega

theorem makeFunc_runV (fn : Fn) (first cap : Array Value) (w : World) : (Instr.makeFunc fn first cap).run Tryz.prog w = .ok (.func fn first cap) w := rfl

theorem keysmake (b : Nat) (w : World) : Calls Tryz.prog 35 #[.map (some b)] w fun e w' =>
    e = .returned (.func (.func 54) #[] #[.pointer (some ⟨w.heap.size, 0, none⟩)]) ∧ w' = w.alloc (.cells #[.map (some b)] 69) := by
  have hmf := @makeFunc_runV
  go_enter Tryz.func35, Tryz.ntmps35
  go_wp2_with fail
  go_ret
  exact ⟨rfl, rfl⟩

theorem keeps_rowV {X : Nat → TypeId → Prop} {V V' : World} {base e size n : Nat} {v : Value} {xs : List Value} (h : V.ownsRow base e size v n xs) (he : ∀ k, base ≤ k → X k e) (hg : V.grownBy V' v.ownBlock) : KeepsK X V V' := by
  rcases h.2 with ⟨rfl, _⟩ | ⟨g, cap, cur, rfl, hb, hgb, _⟩
  · exact KeepsK.grown hg
  · exact KeepsK.grownX hg hgb (he g hb)
theorem gr_rowV {w w1 w2 : World} {row : Option Nat} (h : w.grownBy w1 none) (h2 : w1.grownBy w2 row) (hr : ∀ k, row = some k → w.heap.size ≤ k) : w.grownBy w2 none :=
  ⟨h2.os.trans h.os, h2.tape.trans h.tape, h2.output.trans h.output, Nat.le_trans h.size h2.size, fun k hk hn => (h2.block k (Nat.lt_of_lt_of_le hk h.size) (fun e => by have := hr k e.symm; omega)).trans (h.block k hk hn)⟩

/-- What a round writes: the box of the list and the list's rows. -/
def collV (g : Nat) (k : Nat) (t : TypeId) : Prop := (t = TV ∧ g + 1 ≤ k) ∨ (t = TSV ∧ k = g)

set_option maxRecDepth 100000 in
set_option maxHeartbeats 4000000 in
theorem appseqV (bm b m : Nat) (f : Int → Bool) (w : World) (hs : VSet w b m f) (hf : ∀ x, f x = true → x ∈ ([97, 98, 118, 119, 120, 121, 122] : List Int)) (hbm : w.heap[bm]? = some (.cells #[.map (some b)] 69 (0, 0))) :
    Calls Tryz.prog 76 #[.slice none 0 0, .func (.func 54) #[] #[.pointer (some ⟨bm, 0, none⟩)]] w fun e w' =>
      ∃ sv ss, e = .returned sv ∧ SetOf f ss ∧ w.grownBy w' none ∧ w'.ownsRow w.heap.size TV 1 sv ss.length (varV ss) := by
  obtain ⟨i0, hi0, hz0, hz1, hz2⟩ := info_parts infoV
  obtain ⟨g, hg⟩ : ∃ g, w.heap.size = g := ⟨_, rfl⟩
  obtain ⟨W1, hW1⟩ : ∃ W1, w.alloc (.cells #[.slice none 0 0] TSV) = W1 := ⟨_, rfl⟩
  have s1 : W1.heap.size = g + 1 := by rw [← hW1]; simp [hg]
  have g1 : w.grownBy W1 none := by rw [← hW1]; exact World.grownBy_alloc _ _ _
  obtain ⟨X, hX⟩ : ∃ X, collV g = X := ⟨_, rfl⟩
  have b1 : Boxed W1 g TSV (.slice none 0 0) := by
    rw [← hW1, ← hg]
    exact Boxed.new w _ _
  have hll := (Array.getElem?_eq_some_iff.1 hbm).1
  have b2 : W1.heap[bm]? = some (.cells #[.map (some b)] 69 (0, 0)) := (g1.block bm hll (by simp)).trans hbm
  have hseq := Lib.hid (keys_iter X bm b m f W1 (hs.grown g1 (by simp)) b2 (by rw [← hX]; rintro (⟨e, _⟩ | ⟨e, _⟩) <;> exact absurd e (by decide)))
  have HB1 := Lib.hid b1
  have HG1 := Lib.hid g1
  have HX := Lib.hid hX
  have HW := Lib.hid hW1
  have HF := Lib.hid hf
  have HSS := Lib.hid (show W1.heap.size = g + 1 ∧ w.heap.size = g from ⟨s1, hg⟩)
  have HGH := Lib.hid hg
  clear hs hf hbm hg hW1 s1 g1 hX b1 hll b2
  refine (callsIn_wide (n := 3)).1 ?_
  refine callsIn_of_wp_marks Tryz.func76 rfl trivial ?_ rfl
  simp only [Tryz.ntmps76, List.size_toArray, List.length_cons, List.length_nil, Nat.reduceAdd, Nat.reduceSub, Array.replicate_succ, Array.replicate_zero, List.push_toArray, List.append_toArray, List.nil_append, List.cons_append]
  gi_wp2
  rw [HW.out]
  simp only [HGH.out]
  clear HW
  refine range_ownS byV (X := X) (Pre := SetPre f) (End := SetOf f) (gf := 54) (lb := #[.pointer (some ⟨bm, 0, none⟩)]) rfl (enters_of Tryz.func54 (by kernel_rfl) rfl) hseq.out
    (fun pre V => (∃ v, Boxed V g TSV v ∧ V.ownsRow (g + 1) TV 1 v pre.length (pre.map (Value.int .u8)) ∧ True) ∧ w.grownBy V none) ?hI ?h0 (fun _ => rfl)
    (fun x => { tmps := #[.slice none 0 0, .func (.func 54) #[] #[.pointer (some ⟨bm, 0, none⟩)], .pointer (some ⟨g, 0, none⟩), undef, .slice none 0 0, .int .u8 x,
          .func (.func 54) #[] #[.pointer (some ⟨bm, 0, none⟩)], .int .u8 x, undef, undef, undef, undef, undef], defers := [] }) ?assign ?body ?done
  case hI => exact OwnFrom.and (Own.from (holdsRow_own (g + 1) g TSV TV 1 (fun pre : List Int => pre.length) (fun pre => pre.map (Value.int .u8)) (fun _ _ => True)) _) (fun s A C row hs hg hr => gr_rowV hs hg (fun k e => by have h1 := (hr k e).1; have h2 := HSS.out; omega))
  case h0 => exact ⟨⟨_, HB1.out, by simpa using World.ownsRow_nil _ _ _ _, trivial⟩, HG1.out⟩
  case assign =>
    intro l m x V K hK
    simp only [byV]
    gi_wp2
    exact hK
  case body =>
    rintro l1 m1 pre x V hl1 hr1 ⟨⟨v, hv, hrow, _⟩, hG⟩ hpre
    have hszV : g + 1 ≤ V.heap.size := by obtain ⟨r, hr⟩ := hr1; have h1 := (Array.getElem?_eq_some_iff.1 hr).1; have := HSS.out; omega
    have hpl : pre.length < 400 := by
      have h1 := nodup_le _ _ hpre.1 (fun y hy => HF.out y (hpre.2 y hy).2.2)
      simp only [List.length_append, List.length_cons, List.length_nil] at h1
      omega
    have hc := hv.cell
    have HC := Lib.hid (cell_one_new V (.int .u8 x) TV)
    gi_wp2_with (gi_at_builtin; refine wpListIn_append_own _ rfl _ _ TSV rfl (g + 1) TV i0 (.int .u8 0) 1 1 Tryz.underlying64 hi0 hz0 hz1 hz2 rfl (by decide) v pre.length _ rfl (hrow.alloc _) ⟨V.heap.size, 0, none⟩ 1 1 [.int .u8 x] rfl rfl HC.out (by simp [Value.oneCell']) (by simp only [maxLen]; omega) (by omega) (by simp; omega) ?_; intro v' w1 hown' hgrow _; obtain ⟨g', cap', rfl⟩ := ownsRow_succ hown'; have hv1 : Boxed w1 g TSV v := Boxed.kept (hv.alloc _) hgrow (hv.not_row (by decide) hrow); have hc1 := hv1.cell; have hf1 := hv1.frozen)
    have hrow3 := hown'.kept (grownBy_setCell' w1 g (.slice (some ⟨g', 0, none⟩) (pre.length + 1) cap')) (.inr (hv1.not_row (by decide) hown').symm)
    have ka : KeepsK X V (V.alloc (.cells #[.int .u8 x] TV)) := KeepsK.alloc _ _
    have kb : KeepsK X (V.alloc (.cells #[.int .u8 x] TV)) w1 := keeps_rowV (hrow.alloc _) (fun k hk => by rw [← HX.out]; exact .inl ⟨rfl, hk⟩) hgrow
    have kc : KeepsK X w1 (w1.setCell ⟨g, 0, none⟩ (.slice (some ⟨g', 0, none⟩) (pre.length + 1) cap')) := KeepsK.grownX (grownBy_setCell' w1 g _) hv1 (by rw [← HX.out]; exact .inr ⟨rfl, rfl⟩)
    refine ⟨(ka.trans kb).trans kc, ⟨_, hv1.set _, ?_, trivial⟩, ?_⟩
    · rw [List.length_append, List.length_singleton, List.map_append, List.map_singleton]
      exact hrow3
    · have hlow := HSS.out
      refine gr_rowV (gr_rowV (hG.trans (World.grownBy_alloc V _ none)) hgrow (fun k hk => by have := (hrow.lt k hk).1; omega)) (grownBy_setCell' w1 g _) (fun k e => by cases e; omega)
  case done =>
    rintro Dm ss V hD' hend ⟨⟨v, hv, hrow, _⟩, hG⟩ hK
    have hc := hv.cell
    gi_wp2
    refine ⟨by simp, .inl ⟨_, _, rfl, run_takeDeferred hK, ?_⟩⟩
    have h3 := own_base (base' := w.heap.size) (ownsRow_putObj hrow (.deferred none) hK rfl) (by have := HSS.out; omega)
    have hgl : w.grownBy (V.putObj Dm (.deferred none)) none := gr_rowV hG (grownBy_putObj' V Dm _) (fun k e => by have := HSS.out; cases e; omega)
    refine ⟨v, by simp [results, Tryz.results76, go_sem], v, ss, rfl, hend, hgl, h3⟩

set_option maxHeartbeats 1000000 in
theorem collectV (bm b m : Nat) (f : Int → Bool) (w : World) (hs : VSet w b m f) (hf : ∀ x, f x = true → x ∈ ([97, 98, 118, 119, 120, 121, 122] : List Int)) (hbm : w.heap[bm]? = some (.cells #[.map (some b)] 69 (0, 0))) :
    Calls Tryz.prog 52 #[.func (.func 54) #[] #[.pointer (some ⟨bm, 0, none⟩)]] w fun e w' =>
      ∃ sv ss, e = .returned sv ∧ SetOf f ss ∧ w.grownBy w' none ∧ w'.ownsRow w.heap.size TV 1 sv ss.length (varV ss) := by
  have HS := Lib.hid (appseqV bm b m f w hs hf hbm)
  clear hs hf hbm
  go_enter Tryz.func52, Tryz.ntmps52
  go_wp2_with fail
  refine HS.out.mono ?_
  rintro e w1 ⟨sv, ss, rfl, h1, h2, h3⟩
  have HP := Lib.hid (And.intro h1 (And.intro h2 h3))
  clear h1 h2 h3
  go_wp2_with fail
  go_ret
  exact ⟨sv, ss, rfl, HP.out.1, HP.out.2.1, HP.out.2.2⟩
end

section
open Go.RowKit

def leV (l : List Int) : Prop := l.Pairwise (· ≤ ·)
theorem leV_in {P Q : List Int} {x : Int} (h : leV (P ++ Q)) (h1 : ∀ y ∈ P, y ≤ x) (h2 : ∀ y ∈ Q, x ≤ y) : leV (P ++ x :: Q) := by
  obtain ⟨hp, hq, hpq⟩ := List.pairwise_append.1 h
  refine List.pairwise_append.2 ⟨hp, List.pairwise_cons.2 ⟨h2, hq⟩, fun a ha b hb => ?_⟩
  rcases List.mem_cons.1 hb with rfl | hb
  · exact h1 a ha
  · exact hpq a ha b hb
theorem leV_last {P Q : List Int} {y : Int} (h : leV (P ++ [y] ++ Q)) : ∀ z ∈ P, z ≤ y := fun z hz => by
  have := (List.pairwise_append.1 (List.pairwise_append.1 h).1).2.2 z hz y (by simp)
  exact this
theorem leV_one : ∀ {l k : List Int}, leV l → leV k → l.Perm k → l = k
  | [], k, _, _, hp => (List.nil_perm.1 hp).symm
  | x :: l, k, h1, h2, hp => by
    cases k with
    | nil => exact List.perm_nil.1 hp
    | cons y k =>
      obtain ⟨hx, h3⟩ := List.pairwise_cons.1 h1
      obtain ⟨hy, h4⟩ := List.pairwise_cons.1 h2
      have e : x = y := by
        have g1 : x ∈ y :: k := hp.subset List.mem_cons_self
        have g2 : y ∈ x :: l := hp.symm.subset List.mem_cons_self
        rcases List.mem_cons.1 g1 with e | g1
        · exact e
        · rcases List.mem_cons.1 g2 with e | g2
          · exact e.symm
          · have a1 := hx y g2
            have a2 := hy x g1
            omega
      subst e
      exact congrArg (x :: ·) (leV_one h3 h4 ((List.perm_cons x).1 hp))

theorem varV_at {L : List Int} {j : Nat} {x : Int} (h : L[j]? = some x) : (varV L)[j]? = some (.int .u8 x) := by simp [varV, h]
theorem mid_at (P Q : List Int) (x : Int) {p : Nat} (h : P.length = p) : (P ++ x :: Q)[p]? = some x := by
  rw [List.getElem?_append_right (by omega), h, Nat.sub_self]; rfl
theorem mid_set (P Q : List Int) (x y : Int) {p : Nat} (h : P.length = p) : (P ++ x :: Q).set p y = P ++ y :: Q := by
  subst h
  simp [List.set_append_right]

theorem isnanV (x : Int) (w : World) : Calls Tryz.prog 116 #[.int .u8 x] w fun e w' => e = .returned (.bool false) ∧ w' = w := by
  go_enter Tryz.func116, Tryz.ntmps116
  go_wp2_with fail
  go_ret
  exact ⟨rfl, rfl⟩
theorem lessV (x y : Int) (w : World) : Calls Tryz.prog 92 #[.int .u8 x, .int .u8 y] w fun e w' => e = .returned (.bool (decide (x < y))) ∧ w' = w := by
  have H := Lib.hid isnanV
  go_enter Tryz.func92, Tryz.ntmps92
  go_wp2_with fail
  refine (H.out _ _).mono ?_
  rintro e w1 ⟨rfl, rfl⟩
  go_wp2_with fail
  go_ret
  exact ⟨rfl, rfl⟩

set_option maxRecDepth 100000 in
set_option maxHeartbeats 8000000 in
theorem insV (B g n cap : Nat) (L : List Int) (w : World) (ho : w.ownsRow B TV 1 (.slice (some ⟨g, 0, none⟩) n cap) n (varV L)) (hn : L.length = n) (hn0 : 0 < n) (hn2 : n ≤ 400) :
    Calls Tryz.prog 86 #[.slice (some ⟨g, 0, none⟩) n cap, .int .i64 0, .int .i64 (n : Int)] w fun e w' => e = .returned (.tuple #[]) ∧ ∃ M : List Int, M.Perm L ∧ leV M ∧ w'.ownsRow B TV 1 (.slice (some ⟨g, 0, none⟩) n cap) n (varV M) ∧ w.grownBy w' (some g) := by
  have HN := Lib.hid hn
  have H0 : Hid (∃ S R, S.length = 1 ∧ leV S ∧ (S ++ R).Perm L ∧ w.ownsRow B TV 1 (.slice (some ⟨g, 0, none⟩) n cap) n (varV (S ++ R))) := Lib.hid (by
    cases L with
    | nil => simp at hn; omega
    | cons x L => exact ⟨[x], L, rfl, by simp [leV], List.Perm.refl _, ho⟩)
  have HL := Lib.hid lessV
  clear ho hn
  go_enter Tryz.func86, Tryz.ntmps86
  go_wp2_with fail
  go_loopw [6] (fun i wr => ∃ t : Nat, 1 ≤ t ∧ t ≤ n ∧ i = .int .i64 (t : Int) ∧ Hid (∃ S R, S.length = t ∧ leV S ∧ (S ++ R).Perm L ∧ wr.ownsRow B TV 1 (.slice (some ⟨g, 0, none⟩) n cap) n (varV (S ++ R))) ∧ Hid (w.grownBy wr (some g))) (fun i _ => n - (intOf i).toNat)
  case atStart => exact ⟨1, Nat.le_refl _, by omega, rfl, H0, Lib.hid (gr_refl _ _)⟩
  case round =>
    obtain ⟨t, ht1, ht2, rfl, hS, hgr⟩ := hrel
    by_cases hlt : t < n
    · have HI : Hid (∃ (P : List Int) (x : Int) (Q R : List Int), P.length = t ∧ Q.length = t - t ∧ leV (P ++ Q) ∧ (∀ y ∈ Q, x ≤ y) ∧ (P ++ x :: (Q ++ R)).Perm L ∧ wr.ownsRow B TV 1 (.slice (some ⟨g, 0, none⟩) n cap) n (varV (P ++ x :: (Q ++ R)))) := Lib.hid (by
        obtain ⟨S, R, h1, h2, h3, h4⟩ := hS.out
        cases R with
        | nil => have := h3.length_eq; rw [List.append_nil, h1, HN.out] at this; omega
        | cons x R => exact ⟨S, x, [], R, h1, by simp, by simpa using h2, by simp, by simpa using h3, by simpa using h4⟩)
      clear hS
      go_wp2_with fail
      go_loopw [7] (fun j wr => ∃ p : Nat, j = .int .i64 (p : Int) ∧ p ≤ t ∧ Hid (∃ (P : List Int) (x : Int) (Q R : List Int), P.length = p ∧ Q.length = t - p ∧ leV (P ++ Q) ∧ (∀ y ∈ Q, x ≤ y) ∧ (P ++ x :: (Q ++ R)).Perm L ∧ wr.ownsRow B TV 1 (.slice (some ⟨g, 0, none⟩) n cap) n (varV (P ++ x :: (Q ++ R)))) ∧ Hid (w.grownBy wr (some g))) (fun j _ => (intOf j).toNat)
      case atStart => exact ⟨t, rfl, Nat.le_refl _, HI, hgr⟩
      case round =>
        clear hgr HI
        obtain ⟨p, rfl, hpt, hst, hgr⟩ := hrel
        by_cases hp0 : p = 0
        · subst hp0
          have HE : Hid (∃ S R, S.length = t + 1 ∧ leV S ∧ (S ++ R).Perm L ∧ wr.ownsRow B TV 1 (.slice (some ⟨g, 0, none⟩) n cap) n (varV (S ++ R))) := Lib.hid (by
            obtain ⟨P, x, Q, R, h1, h2, h3, h4, h5, h6⟩ := hst.out
            obtain rfl := List.eq_nil_of_length_eq_zero h1
            exact ⟨x :: Q, R, by simp; omega, leV_in (P := []) h3 (by simp) h4, by simpa using h5, by simpa using h6⟩)
          clear hst
          go_wp2_with fail
          go_quiet (fail)
          go_wp2_with fail
          go_roundw
          case rel => exact ⟨t + 1, by omega, by omega, by go_num, Lib.hid (by obtain ⟨S, R, h1, h2, h3, h4⟩ := HE.out; exact ⟨S, R, h1, h2, h3, own_keep h4 (fun _ _ => rfl)⟩), Lib.hid (hgr.out.trans (gr_drewN _ _ _))⟩
          case measure => simp [intOf]; omega
        · obtain ⟨q, rfl⟩ : ∃ q, p = q + 1 := ⟨p - 1, by omega⟩
          obtain ⟨P, x, Q, R, h1, h2, h3, h4, h5, h6⟩ := hst.out
          obtain ⟨P', y, rfl⟩ : ∃ P' y, P = P' ++ [y] := by
            have hne : P ≠ [] := fun h => by rw [h] at h1; simp at h1
            exact ⟨P.dropLast, P.getLast hne, (List.dropLast_concat_getLast hne).symm⟩
          have hq : P'.length = q := by simpa using h1
          have hlen := h5.length_eq
          rw [HN.out] at hlen
          simp only [List.length_append, List.length_cons, List.length_nil] at hlen
          have c1 : wr.cell? ⟨g, q + 1, none⟩ = some (.int .u8 x) := (h6.cellAt (q + 1) (by omega)).trans (varV_at (mid_at _ _ x h1))
          have c2 : wr.cell? ⟨g, q, none⟩ = some (.int .u8 y) := (h6.cellAt q (by omega)).trans (varV_at (by rw [List.append_assoc]; exact mid_at _ _ y hq))
          have H6 := Lib.hid h6
          have H3 := Lib.hid h3
          have H4 := Lib.hid h4
          have H5 := Lib.hid h5
          have H2 := Lib.hid h2
          have HQ := Lib.hid hq
          have HQ1 := Lib.hid h1
          have hq1 : (((q + 1 : Nat) : Int)) = (q : Int) + 1 := by omega
          have hqn : q + 1 < n := by omega
          clear h1 h2 h3 h4 h5 h6 hst hq hlen
          by_cases hxy : x < y
          · have hxd : decide (x < y) = true := by simp [hxy]
            go_wp2_with fail
            go_quiet (first | (go_at_call 92; refine Calls.quiet_of_same (lessV x y _)))
            go_wp2_with fail
            generalize hwd : wr.drewN nq = wd
            have ho : wd.ownsRow B TV 1 (.slice (some ⟨g, 0, none⟩) n cap) n (varV (P' ++ [y] ++ x :: (Q ++ R))) := by rw [← hwd]; exact own_keep H6.out (fun _ _ => rfl)
            have d1 : wd.cell? ⟨g, q + 1, none⟩ = some (.int .u8 x) := by rw [← hwd]; exact c1
            have d2 : wd.cell? ⟨g, q, none⟩ = some (.int .u8 y) := by rw [← hwd]; exact c2
            have HG5 := Lib.hid (hgr.out.trans (show wr.grownBy wd (some g) by rw [← hwd]; exact gr_drewN _ _ _))
            have f1 := ho.frozenAt (q + 1)
            have f2 := ho.frozenAt q
            have hne : q + 1 ≠ q := by omega
            have hne2 : q ≠ q + 1 := by omega
            have h1 := ho.stored (q + 1) (.int .u8 y)
            have h2 := h1.1.stored q (.int .u8 x)
            have hset : ((varV (P' ++ [y] ++ x :: (Q ++ R))).set (q + 1) (.int .u8 y)).set q (.int .u8 x) = varV (P' ++ x :: (y :: Q ++ R)) := by
              unfold varV
              rw [← List.map_set, ← List.map_set, mid_set _ _ _ _ HQ1.out, List.append_assoc]
              exact congrArg _ (mid_set P' (y :: (Q ++ R)) y x HQ.out)
            rw [hset] at h2
            have HST := Lib.hid (And.intro h2.1 (h1.2.trans h2.2))
            have HP : Hid ((P' ++ x :: (y :: Q ++ R)).Perm L) := Lib.hid (by
              refine List.Perm.trans ?_ H5.out
              rw [List.append_assoc]
              exact List.Perm.append_left P' (List.Perm.swap y x (Q ++ R)))
            clear h1 h2 ho hset hwd c1 c2
            go_region
            all_goals
              go_wp2_with fail
              go_roundw
              case rel => exact ⟨q, by go_num, by omega, Lib.hid ⟨P', x, y :: Q, R, HQ.out, by have := H2.out; simp; omega, by simpa using H3.out, fun z hz => by
                rcases List.mem_cons.1 hz with rfl | hz
                · omega
                · exact H4.out z hz, HP.out, own_keep HST.out.1 (fun _ _ => rfl)⟩, Lib.hid ((HG5.out.trans HST.out.2).trans (gr_drewN _ _ _))⟩
              case measure => first | (simp [intOf]; done) | (simp [intOf]; omega)
          · have hxd : decide (x < y) = false := by simp [hxy]
            have HE : Hid (∃ S R, S.length = t + 1 ∧ leV S ∧ (S ++ R).Perm L ∧ wr.ownsRow B TV 1 (.slice (some ⟨g, 0, none⟩) n cap) n (varV (S ++ R))) := Lib.hid
              ⟨P' ++ [y] ++ x :: Q, R, by have := HQ.out; have := H2.out; simp; omega, leV_in H3.out (fun z hz => by
                rcases List.mem_append.1 hz with hz | hz
                · have := leV_last H3.out z hz; omega
                · simp at hz; omega) H4.out, by simpa using H5.out, by simpa using H6.out⟩
            go_wp2_with fail
            go_quiet (first | (go_at_call 92; refine Calls.quiet_of_same (lessV x y _)))
            go_wp2_with fail
            go_roundw
            case rel => exact ⟨t + 1, by omega, by omega, by go_num, Lib.hid (by obtain ⟨S, R, h1, h2, h3, h4⟩ := HE.out; exact ⟨S, R, h1, h2, h3, own_keep h4 (fun _ _ => rfl)⟩), Lib.hid (hgr.out.trans (gr_drewN _ _ _))⟩
            case measure => simp [intOf]; omega
    · have hjn : t = n := by omega
      have HJ := Lib.hid hjn
      clear hjn
      go_wp2_with fail
      go_end0
      obtain ⟨S, R, h1, h2, h3, h4⟩ := hS.out
      have hR : R = [] := by
        have := h3.length_eq
        rw [List.length_append, h1, HN.out, HJ.out] at this
        exact List.eq_nil_of_length_eq_zero (by omega)
      subst hR
      rw [List.append_nil] at h3 h4
      exact ⟨rfl, S, h3, h2, h4, hgr.out⟩
end

section
open Go.RowKit Go.Shelf

set_option maxRecDepth 100000 in
set_option maxHeartbeats 2000000 in
theorem len64V (x : Int) (w : World) (h0 : 0 ≤ x) (h1 : x ≤ 12) : Calls Tryz.prog 96 #[.int .u64 x] w fun e w' => (∃ z : Int, e = .returned (.int .i64 z)) ∧ w' = w := by
  obtain ⟨k, rfl⟩ : ∃ k : Nat, x = (k : Int) := ⟨x.toNat, by omega⟩
  have a1 : ¬ ((4294967296 : Int) ≤ (k : Int)) := by omega
  have a2 : ¬ ((65536 : Int) ≤ (k : Int)) := by omega
  have a3 : ¬ ((256 : Int) ≤ (k : Int)) := by omega
  go_enter Tryz.func96, Tryz.ntmps96
  go_wp2_with fail
  go_ret
  exact ⟨⟨_, rfl⟩, rfl⟩

theorem lenV (x : Int) (w : World) (h0 : 0 ≤ x) (h1 : x ≤ 12) : Calls Tryz.prog 78 #[.int .u64 x] w fun e w' => (∃ z : Int, e = .returned (.int .i64 z)) ∧ w' = w := by
  have H := Lib.hid (fun w => len64V x w h0 h1)
  go_enter Tryz.func78, Tryz.ntmps78
  go_wp2_with fail
  refine (H.out _).mono ?_
  rintro e w1 ⟨⟨z, rfl⟩, rfl⟩
  go_wp2_with fail
  go_ret
  exact ⟨⟨_, rfl⟩, rfl⟩

set_option maxRecDepth 100000 in
set_option maxHeartbeats 2000000 in
theorem ins0V (A : Option Addr) (cap : Nat) (w : World) :
    Calls Tryz.prog 86 #[.slice A 0 cap, .int .i64 0, .int .i64 0] w fun e w' => e = .returned (.tuple #[]) ∧ w' = w := by
  go_enter Tryz.func86, Tryz.ntmps86
  go_wp2_with fail
  go_loopw [6] (fun i wr => i = .int .i64 1 ∧ wr = w) (fun _ _ => 0)
  case atStart => exact ⟨rfl, rfl⟩
  case round =>
    obtain ⟨rfl, rfl⟩ := hrel
    go_wp2_with fail
    go_end0
    exact ⟨rfl, rfl⟩

/-- How a sort ends. -/
def SrtP (B n cap : Nat) (A : Option Addr) (L : List Int) (w : World) (e : Ending) (w' : World) : Prop := e = .returned (.tuple #[]) ∧ ∃ M : List Int, M.Perm L ∧ leV M ∧ w'.ownsRow B TV 1 (.slice A n cap) n (varV M) ∧ w.grownBy w' (Value.ownBlock (.slice A n cap))

theorem ins_allV (B n cap : Nat) (A : Option Addr) (L : List Int) (w : World) (ho : w.ownsRow B TV 1 (.slice A n cap) n (varV L)) (hn : L.length = n) (hn2 : n ≤ 12) :
    Calls Tryz.prog 86 #[.slice A n cap, .int .i64 0, .int .i64 (n : Int)] w (SrtP B n cap A L w) := by
  rcases Nat.eq_zero_or_pos n with h0 | h0
  · subst h0
    obtain rfl := List.eq_nil_of_length_eq_zero hn
    refine (ins0V A cap w).mono ?_
    rintro e w' ⟨rfl, rfl⟩
    exact ⟨rfl, [], List.Perm.refl _, by simp [leV], ho, gr_refl _ _⟩
  · have ho2 := ho
    rcases ho2.2 with ⟨hv, hz⟩ | ⟨g, cap', cur, hv, _⟩
    · cases hv; omega
    · cases hv
      refine (insV B g n cap L w ho hn h0 (by omega)).mono ?_
      rintro e w' ⟨rfl, M, h1, h2, h3, h4⟩
      exact ⟨rfl, M, h1, h2, h3, h4⟩

set_option maxRecDepth 100000 in
set_option maxHeartbeats 4000000 in
theorem pdqV (B n cap : Nat) (A : Option Addr) (L : List Int) (z : Int) (w : World) (ho : w.ownsRow B TV 1 (.slice A n cap) n (varV L)) (hn : L.length = n) (hn2 : n ≤ 12) :
    Calls Tryz.prog 77 #[.slice A n cap, .int .i64 0, .int .i64 (n : Int), .int .i64 z] w (SrtP B n cap A L w) := by
  have HI := Lib.hid (ins_allV B n cap A L w ho hn hn2)
  have h12 : (n : Int) ≤ 12 := by omega
  clear ho hn
  go_enter Tryz.func77, Tryz.ntmps77
  go_wp2_with fail
  go_loopw [1, 2] (fun a b wr => a = .int .i64 0 ∧ b = .int .i64 (n : Int) ∧ wr = w) (fun _ _ _ => 0)
  case atStart => exact ⟨rfl, rfl, rfl⟩
  case round =>
    obtain ⟨rfl, rfl, rfl⟩ := hrel
    go_wp2_with fail
    refine HI.out.mono ?_
    rintro e w1 ⟨rfl, hp⟩
    have HP := Lib.hid hp
    clear hp
    go_wp2_with fail
    go_end0
    exact ⟨rfl, HP.out⟩

theorem sortV (B n cap : Nat) (A : Option Addr) (L : List Int) (w : World) (ho : w.ownsRow B TV 1 (.slice A n cap) n (varV L)) (hn : L.length = n) (hn2 : n ≤ 12) :
    Calls Tryz.prog 53 #[.slice A n cap] w (SrtP B n cap A L w) := by
  have HI := Lib.hid (fun z => pdqV B n cap A L z w ho hn hn2)
  have HLN := Lib.hid (fun w => lenV (n : Int) w (by omega) (by omega))
  have hw : IntKind.u64.wrap (n : Int) = (n : Int) := IntWalk.u64_in _ (by omega)
  clear ho hn
  go_enter Tryz.func53, Tryz.ntmps53
  go_wp2_with fail
  refine (HLN.out _).mono ?_
  rintro e w1 ⟨⟨z, rfl⟩, rfl⟩
  go_wp2_with fail
  refine (HI.out z).mono ?_
  rintro e w1 ⟨rfl, hp⟩
  have HP := Lib.hid hp
  clear hp
  go_wp2_with fail
  go_end0
  exact ⟨rfl, HP.out⟩

theorem setof_len {f : Int → Bool} {ss : List Int} (h : SetOf f ss) (hf : ∀ x, f x = true → x ∈ ([97, 98, 118, 119, 120, 121, 122] : List Int)) : ss.length ≤ 7 := nodup_le _ _ h.1 (fun x hx => hf x ((h.2 x).1 hx).2.2)

/-- slices.Sorted of a set's keys: a new row, the variables in ascending order. -/
theorem sortedV (bm b m : Nat) (f : Int → Bool) (w : World) (hs : VSet w b m f) (hf : ∀ x, f x = true → x ∈ ([97, 98, 118, 119, 120, 121, 122] : List Int)) (hbm : w.heap[bm]? = some (.cells #[.map (some b)] 69 (0, 0))) :
    Calls Tryz.prog 34 #[.func (.func 54) #[] #[.pointer (some ⟨bm, 0, none⟩)]] w fun e w' =>
      ∃ A n cap ss, e = .returned (.slice A n cap) ∧ SetOf f ss ∧ leV ss ∧ ss.length = n ∧ w.grownBy w' none ∧ w'.ownsRow w.heap.size TV 1 (.slice A n cap) n (varV ss) := by
  have HC := Lib.hid (collectV bm b m f w hs hf hbm)
  have HF := Lib.hid hf
  clear hs hf hbm
  go_enter Tryz.func34, Tryz.ntmps34
  go_wp2_with fail
  refine HC.out.mono ?_
  rintro e w1 ⟨sv, ss, rfl, h1, h2, h3⟩
  obtain ⟨A, n, cap, rfl⟩ := own_form h3
  obtain rfl : n = ss.length := by
    rcases h3.2 with ⟨hv, hz⟩ | ⟨g, cap', cur, hv, _⟩
    · cases hv; exact hz.symm
    · cases hv; rfl
  have HS := Lib.hid (sortV w.heap.size ss.length cap A ss w1 h3 rfl (by have := setof_len h1 HF.out; omega))
  have HP := Lib.hid (And.intro h1 (And.intro h2 h3))
  obtain ⟨n, hn⟩ : ∃ n, ss.length = n := ⟨_, rfl⟩
  rw [hn] at HS HP ⊢
  have HN := Lib.hid hn
  clear h1 h2 h3 hn
  go_wp2_with fail
  refine HS.out.mono ?_
  rintro e w2 ⟨rfl, M, p1, p2, p3, p4⟩
  have HQ := Lib.hid (And.intro p1 (And.intro p2 (And.intro p3 p4)))
  clear p1 p2 p3 p4
  go_wp2_with fail
  go_ret
  obtain ⟨p1, p2, p3, p4⟩ := HQ.out
  obtain ⟨h1, h2, h3⟩ := HP.out
  refine ⟨A, n, cap, M, rfl, ⟨p1.symm.nodup h1.1, fun x => ?_⟩, p2, by rw [p1.length_eq, HN.out], gr_rowV h2 p4 (fun k e => (h3.lt k e).1), p3⟩
  rw [← h1.2 x]
  exact p1.mem_iff
end
end

/- FreeVI -/
section
section
open Go.RowKit

def vars7 : List Int := [97, 98, 118, 119, 120, 121, 122]
def vt (c : Int) : ByteArray := one c
/-- The variables among the first j that stand free. -/
def frTo (T : Tm) (j : Nat) : ByteArray := bytesOf (((vars7.take j).filter fun c => T.free c).map byt)
def freeA (t : ByteArray) : ByteArray := match readT t with
  | some T => frTo T 7
  | none => ⟨#[]⟩
theorem frTo_step {T : Tm} {j : Nat} {c : Int} (h : vars7[j]? = some c) : frTo T (j + 1) = if T.free c = true then frTo T j ++ one c else frTo T j := by
  unfold frTo
  rw [List.take_add_one, h, List.filter_append, List.map_append]
  split
  · rename_i hf
    rw [← bytesOf_one, ← bytesOf_app]
    simp [hf]
  · rename_i hf
    simp [hf]
theorem frTo_size (T : Tm) (j : Nat) : (frTo T j).size ≤ 7 := by
  unfold frTo
  rw [bytesOf_size, List.length_map]
  refine Nat.le_trans (List.length_filter_le _ _) ?_
  rw [List.length_take]
  show min j 7 ≤ 7
  omega

theorem one_eq (c : Int) : one c = ⟨#[byt c]⟩ := by
  apply ByteArray.ext
  apply Array.toList_inj.1
  rw [one_data]
def s7V : List ByteArray := [⟨#[97]⟩, ⟨#[98]⟩, ⟨#[118]⟩, ⟨#[119]⟩, ⟨#[120]⟩, ⟨#[121]⟩, ⟨#[122]⟩]
theorem s7V_at {j : Nat} (h : j < 7) : ∃ c, vars7[j]? = some c ∧ s7V[j]? = some (one c) ∧ 0 < c ∧ c ≤ 122 := by
  match j, h with
  | 0, _ => exact ⟨97, rfl, by rw [one_eq]; rfl, by omega, by omega⟩
  | 1, _ => exact ⟨98, rfl, by rw [one_eq]; rfl, by omega, by omega⟩
  | 2, _ => exact ⟨118, rfl, by rw [one_eq]; rfl, by omega, by omega⟩
  | 3, _ => exact ⟨119, rfl, by rw [one_eq]; rfl, by omega, by omega⟩
  | 4, _ => exact ⟨120, rfl, by rw [one_eq]; rfl, by omega, by omega⟩
  | 5, _ => exact ⟨121, rfl, by rw [one_eq]; rfl, by omega, by omega⟩
  | 6, _ => exact ⟨122, rfl, by rw [one_eq]; rfl, by omega, by omega⟩
  | n + 7, h => exact absurd h (by omega)
theorem one_ix {c : Int} (h : 0 < (one c).size) (h0 : 0 ≤ c) (h1 : c ≤ 255) : ((((one c)[0]'h).toNat : Nat) : Int) = c := by
  have : ∀ (s : ByteArray) (hs : s = ⟨#[byt c]⟩) (h : 0 < s.size), (s[0]'h) = byt c := by rintro s rfl h; rfl
  rw [this _ (one_eq c) h]
  exact byt_back h0 h1
theorem strs_newV (w : World) (ss : List ByteArray) (ty : TypeId) : Strs (w.alloc (.cells (List.toArray (List.map Value.string ss)) ty)) (some ⟨w.heap.size, 0, none⟩) ss := fun _ =>
  ⟨_, _, rfl, by simp, fun j s hj => by
    have h1 := heap_alloc_new w (.cells (List.toArray (List.map Value.string ss)) ty)
    simp only [World.cell?, h1]
    simp [hj]⟩
theorem sterm_shapeV {s : ByteArray} {w w' : World} {e : Ending} (h : STermPost s w e w') : ∃ a b A k c o, e = .returned (.tuple #[.agg #[.int .u8 a, .int .u8 b, .slice A k c], .bool o]) ∧ w.grownBy w' none ∧ (readT s).isSome = o ∧
    ∀ T, readT s = some T → SN w' (fun b => w.heap.size ≤ b) T (a, b, .slice A k c) := by
  unfold STermPost at h
  cases hr : readT s with
  | none => rw [hr] at h; exact ⟨_, _, _, _, _, _, h.1, h.2, rfl, fun T hT => by cases hT⟩
  | some T =>
    rw [hr] at h
    obtain ⟨a, b, A, k, c, he, hg, hs⟩ := h
    exact ⟨_, _, _, _, _, _, he, hg, rfl, fun T hT => by cases hT; exact hs⟩

set_option maxRecDepth 100000 in
set_option maxHeartbeats 1000000 in
theorem freev_spec (t : ByteArray) (ht : t.size ≤ 1048576) (w : World) :
    Calls Tryz.prog 10 #[.string t] w fun e w' => e = .returned (.string (freeA t)) ∧ w.grownBy w' none := by
  have H1 := Lib.hid (fun w => sterm_any t ht w)
  go_enter Tryz.func10, Tryz.ntmps10
  go_wp2_with fail
  refine (H1.out _).mono ?_
  intro e w1 hp
  obtain ⟨a1, b1, A1, k1, c1, o, rfl, hg1, ho1, hs1⟩ := sterm_shapeV hp
  obtain ⟨x1, hx1⟩ : ∃ x, w1.alloc (.cells #[.int .u8 a1, .int .u8 b1, .slice A1 k1 c1] 57) = x := ⟨_, rfl⟩
  obtain ⟨n1, hn1⟩ : ∃ x, w1.heap.size = x := ⟨_, rfl⟩
  obtain ⟨x2, hx2⟩ : ∃ x, x1.alloc (.cells #[.string ⟨#[97]⟩, .string ⟨#[98]⟩, .string ⟨#[118]⟩, .string ⟨#[119]⟩, .string ⟨#[120]⟩, .string ⟨#[121]⟩, .string ⟨#[122]⟩] 9) = x := ⟨_, rfl⟩
  obtain ⟨n2, hn2⟩ : ∃ x, x1.heap.size = x := ⟨_, rfl⟩
  have gx1 : w1.grownBy x1 none := by rw [← hx1]; exact World.grownBy_alloc _ _ _
  have gx2 : x1.grownBy x2 none := by rw [← hx2]; exact World.grownBy_alloc _ _ _
  have C1 := Lib.hid ((show C3 x1 n1 (.int .u8 a1) (.int .u8 b1) (.slice A1 k1 c1) 57 by rw [← hx1, ← hn1]; exact c3_new _ _ _ _ _).grown gx2 (by simp))
  have HST := Lib.hid (show Strs x2 (some ⟨n2, 0, none⟩) s7V by rw [← hx2, ← hn2]; exact strs_newV x1 s7V _)
  have HG := Lib.hid ((hg1.trans gx1).trans gx2)
  have HO := Lib.hid ho1
  have HS := Lib.hid (fun T hT => ((hs1 T hT).grown gx1).grown gx2)
  clear hg1 gx1 gx2 ho1 hs1 hp
  cases o
  · have hres : freeA t = ⟨#[]⟩ := by
      unfold freeA
      cases hr : readT t with
      | none => rfl
      | some T => have := HO.out; rw [hr] at this; cases this
    have HRES := Lib.hid hres
    clear hres
    go_wp2_with fail
    go_loopw [3, 15] (fun q i wr => ∃ j : Nat, j ≤ 7 ∧ i = .int .i64 j ∧ q = .string ⟨#[]⟩ ∧ Hid (x2.grownBy wr none)) (fun _ i _ => 7 - (intOf i).toNat)
    case atStart => exact ⟨0, Nat.zero_le _, rfl, rfl, Lib.hid (gr_refl _ _)⟩
    case round =>
      obtain ⟨j, hj, rfl, rfl, hgr⟩ := hrel
      by_cases hlt : j < 7
      · obtain ⟨c, _, hz, _, _⟩ := s7V_at hlt
        obtain ⟨b, off, e, _, hcc⟩ := HST.out (by decide)
        cases e
        have hcell := hgr.out.cell (hcc j _ hz) (by simp)
        rw [Nat.zero_add] at hcell
        clear hz hcc
        go_wp2_with fail
        go_quiet (fail)
        go_wp2_with fail
        go_roundw
        case rel => exact ⟨j + 1, by omega, by go_num, rfl, Lib.hid (hgr.out.trans (gr_drewN _ _ _))⟩
        case measure => simp [intOf]; omega
      · go_wp2_with fail
        go_ret
        refine ⟨?_, HG.out.trans hgr.out⟩
        rw [HRES.out]
        rfl
  · obtain ⟨T, hT⟩ : ∃ T, readT t = some T := Option.isSome_iff_exists.1 HO.out
    have hres : freeA t = frTo T 7 := by unfold freeA; rw [hT]
    have HRES := Lib.hid hres
    have HT4 := Lib.hid (readT_some hT)
    have HSN := Lib.hid (HS.out T hT)
    clear hres hT
    go_wp2_with fail
    go_loopw [3, 15] (fun q i wr => ∃ j : Nat, j ≤ 7 ∧ i = .int .i64 j ∧ q = .string (frTo T j) ∧ Hid (x2.grownBy wr none)) (fun _ i _ => 7 - (intOf i).toNat)
    case atStart => exact ⟨0, Nat.zero_le _, rfl, rfl, Lib.hid (gr_refl _ _)⟩
    case round =>
      obtain ⟨j, hj, rfl, rfl, hgr⟩ := hrel
      by_cases hlt : j < 7
      · obtain ⟨c, hc, hz, hc0, hc1⟩ := s7V_at hlt
        obtain ⟨b, off, e, _, hcc⟩ := HST.out (by decide)
        cases e
        have hcell := hgr.out.cell (hcc j _ hz) (by simp)
        rw [Nat.zero_add] at hcell
        have hstep := Lib.hid (frTo_step (T := T) hc)
        have hsize := frTo_size T j
        have p0 := hgr.out.cell C1.out.c0 (by simp)
        have p1 := hgr.out.cell C1.out.c1 (by simp)
        have p2 := hgr.out.cell C1.out.c2 (by simp)
        have HF := Lib.hid (fun (u : World) (hu : x2.grownBy u none) => sfree_any T.size T _ a1 b1 A1 k1 c1 c u (Nat.le_refl _) HT4.out.2.2.1 hc0 (HSN.out.grown hu))
        obtain ⟨fr, hfr⟩ : ∃ x, T.free c = x := ⟨_, rfl⟩
        rw [hfr] at hstep HF
        have hone : (one c).size = 1 := one_size c
        have hix := one_ix (c := c) (by omega) (by omega) (by omega)
        obtain ⟨acc, hacc⟩ : ∃ x, frTo T j = x := ⟨_, rfl⟩
        rw [hacc] at hstep hsize ⊢
        clear hz hcc hc hfr hacc
        go_wp2_with fail
        go_region_law (first
          | (go_simp
             go_at_call 37
             refine (HF.out _ (hgr.out.trans (gr_drewN wr 1 none))).mono ?_
             rintro e wa ⟨rfl, hga⟩
             have HGa := Lib.hid ((gr_drewN wr 1 none).trans hga)
             clear hga))
        all_goals
          cases fr
          · go_wp2_with fail
            go_roundw
            case rel => exact ⟨j + 1, by omega, by go_num, by rw [hstep.out]; rfl, Lib.hid (hgr.out.trans HGa.out)⟩
            case measure => simp [intOf]; omega
          · go_wp2_with fail
            go_roundw
            case rel => exact ⟨j + 1, by omega, by go_num, by rw [hstep.out]; rfl, Lib.hid (hgr.out.trans HGa.out)⟩
            case measure => simp [intOf]; omega
      · have hj7 : j = 7 := by omega
        subst hj7
        go_wp2_with fail
        go_ret
        refine ⟨?_, HG.out.trans hgr.out⟩
        rw [HRES.out]
        rfl
end

section
open Go.RowKit

theorem freeV_isV : ∀ (t : Tm) (v : Int), t.Ok → t.free v = true → isV v = true
  | .dig c, v, _, h => by simp [Tm.free] at h
  | .var c, v, ho, h => by
    simp only [Tm.free, decide_eq_true_eq] at h
    subst h
    exact ho
  | .pre c s, v, ho, h => freeV_isV s v ho.2 h
  | .two c s t, v, ho, h => by
    simp only [Tm.free, Bool.or_eq_true] at h
    rcases h with h | h
    · exact freeV_isV s v ho.2.1 h
    · exact freeV_isV t v ho.2.2 h
  | .loop c i s t, v, ho, h => by
    simp only [Tm.free, Bool.or_eq_true, Bool.and_eq_true] at h
    rcases h with h | h
    · exact freeV_isV s v ho.2.2.1 h
    · exact freeV_isV t v ho.2.2.2 h.2
theorem isV_seven {v : Int} (h : isV v = true) : v ∈ ([97, 98, 118, 119, 120, 121, 122] : List Int) := by
  unfold isV at h
  simp only [decide_eq_true_eq] at h
  simp only [List.mem_cons, List.not_mem_nil, or_false]
  omega
theorem leV_same : ∀ {l k : List Int}, leV l → leV k → l.Nodup → k.Nodup → (∀ x, x ∈ l ↔ x ∈ k) → l = k
  | [], k, _, _, _, _, h => by
    cases k with
    | nil => rfl
    | cons y k => exact absurd ((h y).2 (by simp)) (by simp)
  | x :: l, [], _, _, _, _, h => absurd ((h x).1 (by simp)) (by simp)
  | x :: l, y :: k, h1, h2, n1, n2, h => by
    obtain ⟨hx, h3⟩ := List.pairwise_cons.1 h1
    obtain ⟨hy, h4⟩ := List.pairwise_cons.1 h2
    obtain ⟨nx, n3⟩ := List.nodup_cons.1 n1
    obtain ⟨ny, n4⟩ := List.nodup_cons.1 n2
    have e : x = y := by
      rcases List.mem_cons.1 ((h x).1 (by simp)) with e | g1
      · exact e
      · rcases List.mem_cons.1 ((h y).2 (by simp)) with e | g2
        · exact e.symm
        · have := hx y g2
          have := hy x g1
          omega
    subst e
    refine congrArg (x :: ·) (leV_same h3 h4 n3 n4 fun z => ⟨fun hz => ?_, fun hz => ?_⟩)
    · rcases List.mem_cons.1 ((h z).1 (List.mem_cons_of_mem _ hz)) with e | g
      · subst e; exact absurd hz nx
      · exact g
    · rcases List.mem_cons.1 ((h z).2 (List.mem_cons_of_mem _ hz)) with e | g
      · subst e; exact absurd hz ny
      · exact g
theorem vars7_le : leV vars7 := by unfold leV vars7; decide
theorem vars7_nd : vars7.Nodup := by unfold vars7; decide
theorem sorted_free {T : Tm} {ss : List Int} (ho : T.Ok) (h : SetOf T.free ss) (hl : leV ss) : bytesOf (ss.map byt) = frTo T 7 := by
  have e : ss = vars7.filter fun c => T.free c := leV_same hl (vars7_le.filter _) h.1 (vars7_nd.filter _) (fun x => by
    rw [h.2 x, List.mem_filter]
    constructor
    · rintro ⟨_, _, hf⟩
      exact ⟨isV_seven (freeV_isV T x ho hf), hf⟩
    · rintro ⟨hx, hf⟩
      have := isV_ge (freeV_isV T x ho hf)
      exact ⟨by omega, by omega, hf⟩)
  unfold frTo
  rw [e]
  rfl

theorem gr_below {w w' : World} (h : Below w.heap.size w w') : w.grownBy w' none := ⟨h.os, h.tape, h.output, h.size, fun k hk _ => h.block k hk⟩

set_option maxRecDepth 100000 in
set_option maxHeartbeats 4000000 in
theorem freev_impl (t : ByteArray) (w : World) :
    Calls Tryz.prog 9 #[.string t] w fun e w' => e = .returned (.string (freeA t)) ∧ w.grownBy w' none := by
  obtain ⟨i0, hi0, hz0, hz1, hz2⟩ := info_parts infoU8
  have H := Lib.hid (term_any t w)
  obtain ⟨res, hb⟩ : ∃ b, freeA t = b := ⟨_, rfl⟩
  rw [hb]
  have HB := Lib.hid hb
  clear hb
  go_enter Tryz.func9, Tryz.ntmps9
  go_wp2_with fail
  refine H.out.mono ?_
  intro e w0 hp
  unfold TermPost at hp
  have hb := HB.out
  unfold freeA at hb
  cases hr : readT t with
  | none =>
    rw [hr] at hp hb
    subst hb
    obtain ⟨rfl, hg⟩ := hp
    have HG := Lib.hid hg
    clear hg hr
    go_wp2_with fail
    go_ret
    exact ⟨rfl, HG.out⟩
  | some T =>
    rw [hr] at hp hb
    obtain ⟨v, rfl, hg, hpt⟩ := hp
    obtain ⟨ty, pv, rfl⟩ := hpt.iface
    have HT4 := Lib.hid (readT_some hr)
    have HF := Lib.hid (free_any T.size T _ (.iface ty pv) w0 (Nat.le_refl _) (by have := HT4.out.2.2.2; omega) HT4.out.2.2.1 hpt)
    have HG := Lib.hid hg
    have HRES : Hid (frTo T 7 = res) := Lib.hid hb
    clear hg hpt hr hb
    go_wp2_with fail
    refine HF.out.mono ?_
    rintro e w1 ⟨b, rfl, _, hg1, hvs⟩
    have HG1 := Lib.hid (HG.out.trans hg1)
    have HVS := Lib.hid hvs
    clear hg1 hvs
    go_wp2_with fail
    refine (keysmake b w1).mono ?_
    rintro e w2 ⟨rfl, hw2⟩
    have hg2 : w1.grownBy w2 none := by rw [hw2]; exact World.grownBy_alloc _ _ _
    have HSRT := Lib.hid (sortedV w1.heap.size b T.size T.free w2 (HVS.out.grown hg2 (by simp)) (fun x hx => isV_seven (freeV_isV T x HT4.out.2.2.1 hx)) (by rw [hw2]; exact heap_alloc_new _ _))
    have HG2 := Lib.hid (HG1.out.trans hg2)
    clear hg2 hw2
    go_wp2_with fail
    refine HSRT.out.mono ?_
    rintro e w3 ⟨A, n, cap, ss, rfl, hs1, hs2, hs3, hg3, ho⟩
    have HG3 := Lib.hid (HG2.out.trans hg3)
    have HN := Lib.hid hs3
    have HN7 : n ≤ 7 := by rw [← hs3]; exact setof_len hs1 (fun x hx => isV_seven (freeV_isV T x HT4.out.2.2.1 hx))
    have HRS : Hid (bytesOf (ss.map byt) = res) := Lib.hid (by rw [sorted_free HT4.out.2.2.1 hs1 hs2]; exact HRES.out)
    have HBD := Lib.hid (fun x (hx : x ∈ ss) => ((hs1.2 x).1 hx))
    obtain ⟨_, _, hrow⟩ := orow ho
    have HROW := Lib.hid hrow
    clear hg3 hs1 hs2 hs3 ho hrow
    go_wp2_with fail
    go_loopw [5, 20] (fun u i wr => ∃ j : Nat, j ≤ n ∧ i = .int .i64 j ∧ Hid (Txt wr w3.heap.size u ((ss.map byt).take j)) ∧ Hid (Below w3.heap.size w3 wr)) (fun _ i _ => n - (intOf i).toNat)
    case atStart => exact ⟨0, Nat.zero_le _, rfl, Lib.hid ⟨⟨rfl, .inl ⟨rfl, rfl⟩⟩, Nat.le_refl _⟩, Lib.hid (by exact ⟨rfl, rfl, rfl, Nat.le_refl _, fun _ _ => rfl⟩)⟩
    case round =>
      obtain ⟨j, hj, rfl, htx, hbl⟩ := hrel
      by_cases hlt : j < n
      · obtain ⟨g, rfl, _, hg1, hcell⟩ := HROW.out (by omega)
        obtain ⟨x, hx⟩ : ∃ x, ss[j]? = some x := ⟨_, List.getElem?_eq_getElem (by have := HN.out; omega)⟩
        have hc := (gr_below hbl.out).cell (hcell j _ (varV_at hx)) (by simp)
        have hxb := HBD.out x (List.mem_of_getElem? hx)
        obtain ⟨A0, c0, rfl⟩ := htx.out.form
        have own1 := (htx.out.keep (World.grownBy_alloc wr (.cells #[.int .u8 x] 5) none)).1
        have HBC := Lib.hid (bc_byt hxb.1 hxb.2.1)
        have hlj : ((ss.map byt).take j).length = j := by rw [List.length_take, List.length_map]; have := HN.out; omega
        have HLJ := Lib.hid hlj
        have hw3 := hbl.out.size
        have HX := Lib.hid (take_snoc' (show (ss.map byt)[j]? = some (byt x) by rw [List.getElem?_map, hx]; rfl))
        rw [hlj] at own1
        have htxj := htx.out
        rw [hlj] at htxj
        have HT := Lib.hid htxj
        clear htxj
        clear hcell hx
        rw [hlj]
        go_wp2_with (at_builtin; refine wpList_append_own_at _ rfl _ _ 22 rfl w3.heap.size 5 i0 (.int .u8 0) 1 1 Tryz.underlying22 hi0 hz0 hz1 hz2 rfl (by decide) _ _ _ rfl own1 ⟨wr.heap.size, 0, none⟩ 1 1 [.int .u8 x] rfl rfl ?a1 ?a2 ?a3 ?a4 ?a5 ?_)
        case a1 => exact cell_one_new _ _ _
        case a2 => simp [Value.oneCell']
        case a3 => simp only [maxLen]; omega
        case a4 => omega
        case a5 => simp; omega
        intro v8 w8 hown8 hg8 _ _
        obtain ⟨A8, k8, c8, rfl⟩ := own_form hown8
        have HR := Lib.hid (HT.out.more (m := [byt x]) (World.grownBy_alloc wr (.cells #[.int .u8 x] 5) none) hown8 hg8 (by rw [List.length_append, HLJ.out, List.length_singleton]) HBC.out.symm)
        rw [HX.out] at HR
        clear hown8 hg8 own1
        go_wp2_with fail
        go_roundw
        case rel => exact ⟨j + 1, by omega, by go_num, Lib.hid HR.out.1, Lib.hid (hbl.out.trans HR.out.2)⟩
        case measure => simp [intOf]; omega
      · have hjn : j = n := by omega
        have HJ := Lib.hid hjn
        obtain ⟨A0, c0, rfl⟩ := htx.out.form
        have hcv := conv_txt htx.out
        have hall : (ss.map byt).take j = ss.map byt := by rw [List.take_of_length_le (by rw [List.length_map]; have := HN.out; have := HJ.out; omega)]
        rw [hall] at hcv
        rw [hall]
        have HRS2 := HRS.out
        rw [HRS2] at hcv
        obtain ⟨l8, hl8⟩ : ∃ l, (ss.map byt).length = l := ⟨_, rfl⟩
        rw [hl8] at hcv ⊢
        clear hjn hall
        go_wp2_with fail
        go_ret
        exact ⟨rfl, HG3.out.trans (gr_below hbl.out)⟩
end
end

/- Pr -/
section
open Go.RowKit

/-- A struct of two cells in a block. -/
def Pr (w : World) (g : Nat) (t : TypeId) (a b : Value) : Prop := w.heap[g]? = some (.cells #[a, b] t (0, 0))
section
variable {w w' : World} {g : Nat} {t : TypeId} {a b : Value}
theorem Pr.new (w : World) (t : TypeId) (a b : Value) : Pr (w.alloc (.cells #[a, b] t)) w.heap.size t a b := heap_alloc_new w _
theorem Pr.c0 (h : Pr w g t a b) : w.cell? ⟨g, 0, none⟩ = some a := cell_of_row w g 0 _ _ (0, 0) h
theorem Pr.c1 (h : Pr w g t a b) : w.cell? ⟨g, 1, none⟩ = some b := cell_of_row w g 1 _ _ (0, 0) h
theorem Pr.f (h : Pr w g t a b) (i : Nat) : w.frozen? ⟨g, i, none⟩ = false := by
  unfold Pr at h
  simp [World.frozen?, h]
theorem Pr.lt (h : Pr w g t a b) : g < w.heap.size := (Array.getElem?_eq_some_iff.1 h).1
theorem Pr.set0 (h : Pr w g t a b) (u : Value) : Pr (w.setCell ⟨g, 0, none⟩ u) g t u b := by
  unfold Pr at h ⊢
  simp [World.setCell, Array.getElem?_modify, h]
theorem Pr.set1 (h : Pr w g t a b) (u : Value) : Pr (w.setCell ⟨g, 1, none⟩ u) g t a u := by
  unfold Pr at h ⊢
  simp [World.setCell, Array.getElem?_modify, h]
theorem Pr.alloc (h : Pr w g t a b) (o : Obj) : Pr (w.alloc o) g t a b := (Below.heap_alloc w o g h.lt).trans h
theorem Pr.grown {row : Option Nat} (h : Pr w g t a b) (hg : w.grownBy w' row) (hne : some g ≠ row) : Pr w' g t a b := (hg.block g h.lt hne).trans h
end

theorem gr_ownF {w w1 w2 : World} {row : Option Nat} (h : w.grownBy w1 none) (h2 : w1.grownBy w2 row) (hr : ∀ k, row = some k → w.heap.size ≤ k) : w.grownBy w2 none :=
  ⟨h2.os.trans h.os, h2.tape.trans h.tape, h2.output.trans h.output, Nat.le_trans h.size h2.size, fun k hk hne => (h2.block k (Nat.lt_of_lt_of_le hk h.size) (fun e => by have := hr k e.symm; omega)).trans (h.block k hk hne)⟩
end

/- IntC -/
section
open Go.RowKit

/-- The slice's cells are these ints. -/
def Ints (w : World) (A : Option Addr) (zs : List Int) : Prop :=
  0 < zs.length → ∃ b off, A = some ⟨b, off, none⟩ ∧ b < w.heap.size ∧ ∀ (j : Nat) (z : Int), zs[j]? = some z → w.cell? ⟨b, off + j, none⟩ = some (.int .i64 z)
theorem Ints.grown {w w' : World} {A : Option Addr} {zs : List Int} {row : Option Nat} (h : Ints w A zs) (hg : w.grownBy w' row) (hne : ∀ b off, A = some ⟨b, off, none⟩ → some b ≠ row) : Ints w' A zs := fun hl => by
  obtain ⟨b, off, rfl, hb, hc⟩ := h hl
  exact ⟨b, off, rfl, Nat.lt_of_lt_of_le hb hg.size, fun j z hj => hg.cell (hc j z hj) (hne b off rfl)⟩
theorem Ints.at_ {w : World} {A : Option Addr} {zs : List Int} {j : Nat} (h : Ints w A zs) (hj : j < zs.length) : ∃ b off, A = some ⟨b, off, none⟩ ∧ w.cell? ⟨b, off + j, none⟩ = some (.int .i64 zs[j]) := by
  obtain ⟨b, off, hA, _, hc⟩ := h (by omega)
  exact ⟨b, off, hA, hc j _ (List.getElem?_eq_getElem hj)⟩
theorem Ints.of_own {w : World} {base e : Nat} {A : Option Addr} {k c : Nat} {zs : List Int} (h : w.ownsRow base e 1 (.slice A k c) zs.length (zs.map (Value.int .i64))) : Ints w A zs := fun hl => by
  rcases h.2 with ⟨hv, hn⟩ | ⟨g, cap, cur, hv, _, hg, hnc, _, hcs, htake⟩
  · omega
  · cases hv
    refine ⟨g, 0, rfl, (Array.getElem?_eq_some_iff.1 hg).1, fun j z hj => ?_⟩
    have hjl : j < zs.length := by
      rcases Nat.lt_or_ge j zs.length with h | h
      · exact h
      · rw [List.getElem?_eq_none h] at hj; cases hj
    rw [Nat.zero_add, cell_of_row w g j _ _ (0, 0) hg]
    have : (cur.toList.take (zs.length * 1))[j]? = some (.int .i64 z) := by rw [htake, List.getElem?_map, hj]; rfl
    rw [List.getElem?_take, if_pos (by omega)] at this
    simpa using this
theorem infoJ : (Tryz.prog.info? 3).map (fun i => (i.zero, i.size, i.bytes)) = some (some (.int .i64 0), 1, 8) := by kernel_rfl
theorem addr_flat (b off i : Nat) : (⟨b, off, none⟩ : Addr).add i = ⟨b, off + i, none⟩ := by unfold Addr.add; split <;> simp_all
end

/- Drw -/
section
open Go.RowKit

/-- Bytes that lie in memory. -/
def Byts (w : World) (A : Option Addr) (n : Nat) : Prop := 0 < n → ∃ b off, A = some ⟨b, off, none⟩ ∧ b < w.heap.size ∧ ∀ k, k < n → ∃ x : Int, w.cell? ⟨b, off + k, none⟩ = some (.int .u8 x) ∧ 0 ≤ x ∧ x ≤ 255
theorem Byts.grown {w w' : World} {A : Option Addr} {n : Nat} {row : Option Nat} (h : Byts w A n) (hg : w.grownBy w' row) (hne : 0 < n → ∀ b off, A = some ⟨b, off, none⟩ → some b ≠ row) : Byts w' A n := fun hl => by
  obtain ⟨b, off, rfl, hb, hc⟩ := h hl
  exact ⟨b, off, rfl, Nat.lt_of_lt_of_le hb hg.size, fun k hk => by
    obtain ⟨x, h1, h2⟩ := hc k hk
    exact ⟨x, hg.cell h1 (hne hl b off rfl), h2⟩⟩
/-- The random source at block g: its bytes and its place. -/
structure Rd13 (w : World) (g : Nat) (A : Option Addr) (n c p : Nat) : Prop where
  box : Pr w g 82 (.slice A n c) (.int .i64 (p : Int))
  bytes : Byts w A n
  apart : 0 < n → ∀ b off, A = some ⟨b, off, none⟩ → b ≠ g
theorem Rd13.grown {w w' : World} {g n c p : Nat} {A : Option Addr} {row : Option Nat} (h : Rd13 w g A n c p) (hg : w.grownBy w' row) (hne : some g ≠ row) (hne2 : 0 < n → ∀ b off, A = some ⟨b, off, none⟩ → some b ≠ row) : Rd13 w' g A n c p :=
  ⟨h.box.grown hg hne, h.bytes.grown hg hne2, h.apart⟩
theorem Rd13.lt {w : World} {g n c p : Nat} {A : Option Addr} (h : Rd13 w g A n c p) : g < w.heap.size := h.box.lt

theorem xor_pos (y : Int) (h0 : 0 ≤ y) (h1 : y ≤ 1000000000) : 0 ≤ bits BinOp.xor IntKind.i64 y (y / 64) := by
  obtain ⟨a, rfl⟩ : ∃ a : Nat, y = (a : Int) := ⟨y.toNat, by omega⟩
  obtain ⟨b, hb⟩ : ∃ b : Nat, (a : Int) / 64 = (b : Int) := ⟨((a : Int) / 64).toNat, by omega⟩
  rw [hb]
  have hx : a ^^^ b < 2 ^ 62 := Nat.xor_lt_two_pow (by omega) (by omega)
  have h1 : (BitVec.ofInt 64 (a : Int)).toNat = a := by
    rw [BitVec.ofInt_natCast, BitVec.toNat_ofNat]; exact Nat.mod_eq_of_lt (by omega)
  have h2 : (BitVec.ofInt 64 (b : Int)).toNat = b := by
    rw [BitVec.ofInt_natCast, BitVec.toNat_ofNat]; exact Nat.mod_eq_of_lt (by omega)
  show 0 ≤ IntKind.i64.wrap ((BitVec.ofInt 64 (a : Int) ^^^ BitVec.ofInt 64 (b : Int)).toNat : Int)
  rw [BitVec.toNat_xor, h1, h2, IntWalk.i64_in _ (by omega)]
  omega

/-- How pick ends. -/
def PickPost (g : Nat) (A : Option Addr) (n c p : Nat) (m : Int) (w : World) (e : Ending) (w' : World) : Prop := ∃ x : Int, e = .returned (.int .i64 x) ∧ 0 ≤ x ∧ x < m ∧ Rd13 w' g A n c (p + 1) ∧ w.grownBy w' (some g)

theorem pick_mem {w : World} {g n c p k : Nat} {A : Option Addr} {m x : Int} (h : Rd13 w g A n c p) (h0 : 0 ≤ x) (h1 : x < m) (e : Ending) (he : e = .returned (.int .i64 x)) :
    PickPost g A n c p m w e ((w.setCell ⟨g, 1, none⟩ (.int .i64 ((p : Int) + 1))).drewN k) := by
  have hg : w.grownBy ((w.setCell ⟨g, 1, none⟩ (.int .i64 ((p : Int) + 1))).drewN k) (some g) := (gr_set w g 1 _).trans (gr_drewN _ _ _)
  refine ⟨x, he, h0, h1, ⟨?_, h.bytes.grown hg (fun hn b off e => by simpa using h.apart hn b off e), h.apart⟩, hg⟩
  have := h.box.set1 (.int .i64 ((p : Int) + 1))
  exact this

set_option maxHeartbeats 1000000 in
theorem pick_zero (g c p : Nat) (A : Option Addr) (m : Int) (w : World) (h : Rd13 w g A 0 c p) (hp : p ≤ 1000000) (hm : 1 ≤ m) (hm2 : m ≤ 1000000) :
    Calls Tryz.prog 33 #[.pointer (some ⟨g, 0, none⟩), .int .i64 m] w (PickPost g A 0 c p m w) := by
  have H := Lib.hid h
  have c0 := h.box.c0
  have c1 := h.box.c1
  have f1 := h.box.f 1
  have hm3 : ¬ m < 1 := by omega
  clear h
  go_enter Tryz.func33, Tryz.ntmps33
  go_wp2_with fail
  go_ret
  exact pick_mem (k := 0) H.out (by omega) (by omega) _ rfl

set_option maxHeartbeats 1000000 in
theorem pick_in (g n c p : Nat) (A : Option Addr) (m : Int) (w : World) (h : Rd13 w g A n c p) (hn : p < n) (hn2 : n ≤ 2000) (hm : 1 ≤ m) (hm2 : m ≤ 1000000) :
    Calls Tryz.prog 33 #[.pointer (some ⟨g, 0, none⟩), .int .i64 m] w (PickPost g A n c p m w) := by
  have H := Lib.hid h
  have c0 := h.box.c0
  have c1 := h.box.c1
  have f1 := h.box.f 1
  have hm3 : ¬ m < 1 := by omega
  obtain ⟨b, off, rfl, _, hc⟩ := h.bytes (by omega)
  obtain ⟨x, hx, hx0, hx1⟩ := hc p hn
  have hne : b ≠ g := h.apart (by omega) b off rfl
  have hne2 : g ≠ b := fun e => hne e.symm
  have hn0 : ((n : Int) == 0) = false := by rw [beq_eq_false_iff_ne]; omega
  clear h hc
  go_enter Tryz.func33, Tryz.ntmps33
  go_wp2_with fail
  go_ret
  exact pick_mem (k := 0) H.out (Int.emod_nonneg _ (by omega)) (Int.emod_lt_of_pos _ (by omega)) _ rfl

set_option maxRecDepth 100000 in
set_option maxHeartbeats 4000000 in
theorem pick_out (g n c p : Nat) (A : Option Addr) (m : Int) (w : World) (h : Rd13 w g A n c p) (hn0 : 0 < n) (hn : n ≤ p) (hp : p ≤ 1000000) (hn2 : n ≤ 2000) (hm : 1 ≤ m) (hm2 : m ≤ 1000000) :
    Calls Tryz.prog 33 #[.pointer (some ⟨g, 0, none⟩), .int .i64 m] w (PickPost g A n c p m w) := by
  have H := Lib.hid h
  have c0 := h.box.c0
  have c1 := h.box.c1
  have f1 := h.box.f 1
  have hm3 : ¬ m < 1 := by omega
  obtain ⟨b, off, rfl, _, hc⟩ := h.bytes (by omega)
  have hne : b ≠ g := h.apart (by omega) b off rfl
  have hne2 : g ≠ b := fun e => hne e.symm
  have hn1 : ((n : Int) == 0) = false := by rw [beq_eq_false_iff_ne]; omega
  have hnp : ¬ (p : Int) < (n : Int) := by omega
  clear h
  obtain ⟨k1, hk1⟩ : ∃ k : Nat, p % n = k := ⟨_, rfl⟩
  obtain ⟨k2, hk2⟩ : ∃ k : Nat, (p * 7 + 3) % n = k := ⟨_, rfl⟩
  obtain ⟨q, hq⟩ : ∃ k : Nat, p / n = k := ⟨_, rfl⟩
  have hk1n : k1 < n := by rw [← hk1]; exact Nat.mod_lt _ hn0
  have hk2n : k2 < n := by rw [← hk2]; exact Nat.mod_lt _ hn0
  have hqp : q ≤ 1000000 := by rw [← hq]; exact Nat.le_trans (Nat.div_le_self _ _) hp
  obtain ⟨x1, hx1, h10, h11⟩ := hc k1 hk1n
  obtain ⟨x2, hx2, h20, h21⟩ := hc k2 hk2n
  have t1 : (p : Int).tmod (n : Int) = (k1 : Int) := by rw [← hk1]; rfl
  have t2 : ((p : Int) * 7 + 3).tmod (n : Int) = (k2 : Int) := by rw [← hk2]; rfl
  have t3 : (p : Int).tdiv (n : Int) = (q : Int) := by rw [← hq]; rfl
  have e1 : IntKind.i64.wrap ((p : Int) * 7) = (p : Int) * 7 := IntWalk.i64_in _ (by omega)
  have e2 : IntKind.i64.wrap ((p : Int) * 7 + 3) = (p : Int) * 7 + 3 := IntWalk.i64_in _ (by omega)
  have e3 : IntKind.i64.wrap x1 = x1 := IntWalk.i64_in _ (by omega)
  have e4 : IntKind.i64.wrap x2 = x2 := IntWalk.i64_in _ (by omega)
  have e5 : IntKind.i64.wrap (x1 * 131) = x1 * 131 := IntWalk.i64_in _ (by omega)
  have e6 : IntKind.i64.wrap (x2 * 1117) = x2 * 1117 := IntWalk.i64_in _ (by omega)
  have e7 : IntKind.i64.wrap (x1 * 131 + x2 * 1117) = x1 * 131 + x2 * 1117 := IntWalk.i64_in _ (by omega)
  have e8 : IntKind.i64.wrap ((p : Int) * 29) = (p : Int) * 29 := IntWalk.i64_in _ (by omega)
  have e9 : IntKind.i64.wrap (x1 * 131 + x2 * 1117 + (p : Int) * 29) = x1 * 131 + x2 * 1117 + (p : Int) * 29 := IntWalk.i64_in _ (by omega)
  have e10 : IntKind.i64.wrap ((q : Int) * 53) = (q : Int) * 53 := IntWalk.i64_in _ (by omega)
  have e11 : IntKind.i64.wrap (x1 * 131 + x2 * 1117 + (p : Int) * 29 + (q : Int) * 53) = x1 * 131 + x2 * 1117 + (p : Int) * 29 + (q : Int) * 53 := IntWalk.i64_in _ (by omega)
  have hn1' : ¬ (n : Int) = 0 := by omega
  clear hc hk1 hk2 hq
  go_enter Tryz.func33, Tryz.ntmps33
  go_wp2_with fail
  go_quiet (fail)
  have hb0 : 0 ≤ x1 * 131 + x2 * 1117 + (p : Int) * 29 + (q : Int) * 53 := by omega
  have hb1 : x1 * 131 + x2 * 1117 + (p : Int) * 29 + (q : Int) * 53 ≤ 1000000000 := by omega
  clear t1 t2 t3 e1 e2 e3 e4 e5 e6 e7 e8 e9 e10 e11
  generalize x1 * 131 + x2 * 1117 + (p : Int) * 29 + (q : Int) * 53 = y at hb0 hb1 ⊢
  have hx := xor_pos y hb0 hb1
  go_wp2_with fail
  generalize bits BinOp.xor IntKind.i64 y (y / 64) = v at hx ⊢
  go_ret
  exact pick_mem H.out (Int.emod_nonneg _ (by omega)) (Int.emod_lt_of_pos _ (by omega)) _ rfl

theorem pick_any (g n c p : Nat) (A : Option Addr) (m : Int) (w : World) (h : Rd13 w g A n c p) (hp : p ≤ 1000000) (hn2 : n ≤ 2000) (hm : 1 ≤ m) (hm2 : m ≤ 1000000) :
    Calls Tryz.prog 33 #[.pointer (some ⟨g, 0, none⟩), .int .i64 m] w (PickPost g A n c p m w) := by
  rcases Nat.eq_zero_or_pos n with rfl | hn
  · exact pick_zero g c p A m w h hp hm hm2
  · rcases Nat.lt_or_ge p n with hpn | hpn
    · exact pick_in g n c p A m w h hpn hn2 hm hm2
    · exact pick_out g n c p A m w h hn hpn hp hn2 hm hm2
end

/- DrZ -/
section
section
open Go.RowKit

theorem sum_upd (f f' : Nat → Nat) (i c : Nat) (hi : f' i = f i + c) (hne : ∀ j, j ≠ i → f' j = f j) : ∀ n, ((List.range n).map f').sum = ((List.range n).map f).sum + if i < n then c else 0
  | 0 => by simp
  | n + 1 => by
    have ih := sum_upd f f' i c hi hne n
    rw [List.range_succ, List.map_append, List.map_append, List.sum_append, List.sum_append, ih]
    simp only [List.map_cons, List.map_nil, List.sum_cons, List.sum_nil]
    by_cases h : n = i
    · subst h
      rw [hi]
      have h1 : ¬ n < n := by omega
      have h2 : n < n + 1 := by omega
      rw [if_neg h1, if_pos h2]; omega
    · rw [hne n h]
      by_cases h3 : i < n
      · have h4 : i < n + 1 := by omega
        rw [if_pos h3, if_pos h4]; omega
      · have h4 : ¬ i < n + 1 := by omega
        rw [if_neg h3, if_neg h4]; omega
theorem sum_le (f g : Nat → Nat) (h : ∀ j, f j ≤ g j) : ∀ n, ((List.range n).map f).sum ≤ ((List.range n).map g).sum
  | 0 => by simp
  | n + 1 => by
    have ih := sum_le f g h n
    rw [List.range_succ, List.map_append, List.map_append, List.sum_append, List.sum_append]
    simp only [List.map_cons, List.map_nil, List.sum_cons, List.sum_nil]
    have := h n
    omega

/-- What the listed operations spent. -/
def spent (cost : Nat → Nat) (listed : Array Bool) : Nat := ((List.range listed.size).map fun i => if listed.getD i false = true then cost i else 0).sum
def spentAll (cost : Nat → Nat) (n : Nat) : Nat := ((List.range n).map cost).sum
theorem spent_none (cost : Nat → Nat) (n : Nat) : spent cost (Array.replicate n false) = 0 := by
  unfold spent
  have : ∀ m, ((List.range m).map fun i => if (Array.replicate n false).getD i false = true then cost i else 0).sum = 0 := by
    intro m
    induction m with
    | zero => simp
    | succ m ih =>
      rw [List.range_succ, List.map_append, List.sum_append, ih]
      simp [Array.getD_eq_getD_getElem?, Array.getElem?_replicate]
      intro h1
      split at h1 <;> simp at h1
  exact this _
theorem spent_set {cost : Nat → Nat} {listed : Array Bool} {i : Nat} (hi : i < listed.size) (h : listed.getD i true = false) : spent cost (listed.setIfInBounds i true) = spent cost listed + cost i := by
  unfold spent
  rw [Array.size_setIfInBounds]
  have h0 : listed.getD i false = false := by
    simp only [Array.getD_eq_getD_getElem?, Array.getElem?_eq_getElem hi, Option.getD_some] at h ⊢
    exact h
  have := sum_upd (fun i => if listed.getD i false = true then cost i else 0) (fun j => if (listed.setIfInBounds i true).getD j false = true then cost j else 0) i (cost i)
    (by simp [h0, Array.getD_eq_getD_getElem?, hi]) (fun j hj => by
      have hj' : ¬ i = j := fun e => hj e.symm
      simp [Array.getD_eq_getD_getElem?, hj']) listed.size
  rw [this, if_pos hi]
theorem spent_le (cost : Nat → Nat) (listed : Array Bool) : spent cost listed ≤ spentAll cost listed.size := by
  unfold spent spentAll
  refine sum_le _ _ (fun j => ?_) _
  split <;> omega

section
variable {P : Program} {ops : Array Oper} {Q : Exit → Act → World → Prop} {md : Region.Mode}

structure JInv (ops : Array Oper) (B : Array Value) (u : World) (G : World → World → Prop) (R : Nat → Value → World → Prop) (cost : Nat → Nat) (J : Nat → World → Prop) (listed : Array Bool) (a : Act) (w : World) : Prop where
  ls : listed.size = ops.size
  size : a.tmps.size = B.size
  defs : a.defers = []
  gr : G u w
  far : ∀ k, (∀ (i : Nat) (o : Oper), ops[i]? = some o → o.dst ≠ some k) → a.tmps.getD k undef = B.getD k undef
  done : ∀ (i : Nat) (o : Oper) (d : Nat), ops[i]? = some o → o.dst = some d → listed.getD i true = true → R i (a.tmps.getD d undef) w
  kept : J (spent cost listed) w

/-- One operation's step. -/
def StepJ (P : Program) (Q : Exit → Act → World → Prop) (ops : Array Oper) (B : Array Value) (u : World) (G : World → World → Prop) (R : Nat → Value → World → Prop) (cost : Nat → Nat) (J : Nat → World → Prop) (i : Nat) (o : Oper) : Prop :=
  ∀ a w k, a.defers = [] → G u w → (∀ k, slotFree ops k = true → a.tmps.getD k undef = B.getD k undef) →
    (∀ (j : Nat) (p : Oper) (d : Nat), depB o j = true → ops[j]? = some p → p.dst = some d → R j (a.tmps.getD d undef) w) → J k w → k + cost i ≤ spentAll cost ops.size →
    o.wp P a w (fun a' w' => ∃ v, a' = a.put o.dst v ∧ G w w' ∧ R i v w' ∧ J (k + cost i) w') Q

theorem wp_region_jsteps {id : Nat} {B : Array Value} {u : World} (n : Nat) (hB : B.size = n) (hok : regOkB n ops = true) (G : World → World → Prop) (R : Nat → Value → World → Prop) (cost : Nat → Nat) (J : Nat → World → Prop) (hm : P.follows .mixedOrders = true)
    (htr : ∀ w1 w2 w3, G w1 w2 → G w2 w3 → G w1 w3)
    (hmono : ∀ i v w w', R i v w → G w w' → R i v w')
    (hend : ∀ a w, a.defers = [] → G u w → (∀ k, slotFree ops k = true → a.tmps.getD k undef = B.getD k undef) → (∀ (i : Nat) (o : Oper) (d : Nat), ops[i]? = some o → o.dst = some d → R i (a.tmps.getD d undef) w) → (∃ k, k ≤ spentAll cost ops.size ∧ J k w) → Q .normal a w)
    (hstep : AllFrom (StepJ P Q ops B u G R cost J) 0 ops.toList)
    (w : World) (hu : G u { w with drawn := w.drawn + 1 }) (hj : J 0 { w with drawn := w.drawn + 1 }) : (Code.region id ops true).wp P Q { tmps := B, defers := [] } w := by
  unfold regOkB at hok
  rw [Bool.and_eq_true, Array.all_eq_true', List.all_eq_true] at hok
  obtain ⟨h1, h2⟩ := hok
  have hmemo : ∀ (i : Nat) (o : Oper), ops[i]? = some o → o ∈ ops := fun i o ho => Array.mem_of_getElem? ho
  have h2' : ∀ (i : Nat) (o : Oper), ops[i]? = some o → (o.after.all (fun e => decide (e.on < i)) = true) ∧ ∀ (j : Nat) (p : Oper), ops[j]? = some p → p.dst = o.dst → j = i := by
    intro i o ho
    have := h2 i (List.mem_range.2 (Array.getElem?_eq_some_iff.1 ho).1)
    simp only [ho, Bool.and_eq_true, List.all_eq_true] at this
    refine ⟨this.1, fun j p hp hd => ?_⟩
    have := this.2 j (List.mem_range.2 (Array.getElem?_eq_some_iff.1 hp).1)
    simp only [hp, Bool.or_eq_true, bne_iff_ne, ne_eq, beq_iff_eq] at this
    rcases this with h | h
    · exact absurd hd h
    · exact h.symm
  have hfree : ∀ k, slotFree ops k = true → ∀ (i : Nat) (o : Oper), ops[i]? = some o → o.dst ≠ some k := by
    intro k hk i o ho
    unfold slotFree at hk
    rw [Array.all_eq_true'] at hk
    have := hk o (hmemo i o ho)
    simpa using this
  have hac : ∀ (i : Nat) (o : Oper), ops[i]? = some o → ∀ e ∈ o.after, e.on < i := by
    intro i o ho e he
    have := (h2' i o ho).1
    rw [Array.all_eq_true'] at this
    simpa using this e he
  have hg : ∀ (i : Nat) (o : Oper), ops[i]? = some o → o.guard = none := by
    intro i o ho
    have := h1 o (hmemo i o ho)
    simp only [Bool.and_eq_true, Option.isNone_iff_eq_none] at this
    exact this.1
  have hdst : ∀ (i : Nat) (o : Oper), ops[i]? = some o → ∃ d, o.dst = some d ∧ d < B.size ∧ ∀ (j : Nat) (p : Oper), ops[j]? = some p → p.dst = some d → j = i := by
    intro i o ho
    have := h1 o (hmemo i o ho)
    simp only [Bool.and_eq_true] at this
    cases hd : o.dst with
    | none => rw [hd] at this; simp at this
    | some d =>
      rw [hd] at this
      refine ⟨d, rfl, by rw [hB]; simpa using this.2, fun j p hp hpd => (h2' i o ho).2 j p hp (by rw [hpd, hd])⟩
  refine wp_region_any hm (wpAny_inv (JInv ops B u G R cost J) (fun _ _ _ h => h.ls) hac ?_ ?_ _ _ _ _ ?_ ?_)
  · intro listed a w hI hall
    refine hend a w hI.defs hI.gr (fun k hk => hI.far k (hfree k hk)) (fun i o d ho hd => hI.done i o d ho hd (hall i (Array.getElem?_eq_some_iff.1 ho).1)) ⟨_, ?_, hI.kept⟩
    have := spent_le cost listed
    rw [hI.ls] at this
    exact this
  · intro i o listed a w ho hI hl hd
    unfold wpOp
    rw [ho]
    have hw : Region.wanted o (yielded ops a.tmps) = true := by simp [Region.wanted, hg i o ho]
    simp only [hw, if_true]
    left
    have hil : i < listed.size := by rw [hI.ls]; exact (Array.getElem?_eq_some_iff.1 ho).1
    have hsp := spent_set (cost := cost) hil hl
    have hS := allFrom_at hstep (i := i) (o := o) (by simpa using ho)
    rw [Nat.zero_add] at hS
    have hs := hS a w (spent cost listed) hI.defs hI.gr (fun k hk => hI.far k (hfree k hk)) (fun j p d hj hp hpd => hI.done j p d hp hpd (by
      unfold depB at hj
      rw [Array.any_eq_true'] at hj
      obtain ⟨e, he, hb⟩ := hj
      simp only [Bool.and_eq_true, beq_iff_eq] at hb
      have := hd e he hb.1
      rw [hb.2] at this
      have hjl : j < listed.size := by rw [hI.ls]; exact (Array.getElem?_eq_some_iff.1 hp).1
      simp only [Array.getD_eq_getD_getElem?, Array.getElem?_eq_getElem hjl, Option.getD_some] at this ⊢
      exact this)) hI.kept (by
        have := spent_le cost (listed.setIfInBounds i true)
        rw [hsp, Array.size_setIfInBounds, hI.ls] at this
        exact this)
    refine Oper.wp_mono ?_ hs
    rintro a' w' ⟨v, rfl, hgr, hR, hJ⟩
    obtain ⟨d, hod, hdB, huniq⟩ := hdst i o ho
    have hput : a.put o.dst v = { a with tmps := a.tmps.setIfInBounds d v } := by rw [hod]; rfl
    rw [hput]
    refine ⟨by simp [hI.ls], by simp [hI.size], hI.defs, htr _ _ _ hI.gr hgr, fun k hk => ?_, fun j p e hp hpe hlj => ?_, by rw [hsp]; exact hJ⟩
    · rw [← hI.far k hk]
      have : d ≠ k := fun e => hk i o ho (by rw [hod, e])
      simp [Array.getD_eq_getD_getElem?, this]
    · by_cases hji : j = i
      · subst hji
        rw [ho] at hp; cases hp
        rw [hod] at hpe; cases hpe
        have : (a.tmps.setIfInBounds d v).getD d undef = v := by simp [Array.getD_eq_getD_getElem?, hI.size, hdB]
        rw [this]; exact hR
      · have hde : d ≠ e := fun h => hji (huniq j p hp (by rw [hpe, h]))
        have : (a.tmps.setIfInBounds d v).getD e undef = a.tmps.getD e undef := by simp [Array.getD_eq_getD_getElem?, hde]
        rw [this]
        refine hmono _ _ _ _ (hI.done j p e hp hpe ?_) hgr
        have hji' : ¬ i = j := fun h => hji h.symm
        simpa [Array.getD_eq_getD_getElem?, hji'] using hlj
  · exact ⟨by simp, rfl, rfl, hu, fun _ _ => rfl, fun i o d ho _ hl => by
      have hi := (Array.getElem?_eq_some_iff.1 ho).1
      simp [Array.getD_eq_getD_getElem?, hi] at hl, by rw [spent_none]; exact hj⟩
  · unfold unl
    refine Nat.le_trans (List.countP_le_length) ?_
    simp
end
end

section
open Go.RowKit

theorem Strs.grownG {w w' : World} {A : Option Addr} {ss : List ByteArray} {row : Option Nat} (h : Strs w A ss) (hg : w.grownBy w' row) (hne : ∀ b off, A = some ⟨b, off, none⟩ → some b ≠ row) : Strs w' A ss := fun hl => by
  obtain ⟨b, off, rfl, hb, hc⟩ := h hl
  exact ⟨b, off, rfl, Nat.lt_of_lt_of_le hb hg.size, fun j s hj => hg.cell (hc j s hj) (hne b off rfl)⟩

/-- How 'of' ends: one of the texts. -/
def OfPost (g : Nat) (A : Option Addr) (n c p : Nat) (ss : List ByteArray) (w : World) (e : Ending) (w' : World) : Prop := ∃ s, e = .returned (.string s) ∧ s ∈ ss ∧ Rd13 w' g A n c (p + 1) ∧ w.grownBy w' (some g)

set_option maxHeartbeats 1000000 in
theorem oftxt_any (g n c p : Nat) (A B : Option Addr) (d : Nat) (ss : List ByteArray) (w : World) (h : Rd13 w g A n c p) (hB : Strs w B ss) (hBg : ∀ b off, B = some ⟨b, off, none⟩ → b ≠ g) (hp : p ≤ 1000000) (hn2 : n ≤ 2000) (hl : 0 < ss.length) (hl2 : ss.length ≤ 1000) :
    Calls Tryz.prog 22 #[.pointer (some ⟨g, 0, none⟩), .slice B ss.length d] w (OfPost g A n c p ss w) := by
  have HP := Lib.hid (pick_any g n c p A ss.length w h hp hn2 (by omega) (by omega))
  have HB := Lib.hid hB
  have HBG := Lib.hid hBg
  obtain ⟨k, hk⟩ : ∃ k, ss.length = k := ⟨_, rfl⟩
  have HK := Lib.hid hk
  rw [hk] at HP ⊢
  have hk0 : 0 < k := by omega
  clear h hB hBg hk hl hl2
  go_enter Tryz.func22, Tryz.ntmps22
  go_wp2_with fail
  refine HP.out.mono ?_
  rintro e w1 ⟨x, rfl, hx0, hx1, hr, hg⟩
  obtain ⟨i, rfl⟩ : ∃ i : Nat, x = (i : Int) := ⟨x.toNat, by omega⟩
  have hik : i < k := by omega
  obtain ⟨b, off, rfl, _, hc⟩ := (HB.out.grownG hg (fun b off e => by have := HBG.out b off e; simpa using this)) (by have := HK.out; omega)
  obtain ⟨z, hz⟩ : ∃ z, ss[i]? = some z := ⟨_, List.getElem?_eq_getElem (by have := HK.out; omega)⟩
  have hcell := hc i z hz
  have HR := Lib.hid hr
  have HG := Lib.hid hg
  have HZ := Lib.hid (List.mem_of_getElem? hz)
  clear hc hz hr hg
  go_wp2_with fail
  go_ret
  exact ⟨z, rfl, HZ.out, HR.out, HG.out⟩

set_option maxHeartbeats 1000000 in
theorem unbind_any (z v : ByteArray) (w : World) (hz : z.size ≤ 1000) :
    Calls Tryz.prog 64 #[.string z, .string v] w fun e w' => ∃ s, e = .returned (.string s) ∧ s.size ≤ z.size ∧ w' = w := by
  obtain ⟨k, hk⟩ : ∃ k, z.size = k := ⟨_, rfl⟩
  have HK := Lib.hid hk
  rw [hk] at hz ⊢
  go_enter Tryz.func64, Tryz.ntmps64
  go_wp2_with fail
  go_loopw [5, 9] (fun q i wr => ∃ (j : Nat) (s : ByteArray), j ≤ k ∧ i = .int .i64 j ∧ q = .string s ∧ s.size ≤ j ∧ wr = w) (fun _ i _ => k - (intOf i).toNat)
  case atStart => exact ⟨0, ⟨#[]⟩, Nat.zero_le _, rfl, rfl, Nat.le_refl _, rfl⟩
  case round =>
    obtain ⟨j, s, hj, rfl, rfl, hs, rfl⟩ := hrel
    by_cases hlt : j < k
    · go_wp2_with fail
      · refine ⟨⟨j + 1, s ++ z.extract j (j + 1), by omega, by go_num, rfl, ?_, trivial⟩, by simp [intOf]; omega⟩
        have := HK.out
        simp [ByteArray.size_append, ByteArray.size_extract]
        omega
      · exact ⟨⟨j + 1, s, by omega, by go_num, rfl, by omega, trivial⟩, by simp [intOf]; omega⟩
    · go_wp2_with fail
      go_ret
      exact ⟨s, rfl, by omega, rfl⟩

theorem bind_any (z v : ByteArray) (w : World) (hz : z.size ≤ 1000) (hv : v.size = 1) :
    Calls Tryz.prog 63 #[.string z, .string v] w fun e w' => ∃ s, e = .returned (.string s) ∧ s.size ≤ z.size + 1 ∧ w' = w := by
  have HU := Lib.hid (fun w => unbind_any z v w hz)
  obtain ⟨k, hk⟩ : ∃ k, z.size = k := ⟨_, rfl⟩
  rw [hk] at HU hz ⊢
  have HV := Lib.hid hv
  clear hv
  go_enter Tryz.func63, Tryz.ntmps63
  go_wp2_with fail
  refine (HU.out _).mono ?_
  rintro e w1 ⟨s, rfl, hs, rfl⟩
  have hsz : ¬ 9223372036854775807 < s.size + v.size := by have := HV.out; omega
  go_wp2_with fail
  go_ret
  exact ⟨_, rfl, by rw [ByteArray.size_append, HV.out]; omega, rfl⟩

set_option maxRecDepth 100000 in
set_option maxHeartbeats 1000000 in
theorem dec_any (x : Int) (w : World) (h0 : 0 ≤ x) (h1 : x ≤ 9) :
    Calls Tryz.prog 62 #[.int .i64 x] w fun e w' => ∃ s, e = .returned (.string s) ∧ s.size = 1 ∧ w.grownBy w' none := by
  have h2 : ¬ x < -9223372036854775807 := by omega
  have h3 : ¬ x < 0 := by omega
  have h4 : ¬ 9 < x := by omega
  have e1 : IntKind.u8.wrap (48 + x) = 48 + x := IntWalk.u8_in _ (by omega)
  have hcv := conv_byte w (48 + x) w.heap.size rfl
  go_enter Tryz.func62, Tryz.ntmps62
  go_wp2_with fail
  go_loopw [0, 3] (fun q i wr => q = .int .i64 x ∧ i = .string ⟨#[]⟩ ∧ wr = w) (fun _ _ _ => 0)
  case atStart => exact ⟨rfl, rfl, rfl⟩
  case round =>
    obtain ⟨rfl, rfl, rfl⟩ := hrel
    go_wp2_with fail
    go_ret
    refine ⟨_, rfl, ?_, World.grownBy_alloc _ _ _⟩
    rw [ByteArray.size_append, one_size]
    rfl
end

section
open Go.RowKit

/-- How a draw of a text ends: of at most so many bytes, and so many steps of the source further on. -/
def DrP (g n c p K L : Nat) (A : Option Addr) (w : World) (e : Ending) (w' : World) : Prop := ∃ s p', e = .returned (.string s) ∧ 1 ≤ s.size ∧ s.size ≤ L ∧ p ≤ p' ∧ p' ≤ p + K ∧ Rd13 w' g A n c p' ∧ w.grownBy w' (some g)

theorem gr_someG {w w' : World} {g : Nat} (h : w.grownBy w' none) : w.grownBy w' (some g) := ⟨h.os, h.tape, h.output, h.size, fun k hk _ => h.block k hk (by simp)⟩
theorem gr_selfG (w : World) (g : Nat) : w.grownBy w (some g) := gr_refl _ _
theorem ext_one (z : ByteArray) (k : Nat) (h : k < z.size) : (z.extract k (k + 1)).size = 1 := by simp [ByteArray.size_extract]; omega

set_option maxRecDepth 100000 in
set_option maxHeartbeats 4000000 in
theorem draw_zero0 (g n c p : Nat) (A : Option Addr) (f : Int) (z o : ByteArray) (w : World) (h : Rd13 w g A n c p) (hf : f ≤ 0) (hp : p ≤ 900000) (hn2 : n ≤ 2000) (hz : z.size ≤ 100) :
    Calls Tryz.prog 44 #[.pointer (some ⟨g, 0, none⟩), .int .i64 0, .int .i64 f, .string z, .string o] w (DrP g n c p 2 1 A w) := by
  have H := Lib.hid h
  obtain ⟨k, hk⟩ : ∃ k, z.size = k := ⟨_, rfl⟩
  have HK := Lib.hid hk
  rw [hk] at hz
  obtain ⟨zb, hzb⟩ : ∃ b, z.toList.isEmpty = b := ⟨_, rfl⟩
  clear h
  cases zb
  · have hk0 : 0 < k := by
      rcases Nat.eq_zero_or_pos k with h0 | h0
      · exfalso
        have : z = ⟨#[]⟩ := ByteArray.ext (Array.eq_empty_of_size_eq_zero (by have := HK.out; rw [h0] at this; exact this))
        rw [this] at hzb
        have h9 : (⟨#[]⟩ : ByteArray).toList.isEmpty = true := by first | kernel_rfl | (unfold ByteArray.toList ByteArray.toList.loop; simp [ByteArray.size])
        rw [h9] at hzb
        cases hzb
      · exact h0
    have H3 := Lib.hid (pick_any g n c p A 3 w H.out (by omega) hn2 (by omega) (by omega))
    go_enter Tryz.func44, Tryz.ntmps44
    go_wp2_with fail
    refine H3.out.mono ?_
    rintro e w1 ⟨x, rfl, hx0, hx1, hr1, hg1⟩
    have HR1 := Lib.hid hr1
    have HG1 := Lib.hid hg1
    clear hr1 hg1
    by_cases hx : 0 < x
    · have HK1 := Lib.hid (pick_any g n c (p + 1) A k w1 HR1.out (by omega) hn2 (by omega) (by omega))
      go_wp2_with fail
      refine HK1.out.mono ?_
      rintro e w2 ⟨y, rfl, hy0, hy1, hr2, hg2⟩
      obtain ⟨i, rfl⟩ : ∃ i : Nat, y = (i : Int) := ⟨y.toNat, by omega⟩
      have hik : i < k := by omega
      have HR2 := Lib.hid hr2
      have HG2 := Lib.hid (HG1.out.trans hg2)
      have HS := Lib.hid (ext_one z i (by have := HK.out; omega))
      clear hr2 hg2
      go_wp2_with fail
      go_ret
      exact ⟨_, p + 2, rfl, by rw [HS.out]; omega, by rw [HS.out]; omega, by omega, by omega, HR2.out, HG2.out⟩
    · have H5 := Lib.hid (pick_any g n c (p + 1) A 5 w1 HR1.out (by omega) hn2 (by omega) (by omega))
      go_wp2_with fail
      refine H5.out.mono ?_
      rintro e w2 ⟨y, rfl, hy0, hy1, hr2, hg2⟩
      have HR2 := Lib.hid hr2
      have HG2 := Lib.hid (HG1.out.trans hg2)
      clear hr2 hg2
      go_wp2_with fail
      refine (dec_any y w2 (by omega) (by omega)).mono ?_
      rintro e w3 ⟨s, rfl, hs, hg3⟩
      have HG3 := Lib.hid hg3
      clear hg3
      go_wp2_with fail
      go_ret
      exact ⟨s, p + 2, rfl, by omega, by omega, by omega, by omega, HR2.out.grown HG3.out (by simp) (by simp), HG2.out.trans (gr_someG HG3.out)⟩
  · have H5 := Lib.hid (pick_any g n c p A 5 w H.out (by omega) hn2 (by omega) (by omega))
    go_enter Tryz.func44, Tryz.ntmps44
    go_wp2_with fail
    refine H5.out.mono ?_
    rintro e w1 ⟨x, rfl, hx0, hx1, hr1, hg1⟩
    have HR1 := Lib.hid hr1
    have HG1 := Lib.hid hg1
    clear hr1 hg1
    go_wp2_with fail
    refine (dec_any x w1 (by omega) (by omega)).mono ?_
    rintro e w2 ⟨s, rfl, hs, hg2⟩
    have HG2 := Lib.hid hg2
    clear hg2
    go_wp2_with fail
    go_ret
    exact ⟨s, p + 1, rfl, by omega, by omega, by omega, by omega, HR1.out.grown HG2.out (by simp) (by simp), HG1.out.trans (gr_someG HG2.out)⟩

set_option maxRecDepth 100000 in
set_option maxHeartbeats 4000000 in
theorem draw_zero1 (g n c p : Nat) (A : Option Addr) (f : Int) (z o : ByteArray) (w : World) (h : Rd13 w g A n c p) (hf : f ≤ 0) (hp : p ≤ 900000) (hn2 : n ≤ 2000) (hz : o.size ≤ 100) :
    Calls Tryz.prog 44 #[.pointer (some ⟨g, 0, none⟩), .int .i64 1, .int .i64 f, .string z, .string o] w (DrP g n c p 2 1 A w) := by
  have H := Lib.hid h
  obtain ⟨k, hk⟩ : ∃ k, o.size = k := ⟨_, rfl⟩
  have HK := Lib.hid hk
  rw [hk] at hz
  obtain ⟨zb, hzb⟩ : ∃ b, o.toList.isEmpty = b := ⟨_, rfl⟩
  clear h
  cases zb
  · have hk0 : 0 < k := by
      rcases Nat.eq_zero_or_pos k with h0 | h0
      · exfalso
        have : o = ⟨#[]⟩ := ByteArray.ext (Array.eq_empty_of_size_eq_zero (by have := HK.out; rw [h0] at this; exact this))
        rw [this] at hzb
        have h9 : (⟨#[]⟩ : ByteArray).toList.isEmpty = true := by first | kernel_rfl | (unfold ByteArray.toList ByteArray.toList.loop; simp [ByteArray.size])
        rw [h9] at hzb
        cases hzb
      · exact h0
    have H3 := Lib.hid (pick_any g n c p A 2 w H.out (by omega) hn2 (by omega) (by omega))
    go_enter Tryz.func44, Tryz.ntmps44
    go_wp2_with fail
    refine H3.out.mono ?_
    rintro e w1 ⟨x, rfl, hx0, hx1, hr1, hg1⟩
    have HR1 := Lib.hid hr1
    have HG1 := Lib.hid hg1
    clear hr1 hg1
    obtain ⟨xb, hxb⟩ : ∃ b, (x == 0) = b := ⟨_, rfl⟩
    cases xb
    · go_wp2_with fail
      go_ret
      exact ⟨_, p + 1, rfl, Nat.le_refl _, Nat.le_refl _, by omega, by omega, HR1.out, HG1.out⟩
    · have HK1 := Lib.hid (pick_any g n c (p + 1) A k w1 HR1.out (by omega) hn2 (by omega) (by omega))
      go_wp2_with fail
      refine HK1.out.mono ?_
      rintro e w2 ⟨y, rfl, hy0, hy1, hr2, hg2⟩
      obtain ⟨i, rfl⟩ : ∃ i : Nat, y = (i : Int) := ⟨y.toNat, by omega⟩
      have hik : i < k := by omega
      have HR2 := Lib.hid hr2
      have HG2 := Lib.hid (HG1.out.trans hg2)
      have HS := Lib.hid (ext_one o i (by have := HK.out; omega))
      clear hr2 hg2
      go_wp2_with fail
      go_ret
      exact ⟨_, p + 2, rfl, by rw [HS.out]; omega, by rw [HS.out]; omega, by omega, by omega, HR2.out, HG2.out⟩
  · go_enter Tryz.func44, Tryz.ntmps44
    go_wp2_with fail
    go_ret
    exact ⟨_, p, rfl, Nat.le_refl _, Nat.le_refl _, by omega, by omega, H.out, gr_selfG _ _⟩

set_option maxRecDepth 100000 in
set_option maxHeartbeats 4000000 in
theorem draw_zero2 (g n c p : Nat) (A : Option Addr) (f : Int) (z o : ByteArray) (w : World) (h : Rd13 w g A n c p) (hf : f ≤ 0) :
    Calls Tryz.prog 44 #[.pointer (some ⟨g, 0, none⟩), .int .i64 2, .int .i64 f, .string z, .string o] w (DrP g n c p 2 1 A w) := by
  have H := Lib.hid h
  clear h
  go_enter Tryz.func44, Tryz.ntmps44
  go_wp2_with fail
  go_ret
  exact ⟨_, p, rfl, Nat.le_refl _, Nat.le_refl _, by omega, by omega, H.out, gr_selfG _ _⟩

theorem draw_zero (g n c p : Nat) (A : Option Addr) (d f : Int) (z o : ByteArray) (w : World) (h : Rd13 w g A n c p) (hd : d = 0 ∨ d = 1 ∨ d = 2) (hf : f ≤ 0) (hp : p ≤ 900000) (hn2 : n ≤ 2000) (hz : z.size ≤ 100) (ho : o.size ≤ 100) :
    Calls Tryz.prog 44 #[.pointer (some ⟨g, 0, none⟩), .int .i64 d, .int .i64 f, .string z, .string o] w (DrP g n c p 2 1 A w) := by
  rcases hd with rfl | rfl | rfl
  · exact draw_zero0 g n c p A f z o w h hf hp hn2 hz
  · exact draw_zero1 g n c p A f z o w h hf hp hn2 ho
  · exact draw_zero2 g n c p A f z o w h hf
end

section
open Go.RowKit

/-- What a draw with less fuel does. -/
def DrH (m K L : Nat) (g n c : Nat) (A : Option Addr) : Prop := ∀ (d f : Int) (z o : ByteArray) (p : Nat) (w : World), (d = 0 ∨ d = 1 ∨ d = 2) → f ≤ m → z.size + m ≤ 50 → o.size + m ≤ 50 → p + K ≤ 800000 → Rd13 w g A n c p →
  Calls Tryz.prog 44 #[.pointer (some ⟨g, 0, none⟩), .int .i64 d, .int .i64 f, .string z, .string o] w (DrP g n c p K L A w)

theorem DrP.wide {g n c p p0 K L K' L' : Nat} {A : Option Addr} {w w0 : World} {e : Ending} {w' : World} (h : DrP g n c p K L A w e w') (h1 : p0 ≤ p) (h2 : p + K ≤ p0 + K') (h3 : L ≤ L') (hg : w0.grownBy w (some g)) : DrP g n c p0 K' L' A w0 e w' := by
  obtain ⟨s, p', he, a1, a2, a3, a4, hr, hgg⟩ := h
  exact ⟨s, p', he, a1, by omega, by omega, by omega, hr, hg.trans hgg⟩

theorem name_at (f : Int) (z o : Nat) (h0 : 0 < f) (h1 : f ≤ 60) (h2 : z ≤ 60) (h3 : o ≤ 60) : ∃ i : Nat, i < 5 ∧ (f + z + 2 * o).tmod 5 = (i : Int) := by
  refine ⟨((f + z + 2 * o) % 5).toNat, by omega, ?_⟩
  rw [Int.tmod_eq_emod_of_nonneg (by omega)]
  omega

theorem strs_new (w : World) (ss : List ByteArray) (ty : TypeId) : Strs (w.alloc (.cells (List.toArray (List.map Value.string ss)) ty)) (some ⟨w.heap.size, 0, none⟩) ss := fun _ =>
  ⟨_, _, rfl, by simp, fun j s hj => by
    have h1 := heap_alloc_new w (.cells (List.toArray (List.map Value.string ss)) ty)
    simp only [World.cell?, h1]
    simp [hj]⟩

set_option maxRecDepth 100000 in
set_option maxHeartbeats 16000000 in
theorem draw_up0 (m K L g n c p : Nat) (A : Option Addr) (f : Int) (z o : ByteArray) (w : World) (hI : DrH m K L g n c A) (h : Rd13 w g A n c p) (hf : 0 < f) (hfm : f ≤ m + 1) (hm : m ≤ 20) (hL : L ≤ 100000) (hK : K ≤ 100000) (hp : p + (2 * K + 2) ≤ 800000) (hn2 : n ≤ 2000)
    (hz : z.size + m < 50) (ho : o.size + m < 50) :
    Calls Tryz.prog 44 #[.pointer (some ⟨g, 0, none⟩), .int .i64 0, .int .i64 f, .string z, .string o] w (DrP g n c p (2 * K + 2) (2 * L + 5) A w) := by
  have H := Lib.hid h
  have HI := Lib.hid hI
  obtain ⟨i, hi5, hi⟩ := name_at f z.size o.size hf (by omega) (by omega) (by omega)
  obtain ⟨zs, hzs⟩ : ∃ k, z.size = k := ⟨_, rfl⟩
  obtain ⟨os, hos⟩ : ∃ k, o.size = k := ⟨_, rfl⟩
  have HZ := Lib.hid hzs
  have HO := Lib.hid hos
  rw [hzs, hos] at hi
  rw [hzs] at hz
  rw [hos] at ho
  have hf2 : ¬ f ≤ 0 := by omega
  have hi6 : ¬ ((i : Int) < 0) := by omega
  have hnm : ((⟨#[118, 119, 120, 121, 122]⟩ : ByteArray).extract i (i + 1)).size = 1 := by rw [ext_one]; show i < 5; exact hi5
  have H7 := Lib.hid (pick_any g n c p A 7 w H.out (by omega) hn2 (by omega) (by omega))
  clear h hI
  go_enter Tryz.func44, Tryz.ntmps44
  go_wp2_with fail
  refine H7.out.mono ?_
  rintro e w1 ⟨x, rfl, hx0, hx1, hr1, hg1⟩
  have HR1 := Lib.hid hr1
  have HG1 := Lib.hid hg1
  clear hr1 hg1
  by_cases h0 : x = 0
  · subst h0
    go_wp2_with fail
    refine (HI.out 1 (f - 1) z o (p + 1) w1 (by omega) (by omega) (by have := HZ.out; omega) (by have := HO.out; omega) (by omega) HR1.out).mono ?_
    rintro e w2 ⟨s2, p2, rfl, hs2, ht2, hp2, hq2, hr2, hg2⟩
    have HR2 := Lib.hid hr2
    have HG2 := Lib.hid (HG1.out.trans hg2)
    clear hr2 hg2
    go_wp2_with fail
    have c0 : (⟨#[83]⟩ : ByteArray).size = 1 := rfl
    go_ret
    exact ⟨_, p2, rfl, by (simp only [ByteArray.size_append]; omega), by (simp only [ByteArray.size_append]; omega), by omega, by omega, HR2.out, HG2.out⟩
  by_cases h1 : x = 1
  · subst h1
    go_wp2_with fail
    have HRA := Lib.hid (HR1.out.grown (World.grownBy_alloc w1 (.cells (List.toArray (List.map Value.string [⟨#[77]⟩, ⟨#[78]⟩])) 9) none) (by simp) (by simp))
    refine (oftxt_any g n c (p + 1) A _ 2 [⟨#[77]⟩, ⟨#[78]⟩] _ HRA.out (strs_new w1 [⟨#[77]⟩, ⟨#[78]⟩] _) (fun b off e => by cases e; have := HR1.out.lt; omega) (by omega) hn2 (by simp) (by simp)).mono ?_
    rintro e w2 ⟨s2, rfl, hm2, hr2, hg2⟩
    have hs2 : s2.size = 1 := by
      simp only [List.mem_cons, List.not_mem_nil, or_false] at hm2
      rcases hm2 with rfl | rfl <;> rfl
    have HR2 := Lib.hid hr2
    have HG2 := Lib.hid (HG1.out.trans ((gr_someG (World.grownBy_alloc w1 _ none)).trans hg2))
    clear hr2 hg2 hm2 HRA
    obtain ⟨p2, hp2⟩ : ∃ q, (p + 1) + 1 = q := ⟨_, rfl⟩
    rw [hp2] at HR2
    go_wp2_with fail
    refine (HI.out 1 (f - 1) z o p2 w2 (by omega) (by omega) (by have := HZ.out; omega) (by have := HO.out; omega) (by omega) HR2.out).mono ?_
    rintro e w3 ⟨s3, p3, rfl, hs3, ht3, hp3, hq3, hr3, hg3⟩
    have HR3 := Lib.hid hr3
    have HG3 := Lib.hid (HG2.out.trans hg3)
    clear hr3 hg3
    go_wp2_with fail
    go_ret
    exact ⟨_, p3, rfl, by (simp only [ByteArray.size_append]; omega), by (simp only [ByteArray.size_append]; omega), by omega, by omega, HR3.out, HG3.out⟩
  by_cases h2 : x = 2
  · subst h2
    go_wp2_with fail
    refine (HI.out 1 (f - 2) z o (p + 1) w1 (by omega) (by omega) (by have := HZ.out; omega) (by have := HO.out; omega) (by omega) HR1.out).mono ?_
    rintro e w2 ⟨s2, p2, rfl, hs2, ht2, hp2, hq2, hr2, hg2⟩
    have HR2 := Lib.hid hr2
    have HG2 := Lib.hid (HG1.out.trans hg2)
    clear hr2 hg2
    go_wp2_with fail
    refine (HI.out 0 (f - 2) z o p2 w2 (by omega) (by omega) (by have := HZ.out; omega) (by have := HO.out; omega) (by omega) HR2.out).mono ?_
    rintro e w3 ⟨s3, p3, rfl, hs3, ht3, hp3, hq3, hr3, hg3⟩
    have HR3 := Lib.hid hr3
    have HG3 := Lib.hid (HG2.out.trans hg3)
    clear hr3 hg3
    go_wp2_with fail
    have c0 : (⟨#[40]⟩ : ByteArray).size = 1 := rfl
    have c1 : (⟨#[41]⟩ : ByteArray).size = 1 := rfl
    have c2 : (⟨#[64]⟩ : ByteArray).size = 1 := rfl
    go_ret
    exact ⟨_, p3, rfl, by (simp only [ByteArray.size_append]; omega), by (simp only [ByteArray.size_append]; omega), by omega, by omega, HR3.out, HG3.out⟩
  by_cases h3 : x = 3
  · subst h3
    go_wp2_with fail
    refine (HI.out 0 0 z o (p + 1) w1 (by omega) (by omega) (by have := HZ.out; omega) (by have := HO.out; omega) (by omega) HR1.out).mono ?_
    rintro e w2 ⟨s2, p2, rfl, hs2, ht2, hp2, hq2, hr2, hg2⟩
    have HR2 := Lib.hid hr2
    have HG2 := Lib.hid (HG1.out.trans hg2)
    clear hr2 hg2
    go_wp2_with fail
    go_ret
    exact ⟨_, p2, rfl, by omega, by omega, by omega, by omega, HR2.out, HG2.out⟩
  have k0 : (x == 0) = false := by rw [beq_eq_false_iff_ne]; exact h0
  have k1 : (x == 1) = false := by rw [beq_eq_false_iff_ne]; exact h1
  have k2 : (x == 2) = false := by rw [beq_eq_false_iff_ne]; exact h2
  have k3 : (x == 3) = false := by rw [beq_eq_false_iff_ne]; exact h3
  go_wp2_with fail
  refine (HI.out 0 (f - 2) z o (p + 1) w1 (by omega) (by omega) (by have := HZ.out; omega) (by have := HO.out; omega) (by omega) HR1.out).mono ?_
  rintro e w2 ⟨s2, p2, rfl, hs2, ht2, hp2, hq2, hr2, hg2⟩
  have HR2 := Lib.hid hr2
  have HG2 := Lib.hid (HG1.out.trans hg2)
  clear hr2 hg2
  go_wp2_with fail
  have HRA := Lib.hid (HR2.out.grown (World.grownBy_alloc w2 (.cells (List.toArray (List.map Value.string [⟨#[43]⟩, ⟨#[42]⟩, ⟨#[94]⟩, ⟨#[45]⟩, ⟨#[61]⟩, ⟨#[60]⟩])) 9) none) (by simp) (by simp))
  refine (oftxt_any g n c p2 A _ 6 [⟨#[43]⟩, ⟨#[42]⟩, ⟨#[94]⟩, ⟨#[45]⟩, ⟨#[61]⟩, ⟨#[60]⟩] _ HRA.out (strs_new w2 [⟨#[43]⟩, ⟨#[42]⟩, ⟨#[94]⟩, ⟨#[45]⟩, ⟨#[61]⟩, ⟨#[60]⟩] _) (fun b off e => by cases e; have := HR2.out.lt; omega) (by omega) hn2 (by simp) (by simp)).mono ?_
  rintro e w3 ⟨s3, rfl, hm3, hr3, hg3⟩
  have hs3 : s3.size = 1 := by
    simp only [List.mem_cons, List.not_mem_nil, or_false] at hm3
    rcases hm3 with rfl | rfl | rfl | rfl | rfl | rfl <;> rfl
  have HR3 := Lib.hid hr3
  have HG3 := Lib.hid (HG2.out.trans ((gr_someG (World.grownBy_alloc w2 _ none)).trans hg3))
  clear hr3 hg3 hm3 HRA
  obtain ⟨p3, hp3⟩ : ∃ q, p2 + 1 = q := ⟨_, rfl⟩
  rw [hp3] at HR3
  go_wp2_with fail
  refine (HI.out 0 (f - 2) z o p3 w3 (by omega) (by omega) (by have := HZ.out; omega) (by have := HO.out; omega) (by omega) HR3.out).mono ?_
  rintro e w4 ⟨s4, p4, rfl, hs4, ht4, hp4, hq4, hr4, hg4⟩
  have HR4 := Lib.hid hr4
  have HG4 := Lib.hid (HG3.out.trans hg4)
  clear hr4 hg4
  go_wp2_with fail
  have c0 : (⟨#[40]⟩ : ByteArray).size = 1 := rfl
  have c1 : (⟨#[41]⟩ : ByteArray).size = 1 := rfl
  go_ret
  exact ⟨_, p4, rfl, by (simp only [ByteArray.size_append]; omega), by (simp only [ByteArray.size_append]; omega), by omega, by omega, HR4.out, HG4.out⟩
end

section
open Go.RowKit

set_option maxRecDepth 100000 in
set_option maxHeartbeats 16000000 in
theorem draw_up1 (m K L g n c p : Nat) (A : Option Addr) (f : Int) (z o : ByteArray) (w : World) (hI : DrH m K L g n c A) (h : Rd13 w g A n c p) (hf : 0 < f) (hfm : f ≤ m + 1) (hm : m ≤ 20) (hL : L ≤ 100000) (hK : K ≤ 100000) (hp : p + (2 * K + 2) ≤ 800000) (hn2 : n ≤ 2000)
    (hz : z.size + m < 50) (ho : o.size + m < 50) :
    Calls Tryz.prog 44 #[.pointer (some ⟨g, 0, none⟩), .int .i64 1, .int .i64 f, .string z, .string o] w (DrP g n c p (2 * K + 2) (2 * L + 5) A w) := by
  have H := Lib.hid h
  have HI := Lib.hid hI
  obtain ⟨i, hi5, hi⟩ := name_at f z.size o.size hf (by omega) (by omega) (by omega)
  obtain ⟨zs, hzs⟩ : ∃ k, z.size = k := ⟨_, rfl⟩
  obtain ⟨os, hos⟩ : ∃ k, o.size = k := ⟨_, rfl⟩
  have HZ := Lib.hid hzs
  have HO := Lib.hid hos
  rw [hzs, hos] at hi
  rw [hzs] at hz
  rw [hos] at ho
  have hf2 : ¬ f ≤ 0 := by omega
  have hi6 : ¬ ((i : Int) < 0) := by omega
  have hnm : ((⟨#[118, 119, 120, 121, 122]⟩ : ByteArray).extract i (i + 1)).size = 1 := by rw [ext_one]; show i < 5; exact hi5
  have H7 := Lib.hid (pick_any g n c p A 7 w H.out (by omega) hn2 (by omega) (by omega))
  clear h hI
  go_enter Tryz.func44, Tryz.ntmps44
  go_wp2_with fail
  refine H7.out.mono ?_
  rintro e w1 ⟨x, rfl, hx0, hx1, hr1, hg1⟩
  have HR1 := Lib.hid hr1
  have HG1 := Lib.hid hg1
  clear hr1 hg1
  by_cases h0 : x = 0
  · subst h0
    go_wp2_with fail
    refine (HI.out 0 (f - 1) z o (p + 1) w1 (by omega) (by omega) (by have := HZ.out; omega) (by have := HO.out; omega) (by omega) HR1.out).mono ?_
    rintro e w2 ⟨s2, p2, rfl, hs2, ht2, hp2, hq2, hr2, hg2⟩
    have HR2 := Lib.hid hr2
    have HG2 := Lib.hid (HG1.out.trans hg2)
    clear hr2 hg2
    go_wp2_with fail
    have c0 : (⟨#[73]⟩ : ByteArray).size = 1 := rfl
    go_ret
    exact ⟨_, p2, rfl, by (simp only [ByteArray.size_append]; omega), by (simp only [ByteArray.size_append]; omega), by omega, by omega, HR2.out, HG2.out⟩
  by_cases h1 : x = 1
  · subst h1
    go_wp2_with fail
    have HRA := Lib.hid (HR1.out.grown (World.grownBy_alloc w1 (.cells (List.toArray (List.map Value.string [⟨#[82]⟩, ⟨#[80]⟩])) 9) none) (by simp) (by simp))
    refine (oftxt_any g n c (p + 1) A _ 2 [⟨#[82]⟩, ⟨#[80]⟩] _ HRA.out (strs_new w1 [⟨#[82]⟩, ⟨#[80]⟩] _) (fun b off e => by cases e; have := HR1.out.lt; omega) (by omega) hn2 (by simp) (by simp)).mono ?_
    rintro e w2 ⟨s2, rfl, hm2, hr2, hg2⟩
    have hs2 : s2.size = 1 := by
      simp only [List.mem_cons, List.not_mem_nil, or_false] at hm2
      rcases hm2 with rfl | rfl <;> rfl
    have HR2 := Lib.hid hr2
    have HG2 := Lib.hid (HG1.out.trans ((gr_someG (World.grownBy_alloc w1 _ none)).trans hg2))
    clear hr2 hg2 hm2 HRA
    obtain ⟨p2, hp2⟩ : ∃ q, (p + 1) + 1 = q := ⟨_, rfl⟩
    rw [hp2] at HR2
    go_wp2_with fail
    refine (HI.out 1 (f - 1) z o p2 w2 (by omega) (by omega) (by have := HZ.out; omega) (by have := HO.out; omega) (by omega) HR2.out).mono ?_
    rintro e w3 ⟨s3, p3, rfl, hs3, ht3, hp3, hq3, hr3, hg3⟩
    have HR3 := Lib.hid hr3
    have HG3 := Lib.hid (HG2.out.trans hg3)
    clear hr3 hg3
    go_wp2_with fail
    go_ret
    exact ⟨_, p3, rfl, by (simp only [ByteArray.size_append]; omega), by (simp only [ByteArray.size_append]; omega), by omega, by omega, HR3.out, HG3.out⟩
  by_cases h2 : x = 2
  · subst h2
    go_wp2_with fail
    refine (HI.out 2 (f - 1) z o (p + 1) w1 (by omega) (by omega) (by have := HZ.out; omega) (by have := HO.out; omega) (by omega) HR1.out).mono ?_
    rintro e w2 ⟨s2, p2, rfl, hs2, ht2, hp2, hq2, hr2, hg2⟩
    have HR2 := Lib.hid hr2
    have HG2 := Lib.hid (HG1.out.trans hg2)
    clear hr2 hg2
    go_wp2_with fail
    have c0 : (⟨#[67]⟩ : ByteArray).size = 1 := rfl
    go_ret
    exact ⟨_, p2, rfl, by (simp only [ByteArray.size_append]; omega), by (simp only [ByteArray.size_append]; omega), by omega, by omega, HR2.out, HG2.out⟩
  by_cases h3 : x = 3
  · subst h3
    go_wp2_with fail
    refine (HI.out 1 (f - 2) z o (p + 1) w1 (by omega) (by omega) (by have := HZ.out; omega) (by have := HO.out; omega) (by omega) HR1.out).mono ?_
    rintro e w2 ⟨s2, p2, rfl, hs2, ht2, hp2, hq2, hr2, hg2⟩
    have HR2 := Lib.hid hr2
    have HG2 := Lib.hid (HG1.out.trans hg2)
    clear hr2 hg2
    go_wp2_with fail
    refine (bind_any z _ w2 (by have := HZ.out; omega) hnm).mono ?_
    rintro e w9 ⟨z2, rfl, hz2, hw9⟩
    subst w9
    go_wp2_with fail
    refine (unbind_any o _ w2 (by have := HO.out; omega)).mono ?_
    rintro e w9 ⟨o2, rfl, ho2, hw9⟩
    subst w9
    go_wp2_with fail
    refine (HI.out 0 (f - 2) z2 o2 p2 w2 (by omega) (by omega) (by have := HZ.out; omega) (by have := HO.out; omega) (by omega) HR2.out).mono ?_
    rintro e w3 ⟨s3, p3, rfl, hs3, ht3, hp3, hq3, hr3, hg3⟩
    have HR3 := Lib.hid hr3
    have HG3 := Lib.hid (HG2.out.trans hg3)
    clear hr3 hg3
    go_wp2_with fail
    have c0 : (⟨#[58]⟩ : ByteArray).size = 1 := rfl
    have c1 : (⟨#[62]⟩ : ByteArray).size = 1 := rfl
    have c2 : (⟨#[123]⟩ : ByteArray).size = 1 := rfl
    have c3 : (⟨#[125]⟩ : ByteArray).size = 1 := rfl
    go_ret
    exact ⟨_, p3, rfl, by (simp only [ByteArray.size_append]; omega), by (simp only [ByteArray.size_append]; omega), by omega, by omega, HR3.out, HG3.out⟩
  by_cases h4 : x = 4
  · subst h4
    go_wp2_with fail
    refine (HI.out 2 (f - 2) z o (p + 1) w1 (by omega) (by omega) (by have := HZ.out; omega) (by have := HO.out; omega) (by omega) HR1.out).mono ?_
    rintro e w2 ⟨s2, p2, rfl, hs2, ht2, hp2, hq2, hr2, hg2⟩
    have HR2 := Lib.hid hr2
    have HG2 := Lib.hid (HG1.out.trans hg2)
    clear hr2 hg2
    go_wp2_with fail
    refine (unbind_any z _ w2 (by have := HZ.out; omega)).mono ?_
    rintro e w9 ⟨z2, rfl, hz2, hw9⟩
    subst w9
    go_wp2_with fail
    refine (bind_any o _ w2 (by have := HO.out; omega) hnm).mono ?_
    rintro e w9 ⟨o2, rfl, ho2, hw9⟩
    subst w9
    go_wp2_with fail
    refine (HI.out 0 (f - 2) z2 o2 p2 w2 (by omega) (by omega) (by have := HZ.out; omega) (by have := HO.out; omega) (by omega) HR2.out).mono ?_
    rintro e w3 ⟨s3, p3, rfl, hs3, ht3, hp3, hq3, hr3, hg3⟩
    have HR3 := Lib.hid hr3
    have HG3 := Lib.hid (HG2.out.trans hg3)
    clear hr3 hg3
    go_wp2_with fail
    have c0 : (⟨#[58]⟩ : ByteArray).size = 1 := rfl
    have c1 : (⟨#[62]⟩ : ByteArray).size = 1 := rfl
    have c2 : (⟨#[91]⟩ : ByteArray).size = 1 := rfl
    have c3 : (⟨#[93]⟩ : ByteArray).size = 1 := rfl
    go_ret
    exact ⟨_, p3, rfl, by (simp only [ByteArray.size_append]; omega), by (simp only [ByteArray.size_append]; omega), by omega, by omega, HR3.out, HG3.out⟩
  have k0 : (x == 0) = false := by rw [beq_eq_false_iff_ne]; exact h0
  have k1 : (x == 1) = false := by rw [beq_eq_false_iff_ne]; exact h1
  have k2 : (x == 2) = false := by rw [beq_eq_false_iff_ne]; exact h2
  have k3 : (x == 3) = false := by rw [beq_eq_false_iff_ne]; exact h3
  have k4 : (x == 4) = false := by rw [beq_eq_false_iff_ne]; exact h4
  go_wp2_with fail
  refine (HI.out 1 (f - 2) z o (p + 1) w1 (by omega) (by omega) (by have := HZ.out; omega) (by have := HO.out; omega) (by omega) HR1.out).mono ?_
  rintro e w2 ⟨s2, p2, rfl, hs2, ht2, hp2, hq2, hr2, hg2⟩
  have HR2 := Lib.hid hr2
  have HG2 := Lib.hid (HG1.out.trans hg2)
  clear hr2 hg2
  go_wp2_with fail
  refine (bind_any z _ w2 (by have := HZ.out; omega) hnm).mono ?_
  rintro e w9 ⟨z2, rfl, hz2, hw9⟩
  subst w9
  go_wp2_with fail
  refine (unbind_any o _ w2 (by have := HO.out; omega)).mono ?_
  rintro e w9 ⟨o2, rfl, ho2, hw9⟩
  subst w9
  go_wp2_with fail
  refine (HI.out 0 (f - 2) z2 o2 p2 w2 (by omega) (by omega) (by have := HZ.out; omega) (by have := HO.out; omega) (by omega) HR2.out).mono ?_
  rintro e w3 ⟨s3, p3, rfl, hs3, ht3, hp3, hq3, hr3, hg3⟩
  have HR3 := Lib.hid hr3
  have HG3 := Lib.hid (HG2.out.trans hg3)
  clear hr3 hg3
  go_wp2_with fail
  have c0 : (⟨#[58]⟩ : ByteArray).size = 1 := rfl
  have c1 : (⟨#[62]⟩ : ByteArray).size = 1 := rfl
  have c2 : (⟨#[91]⟩ : ByteArray).size = 1 := rfl
  have c3 : (⟨#[93]⟩ : ByteArray).size = 1 := rfl
  go_ret
  exact ⟨_, p3, rfl, by (simp only [ByteArray.size_append]; omega), by (simp only [ByteArray.size_append]; omega), by omega, by omega, HR3.out, HG3.out⟩
end

section
open Go.RowKit

set_option maxRecDepth 100000 in
set_option maxHeartbeats 16000000 in
theorem draw_up2 (m K L g n c p : Nat) (A : Option Addr) (f : Int) (z o : ByteArray) (w : World) (hI : DrH m K L g n c A) (h : Rd13 w g A n c p) (hf : 0 < f) (hfm : f ≤ m + 1) (hm : m ≤ 20) (hL : L ≤ 100000) (hK : K ≤ 100000) (hp : p + (2 * K + 2) ≤ 800000) (hn2 : n ≤ 2000)
    (hz : z.size + m < 50) (ho : o.size + m < 50) :
    Calls Tryz.prog 44 #[.pointer (some ⟨g, 0, none⟩), .int .i64 2, .int .i64 f, .string z, .string o] w (DrP g n c p (2 * K + 2) (2 * L + 5) A w) := by
  have H := Lib.hid h
  have HI := Lib.hid hI
  obtain ⟨i, hi5, hi⟩ := name_at f z.size o.size hf (by omega) (by omega) (by omega)
  obtain ⟨zs, hzs⟩ : ∃ k, z.size = k := ⟨_, rfl⟩
  obtain ⟨os, hos⟩ : ∃ k, o.size = k := ⟨_, rfl⟩
  have HZ := Lib.hid hzs
  have HO := Lib.hid hos
  rw [hzs, hos] at hi
  rw [hzs] at hz
  rw [hos] at ho
  have hf2 : ¬ f ≤ 0 := by omega
  have hi6 : ¬ ((i : Int) < 0) := by omega
  have hnm : ((⟨#[118, 119, 120, 121, 122]⟩ : ByteArray).extract i (i + 1)).size = 1 := by rw [ext_one]; show i < 5; exact hi5
  have H7 := Lib.hid (pick_any g n c p A 3 w H.out (by omega) hn2 (by omega) (by omega))
  clear h hI
  go_enter Tryz.func44, Tryz.ntmps44
  go_wp2_with fail
  refine H7.out.mono ?_
  rintro e w1 ⟨x, rfl, hx0, hx1, hr1, hg1⟩
  have HR1 := Lib.hid hr1
  have HG1 := Lib.hid hg1
  clear hr1 hg1
  by_cases h0 : x = 0
  · subst h0
    go_wp2_with fail
    go_ret
    exact ⟨_, (p + 1), rfl, Nat.le_refl _, by show 1 ≤ _; omega, by omega, by omega, HR1.out, HG1.out⟩
  by_cases h1 : x = 1
  · subst h1
    go_wp2_with fail
    refine (HI.out 1 (f - 2) z o (p + 1) w1 (by omega) (by omega) (by have := HZ.out; omega) (by have := HO.out; omega) (by omega) HR1.out).mono ?_
    rintro e w2 ⟨s2, p2, rfl, hs2, ht2, hp2, hq2, hr2, hg2⟩
    have HR2 := Lib.hid hr2
    have HG2 := Lib.hid (HG1.out.trans hg2)
    clear hr2 hg2
    go_wp2_with fail
    refine (bind_any z _ w2 (by have := HZ.out; omega) hnm).mono ?_
    rintro e w9 ⟨z2, rfl, hz2, hw9⟩
    subst w9
    go_wp2_with fail
    refine (unbind_any o _ w2 (by have := HO.out; omega)).mono ?_
    rintro e w9 ⟨o2, rfl, ho2, hw9⟩
    subst w9
    go_wp2_with fail
    refine (HI.out 1 (f - 2) z2 o2 p2 w2 (by omega) (by omega) (by have := HZ.out; omega) (by have := HO.out; omega) (by omega) HR2.out).mono ?_
    rintro e w3 ⟨s3, p3, rfl, hs3, ht3, hp3, hq3, hr3, hg3⟩
    have HR3 := Lib.hid hr3
    have HG3 := Lib.hid (HG2.out.trans hg3)
    clear hr3 hg3
    go_wp2_with fail
    have c0 : (⟨#[58]⟩ : ByteArray).size = 1 := rfl
    have c1 : (⟨#[62]⟩ : ByteArray).size = 1 := rfl
    have c2 : (⟨#[91]⟩ : ByteArray).size = 1 := rfl
    have c3 : (⟨#[93]⟩ : ByteArray).size = 1 := rfl
    go_ret
    exact ⟨_, p3, rfl, by (simp only [ByteArray.size_append]; omega), by (simp only [ByteArray.size_append]; omega), by omega, by omega, HR3.out, HG3.out⟩
  have k0 : (x == 0) = false := by rw [beq_eq_false_iff_ne]; exact h0
  have k1 : (x == 1) = false := by rw [beq_eq_false_iff_ne]; exact h1
  go_wp2_with fail
  refine (HI.out 2 (f - 2) z o (p + 1) w1 (by omega) (by omega) (by have := HZ.out; omega) (by have := HO.out; omega) (by omega) HR1.out).mono ?_
  rintro e w2 ⟨s2, p2, rfl, hs2, ht2, hp2, hq2, hr2, hg2⟩
  have HR2 := Lib.hid hr2
  have HG2 := Lib.hid (HG1.out.trans hg2)
  clear hr2 hg2
  go_wp2_with fail
  refine (unbind_any z _ w2 (by have := HZ.out; omega)).mono ?_
  rintro e w9 ⟨z2, rfl, hz2, hw9⟩
  subst w9
  go_wp2_with fail
  refine (bind_any o _ w2 (by have := HO.out; omega) hnm).mono ?_
  rintro e w9 ⟨o2, rfl, ho2, hw9⟩
  subst w9
  go_wp2_with fail
  refine (HI.out 1 (f - 2) z2 o2 p2 w2 (by omega) (by omega) (by have := HZ.out; omega) (by have := HO.out; omega) (by omega) HR2.out).mono ?_
  rintro e w3 ⟨s3, p3, rfl, hs3, ht3, hp3, hq3, hr3, hg3⟩
  have HR3 := Lib.hid hr3
  have HG3 := Lib.hid (HG2.out.trans hg3)
  clear hr3 hg3
  go_wp2_with fail
  have c0 : (⟨#[58]⟩ : ByteArray).size = 1 := rfl
  have c1 : (⟨#[62]⟩ : ByteArray).size = 1 := rfl
  have c2 : (⟨#[91]⟩ : ByteArray).size = 1 := rfl
  have c3 : (⟨#[93]⟩ : ByteArray).size = 1 := rfl
  go_ret
  exact ⟨_, p3, rfl, by (simp only [ByteArray.size_append]; omega), by (simp only [ByteArray.size_append]; omega), by omega, by omega, HR3.out, HG3.out⟩
end

section
open Go.RowKit

def bsz : Nat → Nat
  | 0 => 1
  | m + 1 => 2 * bsz m + 5
def bk : Nat → Nat
  | 0 => 2
  | m + 1 => 2 * bk m + 2
theorem bsz_eq : ∀ m, bsz m + 5 = 6 * 2 ^ m
  | 0 => rfl
  | m + 1 => by have := bsz_eq m; simp only [bsz, Nat.pow_succ]; omega
theorem bk_eq : ∀ m, bk m + 2 = 4 * 2 ^ m
  | 0 => rfl
  | m + 1 => by have := bk_eq m; simp only [bk, Nat.pow_succ]; omega
theorem two_le {m : Nat} (h : m ≤ 10) : 2 ^ m ≤ 1024 := Nat.pow_le_pow_right (n := 2) (by omega) h
theorem two_ge (m : Nat) : 1 ≤ 2 ^ m := Nat.one_le_two_pow

theorem draw_any (g n c : Nat) (A : Option Addr) (hn2 : n ≤ 2000) : ∀ m, m ≤ 10 → DrH m (bk m) (bsz m) g n c A
  | 0, _ => fun d f z o p w hd hf hz ho hp h => by
    have : bk 0 = 2 := rfl
    exact draw_zero g n c p A d f z o w h hd hf (by omega) hn2 (by omega) (by omega)
  | m + 1, hm => fun d f z o p w hd hf hz ho hp h => by
    have b1 := bsz_eq m
    have b2 := bk_eq m
    have b3 := two_le (m := m) (by omega)
    have b4 := two_ge m
    have e1 : bk (m + 1) = 2 * bk m + 2 := rfl
    have e2 : bsz (m + 1) = 2 * bsz m + 5 := rfl
    by_cases hf0 : f ≤ 0
    · exact (draw_zero g n c p A d f z o w h hd hf0 (by omega) hn2 (by omega) (by omega)).mono fun e w' hq => hq.wide (Nat.le_refl _) (by omega) (by omega) (gr_refl _ _)
    · have hI := draw_any g n c A hn2 m (by omega)
      rw [e1, e2]
      rcases hd with rfl | rfl | rfl
      · exact draw_up0 m (bk m) (bsz m) g n c p A f z o w hI h (by omega) (by omega) (by omega) (by omega) (by omega) (by omega) hn2 (by omega) (by omega)
      · exact draw_up1 m (bk m) (bsz m) g n c p A f z o w hI h (by omega) (by omega) (by omega) (by omega) (by omega) (by omega) hn2 (by omega) (by omega)
      · exact draw_up2 m (bk m) (bsz m) g n c p A f z o w hI h (by omega) (by omega) (by omega) (by omega) (by omega) (by omega) hn2 (by omega) (by omega)

def known16 : List ByteArray := [⟨#[83, 97]⟩, ⟨#[91, 120, 58, 98, 62, 83, 120, 93]⟩, ⟨#[83, 91, 120, 58, 98, 62, 83, 91, 121, 58, 120, 62, 40, 121, 42, 121, 41, 93, 93]⟩, ⟨#[91, 120, 58, 97, 62, 73, 120, 93]⟩, ⟨#[67, 91, 120, 58, 97, 62, 73, 40, 120, 43, 49, 41, 93]⟩, ⟨#[123, 120, 58, 97, 62, 40, 120, 60, 51, 41, 125]⟩, ⟨#[91, 120, 58, 98, 62, 123, 121, 58, 120, 62, 40, 121, 60, 83, 120, 41, 125, 93]⟩, ⟨#[91, 120, 58, 97, 62, 40, 97, 64, 120, 41, 93]⟩, ⟨#[91, 120, 58, 98, 62, 91, 121, 58, 120, 62, 40, 121, 43, 78, 120, 41, 93, 93]⟩, ⟨#[80, 97]⟩, ⟨#[91, 120, 58, 98, 62, 80, 120, 93]⟩, ⟨#[82, 91, 120, 58, 97, 62, 40, 120, 43, 49, 41, 93]⟩, ⟨#[91, 120, 58, 73, 78, 97, 62, 120, 93]⟩, ⟨#[77, 91, 120, 58, 98, 62, 78, 120, 93]⟩, ⟨#[91, 120, 58, 97, 62, 91, 121, 58, 97, 62, 40, 120, 42, 121, 41, 93, 93]⟩, ⟨#[91, 120, 58, 91, 121, 58, 97, 62, 40, 121, 43, 49, 41, 93, 62, 40, 120, 42, 50, 41, 93]⟩]
theorem known_sizes : ∀ s ∈ known16, 1 ≤ s.size ∧ s.size ≤ 80 := by
  intro s hs
  simp only [known16, List.mem_cons, List.not_mem_nil, or_false] at hs
  rcases hs with rfl | rfl | rfl | rfl | rfl | rfl | rfl | rfl | rfl | rfl | rfl | rfl | rfl | rfl | rfl | rfl <;> exact ⟨by decide, by decide⟩

set_option maxRecDepth 100000 in
set_option maxHeartbeats 4000000 in
theorem known_any (x : Int) (w : World) (h0 : 0 ≤ x) (h1 : x < 16) :
    Calls Tryz.prog 43 #[.int .i64 x] w fun e w' => ∃ s, e = .returned (.string s) ∧ 1 ≤ s.size ∧ s.size ≤ 80 ∧ w.grownBy w' none := by
  obtain ⟨i, rfl⟩ : ∃ i : Nat, x = (i : Int) := ⟨x.toNat, by omega⟩
  obtain ⟨s, hs⟩ : ∃ s, known16[i]? = some s := ⟨_, List.getElem?_eq_getElem (by show i < 16; omega)⟩
  have HB := Lib.hid (known_sizes s (List.mem_of_getElem? hs))
  have hc : (w.alloc (.cells #[.string ⟨#[83, 97]⟩, .string ⟨#[91, 120, 58, 98, 62, 83, 120, 93]⟩, .string ⟨#[83, 91, 120, 58, 98, 62, 83, 91, 121, 58, 120, 62, 40, 121, 42, 121, 41, 93, 93]⟩, .string ⟨#[91, 120, 58, 97, 62, 73, 120, 93]⟩, .string ⟨#[67, 91, 120, 58, 97, 62, 73, 40, 120, 43, 49, 41, 93]⟩, .string ⟨#[123, 120, 58, 97, 62, 40, 120, 60, 51, 41, 125]⟩, .string ⟨#[91, 120, 58, 98, 62, 123, 121, 58, 120, 62, 40, 121, 60, 83, 120, 41, 125, 93]⟩, .string ⟨#[91, 120, 58, 97, 62, 40, 97, 64, 120, 41, 93]⟩, .string ⟨#[91, 120, 58, 98, 62, 91, 121, 58, 120, 62, 40, 121, 43, 78, 120, 41, 93, 93]⟩, .string ⟨#[80, 97]⟩, .string ⟨#[91, 120, 58, 98, 62, 80, 120, 93]⟩, .string ⟨#[82, 91, 120, 58, 97, 62, 40, 120, 43, 49, 41, 93]⟩, .string ⟨#[91, 120, 58, 73, 78, 97, 62, 120, 93]⟩, .string ⟨#[77, 91, 120, 58, 98, 62, 78, 120, 93]⟩, .string ⟨#[91, 120, 58, 97, 62, 91, 121, 58, 97, 62, 40, 120, 42, 121, 41, 93, 93]⟩, .string ⟨#[91, 120, 58, 91, 121, 58, 97, 62, 40, 121, 43, 49, 41, 93, 62, 40, 120, 42, 50, 41, 93]⟩] 9)).cell? ⟨w.heap.size, i, none⟩ = some (.string s) := by
    obtain ⟨b, off, e, _, hcc⟩ := strs_new w known16 9 (by decide)
    cases e
    have := hcc i s hs
    rw [Nat.zero_add] at this
    exact this
  have ht : (i : Int).tmod 16 = (i : Int) := by rw [Int.tmod_eq_emod_of_nonneg (by omega)]; omega
  clear hs
  go_enter Tryz.func43, Tryz.ntmps43
  go_wp2_with fail
  go_ret
  exact ⟨s, rfl, HB.out.1, HB.out.2, World.grownBy_alloc _ _ _⟩
end

section
open Go.RowKit

def s7L : List ByteArray := [⟨#[]⟩, ⟨#[97]⟩, ⟨#[120]⟩, ⟨#[83]⟩, ⟨#[40]⟩, ⟨#[93]⟩, ⟨#[113]⟩]
theorem s7_size : ∀ s ∈ s7L, s.size ≤ 1 := by
  intro s hs
  simp only [s7L, List.mem_cons, List.not_mem_nil, or_false] at hs
  rcases hs with rfl | rfl | rfl | rfl | rfl | rfl | rfl <;> decide
def cost7 : Nat → Nat
  | 5 => 1
  | 10 => 1
  | _ => 0
def sRz (g i : Nat) (s : ByteArray) : Nat → Value → World → Prop
  | 0, v, _ => v = .string s
  | 7, v, _ => v = .string s
  | 1, v, _ => v = .int .i64 i
  | 8, v, _ => v = .int .i64 i
  | 2, v, _ => ∃ x, v = .string x ∧ x.size ≤ 80
  | 3, v, _ => v = .pointer (some ⟨g, 0, none⟩)
  | 9, v, _ => v = .pointer (some ⟨g, 0, none⟩)
  | 4, v, w => ∃ B, v = .slice (some ⟨B, 0, none⟩) 7 7 ∧ Strs w (some ⟨B, 0, none⟩) s7L ∧ B ≠ g
  | 5, v, _ => ∃ x, v = .string x ∧ x.size ≤ 1
  | 6, v, _ => ∃ x, v = .string x ∧ x.size ≤ 81
  | 10, v, _ => ∃ x, v = .int .i64 x ∧ 0 ≤ x ∧ x < 2
  | 11, v, _ => ∃ x, v = .int .i64 ((i : Int) + x) ∧ 0 ≤ x ∧ x < 2
  | 12, v, _ => ∃ x, v = .string x ∧ x.size ≤ 80
  | _, v, _ => ∃ x, v = .string x ∧ x.size ≤ 161
theorem sRz_mono {g i : Nat} {s : ByteArray} {j : Nat} {v : Value} {w w' : World} (h : sRz g i s j v w) (hg : w.grownBy w' (some g)) : sRz g i s j v w' := by
  by_cases hj : j = 4
  · subst hj
    obtain ⟨B, e, hB, hne⟩ := h
    exact ⟨B, e, hB.grownG hg (fun b off e => by cases e; simpa using hne), hne⟩
  · unfold sRz at h ⊢
    split at h <;> first | exact h | exact absurd rfl hj

/-- How l5Some ends. -/
def SomeP (g n c p : Nat) (A : Option Addr) (w : World) (e : Ending) (w' : World) : Prop := ∃ s p', e = .returned (.string s) ∧ s.size ≤ 161 ∧ p ≤ p' ∧ p' ≤ p + 1000 ∧ Rd13 w' g A n c p' ∧ w.grownBy w' (some g)

set_option maxRecDepth 100000 in
set_option maxHeartbeats 16000000 in
theorem some_any (g n c p : Nat) (A : Option Addr) (w : World) (h : Rd13 w g A n c p) (hp : p ≤ 100000) (hn2 : n ≤ 2000) :
    Calls Tryz.prog 21 #[.pointer (some ⟨g, 0, none⟩)] w (SomeP g n c p A w) := by
  have H16 := Lib.hid (pick_any g n c p A 16 w h (by omega) hn2 (by omega) (by omega))
  have HDR := Lib.hid (draw_any g n c A hn2 6 (by omega))
  have hbk : bk 6 = 254 := rfl
  have hbz : bsz 6 = 379 := rfl
  rw [hbk, hbz] at HDR
  clear h hbk hbz
  go_enter Tryz.func21, Tryz.ntmps21
  go_wp2_with fail
  refine H16.out.mono ?_
  rintro e w1 ⟨x, rfl, hx0, hx1, hr1, hg1⟩
  have HR1 := Lib.hid hr1
  have HG1 := Lib.hid hg1
  clear hr1 hg1 H16
  go_wp2_with fail
  refine (known_any x w1 hx0 hx1).mono ?_
  rintro e w2 ⟨s, rfl, hs1, hs2, hg2⟩
  have HR2 := Lib.hid (HR1.out.grown hg2 (by simp) (by simp))
  have HG2 := Lib.hid (HG1.out.trans (gr_someG hg2))
  have H3 := Lib.hid (pick_any g n c (p + 1) A 3 w2 HR2.out (by omega) hn2 (by omega) (by omega))
  clear hg2 hx0 hx1
  go_wp2_with fail
  refine H3.out.mono ?_
  rintro e w3 ⟨x3, rfl, hx0, hx1, hr3, hg3⟩
  have HR3 := Lib.hid hr3
  have HG3 := Lib.hid (HG2.out.trans hg3)
  clear hr3 hg3 H3
  by_cases hx : 0 < x3
  · clear hs1 hs2
    have H3b := Lib.hid (pick_any g n c (p + 1 + 1) A 3 w3 HR3.out (by omega) hn2 (by omega) (by omega))
    go_wp2_with fail
    refine H3b.out.mono ?_
    rintro e w4 ⟨x4, rfl, hx40, hx41, hr4, hg4⟩
    have HR4 := Lib.hid hr4
    have HG4 := Lib.hid (HG3.out.trans hg4)
    clear hr4 hg4 H3b
    have H5b := Lib.hid (pick_any g n c (p + 1 + 1 + 1) A 5 w4 HR4.out (by omega) hn2 (by omega) (by omega))
    go_wp2_with fail
    refine H5b.out.mono ?_
    rintro e w5 ⟨x5, rfl, hx50, hx51, hr5, hg5⟩
    have HR5 := Lib.hid hr5
    have HG5 := Lib.hid (HG4.out.trans hg5)
    clear hr5 hg5 H5b
    go_wp2_with fail
    refine (HDR.out x4 (2 + x5) ⟨#[]⟩ ⟨#[]⟩ (p + 1 + 1 + 1 + 1) w5 (by omega) (by omega) (by show 0 + 6 ≤ 50; omega) (by show 0 + 6 ≤ 50; omega) (by omega) HR5.out).mono ?_
    rintro e w6 ⟨s, p6, rfl, hs1, hs2, hp1, hp2, hr6, hg6⟩
    have HR6 := Lib.hid hr6
    have HG6 := Lib.hid (HG5.out.trans hg6)
    clear hr6 hg6
    by_cases h80 : 80 < s.size
    · obtain ⟨s0, hs0⟩ : ∃ z, s = z := ⟨_, rfl⟩
      rw [hs0] at h80 hs1 hs2 ⊢
      clear hs0 hs1 hs2 s
      obtain ⟨s, hsA⟩ : ∃ z, z = (⟨#[83, 97]⟩ : ByteArray) := ⟨_, rfl⟩
      have hs1 : 1 ≤ s.size := by rw [hsA]; decide
      have hs2 : s.size ≤ 80 := by rw [hsA]; decide
      have H18 := Lib.hid (pick_any g n c p6 A 18 w6 HR6.out (by omega) hn2 (by omega) (by omega))
      go_wp2_with fail
      rw [← hsA]
      clear hsA h80
      refine H18.out.mono ?_
      rintro e w8 ⟨x8, rfl, hx80, hx81, hr8, hg8⟩
      have HR8 := Lib.hid hr8
      have HG8 := Lib.hid (HG6.out.trans hg8)
      clear hr8 hg8 H18
      by_cases hx8 : 0 < x8
      · go_wp2_with fail
        go_ret
        exact ⟨s, p6 + 1, rfl, by omega, by omega, by omega, HR8.out, HG8.out⟩
      · obtain ⟨ss, hss⟩ : ∃ q, s.size = q := ⟨_, rfl⟩
        have HSS := Lib.hid hss
        have hss1 : 1 ≤ ss ∧ ss ≤ 80 := by omega
        have HLEN := Lib.hid (pick_any g n c (p6 + 1) A ss w8 HR8.out (by omega) hn2 (by omega) (by omega))
        clear hs1 hs2
        go_wp2_with fail
        refine HLEN.out.mono ?_
        rintro e w9 ⟨x9, rfl, hx90, hx91, hr9, hg9⟩
        obtain ⟨i, rfl⟩ : ∃ i : Nat, x9 = (i : Int) := ⟨x9.toNat, by omega⟩
        have HRK := Lib.hid hr9
        have HGK := Lib.hid (HG8.out.trans hg9)
        clear hr9 hg9
        go_wp2_with fail
        refine wp_region_jsteps (u := w9) 43 rfl (by kernel_rfl) (fun w w' => w.grownBy w' (some g)) (sRz g i s) cost7 (fun k w => ∃ p', (p6 + 1 + 1) ≤ p' ∧ p' ≤ (p6 + 1 + 1) + k ∧ Rd13 w g A n c p') (by kernel_rfl) (fun _ _ _ h1 h2 => h1.trans h2) (fun j v w w' h hg => sRz_mono h hg) ?_ ?_ _ (gr_drewN _ _ _) ⟨(p6 + 1 + 1), Nat.le_refl _, Nat.le_refl _, HRK.out.grown (gr_drewN _ 1 none) (by simp) (by simp)⟩
        · intro a' w' hdf hgr hfar hall ⟨k9, hk9, p9, j1, j2, j3⟩
          have hk8 : k9 ≤ 2 := hk9
          obtain ⟨x, e2, hx⟩ : ∃ x, a'.tmps.getD 2 undef = .string x ∧ x.size ≤ 161 := hall 14 _ 2 rfl rfl
          have e2' : a'.tmps[2]?.getD undef = .string x := by rw [← e2]; simp
          go_wp2_with fail
          refine bodyPost_ret (v := .string x) (by simp [results, Tryz.results21, go_sem, e2']) hdf ?_
          exact ⟨x, p9, rfl, by omega, by omega, by omega, j3, HGK.out.trans hgr⟩
        refine ⟨?_, ?_, ?_, ?_, ?_, ?_, ?_, ?_, ?_, ?_, ?_, ?_, ?_, ?_, ?_, trivial⟩
        · intro a' w' k hdf hgr hfar hdep hJ hk
          have hkk : k ≤ 2 := by have h9 : spentAll cost7 15 = 2 := rfl; exact Nat.le_trans (Nat.le_add_right _ _) (h9 ▸ hk)
          have e3 : a'.tmps.getD 3 undef = .string s := hfar 3 (by kernel_rfl)
          go_simp
          exact ⟨_, rfl, gr_refl _ _, rfl, hJ⟩
        · intro a' w' k hdf hgr hfar hdep hJ hk
          have hkk : k ≤ 2 := by have h9 : spentAll cost7 15 = 2 := rfl; exact Nat.le_trans (Nat.le_add_right _ _) (h9 ▸ hk)
          have e4 : a'.tmps.getD 4 undef = .int .i64 i := hfar 4 (by kernel_rfl)
          go_simp
          exact ⟨_, rfl, gr_refl _ _, rfl, hJ⟩
        · intro a' w' k hdf hgr hfar hdep hJ hk
          have hkk : k ≤ 2 := by have h9 : spentAll cost7 15 = 2 := rfl; exact Nat.le_trans (Nat.le_add_right _ _) (h9 ▸ hk)
          have e29 : a'.tmps.getD 29 undef = .string s := hdep 0 _ 29 (by kernel_rfl) rfl rfl
          have e30 : a'.tmps.getD 30 undef = .int .i64 i := hdep 1 _ 30 (by kernel_rfl) rfl rfl
          have q1 : i ≤ ss := by omega
          go_simp
          exact ⟨_, rfl, gr_refl _ _, ⟨_, rfl, by simp only [ByteArray.size_extract]; omega⟩, hJ⟩
        · intro a' w' k hdf hgr hfar hdep hJ hk
          have hkk : k ≤ 2 := by have h9 : spentAll cost7 15 = 2 := rfl; exact Nat.le_trans (Nat.le_add_right _ _) (h9 ▸ hk)
          have e0 : a'.tmps.getD 0 undef = .pointer (some ⟨g, 0, none⟩) := hfar 0 (by kernel_rfl)
          go_simp
          exact ⟨_, rfl, gr_refl _ _, rfl, hJ⟩
        · intro a' w' k hdf hgr hfar hdep hJ hk
          have hkk : k ≤ 2 := by have h9 : spentAll cost7 15 = 2 := rfl; exact Nat.le_trans (Nat.le_add_right _ _) (h9 ▸ hk)
          go_simp
          obtain ⟨p9, j1, j2, j3⟩ := hJ
          exact ⟨_, rfl, gr_someG (World.grownBy_alloc _ _ none), ⟨w'.heap.size, rfl, strs_new w' s7L _, by have := j3.lt; omega⟩, ⟨p9, j1, j2, j3.grown (World.grownBy_alloc _ _ none) (by simp) (by simp)⟩⟩
        · intro a' w' k hdf hgr hfar hdep hJ hk
          have hkk : k ≤ 2 := by have h9 : spentAll cost7 15 = 2 := rfl; exact Nat.le_trans (Nat.le_add_right _ _) (h9 ▸ hk)
          have e32 : a'.tmps.getD 32 undef = .pointer (some ⟨g, 0, none⟩) := hdep 3 _ 32 (by kernel_rfl) rfl rfl
          obtain ⟨B, e33, hB, hBg⟩ : ∃ B, a'.tmps.getD 33 undef = .slice (some ⟨B, 0, none⟩) 7 7 ∧ Strs w' (some ⟨B, 0, none⟩) s7L ∧ B ≠ g := hdep 4 _ 33 (by kernel_rfl) rfl rfl
          obtain ⟨p9, j1, j2, j3⟩ := hJ
          go_simp
          refine (oftxt_any g n c p9 A _ 7 s7L w' j3 hB (fun b off e => by cases e; exact hBg) (by omega) hn2 (by decide) (by decide)).mono ?_
          rintro e w2 ⟨x, rfl, hx, hr, hg⟩
          exact ⟨_, rfl, hg, ⟨x, rfl, s7_size x hx⟩, ⟨p9 + 1, by omega, by simp only [cost7]; omega, hr⟩⟩
        · intro a' w' k hdf hgr hfar hdep hJ hk
          have hkk : k ≤ 2 := by have h9 : spentAll cost7 15 = 2 := rfl; exact Nat.le_trans (Nat.le_add_right _ _) (h9 ▸ hk)
          obtain ⟨x, e31, hx⟩ : ∃ x, a'.tmps.getD 31 undef = .string x ∧ x.size ≤ 80 := hdep 2 _ 31 (by kernel_rfl) rfl rfl
          obtain ⟨y, e34, hy⟩ : ∃ x, a'.tmps.getD 34 undef = .string x ∧ x.size ≤ 1 := hdep 5 _ 34 (by kernel_rfl) rfl rfl
          have q1 : ¬ 9223372036854775807 < x.size + y.size := by omega
          go_simp
          exact ⟨_, rfl, gr_refl _ _, ⟨_, rfl, by simp only [ByteArray.size_append]; omega⟩, hJ⟩
        · intro a' w' k hdf hgr hfar hdep hJ hk
          have hkk : k ≤ 2 := by have h9 : spentAll cost7 15 = 2 := rfl; exact Nat.le_trans (Nat.le_add_right _ _) (h9 ▸ hk)
          have e3 : a'.tmps.getD 3 undef = .string s := hfar 3 (by kernel_rfl)
          go_simp
          exact ⟨_, rfl, gr_refl _ _, rfl, hJ⟩
        · intro a' w' k hdf hgr hfar hdep hJ hk
          have hkk : k ≤ 2 := by have h9 : spentAll cost7 15 = 2 := rfl; exact Nat.le_trans (Nat.le_add_right _ _) (h9 ▸ hk)
          have e4 : a'.tmps.getD 4 undef = .int .i64 i := hfar 4 (by kernel_rfl)
          go_simp
          exact ⟨_, rfl, gr_refl _ _, rfl, hJ⟩
        · intro a' w' k hdf hgr hfar hdep hJ hk
          have hkk : k ≤ 2 := by have h9 : spentAll cost7 15 = 2 := rfl; exact Nat.le_trans (Nat.le_add_right _ _) (h9 ▸ hk)
          have e0 : a'.tmps.getD 0 undef = .pointer (some ⟨g, 0, none⟩) := hfar 0 (by kernel_rfl)
          go_simp
          exact ⟨_, rfl, gr_refl _ _, rfl, hJ⟩
        · intro a' w' k hdf hgr hfar hdep hJ hk
          have hkk : k ≤ 2 := by have h9 : spentAll cost7 15 = 2 := rfl; exact Nat.le_trans (Nat.le_add_right _ _) (h9 ▸ hk)
          have e38 : a'.tmps.getD 38 undef = .pointer (some ⟨g, 0, none⟩) := hdep 9 _ 38 (by kernel_rfl) rfl rfl
          obtain ⟨p9, j1, j2, j3⟩ := hJ
          go_simp
          refine (pick_any g n c p9 A 2 w' j3 (by omega) hn2 (by omega) (by omega)).mono ?_
          rintro e w2 ⟨x, rfl, hx0, hx1, hr, hg⟩
          exact ⟨_, rfl, hg, ⟨x, rfl, hx0, hx1⟩, ⟨p9 + 1, by omega, by simp only [cost7]; omega, hr⟩⟩
        · intro a' w' k hdf hgr hfar hdep hJ hk
          have hkk : k ≤ 2 := by have h9 : spentAll cost7 15 = 2 := rfl; exact Nat.le_trans (Nat.le_add_right _ _) (h9 ▸ hk)
          have e37 : a'.tmps.getD 37 undef = .int .i64 i := hdep 8 _ 37 (by kernel_rfl) rfl rfl
          obtain ⟨x, e39, hx0, hx1⟩ : ∃ x, a'.tmps.getD 39 undef = .int .i64 x ∧ 0 ≤ x ∧ x < 2 := hdep 10 _ 39 (by kernel_rfl) rfl rfl
          have q1 : IntKind.i64.wrap ((i : Int) + x) = (i : Int) + x := IntWalk.i64_in _ (by omega)
          go_simp
          exact ⟨_, rfl, gr_refl _ _, ⟨x, rfl, hx0, hx1⟩, hJ⟩
        · intro a' w' k hdf hgr hfar hdep hJ hk
          have hkk : k ≤ 2 := by have h9 : spentAll cost7 15 = 2 := rfl; exact Nat.le_trans (Nat.le_add_right _ _) (h9 ▸ hk)
          have e36 : a'.tmps.getD 36 undef = .string s := hdep 7 _ 36 (by kernel_rfl) rfl rfl
          obtain ⟨x, e40, hx0, hx1⟩ : ∃ x, a'.tmps.getD 40 undef = .int .i64 ((i : Int) + x) ∧ 0 ≤ x ∧ x < 2 := hdep 11 _ 40 (by kernel_rfl) rfl rfl
          obtain ⟨j, rfl⟩ : ∃ j : Nat, x = (j : Int) := ⟨x.toNat, by omega⟩
          have q1 : 0 ≤ (i : Int) + (j : Int) ∧ (i : Int) + (j : Int) ≤ (ss : Int) := by omega
          go_simp
          exact ⟨_, rfl, gr_refl _ _, ⟨_, rfl, by simp only [ByteArray.size_extract]; omega⟩, hJ⟩
        · intro a' w' k hdf hgr hfar hdep hJ hk
          have hkk : k ≤ 2 := by have h9 : spentAll cost7 15 = 2 := rfl; exact Nat.le_trans (Nat.le_add_right _ _) (h9 ▸ hk)
          obtain ⟨x, e35, hx⟩ : ∃ x, a'.tmps.getD 35 undef = .string x ∧ x.size ≤ 81 := hdep 6 _ 35 (by kernel_rfl) rfl rfl
          obtain ⟨y, e41, hy⟩ : ∃ x, a'.tmps.getD 41 undef = .string x ∧ x.size ≤ 80 := hdep 12 _ 41 (by kernel_rfl) rfl rfl
          have q1 : ¬ 9223372036854775807 < x.size + y.size := by omega
          go_simp
          exact ⟨_, rfl, gr_refl _ _, ⟨_, rfl, by simp only [ByteArray.size_append]; omega⟩, hJ⟩
        · intro a' w' k hdf hgr hfar hdep hJ hk
          have hkk : k ≤ 2 := by have h9 : spentAll cost7 15 = 2 := rfl; exact Nat.le_trans (Nat.le_add_right _ _) (h9 ▸ hk)
          obtain ⟨x, e42, hx⟩ : ∃ x, a'.tmps.getD 42 undef = .string x ∧ x.size ≤ 161 := hdep 13 _ 42 (by kernel_rfl) rfl rfl
          go_simp
          exact ⟨_, rfl, gr_refl _ _, ⟨x, rfl, hx⟩, hJ⟩
    · have hs2 : s.size ≤ 80 := by omega
      have H18 := Lib.hid (pick_any g n c p6 A 18 w6 HR6.out (by omega) hn2 (by omega) (by omega))
      go_wp2_with fail
      refine H18.out.mono ?_
      rintro e w8 ⟨x8, rfl, hx80, hx81, hr8, hg8⟩
      have HR8 := Lib.hid hr8
      have HG8 := Lib.hid (HG6.out.trans hg8)
      clear hr8 hg8 H18
      by_cases hx8 : 0 < x8
      · go_wp2_with fail
        go_ret
        exact ⟨s, p6 + 1, rfl, by omega, by omega, by omega, HR8.out, HG8.out⟩
      · obtain ⟨ss, hss⟩ : ∃ q, s.size = q := ⟨_, rfl⟩
        have HSS := Lib.hid hss
        have hss1 : 1 ≤ ss ∧ ss ≤ 80 := by omega
        have HLEN := Lib.hid (pick_any g n c (p6 + 1) A ss w8 HR8.out (by omega) hn2 (by omega) (by omega))
        clear hs1 hs2
        go_wp2_with fail
        refine HLEN.out.mono ?_
        rintro e w9 ⟨x9, rfl, hx90, hx91, hr9, hg9⟩
        obtain ⟨i, rfl⟩ : ∃ i : Nat, x9 = (i : Int) := ⟨x9.toNat, by omega⟩
        have HRK := Lib.hid hr9
        have HGK := Lib.hid (HG8.out.trans hg9)
        clear hr9 hg9
        go_wp2_with fail
        refine wp_region_jsteps (u := w9) 43 rfl (by kernel_rfl) (fun w w' => w.grownBy w' (some g)) (sRz g i s) cost7 (fun k w => ∃ p', (p6 + 1 + 1) ≤ p' ∧ p' ≤ (p6 + 1 + 1) + k ∧ Rd13 w g A n c p') (by kernel_rfl) (fun _ _ _ h1 h2 => h1.trans h2) (fun j v w w' h hg => sRz_mono h hg) ?_ ?_ _ (gr_drewN _ _ _) ⟨(p6 + 1 + 1), Nat.le_refl _, Nat.le_refl _, HRK.out.grown (gr_drewN _ 1 none) (by simp) (by simp)⟩
        · intro a' w' hdf hgr hfar hall ⟨k9, hk9, p9, j1, j2, j3⟩
          have hk8 : k9 ≤ 2 := hk9
          obtain ⟨x, e2, hx⟩ : ∃ x, a'.tmps.getD 2 undef = .string x ∧ x.size ≤ 161 := hall 14 _ 2 rfl rfl
          have e2' : a'.tmps[2]?.getD undef = .string x := by rw [← e2]; simp
          go_wp2_with fail
          refine bodyPost_ret (v := .string x) (by simp [results, Tryz.results21, go_sem, e2']) hdf ?_
          exact ⟨x, p9, rfl, by omega, by omega, by omega, j3, HGK.out.trans hgr⟩
        refine ⟨?_, ?_, ?_, ?_, ?_, ?_, ?_, ?_, ?_, ?_, ?_, ?_, ?_, ?_, ?_, trivial⟩
        · intro a' w' k hdf hgr hfar hdep hJ hk
          have hkk : k ≤ 2 := by have h9 : spentAll cost7 15 = 2 := rfl; exact Nat.le_trans (Nat.le_add_right _ _) (h9 ▸ hk)
          have e3 : a'.tmps.getD 3 undef = .string s := hfar 3 (by kernel_rfl)
          go_simp
          exact ⟨_, rfl, gr_refl _ _, rfl, hJ⟩
        · intro a' w' k hdf hgr hfar hdep hJ hk
          have hkk : k ≤ 2 := by have h9 : spentAll cost7 15 = 2 := rfl; exact Nat.le_trans (Nat.le_add_right _ _) (h9 ▸ hk)
          have e4 : a'.tmps.getD 4 undef = .int .i64 i := hfar 4 (by kernel_rfl)
          go_simp
          exact ⟨_, rfl, gr_refl _ _, rfl, hJ⟩
        · intro a' w' k hdf hgr hfar hdep hJ hk
          have hkk : k ≤ 2 := by have h9 : spentAll cost7 15 = 2 := rfl; exact Nat.le_trans (Nat.le_add_right _ _) (h9 ▸ hk)
          have e29 : a'.tmps.getD 29 undef = .string s := hdep 0 _ 29 (by kernel_rfl) rfl rfl
          have e30 : a'.tmps.getD 30 undef = .int .i64 i := hdep 1 _ 30 (by kernel_rfl) rfl rfl
          have q1 : i ≤ ss := by omega
          go_simp
          exact ⟨_, rfl, gr_refl _ _, ⟨_, rfl, by simp only [ByteArray.size_extract]; omega⟩, hJ⟩
        · intro a' w' k hdf hgr hfar hdep hJ hk
          have hkk : k ≤ 2 := by have h9 : spentAll cost7 15 = 2 := rfl; exact Nat.le_trans (Nat.le_add_right _ _) (h9 ▸ hk)
          have e0 : a'.tmps.getD 0 undef = .pointer (some ⟨g, 0, none⟩) := hfar 0 (by kernel_rfl)
          go_simp
          exact ⟨_, rfl, gr_refl _ _, rfl, hJ⟩
        · intro a' w' k hdf hgr hfar hdep hJ hk
          have hkk : k ≤ 2 := by have h9 : spentAll cost7 15 = 2 := rfl; exact Nat.le_trans (Nat.le_add_right _ _) (h9 ▸ hk)
          go_simp
          obtain ⟨p9, j1, j2, j3⟩ := hJ
          exact ⟨_, rfl, gr_someG (World.grownBy_alloc _ _ none), ⟨w'.heap.size, rfl, strs_new w' s7L _, by have := j3.lt; omega⟩, ⟨p9, j1, j2, j3.grown (World.grownBy_alloc _ _ none) (by simp) (by simp)⟩⟩
        · intro a' w' k hdf hgr hfar hdep hJ hk
          have hkk : k ≤ 2 := by have h9 : spentAll cost7 15 = 2 := rfl; exact Nat.le_trans (Nat.le_add_right _ _) (h9 ▸ hk)
          have e32 : a'.tmps.getD 32 undef = .pointer (some ⟨g, 0, none⟩) := hdep 3 _ 32 (by kernel_rfl) rfl rfl
          obtain ⟨B, e33, hB, hBg⟩ : ∃ B, a'.tmps.getD 33 undef = .slice (some ⟨B, 0, none⟩) 7 7 ∧ Strs w' (some ⟨B, 0, none⟩) s7L ∧ B ≠ g := hdep 4 _ 33 (by kernel_rfl) rfl rfl
          obtain ⟨p9, j1, j2, j3⟩ := hJ
          go_simp
          refine (oftxt_any g n c p9 A _ 7 s7L w' j3 hB (fun b off e => by cases e; exact hBg) (by omega) hn2 (by decide) (by decide)).mono ?_
          rintro e w2 ⟨x, rfl, hx, hr, hg⟩
          exact ⟨_, rfl, hg, ⟨x, rfl, s7_size x hx⟩, ⟨p9 + 1, by omega, by simp only [cost7]; omega, hr⟩⟩
        · intro a' w' k hdf hgr hfar hdep hJ hk
          have hkk : k ≤ 2 := by have h9 : spentAll cost7 15 = 2 := rfl; exact Nat.le_trans (Nat.le_add_right _ _) (h9 ▸ hk)
          obtain ⟨x, e31, hx⟩ : ∃ x, a'.tmps.getD 31 undef = .string x ∧ x.size ≤ 80 := hdep 2 _ 31 (by kernel_rfl) rfl rfl
          obtain ⟨y, e34, hy⟩ : ∃ x, a'.tmps.getD 34 undef = .string x ∧ x.size ≤ 1 := hdep 5 _ 34 (by kernel_rfl) rfl rfl
          have q1 : ¬ 9223372036854775807 < x.size + y.size := by omega
          go_simp
          exact ⟨_, rfl, gr_refl _ _, ⟨_, rfl, by simp only [ByteArray.size_append]; omega⟩, hJ⟩
        · intro a' w' k hdf hgr hfar hdep hJ hk
          have hkk : k ≤ 2 := by have h9 : spentAll cost7 15 = 2 := rfl; exact Nat.le_trans (Nat.le_add_right _ _) (h9 ▸ hk)
          have e3 : a'.tmps.getD 3 undef = .string s := hfar 3 (by kernel_rfl)
          go_simp
          exact ⟨_, rfl, gr_refl _ _, rfl, hJ⟩
        · intro a' w' k hdf hgr hfar hdep hJ hk
          have hkk : k ≤ 2 := by have h9 : spentAll cost7 15 = 2 := rfl; exact Nat.le_trans (Nat.le_add_right _ _) (h9 ▸ hk)
          have e4 : a'.tmps.getD 4 undef = .int .i64 i := hfar 4 (by kernel_rfl)
          go_simp
          exact ⟨_, rfl, gr_refl _ _, rfl, hJ⟩
        · intro a' w' k hdf hgr hfar hdep hJ hk
          have hkk : k ≤ 2 := by have h9 : spentAll cost7 15 = 2 := rfl; exact Nat.le_trans (Nat.le_add_right _ _) (h9 ▸ hk)
          have e0 : a'.tmps.getD 0 undef = .pointer (some ⟨g, 0, none⟩) := hfar 0 (by kernel_rfl)
          go_simp
          exact ⟨_, rfl, gr_refl _ _, rfl, hJ⟩
        · intro a' w' k hdf hgr hfar hdep hJ hk
          have hkk : k ≤ 2 := by have h9 : spentAll cost7 15 = 2 := rfl; exact Nat.le_trans (Nat.le_add_right _ _) (h9 ▸ hk)
          have e38 : a'.tmps.getD 38 undef = .pointer (some ⟨g, 0, none⟩) := hdep 9 _ 38 (by kernel_rfl) rfl rfl
          obtain ⟨p9, j1, j2, j3⟩ := hJ
          go_simp
          refine (pick_any g n c p9 A 2 w' j3 (by omega) hn2 (by omega) (by omega)).mono ?_
          rintro e w2 ⟨x, rfl, hx0, hx1, hr, hg⟩
          exact ⟨_, rfl, hg, ⟨x, rfl, hx0, hx1⟩, ⟨p9 + 1, by omega, by simp only [cost7]; omega, hr⟩⟩
        · intro a' w' k hdf hgr hfar hdep hJ hk
          have hkk : k ≤ 2 := by have h9 : spentAll cost7 15 = 2 := rfl; exact Nat.le_trans (Nat.le_add_right _ _) (h9 ▸ hk)
          have e37 : a'.tmps.getD 37 undef = .int .i64 i := hdep 8 _ 37 (by kernel_rfl) rfl rfl
          obtain ⟨x, e39, hx0, hx1⟩ : ∃ x, a'.tmps.getD 39 undef = .int .i64 x ∧ 0 ≤ x ∧ x < 2 := hdep 10 _ 39 (by kernel_rfl) rfl rfl
          have q1 : IntKind.i64.wrap ((i : Int) + x) = (i : Int) + x := IntWalk.i64_in _ (by omega)
          go_simp
          exact ⟨_, rfl, gr_refl _ _, ⟨x, rfl, hx0, hx1⟩, hJ⟩
        · intro a' w' k hdf hgr hfar hdep hJ hk
          have hkk : k ≤ 2 := by have h9 : spentAll cost7 15 = 2 := rfl; exact Nat.le_trans (Nat.le_add_right _ _) (h9 ▸ hk)
          have e36 : a'.tmps.getD 36 undef = .string s := hdep 7 _ 36 (by kernel_rfl) rfl rfl
          obtain ⟨x, e40, hx0, hx1⟩ : ∃ x, a'.tmps.getD 40 undef = .int .i64 ((i : Int) + x) ∧ 0 ≤ x ∧ x < 2 := hdep 11 _ 40 (by kernel_rfl) rfl rfl
          obtain ⟨j, rfl⟩ : ∃ j : Nat, x = (j : Int) := ⟨x.toNat, by omega⟩
          have q1 : 0 ≤ (i : Int) + (j : Int) ∧ (i : Int) + (j : Int) ≤ (ss : Int) := by omega
          go_simp
          exact ⟨_, rfl, gr_refl _ _, ⟨_, rfl, by simp only [ByteArray.size_extract]; omega⟩, hJ⟩
        · intro a' w' k hdf hgr hfar hdep hJ hk
          have hkk : k ≤ 2 := by have h9 : spentAll cost7 15 = 2 := rfl; exact Nat.le_trans (Nat.le_add_right _ _) (h9 ▸ hk)
          obtain ⟨x, e35, hx⟩ : ∃ x, a'.tmps.getD 35 undef = .string x ∧ x.size ≤ 81 := hdep 6 _ 35 (by kernel_rfl) rfl rfl
          obtain ⟨y, e41, hy⟩ : ∃ x, a'.tmps.getD 41 undef = .string x ∧ x.size ≤ 80 := hdep 12 _ 41 (by kernel_rfl) rfl rfl
          have q1 : ¬ 9223372036854775807 < x.size + y.size := by omega
          go_simp
          exact ⟨_, rfl, gr_refl _ _, ⟨_, rfl, by simp only [ByteArray.size_append]; omega⟩, hJ⟩
        · intro a' w' k hdf hgr hfar hdep hJ hk
          have hkk : k ≤ 2 := by have h9 : spentAll cost7 15 = 2 := rfl; exact Nat.le_trans (Nat.le_add_right _ _) (h9 ▸ hk)
          obtain ⟨x, e42, hx⟩ : ∃ x, a'.tmps.getD 42 undef = .string x ∧ x.size ≤ 161 := hdep 13 _ 42 (by kernel_rfl) rfl rfl
          go_simp
          exact ⟨_, rfl, gr_refl _ _, ⟨x, rfl, hx⟩, hJ⟩
  · have h80 : ¬ 80 < s.size := by omega
    have H18 := Lib.hid (pick_any g n c (p + 1 + 1) A 18 w3 HR3.out (by omega) hn2 (by omega) (by omega))
    go_wp2_with fail
    refine H18.out.mono ?_
    rintro e w8 ⟨x8, rfl, hx80, hx81, hr8, hg8⟩
    have HR8 := Lib.hid hr8
    have HG8 := Lib.hid (HG3.out.trans hg8)
    clear hr8 hg8 H18
    by_cases hx8 : 0 < x8
    · go_wp2_with fail
      go_ret
      exact ⟨s, (p + 1 + 1) + 1, rfl, by omega, by omega, by omega, HR8.out, HG8.out⟩
    · obtain ⟨ss, hss⟩ : ∃ q, s.size = q := ⟨_, rfl⟩
      have HSS := Lib.hid hss
      have hss1 : 1 ≤ ss ∧ ss ≤ 80 := by omega
      have HLEN := Lib.hid (pick_any g n c ((p + 1 + 1) + 1) A ss w8 HR8.out (by omega) hn2 (by omega) (by omega))
      clear hs1 hs2
      go_wp2_with fail
      refine HLEN.out.mono ?_
      rintro e w9 ⟨x9, rfl, hx90, hx91, hr9, hg9⟩
      obtain ⟨i, rfl⟩ : ∃ i : Nat, x9 = (i : Int) := ⟨x9.toNat, by omega⟩
      have HRK := Lib.hid hr9
      have HGK := Lib.hid (HG8.out.trans hg9)
      clear hr9 hg9
      go_wp2_with fail
      refine wp_region_jsteps (u := w9) 43 rfl (by kernel_rfl) (fun w w' => w.grownBy w' (some g)) (sRz g i s) cost7 (fun k w => ∃ p', ((p + 1 + 1) + 1 + 1) ≤ p' ∧ p' ≤ ((p + 1 + 1) + 1 + 1) + k ∧ Rd13 w g A n c p') (by kernel_rfl) (fun _ _ _ h1 h2 => h1.trans h2) (fun j v w w' h hg => sRz_mono h hg) ?_ ?_ _ (gr_drewN _ _ _) ⟨((p + 1 + 1) + 1 + 1), Nat.le_refl _, Nat.le_refl _, HRK.out.grown (gr_drewN _ 1 none) (by simp) (by simp)⟩
      · intro a' w' hdf hgr hfar hall ⟨k9, hk9, p9, j1, j2, j3⟩
        have hk8 : k9 ≤ 2 := hk9
        obtain ⟨x, e2, hx⟩ : ∃ x, a'.tmps.getD 2 undef = .string x ∧ x.size ≤ 161 := hall 14 _ 2 rfl rfl
        have e2' : a'.tmps[2]?.getD undef = .string x := by rw [← e2]; simp
        go_wp2_with fail
        refine bodyPost_ret (v := .string x) (by simp [results, Tryz.results21, go_sem, e2']) hdf ?_
        exact ⟨x, p9, rfl, by omega, by omega, by omega, j3, HGK.out.trans hgr⟩
      refine ⟨?_, ?_, ?_, ?_, ?_, ?_, ?_, ?_, ?_, ?_, ?_, ?_, ?_, ?_, ?_, trivial⟩
      · intro a' w' k hdf hgr hfar hdep hJ hk
        have hkk : k ≤ 2 := by have h9 : spentAll cost7 15 = 2 := rfl; exact Nat.le_trans (Nat.le_add_right _ _) (h9 ▸ hk)
        have e3 : a'.tmps.getD 3 undef = .string s := hfar 3 (by kernel_rfl)
        go_simp
        exact ⟨_, rfl, gr_refl _ _, rfl, hJ⟩
      · intro a' w' k hdf hgr hfar hdep hJ hk
        have hkk : k ≤ 2 := by have h9 : spentAll cost7 15 = 2 := rfl; exact Nat.le_trans (Nat.le_add_right _ _) (h9 ▸ hk)
        have e4 : a'.tmps.getD 4 undef = .int .i64 i := hfar 4 (by kernel_rfl)
        go_simp
        exact ⟨_, rfl, gr_refl _ _, rfl, hJ⟩
      · intro a' w' k hdf hgr hfar hdep hJ hk
        have hkk : k ≤ 2 := by have h9 : spentAll cost7 15 = 2 := rfl; exact Nat.le_trans (Nat.le_add_right _ _) (h9 ▸ hk)
        have e29 : a'.tmps.getD 29 undef = .string s := hdep 0 _ 29 (by kernel_rfl) rfl rfl
        have e30 : a'.tmps.getD 30 undef = .int .i64 i := hdep 1 _ 30 (by kernel_rfl) rfl rfl
        have q1 : i ≤ ss := by omega
        go_simp
        exact ⟨_, rfl, gr_refl _ _, ⟨_, rfl, by simp only [ByteArray.size_extract]; omega⟩, hJ⟩
      · intro a' w' k hdf hgr hfar hdep hJ hk
        have hkk : k ≤ 2 := by have h9 : spentAll cost7 15 = 2 := rfl; exact Nat.le_trans (Nat.le_add_right _ _) (h9 ▸ hk)
        have e0 : a'.tmps.getD 0 undef = .pointer (some ⟨g, 0, none⟩) := hfar 0 (by kernel_rfl)
        go_simp
        exact ⟨_, rfl, gr_refl _ _, rfl, hJ⟩
      · intro a' w' k hdf hgr hfar hdep hJ hk
        have hkk : k ≤ 2 := by have h9 : spentAll cost7 15 = 2 := rfl; exact Nat.le_trans (Nat.le_add_right _ _) (h9 ▸ hk)
        go_simp
        obtain ⟨p9, j1, j2, j3⟩ := hJ
        exact ⟨_, rfl, gr_someG (World.grownBy_alloc _ _ none), ⟨w'.heap.size, rfl, strs_new w' s7L _, by have := j3.lt; omega⟩, ⟨p9, j1, j2, j3.grown (World.grownBy_alloc _ _ none) (by simp) (by simp)⟩⟩
      · intro a' w' k hdf hgr hfar hdep hJ hk
        have hkk : k ≤ 2 := by have h9 : spentAll cost7 15 = 2 := rfl; exact Nat.le_trans (Nat.le_add_right _ _) (h9 ▸ hk)
        have e32 : a'.tmps.getD 32 undef = .pointer (some ⟨g, 0, none⟩) := hdep 3 _ 32 (by kernel_rfl) rfl rfl
        obtain ⟨B, e33, hB, hBg⟩ : ∃ B, a'.tmps.getD 33 undef = .slice (some ⟨B, 0, none⟩) 7 7 ∧ Strs w' (some ⟨B, 0, none⟩) s7L ∧ B ≠ g := hdep 4 _ 33 (by kernel_rfl) rfl rfl
        obtain ⟨p9, j1, j2, j3⟩ := hJ
        go_simp
        refine (oftxt_any g n c p9 A _ 7 s7L w' j3 hB (fun b off e => by cases e; exact hBg) (by omega) hn2 (by decide) (by decide)).mono ?_
        rintro e w2 ⟨x, rfl, hx, hr, hg⟩
        exact ⟨_, rfl, hg, ⟨x, rfl, s7_size x hx⟩, ⟨p9 + 1, by omega, by simp only [cost7]; omega, hr⟩⟩
      · intro a' w' k hdf hgr hfar hdep hJ hk
        have hkk : k ≤ 2 := by have h9 : spentAll cost7 15 = 2 := rfl; exact Nat.le_trans (Nat.le_add_right _ _) (h9 ▸ hk)
        obtain ⟨x, e31, hx⟩ : ∃ x, a'.tmps.getD 31 undef = .string x ∧ x.size ≤ 80 := hdep 2 _ 31 (by kernel_rfl) rfl rfl
        obtain ⟨y, e34, hy⟩ : ∃ x, a'.tmps.getD 34 undef = .string x ∧ x.size ≤ 1 := hdep 5 _ 34 (by kernel_rfl) rfl rfl
        have q1 : ¬ 9223372036854775807 < x.size + y.size := by omega
        go_simp
        exact ⟨_, rfl, gr_refl _ _, ⟨_, rfl, by simp only [ByteArray.size_append]; omega⟩, hJ⟩
      · intro a' w' k hdf hgr hfar hdep hJ hk
        have hkk : k ≤ 2 := by have h9 : spentAll cost7 15 = 2 := rfl; exact Nat.le_trans (Nat.le_add_right _ _) (h9 ▸ hk)
        have e3 : a'.tmps.getD 3 undef = .string s := hfar 3 (by kernel_rfl)
        go_simp
        exact ⟨_, rfl, gr_refl _ _, rfl, hJ⟩
      · intro a' w' k hdf hgr hfar hdep hJ hk
        have hkk : k ≤ 2 := by have h9 : spentAll cost7 15 = 2 := rfl; exact Nat.le_trans (Nat.le_add_right _ _) (h9 ▸ hk)
        have e4 : a'.tmps.getD 4 undef = .int .i64 i := hfar 4 (by kernel_rfl)
        go_simp
        exact ⟨_, rfl, gr_refl _ _, rfl, hJ⟩
      · intro a' w' k hdf hgr hfar hdep hJ hk
        have hkk : k ≤ 2 := by have h9 : spentAll cost7 15 = 2 := rfl; exact Nat.le_trans (Nat.le_add_right _ _) (h9 ▸ hk)
        have e0 : a'.tmps.getD 0 undef = .pointer (some ⟨g, 0, none⟩) := hfar 0 (by kernel_rfl)
        go_simp
        exact ⟨_, rfl, gr_refl _ _, rfl, hJ⟩
      · intro a' w' k hdf hgr hfar hdep hJ hk
        have hkk : k ≤ 2 := by have h9 : spentAll cost7 15 = 2 := rfl; exact Nat.le_trans (Nat.le_add_right _ _) (h9 ▸ hk)
        have e38 : a'.tmps.getD 38 undef = .pointer (some ⟨g, 0, none⟩) := hdep 9 _ 38 (by kernel_rfl) rfl rfl
        obtain ⟨p9, j1, j2, j3⟩ := hJ
        go_simp
        refine (pick_any g n c p9 A 2 w' j3 (by omega) hn2 (by omega) (by omega)).mono ?_
        rintro e w2 ⟨x, rfl, hx0, hx1, hr, hg⟩
        exact ⟨_, rfl, hg, ⟨x, rfl, hx0, hx1⟩, ⟨p9 + 1, by omega, by simp only [cost7]; omega, hr⟩⟩
      · intro a' w' k hdf hgr hfar hdep hJ hk
        have hkk : k ≤ 2 := by have h9 : spentAll cost7 15 = 2 := rfl; exact Nat.le_trans (Nat.le_add_right _ _) (h9 ▸ hk)
        have e37 : a'.tmps.getD 37 undef = .int .i64 i := hdep 8 _ 37 (by kernel_rfl) rfl rfl
        obtain ⟨x, e39, hx0, hx1⟩ : ∃ x, a'.tmps.getD 39 undef = .int .i64 x ∧ 0 ≤ x ∧ x < 2 := hdep 10 _ 39 (by kernel_rfl) rfl rfl
        have q1 : IntKind.i64.wrap ((i : Int) + x) = (i : Int) + x := IntWalk.i64_in _ (by omega)
        go_simp
        exact ⟨_, rfl, gr_refl _ _, ⟨x, rfl, hx0, hx1⟩, hJ⟩
      · intro a' w' k hdf hgr hfar hdep hJ hk
        have hkk : k ≤ 2 := by have h9 : spentAll cost7 15 = 2 := rfl; exact Nat.le_trans (Nat.le_add_right _ _) (h9 ▸ hk)
        have e36 : a'.tmps.getD 36 undef = .string s := hdep 7 _ 36 (by kernel_rfl) rfl rfl
        obtain ⟨x, e40, hx0, hx1⟩ : ∃ x, a'.tmps.getD 40 undef = .int .i64 ((i : Int) + x) ∧ 0 ≤ x ∧ x < 2 := hdep 11 _ 40 (by kernel_rfl) rfl rfl
        obtain ⟨j, rfl⟩ : ∃ j : Nat, x = (j : Int) := ⟨x.toNat, by omega⟩
        have q1 : 0 ≤ (i : Int) + (j : Int) ∧ (i : Int) + (j : Int) ≤ (ss : Int) := by omega
        go_simp
        exact ⟨_, rfl, gr_refl _ _, ⟨_, rfl, by simp only [ByteArray.size_extract]; omega⟩, hJ⟩
      · intro a' w' k hdf hgr hfar hdep hJ hk
        have hkk : k ≤ 2 := by have h9 : spentAll cost7 15 = 2 := rfl; exact Nat.le_trans (Nat.le_add_right _ _) (h9 ▸ hk)
        obtain ⟨x, e35, hx⟩ : ∃ x, a'.tmps.getD 35 undef = .string x ∧ x.size ≤ 81 := hdep 6 _ 35 (by kernel_rfl) rfl rfl
        obtain ⟨y, e41, hy⟩ : ∃ x, a'.tmps.getD 41 undef = .string x ∧ x.size ≤ 80 := hdep 12 _ 41 (by kernel_rfl) rfl rfl
        have q1 : ¬ 9223372036854775807 < x.size + y.size := by omega
        go_simp
        exact ⟨_, rfl, gr_refl _ _, ⟨_, rfl, by simp only [ByteArray.size_append]; omega⟩, hJ⟩
      · intro a' w' k hdf hgr hfar hdep hJ hk
        have hkk : k ≤ 2 := by have h9 : spentAll cost7 15 = 2 := rfl; exact Nat.le_trans (Nat.le_add_right _ _) (h9 ▸ hk)
        obtain ⟨x, e42, hx⟩ : ∃ x, a'.tmps.getD 42 undef = .string x ∧ x.size ≤ 161 := hdep 13 _ 42 (by kernel_rfl) rfl rfl
        go_simp
        exact ⟨_, rfl, gr_refl _ _, ⟨x, rfl, hx⟩, hJ⟩
end

section
open Go.ChangeShapes Go.WideShapes Go.ChangeAt Go.RowKit Go.Joins Go.Deep

theorem laid_out_p : laidOutB Tryz.prog = true := by kernel_rfl
set_option maxHeartbeats 1000000 in
theorem open_anyT (A : Option Addr) (n c : Nat) (w : World) (h : Byts w A n) (hc : n ≤ c) (hn : n ≤ 9223372036854775807) :
    Calls Tryz.prog 20 #[.slice A n c] w fun e w' => e = .returned (.pointer (some ⟨w.heap.size, 0, none⟩)) ∧ (∃ n' c', n' ≤ 2000 ∧ Rd13 w' w.heap.size A n' c' 0 ∧ (0 < n' → ∀ b off, A = some ⟨b, off, none⟩ → b < w.heap.size)) ∧ w.grownBy w' none := by
  have key : ∀ n', n' ≤ n → Rd13 (w.alloc (.cells #[.slice A n' c, .int .i64 0] 82)) w.heap.size A n' c 0 ∧ (0 < n' → ∀ b off, A = some ⟨b, off, none⟩ → b < w.heap.size) := fun n' hn' => by
    have hlt : 0 < n' → ∀ b off, A = some ⟨b, off, none⟩ → b < w.heap.size := fun hp b off e => by
      obtain ⟨b2, off2, e2, hb, _⟩ := h (by omega)
      rw [e] at e2
      cases e2
      exact hb
    refine ⟨⟨Pr.new w _ _ _, ?_, fun hp b off e => Nat.ne_of_lt (hlt hp b off e)⟩, hlt⟩
    intro hp
    obtain ⟨b, off, e, hb, hcc⟩ := h (by omega)
    refine ⟨b, off, e, by simp; omega, fun k hk => ?_⟩
    obtain ⟨x, h1, h2⟩ := hcc k (by omega)
    exact ⟨x, (World.grownBy_alloc w _ none).cell h1 (by simp), h2⟩
  have KEY := Lib.hid key
  clear key
  by_cases hb : 2000 < n
  · have hA : ∃ a, A = some a := by obtain ⟨b, off, e, _⟩ := h (by omega); exact ⟨_, e⟩
    obtain ⟨a, rfl⟩ := hA
    have hc0 : ¬ c = 0 := by omega
    clear h
    go_enter Tryz.func20, Tryz.ntmps20
    go_wp2_with fail
    go_ret
    exact ⟨rfl, ⟨2000, c, Nat.le_refl _, KEY.out 2000 (by omega)⟩, World.grownBy_alloc _ _ _⟩
  · clear h
    go_enter Tryz.func20, Tryz.ntmps20
    go_wp2_with fail
    go_ret
    exact ⟨rfl, ⟨n, c, by omega, KEY.out n (Nat.le_refl _)⟩, World.grownBy_alloc _ _ _⟩


set_option maxRecDepth 100000 in
/-- Bytes that came in as an argument. -/
theorem open_bytsT {H : Type} {enc : TypeId × Value → H} {W : World} {base : Nat} {v : Value} {d : DataW H} {p : List MemPlace} (hval : Value.okWide Tryz.prog W .any base 22 v) (h : DataW.Trod enc Tryz.prog W 0 (fun _ => true) true 22 v d p) :
    ∃ A n c, v = .slice A n c ∧ n ≤ c ∧ n ≤ 9223372036854775807 ∧ Byts W A n := by
  obtain ⟨E0, len, cap, rfl⟩ := okWide_slice Tryz.underlying22 hval
  have h1' := h
  obtain ⟨fuel, h1'⟩ := h1'
  simp only [Value.cells] at h1'
  have hmx : maxLen ≤ 9223372036854775807 := by simp [maxLen]
  rcases open_ints Tryz.underlying22 Tryz.underlying5 (by kernel_rfl) h1' with ⟨hcs, _⟩ | ⟨a, len', cap', zs, hcs, _, hl, hm, hz, _, hcell, hwz⟩
  · simp only [List.cons.injEq, and_true] at hcs
    cases hcs
    exact ⟨none, 0, 0, rfl, Nat.le_refl _, by omega, fun h => by omega⟩
  · simp only [List.cons.injEq, and_true] at hcs
    cases hcs
    simp only [if_true] at hz
    refine ⟨some a, _, _, rfl, hl, by omega, fun hpos => ?_⟩
    obtain ⟨b, off, spot⟩ := a
    have hspot : spot = none := by simpa [Addr.add] using World.cell?_spot (hcell 0 (by omega))
    subst hspot
    have hc0 := hcell 0 (by omega)
    rw [addr_flat] at hc0
    refine ⟨b, off, rfl, World.block_lt_of_cell? W _ hc0, fun k hk => ?_⟩
    have hck := hcell k (by omega)
    rw [addr_flat] at hck
    refine ⟨_, hck, ?_⟩
    have hmem : zs.getD k 0 ∈ zs := by
      rw [List.getD_eq_getElem?_getD, List.getElem?_eq_getElem (by omega)]
      exact List.getElem_mem _
    exact bounds_u8 (hwz _ hmem)


theorem gr_row5 {w w1 w2 : World} {row : Option Nat} (h : w.grownBy w1 none) (h2 : w1.grownBy w2 row) (hr : ∀ k, row = some k → w.heap.size ≤ k) : w.grownBy w2 none :=
  ⟨h2.os.trans h.os, h2.tape.trans h.tape, h2.output.trans h.output, Nat.le_trans h.size h2.size, fun k hk hn => (h2.block k (Nat.lt_of_lt_of_le hk h.size) (fun e => by have := hr k e.symm; omega)).trans (h.block k hk hn)⟩

/-- How a drawn text comes. -/
def TxtP (w : World) (e : Ending) (w' : World) : Prop := ∃ s, e = .returned (.string s) ∧ s.size ≤ 161 ∧ w.grownBy w' none

theorem Strs.at_ {w : World} {A : Option Addr} {ss : List ByteArray} {j : Nat} {s : ByteArray} (h : Strs w A ss) (hj : ss[j]? = some s) : ∃ b off, A = some ⟨b, off, none⟩ ∧ w.cell? ⟨b, off + j, none⟩ = some (.string s) := by
  obtain ⟨b, off, e, _, hc⟩ := h (by have := (List.getElem?_eq_some_iff.1 hj).1; omega)
  exact ⟨b, off, e, hc j s hj⟩

end
end

/- TDepA -/
section
section
open Go.RowKit Go.Maps

set_option maxRecDepth 100000 in
set_option maxHeartbeats 4000000 in
theorem of_two (c d1 d2 : Int) (b g : Nat) (x y : Value) (w : World) (hh : w.heap[g]? = some (.cells #[.int .u8 c, x, y] 119 (0, 0)))
    (ih1 : ∀ u : World, w.grownBy u none → Calls Tryz.prog 38 #[.map (some b), x] u (DepP d1 u))
    (ih2 : ∀ u : World, w.grownBy u none → Calls Tryz.prog 38 #[.map (some b), y] u (DepP d2 u)) :
    Calls Tryz.prog 38 #[.map (some b), .iface 116 (.pointer (some ⟨g, 0, none⟩))] w (DepP (dTwo c d1 d2) w) := by
  have ht1 := fun xT u => ta_two_dig (.pointer (some ⟨g, 0, none⟩)) xT u
  have ht2 := fun xT u => ta_two_var (.pointer (some ⟨g, 0, none⟩)) xT u
  have ht3 := fun xT u => ta_two_pre (.pointer (some ⟨g, 0, none⟩)) xT u
  have ht4 := fun xT u => ta_two_two (.pointer (some ⟨g, 0, none⟩)) xT u
  have HD := Lib.hid (fun w => dpair_any c d1 d2 w)
  generalize dTwo c d1 d2 = r at HD ⊢
  have c0 : w.cell? ⟨g, 0, none⟩ = some (.int .u8 c) := cell_of_row w g 0 _ _ (0, 0) hh
  have c1 : w.cell? ⟨g, 1, none⟩ = some x := cell_of_row w g 1 _ _ (0, 0) hh
  have c2 : w.cell? ⟨g, 2, none⟩ = some y := cell_of_row w g 2 _ _ (0, 0) hh
  have HI1 := Lib.hid ih1
  have HI2 := Lib.hid ih2
  clear ih1 ih2 hh
  go_enter Tryz.func38, Tryz.ntmps38
  go_wp2_with fail
  go_region_law (first
    | (go_simp
       go_at_call 57
       refine (HD.out _).mono ?_
       rintro e wb ⟨rfl, rfl⟩
       have HDONE := Lib.hid True.intro)
    | (go_simp
       go_at_call 38
       refine (HI2.out _ HGa.out).mono ?_
       rintro e wc ⟨rfl, hgc⟩
       have HGc := Lib.hid (HGa.out.trans hgc)
       have c0c := HGc.out.cell c0 (by simp)
       clear hgc)
    | (go_simp
       go_at_call 38
       refine (HI1.out _ (gr_drewN w 1 none)).mono ?_
       rintro e wa ⟨rfl, hga⟩
       have HGa := Lib.hid ((gr_drewN w 1 none).trans hga)
       have c0a := HGa.out.cell c0 (by simp)
       have c2a := HGa.out.cell c2 (by simp)
       clear hga))
  all_goals
    go_wp2_with fail
  all_goals
    go_ret
    exact ⟨rfl, HGc.out⟩

set_option maxRecDepth 100000 in
set_option maxHeartbeats 4000000 in
theorem of_loop (c i d1 d2 : Int) (b m g : Nat) (en : Int → Int) (x y : Value) (w : World) (hc : c = 91 ∨ c = 123) (hi0 : 0 ≤ i) (hi1 : i ≤ 255) (hd1 : -1 ≤ d1 ∧ d1 ≤ 3) (hd2 : -1 ≤ d2 ∧ d2 ≤ 3) (hm : m ≤ 1000000) (hmap : VMap w b m en)
    (hh : w.heap[g]? = some (.cells #[.int .u8 c, .int .u8 i, x, y] 97 (0, 0)))
    (ih1 : ∀ u : World, w.grownBy u none → Calls Tryz.prog 38 #[.map (some b), x] u (DepP d1 u))
    (ih2 : 1 ≤ d1 → ∀ (u : World) (b' : Nat), w.grownBy u none → VMap u b' (m + 1) (upd en i (d1 - 1)) → Calls Tryz.prog 38 #[.map (some b'), y] u (DepP d2 u)) :
    Calls Tryz.prog 38 #[.map (some b), .iface 94 (.pointer (some ⟨g, 0, none⟩))] w (DepP (if 1 ≤ d1 then dLoop c d1 d2 else -1) w) := by
  have ht1 := fun xT u => ta_loop_dig (.pointer (some ⟨g, 0, none⟩)) xT u
  have ht2 := fun xT u => ta_loop_var (.pointer (some ⟨g, 0, none⟩)) xT u
  have ht3 := fun xT u => ta_loop_pre (.pointer (some ⟨g, 0, none⟩)) xT u
  have ht4 := fun xT u => ta_loop_two (.pointer (some ⟨g, 0, none⟩)) xT u
  have ht5 := fun xT u => ta_loop_loop (.pointer (some ⟨g, 0, none⟩)) xT u
  have HD := Lib.hid (fun w => dloop_any c d1 d2 w hc hd2)
  obtain ⟨r, hr⟩ : ∃ r, dLoop c d1 d2 = r := ⟨_, rfl⟩
  rw [hr] at HD ⊢
  have c0 : w.cell? ⟨g, 0, none⟩ = some (.int .u8 c) := cell_of_row w g 0 _ _ (0, 0) hh
  have c1 : w.cell? ⟨g, 1, none⟩ = some (.int .u8 i) := cell_of_row w g 1 _ _ (0, 0) hh
  have c2 : w.cell? ⟨g, 2, none⟩ = some x := cell_of_row w g 2 _ _ (0, 0) hh
  have C0 := Lib.hid c0
  have C3 := Lib.hid (show w.cell? ⟨g, 3, none⟩ = some y from cell_of_row w g 3 _ _ (0, 0) hh)
  have HI1 := Lib.hid ih1
  have HI2 := Lib.hid ih2
  have HM := Lib.hid hmap
  have w1 : IntKind.i64.wrap (d1 - 1) = d1 - 1 := IntWalk.i64_in _ (by omega)
  clear ih1 ih2 hh hr hc hmap
  by_cases h1 : 1 ≤ d1
  · have hn : ¬ (d1 < 1) := by omega
    rw [if_pos h1]
    go_enter Tryz.func38, Tryz.ntmps38
    go_wp2_with fail
    refine (HI1.out _ (gr_refl _ _)).mono ?_
    rintro e wa ⟨rfl, hga⟩
    have HGa := Lib.hid hga
    have c0a := HGa.out.cell c0 (by simp)
    have c1a := HGa.out.cell c1 (by simp)
    have c3a := HGa.out.cell C3.out (by simp)
    clear hga c0 c1 c2
    go_wp2_with fail
    go_region_law (first
      | (go_simp
         go_at_call 58
         refine (HD.out _).mono ?_
         rintro e wb ⟨rfl, rfl⟩
         have HDONE := Lib.hid True.intro)
      | (go_simp
         go_at_call 38
         refine (HI2.out h1 _ _ HGb.out HVb.out).mono ?_
         rintro e wc ⟨rfl, hgc⟩
         have HGc := Lib.hid (HGb.out.trans hgc)
         have c0c := HGc.out.cell C0.out (by simp)
         clear hgc)
      | (go_simp
         go_at_call 59
         refine (with_any b m en i (d1 - 1) _ hi0 hi1 (by omega) hm ((HM.out.grown HGa.out).grown (gr_drewN wa 1 none))).mono ?_
         rintro e wb ⟨b', rfl, hgb, hvb⟩
         have HGb := Lib.hid ((HGa.out.trans (gr_drewN wa 1 none)).trans hgb)
         have HVb := Lib.hid hvb
         have c0b := ((gr_drewN wa 1 none).trans hgb).cell c0a (by simp)
         have c3b := ((gr_drewN wa 1 none).trans hgb).cell c3a (by simp)
         clear hgb hvb))
    all_goals
      go_wp2_with fail
    all_goals
      go_ret
      exact ⟨rfl, HGc.out⟩
  · rw [if_neg h1]
    have hn : d1 < 1 := by omega
    go_enter Tryz.func38, Tryz.ntmps38
    go_wp2_with fail
    refine (HI1.out _ (gr_refl _ _)).mono ?_
    rintro e wa ⟨rfl, hga⟩
    have HGa := Lib.hid hga
    have c0a := HGa.out.cell c0 (by simp)
    have c1a := HGa.out.cell c1 (by simp)
    have c3a := HGa.out.cell C3.out (by simp)
    clear hga c0 c1 c2
    go_wp2_with fail
    go_ret
    exact ⟨rfl, HGa.out⟩
end

section
open Go.RowKit Go.Maps

theorem of_any : ∀ (n : Nat) (t : Tm) (S : Nat → Prop) (v : Value) (b m : Nat) (e : Int → Int) (w : World), t.size ≤ n → n + m ≤ 1000000 → t.Ok → (∀ c, -1 ≤ e c ∧ e c ≤ 3) → PT w S t v → VMap w b m e →
    Calls Tryz.prog 38 #[.map (some b), v] w (DepP (t.depth e) w)
  | 0, t, _, _, _, _, _, _, hn, _, _, _, _, _ => by have := t.size_pos; omega
  | n + 1, .dig c, S, v, b, m, e, w, hn, hb, ho, he, h, hm => by cases h; exact of_dig c _ w
  | n + 1, .var c, S, v, b, m, e, w, hn, hb, ho, he, h, hm => by cases h; exact of_var c b m e w ho hm
  | n + 1, .pre c s, S, v, b, m, e, w, hn, hb, ho, he, h, hm => by
    obtain ⟨g, x, rfl, _, hh, hx⟩ := h
    simp only [Tm.size] at hn
    exact of_pre c _ b g x w ho.1 (s.depth_bd e he) hh (fun u hu => of_any n s S x b m e u (by omega) (by omega) ho.2 he (hx.grown hu) (hm.grown hu))
  | n + 1, .two c s t, S, v, b, m, e, w, hn, hb, ho, he, h, hm => by
    obtain ⟨g, x, y, rfl, _, hh, hx, hy⟩ := h
    simp only [Tm.size] at hn
    exact of_two c _ _ b g x y w hh (fun u hu => of_any n s S x b m e u (by omega) (by omega) ho.2.1 he (hx.grown hu) (hm.grown hu))
      (fun u hu => of_any n t S y b m e u (by omega) (by omega) ho.2.2 he (hy.grown hu) (hm.grown hu))
  | n + 1, .loop c i s t, S, v, b, m, e, w, hn, hb, ho, he, h, hm => by
    obtain ⟨g, x, y, rfl, _, hh, hx, hy⟩ := h
    simp only [Tm.size] at hn
    have hd1 := s.depth_bd e he
    have hbu := upd_bd he i (d := if 1 ≤ s.depth e then s.depth e - 1 else 0) (by split <;> omega)
    have hd2 := t.depth_bd _ hbu
    by_cases h1 : 1 ≤ s.depth e
    · rw [if_pos h1] at hbu hd2
      exact of_loop c i _ _ b m g e x y w ho.1 (lb ho.2.1).1 (lb ho.2.1).2 hd1 hd2 (by omega) hm hh (fun u hu => of_any n s S x b m e u (by omega) (by omega) ho.2.2.1 he (hx.grown hu) (hm.grown hu))
        (fun _ u b' hu hm' => of_any n t S y b' (m + 1) _ u (by omega) (by omega) ho.2.2.2 hbu (hy.grown hu) hm')
    · have := of_loop c i (s.depth e) 0 b m g e x y w ho.1 (lb ho.2.1).1 (lb ho.2.1).2 hd1 (by omega) (by omega) hm hh (fun u hu => of_any n s S x b m e u (by omega) (by omega) ho.2.2.1 he (hx.grown hu) (hm.grown hu))
        (fun h => absurd h h1)
      rw [if_neg h1] at this
      simp only [Tm.depth]
      rw [if_neg h1]
      exact this

/-- The depth of a text. -/
def depthA (s : ByteArray) : Int := match readT s with
  | some t => t.depth env0
  | none => -1
theorem depthA_bd (s : ByteArray) : -1 ≤ depthA s ∧ depthA s ≤ 3 := by
  unfold depthA
  cases readT s with
  | none => simp
  | some t => exact t.depth_bd env0 env0_bd

set_option maxRecDepth 100000 in
set_option maxHeartbeats 2000000 in
theorem tdepth_impl (s : ByteArray) (w : World) :
    Calls Tryz.prog 11 #[.string s] w (DepP (depthA s) w) := by
  have H := Lib.hid (term_any s w)
  have hmm := @run_makeMap Tryz.prog
  obtain ⟨r, hb⟩ : ∃ b, depthA s = b := ⟨_, rfl⟩
  rw [hb]
  have HB := Lib.hid hb
  clear hb
  go_enter Tryz.func11, Tryz.ntmps11
  go_wp2_with fail
  refine H.out.mono ?_
  intro e w0 hp
  unfold TermPost at hp
  have hb := HB.out
  unfold depthA at hb
  cases hr : readT s with
  | none =>
    rw [hr] at hp hb
    subst hb
    obtain ⟨rfl, hg⟩ := hp
    have HG := Lib.hid hg
    clear hg hr
    go_wp2_with fail
    go_ret
    exact ⟨rfl, HG.out⟩
  | some t =>
    rw [hr] at hp hb
    obtain ⟨v, rfl, hg, hpt⟩ := hp
    have HG := Lib.hid hg
    have HP := Lib.hid hpt
    have HSS := Lib.hid hb
    have HRT := Lib.hid hr
    have own0 := World.ownsMap_made w0 Tryz.prog 51 (plainElem (H := Unit) Tryz.prog 3)
    obtain ⟨w1, hr1, own1, hg1⟩ := own0.update keyedV Tryz.underlying73 (by decide) (keyV (v := 97) (by decide) (by decide)) (plainElem_int Tryz.underlying3 (i64wf (d := 1) (by decide) (by decide)))
    obtain ⟨w2, hr2, own2, hg2⟩ := own1.update keyedV Tryz.underlying73 (by decide) (keyV (v := 98) (by decide) (by decide)) (plainElem_int Tryz.underlying3 (i64wf (d := 2) (by decide) (by decide)))
    have hgr : w0.grownBy w2 none := gr_new (gr_new (World.grownBy_alloc w0 _ none) hg1 (Nat.le_refl _)) hg2 (Nat.le_refl _)
    have hvm : VMap w2 w0.heap.size 2 env0 := ⟨_, own2, by
      have h0 : Reads (.map []) (fun _ => -1) := ⟨⟨_, rfl⟩, fun v _ _ => .inl ⟨rfl, rfl⟩⟩
      have := (h0.put 97 1).put 98 2
      rw [show env0 = upd (upd (fun _ => -1) 97 1) 98 2 from by
        funext c
        unfold env0 upd
        by_cases h1 : c = 97
        · subst h1; rfl
        · simp [h1]]
      exact this⟩
    have hok := readT_some hr
    have HC := Lib.hid (of_any 80 t _ v _ 2 env0 w2 hok.2.2.2 (by omega) hok.2.2.1 env0_bd (hpt.grown hgr) hvm)
    rw [show t.depth env0 = r from hb] at HC
    have HGR := Lib.hid (hg.trans hgr)
    clear hg hpt hr hb own0 own1 own2 hg1 hg2 hgr hvm hok
    go_wp2_with fail
    refine HC.out.mono ?_
    rintro e w3 ⟨rfl, hg3⟩
    have HG3 := Lib.hid hg3
    clear hg3
    go_wp2_with fail
    go_ret
    exact ⟨rfl, HGR.out.trans HG3.out⟩
end
end

/- TDepI -/
section
open Go.RowKit

def tdepA (s : ByteArray) : Int := depthA s
theorem tdep_impl (s : ByteArray) (_ : s.size ≤ 1048576) (w : World) : Calls Tryz.prog 11 #[.string s] w fun e w' => e = .returned (.int .i64 (tdepA s)) ∧ w.grownBy w' none := tdepth_impl s w
end

end Go.Proofs.YtboddoaekcchpaaGreat

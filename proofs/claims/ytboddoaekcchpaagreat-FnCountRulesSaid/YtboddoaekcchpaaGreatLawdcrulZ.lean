/- 12 texts in one: Pr IntC Drw StrsF DrZ DrT SmpC CrlS CrlI TSize TSizeI Lawdcrul. -/
import Derived.Test.YtboddoaekcchpaaGreatGr
import Derived.IntWalk
import Derived.Below
import Derived.Test.YtboddoaekcchpaaGreatOwn
import Derived.Test.YtboddoaekcchpaaGreatInvR
import Derived.Test.YtboddoaekcchpaaGreatTxt
import Derived.Test.YtboddoaekcchpaaGreatDig
import Derived.Test.YtboddoaekcchpaaGreatOne
import Derived.ProofKit
import Derived.Lib.SmallJoins
import Derived.Deep.Matrix
import Derived.SizedLaws
import Derived.Deep.WholeRow
import Derived.BigQuiet
import Derived.Deep.QuietTactic
import Derived.Test.YtboddoaekcchpaaGreatZV3
import Derived.Test.YtboddoaekcchpaaGreatTSizeF
import Derived.Test.YtboddoaekcchpaaGreatKids
import Derived.Test.YtboddoaekcchpaaGreatZV1
import Derived.Test.YtboddoaekcchpaaGreatLawKit
import Derived.Test.YtboddoaekcchpaaGreatGdcrul
namespace Go.Proofs.YtboddoaekcchpaaGreat
/- Pr -/
section
open Go.RowKit

/-- A struct of two cells in a block. -/
def Pr (w : World) (g : Nat) (t : TypeId) (a b : Value) : Prop := w.heap[g]? = some (.cells #[a, b] t (0, 0))
section
variable {w w' : World} {g : Nat} {t : TypeId} {a b : Value}
theorem Pr.new (w : World) (t : TypeId) (a b : Value) : Pr (w.alloc (.cells #[a, b] t)) w.heap.size t a b := heap_alloc_new w _
theorem Pr.c0 (h : Pr w g t a b) : w.cell? ⟨g, 0, none⟩ = some a := cell_of_row w g 0 _ _ (0, 0) h
theorem Pr.c1 (h : Pr w g t a b) : w.cell? ⟨g, 1, none⟩ = some b := cell_of_row w g 1 _ _ (0, 0) h
theorem Pr.f (h : Pr w g t a b) (i : Nat) : w.frozen? ⟨g, i, none⟩ = false := by
  unfold Pr at h
  simp [World.frozen?, h]
theorem Pr.lt (h : Pr w g t a b) : g < w.heap.size := (Array.getElem?_eq_some_iff.1 h).1
theorem Pr.set0 (h : Pr w g t a b) (u : Value) : Pr (w.setCell ⟨g, 0, none⟩ u) g t u b := by
  unfold Pr at h ⊢
  simp [World.setCell, Array.getElem?_modify, h]
theorem Pr.set1 (h : Pr w g t a b) (u : Value) : Pr (w.setCell ⟨g, 1, none⟩ u) g t a u := by
  unfold Pr at h ⊢
  simp [World.setCell, Array.getElem?_modify, h]
theorem Pr.alloc (h : Pr w g t a b) (o : Obj) : Pr (w.alloc o) g t a b := (Below.heap_alloc w o g h.lt).trans h
theorem Pr.grown {row : Option Nat} (h : Pr w g t a b) (hg : w.grownBy w' row) (hne : some g ≠ row) : Pr w' g t a b := (hg.block g h.lt hne).trans h
end

theorem gr_ownF {w w1 w2 : World} {row : Option Nat} (h : w.grownBy w1 none) (h2 : w1.grownBy w2 row) (hr : ∀ k, row = some k → w.heap.size ≤ k) : w.grownBy w2 none :=
  ⟨h2.os.trans h.os, h2.tape.trans h.tape, h2.output.trans h.output, Nat.le_trans h.size h2.size, fun k hk hne => (h2.block k (Nat.lt_of_lt_of_le hk h.size) (fun e => by have := hr k e.symm; omega)).trans (h.block k hk hne)⟩
end

/- IntC -/
section
open Go.RowKit

/-- The slice's cells are these ints. -/
def Ints (w : World) (A : Option Addr) (zs : List Int) : Prop :=
  0 < zs.length → ∃ b off, A = some ⟨b, off, none⟩ ∧ b < w.heap.size ∧ ∀ (j : Nat) (z : Int), zs[j]? = some z → w.cell? ⟨b, off + j, none⟩ = some (.int .i64 z)
theorem Ints.grown {w w' : World} {A : Option Addr} {zs : List Int} {row : Option Nat} (h : Ints w A zs) (hg : w.grownBy w' row) (hne : ∀ b off, A = some ⟨b, off, none⟩ → some b ≠ row) : Ints w' A zs := fun hl => by
  obtain ⟨b, off, rfl, hb, hc⟩ := h hl
  exact ⟨b, off, rfl, Nat.lt_of_lt_of_le hb hg.size, fun j z hj => hg.cell (hc j z hj) (hne b off rfl)⟩
theorem Ints.at_ {w : World} {A : Option Addr} {zs : List Int} {j : Nat} (h : Ints w A zs) (hj : j < zs.length) : ∃ b off, A = some ⟨b, off, none⟩ ∧ w.cell? ⟨b, off + j, none⟩ = some (.int .i64 zs[j]) := by
  obtain ⟨b, off, hA, _, hc⟩ := h (by omega)
  exact ⟨b, off, hA, hc j _ (List.getElem?_eq_getElem hj)⟩
theorem Ints.of_own {w : World} {base e : Nat} {A : Option Addr} {k c : Nat} {zs : List Int} (h : w.ownsRow base e 1 (.slice A k c) zs.length (zs.map (Value.int .i64))) : Ints w A zs := fun hl => by
  rcases h.2 with ⟨hv, hn⟩ | ⟨g, cap, cur, hv, _, hg, hnc, _, hcs, htake⟩
  · omega
  · cases hv
    refine ⟨g, 0, rfl, (Array.getElem?_eq_some_iff.1 hg).1, fun j z hj => ?_⟩
    have hjl : j < zs.length := by
      rcases Nat.lt_or_ge j zs.length with h | h
      · exact h
      · rw [List.getElem?_eq_none h] at hj; cases hj
    rw [Nat.zero_add, cell_of_row w g j _ _ (0, 0) hg]
    have : (cur.toList.take (zs.length * 1))[j]? = some (.int .i64 z) := by rw [htake, List.getElem?_map, hj]; rfl
    rw [List.getElem?_take, if_pos (by omega)] at this
    simpa using this
theorem infoJ : (Tryz.prog.info? 3).map (fun i => (i.zero, i.size, i.bytes)) = some (some (.int .i64 0), 1, 8) := by kernel_rfl
theorem addr_flat (b off i : Nat) : (⟨b, off, none⟩ : Addr).add i = ⟨b, off + i, none⟩ := by unfold Addr.add; split <;> simp_all
end

/- Drw -/
section
open Go.RowKit

/-- Bytes that lie in memory. -/
def Byts (w : World) (A : Option Addr) (n : Nat) : Prop := 0 < n → ∃ b off, A = some ⟨b, off, none⟩ ∧ b < w.heap.size ∧ ∀ k, k < n → ∃ x : Int, w.cell? ⟨b, off + k, none⟩ = some (.int .u8 x) ∧ 0 ≤ x ∧ x ≤ 255
theorem Byts.grown {w w' : World} {A : Option Addr} {n : Nat} {row : Option Nat} (h : Byts w A n) (hg : w.grownBy w' row) (hne : 0 < n → ∀ b off, A = some ⟨b, off, none⟩ → some b ≠ row) : Byts w' A n := fun hl => by
  obtain ⟨b, off, rfl, hb, hc⟩ := h hl
  exact ⟨b, off, rfl, Nat.lt_of_lt_of_le hb hg.size, fun k hk => by
    obtain ⟨x, h1, h2⟩ := hc k hk
    exact ⟨x, hg.cell h1 (hne hl b off rfl), h2⟩⟩
/-- The random source at block g: its bytes and its place. -/
structure Rd13 (w : World) (g : Nat) (A : Option Addr) (n c p : Nat) : Prop where
  box : Pr w g 82 (.slice A n c) (.int .i64 (p : Int))
  bytes : Byts w A n
  apart : 0 < n → ∀ b off, A = some ⟨b, off, none⟩ → b ≠ g
theorem Rd13.grown {w w' : World} {g n c p : Nat} {A : Option Addr} {row : Option Nat} (h : Rd13 w g A n c p) (hg : w.grownBy w' row) (hne : some g ≠ row) (hne2 : 0 < n → ∀ b off, A = some ⟨b, off, none⟩ → some b ≠ row) : Rd13 w' g A n c p :=
  ⟨h.box.grown hg hne, h.bytes.grown hg hne2, h.apart⟩
theorem Rd13.lt {w : World} {g n c p : Nat} {A : Option Addr} (h : Rd13 w g A n c p) : g < w.heap.size := h.box.lt

theorem xor_pos (y : Int) (h0 : 0 ≤ y) (h1 : y ≤ 1000000000) : 0 ≤ bits BinOp.xor IntKind.i64 y (y / 64) := by
  obtain ⟨a, rfl⟩ : ∃ a : Nat, y = (a : Int) := ⟨y.toNat, by omega⟩
  obtain ⟨b, hb⟩ : ∃ b : Nat, (a : Int) / 64 = (b : Int) := ⟨((a : Int) / 64).toNat, by omega⟩
  rw [hb]
  have hx : a ^^^ b < 2 ^ 62 := Nat.xor_lt_two_pow (by omega) (by omega)
  have h1 : (BitVec.ofInt 64 (a : Int)).toNat = a := by
    rw [BitVec.ofInt_natCast, BitVec.toNat_ofNat]; exact Nat.mod_eq_of_lt (by omega)
  have h2 : (BitVec.ofInt 64 (b : Int)).toNat = b := by
    rw [BitVec.ofInt_natCast, BitVec.toNat_ofNat]; exact Nat.mod_eq_of_lt (by omega)
  show 0 ≤ IntKind.i64.wrap ((BitVec.ofInt 64 (a : Int) ^^^ BitVec.ofInt 64 (b : Int)).toNat : Int)
  rw [BitVec.toNat_xor, h1, h2, IntWalk.i64_in _ (by omega)]
  omega

/-- How pick ends. -/
def PickPost (g : Nat) (A : Option Addr) (n c p : Nat) (m : Int) (w : World) (e : Ending) (w' : World) : Prop := ∃ x : Int, e = .returned (.int .i64 x) ∧ 0 ≤ x ∧ x < m ∧ Rd13 w' g A n c (p + 1) ∧ w.grownBy w' (some g)

theorem pick_mem {w : World} {g n c p k : Nat} {A : Option Addr} {m x : Int} (h : Rd13 w g A n c p) (h0 : 0 ≤ x) (h1 : x < m) (e : Ending) (he : e = .returned (.int .i64 x)) :
    PickPost g A n c p m w e ((w.setCell ⟨g, 1, none⟩ (.int .i64 ((p : Int) + 1))).drewN k) := by
  have hg : w.grownBy ((w.setCell ⟨g, 1, none⟩ (.int .i64 ((p : Int) + 1))).drewN k) (some g) := (gr_set w g 1 _).trans (gr_drewN _ _ _)
  refine ⟨x, he, h0, h1, ⟨?_, h.bytes.grown hg (fun hn b off e => by simpa using h.apart hn b off e), h.apart⟩, hg⟩
  have := h.box.set1 (.int .i64 ((p : Int) + 1))
  exact this

set_option maxHeartbeats 1000000 in
theorem pick_zero (g c p : Nat) (A : Option Addr) (m : Int) (w : World) (h : Rd13 w g A 0 c p) (hp : p ≤ 1000000) (hm : 1 ≤ m) (hm2 : m ≤ 1000000) :
    Calls Tryz.prog 33 #[.pointer (some ⟨g, 0, none⟩), .int .i64 m] w (PickPost g A 0 c p m w) := by
  have H := Lib.hid h
  have c0 := h.box.c0
  have c1 := h.box.c1
  have f1 := h.box.f 1
  have hm3 : ¬ m < 1 := by omega
  clear h
  go_enter Tryz.func33, Tryz.ntmps33
  go_wp2_with fail
  go_ret
  exact pick_mem (k := 0) H.out (by omega) (by omega) _ rfl

set_option maxHeartbeats 1000000 in
theorem pick_in (g n c p : Nat) (A : Option Addr) (m : Int) (w : World) (h : Rd13 w g A n c p) (hn : p < n) (hn2 : n ≤ 2000) (hm : 1 ≤ m) (hm2 : m ≤ 1000000) :
    Calls Tryz.prog 33 #[.pointer (some ⟨g, 0, none⟩), .int .i64 m] w (PickPost g A n c p m w) := by
  have H := Lib.hid h
  have c0 := h.box.c0
  have c1 := h.box.c1
  have f1 := h.box.f 1
  have hm3 : ¬ m < 1 := by omega
  obtain ⟨b, off, rfl, _, hc⟩ := h.bytes (by omega)
  obtain ⟨x, hx, hx0, hx1⟩ := hc p hn
  have hne : b ≠ g := h.apart (by omega) b off rfl
  have hne2 : g ≠ b := fun e => hne e.symm
  have hn0 : ((n : Int) == 0) = false := by rw [beq_eq_false_iff_ne]; omega
  clear h hc
  go_enter Tryz.func33, Tryz.ntmps33
  go_wp2_with fail
  go_ret
  exact pick_mem (k := 0) H.out (Int.emod_nonneg _ (by omega)) (Int.emod_lt_of_pos _ (by omega)) _ rfl

set_option maxRecDepth 100000 in
set_option maxHeartbeats 4000000 in
theorem pick_out (g n c p : Nat) (A : Option Addr) (m : Int) (w : World) (h : Rd13 w g A n c p) (hn0 : 0 < n) (hn : n ≤ p) (hp : p ≤ 1000000) (hn2 : n ≤ 2000) (hm : 1 ≤ m) (hm2 : m ≤ 1000000) :
    Calls Tryz.prog 33 #[.pointer (some ⟨g, 0, none⟩), .int .i64 m] w (PickPost g A n c p m w) := by
  have H := Lib.hid h
  have c0 := h.box.c0
  have c1 := h.box.c1
  have f1 := h.box.f 1
  have hm3 : ¬ m < 1 := by omega
  obtain ⟨b, off, rfl, _, hc⟩ := h.bytes (by omega)
  have hne : b ≠ g := h.apart (by omega) b off rfl
  have hne2 : g ≠ b := fun e => hne e.symm
  have hn1 : ((n : Int) == 0) = false := by rw [beq_eq_false_iff_ne]; omega
  have hnp : ¬ (p : Int) < (n : Int) := by omega
  clear h
  obtain ⟨k1, hk1⟩ : ∃ k : Nat, p % n = k := ⟨_, rfl⟩
  obtain ⟨k2, hk2⟩ : ∃ k : Nat, (p * 7 + 3) % n = k := ⟨_, rfl⟩
  obtain ⟨q, hq⟩ : ∃ k : Nat, p / n = k := ⟨_, rfl⟩
  have hk1n : k1 < n := by rw [← hk1]; exact Nat.mod_lt _ hn0
  have hk2n : k2 < n := by rw [← hk2]; exact Nat.mod_lt _ hn0
  have hqp : q ≤ 1000000 := by rw [← hq]; exact Nat.le_trans (Nat.div_le_self _ _) hp
  obtain ⟨x1, hx1, h10, h11⟩ := hc k1 hk1n
  obtain ⟨x2, hx2, h20, h21⟩ := hc k2 hk2n
  have t1 : (p : Int).tmod (n : Int) = (k1 : Int) := by rw [← hk1]; rfl
  have t2 : ((p : Int) * 7 + 3).tmod (n : Int) = (k2 : Int) := by rw [← hk2]; rfl
  have t3 : (p : Int).tdiv (n : Int) = (q : Int) := by rw [← hq]; rfl
  have e1 : IntKind.i64.wrap ((p : Int) * 7) = (p : Int) * 7 := IntWalk.i64_in _ (by omega)
  have e2 : IntKind.i64.wrap ((p : Int) * 7 + 3) = (p : Int) * 7 + 3 := IntWalk.i64_in _ (by omega)
  have e3 : IntKind.i64.wrap x1 = x1 := IntWalk.i64_in _ (by omega)
  have e4 : IntKind.i64.wrap x2 = x2 := IntWalk.i64_in _ (by omega)
  have e5 : IntKind.i64.wrap (x1 * 131) = x1 * 131 := IntWalk.i64_in _ (by omega)
  have e6 : IntKind.i64.wrap (x2 * 1117) = x2 * 1117 := IntWalk.i64_in _ (by omega)
  have e7 : IntKind.i64.wrap (x1 * 131 + x2 * 1117) = x1 * 131 + x2 * 1117 := IntWalk.i64_in _ (by omega)
  have e8 : IntKind.i64.wrap ((p : Int) * 29) = (p : Int) * 29 := IntWalk.i64_in _ (by omega)
  have e9 : IntKind.i64.wrap (x1 * 131 + x2 * 1117 + (p : Int) * 29) = x1 * 131 + x2 * 1117 + (p : Int) * 29 := IntWalk.i64_in _ (by omega)
  have e10 : IntKind.i64.wrap ((q : Int) * 53) = (q : Int) * 53 := IntWalk.i64_in _ (by omega)
  have e11 : IntKind.i64.wrap (x1 * 131 + x2 * 1117 + (p : Int) * 29 + (q : Int) * 53) = x1 * 131 + x2 * 1117 + (p : Int) * 29 + (q : Int) * 53 := IntWalk.i64_in _ (by omega)
  have hn1' : ¬ (n : Int) = 0 := by omega
  clear hc hk1 hk2 hq
  go_enter Tryz.func33, Tryz.ntmps33
  go_wp2_with fail
  go_quiet (fail)
  have hb0 : 0 ≤ x1 * 131 + x2 * 1117 + (p : Int) * 29 + (q : Int) * 53 := by omega
  have hb1 : x1 * 131 + x2 * 1117 + (p : Int) * 29 + (q : Int) * 53 ≤ 1000000000 := by omega
  clear t1 t2 t3 e1 e2 e3 e4 e5 e6 e7 e8 e9 e10 e11
  generalize x1 * 131 + x2 * 1117 + (p : Int) * 29 + (q : Int) * 53 = y at hb0 hb1 ⊢
  have hx := xor_pos y hb0 hb1
  go_wp2_with fail
  generalize bits BinOp.xor IntKind.i64 y (y / 64) = v at hx ⊢
  go_ret
  exact pick_mem H.out (Int.emod_nonneg _ (by omega)) (Int.emod_lt_of_pos _ (by omega)) _ rfl

theorem pick_any (g n c p : Nat) (A : Option Addr) (m : Int) (w : World) (h : Rd13 w g A n c p) (hp : p ≤ 1000000) (hn2 : n ≤ 2000) (hm : 1 ≤ m) (hm2 : m ≤ 1000000) :
    Calls Tryz.prog 33 #[.pointer (some ⟨g, 0, none⟩), .int .i64 m] w (PickPost g A n c p m w) := by
  rcases Nat.eq_zero_or_pos n with rfl | hn
  · exact pick_zero g c p A m w h hp hm hm2
  · rcases Nat.lt_or_ge p n with hpn | hpn
    · exact pick_in g n c p A m w h hpn hn2 hm hm2
    · exact pick_out g n c p A m w h hn hpn hp hn2 hm hm2
end

/- StrsF -/
section
section
open Go.RowKit

/-- The slice's cells are these strings. -/
def Strs (w : World) (A : Option Addr) (ss : List ByteArray) : Prop :=
  0 < ss.length → ∃ b off, A = some ⟨b, off, none⟩ ∧ b < w.heap.size ∧ ∀ (j : Nat) (s : ByteArray), ss[j]? = some s → w.cell? ⟨b, off + j, none⟩ = some (.string s)
theorem Strs.grown {w w' : World} {A : Option Addr} {ss : List ByteArray} (h : Strs w A ss) (hg : w.grownBy w' none) : Strs w' A ss := fun hl => by
  obtain ⟨b, off, rfl, hb, hc⟩ := h hl
  exact ⟨b, off, rfl, Nat.lt_of_lt_of_le hb hg.size, fun j s hj => hg.cell (hc j s hj) (by simp)⟩

/-- The sum of the lengths. -/
def tot : List ByteArray → Nat
  | [] => 0
  | s :: l => s.size + tot l
theorem tot_append : ∀ (l m : List ByteArray), tot (l ++ m) = tot l + tot m
  | [], m => by simp [tot]
  | s :: l, m => by simp [tot, tot_append l m, Nat.add_assoc]
theorem tot_step {ss : List ByteArray} {j : Nat} {s : ByteArray} (h : ss[j]? = some s) : tot (ss.take (j + 1)) = tot (ss.take j) + s.size := by
  rw [List.take_add_one, h, tot_append]
  simp [tot]
end
end

/- DrZ -/
section
section
open Go.RowKit

theorem sum_upd (f f' : Nat → Nat) (i c : Nat) (hi : f' i = f i + c) (hne : ∀ j, j ≠ i → f' j = f j) : ∀ n, ((List.range n).map f').sum = ((List.range n).map f).sum + if i < n then c else 0
  | 0 => by simp
  | n + 1 => by
    have ih := sum_upd f f' i c hi hne n
    rw [List.range_succ, List.map_append, List.map_append, List.sum_append, List.sum_append, ih]
    simp only [List.map_cons, List.map_nil, List.sum_cons, List.sum_nil]
    by_cases h : n = i
    · subst h
      rw [hi]
      have h1 : ¬ n < n := by omega
      have h2 : n < n + 1 := by omega
      rw [if_neg h1, if_pos h2]; omega
    · rw [hne n h]
      by_cases h3 : i < n
      · have h4 : i < n + 1 := by omega
        rw [if_pos h3, if_pos h4]; omega
      · have h4 : ¬ i < n + 1 := by omega
        rw [if_neg h3, if_neg h4]; omega
theorem sum_le (f g : Nat → Nat) (h : ∀ j, f j ≤ g j) : ∀ n, ((List.range n).map f).sum ≤ ((List.range n).map g).sum
  | 0 => by simp
  | n + 1 => by
    have ih := sum_le f g h n
    rw [List.range_succ, List.map_append, List.map_append, List.sum_append, List.sum_append]
    simp only [List.map_cons, List.map_nil, List.sum_cons, List.sum_nil]
    have := h n
    omega

/-- What the listed operations spent. -/
def spent (cost : Nat → Nat) (listed : Array Bool) : Nat := ((List.range listed.size).map fun i => if listed.getD i false = true then cost i else 0).sum
def spentAll (cost : Nat → Nat) (n : Nat) : Nat := ((List.range n).map cost).sum
theorem spent_none (cost : Nat → Nat) (n : Nat) : spent cost (Array.replicate n false) = 0 := by
  unfold spent
  have : ∀ m, ((List.range m).map fun i => if (Array.replicate n false).getD i false = true then cost i else 0).sum = 0 := by
    intro m
    induction m with
    | zero => simp
    | succ m ih =>
      rw [List.range_succ, List.map_append, List.sum_append, ih]
      simp [Array.getD_eq_getD_getElem?, Array.getElem?_replicate]
      intro h1
      split at h1 <;> simp at h1
  exact this _
theorem spent_set {cost : Nat → Nat} {listed : Array Bool} {i : Nat} (hi : i < listed.size) (h : listed.getD i true = false) : spent cost (listed.setIfInBounds i true) = spent cost listed + cost i := by
  unfold spent
  rw [Array.size_setIfInBounds]
  have h0 : listed.getD i false = false := by
    simp only [Array.getD_eq_getD_getElem?, Array.getElem?_eq_getElem hi, Option.getD_some] at h ⊢
    exact h
  have := sum_upd (fun i => if listed.getD i false = true then cost i else 0) (fun j => if (listed.setIfInBounds i true).getD j false = true then cost j else 0) i (cost i)
    (by simp [h0, Array.getD_eq_getD_getElem?, hi]) (fun j hj => by
      have hj' : ¬ i = j := fun e => hj e.symm
      simp [Array.getD_eq_getD_getElem?, hj']) listed.size
  rw [this, if_pos hi]
theorem spent_le (cost : Nat → Nat) (listed : Array Bool) : spent cost listed ≤ spentAll cost listed.size := by
  unfold spent spentAll
  refine sum_le _ _ (fun j => ?_) _
  split <;> omega

section
variable {P : Program} {ops : Array Oper} {Q : Exit → Act → World → Prop} {md : Region.Mode}

structure JInv (ops : Array Oper) (B : Array Value) (u : World) (G : World → World → Prop) (R : Nat → Value → World → Prop) (cost : Nat → Nat) (J : Nat → World → Prop) (listed : Array Bool) (a : Act) (w : World) : Prop where
  ls : listed.size = ops.size
  size : a.tmps.size = B.size
  defs : a.defers = []
  gr : G u w
  far : ∀ k, (∀ (i : Nat) (o : Oper), ops[i]? = some o → o.dst ≠ some k) → a.tmps.getD k undef = B.getD k undef
  done : ∀ (i : Nat) (o : Oper) (d : Nat), ops[i]? = some o → o.dst = some d → listed.getD i true = true → R i (a.tmps.getD d undef) w
  kept : J (spent cost listed) w

/-- One operation's step. -/
def StepJ (P : Program) (Q : Exit → Act → World → Prop) (ops : Array Oper) (B : Array Value) (u : World) (G : World → World → Prop) (R : Nat → Value → World → Prop) (cost : Nat → Nat) (J : Nat → World → Prop) (i : Nat) (o : Oper) : Prop :=
  ∀ a w k, a.defers = [] → G u w → (∀ k, slotFree ops k = true → a.tmps.getD k undef = B.getD k undef) →
    (∀ (j : Nat) (p : Oper) (d : Nat), depB o j = true → ops[j]? = some p → p.dst = some d → R j (a.tmps.getD d undef) w) → J k w → k + cost i ≤ spentAll cost ops.size →
    o.wp P a w (fun a' w' => ∃ v, a' = a.put o.dst v ∧ G w w' ∧ R i v w' ∧ J (k + cost i) w') Q

theorem wp_region_jsteps {id : Nat} {B : Array Value} {u : World} (n : Nat) (hB : B.size = n) (hok : regOkB n ops = true) (G : World → World → Prop) (R : Nat → Value → World → Prop) (cost : Nat → Nat) (J : Nat → World → Prop) (hm : P.follows .mixedOrders = true)
    (htr : ∀ w1 w2 w3, G w1 w2 → G w2 w3 → G w1 w3)
    (hmono : ∀ i v w w', R i v w → G w w' → R i v w')
    (hend : ∀ a w, a.defers = [] → G u w → (∀ k, slotFree ops k = true → a.tmps.getD k undef = B.getD k undef) → (∀ (i : Nat) (o : Oper) (d : Nat), ops[i]? = some o → o.dst = some d → R i (a.tmps.getD d undef) w) → (∃ k, k ≤ spentAll cost ops.size ∧ J k w) → Q .normal a w)
    (hstep : AllFrom (StepJ P Q ops B u G R cost J) 0 ops.toList)
    (w : World) (hu : G u { w with drawn := w.drawn + 1 }) (hj : J 0 { w with drawn := w.drawn + 1 }) : (Code.region id ops true).wp P Q { tmps := B, defers := [] } w := by
  unfold regOkB at hok
  rw [Bool.and_eq_true, Array.all_eq_true', List.all_eq_true] at hok
  obtain ⟨h1, h2⟩ := hok
  have hmemo : ∀ (i : Nat) (o : Oper), ops[i]? = some o → o ∈ ops := fun i o ho => Array.mem_of_getElem? ho
  have h2' : ∀ (i : Nat) (o : Oper), ops[i]? = some o → (o.after.all (fun e => decide (e.on < i)) = true) ∧ ∀ (j : Nat) (p : Oper), ops[j]? = some p → p.dst = o.dst → j = i := by
    intro i o ho
    have := h2 i (List.mem_range.2 (Array.getElem?_eq_some_iff.1 ho).1)
    simp only [ho, Bool.and_eq_true, List.all_eq_true] at this
    refine ⟨this.1, fun j p hp hd => ?_⟩
    have := this.2 j (List.mem_range.2 (Array.getElem?_eq_some_iff.1 hp).1)
    simp only [hp, Bool.or_eq_true, bne_iff_ne, ne_eq, beq_iff_eq] at this
    rcases this with h | h
    · exact absurd hd h
    · exact h.symm
  have hfree : ∀ k, slotFree ops k = true → ∀ (i : Nat) (o : Oper), ops[i]? = some o → o.dst ≠ some k := by
    intro k hk i o ho
    unfold slotFree at hk
    rw [Array.all_eq_true'] at hk
    have := hk o (hmemo i o ho)
    simpa using this
  have hac : ∀ (i : Nat) (o : Oper), ops[i]? = some o → ∀ e ∈ o.after, e.on < i := by
    intro i o ho e he
    have := (h2' i o ho).1
    rw [Array.all_eq_true'] at this
    simpa using this e he
  have hg : ∀ (i : Nat) (o : Oper), ops[i]? = some o → o.guard = none := by
    intro i o ho
    have := h1 o (hmemo i o ho)
    simp only [Bool.and_eq_true, Option.isNone_iff_eq_none] at this
    exact this.1
  have hdst : ∀ (i : Nat) (o : Oper), ops[i]? = some o → ∃ d, o.dst = some d ∧ d < B.size ∧ ∀ (j : Nat) (p : Oper), ops[j]? = some p → p.dst = some d → j = i := by
    intro i o ho
    have := h1 o (hmemo i o ho)
    simp only [Bool.and_eq_true] at this
    cases hd : o.dst with
    | none => rw [hd] at this; simp at this
    | some d =>
      rw [hd] at this
      refine ⟨d, rfl, by rw [hB]; simpa using this.2, fun j p hp hpd => (h2' i o ho).2 j p hp (by rw [hpd, hd])⟩
  refine wp_region_any hm (wpAny_inv (JInv ops B u G R cost J) (fun _ _ _ h => h.ls) hac ?_ ?_ _ _ _ _ ?_ ?_)
  · intro listed a w hI hall
    refine hend a w hI.defs hI.gr (fun k hk => hI.far k (hfree k hk)) (fun i o d ho hd => hI.done i o d ho hd (hall i (Array.getElem?_eq_some_iff.1 ho).1)) ⟨_, ?_, hI.kept⟩
    have := spent_le cost listed
    rw [hI.ls] at this
    exact this
  · intro i o listed a w ho hI hl hd
    unfold wpOp
    rw [ho]
    have hw : Region.wanted o (yielded ops a.tmps) = true := by simp [Region.wanted, hg i o ho]
    simp only [hw, if_true]
    left
    have hil : i < listed.size := by rw [hI.ls]; exact (Array.getElem?_eq_some_iff.1 ho).1
    have hsp := spent_set (cost := cost) hil hl
    have hS := allFrom_at hstep (i := i) (o := o) (by simpa using ho)
    rw [Nat.zero_add] at hS
    have hs := hS a w (spent cost listed) hI.defs hI.gr (fun k hk => hI.far k (hfree k hk)) (fun j p d hj hp hpd => hI.done j p d hp hpd (by
      unfold depB at hj
      rw [Array.any_eq_true'] at hj
      obtain ⟨e, he, hb⟩ := hj
      simp only [Bool.and_eq_true, beq_iff_eq] at hb
      have := hd e he hb.1
      rw [hb.2] at this
      have hjl : j < listed.size := by rw [hI.ls]; exact (Array.getElem?_eq_some_iff.1 hp).1
      simp only [Array.getD_eq_getD_getElem?, Array.getElem?_eq_getElem hjl, Option.getD_some] at this ⊢
      exact this)) hI.kept (by
        have := spent_le cost (listed.setIfInBounds i true)
        rw [hsp, Array.size_setIfInBounds, hI.ls] at this
        exact this)
    refine Oper.wp_mono ?_ hs
    rintro a' w' ⟨v, rfl, hgr, hR, hJ⟩
    obtain ⟨d, hod, hdB, huniq⟩ := hdst i o ho
    have hput : a.put o.dst v = { a with tmps := a.tmps.setIfInBounds d v } := by rw [hod]; rfl
    rw [hput]
    refine ⟨by simp [hI.ls], by simp [hI.size], hI.defs, htr _ _ _ hI.gr hgr, fun k hk => ?_, fun j p e hp hpe hlj => ?_, by rw [hsp]; exact hJ⟩
    · rw [← hI.far k hk]
      have : d ≠ k := fun e => hk i o ho (by rw [hod, e])
      simp [Array.getD_eq_getD_getElem?, this]
    · by_cases hji : j = i
      · subst hji
        rw [ho] at hp; cases hp
        rw [hod] at hpe; cases hpe
        have : (a.tmps.setIfInBounds d v).getD d undef = v := by simp [Array.getD_eq_getD_getElem?, hI.size, hdB]
        rw [this]; exact hR
      · have hde : d ≠ e := fun h => hji (huniq j p hp (by rw [hpe, h]))
        have : (a.tmps.setIfInBounds d v).getD e undef = a.tmps.getD e undef := by simp [Array.getD_eq_getD_getElem?, hde]
        rw [this]
        refine hmono _ _ _ _ (hI.done j p e hp hpe ?_) hgr
        have hji' : ¬ i = j := fun h => hji h.symm
        simpa [Array.getD_eq_getD_getElem?, hji'] using hlj
  · exact ⟨by simp, rfl, rfl, hu, fun _ _ => rfl, fun i o d ho _ hl => by
      have hi := (Array.getElem?_eq_some_iff.1 ho).1
      simp [Array.getD_eq_getD_getElem?, hi] at hl, by rw [spent_none]; exact hj⟩
  · unfold unl
    refine Nat.le_trans (List.countP_le_length) ?_
    simp
end
end

section
open Go.RowKit

theorem Strs.grownG {w w' : World} {A : Option Addr} {ss : List ByteArray} {row : Option Nat} (h : Strs w A ss) (hg : w.grownBy w' row) (hne : ∀ b off, A = some ⟨b, off, none⟩ → some b ≠ row) : Strs w' A ss := fun hl => by
  obtain ⟨b, off, rfl, hb, hc⟩ := h hl
  exact ⟨b, off, rfl, Nat.lt_of_lt_of_le hb hg.size, fun j s hj => hg.cell (hc j s hj) (hne b off rfl)⟩

/-- How 'of' ends: one of the texts. -/
def OfPost (g : Nat) (A : Option Addr) (n c p : Nat) (ss : List ByteArray) (w : World) (e : Ending) (w' : World) : Prop := ∃ s, e = .returned (.string s) ∧ s ∈ ss ∧ Rd13 w' g A n c (p + 1) ∧ w.grownBy w' (some g)

set_option maxHeartbeats 1000000 in
theorem oftxt_any (g n c p : Nat) (A B : Option Addr) (d : Nat) (ss : List ByteArray) (w : World) (h : Rd13 w g A n c p) (hB : Strs w B ss) (hBg : ∀ b off, B = some ⟨b, off, none⟩ → b ≠ g) (hp : p ≤ 1000000) (hn2 : n ≤ 2000) (hl : 0 < ss.length) (hl2 : ss.length ≤ 1000) :
    Calls Tryz.prog 22 #[.pointer (some ⟨g, 0, none⟩), .slice B ss.length d] w (OfPost g A n c p ss w) := by
  have HP := Lib.hid (pick_any g n c p A ss.length w h hp hn2 (by omega) (by omega))
  have HB := Lib.hid hB
  have HBG := Lib.hid hBg
  obtain ⟨k, hk⟩ : ∃ k, ss.length = k := ⟨_, rfl⟩
  have HK := Lib.hid hk
  rw [hk] at HP ⊢
  have hk0 : 0 < k := by omega
  clear h hB hBg hk hl hl2
  go_enter Tryz.func22, Tryz.ntmps22
  go_wp2_with fail
  refine HP.out.mono ?_
  rintro e w1 ⟨x, rfl, hx0, hx1, hr, hg⟩
  obtain ⟨i, rfl⟩ : ∃ i : Nat, x = (i : Int) := ⟨x.toNat, by omega⟩
  have hik : i < k := by omega
  obtain ⟨b, off, rfl, _, hc⟩ := (HB.out.grownG hg (fun b off e => by have := HBG.out b off e; simpa using this)) (by have := HK.out; omega)
  obtain ⟨z, hz⟩ : ∃ z, ss[i]? = some z := ⟨_, List.getElem?_eq_getElem (by have := HK.out; omega)⟩
  have hcell := hc i z hz
  have HR := Lib.hid hr
  have HG := Lib.hid hg
  have HZ := Lib.hid (List.mem_of_getElem? hz)
  clear hc hz hr hg
  go_wp2_with fail
  go_ret
  exact ⟨z, rfl, HZ.out, HR.out, HG.out⟩

set_option maxHeartbeats 1000000 in
theorem unbind_any (z v : ByteArray) (w : World) (hz : z.size ≤ 1000) :
    Calls Tryz.prog 64 #[.string z, .string v] w fun e w' => ∃ s, e = .returned (.string s) ∧ s.size ≤ z.size ∧ w' = w := by
  obtain ⟨k, hk⟩ : ∃ k, z.size = k := ⟨_, rfl⟩
  have HK := Lib.hid hk
  rw [hk] at hz ⊢
  go_enter Tryz.func64, Tryz.ntmps64
  go_wp2_with fail
  go_loopw [5, 9] (fun q i wr => ∃ (j : Nat) (s : ByteArray), j ≤ k ∧ i = .int .i64 j ∧ q = .string s ∧ s.size ≤ j ∧ wr = w) (fun _ i _ => k - (intOf i).toNat)
  case atStart => exact ⟨0, ⟨#[]⟩, Nat.zero_le _, rfl, rfl, Nat.le_refl _, rfl⟩
  case round =>
    obtain ⟨j, s, hj, rfl, rfl, hs, rfl⟩ := hrel
    by_cases hlt : j < k
    · go_wp2_with fail
      · refine ⟨⟨j + 1, s ++ z.extract j (j + 1), by omega, by go_num, rfl, ?_, trivial⟩, by simp [intOf]; omega⟩
        have := HK.out
        simp [ByteArray.size_append, ByteArray.size_extract]
        omega
      · exact ⟨⟨j + 1, s, by omega, by go_num, rfl, by omega, trivial⟩, by simp [intOf]; omega⟩
    · go_wp2_with fail
      go_ret
      exact ⟨s, rfl, by omega, rfl⟩

theorem bind_any (z v : ByteArray) (w : World) (hz : z.size ≤ 1000) (hv : v.size = 1) :
    Calls Tryz.prog 63 #[.string z, .string v] w fun e w' => ∃ s, e = .returned (.string s) ∧ s.size ≤ z.size + 1 ∧ w' = w := by
  have HU := Lib.hid (fun w => unbind_any z v w hz)
  obtain ⟨k, hk⟩ : ∃ k, z.size = k := ⟨_, rfl⟩
  rw [hk] at HU hz ⊢
  have HV := Lib.hid hv
  clear hv
  go_enter Tryz.func63, Tryz.ntmps63
  go_wp2_with fail
  refine (HU.out _).mono ?_
  rintro e w1 ⟨s, rfl, hs, rfl⟩
  have hsz : ¬ 9223372036854775807 < s.size + v.size := by have := HV.out; omega
  go_wp2_with fail
  go_ret
  exact ⟨_, rfl, by rw [ByteArray.size_append, HV.out]; omega, rfl⟩

set_option maxRecDepth 100000 in
set_option maxHeartbeats 1000000 in
theorem dec_any (x : Int) (w : World) (h0 : 0 ≤ x) (h1 : x ≤ 9) :
    Calls Tryz.prog 62 #[.int .i64 x] w fun e w' => ∃ s, e = .returned (.string s) ∧ s.size = 1 ∧ w.grownBy w' none := by
  have h2 : ¬ x < -9223372036854775807 := by omega
  have h3 : ¬ x < 0 := by omega
  have h4 : ¬ 9 < x := by omega
  have e1 : IntKind.u8.wrap (48 + x) = 48 + x := IntWalk.u8_in _ (by omega)
  have hcv := conv_byte w (48 + x) w.heap.size rfl
  go_enter Tryz.func62, Tryz.ntmps62
  go_wp2_with fail
  go_loopw [0, 3] (fun q i wr => q = .int .i64 x ∧ i = .string ⟨#[]⟩ ∧ wr = w) (fun _ _ _ => 0)
  case atStart => exact ⟨rfl, rfl, rfl⟩
  case round =>
    obtain ⟨rfl, rfl, rfl⟩ := hrel
    go_wp2_with fail
    go_ret
    refine ⟨_, rfl, ?_, World.grownBy_alloc _ _ _⟩
    rw [ByteArray.size_append, one_size]
    rfl
end

section
open Go.RowKit

/-- How a draw of a text ends: of at most so many bytes, and so many steps of the source further on. -/
def DrP (g n c p K L : Nat) (A : Option Addr) (w : World) (e : Ending) (w' : World) : Prop := ∃ s p', e = .returned (.string s) ∧ 1 ≤ s.size ∧ s.size ≤ L ∧ p ≤ p' ∧ p' ≤ p + K ∧ Rd13 w' g A n c p' ∧ w.grownBy w' (some g)

theorem gr_someG {w w' : World} {g : Nat} (h : w.grownBy w' none) : w.grownBy w' (some g) := ⟨h.os, h.tape, h.output, h.size, fun k hk _ => h.block k hk (by simp)⟩
theorem gr_selfG (w : World) (g : Nat) : w.grownBy w (some g) := gr_refl _ _
theorem ext_one (z : ByteArray) (k : Nat) (h : k < z.size) : (z.extract k (k + 1)).size = 1 := by simp [ByteArray.size_extract]; omega

set_option maxRecDepth 100000 in
set_option maxHeartbeats 4000000 in
theorem draw_zero0 (g n c p : Nat) (A : Option Addr) (f : Int) (z o : ByteArray) (w : World) (h : Rd13 w g A n c p) (hf : f ≤ 0) (hp : p ≤ 900000) (hn2 : n ≤ 2000) (hz : z.size ≤ 100) :
    Calls Tryz.prog 44 #[.pointer (some ⟨g, 0, none⟩), .int .i64 0, .int .i64 f, .string z, .string o] w (DrP g n c p 2 1 A w) := by
  have H := Lib.hid h
  obtain ⟨k, hk⟩ : ∃ k, z.size = k := ⟨_, rfl⟩
  have HK := Lib.hid hk
  rw [hk] at hz
  obtain ⟨zb, hzb⟩ : ∃ b, z.toList.isEmpty = b := ⟨_, rfl⟩
  clear h
  cases zb
  · have hk0 : 0 < k := by
      rcases Nat.eq_zero_or_pos k with h0 | h0
      · exfalso
        have : z = ⟨#[]⟩ := ByteArray.ext (Array.eq_empty_of_size_eq_zero (by have := HK.out; rw [h0] at this; exact this))
        rw [this] at hzb
        have h9 : (⟨#[]⟩ : ByteArray).toList.isEmpty = true := by first | kernel_rfl | (unfold ByteArray.toList ByteArray.toList.loop; simp [ByteArray.size])
        rw [h9] at hzb
        cases hzb
      · exact h0
    have H3 := Lib.hid (pick_any g n c p A 3 w H.out (by omega) hn2 (by omega) (by omega))
    go_enter Tryz.func44, Tryz.ntmps44
    go_wp2_with fail
    refine H3.out.mono ?_
    rintro e w1 ⟨x, rfl, hx0, hx1, hr1, hg1⟩
    have HR1 := Lib.hid hr1
    have HG1 := Lib.hid hg1
    clear hr1 hg1
    by_cases hx : 0 < x
    · have HK1 := Lib.hid (pick_any g n c (p + 1) A k w1 HR1.out (by omega) hn2 (by omega) (by omega))
      go_wp2_with fail
      refine HK1.out.mono ?_
      rintro e w2 ⟨y, rfl, hy0, hy1, hr2, hg2⟩
      obtain ⟨i, rfl⟩ : ∃ i : Nat, y = (i : Int) := ⟨y.toNat, by omega⟩
      have hik : i < k := by omega
      have HR2 := Lib.hid hr2
      have HG2 := Lib.hid (HG1.out.trans hg2)
      have HS := Lib.hid (ext_one z i (by have := HK.out; omega))
      clear hr2 hg2
      go_wp2_with fail
      go_ret
      exact ⟨_, p + 2, rfl, by rw [HS.out]; omega, by rw [HS.out]; omega, by omega, by omega, HR2.out, HG2.out⟩
    · have H5 := Lib.hid (pick_any g n c (p + 1) A 5 w1 HR1.out (by omega) hn2 (by omega) (by omega))
      go_wp2_with fail
      refine H5.out.mono ?_
      rintro e w2 ⟨y, rfl, hy0, hy1, hr2, hg2⟩
      have HR2 := Lib.hid hr2
      have HG2 := Lib.hid (HG1.out.trans hg2)
      clear hr2 hg2
      go_wp2_with fail
      refine (dec_any y w2 (by omega) (by omega)).mono ?_
      rintro e w3 ⟨s, rfl, hs, hg3⟩
      have HG3 := Lib.hid hg3
      clear hg3
      go_wp2_with fail
      go_ret
      exact ⟨s, p + 2, rfl, by omega, by omega, by omega, by omega, HR2.out.grown HG3.out (by simp) (by simp), HG2.out.trans (gr_someG HG3.out)⟩
  · have H5 := Lib.hid (pick_any g n c p A 5 w H.out (by omega) hn2 (by omega) (by omega))
    go_enter Tryz.func44, Tryz.ntmps44
    go_wp2_with fail
    refine H5.out.mono ?_
    rintro e w1 ⟨x, rfl, hx0, hx1, hr1, hg1⟩
    have HR1 := Lib.hid hr1
    have HG1 := Lib.hid hg1
    clear hr1 hg1
    go_wp2_with fail
    refine (dec_any x w1 (by omega) (by omega)).mono ?_
    rintro e w2 ⟨s, rfl, hs, hg2⟩
    have HG2 := Lib.hid hg2
    clear hg2
    go_wp2_with fail
    go_ret
    exact ⟨s, p + 1, rfl, by omega, by omega, by omega, by omega, HR1.out.grown HG2.out (by simp) (by simp), HG1.out.trans (gr_someG HG2.out)⟩

set_option maxRecDepth 100000 in
set_option maxHeartbeats 4000000 in
theorem draw_zero1 (g n c p : Nat) (A : Option Addr) (f : Int) (z o : ByteArray) (w : World) (h : Rd13 w g A n c p) (hf : f ≤ 0) (hp : p ≤ 900000) (hn2 : n ≤ 2000) (hz : o.size ≤ 100) :
    Calls Tryz.prog 44 #[.pointer (some ⟨g, 0, none⟩), .int .i64 1, .int .i64 f, .string z, .string o] w (DrP g n c p 2 1 A w) := by
  have H := Lib.hid h
  obtain ⟨k, hk⟩ : ∃ k, o.size = k := ⟨_, rfl⟩
  have HK := Lib.hid hk
  rw [hk] at hz
  obtain ⟨zb, hzb⟩ : ∃ b, o.toList.isEmpty = b := ⟨_, rfl⟩
  clear h
  cases zb
  · have hk0 : 0 < k := by
      rcases Nat.eq_zero_or_pos k with h0 | h0
      · exfalso
        have : o = ⟨#[]⟩ := ByteArray.ext (Array.eq_empty_of_size_eq_zero (by have := HK.out; rw [h0] at this; exact this))
        rw [this] at hzb
        have h9 : (⟨#[]⟩ : ByteArray).toList.isEmpty = true := by first | kernel_rfl | (unfold ByteArray.toList ByteArray.toList.loop; simp [ByteArray.size])
        rw [h9] at hzb
        cases hzb
      · exact h0
    have H3 := Lib.hid (pick_any g n c p A 2 w H.out (by omega) hn2 (by omega) (by omega))
    go_enter Tryz.func44, Tryz.ntmps44
    go_wp2_with fail
    refine H3.out.mono ?_
    rintro e w1 ⟨x, rfl, hx0, hx1, hr1, hg1⟩
    have HR1 := Lib.hid hr1
    have HG1 := Lib.hid hg1
    clear hr1 hg1
    obtain ⟨xb, hxb⟩ : ∃ b, (x == 0) = b := ⟨_, rfl⟩
    cases xb
    · go_wp2_with fail
      go_ret
      exact ⟨_, p + 1, rfl, Nat.le_refl _, Nat.le_refl _, by omega, by omega, HR1.out, HG1.out⟩
    · have HK1 := Lib.hid (pick_any g n c (p + 1) A k w1 HR1.out (by omega) hn2 (by omega) (by omega))
      go_wp2_with fail
      refine HK1.out.mono ?_
      rintro e w2 ⟨y, rfl, hy0, hy1, hr2, hg2⟩
      obtain ⟨i, rfl⟩ : ∃ i : Nat, y = (i : Int) := ⟨y.toNat, by omega⟩
      have hik : i < k := by omega
      have HR2 := Lib.hid hr2
      have HG2 := Lib.hid (HG1.out.trans hg2)
      have HS := Lib.hid (ext_one o i (by have := HK.out; omega))
      clear hr2 hg2
      go_wp2_with fail
      go_ret
      exact ⟨_, p + 2, rfl, by rw [HS.out]; omega, by rw [HS.out]; omega, by omega, by omega, HR2.out, HG2.out⟩
  · go_enter Tryz.func44, Tryz.ntmps44
    go_wp2_with fail
    go_ret
    exact ⟨_, p, rfl, Nat.le_refl _, Nat.le_refl _, by omega, by omega, H.out, gr_selfG _ _⟩

set_option maxRecDepth 100000 in
set_option maxHeartbeats 4000000 in
theorem draw_zero2 (g n c p : Nat) (A : Option Addr) (f : Int) (z o : ByteArray) (w : World) (h : Rd13 w g A n c p) (hf : f ≤ 0) :
    Calls Tryz.prog 44 #[.pointer (some ⟨g, 0, none⟩), .int .i64 2, .int .i64 f, .string z, .string o] w (DrP g n c p 2 1 A w) := by
  have H := Lib.hid h
  clear h
  go_enter Tryz.func44, Tryz.ntmps44
  go_wp2_with fail
  go_ret
  exact ⟨_, p, rfl, Nat.le_refl _, Nat.le_refl _, by omega, by omega, H.out, gr_selfG _ _⟩

theorem draw_zero (g n c p : Nat) (A : Option Addr) (d f : Int) (z o : ByteArray) (w : World) (h : Rd13 w g A n c p) (hd : d = 0 ∨ d = 1 ∨ d = 2) (hf : f ≤ 0) (hp : p ≤ 900000) (hn2 : n ≤ 2000) (hz : z.size ≤ 100) (ho : o.size ≤ 100) :
    Calls Tryz.prog 44 #[.pointer (some ⟨g, 0, none⟩), .int .i64 d, .int .i64 f, .string z, .string o] w (DrP g n c p 2 1 A w) := by
  rcases hd with rfl | rfl | rfl
  · exact draw_zero0 g n c p A f z o w h hf hp hn2 hz
  · exact draw_zero1 g n c p A f z o w h hf hp hn2 ho
  · exact draw_zero2 g n c p A f z o w h hf
end

section
open Go.RowKit

/-- What a draw with less fuel does. -/
def DrH (m K L : Nat) (g n c : Nat) (A : Option Addr) : Prop := ∀ (d f : Int) (z o : ByteArray) (p : Nat) (w : World), (d = 0 ∨ d = 1 ∨ d = 2) → f ≤ m → z.size + m ≤ 50 → o.size + m ≤ 50 → p + K ≤ 800000 → Rd13 w g A n c p →
  Calls Tryz.prog 44 #[.pointer (some ⟨g, 0, none⟩), .int .i64 d, .int .i64 f, .string z, .string o] w (DrP g n c p K L A w)

theorem DrP.wide {g n c p p0 K L K' L' : Nat} {A : Option Addr} {w w0 : World} {e : Ending} {w' : World} (h : DrP g n c p K L A w e w') (h1 : p0 ≤ p) (h2 : p + K ≤ p0 + K') (h3 : L ≤ L') (hg : w0.grownBy w (some g)) : DrP g n c p0 K' L' A w0 e w' := by
  obtain ⟨s, p', he, a1, a2, a3, a4, hr, hgg⟩ := h
  exact ⟨s, p', he, a1, by omega, by omega, by omega, hr, hg.trans hgg⟩

theorem name_at (f : Int) (z o : Nat) (h0 : 0 < f) (h1 : f ≤ 60) (h2 : z ≤ 60) (h3 : o ≤ 60) : ∃ i : Nat, i < 5 ∧ (f + z + 2 * o).tmod 5 = (i : Int) := by
  refine ⟨((f + z + 2 * o) % 5).toNat, by omega, ?_⟩
  rw [Int.tmod_eq_emod_of_nonneg (by omega)]
  omega

theorem strs_new (w : World) (ss : List ByteArray) (ty : TypeId) : Strs (w.alloc (.cells (List.toArray (List.map Value.string ss)) ty)) (some ⟨w.heap.size, 0, none⟩) ss := fun _ =>
  ⟨_, _, rfl, by simp, fun j s hj => by
    have h1 := heap_alloc_new w (.cells (List.toArray (List.map Value.string ss)) ty)
    simp only [World.cell?, h1]
    simp [hj]⟩

set_option maxRecDepth 100000 in
set_option maxHeartbeats 16000000 in
theorem draw_up0 (m K L g n c p : Nat) (A : Option Addr) (f : Int) (z o : ByteArray) (w : World) (hI : DrH m K L g n c A) (h : Rd13 w g A n c p) (hf : 0 < f) (hfm : f ≤ m + 1) (hm : m ≤ 20) (hL : L ≤ 100000) (hK : K ≤ 100000) (hp : p + (2 * K + 2) ≤ 800000) (hn2 : n ≤ 2000)
    (hz : z.size + m < 50) (ho : o.size + m < 50) :
    Calls Tryz.prog 44 #[.pointer (some ⟨g, 0, none⟩), .int .i64 0, .int .i64 f, .string z, .string o] w (DrP g n c p (2 * K + 2) (2 * L + 5) A w) := by
  have H := Lib.hid h
  have HI := Lib.hid hI
  obtain ⟨i, hi5, hi⟩ := name_at f z.size o.size hf (by omega) (by omega) (by omega)
  obtain ⟨zs, hzs⟩ : ∃ k, z.size = k := ⟨_, rfl⟩
  obtain ⟨os, hos⟩ : ∃ k, o.size = k := ⟨_, rfl⟩
  have HZ := Lib.hid hzs
  have HO := Lib.hid hos
  rw [hzs, hos] at hi
  rw [hzs] at hz
  rw [hos] at ho
  have hf2 : ¬ f ≤ 0 := by omega
  have hi6 : ¬ ((i : Int) < 0) := by omega
  have hnm : ((⟨#[118, 119, 120, 121, 122]⟩ : ByteArray).extract i (i + 1)).size = 1 := by rw [ext_one]; show i < 5; exact hi5
  have H7 := Lib.hid (pick_any g n c p A 7 w H.out (by omega) hn2 (by omega) (by omega))
  clear h hI
  go_enter Tryz.func44, Tryz.ntmps44
  go_wp2_with fail
  refine H7.out.mono ?_
  rintro e w1 ⟨x, rfl, hx0, hx1, hr1, hg1⟩
  have HR1 := Lib.hid hr1
  have HG1 := Lib.hid hg1
  clear hr1 hg1
  by_cases h0 : x = 0
  · subst h0
    go_wp2_with fail
    refine (HI.out 1 (f - 1) z o (p + 1) w1 (by omega) (by omega) (by have := HZ.out; omega) (by have := HO.out; omega) (by omega) HR1.out).mono ?_
    rintro e w2 ⟨s2, p2, rfl, hs2, ht2, hp2, hq2, hr2, hg2⟩
    have HR2 := Lib.hid hr2
    have HG2 := Lib.hid (HG1.out.trans hg2)
    clear hr2 hg2
    go_wp2_with fail
    have c0 : (⟨#[83]⟩ : ByteArray).size = 1 := rfl
    go_ret
    exact ⟨_, p2, rfl, by (simp only [ByteArray.size_append]; omega), by (simp only [ByteArray.size_append]; omega), by omega, by omega, HR2.out, HG2.out⟩
  by_cases h1 : x = 1
  · subst h1
    go_wp2_with fail
    have HRA := Lib.hid (HR1.out.grown (World.grownBy_alloc w1 (.cells (List.toArray (List.map Value.string [⟨#[77]⟩, ⟨#[78]⟩])) 9) none) (by simp) (by simp))
    refine (oftxt_any g n c (p + 1) A _ 2 [⟨#[77]⟩, ⟨#[78]⟩] _ HRA.out (strs_new w1 [⟨#[77]⟩, ⟨#[78]⟩] _) (fun b off e => by cases e; have := HR1.out.lt; omega) (by omega) hn2 (by simp) (by simp)).mono ?_
    rintro e w2 ⟨s2, rfl, hm2, hr2, hg2⟩
    have hs2 : s2.size = 1 := by
      simp only [List.mem_cons, List.not_mem_nil, or_false] at hm2
      rcases hm2 with rfl | rfl <;> rfl
    have HR2 := Lib.hid hr2
    have HG2 := Lib.hid (HG1.out.trans ((gr_someG (World.grownBy_alloc w1 _ none)).trans hg2))
    clear hr2 hg2 hm2 HRA
    obtain ⟨p2, hp2⟩ : ∃ q, (p + 1) + 1 = q := ⟨_, rfl⟩
    rw [hp2] at HR2
    go_wp2_with fail
    refine (HI.out 1 (f - 1) z o p2 w2 (by omega) (by omega) (by have := HZ.out; omega) (by have := HO.out; omega) (by omega) HR2.out).mono ?_
    rintro e w3 ⟨s3, p3, rfl, hs3, ht3, hp3, hq3, hr3, hg3⟩
    have HR3 := Lib.hid hr3
    have HG3 := Lib.hid (HG2.out.trans hg3)
    clear hr3 hg3
    go_wp2_with fail
    go_ret
    exact ⟨_, p3, rfl, by (simp only [ByteArray.size_append]; omega), by (simp only [ByteArray.size_append]; omega), by omega, by omega, HR3.out, HG3.out⟩
  by_cases h2 : x = 2
  · subst h2
    go_wp2_with fail
    refine (HI.out 1 (f - 2) z o (p + 1) w1 (by omega) (by omega) (by have := HZ.out; omega) (by have := HO.out; omega) (by omega) HR1.out).mono ?_
    rintro e w2 ⟨s2, p2, rfl, hs2, ht2, hp2, hq2, hr2, hg2⟩
    have HR2 := Lib.hid hr2
    have HG2 := Lib.hid (HG1.out.trans hg2)
    clear hr2 hg2
    go_wp2_with fail
    refine (HI.out 0 (f - 2) z o p2 w2 (by omega) (by omega) (by have := HZ.out; omega) (by have := HO.out; omega) (by omega) HR2.out).mono ?_
    rintro e w3 ⟨s3, p3, rfl, hs3, ht3, hp3, hq3, hr3, hg3⟩
    have HR3 := Lib.hid hr3
    have HG3 := Lib.hid (HG2.out.trans hg3)
    clear hr3 hg3
    go_wp2_with fail
    have c0 : (⟨#[40]⟩ : ByteArray).size = 1 := rfl
    have c1 : (⟨#[41]⟩ : ByteArray).size = 1 := rfl
    have c2 : (⟨#[64]⟩ : ByteArray).size = 1 := rfl
    go_ret
    exact ⟨_, p3, rfl, by (simp only [ByteArray.size_append]; omega), by (simp only [ByteArray.size_append]; omega), by omega, by omega, HR3.out, HG3.out⟩
  by_cases h3 : x = 3
  · subst h3
    go_wp2_with fail
    refine (HI.out 0 0 z o (p + 1) w1 (by omega) (by omega) (by have := HZ.out; omega) (by have := HO.out; omega) (by omega) HR1.out).mono ?_
    rintro e w2 ⟨s2, p2, rfl, hs2, ht2, hp2, hq2, hr2, hg2⟩
    have HR2 := Lib.hid hr2
    have HG2 := Lib.hid (HG1.out.trans hg2)
    clear hr2 hg2
    go_wp2_with fail
    go_ret
    exact ⟨_, p2, rfl, by omega, by omega, by omega, by omega, HR2.out, HG2.out⟩
  have k0 : (x == 0) = false := by rw [beq_eq_false_iff_ne]; exact h0
  have k1 : (x == 1) = false := by rw [beq_eq_false_iff_ne]; exact h1
  have k2 : (x == 2) = false := by rw [beq_eq_false_iff_ne]; exact h2
  have k3 : (x == 3) = false := by rw [beq_eq_false_iff_ne]; exact h3
  go_wp2_with fail
  refine (HI.out 0 (f - 2) z o (p + 1) w1 (by omega) (by omega) (by have := HZ.out; omega) (by have := HO.out; omega) (by omega) HR1.out).mono ?_
  rintro e w2 ⟨s2, p2, rfl, hs2, ht2, hp2, hq2, hr2, hg2⟩
  have HR2 := Lib.hid hr2
  have HG2 := Lib.hid (HG1.out.trans hg2)
  clear hr2 hg2
  go_wp2_with fail
  have HRA := Lib.hid (HR2.out.grown (World.grownBy_alloc w2 (.cells (List.toArray (List.map Value.string [⟨#[43]⟩, ⟨#[42]⟩, ⟨#[94]⟩, ⟨#[45]⟩, ⟨#[61]⟩, ⟨#[60]⟩])) 9) none) (by simp) (by simp))
  refine (oftxt_any g n c p2 A _ 6 [⟨#[43]⟩, ⟨#[42]⟩, ⟨#[94]⟩, ⟨#[45]⟩, ⟨#[61]⟩, ⟨#[60]⟩] _ HRA.out (strs_new w2 [⟨#[43]⟩, ⟨#[42]⟩, ⟨#[94]⟩, ⟨#[45]⟩, ⟨#[61]⟩, ⟨#[60]⟩] _) (fun b off e => by cases e; have := HR2.out.lt; omega) (by omega) hn2 (by simp) (by simp)).mono ?_
  rintro e w3 ⟨s3, rfl, hm3, hr3, hg3⟩
  have hs3 : s3.size = 1 := by
    simp only [List.mem_cons, List.not_mem_nil, or_false] at hm3
    rcases hm3 with rfl | rfl | rfl | rfl | rfl | rfl <;> rfl
  have HR3 := Lib.hid hr3
  have HG3 := Lib.hid (HG2.out.trans ((gr_someG (World.grownBy_alloc w2 _ none)).trans hg3))
  clear hr3 hg3 hm3 HRA
  obtain ⟨p3, hp3⟩ : ∃ q, p2 + 1 = q := ⟨_, rfl⟩
  rw [hp3] at HR3
  go_wp2_with fail
  refine (HI.out 0 (f - 2) z o p3 w3 (by omega) (by omega) (by have := HZ.out; omega) (by have := HO.out; omega) (by omega) HR3.out).mono ?_
  rintro e w4 ⟨s4, p4, rfl, hs4, ht4, hp4, hq4, hr4, hg4⟩
  have HR4 := Lib.hid hr4
  have HG4 := Lib.hid (HG3.out.trans hg4)
  clear hr4 hg4
  go_wp2_with fail
  have c0 : (⟨#[40]⟩ : ByteArray).size = 1 := rfl
  have c1 : (⟨#[41]⟩ : ByteArray).size = 1 := rfl
  go_ret
  exact ⟨_, p4, rfl, by (simp only [ByteArray.size_append]; omega), by (simp only [ByteArray.size_append]; omega), by omega, by omega, HR4.out, HG4.out⟩
end

section
open Go.RowKit

set_option maxRecDepth 100000 in
set_option maxHeartbeats 16000000 in
theorem draw_up1 (m K L g n c p : Nat) (A : Option Addr) (f : Int) (z o : ByteArray) (w : World) (hI : DrH m K L g n c A) (h : Rd13 w g A n c p) (hf : 0 < f) (hfm : f ≤ m + 1) (hm : m ≤ 20) (hL : L ≤ 100000) (hK : K ≤ 100000) (hp : p + (2 * K + 2) ≤ 800000) (hn2 : n ≤ 2000)
    (hz : z.size + m < 50) (ho : o.size + m < 50) :
    Calls Tryz.prog 44 #[.pointer (some ⟨g, 0, none⟩), .int .i64 1, .int .i64 f, .string z, .string o] w (DrP g n c p (2 * K + 2) (2 * L + 5) A w) := by
  have H := Lib.hid h
  have HI := Lib.hid hI
  obtain ⟨i, hi5, hi⟩ := name_at f z.size o.size hf (by omega) (by omega) (by omega)
  obtain ⟨zs, hzs⟩ : ∃ k, z.size = k := ⟨_, rfl⟩
  obtain ⟨os, hos⟩ : ∃ k, o.size = k := ⟨_, rfl⟩
  have HZ := Lib.hid hzs
  have HO := Lib.hid hos
  rw [hzs, hos] at hi
  rw [hzs] at hz
  rw [hos] at ho
  have hf2 : ¬ f ≤ 0 := by omega
  have hi6 : ¬ ((i : Int) < 0) := by omega
  have hnm : ((⟨#[118, 119, 120, 121, 122]⟩ : ByteArray).extract i (i + 1)).size = 1 := by rw [ext_one]; show i < 5; exact hi5
  have H7 := Lib.hid (pick_any g n c p A 7 w H.out (by omega) hn2 (by omega) (by omega))
  clear h hI
  go_enter Tryz.func44, Tryz.ntmps44
  go_wp2_with fail
  refine H7.out.mono ?_
  rintro e w1 ⟨x, rfl, hx0, hx1, hr1, hg1⟩
  have HR1 := Lib.hid hr1
  have HG1 := Lib.hid hg1
  clear hr1 hg1
  by_cases h0 : x = 0
  · subst h0
    go_wp2_with fail
    refine (HI.out 0 (f - 1) z o (p + 1) w1 (by omega) (by omega) (by have := HZ.out; omega) (by have := HO.out; omega) (by omega) HR1.out).mono ?_
    rintro e w2 ⟨s2, p2, rfl, hs2, ht2, hp2, hq2, hr2, hg2⟩
    have HR2 := Lib.hid hr2
    have HG2 := Lib.hid (HG1.out.trans hg2)
    clear hr2 hg2
    go_wp2_with fail
    have c0 : (⟨#[73]⟩ : ByteArray).size = 1 := rfl
    go_ret
    exact ⟨_, p2, rfl, by (simp only [ByteArray.size_append]; omega), by (simp only [ByteArray.size_append]; omega), by omega, by omega, HR2.out, HG2.out⟩
  by_cases h1 : x = 1
  · subst h1
    go_wp2_with fail
    have HRA := Lib.hid (HR1.out.grown (World.grownBy_alloc w1 (.cells (List.toArray (List.map Value.string [⟨#[82]⟩, ⟨#[80]⟩])) 9) none) (by simp) (by simp))
    refine (oftxt_any g n c (p + 1) A _ 2 [⟨#[82]⟩, ⟨#[80]⟩] _ HRA.out (strs_new w1 [⟨#[82]⟩, ⟨#[80]⟩] _) (fun b off e => by cases e; have := HR1.out.lt; omega) (by omega) hn2 (by simp) (by simp)).mono ?_
    rintro e w2 ⟨s2, rfl, hm2, hr2, hg2⟩
    have hs2 : s2.size = 1 := by
      simp only [List.mem_cons, List.not_mem_nil, or_false] at hm2
      rcases hm2 with rfl | rfl <;> rfl
    have HR2 := Lib.hid hr2
    have HG2 := Lib.hid (HG1.out.trans ((gr_someG (World.grownBy_alloc w1 _ none)).trans hg2))
    clear hr2 hg2 hm2 HRA
    obtain ⟨p2, hp2⟩ : ∃ q, (p + 1) + 1 = q := ⟨_, rfl⟩
    rw [hp2] at HR2
    go_wp2_with fail
    refine (HI.out 1 (f - 1) z o p2 w2 (by omega) (by omega) (by have := HZ.out; omega) (by have := HO.out; omega) (by omega) HR2.out).mono ?_
    rintro e w3 ⟨s3, p3, rfl, hs3, ht3, hp3, hq3, hr3, hg3⟩
    have HR3 := Lib.hid hr3
    have HG3 := Lib.hid (HG2.out.trans hg3)
    clear hr3 hg3
    go_wp2_with fail
    go_ret
    exact ⟨_, p3, rfl, by (simp only [ByteArray.size_append]; omega), by (simp only [ByteArray.size_append]; omega), by omega, by omega, HR3.out, HG3.out⟩
  by_cases h2 : x = 2
  · subst h2
    go_wp2_with fail
    refine (HI.out 2 (f - 1) z o (p + 1) w1 (by omega) (by omega) (by have := HZ.out; omega) (by have := HO.out; omega) (by omega) HR1.out).mono ?_
    rintro e w2 ⟨s2, p2, rfl, hs2, ht2, hp2, hq2, hr2, hg2⟩
    have HR2 := Lib.hid hr2
    have HG2 := Lib.hid (HG1.out.trans hg2)
    clear hr2 hg2
    go_wp2_with fail
    have c0 : (⟨#[67]⟩ : ByteArray).size = 1 := rfl
    go_ret
    exact ⟨_, p2, rfl, by (simp only [ByteArray.size_append]; omega), by (simp only [ByteArray.size_append]; omega), by omega, by omega, HR2.out, HG2.out⟩
  by_cases h3 : x = 3
  · subst h3
    go_wp2_with fail
    refine (HI.out 1 (f - 2) z o (p + 1) w1 (by omega) (by omega) (by have := HZ.out; omega) (by have := HO.out; omega) (by omega) HR1.out).mono ?_
    rintro e w2 ⟨s2, p2, rfl, hs2, ht2, hp2, hq2, hr2, hg2⟩
    have HR2 := Lib.hid hr2
    have HG2 := Lib.hid (HG1.out.trans hg2)
    clear hr2 hg2
    go_wp2_with fail
    refine (bind_any z _ w2 (by have := HZ.out; omega) hnm).mono ?_
    rintro e w9 ⟨z2, rfl, hz2, hw9⟩
    subst w9
    go_wp2_with fail
    refine (unbind_any o _ w2 (by have := HO.out; omega)).mono ?_
    rintro e w9 ⟨o2, rfl, ho2, hw9⟩
    subst w9
    go_wp2_with fail
    refine (HI.out 0 (f - 2) z2 o2 p2 w2 (by omega) (by omega) (by have := HZ.out; omega) (by have := HO.out; omega) (by omega) HR2.out).mono ?_
    rintro e w3 ⟨s3, p3, rfl, hs3, ht3, hp3, hq3, hr3, hg3⟩
    have HR3 := Lib.hid hr3
    have HG3 := Lib.hid (HG2.out.trans hg3)
    clear hr3 hg3
    go_wp2_with fail
    have c0 : (⟨#[58]⟩ : ByteArray).size = 1 := rfl
    have c1 : (⟨#[62]⟩ : ByteArray).size = 1 := rfl
    have c2 : (⟨#[123]⟩ : ByteArray).size = 1 := rfl
    have c3 : (⟨#[125]⟩ : ByteArray).size = 1 := rfl
    go_ret
    exact ⟨_, p3, rfl, by (simp only [ByteArray.size_append]; omega), by (simp only [ByteArray.size_append]; omega), by omega, by omega, HR3.out, HG3.out⟩
  by_cases h4 : x = 4
  · subst h4
    go_wp2_with fail
    refine (HI.out 2 (f - 2) z o (p + 1) w1 (by omega) (by omega) (by have := HZ.out; omega) (by have := HO.out; omega) (by omega) HR1.out).mono ?_
    rintro e w2 ⟨s2, p2, rfl, hs2, ht2, hp2, hq2, hr2, hg2⟩
    have HR2 := Lib.hid hr2
    have HG2 := Lib.hid (HG1.out.trans hg2)
    clear hr2 hg2
    go_wp2_with fail
    refine (unbind_any z _ w2 (by have := HZ.out; omega)).mono ?_
    rintro e w9 ⟨z2, rfl, hz2, hw9⟩
    subst w9
    go_wp2_with fail
    refine (bind_any o _ w2 (by have := HO.out; omega) hnm).mono ?_
    rintro e w9 ⟨o2, rfl, ho2, hw9⟩
    subst w9
    go_wp2_with fail
    refine (HI.out 0 (f - 2) z2 o2 p2 w2 (by omega) (by omega) (by have := HZ.out; omega) (by have := HO.out; omega) (by omega) HR2.out).mono ?_
    rintro e w3 ⟨s3, p3, rfl, hs3, ht3, hp3, hq3, hr3, hg3⟩
    have HR3 := Lib.hid hr3
    have HG3 := Lib.hid (HG2.out.trans hg3)
    clear hr3 hg3
    go_wp2_with fail
    have c0 : (⟨#[58]⟩ : ByteArray).size = 1 := rfl
    have c1 : (⟨#[62]⟩ : ByteArray).size = 1 := rfl
    have c2 : (⟨#[91]⟩ : ByteArray).size = 1 := rfl
    have c3 : (⟨#[93]⟩ : ByteArray).size = 1 := rfl
    go_ret
    exact ⟨_, p3, rfl, by (simp only [ByteArray.size_append]; omega), by (simp only [ByteArray.size_append]; omega), by omega, by omega, HR3.out, HG3.out⟩
  have k0 : (x == 0) = false := by rw [beq_eq_false_iff_ne]; exact h0
  have k1 : (x == 1) = false := by rw [beq_eq_false_iff_ne]; exact h1
  have k2 : (x == 2) = false := by rw [beq_eq_false_iff_ne]; exact h2
  have k3 : (x == 3) = false := by rw [beq_eq_false_iff_ne]; exact h3
  have k4 : (x == 4) = false := by rw [beq_eq_false_iff_ne]; exact h4
  go_wp2_with fail
  refine (HI.out 1 (f - 2) z o (p + 1) w1 (by omega) (by omega) (by have := HZ.out; omega) (by have := HO.out; omega) (by omega) HR1.out).mono ?_
  rintro e w2 ⟨s2, p2, rfl, hs2, ht2, hp2, hq2, hr2, hg2⟩
  have HR2 := Lib.hid hr2
  have HG2 := Lib.hid (HG1.out.trans hg2)
  clear hr2 hg2
  go_wp2_with fail
  refine (bind_any z _ w2 (by have := HZ.out; omega) hnm).mono ?_
  rintro e w9 ⟨z2, rfl, hz2, hw9⟩
  subst w9
  go_wp2_with fail
  refine (unbind_any o _ w2 (by have := HO.out; omega)).mono ?_
  rintro e w9 ⟨o2, rfl, ho2, hw9⟩
  subst w9
  go_wp2_with fail
  refine (HI.out 0 (f - 2) z2 o2 p2 w2 (by omega) (by omega) (by have := HZ.out; omega) (by have := HO.out; omega) (by omega) HR2.out).mono ?_
  rintro e w3 ⟨s3, p3, rfl, hs3, ht3, hp3, hq3, hr3, hg3⟩
  have HR3 := Lib.hid hr3
  have HG3 := Lib.hid (HG2.out.trans hg3)
  clear hr3 hg3
  go_wp2_with fail
  have c0 : (⟨#[58]⟩ : ByteArray).size = 1 := rfl
  have c1 : (⟨#[62]⟩ : ByteArray).size = 1 := rfl
  have c2 : (⟨#[91]⟩ : ByteArray).size = 1 := rfl
  have c3 : (⟨#[93]⟩ : ByteArray).size = 1 := rfl
  go_ret
  exact ⟨_, p3, rfl, by (simp only [ByteArray.size_append]; omega), by (simp only [ByteArray.size_append]; omega), by omega, by omega, HR3.out, HG3.out⟩
end

section
open Go.RowKit

set_option maxRecDepth 100000 in
set_option maxHeartbeats 16000000 in
theorem draw_up2 (m K L g n c p : Nat) (A : Option Addr) (f : Int) (z o : ByteArray) (w : World) (hI : DrH m K L g n c A) (h : Rd13 w g A n c p) (hf : 0 < f) (hfm : f ≤ m + 1) (hm : m ≤ 20) (hL : L ≤ 100000) (hK : K ≤ 100000) (hp : p + (2 * K + 2) ≤ 800000) (hn2 : n ≤ 2000)
    (hz : z.size + m < 50) (ho : o.size + m < 50) :
    Calls Tryz.prog 44 #[.pointer (some ⟨g, 0, none⟩), .int .i64 2, .int .i64 f, .string z, .string o] w (DrP g n c p (2 * K + 2) (2 * L + 5) A w) := by
  have H := Lib.hid h
  have HI := Lib.hid hI
  obtain ⟨i, hi5, hi⟩ := name_at f z.size o.size hf (by omega) (by omega) (by omega)
  obtain ⟨zs, hzs⟩ : ∃ k, z.size = k := ⟨_, rfl⟩
  obtain ⟨os, hos⟩ : ∃ k, o.size = k := ⟨_, rfl⟩
  have HZ := Lib.hid hzs
  have HO := Lib.hid hos
  rw [hzs, hos] at hi
  rw [hzs] at hz
  rw [hos] at ho
  have hf2 : ¬ f ≤ 0 := by omega
  have hi6 : ¬ ((i : Int) < 0) := by omega
  have hnm : ((⟨#[118, 119, 120, 121, 122]⟩ : ByteArray).extract i (i + 1)).size = 1 := by rw [ext_one]; show i < 5; exact hi5
  have H7 := Lib.hid (pick_any g n c p A 3 w H.out (by omega) hn2 (by omega) (by omega))
  clear h hI
  go_enter Tryz.func44, Tryz.ntmps44
  go_wp2_with fail
  refine H7.out.mono ?_
  rintro e w1 ⟨x, rfl, hx0, hx1, hr1, hg1⟩
  have HR1 := Lib.hid hr1
  have HG1 := Lib.hid hg1
  clear hr1 hg1
  by_cases h0 : x = 0
  · subst h0
    go_wp2_with fail
    go_ret
    exact ⟨_, (p + 1), rfl, Nat.le_refl _, by show 1 ≤ _; omega, by omega, by omega, HR1.out, HG1.out⟩
  by_cases h1 : x = 1
  · subst h1
    go_wp2_with fail
    refine (HI.out 1 (f - 2) z o (p + 1) w1 (by omega) (by omega) (by have := HZ.out; omega) (by have := HO.out; omega) (by omega) HR1.out).mono ?_
    rintro e w2 ⟨s2, p2, rfl, hs2, ht2, hp2, hq2, hr2, hg2⟩
    have HR2 := Lib.hid hr2
    have HG2 := Lib.hid (HG1.out.trans hg2)
    clear hr2 hg2
    go_wp2_with fail
    refine (bind_any z _ w2 (by have := HZ.out; omega) hnm).mono ?_
    rintro e w9 ⟨z2, rfl, hz2, hw9⟩
    subst w9
    go_wp2_with fail
    refine (unbind_any o _ w2 (by have := HO.out; omega)).mono ?_
    rintro e w9 ⟨o2, rfl, ho2, hw9⟩
    subst w9
    go_wp2_with fail
    refine (HI.out 1 (f - 2) z2 o2 p2 w2 (by omega) (by omega) (by have := HZ.out; omega) (by have := HO.out; omega) (by omega) HR2.out).mono ?_
    rintro e w3 ⟨s3, p3, rfl, hs3, ht3, hp3, hq3, hr3, hg3⟩
    have HR3 := Lib.hid hr3
    have HG3 := Lib.hid (HG2.out.trans hg3)
    clear hr3 hg3
    go_wp2_with fail
    have c0 : (⟨#[58]⟩ : ByteArray).size = 1 := rfl
    have c1 : (⟨#[62]⟩ : ByteArray).size = 1 := rfl
    have c2 : (⟨#[91]⟩ : ByteArray).size = 1 := rfl
    have c3 : (⟨#[93]⟩ : ByteArray).size = 1 := rfl
    go_ret
    exact ⟨_, p3, rfl, by (simp only [ByteArray.size_append]; omega), by (simp only [ByteArray.size_append]; omega), by omega, by omega, HR3.out, HG3.out⟩
  have k0 : (x == 0) = false := by rw [beq_eq_false_iff_ne]; exact h0
  have k1 : (x == 1) = false := by rw [beq_eq_false_iff_ne]; exact h1
  go_wp2_with fail
  refine (HI.out 2 (f - 2) z o (p + 1) w1 (by omega) (by omega) (by have := HZ.out; omega) (by have := HO.out; omega) (by omega) HR1.out).mono ?_
  rintro e w2 ⟨s2, p2, rfl, hs2, ht2, hp2, hq2, hr2, hg2⟩
  have HR2 := Lib.hid hr2
  have HG2 := Lib.hid (HG1.out.trans hg2)
  clear hr2 hg2
  go_wp2_with fail
  refine (unbind_any z _ w2 (by have := HZ.out; omega)).mono ?_
  rintro e w9 ⟨z2, rfl, hz2, hw9⟩
  subst w9
  go_wp2_with fail
  refine (bind_any o _ w2 (by have := HO.out; omega) hnm).mono ?_
  rintro e w9 ⟨o2, rfl, ho2, hw9⟩
  subst w9
  go_wp2_with fail
  refine (HI.out 1 (f - 2) z2 o2 p2 w2 (by omega) (by omega) (by have := HZ.out; omega) (by have := HO.out; omega) (by omega) HR2.out).mono ?_
  rintro e w3 ⟨s3, p3, rfl, hs3, ht3, hp3, hq3, hr3, hg3⟩
  have HR3 := Lib.hid hr3
  have HG3 := Lib.hid (HG2.out.trans hg3)
  clear hr3 hg3
  go_wp2_with fail
  have c0 : (⟨#[58]⟩ : ByteArray).size = 1 := rfl
  have c1 : (⟨#[62]⟩ : ByteArray).size = 1 := rfl
  have c2 : (⟨#[91]⟩ : ByteArray).size = 1 := rfl
  have c3 : (⟨#[93]⟩ : ByteArray).size = 1 := rfl
  go_ret
  exact ⟨_, p3, rfl, by (simp only [ByteArray.size_append]; omega), by (simp only [ByteArray.size_append]; omega), by omega, by omega, HR3.out, HG3.out⟩
end

section
open Go.RowKit

def bsz : Nat → Nat
  | 0 => 1
  | m + 1 => 2 * bsz m + 5
def bk : Nat → Nat
  | 0 => 2
  | m + 1 => 2 * bk m + 2
theorem bsz_eq : ∀ m, bsz m + 5 = 6 * 2 ^ m
  | 0 => rfl
  | m + 1 => by have := bsz_eq m; simp only [bsz, Nat.pow_succ]; omega
theorem bk_eq : ∀ m, bk m + 2 = 4 * 2 ^ m
  | 0 => rfl
  | m + 1 => by have := bk_eq m; simp only [bk, Nat.pow_succ]; omega
theorem two_le {m : Nat} (h : m ≤ 10) : 2 ^ m ≤ 1024 := Nat.pow_le_pow_right (n := 2) (by omega) h
theorem two_ge (m : Nat) : 1 ≤ 2 ^ m := Nat.one_le_two_pow

theorem draw_any (g n c : Nat) (A : Option Addr) (hn2 : n ≤ 2000) : ∀ m, m ≤ 10 → DrH m (bk m) (bsz m) g n c A
  | 0, _ => fun d f z o p w hd hf hz ho hp h => by
    have : bk 0 = 2 := rfl
    exact draw_zero g n c p A d f z o w h hd hf (by omega) hn2 (by omega) (by omega)
  | m + 1, hm => fun d f z o p w hd hf hz ho hp h => by
    have b1 := bsz_eq m
    have b2 := bk_eq m
    have b3 := two_le (m := m) (by omega)
    have b4 := two_ge m
    have e1 : bk (m + 1) = 2 * bk m + 2 := rfl
    have e2 : bsz (m + 1) = 2 * bsz m + 5 := rfl
    by_cases hf0 : f ≤ 0
    · exact (draw_zero g n c p A d f z o w h hd hf0 (by omega) hn2 (by omega) (by omega)).mono fun e w' hq => hq.wide (Nat.le_refl _) (by omega) (by omega) (gr_refl _ _)
    · have hI := draw_any g n c A hn2 m (by omega)
      rw [e1, e2]
      rcases hd with rfl | rfl | rfl
      · exact draw_up0 m (bk m) (bsz m) g n c p A f z o w hI h (by omega) (by omega) (by omega) (by omega) (by omega) (by omega) hn2 (by omega) (by omega)
      · exact draw_up1 m (bk m) (bsz m) g n c p A f z o w hI h (by omega) (by omega) (by omega) (by omega) (by omega) (by omega) hn2 (by omega) (by omega)
      · exact draw_up2 m (bk m) (bsz m) g n c p A f z o w hI h (by omega) (by omega) (by omega) (by omega) (by omega) (by omega) hn2 (by omega) (by omega)

def known16 : List ByteArray := [⟨#[83, 97]⟩, ⟨#[91, 120, 58, 98, 62, 83, 120, 93]⟩, ⟨#[83, 91, 120, 58, 98, 62, 83, 91, 121, 58, 120, 62, 40, 121, 42, 121, 41, 93, 93]⟩, ⟨#[91, 120, 58, 97, 62, 73, 120, 93]⟩, ⟨#[67, 91, 120, 58, 97, 62, 73, 40, 120, 43, 49, 41, 93]⟩, ⟨#[123, 120, 58, 97, 62, 40, 120, 60, 51, 41, 125]⟩, ⟨#[91, 120, 58, 98, 62, 123, 121, 58, 120, 62, 40, 121, 60, 83, 120, 41, 125, 93]⟩, ⟨#[91, 120, 58, 97, 62, 40, 97, 64, 120, 41, 93]⟩, ⟨#[91, 120, 58, 98, 62, 91, 121, 58, 120, 62, 40, 121, 43, 78, 120, 41, 93, 93]⟩, ⟨#[80, 97]⟩, ⟨#[91, 120, 58, 98, 62, 80, 120, 93]⟩, ⟨#[82, 91, 120, 58, 97, 62, 40, 120, 43, 49, 41, 93]⟩, ⟨#[91, 120, 58, 73, 78, 97, 62, 120, 93]⟩, ⟨#[77, 91, 120, 58, 98, 62, 78, 120, 93]⟩, ⟨#[91, 120, 58, 97, 62, 91, 121, 58, 97, 62, 40, 120, 42, 121, 41, 93, 93]⟩, ⟨#[91, 120, 58, 91, 121, 58, 97, 62, 40, 121, 43, 49, 41, 93, 62, 40, 120, 42, 50, 41, 93]⟩]
theorem known_sizes : ∀ s ∈ known16, 1 ≤ s.size ∧ s.size ≤ 80 := by
  intro s hs
  simp only [known16, List.mem_cons, List.not_mem_nil, or_false] at hs
  rcases hs with rfl | rfl | rfl | rfl | rfl | rfl | rfl | rfl | rfl | rfl | rfl | rfl | rfl | rfl | rfl | rfl <;> exact ⟨by decide, by decide⟩

set_option maxRecDepth 100000 in
set_option maxHeartbeats 4000000 in
theorem known_any (x : Int) (w : World) (h0 : 0 ≤ x) (h1 : x < 16) :
    Calls Tryz.prog 43 #[.int .i64 x] w fun e w' => ∃ s, e = .returned (.string s) ∧ 1 ≤ s.size ∧ s.size ≤ 80 ∧ w.grownBy w' none := by
  obtain ⟨i, rfl⟩ : ∃ i : Nat, x = (i : Int) := ⟨x.toNat, by omega⟩
  obtain ⟨s, hs⟩ : ∃ s, known16[i]? = some s := ⟨_, List.getElem?_eq_getElem (by show i < 16; omega)⟩
  have HB := Lib.hid (known_sizes s (List.mem_of_getElem? hs))
  have hc : (w.alloc (.cells #[.string ⟨#[83, 97]⟩, .string ⟨#[91, 120, 58, 98, 62, 83, 120, 93]⟩, .string ⟨#[83, 91, 120, 58, 98, 62, 83, 91, 121, 58, 120, 62, 40, 121, 42, 121, 41, 93, 93]⟩, .string ⟨#[91, 120, 58, 97, 62, 73, 120, 93]⟩, .string ⟨#[67, 91, 120, 58, 97, 62, 73, 40, 120, 43, 49, 41, 93]⟩, .string ⟨#[123, 120, 58, 97, 62, 40, 120, 60, 51, 41, 125]⟩, .string ⟨#[91, 120, 58, 98, 62, 123, 121, 58, 120, 62, 40, 121, 60, 83, 120, 41, 125, 93]⟩, .string ⟨#[91, 120, 58, 97, 62, 40, 97, 64, 120, 41, 93]⟩, .string ⟨#[91, 120, 58, 98, 62, 91, 121, 58, 120, 62, 40, 121, 43, 78, 120, 41, 93, 93]⟩, .string ⟨#[80, 97]⟩, .string ⟨#[91, 120, 58, 98, 62, 80, 120, 93]⟩, .string ⟨#[82, 91, 120, 58, 97, 62, 40, 120, 43, 49, 41, 93]⟩, .string ⟨#[91, 120, 58, 73, 78, 97, 62, 120, 93]⟩, .string ⟨#[77, 91, 120, 58, 98, 62, 78, 120, 93]⟩, .string ⟨#[91, 120, 58, 97, 62, 91, 121, 58, 97, 62, 40, 120, 42, 121, 41, 93, 93]⟩, .string ⟨#[91, 120, 58, 91, 121, 58, 97, 62, 40, 121, 43, 49, 41, 93, 62, 40, 120, 42, 50, 41, 93]⟩] 9)).cell? ⟨w.heap.size, i, none⟩ = some (.string s) := by
    obtain ⟨b, off, e, _, hcc⟩ := strs_new w known16 9 (by decide)
    cases e
    have := hcc i s hs
    rw [Nat.zero_add] at this
    exact this
  have ht : (i : Int).tmod 16 = (i : Int) := by rw [Int.tmod_eq_emod_of_nonneg (by omega)]; omega
  clear hs
  go_enter Tryz.func43, Tryz.ntmps43
  go_wp2_with fail
  go_ret
  exact ⟨s, rfl, HB.out.1, HB.out.2, World.grownBy_alloc _ _ _⟩
end

section
open Go.RowKit

def s7L : List ByteArray := [⟨#[]⟩, ⟨#[97]⟩, ⟨#[120]⟩, ⟨#[83]⟩, ⟨#[40]⟩, ⟨#[93]⟩, ⟨#[113]⟩]
theorem s7_size : ∀ s ∈ s7L, s.size ≤ 1 := by
  intro s hs
  simp only [s7L, List.mem_cons, List.not_mem_nil, or_false] at hs
  rcases hs with rfl | rfl | rfl | rfl | rfl | rfl | rfl <;> decide
def cost7 : Nat → Nat
  | 5 => 1
  | 10 => 1
  | _ => 0
def sRz (g i : Nat) (s : ByteArray) : Nat → Value → World → Prop
  | 0, v, _ => v = .string s
  | 7, v, _ => v = .string s
  | 1, v, _ => v = .int .i64 i
  | 8, v, _ => v = .int .i64 i
  | 2, v, _ => ∃ x, v = .string x ∧ x.size ≤ 80
  | 3, v, _ => v = .pointer (some ⟨g, 0, none⟩)
  | 9, v, _ => v = .pointer (some ⟨g, 0, none⟩)
  | 4, v, w => ∃ B, v = .slice (some ⟨B, 0, none⟩) 7 7 ∧ Strs w (some ⟨B, 0, none⟩) s7L ∧ B ≠ g
  | 5, v, _ => ∃ x, v = .string x ∧ x.size ≤ 1
  | 6, v, _ => ∃ x, v = .string x ∧ x.size ≤ 81
  | 10, v, _ => ∃ x, v = .int .i64 x ∧ 0 ≤ x ∧ x < 2
  | 11, v, _ => ∃ x, v = .int .i64 ((i : Int) + x) ∧ 0 ≤ x ∧ x < 2
  | 12, v, _ => ∃ x, v = .string x ∧ x.size ≤ 80
  | _, v, _ => ∃ x, v = .string x ∧ x.size ≤ 161
theorem sRz_mono {g i : Nat} {s : ByteArray} {j : Nat} {v : Value} {w w' : World} (h : sRz g i s j v w) (hg : w.grownBy w' (some g)) : sRz g i s j v w' := by
  by_cases hj : j = 4
  · subst hj
    obtain ⟨B, e, hB, hne⟩ := h
    exact ⟨B, e, hB.grownG hg (fun b off e => by cases e; simpa using hne), hne⟩
  · unfold sRz at h ⊢
    split at h <;> first | exact h | exact absurd rfl hj

/-- How l5Some ends. -/
def SomeP (g n c p : Nat) (A : Option Addr) (w : World) (e : Ending) (w' : World) : Prop := ∃ s p', e = .returned (.string s) ∧ s.size ≤ 161 ∧ p ≤ p' ∧ p' ≤ p + 1000 ∧ Rd13 w' g A n c p' ∧ w.grownBy w' (some g)

set_option maxRecDepth 100000 in
set_option maxHeartbeats 16000000 in
theorem some_any (g n c p : Nat) (A : Option Addr) (w : World) (h : Rd13 w g A n c p) (hp : p ≤ 100000) (hn2 : n ≤ 2000) :
    Calls Tryz.prog 21 #[.pointer (some ⟨g, 0, none⟩)] w (SomeP g n c p A w) := by
  have H16 := Lib.hid (pick_any g n c p A 16 w h (by omega) hn2 (by omega) (by omega))
  have HDR := Lib.hid (draw_any g n c A hn2 6 (by omega))
  have hbk : bk 6 = 254 := rfl
  have hbz : bsz 6 = 379 := rfl
  rw [hbk, hbz] at HDR
  clear h hbk hbz
  go_enter Tryz.func21, Tryz.ntmps21
  go_wp2_with fail
  refine H16.out.mono ?_
  rintro e w1 ⟨x, rfl, hx0, hx1, hr1, hg1⟩
  have HR1 := Lib.hid hr1
  have HG1 := Lib.hid hg1
  clear hr1 hg1 H16
  go_wp2_with fail
  refine (known_any x w1 hx0 hx1).mono ?_
  rintro e w2 ⟨s, rfl, hs1, hs2, hg2⟩
  have HR2 := Lib.hid (HR1.out.grown hg2 (by simp) (by simp))
  have HG2 := Lib.hid (HG1.out.trans (gr_someG hg2))
  have H3 := Lib.hid (pick_any g n c (p + 1) A 3 w2 HR2.out (by omega) hn2 (by omega) (by omega))
  clear hg2 hx0 hx1
  go_wp2_with fail
  refine H3.out.mono ?_
  rintro e w3 ⟨x3, rfl, hx0, hx1, hr3, hg3⟩
  have HR3 := Lib.hid hr3
  have HG3 := Lib.hid (HG2.out.trans hg3)
  clear hr3 hg3 H3
  by_cases hx : 0 < x3
  · clear hs1 hs2
    have H3b := Lib.hid (pick_any g n c (p + 1 + 1) A 3 w3 HR3.out (by omega) hn2 (by omega) (by omega))
    go_wp2_with fail
    refine H3b.out.mono ?_
    rintro e w4 ⟨x4, rfl, hx40, hx41, hr4, hg4⟩
    have HR4 := Lib.hid hr4
    have HG4 := Lib.hid (HG3.out.trans hg4)
    clear hr4 hg4 H3b
    have H5b := Lib.hid (pick_any g n c (p + 1 + 1 + 1) A 5 w4 HR4.out (by omega) hn2 (by omega) (by omega))
    go_wp2_with fail
    refine H5b.out.mono ?_
    rintro e w5 ⟨x5, rfl, hx50, hx51, hr5, hg5⟩
    have HR5 := Lib.hid hr5
    have HG5 := Lib.hid (HG4.out.trans hg5)
    clear hr5 hg5 H5b
    go_wp2_with fail
    refine (HDR.out x4 (2 + x5) ⟨#[]⟩ ⟨#[]⟩ (p + 1 + 1 + 1 + 1) w5 (by omega) (by omega) (by show 0 + 6 ≤ 50; omega) (by show 0 + 6 ≤ 50; omega) (by omega) HR5.out).mono ?_
    rintro e w6 ⟨s, p6, rfl, hs1, hs2, hp1, hp2, hr6, hg6⟩
    have HR6 := Lib.hid hr6
    have HG6 := Lib.hid (HG5.out.trans hg6)
    clear hr6 hg6
    by_cases h80 : 80 < s.size
    · obtain ⟨s0, hs0⟩ : ∃ z, s = z := ⟨_, rfl⟩
      rw [hs0] at h80 hs1 hs2 ⊢
      clear hs0 hs1 hs2 s
      obtain ⟨s, hsA⟩ : ∃ z, z = (⟨#[83, 97]⟩ : ByteArray) := ⟨_, rfl⟩
      have hs1 : 1 ≤ s.size := by rw [hsA]; decide
      have hs2 : s.size ≤ 80 := by rw [hsA]; decide
      have H18 := Lib.hid (pick_any g n c p6 A 18 w6 HR6.out (by omega) hn2 (by omega) (by omega))
      go_wp2_with fail
      rw [← hsA]
      clear hsA h80
      refine H18.out.mono ?_
      rintro e w8 ⟨x8, rfl, hx80, hx81, hr8, hg8⟩
      have HR8 := Lib.hid hr8
      have HG8 := Lib.hid (HG6.out.trans hg8)
      clear hr8 hg8 H18
      by_cases hx8 : 0 < x8
      · go_wp2_with fail
        go_ret
        exact ⟨s, p6 + 1, rfl, by omega, by omega, by omega, HR8.out, HG8.out⟩
      · obtain ⟨ss, hss⟩ : ∃ q, s.size = q := ⟨_, rfl⟩
        have HSS := Lib.hid hss
        have hss1 : 1 ≤ ss ∧ ss ≤ 80 := by omega
        have HLEN := Lib.hid (pick_any g n c (p6 + 1) A ss w8 HR8.out (by omega) hn2 (by omega) (by omega))
        clear hs1 hs2
        go_wp2_with fail
        refine HLEN.out.mono ?_
        rintro e w9 ⟨x9, rfl, hx90, hx91, hr9, hg9⟩
        obtain ⟨i, rfl⟩ : ∃ i : Nat, x9 = (i : Int) := ⟨x9.toNat, by omega⟩
        have HRK := Lib.hid hr9
        have HGK := Lib.hid (HG8.out.trans hg9)
        clear hr9 hg9
        go_wp2_with fail
        refine wp_region_jsteps (u := w9) 43 rfl (by kernel_rfl) (fun w w' => w.grownBy w' (some g)) (sRz g i s) cost7 (fun k w => ∃ p', (p6 + 1 + 1) ≤ p' ∧ p' ≤ (p6 + 1 + 1) + k ∧ Rd13 w g A n c p') (by kernel_rfl) (fun _ _ _ h1 h2 => h1.trans h2) (fun j v w w' h hg => sRz_mono h hg) ?_ ?_ _ (gr_drewN _ _ _) ⟨(p6 + 1 + 1), Nat.le_refl _, Nat.le_refl _, HRK.out.grown (gr_drewN _ 1 none) (by simp) (by simp)⟩
        · intro a' w' hdf hgr hfar hall ⟨k9, hk9, p9, j1, j2, j3⟩
          have hk8 : k9 ≤ 2 := hk9
          obtain ⟨x, e2, hx⟩ : ∃ x, a'.tmps.getD 2 undef = .string x ∧ x.size ≤ 161 := hall 14 _ 2 rfl rfl
          have e2' : a'.tmps[2]?.getD undef = .string x := by rw [← e2]; simp
          go_wp2_with fail
          refine bodyPost_ret (v := .string x) (by simp [results, Tryz.results21, go_sem, e2']) hdf ?_
          exact ⟨x, p9, rfl, by omega, by omega, by omega, j3, HGK.out.trans hgr⟩
        refine ⟨?_, ?_, ?_, ?_, ?_, ?_, ?_, ?_, ?_, ?_, ?_, ?_, ?_, ?_, ?_, trivial⟩
        · intro a' w' k hdf hgr hfar hdep hJ hk
          have hkk : k ≤ 2 := by have h9 : spentAll cost7 15 = 2 := rfl; exact Nat.le_trans (Nat.le_add_right _ _) (h9 ▸ hk)
          have e3 : a'.tmps.getD 3 undef = .string s := hfar 3 (by kernel_rfl)
          go_simp
          exact ⟨_, rfl, gr_refl _ _, rfl, hJ⟩
        · intro a' w' k hdf hgr hfar hdep hJ hk
          have hkk : k ≤ 2 := by have h9 : spentAll cost7 15 = 2 := rfl; exact Nat.le_trans (Nat.le_add_right _ _) (h9 ▸ hk)
          have e4 : a'.tmps.getD 4 undef = .int .i64 i := hfar 4 (by kernel_rfl)
          go_simp
          exact ⟨_, rfl, gr_refl _ _, rfl, hJ⟩
        · intro a' w' k hdf hgr hfar hdep hJ hk
          have hkk : k ≤ 2 := by have h9 : spentAll cost7 15 = 2 := rfl; exact Nat.le_trans (Nat.le_add_right _ _) (h9 ▸ hk)
          have e29 : a'.tmps.getD 29 undef = .string s := hdep 0 _ 29 (by kernel_rfl) rfl rfl
          have e30 : a'.tmps.getD 30 undef = .int .i64 i := hdep 1 _ 30 (by kernel_rfl) rfl rfl
          have q1 : i ≤ ss := by omega
          go_simp
          exact ⟨_, rfl, gr_refl _ _, ⟨_, rfl, by simp only [ByteArray.size_extract]; omega⟩, hJ⟩
        · intro a' w' k hdf hgr hfar hdep hJ hk
          have hkk : k ≤ 2 := by have h9 : spentAll cost7 15 = 2 := rfl; exact Nat.le_trans (Nat.le_add_right _ _) (h9 ▸ hk)
          have e0 : a'.tmps.getD 0 undef = .pointer (some ⟨g, 0, none⟩) := hfar 0 (by kernel_rfl)
          go_simp
          exact ⟨_, rfl, gr_refl _ _, rfl, hJ⟩
        · intro a' w' k hdf hgr hfar hdep hJ hk
          have hkk : k ≤ 2 := by have h9 : spentAll cost7 15 = 2 := rfl; exact Nat.le_trans (Nat.le_add_right _ _) (h9 ▸ hk)
          go_simp
          obtain ⟨p9, j1, j2, j3⟩ := hJ
          exact ⟨_, rfl, gr_someG (World.grownBy_alloc _ _ none), ⟨w'.heap.size, rfl, strs_new w' s7L _, by have := j3.lt; omega⟩, ⟨p9, j1, j2, j3.grown (World.grownBy_alloc _ _ none) (by simp) (by simp)⟩⟩
        · intro a' w' k hdf hgr hfar hdep hJ hk
          have hkk : k ≤ 2 := by have h9 : spentAll cost7 15 = 2 := rfl; exact Nat.le_trans (Nat.le_add_right _ _) (h9 ▸ hk)
          have e32 : a'.tmps.getD 32 undef = .pointer (some ⟨g, 0, none⟩) := hdep 3 _ 32 (by kernel_rfl) rfl rfl
          obtain ⟨B, e33, hB, hBg⟩ : ∃ B, a'.tmps.getD 33 undef = .slice (some ⟨B, 0, none⟩) 7 7 ∧ Strs w' (some ⟨B, 0, none⟩) s7L ∧ B ≠ g := hdep 4 _ 33 (by kernel_rfl) rfl rfl
          obtain ⟨p9, j1, j2, j3⟩ := hJ
          go_simp
          refine (oftxt_any g n c p9 A _ 7 s7L w' j3 hB (fun b off e => by cases e; exact hBg) (by omega) hn2 (by decide) (by decide)).mono ?_
          rintro e w2 ⟨x, rfl, hx, hr, hg⟩
          exact ⟨_, rfl, hg, ⟨x, rfl, s7_size x hx⟩, ⟨p9 + 1, by omega, by simp only [cost7]; omega, hr⟩⟩
        · intro a' w' k hdf hgr hfar hdep hJ hk
          have hkk : k ≤ 2 := by have h9 : spentAll cost7 15 = 2 := rfl; exact Nat.le_trans (Nat.le_add_right _ _) (h9 ▸ hk)
          obtain ⟨x, e31, hx⟩ : ∃ x, a'.tmps.getD 31 undef = .string x ∧ x.size ≤ 80 := hdep 2 _ 31 (by kernel_rfl) rfl rfl
          obtain ⟨y, e34, hy⟩ : ∃ x, a'.tmps.getD 34 undef = .string x ∧ x.size ≤ 1 := hdep 5 _ 34 (by kernel_rfl) rfl rfl
          have q1 : ¬ 9223372036854775807 < x.size + y.size := by omega
          go_simp
          exact ⟨_, rfl, gr_refl _ _, ⟨_, rfl, by simp only [ByteArray.size_append]; omega⟩, hJ⟩
        · intro a' w' k hdf hgr hfar hdep hJ hk
          have hkk : k ≤ 2 := by have h9 : spentAll cost7 15 = 2 := rfl; exact Nat.le_trans (Nat.le_add_right _ _) (h9 ▸ hk)
          have e3 : a'.tmps.getD 3 undef = .string s := hfar 3 (by kernel_rfl)
          go_simp
          exact ⟨_, rfl, gr_refl _ _, rfl, hJ⟩
        · intro a' w' k hdf hgr hfar hdep hJ hk
          have hkk : k ≤ 2 := by have h9 : spentAll cost7 15 = 2 := rfl; exact Nat.le_trans (Nat.le_add_right _ _) (h9 ▸ hk)
          have e4 : a'.tmps.getD 4 undef = .int .i64 i := hfar 4 (by kernel_rfl)
          go_simp
          exact ⟨_, rfl, gr_refl _ _, rfl, hJ⟩
        · intro a' w' k hdf hgr hfar hdep hJ hk
          have hkk : k ≤ 2 := by have h9 : spentAll cost7 15 = 2 := rfl; exact Nat.le_trans (Nat.le_add_right _ _) (h9 ▸ hk)
          have e0 : a'.tmps.getD 0 undef = .pointer (some ⟨g, 0, none⟩) := hfar 0 (by kernel_rfl)
          go_simp
          exact ⟨_, rfl, gr_refl _ _, rfl, hJ⟩
        · intro a' w' k hdf hgr hfar hdep hJ hk
          have hkk : k ≤ 2 := by have h9 : spentAll cost7 15 = 2 := rfl; exact Nat.le_trans (Nat.le_add_right _ _) (h9 ▸ hk)
          have e38 : a'.tmps.getD 38 undef = .pointer (some ⟨g, 0, none⟩) := hdep 9 _ 38 (by kernel_rfl) rfl rfl
          obtain ⟨p9, j1, j2, j3⟩ := hJ
          go_simp
          refine (pick_any g n c p9 A 2 w' j3 (by omega) hn2 (by omega) (by omega)).mono ?_
          rintro e w2 ⟨x, rfl, hx0, hx1, hr, hg⟩
          exact ⟨_, rfl, hg, ⟨x, rfl, hx0, hx1⟩, ⟨p9 + 1, by omega, by simp only [cost7]; omega, hr⟩⟩
        · intro a' w' k hdf hgr hfar hdep hJ hk
          have hkk : k ≤ 2 := by have h9 : spentAll cost7 15 = 2 := rfl; exact Nat.le_trans (Nat.le_add_right _ _) (h9 ▸ hk)
          have e37 : a'.tmps.getD 37 undef = .int .i64 i := hdep 8 _ 37 (by kernel_rfl) rfl rfl
          obtain ⟨x, e39, hx0, hx1⟩ : ∃ x, a'.tmps.getD 39 undef = .int .i64 x ∧ 0 ≤ x ∧ x < 2 := hdep 10 _ 39 (by kernel_rfl) rfl rfl
          have q1 : IntKind.i64.wrap ((i : Int) + x) = (i : Int) + x := IntWalk.i64_in _ (by omega)
          go_simp
          exact ⟨_, rfl, gr_refl _ _, ⟨x, rfl, hx0, hx1⟩, hJ⟩
        · intro a' w' k hdf hgr hfar hdep hJ hk
          have hkk : k ≤ 2 := by have h9 : spentAll cost7 15 = 2 := rfl; exact Nat.le_trans (Nat.le_add_right _ _) (h9 ▸ hk)
          have e36 : a'.tmps.getD 36 undef = .string s := hdep 7 _ 36 (by kernel_rfl) rfl rfl
          obtain ⟨x, e40, hx0, hx1⟩ : ∃ x, a'.tmps.getD 40 undef = .int .i64 ((i : Int) + x) ∧ 0 ≤ x ∧ x < 2 := hdep 11 _ 40 (by kernel_rfl) rfl rfl
          obtain ⟨j, rfl⟩ : ∃ j : Nat, x = (j : Int) := ⟨x.toNat, by omega⟩
          have q1 : 0 ≤ (i : Int) + (j : Int) ∧ (i : Int) + (j : Int) ≤ (ss : Int) := by omega
          go_simp
          exact ⟨_, rfl, gr_refl _ _, ⟨_, rfl, by simp only [ByteArray.size_extract]; omega⟩, hJ⟩
        · intro a' w' k hdf hgr hfar hdep hJ hk
          have hkk : k ≤ 2 := by have h9 : spentAll cost7 15 = 2 := rfl; exact Nat.le_trans (Nat.le_add_right _ _) (h9 ▸ hk)
          obtain ⟨x, e35, hx⟩ : ∃ x, a'.tmps.getD 35 undef = .string x ∧ x.size ≤ 81 := hdep 6 _ 35 (by kernel_rfl) rfl rfl
          obtain ⟨y, e41, hy⟩ : ∃ x, a'.tmps.getD 41 undef = .string x ∧ x.size ≤ 80 := hdep 12 _ 41 (by kernel_rfl) rfl rfl
          have q1 : ¬ 9223372036854775807 < x.size + y.size := by omega
          go_simp
          exact ⟨_, rfl, gr_refl _ _, ⟨_, rfl, by simp only [ByteArray.size_append]; omega⟩, hJ⟩
        · intro a' w' k hdf hgr hfar hdep hJ hk
          have hkk : k ≤ 2 := by have h9 : spentAll cost7 15 = 2 := rfl; exact Nat.le_trans (Nat.le_add_right _ _) (h9 ▸ hk)
          obtain ⟨x, e42, hx⟩ : ∃ x, a'.tmps.getD 42 undef = .string x ∧ x.size ≤ 161 := hdep 13 _ 42 (by kernel_rfl) rfl rfl
          go_simp
          exact ⟨_, rfl, gr_refl _ _, ⟨x, rfl, hx⟩, hJ⟩
    · have hs2 : s.size ≤ 80 := by omega
      have H18 := Lib.hid (pick_any g n c p6 A 18 w6 HR6.out (by omega) hn2 (by omega) (by omega))
      go_wp2_with fail
      refine H18.out.mono ?_
      rintro e w8 ⟨x8, rfl, hx80, hx81, hr8, hg8⟩
      have HR8 := Lib.hid hr8
      have HG8 := Lib.hid (HG6.out.trans hg8)
      clear hr8 hg8 H18
      by_cases hx8 : 0 < x8
      · go_wp2_with fail
        go_ret
        exact ⟨s, p6 + 1, rfl, by omega, by omega, by omega, HR8.out, HG8.out⟩
      · obtain ⟨ss, hss⟩ : ∃ q, s.size = q := ⟨_, rfl⟩
        have HSS := Lib.hid hss
        have hss1 : 1 ≤ ss ∧ ss ≤ 80 := by omega
        have HLEN := Lib.hid (pick_any g n c (p6 + 1) A ss w8 HR8.out (by omega) hn2 (by omega) (by omega))
        clear hs1 hs2
        go_wp2_with fail
        refine HLEN.out.mono ?_
        rintro e w9 ⟨x9, rfl, hx90, hx91, hr9, hg9⟩
        obtain ⟨i, rfl⟩ : ∃ i : Nat, x9 = (i : Int) := ⟨x9.toNat, by omega⟩
        have HRK := Lib.hid hr9
        have HGK := Lib.hid (HG8.out.trans hg9)
        clear hr9 hg9
        go_wp2_with fail
        refine wp_region_jsteps (u := w9) 43 rfl (by kernel_rfl) (fun w w' => w.grownBy w' (some g)) (sRz g i s) cost7 (fun k w => ∃ p', (p6 + 1 + 1) ≤ p' ∧ p' ≤ (p6 + 1 + 1) + k ∧ Rd13 w g A n c p') (by kernel_rfl) (fun _ _ _ h1 h2 => h1.trans h2) (fun j v w w' h hg => sRz_mono h hg) ?_ ?_ _ (gr_drewN _ _ _) ⟨(p6 + 1 + 1), Nat.le_refl _, Nat.le_refl _, HRK.out.grown (gr_drewN _ 1 none) (by simp) (by simp)⟩
        · intro a' w' hdf hgr hfar hall ⟨k9, hk9, p9, j1, j2, j3⟩
          have hk8 : k9 ≤ 2 := hk9
          obtain ⟨x, e2, hx⟩ : ∃ x, a'.tmps.getD 2 undef = .string x ∧ x.size ≤ 161 := hall 14 _ 2 rfl rfl
          have e2' : a'.tmps[2]?.getD undef = .string x := by rw [← e2]; simp
          go_wp2_with fail
          refine bodyPost_ret (v := .string x) (by simp [results, Tryz.results21, go_sem, e2']) hdf ?_
          exact ⟨x, p9, rfl, by omega, by omega, by omega, j3, HGK.out.trans hgr⟩
        refine ⟨?_, ?_, ?_, ?_, ?_, ?_, ?_, ?_, ?_, ?_, ?_, ?_, ?_, ?_, ?_, trivial⟩
        · intro a' w' k hdf hgr hfar hdep hJ hk
          have hkk : k ≤ 2 := by have h9 : spentAll cost7 15 = 2 := rfl; exact Nat.le_trans (Nat.le_add_right _ _) (h9 ▸ hk)
          have e3 : a'.tmps.getD 3 undef = .string s := hfar 3 (by kernel_rfl)
          go_simp
          exact ⟨_, rfl, gr_refl _ _, rfl, hJ⟩
        · intro a' w' k hdf hgr hfar hdep hJ hk
          have hkk : k ≤ 2 := by have h9 : spentAll cost7 15 = 2 := rfl; exact Nat.le_trans (Nat.le_add_right _ _) (h9 ▸ hk)
          have e4 : a'.tmps.getD 4 undef = .int .i64 i := hfar 4 (by kernel_rfl)
          go_simp
          exact ⟨_, rfl, gr_refl _ _, rfl, hJ⟩
        · intro a' w' k hdf hgr hfar hdep hJ hk
          have hkk : k ≤ 2 := by have h9 : spentAll cost7 15 = 2 := rfl; exact Nat.le_trans (Nat.le_add_right _ _) (h9 ▸ hk)
          have e29 : a'.tmps.getD 29 undef = .string s := hdep 0 _ 29 (by kernel_rfl) rfl rfl
          have e30 : a'.tmps.getD 30 undef = .int .i64 i := hdep 1 _ 30 (by kernel_rfl) rfl rfl
          have q1 : i ≤ ss := by omega
          go_simp
          exact ⟨_, rfl, gr_refl _ _, ⟨_, rfl, by simp only [ByteArray.size_extract]; omega⟩, hJ⟩
        · intro a' w' k hdf hgr hfar hdep hJ hk
          have hkk : k ≤ 2 := by have h9 : spentAll cost7 15 = 2 := rfl; exact Nat.le_trans (Nat.le_add_right _ _) (h9 ▸ hk)
          have e0 : a'.tmps.getD 0 undef = .pointer (some ⟨g, 0, none⟩) := hfar 0 (by kernel_rfl)
          go_simp
          exact ⟨_, rfl, gr_refl _ _, rfl, hJ⟩
        · intro a' w' k hdf hgr hfar hdep hJ hk
          have hkk : k ≤ 2 := by have h9 : spentAll cost7 15 = 2 := rfl; exact Nat.le_trans (Nat.le_add_right _ _) (h9 ▸ hk)
          go_simp
          obtain ⟨p9, j1, j2, j3⟩ := hJ
          exact ⟨_, rfl, gr_someG (World.grownBy_alloc _ _ none), ⟨w'.heap.size, rfl, strs_new w' s7L _, by have := j3.lt; omega⟩, ⟨p9, j1, j2, j3.grown (World.grownBy_alloc _ _ none) (by simp) (by simp)⟩⟩
        · intro a' w' k hdf hgr hfar hdep hJ hk
          have hkk : k ≤ 2 := by have h9 : spentAll cost7 15 = 2 := rfl; exact Nat.le_trans (Nat.le_add_right _ _) (h9 ▸ hk)
          have e32 : a'.tmps.getD 32 undef = .pointer (some ⟨g, 0, none⟩) := hdep 3 _ 32 (by kernel_rfl) rfl rfl
          obtain ⟨B, e33, hB, hBg⟩ : ∃ B, a'.tmps.getD 33 undef = .slice (some ⟨B, 0, none⟩) 7 7 ∧ Strs w' (some ⟨B, 0, none⟩) s7L ∧ B ≠ g := hdep 4 _ 33 (by kernel_rfl) rfl rfl
          obtain ⟨p9, j1, j2, j3⟩ := hJ
          go_simp
          refine (oftxt_any g n c p9 A _ 7 s7L w' j3 hB (fun b off e => by cases e; exact hBg) (by omega) hn2 (by decide) (by decide)).mono ?_
          rintro e w2 ⟨x, rfl, hx, hr, hg⟩
          exact ⟨_, rfl, hg, ⟨x, rfl, s7_size x hx⟩, ⟨p9 + 1, by omega, by simp only [cost7]; omega, hr⟩⟩
        · intro a' w' k hdf hgr hfar hdep hJ hk
          have hkk : k ≤ 2 := by have h9 : spentAll cost7 15 = 2 := rfl; exact Nat.le_trans (Nat.le_add_right _ _) (h9 ▸ hk)
          obtain ⟨x, e31, hx⟩ : ∃ x, a'.tmps.getD 31 undef = .string x ∧ x.size ≤ 80 := hdep 2 _ 31 (by kernel_rfl) rfl rfl
          obtain ⟨y, e34, hy⟩ : ∃ x, a'.tmps.getD 34 undef = .string x ∧ x.size ≤ 1 := hdep 5 _ 34 (by kernel_rfl) rfl rfl
          have q1 : ¬ 9223372036854775807 < x.size + y.size := by omega
          go_simp
          exact ⟨_, rfl, gr_refl _ _, ⟨_, rfl, by simp only [ByteArray.size_append]; omega⟩, hJ⟩
        · intro a' w' k hdf hgr hfar hdep hJ hk
          have hkk : k ≤ 2 := by have h9 : spentAll cost7 15 = 2 := rfl; exact Nat.le_trans (Nat.le_add_right _ _) (h9 ▸ hk)
          have e3 : a'.tmps.getD 3 undef = .string s := hfar 3 (by kernel_rfl)
          go_simp
          exact ⟨_, rfl, gr_refl _ _, rfl, hJ⟩
        · intro a' w' k hdf hgr hfar hdep hJ hk
          have hkk : k ≤ 2 := by have h9 : spentAll cost7 15 = 2 := rfl; exact Nat.le_trans (Nat.le_add_right _ _) (h9 ▸ hk)
          have e4 : a'.tmps.getD 4 undef = .int .i64 i := hfar 4 (by kernel_rfl)
          go_simp
          exact ⟨_, rfl, gr_refl _ _, rfl, hJ⟩
        · intro a' w' k hdf hgr hfar hdep hJ hk
          have hkk : k ≤ 2 := by have h9 : spentAll cost7 15 = 2 := rfl; exact Nat.le_trans (Nat.le_add_right _ _) (h9 ▸ hk)
          have e0 : a'.tmps.getD 0 undef = .pointer (some ⟨g, 0, none⟩) := hfar 0 (by kernel_rfl)
          go_simp
          exact ⟨_, rfl, gr_refl _ _, rfl, hJ⟩
        · intro a' w' k hdf hgr hfar hdep hJ hk
          have hkk : k ≤ 2 := by have h9 : spentAll cost7 15 = 2 := rfl; exact Nat.le_trans (Nat.le_add_right _ _) (h9 ▸ hk)
          have e38 : a'.tmps.getD 38 undef = .pointer (some ⟨g, 0, none⟩) := hdep 9 _ 38 (by kernel_rfl) rfl rfl
          obtain ⟨p9, j1, j2, j3⟩ := hJ
          go_simp
          refine (pick_any g n c p9 A 2 w' j3 (by omega) hn2 (by omega) (by omega)).mono ?_
          rintro e w2 ⟨x, rfl, hx0, hx1, hr, hg⟩
          exact ⟨_, rfl, hg, ⟨x, rfl, hx0, hx1⟩, ⟨p9 + 1, by omega, by simp only [cost7]; omega, hr⟩⟩
        · intro a' w' k hdf hgr hfar hdep hJ hk
          have hkk : k ≤ 2 := by have h9 : spentAll cost7 15 = 2 := rfl; exact Nat.le_trans (Nat.le_add_right _ _) (h9 ▸ hk)
          have e37 : a'.tmps.getD 37 undef = .int .i64 i := hdep 8 _ 37 (by kernel_rfl) rfl rfl
          obtain ⟨x, e39, hx0, hx1⟩ : ∃ x, a'.tmps.getD 39 undef = .int .i64 x ∧ 0 ≤ x ∧ x < 2 := hdep 10 _ 39 (by kernel_rfl) rfl rfl
          have q1 : IntKind.i64.wrap ((i : Int) + x) = (i : Int) + x := IntWalk.i64_in _ (by omega)
          go_simp
          exact ⟨_, rfl, gr_refl _ _, ⟨x, rfl, hx0, hx1⟩, hJ⟩
        · intro a' w' k hdf hgr hfar hdep hJ hk
          have hkk : k ≤ 2 := by have h9 : spentAll cost7 15 = 2 := rfl; exact Nat.le_trans (Nat.le_add_right _ _) (h9 ▸ hk)
          have e36 : a'.tmps.getD 36 undef = .string s := hdep 7 _ 36 (by kernel_rfl) rfl rfl
          obtain ⟨x, e40, hx0, hx1⟩ : ∃ x, a'.tmps.getD 40 undef = .int .i64 ((i : Int) + x) ∧ 0 ≤ x ∧ x < 2 := hdep 11 _ 40 (by kernel_rfl) rfl rfl
          obtain ⟨j, rfl⟩ : ∃ j : Nat, x = (j : Int) := ⟨x.toNat, by omega⟩
          have q1 : 0 ≤ (i : Int) + (j : Int) ∧ (i : Int) + (j : Int) ≤ (ss : Int) := by omega
          go_simp
          exact ⟨_, rfl, gr_refl _ _, ⟨_, rfl, by simp only [ByteArray.size_extract]; omega⟩, hJ⟩
        · intro a' w' k hdf hgr hfar hdep hJ hk
          have hkk : k ≤ 2 := by have h9 : spentAll cost7 15 = 2 := rfl; exact Nat.le_trans (Nat.le_add_right _ _) (h9 ▸ hk)
          obtain ⟨x, e35, hx⟩ : ∃ x, a'.tmps.getD 35 undef = .string x ∧ x.size ≤ 81 := hdep 6 _ 35 (by kernel_rfl) rfl rfl
          obtain ⟨y, e41, hy⟩ : ∃ x, a'.tmps.getD 41 undef = .string x ∧ x.size ≤ 80 := hdep 12 _ 41 (by kernel_rfl) rfl rfl
          have q1 : ¬ 9223372036854775807 < x.size + y.size := by omega
          go_simp
          exact ⟨_, rfl, gr_refl _ _, ⟨_, rfl, by simp only [ByteArray.size_append]; omega⟩, hJ⟩
        · intro a' w' k hdf hgr hfar hdep hJ hk
          have hkk : k ≤ 2 := by have h9 : spentAll cost7 15 = 2 := rfl; exact Nat.le_trans (Nat.le_add_right _ _) (h9 ▸ hk)
          obtain ⟨x, e42, hx⟩ : ∃ x, a'.tmps.getD 42 undef = .string x ∧ x.size ≤ 161 := hdep 13 _ 42 (by kernel_rfl) rfl rfl
          go_simp
          exact ⟨_, rfl, gr_refl _ _, ⟨x, rfl, hx⟩, hJ⟩
  · have h80 : ¬ 80 < s.size := by omega
    have H18 := Lib.hid (pick_any g n c (p + 1 + 1) A 18 w3 HR3.out (by omega) hn2 (by omega) (by omega))
    go_wp2_with fail
    refine H18.out.mono ?_
    rintro e w8 ⟨x8, rfl, hx80, hx81, hr8, hg8⟩
    have HR8 := Lib.hid hr8
    have HG8 := Lib.hid (HG3.out.trans hg8)
    clear hr8 hg8 H18
    by_cases hx8 : 0 < x8
    · go_wp2_with fail
      go_ret
      exact ⟨s, (p + 1 + 1) + 1, rfl, by omega, by omega, by omega, HR8.out, HG8.out⟩
    · obtain ⟨ss, hss⟩ : ∃ q, s.size = q := ⟨_, rfl⟩
      have HSS := Lib.hid hss
      have hss1 : 1 ≤ ss ∧ ss ≤ 80 := by omega
      have HLEN := Lib.hid (pick_any g n c ((p + 1 + 1) + 1) A ss w8 HR8.out (by omega) hn2 (by omega) (by omega))
      clear hs1 hs2
      go_wp2_with fail
      refine HLEN.out.mono ?_
      rintro e w9 ⟨x9, rfl, hx90, hx91, hr9, hg9⟩
      obtain ⟨i, rfl⟩ : ∃ i : Nat, x9 = (i : Int) := ⟨x9.toNat, by omega⟩
      have HRK := Lib.hid hr9
      have HGK := Lib.hid (HG8.out.trans hg9)
      clear hr9 hg9
      go_wp2_with fail
      refine wp_region_jsteps (u := w9) 43 rfl (by kernel_rfl) (fun w w' => w.grownBy w' (some g)) (sRz g i s) cost7 (fun k w => ∃ p', ((p + 1 + 1) + 1 + 1) ≤ p' ∧ p' ≤ ((p + 1 + 1) + 1 + 1) + k ∧ Rd13 w g A n c p') (by kernel_rfl) (fun _ _ _ h1 h2 => h1.trans h2) (fun j v w w' h hg => sRz_mono h hg) ?_ ?_ _ (gr_drewN _ _ _) ⟨((p + 1 + 1) + 1 + 1), Nat.le_refl _, Nat.le_refl _, HRK.out.grown (gr_drewN _ 1 none) (by simp) (by simp)⟩
      · intro a' w' hdf hgr hfar hall ⟨k9, hk9, p9, j1, j2, j3⟩
        have hk8 : k9 ≤ 2 := hk9
        obtain ⟨x, e2, hx⟩ : ∃ x, a'.tmps.getD 2 undef = .string x ∧ x.size ≤ 161 := hall 14 _ 2 rfl rfl
        have e2' : a'.tmps[2]?.getD undef = .string x := by rw [← e2]; simp
        go_wp2_with fail
        refine bodyPost_ret (v := .string x) (by simp [results, Tryz.results21, go_sem, e2']) hdf ?_
        exact ⟨x, p9, rfl, by omega, by omega, by omega, j3, HGK.out.trans hgr⟩
      refine ⟨?_, ?_, ?_, ?_, ?_, ?_, ?_, ?_, ?_, ?_, ?_, ?_, ?_, ?_, ?_, trivial⟩
      · intro a' w' k hdf hgr hfar hdep hJ hk
        have hkk : k ≤ 2 := by have h9 : spentAll cost7 15 = 2 := rfl; exact Nat.le_trans (Nat.le_add_right _ _) (h9 ▸ hk)
        have e3 : a'.tmps.getD 3 undef = .string s := hfar 3 (by kernel_rfl)
        go_simp
        exact ⟨_, rfl, gr_refl _ _, rfl, hJ⟩
      · intro a' w' k hdf hgr hfar hdep hJ hk
        have hkk : k ≤ 2 := by have h9 : spentAll cost7 15 = 2 := rfl; exact Nat.le_trans (Nat.le_add_right _ _) (h9 ▸ hk)
        have e4 : a'.tmps.getD 4 undef = .int .i64 i := hfar 4 (by kernel_rfl)
        go_simp
        exact ⟨_, rfl, gr_refl _ _, rfl, hJ⟩
      · intro a' w' k hdf hgr hfar hdep hJ hk
        have hkk : k ≤ 2 := by have h9 : spentAll cost7 15 = 2 := rfl; exact Nat.le_trans (Nat.le_add_right _ _) (h9 ▸ hk)
        have e29 : a'.tmps.getD 29 undef = .string s := hdep 0 _ 29 (by kernel_rfl) rfl rfl
        have e30 : a'.tmps.getD 30 undef = .int .i64 i := hdep 1 _ 30 (by kernel_rfl) rfl rfl
        have q1 : i ≤ ss := by omega
        go_simp
        exact ⟨_, rfl, gr_refl _ _, ⟨_, rfl, by simp only [ByteArray.size_extract]; omega⟩, hJ⟩
      · intro a' w' k hdf hgr hfar hdep hJ hk
        have hkk : k ≤ 2 := by have h9 : spentAll cost7 15 = 2 := rfl; exact Nat.le_trans (Nat.le_add_right _ _) (h9 ▸ hk)
        have e0 : a'.tmps.getD 0 undef = .pointer (some ⟨g, 0, none⟩) := hfar 0 (by kernel_rfl)
        go_simp
        exact ⟨_, rfl, gr_refl _ _, rfl, hJ⟩
      · intro a' w' k hdf hgr hfar hdep hJ hk
        have hkk : k ≤ 2 := by have h9 : spentAll cost7 15 = 2 := rfl; exact Nat.le_trans (Nat.le_add_right _ _) (h9 ▸ hk)
        go_simp
        obtain ⟨p9, j1, j2, j3⟩ := hJ
        exact ⟨_, rfl, gr_someG (World.grownBy_alloc _ _ none), ⟨w'.heap.size, rfl, strs_new w' s7L _, by have := j3.lt; omega⟩, ⟨p9, j1, j2, j3.grown (World.grownBy_alloc _ _ none) (by simp) (by simp)⟩⟩
      · intro a' w' k hdf hgr hfar hdep hJ hk
        have hkk : k ≤ 2 := by have h9 : spentAll cost7 15 = 2 := rfl; exact Nat.le_trans (Nat.le_add_right _ _) (h9 ▸ hk)
        have e32 : a'.tmps.getD 32 undef = .pointer (some ⟨g, 0, none⟩) := hdep 3 _ 32 (by kernel_rfl) rfl rfl
        obtain ⟨B, e33, hB, hBg⟩ : ∃ B, a'.tmps.getD 33 undef = .slice (some ⟨B, 0, none⟩) 7 7 ∧ Strs w' (some ⟨B, 0, none⟩) s7L ∧ B ≠ g := hdep 4 _ 33 (by kernel_rfl) rfl rfl
        obtain ⟨p9, j1, j2, j3⟩ := hJ
        go_simp
        refine (oftxt_any g n c p9 A _ 7 s7L w' j3 hB (fun b off e => by cases e; exact hBg) (by omega) hn2 (by decide) (by decide)).mono ?_
        rintro e w2 ⟨x, rfl, hx, hr, hg⟩
        exact ⟨_, rfl, hg, ⟨x, rfl, s7_size x hx⟩, ⟨p9 + 1, by omega, by simp only [cost7]; omega, hr⟩⟩
      · intro a' w' k hdf hgr hfar hdep hJ hk
        have hkk : k ≤ 2 := by have h9 : spentAll cost7 15 = 2 := rfl; exact Nat.le_trans (Nat.le_add_right _ _) (h9 ▸ hk)
        obtain ⟨x, e31, hx⟩ : ∃ x, a'.tmps.getD 31 undef = .string x ∧ x.size ≤ 80 := hdep 2 _ 31 (by kernel_rfl) rfl rfl
        obtain ⟨y, e34, hy⟩ : ∃ x, a'.tmps.getD 34 undef = .string x ∧ x.size ≤ 1 := hdep 5 _ 34 (by kernel_rfl) rfl rfl
        have q1 : ¬ 9223372036854775807 < x.size + y.size := by omega
        go_simp
        exact ⟨_, rfl, gr_refl _ _, ⟨_, rfl, by simp only [ByteArray.size_append]; omega⟩, hJ⟩
      · intro a' w' k hdf hgr hfar hdep hJ hk
        have hkk : k ≤ 2 := by have h9 : spentAll cost7 15 = 2 := rfl; exact Nat.le_trans (Nat.le_add_right _ _) (h9 ▸ hk)
        have e3 : a'.tmps.getD 3 undef = .string s := hfar 3 (by kernel_rfl)
        go_simp
        exact ⟨_, rfl, gr_refl _ _, rfl, hJ⟩
      · intro a' w' k hdf hgr hfar hdep hJ hk
        have hkk : k ≤ 2 := by have h9 : spentAll cost7 15 = 2 := rfl; exact Nat.le_trans (Nat.le_add_right _ _) (h9 ▸ hk)
        have e4 : a'.tmps.getD 4 undef = .int .i64 i := hfar 4 (by kernel_rfl)
        go_simp
        exact ⟨_, rfl, gr_refl _ _, rfl, hJ⟩
      · intro a' w' k hdf hgr hfar hdep hJ hk
        have hkk : k ≤ 2 := by have h9 : spentAll cost7 15 = 2 := rfl; exact Nat.le_trans (Nat.le_add_right _ _) (h9 ▸ hk)
        have e0 : a'.tmps.getD 0 undef = .pointer (some ⟨g, 0, none⟩) := hfar 0 (by kernel_rfl)
        go_simp
        exact ⟨_, rfl, gr_refl _ _, rfl, hJ⟩
      · intro a' w' k hdf hgr hfar hdep hJ hk
        have hkk : k ≤ 2 := by have h9 : spentAll cost7 15 = 2 := rfl; exact Nat.le_trans (Nat.le_add_right _ _) (h9 ▸ hk)
        have e38 : a'.tmps.getD 38 undef = .pointer (some ⟨g, 0, none⟩) := hdep 9 _ 38 (by kernel_rfl) rfl rfl
        obtain ⟨p9, j1, j2, j3⟩ := hJ
        go_simp
        refine (pick_any g n c p9 A 2 w' j3 (by omega) hn2 (by omega) (by omega)).mono ?_
        rintro e w2 ⟨x, rfl, hx0, hx1, hr, hg⟩
        exact ⟨_, rfl, hg, ⟨x, rfl, hx0, hx1⟩, ⟨p9 + 1, by omega, by simp only [cost7]; omega, hr⟩⟩
      · intro a' w' k hdf hgr hfar hdep hJ hk
        have hkk : k ≤ 2 := by have h9 : spentAll cost7 15 = 2 := rfl; exact Nat.le_trans (Nat.le_add_right _ _) (h9 ▸ hk)
        have e37 : a'.tmps.getD 37 undef = .int .i64 i := hdep 8 _ 37 (by kernel_rfl) rfl rfl
        obtain ⟨x, e39, hx0, hx1⟩ : ∃ x, a'.tmps.getD 39 undef = .int .i64 x ∧ 0 ≤ x ∧ x < 2 := hdep 10 _ 39 (by kernel_rfl) rfl rfl
        have q1 : IntKind.i64.wrap ((i : Int) + x) = (i : Int) + x := IntWalk.i64_in _ (by omega)
        go_simp
        exact ⟨_, rfl, gr_refl _ _, ⟨x, rfl, hx0, hx1⟩, hJ⟩
      · intro a' w' k hdf hgr hfar hdep hJ hk
        have hkk : k ≤ 2 := by have h9 : spentAll cost7 15 = 2 := rfl; exact Nat.le_trans (Nat.le_add_right _ _) (h9 ▸ hk)
        have e36 : a'.tmps.getD 36 undef = .string s := hdep 7 _ 36 (by kernel_rfl) rfl rfl
        obtain ⟨x, e40, hx0, hx1⟩ : ∃ x, a'.tmps.getD 40 undef = .int .i64 ((i : Int) + x) ∧ 0 ≤ x ∧ x < 2 := hdep 11 _ 40 (by kernel_rfl) rfl rfl
        obtain ⟨j, rfl⟩ : ∃ j : Nat, x = (j : Int) := ⟨x.toNat, by omega⟩
        have q1 : 0 ≤ (i : Int) + (j : Int) ∧ (i : Int) + (j : Int) ≤ (ss : Int) := by omega
        go_simp
        exact ⟨_, rfl, gr_refl _ _, ⟨_, rfl, by simp only [ByteArray.size_extract]; omega⟩, hJ⟩
      · intro a' w' k hdf hgr hfar hdep hJ hk
        have hkk : k ≤ 2 := by have h9 : spentAll cost7 15 = 2 := rfl; exact Nat.le_trans (Nat.le_add_right _ _) (h9 ▸ hk)
        obtain ⟨x, e35, hx⟩ : ∃ x, a'.tmps.getD 35 undef = .string x ∧ x.size ≤ 81 := hdep 6 _ 35 (by kernel_rfl) rfl rfl
        obtain ⟨y, e41, hy⟩ : ∃ x, a'.tmps.getD 41 undef = .string x ∧ x.size ≤ 80 := hdep 12 _ 41 (by kernel_rfl) rfl rfl
        have q1 : ¬ 9223372036854775807 < x.size + y.size := by omega
        go_simp
        exact ⟨_, rfl, gr_refl _ _, ⟨_, rfl, by simp only [ByteArray.size_append]; omega⟩, hJ⟩
      · intro a' w' k hdf hgr hfar hdep hJ hk
        have hkk : k ≤ 2 := by have h9 : spentAll cost7 15 = 2 := rfl; exact Nat.le_trans (Nat.le_add_right _ _) (h9 ▸ hk)
        obtain ⟨x, e42, hx⟩ : ∃ x, a'.tmps.getD 42 undef = .string x ∧ x.size ≤ 161 := hdep 13 _ 42 (by kernel_rfl) rfl rfl
        go_simp
        exact ⟨_, rfl, gr_refl _ _, ⟨x, rfl, hx⟩, hJ⟩
end

section
open Go.ChangeShapes Go.WideShapes Go.ChangeAt Go.RowKit Go.Joins Go.Deep

theorem laid_out_p : laidOutB Tryz.prog = true := by kernel_rfl
set_option maxHeartbeats 1000000 in
theorem open_anyT (A : Option Addr) (n c : Nat) (w : World) (h : Byts w A n) (hc : n ≤ c) (hn : n ≤ 9223372036854775807) :
    Calls Tryz.prog 20 #[.slice A n c] w fun e w' => e = .returned (.pointer (some ⟨w.heap.size, 0, none⟩)) ∧ (∃ n' c', n' ≤ 2000 ∧ Rd13 w' w.heap.size A n' c' 0 ∧ (0 < n' → ∀ b off, A = some ⟨b, off, none⟩ → b < w.heap.size)) ∧ w.grownBy w' none := by
  have key : ∀ n', n' ≤ n → Rd13 (w.alloc (.cells #[.slice A n' c, .int .i64 0] 82)) w.heap.size A n' c 0 ∧ (0 < n' → ∀ b off, A = some ⟨b, off, none⟩ → b < w.heap.size) := fun n' hn' => by
    have hlt : 0 < n' → ∀ b off, A = some ⟨b, off, none⟩ → b < w.heap.size := fun hp b off e => by
      obtain ⟨b2, off2, e2, hb, _⟩ := h (by omega)
      rw [e] at e2
      cases e2
      exact hb
    refine ⟨⟨Pr.new w _ _ _, ?_, fun hp b off e => Nat.ne_of_lt (hlt hp b off e)⟩, hlt⟩
    intro hp
    obtain ⟨b, off, e, hb, hcc⟩ := h (by omega)
    refine ⟨b, off, e, by simp; omega, fun k hk => ?_⟩
    obtain ⟨x, h1, h2⟩ := hcc k (by omega)
    exact ⟨x, (World.grownBy_alloc w _ none).cell h1 (by simp), h2⟩
  have KEY := Lib.hid key
  clear key
  by_cases hb : 2000 < n
  · have hA : ∃ a, A = some a := by obtain ⟨b, off, e, _⟩ := h (by omega); exact ⟨_, e⟩
    obtain ⟨a, rfl⟩ := hA
    have hc0 : ¬ c = 0 := by omega
    clear h
    go_enter Tryz.func20, Tryz.ntmps20
    go_wp2_with fail
    go_ret
    exact ⟨rfl, ⟨2000, c, Nat.le_refl _, KEY.out 2000 (by omega)⟩, World.grownBy_alloc _ _ _⟩
  · clear h
    go_enter Tryz.func20, Tryz.ntmps20
    go_wp2_with fail
    go_ret
    exact ⟨rfl, ⟨n, c, by omega, KEY.out n (Nat.le_refl _)⟩, World.grownBy_alloc _ _ _⟩


set_option maxRecDepth 100000 in
/-- Bytes that came in as an argument. -/
theorem open_bytsT {H : Type} {enc : TypeId × Value → H} {W : World} {base : Nat} {v : Value} {d : DataW H} {p : List MemPlace} (hval : Value.okWide Tryz.prog W .any base 22 v) (h : DataW.Trod enc Tryz.prog W 0 (fun _ => true) true 22 v d p) :
    ∃ A n c, v = .slice A n c ∧ n ≤ c ∧ n ≤ 9223372036854775807 ∧ Byts W A n := by
  obtain ⟨E0, len, cap, rfl⟩ := okWide_slice Tryz.underlying22 hval
  have h1' := h
  obtain ⟨fuel, h1'⟩ := h1'
  simp only [Value.cells] at h1'
  have hmx : maxLen ≤ 9223372036854775807 := by simp [maxLen]
  rcases open_ints Tryz.underlying22 Tryz.underlying5 (by kernel_rfl) h1' with ⟨hcs, _⟩ | ⟨a, len', cap', zs, hcs, _, hl, hm, hz, _, hcell, hwz⟩
  · simp only [List.cons.injEq, and_true] at hcs
    cases hcs
    exact ⟨none, 0, 0, rfl, Nat.le_refl _, by omega, fun h => by omega⟩
  · simp only [List.cons.injEq, and_true] at hcs
    cases hcs
    simp only [if_true] at hz
    refine ⟨some a, _, _, rfl, hl, by omega, fun hpos => ?_⟩
    obtain ⟨b, off, spot⟩ := a
    have hspot : spot = none := by simpa [Addr.add] using World.cell?_spot (hcell 0 (by omega))
    subst hspot
    have hc0 := hcell 0 (by omega)
    rw [addr_flat] at hc0
    refine ⟨b, off, rfl, World.block_lt_of_cell? W _ hc0, fun k hk => ?_⟩
    have hck := hcell k (by omega)
    rw [addr_flat] at hck
    refine ⟨_, hck, ?_⟩
    have hmem : zs.getD k 0 ∈ zs := by
      rw [List.getD_eq_getElem?_getD, List.getElem?_eq_getElem (by omega)]
      exact List.getElem_mem _
    exact bounds_u8 (hwz _ hmem)


theorem gr_row5 {w w1 w2 : World} {row : Option Nat} (h : w.grownBy w1 none) (h2 : w1.grownBy w2 row) (hr : ∀ k, row = some k → w.heap.size ≤ k) : w.grownBy w2 none :=
  ⟨h2.os.trans h.os, h2.tape.trans h.tape, h2.output.trans h.output, Nat.le_trans h.size h2.size, fun k hk hn => (h2.block k (Nat.lt_of_lt_of_le hk h.size) (fun e => by have := hr k e.symm; omega)).trans (h.block k hk hn)⟩

/-- How a drawn text comes. -/
def TxtP (w : World) (e : Ending) (w' : World) : Prop := ∃ s, e = .returned (.string s) ∧ s.size ≤ 161 ∧ w.grownBy w' none

theorem Strs.at_ {w : World} {A : Option Addr} {ss : List ByteArray} {j : Nat} {s : ByteArray} (h : Strs w A ss) (hj : ss[j]? = some s) : ∃ b off, A = some ⟨b, off, none⟩ ∧ w.cell? ⟨b, off + j, none⟩ = some (.string s) := by
  obtain ⟨b, off, e, _, hc⟩ := h (by have := (List.getElem?_eq_some_iff.1 hj).1; omega)
  exact ⟨b, off, e, hc j s hj⟩

end
end

/- DrT -/
section
open Go.RowKit

def o4a : List ByteArray := [⟨#[43, 48, 41]⟩, ⟨#[42, 49, 41]⟩, ⟨#[45, 48, 41]⟩, ⟨#[94, 48, 41]⟩]
def o4b : List ByteArray := [⟨#[62, 40, 121, 43, 49, 41, 93, 62, 40, 120, 42, 50, 41, 93]⟩, ⟨#[62, 83, 121, 93, 62, 40, 120, 43, 120, 41, 93]⟩, ⟨#[62, 121, 93, 62, 91, 122, 58, 97, 62, 120, 93, 93]⟩, ⟨#[62, 40, 121, 43, 120, 41, 93, 62, 120, 93]⟩]
theorem o4a_size : ∀ s ∈ o4a, s.size ≤ 3 := by
  intro s hs
  simp only [o4a, List.mem_cons, List.not_mem_nil, or_false] at hs
  rcases hs with rfl | rfl | rfl | rfl <;> decide
theorem o4b_size : ∀ s ∈ o4b, s.size ≤ 14 := by
  intro s hs
  simp only [o4b, List.mem_cons, List.not_mem_nil, or_false] at hs
  rcases hs with rfl | rfl | rfl | rfl <;> decide

/-- How l10Some ends. -/
def TenP (g : Nat) (w : World) (e : Ending) (w' : World) : Prop := ∃ s, e = .returned (.string s) ∧ s.size ≤ 200 ∧ w.grownBy w' (some g)

set_option maxRecDepth 100000 in
set_option maxHeartbeats 8000000 in
theorem ten_any (g n c p : Nat) (A : Option Addr) (w : World) (h : Rd13 w g A n c p) (hp : p ≤ 90000) (hn2 : n ≤ 2000) :
    Calls Tryz.prog 39 #[.pointer (some ⟨g, 0, none⟩)] w (TenP g w) := by
  have H1 := Lib.hid (some_any g n c p A w h (by omega) hn2)
  clear h
  go_enter Tryz.func39, Tryz.ntmps39
  go_wp2_with fail
  refine H1.out.mono ?_
  rintro e w1 ⟨t, p1, rfl, ht, hp1, hp2, hr1, hg1⟩
  have HR1 := Lib.hid hr1
  have HG1 := Lib.hid hg1
  have H8 := Lib.hid (pick_any g n c p1 A 8 w1 hr1 (by omega) hn2 (by omega) (by omega))
  clear hr1 hg1
  go_wp2_with fail
  refine H8.out.mono ?_
  rintro e w2 ⟨x, rfl, hx0, hx1, hr2, hg2⟩
  have HR2 := Lib.hid hr2
  have HG2 := Lib.hid (HG1.out.trans hg2)
  clear hr2 hg2 H8
  have c0 : (⟨#[83, 82]⟩ : ByteArray).size = 2 := rfl
  have c1 : (⟨#[40]⟩ : ByteArray).size = 1 := rfl
  have c2 : (⟨#[91, 120, 58]⟩ : ByteArray).size = 3 := rfl
  have c3 : (⟨#[62, 120, 93]⟩ : ByteArray).size = 3 := rfl
  have c4 : (⟨#[78, 91, 121, 58]⟩ : ByteArray).size = 4 := rfl
  have c5 : (⟨#[62, 51, 93]⟩ : ByteArray).size = 3 := rfl
  have c6 : (⟨#[91, 120, 58, 91, 121, 58]⟩ : ByteArray).size = 6 := rfl
  have c7 : (⟨#[82, 82]⟩ : ByteArray).size = 2 := rfl
  have c8 : (⟨#[82, 82, 97]⟩ : ByteArray).size = 3 := rfl
  have HT := Lib.hid ht
  by_cases h1 : x = 1
  · subst h1
    have HRA := Lib.hid (HR2.out.grown (World.grownBy_alloc w2 (.cells (List.toArray (List.map Value.string o4a)) 9) none) (by simp) (by simp))
    have HO := Lib.hid (oftxt_any g n c (p1 + 1) A _ 4 o4a _ HRA.out (strs_new w2 o4a _) (fun b off e => by cases e; have := HR2.out.lt; omega) (by omega) hn2 (by decide) (by decide))
    go_wp2_with fail
    refine HO.out.mono ?_
    rintro e w3 ⟨s3, rfl, hm3, hr3, hg3⟩
    have hs3 := o4a_size s3 hm3
    have HG3 := Lib.hid (HG2.out.trans ((gr_someG (World.grownBy_alloc w2 _ none)).trans hg3))
    clear hr3 hg3 hm3
    go_wp2_with fail
    all_goals
      go_ret
      exact ⟨_, rfl, by (first | decide | (have := HT.out; simp only [ByteArray.size_append]; omega) | (have := HT.out; omega)), HG3.out⟩
  by_cases h4 : x = 4
  · subst h4
    have HRA := Lib.hid (HR2.out.grown (World.grownBy_alloc w2 (.cells (List.toArray (List.map Value.string o4b)) 9) none) (by simp) (by simp))
    have HO := Lib.hid (oftxt_any g n c (p1 + 1) A _ 4 o4b _ HRA.out (strs_new w2 o4b _) (fun b off e => by cases e; have := HR2.out.lt; omega) (by omega) hn2 (by decide) (by decide))
    go_wp2_with fail
    refine HO.out.mono ?_
    rintro e w3 ⟨s3, rfl, hm3, hr3, hg3⟩
    have hs3 := o4b_size s3 hm3
    have HG3 := Lib.hid (HG2.out.trans ((gr_someG (World.grownBy_alloc w2 _ none)).trans hg3))
    clear hr3 hg3 hm3
    go_wp2_with fail
    all_goals
      go_ret
      exact ⟨_, rfl, by (first | decide | (have := HT.out; simp only [ByteArray.size_append]; omega) | (have := HT.out; omega)), HG3.out⟩
  have hx : x = 0 ∨ x = 2 ∨ x = 3 ∨ x = 5 ∨ x = 6 ∨ x = 7 := by omega
  rcases hx with rfl | rfl | rfl | rfl | rfl | rfl
  all_goals
    go_wp2_with fail
    all_goals
      go_ret
      exact ⟨_, rfl, by (first | decide | (have := HT.out; simp only [ByteArray.size_append]; omega) | (have := HT.out; omega)), HG2.out⟩

/-- How a drawn text comes. -/
def Txt2P (w : World) (e : Ending) (w' : World) : Prop := ∃ s, e = .returned (.string s) ∧ s.size ≤ 200 ∧ w.grownBy w' none

set_option maxRecDepth 100000 in
set_option maxHeartbeats 4000000 in
theorem drawcrul_any (A : Option Addr) (n c : Nat) (w : World) (h : Byts w A n) (hc : n ≤ c) (hn : n ≤ 9223372036854775807) :
    Calls Tryz.prog 12 #[.slice A n c] w (Txt2P w) := by
  have HO := Lib.hid (open_anyT A n c w h hc hn)
  clear h hc hn
  go_enter Tryz.func12, Tryz.ntmps12
  go_wp2_with fail
  refine HO.out.mono ?_
  rintro e w1 ⟨rfl, ⟨n', c', hn', hr, _⟩, hg⟩
  obtain ⟨g, hgg⟩ : ∃ g, w.heap.size = g := ⟨_, rfl⟩
  rw [hgg] at hr ⊢
  have HS := Lib.hid (ten_any g n' c' 0 A w1 hr (by omega) hn')
  have HG := Lib.hid hg
  have HGG := Lib.hid hgg
  clear hr hg hgg
  go_wp2_with fail
  refine HS.out.mono ?_
  rintro e w2 ⟨t, rfl, ht, hg2⟩
  have HT := Lib.hid ht
  have HG2 := Lib.hid (gr_row5 HG.out hg2 (fun k e => by cases e; have := HGG.out; omega))
  clear hg2 ht
  go_wp2_with fail
  go_ret
  exact ⟨t, rfl, HT.out, HG2.out⟩

theorem sumT_step {L : List Int} {k : Nat} {z : Int} (h : L[k]? = some z) : (L.take (k + 1)).sum = (L.take k).sum + z := by
  rw [List.take_add_one, h]
  simp
theorem sumT_bound {L : List Int} (h : ∀ z ∈ L, 0 ≤ z ∧ z ≤ 1000) : ∀ k, 0 ≤ (L.take k).sum ∧ (L.take k).sum ≤ 1000 * (k : Int)
  | 0 => by simp
  | k + 1 => by
    have ih := sumT_bound h k
    cases hz : L[k]? with
    | none =>
      rw [List.take_of_length_le (by have := List.getElem?_eq_none_iff.1 hz; omega)]
      rw [List.take_of_length_le (by have := List.getElem?_eq_none_iff.1 hz; omega)] at ih
      omega
    | some z =>
      rw [sumT_step hz]
      have := h z (List.mem_of_getElem? hz)
      omega

set_option maxHeartbeats 1000000 in
theorem totalT_any (A : Option Addr) (c : Nat) (L : List Int) (w : World) (hA : Ints w A L) (hok : ∀ z ∈ L, 0 ≤ z ∧ z ≤ 1000) (hn : L.length ≤ 400) :
    Calls Tryz.prog 17 #[.slice A L.length c] w fun e w' => e = .returned (.int .i64 L.sum) ∧ w = w' := by
  have HA := Lib.hid hA
  have HOK := Lib.hid hok
  obtain ⟨n, hnn⟩ : ∃ n, L.length = n := ⟨_, rfl⟩
  have HN := Lib.hid hnn
  rw [hnn] at hn ⊢
  clear hA hok hnn
  go_enter Tryz.func17, Tryz.ntmps17
  go_wp2_with fail
  go_loopw [3, 8] (fun s i wr => ∃ k : Nat, k ≤ n ∧ i = .int .i64 k ∧ s = .int .i64 (L.take k).sum ∧ wr = w) (fun _ i _ => n - (intOf i).toNat)
  case atStart => exact ⟨0, Nat.zero_le _, rfl, rfl, rfl⟩
  case round =>
    obtain ⟨k, hk, rfl, rfl, rfl⟩ := hrel
    obtain ⟨w0, rfl⟩ : ∃ w0 : World, w0 = wr := ⟨_, rfl⟩
    by_cases hlt : k < n
    · obtain ⟨z, hz⟩ : ∃ z, L[k]? = some z := ⟨_, List.getElem?_eq_getElem (by have := HN.out; omega)⟩
      obtain ⟨b, off, rfl, _, hc⟩ := HA.out (by have := HN.out; omega)
      have hcell := hc k z hz
      have HS := Lib.hid (sumT_step hz)
      obtain ⟨h0, h4⟩ := sumT_bound HOK.out k
      obtain ⟨hz0, hz4⟩ := HOK.out z (List.mem_of_getElem? hz)
      obtain ⟨s0, hs0⟩ : ∃ s0, (L.take k).sum = s0 := ⟨_, rfl⟩
      rw [hs0] at h0 h4 HS ⊢
      have hw : IntKind.i64.wrap (s0 + z) = s0 + z := IntWalk.i64_in _ (by omega)
      clear hc hz hs0
      go_wp2_with fail
      go_roundw
      case rel => exact ⟨k + 1, by omega, by go_num, by rw [HS.out], by first | trivial | rfl⟩
      case measure => simp [intOf]; omega
    · have hkn : k = n := by omega
      subst hkn
      rw [show L.take k = L from List.take_of_length_le (by have := HN.out; omega)]
      go_wp2_with fail
      go_ret
      exact ⟨rfl, rfl⟩

set_option maxHeartbeats 1000000 in
theorem same_any (A B : Option Addr) (c d : Nat) (zs : List Int) (w : World) (h : Ints w A zs) (h2 : Ints w B zs) (hn : zs.length ≤ 1048576) :
    Calls Tryz.prog 15 #[.slice A zs.length c, .slice B zs.length d] w fun e w' => e = .returned (.bool true) ∧ ∃ m, w' = w.drewN m := by
  have HS := Lib.hid h
  have HS2 := Lib.hid h2
  obtain ⟨n, hnn⟩ : ∃ n, zs.length = n := ⟨_, rfl⟩
  have HN := Lib.hid hnn
  rw [hnn] at hn ⊢
  clear h h2 hnn
  have hnn : ((n : Int) == (n : Int)) = true := by simp
  go_enter Tryz.func15, Tryz.ntmps15
  go_wp2_with fail
  go_loopw [11] (fun i wr => ∃ j : Nat, j ≤ n ∧ i = .int .i64 j ∧ Hid (∃ m, wr = w.drewN m)) (fun i _ => n - (intOf i).toNat)
  case atStart => exact ⟨0, Nat.zero_le _, rfl, Lib.hid ⟨0, rfl⟩⟩
  case round =>
    obtain ⟨j, hj, rfl, hgr⟩ := hrel
    have hgr2 : w.grownBy wr none := by obtain ⟨m, rfl⟩ := hgr.out; exact gr_drewN _ _ _
    have HGR := Lib.hid hgr2
    clear hgr2
    by_cases hlt : j < n
    · have hjz : j < zs.length := by have := HN.out; omega
      obtain ⟨b, off, rfl, hcell⟩ := (HS.out.grown HGR.out (by simp)).at_ hjz
      obtain ⟨b2, off2, rfl, hcell2⟩ := (HS2.out.grown HGR.out (by simp)).at_ hjz
      generalize zs[j] = z at hcell hcell2
      have hj0 : (0 : Int) ≤ (j : Int) := by omega
      have hj1 : (j : Int) < (n : Int) := by omega
      have hzz : (z != z) = false := by simp
      go_wp2_with fail
      go_quiet (fail)
      go_wp2_with fail
      go_roundw
      case rel => exact ⟨j + 1, by omega, by go_num, Lib.hid (by obtain ⟨m, rfl⟩ := hgr.out; exact ⟨m + _, World.drewN_drewN _ _ _⟩)⟩
      case measure => simp [intOf]; omega
    · go_wp2_with fail
      go_ret
      exact ⟨rfl, hgr.out⟩
end

/- SmpC -/
section

theorem cnt_sum : ∀ {l : List Nat}, (∀ j ∈ l, 1 ≤ j ∧ j ≤ 6) → l.count 0 = 0 ∧ l.count 1 + l.count 2 + l.count 3 + l.count 4 + l.count 5 + l.count 6 = l.length
  | [], _ => by simp
  | a :: l, h => by
    obtain ⟨h1, h2⟩ := cnt_sum (l := l) (fun j hj => h j (List.mem_cons_of_mem _ hj))
    obtain ⟨h3, h4⟩ := h a List.mem_cons_self
    have ha : a = 1 ∨ a = 2 ∨ a = 3 ∨ a = 4 ∨ a = 5 ∨ a = 6 := by omega
    rw [List.length_cons]
    rcases ha with rfl | rfl | rfl | rfl | rfl | rfl <;> simp <;> omega
end

/- CrlS -/
section
open Go.RowKit

/-- How often each of seven rules stands in a list. -/
def rcnt7 (l : List Nat) : List Int := (List.range 7).map fun j => IntKind.i64.wrap ((l.count j : Nat) : Int)
theorem rcnt7_len (l : List Nat) : (rcnt7 l).length = 7 := by simp [rcnt7]
theorem rcnt7_at (l : List Nat) {j : Nat} (hj : j < 7) : (rcnt7 l)[j]? = some (IntKind.i64.wrap ((l.count j : Nat) : Int)) := by simp [rcnt7, hj]
theorem rcnt7_eq {l : List Nat} {P : List Int} (h : P.length = 7) (h2 : ∀ j : Nat, j < 7 → P[j]? = some (IntKind.i64.wrap ((l.count j : Nat) : Int))) : P = rcnt7 l := by
  refine List.ext_getElem? fun j => ?_
  rcases Nat.lt_or_ge j 7 with hj | hj
  · rw [h2 j hj, rcnt7_at l hj]
  · rw [List.getElem?_eq_none (by omega), List.getElem?_eq_none (by rw [rcnt7_len]; omega)]
/-- What CountRules answers. -/
def crulZ (s : ByteArray) : List Int := match readT s with
  | some t => rcnt7 (smpL t)
  | none => []
theorem crulZ_some {s : ByteArray} {t : Tm} (h : readT s = some t) : crulZ s = rcnt7 (smpL t) := by unfold crulZ; rw [h]
theorem crulZ_none {s : ByteArray} (h : readT s = none) : crulZ s = [] := by unfold crulZ; rw [h]
theorem crulZ_len (s : ByteArray) : (crulZ s).length ≤ 7 := by
  unfold crulZ
  cases readT s with
  | none => simp
  | some t => simp [rcnt7_len]
theorem cs_ints {cp cg : Nat} {l : List Nat} {w : World} (h : CS cp cg l w) : Ints w (some ⟨cg, 0, none⟩) (rcnt7 l) := fun _ => by
  refine ⟨cg, 0, rfl, h.ltg, fun j z hj => ?_⟩
  have hj7 : j < 7 := by
    rcases Nat.lt_or_ge j 7 with h | h
    · exact h
    · rw [List.getElem?_eq_none (by rw [rcnt7_len]; exact h)] at hj; cases hj
  rw [rcnt7_at l hj7] at hj
  cases hj
  rw [Nat.zero_add]
  exact h.cell hj7

/-- How l10Done ends, and what the row of counts holds. -/
def Done2P (s : ByteArray) (w : World) (e : Ending) (w' : World) : Prop := ∃ A c, e = .returned (.tuple #[.string (sterm9T s), .slice A (crulZ s).length c, .bool (sterm9B s)]) ∧ w.grownBy w' none ∧ Ints w' A (crulZ s)
/-- How CountRules of the model ends. -/
def CrSP (zs : List Int) (b : Bool) (w : World) (e : Ending) (w' : World) : Prop := ∃ A c, e = .returned (.tuple #[.slice A zs.length c, .bool b]) ∧ w.grownBy w' none ∧ Ints w' A zs

set_option maxRecDepth 100000 in
set_option maxHeartbeats 4000000 in
theorem done2_spec (s : ByteArray) (hs : s.size ≤ 1048576) (w : World) :
    Calls Tryz.prog 41 #[.string s] w (Done2P s w) := by
  have H1 := Lib.hid (sterm_any s hs w)
  unfold Done2P
  obtain ⟨z, hz⟩ : ∃ z, sterm9T s = z := ⟨_, rfl⟩
  obtain ⟨b, hb⟩ : ∃ b, sterm9B s = b := ⟨_, rfl⟩
  obtain ⟨zs, hzs⟩ : ∃ zs, crulZ s = zs := ⟨_, rfl⟩
  rw [hz, hb, hzs]
  have HZS := Lib.hid hzs
  have HZ := Lib.hid hz
  have HB := Lib.hid hb
  clear hb hz hs hzs
  go_enter Tryz.func41, Tryz.ntmps41
  go_wp2_with fail
  refine H1.out.mono ?_
  intro e w1 hp
  obtain ⟨a1, b1, A1, k1, c1, o1, rfl, hg1, ho1, hs1⟩ := sterm_shape hp
  obtain ⟨x1, hx1⟩ : ∃ x, w1.alloc (.cells #[.int .u8 a1, .int .u8 b1, .slice A1 k1 c1] TN) = x := ⟨_, rfl⟩
  obtain ⟨n1, hn1⟩ : ∃ x, w1.heap.size = x := ⟨_, rfl⟩
  have gx1 : w1.grownBy x1 none := by rw [← hx1]; exact World.grownBy_alloc _ _ _
  have C1 := Lib.hid (show C3 x1 n1 (.int .u8 a1) (.int .u8 b1) (.slice A1 k1 c1) TN by rw [← hx1, ← hn1]; exact c3_new _ _ _ _ _)
  have HG1 := Lib.hid (hg1.trans gx1)
  have HO1 := Lib.hid ho1
  have HS1 := Lib.hid (fun T hT => (hs1 T hT).grown gx1)
  clear hg1 gx1 ho1 hs1 hp
  have hb := HB.out
  have hz := HZ.out
  unfold sterm9B at hb
  unfold sterm9T at hz
  cases o1 with
  | false =>
    have hn : readT s = none := by cases h : readT s with | none => rfl | some t => have := HO1.out; rw [h] at this; cases this
    rw [hn] at hb hz
    simp only [Option.isSome_none] at hb
    subst hb hz
    have hzs := HZS.out
    rw [crulZ_none hn] at hzs
    subst hzs
    clear hn
    go_wp2_with fail
    refine bodyPost_ret (v := .tuple #[.string ⟨#[]⟩, .slice (some ⟨x1.heap.size, 0, none⟩) 0 0, .bool false]) (by simp [results, Tryz.results41, go_sem]) rfl ?_
    exact ⟨_, ⟨_, rfl⟩, HG1.out.trans (World.grownBy_alloc _ _ _), fun hl => absurd hl (by simp)⟩
  | true =>
    obtain ⟨t, ht⟩ : ∃ t, readT s = some t := Option.isSome_iff_exists.1 HO1.out
    rw [ht] at hb hz
    simp only [Option.isSome_some] at hb
    subst hb
    have hbd := readT_bd ht
    have HZL : Hid (zs = rcnt7 (smpL t)) := Lib.hid (by rw [← HZS.out, crulZ_some ht])
    obtain ⟨gz, hgz⟩ : ∃ g, x1.heap.size = g := ⟨_, rfl⟩
    obtain ⟨y1, hy1⟩ : ∃ y, x1.alloc (.cells #[.int .i64 0, .int .i64 0, .int .i64 0, .int .i64 0, .int .i64 0, .int .i64 0, .int .i64 0] 3) = y := ⟨_, rfl⟩
    have zy1 : y1.heap.size = gz + 1 := by rw [← hy1, World.size_alloc, hgz]
    obtain ⟨y2, hy2⟩ : ∃ y, y1.alloc (.cells #[.slice (some ⟨gz, 0, none⟩) 7 7] TCo) = y := ⟨_, rfl⟩
    have gy : x1.grownBy y2 none := by rw [← hy2, ← hy1]; exact (World.grownBy_alloc _ _ none).trans (World.grownBy_alloc _ _ none)
    have hcs : CS (gz + 1) gz [] y2 := by rw [← hy2, ← hy1, ← hgz]; exact cs_new x1
    have hge : w.heap.size ≤ gz := by rw [← hgz]; exact HG1.out.size
    have hso := smp_ok hbd.1
    have HOK := Lib.hid hso.1
    have HLN : Hid ((smp t).txt.length ≤ 1000000) := Lib.hid (by have := hso.2.2.1; have := hbd.2.1; omega)
    have HZT : Hid (bytesOf (smp t).txt = z) := Lib.hid hz
    have HSS := Lib.hid (ss_any (gz + 1) gz 80 t a1 b1 A1 k1 c1 y2.drew [] (fun x => x < y2.heap.size) hbd.2.2 hbd.1 hbd.2.1 (fun x hx => hx) (hcs.grown (gr_drewN y2 1 none)) ((((HS1.out t ht).grown gy).keep (fun _ _ _ => rfl) (fun x _ hx => hx) _ _).grown (gr_drewN y2 1 none)))
    have HCS := Lib.hid hcs
    have HGY := Lib.hid (HG1.out.trans gy)
    have HGE := Lib.hid hge
    have C2 := Lib.hid (C1.out.grown gy (by simp))
    have hm7 := make7
    have q0 := C2.out.c0
    have q1 := C2.out.c1
    have q2 := C2.out.c2
    have qs := hcs.slot
    clear hz ht hbd hso gy hcs hge
    go_wp2_with fail
    go_region_held3 (fun w' => w'.cell? ⟨n1, 0, none⟩ = some (.int .u8 a1) ∧ w'.cell? ⟨n1, 1, none⟩ = some (.int .u8 b1) ∧ w'.cell? ⟨n1, 2, none⟩ = some (.slice A1 k1 c1) ∧ w'.cell? ⟨gz + 1, 0, none⟩ = some (.slice (some ⟨gz, 0, none⟩) 7 7)) (go_keep)
      (first
        | (go_at_call 61
           (with_reducible refine HSS.out.mono ?_)
           rintro e w3 ⟨a2, b2, A2, k2, c2, rfl, hg3, hsn3, hcs3⟩
           have hgg := (gr_drewN y2 1 (some gz)).trans hg3
           have HG3 := Lib.hid (gr_new HGY.out hgg HGE.out)
           have C3' := Lib.hid (C2.out.keepc HCS.out hgg)
           have HCS3 := Lib.hid hcs3
           have HTX := Lib.hid (stxt_any (smp t) _ a2 b2 A2 k2 c2 w3 HOK.out HLN.out hsn3)
           have u0 := C3'.out.c0
           have u1 := C3'.out.c1
           have u2 := C3'.out.c2
           have us := hcs3.slot
           clear hg3 hsn3 hcs3 hgg)
        | (go_at_call 31
           (with_reducible refine HTX.out.mono ?_)
           rintro e w4 ⟨rfl, hg4⟩
           have HG4 := Lib.hid (HG3.out.trans hg4)
           have t0 := (C3'.out.grown hg4 (by simp)).c0
           have t1 := (C3'.out.grown hg4 (by simp)).c1
           have t2 := (C3'.out.grown hg4 (by simp)).c2
           have ts := hg4.cell us (by simp)
           have HCS4 := Lib.hid (HCS3.out.grown hg4)
           clear hg4))
    all_goals
      go_wp2_with fail
      rw [HZT.out]
      refine bodyPost_ret (v := .tuple #[.string z, .slice (some ⟨gz, 0, none⟩) 7 7, .bool true]) (by simp [results, Tryz.results41, go_sem]) rfl ?_
      refine ⟨some ⟨gz, 0, none⟩, 7, ?_, HG4.out, ?_⟩
      · rw [show zs.length = 7 by rw [HZL.out, rcnt7_len]]
      · rw [HZL.out]; exact cs_ints HCS4.out

set_option maxRecDepth 100000 in
set_option maxHeartbeats 2000000 in
theorem crul_spec (s : ByteArray) (hs : s.size ≤ 1048576) (w : World) :
    Calls Tryz.prog 14 #[.string s] w (CrSP (crulZ s) (sterm9B s) w) := by
  have H := Lib.hid (done2_spec s hs w)
  unfold Done2P at H
  unfold CrSP
  generalize sterm9T s = z at H
  generalize sterm9B s = b at H ⊢
  generalize crulZ s = zs at H ⊢
  obtain ⟨k, hk⟩ : ∃ k, zs.length = k := ⟨_, rfl⟩
  rw [hk] at H ⊢
  clear hs hk
  go_enter Tryz.func14, Tryz.ntmps14
  go_wp2_with fail
  refine H.out.mono ?_
  rintro e w1 ⟨A, c, rfl, hg1, hi1⟩
  have HG1 := Lib.hid hg1
  have HI1 := Lib.hid hi1
  clear hg1 hi1
  go_wp2_with fail
  go_ret2
  exact ⟨A, c, rfl, HG1.out, HI1.out⟩
end

/- CrlI -/
section
open Go.RowKit

/-- How CountRules of the program ends. -/
def CrIP (zs : List Int) (b : Bool) (w : World) (e : Ending) (w' : World) : Prop := ∃ A c, e = .returned (.tuple #[.slice A zs.length c, .bool b]) ∧ w.grownBy w' none ∧ w'.ownsRow w.heap.size TSm 1 (.slice A zs.length c) zs.length (zs.map (Value.int .i64))
theorem ci_own {g base : Nat} {l : List Nat} {w : World} (h : CI g l w) (hb : base ≤ g) : w.ownsRow base TSm 1 (.slice (some ⟨g, 0, none⟩) 7 7) 7 ((rcnt7 l).map (Value.int .i64)) := by
  obtain ⟨P, h1, h2⟩ := h
  have e := rcnt7_eq h1.2 h2
  subst e
  exact ⟨by simp [rcnt7_len], .inr ⟨g, 7, _, rfl, hb, h1.1, Nat.le_refl _, by unfold maxLen; omega, by simp [pv7, rcnt7_len], by simp [pv7]; rw [List.take_of_length_le (by simp [rcnt7_len])]⟩⟩

set_option maxRecDepth 100000 in
set_option maxHeartbeats 2000000 in
theorem crul_impl (s : ByteArray) (w : World) :
    Calls Tryz.prog 13 #[.string s] w (CrIP (crulZ s) (sterm9B s) w) := by
  have H := Lib.hid (term_any s w)
  have hzero : ∀ w, (zeroValue 78).run Tryz.prog w = .ok (.agg (Array.replicate 7 (.int .i64 0))) w := zeroSm.1
  obtain ⟨zs, hz⟩ : ∃ zs, crulZ s = zs := ⟨_, rfl⟩
  obtain ⟨b, hb⟩ : ∃ b, sterm9B s = b := ⟨_, rfl⟩
  rw [hz, hb]
  have HZ := Lib.hid hz
  have HB := Lib.hid hb
  clear hb hz
  unfold CrIP
  go_enter Tryz.func13, Tryz.ntmps13
  go_wp2_with fail
  refine H.out.mono ?_
  intro e w1 hp
  unfold TermPost at hp
  have hb := HB.out
  have hz := HZ.out
  unfold sterm9B at hb
  cases hr : readT s with
  | none =>
    rw [hr] at hp hb
    rw [crulZ_none hr] at hz
    simp only [Option.isSome_none] at hb
    subst hb hz
    obtain ⟨rfl, hg⟩ := hp
    have HG := Lib.hid hg
    clear hg hr
    go_wp2_with fail
    go_ret2
    exact ⟨none, 0, rfl, HG.out, rfl, .inl ⟨rfl, rfl⟩⟩
  | some t =>
    rw [hr] at hp hb
    rw [crulZ_some hr] at hz
    simp only [Option.isSome_some] at hb
    subst hb
    obtain ⟨v, rfl, hg, ha⟩ := hp
    obtain ⟨ty, pv, rfl⟩ := ha.iface
    have hbd := readT_bd hr
    obtain ⟨x1, hx1⟩ : ∃ x, w1.alloc (.cells (Array.replicate 7 (.int .i64 0)) TSm) = x := ⟨_, rfl⟩
    obtain ⟨n1, hn1⟩ : ∃ n, w1.heap.size = n := ⟨_, rfl⟩
    have gx1 : w1.grownBy x1 none := by rw [← hx1]; exact World.grownBy_alloc _ _ _
    have hci : CI n1 [] x1 := by rw [← hx1, ← hn1]; exact ci_new w1
    have HSM := Lib.hid (sm_any n1 80 t _ x1 [] hbd.2.2 hbd.1 hbd.2.1 hci (ha.any.grown gx1))
    have hsz : w.heap.size ≤ n1 := by rw [← hn1]; exact hg.size
    have HSZ := Lib.hid hsz
    have HGX := Lib.hid (hg.trans gx1)
    have HZ2 := Lib.hid hz
    clear hg ha hr hz hbd gx1 hci hsz
    go_wp2_with fail
    refine HSM.out.mono ?_
    rintro e w2 ⟨v2, rfl, hg2, hp2, hc2⟩
    have HG2 := Lib.hid (gr_new HGX.out hg2 HSZ.out)
    have HC2 := Lib.hid hc2
    clear hg2 hp2 hc2
    go_wp2_with fail
    go_ret2
    refine ⟨some ⟨n1, 0, none⟩, 7, ?_, HG2.out, ?_⟩
    · rw [← HZ2.out, rcnt7_len]; rfl
    · rw [← HZ2.out, rcnt7_len]; exact ci_own HC2.out HSZ.out
end

/- TSize -/
section
open Go.RowKit

set_option maxRecDepth 100000 in
set_option maxHeartbeats 1000000 in
theorem tsizeof_any : ∀ (n : Nat) (t : Tm) (S : Nat → Prop) (ty : TypeId) (pv : Value) (w : World), t.size ≤ n → n ≤ 1000000 → PT w S t (.iface ty pv) →
    Calls Tryz.prog 42 #[.iface ty pv] w fun e w' => e = .returned (.int .i64 (t.size : Nat)) ∧ w.grownBy w' none
  | 0, t, S, ty, pv, w, hn, _, h => by have := t.size_pos; omega
  | n + 1, t, S, ty, pv, w, hn, hn2, h => by
    have HI := Lib.hid (tsizeof_any n)
    have hm := method_parts h
    have hrun := run_parts t pv
    have HK := Lib.hid (parts_any t S ty pv w h)
    have hks := csum_kids t
    have HKS := Lib.hid hks
    have HN := Lib.hid hn
    clear h hks hn
    go_enter Tryz.func42, Tryz.ntmps42
    go_wp2_with fail
    refine HK.out.mono ?_
    rintro e w1 ⟨hg1, sv, xs, rfl, ho, ha⟩
    obtain ⟨A, k, c, rfl⟩ := own_form ho
    obtain ⟨hk, hkc, hrow⟩ := orow ho
    have hlen := All2.length _ _ ha
    have HKL := Lib.hid hk
    have HLEN := Lib.hid hlen
    have HROW := Lib.hid hrow
    have HA := Lib.hid ha
    have HG1 := Lib.hid hg1
    have hk2 : k ≤ 2 := by have := kids_len t; omega
    clear hg1 ho ha hk hlen hrow hm hrun
    go_wp2_with fail
    go_loopw [3, 9] (fun u i wr => ∃ j m : Nat, j ≤ k ∧ i = .int .i64 j ∧ u = .int .i64 m ∧ m ≤ n + 1 ∧ Hid (m = 1 + csum (t.kids.take j)) ∧ Hid (w1.grownBy wr none)) (fun _ i _ => k - (intOf i).toNat)
    case atStart => exact ⟨0, 1, Nat.zero_le _, rfl, rfl, by omega, Lib.hid (by simp [csum]), Lib.hid (gr_refl _ _)⟩
    case round =>
      obtain ⟨j, m, hj, rfl, rfl, hmn, hm, hgr⟩ := hrel
      by_cases hlt : j < k
      · obtain ⟨g, rfl, hg0, hg1, hcell⟩ := HROW.out (by omega)
        obtain ⟨tj, xj, htj, hxj, hpj⟩ := HA.out.get (j := j) (by have := HKL.out; omega)
        have hc := hcell j xj hxj
        obtain ⟨tyj, pvj, rfl⟩ := hpj.iface
        have hcw := hgr.out.cell hc (by simp)
        have hst := csum_step htj
        have hbd : csum (t.kids.take j) + tj.size ≤ n := by
          have hlq := csum_take t.kids (j + 1)
          have hks2 := HKS.out
          have hn3 := HN.out
          omega
        have htn : tj.size ≤ n := by omega
        have HP := Lib.hid ((hpj.grown HG1.out).grown hgr.out)
        have HST := Lib.hid hst
        have HBD := Lib.hid hbd
        have hm2 : m + tj.size ≤ n + 1 := by have := hm.out; omega
        clear hpj htj hxj hc hst hcell hbd
        obtain ⟨z, hz⟩ : ∃ z, tj.size = z := ⟨_, rfl⟩
        have HCALL := Lib.hid (HI.out tj _ tyj pvj wr htn (by omega) HP.out)
        rw [hz] at HCALL hm2
        have HZ := Lib.hid hz
        clear hz htn
        go_wp2_with fail
        refine HCALL.out.mono ?_
        rintro e w2 ⟨rfl, hg2⟩
        have HG2 := Lib.hid (hgr.out.trans hg2)
        clear hg2 hcw
        go_wp2_with fail
        go_roundw
        case rel => exact ⟨j + 1, m + z, by omega, by go_num, by go_num, by omega, Lib.hid (by rw [hm.out, HST.out, HZ.out]; omega), HG2⟩
        case measure => simp [intOf]; omega
      · have hjk : j = k := by omega
        have HJ := Lib.hid hjk
        clear hjk
        go_wp2_with fail
        go_ret
        refine ⟨?_, HG1.out.trans hgr.out⟩
        have e1 : m = t.size := by
          rw [hm.out, HKS.out, HJ.out, List.take_of_length_le (by rw [HLEN.out, HKL.out]; exact Nat.le_refl _)]
        rw [← e1]
        rfl
end

/- TSizeI -/
section
open Go.RowKit

def tsizeA (s : ByteArray) : Int := match readT s with
  | some t => (t.size : Int)
  | none => -1

theorem tsize_impl (s : ByteArray) (_hs : s.size ≤ 1048576) (w : World) :
    Calls Tryz.prog 19 #[.string s] w fun e w' => e = .returned (.int .i64 (tsizeA s)) ∧ w.grownBy w' none := by
  have H := Lib.hid (term_any s w)
  obtain ⟨b, hb⟩ : ∃ b, tsizeA s = b := ⟨_, rfl⟩
  rw [hb]
  have HB := Lib.hid hb
  clear hb
  go_enter Tryz.func19, Tryz.ntmps19
  go_wp2_with fail
  refine H.out.mono ?_
  intro e w1 hp
  unfold TermPost at hp
  have hb := HB.out
  unfold tsizeA at hb
  cases hr : readT s with
  | none =>
    rw [hr] at hp hb
    obtain rfl : b = -1 := hb.symm
    obtain ⟨rfl, hg⟩ := hp
    have HG := Lib.hid hg
    clear hg hr hb
    go_wp2_with fail
    go_ret
    exact ⟨rfl, HG.out⟩
  | some t =>
    rw [hr] at hp hb
    obtain ⟨v, rfl, hg, ha⟩ := hp
    obtain ⟨ty, pv, rfl⟩ := ha.iface
    have HG := Lib.hid hg
    have HC := Lib.hid (tsizeof_any t.size t _ ty pv w1 (Nat.le_refl _) (by have := (readT_some hr).2.2.2; omega) ha)
    simp only [hb] at HC
    clear hg ha hr hb
    go_wp2_with fail
    refine HC.out.mono ?_
    rintro e w2 ⟨rfl, hg2⟩
    have HG2 := Lib.hid hg2
    clear hg2
    go_wp2_with fail
    go_ret
    exact ⟨rfl, HG.out.trans HG2.out⟩
end

/- Lawdcrul -/
section
open Go.ChangeShapes Go.WideShapes Go.ChangeAt Go.RowKit
open Go.ChangeMaps (open_string shut_string)

/-- What holds of the counts of a term. -/
theorem crul_facts {t : ByteArray} {T : Tm} (hr : readT t = some T) : ∃ m : Nat, m ≤ 80 ∧ (rcnt7 (smpL T)).length = 7 ∧ (rcnt7 (smpL T))[0]? = some 0 ∧ (rcnt7 (smpL T)).sum = (m : Int) ∧ (∀ z ∈ rcnt7 (smpL T), 0 ≤ z ∧ z ≤ 1000) ∧
    simp9A t = decide (m = 0) ∧ (smp T).size + m ≤ T.size := by
  have hbd := readT_bd hr
  obtain ⟨h1, h2, h3, h4, h5⟩ := smp_ok hbd.1
  obtain ⟨c0, cs⟩ := cnt_sum h4
  have hT := T.size_pos
  have hle : (smpL T).length ≤ 80 := by omega
  have hc : ∀ j : Nat, (smpL T).count j ≤ 80 := fun j => Nat.le_trans List.count_le_length hle
  have hw : ∀ j : Nat, IntKind.i64.wrap (((smpL T).count j : Nat) : Int) = (((smpL T).count j : Nat) : Int) := fun j => IntWalk.i64_in _ (by have := hc j; omega)
  have he : rcnt7 (smpL T) = [(0 : Int), (((smpL T).count 1 : Nat) : Int), (((smpL T).count 2 : Nat) : Int), (((smpL T).count 3 : Nat) : Int), (((smpL T).count 4 : Nat) : Int), (((smpL T).count 5 : Nat) : Int), (((smpL T).count 6 : Nat) : Int)] := by
    unfold rcnt7
    simp only [hw]
    simp [List.range, List.range.loop, c0]
  refine ⟨(smpL T).length, hle, rcnt7_len _, by rw [he]; rfl, ?_, ?_, ?_, by omega⟩
  · rw [he, ← cs]
    simp only [List.sum_cons, List.sum_nil]
    omega
  · intro z hz
    rw [he] at hz
    have k1 := hc 1; have k2 := hc 2; have k3 := hc 3; have k4 := hc 4; have k5 := hc 5; have k6 := hc 6
    simp only [List.mem_cons, List.not_mem_nil, or_false] at hz
    rcases hz with rfl | rfl | rfl | rfl | rfl | rfl | rfl <;> omega
  · have e1 : sterm9B t = true := by unfold sterm9B; rw [hr]; rfl
    have e2 : sterm9T t = bytesOf (smp T).txt := by unfold sterm9T; rw [hr]
    unfold simp9A
    rw [e1, e2, Bool.true_and]
    have hs := smp_same hbd.1 hbd.2.1
    have ht := readT_txt hr
    by_cases hm : (smpL T).length = 0
    · rw [decide_eq_true hm]
      have hx := hs.2 (List.eq_nil_of_length_eq_zero hm)
      have : bytesOf (smp T).txt = t := by rw [hx, ← ht]; cases t; simp [bytesOf]
      rw [this]
      simp
    · rw [decide_eq_false hm, beq_eq_false_iff_ne]
      intro hx
      apply hm
      have hq : bytesOf (smp T).txt = t := ByteArray.ext (Array.toList_inj.1 (by rw [← Lib.toList_data, ← Lib.toList_data]; exact hx))
      rw [hs.1 (by rw [← ht, ← hq]; simp [bytesOf])]
      rfl

set_option maxRecDepth 100000 in
set_option maxHeartbeats 8000000 in
theorem law_dcrul (A : Option Addr) (n c : Nat) (w : World) (hA : Byts w A n) (hc : n ≤ c) (hn : n ≤ 9223372036854775807) :
    Calls Tryz.prog 4 #[.slice A n c] w fun e w' => e = .returned (.bool true) ∧ w.grownBy w' none := by
  by_cases h1 : 1048576 < n
  · clear hA
    go_enter Tryz.func4, Tryz.ntmps4
    go_wp2_with fail
    go_ret
    exact ⟨rfl, gr_refl _ _⟩
  have HD := Lib.hid (drawcrul_any A n c w hA hc hn)
  clear hA hc
  go_enter Tryz.func4, Tryz.ntmps4
  go_wp2_with fail
  refine HD.out.mono ?_
  rintro e w1 ⟨t, rfl, ht, hg1⟩
  have HG1 := Lib.hid hg1
  have RI := Lib.hid (fun w => crul_impl t w)
  have RS := Lib.hid (fun w => crul_spec t (by omega) w)
  have RT := Lib.hid (fun w => sterm9_impl t w)
  have RP := Lib.hid (fun w => simp9_impl t w)
  have RZ := Lib.hid (fun w => tsize_impl t (by omega) w)
  unfold CrIP at RI
  unfold CrSP at RS
  unfold PairP at RT
  clear hg1 HD
  cases hr : readT t with
  | none =>
    have e1 := crulZ_none hr
    have e2 : sterm9B t = false := by unfold sterm9B; rw [hr]; rfl
    rw [e1, e2] at RI RS
    simp only [List.length_nil] at RI RS
    have HF := Lib.hid (fun (A1 A2 : Option Addr) (c1 c2 : Nat) (w : World) => same_any A1 A2 c1 c2 [] w (fun hl => absurd hl (by simp)) (fun hl => absurd hl (by simp)) (by simp))
    simp only [List.length_nil] at HF
    clear hr e1 e2 RT RP RZ
    go_wp2_with fail
    refine (RI.out _).mono ?_
    rintro e w2 ⟨A1, c1, rfl, hg2, ho2⟩
    have HG2 := Lib.hid (HG1.out.trans hg2)
    clear hg2 ho2
    go_wp2_with fail
    refine (RS.out _).mono ?_
    rintro e w3 ⟨A2, c2, rfl, hg3, hi3⟩
    have HG3 := Lib.hid (HG2.out.trans hg3)
    clear hg3 hi3
    go_wp2_with fail
    refine (HF.out _ _ _ _ _).mono ?_
    rintro e w4 ⟨rfl, m4, rfl⟩
    have HG4 := Lib.hid (HG3.out.trans (gr_drewN w3 m4 none))
    obtain ⟨w4, hw4⟩ : ∃ x, w3.drewN m4 = x := ⟨_, rfl⟩
    rw [hw4] at HG4 ⊢
    clear hw4
    go_wp2_with fail
    refine (HF.out _ _ _ _ _).mono ?_
    rintro e w5 ⟨rfl, m5, rfl⟩
    have HG5 := Lib.hid (HG4.out.trans (gr_drewN w4 m5 none))
    obtain ⟨w5, hw5⟩ : ∃ x, w4.drewN m5 = x := ⟨_, rfl⟩
    rw [hw5] at HG5 ⊢
    clear hw5
    go_wp2_with fail
    go_ret
    exact ⟨rfl, HG5.out⟩
  | some T =>
    have hbd := readT_bd hr
    have e1 := crulZ_some hr
    have e2 : sterm9B t = true := by unfold sterm9B; rw [hr]; rfl
    have e3 : sterm9T t = bytesOf (smp T).txt := by unfold sterm9T; rw [hr]
    have e5 : tsizeA t = (T.size : Int) := by unfold tsizeA; rw [hr]
    obtain ⟨m, hm, hl, hl0, hsum, hb, hs9, hsz⟩ := crul_facts hr
    have hso := smp_ok hbd.1
    have hq : (bytesOf (smp T).txt).size = (smp T).txt.length := by simp [bytesOf, ByteArray.size]
    have hq80 : (bytesOf (smp T).txt).size ≤ 80 := by have := hso.2.2.1; have := hbd.2.1; omega
    have hback : readT (bytesOf (smp T).txt) = some (smp T) := readT_back hso.1 (by simp [bytesOf]) hq80
    have RZ2 := Lib.hid (fun w => tsize_impl (bytesOf (smp T).txt) (by omega) w)
    have e6 : tsizeA (bytesOf (smp T).txt) = ((smp T).size : Int) := by unfold tsizeA; rw [hback]
    rw [e1, e2] at RI RS
    rw [e2, e3] at RT
    rw [e5] at RZ
    rw [e6] at RZ2
    rw [hs9] at RP
    have hts := hbd.2.2
    generalize rcnt7 (smpL T) = L at RI RS hl hl0 hsum hb
    generalize bytesOf (smp T).txt = z at RT RZ2
    generalize (smp T).size = s1 at RZ2 hsz
    generalize T.size = s2 at RZ hsz hts
    clear hr e1 e2 e3 e5 e6 hs9 hso hq hq80 hback hbd
    have HL := Lib.hid hl
    have HL0 := Lib.hid hl0
    have HSUM := Lib.hid hsum
    have HB := Lib.hid hb
    have HI1 := Lib.hid (fun (w w' : World) (A1 : Option Addr) (c1 : Nat) (h : w'.ownsRow w.heap.size TSm 1 (.slice A1 L.length c1) L.length (L.map (Value.int .i64))) => Ints.of_own (e := TSm) h)
    rw [hl] at RI RS HI1
    clear hl hl0 hsum hb
    go_wp2_with fail
    refine (RI.out _).mono ?_
    rintro e w2 ⟨A1, c1, rfl, hg2, ho2⟩
    have hi2 := HI1.out _ _ _ _ ho2
    obtain ⟨b1, off1, rfl, _, _⟩ := hi2 (by rw [HL.out]; omega)
    have HG2 := Lib.hid (HG1.out.trans hg2)
    have HI2 := Lib.hid hi2
    clear hg2 ho2 hi2
    go_wp2_with fail
    refine (RS.out _).mono ?_
    rintro e w3 ⟨A2, c2, rfl, hg3, hi3⟩
    have HG3 := Lib.hid (HG2.out.trans hg3)
    have HI3 := Lib.hid (HI2.out.grown hg3 (by simp))
    have HF := Lib.hid (same_any (some ⟨b1, off1, none⟩) A2 c1 c2 L w3 HI3.out hi3 (by rw [HL.out]; omega))
    rw [HL.out] at HF
    clear hg3 hi3
    go_wp2_with fail
    refine HF.out.mono ?_
    rintro e w4 ⟨rfl, m4, rfl⟩
    have HG4 := Lib.hid (HG3.out.trans (gr_drewN w3 m4 none))
    have HI4 := Lib.hid (HI3.out.grown (gr_drewN w3 m4 none) (by simp))
    obtain ⟨w4, hw4⟩ : ∃ x, w3.drewN m4 = x := ⟨_, rfl⟩
    rw [hw4] at HG4 HI4 ⊢
    clear hw4
    go_wp2_with fail
    refine (RT.out _).mono ?_
    rintro e w5 ⟨rfl, hg5⟩
    have HG5 := Lib.hid (HG4.out.trans hg5)
    have HI5 := Lib.hid (HI4.out.grown hg5 (by simp))
    have hcell : w5.cell? ⟨b1, off1, none⟩ = some (.int .i64 0) := by
      obtain ⟨b, off, he, _, hc⟩ := HI5.out (by rw [HL.out]; omega)
      cases he
      exact hc 0 0 HL0.out
    have HTOT := Lib.hid (fun (w' : World) (hg : w5.grownBy w' none) => totalT_any (some ⟨b1, off1, none⟩) c1 L w' (HI5.out.grown hg (by simp)) HB.out (by rw [HL.out]; omega))
    rw [HL.out] at HTOT
    simp only [HSUM.out] at HTOT
    clear hg5
    by_cases hm0 : m = 0
    · subst hm0
      simp only [decide_true] at RP
      have hle : ((s1 : Int)) ≤ (s2 : Int) := by omega
      have hwr : IntKind.i64.wrap (s1 : Int) = (s1 : Int) := IntWalk.i64_in _ (by omega)
      have hwr2 : IntKind.i64.wrap ((s1 : Int) + ((0 : Nat) : Int)) = (s1 : Int) := by rw [show ((s1 : Int) + ((0 : Nat) : Int)) = (s1 : Int) by omega]; exact hwr
      go_wp2_with fail
      refine (HTOT.out _ (gr_refl _ _)).mono ?_
      rintro e w6 ⟨rfl, rfl⟩
      go_wp2_with fail
      refine (RP.out _).mono ?_
      rintro e w7 ⟨rfl, hg7⟩
      have HG7 := Lib.hid hg7
      clear hg7
      go_wp2_with fail
      refine (RZ2.out _).mono ?_
      rintro e w8 ⟨rfl, hg8⟩
      have HG8 := Lib.hid (HG7.out.trans hg8)
      clear hg8
      go_wp2_with fail
      refine (HTOT.out _ HG8.out).mono ?_
      rintro e w9 ⟨rfl, rfl⟩
      go_wp2_with fail
      refine (RZ.out _).mono ?_
      rintro e w10 ⟨rfl, hg10⟩
      have HG10 := Lib.hid (HG5.out.trans (HG8.out.trans hg10))
      clear hg10
      go_wp2_with fail
      go_ret
      exact ⟨rfl, HG10.out⟩
    · have hmb : ((m : Int) == 0) = false := by rw [beq_eq_false_iff_ne]; omega
      simp only [decide_eq_false hm0] at RP
      have hle : ((s1 : Int) + (m : Int)) ≤ (s2 : Int) := by omega
      have hwr : IntKind.i64.wrap ((s1 : Int) + (m : Int)) = (s1 : Int) + (m : Int) := IntWalk.i64_in _ (by omega)
      go_wp2_with fail
      refine (HTOT.out _ (gr_refl _ _)).mono ?_
      rintro e w6 ⟨rfl, rfl⟩
      go_wp2_with fail
      refine (RP.out _).mono ?_
      rintro e w7 ⟨rfl, hg7⟩
      have HG7 := Lib.hid hg7
      clear hg7
      go_wp2_with fail
      refine (RZ2.out _).mono ?_
      rintro e w8 ⟨rfl, hg8⟩
      have HG8 := Lib.hid (HG7.out.trans hg8)
      clear hg8
      go_wp2_with fail
      refine (HTOT.out _ HG8.out).mono ?_
      rintro e w9 ⟨rfl, rfl⟩
      go_wp2_with fail
      refine (RZ.out _).mono ?_
      rintro e w10 ⟨rfl, hg10⟩
      have HG10 := Lib.hid (HG5.out.trans (HG8.out.trans hg10))
      clear hg10
      go_wp2_with fail
      go_ret
      exact ⟨rfl, HG10.out⟩

set_option maxRecDepth 100000 in
theorem dcrul_lifted (os : Os) (started : os.Started) (H : Type) (enc : TypeId × Value → H) :
    ReturnsInHanded {} Tryz.checked os 4 .any (Rows.fnCountRulesSpec.pre6 enc Tryz.prog Tryz.f4 Rows.fnCountRulesRow.domain false) (Rows.fnCountRulesSpec.post enc Tryz.prog Tryz.f4 false true false false) := by
  refine returnsInHanded_of_change (C := Tryz.checked) knob_own started (by kernel_rfl) Tryz.func4
    (ChangeSpec.witness6 (enc := enc) (C := Tryz.checked) false ⟨#[], #[.slice none 0 0], []⟩ 8 (by kernel_rfl) (by kernel_rfl) (by kernel_rfl) (by kernel_rfl)) ?_
  intro W base args ds gs before hval0 hW hcnd _
  have hval : ∀ (j : Nat) t v, Tryz.f4.params[j]? = some t → args[j]? = some v → Value.okWide Tryz.prog W .any base t v := hval0
  have hW' := hW
  obtain ⟨p, q, hA0, hV, rfl, hfz, hnd⟩ := hW
  have hA : DataW.TrodAll enc Tryz.prog W 0 (fun _ => true) true Tryz.f4.params.toList args.toList ds p := hA0
  rw [Tryz.params4] at hA hval
  obtain ⟨v0, d0, rfl, rfl, h0⟩ := trodAll_one hA
  obtain ⟨rfl, rfl⟩ := trodVars_none hV
  obtain ⟨A, n, c, rfl, a1, a2, a3⟩ := open_bytsT (hval 0 22 v0 rfl rfl) h0
  clear hA0 hval0
  simp only [List.append_nil] at hW'
  have hlt : ∀ x ∈ p, x.block < W.heap.size := fun x hx => by simpa using hW'.lt x hx
  refine (law_dcrul A n c W a3 a1 a2).mono fun e W' ⟨he, hg⟩ => ?_
  subst he
  refine ⟨_, rfl, _, _, _, [], p, [], hW', ?_, ?_, rfl, (below_of hg).frame _, fun h => by cases h⟩
  · exact trodAll_mk1 (shut_bool Tryz.underlying4 _)
  · exact trodAll_mk1 (Below.trod laid_out_p (by kernel_rfl) (of_decide_eq_true (by kernel_rfl)) h0 (below_of hg) hlt)

theorem dcrul_holds : Rows.FnCountRulesSaid :=
  OpenClaim.holds_of_wide 4 Tryz.f4 rfl rfl rfl rfl rfl rfl rfl ⟨rfl, rfl, rfl, rfl, rfl⟩ rfl rfl rfl rfl rfl fdcrul_name Tryz.func4 fdcrul_all fdcrul_inst fdcrul_wrap
    (fun os started H enc _ => (dcrul_lifted os started H enc))

#print axioms dcrul_holds
end

end Go.Proofs.YtboddoaekcchpaaGreat

/- What appendNumbers of the program does. -/
import Derived.Test.YtbideeajdhejoaaDoorFmtS
import Derived.Test.YtbideeajdhejoaaDoorShelfA
namespace Go.Proofs.YtbideeajdhejoaaDoor
open Go.RowKit

/-- The library's table, whatever is done from block B on. -/
def Tab (B : Nat) (w : World) : Prop := Lib.TabBelow Tryd.prog B w "internal/strconv.uint64pow10" .u64 Lib.pow10Tab

theorem own_len2A {w : World} {base e m n : Nat} {A : Option Addr} {c : Nat} {xs : List Value} (h : w.ownsRow base e 1 (.slice A m c) n xs) : m = n := by
  rcases h.2 with ⟨hv, hn⟩ | ⟨g, cap, cur, hv, _⟩
  · cases hv; omega
  · cases hv; rfl
theorem below_rowA {w w1 : World} {base n : Nat} {v : Value} {xs : List Value} {e : TypeId} (ho : w.ownsRow base e 1 v n xs) (hb : base ≤ w.heap.size) (hg : w.grownBy w1 v.ownBlock) : Below base w w1 :=
  ⟨hg.os, hg.tape, hg.output, hg.size, fun k hk => hg.block k (Nat.lt_of_lt_of_le hk hb) (fun e => by have := (ho.lt k e.symm).1; omega)⟩
theorem below_allocA {w : World} {B : Nat} (hb : B ≤ w.heap.size) (o : Obj) : Below B w (w.alloc o) :=
  have hg := World.grownBy_alloc w o none
  ⟨hg.os, hg.tape, hg.output, hg.size, fun k hk => hg.block k (by omega) (by simp)⟩

/-- Ints in a block below B. -/
def IntsB (B : Nat) (w : World) (A : Option Addr) (zs : List Int) : Prop := 0 < zs.length → ∃ b off, A = some ⟨b, off, none⟩ ∧ b < B ∧ b < w.heap.size ∧ ∀ (j : Nat) (z : Int), zs[j]? = some z → w.cell? ⟨b, off + j, none⟩ = some (.int .i64 z)
theorem cell_below {B : Nat} {w w' : World} {b o : Nat} (hb : Below B w w') (hbB : b < B) : w'.cell? ⟨b, o, none⟩ = w.cell? ⟨b, o, none⟩ := by
  simp only [World.cell?]
  rw [hb.block b hbB]
theorem IntsB.below {B : Nat} {w w' : World} {A : Option Addr} {zs : List Int} (h : IntsB B w A zs) (hb : Below B w w') : IntsB B w' A zs := fun hl => by
  obtain ⟨b, off, rfl, hbB, hbs, hc⟩ := h hl
  exact ⟨b, off, rfl, hbB, Nat.lt_of_lt_of_le hbs hb.size, fun j z hj => (cell_below hb hbB).trans (hc j z hj)⟩

/-- How appendNumbers ends. -/
def AppPost (B n : Nat) (xs : List Value) (l : List UInt8) (w : World) (e : Ending) (w' : World) : Prop :=
  ∃ v', e = .returned v' ∧ w'.ownsRow B 5 1 v' (n + l.length) (xs ++ Lib.byteCells l) ∧ Below B w w'

theorem infoU : (Tryd.prog.info? 5).map (fun i => (i.zero, i.size, i.bytes)) = some (some (.int .u8 0), 1, 1) := by kernel_rfl
theorem byteCells_app (l m : List UInt8) : Lib.byteCells (l ++ m) = Lib.byteCells l ++ Lib.byteCells m := by simp [Lib.byteCells]

/-- One byte more. -/
theorem push_byte {B n : Nat} {xs : List Value} {l : List UInt8} {b : UInt8} {w : World} {v : Value} (ho : w.ownsRow B 5 1 v (n + l.length + 1) ((xs ++ Lib.byteCells l) ++ [.int .u8 (b.toNat : Int)])) : w.ownsRow B 5 1 v (n + (l ++ [b]).length) (xs ++ Lib.byteCells (l ++ [b])) := by
  rw [byteCells_app, List.length_append, ← List.append_assoc]
  exact ho

set_option maxRecDepth 100000 in
set_option maxHeartbeats 2000000 in
theorem appn_nil (B n : Nat) (sv : Value) (xs : List Value) (A : Option Addr) (c : Nat) (w : World) (hown : w.ownsRow B 5 1 sv n xs) (hB : B ≤ w.heap.size) (hn : n ≤ 60000000) :
    Calls Tryd.prog 22 #[sv, .slice A 0 c] w (AppPost B n xs [45] w) := by
  obtain ⟨i0, hi0, hz0, hz1, hz2⟩ := info_parts infoU
  have HO := Lib.hid hown
  obtain ⟨A0, m0, c0, rfl⟩ := own_form hown
  have hm0 := own_len2A hown
  subst hm0
  clear hown
  have own1 := HO.out.alloc (.cells #[.int .u8 45] 5)
  go_enter Tryd.func22, Tryd.ntmps22
  go_wp2_with (at_builtin; refine wpList_append_own_at _ rfl _ _ 43 rfl B 5 i0 (.int .u8 0) 1 1 Tryd.underlying43 hi0 hz0 hz1 hz2 rfl (by decide) _ _ _ rfl own1 ⟨w.heap.size, 0, none⟩ 1 1 [.int .u8 45] rfl rfl ?a1 ?a2 ?a3 ?a4 ?a5 ?_)
  case a1 => exact cell_one_new _ _ _
  case a2 => simp [Value.oneCell']
  case a3 => simp only [maxLen]; omega
  case a4 => omega
  case a5 => simp; omega
  intro v8 w8 hown8 hg8 _ _
  have HB8 := Lib.hid ((below_allocA hB (.cells #[.int .u8 45] 5)).trans (below_rowA own1 (by simp; omega) hg8))
  have HO8 := Lib.hid hown8
  clear hown8 hg8 own1
  go_wp2_with fail
  go_ret
  exact ⟨v8, rfl, HO8.out, HB8.out⟩

set_option maxRecDepth 100000 in
set_option maxHeartbeats 2000000 in
theorem appn_some (B n : Nat) (sv : Value) (xs : List Value) (A : Option Addr) (c : Nat) (zs : List Int) (w : World) (hown : w.ownsRow B 5 1 sv n xs) (hB : B ≤ w.heap.size) (h : IntsB B w A zs) (hwf : Wf zs) (hz : zs.length ≤ 1048576) (hn : n ≤ 60000000) (htab : Tab B w) (hpos : 0 < zs.length) :
    Calls Tryd.prog 22 #[sv, .slice A zs.length c] w (AppPost B n xs (preT zs) w) := by
  obtain ⟨i0, hi0, hz0, hz1, hz2⟩ := info_parts infoU
  obtain ⟨b, off, rfl, hbB, hbs, hc⟩ := h hpos
  have HC := Lib.hid (fun w' (hb : Below B w w') j z hj => (cell_below (o := off + j) hb hbB).trans (hc j z hj))
  have HO := Lib.hid hown
  have HWF := Lib.hid hwf
  have HT := Lib.hid htab
  obtain ⟨m, hm⟩ : ∃ m, zs.length = m := ⟨_, rfl⟩
  have HM := Lib.hid hm
  rw [hm] at hz hpos ⊢
  obtain ⟨A0, m0, c0, rfl⟩ := own_form hown
  have hne : ((m : Int) == 0) = false := by rw [beq_eq_false_iff_ne]; omega
  clear hown hwf htab hm h hc hbs
  go_enter Tryd.func22, Tryd.ntmps22
  go_wp2_with fail
  go_loopw [0, 15] (fun u i wr => ∃ (j k : Nat), j ≤ m ∧ i = .int .i64 j ∧ Hid (k = n + (preT (zs.take j)).length) ∧ k ≤ 60000000 + 22 * j ∧ Hid (wr.ownsRow B 5 1 u k (xs ++ Lib.byteCells (preT (zs.take j)))) ∧ Hid (Below B w wr) ∧ B ≤ wr.heap.size) (fun _ i _ => m - (intOf i).toNat)
  case atStart => exact ⟨0, n, Nat.zero_le _, rfl, Lib.hid (by simp [preT]), by omega, Lib.hid (by simpa [preT, Lib.byteCells] using HO.out), Lib.hid (Below.refl _ _), hB⟩
  case round =>
    obtain ⟨j, k, hj, rfl, hk, hk2, ho, hb, hB2⟩ := hrel
    by_cases hlt : j < m
    · obtain ⟨z, hz⟩ : ∃ z, zs[j]? = some z := ⟨_, List.getElem?_eq_getElem (by have := HM.out; omega)⟩
      have HZ := Lib.hid hz
      have hcell := HC.out wr hb.out j z hz
      have hzw := HWF.out z (List.mem_of_getElem? hz)
      clear hz
      by_cases h0 : j = 0
      · subst h0
        have hcell0 : wr.cell? ⟨b, off, none⟩ = some (.int .i64 z) := hcell
        clear hcell
        have HAI := Lib.hid (Tryd.strconv_AppendInt_10 B k z hzw.1 hzw.2 u0 _ wr ho.out hB2 (by omega) (HT.out.on hb.out))
        go_wp2_with fail
        refine HAI.out.mono ?_
        rintro e w9 ⟨v9, rfl, ho9, hb9, _⟩
        have HO9 := Lib.hid ho9
        have HB9 := Lib.hid (hb.out.trans hb9)
        have hB9 : B ≤ w9.heap.size := Nat.le_trans hB2 hb9.size
        have hl9 := Lib.itoa_length_le z hzw.1 hzw.2
        have hp0 := preT_step0 HZ.out
        clear ho9 hb9
        go_wp2_with fail
        go_roundw
        case rel =>
          refine ⟨0 + 1, k + (Lib.itoa z).length, by omega, by simp, Lib.hid ?_, by omega, Lib.hid ?_, HB9, hB9⟩
          · rw [hp0, hk.out]; simp [preT]
          · rw [hp0]
            have := HO9.out
            simpa [preT, Lib.byteCells] using this
        case measure => simp [intOf]; omega
      · have hj0 : (0 : Int) < (j : Int) := by omega
        obtain ⟨A1, m1, c1, rfl⟩ := own_form ho.out
        have own1 := ho.out.alloc (.cells #[.int .u8 32] 5)
        obtain rfl : m1 = k := own_len2A ho.out
        go_wp2_with (at_builtin; refine wpList_append_own_at _ rfl _ _ 43 rfl B 5 i0 (.int .u8 0) 1 1 Tryd.underlying43 hi0 hz0 hz1 hz2 rfl (by decide) _ _ _ rfl own1 ⟨wr.heap.size, 0, none⟩ 1 1 [.int .u8 32] rfl rfl ?b1 ?b2 ?b3 ?b4 ?b5 ?_)
        case b1 => exact cell_one_new _ _ _
        case b2 => simp [Value.oneCell']
        case b3 => simp only [maxLen]; omega
        case b4 => omega
        case b5 => simp; omega
        intro v8 w8 hown8 hg8 _ _
        have hb8 := (below_allocA hB2 (.cells #[.int .u8 32] 5)).trans (below_rowA own1 (by simp; omega) hg8)
        have HB8 := Lib.hid hb8
        have hB8 : B ≤ w8.heap.size := Nat.le_trans hB2 hb8.size
        have HAI := Lib.hid (Tryd.strconv_AppendInt_10 B (m1 + 1) z hzw.1 hzw.2 v8 _ w8 hown8 hB8 (by omega) (HT.out.on (hb.out.trans hb8)))
        clear hown8 hg8 own1 hb8 hcell
        go_wp2_with fail
        refine HAI.out.mono ?_
        rintro e w9 ⟨v9, rfl, ho9, hb9, _⟩
        have HO9 := Lib.hid ho9
        have HB9 := Lib.hid ((hb.out.trans HB8.out).trans hb9)
        have hB9 : B ≤ w9.heap.size := Nat.le_trans hB8 hb9.size
        have hl9 := Lib.itoa_length_le z hzw.1 hzw.2
        have hp0 := preT_stepS HZ.out (by omega)
        clear ho9 hb9
        go_wp2_with fail
        go_roundw
        case rel =>
          refine ⟨j + 1, m1 + 1 + (Lib.itoa z).length, by omega, by simp, Lib.hid ?_, by omega, Lib.hid ?_, HB9, hB9⟩
          · rw [hp0, hk.out]; simp; omega
          · rw [hp0]
            have := HO9.out
            simpa [Lib.byteCells] using this
        case measure => simp [intOf]; omega
    · obtain rfl : j = m := by omega
      have HO9 := ho
      go_wp2_with fail
      go_ret
      refine ⟨_, rfl, ?_, hb.out⟩
      have e : zs.take j = zs := List.take_of_length_le (by have := HM.out; omega)
      have := HO9.out
      rw [hk.out, e] at this
      exact this

end Go.Proofs.YtbideeajdhejoaaDoor

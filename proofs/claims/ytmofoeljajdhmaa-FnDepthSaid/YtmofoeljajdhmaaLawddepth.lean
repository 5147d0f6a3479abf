/- The law FnDepth: whatever the bytes, true. -/
import Derived.Test.YtmofoeljajdhmaaSPts
import Derived.Test.YtmofoeljajdhmaaDrZ
import Derived.Test.YtmofoeljajdhmaaTDepB
import Derived.Test.YtmofoeljajdhmaaFreeVI
import Derived.Test.YtmofoeljajdhmaaGddepth
import Derived.Test.YtmofoeljajdhmaaGr
import Derived.ProofKit
import Derived.Test.YtmofoeljajdhmaaTTerm
import Derived.Test.YtmofoeljajdhmaaSTerm
import Derived.Test.YtmofoeljajdhmaaTLev
import Derived.Test.YtmofoeljajdhmaaSSize
import Derived.Test.YtmofoeljajdhmaaTPts
namespace Go.Proofs.Ytmofoeljajdhmaa
section
open Go.ChangeShapes Go.WideShapes Go.ChangeAt Go.RowKit

theorem knob_own : ownKnob Try.prog.godebug = none := by kernel_rfl
theorem below_of {w w' : World} (h : w.grownBy w' none) : Below w.heap.size w w' := ⟨h.os, h.tape, h.output, h.size, fun k hk => h.block k hk (by simp)⟩
end

section
section
open Go.RowKit

def tvalidA (s : ByteArray) : Bool := (readT s).isSome

theorem tvalid_impl (s : ByteArray) (_hs : s.size ≤ 1048576) (w : World) :
    Calls Try.prog 25 #[.string s] w fun e w' => e = .returned (.bool (tvalidA s)) ∧ w.grownBy w' none := by
  have H := Lib.hid (term_any s w)
  obtain ⟨b, hb⟩ : ∃ b, tvalidA s = b := ⟨_, rfl⟩
  rw [hb]
  have HB := Lib.hid hb
  clear hb
  go_enter Try.func25, Try.ntmps25
  go_wp2_with fail
  refine H.out.mono ?_
  intro e w1 hp
  unfold TermPost at hp
  have hb := HB.out
  unfold tvalidA at hb
  cases hr : readT s with
  | none =>
    rw [hr] at hp hb
    obtain rfl : b = false := hb.symm
    obtain ⟨rfl, hg⟩ := hp
    have HG := Lib.hid hg
    clear hg hr hb
    go_wp2_with fail
    go_ret
    exact ⟨rfl, HG.out⟩
  | some t =>
    rw [hr] at hp hb
    obtain rfl : b = true := hb.symm
    obtain ⟨v, rfl, hg, ha⟩ := hp
    obtain ⟨ty, pv, rfl⟩ := ha.iface
    have HG := Lib.hid hg
    clear hg ha hr hb
    go_wp2_with fail
    go_ret
    exact ⟨rfl, HG.out⟩

theorem tvalid_spec (s : ByteArray) (hs : s.size ≤ 1048576) (w : World) :
    Calls Try.prog 26 #[.string s] w fun e w' => e = .returned (.bool (tvalidA s)) ∧ w.grownBy w' none := by
  have H := Lib.hid (sterm_any s hs w)
  obtain ⟨b, hb⟩ : ∃ b, tvalidA s = b := ⟨_, rfl⟩
  rw [hb]
  have HB := Lib.hid hb
  clear hb
  go_enter Try.func26, Try.ntmps26
  go_wp2_with fail
  refine H.out.mono ?_
  intro e w1 hp
  unfold STermPost at hp
  have hb := HB.out
  unfold tvalidA at hb
  cases hr : readT s with
  | none =>
    rw [hr] at hp hb
    obtain rfl : b = false := hb.symm
    obtain ⟨rfl, hg⟩ := hp
    have HG := Lib.hid hg
    clear hg hr hb
    go_wp2_with fail
    go_ret
    exact ⟨rfl, HG.out.trans (World.grownBy_alloc _ _ _)⟩
  | some t =>
    rw [hr] at hp hb
    obtain rfl : b = true := hb.symm
    obtain ⟨a, b, A, k, c, rfl, hg, ha⟩ := hp
    have HG := Lib.hid hg
    clear hg ha hr hb
    go_wp2_with fail
    go_ret
    exact ⟨rfl, HG.out.trans (World.grownBy_alloc _ _ _)⟩
end

section
open Go.RowKit

def tlevA (s : ByteArray) : Int := match readT s with
  | some t => (t.levels : Int)
  | none => -1

theorem tlev_impl (s : ByteArray) (_hs : s.size ≤ 1048576) (w : World) :
    Calls Try.prog 29 #[.string s] w fun e w' => e = .returned (.int .i64 (tlevA s)) ∧ w.grownBy w' none := by
  have H := Lib.hid (term_any s w)
  obtain ⟨b, hb⟩ : ∃ b, tlevA s = b := ⟨_, rfl⟩
  rw [hb]
  have HB := Lib.hid hb
  clear hb
  go_enter Try.func29, Try.ntmps29
  go_wp2_with fail
  refine H.out.mono ?_
  intro e w1 hp
  unfold TermPost at hp
  have hb := HB.out
  unfold tlevA at hb
  cases hr : readT s with
  | none =>
    rw [hr] at hp hb
    obtain rfl : b = -1 := hb.symm
    obtain ⟨rfl, hg⟩ := hp
    have HG := Lib.hid hg
    clear hg hr hb
    go_wp2_with fail
    go_ret
    exact ⟨rfl, HG.out⟩
  | some t =>
    rw [hr] at hp hb
    obtain ⟨v, rfl, hg, ha⟩ := hp
    obtain ⟨ty, pv, rfl⟩ := ha.iface
    have HG := Lib.hid hg
    have HC := Lib.hid (tlevels_any t.size t _ ty pv w1 (Nat.le_refl _) (by have := (readT_some hr).2.2.2; omega) ha)
    simp only [hb] at HC
    clear hg ha hr hb
    go_wp2_with fail
    refine HC.out.mono ?_
    rintro e w2 ⟨rfl, hg2⟩
    have HG2 := Lib.hid hg2
    clear hg2
    go_wp2_with fail
    go_ret
    exact ⟨rfl, HG.out.trans HG2.out⟩

theorem tlev_spec (s : ByteArray) (hs : s.size ≤ 1048576) (w : World) :
    Calls Try.prog 30 #[.string s] w fun e w' => e = .returned (.int .i64 (tlevA s)) ∧ w.grownBy w' none := by
  have H := Lib.hid (sterm_any s hs w)
  obtain ⟨b, hb⟩ : ∃ b, tlevA s = b := ⟨_, rfl⟩
  rw [hb]
  have HB := Lib.hid hb
  clear hb
  go_enter Try.func30, Try.ntmps30
  go_wp2_with fail
  refine H.out.mono ?_
  intro e w1 hp
  unfold STermPost at hp
  have hb := HB.out
  unfold tlevA at hb
  cases hr : readT s with
  | none =>
    rw [hr] at hp hb
    obtain rfl : b = -1 := hb.symm
    obtain ⟨rfl, hg⟩ := hp
    have HG := Lib.hid hg
    clear hg hr hb
    go_wp2_with fail
    go_ret
    exact ⟨rfl, HG.out.trans (World.grownBy_alloc _ _ _)⟩
  | some t =>
    rw [hr] at hp hb
    obtain ⟨a, d, A, k, c, rfl, hg, ha⟩ := hp
    have HX := Lib.hid (c3_new w1 (.int .u8 a) (.int .u8 d) (.slice A k c) 70)
    have x0 := HX.out.c0
    have x1 := HX.out.c1
    have x2 := HX.out.c2
    have HG := Lib.hid (hg.trans (World.grownBy_alloc w1 (.cells #[.int .u8 a, .int .u8 d, .slice A k c] 70) none))
    have HC := Lib.hid (slevels_any t.size t _ a d A k c _ (Nat.le_refl _) (by have := (readT_some hr).2.2.2; omega) (readT_some hr).2.2.1 (ha.grown (World.grownBy_alloc w1 (.cells #[.int .u8 a, .int .u8 d, .slice A k c] 70) none)))
    simp only [hb] at HC
    clear hg ha hr hb
    go_wp2_with fail
    refine HC.out.mono ?_
    rintro e w2 ⟨rfl, hg2⟩
    have HG2 := Lib.hid hg2
    clear hg2
    go_wp2_with fail
    go_ret
    exact ⟨rfl, HG.out.trans HG2.out⟩
end

section
open Go.RowKit

def tsizeA (s : ByteArray) : Int := match readT s with
  | some t => (t.size : Int)
  | none => -1

theorem tsize_impl (s : ByteArray) (_hs : s.size ≤ 1048576) (w : World) :
    Calls Try.prog 27 #[.string s] w fun e w' => e = .returned (.int .i64 (tsizeA s)) ∧ w.grownBy w' none := by
  have H := Lib.hid (term_any s w)
  obtain ⟨b, hb⟩ : ∃ b, tsizeA s = b := ⟨_, rfl⟩
  rw [hb]
  have HB := Lib.hid hb
  clear hb
  go_enter Try.func27, Try.ntmps27
  go_wp2_with fail
  refine H.out.mono ?_
  intro e w1 hp
  unfold TermPost at hp
  have hb := HB.out
  unfold tsizeA at hb
  cases hr : readT s with
  | none =>
    rw [hr] at hp hb
    obtain rfl : b = -1 := hb.symm
    obtain ⟨rfl, hg⟩ := hp
    have HG := Lib.hid hg
    clear hg hr hb
    go_wp2_with fail
    go_ret
    exact ⟨rfl, HG.out⟩
  | some t =>
    rw [hr] at hp hb
    obtain ⟨v, rfl, hg, ha⟩ := hp
    obtain ⟨ty, pv, rfl⟩ := ha.iface
    have HG := Lib.hid hg
    have HC := Lib.hid (tsizeof_any t.size t _ ty pv w1 (Nat.le_refl _) (by have := (readT_some hr).2.2.2; omega) ha)
    simp only [hb] at HC
    clear hg ha hr hb
    go_wp2_with fail
    refine HC.out.mono ?_
    rintro e w2 ⟨rfl, hg2⟩
    have HG2 := Lib.hid hg2
    clear hg2
    go_wp2_with fail
    go_ret
    exact ⟨rfl, HG.out.trans HG2.out⟩

theorem tsize_spec (s : ByteArray) (hs : s.size ≤ 1048576) (w : World) :
    Calls Try.prog 28 #[.string s] w fun e w' => e = .returned (.int .i64 (tsizeA s)) ∧ w.grownBy w' none := by
  have H := Lib.hid (sterm_any s hs w)
  obtain ⟨b, hb⟩ : ∃ b, tsizeA s = b := ⟨_, rfl⟩
  rw [hb]
  have HB := Lib.hid hb
  clear hb
  go_enter Try.func28, Try.ntmps28
  go_wp2_with fail
  refine H.out.mono ?_
  intro e w1 hp
  unfold STermPost at hp
  have hb := HB.out
  unfold tsizeA at hb
  cases hr : readT s with
  | none =>
    rw [hr] at hp hb
    obtain rfl : b = -1 := hb.symm
    obtain ⟨rfl, hg⟩ := hp
    have HG := Lib.hid hg
    clear hg hr hb
    go_wp2_with fail
    go_ret
    exact ⟨rfl, HG.out.trans (World.grownBy_alloc _ _ _)⟩
  | some t =>
    rw [hr] at hp hb
    obtain ⟨a, d, A, k, c, rfl, hg, ha⟩ := hp
    have HX := Lib.hid (c3_new w1 (.int .u8 a) (.int .u8 d) (.slice A k c) 70)
    have x0 := HX.out.c0
    have x1 := HX.out.c1
    have x2 := HX.out.c2
    have HG := Lib.hid (hg.trans (World.grownBy_alloc w1 (.cells #[.int .u8 a, .int .u8 d, .slice A k c] 70) none))
    have HC := Lib.hid (ssizeof_any t.size t _ a d A k c _ (Nat.le_refl _) (by have := (readT_some hr).2.2.2; omega) (ha.grown (World.grownBy_alloc w1 (.cells #[.int .u8 a, .int .u8 d, .slice A k c] 70) none)))
    simp only [hb] at HC
    clear hg ha hr hb
    go_wp2_with fail
    refine HC.out.mono ?_
    rintro e w2 ⟨rfl, hg2⟩
    have HG2 := Lib.hid hg2
    clear hg2
    go_wp2_with fail
    go_ret
    exact ⟨rfl, HG.out.trans HG2.out⟩
end

section
open Go.RowKit

theorem ptext {t : ByteArray} {T : Tm} (h : readT t = some T) : t = bytesOf T.txt := by
  apply ByteArray.ext
  apply Array.toList_inj.1
  rw [readT_txt h]
  rfl
theorem kid_read {t : ByteArray} {T k : Tm} (h : readT t = some T) (hk : k ∈ T.kids) : readT (bytesOf k.txt) = some k := by
  have h4 := readT_some h
  have hkk := Tm.kids_ok h4.2.2.1 hk
  have hl := readT_len h
  exact readT_back hkk.1 rfl (by rw [bytesOf_size]; omega)

/-- The size and the levels after so many parts. -/
def sAt (P : List ByteArray) : Nat → Int
  | 0 => 1
  | j + 1 => sAt P j + tsizeA (P.getD j ⟨#[]⟩)
def vAt (P : List ByteArray) (lb : Bool) : Nat → Int
  | 0 => 0
  | j + 1 => max (vAt P lb j) (tlevA (P.getD j ⟨#[]⟩) + if lb = true ∧ j = 1 then 1 else 0)
theorem tsizeA_bd (s : ByteArray) : -1 ≤ tsizeA s ∧ tsizeA s ≤ 80 := by
  unfold tsizeA
  cases h : readT s with
  | none => exact ⟨by simp only; omega, by simp only; omega⟩
  | some t => have := (readT_some h).2.2.2; exact ⟨by simp only; omega, by simp only; omega⟩
theorem tlevA_bd (s : ByteArray) : -1 ≤ tlevA s ∧ tlevA s ≤ 80 := by
  unfold tlevA
  cases h : readT s with
  | none => exact ⟨by simp only; omega, by simp only; omega⟩
  | some t => have := (readT_some h).2.2.2; have := t.levels_le; exact ⟨by simp only; omega, by simp only; omega⟩
theorem sAt_bd (P : List ByteArray) : ∀ j : Nat, -(j : Int) ≤ sAt P j ∧ sAt P j ≤ 1 + 80 * j
  | 0 => by simp [sAt]
  | j + 1 => by
    have h1 := sAt_bd P j
    have h2 := tsizeA_bd (P.getD j ⟨#[]⟩)
    simp only [sAt]
    omega
theorem vAt_bd (P : List ByteArray) (lb : Bool) : ∀ j : Nat, 0 ≤ vAt P lb j ∧ vAt P lb j ≤ 81
  | 0 => by simp [vAt]
  | j + 1 => by
    have h1 := vAt_bd P lb j
    have h2 := tlevA_bd (P.getD j ⟨#[]⟩)
    simp only [vAt]
    split <;> omega

theorem tsizeA_some {t : ByteArray} {T : Tm} (h : readT t = some T) : tsizeA t = T.size := by unfold tsizeA; rw [h]
theorem tlevA_some {t : ByteArray} {T : Tm} (h : readT t = some T) : tlevA t = T.levels := by unfold tlevA; rw [h]
theorem parts_some {t : ByteArray} {T : Tm} (h : readT t = some T) : partsA t = T.kids.map fun k => bytesOf k.txt := by unfold partsA; rw [h]

theorem sAt_end {t : ByteArray} {T : Tm} (h : readT t = some T) : sAt (partsA t) (partsA t).length = T.size := by
  have hk : ∀ k ∈ T.kids, tsizeA (bytesOf k.txt) = k.size := fun k hk => tsizeA_some (kid_read h hk)
  rw [parts_some h]
  cases T with
  | dig c => rfl
  | var c => rfl
  | pre c s =>
    have h1 := hk s (by simp [Tm.kids])
    simp [Tm.kids, sAt, Tm.size, h1]
  | two c s u =>
    have h1 := hk s (by simp [Tm.kids])
    have h2 := hk u (by simp [Tm.kids])
    simp [Tm.kids, sAt, Tm.size, h1, h2]
  | loop c i s u =>
    have h1 := hk s (by simp [Tm.kids])
    have h2 := hk u (by simp [Tm.kids])
    simp [Tm.kids, sAt, Tm.size, h1, h2]
theorem vAt_end {t : ByteArray} {T : Tm} (h : readT t = some T) : vAt (partsA t) T.isLoop (partsA t).length = T.levels := by
  have hk : ∀ k ∈ T.kids, tlevA (bytesOf k.txt) = k.levels := fun k hk => tlevA_some (kid_read h hk)
  rw [parts_some h]
  cases T with
  | dig c => rfl
  | var c => rfl
  | pre c s =>
    have h1 := hk s (by simp [Tm.kids])
    simp [Tm.kids, vAt, Tm.levels, Tm.isLoop, h1]
  | two c s u =>
    have h1 := hk s (by simp [Tm.kids])
    have h2 := hk u (by simp [Tm.kids])
    simp [Tm.kids, vAt, Tm.levels, Tm.isLoop, h1, h2]
    omega
  | loop c i s u =>
    have h1 := hk s (by simp [Tm.kids])
    have h2 := hk u (by simp [Tm.kids])
    simp [Tm.kids, vAt, Tm.levels, Tm.isLoop, h1, h2]
    omega

theorem bytes_cut (l : List UInt8) (a b : Nat) : (bytesOf l).extract a b = bytesOf ((l.take b).drop a) := by
  apply ByteArray.ext
  apply Array.toList_inj.1
  simp [bytesOf, ByteArray.data_extract, List.drop_take]

/-- The texts of the parts make up the text. -/
theorem text_pre {t : ByteArray} {c : Int} {s : Tm} (h : readT t = some (.pre c s)) : one c ++ bytesOf s.txt = t := by
  rw [ptext h, Tm.txt, bytesOf_cons]
theorem text_two {t : ByteArray} {c : Int} {s u : Tm} (h : readT t = some (.two c s u)) : (⟨#[40]⟩ : ByteArray) ++ bytesOf s.txt ++ one c ++ bytesOf u.txt ++ ⟨#[41]⟩ = t := by
  rw [ptext h]
  apply ByteArray.ext
  apply Array.toList_inj.1
  simp [bytesOf, ByteArray.data_append, one_data, Tm.txt]
theorem text_loop {t : ByteArray} {c i : Int} {s u : Tm} (h : readT t = some (.loop c i s u)) :
    one c ++ t.extract 1 2 ++ ⟨#[58]⟩ ++ bytesOf s.txt ++ ⟨#[62]⟩ ++ bytesOf u.txt ++ t.extract (t.size - 1) t.size = t := by
  have ht := ptext h
  have hs : t.size = (Tm.loop c i s u).txt.length := (readT_len h).symm
  have e1 : t.extract 1 2 = bytesOf [byt i] := by
    rw [ht, bytes_cut]
    rfl
  have e2 : t.extract (t.size - 1) t.size = bytesOf [byt (c + 2)] := by
    have hl : (Tm.loop c i s u).txt = (byt c :: byt i :: 58 :: (s.txt ++ (62 :: u.txt))) ++ [byt (c + 2)] := by simp [Tm.txt]
    rw [hs, ht, bytes_cut, List.take_of_length_le (Nat.le_refl _), hl]
    congr 1
    rw [List.length_append]
    exact List.drop_left' (by simp)
  rw [e1, e2]
  conv => rhs; rw [ht]
  apply ByteArray.ext
  apply Array.toList_inj.1
  simp [bytesOf, ByteArray.data_append, one_data, Tm.txt]
end
end

open Go.ChangeShapes Go.WideShapes Go.ChangeAt Go.RowKit
open Go.ChangeMaps (open_string shut_string)

theorem drawdepth_any (A : Option Addr) (n c : Nat) (w : World) (h : Byts w A n) (hc : n ≤ c) (hn : n ≤ 9223372036854775807) :
    Calls Try.prog 31 #[.slice A n c] w (TxtP w) := by
  have HO := Lib.hid (open_anyT A n c w h hc hn)
  clear h hc hn
  go_enter Try.func31, Try.ntmps31
  go_wp2_with fail
  refine HO.out.mono ?_
  rintro e w1 ⟨rfl, ⟨n', c', hn', hr, _⟩, hg⟩
  have HS := Lib.hid (some_any w.heap.size n' c' 0 A w1 hr (by omega) hn')
  have HG := Lib.hid hg
  clear hr hg
  go_wp2_with fail
  refine HS.out.mono ?_
  rintro e w2 ⟨s, p', rfl, hs, _, _, _, hg2⟩
  have HG2 := Lib.hid (gr_row5 HG.out hg2 (fun k e => by cases e; exact Nat.le_refl _))
  clear hg2
  go_wp2_with fail
  go_ret
  exact ⟨s, rfl, hs, HG2.out⟩

theorem strs_ownD {w : World} {B : Nat} {sv : Value} {ss : List ByteArray} (h : w.ownsRow B 9 1 sv ss.length (strV ss)) : ∃ A c, sv = .slice A ss.length c ∧ Strs w A ss := by
  obtain ⟨A, m, c, rfl⟩ := own_form h
  obtain rfl := own_len h
  refine ⟨A, c, rfl, fun hl => ?_⟩
  obtain ⟨_, _, hrow⟩ := orow h
  obtain ⟨g, rfl, _, hg, hc⟩ := hrow hl
  refine ⟨g, 0, rfl, hg, fun j s hj => ?_⟩
  rw [Nat.zero_add]
  exact hc j _ (by simp [strV, hj])

/-- The bytes of the free variables of what gives something are a and b. -/
theorem free_ab {T : Tm} (hd : 0 ≤ T.depth env0) : ∀ (i : Nat) (h : i < (frTo T 7).size), (((frTo T 7)[i]'h).toNat : Int) = 97 ∨ (((frTo T 7)[i]'h).toNat : Int) = 98 := by
  intro i h
  have hm : (frTo T 7)[i]'h ∈ ((vars7.take 7).filter fun c => T.free c).map byt := by
    have : (frTo T 7)[i]'h ∈ (frTo T 7).data.toList := by
      show (frTo T 7).data[i]'h ∈ _
      exact Array.getElem_mem_toList _
    simpa [frTo, bytesOf] using this
  obtain ⟨c, hc, he⟩ := List.mem_map.1 hm
  have hf := (List.mem_filter.1 hc).2
  have h0 := T.free_depth env0 c hd hf
  unfold env0 at h0
  rw [← he]
  by_cases h1 : c = 97
  · subst h1; exact .inl rfl
  · by_cases h2 : c = 98
    · subst h2; exact .inr rfl
    · rw [if_neg h1, if_neg h2] at h0; omega
theorem depthA_some {t : ByteArray} {T : Tm} (h : readT t = some T) : depthA t = T.depth env0 := by unfold depthA; rw [h]
theorem freeA_some {t : ByteArray} {T : Tm} (h : readT t = some T) : freeA t = frTo T 7 := by unfold freeA; rw [h]

theorem empty_list : (⟨#[]⟩ : ByteArray).toList.isEmpty = true := by first | kernel_rfl | (unfold ByteArray.toList ByteArray.toList.loop; simp [ByteArray.size])
theorem one_nonempty (c : Int) : (one c).toList.isEmpty = false := by rw [Lib.toList_data, one_data]; rfl
theorem sign_ne {sg : ByteArray} {c d : Int} {x : UInt8} (h : sg = one c) (h0 : 0 ≤ c) (h1 : c ≤ 255) (hc : c ≠ d) (hx : x = byt d) (hd : 0 ≤ d ∧ d ≤ 255) : (sg.toList == [x]) = false := by
  rw [h, Lib.toList_data, one_data, beq_eq_false_iff_ne, hx]
  intro e
  have h5 : byt c = byt d := by simpa using e
  have h2 := byt_back h0 h1
  rw [h5, byt_back hd.1 hd.2] at h2
  exact hc h2.symm
theorem sgn_plain {T : Tm} (ho : T.Ok) (hl : T.isLoop = false) : 0 ≤ T.sgn ∧ T.sgn ≤ 255 ∧ T.sgn ≠ 91 ∧ T.sgn ≠ 123 := by
  cases T with
  | dig c => have := isD_ge ho; simp only [Tm.sgn]; omega
  | var c => have := isV_ge ho; simp only [Tm.sgn]; omega
  | pre c s => have := isP_ge ho.1; simp only [Tm.sgn]; omega
  | two c s u =>
    have := ho.1
    unfold isB at this
    simp only [decide_eq_true_eq] at this
    simp only [Tm.sgn]; omega
  | loop c i s u => cases hl
theorem sign_eq {sg : ByteArray} {c : Int} (h : sg = one c) : (sg.toList == [byt c]) = true := by rw [h, Lib.toList_data, one_data]; simp

set_option maxRecDepth 100000 in
set_option maxHeartbeats 16000000 in
theorem law_ddepth (A : Option Addr) (n c : Nat) (w : World) (hB : Byts w A n) (hc : n ≤ c) (hn : n ≤ 9223372036854775807) :
    Calls Try.prog 6 #[.slice A n c] w fun e w' => e = .returned (.bool true) ∧ w.grownBy w' none := by
  by_cases h1 : 1048576 < n
  · clear hB
    go_enter Try.func6, Try.ntmps6
    go_wp2_with fail
    go_ret
    exact ⟨rfl, gr_refl _ _⟩
  have HD := Lib.hid (drawdepth_any A n c w hB hc hn)
  clear hB hc
  go_enter Try.func6, Try.ntmps6
  go_wp2_with fail
  refine HD.out.mono ?_
  rintro e w1 ⟨t, rfl, ht, hg1⟩
  have HG1 := Lib.hid hg1
  have ht2 : t.size ≤ 1048576 := by omega
  have hbd := depthA_bd t
  obtain ⟨d, hd⟩ : ∃ d, depthA t = d := ⟨_, rfl⟩
  have D1 := Lib.hid (fun w => tdepth_impl t w)
  have D2 := Lib.hid (fun w => tdepth_spec t ht2 w)
  have F1 := Lib.hid (fun w => tfun_impl t ht2 w)
  have F2 := Lib.hid (fun w => tfun_spec t ht2 w)
  have V1 := Lib.hid (fun w => freev_impl t w)
  have G1 := Lib.hid (fun w => tsign_impl t ht2 w)
  have P1 := Lib.hid (fun w => tpts_impl t w)
  unfold tfunA at F1 F2
  rw [hd] at D1 D2 F1 F2 hbd
  have HDD := Lib.hid hd
  have hdd : (d != d) = false := by simp
  clear hg1 HD hd
  go_wp2_with fail
  refine (D1.out _).mono ?_
  rintro e w2 ⟨rfl, hg2⟩
  have HG2 := Lib.hid (HG1.out.trans hg2)
  clear hg2
  go_wp2_with fail
  refine (D2.out _).mono ?_
  rintro e w3 ⟨rfl, hg3⟩
  have HG3 := Lib.hid (HG2.out.trans hg3)
  clear hg3
  have hge : decide (0 ≤ d) = decide (d ≥ 0) := rfl
  by_cases hd0 : d < 0
  · have hdn : decide (0 ≤ d) = false := by simp; omega
    have hdm : d = -1 := by omega
    rw [hdn] at F1 F2
    subst hdm
    go_wp2_with fail
    refine (F1.out _).mono ?_
    rintro e w4 ⟨rfl, hg4⟩
    have HG4 := Lib.hid (HG3.out.trans hg4)
    clear hg4
    go_wp2_with fail
    refine (F1.out _).mono ?_
    rintro e w5 ⟨rfl, hg5⟩
    have HG5 := Lib.hid (HG4.out.trans hg5)
    clear hg5
    go_wp2_with fail
    refine (F2.out _).mono ?_
    rintro e w6 ⟨rfl, hg6⟩
    have HG6 := Lib.hid (HG5.out.trans hg6)
    clear hg6
    go_wp2_with fail
    go_ret
    exact ⟨rfl, HG6.out⟩
  · have hdn : decide (0 ≤ d) = true := by simp; omega
    have hd0' : ¬ d < 0 := hd0
    rw [hdn] at F1 F2
    have hrt : ∃ T, readT t = some T := by
      cases hr : readT t with
      | some T => exact ⟨T, rfl⟩
      | none =>
        have := HDD.out
        unfold depthA at this
        rw [hr] at this
        simp only at this
        omega
    obtain ⟨T, hr⟩ := hrt
    have HR := Lib.hid hr
    have hTd : T.depth env0 = d := by rw [← depthA_some hr]; exact HDD.out
    have HTD := Lib.hid hTd
    have HAB := Lib.hid (free_ab (T := T) (by rw [hTd]; omega))
    rw [freeA_some hr] at V1
    obtain ⟨F, hF⟩ : ∃ F, frTo T 7 = F := ⟨_, rfl⟩
    have HFS : F.size ≤ 7 := by rw [← hF]; exact frTo_size T 7
    rw [hF] at V1 HAB
    clear hF hr hTd
    go_wp2_with fail
    refine (F1.out _).mono ?_
    rintro e w4 ⟨rfl, hg4⟩
    have HG4 := Lib.hid (HG3.out.trans hg4)
    clear hg4
    go_wp2_with fail
    refine (F1.out _).mono ?_
    rintro e w5 ⟨rfl, hg5⟩
    have HG5 := Lib.hid (HG4.out.trans hg5)
    clear hg5
    go_wp2_with fail
    refine (F2.out _).mono ?_
    rintro e w6 ⟨rfl, hg6⟩
    have HG6 := Lib.hid (HG5.out.trans hg6)
    clear hg6
    go_wp2_with fail
    refine (V1.out _).mono ?_
    rintro e w7 ⟨rfl, hg7⟩
    have HG7 := Lib.hid (HG6.out.trans hg7)
    clear hg7
    go_wp2_with fail
    go_loopw [43] (fun i wr => ∃ j : Nat, j ≤ F.size ∧ i = .int .i64 j ∧ Hid (w.grownBy wr none)) (fun i _ => F.size - (intOf i).toNat)
    case atStart => exact ⟨0, Nat.zero_le _, rfl, HG7⟩
    case round =>
      obtain ⟨j, hj, rfl, HGr⟩ := hrel
      by_cases hlt : j < F.size
      · have hab := HAB.out j hlt
        rcases hab with hab | hab
        · go_wp2_with fail
          go_roundw
          case rel => exact ⟨j + 1, by omega, by go_num, HGr⟩
          case measure => simp [intOf]; omega
        · go_wp2_with fail
          go_roundw
          case rel => exact ⟨j + 1, by omega, by go_num, HGr⟩
          case measure => simp [intOf]; omega
      · clear hj
        have hpl := partsA_len t
        have HPS := Lib.hid (parts_some HR.out)
        have hok := (readT_some HR.out).2.2.1
        have hdT : 0 ≤ T.depth env0 := by rw [HTD.out]; omega
        have HKD := Lib.hid (fun k (hk : k ∈ T.kids) => depthA_some (kid_read HR.out hk))
        obtain ⟨PP, hPP⟩ : ∃ P, partsA t = P := ⟨_, rfl⟩
        rw [hPP] at P1 hpl HPS
        obtain ⟨np, hnp⟩ : ∃ k, PP.length = k := ⟨_, rfl⟩
        have HNP := Lib.hid hnp
        have HSGN : Hid (tsignA t = one T.sgn) := Lib.hid (by unfold tsignA; rw [HR.out])
        obtain ⟨sg, hsg⟩ : ∃ s, tsignA t = s := ⟨_, rfl⟩
        rw [hsg] at G1 HSGN
        clear hPP hnp hsg hpl
        go_wp2_with fail
        refine (P1.out _).mono ?_
        rintro e wp ⟨sv, rfl, hgp, hop⟩
        obtain ⟨A2, c2, rfl, hsp⟩ := strs_ownD hop
        rw [HNP.out]
        have HGp := Lib.hid (HGr.out.trans hgp)
        have HSp := Lib.hid hsp
        clear hgp hop hsp
        cases T
        case dig c5 =>
          obtain rfl : np = 0 := by rw [← HNP.out, HPS.out]; rfl
          go_wp2_with fail
          go_ret
          exact ⟨rfl, HGp.out⟩
        case var c5 =>
          obtain rfl : np = 0 := by rw [← HNP.out, HPS.out]; rfl
          go_wp2_with fail
          go_ret
          exact ⟨rfl, HGp.out⟩
        case pre c5 s5 =>
          obtain rfl : np = 1 := by rw [← HNP.out, HPS.out]; rfl
          obtain ⟨x0, hx0⟩ : ∃ x, bytesOf s5.txt = x := ⟨_, rfl⟩
          have hp0 : PP[0]? = some x0 := by rw [← hx0, HPS.out]; rfl
          have hz0 : x0.size ≤ 80 := by
            have h1 := (Tm.kids_ok hok (show s5 ∈ Tm.kids _ by simp [Tm.kids])).2
            have h2 := readT_len HR.out
            have h3 := (readT_some HR.out).1
            rw [← hx0, bytesOf_size]
            omega
          have hq0 : 0 ≤ depthA x0 := by
            rw [← hx0, HKD.out s5 (by simp [Tm.kids])]
            exact dOne_neg hdT
          have HDP : Hid (∀ (j : Nat) z, PP[j]? = some z → 0 ≤ depthA z) := Lib.hid (fun j z hj => by
            rw [HPS.out] at hj hp0
            match j, hj with
            | 0, hj => rw [hp0] at hj; cases hj; exact hq0
            | j + 1, hj => simp [Tm.kids] at hj)
          have HGcur := HGp
          have HScur := HSp
          go_wp2_with fail
          go_loopw [79] (fun i wr => ∃ j : Nat, j ≤ 1 ∧ i = .int .i64 j ∧ Hid (w.grownBy wr none) ∧ Hid (Strs wr A2 PP)) (fun i _ => 1 - (intOf i).toNat)
          case atStart => exact ⟨0, Nat.zero_le _, rfl, HGcur, HScur⟩
          case round =>
            obtain ⟨j, hj, rfl, HGr2, HSr⟩ := hrel
            by_cases hlt : j < 1
            · obtain ⟨z, hz⟩ : ∃ z, PP[j]? = some z := ⟨_, List.getElem?_eq_getElem (by have := HNP.out; omega)⟩
              obtain ⟨b5, off5, rfl, hcell⟩ := HSr.out.at_ hz
              have hdz := HDP.out j z hz
              have Z1 := Lib.hid (fun w => tdepth_impl z w)
              obtain ⟨dz, hdz2⟩ : ∃ x, depthA z = x := ⟨_, rfl⟩
              rw [hdz2] at hdz Z1
              have hdz3 : ¬ dz < 0 := by omega
              clear hz hdz2
              go_wp2_with fail
              refine (Z1.out _).mono ?_
              rintro e wa ⟨rfl, hga⟩
              have HGa := Lib.hid (HGr2.out.trans hga)
              have HSa := Lib.hid (HSr.out.grown hga)
              clear hga hcell
              go_wp2_with fail
              go_roundw
              case rel => exact ⟨j + 1, by omega, by go_num, HGa, HSa⟩
              case measure => simp [intOf]; omega
            · clear hj
              obtain ⟨b5, off5, rfl, hc0⟩ := HSr.out.at_ hp0
              rw [Nat.add_zero] at hc0
              go_wp2_with fail
              refine (tfun_impl x0 (by have := hz0; omega) _).mono ?_
              rintro e wz ⟨rfl, hgz⟩
              have HGz := Lib.hid (HGr2.out.trans hgz)
              have hfx : tfunA x0 = true := by unfold tfunA; simp; omega
              rw [hfx]
              clear hgz
              go_wp2_with fail
              go_ret
              exact ⟨rfl, HGz.out⟩
        case two c5 s5 u5 =>
          obtain rfl : np = 2 := by rw [← HNP.out, HPS.out]; rfl
          obtain ⟨x0, hx0⟩ : ∃ x, bytesOf s5.txt = x := ⟨_, rfl⟩
          have hp0 : PP[0]? = some x0 := by rw [← hx0, HPS.out]; rfl
          have hz0 : x0.size ≤ 80 := by
            have h1 := (Tm.kids_ok hok (show s5 ∈ Tm.kids _ by simp [Tm.kids])).2
            have h2 := readT_len HR.out
            have h3 := (readT_some HR.out).1
            rw [← hx0, bytesOf_size]
            omega
          have hq0 : 0 ≤ depthA x0 := by
            rw [← hx0, HKD.out s5 (by simp [Tm.kids])]
            exact (dTwo_neg hdT).1
          obtain ⟨x1, hx1⟩ : ∃ x, bytesOf u5.txt = x := ⟨_, rfl⟩
          have hp1 : PP[1]? = some x1 := by rw [← hx1, HPS.out]; rfl
          have hz1 : x1.size ≤ 80 := by
            have h1 := (Tm.kids_ok hok (show u5 ∈ Tm.kids _ by simp [Tm.kids])).2
            have h2 := readT_len HR.out
            have h3 := (readT_some HR.out).1
            rw [← hx1, bytesOf_size]
            omega
          have hq1 : 0 ≤ depthA x1 := by
            rw [← hx1, HKD.out u5 (by simp [Tm.kids])]
            exact (dTwo_neg hdT).2
          have HDP : Hid (∀ (j : Nat) z, PP[j]? = some z → 0 ≤ depthA z) := Lib.hid (fun j z hj => by
            rw [HPS.out] at hj hp0 hp1
            match j, hj with
            | 0, hj => rw [hp0] at hj; cases hj; exact hq0
            | 1, hj => rw [hp1] at hj; cases hj; exact hq1
            | j + 2, hj => simp [Tm.kids] at hj)
          obtain ⟨hn0, hn1, hn91, hn123⟩ := sgn_plain hok rfl
          have e91 : (sg.toList == [91]) = false := sign_ne HSGN.out hn0 hn1 hn91 rfl (by omega)
          have e123 : (sg.toList == [123]) = false := sign_ne HSGN.out hn0 hn1 hn123 rfl (by omega)
          clear hn0 hn1 hn91 hn123
          go_wp2_with fail
          refine (G1.out _).mono ?_
          rintro e wg ⟨rfl, hgg⟩
          have HGg := Lib.hid (HGp.out.trans hgg)
          have HSg := Lib.hid (HSp.out.grown hgg)
          clear hgg
          go_wp2_with fail
          refine (G1.out _).mono ?_
          rintro e wh ⟨rfl, hgh⟩
          have HGcur := Lib.hid (HGg.out.trans hgh)
          have HScur := Lib.hid (HSg.out.grown hgh)
          clear hgh
          go_wp2_with fail
          go_loopw [79] (fun i wr => ∃ j : Nat, j ≤ 2 ∧ i = .int .i64 j ∧ Hid (w.grownBy wr none) ∧ Hid (Strs wr A2 PP)) (fun i _ => 2 - (intOf i).toNat)
          case atStart => exact ⟨0, Nat.zero_le _, rfl, HGcur, HScur⟩
          case round =>
            obtain ⟨j, hj, rfl, HGr2, HSr⟩ := hrel
            by_cases hlt : j < 2
            · obtain ⟨z, hz⟩ : ∃ z, PP[j]? = some z := ⟨_, List.getElem?_eq_getElem (by have := HNP.out; omega)⟩
              obtain ⟨b5, off5, rfl, hcell⟩ := HSr.out.at_ hz
              have hdz := HDP.out j z hz
              have Z1 := Lib.hid (fun w => tdepth_impl z w)
              obtain ⟨dz, hdz2⟩ : ∃ x, depthA z = x := ⟨_, rfl⟩
              rw [hdz2] at hdz Z1
              have hdz3 : ¬ dz < 0 := by omega
              clear hz hdz2
              go_wp2_with fail
              refine (Z1.out _).mono ?_
              rintro e wa ⟨rfl, hga⟩
              have HGa := Lib.hid (HGr2.out.trans hga)
              have HSa := Lib.hid (HSr.out.grown hga)
              clear hga hcell
              go_wp2_with fail
              go_roundw
              case rel => exact ⟨j + 1, by omega, by go_num, HGa, HSa⟩
              case measure => simp [intOf]; omega
            · clear hj
              obtain ⟨b5, off5, rfl, hc0⟩ := HSr.out.at_ hp0
              rw [Nat.add_zero] at hc0
              go_wp2_with fail
              refine (tfun_impl x0 (by have := hz0; omega) _).mono ?_
              rintro e wz ⟨rfl, hgz⟩
              have HGz := Lib.hid (HGr2.out.trans hgz)
              have hfx : tfunA x0 = true := by unfold tfunA; simp; omega
              rw [hfx]
              clear hgz
              go_wp2_with fail
              go_ret
              exact ⟨rfl, HGz.out⟩
        case loop c5 i5 s5 u5 =>
          obtain rfl : np = 2 := by rw [← HNP.out, HPS.out]; rfl
          obtain ⟨x0, hx0⟩ : ∃ x, bytesOf s5.txt = x := ⟨_, rfl⟩
          have hp0 : PP[0]? = some x0 := by rw [← hx0, HPS.out]; rfl
          have hz0 : x0.size ≤ 80 := by
            have h1 := (Tm.kids_ok hok (show s5 ∈ Tm.kids _ by simp [Tm.kids])).2
            have h2 := readT_len HR.out
            have h3 := (readT_some HR.out).1
            rw [← hx0, bytesOf_size]
            omega
          have hq0 : 0 ≤ depthA x0 := by
            rw [← hx0, HKD.out s5 (by simp [Tm.kids])]
            simp only [Tm.depth] at hdT
            split at hdT <;> omega
          obtain ⟨x1, hx1⟩ : ∃ x, bytesOf u5.txt = x := ⟨_, rfl⟩
          have hp1 : PP[1]? = some x1 := by rw [← hx1, HPS.out]; rfl
          have hz1 : x1.size ≤ 80 := by
            have h1 := (Tm.kids_ok hok (show u5 ∈ Tm.kids _ by simp [Tm.kids])).2
            have h2 := readT_len HR.out
            have h3 := (readT_some HR.out).1
            rw [← hx1, bytesOf_size]
            omega
          rcases hok.1 with hc91 | hc91
          · have e91 : (sg.toList == [91]) = true := by have h9 := sign_eq (show sg = one 91 by rw [HSGN.out]; simp only [Tm.sgn]; rw [hc91]); exact h9
            go_wp2_with fail
            refine (G1.out _).mono ?_
            rintro e wg ⟨rfl, hgg⟩
            have HGr2 := Lib.hid (HGp.out.trans hgg)
            have HSr := Lib.hid (HSp.out.grown hgg)
            clear hgg
            obtain ⟨b5, off5, rfl, hc0⟩ := HSr.out.at_ hp0
            rw [Nat.add_zero] at hc0
            go_wp2_with fail
            refine (tfun_impl x0 (by have := hz0; omega) _).mono ?_
            rintro e wz ⟨rfl, hgz⟩
            have HGz := Lib.hid (HGr2.out.trans hgz)
            have hfx : tfunA x0 = true := by unfold tfunA; simp; omega
            rw [hfx]
            clear hgz
            go_wp2_with fail
            go_ret
            exact ⟨rfl, HGz.out⟩
          · have e91 : (sg.toList == [91]) = false := sign_ne (show sg = one 123 by rw [HSGN.out]; simp only [Tm.sgn]; rw [hc91]) (by omega) (by omega) (show (123 : Int) ≠ 91 by omega) rfl (by omega)
            have e123 : (sg.toList == [123]) = true := by have h9 := sign_eq (show sg = one 123 by rw [HSGN.out]; simp only [Tm.sgn]; rw [hc91]); exact h9
            go_wp2_with fail
            refine (G1.out _).mono ?_
            rintro e wg ⟨rfl, hgg⟩
            have HGg := Lib.hid (HGp.out.trans hgg)
            have HSg := Lib.hid (HSp.out.grown hgg)
            clear hgg
            go_wp2_with fail
            refine (G1.out _).mono ?_
            rintro e wh ⟨rfl, hgh⟩
            have HGr2 := Lib.hid (HGg.out.trans hgh)
            have HSr := Lib.hid (HSg.out.grown hgh)
            clear hgh
            obtain ⟨b5, off5, rfl, hc0⟩ := HSr.out.at_ hp0
            rw [Nat.add_zero] at hc0
            go_wp2_with fail
            refine (tfun_impl x0 (by have := hz0; omega) _).mono ?_
            rintro e wz ⟨rfl, hgz⟩
            have HGz := Lib.hid (HGr2.out.trans hgz)
            have hfx : tfunA x0 = true := by unfold tfunA; simp; omega
            rw [hfx]
            clear hgz
            go_wp2_with fail
            go_ret
            exact ⟨rfl, HGz.out⟩

set_option maxRecDepth 100000 in
theorem ddepth_lifted (os : Os) (started : os.Started) (H : Type) (enc : TypeId × Value → H) :
    ReturnsInHanded {} Try.checked os 6 .any (Rows.fnDepthSpec.pre6 enc Try.prog Try.f6 Rows.fnDepthRow.domain false) (Rows.fnDepthSpec.post enc Try.prog Try.f6 false true false false) := by
  refine returnsInHanded_of_change (C := Try.checked) knob_own started (by kernel_rfl) Try.func6
    (ChangeSpec.witness6 (enc := enc) (C := Try.checked) false ⟨#[], #[.slice none 0 0], []⟩ 8 (by kernel_rfl) (by kernel_rfl) (by kernel_rfl) (by kernel_rfl)) ?_
  intro W base args ds gs before hval0 hW hcnd _
  have hval : ∀ (j : Nat) t v, Try.f6.params[j]? = some t → args[j]? = some v → Value.okWide Try.prog W .any base t v := hval0
  have hW' := hW
  obtain ⟨p, q, hA0, hV, rfl, hfz, hnd⟩ := hW
  have hA : DataW.TrodAll enc Try.prog W 0 (fun _ => true) true Try.f6.params.toList args.toList ds p := hA0
  rw [Try.params6] at hA hval
  obtain ⟨v0, d0, rfl, rfl, h0⟩ := trodAll_one hA
  obtain ⟨rfl, rfl⟩ := trodVars_none hV
  obtain ⟨A, n, c, rfl, a1, a2, a3⟩ := open_bytsT (hval 0 27 v0 rfl rfl) h0
  clear hA0 hval0
  simp only [List.append_nil] at hW'
  have hlt : ∀ x ∈ p, x.block < W.heap.size := fun x hx => by simpa using hW'.lt x hx
  refine (law_ddepth A n c W a3 a1 a2).mono fun e W' ⟨he, hg⟩ => ?_
  subst he
  refine ⟨_, rfl, _, _, _, [], p, [], hW', ?_, ?_, rfl, (below_of hg).frame _, fun h => by cases h⟩
  · exact trodAll_mk1 (shut_bool Try.underlying4 _)
  · exact trodAll_mk1 (Below.trod laid_out_p (by kernel_rfl) (of_decide_eq_true (by kernel_rfl)) h0 (below_of hg) hlt)

theorem ddepth_holds : Rows.FnDepthSaid :=
  OpenClaim.holds_of_wide 6 Try.f6 rfl rfl rfl rfl rfl rfl rfl ⟨rfl, rfl, rfl, rfl, rfl⟩ rfl rfl rfl rfl rfl fddepth_name Try.func6 fddepth_all fddepth_inst fddepth_wrap
    (fun os started H enc _ => (ddepth_lifted os started H enc))

#print axioms ddepth_holds

end Go.Proofs.Ytmofoeljajdhmaa

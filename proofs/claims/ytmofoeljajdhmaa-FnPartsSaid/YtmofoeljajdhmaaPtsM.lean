/- Plain facts on the parts of a term: their sizes and levels make up those of the whole, their texts its text. Nothing of the program. -/
import Derived.Test.YtmofoeljajdhmaaTTerm
import Derived.Test.YtmofoeljajdhmaaSTerm
import Derived.Test.YtmofoeljajdhmaaTLev
import Derived.Test.YtmofoeljajdhmaaSSize
import Derived.Test.YtmofoeljajdhmaaTPts
namespace Go.Proofs.Ytmofoeljajdhmaa
section
open Go.RowKit

def tvalidA (s : ByteArray) : Bool := (readT s).isSome

theorem tvalid_impl (s : ByteArray) (_hs : s.size ≤ 1048576) (w : World) :
    Calls Try.prog 25 #[.string s] w fun e w' => e = .returned (.bool (tvalidA s)) ∧ w.grownBy w' none := by
  have H := Lib.hid (term_any s w)
  obtain ⟨b, hb⟩ : ∃ b, tvalidA s = b := ⟨_, rfl⟩
  rw [hb]
  have HB := Lib.hid hb
  clear hb
  go_enter Try.func25, Try.ntmps25
  go_wp2_with fail
  refine H.out.mono ?_
  intro e w1 hp
  unfold TermPost at hp
  have hb := HB.out
  unfold tvalidA at hb
  cases hr : readT s with
  | none =>
    rw [hr] at hp hb
    obtain rfl : b = false := hb.symm
    obtain ⟨rfl, hg⟩ := hp
    have HG := Lib.hid hg
    clear hg hr hb
    go_wp2_with fail
    go_ret
    exact ⟨rfl, HG.out⟩
  | some t =>
    rw [hr] at hp hb
    obtain rfl : b = true := hb.symm
    obtain ⟨v, rfl, hg, ha⟩ := hp
    obtain ⟨ty, pv, rfl⟩ := ha.iface
    have HG := Lib.hid hg
    clear hg ha hr hb
    go_wp2_with fail
    go_ret
    exact ⟨rfl, HG.out⟩

theorem tvalid_spec (s : ByteArray) (hs : s.size ≤ 1048576) (w : World) :
    Calls Try.prog 26 #[.string s] w fun e w' => e = .returned (.bool (tvalidA s)) ∧ w.grownBy w' none := by
  have H := Lib.hid (sterm_any s hs w)
  obtain ⟨b, hb⟩ : ∃ b, tvalidA s = b := ⟨_, rfl⟩
  rw [hb]
  have HB := Lib.hid hb
  clear hb
  go_enter Try.func26, Try.ntmps26
  go_wp2_with fail
  refine H.out.mono ?_
  intro e w1 hp
  unfold STermPost at hp
  have hb := HB.out
  unfold tvalidA at hb
  cases hr : readT s with
  | none =>
    rw [hr] at hp hb
    obtain rfl : b = false := hb.symm
    obtain ⟨rfl, hg⟩ := hp
    have HG := Lib.hid hg
    clear hg hr hb
    go_wp2_with fail
    go_ret
    exact ⟨rfl, HG.out.trans (World.grownBy_alloc _ _ _)⟩
  | some t =>
    rw [hr] at hp hb
    obtain rfl : b = true := hb.symm
    obtain ⟨a, b, A, k, c, rfl, hg, ha⟩ := hp
    have HG := Lib.hid hg
    clear hg ha hr hb
    go_wp2_with fail
    go_ret
    exact ⟨rfl, HG.out.trans (World.grownBy_alloc _ _ _)⟩
end

section
open Go.RowKit

def tlevA (s : ByteArray) : Int := match readT s with
  | some t => (t.levels : Int)
  | none => -1

theorem tlev_impl (s : ByteArray) (_hs : s.size ≤ 1048576) (w : World) :
    Calls Try.prog 29 #[.string s] w fun e w' => e = .returned (.int .i64 (tlevA s)) ∧ w.grownBy w' none := by
  have H := Lib.hid (term_any s w)
  obtain ⟨b, hb⟩ : ∃ b, tlevA s = b := ⟨_, rfl⟩
  rw [hb]
  have HB := Lib.hid hb
  clear hb
  go_enter Try.func29, Try.ntmps29
  go_wp2_with fail
  refine H.out.mono ?_
  intro e w1 hp
  unfold TermPost at hp
  have hb := HB.out
  unfold tlevA at hb
  cases hr : readT s with
  | none =>
    rw [hr] at hp hb
    obtain rfl : b = -1 := hb.symm
    obtain ⟨rfl, hg⟩ := hp
    have HG := Lib.hid hg
    clear hg hr hb
    go_wp2_with fail
    go_ret
    exact ⟨rfl, HG.out⟩
  | some t =>
    rw [hr] at hp hb
    obtain ⟨v, rfl, hg, ha⟩ := hp
    obtain ⟨ty, pv, rfl⟩ := ha.iface
    have HG := Lib.hid hg
    have HC := Lib.hid (tlevels_any t.size t _ ty pv w1 (Nat.le_refl _) (by have := (readT_some hr).2.2.2; omega) ha)
    simp only [hb] at HC
    clear hg ha hr hb
    go_wp2_with fail
    refine HC.out.mono ?_
    rintro e w2 ⟨rfl, hg2⟩
    have HG2 := Lib.hid hg2
    clear hg2
    go_wp2_with fail
    go_ret
    exact ⟨rfl, HG.out.trans HG2.out⟩

theorem tlev_spec (s : ByteArray) (hs : s.size ≤ 1048576) (w : World) :
    Calls Try.prog 30 #[.string s] w fun e w' => e = .returned (.int .i64 (tlevA s)) ∧ w.grownBy w' none := by
  have H := Lib.hid (sterm_any s hs w)
  obtain ⟨b, hb⟩ : ∃ b, tlevA s = b := ⟨_, rfl⟩
  rw [hb]
  have HB := Lib.hid hb
  clear hb
  go_enter Try.func30, Try.ntmps30
  go_wp2_with fail
  refine H.out.mono ?_
  intro e w1 hp
  unfold STermPost at hp
  have hb := HB.out
  unfold tlevA at hb
  cases hr : readT s with
  | none =>
    rw [hr] at hp hb
    obtain rfl : b = -1 := hb.symm
    obtain ⟨rfl, hg⟩ := hp
    have HG := Lib.hid hg
    clear hg hr hb
    go_wp2_with fail
    go_ret
    exact ⟨rfl, HG.out.trans (World.grownBy_alloc _ _ _)⟩
  | some t =>
    rw [hr] at hp hb
    obtain ⟨a, d, A, k, c, rfl, hg, ha⟩ := hp
    have HX := Lib.hid (c3_new w1 (.int .u8 a) (.int .u8 d) (.slice A k c) 70)
    have x0 := HX.out.c0
    have x1 := HX.out.c1
    have x2 := HX.out.c2
    have HG := Lib.hid (hg.trans (World.grownBy_alloc w1 (.cells #[.int .u8 a, .int .u8 d, .slice A k c] 70) none))
    have HC := Lib.hid (slevels_any t.size t _ a d A k c _ (Nat.le_refl _) (by have := (readT_some hr).2.2.2; omega) (readT_some hr).2.2.1 (ha.grown (World.grownBy_alloc w1 (.cells #[.int .u8 a, .int .u8 d, .slice A k c] 70) none)))
    simp only [hb] at HC
    clear hg ha hr hb
    go_wp2_with fail
    refine HC.out.mono ?_
    rintro e w2 ⟨rfl, hg2⟩
    have HG2 := Lib.hid hg2
    clear hg2
    go_wp2_with fail
    go_ret
    exact ⟨rfl, HG.out.trans HG2.out⟩
end

section
open Go.RowKit

def tsizeA (s : ByteArray) : Int := match readT s with
  | some t => (t.size : Int)
  | none => -1

theorem tsize_impl (s : ByteArray) (_hs : s.size ≤ 1048576) (w : World) :
    Calls Try.prog 27 #[.string s] w fun e w' => e = .returned (.int .i64 (tsizeA s)) ∧ w.grownBy w' none := by
  have H := Lib.hid (term_any s w)
  obtain ⟨b, hb⟩ : ∃ b, tsizeA s = b := ⟨_, rfl⟩
  rw [hb]
  have HB := Lib.hid hb
  clear hb
  go_enter Try.func27, Try.ntmps27
  go_wp2_with fail
  refine H.out.mono ?_
  intro e w1 hp
  unfold TermPost at hp
  have hb := HB.out
  unfold tsizeA at hb
  cases hr : readT s with
  | none =>
    rw [hr] at hp hb
    obtain rfl : b = -1 := hb.symm
    obtain ⟨rfl, hg⟩ := hp
    have HG := Lib.hid hg
    clear hg hr hb
    go_wp2_with fail
    go_ret
    exact ⟨rfl, HG.out⟩
  | some t =>
    rw [hr] at hp hb
    obtain ⟨v, rfl, hg, ha⟩ := hp
    obtain ⟨ty, pv, rfl⟩ := ha.iface
    have HG := Lib.hid hg
    have HC := Lib.hid (tsizeof_any t.size t _ ty pv w1 (Nat.le_refl _) (by have := (readT_some hr).2.2.2; omega) ha)
    simp only [hb] at HC
    clear hg ha hr hb
    go_wp2_with fail
    refine HC.out.mono ?_
    rintro e w2 ⟨rfl, hg2⟩
    have HG2 := Lib.hid hg2
    clear hg2
    go_wp2_with fail
    go_ret
    exact ⟨rfl, HG.out.trans HG2.out⟩

theorem tsize_spec (s : ByteArray) (hs : s.size ≤ 1048576) (w : World) :
    Calls Try.prog 28 #[.string s] w fun e w' => e = .returned (.int .i64 (tsizeA s)) ∧ w.grownBy w' none := by
  have H := Lib.hid (sterm_any s hs w)
  obtain ⟨b, hb⟩ : ∃ b, tsizeA s = b := ⟨_, rfl⟩
  rw [hb]
  have HB := Lib.hid hb
  clear hb
  go_enter Try.func28, Try.ntmps28
  go_wp2_with fail
  refine H.out.mono ?_
  intro e w1 hp
  unfold STermPost at hp
  have hb := HB.out
  unfold tsizeA at hb
  cases hr : readT s with
  | none =>
    rw [hr] at hp hb
    obtain rfl : b = -1 := hb.symm
    obtain ⟨rfl, hg⟩ := hp
    have HG := Lib.hid hg
    clear hg hr hb
    go_wp2_with fail
    go_ret
    exact ⟨rfl, HG.out.trans (World.grownBy_alloc _ _ _)⟩
  | some t =>
    rw [hr] at hp hb
    obtain ⟨a, d, A, k, c, rfl, hg, ha⟩ := hp
    have HX := Lib.hid (c3_new w1 (.int .u8 a) (.int .u8 d) (.slice A k c) 70)
    have x0 := HX.out.c0
    have x1 := HX.out.c1
    have x2 := HX.out.c2
    have HG := Lib.hid (hg.trans (World.grownBy_alloc w1 (.cells #[.int .u8 a, .int .u8 d, .slice A k c] 70) none))
    have HC := Lib.hid (ssizeof_any t.size t _ a d A k c _ (Nat.le_refl _) (by have := (readT_some hr).2.2.2; omega) (ha.grown (World.grownBy_alloc w1 (.cells #[.int .u8 a, .int .u8 d, .slice A k c] 70) none)))
    simp only [hb] at HC
    clear hg ha hr hb
    go_wp2_with fail
    refine HC.out.mono ?_
    rintro e w2 ⟨rfl, hg2⟩
    have HG2 := Lib.hid hg2
    clear hg2
    go_wp2_with fail
    go_ret
    exact ⟨rfl, HG.out.trans HG2.out⟩
end

section
open Go.RowKit

theorem ptext {t : ByteArray} {T : Tm} (h : readT t = some T) : t = bytesOf T.txt := by
  apply ByteArray.ext
  apply Array.toList_inj.1
  rw [readT_txt h]
  rfl
theorem kid_read {t : ByteArray} {T k : Tm} (h : readT t = some T) (hk : k ∈ T.kids) : readT (bytesOf k.txt) = some k := by
  have h4 := readT_some h
  have hkk := Tm.kids_ok h4.2.2.1 hk
  have hl := readT_len h
  exact readT_back hkk.1 rfl (by rw [bytesOf_size]; omega)

/-- The size and the levels after so many parts. -/
def sAt (P : List ByteArray) : Nat → Int
  | 0 => 1
  | j + 1 => sAt P j + tsizeA (P.getD j ⟨#[]⟩)
def vAt (P : List ByteArray) (lb : Bool) : Nat → Int
  | 0 => 0
  | j + 1 => max (vAt P lb j) (tlevA (P.getD j ⟨#[]⟩) + if lb = true ∧ j = 1 then 1 else 0)
theorem tsizeA_bd (s : ByteArray) : -1 ≤ tsizeA s ∧ tsizeA s ≤ 80 := by
  unfold tsizeA
  cases h : readT s with
  | none => exact ⟨by simp only; omega, by simp only; omega⟩
  | some t => have := (readT_some h).2.2.2; exact ⟨by simp only; omega, by simp only; omega⟩
theorem tlevA_bd (s : ByteArray) : -1 ≤ tlevA s ∧ tlevA s ≤ 80 := by
  unfold tlevA
  cases h : readT s with
  | none => exact ⟨by simp only; omega, by simp only; omega⟩
  | some t => have := (readT_some h).2.2.2; have := t.levels_le; exact ⟨by simp only; omega, by simp only; omega⟩
theorem sAt_bd (P : List ByteArray) : ∀ j : Nat, -(j : Int) ≤ sAt P j ∧ sAt P j ≤ 1 + 80 * j
  | 0 => by simp [sAt]
  | j + 1 => by
    have h1 := sAt_bd P j
    have h2 := tsizeA_bd (P.getD j ⟨#[]⟩)
    simp only [sAt]
    omega
theorem vAt_bd (P : List ByteArray) (lb : Bool) : ∀ j : Nat, 0 ≤ vAt P lb j ∧ vAt P lb j ≤ 81
  | 0 => by simp [vAt]
  | j + 1 => by
    have h1 := vAt_bd P lb j
    have h2 := tlevA_bd (P.getD j ⟨#[]⟩)
    simp only [vAt]
    split <;> omega

theorem tsizeA_some {t : ByteArray} {T : Tm} (h : readT t = some T) : tsizeA t = T.size := by unfold tsizeA; rw [h]
theorem tlevA_some {t : ByteArray} {T : Tm} (h : readT t = some T) : tlevA t = T.levels := by unfold tlevA; rw [h]
theorem parts_some {t : ByteArray} {T : Tm} (h : readT t = some T) : partsA t = T.kids.map fun k => bytesOf k.txt := by unfold partsA; rw [h]

theorem sAt_end {t : ByteArray} {T : Tm} (h : readT t = some T) : sAt (partsA t) (partsA t).length = T.size := by
  have hk : ∀ k ∈ T.kids, tsizeA (bytesOf k.txt) = k.size := fun k hk => tsizeA_some (kid_read h hk)
  rw [parts_some h]
  cases T with
  | dig c => rfl
  | var c => rfl
  | pre c s =>
    have h1 := hk s (by simp [Tm.kids])
    simp [Tm.kids, sAt, Tm.size, h1]
  | two c s u =>
    have h1 := hk s (by simp [Tm.kids])
    have h2 := hk u (by simp [Tm.kids])
    simp [Tm.kids, sAt, Tm.size, h1, h2]
  | loop c i s u =>
    have h1 := hk s (by simp [Tm.kids])
    have h2 := hk u (by simp [Tm.kids])
    simp [Tm.kids, sAt, Tm.size, h1, h2]
theorem vAt_end {t : ByteArray} {T : Tm} (h : readT t = some T) : vAt (partsA t) T.isLoop (partsA t).length = T.levels := by
  have hk : ∀ k ∈ T.kids, tlevA (bytesOf k.txt) = k.levels := fun k hk => tlevA_some (kid_read h hk)
  rw [parts_some h]
  cases T with
  | dig c => rfl
  | var c => rfl
  | pre c s =>
    have h1 := hk s (by simp [Tm.kids])
    simp [Tm.kids, vAt, Tm.levels, Tm.isLoop, h1]
  | two c s u =>
    have h1 := hk s (by simp [Tm.kids])
    have h2 := hk u (by simp [Tm.kids])
    simp [Tm.kids, vAt, Tm.levels, Tm.isLoop, h1, h2]
    omega
  | loop c i s u =>
    have h1 := hk s (by simp [Tm.kids])
    have h2 := hk u (by simp [Tm.kids])
    simp [Tm.kids, vAt, Tm.levels, Tm.isLoop, h1, h2]
    omega

theorem bytes_cut (l : List UInt8) (a b : Nat) : (bytesOf l).extract a b = bytesOf ((l.take b).drop a) := by
  apply ByteArray.ext
  apply Array.toList_inj.1
  simp [bytesOf, ByteArray.data_extract, List.drop_take]

/-- The texts of the parts make up the text. -/
theorem text_pre {t : ByteArray} {c : Int} {s : Tm} (h : readT t = some (.pre c s)) : one c ++ bytesOf s.txt = t := by
  rw [ptext h, Tm.txt, bytesOf_cons]
theorem text_two {t : ByteArray} {c : Int} {s u : Tm} (h : readT t = some (.two c s u)) : (⟨#[40]⟩ : ByteArray) ++ bytesOf s.txt ++ one c ++ bytesOf u.txt ++ ⟨#[41]⟩ = t := by
  rw [ptext h]
  apply ByteArray.ext
  apply Array.toList_inj.1
  simp [bytesOf, ByteArray.data_append, one_data, Tm.txt]
theorem text_loop {t : ByteArray} {c i : Int} {s u : Tm} (h : readT t = some (.loop c i s u)) :
    one c ++ t.extract 1 2 ++ ⟨#[58]⟩ ++ bytesOf s.txt ++ ⟨#[62]⟩ ++ bytesOf u.txt ++ t.extract (t.size - 1) t.size = t := by
  have ht := ptext h
  have hs : t.size = (Tm.loop c i s u).txt.length := (readT_len h).symm
  have e1 : t.extract 1 2 = bytesOf [byt i] := by
    rw [ht, bytes_cut]
    rfl
  have e2 : t.extract (t.size - 1) t.size = bytesOf [byt (c + 2)] := by
    have hl : (Tm.loop c i s u).txt = (byt c :: byt i :: 58 :: (s.txt ++ (62 :: u.txt))) ++ [byt (c + 2)] := by simp [Tm.txt]
    rw [hs, ht, bytes_cut, List.take_of_length_le (Nat.le_refl _), hl]
    congr 1
    rw [List.length_append]
    exact List.drop_left' (by simp)
  rw [e1, e2]
  conv => rhs; rw [ht]
  apply ByteArray.ext
  apply Array.toList_inj.1
  simp [bytesOf, ByteArray.data_append, one_data, Tm.txt]
end

end Go.Proofs.Ytmofoeljajdhmaa

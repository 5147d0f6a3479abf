/- The draw of a term with fuel, at the depth 0. -/
import Derived.Test.YtmofoeljajdhmaaDraw
import Derived.Test.YtmofoeljajdhmaaStrs0
import Derived.Test.YtmofoeljajdhmaaOne
namespace Go.Proofs.Ytmofoeljajdhmaa
section
open Go.RowKit

theorem Strs.grownG {w w' : World} {A : Option Addr} {ss : List ByteArray} {row : Option Nat} (h : Strs w A ss) (hg : w.grownBy w' row) (hne : ∀ b off, A = some ⟨b, off, none⟩ → some b ≠ row) : Strs w' A ss := fun hl => by
  obtain ⟨b, off, rfl, hb, hc⟩ := h hl
  exact ⟨b, off, rfl, Nat.lt_of_lt_of_le hb hg.size, fun j s hj => hg.cell (hc j s hj) (hne b off rfl)⟩

/-- How 'of' ends: one of the texts. -/
def OfPost (g : Nat) (A : Option Addr) (n c p : Nat) (ss : List ByteArray) (w : World) (e : Ending) (w' : World) : Prop := ∃ s, e = .returned (.string s) ∧ s ∈ ss ∧ Rd13 w' g A n c (p + 1) ∧ w.grownBy w' (some g)

set_option maxHeartbeats 1000000 in
theorem of_any (g n c p : Nat) (A B : Option Addr) (d : Nat) (ss : List ByteArray) (w : World) (h : Rd13 w g A n c p) (hB : Strs w B ss) (hBg : ∀ b off, B = some ⟨b, off, none⟩ → b ≠ g) (hp : p ≤ 1000000) (hn2 : n ≤ 2000) (hl : 0 < ss.length) (hl2 : ss.length ≤ 1000) :
    Calls Try.prog 93 #[.pointer (some ⟨g, 0, none⟩), .slice B ss.length d] w (OfPost g A n c p ss w) := by
  have HP := Lib.hid (pick_any g n c p A ss.length w h hp hn2 (by omega) (by omega))
  have HB := Lib.hid hB
  have HBG := Lib.hid hBg
  obtain ⟨k, hk⟩ : ∃ k, ss.length = k := ⟨_, rfl⟩
  have HK := Lib.hid hk
  rw [hk] at HP ⊢
  have hk0 : 0 < k := by omega
  clear h hB hBg hk hl hl2
  go_enter Try.func93, Try.ntmps93
  go_wp2_with fail
  refine HP.out.mono ?_
  rintro e w1 ⟨x, rfl, hx0, hx1, hr, hg⟩
  obtain ⟨i, rfl⟩ : ∃ i : Nat, x = (i : Int) := ⟨x.toNat, by omega⟩
  have hik : i < k := by omega
  obtain ⟨b, off, rfl, _, hc⟩ := (HB.out.grownG hg (fun b off e => by have := HBG.out b off e; simpa using this)) (by have := HK.out; omega)
  obtain ⟨z, hz⟩ : ∃ z, ss[i]? = some z := ⟨_, List.getElem?_eq_getElem (by have := HK.out; omega)⟩
  have hcell := hc i z hz
  have HR := Lib.hid hr
  have HG := Lib.hid hg
  have HZ := Lib.hid (List.mem_of_getElem? hz)
  clear hc hz hr hg
  go_wp2_with fail
  go_ret
  exact ⟨z, rfl, HZ.out, HR.out, HG.out⟩

set_option maxHeartbeats 1000000 in
theorem unbind_any (z v : ByteArray) (w : World) (hz : z.size ≤ 1000) :
    Calls Try.prog 189 #[.string z, .string v] w fun e w' => ∃ s, e = .returned (.string s) ∧ s.size ≤ z.size ∧ w' = w := by
  obtain ⟨k, hk⟩ : ∃ k, z.size = k := ⟨_, rfl⟩
  have HK := Lib.hid hk
  rw [hk] at hz ⊢
  go_enter Try.func189, Try.ntmps189
  go_wp2_with fail
  go_loopw [5, 9] (fun q i wr => ∃ (j : Nat) (s : ByteArray), j ≤ k ∧ i = .int .i64 j ∧ q = .string s ∧ s.size ≤ j ∧ wr = w) (fun _ i _ => k - (intOf i).toNat)
  case atStart => exact ⟨0, ⟨#[]⟩, Nat.zero_le _, rfl, rfl, Nat.le_refl _, rfl⟩
  case round =>
    obtain ⟨j, s, hj, rfl, rfl, hs, rfl⟩ := hrel
    by_cases hlt : j < k
    · go_wp2_with fail
      · refine ⟨⟨j + 1, s ++ z.extract j (j + 1), by omega, by go_num, rfl, ?_, trivial⟩, by simp [intOf]; omega⟩
        have := HK.out
        simp [ByteArray.size_append, ByteArray.size_extract]
        omega
      · exact ⟨⟨j + 1, s, by omega, by go_num, rfl, by omega, trivial⟩, by simp [intOf]; omega⟩
    · go_wp2_with fail
      go_ret
      exact ⟨s, rfl, by omega, rfl⟩

theorem bind_any (z v : ByteArray) (w : World) (hz : z.size ≤ 1000) (hv : v.size = 1) :
    Calls Try.prog 188 #[.string z, .string v] w fun e w' => ∃ s, e = .returned (.string s) ∧ s.size ≤ z.size + 1 ∧ w' = w := by
  have HU := Lib.hid (fun w => unbind_any z v w hz)
  obtain ⟨k, hk⟩ : ∃ k, z.size = k := ⟨_, rfl⟩
  rw [hk] at HU hz ⊢
  have HV := Lib.hid hv
  clear hv
  go_enter Try.func188, Try.ntmps188
  go_wp2_with fail
  refine (HU.out _).mono ?_
  rintro e w1 ⟨s, rfl, hs, rfl⟩
  have hsz : ¬ 9223372036854775807 < s.size + v.size := by have := HV.out; omega
  go_wp2_with fail
  go_ret
  exact ⟨_, rfl, by rw [ByteArray.size_append, HV.out]; omega, rfl⟩

set_option maxRecDepth 100000 in
set_option maxHeartbeats 1000000 in
theorem dec_any (x : Int) (w : World) (h0 : 0 ≤ x) (h1 : x ≤ 9) :
    Calls Try.prog 187 #[.int .i64 x] w fun e w' => ∃ s, e = .returned (.string s) ∧ s.size = 1 ∧ w.grownBy w' none := by
  have h2 : ¬ x < -9223372036854775807 := by omega
  have h3 : ¬ x < 0 := by omega
  have h4 : ¬ 9 < x := by omega
  have e1 : IntKind.u8.wrap (48 + x) = 48 + x := IntWalk.u8_in _ (by omega)
  have hcv := conv_byte w (48 + x) w.heap.size rfl
  go_enter Try.func187, Try.ntmps187
  go_wp2_with fail
  go_loopw [0, 3] (fun q i wr => q = .int .i64 x ∧ i = .string ⟨#[]⟩ ∧ wr = w) (fun _ _ _ => 0)
  case atStart => exact ⟨rfl, rfl, rfl⟩
  case round =>
    obtain ⟨rfl, rfl, rfl⟩ := hrel
    go_wp2_with fail
    go_ret
    refine ⟨_, rfl, ?_, World.grownBy_alloc _ _ _⟩
    rw [ByteArray.size_append, one_size]
    rfl
end

section
open Go.RowKit

/-- How a draw of a text ends: of at most so many bytes, and so many steps of the source further on. -/
def DrP (g n c p K L : Nat) (A : Option Addr) (w : World) (e : Ending) (w' : World) : Prop := ∃ s p', e = .returned (.string s) ∧ 1 ≤ s.size ∧ s.size ≤ L ∧ p ≤ p' ∧ p' ≤ p + K ∧ Rd13 w' g A n c p' ∧ w.grownBy w' (some g)

theorem gr_someG {w w' : World} {g : Nat} (h : w.grownBy w' none) : w.grownBy w' (some g) := ⟨h.os, h.tape, h.output, h.size, fun k hk _ => h.block k hk (by simp)⟩
theorem gr_selfG (w : World) (g : Nat) : w.grownBy w (some g) := gr_refl _ _
theorem ext_one (z : ByteArray) (k : Nat) (h : k < z.size) : (z.extract k (k + 1)).size = 1 := by simp [ByteArray.size_extract]; omega

set_option maxRecDepth 100000 in
set_option maxHeartbeats 4000000 in
theorem draw_zero0 (g n c p : Nat) (A : Option Addr) (f : Int) (z o : ByteArray) (w : World) (h : Rd13 w g A n c p) (hf : f ≤ 0) (hp : p ≤ 900000) (hn2 : n ≤ 2000) (hz : z.size ≤ 100) :
    Calls Try.prog 145 #[.pointer (some ⟨g, 0, none⟩), .int .i64 0, .int .i64 f, .string z, .string o] w (DrP g n c p 2 1 A w) := by
  have H := Lib.hid h
  obtain ⟨k, hk⟩ : ∃ k, z.size = k := ⟨_, rfl⟩
  have HK := Lib.hid hk
  rw [hk] at hz
  obtain ⟨zb, hzb⟩ : ∃ b, z.toList.isEmpty = b := ⟨_, rfl⟩
  clear h
  cases zb
  · have hk0 : 0 < k := by
      rcases Nat.eq_zero_or_pos k with h0 | h0
      · exfalso
        have : z = ⟨#[]⟩ := ByteArray.ext (Array.eq_empty_of_size_eq_zero (by have := HK.out; rw [h0] at this; exact this))
        rw [this] at hzb
        have h9 : (⟨#[]⟩ : ByteArray).toList.isEmpty = true := by first | kernel_rfl | (unfold ByteArray.toList ByteArray.toList.loop; simp [ByteArray.size])
        rw [h9] at hzb
        cases hzb
      · exact h0
    have H3 := Lib.hid (pick_any g n c p A 3 w H.out (by omega) hn2 (by omega) (by omega))
    go_enter Try.func145, Try.ntmps145
    go_wp2_with fail
    refine H3.out.mono ?_
    rintro e w1 ⟨x, rfl, hx0, hx1, hr1, hg1⟩
    have HR1 := Lib.hid hr1
    have HG1 := Lib.hid hg1
    clear hr1 hg1
    by_cases hx : 0 < x
    · have HK1 := Lib.hid (pick_any g n c (p + 1) A k w1 HR1.out (by omega) hn2 (by omega) (by omega))
      go_wp2_with fail
      refine HK1.out.mono ?_
      rintro e w2 ⟨y, rfl, hy0, hy1, hr2, hg2⟩
      obtain ⟨i, rfl⟩ : ∃ i : Nat, y = (i : Int) := ⟨y.toNat, by omega⟩
      have hik : i < k := by omega
      have HR2 := Lib.hid hr2
      have HG2 := Lib.hid (HG1.out.trans hg2)
      have HS := Lib.hid (ext_one z i (by have := HK.out; omega))
      clear hr2 hg2
      go_wp2_with fail
      go_ret
      exact ⟨_, p + 2, rfl, by rw [HS.out]; omega, by rw [HS.out]; omega, by omega, by omega, HR2.out, HG2.out⟩
    · have H5 := Lib.hid (pick_any g n c (p + 1) A 5 w1 HR1.out (by omega) hn2 (by omega) (by omega))
      go_wp2_with fail
      refine H5.out.mono ?_
      rintro e w2 ⟨y, rfl, hy0, hy1, hr2, hg2⟩
      have HR2 := Lib.hid hr2
      have HG2 := Lib.hid (HG1.out.trans hg2)
      clear hr2 hg2
      go_wp2_with fail
      refine (dec_any y w2 (by omega) (by omega)).mono ?_
      rintro e w3 ⟨s, rfl, hs, hg3⟩
      have HG3 := Lib.hid hg3
      clear hg3
      go_wp2_with fail
      go_ret
      exact ⟨s, p + 2, rfl, by omega, by omega, by omega, by omega, HR2.out.grown HG3.out (by simp) (by simp), HG2.out.trans (gr_someG HG3.out)⟩
  · have H5 := Lib.hid (pick_any g n c p A 5 w H.out (by omega) hn2 (by omega) (by omega))
    go_enter Try.func145, Try.ntmps145
    go_wp2_with fail
    refine H5.out.mono ?_
    rintro e w1 ⟨x, rfl, hx0, hx1, hr1, hg1⟩
    have HR1 := Lib.hid hr1
    have HG1 := Lib.hid hg1
    clear hr1 hg1
    go_wp2_with fail
    refine (dec_any x w1 (by omega) (by omega)).mono ?_
    rintro e w2 ⟨s, rfl, hs, hg2⟩
    have HG2 := Lib.hid hg2
    clear hg2
    go_wp2_with fail
    go_ret
    exact ⟨s, p + 1, rfl, by omega, by omega, by omega, by omega, HR1.out.grown HG2.out (by simp) (by simp), HG1.out.trans (gr_someG HG2.out)⟩

set_option maxRecDepth 100000 in
set_option maxHeartbeats 4000000 in
theorem draw_zero1 (g n c p : Nat) (A : Option Addr) (f : Int) (z o : ByteArray) (w : World) (h : Rd13 w g A n c p) (hf : f ≤ 0) (hp : p ≤ 900000) (hn2 : n ≤ 2000) (hz : o.size ≤ 100) :
    Calls Try.prog 145 #[.pointer (some ⟨g, 0, none⟩), .int .i64 1, .int .i64 f, .string z, .string o] w (DrP g n c p 2 1 A w) := by
  have H := Lib.hid h
  obtain ⟨k, hk⟩ : ∃ k, o.size = k := ⟨_, rfl⟩
  have HK := Lib.hid hk
  rw [hk] at hz
  obtain ⟨zb, hzb⟩ : ∃ b, o.toList.isEmpty = b := ⟨_, rfl⟩
  clear h
  cases zb
  · have hk0 : 0 < k := by
      rcases Nat.eq_zero_or_pos k with h0 | h0
      · exfalso
        have : o = ⟨#[]⟩ := ByteArray.ext (Array.eq_empty_of_size_eq_zero (by have := HK.out; rw [h0] at this; exact this))
        rw [this] at hzb
        have h9 : (⟨#[]⟩ : ByteArray).toList.isEmpty = true := by first | kernel_rfl | (unfold ByteArray.toList ByteArray.toList.loop; simp [ByteArray.size])
        rw [h9] at hzb
        cases hzb
      · exact h0
    have H3 := Lib.hid (pick_any g n c p A 2 w H.out (by omega) hn2 (by omega) (by omega))
    go_enter Try.func145, Try.ntmps145
    go_wp2_with fail
    refine H3.out.mono ?_
    rintro e w1 ⟨x, rfl, hx0, hx1, hr1, hg1⟩
    have HR1 := Lib.hid hr1
    have HG1 := Lib.hid hg1
    clear hr1 hg1
    obtain ⟨xb, hxb⟩ : ∃ b, (x == 0) = b := ⟨_, rfl⟩
    cases xb
    · go_wp2_with fail
      go_ret
      exact ⟨_, p + 1, rfl, Nat.le_refl _, Nat.le_refl _, by omega, by omega, HR1.out, HG1.out⟩
    · have HK1 := Lib.hid (pick_any g n c (p + 1) A k w1 HR1.out (by omega) hn2 (by omega) (by omega))
      go_wp2_with fail
      refine HK1.out.mono ?_
      rintro e w2 ⟨y, rfl, hy0, hy1, hr2, hg2⟩
      obtain ⟨i, rfl⟩ : ∃ i : Nat, y = (i : Int) := ⟨y.toNat, by omega⟩
      have hik : i < k := by omega
      have HR2 := Lib.hid hr2
      have HG2 := Lib.hid (HG1.out.trans hg2)
      have HS := Lib.hid (ext_one o i (by have := HK.out; omega))
      clear hr2 hg2
      go_wp2_with fail
      go_ret
      exact ⟨_, p + 2, rfl, by rw [HS.out]; omega, by rw [HS.out]; omega, by omega, by omega, HR2.out, HG2.out⟩
  · go_enter Try.func145, Try.ntmps145
    go_wp2_with fail
    go_ret
    exact ⟨_, p, rfl, Nat.le_refl _, Nat.le_refl _, by omega, by omega, H.out, gr_selfG _ _⟩

set_option maxRecDepth 100000 in
set_option maxHeartbeats 4000000 in
theorem draw_zero2 (g n c p : Nat) (A : Option Addr) (f : Int) (z o : ByteArray) (w : World) (h : Rd13 w g A n c p) (hf : f ≤ 0) :
    Calls Try.prog 145 #[.pointer (some ⟨g, 0, none⟩), .int .i64 2, .int .i64 f, .string z, .string o] w (DrP g n c p 2 1 A w) := by
  have H := Lib.hid h
  clear h
  go_enter Try.func145, Try.ntmps145
  go_wp2_with fail
  go_ret
  exact ⟨_, p, rfl, Nat.le_refl _, Nat.le_refl _, by omega, by omega, H.out, gr_selfG _ _⟩

theorem draw_zero (g n c p : Nat) (A : Option Addr) (d f : Int) (z o : ByteArray) (w : World) (h : Rd13 w g A n c p) (hd : d = 0 ∨ d = 1 ∨ d = 2) (hf : f ≤ 0) (hp : p ≤ 900000) (hn2 : n ≤ 2000) (hz : z.size ≤ 100) (ho : o.size ≤ 100) :
    Calls Try.prog 145 #[.pointer (some ⟨g, 0, none⟩), .int .i64 d, .int .i64 f, .string z, .string o] w (DrP g n c p 2 1 A w) := by
  rcases hd with rfl | rfl | rfl
  · exact draw_zero0 g n c p A f z o w h hf hp hn2 hz
  · exact draw_zero1 g n c p A f z o w h hf hp hn2 ho
  · exact draw_zero2 g n c p A f z o w h hf
end

section
open Go.RowKit

/-- What a draw with less fuel does. -/
def DrH (m K L : Nat) (g n c : Nat) (A : Option Addr) : Prop := ∀ (d f : Int) (z o : ByteArray) (p : Nat) (w : World), (d = 0 ∨ d = 1 ∨ d = 2) → f ≤ m → z.size + m ≤ 50 → o.size + m ≤ 50 → p + K ≤ 800000 → Rd13 w g A n c p →
  Calls Try.prog 145 #[.pointer (some ⟨g, 0, none⟩), .int .i64 d, .int .i64 f, .string z, .string o] w (DrP g n c p K L A w)

theorem DrP.wide {g n c p p0 K L K' L' : Nat} {A : Option Addr} {w w0 : World} {e : Ending} {w' : World} (h : DrP g n c p K L A w e w') (h1 : p0 ≤ p) (h2 : p + K ≤ p0 + K') (h3 : L ≤ L') (hg : w0.grownBy w (some g)) : DrP g n c p0 K' L' A w0 e w' := by
  obtain ⟨s, p', he, a1, a2, a3, a4, hr, hgg⟩ := h
  exact ⟨s, p', he, a1, by omega, by omega, by omega, hr, hg.trans hgg⟩

theorem name_at (f : Int) (z o : Nat) (h0 : 0 < f) (h1 : f ≤ 60) (h2 : z ≤ 60) (h3 : o ≤ 60) : ∃ i : Nat, i < 5 ∧ (f + z + 2 * o).tmod 5 = (i : Int) := by
  refine ⟨((f + z + 2 * o) % 5).toNat, by omega, ?_⟩
  rw [Int.tmod_eq_emod_of_nonneg (by omega)]
  omega

theorem strs_new (w : World) (ss : List ByteArray) (ty : TypeId) : Strs (w.alloc (.cells (List.toArray (List.map Value.string ss)) ty)) (some ⟨w.heap.size, 0, none⟩) ss := fun _ =>
  ⟨_, _, rfl, by simp, fun j s hj => by
    have h1 := heap_alloc_new w (.cells (List.toArray (List.map Value.string ss)) ty)
    simp only [World.cell?, h1]
    simp [hj]⟩

set_option maxRecDepth 100000 in
set_option maxHeartbeats 16000000 in
theorem draw_up0 (m K L g n c p : Nat) (A : Option Addr) (f : Int) (z o : ByteArray) (w : World) (hI : DrH m K L g n c A) (h : Rd13 w g A n c p) (hf : 0 < f) (hfm : f ≤ m + 1) (hm : m ≤ 20) (hL : L ≤ 100000) (hK : K ≤ 100000) (hp : p + (2 * K + 2) ≤ 800000) (hn2 : n ≤ 2000)
    (hz : z.size + m < 50) (ho : o.size + m < 50) :
    Calls Try.prog 145 #[.pointer (some ⟨g, 0, none⟩), .int .i64 0, .int .i64 f, .string z, .string o] w (DrP g n c p (2 * K + 2) (2 * L + 5) A w) := by
  have H := Lib.hid h
  have HI := Lib.hid hI
  obtain ⟨i, hi5, hi⟩ := name_at f z.size o.size hf (by omega) (by omega) (by omega)
  obtain ⟨zs, hzs⟩ : ∃ k, z.size = k := ⟨_, rfl⟩
  obtain ⟨os, hos⟩ : ∃ k, o.size = k := ⟨_, rfl⟩
  have HZ := Lib.hid hzs
  have HO := Lib.hid hos
  rw [hzs, hos] at hi
  rw [hzs] at hz
  rw [hos] at ho
  have hf2 : ¬ f ≤ 0 := by omega
  have hi6 : ¬ ((i : Int) < 0) := by omega
  have hnm : ((⟨#[118, 119, 120, 121, 122]⟩ : ByteArray).extract i (i + 1)).size = 1 := by rw [ext_one]; show i < 5; exact hi5
  have H7 := Lib.hid (pick_any g n c p A 7 w H.out (by omega) hn2 (by omega) (by omega))
  clear h hI
  go_enter Try.func145, Try.ntmps145
  go_wp2_with fail
  refine H7.out.mono ?_
  rintro e w1 ⟨x, rfl, hx0, hx1, hr1, hg1⟩
  have HR1 := Lib.hid hr1
  have HG1 := Lib.hid hg1
  clear hr1 hg1
  by_cases h0 : x = 0
  · subst h0
    go_wp2_with fail
    refine (HI.out 1 (f - 1) z o (p + 1) w1 (by omega) (by omega) (by have := HZ.out; omega) (by have := HO.out; omega) (by omega) HR1.out).mono ?_
    rintro e w2 ⟨s2, p2, rfl, hs2, ht2, hp2, hq2, hr2, hg2⟩
    have HR2 := Lib.hid hr2
    have HG2 := Lib.hid (HG1.out.trans hg2)
    clear hr2 hg2
    go_wp2_with fail
    have c0 : (⟨#[83]⟩ : ByteArray).size = 1 := rfl
    go_ret
    exact ⟨_, p2, rfl, by (simp only [ByteArray.size_append]; omega), by (simp only [ByteArray.size_append]; omega), by omega, by omega, HR2.out, HG2.out⟩
  by_cases h1 : x = 1
  · subst h1
    go_wp2_with fail
    have HRA := Lib.hid (HR1.out.grown (World.grownBy_alloc w1 (.cells (List.toArray (List.map Value.string [⟨#[77]⟩, ⟨#[78]⟩])) 9) none) (by simp) (by simp))
    refine (of_any g n c (p + 1) A _ 2 [⟨#[77]⟩, ⟨#[78]⟩] _ HRA.out (strs_new w1 [⟨#[77]⟩, ⟨#[78]⟩] _) (fun b off e => by cases e; have := HR1.out.lt; omega) (by omega) hn2 (by simp) (by simp)).mono ?_
    rintro e w2 ⟨s2, rfl, hm2, hr2, hg2⟩
    have hs2 : s2.size = 1 := by
      simp only [List.mem_cons, List.not_mem_nil, or_false] at hm2
      rcases hm2 with rfl | rfl <;> rfl
    have HR2 := Lib.hid hr2
    have HG2 := Lib.hid (HG1.out.trans ((gr_someG (World.grownBy_alloc w1 _ none)).trans hg2))
    clear hr2 hg2 hm2 HRA
    obtain ⟨p2, hp2⟩ : ∃ q, (p + 1) + 1 = q := ⟨_, rfl⟩
    rw [hp2] at HR2
    go_wp2_with fail
    refine (HI.out 1 (f - 1) z o p2 w2 (by omega) (by omega) (by have := HZ.out; omega) (by have := HO.out; omega) (by omega) HR2.out).mono ?_
    rintro e w3 ⟨s3, p3, rfl, hs3, ht3, hp3, hq3, hr3, hg3⟩
    have HR3 := Lib.hid hr3
    have HG3 := Lib.hid (HG2.out.trans hg3)
    clear hr3 hg3
    go_wp2_with fail
    go_ret
    exact ⟨_, p3, rfl, by (simp only [ByteArray.size_append]; omega), by (simp only [ByteArray.size_append]; omega), by omega, by omega, HR3.out, HG3.out⟩
  by_cases h2 : x = 2
  · subst h2
    go_wp2_with fail
    refine (HI.out 1 (f - 2) z o (p + 1) w1 (by omega) (by omega) (by have := HZ.out; omega) (by have := HO.out; omega) (by omega) HR1.out).mono ?_
    rintro e w2 ⟨s2, p2, rfl, hs2, ht2, hp2, hq2, hr2, hg2⟩
    have HR2 := Lib.hid hr2
    have HG2 := Lib.hid (HG1.out.trans hg2)
    clear hr2 hg2
    go_wp2_with fail
    refine (HI.out 0 (f - 2) z o p2 w2 (by omega) (by omega) (by have := HZ.out; omega) (by have := HO.out; omega) (by omega) HR2.out).mono ?_
    rintro e w3 ⟨s3, p3, rfl, hs3, ht3, hp3, hq3, hr3, hg3⟩
    have HR3 := Lib.hid hr3
    have HG3 := Lib.hid (HG2.out.trans hg3)
    clear hr3 hg3
    go_wp2_with fail
    have c0 : (⟨#[40]⟩ : ByteArray).size = 1 := rfl
    have c1 : (⟨#[41]⟩ : ByteArray).size = 1 := rfl
    have c2 : (⟨#[64]⟩ : ByteArray).size = 1 := rfl
    go_ret
    exact ⟨_, p3, rfl, by (simp only [ByteArray.size_append]; omega), by (simp only [ByteArray.size_append]; omega), by omega, by omega, HR3.out, HG3.out⟩
  by_cases h3 : x = 3
  · subst h3
    go_wp2_with fail
    refine (HI.out 0 0 z o (p + 1) w1 (by omega) (by omega) (by have := HZ.out; omega) (by have := HO.out; omega) (by omega) HR1.out).mono ?_
    rintro e w2 ⟨s2, p2, rfl, hs2, ht2, hp2, hq2, hr2, hg2⟩
    have HR2 := Lib.hid hr2
    have HG2 := Lib.hid (HG1.out.trans hg2)
    clear hr2 hg2
    go_wp2_with fail
    go_ret
    exact ⟨_, p2, rfl, by omega, by omega, by omega, by omega, HR2.out, HG2.out⟩
  have k0 : (x == 0) = false := by rw [beq_eq_false_iff_ne]; exact h0
  have k1 : (x == 1) = false := by rw [beq_eq_false_iff_ne]; exact h1
  have k2 : (x == 2) = false := by rw [beq_eq_false_iff_ne]; exact h2
  have k3 : (x == 3) = false := by rw [beq_eq_false_iff_ne]; exact h3
  go_wp2_with fail
  refine (HI.out 0 (f - 2) z o (p + 1) w1 (by omega) (by omega) (by have := HZ.out; omega) (by have := HO.out; omega) (by omega) HR1.out).mono ?_
  rintro e w2 ⟨s2, p2, rfl, hs2, ht2, hp2, hq2, hr2, hg2⟩
  have HR2 := Lib.hid hr2
  have HG2 := Lib.hid (HG1.out.trans hg2)
  clear hr2 hg2
  go_wp2_with fail
  have HRA := Lib.hid (HR2.out.grown (World.grownBy_alloc w2 (.cells (List.toArray (List.map Value.string [⟨#[43]⟩, ⟨#[42]⟩, ⟨#[94]⟩, ⟨#[45]⟩, ⟨#[61]⟩, ⟨#[60]⟩])) 9) none) (by simp) (by simp))
  refine (of_any g n c p2 A _ 6 [⟨#[43]⟩, ⟨#[42]⟩, ⟨#[94]⟩, ⟨#[45]⟩, ⟨#[61]⟩, ⟨#[60]⟩] _ HRA.out (strs_new w2 [⟨#[43]⟩, ⟨#[42]⟩, ⟨#[94]⟩, ⟨#[45]⟩, ⟨#[61]⟩, ⟨#[60]⟩] _) (fun b off e => by cases e; have := HR2.out.lt; omega) (by omega) hn2 (by simp) (by simp)).mono ?_
  rintro e w3 ⟨s3, rfl, hm3, hr3, hg3⟩
  have hs3 : s3.size = 1 := by
    simp only [List.mem_cons, List.not_mem_nil, or_false] at hm3
    rcases hm3 with rfl | rfl | rfl | rfl | rfl | rfl <;> rfl
  have HR3 := Lib.hid hr3
  have HG3 := Lib.hid (HG2.out.trans ((gr_someG (World.grownBy_alloc w2 _ none)).trans hg3))
  clear hr3 hg3 hm3 HRA
  obtain ⟨p3, hp3⟩ : ∃ q, p2 + 1 = q := ⟨_, rfl⟩
  rw [hp3] at HR3
  go_wp2_with fail
  refine (HI.out 0 (f - 2) z o p3 w3 (by omega) (by omega) (by have := HZ.out; omega) (by have := HO.out; omega) (by omega) HR3.out).mono ?_
  rintro e w4 ⟨s4, p4, rfl, hs4, ht4, hp4, hq4, hr4, hg4⟩
  have HR4 := Lib.hid hr4
  have HG4 := Lib.hid (HG3.out.trans hg4)
  clear hr4 hg4
  go_wp2_with fail
  have c0 : (⟨#[40]⟩ : ByteArray).size = 1 := rfl
  have c1 : (⟨#[41]⟩ : ByteArray).size = 1 := rfl
  go_ret
  exact ⟨_, p4, rfl, by (simp only [ByteArray.size_append]; omega), by (simp only [ByteArray.size_append]; omega), by omega, by omega, HR4.out, HG4.out⟩
end

end Go.Proofs.Ytmofoeljajdhmaa

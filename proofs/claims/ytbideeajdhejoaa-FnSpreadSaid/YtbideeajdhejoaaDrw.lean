/- What the random source of the model does: pick, num. -/
import Derived.Test.YtbideeajdhejoaaIntC
namespace Go.Proofs.Ytbideeajdhejoaa
open Go.RowKit

/-- Bytes that lie in memory. -/
def Byts (w : World) (A : Option Addr) (n : Nat) : Prop := 0 < n → ∃ b off, A = some ⟨b, off, none⟩ ∧ b < w.heap.size ∧ ∀ k, k < n → ∃ x : Int, w.cell? ⟨b, off + k, none⟩ = some (.int .u8 x) ∧ 0 ≤ x ∧ x ≤ 255
theorem Byts.grown {w w' : World} {A : Option Addr} {n : Nat} {row : Option Nat} (h : Byts w A n) (hg : w.grownBy w' row) (hne : 0 < n → ∀ b off, A = some ⟨b, off, none⟩ → some b ≠ row) : Byts w' A n := fun hl => by
  obtain ⟨b, off, rfl, hb, hc⟩ := h hl
  exact ⟨b, off, rfl, Nat.lt_of_lt_of_le hb hg.size, fun k hk => by
    obtain ⟨x, h1, h2⟩ := hc k hk
    exact ⟨x, hg.cell h1 (hne hl b off rfl), h2⟩⟩
/-- The random source at block g: its bytes and its place. -/
structure Rd13 (w : World) (g : Nat) (A : Option Addr) (n c p : Nat) : Prop where
  box : Pr w g 128 (.slice A n c) (.int .i64 (p : Int))
  bytes : Byts w A n
  apart : 0 < n → ∀ b off, A = some ⟨b, off, none⟩ → b ≠ g
theorem Rd13.grown {w w' : World} {g n c p : Nat} {A : Option Addr} {row : Option Nat} (h : Rd13 w g A n c p) (hg : w.grownBy w' row) (hne : some g ≠ row) (hne2 : 0 < n → ∀ b off, A = some ⟨b, off, none⟩ → some b ≠ row) : Rd13 w' g A n c p :=
  ⟨h.box.grown hg hne, h.bytes.grown hg hne2, h.apart⟩
theorem Rd13.lt {w : World} {g n c p : Nat} {A : Option Addr} (h : Rd13 w g A n c p) : g < w.heap.size := h.box.lt

theorem xor_pos (y : Int) (h0 : 0 ≤ y) (h1 : y ≤ 1000000000) : 0 ≤ bits BinOp.xor IntKind.i64 y (y / 64) := by
  obtain ⟨a, rfl⟩ : ∃ a : Nat, y = (a : Int) := ⟨y.toNat, by omega⟩
  obtain ⟨b, hb⟩ : ∃ b : Nat, (a : Int) / 64 = (b : Int) := ⟨((a : Int) / 64).toNat, by omega⟩
  rw [hb]
  have hx : a ^^^ b < 2 ^ 62 := Nat.xor_lt_two_pow (by omega) (by omega)
  have h1 : (BitVec.ofInt 64 (a : Int)).toNat = a := by
    rw [BitVec.ofInt_natCast, BitVec.toNat_ofNat]; exact Nat.mod_eq_of_lt (by omega)
  have h2 : (BitVec.ofInt 64 (b : Int)).toNat = b := by
    rw [BitVec.ofInt_natCast, BitVec.toNat_ofNat]; exact Nat.mod_eq_of_lt (by omega)
  show 0 ≤ IntKind.i64.wrap ((BitVec.ofInt 64 (a : Int) ^^^ BitVec.ofInt 64 (b : Int)).toNat : Int)
  rw [BitVec.toNat_xor, h1, h2, IntWalk.i64_in _ (by omega)]
  omega

/-- How pick ends. -/
def PickPost (g : Nat) (A : Option Addr) (n c p : Nat) (m : Int) (w : World) (e : Ending) (w' : World) : Prop := ∃ x : Int, e = .returned (.int .i64 x) ∧ 0 ≤ x ∧ x < m ∧ Rd13 w' g A n c (p + 1) ∧ w.grownBy w' (some g)

theorem pick_mem {w : World} {g n c p k : Nat} {A : Option Addr} {m x : Int} (h : Rd13 w g A n c p) (h0 : 0 ≤ x) (h1 : x < m) (e : Ending) (he : e = .returned (.int .i64 x)) :
    PickPost g A n c p m w e ((w.setCell ⟨g, 1, none⟩ (.int .i64 ((p : Int) + 1))).drewN k) := by
  have hg : w.grownBy ((w.setCell ⟨g, 1, none⟩ (.int .i64 ((p : Int) + 1))).drewN k) (some g) := (gr_set w g 1 _).trans (gr_drewN _ _ _)
  refine ⟨x, he, h0, h1, ⟨?_, h.bytes.grown hg (fun hn b off e => by simpa using h.apart hn b off e), h.apart⟩, hg⟩
  have := h.box.set1 (.int .i64 ((p : Int) + 1))
  exact this

set_option maxHeartbeats 1000000 in
theorem pick_zero (g c p : Nat) (A : Option Addr) (m : Int) (w : World) (h : Rd13 w g A 0 c p) (hp : p ≤ 1000000) (hm : 1 ≤ m) (hm2 : m ≤ 1000000) :
    Calls Try.prog 89 #[.pointer (some ⟨g, 0, none⟩), .int .i64 m] w (PickPost g A 0 c p m w) := by
  have H := Lib.hid h
  have c0 := h.box.c0
  have c1 := h.box.c1
  have f1 := h.box.f 1
  have hm3 : ¬ m < 1 := by omega
  clear h
  go_enter Try.func89, Try.ntmps89
  go_wp2_with fail
  go_ret
  exact pick_mem (k := 0) H.out (by omega) (by omega) _ rfl

set_option maxHeartbeats 1000000 in
theorem pick_in (g n c p : Nat) (A : Option Addr) (m : Int) (w : World) (h : Rd13 w g A n c p) (hn : p < n) (hn2 : n ≤ 2000) (hm : 1 ≤ m) (hm2 : m ≤ 1000000) :
    Calls Try.prog 89 #[.pointer (some ⟨g, 0, none⟩), .int .i64 m] w (PickPost g A n c p m w) := by
  have H := Lib.hid h
  have c0 := h.box.c0
  have c1 := h.box.c1
  have f1 := h.box.f 1
  have hm3 : ¬ m < 1 := by omega
  obtain ⟨b, off, rfl, _, hc⟩ := h.bytes (by omega)
  obtain ⟨x, hx, hx0, hx1⟩ := hc p hn
  have hne : b ≠ g := h.apart (by omega) b off rfl
  have hne2 : g ≠ b := fun e => hne e.symm
  have hn0 : ((n : Int) == 0) = false := by rw [beq_eq_false_iff_ne]; omega
  clear h hc
  go_enter Try.func89, Try.ntmps89
  go_wp2_with fail
  go_ret
  exact pick_mem (k := 0) H.out (Int.emod_nonneg _ (by omega)) (Int.emod_lt_of_pos _ (by omega)) _ rfl

set_option maxRecDepth 100000 in
set_option maxHeartbeats 4000000 in
theorem pick_out (g n c p : Nat) (A : Option Addr) (m : Int) (w : World) (h : Rd13 w g A n c p) (hn0 : 0 < n) (hn : n ≤ p) (hp : p ≤ 1000000) (hn2 : n ≤ 2000) (hm : 1 ≤ m) (hm2 : m ≤ 1000000) :
    Calls Try.prog 89 #[.pointer (some ⟨g, 0, none⟩), .int .i64 m] w (PickPost g A n c p m w) := by
  have H := Lib.hid h
  have c0 := h.box.c0
  have c1 := h.box.c1
  have f1 := h.box.f 1
  have hm3 : ¬ m < 1 := by omega
  obtain ⟨b, off, rfl, _, hc⟩ := h.bytes (by omega)
  have hne : b ≠ g := h.apart (by omega) b off rfl
  have hne2 : g ≠ b := fun e => hne e.symm
  have hn1 : ((n : Int) == 0) = false := by rw [beq_eq_false_iff_ne]; omega
  have hnp : ¬ (p : Int) < (n : Int) := by omega
  clear h
  obtain ⟨k1, hk1⟩ : ∃ k : Nat, p % n = k := ⟨_, rfl⟩
  obtain ⟨k2, hk2⟩ : ∃ k : Nat, (p * 7 + 3) % n = k := ⟨_, rfl⟩
  obtain ⟨q, hq⟩ : ∃ k : Nat, p / n = k := ⟨_, rfl⟩
  have hk1n : k1 < n := by rw [← hk1]; exact Nat.mod_lt _ hn0
  have hk2n : k2 < n := by rw [← hk2]; exact Nat.mod_lt _ hn0
  have hqp : q ≤ 1000000 := by rw [← hq]; exact Nat.le_trans (Nat.div_le_self _ _) hp
  obtain ⟨x1, hx1, h10, h11⟩ := hc k1 hk1n
  obtain ⟨x2, hx2, h20, h21⟩ := hc k2 hk2n
  have t1 : (p : Int).tmod (n : Int) = (k1 : Int) := by rw [← hk1]; rfl
  have t2 : ((p : Int) * 7 + 3).tmod (n : Int) = (k2 : Int) := by rw [← hk2]; rfl
  have t3 : (p : Int).tdiv (n : Int) = (q : Int) := by rw [← hq]; rfl
  have e1 : IntKind.i64.wrap ((p : Int) * 7) = (p : Int) * 7 := IntWalk.i64_in _ (by omega)
  have e2 : IntKind.i64.wrap ((p : Int) * 7 + 3) = (p : Int) * 7 + 3 := IntWalk.i64_in _ (by omega)
  have e3 : IntKind.i64.wrap x1 = x1 := IntWalk.i64_in _ (by omega)
  have e4 : IntKind.i64.wrap x2 = x2 := IntWalk.i64_in _ (by omega)
  have e5 : IntKind.i64.wrap (x1 * 131) = x1 * 131 := IntWalk.i64_in _ (by omega)
  have e6 : IntKind.i64.wrap (x2 * 1117) = x2 * 1117 := IntWalk.i64_in _ (by omega)
  have e7 : IntKind.i64.wrap (x1 * 131 + x2 * 1117) = x1 * 131 + x2 * 1117 := IntWalk.i64_in _ (by omega)
  have e8 : IntKind.i64.wrap ((p : Int) * 29) = (p : Int) * 29 := IntWalk.i64_in _ (by omega)
  have e9 : IntKind.i64.wrap (x1 * 131 + x2 * 1117 + (p : Int) * 29) = x1 * 131 + x2 * 1117 + (p : Int) * 29 := IntWalk.i64_in _ (by omega)
  have e10 : IntKind.i64.wrap ((q : Int) * 53) = (q : Int) * 53 := IntWalk.i64_in _ (by omega)
  have e11 : IntKind.i64.wrap (x1 * 131 + x2 * 1117 + (p : Int) * 29 + (q : Int) * 53) = x1 * 131 + x2 * 1117 + (p : Int) * 29 + (q : Int) * 53 := IntWalk.i64_in _ (by omega)
  have hn1' : ¬ (n : Int) = 0 := by omega
  clear hc hk1 hk2 hq
  go_enter Try.func89, Try.ntmps89
  go_wp2_with fail
  go_quiet (fail)
  have hb0 : 0 ≤ x1 * 131 + x2 * 1117 + (p : Int) * 29 + (q : Int) * 53 := by omega
  have hb1 : x1 * 131 + x2 * 1117 + (p : Int) * 29 + (q : Int) * 53 ≤ 1000000000 := by omega
  clear t1 t2 t3 e1 e2 e3 e4 e5 e6 e7 e8 e9 e10 e11
  generalize x1 * 131 + x2 * 1117 + (p : Int) * 29 + (q : Int) * 53 = y at hb0 hb1 ⊢
  have hx := xor_pos y hb0 hb1
  go_wp2_with fail
  generalize bits BinOp.xor IntKind.i64 y (y / 64) = v at hx ⊢
  go_ret
  exact pick_mem H.out (Int.emod_nonneg _ (by omega)) (Int.emod_lt_of_pos _ (by omega)) _ rfl

theorem pick_any (g n c p : Nat) (A : Option Addr) (m : Int) (w : World) (h : Rd13 w g A n c p) (hp : p ≤ 1000000) (hn2 : n ≤ 2000) (hm : 1 ≤ m) (hm2 : m ≤ 1000000) :
    Calls Try.prog 89 #[.pointer (some ⟨g, 0, none⟩), .int .i64 m] w (PickPost g A n c p m w) := by
  rcases Nat.eq_zero_or_pos n with rfl | hn
  · exact pick_zero g c p A m w h hp hm hm2
  · rcases Nat.lt_or_ge p n with hpn | hpn
    · exact pick_in g n c p A m w h hpn hn2 hm hm2
    · exact pick_out g n c p A m w h hn hpn hp hn2 hm hm2

end Go.Proofs.Ytbideeajdhejoaa

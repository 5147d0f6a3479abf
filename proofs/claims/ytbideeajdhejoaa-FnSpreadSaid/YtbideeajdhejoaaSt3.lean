/- What l13Open of the model does; the random source with two rows of ints. -/
import Derived.Test.YtbideeajdhejoaaDraw
import Derived.Test.YtbideeajdhejoaaSegS2
import Derived.Maps.AppendAt
import Derived.Deep.WholeRow
namespace Go.Proofs.Ytbideeajdhejoaa
open Go.RowKit

theorem own_succ5 {w : World} {base e n : Nat} {v : Value} {xs : List Value} (h : w.ownsRow base e 1 v (n + 1) xs) : ∃ g c, v = .slice (some ⟨g, 0, none⟩) (n + 1) c := by
  rcases h.2 with ⟨_, hn⟩ | ⟨g, cap, cur, hv, _⟩
  · omega
  · exact ⟨g, cap, hv⟩
theorem gr_ownR {w w1 w2 : World} {row0 row : Option Nat} (h : w.grownBy w1 row0) (h2 : w1.grownBy w2 row) (hr : ∀ k, row = some k → row0 = some k ∨ w.heap.size ≤ k) : w.grownBy w2 row0 :=
  ⟨h2.os.trans h.os, h2.tape.trans h.tape, h2.output.trans h.output, Nat.le_trans h.size h2.size, fun k hk hne => (h2.block k (Nat.lt_of_lt_of_le hk h.size) (fun e => by
    rcases hr k e.symm with h3 | h3
    · exact hne h3.symm
    · omega)).trans (h.block k hk hne)⟩

set_option maxHeartbeats 1000000 in
theorem open_any (A : Option Addr) (n c : Nat) (w : World) (h : Byts w A n) (hc : n ≤ c) (hn : n ≤ 9223372036854775807) :
    Calls Try.prog 87 #[.slice A n c] w fun e w' => e = .returned (.pointer (some ⟨w.heap.size, 0, none⟩)) ∧ (∃ n' c', n' ≤ 2000 ∧ Rd13 w' w.heap.size A n' c' 0 ∧ (0 < n' → ∀ b off, A = some ⟨b, off, none⟩ → b < w.heap.size)) ∧ w.grownBy w' none := by
  have key : ∀ n', n' ≤ n → Rd13 (w.alloc (.cells #[.slice A n' c, .int .i64 0] 128)) w.heap.size A n' c 0 ∧ (0 < n' → ∀ b off, A = some ⟨b, off, none⟩ → b < w.heap.size) := fun n' hn' => by
    have hlt : 0 < n' → ∀ b off, A = some ⟨b, off, none⟩ → b < w.heap.size := fun hp b off e => by
      obtain ⟨b2, off2, e2, hb, _⟩ := h (by omega)
      rw [e] at e2
      cases e2
      exact hb
    refine ⟨⟨Pr.new w _ _ _, ?_, fun hp b off e => Nat.ne_of_lt (hlt hp b off e)⟩, hlt⟩
    intro hp
    obtain ⟨b, off, e, hb, hcc⟩ := h (by omega)
    refine ⟨b, off, e, by simp; omega, fun k hk => ?_⟩
    obtain ⟨x, h1, h2⟩ := hcc k (by omega)
    exact ⟨x, (World.grownBy_alloc w _ none).cell h1 (by simp), h2⟩
  have KEY := Lib.hid key
  clear key
  by_cases hb : 2000 < n
  · have hA : ∃ a, A = some a := by obtain ⟨b, off, e, _⟩ := h (by omega); exact ⟨_, e⟩
    obtain ⟨a, rfl⟩ := hA
    have hc0 : ¬ c = 0 := by omega
    clear h
    go_enter Try.func87, Try.ntmps87
    go_wp2_with fail
    go_ret
    exact ⟨rfl, ⟨2000, c, Nat.le_refl _, KEY.out 2000 (by omega)⟩, World.grownBy_alloc _ _ _⟩
  · clear h
    go_enter Try.func87, Try.ntmps87
    go_wp2_with fail
    go_ret
    exact ⟨rfl, ⟨n, c, by omega, KEY.out n (Nat.le_refl _)⟩, World.grownBy_alloc _ _ _⟩

/-- The random source, and two rows of ints beyond it, apart from each other. -/
structure St3 (w : World) (B g : Nat) (A : Option Addr) (n c p : Nat) (u v : Value) (L D : List Int) : Prop where
  rd : Rd13 w g A n c p
  gB : g < B
  aB : 0 < n → ∀ b off, A = some ⟨b, off, none⟩ → b < B
  hu : w.ownsRow B 3 1 u L.length (L.map (Value.int .i64))
  hv : w.ownsRow B 3 1 v D.length (D.map (Value.int .i64))
  ap : ∀ k, u.ownBlock = some k → v.ownBlock ≠ some k

section
variable {w w' w1 : World} {B g n c p p' : Nat} {A : Option Addr} {u v u' : Value} {L D : List Int}
theorem St3.alloc (h : St3 w B g A n c p u v L D) (o : Obj) : St3 (w.alloc o) B g A n c p u v L D :=
  ⟨h.rd.grown (World.grownBy_alloc w o none) (by simp) (by simp), h.gB, h.aB, h.hu.alloc o, h.hv.alloc o, h.ap⟩
theorem St3.drawn (h : St3 w B g A n c p u v L D) (hr : Rd13 w' g A n c p') (hg : w.grownBy w' (some g)) : St3 w' B g A n c p' u v L D :=
  ⟨hr, h.gB, h.aB, own_keep h.hu (fun k hk => hg.block k (h.hu.lt k hk).2 (by have := (h.hu.lt k hk).1; have := h.gB; simp; omega)), own_keep h.hv (fun k hk => hg.block k (h.hv.lt k hk).2 (by have := (h.hv.lt k hk).1; have := h.gB; simp; omega)), h.ap⟩
theorem St3.swap (h : St3 w B g A n c p u v L D) : St3 w B g A n c p v u D L := ⟨h.rd, h.gB, h.aB, h.hv, h.hu, fun k h1 h2 => h.ap k h2 h1⟩
theorem St3.push {z : Int} {o : Obj} {j : Nat} (h : St3 w B g A n c p u v L D) (hj : L.length = j) (ho : w1.ownsRow B 3 1 u' (j + 1) (L.map (Value.int .i64) ++ [.int .i64 z])) (hg : (w.alloc o).grownBy w1 u.ownBlock) (hat : u'.ownBlock = u.ownBlock ∨ u'.ownBlock = some (w.heap.size + 1)) :
    St3 w1 B g A n c p u' v (L ++ [z]) D ∧ ∃ k d, u' = .slice (some ⟨k, 0, none⟩) (j + 1) d := by
  subst hj
  have ha := h.alloc o
  have hlo : ∀ k, u.ownBlock = some k → B ≤ k := fun k hk => (h.hu.lt k hk).1
  refine ⟨⟨ha.rd.grown hg (fun e => by have := hlo g e.symm; have := h.gB; omega) (fun hn b off e e2 => by have := hlo b e2.symm; have := h.aB hn b off e; omega), h.gB, h.aB, by simpa using ho, ?_, ?_⟩, own_succ5 ho⟩
  · exact own_keep ha.hv (fun k hk => hg.block k (ha.hv.lt k hk).2 (fun e => h.ap k e.symm hk))
  · intro k h1 h2
    have hlt := (h.hv.lt k h2).2
    rcases hat with e | e
    · exact h.ap k (by rw [← e]; exact h1) h2
    · rw [h1] at e
      simp at e
      omega
end

theorem ints_lit (w : World) (zs : List Int) : Ints (w.alloc (.cells (zs.map (Value.int .i64)).toArray 3)) (some ⟨w.heap.size, 0, none⟩) zs := fun hl => by
  refine ⟨w.heap.size, 0, rfl, by simp, fun j z hj => ?_⟩
  have h1 := heap_alloc_last w (.cells (zs.map (Value.int .i64)).toArray 3)
  rw [Nat.zero_add, cell_of_row _ _ j _ _ (0, 0) h1]
  simp [hj]

theorem St3.fresh {w : World} {B g n c p : Nat} {A : Option Addr} {u v : Value} {L D : List Int} (h : St3 w B g A n c p u v L D) (hB : B ≤ w.heap.size) :
    St3 (w.alloc (.cells #[] 3)) B g A n c p u (.slice (some ⟨w.heap.size, 0, none⟩) 0 0) L [] :=
  ⟨(h.alloc _).rd, h.gB, h.aB, (h.alloc _).hu, made_row w B hB, fun k h1 h2 => by
    have := (h.hu.lt k h1).2
    simp [Value.ownBlock] at h2
    omega⟩

end Go.Proofs.Ytbideeajdhejoaa

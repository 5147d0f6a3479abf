/- The laws' helpers on lists of strings: szStringS, toStringS, eqStringS. -/
import Derived.Test.YtdfanconjiiceaaStrs0
import Derived.IntWalk
namespace Go.Proofs.Ytdfanconjiiceaa
open Go.RowKit

/-- How szStringS ends: what is left is not negative only if all fits. -/
def SzPost (ss : List ByteArray) (L : Nat) (w : World) (e : Ending) (w' : World) : Prop := (∃ r : Int, e = .returned (.int .i64 r) ∧ (0 ≤ r → ss.length + tot ss ≤ L)) ∧ w = w'

set_option maxHeartbeats 400000 in
theorem sz_any (A : Option Addr) (c L : Nat) (ss : List ByteArray) (w : World) (h : Strs w A ss) (hL : L ≤ 1048576) (hn : ss.length ≤ 9223372036854775807) (hsz : ∀ s ∈ ss, s.size ≤ 9223372036854775807) :
    Calls Try.prog 12 #[.slice A ss.length c, .int .i64 (L : Int)] w (SzPost ss L w) := by
  have HS := Lib.hid h
  have HZ := Lib.hid hsz
  obtain ⟨n, hnn⟩ : ∃ n, ss.length = n := ⟨_, rfl⟩
  rw [hnn] at hn ⊢
  have HN := Lib.hid hnn
  clear h hsz hnn
  by_cases hneg : L < n
  · go_enter Try.func12, Try.ntmps12
    go_wp2_with fail
    go_ret
    exact ⟨⟨-1, rfl, fun h => by omega⟩, rfl⟩
  · go_enter Try.func12, Try.ntmps12
    go_wp2_with fail
    go_loop [1, 5] (fun l i => ∃ (j : Nat) (x : Int), j ≤ n ∧ i = .int .i64 j ∧ l = .int .i64 x ∧ 0 ≤ x ∧ x ≤ 1048576 ∧ Hid (x = (L : Int) - n - tot (ss.take j))) (fun _ i => n - (intOf i).toNat)
    case atStart => exact ⟨0, _, Nat.zero_le _, rfl, rfl, by omega, by omega, Lib.hid (by simp [tot])⟩
    case round =>
      obtain ⟨j, x, hj, rfl, rfl, hx0, hx1, hx⟩ := hrel
      by_cases hlt : j < n
      · obtain ⟨s, hs⟩ : ∃ s, ss[j]? = some s := ⟨_, List.getElem?_eq_getElem (by have := HN.out; omega)⟩
        obtain ⟨b, off, rfl, _, hc⟩ := HS.out (by have := HN.out; omega)
        have hcell := hc j s hs
        have hss := HZ.out s (List.mem_of_getElem? hs)
        have HST := Lib.hid (tot_step hs)
        clear hc hs
        by_cases hfit : (s.size : Int) ≤ x
        · go_wp2_with fail
          go_round
          case rel =>
            refine ⟨j + 1, x - s.size, by omega, by go_num, rfl, by omega, by omega, Lib.hid ?_⟩
            rw [HST.out, hx.out]
            omega
          case measure => simp [intOf]; omega
        · have hfit2 : x < (s.size : Int) := by omega
          go_wp2_with fail
          go_ret
          exact ⟨⟨-1, rfl, fun h => by omega⟩, rfl⟩
      · have hjn : j = n := by omega
        have HJ := Lib.hid hjn
        clear hjn
        go_wp2_with fail
        go_ret
        refine ⟨⟨x, rfl, fun h => ?_⟩, rfl⟩
        have h1 := hx.out
        rw [List.take_of_length_le (by have := HN.out; have := HJ.out; omega)] at h1
        have := HN.out
        omega

theorem infoS : (Try.prog.info? 9).map (fun i => (i.zero, i.size, i.bytes)) = some (some (.string .empty), 1, 16) := by kernel_rfl

/-- A block of strings, of which the first j are known. -/
def Row (w : World) (g n j : Nat) (ss : List ByteArray) : Prop := ∃ cur : Array Value, w.heap[g]? = some (.cells cur 9 (0, 0)) ∧ cur.size = n ∧ ∀ (i : Nat) (s : ByteArray), i < j → ss[i]? = some s → cur[i]? = some (.string s)
theorem Row.c {w : World} {g n j : Nat} {ss : List ByteArray} (h : Row w g n j ss) (hj : j < n) : ∃ v, w.cell? ⟨g, j, none⟩ = some v := by
  obtain ⟨cur, hh, hs, _⟩ := h
  exact ⟨cur[j], by rw [cell_of_row w g j cur _ (0, 0) hh]; exact Array.getElem?_eq_getElem (by omega)⟩
theorem Row.f {w : World} {g n j : Nat} {ss : List ByteArray} (h : Row w g n j ss) (i : Nat) : w.frozen? ⟨g, i, none⟩ = false := by
  obtain ⟨cur, hh, _⟩ := h
  simp [World.frozen?, hh]
theorem Row.set_ {w : World} {g n j : Nat} {ss : List ByteArray} {s : ByteArray} (h : Row w g n j ss) (hj : j < n) (hs : ss[j]? = some s) : Row (w.setCell ⟨g, j, none⟩ (.string s)) g n (j + 1) ss := by
  obtain ⟨cur, hh, hz, hc⟩ := h
  refine ⟨cur.setIfInBounds j (.string s), ?_, by simpa using hz, fun i s' hi hs' => ?_⟩
  · simp [World.setCell, Array.getElem?_modify, hh]
  · rw [Array.getElem?_setIfInBounds]
    by_cases e : j = i
    · subst e
      rw [if_pos rfl, if_pos (by omega)]
      rw [hs] at hs'
      cases hs'
      rfl
    · rw [if_neg e]
      exact hc i s' (by omega) hs'

/-- How toStringS ends: a new row of the same strings. -/
def ToPost (ss : List ByteArray) (w : World) (e : Ending) (w' : World) : Prop := ∃ g, e = .returned (.slice (some ⟨g, 0, none⟩) ss.length ss.length) ∧ w.grownBy w' none ∧ Strs w' (some ⟨g, 0, none⟩) ss

/-- The same, and the row's block. -/
def ToPostR (ss : List ByteArray) (w : World) (e : Ending) (w' : World) : Prop := e = .returned (.slice (some ⟨w.heap.size, 0, none⟩) ss.length ss.length) ∧ w.grownBy w' none ∧ Strs w' (some ⟨w.heap.size, 0, none⟩) ss ∧ Row w' w.heap.size ss.length ss.length ss

set_option maxHeartbeats 400000 in
theorem toR_any (A : Option Addr) (c : Nat) (ss : List ByteArray) (w : World) (h : Strs w A ss) (hn : ss.length ≤ 1048576) :
    Calls Try.prog 14 #[.slice A ss.length c] w (ToPostR ss w) := by
  obtain ⟨i0, hi0, hz0, hz1, hz2⟩ := info_parts infoS
  have HS := Lib.hid h
  obtain ⟨n, hnn⟩ : ∃ n, ss.length = n := ⟨_, rfl⟩
  have HN := Lib.hid hnn
  rw [hnn] at hn ⊢
  clear h hnn
  have hmk : ∀ u : World, (Instr.makeSlice 31 (.int .i64 (n : Int)) (.int .i64 (n : Int))).run Try.prog u =
      .ok (.slice (some ⟨u.heap.size, 0, none⟩) n n) (u.alloc (.cells (madeCells #[.string .empty] n) 9)) := fun u => by
    have h := run_make (P := Try.prog) u 31 9 i0 (.string .empty) Try.underlying31 hi0 hz0 .i64 .i64 (n : Int) (n : Int) (by omega) (Int.le_refl _) (by rw [hz2]; omega) (by omega)
    simpa [hz1, Value.cells] using h
  go_enter Try.func14, Try.ntmps14
  go_wp2_with fail
  clear hmk hi0 hz0 hz1 hz2
  have hrow0 : Row (w.alloc (.cells (madeCells #[.string .empty] n) 9)) w.heap.size n 0 ss := ⟨_, heap_alloc_new _ _, by simp [madeCells], fun i s hi => by omega⟩
  have HR0 := Lib.hid hrow0
  clear hrow0
  go_loopw [4] (fun i wr => ∃ j : Nat, j ≤ n ∧ i = .int .i64 j ∧ Hid (Row wr w.heap.size n j ss) ∧ Hid (w.grownBy wr none)) (fun i _ => n - (intOf i).toNat)
  case atStart => exact ⟨0, Nat.zero_le _, rfl, HR0, Lib.hid (World.grownBy_alloc _ _ _)⟩
  case round =>
    obtain ⟨j, hj, rfl, hrow, hgr⟩ := hrel
    by_cases hlt : j < n
    · obtain ⟨s, hs⟩ : ∃ s, ss[j]? = some s := ⟨_, List.getElem?_eq_getElem (by have := HN.out; omega)⟩
      obtain ⟨b, off, rfl, hb, hc⟩ := (HS.out.grown hgr.out) (by have := HN.out; omega)
      have hcell := hc j s hs
      obtain ⟨v0, hv0⟩ := hrow.out.c hlt
      have hf0 := hrow.out.f j
      have HST := Lib.hid hs
      clear hc hs
      go_wp2_with fail
      go_roundw
      case rel => exact ⟨j + 1, by omega, by go_num, Lib.hid (hrow.out.set_ hlt HST.out), Lib.hid (gr_new hgr.out (gr_set wr w.heap.size j (.string s)) (Nat.le_refl _))⟩
      case measure => simp [intOf]; omega
    · have hjn : j = n := by omega
      have HJ := Lib.hid hjn
      clear hjn
      go_wp2_with fail
      go_ret
      refine ⟨by rw [HN.out]; rfl, hgr.out, fun _ => ⟨w.heap.size, 0, rfl, ?_, fun i s hs => ?_⟩, by rw [HN.out]; have := hrow.out; rwa [HJ.out] at this⟩
      · obtain ⟨cur, hh, _⟩ := hrow.out
        exact (Array.getElem?_eq_some_iff.1 hh).1
      · obtain ⟨cur, hh, _, hc⟩ := hrow.out
        rw [Nat.zero_add, cell_of_row wr w.heap.size i cur _ (0, 0) hh]
        refine hc i s ?_ hs
        rcases Nat.lt_or_ge i ss.length with h | h
        · have := HN.out; have := HJ.out; omega
        · rw [List.getElem?_eq_none h] at hs; cases hs

theorem to_any (A : Option Addr) (c : Nat) (ss : List ByteArray) (w : World) (h : Strs w A ss) (hn : ss.length ≤ 1048576) :
    Calls Try.prog 14 #[.slice A ss.length c] w (ToPost ss w) :=
  (toR_any A c ss w h hn).mono (fun _ _ ⟨h1, h2, h3, _⟩ => ⟨_, h1, h2, h3⟩)

set_option maxHeartbeats 400000 in
theorem eq_any (A B : Option Addr) (c d : Nat) (ss : List ByteArray) (w : World) (h : Strs w A ss) (h2 : Strs w B ss) (hn : ss.length ≤ 1048576) :
    Calls Try.prog 17 #[.slice A ss.length c, .slice B ss.length d] w fun e w' => e = .returned (.bool true) ∧ w.grownBy w' none := by
  have HS := Lib.hid h
  have HS2 := Lib.hid h2
  obtain ⟨n, hnn⟩ : ∃ n, ss.length = n := ⟨_, rfl⟩
  have HN := Lib.hid hnn
  rw [hnn] at hn ⊢
  clear h h2 hnn
  have hnn : ((n : Int) != (n : Int)) = false := by simp
  go_enter Try.func17, Try.ntmps17
  go_wp2_with fail
  clear hnn
  go_loopw [5] (fun i wr => ∃ j : Nat, j ≤ n ∧ i = .int .i64 j ∧ Hid (w.grownBy wr none)) (fun i _ => n - (intOf i).toNat)
  case atStart => exact ⟨0, Nat.zero_le _, rfl, Lib.hid (gr_refl _ _)⟩
  case round =>
    obtain ⟨j, hj, rfl, hgr⟩ := hrel
    by_cases hlt : j < n
    · obtain ⟨s, hs⟩ : ∃ s, ss[j]? = some s := ⟨_, List.getElem?_eq_getElem (by have := HN.out; omega)⟩
      obtain ⟨b, off, rfl, hb, hc⟩ := (HS.out.grown hgr.out) (by have := HN.out; omega)
      obtain ⟨b2, off2, rfl, hb2, hc2⟩ := (HS2.out.grown hgr.out) (by have := HN.out; omega)
      have hcell := hc j s hs
      have hcell2 := hc2 j s hs
      have hj0 : (0 : Int) ≤ (j : Int) := by omega
      have hj1 : (j : Int) < (n : Int) := by omega
      clear hc hs hc2
      go_wp2_with fail
      go_quiet (fail)
      go_wp2_with fail
      go_roundw
      case rel => exact ⟨j + 1, by omega, by go_num, Lib.hid (hgr.out.trans (gr_drewN _ _ _))⟩
      case measure => simp [intOf]; omega
    · go_wp2_with fail
      go_ret
      exact ⟨rfl, hgr.out⟩

end Go.Proofs.Ytdfanconjiiceaa

/- What slices.Backward gives for a list of lists: their indices and themselves, from the last one on; rounds may write cells that are named by block and type. -/
import Derived.Test.YtachjodnhgmoiaaGreatDoorSpanK
namespace Go.Proofs.YtachjodnhgmoiaaGreatDoor
open Go.RowKit Go.Shelf
attribute [local go_sem] Oper.semAt_some

/-- The things and their indices, from the last one on. -/
def back (vs : List Value) : List (Int × Value) := (vs.zipIdx.map (fun p => ((p.2 : Int), p.1))).reverse
def idx (p : Int × Value) : Array Value := #[.int .i64 p.1, p.2]
theorem back_len (vs : List Value) : (back vs).length = vs.length := by simp [back]
theorem back_at {vs : List Value} {j i : Nat} {v : Value} (hi : i + j + 1 = vs.length) (hv : vs[i]? = some v) : (back vs)[j]? = some ((i : Int), v) := by
  have e : vs.length - 1 - j = i := by omega
  rw [back, List.getElem?_reverse (by simp; omega), List.getElem?_map]
  simp only [List.length_map, List.length_zipIdx, e]
  rw [List.getElem?_zipIdx, hv]
  simp

/-- Slices in a block of lists of ints, which is none of those that may be written. -/
def SlsK (X : Nat → TypeId → Prop) (w : World) (A : Option Addr) (vs : List Value) : Prop := 0 < vs.length → ∃ b off xs m, A = some ⟨b, off, none⟩ ∧ w.heap[b]? = some (.cells xs 25 m) ∧ ¬ X b 25 ∧ ∀ (j : Nat) (v : Value), vs[j]? = some v → w.cell? ⟨b, off + j, none⟩ = some v
theorem SlsK.keep {X : Nat → TypeId → Prop} {w w' : World} {A : Option Addr} {vs : List Value} (h : SlsK X w A vs) (hk : KeepsK X w w') : SlsK X w' A vs := fun hl => by
  obtain ⟨b, off, xs, m, rfl, hb, hX, hc⟩ := h hl
  have hb' := hk.row hb hX
  refine ⟨b, off, xs, m, rfl, hb', hX, fun j z hj => ?_⟩
  have := hc j z hj
  simp only [World.cell?, hb, hb'] at this ⊢
  exact this

set_option maxRecDepth 100000 in
set_option maxHeartbeats 1000000 in
theorem backK_iter (X : Nat → TypeId → Prop) (b c : Nat) (hXl : ¬ X b 32) (A : Option Addr) (vs : List Value) (w : World) (hr : SlsK X w A vs) (hlen : vs.length ≤ 1048576)
    (hb : w.heap[b]? = some (.cells #[.slice A vs.length c] 32 (0, 0))) :
    SeqOwnK idx X Tryz.prog 83 #[.pointer (some ⟨b, 0, none⟩)] (back vs) w := by
  intro n l J Jx W hW hJ hJx hY h0
  have hb1 := hW.cell hb hXl
  have hr1 := hr.keep hW
  obtain ⟨k, hk⟩ : ∃ k, vs.length = k := ⟨_, rfl⟩
  have HC : Hid (∀ wr, KeepsK X W wr → wr.cell? ⟨b, 0, none⟩ = some (.slice A k c)) := Lib.hid (fun wr h => by
    have := h.cell hb1 hXl
    rw [← hk]
    simp [World.cell?, this])
  have hc := HC.out W (KeepsK.refl _ _)
  have HN : Hid (∀ (j i : Nat) (v : Value), i + j + 1 = k → vs[i]? = some v → (back vs)[j]? = some ((i : Int), v)) := Lib.hid (fun j i v h hv => back_at (by omega) hv)
  have HSL := Lib.hid (back_len vs)
  obtain ⟨ns, hns⟩ : ∃ ns, back vs = ns := ⟨_, rfl⟩
  have HR := Lib.hid hr1
  have HY := Lib.hid hY
  have HK := Lib.hid hk
  have hk6 : k ≤ 1048576 := by omega
  rw [hns] at HY HN HSL ⊢
  clear hb hb1 hr hr1 hY hlen hns hk
  show CallsIn Fence.wide n Tryz.prog 83 #[.func (.yield l) #[] #[], .pointer (some ⟨b, 0, none⟩)] W _
  refine callsIn_of_wp Tryz.func83 rfl trivial ?_ rfl
  simp only [Tryz.ntmps83, List.size_toArray, List.length_cons, List.length_nil, Nat.reduceAdd, Nat.reduceSub, Array.replicate_succ, Array.replicate_zero, List.push_toArray, List.append_toArray, List.nil_append, List.cons_append]
  gi_wp2
  gi_loopw [3] (fun i wr => ∃ j : Nat, j ≤ k ∧ i = .int .i64 ((k : Int) - 1 - j) ∧ Hid (J (ns.take j) wr) ∧ Hid (KeepsK X W wr)) (fun i _ => (intOf i + 1).toNat)
  case atStart => exact ⟨0, Nat.zero_le _, by simp, Lib.hid h0, Lib.hid (KeepsK.refl _ _)⟩
  case round =>
    obtain ⟨j, hj, rfl, hjj, hkx⟩ := hrel
    have hcr := HC.out wr hkx.out
    by_cases hlt2 : j < k
    · obtain ⟨i, hi⟩ : ∃ i, i + j + 1 = k := ⟨k - 1 - j, by omega⟩
      have hiz : (k : Int) - 1 - j = (i : Int) := by omega
      rw [hiz]
      obtain ⟨v, hv⟩ : ∃ v, vs[i]? = some v := ⟨_, List.getElem?_eq_getElem (by have := HK.out; omega)⟩
      obtain ⟨b2, off, xs, m, rfl, _, _, hcc⟩ := (HR.out.keep hkx.out) (by have := HK.out; omega)
      have hcell := hcc i v hv
      have hat := HN.out j i v hi hv
      obtain ⟨fn, tmps, assign, body, hy, hR⟩ := HY.out (n - 1) (ns.take j) ((i : Int), v) wr hjj.out (by rw [← at_take hat]; exact List.take_prefix _ _)
      rw [← at_take hat] at hR
      simp only [idx] at hy
      have hik : (i : Int) < (k : Int) := by omega
      clear hcc hv hat hiz
      gi_wp2_with (refine ⟨fun h => (by cases h), ?_⟩; refine hR.mono ?_; clear hR; rintro e W' (⟨rfl, hJ', hk⟩ | ⟨rfl, hJx', hk⟩))
      · have HJ' := Lib.hid hJ'
        have HK' := Lib.hid (hkx.out.trans hk)
        clear hJ' hk
        go_roundw
        case rel => exact ⟨j + 1, by omega, by congr 1; omega, HJ', HK'⟩
        case measure => simp [intOf] <;> omega
      · refine bodyPost_ret (results_none rfl _ _ _) rfl ?_
        exact ⟨⟨_, rfl⟩, .inr ⟨ns.take (j + 1), List.take_prefix _ _, hJx'⟩⟩
    · have hjn : j = k := by omega
      have HJ := Lib.hid hjn
      have hneg : (k : Int) - 1 - j = -1 := by omega
      rw [hneg]
      clear hjn hneg
      gi_wp2
      go_end0
      refine ⟨⟨_, rfl⟩, .inl ?_⟩
      have := hjj.out
      rw [List.take_of_length_le (by have h1 := HJ.out; have h2 := HSL.out; have h3 := HK.out; omega)] at this
      exact this

end Go.Proofs.YtachjodnhgmoiaaGreatDoor

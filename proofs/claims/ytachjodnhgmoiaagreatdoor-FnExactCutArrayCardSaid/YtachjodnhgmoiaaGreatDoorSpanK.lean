/- What spansOf of the program gives, where rounds may write cells that are named by block and type. -/
import Derived.Test.YtachjodnhgmoiaaGreatDoorSeqS
import Derived.Test.YtachjodnhgmoiaaGreatDoorSeg
import Derived.Test.YtachjodnhgmoiaaGreatDoorGr
namespace Go.Proofs.YtachjodnhgmoiaaGreatDoor
open Go.RowKit Go.Shelf
attribute [local go_sem] Oper.semAt_some

/-- Where parts of these lengths begin and end. -/
def spanK : Int → List Int → List (Int × Int)
  | _, [] => []
  | b, z :: l => (b, b + z) :: spanK (b + z) l
def twoK (p : Int × Int) : Array Value := #[.int .i64 p.1, .int .i64 p.2]
theorem spanK_at : ∀ (L : List Int) (b : Int) (j : Nat) (z : Int), L[j]? = some z → (spanK b L)[j]? = some (b + sumI (L.take j), b + sumI (L.take j) + z)
  | [], _, _, _, h => by simp at h
  | y :: L, b, 0, z, h => by
    simp only [List.getElem?_cons_zero, Option.some.injEq] at h
    subst h
    simp [spanK, sumI]
  | y :: L, b, j + 1, z, h => by
    have := spanK_at L (b + y) j z (by simpa using h)
    simp only [spanK, List.getElem?_cons_succ, this, List.take_succ_cons, sumI]
    congr 2 <;> omega
theorem spanK_len : ∀ (L : List Int) (b : Int), (spanK b L).length = L.length
  | [], _ => rfl
  | z :: L, b => by simp [spanK, spanK_len L]

/-- Ints in a block of ints, which is none of those that may be written. -/
def IntsK (X : Nat → TypeId → Prop) (w : World) (A : Option Addr) (zs : List Int) : Prop := 0 < zs.length → ∃ b off xs m, A = some ⟨b, off, none⟩ ∧ w.heap[b]? = some (.cells xs 3 m) ∧ ¬ X b 3 ∧ ∀ (j : Nat) (z : Int), zs[j]? = some z → w.cell? ⟨b, off + j, none⟩ = some (.int .i64 z)
theorem IntsK.keep {X : Nat → TypeId → Prop} {w w' : World} {A : Option Addr} {zs : List Int} (h : IntsK X w A zs) (hk : KeepsK X w w') : IntsK X w' A zs := fun hl => by
  obtain ⟨b, off, xs, m, rfl, hb, hX, hc⟩ := h hl
  have hb' := hk.row hb hX
  refine ⟨b, off, xs, m, rfl, hb', hX, fun j z hj => ?_⟩
  have := hc j z hj
  simp only [World.cell?, hb, hb'] at this ⊢
  exact this

set_option maxRecDepth 100000 in
set_option maxHeartbeats 1000000 in
theorem spansK_iter (X : Nat → TypeId → Prop) (b c : Nat) (A : Option Addr) (L : List Int) (w : World) (hr : IntsK X w A L) (hXl : ¬ X b 25) (hlen : L.length ≤ 1048576) (hok : okN 400 L = true)
    (hb : w.heap[b]? = some (.cells #[.slice A L.length c] 25 (0, 0))) :
    SeqOwnK twoK X Tryz.prog 74 #[.pointer (some ⟨b, 0, none⟩)] (spanK 0 L) w := by
  intro n l J Jx W hW hJ hJx hY h0
  have hb1 := hW.cell hb hXl
  have hr1 := hr.keep hW
  obtain ⟨k, hk⟩ : ∃ k, L.length = k := ⟨_, rfl⟩
  have hc : W.cell? ⟨b, 0, none⟩ = some (.slice A k c) := by rw [← hk]; simp [World.cell?, hb1]
  have HN : Hid (∀ (j : Nat) (z : Int), L[j]? = some z → (spanK 0 L)[j]? = some (sumI (L.take j), sumI (L.take j) + z)) := Lib.hid (fun j z h => by
    have := spanK_at L 0 j z h
    simpa using this)
  have HSL := Lib.hid (spanK_len L 0)
  have HB := Lib.hid (fun j => sumI_bound (okN_take hok j))
  have HOK := Lib.hid hok
  obtain ⟨ns, hns⟩ : ∃ ns, spanK 0 L = ns := ⟨_, rfl⟩
  have HR := Lib.hid hr1
  have HY := Lib.hid hY
  have HK := Lib.hid hk
  have hk6 : k ≤ 1048576 := by omega
  rw [hns] at HY HN HSL ⊢
  clear hb hb1 hr hr1 hY hok hlen hns hk
  show CallsIn Fence.wide n Tryz.prog 74 #[.func (.yield l) #[] #[], .pointer (some ⟨b, 0, none⟩)] W _
  refine callsIn_of_wp Tryz.func74 rfl trivial ?_ rfl
  simp only [Tryz.ntmps74, List.size_toArray, List.length_cons, List.length_nil, Nat.reduceAdd, Nat.reduceSub, Array.replicate_succ, Array.replicate_zero, List.push_toArray, List.append_toArray, List.nil_append, List.cons_append]
  gi_wp2
  gi_loopw [3, 9] (fun u i wr => ∃ j : Nat, j ≤ k ∧ i = .int .i64 j ∧ u = .int .i64 (sumI (L.take j)) ∧ Hid (J (ns.take j) wr) ∧ Hid (KeepsK X W wr)) (fun _ i _ => k - (intOf i).toNat)
  case atStart => exact ⟨0, Nat.zero_le _, rfl, rfl, Lib.hid h0, Lib.hid (KeepsK.refl _ _)⟩
  case round =>
    obtain ⟨j, hj, rfl, rfl, hjj, hkx⟩ := hrel
    have hbj := HB.out j
    by_cases hlt2 : j < k
    · obtain ⟨z, hz⟩ : ∃ z, L[j]? = some z := ⟨_, List.getElem?_eq_getElem (by have := HK.out; omega)⟩
      have hzz := okN_at hz HOK.out
      obtain ⟨b2, off, xs, m, rfl, _, _, hcc⟩ := (HR.out.keep hkx.out) (by have := HK.out; omega)
      have hcell := hcc j z hz
      have hst := sumI_step hz
      have hat := HN.out j z hz
      obtain ⟨s, hs⟩ : ∃ s, sumI (L.take j) = s := ⟨_, rfl⟩
      have hl3 : (L.take j).length ≤ 1048576 := by have := HK.out; rw [List.length_take]; omega
      rw [hs] at hbj hst hat ⊢
      have hbd : 0 ≤ s ∧ s ≤ 419430400 := by omega
      obtain ⟨fn, tmps, assign, body, hy, hR⟩ := HY.out (n - 1) (ns.take j) (s, s + z) wr hjj.out (by rw [← at_take hat]; exact List.take_prefix _ _)
      rw [← at_take hat] at hR
      simp only [twoK] at hy
      have HST := Lib.hid hst
      clear hcc hz hat hst hbj
      gi_wp2_with (refine ⟨fun h => (by cases h), ?_⟩; refine hR.mono ?_; clear hR; rintro e W' (⟨rfl, hJ', hk⟩ | ⟨rfl, hJx', hk⟩))
      · have HJ' := Lib.hid hJ'
        have HK' := Lib.hid (hkx.out.trans hk)
        clear hJ' hk
        go_roundw
        case rel => exact ⟨j + 1, by omega, by go_num, by rw [HST.out], HJ', HK'⟩
        case measure => simp [intOf]; omega
      · refine bodyPost_ret (results_none rfl _ _ _) rfl ?_
        exact ⟨⟨_, rfl⟩, .inr ⟨ns.take (j + 1), List.take_prefix _ _, hJx'⟩⟩
    · have hjn : j = k := by omega
      have HJ := Lib.hid hjn
      clear hjn
      gi_wp2
      go_end0
      refine ⟨⟨_, rfl⟩, .inl ?_⟩
      have := hjj.out
      rw [List.take_of_length_le (by have h1 := HJ.out; have h2 := HSL.out; have h3 := HK.out; omega)] at this
      exact this

end Go.Proofs.YtachjodnhgmoiaaGreatDoor

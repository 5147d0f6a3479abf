/- What spansOf and slices.Backward give, where what they go through is only known to read as it did in whatever world keeps what lies there. -/
import Derived.Test.YtachjodnhgmoiaaGreatDoorBackK
namespace Go.Proofs.YtachjodnhgmoiaaGreatDoor
open Go.RowKit Go.Shelf
attribute [local go_sem] Oper.semAt_some

/-- Ints that read so in every world that keeps what is not named. -/
def IntsL (X : Nat → TypeId → Prop) (w : World) (A : Option Addr) (zs : List Int) : Prop := 0 < zs.length → ∃ b off, A = some ⟨b, off, none⟩ ∧ ∀ W, KeepsK X w W → ∀ (j : Nat) (z : Int), zs[j]? = some z → W.cell? ⟨b, off + j, none⟩ = some (.int .i64 z)
theorem IntsL.keep {X : Nat → TypeId → Prop} {w w' : World} {A : Option Addr} {zs : List Int} (h : IntsL X w A zs) (hk : KeepsK X w w') : IntsL X w' A zs := fun hl => by
  obtain ⟨b, off, rfl, hc⟩ := h hl
  exact ⟨b, off, rfl, fun W hW => hc W (hk.trans hW)⟩
/-- Values that read so in every world that keeps what is not named. -/
def SlsL (X : Nat → TypeId → Prop) (w : World) (A : Option Addr) (vs : List Value) : Prop := 0 < vs.length → ∃ b off, A = some ⟨b, off, none⟩ ∧ ∀ W, KeepsK X w W → ∀ (j : Nat) (v : Value), vs[j]? = some v → W.cell? ⟨b, off + j, none⟩ = some v
theorem SlsL.keep {X : Nat → TypeId → Prop} {w w' : World} {A : Option Addr} {vs : List Value} (h : SlsL X w A vs) (hk : KeepsK X w w') : SlsL X w' A vs := fun hl => by
  obtain ⟨b, off, rfl, hc⟩ := h hl
  exact ⟨b, off, rfl, fun W hW => hc W (hk.trans hW)⟩
/-- What lies below all that may be written is kept. -/
theorem low_cell {X : Nat → TypeId → Prop} {w W W' : World} {b i : Nat} {v : Value} (hX : ∀ k t, X k t → w.heap.size ≤ k) (hb : b < w.heap.size) (hg : w.grownBy W none) (hk : KeepsK X W W') (h : w.cell? ⟨b, i, none⟩ = some v) : W'.cell? ⟨b, i, none⟩ = some v := by
  have h1 := hg.cell h (by simp)
  obtain ⟨o, ho⟩ : ∃ o, W.heap[b]? = some o := ⟨_, Array.getElem?_eq_getElem (Nat.lt_of_lt_of_le hb hg.size)⟩
  have h2 := hk.same b o ho (fun xs t m _ hx => by have := hX b t hx; omega)
  simp only [World.cell?, ho, h2] at h1 ⊢
  exact h1
theorem ints_l {X : Nat → TypeId → Prop} {w W : World} {A : Option Addr} {zs : List Int} (h : Ints w A zs) (hX : ∀ k t, X k t → w.heap.size ≤ k) (hg : w.grownBy W none) : IntsL X W A zs := fun hl => by
  obtain ⟨b, off, rfl, hb, hc⟩ := h hl
  exact ⟨b, off, rfl, fun W' hk j z hz => low_cell hX hb hg hk (hc j z hz)⟩
theorem back_pre {vs : List Value} {pre : List (Int × Value)} {x : Int × Value} (h : pre ++ [x] <+: back vs) : ∃ (i : Nat) (v : Value), i + pre.length + 1 = vs.length ∧ vs[i]? = some v ∧ x = ((i : Int), v) := by
  have hl := h.length_le
  rw [back_len, List.length_append] at hl
  simp only [List.length_cons, List.length_nil] at hl
  obtain ⟨v, hv⟩ : ∃ v, vs[vs.length - 1 - pre.length]? = some v := ⟨_, List.getElem?_eq_getElem (by omega)⟩
  have h1 := back_at (j := pre.length) (i := vs.length - 1 - pre.length) (by omega) hv
  have h2 : (back vs)[pre.length]? = some x := by
    obtain ⟨t, ht⟩ := h
    rw [← ht]
    simp
  rw [h2] at h1
  simp only [Option.some.injEq] at h1
  exact ⟨_, v, by omega, hv, h1⟩

theorem makeFunc_runL (fn : Fn) (first cap : Array Value) (w : World) : (Instr.makeFunc fn first cap).run Tryz.prog w = .ok (.func fn first cap) w := rfl
set_option maxHeartbeats 400000 in
theorem spansmakerL (A : Option Addr) (n c : Nat) (w : World) : Calls Tryz.prog 51 #[.slice A n c] w fun e w' =>
    e = .returned (.func (.func 74) #[] #[.pointer (some ⟨w.heap.size, 0, none⟩)]) ∧ w' = w.alloc (.cells #[.slice A n c] 25) := by
  have hmf := @makeFunc_runL
  go_enter Tryz.func51, Tryz.ntmps51
  go_wp2_with fail
  go_ret
  exact ⟨rfl, rfl⟩
set_option maxHeartbeats 400000 in
theorem backmakerL (A : Option Addr) (n c : Nat) (w : World) : Calls Tryz.prog 63 #[.slice A n c] w fun e w' =>
    e = .returned (.func (.func 83) #[] #[.pointer (some ⟨w.heap.size, 0, none⟩)]) ∧ w' = w.alloc (.cells #[.slice A n c] 32) := by
  have hmf := @makeFunc_runL
  go_enter Tryz.func63, Tryz.ntmps63
  go_wp2_with fail
  go_ret
  exact ⟨rfl, rfl⟩

set_option maxRecDepth 100000 in
set_option maxHeartbeats 1000000 in
theorem spansL_iter (X : Nat → TypeId → Prop) (b c : Nat) (A : Option Addr) (L : List Int) (w : World) (hr : IntsL X w A L) (hXl : ¬ X b 25) (hlen : L.length ≤ 1048576) (hok : okN 400 L = true)
    (hb : w.heap[b]? = some (.cells #[.slice A L.length c] 25 (0, 0))) :
    SeqOwnK twoK X Tryz.prog 74 #[.pointer (some ⟨b, 0, none⟩)] (spanK 0 L) w := by
  intro n l J Jx W hW hJ hJx hY h0
  have hb1 := hW.cell hb hXl
  have hr1 := hr.keep hW
  obtain ⟨k, hk⟩ : ∃ k, L.length = k := ⟨_, rfl⟩
  have hc : W.cell? ⟨b, 0, none⟩ = some (.slice A k c) := by rw [← hk]; simp [World.cell?, hb1]
  have HN : Hid (∀ (j : Nat) (z : Int), L[j]? = some z → (spanK 0 L)[j]? = some (sumI (L.take j), sumI (L.take j) + z)) := Lib.hid (fun j z h => by
    have := spanK_at L 0 j z h
    simpa using this)
  have HSL := Lib.hid (spanK_len L 0)
  have HB := Lib.hid (fun j => sumI_bound (okN_take hok j))
  have HOK := Lib.hid hok
  obtain ⟨ns, hns⟩ : ∃ ns, spanK 0 L = ns := ⟨_, rfl⟩
  have HR := Lib.hid hr1
  have HY := Lib.hid hY
  have HK := Lib.hid hk
  have hk6 : k ≤ 1048576 := by omega
  rw [hns] at HY HN HSL ⊢
  clear hb hb1 hr hr1 hY hok hlen hns hk
  show CallsIn Fence.wide n Tryz.prog 74 #[.func (.yield l) #[] #[], .pointer (some ⟨b, 0, none⟩)] W _
  refine callsIn_of_wp Tryz.func74 rfl trivial ?_ rfl
  simp only [Tryz.ntmps74, List.size_toArray, List.length_cons, List.length_nil, Nat.reduceAdd, Nat.reduceSub, Array.replicate_succ, Array.replicate_zero, List.push_toArray, List.append_toArray, List.nil_append, List.cons_append]
  gi_wp2
  gi_loopw [3, 9] (fun u i wr => ∃ j : Nat, j ≤ k ∧ i = .int .i64 j ∧ u = .int .i64 (sumI (L.take j)) ∧ Hid (J (ns.take j) wr) ∧ Hid (KeepsK X W wr)) (fun _ i _ => k - (intOf i).toNat)
  case atStart => exact ⟨0, Nat.zero_le _, rfl, rfl, Lib.hid h0, Lib.hid (KeepsK.refl _ _)⟩
  case round =>
    obtain ⟨j, hj, rfl, rfl, hjj, hkx⟩ := hrel
    have hbj := HB.out j
    by_cases hlt2 : j < k
    · obtain ⟨z, hz⟩ : ∃ z, L[j]? = some z := ⟨_, List.getElem?_eq_getElem (by have := HK.out; omega)⟩
      have hzz := okN_at hz HOK.out
      obtain ⟨b2, off, rfl, hcc0⟩ := (HR.out.keep hkx.out) (by have := HK.out; omega)
      have hcc := hcc0 wr (KeepsK.refl _ _)
      clear hcc0
      have hcell := hcc j z hz
      have hst := sumI_step hz
      have hat := HN.out j z hz
      obtain ⟨s, hs⟩ : ∃ s, sumI (L.take j) = s := ⟨_, rfl⟩
      have hl3 : (L.take j).length ≤ 1048576 := by have := HK.out; rw [List.length_take]; omega
      rw [hs] at hbj hst hat ⊢
      have hbd : 0 ≤ s ∧ s ≤ 419430400 := by omega
      obtain ⟨fn, tmps, assign, body, hy, hR⟩ := HY.out (n - 1) (ns.take j) (s, s + z) wr hjj.out (by rw [← at_take hat]; exact List.take_prefix _ _)
      rw [← at_take hat] at hR
      simp only [twoK] at hy
      have HST := Lib.hid hst
      clear hcc hz hat hst hbj
      gi_wp2_with (refine ⟨fun h => (by cases h), ?_⟩; refine hR.mono ?_; clear hR; rintro e W' (⟨rfl, hJ', hk⟩ | ⟨rfl, hJx', hk⟩))
      · have HJ' := Lib.hid hJ'
        have HK' := Lib.hid (hkx.out.trans hk)
        clear hJ' hk
        go_roundw
        case rel => exact ⟨j + 1, by omega, by go_num, by rw [HST.out], HJ', HK'⟩
        case measure => simp [intOf]; omega
      · refine bodyPost_ret (results_none rfl _ _ _) rfl ?_
        exact ⟨⟨_, rfl⟩, .inr ⟨ns.take (j + 1), List.take_prefix _ _, hJx'⟩⟩
    · have hjn : j = k := by omega
      have HJ := Lib.hid hjn
      clear hjn
      gi_wp2
      go_end0
      refine ⟨⟨_, rfl⟩, .inl ?_⟩
      have := hjj.out
      rw [List.take_of_length_le (by have h1 := HJ.out; have h2 := HSL.out; have h3 := HK.out; omega)] at this
      exact this

set_option maxRecDepth 100000 in
set_option maxHeartbeats 1000000 in
theorem backL_iter (X : Nat → TypeId → Prop) (b c : Nat) (hXl : ¬ X b 32) (A : Option Addr) (vs : List Value) (w : World) (hr : SlsL X w A vs) (hlen : vs.length ≤ 1048576)
    (hb : w.heap[b]? = some (.cells #[.slice A vs.length c] 32 (0, 0))) :
    SeqOwnK idx X Tryz.prog 83 #[.pointer (some ⟨b, 0, none⟩)] (back vs) w := by
  intro n l J Jx W hW hJ hJx hY h0
  have hb1 := hW.cell hb hXl
  have hr1 := hr.keep hW
  obtain ⟨k, hk⟩ : ∃ k, vs.length = k := ⟨_, rfl⟩
  have HC : Hid (∀ wr, KeepsK X W wr → wr.cell? ⟨b, 0, none⟩ = some (.slice A k c)) := Lib.hid (fun wr h => by
    have := h.cell hb1 hXl
    rw [← hk]
    simp [World.cell?, this])
  have hc := HC.out W (KeepsK.refl _ _)
  have HN : Hid (∀ (j i : Nat) (v : Value), i + j + 1 = k → vs[i]? = some v → (back vs)[j]? = some ((i : Int), v)) := Lib.hid (fun j i v h hv => back_at (by omega) hv)
  have HSL := Lib.hid (back_len vs)
  obtain ⟨ns, hns⟩ : ∃ ns, back vs = ns := ⟨_, rfl⟩
  have HR := Lib.hid hr1
  have HY := Lib.hid hY
  have HK := Lib.hid hk
  have hk6 : k ≤ 1048576 := by omega
  rw [hns] at HY HN HSL ⊢
  clear hb hb1 hr hr1 hY hlen hns hk
  show CallsIn Fence.wide n Tryz.prog 83 #[.func (.yield l) #[] #[], .pointer (some ⟨b, 0, none⟩)] W _
  refine callsIn_of_wp Tryz.func83 rfl trivial ?_ rfl
  simp only [Tryz.ntmps83, List.size_toArray, List.length_cons, List.length_nil, Nat.reduceAdd, Nat.reduceSub, Array.replicate_succ, Array.replicate_zero, List.push_toArray, List.append_toArray, List.nil_append, List.cons_append]
  gi_wp2
  gi_loopw [3] (fun i wr => ∃ j : Nat, j ≤ k ∧ i = .int .i64 ((k : Int) - 1 - j) ∧ Hid (J (ns.take j) wr) ∧ Hid (KeepsK X W wr)) (fun i _ => (intOf i + 1).toNat)
  case atStart => exact ⟨0, Nat.zero_le _, by simp, Lib.hid h0, Lib.hid (KeepsK.refl _ _)⟩
  case round =>
    obtain ⟨j, hj, rfl, hjj, hkx⟩ := hrel
    have hcr := HC.out wr hkx.out
    by_cases hlt2 : j < k
    · obtain ⟨i, hi⟩ : ∃ i, i + j + 1 = k := ⟨k - 1 - j, by omega⟩
      have hiz : (k : Int) - 1 - j = (i : Int) := by omega
      rw [hiz]
      obtain ⟨v, hv⟩ : ∃ v, vs[i]? = some v := ⟨_, List.getElem?_eq_getElem (by have := HK.out; omega)⟩
      obtain ⟨b2, off, rfl, hcc0⟩ := (HR.out.keep hkx.out) (by have := HK.out; omega)
      have hcc := hcc0 wr (KeepsK.refl _ _)
      clear hcc0
      have hcell := hcc i v hv
      have hat := HN.out j i v hi hv
      obtain ⟨fn, tmps, assign, body, hy, hR⟩ := HY.out (n - 1) (ns.take j) ((i : Int), v) wr hjj.out (by rw [← at_take hat]; exact List.take_prefix _ _)
      rw [← at_take hat] at hR
      simp only [idx] at hy
      have hik : (i : Int) < (k : Int) := by omega
      clear hcc hv hat hiz
      gi_wp2_with (refine ⟨fun h => (by cases h), ?_⟩; refine hR.mono ?_; clear hR; rintro e W' (⟨rfl, hJ', hk⟩ | ⟨rfl, hJx', hk⟩))
      · have HJ' := Lib.hid hJ'
        have HK' := Lib.hid (hkx.out.trans hk)
        clear hJ' hk
        go_roundw
        case rel => exact ⟨j + 1, by omega, by congr 1; omega, HJ', HK'⟩
        case measure => simp [intOf] <;> omega
      · refine bodyPost_ret (results_none rfl _ _ _) rfl ?_
        exact ⟨⟨_, rfl⟩, .inr ⟨ns.take (j + 1), List.take_prefix _ _, hJx'⟩⟩
    · have hjn : j = k := by omega
      have HJ := Lib.hid hjn
      have hneg : (k : Int) - 1 - j = -1 := by omega
      rw [hneg]
      clear hjn hneg
      gi_wp2
      go_end0
      refine ⟨⟨_, rfl⟩, .inl ?_⟩
      have := hjj.out
      rw [List.take_of_length_le (by have h1 := HJ.out; have h2 := HSL.out; have h3 := HK.out; omega)] at this
      exact this

end Go.Proofs.YtachjodnhgmoiaaGreatDoor

/- What PartsOfTerm of the model does. -/
import Derived.Test.YtmofoeljajdhmaaTPts
namespace Go.Proofs.Ytmofoeljajdhmaa
open Go.RowKit

/-- What l5Read leaves, with a term or without: a node and its parts, none where there is no term. -/
theorem sterm_kids {s : ByteArray} {w w' : World} {e : Ending} (h : STermPost s w e w') : ∃ a b A k c ok xs, e = .returned (.tuple #[.agg #[.int .u8 a, .int .u8 b, .slice A k c], .bool ok]) ∧ w.grownBy w' none ∧
    w'.ownsRow 0 70 3 (.slice A k c) xs.length (flat3 xs) ∧ All2 (SN w' (fun b => w.heap.size ≤ b)) (match readT s with | some t => t.kids | none => ([] : List Tm)) xs := by
  unfold STermPost at h
  cases hr : readT s with
  | none =>
    rw [hr] at h
    exact ⟨0, 0, none, 0, 0, false, [], h.1, h.2, ⟨rfl, .inl ⟨rfl, rfl⟩⟩, trivial⟩
  | some t =>
    rw [hr] at h
    obtain ⟨a, b, A, k, c, he, hg, hs⟩ := h
    obtain ⟨xs, ho, ha⟩ := hs.kids
    exact ⟨a, b, A, k, c, true, xs, he, hg, ho, ha⟩

/-- Whatever lies in cells of a type lies as it lay. -/
def KeepT (ty : TypeId) (w w' : World) : Prop := ∀ (v : Nat) (cs : Array Value) (fr : Nat × Nat), w.heap[v]? = some (.cells cs ty fr) → w'.heap[v]? = some (.cells cs ty fr)
theorem KeepT.grown {ty : TypeId} {w w1 w2 : World} (h : KeepT ty w w1) (hg : w1.grownBy w2 none) : KeepT ty w w2 := fun v cs fr hv => by
  have := h v cs fr hv
  exact (hg.block v (blk_lt this) (by simp)).trans this
/-- A row of another type is written. -/
theorem KeepT.row {ty e : TypeId} {w w1 w2 : World} {base size n : Nat} {sv : Value} {xs : List Value} (h : KeepT ty w w1) (ho : w1.ownsRow base e size sv n xs) (he : e ≠ ty) (hg : w1.grownBy w2 sv.ownBlock) : KeepT ty w w2 := fun v cs fr hv => by
  have h1 := h v cs fr hv
  refine (hg.block v (blk_lt h1) ?_).trans h1
  intro hb
  rcases ho.2 with ⟨hs, _⟩ | ⟨g, cap, cur, hs, _, hgg, _⟩
  · subst hs; simp [Value.ownBlock] at hb
  · subst hs
    simp only [Value.ownBlock, Option.some.injEq] at hb
    subst hb
    rw [hgg] at h1
    cases h1
    exact he rfl
theorem own_keepT {w w' : World} {base : Nat} {e : TypeId} {size n : Nat} {v : Value} {xs : List Value} (h : w.ownsRow base e size v n xs) (hk : KeepT e w w') : w'.ownsRow base e size v n xs := by
  refine ⟨h.1, ?_⟩
  rcases h.2 with hn | ⟨g, cap, cur, rfl, hb, hgg, rest⟩
  · exact .inl hn
  · exact .inr ⟨g, cap, cur, rfl, hb, hk _ _ _ hgg, rest⟩
theorem SN.keepT {w w' : World} {S : Nat → Prop} (hk : KeepT 70 w w') : ∀ (t : Tm) (x : Int × Int × Value), SN w S t x → SN w' S t x
  | .dig _, _, ⟨h1, h2, ho, hS⟩ => ⟨h1, h2, own_keepT ho hk, hS⟩
  | .var _, _, ⟨h1, h2, ho, hS⟩ => ⟨h1, h2, own_keepT ho hk, hS⟩
  | .pre _ s, _, ⟨h1, h2, y, ho, hS, h3⟩ => ⟨h1, h2, y, own_keepT ho hk, hS, SN.keepT hk s y h3⟩
  | .two _ s t, _, ⟨h1, h2, y, z, ho, hS, h3, h4⟩ => ⟨h1, h2, y, z, own_keepT ho hk, hS, SN.keepT hk s y h3, SN.keepT hk t z h4⟩
  | .loop _ _ s t, _, ⟨h1, h2, y, z, ho, hS, h3, h4⟩ => ⟨h1, h2, y, z, own_keepT ho hk, hS, SN.keepT hk s y h3, SN.keepT hk t z h4⟩

set_option maxRecDepth 100000 in
set_option maxHeartbeats 2000000 in
theorem tpts_spec (s : ByteArray) (hs : s.size ≤ 1048576) (w : World) :
    Calls Try.prog 23 #[.string s] w (PtsPost (partsA s) w) := by
  obtain ⟨i0, hi0, hz0, hz1, hz2⟩ := info_parts infoStr
  have H := Lib.hid (fun u => sterm_any s hs u)
  obtain ⟨ss, hb⟩ : ∃ b, partsA s = b := ⟨_, rfl⟩
  rw [hb]
  have HSS : Hid ((match readT s with | some t => t.kids | none => ([] : List Tm)).map (fun k : Tm => bytesOf k.txt) = ss) := Lib.hid (by
    rw [← hb]; unfold partsA; cases readT s <;> rfl)
  have HLE : Hid (∀ t ∈ (match readT s with | some t => t.kids | none => ([] : List Tm)), t.Ok ∧ t.txt.length ≤ 80) := Lib.hid (by
    intro t ht
    cases hr : readT s with
    | none => rw [hr] at ht; simp at ht
    | some t' =>
      rw [hr] at ht
      have h1 := Tm.kids_ok (readT_some hr).2.2.1 ht
      have h2 := readT_len hr
      have h3 := (readT_some hr).1
      exact ⟨h1.1, by omega⟩)
  have HKL2 : Hid ((match readT s with | some t => t.kids | none => ([] : List Tm)).length ≤ 2) := Lib.hid (by
    cases readT s with
    | none => simp
    | some t => exact kids_len t)
  clear hb
  have HOW0 := Lib.hid (World.ownsRow_made (base := w.heap.size) (e := 9) (size := 1) w #[] 0 (Nat.le_refl _) (by simp) (by simp))
  go_enter Try.func23, Try.ntmps23
  go_wp2_with fail
  refine (H.out _).mono ?_
  intro e w0 hp
  obtain ⟨a, b, A, k, c, ok, xs, rfl, hg, ho, ha⟩ := sterm_kids hp
  generalize (match readT s with | some t => t.kids | none => ([] : List Tm)) = ks at HSS HLE HKL2 ha
  obtain ⟨hk, hkc, -⟩ := srow3 ho
  have hlen := All2.length _ _ ha
  have HKL := Lib.hid hk
  have HLEN := Lib.hid hlen
  have HO := Lib.hid ho
  have HA := Lib.hid ha
  have hk2 : k ≤ 2 := by have := HKL2.out; omega
  have HW0 := Lib.hid (own_keep HOW0.out (fun b hb => hg.block b (HOW0.out.lt b hb).2 (by simp)))
  have HG := Lib.hid ((World.grownBy_alloc w (.cells #[] 9) none).trans hg)
  have HX := Lib.hid (c3_new w0 (.int .u8 a) (.int .u8 b) (.slice A k c) 70)
  have x0 := HX.out.c0
  have x1 := HX.out.c1
  have x2 := HX.out.c2
  clear hp hg ho ha hk hlen
  go_wp2_with fail
  go_loopw [3, 17] (fun u i wr => ∃ j : Nat, j ≤ k ∧ i = .int .i64 j ∧ Hid (wr.ownsRow w.heap.size 9 1 u (ss.take j).length (strV (ss.take j))) ∧ Hid (w.grownBy wr none) ∧ Hid (KeepT 70 w0 wr)) (fun _ i _ => k - (intOf i).toNat)
  case atStart => exact ⟨0, Nat.zero_le _, rfl, Lib.hid (HW0.out.alloc _), Lib.hid (HG.out.trans (World.grownBy_alloc _ _ _)), Lib.hid (KeepT.grown (fun _ _ _ h => h) (World.grownBy_alloc _ _ _))⟩
  case round =>
    obtain ⟨j, hj, rfl, how, hgr, hkt⟩ := hrel
    by_cases hlt : j < k
    · obtain ⟨-, -, hrow⟩ := srow3 (own_keepT HO.out hkt.out)
      obtain ⟨g, rfl, hg1, hcell⟩ := hrow (by omega)
      obtain ⟨tj, ⟨a2, b2, sv2⟩, htj, hxj, hpj⟩ := HA.out.get (j := j) (by have := HKL.out; omega)
      obtain ⟨A2, k2, c2, hsv⟩ := hpj.form
      simp only at hsv
      subst hsv
      obtain ⟨q0, q1, q2⟩ := hcell j _ hxj
      have hle := HLE.out tj (List.mem_of_getElem? htj)
      have HCALL := Lib.hid (stxt_any tj _ a2 b2 A2 k2 c2 (wr.alloc (.cells #[.int .u8 a2, .int .u8 b2, .slice A2 k2 c2] 70)) hle.1 (by omega) ((SN.keepT hkt.out _ _ hpj).grown (World.grownBy_alloc _ _ _)))
      obtain ⟨X, hX⟩ : ∃ X, bytesOf tj.txt = X := ⟨_, rfl⟩
      unfold STxtPost at HCALL
      rw [hX] at HCALL
      have HX' : Hid (ss[j]? = some X) := Lib.hid (by rw [← HSS.out, List.getElem?_map, htj, ← hX]; rfl)
      obtain ⟨Av, nv, cv, rfl⟩ := own_form how.out
      have hlj : (ss.take j).length = j := by
        rw [List.length_take]
        have := (List.getElem?_eq_some_iff.1 HX'.out).1
        omega
      have hnv : nv = j := (own_len how.out).trans hlj
      subst hnv
      have HLJ := Lib.hid hlj
      simp only at q0 q1 q2
      clear hpj htj hxj hcell hX hle hlj hrow
      go_wp2_with fail
      refine HCALL.out.mono ?_
      rintro e w2 ⟨rfl, hg2'⟩
      have hg2 := (World.grownBy_alloc wr (.cells #[.int .u8 a2, .int .u8 b2, .slice A2 k2 c2] 70) none).trans hg2'
      have HG2 := Lib.hid hg2
      have HKT2 := Lib.hid ((hkt.out.grown hg2).grown (World.grownBy_alloc w2 (.cells #[.string X] 9) none))
      have own1 := (own_keep how.out (fun b hb => hg2.block b (how.out.lt b hb).2 (by simp))).alloc (.cells #[.string X] 9)
      rw [HLJ.out] at own1
      have hw2 : w.heap.size ≤ w2.heap.size := Nat.le_trans hgr.out.size hg2.size
      clear hg2 hg2' q0 q1 q2
      go_wp2_with (at_builtin; refine wpList_append_own_at _ rfl _ _ 29 rfl w.heap.size 9 i0 (.string .empty) 1 16 Try.underlying29 hi0 hz0 hz1 hz2 rfl (by decide) _ _ _ rfl own1 ⟨w2.heap.size, 0, none⟩ 1 1 [.string X] rfl rfl ?a1 ?a2 ?a3 ?a4 ?a5 ?_)
      case a1 => exact cell_one_new _ _ _
      case a2 => simp [Value.oneCell']
      case a3 => simp only [maxLen]; omega
      case a4 => omega
      case a5 => simp; omega
      intro v8 w8 hown8 hg8 _ _
      have HKT8 := Lib.hid (HKT2.out.row own1 (by decide) hg8)
      obtain ⟨A8, k8, c8, rfl⟩ := own_form hown8
      have hmore := str_more hgr.out how.out (HG2.out.trans (World.grownBy_alloc w2 (.cells #[.string X] 9) none)) hown8 hg8 (by rw [List.length_append, HLJ.out]; rfl)
      rw [take_snoc' HX'.out] at hmore
      have HM := Lib.hid hmore
      clear hmore hown8 hg8 own1
      go_wp2_with fail
      go_roundw
      case rel => exact ⟨nv + 1, by omega, by go_num, Lib.hid HM.out.1, Lib.hid HM.out.2, HKT8⟩
      case measure => simp [intOf]; omega
    · have hjk : j = k := by omega
      have HJ := Lib.hid hjk
      obtain ⟨Av, nv, cv, rfl⟩ := own_form how.out
      clear hjk
      go_wp2_with fail
      go_ret
      refine ⟨_, rfl, hgr.out, ?_⟩
      have e1 : ss.take j = ss := List.take_of_length_le (by rw [← HSS.out, List.length_map, HLEN.out, HJ.out, HKL.out]; exact Nat.le_refl _)
      have := how.out
      rw [e1] at this
      exact this

end Go.Proofs.Ytmofoeljajdhmaa

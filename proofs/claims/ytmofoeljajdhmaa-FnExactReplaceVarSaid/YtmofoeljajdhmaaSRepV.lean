/- What ReplaceVar of the model does. -/
import Derived.Test.YtmofoeljajdhmaaSRepL
import Derived.Test.YtmofoeljajdhmaaSTxtA
import Derived.Test.YtmofoeljajdhmaaTRepV
namespace Go.Proofs.Ytmofoeljajdhmaa
section
open Go.RowKit

theorem srep_any : ∀ (n : Nat) (t u : Tm) (a b v ua ub : Int) (A UA : Option Addr) (k c uk uc : Nat) (S : Nat → Prop) (w : World), t.size ≤ n → n ≤ 1000000 → t.Ok → u.Ok → 0 < v → u.size ≤ 1000000 →
    (∀ x, S x → x < w.heap.size) → SN w S t (a, b, .slice A k c) → SN w S u (ua, ub, .slice UA uk uc) →
    Calls Try.prog 77 #[.agg #[.int .u8 a, .int .u8 b, .slice A k c], .int .u8 v, .agg #[.int .u8 ua, .int .u8 ub, .slice UA uk uc]] w (SRP (t.rep v u) (!t.binds v u) S w)
  | 0, t, u, a, b, v, ua, ub, A, UA, k, c, uk, uc, S, w, hn, _, _, _, _, _, _, _, _ => by have := t.size_pos; omega
  | n + 1, t, u, a, b, v, ua, ub, A, UA, k, c, uk, uc, S, w, hn, hn2, hok, huok, hv, husz, hS, ht, hu => by
    by_cases hvar : t = .var v
    · subst hvar
      obtain ⟨h1, h2, _⟩ := ht
      simp only at h1 h2
      subst h1 h2
      have e1 : (Tm.var b).rep b u = u := by simp [Tm.rep]
      have e2 : (Tm.var b).binds b u = false := by simp [Tm.binds]
      rw [e1, e2]
      exact srep_hit b ua ub _ ⟨A, k, c, rfl⟩ UA uk uc u S w hu
    · refine srep_go t u a b v ua ub A UA k c uk uc S w hok huok hv (by omega) (fun d hd e => hvar (by rw [hd, e])) hS ht hu ?_
      intro x hx a2 b2 A2 k2 c2 w' hg hs
      obtain ⟨j, hj⟩ := List.getElem?_of_mem hx
      have hbd : x.size ≤ n := by
        have hst := csum_step hj
        have hlq := csum_take t.kids (j + 1)
        have hks := csum_kids t
        omega
      exact srep_any n x u a2 b2 v ua ub A2 UA k2 c2 uk uc S w' hbd (by omega) (kids_ok' hok hx) huok hv husz (fun y hy => Nat.lt_of_lt_of_le (hS y hy) hg.size) hs (hu.grown hg)
end

section
open Go.RowKit

theorem sterm_shape {s : ByteArray} {w w' : World} {e : Ending} (h : STermPost s w e w') : ∃ a b A k c o, e = .returned (.tuple #[.agg #[.int .u8 a, .int .u8 b, .slice A k c], .bool o]) ∧ w.grownBy w' none ∧ (readT s).isSome = o ∧
    ∀ T, readT s = some T → SN w' (fun b => w.heap.size ≤ b) T (a, b, .slice A k c) := by
  unfold STermPost at h
  cases hr : readT s with
  | none => rw [hr] at h; exact ⟨_, _, _, _, _, _, h.1, h.2, rfl, fun T hT => by cases hT⟩
  | some T =>
    rw [hr] at h
    obtain ⟨a, b, A, k, c, he, hg, hs⟩ := h
    exact ⟨_, _, _, _, _, _, he, hg, rfl, fun T hT => by cases hT; exact hs⟩
theorem repA_n1 {t v u : ByteArray} (h : (readT t).isSome = false) : replA t v u = none := by
  unfold replA
  cases hr : readT t with
  | none => rfl
  | some T => rw [hr] at h; cases h
theorem repA_n2 {t v u : ByteArray} (h : (readT u).isSome = false) : replA t v u = none := by
  unfold replA
  cases hr : readT u with
  | none => cases readT t <;> rfl
  | some T => rw [hr] at h; cases h
theorem repA_n3 {t v u : ByteArray} (h : vch v = none) : replA t v u = none := by
  unfold replA
  rw [h]
  cases readT t <;> cases readT u <;> rfl
theorem vch_read {v : ByteArray} (h : (readT v).isSome = false) : vch v = none := by
  cases hv : vch v with
  | none => rfl
  | some c => rw [(vch_some hv).1] at h; cases h
/-- What is read is a variable exactly if its node's sign says so. -/
theorem vch_sign {v : ByteArray} {w : World} {S : Nat → Prop} {a b : Int} {sv : Value} {T : Tm} (hr : readT v = some T) (h : SN w S T (a, b, sv)) : vch v = if a = 97 then some b else none := by
  have hok := (readT_some hr).2.2.1
  cases hv : T.isV with
  | true =>
    cases T <;> try cases hv
    rename_i c
    obtain ⟨h1, h2, _⟩ := h
    simp only at h1 h2
    subst h1 h2
    rw [if_pos rfl]
    cases hc : vch v with
    | none => exact absurd hr (vch_none hc)
    | some d => rw [(vch_some hc).1] at hr; cases hr; rfl
  | false =>
    rw [if_neg (h.novar hok hv)]
    cases hc : vch v with
    | none => rfl
    | some d => rw [(vch_some hc).1] at hr; cases hr; cases hv

set_option maxRecDepth 100000 in
set_option maxHeartbeats 4000000 in
theorem repv_spec (t v u : ByteArray) (ht : t.size ≤ 1048576) (hv : v.size ≤ 1048576) (hu : u.size ≤ 1048576) (w : World) :
    Calls Try.prog 17 #[.string t, .string v, .string u] w (RVP (replA t v u) w) := by
  have H1 := Lib.hid (fun w => sterm_any t ht w)
  have H2 := Lib.hid (fun w => sterm_any u hu w)
  have H3 := Lib.hid (fun w => sterm_any v hv w)
  obtain ⟨res, hres⟩ : ∃ b, replA t v u = b := ⟨_, rfl⟩
  rw [hres]
  have HRES := Lib.hid hres
  clear hres ht hv hu
  go_enter Try.func17, Try.ntmps17
  go_wp2_with fail
  refine (H1.out _).mono ?_
  intro e w1 hp
  obtain ⟨a1, b1, A1, k1, c1, o1, rfl, hg1, ho1, hs1⟩ := sterm_shape hp
  obtain ⟨x1, hx1⟩ : ∃ x, w1.alloc (.cells #[.int .u8 a1, .int .u8 b1, .slice A1 k1 c1] TN) = x := ⟨_, rfl⟩
  obtain ⟨n1, hn1⟩ : ∃ x, w1.heap.size = x := ⟨_, rfl⟩
  have gx1 : w1.grownBy x1 none := by rw [← hx1]; exact World.grownBy_alloc _ _ _
  have C1 := Lib.hid (show C3 x1 n1 (.int .u8 a1) (.int .u8 b1) (.slice A1 k1 c1) TN by rw [← hx1, ← hn1]; exact c3_new _ _ _ _ _)
  have HG1 := Lib.hid (hg1.trans gx1)
  have HO1 := Lib.hid ho1
  have HS1 := Lib.hid (fun T hT => (hs1 T hT).grown gx1)
  clear hg1 gx1 ho1 hs1 hp
  go_wp2_with fail
  refine (H2.out _).mono ?_
  intro e w2 hp
  obtain ⟨a2, b2, A2, k2, c2, o2, rfl, hg2, ho2, hs2⟩ := sterm_shape hp
  obtain ⟨x2, hx2⟩ : ∃ x, w2.alloc (.cells #[.int .u8 a2, .int .u8 b2, .slice A2 k2 c2] TN) = x := ⟨_, rfl⟩
  obtain ⟨n2, hn2⟩ : ∃ x, w2.heap.size = x := ⟨_, rfl⟩
  have gx2 : w2.grownBy x2 none := by rw [← hx2]; exact World.grownBy_alloc _ _ _
  have C2 := Lib.hid (show C3 x2 n2 (.int .u8 a2) (.int .u8 b2) (.slice A2 k2 c2) TN by rw [← hx2, ← hn2]; exact c3_new _ _ _ _ _)
  have HG2 := Lib.hid (hg2.trans gx2)
  have HO2 := Lib.hid ho2
  have HS2 := Lib.hid (fun T hT => (hs2 T hT).grown gx2)
  clear hg2 gx2 ho2 hs2 hp
  go_wp2_with fail
  refine (H3.out _).mono ?_
  intro e w3 hp
  obtain ⟨a3, b3, A3, k3, c3, o3, rfl, hg3, ho3, hs3⟩ := sterm_shape hp
  obtain ⟨x3, hx3⟩ : ∃ x, w3.alloc (.cells #[.int .u8 a3, .int .u8 b3, .slice A3 k3 c3] TN) = x := ⟨_, rfl⟩
  obtain ⟨n3, hn3⟩ : ∃ x, w3.heap.size = x := ⟨_, rfl⟩
  have gx3 : w3.grownBy x3 none := by rw [← hx3]; exact World.grownBy_alloc _ _ _
  have C3' := Lib.hid (show C3 x3 n3 (.int .u8 a3) (.int .u8 b3) (.slice A3 k3 c3) TN by rw [← hx3, ← hn3]; exact c3_new _ _ _ _ _)
  have HG3 := Lib.hid (hg3.trans gx3)
  have HO3 := Lib.hid ho3
  have HS3 := Lib.hid (fun T hT => (hs3 T hT).grown gx3)
  have HG := Lib.hid ((HG1.out.trans HG2.out).trans HG3.out)
  clear hg3 gx3 ho3 hs3 hp
  cases o1
  · have HR : Hid (res = none) := Lib.hid (by rw [← HRES.out]; exact repA_n1 HO1.out)
    go_wp2_with fail
    go_ret2
    rw [HR.out]
    exact ⟨rfl, HG.out⟩
  cases o2
  · have HR : Hid (res = none) := Lib.hid (by rw [← HRES.out]; exact repA_n2 HO2.out)
    go_wp2_with fail
    go_ret2
    rw [HR.out]
    exact ⟨rfl, HG.out⟩
  cases o3
  · have HR : Hid (res = none) := Lib.hid (by rw [← HRES.out]; exact repA_n3 (vch_read HO3.out))
    go_wp2_with fail
    go_ret2
    rw [HR.out]
    exact ⟨rfl, HG.out⟩
  obtain ⟨T3, hT3⟩ : ∃ T, readT v = some T := Option.isSome_iff_exists.1 HO3.out
  have HV := Lib.hid (vch_sign hT3 (HS3.out T3 hT3))
  have q0 := C3'.out.c0
  by_cases h97 : a3 = 97
  · subst h97
    have HV : Hid (vch v = some b3) := Lib.hid (by rw [HV.out, if_pos rfl])
    obtain ⟨T, hT⟩ : ∃ T, readT t = some T := Option.isSome_iff_exists.1 HO1.out
    obtain ⟨U, hU⟩ : ∃ T, readT u = some T := Option.isSome_iff_exists.1 HO2.out
    have hT4 := readT_some hT
    have hU4 := readT_some hU
    have hTl := readT_len hT
    have hUl := readT_len hU
    have hb3 : 0 < b3 := by have := isV_ge (vch_some HV.out).2.1; omega
    have HST : Hid (SN x3 (fun x => w.heap.size ≤ x ∧ x < x3.heap.size) T (a1, b1, .slice A1 k1 c1)) := Lib.hid ((((HS1.out T hT).grown HG2.out).grown HG3.out).keep (fun _ _ _ => rfl) (fun b hb hl => ⟨hb, hl⟩) _ _)
    have HSU : Hid (SN x3 (fun x => w.heap.size ≤ x ∧ x < x3.heap.size) U (a2, b2, .slice A2 k2 c2)) := Lib.hid (((HS2.out U hU).grown HG3.out).keep (fun _ _ _ => rfl) (fun b hb hl => ⟨by have := HG1.out.size; omega, hl⟩) _ _)
    have HCALL := Lib.hid (srep_any T.size T U a1 b1 b3 a2 b2 A1 A2 k1 c1 k2 c2 (fun x => w.heap.size ≤ x ∧ x < x3.heap.size) x3 (Nat.le_refl _) (by omega) hT4.2.2.1 hU4.2.2.1 hb3 (by omega) (fun x hx => hx.2) HST.out HSU.out)
    have HOKR := Lib.hid (Tm.rep_ok T b3 U hU4.2.2.1 hT4.2.2.1)
    have HLEN := Lib.hid (Tm.rep_len T b3 U (by omega))
    have hl6 : (T.rep b3 U).txt.length ≤ 1000000 := by have := HLEN.out; omega
    have HL6 := Lib.hid hl6
    obtain ⟨good, hgood⟩ : ∃ b, (!T.binds b3 U) = b := ⟨_, rfl⟩
    rw [hgood] at HCALL
    have HGOOD := Lib.hid hgood
    have HREP : Hid (res = if T.binds b3 U = true ∨ 80 < (T.rep b3 U).txt.length then none else some (bytesOf (T.rep b3 U).txt)) := Lib.hid (by rw [← HRES.out]; unfold replA; rw [hT, hU, HV.out])
    obtain ⟨Z, hZ⟩ : ∃ Z, bytesOf (T.rep b3 U).txt = Z := ⟨_, rfl⟩
    have HZ := Lib.hid hZ
    have hzs : Z.size = (T.rep b3 U).txt.length := by rw [← hZ]; exact bytesOf_size _
    have HZS := Lib.hid hzs
    have q1 := C3'.out.c1
    have p0 := (C1.out.grown (HG2.out.trans HG3.out) (by simp)).c0
    have p1 := (C1.out.grown (HG2.out.trans HG3.out) (by simp)).c1
    have p2 := (C1.out.grown (HG2.out.trans HG3.out) (by simp)).c2
    have r0 := (C2.out.grown HG3.out (by simp)).c0
    have r1 := (C2.out.grown HG3.out (by simp)).c1
    have r2 := (C2.out.grown HG3.out (by simp)).c2
    clear hT hU hT4 hU4 hTl hUl hgood hZ hT3 hl6
    go_wp2_with fail
    refine HCALL.out.mono ?_
    rintro e w4 ⟨a4, b4, A4, k4, c4, rfl, hg4, hs4⟩
    obtain ⟨x4, hx4⟩ : ∃ x, w4.alloc (.cells #[.int .u8 a4, .int .u8 b4, .slice A4 k4 c4] TN) = x := ⟨_, rfl⟩
    obtain ⟨n4, hn4⟩ : ∃ x, w4.heap.size = x := ⟨_, rfl⟩
    have gx4 : w4.grownBy x4 none := by rw [← hx4]; exact World.grownBy_alloc _ _ _
    have C4 := Lib.hid (show C3 x4 n4 (.int .u8 a4) (.int .u8 b4) (.slice A4 k4 c4) TN by rw [← hx4, ← hn4]; exact c3_new _ _ _ _ _)
    have HG4 := Lib.hid (HG.out.trans (hg4.trans gx4))
    have HTX := Lib.hid (stxt_any (T.rep b3 U) _ a4 b4 A4 k4 c4 x4 HOKR.out HL6.out (hs4.grown gx4))
    unfold STxtPost at HTX
    rw [HZ.out] at HTX
    clear hg4 hs4 gx4 p0 p1 p2 r0 r1 r2 q0 q1
    have p0 := C4.out.c0
    have p1 := C4.out.c1
    have p2 := C4.out.c2
    go_wp2_with fail
    refine HTX.out.mono ?_
    rintro e w5 ⟨rfl, hg5⟩
    have HG5 := Lib.hid (HG4.out.trans hg5)
    clear hg5 p0 p1 p2
    cases good
    · have HR : Hid (res = none) := Lib.hid (by
        rw [HREP.out, if_pos (.inl (by have := HGOOD.out; simpa using this))])
      go_wp2_with fail
      go_ret2
      rw [HR.out]
      exact ⟨rfl, HG5.out⟩
    · have hb : T.binds b3 U = false := by have := HGOOD.out; simpa using this
      have HB := Lib.hid hb
      clear hb
      by_cases h80 : 80 < Z.size
      · have HR : Hid (res = none) := Lib.hid (by rw [HREP.out, if_pos (.inr (by rw [← HZS.out]; exact h80))])
        go_wp2_with fail
        go_ret2
        rw [HR.out]
        exact ⟨rfl, HG5.out⟩
      · have HR : Hid (res = some Z) := Lib.hid (by
          rw [HREP.out, HZ.out, if_neg (by rw [HB.out, ← HZS.out]; simp; omega)])
        go_wp2_with fail
        go_ret2
        rw [HR.out]
        exact ⟨rfl, HG5.out⟩
  · have HR : Hid (res = none) := Lib.hid (by rw [← HRES.out]; exact repA_n3 (by rw [HV.out, if_neg h97]))
    have hne : (a3 != 97) = true := by simp [h97]
    go_wp2_with fail
    go_ret2
    rw [HR.out]
    exact ⟨rfl, HG.out⟩
end

end Go.Proofs.Ytmofoeljajdhmaa

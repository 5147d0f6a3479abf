/- The look-ups of IsPermutation. -/
import Derived.Test.YtpakihjkjdanlaaRegP
namespace Go.Proofs.Ytpakihjkjdanlaa
open Go.RowKit

set_option maxRecDepth 100000 in
set_option maxHeartbeats 400000 in
theorem rg_look {x0 x1 x2 x4 x6 x7 x8 x9 x10 x11 x12 x13 x14 x15 x16 x17 x18 x19 x20 x21 x22 x23 x24 x25 x26 x27 x28 : Value} {Qc : Exit → Act → World → Prop} (hpan : ∀ (c : List PanicEntry) (a : Act) (d : Option Tmp) (v : Value) (w : World), Qc (.panic c) (a.put d v) w → Qc (.panic c) a w) (w : World) (g b : Nat) (P : List Int) (hP : Ok400 P) (Q1 Q2 : List Int) (r : Bool) (hQ : Ok400 Q1) (hR : Ok400 Q2) (e1 : invL P = Q1) (e2 : invL Q1 = Q2) (e3 : decide (Q2 = P) = r) (Ks : List (List Int)) (h1 : P ∈ Ks) (h2 : Q1 ∈ Ks)
    (hK : ∀ (W : World), w.grownBy W none → Qc .normal { tmps := #[x0, x1, .bool r, .pointer (some ⟨g, 0, none⟩), x4, .map (some b), x6, x7, x8, x9, x10, x11, x12, x13, x14, x15, x16, x17, x18, x19, x20, x21, .map (some b), .map (some b), .agg (pvc P), .agg (pvc Q1), .agg (pvc Q2), .agg (pvc P), .bool r], defers := [] } W) (W : World) (hM : MpAt W b Ks) (hA : ArrAt W g P) (hG : w.grownBy W none) :
    (Code.region 6 opsJ true).wp Try.prog Qc { tmps := #[x0, x1, x2, .pointer (some ⟨g, 0, none⟩), x4, .map (some b), x6, x7, x8, x9, x10, x11, x12, x13, x14, x15, x16, x17, x18, x19, x20, x21, x22, x23, x24, x25, x26, x27, x28], defers := [] } W := by
  refine wp_region_held_drew (S := SJ w g b P Ks) (by kernel_rfl) ⟨hM, hA, hG.trans (gr_drewN W 1 none)⟩ (fun hS => ?_)
  refine wpAnyH_take (i := 0) (oi := { dst := some 22, op := Op.move (Operand.tmp 5), type := 62, pos := "l4_moving.go:107", after := #[], guard := none }) (v := .map (some b)) rfl (by kernel_rfl) (by kernel_rfl) (by kernel_rfl) (fun _ _ _ h => hpan _ _ _ _ _ h) (.inl ⟨by rfl, fun _ _ => rfl⟩) hS ?_
  simp only [Act.put, List.setIfInBounds_toArray, List.set_cons_zero, List.set_cons_succ]
  refine wpAnyH_take (i := 1) (oi := { dst := some 23, op := Op.move (Operand.tmp 5), type := 62, pos := "l4_moving.go:107", after := #[], guard := none }) (v := .map (some b)) rfl (by kernel_rfl) (by kernel_rfl) (by kernel_rfl) (fun _ _ _ h => hpan _ _ _ _ _ h) (.inl ⟨by rfl, fun _ _ => rfl⟩) hS ?_
  simp only [Act.put, List.setIfInBounds_toArray, List.set_cons_zero, List.set_cons_succ]
  refine wpAnyH_take (i := 2) (oi := { dst := some 24, op := Op.load 59 (Operand.tmp 3), type := 59, pos := "l4_moving.go:107", after := #[], guard := none }) (v := .agg (pvc P)) rfl (by kernel_rfl) (by kernel_rfl) (by kernel_rfl) (fun _ _ _ h => hpan _ _ _ _ _ h) (.inl ⟨by rfl, fun u hu => exec_load (x := .tmp 3) rfl rfl hu.2.1⟩) hS ?_
  simp only [Act.put, List.setIfInBounds_toArray, List.set_cons_zero, List.set_cons_succ]
  refine wpAnyH_take (i := 3) (oi := { dst := some 25, op := Op.lookup 62 (Operand.tmp 23) (Operand.tmp 24) false, type := 59, pos := "l4_moving.go:107", after := #[{ on := 1, ground := Ground.data }, { on := 2, ground := Ground.data }], guard := none }) (v := .agg (pvc Q1)) rfl (by kernel_rfl) (by kernel_rfl) (by kernel_rfl) (fun _ _ _ h => hpan _ _ _ _ _ h) (.inl ⟨by rfl, fun u hu => exec_get (.tmp 23) (.tmp 24) rfl b Ks P rfl rfl hu.1 hP h1 Q1 e1⟩) hS ?_
  simp only [Act.put, List.setIfInBounds_toArray, List.set_cons_zero, List.set_cons_succ]
  refine wpAnyH_take (i := 4) (oi := { dst := some 26, op := Op.lookup 62 (Operand.tmp 22) (Operand.tmp 25) false, type := 59, pos := "l4_moving.go:107", after := #[{ on := 0, ground := Ground.data }, { on := 3, ground := Ground.data }], guard := none }) (v := .agg (pvc Q2)) rfl (by kernel_rfl) (by kernel_rfl) (by kernel_rfl) (fun _ _ _ h => hpan _ _ _ _ _ h) (.inl ⟨by rfl, fun u hu => exec_get (.tmp 22) (.tmp 25) rfl b Ks Q1 rfl rfl hu.1 hQ h2 Q2 e2⟩) hS ?_
  simp only [Act.put, List.setIfInBounds_toArray, List.set_cons_zero, List.set_cons_succ]
  refine wpAnyH_take (i := 5) (oi := { dst := some 27, op := Op.load 59 (Operand.tmp 3), type := 59, pos := "l4_moving.go:107", after := #[], guard := none }) (v := .agg (pvc P)) rfl (by kernel_rfl) (by kernel_rfl) (by kernel_rfl) (fun _ _ _ h => hpan _ _ _ _ _ h) (.inl ⟨by rfl, fun u hu => exec_load (x := .tmp 3) rfl rfl hu.2.1⟩) hS ?_
  simp only [Act.put, List.setIfInBounds_toArray, List.set_cons_zero, List.set_cons_succ]
  refine wpAnyH_take (i := 6) (oi := { dst := some 28, op := Op.binOp BinOp.eql 59 (Operand.tmp 26) (Operand.tmp 27) 59, type := 4, pos := "l4_moving.go:107", after := #[{ on := 4, ground := Ground.data }, { on := 5, ground := Ground.data }], guard := none }) (v := .bool r) rfl (by kernel_rfl) (by kernel_rfl) (by kernel_rfl) (fun _ _ _ h => hpan _ _ _ _ _ h) (.inl ⟨by rfl, fun u _ => exec_same (.tmp 26) (.tmp 27) _ rfl Q2 P rfl rfl hR hP r e3⟩) hS ?_
  simp only [Act.put, List.setIfInBounds_toArray, List.set_cons_zero, List.set_cons_succ]
  refine wpAnyH_take (i := 7) (oi := { dst := some 2, op := Op.assign (Operand.tmp 28), type := 4, pos := "l4_moving.go:107", after := #[{ on := 6, ground := Ground.data }, { on := 0, ground := Ground.phase }, { on := 1, ground := Ground.phase }, { on := 2, ground := Ground.phase }, { on := 3, ground := Ground.phase }, { on := 4, ground := Ground.phase }, { on := 5, ground := Ground.phase }, { on := 6, ground := Ground.phase }], guard := none }) (v := .bool r) rfl (by kernel_rfl) (by kernel_rfl) (by kernel_rfl) (fun _ _ _ h => hpan _ _ _ _ _ h) (.inl ⟨by rfl, fun _ _ => rfl⟩) hS ?_
  simp only [Act.put, List.setIfInBounds_toArray, List.set_cons_zero, List.set_cons_succ]
  exact wpAnyH_done (by kernel_rfl) (hK W.drew hS.2.2) _

end Go.Proofs.Ytpakihjkjdanlaa

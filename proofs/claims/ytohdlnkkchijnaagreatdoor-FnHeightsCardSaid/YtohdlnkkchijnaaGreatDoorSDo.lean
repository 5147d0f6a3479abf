/- What the model's builder of terms does at digits, variables and signs. -/
import Derived.Test.YtohdlnkkchijnaaGreatDoorMachT
import Derived.Test.YtohdlnkkchijnaaGreatDoorSKind
import Derived.Deep.RegionLaw
namespace Go.Proofs.YtohdlnkkchijnaaGreatDoor
open Go.RowKit

/-- How a step of the builder ends. -/
def DoP (n0 b : Nat) (v0 v1 v2 : Value) (r : Option MS) (w : World) (e : Ending) (w' : World) : Prop := Chg (BW b v0 v1 v2) w w' ∧ match r with
  | some m' => e = .returned (.bool true) ∧ ∃ u0 u1 u2 xs, BS w' n0 b m' u0 u1 u2 xs ∧ Fr3 w v0 u0 ∧ Fr3 w v1 u1 ∧ Fr3 w v2 u2
  | none => e = .returned (.bool false)
theorem doP_no {n0 b : Nat} {v0 v1 v2 : Value} {r : Option MS} {w w' : World} {e : Ending} (hr : r = none) (he : e = .returned (.bool false)) (hc : Chg (BW b v0 v1 v2) w w') : DoP n0 b v0 v1 v2 r w e w' := by
  subst hr; exact ⟨hc, he⟩
theorem doP_yes {n0 b : Nat} {v0 v1 v2 u0 u1 u2 : Value} {r : Option MS} {m' : MS} {w w' : World} {e : Ending} {xs : List (Int × Int × Value)} (hr : r = some m') (he : e = .returned (.bool true)) (hc : Chg (BW b v0 v1 v2) w w') (h : BS w' n0 b m' u0 u1 u2 xs) (f0 : Fr3 w v0 u0) (f1 : Fr3 w v1 u1) (f2 : Fr3 w v2 u2) : DoP n0 b v0 v1 v2 r w e w' := by
  subst hr; exact ⟨hc, he, u0, u1, u2, xs, h, f0, f1, f2⟩
theorem doP_ret {n0 b : Nat} {v0 v1 v2 : Value} {r : Option MS} {w w' : World} {e : Ending} (h : DoP n0 b v0 v1 v2 r w e w') : e = .returned (.bool r.isSome) := by
  obtain ⟨_, h⟩ := h
  cases r with
  | none => exact h
  | some m => exact h.1

theorem bs_pushAny {w : World} {n0 b : Nat} {m : MS} {v0 v1 v2 : Value} {xs : List (Int × Int × Value)} {a c : Int} {A0 : Option Addr} {k0 c0 : Nat} (h : BS w n0 b m v0 v1 v2 xs) (hl : xs.length ≤ 1000) (hn : n0 ≤ w.heap.size) :
    Calls Tryz.prog 102 #[.pointer (some ⟨b, 0, none⟩), .agg #[.int .u8 a, .int .u8 c, .slice A0 k0 c0]] w fun e w' => e = .returned (.tuple #[]) ∧ Chg (BW b v0 v1 v2) w w' :=
  (spush n0 b v0 v1 v2 a c A0 k0 c0 xs w h.box h.st (by omega) hn).mono (fun _ _ h => by
    obtain ⟨h1, u, _, _, h4, _⟩ := h
    exact ⟨h1, h4.mono (fun _ _ e => e.elim (fun e => .inl e) (fun e => .inr (.inl e)))⟩)
theorem own_new_ne {w : World} {n0 n size k : Nat} {e : TypeId} {v : Value} {xs : List Value} (h : w.ownsRow n0 e size v n xs) (hk : w.heap.size ≤ k) : v.ownBlock ≠ some k := fun e' => by have := (h.lt k e').2; omega

set_option maxRecDepth 100000 in
set_option maxHeartbeats 1000000 in
theorem sdo_leaf (n0 b : Nat) (x : ByteArray) (hs : x.size = 1) (t : Tm) (c : Int) (hc : ((x[0].toNat : Nat) : Int) = c) (hk : kS x = 97) (ht : (isD c = true ∧ t = .dig c) ∨ (isD c = false ∧ t = .var c)) (m : MS) (v0 v1 v2 : Value) (xs : List (Int × Int × Value)) (w : World) (h : BS w n0 b m v0 v1 v2 xs) (hl : xs.length ≤ 990) (hn : n0 ≤ w.heap.size) :
    Calls Tryz.prog 69 #[.pointer (some ⟨b, 0, none⟩), .string x] w (DoP n0 b v0 v1 v2 (some (t :: m.1, m.2)) w) := by
  have hlt : 0 < x.size := by omega
  have hd0 := UInt8.toNat_lt x[0]
  have HK := Lib.hid (fun w => skind_any x w)
  rw [hk] at HK
  have g1 := World.grownBy_alloc w (.cells #[] 52) none
  have h1 := h.grown g1
  have hrow := row_new (w := w) [] #[] rfl rfl (by simp)
  have hown : ∀ g, (Value.slice (some ⟨w.heap.size, 0, none⟩) 0 0).ownBlock = some g → v0.ownBlock ≠ some g := fun g hg => by
    cases hg; exact own_new_ne h.st (Nat.le_refl _)
  obtain ⟨ts, os⟩ := m
  rcases ht with ⟨hd, rfl⟩ | ⟨hd, rfl⟩
  · have hsn : SN (w.alloc (.cells #[] 52)) (fun k => v0.ownBlock ≠ some k) (.dig c) (48, c, .slice (some ⟨w.heap.size, 0, none⟩) 0 0) := ⟨rfl, rfl, hrow, hown⟩
    have HR := Lib.hid (bs_pushC h1 hsn (by omega) (by simp; omega))
    have HI := Lib.hid (fun w => in_any c 48 57 true hd w)
    have HG := Lib.hid g1
    have HH := Lib.hid h
    clear h h1 g1 hrow hown hd hk hsn
    go_enter Tryz.func69, Tryz.ntmps69
    go_wp2_with fail
    refine (HK.out w).mono ?_
    rintro e w' ⟨rfl, rfl⟩
    go_wp2_with fail
    refine (HI.out w').mono ?_
    rintro e w ⟨rfl, rfl⟩
    go_wp2_with fail
    refine HR.out.mono ?_
    rintro e w2 ⟨rfl, hc2, u0, xs', hb2, hf2⟩
    have HB2 := Lib.hid hb2
    have HC2 := Lib.hid (bw_trans (Chg.grown HG.out) hc2 (Fr3.refl _ _) (Fr3.refl _ _) (Fr3.refl _ _))
    have HF2 := Lib.hid (Fr3.trans (Fr3.refl w v0) hf2 HG.out.size)
    clear hb2 hc2 hf2
    go_wp2_with fail
    go_ret
    exact doP_yes rfl rfl HC2.out HB2.out HF2.out (Fr3.refl _ _) (Fr3.refl _ _)
  · have hsn : SN (w.alloc (.cells #[] 52)) (fun k => v0.ownBlock ≠ some k) (.var c) (97, c, .slice (some ⟨w.heap.size, 0, none⟩) 0 0) := ⟨rfl, rfl, hrow, hown⟩
    have HR := Lib.hid (bs_pushC h1 hsn (by omega) (by simp; omega))
    have HI := Lib.hid (fun w => in_any c 48 57 false hd w)
    have HG := Lib.hid g1
    have HH := Lib.hid h
    clear h h1 g1 hrow hown hd hk hsn
    go_enter Tryz.func69, Tryz.ntmps69
    go_wp2_with fail
    refine (HK.out w).mono ?_
    rintro e w' ⟨rfl, rfl⟩
    go_wp2_with fail
    refine (HI.out w').mono ?_
    rintro e w ⟨rfl, rfl⟩
    go_wp2_with fail
    refine HR.out.mono ?_
    rintro e w2 ⟨rfl, hc2, u0, xs', hb2, hf2⟩
    have HB2 := Lib.hid hb2
    have HC2 := Lib.hid (bw_trans (Chg.grown HG.out) hc2 (Fr3.refl _ _) (Fr3.refl _ _) (Fr3.refl _ _))
    have HF2 := Lib.hid (Fr3.trans (Fr3.refl w v0) hf2 HG.out.size)
    clear hb2 hc2 hf2
    go_wp2_with fail
    go_ret
    exact doP_yes rfl rfl HC2.out HB2.out HF2.out (Fr3.refl _ _) (Fr3.refl _ _)

set_option maxRecDepth 100000 in
set_option maxHeartbeats 1000000 in
theorem sdo_pre (n0 b : Nat) (x : ByteArray) (hs : x.size = 1) (c : Int) (hc : ((x[0].toNat : Nat) : Int) = c) (hk : kS x = 83) (m : MS) (v0 v1 v2 : Value) (xs : List (Int × Int × Value)) (w : World) (h : BS w n0 b m v0 v1 v2 xs) (hl : xs.length ≤ 990) (hl2 : m.2.length ≤ 990) (hn : n0 ≤ w.heap.size) :
    Calls Tryz.prog 69 #[.pointer (some ⟨b, 0, none⟩), .string x] w (DoP n0 b v0 v1 v2 (step (.pre c) m) w) := by
  have hlt : 0 < x.size := by omega
  have hd0 := UInt8.toNat_lt x[0]
  have HK := Lib.hid (fun w => skind_any x w)
  rw [hk] at HK
  clear hk
  obtain ⟨ts, os⟩ := m
  simp only at hl2
  cases ts with
  | nil =>
    have HP := Lib.hid (bs_popN h (by omega) (by omega))
    have H := Lib.hid h
    clear h
    go_enter Tryz.func69, Tryz.ntmps69
    go_wp2_with fail
    refine (HK.out w).mono ?_
    rintro e w' ⟨rfl, rfl⟩
    go_wp2_with fail
    refine HP.out.mono ?_
    rintro e w1 ⟨rfl, hg1⟩
    unfold nodeZ
    obtain ⟨w2, hw2⟩ : ∃ z, w1.alloc (.cells #[.int .u8 0, .int .u8 0, .slice none 0 0] 52) = z := ⟨_, rfl⟩
    have hb : C3 w2 w1.heap.size (.int .u8 0) (.int .u8 0) (.slice none 0 0) 52 := by rw [← hw2]; exact c3_new _ _ _ _ _
    obtain ⟨w2s, hw2s⟩ : ∃ z, ((w2.setCell ⟨w1.heap.size, 0, none⟩ (.int .u8 0)).setCell ⟨w1.heap.size, 1, none⟩ (.int .u8 0)).setCell ⟨w1.heap.size, 2, none⟩ (.slice none 0 0) = z := ⟨_, rfl⟩
    obtain ⟨w3, hw3⟩ : ∃ z, w2s.drew.alloc (.cells #[.int .u8 0, .int .u8 0, .slice none 0 0] 52) = z := ⟨_, rfl⟩
    have g12 : w1.grownBy w2 none := by rw [← hw2]; exact World.grownBy_alloc _ _ _
    have g2 : w1.grownBy w2s none := by rw [← hw2s]; exact gr_laid3n g12 (Nat.le_refl _) _ _ _
    have g3 : w2s.grownBy w3 none := by rw [← hw3]; exact (gr_drewN w2s 1 none).trans (World.grownBy_alloc w2s.drew _ none)
    have r0 := hb.c0
    have r1 := hb.c1
    have r2 := hb.c2
    have r3 := hb.f 0
    have r4 := hb.f 1
    have r5 := hb.f 2
    have hbs : C3 w2s w1.heap.size (.int .u8 0) (.int .u8 0) (.slice none 0 0) 52 := by rw [← hw2s]; exact hb.laid
    have q0 := hbs.c0
    have q1 := hbs.c1
    have q2 := hbs.c2
    have hb3 := hbs.grown g3 (by simp)
    have p0 := hb3.c0
    have p1 := hb3.c1
    have p2 := hb3.c2
    have h3 := ((H.out.grown hg1).grown g2).grown g3
    have hsz := ((hg1.trans g2).trans g3).size
    have HR := Lib.hid (fun (a c : Int) A0 k0 c0 => bs_pushAny (a := a) (c := c) (A0 := A0) (k0 := k0) (c0 := c0) h3 (by omega) (by omega))
    have HG := Lib.hid ((hg1.trans g2).trans g3)
    clear hg1 g2 g12 g3 hb hbs hb3 h3 hsz
    go_wp2_with fail
    go_region_law (go_simp
                   go_at_call 102
                   refine (HR.out _ _ _ _ _).mono ?_
                   rintro e w6 ⟨rfl, hc6⟩
                   have HC6 := Lib.hid hc6
                   clear hc6)
    all_goals
      go_wp2_with fail
      go_ret
      exact doP_no rfl rfl (bw_trans (Chg.grown HG.out) HC6.out (Fr3.refl _ _) (Fr3.refl _ _) (Fr3.refl _ _))
  | cons t ts =>
    obtain ⟨xa, xc, A0, k0, c0, hcall⟩ := bs_popC h (by omega) (by omega)
    have HP := Lib.hid hcall
    have H := Lib.hid h
    clear h hcall
    go_enter Tryz.func69, Tryz.ntmps69
    go_wp2_with fail
    refine (HK.out w).mono ?_
    rintro e w' ⟨rfl, rfl⟩
    go_wp2_with fail
    refine HP.out.mono ?_
    rintro e w1 ⟨rfl, hc1, u0, xs', hob, hb1, hsn, _⟩
    obtain ⟨w2, hw2⟩ : ∃ z, w1.alloc (.cells #[.int .u8 xa, .int .u8 xc, .slice A0 k0 c0] 52) = z := ⟨_, rfl⟩
    obtain ⟨w3, hw3⟩ : ∃ z, w2.drew.alloc (.cells #[.int .u8 xa, .int .u8 xc, .slice A0 k0 c0] 52) = z := ⟨_, rfl⟩
    have g2 : w1.grownBy w2 none := by rw [← hw2]; exact World.grownBy_alloc _ _ _
    have g3 : w2.grownBy w3 none := by rw [← hw3]; exact (gr_drewN w2 1 none).trans (World.grownBy_alloc w2.drew _ none)
    have hb : C3 w2 w1.heap.size (.int .u8 xa) (.int .u8 xc) (.slice A0 k0 c0) 52 := by rw [← hw2]; exact c3_new _ _ _ _ _
    have q0 := hb.c0
    have q1 := hb.c1
    have q2 := hb.c2
    have hb3 := hb.grown g3 (by simp)
    have p0 := hb3.c0
    have p1 := hb3.c1
    have p2 := hb3.c2
    have h3 := (hb1.grown g2).grown g3
    have hg23 := g2.trans g3
    have hsz := hg23.size
    have hsz1 := hc1.size
    have hlen := bs_len h3
    have hlen0 := bs_len H.out
    simp only [List.length_cons] at hlen hlen0
    have hrow : w3.ownsRow 0 52 3 (.slice (some ⟨w2.heap.size, 0, none⟩) 1 1) 1 (flat3 [(xa, xc, .slice A0 k0 c0)]) := by rw [← hw3]; exact row_new (w := w2.drew) [(xa, xc, .slice A0 k0 c0)] #[.int .u8 xa, .int .u8 xc, .slice A0 k0 c0] rfl rfl (by simp)
    have hsn3 : SN w3 (fun k => u0.ownBlock ≠ some k) (.pre c t) (c, 0, .slice (some ⟨w2.heap.size, 0, none⟩) 1 1) :=
      ⟨rfl, rfl, (xa, xc, .slice A0 k0 c0), hrow, fun g hg => by cases hg; exact own_new_ne hb1.st g2.size, by rw [hob]; exact (hsn.grown g2).grown g3⟩
    have HR := Lib.hid (bs_pushC h3 hsn3 (by omega) (by omega))
    have HC1 := Lib.hid hc1
    have HG := Lib.hid hg23
    have HOB := Lib.hid hob
    clear hc1 hb1 hsn g2 g3 hb hb3 h3 hg23 hsz hsz1 hlen hlen0 hrow hsn3 hob
    go_wp2_with fail
    go_region_law (go_simp
                   go_at_call 102
                   refine HR.out.mono ?_
                   rintro e w6 ⟨rfl, hc6, u6, xs6, hb6, hf6⟩
                   have HC6 := Lib.hid hc6
                   have HB6 := Lib.hid hb6
                   have HF6 := Lib.hid hf6
                   clear hc6 hb6 hf6)
    all_goals
      go_wp2_with fail
      go_ret
      have hfu : Fr3 w' v0 u0 := fun g hg => .inl (HOB.out ▸ hg)
      have hcg : Chg (BW b v0 v1 v2) w' w3 := (HC1.out.mono (fun _ _ e => .inl e) : Chg (BW b v0 v1 v2) w' w1).trans (Chg.grown (wr := BW b v0 v1 v2) HG.out) (fun _ _ e => e) (fun _ _ e => e)
      exact doP_yes rfl rfl (bw_trans hcg HC6.out hfu (Fr3.refl _ _) (Fr3.refl _ _)) HB6.out (hfu.trans HF6.out hcg.size) (Fr3.refl _ _) (Fr3.refl _ _)

end Go.Proofs.YtohdlnkkchijnaaGreatDoor

/- What the model's builder of terms does where a loop ends. -/
import Derived.Test.YtohdlnkkchijnaaGreatDoorSDo
import Derived.Test.YtohdlnkkchijnaaGreatDoorSCut
namespace Go.Proofs.YtohdlnkkchijnaaGreatDoor
open Go.RowKit

theorem strs2_ix {c v : Int} (h0 : 0 ≤ c) (h1 : c ≤ 255) (h2 : 0 ≤ v) (h3 : v ≤ 255) : (strOfNums [c, v]).size = 2 ∧ ∀ (hs : 0 < (strOfNums [c, v]).size) (hs1 : 1 < (strOfNums [c, v]).size), ((((strOfNums [c, v])[0]'hs).toNat : Nat) : Int) = c ∧ ((((strOfNums [c, v])[1]'hs1).toNat : Nat) : Int) = v := by
  have e : strOfNums [c, v] = ⟨#[byt c, byt v]⟩ := by
    apply ByteArray.ext
    apply Array.toList_inj.1
    rw [strOfNums_data]; rfl
  refine ⟨by rw [e]; rfl, ?_⟩
  have key : ∀ (s : ByteArray) (_ : s = ⟨#[byt c, byt v]⟩) (hs : 0 < s.size) (hs1 : 1 < s.size), (((s[0]'hs).toNat : Nat) : Int) = c ∧ (((s[1]'hs1).toNat : Nat) : Int) = v := by
    rintro s rfl hs hs1
    exact ⟨byt_back h0 h1, byt_back h2 h3⟩
  exact key _ e

/-- A row of strings, of ints, with its last thing known. -/
theorem bs_lastS {w : World} {n0 n : Nat} {v : Value} {l : List Value} {x : Value} (h : w.ownsRow n0 9 1 v (n + 1) (l ++ [x])) : ∃ g c, v = .slice (some ⟨g, 0, none⟩) (n + 1) c ∧ n + 1 ≤ c ∧ w.cell? ⟨g, n, none⟩ = some x ∧ ∃ l', w.ownsRow n0 9 1 (.slice (some ⟨g, 0, none⟩) n c) n l' ∧ l' = l := by
  obtain ⟨A, k, c, rfl⟩ := own_form h
  obtain rfl := own_len h
  obtain ⟨g, rfl, _, hc, hl, hx⟩ := own_last h
  exact ⟨g, c, rfl, hc, hx, l, own_short h (by omega) (by omega), rfl⟩
theorem bs_lastI {w : World} {n0 n : Nat} {v : Value} {l : List Value} {x : Value} (h : w.ownsRow n0 3 1 v (n + 1) (l ++ [x])) : ∃ g c, v = .slice (some ⟨g, 0, none⟩) (n + 1) c ∧ n + 1 ≤ c ∧ w.cell? ⟨g, n, none⟩ = some x ∧ ∃ l', w.ownsRow n0 3 1 (.slice (some ⟨g, 0, none⟩) n c) n l' ∧ l' = l := by
  obtain ⟨A, k, c, rfl⟩ := own_form h
  obtain rfl := own_len h
  obtain ⟨g, rfl, _, hc, hl, hx⟩ := own_last h
  exact ⟨g, c, rfl, hc, hx, l, own_short h (by omega) (by omega), rfl⟩

set_option maxRecDepth 100000 in
set_option maxHeartbeats 2000000 in
theorem send_none (n0 b : Nat) (c : Int) (ts : List Tm) (v0 v1 v2 : Value) (xs : List (Int × Int × Value)) (w : World) (h : BS w n0 b (ts, []) v0 v1 v2 xs) :
    Calls Tryz.prog 104 #[.pointer (some ⟨b, 0, none⟩), .int .u8 c] w (DoP n0 b v0 v1 v2 none w) := by
  obtain ⟨A, k, cc, rfl⟩ := own_form h.lo
  have hk := own_len h.lo
  simp only [List.length_nil] at hk
  subst hk
  have e1 := h.box.c1
  clear h
  go_enter Tryz.func104, Tryz.ntmps104
  go_wp2_with fail
  go_quiet (fail)
  go_wp2_with fail
  go_ret
  exact doP_no rfl rfl (Chg.grown (gr_drewN _ _ none))

set_option maxRecDepth 100000 in
set_option maxHeartbeats 4000000 in
/-- The last loop is another one, or there is not one term within it. -/
theorem send_bad (n0 b : Nat) (c : Int) (ts : List Tm) (o : Out) (os : List Out) (v0 v1 v2 : Value) (xs : List (Int × Int × Value)) (w : World) (h : BS w n0 b (ts, o :: os) v0 v1 v2 xs) (hl : xs.length ≤ 990) (hl2 : os.length ≤ 990) (ho : o.c = 91 ∨ o.c = 123) (hv : isL o.v = true) (hbad : o.c + 2 ≠ c ∨ ts.length ≠ 1) :
    Calls Tryz.prog 104 #[.pointer (some ⟨b, 0, none⟩), .int .u8 c] w (DoP n0 b v0 v1 v2 none w) := by
  have hlo := h.lo
  have hba := h.ba
  simp only [lpS, bsI, List.map_append, List.map_cons, List.map_nil, List.length_cons] at hlo hba
  obtain ⟨g1, c1, rfl, hc1, x1, _⟩ := bs_lastS hlo
  obtain ⟨g2, c2, rfl, hc2, x2, _⟩ := bs_lastI hba
  obtain ⟨A, k, cc, rfl⟩ := own_form h.st
  obtain rfl := own_len h.st
  have hlen := bs_len h
  have hvb := isL_ge hv
  obtain ⟨hs2, hix⟩ := strs2_ix (c := o.c) (v := o.v) (by omega) (by omega) (by omega) (by omega)
  have e0 := h.box.c0
  have e1 := h.box.c1
  have e2 := h.box.c2
  obtain ⟨S, hS⟩ : ∃ S, strOfNums [o.c, o.v] = S := ⟨_, rfl⟩
  rw [hS] at hs2 hix x1
  have hl0 : 0 < S.size := by omega
  have hl1 : 1 < S.size := by omega
  have hi0 := (hix hl0 hl1).1
  obtain ⟨nx, hnx⟩ : ∃ n, xs.length = n := ⟨_, rfl⟩
  obtain ⟨f, hff⟩ : ∃ f, (low (o :: os)).length = f := ⟨_, rfl⟩
  obtain ⟨n, hn⟩ : ∃ n, os.length = n := ⟨_, rfl⟩
  simp only at hlen
  rw [hff] at x2 hlen
  rw [hnx] at e0 hlen hl ⊢
  rw [hn] at x1 x2 e1 e2 hl2 hc1 hc2 ⊢
  have hnn : ((n : Nat) : Int) < ((n : Nat) : Int) + 1 := by omega
  have hne1 : ((((n : Nat) : Int) + 1) == 0) = false := by simp; omega
  obtain ⟨oc, hoc⟩ : ∃ z, o.c = z := ⟨_, rfl⟩
  rw [hoc] at hi0 ho hbad
  have hwf : wrap64 (((f : Nat) : Int) + 1) = ((f : Nat) : Int) + 1 := by unfold wrap64; omega
  have hwr : IntKind.u8.wrap (oc + 2) = oc + 2 := by rcases ho with e | e <;> rw [e] <;> rfl
  clear h hlo hba hix hS hff hn hnx hoc hs2 hl1
  by_cases hcc : oc + 2 = c
  · have hts : ts.length ≠ 1 := hbad.resolve_left (fun e => e hcc)
    have hb1 : ((oc + 2) != c) = false := by simpa using hcc
    have hb2 : (((nx : Nat) : Int) != ((f : Nat) : Int) + 1) = true := by simp; omega
    clear hbad hts hlen hcc
    go_enter Tryz.func104, Tryz.ntmps104
    go_wp2_with fail
    go_quiet (fail)
    go_wp2_with fail
    go_ret
    exact doP_no rfl rfl (Chg.grown (gr_drewN _ _ none))
  · have hb1 : ((oc + 2) != c) = true := by simpa using hcc
    clear hbad hlen hcc
    go_enter Tryz.func104, Tryz.ntmps104
    go_wp2_with fail
    go_quiet (fail)
    go_wp2_with fail
    go_ret
    exact doP_no rfl rfl (Chg.grown (gr_drewN _ _ none))

theorem bs_unloop {w w' : World} {n0 b : Nat} {o : Out} {os : List Out} {u0 v1 v2 s1 s2 : Value} {xs : List (Int × Int × Value)} (h : BS w n0 b ([], o :: os) u0 v1 v2 xs) (hb : C3 w' b u0 s1 s2 129) (hr1 : w.ownsRow n0 9 1 s1 os.length ((lpS os).map Value.string)) (hr2 : w.ownsRow n0 3 1 s2 os.length ((bsI os).map (Value.int .i64))) (hc : Chg (fun k => k = b) w w') :
    BS w' n0 b (o.over :: o.low, os) u0 s1 s2 xs := by
  have hnb : ∀ {size n : Nat} {e : TypeId} {v : Value} {ys : List Value}, e ≠ 129 → w.ownsRow n0 e size v n ys → w'.ownsRow n0 e size v n ys := fun he ho =>
    own_keep ho (fun g hg => hc.same g (ho.lt g hg).2 (fun e' => own_not ho h.box (fun e2 => he e2.symm) (e' ▸ hg)))
  refine ⟨h.base, hb, hnb (by decide) h.st, ?_, hnb (by decide) hr1, hnb (by decide) hr2⟩
  have e : flatS ((o.over :: o.low, os) : MS) = flatS (([], o :: os) : MS) := by simp [flatS, low]
  rw [e]
  exact All2.mono (fun t N ht => bs_sn h (hc.mono (fun _ _ e => .inl e)) (Fr3.refl w u0) t N ht) _ _ h.sn

set_option maxRecDepth 100000 in
set_option maxHeartbeats 4000000 in
theorem send_ok (n0 b : Nat) (c : Int) (y : Tm) (o : Out) (os : List Out) (v0 v1 v2 : Value) (xs : List (Int × Int × Value)) (w : World) (h : BS w n0 b ([y], o :: os) v0 v1 v2 xs) (hl : xs.length ≤ 990) (hl2 : os.length ≤ 990) (hn0 : n0 ≤ w.heap.size) (ho : o.c = 91 ∨ o.c = 123) (hv : isL o.v = true) (hcc : o.c + 2 = c) :
    Calls Tryz.prog 104 #[.pointer (some ⟨b, 0, none⟩), .int .u8 c] w (DoP n0 b v0 v1 v2 (some (.loop o.c o.v o.over y :: o.low, os)) w) := by
  have H := Lib.hid h
  have hlo := h.lo
  have hba := h.ba
  simp only [lpS, bsI, List.map_append, List.map_cons, List.map_nil, List.length_cons] at hlo hba
  obtain ⟨g1, c1, rfl, hc1, x1, l1, hr1, rfl⟩ := bs_lastS hlo
  obtain ⟨g2, c2, rfl, hc2, x2, l2, hr2, rfl⟩ := bs_lastI hba
  obtain ⟨A, k, cc, rfl⟩ := own_form h.st
  obtain rfl := own_len h.st
  have hlen := bs_len h
  have hvb := isL_ge hv
  obtain ⟨hs2, hix⟩ := strs2_ix (c := o.c) (v := o.v) (by omega) (by omega) (by omega) (by omega)
  have e0 := h.box.c0
  have e1 := h.box.c1
  have e2 := h.box.c2
  obtain ⟨S, hS⟩ : ∃ S, strOfNums [o.c, o.v] = S := ⟨_, rfl⟩
  rw [hS] at hs2 hix x1
  have hl0 : 0 < S.size := by omega
  have hl1 : 1 < S.size := by omega
  have hli1 : (1 : Int) < (S.size : Int) := by omega
  have hi0 := (hix hl0 hl1).1
  have hi1 := (hix hl0 hl1).2
  obtain ⟨nx, hnx⟩ : ∃ n, xs.length = n := ⟨_, rfl⟩
  obtain ⟨f, hff⟩ : ∃ f, (low (o :: os)).length = f := ⟨_, rfl⟩
  obtain ⟨n, hn⟩ : ∃ n, os.length = n := ⟨_, rfl⟩
  have HN := Lib.hid (And.intro hnx hn)
  simp only [List.length_cons, List.length_nil] at hlen
  rw [hff] at x2 hlen
  rw [hnx] at e0 hlen hl H ⊢
  rw [hn] at x1 x2 e1 e2 hl2 hc1 hc2 hr1 hr2 H ⊢
  have hnn : ((n : Nat) : Int) < ((n : Nat) : Int) + 1 := by omega
  have hne1 : ((((n : Nat) : Int) + 1) == 0) = false := by simp; omega
  obtain ⟨oc, hoc⟩ : ∃ z, o.c = z := ⟨_, rfl⟩
  obtain ⟨ov, hov⟩ : ∃ z, o.v = z := ⟨_, rfl⟩
  have HOC := Lib.hid (And.intro hoc hov)
  rw [hoc] at hi0 ho hcc
  rw [hov] at hi1
  have hwf : wrap64 (((f : Nat) : Int) + 1) = ((f : Nat) : Int) + 1 := by unfold wrap64; omega
  have hwr : IntKind.u8.wrap (oc + 2) = oc + 2 := by rcases ho with e | e <;> rw [e] <;> rfl
  have hb1 : ((oc + 2) != c) = false := by simpa using hcc
  have hb2 : (((nx : Nat) : Int) != ((f : Nat) : Int) + 1) = false := by simp; omega
  have HR := Lib.hid (And.intro hr1 hr2)
  have hcz1 : ¬ c1 = 0 := by omega
  have hcz2 : ¬ c2 = 0 := by omega
  clear h hlo hba hix hS hff hn hnx hoc hov hs2 hlen hcc hr1 hr2
  go_enter Tryz.func104, Tryz.ntmps104
  go_wp2_with fail
  go_quiet (fail)
  obtain ⟨q0, hq0⟩ : ∃ q, nq = q := ⟨_, rfl⟩
  go_wp2_with fail
  go_quiet (fail)
  go_wp2_with fail
  clear hq0
  obtain ⟨xa, xc, A0, k0, c0, hcall⟩ := bs_popC (H.out.grown (gr_drewN w (q0 + nq) none)) (by have := HN.out.1; omega) (by have := HN.out.2; simp; omega)
  refine hcall.mono ?_
  rintro e w1 ⟨rfl, hc1, u0, xs', hob, hb1, hsn, _⟩
  obtain ⟨w2, hw2⟩ : ∃ z, w1.alloc (.cells #[.int .u8 xa, .int .u8 xc, .slice A0 k0 c0] 52) = z := ⟨_, rfl⟩
  have gw2 : w1.grownBy w2 none := by rw [← hw2]; exact World.grownBy_alloc _ _ _
  have hbx2 : C3 w2 w1.heap.size (.int .u8 xa) (.int .u8 xc) (.slice A0 k0 c0) 52 := by rw [← hw2]; exact c3_new _ _ _ _ _
  have h2 := hb1.grown gw2
  obtain ⟨w3, hw3⟩ : ∃ z, w2.setCell ⟨b, 1, none⟩ (.slice (some ⟨g1, 0, none⟩) n c1) = z := ⟨_, rfl⟩
  obtain ⟨w4, hw4⟩ : ∃ z, w3.setCell ⟨b, 2, none⟩ (.slice (some ⟨g2, 0, none⟩) n c2) = z := ⟨_, rfl⟩
  have hx2 := h2.box
  have hx3 : C3 w3 b u0 (.slice (some ⟨g1, 0, none⟩) n c1) (.slice (some ⟨g2, 0, none⟩) (n + 1) c2) 129 := by rw [← hw3]; exact hx2.set1 _
  have hx4 : C3 w4 b u0 (.slice (some ⟨g1, 0, none⟩) n c1) (.slice (some ⟨g2, 0, none⟩) n c2) 129 := by rw [← hw4]; exact hx3.set2 _
  have a1 := hx2.c1
  have af := hx2.f 1
  have b2 := hx3.c2
  have bf := hx3.f 2
  have hgd : w.grownBy (w.drewN (q0 + nq)) none := gr_drewN w (q0 + nq) none
  have hkeep : ∀ {size m : Nat} {e : TypeId} {v : Value} {ys : List Value}, e ≠ 129 → w.ownsRow n0 e size v m ys → w2.ownsRow n0 e size v m ys := fun he ho' => by
    have hd : (w.drewN (q0 + nq)).ownsRow n0 _ _ _ _ _ := own_keep ho' (fun k hk => hgd.block k (ho'.lt k hk).2 (by simp))
    have h1 : w1.ownsRow n0 _ _ _ _ _ := own_keep hd (fun g hg => hc1.same g (hd.lt g hg).2 (fun e' => own_not ho' H.out.box (fun e2 => he e2.symm) (e' ▸ hg)))
    exact own_keep h1 (fun k hk => gw2.block k (h1.lt k hk).2 (by simp))
  have r1 := hkeep (by decide) HR.out.1
  have r2 := hkeep (by decide) HR.out.2
  have hc24 : Chg (fun k => k = b) w2 w4 := by
    rw [← hw4]
    refine chg_set ?_ rfl
    rw [← hw3]
    exact chg_set (Chg.refl _ _) rfl
  have h4 := bs_unloop h2 hx4 (by rw [HN.out.2]; exact r1) (by rw [HN.out.2]; exact r2) hc24
  have hcw4 : Chg (BW b (.slice A nx cc) (.slice (some ⟨g1, 0, none⟩) (n + 1) c1) (.slice (some ⟨g2, 0, none⟩) (n + 1) c2)) w w4 :=
    (((Chg.grown hgd).trans (hc1.mono (fun _ _ e => .inl e)) (fun _ _ e => e) (fun _ _ e => e)).trans (Chg.grown (wr := BW b (.slice A nx cc) (.slice (some ⟨g1, 0, none⟩) (n + 1) c1) (.slice (some ⟨g2, 0, none⟩) (n + 1) c2)) gw2) (fun _ _ e => e) (fun _ _ e => e)).trans hc24 (fun _ _ e => e) (fun _ _ e => .inl e)
  have hbx4 : C3 w4 w1.heap.size (.int .u8 xa) (.int .u8 xc) (.slice A0 k0 c0) 52 := (hc24.same _ hbx2.lt (fun e => by
    have h1 := hbx2
    have h3 := hx2
    unfold C3 at h1 h3
    rw [e, h3] at h1
    cases h1)).trans hbx2
  have HSN := Lib.hid (hsn.grown gw2)
  have HSK := Lib.hid (fun (S : Nat → Prop) t N (ht : SN w2 S t N) => (SN.keepT (S' := S) (fun k cs fr _ hh => (hc24.same k (blk_lt hh) (fun e => by
    subst e
    have h3 := hx2
    unfold C3 at h3
    rw [h3] at hh
    cases hh)).trans hh) (fun _ hs _ => hs) t N ht : SN w4 S t N))
  have H4 := Lib.hid h4
  have HC4 := Lib.hid hcw4
  have HB4 := Lib.hid hbx4
  have HOB := Lib.hid hob
  have HL4 := Lib.hid (bs_len h4)
  have HL0 := Lib.hid (bs_len H.out)
  clear hcall hc1 hb1 hsn gw2 hbx2 h2 hx2 hx3 hx4 hgd r1 r2 hc24 h4 hcw4 hbx4 hob
  go_wp2_with fail
  go_region
  go_wp2_with fail
  go_region
  go_wp2_with fail
  have h4' : BS w4.drew.drew n0 b (o.over :: o.low, os) u0 (.slice (some ⟨g1, 0, none⟩) n c1) (.slice (some ⟨g2, 0, none⟩) n c2) xs' := H4.out.grown (gr_drewN w4 2 none)
  have hbound : xs'.length ≤ 990 := by
    have a1 := HL4.out
    have a2 := HL0.out
    have a3 := HN.out.1
    simp [low] at a1 a2
    omega
  have hsz4 : n0 ≤ w4.drew.drew.heap.size := Nat.le_trans hn0 (Nat.le_trans HC4.out.size (gr_drewN w4 2 none).size)
  have hlen4 := bs_len h4'
  obtain ⟨ya, yc, B0, j0, d0, hcall2⟩ := bs_popC h4' (by omega) (by have := HN.out.2; omega)
  refine hcall2.mono ?_
  rintro e w5 ⟨rfl, hc5, u3, xs3, hob3, hb3, hsn3, hk3⟩
  have hx5 : C3 w5 w1.heap.size (.int .u8 xa) (.int .u8 xc) (.slice A0 k0 c0) 52 := by
    have h1 : C3 w4.drew.drew w1.heap.size (.int .u8 xa) (.int .u8 xc) (.slice A0 k0 c0) 52 := HB4.out.grown (gr_drewN w4 2 none) (by simp)
    unfold C3 at h1 ⊢
    refine (hc5.same _ (blk_lt h1) (fun e => ?_)).trans h1
    have h3 := h4'.box
    unfold C3 at h3
    rw [← e, h1] at h3
    cases h3
  obtain ⟨w6, hw6⟩ : ∃ z, w5.alloc (.cells #[.int .u8 ya, .int .u8 yc, .slice B0 j0 d0] 52) = z := ⟨_, rfl⟩
  have gw6 : w5.grownBy w6 none := by rw [← hw6]; exact World.grownBy_alloc _ _ _
  have by8 : C3 w6 w5.heap.size (.int .u8 ya) (.int .u8 yc) (.slice B0 j0 d0) 52 := by rw [← hw6]; exact c3_new _ _ _ _ _
  have bx := hx5.grown gw6 (by simp)
  obtain ⟨w7, hw7⟩ : ∃ z, w6.drew.alloc (.cells #[.int .u8 ya, .int .u8 yc, .slice B0 j0 d0, .int .u8 xa, .int .u8 xc, .slice A0 k0 c0] 52) = z := ⟨_, rfl⟩
  have g7 : w6.grownBy w7 none := by rw [← hw7]; exact (gr_drewN w6 1 none).trans (World.grownBy_alloc w6.drew _ none)
  have x7 := bx.grown g7 (by simp)
  have y7 := by8.grown g7 (by simp)
  have s0 := bx.c0
  have s1 := bx.c1
  have s2 := bx.c2
  have s3 := by8.c0
  have s4 := by8.c1
  have s5 := by8.c2
  have t0 := x7.c0
  have t1 := x7.c1
  have t2 := x7.c2
  have t3 := y7.c0
  have t4 := y7.c1
  have t5 := y7.c2
  have gall := gw6.trans g7
  have h7 := hb3.grown gall
  have hsz := gall.size
  have hsz3 := hc5.size
  have hsz6 := gw6.size
  have hlen7 := bs_len h7
  simp only [List.length_cons] at hlen7 hlen4
  have hrow : w7.ownsRow 0 52 3 (.slice (some ⟨w6.heap.size, 0, none⟩) 2 2) 2 (flat3 [(ya, yc, .slice B0 j0 d0), (xa, xc, .slice A0 k0 c0)]) := by rw [← hw7]; exact row_new (w := w6.drew) [(ya, yc, .slice B0 j0 d0), (xa, xc, .slice A0 k0 c0)] #[.int .u8 ya, .int .u8 yc, .slice B0 j0 d0, .int .u8 xa, .int .u8 xc, .slice A0 k0 c0] rfl rfl (by simp)
  have hne : ∀ g, (Value.slice (some ⟨w6.heap.size, 0, none⟩) 2 2).ownBlock = some g → u3.ownBlock ≠ some g := fun g hg => by cases hg; exact own_new_ne hb3.st hsz6
  have hsn4 : SN w4.drew.drew (fun k => (Value.slice A nx cc).ownBlock ≠ some k) y (xa, xc, .slice A0 k0 c0) := SN.grown (HSK.out _ _ _ HSN.out) (gr_drewN w4 2 none)
  have hsn7 : SN w7 (fun k => u3.ownBlock ≠ some k) (.loop oc ov o.over y) (oc, ov, .slice (some ⟨w6.heap.size, 0, none⟩) 2 2) :=
    ⟨rfl, rfl, (ya, yc, .slice B0 j0 d0), (xa, xc, .slice A0 k0 c0), hrow, hne, by rw [hob3]; exact hsn3.grown gall, by rw [hob3, HOB.out]; exact (hk3 _ _ _ hsn4).grown gall⟩
  have HR := Lib.hid (bs_pushC h7 hsn7 (by omega) (by omega))
  have HC5 := Lib.hid hc5
  have HG := Lib.hid gall
  have HOB3 := Lib.hid hob3
  clear hcall2 hc5 hb3 hsn3 hk3 gw6 hx5 bx by8 x7 y7 g7 gall h7 hsz hsz3 hsz6 hlen7 hlen4 hrow hne hsn7 hsn4 hob3 h4' hbound hsz4
  go_wp2_with fail
  go_region_law (go_simp
                 go_at_call 102
                 refine HR.out.mono ?_
                 rintro e w8 ⟨rfl, hc8, u8, xs8, hb8, hf8⟩
                 have HC8 := Lib.hid hc8
                 have HB8 := Lib.hid hb8
                 have HF8 := Lib.hid hf8
                 clear hc8 hb8 hf8)
  all_goals
    go_wp2_with fail
    go_ret
    have hfu : Fr3 w (.slice A nx cc) u3 := fun g hg => .inl (by rw [HOB3.out, HOB.out] at hg; exact hg)
    have f1 : Fr3 w (.slice (some ⟨g1, 0, none⟩) (n + 1) c1) (.slice (some ⟨g1, 0, none⟩) n c1) := fun g hg => .inl hg
    have f2 : Fr3 w (.slice (some ⟨g2, 0, none⟩) (n + 1) c2) (.slice (some ⟨g2, 0, none⟩) n c2) := fun g hg => .inl hg
    have k1 := HC4.out.trans (Chg.grown (wr := BW b (.slice A nx cc) (.slice (some ⟨g1, 0, none⟩) (n + 1) c1) (.slice (some ⟨g2, 0, none⟩) (n + 1) c2)) (gr_drewN w4 2 none)) (fun _ _ e => e) (fun _ _ e => e)
    have k2 := k1.trans HC5.out (fun _ _ e => e) (fun _ _ e => .inl e)
    have k3 := k2.trans (Chg.grown (wr := BW b (.slice A nx cc) (.slice (some ⟨g1, 0, none⟩) (n + 1) c1) (.slice (some ⟨g2, 0, none⟩) (n + 1) c2)) HG.out) (fun _ _ e => e) (fun _ _ e => e)
    exact doP_yes (by rw [HOC.out.1, HOC.out.2]) rfl (bw_trans k3 HC8.out hfu f1 f2) HB8.out (hfu.trans HF8.out k3.size) f1 f2

end Go.Proofs.YtohdlnkkchijnaaGreatDoor

/- l5Replace of the model at terms that are not the variable itself; at whatever term. -/
import Derived.Test.YtmofoeljajdhmaaSRepS
namespace Go.Proofs.Ytmofoeljajdhmaa
open Go.RowKit

theorem cell3_new (w : World) (x y z : Value) (ty : TypeId) : ∀ j u, [x, y, z][j]? = some u → (w.alloc (.cells #[x, y, z] ty)).cell? ((⟨w.heap.size, 0, none⟩ : Addr).add j) = some u := by
  intro j u hj
  have hadd : (⟨w.heap.size, 0, none⟩ : Addr).add j = ⟨w.heap.size, j, none⟩ := by unfold Addr.add; split <;> simp_all
  rw [hadd]
  match j, hj with
  | 0, hj => simp at hj; subst hj; exact (c3_new w x y z ty).c0
  | 1, hj => simp at hj; subst hj; exact (c3_new w x y z ty).c1
  | 2, hj => simp at hj; subst hj; exact (c3_new w x y z ty).c2
  | j + 3, hj => simp at hj
theorem good12 {x : Bool} {j : Nat} {A B : Bool} {fb : Bool} {b : Int} (h : A = (B && (x && (decide (j = 0) || (decide (b = 0) || !fb))))) (hg : true = B) (hj : ((j : Int) == 0) = true) : x = A := by
  have hj9 : j = 0 := by rw [beq_iff_eq] at hj; omega
  rw [h, ← hg]
  simp [hj9]
theorem good3 {x gd : Bool} {j : Nat} {A B : Bool} {fb : Bool} {b : Int} {r : Bool} (h : A = (B && (x && (decide (j = 0) || (decide (b = 0) || !fb))))) (hg : gd = B) (hj : ((j : Int) == 0) = false)
    (hc : (gd = false ∧ r = false) ∨ (x = false ∧ r = false) ∨ (gd = true ∧ x = true ∧ b = 0 ∧ r = true) ∨ (gd = true ∧ x = true ∧ b ≠ 0 ∧ r = !fb)) : r = A := by
  have hj9 : ¬ j = 0 := by rw [beq_eq_false_iff_ne] at hj; omega
  rw [h, ← hg]
  rcases hc with ⟨h1, h2⟩ | ⟨h1, h2⟩ | ⟨h1, h2, h3, h4⟩ | ⟨h1, h2, h3, h4⟩ <;> simp_all
theorem take_snoc5 {α : Type} {l : List α} {j : Nat} {x : α} (h : l[j]? = some x) : l.take j ++ [x] = l.take (j + 1) := by rw [List.take_add_one, h]; rfl

set_option maxRecDepth 100000 in
set_option maxHeartbeats 8000000 in
theorem srep_go (t u : Tm) (a b v ua ub : Int) (A UA : Option Addr) (k c uk uc : Nat) (S : Nat → Prop) (w : World) (hok : t.Ok) (huok : u.Ok) (hv0 : 0 < v) (hsz : t.size ≤ 1000000)
    (hn : ∀ c, t = .var c → c ≠ v) (hS : ∀ x, S x → x < w.heap.size) (ht : SN w S t (a, b, .slice A k c)) (hu : SN w S u (ua, ub, .slice UA uk uc))
    (ih : ∀ x ∈ t.kids, ∀ (a2 b2 : Int) (A2 : Option Addr) (k2 c2 : Nat) (w' : World), w.grownBy w' none → SN w' S x (a2, b2, .slice A2 k2 c2) → Calls Try.prog 77 #[.agg #[.int .u8 a2, .int .u8 b2, .slice A2 k2 c2], .int .u8 v, .agg #[.int .u8 ua, .int .u8 ub, .slice UA uk uc]] w' (SRP (x.rep v u) (!x.binds v u) S w')) :
    Calls Try.prog 77 #[.agg #[.int .u8 a, .int .u8 b, .slice A k c], .int .u8 v, .agg #[.int .u8 ua, .int .u8 ub, .slice UA uk uc]] w (SRP (t.rep v u) (!t.binds v u) S w) := by
  obtain ⟨i0, hi0, hz0, hz1, hz2⟩ := info_parts infoNode
  have HT := Lib.hid ht
  have HU := Lib.hid hu
  have HI := Lib.hid ih
  have HOK := Lib.hid hok
  obtain ⟨xs, hox, hax⟩ := ht.kids
  obtain ⟨hk, hkc, hrow⟩ := srow3 hox
  have hlen := All2.length _ _ hax
  have HKL := Lib.hid hk
  have HLEN := Lib.hid hlen
  have HROW := Lib.hid hrow
  have HA := Lib.hid hax
  have hk2 : k ≤ 2 := by have := kids_len t; omega
  have HHIT : Hid ((a == 97) = true → (b == v) = false) := Lib.hid (fun h97 => by
    rw [beq_iff_eq] at h97
    cases hvr : t.isV with
    | true =>
      cases t <;> try cases hvr
      rename_i cc
      obtain ⟨_, h2, _⟩ := ht
      simp only at h2
      rw [beq_eq_false_iff_ne, h2]
      exact hn cc rfl
    | false => exact absurd h97 (ht.novar hok hvr))
  have HSN := Lib.hid (fun (w' : World) (S' : Nat → Prop) (sv' : Value) (ys : List (Int × Int × Value)) ho hS' ha => sn_made (w := w') (S' := S') (v := v) (u := u) (sv' := sv') (ys := ys) ht hn ho hS' ha)
  have HSTAY := Lib.hid (fun (j : Nat) (x : Tm) hj hs => rep_stay (v := v) (u := u) (j := j) (x := x) hok ht hv0 hj hs)
  have HTURN := Lib.hid (fun (j : Nat) (x : Tm) hj hs hf => rep_turn (v := v) (u := u) (j := j) (x := x) hok ht hj hs hf)
  have HB0 : Hid (b = 0 ∨ 0 < b) := Lib.hid (by
    cases t with
    | dig c => obtain ⟨_, h2, _⟩ := ht; simp only at h2; have := isD_ge hok; omega
    | var c => obtain ⟨_, h2, _⟩ := ht; simp only at h2; have := isV_ge hok; omega
    | pre c s => obtain ⟨_, h2, _⟩ := ht; simp only at h2; omega
    | two c s t => obtain ⟨_, h2, _⟩ := ht; simp only at h2; omega
    | loop c i s t => obtain ⟨_, h2, _⟩ := ht; simp only at h2; have := isL_ge hok.2.1; omega)
  have HGL := Lib.hid (gdL_all t v u)
  have HRKL := Lib.hid (repK_len t v u)
  have HGLL := Lib.hid (gdL_len t v u)
  have HKS := Lib.hid (csum_kids t)
  obtain ⟨res, hres⟩ : ∃ r, (!t.binds v u) = r := ⟨_, rfl⟩
  rw [hres]
  have HRES := Lib.hid hres
  obtain ⟨h, hh⟩ : ∃ h, w.heap.size = h := ⟨_, rfl⟩
  obtain ⟨w1, hw1⟩ : ∃ w1, w.alloc (.cells #[.int .u8 a, .int .u8 b, .slice A k c] TN) = w1 := ⟨_, rfl⟩
  have z1 : w1.heap.size = h + 1 := by rw [← hw1, World.size_alloc, hh]
  obtain ⟨w2, hw2⟩ : ∃ w2, w1.alloc (.cells #[.int .u8 ua, .int .u8 ub, .slice UA uk uc] TN) = w2 := ⟨_, rfl⟩
  have z2 : w2.heap.size = h + 2 := by rw [← hw2, World.size_alloc, z1]
  obtain ⟨w3, hw3⟩ : ∃ w3, w2.alloc (.cells #[.int .u8 0, .int .u8 0, .slice none 0 0] TN) = w3 := ⟨_, rfl⟩
  have z3 : w3.heap.size = h + 3 := by rw [← hw3, World.size_alloc, z2]
  obtain ⟨w4, hw4⟩ : ∃ w4, w3.alloc (.cells #[] TN) = w4 := ⟨_, rfl⟩
  have z4 : w4.heap.size = h + 4 := by rw [← hw4, World.size_alloc, z3]
  obtain ⟨w5, hw5⟩ : ∃ w5, w4.alloc (.cells #[.int .u8 a, .int .u8 b, .slice (some ⟨h + 3, 0, none⟩) 0 0] TN) = w5 := ⟨_, rfl⟩
  have k1 : C3 w3 h (.int .u8 a) (.int .u8 b) (.slice A k c) TN := by rw [← hw3, ← hw2, ← hw1, ← hh]; exact ((c3_new _ _ _ _ _).alloc _).alloc _
  have k2 : C3 w3 (h + 1) (.int .u8 ua) (.int .u8 ub) (.slice UA uk uc) TN := by rw [← hw3, ← hw2, ← z1]; exact (c3_new _ _ _ _ _).alloc _
  have k3 : C3 w3 (h + 2) (.int .u8 0) (.int .u8 0) (.slice none 0 0) TN := by rw [← hw3, ← z2]; exact c3_new _ _ _ _ _
  have g5 : w.grownBy w5 none := by
    rw [← hw5, ← hw4, ← hw3, ← hw2, ← hw1]
    exact ((((World.grownBy_alloc _ _ none).trans (World.grownBy_alloc _ _ none)).trans (World.grownBy_alloc _ _ none)).trans (World.grownBy_alloc _ _ none)).trans (World.grownBy_alloc _ _ none)
  have R5 : RS S h w w5 a b (.slice A k c) ua ub (.slice UA uk uc) (.slice (some ⟨h + 3, 0, none⟩) 0 0) 0 [] [] :=
    ⟨by rw [← hw5, ← hw4]; exact (k1.alloc _).alloc _, by rw [← hw5, ← hw4]; exact (k2.alloc _).alloc _, by rw [← hw5, ← hw4]; exact (k3.alloc _).alloc _, by rw [← hw5, ← z4]; exact c3_new _ _ _ _ _,
      by
        have := (World.ownsRow_made (base := h + 3) (e := TN) (size := 3) w3 #[] 0 (by omega) (by simp) (by simp)).alloc (.cells #[.int .u8 a, .int .u8 b, .slice (some ⟨h + 3, 0, none⟩) 0 0] TN)
        rw [hw4, hw5, z3] at this
        exact this, rfl, fun g hg => by simp [Value.ownBlock] at hg; omega, trivial, hh, g5⟩
  have n0 := k1.c0
  have n1 := k1.c1
  have n2 := R5.cn.c2
  have HR5 := Lib.hid R5
  clear ht hu ih hok hox hax hk hrow hlen hn hres k1 k2 k3 g5 R5
  obtain ⟨h9, hh9⟩ : ∃ h9, (a == 97) = h9 := ⟨_, rfl⟩
  have HH9 : h9 = true → (b == v) = false := fun e => HHIT.out (by rw [hh9]; exact e)
  cases h9
  · --1
    clear HH9
    go_enter Try.func77, Try.ntmps77
    go_wp2_with fail
    go_loopw [9, 33] (fun q i wr => ∃ (j : Nat) (gd : Bool) (PA : Option Addr) (pn pc : Nat) (ys : List (Int × Int × Value)), j ≤ k ∧ i = .int .i64 j ∧ q = .bool gd ∧ Hid (gd = ((gdL t v u).take j).all id) ∧ Hid (RS S h w wr a b (.slice A k c) ua ub (.slice UA uk uc) (.slice PA pn pc) j ((repK t v u).take j) ys)) (fun _ i _ => k - (intOf i).toNat)
    case atStart => exact ⟨0, true, some ⟨h + 3, 0, none⟩, 0, 0, [], Nat.zero_le _, rfl, rfl, Lib.hid rfl, HR5⟩
    case round =>
      obtain ⟨j, gd, PA, pn, pc, ys, hj, rfl, rfl, hgd, hrs⟩ := hrel
      by_cases hlt : j < k
      · obtain ⟨gA, rfl, hgA, hcell⟩ := HROW.out (by omega)
        obtain ⟨tj, ⟨a2, b2, sv2⟩, htj, hxj, hpj⟩ := HA.out.get (j := j) (by have := HKL.out; omega)
        obtain ⟨A2, k2, c2, hsv⟩ := hpj.form
        simp only at hsv
        subst hsv
        obtain ⟨q0, q1, q2⟩ := hcell j _ hxj
        have hc0 := hrs.out.gr.cell q0 (by simp)
        have hc1 := hrs.out.gr.cell q1 (by simp)
        have hc2 := hrs.out.gr.cell q2 (by simp)
        have HST := Lib.hid (fun hs => HSTAY.out j tj htj hs)
        have HTN := Lib.hid (fun hs hf => HTURN.out j tj htj hs hf)
        have htok : tj.Ok := kids_ok' HOK.out (List.mem_of_getElem? htj)
        have HCALL := Lib.hid (HI.out tj (List.mem_of_getElem? htj) a2 b2 A2 k2 c2)
        have HPJ := Lib.hid hpj
        obtain ⟨wp, hwp⟩ : ∃ wp, wr.alloc (.cells #[.int .u8 a2, .int .u8 b2, .slice A2 k2 c2] TN) = wp := ⟨_, rfl⟩
        obtain ⟨pz, hpz⟩ : ∃ pz, wr.heap.size = pz := ⟨_, rfl⟩
        have gwp : wr.grownBy wp none := by rw [← hwp]; exact World.grownBy_alloc _ _ _
        have RP0 := Lib.hid (hrs.out.grown gwp)
        have CP := Lib.hid (show C3 wp pz (.int .u8 a2) (.int .u8 b2) (.slice A2 k2 c2) TN by rw [← hwp, ← hpz]; exact c3_new _ _ _ _ _)
        have HAP : Hid (∀ (w' : World) (x : Nat), RS S h w w' a b (.slice (some ⟨gA, 0, none⟩) k c) ua ub (.slice UA uk uc) (.slice PA pn pc) j ((repK t v u).take j) ys → x < w.heap.size → S x → Apart S h (.slice PA pn pc) x) := Lib.hid (fun w' x r hx hs => ⟨.inl hs, by omega, fun g hg e => by have := (r.row.lt g hg).1; omega⟩)
        have n1p := RP0.out.cn.c1
        have p0 := CP.out.c0
        have p1 := CP.out.c1
        have p2 := CP.out.c2
        have HFREE := Lib.hid (sfree_any tj.size tj S a2 b2 A2 k2 c2 v wp (Nat.le_refl _) htok hv0 (hpj.grown RP0.out.gr))
        obtain ⟨z, hz⟩ : ∃ z, tj.free v = z := ⟨_, rfl⟩
        rw [hz] at HFREE
        have HZ := Lib.hid hz
        clear htj hxj hpj q0 q1 q2 hcell hz gwp htok
        by_cases hskip : j = 1 ∧ b = v
        · obtain ⟨hj1, rfl⟩ := hskip
          subst hj1
          have hbb : (b == b) = true := by simp
          have HKJ := Lib.hid (HST.out (.inl ⟨rfl, rfl⟩)).1
          have HGJ := Lib.hid (all_step (HST.out (.inl ⟨rfl, rfl⟩)).2)
          have HPA : Hid (SN wp (Apart S h (.slice PA pn pc)) tj (a2, b2, .slice A2 k2 c2)) := Lib.hid (HPJ.out.keep (fun x _ hl => RP0.out.gr.block x hl (by simp)) (fun x hx hl => HAP.out wp x RP0.out hl hx) _ _)
          have o2 := RP0.out.co.c2
          have hlt4 := RP0.out.co.lt
          have own1 := (RP0.out.grown (World.grownBy_alloc wp (.cells #[.int .u8 a2, .int .u8 b2, .slice A2 k2 c2] TN) none)).row
          go_wp2_with (at_builtin; refine wpList_append_own_at _ rfl _ _ 68 rfl (h + 3) TN i0 (.agg #[.int .u8 0, .int .u8 0, .slice none 0 0]) 3 32 Try.underlying68 hi0 hz0 hz1 hz2 rfl (by decide) _ 1 (flat3 ys) rfl own1 ⟨wp.heap.size, 0, none⟩ 1 1 [.int .u8 a2, .int .u8 b2, .slice A2 k2 c2] rfl rfl ?n1_1 ?n1_2 ?n1_3 ?n1_4 ?n1_5 ?_)
          try case n1_1 => exact cell3_new _ _ _ _ _
          try case n1_2 => simp [Value.oneCell']
          try case n1_3 => simp only [maxLen]; omega
          try case n1_4 => omega
          try case n1_5 => first | omega | (rw [World.size_alloc]; omega)
          intro v8 w8 hown8 hg8 _ hat8
          obtain ⟨A8, k8, c8, rfl⟩ := own_form hown8
          have RP := (RP0.out.grown (World.grownBy_alloc wp (.cells #[.int .u8 a2, .int .u8 b2, .slice A2 k2 c2] TN) none)).push hown8 hg8 (by rw [World.size_alloc]; exact hat8) (HPA.out.grown (World.grownBy_alloc wp (.cells #[.int .u8 a2, .int .u8 b2, .slice A2 k2 c2] TN) none))
          rw [take_snoc5 HKJ.out] at RP
          have HRP := Lib.hid RP
          have HO8 := Lib.hid ((RP0.out.co.alloc (.cells #[.int .u8 a2, .int .u8 b2, .slice A2 k2 c2] TN)).grown hg8 (fun e => RP0.out.ap _ e.symm rfl))
          have s2 := HO8.out.c2
          have sf := HO8.out.f 2
          clear RP hown8 hg8 hat8 own1 o2 hlt4
          go_wp2_with fail
          go_roundw
          case rel => exact ⟨1 + 1, _, A8, k8, c8, _, by omega, by go_num, rfl, Lib.hid (by rw [HGJ.out, ← hgd.out]; simp), HRP⟩
          case measure => simp [intOf]; omega
        · obtain ⟨jb, hjb⟩ : ∃ x, ((j : Int) == 1) = x := ⟨_, rfl⟩
          obtain ⟨bb, hbb⟩ : ∃ x, (b == v) = x := ⟨_, rfl⟩
          have hjbb : (jb && bb) = false := by
            rw [← hjb, ← hbb]
            cases h1 : ((j : Int) == 1) <;> cases h2 : (b == v) <;> try rfl
            rw [beq_iff_eq] at h1 h2
            exact absurd ⟨by omega, h2⟩ hskip
          have HSK := Lib.hid hskip
          clear hskip
          cases jb
          · cases bb
            · --1
              try clear hjbb
              go_wp2_with fail
              refine HFREE.out.mono ?_
              rintro e wf ⟨rfl, hgf⟩
              have RF := Lib.hid (RP0.out.grown hgf)
              have CF := Lib.hid (CP.out.grown hgf (by simp))
              clear hgf p0 p1 p2 n1p
              have p0 := CF.out.c0
              have p1 := CF.out.c1
              have p2 := CF.out.c2
              have HPF : Hid (SN wf (Apart S h (.slice PA pn pc)) tj (a2, b2, .slice A2 k2 c2)) := Lib.hid (HPJ.out.keep (fun x _ hl => RF.out.gr.block x hl (by simp)) (fun x hx hl => HAP.out wf x RF.out hl hx) _ _)
              cases z
              · have HKJ := Lib.hid (HST.out (.inr HZ.out)).1
                have HGJ := Lib.hid (all_step (HST.out (.inr HZ.out)).2)
                have o2 := RF.out.co.c2
                have hlt4 := RF.out.co.lt
                have own1 := (RF.out.grown (World.grownBy_alloc wf (.cells #[.int .u8 a2, .int .u8 b2, .slice A2 k2 c2] TN) none)).row
                go_wp2_with (at_builtin; refine wpList_append_own_at _ rfl _ _ 68 rfl (h + 3) TN i0 (.agg #[.int .u8 0, .int .u8 0, .slice none 0 0]) 3 32 Try.underlying68 hi0 hz0 hz1 hz2 rfl (by decide) _ j (flat3 ys) rfl own1 ⟨wf.heap.size, 0, none⟩ 1 1 [.int .u8 a2, .int .u8 b2, .slice A2 k2 c2] rfl rfl ?n2_1 ?n2_2 ?n2_3 ?n2_4 ?n2_5 ?_)
                try case n2_1 => exact cell3_new _ _ _ _ _
                try case n2_2 => simp [Value.oneCell']
                try case n2_3 => simp only [maxLen]; omega
                try case n2_4 => omega
                try case n2_5 => first | omega | (rw [World.size_alloc]; omega)
                intro v8 w8 hown8 hg8 _ hat8
                obtain ⟨A8, k8, c8, rfl⟩ := own_form hown8
                have RP := (RF.out.grown (World.grownBy_alloc wf (.cells #[.int .u8 a2, .int .u8 b2, .slice A2 k2 c2] TN) none)).push hown8 hg8 (by rw [World.size_alloc]; exact hat8) (HPF.out.grown (World.grownBy_alloc wf (.cells #[.int .u8 a2, .int .u8 b2, .slice A2 k2 c2] TN) none))
                rw [take_snoc5 HKJ.out] at RP
                have HRP := Lib.hid RP
                have HO8 := Lib.hid ((RF.out.co.alloc (.cells #[.int .u8 a2, .int .u8 b2, .slice A2 k2 c2] TN)).grown hg8 (fun e => RF.out.ap _ e.symm rfl))
                have s2 := HO8.out.c2
                have sf := HO8.out.f 2
                clear RP hown8 hg8 hat8 own1 o2 hlt4
                go_wp2_with fail
                go_roundw
                case rel => exact ⟨j + 1, _, A8, k8, c8, _, by omega, by go_num, rfl, Lib.hid (by rw [HGJ.out, ← hgd.out]; simp), HRP⟩
                case measure => simp [intOf]; omega
              · have HREP := (HTN.out HSK.out HZ.out)
                have HKJ := Lib.hid HREP.1
                have HGJ := Lib.hid (all_step HREP.2)
                clear HREP
                have hj0 : ((j : Int) == 0) = true := by (have h1 : ¬ j = 1 := (fun e => by (subst e; simp at hjb)); rw [beq_iff_eq]; omega)
                obtain ⟨oz, hoz⟩ : ∃ oz, (!tj.binds v u) = oz := ⟨_, rfl⟩
                rw [hoz] at HGJ HCALL
                have HOZ := Lib.hid hoz
                clear hoz
                have u0 := RF.out.cu.c0
                have u1 := RF.out.cu.c1
                have u2 := RF.out.cu.c2
                go_wp2_with fail
                refine (HCALL.out wf RF.out.gr (HPJ.out.grown RF.out.gr)).mono ?_
                rintro e w7 ⟨a3, b3, A3, k3, c3, rfl, hg7, hsn7⟩
                have HG7 := Lib.hid hg7
                have HS7 := Lib.hid hsn7
                clear hg7 hsn7 u0 u1 u2 p0 p1 p2
                obtain ⟨wq, hwq⟩ : ∃ wq, w7.alloc (.cells #[.int .u8 a3, .int .u8 b3, .slice A3 k3 c3] TN) = wq := ⟨_, rfl⟩
                obtain ⟨qz, hqz⟩ : ∃ qz, w7.heap.size = qz := ⟨_, rfl⟩
                have gwq : w7.grownBy wq none := by rw [← hwq]; exact World.grownBy_alloc _ _ _
                have RQ := Lib.hid (RF.out.grown (HG7.out.trans gwq))
                have CQ := Lib.hid (show C3 wq qz (.int .u8 a3) (.int .u8 b3) (.slice A3 k3 c3) TN by rw [← hwq, ← hqz]; exact c3_new _ _ _ _ _)
                have HPQ : Hid (SN wq (Apart S h (.slice PA pn pc)) (tj.rep v u) (a3, b3, .slice A3 k3 c3)) := Lib.hid ((HS7.out.grown gwq).keep (fun _ _ _ => rfl) (fun x hx hl => RF.out.apart_new hS hx) _ _)
                have p0 := CQ.out.c0
                have p1 := CQ.out.c1
                have p2 := CQ.out.c2
                have n1p := RQ.out.cn.c1
                clear gwq HS7 HG7
                have hgt : gd = true := by
                  have hj9 : j = 0 := by (rw [beq_iff_eq] at hj0; omega)
                  rw [hgd.out, hj9]; simp
                subst hgt
                cases oz
                · have o2 := RQ.out.co.c2
                  have hlt4 := RQ.out.co.lt
                  have own1 := (RQ.out.grown (World.grownBy_alloc wq (.cells #[.int .u8 a3, .int .u8 b3, .slice A3 k3 c3] TN) none)).row
                  go_wp2_with (at_builtin; refine wpList_append_own_at _ rfl _ _ 68 rfl (h + 3) TN i0 (.agg #[.int .u8 0, .int .u8 0, .slice none 0 0]) 3 32 Try.underlying68 hi0 hz0 hz1 hz2 rfl (by decide) _ j (flat3 ys) rfl own1 ⟨wq.heap.size, 0, none⟩ 1 1 [.int .u8 a3, .int .u8 b3, .slice A3 k3 c3] rfl rfl ?n5_1 ?n5_2 ?n5_3 ?n5_4 ?n5_5 ?_)
                  try case n5_1 => exact cell3_new _ _ _ _ _
                  try case n5_2 => simp [Value.oneCell']
                  try case n5_3 => simp only [maxLen]; omega
                  try case n5_4 => omega
                  try case n5_5 => first | omega | (rw [World.size_alloc]; omega)
                  intro v8 w8 hown8 hg8 _ hat8
                  obtain ⟨A8, k8, c8, rfl⟩ := own_form hown8
                  have RP := (RQ.out.grown (World.grownBy_alloc wq (.cells #[.int .u8 a3, .int .u8 b3, .slice A3 k3 c3] TN) none)).push hown8 hg8 (by rw [World.size_alloc]; exact hat8) (HPQ.out.grown (World.grownBy_alloc wq (.cells #[.int .u8 a3, .int .u8 b3, .slice A3 k3 c3] TN) none))
                  rw [take_snoc5 HKJ.out] at RP
                  have HRP := Lib.hid RP
                  have HO8 := Lib.hid ((RQ.out.co.alloc (.cells #[.int .u8 a3, .int .u8 b3, .slice A3 k3 c3] TN)).grown hg8 (fun e => RQ.out.ap _ e.symm rfl))
                  have s2 := HO8.out.c2
                  have sf := HO8.out.f 2
                  clear RP hown8 hg8 hat8 own1 o2 hlt4
                  go_wp2_with fail
                  go_roundw
                  case rel => exact ⟨j + 1, _, A8, k8, c8, _, by omega, by go_num, rfl, Lib.hid (good12 HGJ.out hgd.out hj0), HRP⟩
                  case measure => simp [intOf]; omega
                · have o2 := RQ.out.co.c2
                  have hlt4 := RQ.out.co.lt
                  have own1 := (RQ.out.grown (World.grownBy_alloc wq (.cells #[.int .u8 a3, .int .u8 b3, .slice A3 k3 c3] TN) none)).row
                  go_wp2_with (at_builtin; refine wpList_append_own_at _ rfl _ _ 68 rfl (h + 3) TN i0 (.agg #[.int .u8 0, .int .u8 0, .slice none 0 0]) 3 32 Try.underlying68 hi0 hz0 hz1 hz2 rfl (by decide) _ j (flat3 ys) rfl own1 ⟨wq.heap.size, 0, none⟩ 1 1 [.int .u8 a3, .int .u8 b3, .slice A3 k3 c3] rfl rfl ?n6_1 ?n6_2 ?n6_3 ?n6_4 ?n6_5 ?_)
                  try case n6_1 => exact cell3_new _ _ _ _ _
                  try case n6_2 => simp [Value.oneCell']
                  try case n6_3 => simp only [maxLen]; omega
                  try case n6_4 => omega
                  try case n6_5 => first | omega | (rw [World.size_alloc]; omega)
                  intro v8 w8 hown8 hg8 _ hat8
                  obtain ⟨A8, k8, c8, rfl⟩ := own_form hown8
                  have RP := (RQ.out.grown (World.grownBy_alloc wq (.cells #[.int .u8 a3, .int .u8 b3, .slice A3 k3 c3] TN) none)).push hown8 hg8 (by rw [World.size_alloc]; exact hat8) (HPQ.out.grown (World.grownBy_alloc wq (.cells #[.int .u8 a3, .int .u8 b3, .slice A3 k3 c3] TN) none))
                  rw [take_snoc5 HKJ.out] at RP
                  have HRP := Lib.hid RP
                  have HO8 := Lib.hid ((RQ.out.co.alloc (.cells #[.int .u8 a3, .int .u8 b3, .slice A3 k3 c3] TN)).grown hg8 (fun e => RQ.out.ap _ e.symm rfl))
                  have s2 := HO8.out.c2
                  have sf := HO8.out.f 2
                  clear RP hown8 hg8 hat8 own1 o2 hlt4
                  go_wp2_with fail
                  go_roundw
                  case rel => exact ⟨j + 1, _, A8, k8, c8, _, by omega, by go_num, rfl, Lib.hid (good12 HGJ.out hgd.out hj0), HRP⟩
                  case measure => simp [intOf]; omega

            · --2
              try clear hjbb
              go_wp2_with fail
              refine HFREE.out.mono ?_
              rintro e wf ⟨rfl, hgf⟩
              have RF := Lib.hid (RP0.out.grown hgf)
              have CF := Lib.hid (CP.out.grown hgf (by simp))
              clear hgf p0 p1 p2 n1p
              have p0 := CF.out.c0
              have p1 := CF.out.c1
              have p2 := CF.out.c2
              have HPF : Hid (SN wf (Apart S h (.slice PA pn pc)) tj (a2, b2, .slice A2 k2 c2)) := Lib.hid (HPJ.out.keep (fun x _ hl => RF.out.gr.block x hl (by simp)) (fun x hx hl => HAP.out wf x RF.out hl hx) _ _)
              cases z
              · have HKJ := Lib.hid (HST.out (.inr HZ.out)).1
                have HGJ := Lib.hid (all_step (HST.out (.inr HZ.out)).2)
                have o2 := RF.out.co.c2
                have hlt4 := RF.out.co.lt
                have own1 := (RF.out.grown (World.grownBy_alloc wf (.cells #[.int .u8 a2, .int .u8 b2, .slice A2 k2 c2] TN) none)).row
                go_wp2_with (at_builtin; refine wpList_append_own_at _ rfl _ _ 68 rfl (h + 3) TN i0 (.agg #[.int .u8 0, .int .u8 0, .slice none 0 0]) 3 32 Try.underlying68 hi0 hz0 hz1 hz2 rfl (by decide) _ j (flat3 ys) rfl own1 ⟨wf.heap.size, 0, none⟩ 1 1 [.int .u8 a2, .int .u8 b2, .slice A2 k2 c2] rfl rfl ?n3_1 ?n3_2 ?n3_3 ?n3_4 ?n3_5 ?_)
                try case n3_1 => exact cell3_new _ _ _ _ _
                try case n3_2 => simp [Value.oneCell']
                try case n3_3 => simp only [maxLen]; omega
                try case n3_4 => omega
                try case n3_5 => first | omega | (rw [World.size_alloc]; omega)
                intro v8 w8 hown8 hg8 _ hat8
                obtain ⟨A8, k8, c8, rfl⟩ := own_form hown8
                have RP := (RF.out.grown (World.grownBy_alloc wf (.cells #[.int .u8 a2, .int .u8 b2, .slice A2 k2 c2] TN) none)).push hown8 hg8 (by rw [World.size_alloc]; exact hat8) (HPF.out.grown (World.grownBy_alloc wf (.cells #[.int .u8 a2, .int .u8 b2, .slice A2 k2 c2] TN) none))
                rw [take_snoc5 HKJ.out] at RP
                have HRP := Lib.hid RP
                have HO8 := Lib.hid ((RF.out.co.alloc (.cells #[.int .u8 a2, .int .u8 b2, .slice A2 k2 c2] TN)).grown hg8 (fun e => RF.out.ap _ e.symm rfl))
                have s2 := HO8.out.c2
                have sf := HO8.out.f 2
                clear RP hown8 hg8 hat8 own1 o2 hlt4
                go_wp2_with fail
                go_roundw
                case rel => exact ⟨j + 1, _, A8, k8, c8, _, by omega, by go_num, rfl, Lib.hid (by rw [HGJ.out, ← hgd.out]; simp), HRP⟩
                case measure => simp [intOf]; omega
              · have HREP := (HTN.out HSK.out HZ.out)
                have HKJ := Lib.hid HREP.1
                have HGJ := Lib.hid (all_step HREP.2)
                clear HREP
                have hj0 : ((j : Int) == 0) = true := by (have h1 : ¬ j = 1 := (fun e => by (subst e; simp at hjb)); rw [beq_iff_eq]; omega)
                obtain ⟨oz, hoz⟩ : ∃ oz, (!tj.binds v u) = oz := ⟨_, rfl⟩
                rw [hoz] at HGJ HCALL
                have HOZ := Lib.hid hoz
                clear hoz
                have u0 := RF.out.cu.c0
                have u1 := RF.out.cu.c1
                have u2 := RF.out.cu.c2
                go_wp2_with fail
                refine (HCALL.out wf RF.out.gr (HPJ.out.grown RF.out.gr)).mono ?_
                rintro e w7 ⟨a3, b3, A3, k3, c3, rfl, hg7, hsn7⟩
                have HG7 := Lib.hid hg7
                have HS7 := Lib.hid hsn7
                clear hg7 hsn7 u0 u1 u2 p0 p1 p2
                obtain ⟨wq, hwq⟩ : ∃ wq, w7.alloc (.cells #[.int .u8 a3, .int .u8 b3, .slice A3 k3 c3] TN) = wq := ⟨_, rfl⟩
                obtain ⟨qz, hqz⟩ : ∃ qz, w7.heap.size = qz := ⟨_, rfl⟩
                have gwq : w7.grownBy wq none := by rw [← hwq]; exact World.grownBy_alloc _ _ _
                have RQ := Lib.hid (RF.out.grown (HG7.out.trans gwq))
                have CQ := Lib.hid (show C3 wq qz (.int .u8 a3) (.int .u8 b3) (.slice A3 k3 c3) TN by rw [← hwq, ← hqz]; exact c3_new _ _ _ _ _)
                have HPQ : Hid (SN wq (Apart S h (.slice PA pn pc)) (tj.rep v u) (a3, b3, .slice A3 k3 c3)) := Lib.hid ((HS7.out.grown gwq).keep (fun _ _ _ => rfl) (fun x hx hl => RF.out.apart_new hS hx) _ _)
                have p0 := CQ.out.c0
                have p1 := CQ.out.c1
                have p2 := CQ.out.c2
                have n1p := RQ.out.cn.c1
                clear gwq HS7 HG7
                have hgt : gd = true := by
                  have hj9 : j = 0 := by (rw [beq_iff_eq] at hj0; omega)
                  rw [hgd.out, hj9]; simp
                subst hgt
                cases oz
                · have o2 := RQ.out.co.c2
                  have hlt4 := RQ.out.co.lt
                  have own1 := (RQ.out.grown (World.grownBy_alloc wq (.cells #[.int .u8 a3, .int .u8 b3, .slice A3 k3 c3] TN) none)).row
                  go_wp2_with (at_builtin; refine wpList_append_own_at _ rfl _ _ 68 rfl (h + 3) TN i0 (.agg #[.int .u8 0, .int .u8 0, .slice none 0 0]) 3 32 Try.underlying68 hi0 hz0 hz1 hz2 rfl (by decide) _ j (flat3 ys) rfl own1 ⟨wq.heap.size, 0, none⟩ 1 1 [.int .u8 a3, .int .u8 b3, .slice A3 k3 c3] rfl rfl ?n7_1 ?n7_2 ?n7_3 ?n7_4 ?n7_5 ?_)
                  try case n7_1 => exact cell3_new _ _ _ _ _
                  try case n7_2 => simp [Value.oneCell']
                  try case n7_3 => simp only [maxLen]; omega
                  try case n7_4 => omega
                  try case n7_5 => first | omega | (rw [World.size_alloc]; omega)
                  intro v8 w8 hown8 hg8 _ hat8
                  obtain ⟨A8, k8, c8, rfl⟩ := own_form hown8
                  have RP := (RQ.out.grown (World.grownBy_alloc wq (.cells #[.int .u8 a3, .int .u8 b3, .slice A3 k3 c3] TN) none)).push hown8 hg8 (by rw [World.size_alloc]; exact hat8) (HPQ.out.grown (World.grownBy_alloc wq (.cells #[.int .u8 a3, .int .u8 b3, .slice A3 k3 c3] TN) none))
                  rw [take_snoc5 HKJ.out] at RP
                  have HRP := Lib.hid RP
                  have HO8 := Lib.hid ((RQ.out.co.alloc (.cells #[.int .u8 a3, .int .u8 b3, .slice A3 k3 c3] TN)).grown hg8 (fun e => RQ.out.ap _ e.symm rfl))
                  have s2 := HO8.out.c2
                  have sf := HO8.out.f 2
                  clear RP hown8 hg8 hat8 own1 o2 hlt4
                  go_wp2_with fail
                  go_roundw
                  case rel => exact ⟨j + 1, _, A8, k8, c8, _, by omega, by go_num, rfl, Lib.hid (good12 HGJ.out hgd.out hj0), HRP⟩
                  case measure => simp [intOf]; omega
                · have o2 := RQ.out.co.c2
                  have hlt4 := RQ.out.co.lt
                  have own1 := (RQ.out.grown (World.grownBy_alloc wq (.cells #[.int .u8 a3, .int .u8 b3, .slice A3 k3 c3] TN) none)).row
                  go_wp2_with (at_builtin; refine wpList_append_own_at _ rfl _ _ 68 rfl (h + 3) TN i0 (.agg #[.int .u8 0, .int .u8 0, .slice none 0 0]) 3 32 Try.underlying68 hi0 hz0 hz1 hz2 rfl (by decide) _ j (flat3 ys) rfl own1 ⟨wq.heap.size, 0, none⟩ 1 1 [.int .u8 a3, .int .u8 b3, .slice A3 k3 c3] rfl rfl ?n8_1 ?n8_2 ?n8_3 ?n8_4 ?n8_5 ?_)
                  try case n8_1 => exact cell3_new _ _ _ _ _
                  try case n8_2 => simp [Value.oneCell']
                  try case n8_3 => simp only [maxLen]; omega
                  try case n8_4 => omega
                  try case n8_5 => first | omega | (rw [World.size_alloc]; omega)
                  intro v8 w8 hown8 hg8 _ hat8
                  obtain ⟨A8, k8, c8, rfl⟩ := own_form hown8
                  have RP := (RQ.out.grown (World.grownBy_alloc wq (.cells #[.int .u8 a3, .int .u8 b3, .slice A3 k3 c3] TN) none)).push hown8 hg8 (by rw [World.size_alloc]; exact hat8) (HPQ.out.grown (World.grownBy_alloc wq (.cells #[.int .u8 a3, .int .u8 b3, .slice A3 k3 c3] TN) none))
                  rw [take_snoc5 HKJ.out] at RP
                  have HRP := Lib.hid RP
                  have HO8 := Lib.hid ((RQ.out.co.alloc (.cells #[.int .u8 a3, .int .u8 b3, .slice A3 k3 c3] TN)).grown hg8 (fun e => RQ.out.ap _ e.symm rfl))
                  have s2 := HO8.out.c2
                  have sf := HO8.out.f 2
                  clear RP hown8 hg8 hat8 own1 o2 hlt4
                  go_wp2_with fail
                  go_roundw
                  case rel => exact ⟨j + 1, _, A8, k8, c8, _, by omega, by go_num, rfl, Lib.hid (good12 HGJ.out hgd.out hj0), HRP⟩
                  case measure => simp [intOf]; omega

          · cases bb
            · --3
              try clear hjbb
              go_wp2_with fail
              refine HFREE.out.mono ?_
              rintro e wf ⟨rfl, hgf⟩
              have RF := Lib.hid (RP0.out.grown hgf)
              have CF := Lib.hid (CP.out.grown hgf (by simp))
              clear hgf p0 p1 p2 n1p
              have p0 := CF.out.c0
              have p1 := CF.out.c1
              have p2 := CF.out.c2
              have HPF : Hid (SN wf (Apart S h (.slice PA pn pc)) tj (a2, b2, .slice A2 k2 c2)) := Lib.hid (HPJ.out.keep (fun x _ hl => RF.out.gr.block x hl (by simp)) (fun x hx hl => HAP.out wf x RF.out hl hx) _ _)
              cases z
              · have HKJ := Lib.hid (HST.out (.inr HZ.out)).1
                have HGJ := Lib.hid (all_step (HST.out (.inr HZ.out)).2)
                have o2 := RF.out.co.c2
                have hlt4 := RF.out.co.lt
                have own1 := (RF.out.grown (World.grownBy_alloc wf (.cells #[.int .u8 a2, .int .u8 b2, .slice A2 k2 c2] TN) none)).row
                go_wp2_with (at_builtin; refine wpList_append_own_at _ rfl _ _ 68 rfl (h + 3) TN i0 (.agg #[.int .u8 0, .int .u8 0, .slice none 0 0]) 3 32 Try.underlying68 hi0 hz0 hz1 hz2 rfl (by decide) _ j (flat3 ys) rfl own1 ⟨wf.heap.size, 0, none⟩ 1 1 [.int .u8 a2, .int .u8 b2, .slice A2 k2 c2] rfl rfl ?n4_1 ?n4_2 ?n4_3 ?n4_4 ?n4_5 ?_)
                try case n4_1 => exact cell3_new _ _ _ _ _
                try case n4_2 => simp [Value.oneCell']
                try case n4_3 => simp only [maxLen]; omega
                try case n4_4 => omega
                try case n4_5 => first | omega | (rw [World.size_alloc]; omega)
                intro v8 w8 hown8 hg8 _ hat8
                obtain ⟨A8, k8, c8, rfl⟩ := own_form hown8
                have RP := (RF.out.grown (World.grownBy_alloc wf (.cells #[.int .u8 a2, .int .u8 b2, .slice A2 k2 c2] TN) none)).push hown8 hg8 (by rw [World.size_alloc]; exact hat8) (HPF.out.grown (World.grownBy_alloc wf (.cells #[.int .u8 a2, .int .u8 b2, .slice A2 k2 c2] TN) none))
                rw [take_snoc5 HKJ.out] at RP
                have HRP := Lib.hid RP
                have HO8 := Lib.hid ((RF.out.co.alloc (.cells #[.int .u8 a2, .int .u8 b2, .slice A2 k2 c2] TN)).grown hg8 (fun e => RF.out.ap _ e.symm rfl))
                have s2 := HO8.out.c2
                have sf := HO8.out.f 2
                clear RP hown8 hg8 hat8 own1 o2 hlt4
                go_wp2_with fail
                go_roundw
                case rel => exact ⟨j + 1, _, A8, k8, c8, _, by omega, by go_num, rfl, Lib.hid (by rw [HGJ.out, ← hgd.out]; simp), HRP⟩
                case measure => simp [intOf]; omega
              · have HREP := (HTN.out HSK.out HZ.out)
                have HKJ := Lib.hid HREP.1
                have HGJ := Lib.hid (all_step HREP.2)
                clear HREP
                have hj0 : ((j : Int) == 0) = false := by (have h1 : j = 1 := (by (rw [beq_iff_eq] at hjb; omega)); rw [beq_eq_false_iff_ne]; omega)
                obtain ⟨oz, hoz⟩ : ∃ oz, (!tj.binds v u) = oz := ⟨_, rfl⟩
                rw [hoz] at HGJ HCALL
                have HOZ := Lib.hid hoz
                clear hoz
                have u0 := RF.out.cu.c0
                have u1 := RF.out.cu.c1
                have u2 := RF.out.cu.c2
                go_wp2_with fail
                refine (HCALL.out wf RF.out.gr (HPJ.out.grown RF.out.gr)).mono ?_
                rintro e w7 ⟨a3, b3, A3, k3, c3, rfl, hg7, hsn7⟩
                have HG7 := Lib.hid hg7
                have HS7 := Lib.hid hsn7
                clear hg7 hsn7 u0 u1 u2 p0 p1 p2
                obtain ⟨wq, hwq⟩ : ∃ wq, w7.alloc (.cells #[.int .u8 a3, .int .u8 b3, .slice A3 k3 c3] TN) = wq := ⟨_, rfl⟩
                obtain ⟨qz, hqz⟩ : ∃ qz, w7.heap.size = qz := ⟨_, rfl⟩
                have gwq : w7.grownBy wq none := by rw [← hwq]; exact World.grownBy_alloc _ _ _
                have RQ := Lib.hid (RF.out.grown (HG7.out.trans gwq))
                have CQ := Lib.hid (show C3 wq qz (.int .u8 a3) (.int .u8 b3) (.slice A3 k3 c3) TN by rw [← hwq, ← hqz]; exact c3_new _ _ _ _ _)
                have HPQ : Hid (SN wq (Apart S h (.slice PA pn pc)) (tj.rep v u) (a3, b3, .slice A3 k3 c3)) := Lib.hid ((HS7.out.grown gwq).keep (fun _ _ _ => rfl) (fun x hx hl => RF.out.apart_new hS hx) _ _)
                have p0 := CQ.out.c0
                have p1 := CQ.out.c1
                have p2 := CQ.out.c2
                have n1p := RQ.out.cn.c1
                clear gwq HS7 HG7
                cases gd
                · have o2 := RQ.out.co.c2
                  have hlt4 := RQ.out.co.lt
                  have own1 := (RQ.out.grown (World.grownBy_alloc wq (.cells #[.int .u8 a3, .int .u8 b3, .slice A3 k3 c3] TN) none)).row
                  go_wp2_with (at_builtin; refine wpList_append_own_at _ rfl _ _ 68 rfl (h + 3) TN i0 (.agg #[.int .u8 0, .int .u8 0, .slice none 0 0]) 3 32 Try.underlying68 hi0 hz0 hz1 hz2 rfl (by decide) _ j (flat3 ys) rfl own1 ⟨wq.heap.size, 0, none⟩ 1 1 [.int .u8 a3, .int .u8 b3, .slice A3 k3 c3] rfl rfl ?n9_1 ?n9_2 ?n9_3 ?n9_4 ?n9_5 ?_)
                  try case n9_1 => exact cell3_new _ _ _ _ _
                  try case n9_2 => simp [Value.oneCell']
                  try case n9_3 => simp only [maxLen]; omega
                  try case n9_4 => omega
                  try case n9_5 => first | omega | (rw [World.size_alloc]; omega)
                  intro v8 w8 hown8 hg8 _ hat8
                  obtain ⟨A8, k8, c8, rfl⟩ := own_form hown8
                  have RP := (RQ.out.grown (World.grownBy_alloc wq (.cells #[.int .u8 a3, .int .u8 b3, .slice A3 k3 c3] TN) none)).push hown8 hg8 (by rw [World.size_alloc]; exact hat8) (HPQ.out.grown (World.grownBy_alloc wq (.cells #[.int .u8 a3, .int .u8 b3, .slice A3 k3 c3] TN) none))
                  rw [take_snoc5 HKJ.out] at RP
                  have HRP := Lib.hid RP
                  have HO8 := Lib.hid ((RQ.out.co.alloc (.cells #[.int .u8 a3, .int .u8 b3, .slice A3 k3 c3] TN)).grown hg8 (fun e => RQ.out.ap _ e.symm rfl))
                  have s2 := HO8.out.c2
                  have sf := HO8.out.f 2
                  clear RP hown8 hg8 hat8 own1 o2 hlt4
                  go_wp2_with fail
                  go_roundw
                  case rel => exact ⟨j + 1, _, A8, k8, c8, _, by omega, by go_num, rfl, Lib.hid (good3 HGJ.out hgd.out hj0 (.inl ⟨rfl, rfl⟩)), HRP⟩
                  case measure => simp [intOf]; omega
                · cases oz
                  · have o2 := RQ.out.co.c2
                    have hlt4 := RQ.out.co.lt
                    have own1 := (RQ.out.grown (World.grownBy_alloc wq (.cells #[.int .u8 a3, .int .u8 b3, .slice A3 k3 c3] TN) none)).row
                    go_wp2_with (at_builtin; refine wpList_append_own_at _ rfl _ _ 68 rfl (h + 3) TN i0 (.agg #[.int .u8 0, .int .u8 0, .slice none 0 0]) 3 32 Try.underlying68 hi0 hz0 hz1 hz2 rfl (by decide) _ j (flat3 ys) rfl own1 ⟨wq.heap.size, 0, none⟩ 1 1 [.int .u8 a3, .int .u8 b3, .slice A3 k3 c3] rfl rfl ?n10_1 ?n10_2 ?n10_3 ?n10_4 ?n10_5 ?_)
                    try case n10_1 => exact cell3_new _ _ _ _ _
                    try case n10_2 => simp [Value.oneCell']
                    try case n10_3 => simp only [maxLen]; omega
                    try case n10_4 => omega
                    try case n10_5 => first | omega | (rw [World.size_alloc]; omega)
                    intro v8 w8 hown8 hg8 _ hat8
                    obtain ⟨A8, k8, c8, rfl⟩ := own_form hown8
                    have RP := (RQ.out.grown (World.grownBy_alloc wq (.cells #[.int .u8 a3, .int .u8 b3, .slice A3 k3 c3] TN) none)).push hown8 hg8 (by rw [World.size_alloc]; exact hat8) (HPQ.out.grown (World.grownBy_alloc wq (.cells #[.int .u8 a3, .int .u8 b3, .slice A3 k3 c3] TN) none))
                    rw [take_snoc5 HKJ.out] at RP
                    have HRP := Lib.hid RP
                    have HO8 := Lib.hid ((RQ.out.co.alloc (.cells #[.int .u8 a3, .int .u8 b3, .slice A3 k3 c3] TN)).grown hg8 (fun e => RQ.out.ap _ e.symm rfl))
                    have s2 := HO8.out.c2
                    have sf := HO8.out.f 2
                    clear RP hown8 hg8 hat8 own1 o2 hlt4
                    go_wp2_with fail
                    go_roundw
                    case rel => exact ⟨j + 1, _, A8, k8, c8, _, by omega, by go_num, rfl, Lib.hid (good3 HGJ.out hgd.out hj0 (.inr (.inl ⟨rfl, rfl⟩))), HRP⟩
                    case measure => simp [intOf]; omega
                  · by_cases hb0 : b = 0
                    · have hb1 : (b == 0) = true := by simp [hb0]
                      have HB00 := Lib.hid hb0
                      clear hb0
                      have o2 := RQ.out.co.c2
                      have hlt4 := RQ.out.co.lt
                      have own1 := (RQ.out.grown (World.grownBy_alloc wq (.cells #[.int .u8 a3, .int .u8 b3, .slice A3 k3 c3] TN) none)).row
                      go_wp2_with (at_builtin; refine wpList_append_own_at _ rfl _ _ 68 rfl (h + 3) TN i0 (.agg #[.int .u8 0, .int .u8 0, .slice none 0 0]) 3 32 Try.underlying68 hi0 hz0 hz1 hz2 rfl (by decide) _ j (flat3 ys) rfl own1 ⟨wq.heap.size, 0, none⟩ 1 1 [.int .u8 a3, .int .u8 b3, .slice A3 k3 c3] rfl rfl ?n11_1 ?n11_2 ?n11_3 ?n11_4 ?n11_5 ?_)
                      try case n11_1 => exact cell3_new _ _ _ _ _
                      try case n11_2 => simp [Value.oneCell']
                      try case n11_3 => simp only [maxLen]; omega
                      try case n11_4 => omega
                      try case n11_5 => first | omega | (rw [World.size_alloc]; omega)
                      intro v8 w8 hown8 hg8 _ hat8
                      obtain ⟨A8, k8, c8, rfl⟩ := own_form hown8
                      have RP := (RQ.out.grown (World.grownBy_alloc wq (.cells #[.int .u8 a3, .int .u8 b3, .slice A3 k3 c3] TN) none)).push hown8 hg8 (by rw [World.size_alloc]; exact hat8) (HPQ.out.grown (World.grownBy_alloc wq (.cells #[.int .u8 a3, .int .u8 b3, .slice A3 k3 c3] TN) none))
                      rw [take_snoc5 HKJ.out] at RP
                      have HRP := Lib.hid RP
                      have HO8 := Lib.hid ((RQ.out.co.alloc (.cells #[.int .u8 a3, .int .u8 b3, .slice A3 k3 c3] TN)).grown hg8 (fun e => RQ.out.ap _ e.symm rfl))
                      have s2 := HO8.out.c2
                      have sf := HO8.out.f 2
                      clear RP hown8 hg8 hat8 own1 o2 hlt4
                      go_wp2_with fail
                      go_roundw
                      case rel => exact ⟨j + 1, _, A8, k8, c8, _, by omega, by go_num, rfl, Lib.hid (good3 HGJ.out hgd.out hj0 (.inr (.inr (.inl ⟨rfl, rfl, HB00.out, rfl⟩)))), HRP⟩
                      case measure => simp [intOf]; omega
                    · have hb1 : (b == 0) = false := by simp [hb0]
                      have hbp : 0 < b := by have := HB0.out; omega
                      have HFU := Lib.hid (sfree_any u.size u S ua ub UA uk uc b wq (Nat.le_refl _) huok hbp (HU.out.grown RQ.out.gr))
                      obtain ⟨fu, hfu⟩ : ∃ fu, u.free b = fu := ⟨_, rfl⟩
                      rw [hfu] at HFU HGJ
                      have u0 := RQ.out.cu.c0
                      have u1 := RQ.out.cu.c1
                      have u2 := RQ.out.cu.c2
                      clear hfu
                      go_wp2_with fail
                      refine HFU.out.mono ?_
                      rintro e w9 ⟨rfl, hg8⟩
                      have R8 := Lib.hid (RQ.out.grown hg8)
                      have C8 := Lib.hid (CQ.out.grown hg8 (by simp))
                      have HP8 := Lib.hid (HPQ.out.grown hg8)
                      clear hg8 u0 u1 u2 p0 p1 p2 n1p
                      have p0 := C8.out.c0
                      have p1 := C8.out.c1
                      have p2 := C8.out.c2
                      cases fu
                      · have o2 := R8.out.co.c2
                        have hlt4 := R8.out.co.lt
                        have own1 := (R8.out.grown (World.grownBy_alloc w9 (.cells #[.int .u8 a3, .int .u8 b3, .slice A3 k3 c3] TN) none)).row
                        go_wp2_with (at_builtin; refine wpList_append_own_at _ rfl _ _ 68 rfl (h + 3) TN i0 (.agg #[.int .u8 0, .int .u8 0, .slice none 0 0]) 3 32 Try.underlying68 hi0 hz0 hz1 hz2 rfl (by decide) _ j (flat3 ys) rfl own1 ⟨w9.heap.size, 0, none⟩ 1 1 [.int .u8 a3, .int .u8 b3, .slice A3 k3 c3] rfl rfl ?n12_1 ?n12_2 ?n12_3 ?n12_4 ?n12_5 ?_)
                        try case n12_1 => exact cell3_new _ _ _ _ _
                        try case n12_2 => simp [Value.oneCell']
                        try case n12_3 => simp only [maxLen]; omega
                        try case n12_4 => omega
                        try case n12_5 => first | omega | (rw [World.size_alloc]; omega)
                        intro v8 w8 hown8 hg8 _ hat8
                        obtain ⟨A8, k8, c8, rfl⟩ := own_form hown8
                        have RP := (R8.out.grown (World.grownBy_alloc w9 (.cells #[.int .u8 a3, .int .u8 b3, .slice A3 k3 c3] TN) none)).push hown8 hg8 (by rw [World.size_alloc]; exact hat8) (HP8.out.grown (World.grownBy_alloc w9 (.cells #[.int .u8 a3, .int .u8 b3, .slice A3 k3 c3] TN) none))
                        rw [take_snoc5 HKJ.out] at RP
                        have HRP := Lib.hid RP
                        have HO8 := Lib.hid ((R8.out.co.alloc (.cells #[.int .u8 a3, .int .u8 b3, .slice A3 k3 c3] TN)).grown hg8 (fun e => R8.out.ap _ e.symm rfl))
                        have s2 := HO8.out.c2
                        have sf := HO8.out.f 2
                        clear RP hown8 hg8 hat8 own1 o2 hlt4
                        go_wp2_with fail
                        go_roundw
                        case rel => exact ⟨j + 1, _, A8, k8, c8, _, by omega, by go_num, rfl, Lib.hid (good3 HGJ.out hgd.out hj0 (.inr (.inr (.inr ⟨rfl, rfl, hb0, rfl⟩)))), HRP⟩
                        case measure => simp [intOf]; omega
                      · have o2 := R8.out.co.c2
                        have hlt4 := R8.out.co.lt
                        have own1 := (R8.out.grown (World.grownBy_alloc w9 (.cells #[.int .u8 a3, .int .u8 b3, .slice A3 k3 c3] TN) none)).row
                        go_wp2_with (at_builtin; refine wpList_append_own_at _ rfl _ _ 68 rfl (h + 3) TN i0 (.agg #[.int .u8 0, .int .u8 0, .slice none 0 0]) 3 32 Try.underlying68 hi0 hz0 hz1 hz2 rfl (by decide) _ j (flat3 ys) rfl own1 ⟨w9.heap.size, 0, none⟩ 1 1 [.int .u8 a3, .int .u8 b3, .slice A3 k3 c3] rfl rfl ?n13_1 ?n13_2 ?n13_3 ?n13_4 ?n13_5 ?_)
                        try case n13_1 => exact cell3_new _ _ _ _ _
                        try case n13_2 => simp [Value.oneCell']
                        try case n13_3 => simp only [maxLen]; omega
                        try case n13_4 => omega
                        try case n13_5 => first | omega | (rw [World.size_alloc]; omega)
                        intro v8 w8 hown8 hg8 _ hat8
                        obtain ⟨A8, k8, c8, rfl⟩ := own_form hown8
                        have RP := (R8.out.grown (World.grownBy_alloc w9 (.cells #[.int .u8 a3, .int .u8 b3, .slice A3 k3 c3] TN) none)).push hown8 hg8 (by rw [World.size_alloc]; exact hat8) (HP8.out.grown (World.grownBy_alloc w9 (.cells #[.int .u8 a3, .int .u8 b3, .slice A3 k3 c3] TN) none))
                        rw [take_snoc5 HKJ.out] at RP
                        have HRP := Lib.hid RP
                        have HO8 := Lib.hid ((R8.out.co.alloc (.cells #[.int .u8 a3, .int .u8 b3, .slice A3 k3 c3] TN)).grown hg8 (fun e => R8.out.ap _ e.symm rfl))
                        have s2 := HO8.out.c2
                        have sf := HO8.out.f 2
                        clear RP hown8 hg8 hat8 own1 o2 hlt4
                        go_wp2_with fail
                        go_roundw
                        case rel => exact ⟨j + 1, _, A8, k8, c8, _, by omega, by go_num, rfl, Lib.hid (good3 HGJ.out hgd.out hj0 (.inr (.inr (.inr ⟨rfl, rfl, hb0, rfl⟩)))), HRP⟩
                        case measure => simp [intOf]; omega

            · cases hjbb
      · have hjk : j = k := by omega
        have HJK := Lib.hid hjk
        have HRS := hrs
        obtain ⟨PV, hPV⟩ : ∃ x, Value.slice PA pn pc = x := ⟨_, rfl⟩
        have c0 := hrs.out.co.c0
        have c1 := hrs.out.co.c1
        have c2 := hrs.out.co.c2
        have r0 := hrs.out.cr.c0
        have r1 := hrs.out.cr.c1
        have r2 := hrs.out.cr.c2
        have f0 := hrs.out.cr.f 0
        have f1 := hrs.out.cr.f 1
        have f2 := hrs.out.cr.f 2
        have HEND := Lib.hid (hrs.out.ended hS)
        have HC3 := Lib.hid (hrs.out.cr.laid (x' := .int .u8 a) (y' := .int .u8 b) (z' := .slice PA pn pc))
        have hgd2 : Hid (gd = res) := Lib.hid (by
          rw [hgd.out, HJK.out, List.take_of_length_le (by rw [HGLL.out, HLEN.out, HKL.out]; exact Nat.le_refl _), HGL.out, HRES.out])
        have hks : Hid ((repK t v u).take j = repK t v u) := Lib.hid (by rw [HJK.out, List.take_of_length_le (by rw [HRKL.out, HLEN.out, HKL.out]; exact Nat.le_refl _)])
        clear hjk hPV hrs
        go_wp2_with fail
        clear c0 c1 c2 r0 r1 r2 f0 f1 f2
        have n0 := HC3.out.c0
        have n1 := HC3.out.c1
        have n2 := HC3.out.c2
        unfold laid3 at n0 n1 n2
        refine bodyPost_ret (v := .tuple #[.agg #[.int .u8 a, .int .u8 b, .slice PA pn pc], .bool gd]) (by simp [results, Try.results77, go_sem, n0, n1, n2]) rfl ?_
        obtain ⟨e1, e2, e3, e4⟩ := HEND.out
        rw [hks.out] at e3
        exact ⟨_, _, _, _, _, by rw [hgd2.out], e4, HSN.out _ _ _ _ e1 e2 e3⟩
  · --2
    try have hbv := HH9 rfl
    clear HH9
    go_enter Try.func77, Try.ntmps77
    go_wp2_with fail
    go_loopw [9, 33] (fun q i wr => ∃ (j : Nat) (gd : Bool) (PA : Option Addr) (pn pc : Nat) (ys : List (Int × Int × Value)), j ≤ k ∧ i = .int .i64 j ∧ q = .bool gd ∧ Hid (gd = ((gdL t v u).take j).all id) ∧ Hid (RS S h w wr a b (.slice A k c) ua ub (.slice UA uk uc) (.slice PA pn pc) j ((repK t v u).take j) ys)) (fun _ i _ => k - (intOf i).toNat)
    case atStart => exact ⟨0, true, some ⟨h + 3, 0, none⟩, 0, 0, [], Nat.zero_le _, rfl, rfl, Lib.hid rfl, HR5⟩
    case round =>
      obtain ⟨j, gd, PA, pn, pc, ys, hj, rfl, rfl, hgd, hrs⟩ := hrel
      by_cases hlt : j < k
      · obtain ⟨gA, rfl, hgA, hcell⟩ := HROW.out (by omega)
        obtain ⟨tj, ⟨a2, b2, sv2⟩, htj, hxj, hpj⟩ := HA.out.get (j := j) (by have := HKL.out; omega)
        obtain ⟨A2, k2, c2, hsv⟩ := hpj.form
        simp only at hsv
        subst hsv
        obtain ⟨q0, q1, q2⟩ := hcell j _ hxj
        have hc0 := hrs.out.gr.cell q0 (by simp)
        have hc1 := hrs.out.gr.cell q1 (by simp)
        have hc2 := hrs.out.gr.cell q2 (by simp)
        have HST := Lib.hid (fun hs => HSTAY.out j tj htj hs)
        have HTN := Lib.hid (fun hs hf => HTURN.out j tj htj hs hf)
        have htok : tj.Ok := kids_ok' HOK.out (List.mem_of_getElem? htj)
        have HCALL := Lib.hid (HI.out tj (List.mem_of_getElem? htj) a2 b2 A2 k2 c2)
        have HPJ := Lib.hid hpj
        obtain ⟨wp, hwp⟩ : ∃ wp, wr.alloc (.cells #[.int .u8 a2, .int .u8 b2, .slice A2 k2 c2] TN) = wp := ⟨_, rfl⟩
        obtain ⟨pz, hpz⟩ : ∃ pz, wr.heap.size = pz := ⟨_, rfl⟩
        have gwp : wr.grownBy wp none := by rw [← hwp]; exact World.grownBy_alloc _ _ _
        have RP0 := Lib.hid (hrs.out.grown gwp)
        have CP := Lib.hid (show C3 wp pz (.int .u8 a2) (.int .u8 b2) (.slice A2 k2 c2) TN by rw [← hwp, ← hpz]; exact c3_new _ _ _ _ _)
        have HAP : Hid (∀ (w' : World) (x : Nat), RS S h w w' a b (.slice (some ⟨gA, 0, none⟩) k c) ua ub (.slice UA uk uc) (.slice PA pn pc) j ((repK t v u).take j) ys → x < w.heap.size → S x → Apart S h (.slice PA pn pc) x) := Lib.hid (fun w' x r hx hs => ⟨.inl hs, by omega, fun g hg e => by have := (r.row.lt g hg).1; omega⟩)
        have n1p := RP0.out.cn.c1
        have p0 := CP.out.c0
        have p1 := CP.out.c1
        have p2 := CP.out.c2
        have HFREE := Lib.hid (sfree_any tj.size tj S a2 b2 A2 k2 c2 v wp (Nat.le_refl _) htok hv0 (hpj.grown RP0.out.gr))
        obtain ⟨z, hz⟩ : ∃ z, tj.free v = z := ⟨_, rfl⟩
        rw [hz] at HFREE
        have HZ := Lib.hid hz
        clear htj hxj hpj q0 q1 q2 hcell hz gwp htok
        by_cases hskip : j = 1 ∧ b = v
        · obtain ⟨hj1, rfl⟩ := hskip
          subst hj1
          have hbb : (b == b) = true := by simp
          have HKJ := Lib.hid (HST.out (.inl ⟨rfl, rfl⟩)).1
          have HGJ := Lib.hid (all_step (HST.out (.inl ⟨rfl, rfl⟩)).2)
          have HPA : Hid (SN wp (Apart S h (.slice PA pn pc)) tj (a2, b2, .slice A2 k2 c2)) := Lib.hid (HPJ.out.keep (fun x _ hl => RP0.out.gr.block x hl (by simp)) (fun x hx hl => HAP.out wp x RP0.out hl hx) _ _)
          have o2 := RP0.out.co.c2
          have hlt4 := RP0.out.co.lt
          have own1 := (RP0.out.grown (World.grownBy_alloc wp (.cells #[.int .u8 a2, .int .u8 b2, .slice A2 k2 c2] TN) none)).row
          go_wp2_with (at_builtin; refine wpList_append_own_at _ rfl _ _ 68 rfl (h + 3) TN i0 (.agg #[.int .u8 0, .int .u8 0, .slice none 0 0]) 3 32 Try.underlying68 hi0 hz0 hz1 hz2 rfl (by decide) _ 1 (flat3 ys) rfl own1 ⟨wp.heap.size, 0, none⟩ 1 1 [.int .u8 a2, .int .u8 b2, .slice A2 k2 c2] rfl rfl ?n14_1 ?n14_2 ?n14_3 ?n14_4 ?n14_5 ?_)
          try case n14_1 => exact cell3_new _ _ _ _ _
          try case n14_2 => simp [Value.oneCell']
          try case n14_3 => simp only [maxLen]; omega
          try case n14_4 => omega
          try case n14_5 => first | omega | (rw [World.size_alloc]; omega)
          intro v8 w8 hown8 hg8 _ hat8
          obtain ⟨A8, k8, c8, rfl⟩ := own_form hown8
          have RP := (RP0.out.grown (World.grownBy_alloc wp (.cells #[.int .u8 a2, .int .u8 b2, .slice A2 k2 c2] TN) none)).push hown8 hg8 (by rw [World.size_alloc]; exact hat8) (HPA.out.grown (World.grownBy_alloc wp (.cells #[.int .u8 a2, .int .u8 b2, .slice A2 k2 c2] TN) none))
          rw [take_snoc5 HKJ.out] at RP
          have HRP := Lib.hid RP
          have HO8 := Lib.hid ((RP0.out.co.alloc (.cells #[.int .u8 a2, .int .u8 b2, .slice A2 k2 c2] TN)).grown hg8 (fun e => RP0.out.ap _ e.symm rfl))
          have s2 := HO8.out.c2
          have sf := HO8.out.f 2
          clear RP hown8 hg8 hat8 own1 o2 hlt4
          go_wp2_with fail
          go_roundw
          case rel => exact ⟨1 + 1, _, A8, k8, c8, _, by omega, by go_num, rfl, Lib.hid (by rw [HGJ.out, ← hgd.out]; simp), HRP⟩
          case measure => simp [intOf]; omega
        · obtain ⟨jb, hjb⟩ : ∃ x, ((j : Int) == 1) = x := ⟨_, rfl⟩
          obtain ⟨bb, hbb⟩ : ∃ x, (b == v) = x := ⟨_, rfl⟩
          have hjbb : (jb && bb) = false := by
            rw [← hjb, ← hbb]
            cases h1 : ((j : Int) == 1) <;> cases h2 : (b == v) <;> try rfl
            rw [beq_iff_eq] at h1 h2
            exact absurd ⟨by omega, h2⟩ hskip
          have HSK := Lib.hid hskip
          clear hskip
          cases jb
          · cases bb
            · --1
              try clear hjbb
              go_wp2_with fail
              refine HFREE.out.mono ?_
              rintro e wf ⟨rfl, hgf⟩
              have RF := Lib.hid (RP0.out.grown hgf)
              have CF := Lib.hid (CP.out.grown hgf (by simp))
              clear hgf p0 p1 p2 n1p
              have p0 := CF.out.c0
              have p1 := CF.out.c1
              have p2 := CF.out.c2
              have HPF : Hid (SN wf (Apart S h (.slice PA pn pc)) tj (a2, b2, .slice A2 k2 c2)) := Lib.hid (HPJ.out.keep (fun x _ hl => RF.out.gr.block x hl (by simp)) (fun x hx hl => HAP.out wf x RF.out hl hx) _ _)
              cases z
              · have HKJ := Lib.hid (HST.out (.inr HZ.out)).1
                have HGJ := Lib.hid (all_step (HST.out (.inr HZ.out)).2)
                have o2 := RF.out.co.c2
                have hlt4 := RF.out.co.lt
                have own1 := (RF.out.grown (World.grownBy_alloc wf (.cells #[.int .u8 a2, .int .u8 b2, .slice A2 k2 c2] TN) none)).row
                go_wp2_with (at_builtin; refine wpList_append_own_at _ rfl _ _ 68 rfl (h + 3) TN i0 (.agg #[.int .u8 0, .int .u8 0, .slice none 0 0]) 3 32 Try.underlying68 hi0 hz0 hz1 hz2 rfl (by decide) _ j (flat3 ys) rfl own1 ⟨wf.heap.size, 0, none⟩ 1 1 [.int .u8 a2, .int .u8 b2, .slice A2 k2 c2] rfl rfl ?n15_1 ?n15_2 ?n15_3 ?n15_4 ?n15_5 ?_)
                try case n15_1 => exact cell3_new _ _ _ _ _
                try case n15_2 => simp [Value.oneCell']
                try case n15_3 => simp only [maxLen]; omega
                try case n15_4 => omega
                try case n15_5 => first | omega | (rw [World.size_alloc]; omega)
                intro v8 w8 hown8 hg8 _ hat8
                obtain ⟨A8, k8, c8, rfl⟩ := own_form hown8
                have RP := (RF.out.grown (World.grownBy_alloc wf (.cells #[.int .u8 a2, .int .u8 b2, .slice A2 k2 c2] TN) none)).push hown8 hg8 (by rw [World.size_alloc]; exact hat8) (HPF.out.grown (World.grownBy_alloc wf (.cells #[.int .u8 a2, .int .u8 b2, .slice A2 k2 c2] TN) none))
                rw [take_snoc5 HKJ.out] at RP
                have HRP := Lib.hid RP
                have HO8 := Lib.hid ((RF.out.co.alloc (.cells #[.int .u8 a2, .int .u8 b2, .slice A2 k2 c2] TN)).grown hg8 (fun e => RF.out.ap _ e.symm rfl))
                have s2 := HO8.out.c2
                have sf := HO8.out.f 2
                clear RP hown8 hg8 hat8 own1 o2 hlt4
                go_wp2_with fail
                go_roundw
                case rel => exact ⟨j + 1, _, A8, k8, c8, _, by omega, by go_num, rfl, Lib.hid (by rw [HGJ.out, ← hgd.out]; simp), HRP⟩
                case measure => simp [intOf]; omega
              · have HREP := (HTN.out HSK.out HZ.out)
                have HKJ := Lib.hid HREP.1
                have HGJ := Lib.hid (all_step HREP.2)
                clear HREP
                have hj0 : ((j : Int) == 0) = true := by (have h1 : ¬ j = 1 := (fun e => by (subst e; simp at hjb)); rw [beq_iff_eq]; omega)
                obtain ⟨oz, hoz⟩ : ∃ oz, (!tj.binds v u) = oz := ⟨_, rfl⟩
                rw [hoz] at HGJ HCALL
                have HOZ := Lib.hid hoz
                clear hoz
                have u0 := RF.out.cu.c0
                have u1 := RF.out.cu.c1
                have u2 := RF.out.cu.c2
                go_wp2_with fail
                refine (HCALL.out wf RF.out.gr (HPJ.out.grown RF.out.gr)).mono ?_
                rintro e w7 ⟨a3, b3, A3, k3, c3, rfl, hg7, hsn7⟩
                have HG7 := Lib.hid hg7
                have HS7 := Lib.hid hsn7
                clear hg7 hsn7 u0 u1 u2 p0 p1 p2
                obtain ⟨wq, hwq⟩ : ∃ wq, w7.alloc (.cells #[.int .u8 a3, .int .u8 b3, .slice A3 k3 c3] TN) = wq := ⟨_, rfl⟩
                obtain ⟨qz, hqz⟩ : ∃ qz, w7.heap.size = qz := ⟨_, rfl⟩
                have gwq : w7.grownBy wq none := by rw [← hwq]; exact World.grownBy_alloc _ _ _
                have RQ := Lib.hid (RF.out.grown (HG7.out.trans gwq))
                have CQ := Lib.hid (show C3 wq qz (.int .u8 a3) (.int .u8 b3) (.slice A3 k3 c3) TN by rw [← hwq, ← hqz]; exact c3_new _ _ _ _ _)
                have HPQ : Hid (SN wq (Apart S h (.slice PA pn pc)) (tj.rep v u) (a3, b3, .slice A3 k3 c3)) := Lib.hid ((HS7.out.grown gwq).keep (fun _ _ _ => rfl) (fun x hx hl => RF.out.apart_new hS hx) _ _)
                have p0 := CQ.out.c0
                have p1 := CQ.out.c1
                have p2 := CQ.out.c2
                have n1p := RQ.out.cn.c1
                clear gwq HS7 HG7
                have hgt : gd = true := by
                  have hj9 : j = 0 := by (rw [beq_iff_eq] at hj0; omega)
                  rw [hgd.out, hj9]; simp
                subst hgt
                cases oz
                · have o2 := RQ.out.co.c2
                  have hlt4 := RQ.out.co.lt
                  have own1 := (RQ.out.grown (World.grownBy_alloc wq (.cells #[.int .u8 a3, .int .u8 b3, .slice A3 k3 c3] TN) none)).row
                  go_wp2_with (at_builtin; refine wpList_append_own_at _ rfl _ _ 68 rfl (h + 3) TN i0 (.agg #[.int .u8 0, .int .u8 0, .slice none 0 0]) 3 32 Try.underlying68 hi0 hz0 hz1 hz2 rfl (by decide) _ j (flat3 ys) rfl own1 ⟨wq.heap.size, 0, none⟩ 1 1 [.int .u8 a3, .int .u8 b3, .slice A3 k3 c3] rfl rfl ?n18_1 ?n18_2 ?n18_3 ?n18_4 ?n18_5 ?_)
                  try case n18_1 => exact cell3_new _ _ _ _ _
                  try case n18_2 => simp [Value.oneCell']
                  try case n18_3 => simp only [maxLen]; omega
                  try case n18_4 => omega
                  try case n18_5 => first | omega | (rw [World.size_alloc]; omega)
                  intro v8 w8 hown8 hg8 _ hat8
                  obtain ⟨A8, k8, c8, rfl⟩ := own_form hown8
                  have RP := (RQ.out.grown (World.grownBy_alloc wq (.cells #[.int .u8 a3, .int .u8 b3, .slice A3 k3 c3] TN) none)).push hown8 hg8 (by rw [World.size_alloc]; exact hat8) (HPQ.out.grown (World.grownBy_alloc wq (.cells #[.int .u8 a3, .int .u8 b3, .slice A3 k3 c3] TN) none))
                  rw [take_snoc5 HKJ.out] at RP
                  have HRP := Lib.hid RP
                  have HO8 := Lib.hid ((RQ.out.co.alloc (.cells #[.int .u8 a3, .int .u8 b3, .slice A3 k3 c3] TN)).grown hg8 (fun e => RQ.out.ap _ e.symm rfl))
                  have s2 := HO8.out.c2
                  have sf := HO8.out.f 2
                  clear RP hown8 hg8 hat8 own1 o2 hlt4
                  go_wp2_with fail
                  go_roundw
                  case rel => exact ⟨j + 1, _, A8, k8, c8, _, by omega, by go_num, rfl, Lib.hid (good12 HGJ.out hgd.out hj0), HRP⟩
                  case measure => simp [intOf]; omega
                · have o2 := RQ.out.co.c2
                  have hlt4 := RQ.out.co.lt
                  have own1 := (RQ.out.grown (World.grownBy_alloc wq (.cells #[.int .u8 a3, .int .u8 b3, .slice A3 k3 c3] TN) none)).row
                  go_wp2_with (at_builtin; refine wpList_append_own_at _ rfl _ _ 68 rfl (h + 3) TN i0 (.agg #[.int .u8 0, .int .u8 0, .slice none 0 0]) 3 32 Try.underlying68 hi0 hz0 hz1 hz2 rfl (by decide) _ j (flat3 ys) rfl own1 ⟨wq.heap.size, 0, none⟩ 1 1 [.int .u8 a3, .int .u8 b3, .slice A3 k3 c3] rfl rfl ?n19_1 ?n19_2 ?n19_3 ?n19_4 ?n19_5 ?_)
                  try case n19_1 => exact cell3_new _ _ _ _ _
                  try case n19_2 => simp [Value.oneCell']
                  try case n19_3 => simp only [maxLen]; omega
                  try case n19_4 => omega
                  try case n19_5 => first | omega | (rw [World.size_alloc]; omega)
                  intro v8 w8 hown8 hg8 _ hat8
                  obtain ⟨A8, k8, c8, rfl⟩ := own_form hown8
                  have RP := (RQ.out.grown (World.grownBy_alloc wq (.cells #[.int .u8 a3, .int .u8 b3, .slice A3 k3 c3] TN) none)).push hown8 hg8 (by rw [World.size_alloc]; exact hat8) (HPQ.out.grown (World.grownBy_alloc wq (.cells #[.int .u8 a3, .int .u8 b3, .slice A3 k3 c3] TN) none))
                  rw [take_snoc5 HKJ.out] at RP
                  have HRP := Lib.hid RP
                  have HO8 := Lib.hid ((RQ.out.co.alloc (.cells #[.int .u8 a3, .int .u8 b3, .slice A3 k3 c3] TN)).grown hg8 (fun e => RQ.out.ap _ e.symm rfl))
                  have s2 := HO8.out.c2
                  have sf := HO8.out.f 2
                  clear RP hown8 hg8 hat8 own1 o2 hlt4
                  go_wp2_with fail
                  go_roundw
                  case rel => exact ⟨j + 1, _, A8, k8, c8, _, by omega, by go_num, rfl, Lib.hid (good12 HGJ.out hgd.out hj0), HRP⟩
                  case measure => simp [intOf]; omega

            · --2
              try clear hjbb
              go_wp2_with fail
              refine HFREE.out.mono ?_
              rintro e wf ⟨rfl, hgf⟩
              have RF := Lib.hid (RP0.out.grown hgf)
              have CF := Lib.hid (CP.out.grown hgf (by simp))
              clear hgf p0 p1 p2 n1p
              have p0 := CF.out.c0
              have p1 := CF.out.c1
              have p2 := CF.out.c2
              have HPF : Hid (SN wf (Apart S h (.slice PA pn pc)) tj (a2, b2, .slice A2 k2 c2)) := Lib.hid (HPJ.out.keep (fun x _ hl => RF.out.gr.block x hl (by simp)) (fun x hx hl => HAP.out wf x RF.out hl hx) _ _)
              cases z
              · have HKJ := Lib.hid (HST.out (.inr HZ.out)).1
                have HGJ := Lib.hid (all_step (HST.out (.inr HZ.out)).2)
                have o2 := RF.out.co.c2
                have hlt4 := RF.out.co.lt
                have own1 := (RF.out.grown (World.grownBy_alloc wf (.cells #[.int .u8 a2, .int .u8 b2, .slice A2 k2 c2] TN) none)).row
                go_wp2_with (at_builtin; refine wpList_append_own_at _ rfl _ _ 68 rfl (h + 3) TN i0 (.agg #[.int .u8 0, .int .u8 0, .slice none 0 0]) 3 32 Try.underlying68 hi0 hz0 hz1 hz2 rfl (by decide) _ j (flat3 ys) rfl own1 ⟨wf.heap.size, 0, none⟩ 1 1 [.int .u8 a2, .int .u8 b2, .slice A2 k2 c2] rfl rfl ?n16_1 ?n16_2 ?n16_3 ?n16_4 ?n16_5 ?_)
                try case n16_1 => exact cell3_new _ _ _ _ _
                try case n16_2 => simp [Value.oneCell']
                try case n16_3 => simp only [maxLen]; omega
                try case n16_4 => omega
                try case n16_5 => first | omega | (rw [World.size_alloc]; omega)
                intro v8 w8 hown8 hg8 _ hat8
                obtain ⟨A8, k8, c8, rfl⟩ := own_form hown8
                have RP := (RF.out.grown (World.grownBy_alloc wf (.cells #[.int .u8 a2, .int .u8 b2, .slice A2 k2 c2] TN) none)).push hown8 hg8 (by rw [World.size_alloc]; exact hat8) (HPF.out.grown (World.grownBy_alloc wf (.cells #[.int .u8 a2, .int .u8 b2, .slice A2 k2 c2] TN) none))
                rw [take_snoc5 HKJ.out] at RP
                have HRP := Lib.hid RP
                have HO8 := Lib.hid ((RF.out.co.alloc (.cells #[.int .u8 a2, .int .u8 b2, .slice A2 k2 c2] TN)).grown hg8 (fun e => RF.out.ap _ e.symm rfl))
                have s2 := HO8.out.c2
                have sf := HO8.out.f 2
                clear RP hown8 hg8 hat8 own1 o2 hlt4
                go_wp2_with fail
                go_roundw
                case rel => exact ⟨j + 1, _, A8, k8, c8, _, by omega, by go_num, rfl, Lib.hid (by rw [HGJ.out, ← hgd.out]; simp), HRP⟩
                case measure => simp [intOf]; omega
              · have HREP := (HTN.out HSK.out HZ.out)
                have HKJ := Lib.hid HREP.1
                have HGJ := Lib.hid (all_step HREP.2)
                clear HREP
                have hj0 : ((j : Int) == 0) = true := by (have h1 : ¬ j = 1 := (fun e => by (subst e; simp at hjb)); rw [beq_iff_eq]; omega)
                obtain ⟨oz, hoz⟩ : ∃ oz, (!tj.binds v u) = oz := ⟨_, rfl⟩
                rw [hoz] at HGJ HCALL
                have HOZ := Lib.hid hoz
                clear hoz
                have u0 := RF.out.cu.c0
                have u1 := RF.out.cu.c1
                have u2 := RF.out.cu.c2
                go_wp2_with fail
                refine (HCALL.out wf RF.out.gr (HPJ.out.grown RF.out.gr)).mono ?_
                rintro e w7 ⟨a3, b3, A3, k3, c3, rfl, hg7, hsn7⟩
                have HG7 := Lib.hid hg7
                have HS7 := Lib.hid hsn7
                clear hg7 hsn7 u0 u1 u2 p0 p1 p2
                obtain ⟨wq, hwq⟩ : ∃ wq, w7.alloc (.cells #[.int .u8 a3, .int .u8 b3, .slice A3 k3 c3] TN) = wq := ⟨_, rfl⟩
                obtain ⟨qz, hqz⟩ : ∃ qz, w7.heap.size = qz := ⟨_, rfl⟩
                have gwq : w7.grownBy wq none := by rw [← hwq]; exact World.grownBy_alloc _ _ _
                have RQ := Lib.hid (RF.out.grown (HG7.out.trans gwq))
                have CQ := Lib.hid (show C3 wq qz (.int .u8 a3) (.int .u8 b3) (.slice A3 k3 c3) TN by rw [← hwq, ← hqz]; exact c3_new _ _ _ _ _)
                have HPQ : Hid (SN wq (Apart S h (.slice PA pn pc)) (tj.rep v u) (a3, b3, .slice A3 k3 c3)) := Lib.hid ((HS7.out.grown gwq).keep (fun _ _ _ => rfl) (fun x hx hl => RF.out.apart_new hS hx) _ _)
                have p0 := CQ.out.c0
                have p1 := CQ.out.c1
                have p2 := CQ.out.c2
                have n1p := RQ.out.cn.c1
                clear gwq HS7 HG7
                have hgt : gd = true := by
                  have hj9 : j = 0 := by (rw [beq_iff_eq] at hj0; omega)
                  rw [hgd.out, hj9]; simp
                subst hgt
                cases oz
                · have o2 := RQ.out.co.c2
                  have hlt4 := RQ.out.co.lt
                  have own1 := (RQ.out.grown (World.grownBy_alloc wq (.cells #[.int .u8 a3, .int .u8 b3, .slice A3 k3 c3] TN) none)).row
                  go_wp2_with (at_builtin; refine wpList_append_own_at _ rfl _ _ 68 rfl (h + 3) TN i0 (.agg #[.int .u8 0, .int .u8 0, .slice none 0 0]) 3 32 Try.underlying68 hi0 hz0 hz1 hz2 rfl (by decide) _ j (flat3 ys) rfl own1 ⟨wq.heap.size, 0, none⟩ 1 1 [.int .u8 a3, .int .u8 b3, .slice A3 k3 c3] rfl rfl ?n20_1 ?n20_2 ?n20_3 ?n20_4 ?n20_5 ?_)
                  try case n20_1 => exact cell3_new _ _ _ _ _
                  try case n20_2 => simp [Value.oneCell']
                  try case n20_3 => simp only [maxLen]; omega
                  try case n20_4 => omega
                  try case n20_5 => first | omega | (rw [World.size_alloc]; omega)
                  intro v8 w8 hown8 hg8 _ hat8
                  obtain ⟨A8, k8, c8, rfl⟩ := own_form hown8
                  have RP := (RQ.out.grown (World.grownBy_alloc wq (.cells #[.int .u8 a3, .int .u8 b3, .slice A3 k3 c3] TN) none)).push hown8 hg8 (by rw [World.size_alloc]; exact hat8) (HPQ.out.grown (World.grownBy_alloc wq (.cells #[.int .u8 a3, .int .u8 b3, .slice A3 k3 c3] TN) none))
                  rw [take_snoc5 HKJ.out] at RP
                  have HRP := Lib.hid RP
                  have HO8 := Lib.hid ((RQ.out.co.alloc (.cells #[.int .u8 a3, .int .u8 b3, .slice A3 k3 c3] TN)).grown hg8 (fun e => RQ.out.ap _ e.symm rfl))
                  have s2 := HO8.out.c2
                  have sf := HO8.out.f 2
                  clear RP hown8 hg8 hat8 own1 o2 hlt4
                  go_wp2_with fail
                  go_roundw
                  case rel => exact ⟨j + 1, _, A8, k8, c8, _, by omega, by go_num, rfl, Lib.hid (good12 HGJ.out hgd.out hj0), HRP⟩
                  case measure => simp [intOf]; omega
                · have o2 := RQ.out.co.c2
                  have hlt4 := RQ.out.co.lt
                  have own1 := (RQ.out.grown (World.grownBy_alloc wq (.cells #[.int .u8 a3, .int .u8 b3, .slice A3 k3 c3] TN) none)).row
                  go_wp2_with (at_builtin; refine wpList_append_own_at _ rfl _ _ 68 rfl (h + 3) TN i0 (.agg #[.int .u8 0, .int .u8 0, .slice none 0 0]) 3 32 Try.underlying68 hi0 hz0 hz1 hz2 rfl (by decide) _ j (flat3 ys) rfl own1 ⟨wq.heap.size, 0, none⟩ 1 1 [.int .u8 a3, .int .u8 b3, .slice A3 k3 c3] rfl rfl ?n21_1 ?n21_2 ?n21_3 ?n21_4 ?n21_5 ?_)
                  try case n21_1 => exact cell3_new _ _ _ _ _
                  try case n21_2 => simp [Value.oneCell']
                  try case n21_3 => simp only [maxLen]; omega
                  try case n21_4 => omega
                  try case n21_5 => first | omega | (rw [World.size_alloc]; omega)
                  intro v8 w8 hown8 hg8 _ hat8
                  obtain ⟨A8, k8, c8, rfl⟩ := own_form hown8
                  have RP := (RQ.out.grown (World.grownBy_alloc wq (.cells #[.int .u8 a3, .int .u8 b3, .slice A3 k3 c3] TN) none)).push hown8 hg8 (by rw [World.size_alloc]; exact hat8) (HPQ.out.grown (World.grownBy_alloc wq (.cells #[.int .u8 a3, .int .u8 b3, .slice A3 k3 c3] TN) none))
                  rw [take_snoc5 HKJ.out] at RP
                  have HRP := Lib.hid RP
                  have HO8 := Lib.hid ((RQ.out.co.alloc (.cells #[.int .u8 a3, .int .u8 b3, .slice A3 k3 c3] TN)).grown hg8 (fun e => RQ.out.ap _ e.symm rfl))
                  have s2 := HO8.out.c2
                  have sf := HO8.out.f 2
                  clear RP hown8 hg8 hat8 own1 o2 hlt4
                  go_wp2_with fail
                  go_roundw
                  case rel => exact ⟨j + 1, _, A8, k8, c8, _, by omega, by go_num, rfl, Lib.hid (good12 HGJ.out hgd.out hj0), HRP⟩
                  case measure => simp [intOf]; omega

          · cases bb
            · --3
              try clear hjbb
              go_wp2_with fail
              refine HFREE.out.mono ?_
              rintro e wf ⟨rfl, hgf⟩
              have RF := Lib.hid (RP0.out.grown hgf)
              have CF := Lib.hid (CP.out.grown hgf (by simp))
              clear hgf p0 p1 p2 n1p
              have p0 := CF.out.c0
              have p1 := CF.out.c1
              have p2 := CF.out.c2
              have HPF : Hid (SN wf (Apart S h (.slice PA pn pc)) tj (a2, b2, .slice A2 k2 c2)) := Lib.hid (HPJ.out.keep (fun x _ hl => RF.out.gr.block x hl (by simp)) (fun x hx hl => HAP.out wf x RF.out hl hx) _ _)
              cases z
              · have HKJ := Lib.hid (HST.out (.inr HZ.out)).1
                have HGJ := Lib.hid (all_step (HST.out (.inr HZ.out)).2)
                have o2 := RF.out.co.c2
                have hlt4 := RF.out.co.lt
                have own1 := (RF.out.grown (World.grownBy_alloc wf (.cells #[.int .u8 a2, .int .u8 b2, .slice A2 k2 c2] TN) none)).row
                go_wp2_with (at_builtin; refine wpList_append_own_at _ rfl _ _ 68 rfl (h + 3) TN i0 (.agg #[.int .u8 0, .int .u8 0, .slice none 0 0]) 3 32 Try.underlying68 hi0 hz0 hz1 hz2 rfl (by decide) _ j (flat3 ys) rfl own1 ⟨wf.heap.size, 0, none⟩ 1 1 [.int .u8 a2, .int .u8 b2, .slice A2 k2 c2] rfl rfl ?n17_1 ?n17_2 ?n17_3 ?n17_4 ?n17_5 ?_)
                try case n17_1 => exact cell3_new _ _ _ _ _
                try case n17_2 => simp [Value.oneCell']
                try case n17_3 => simp only [maxLen]; omega
                try case n17_4 => omega
                try case n17_5 => first | omega | (rw [World.size_alloc]; omega)
                intro v8 w8 hown8 hg8 _ hat8
                obtain ⟨A8, k8, c8, rfl⟩ := own_form hown8
                have RP := (RF.out.grown (World.grownBy_alloc wf (.cells #[.int .u8 a2, .int .u8 b2, .slice A2 k2 c2] TN) none)).push hown8 hg8 (by rw [World.size_alloc]; exact hat8) (HPF.out.grown (World.grownBy_alloc wf (.cells #[.int .u8 a2, .int .u8 b2, .slice A2 k2 c2] TN) none))
                rw [take_snoc5 HKJ.out] at RP
                have HRP := Lib.hid RP
                have HO8 := Lib.hid ((RF.out.co.alloc (.cells #[.int .u8 a2, .int .u8 b2, .slice A2 k2 c2] TN)).grown hg8 (fun e => RF.out.ap _ e.symm rfl))
                have s2 := HO8.out.c2
                have sf := HO8.out.f 2
                clear RP hown8 hg8 hat8 own1 o2 hlt4
                go_wp2_with fail
                go_roundw
                case rel => exact ⟨j + 1, _, A8, k8, c8, _, by omega, by go_num, rfl, Lib.hid (by rw [HGJ.out, ← hgd.out]; simp), HRP⟩
                case measure => simp [intOf]; omega
              · have HREP := (HTN.out HSK.out HZ.out)
                have HKJ := Lib.hid HREP.1
                have HGJ := Lib.hid (all_step HREP.2)
                clear HREP
                have hj0 : ((j : Int) == 0) = false := by (have h1 : j = 1 := (by (rw [beq_iff_eq] at hjb; omega)); rw [beq_eq_false_iff_ne]; omega)
                obtain ⟨oz, hoz⟩ : ∃ oz, (!tj.binds v u) = oz := ⟨_, rfl⟩
                rw [hoz] at HGJ HCALL
                have HOZ := Lib.hid hoz
                clear hoz
                have u0 := RF.out.cu.c0
                have u1 := RF.out.cu.c1
                have u2 := RF.out.cu.c2
                go_wp2_with fail
                refine (HCALL.out wf RF.out.gr (HPJ.out.grown RF.out.gr)).mono ?_
                rintro e w7 ⟨a3, b3, A3, k3, c3, rfl, hg7, hsn7⟩
                have HG7 := Lib.hid hg7
                have HS7 := Lib.hid hsn7
                clear hg7 hsn7 u0 u1 u2 p0 p1 p2
                obtain ⟨wq, hwq⟩ : ∃ wq, w7.alloc (.cells #[.int .u8 a3, .int .u8 b3, .slice A3 k3 c3] TN) = wq := ⟨_, rfl⟩
                obtain ⟨qz, hqz⟩ : ∃ qz, w7.heap.size = qz := ⟨_, rfl⟩
                have gwq : w7.grownBy wq none := by rw [← hwq]; exact World.grownBy_alloc _ _ _
                have RQ := Lib.hid (RF.out.grown (HG7.out.trans gwq))
                have CQ := Lib.hid (show C3 wq qz (.int .u8 a3) (.int .u8 b3) (.slice A3 k3 c3) TN by rw [← hwq, ← hqz]; exact c3_new _ _ _ _ _)
                have HPQ : Hid (SN wq (Apart S h (.slice PA pn pc)) (tj.rep v u) (a3, b3, .slice A3 k3 c3)) := Lib.hid ((HS7.out.grown gwq).keep (fun _ _ _ => rfl) (fun x hx hl => RF.out.apart_new hS hx) _ _)
                have p0 := CQ.out.c0
                have p1 := CQ.out.c1
                have p2 := CQ.out.c2
                have n1p := RQ.out.cn.c1
                clear gwq HS7 HG7
                cases gd
                · have o2 := RQ.out.co.c2
                  have hlt4 := RQ.out.co.lt
                  have own1 := (RQ.out.grown (World.grownBy_alloc wq (.cells #[.int .u8 a3, .int .u8 b3, .slice A3 k3 c3] TN) none)).row
                  go_wp2_with (at_builtin; refine wpList_append_own_at _ rfl _ _ 68 rfl (h + 3) TN i0 (.agg #[.int .u8 0, .int .u8 0, .slice none 0 0]) 3 32 Try.underlying68 hi0 hz0 hz1 hz2 rfl (by decide) _ j (flat3 ys) rfl own1 ⟨wq.heap.size, 0, none⟩ 1 1 [.int .u8 a3, .int .u8 b3, .slice A3 k3 c3] rfl rfl ?n22_1 ?n22_2 ?n22_3 ?n22_4 ?n22_5 ?_)
                  try case n22_1 => exact cell3_new _ _ _ _ _
                  try case n22_2 => simp [Value.oneCell']
                  try case n22_3 => simp only [maxLen]; omega
                  try case n22_4 => omega
                  try case n22_5 => first | omega | (rw [World.size_alloc]; omega)
                  intro v8 w8 hown8 hg8 _ hat8
                  obtain ⟨A8, k8, c8, rfl⟩ := own_form hown8
                  have RP := (RQ.out.grown (World.grownBy_alloc wq (.cells #[.int .u8 a3, .int .u8 b3, .slice A3 k3 c3] TN) none)).push hown8 hg8 (by rw [World.size_alloc]; exact hat8) (HPQ.out.grown (World.grownBy_alloc wq (.cells #[.int .u8 a3, .int .u8 b3, .slice A3 k3 c3] TN) none))
                  rw [take_snoc5 HKJ.out] at RP
                  have HRP := Lib.hid RP
                  have HO8 := Lib.hid ((RQ.out.co.alloc (.cells #[.int .u8 a3, .int .u8 b3, .slice A3 k3 c3] TN)).grown hg8 (fun e => RQ.out.ap _ e.symm rfl))
                  have s2 := HO8.out.c2
                  have sf := HO8.out.f 2
                  clear RP hown8 hg8 hat8 own1 o2 hlt4
                  go_wp2_with fail
                  go_roundw
                  case rel => exact ⟨j + 1, _, A8, k8, c8, _, by omega, by go_num, rfl, Lib.hid (good3 HGJ.out hgd.out hj0 (.inl ⟨rfl, rfl⟩)), HRP⟩
                  case measure => simp [intOf]; omega
                · cases oz
                  · have o2 := RQ.out.co.c2
                    have hlt4 := RQ.out.co.lt
                    have own1 := (RQ.out.grown (World.grownBy_alloc wq (.cells #[.int .u8 a3, .int .u8 b3, .slice A3 k3 c3] TN) none)).row
                    go_wp2_with (at_builtin; refine wpList_append_own_at _ rfl _ _ 68 rfl (h + 3) TN i0 (.agg #[.int .u8 0, .int .u8 0, .slice none 0 0]) 3 32 Try.underlying68 hi0 hz0 hz1 hz2 rfl (by decide) _ j (flat3 ys) rfl own1 ⟨wq.heap.size, 0, none⟩ 1 1 [.int .u8 a3, .int .u8 b3, .slice A3 k3 c3] rfl rfl ?n23_1 ?n23_2 ?n23_3 ?n23_4 ?n23_5 ?_)
                    try case n23_1 => exact cell3_new _ _ _ _ _
                    try case n23_2 => simp [Value.oneCell']
                    try case n23_3 => simp only [maxLen]; omega
                    try case n23_4 => omega
                    try case n23_5 => first | omega | (rw [World.size_alloc]; omega)
                    intro v8 w8 hown8 hg8 _ hat8
                    obtain ⟨A8, k8, c8, rfl⟩ := own_form hown8
                    have RP := (RQ.out.grown (World.grownBy_alloc wq (.cells #[.int .u8 a3, .int .u8 b3, .slice A3 k3 c3] TN) none)).push hown8 hg8 (by rw [World.size_alloc]; exact hat8) (HPQ.out.grown (World.grownBy_alloc wq (.cells #[.int .u8 a3, .int .u8 b3, .slice A3 k3 c3] TN) none))
                    rw [take_snoc5 HKJ.out] at RP
                    have HRP := Lib.hid RP
                    have HO8 := Lib.hid ((RQ.out.co.alloc (.cells #[.int .u8 a3, .int .u8 b3, .slice A3 k3 c3] TN)).grown hg8 (fun e => RQ.out.ap _ e.symm rfl))
                    have s2 := HO8.out.c2
                    have sf := HO8.out.f 2
                    clear RP hown8 hg8 hat8 own1 o2 hlt4
                    go_wp2_with fail
                    go_roundw
                    case rel => exact ⟨j + 1, _, A8, k8, c8, _, by omega, by go_num, rfl, Lib.hid (good3 HGJ.out hgd.out hj0 (.inr (.inl ⟨rfl, rfl⟩))), HRP⟩
                    case measure => simp [intOf]; omega
                  · by_cases hb0 : b = 0
                    · have hb1 : (b == 0) = true := by simp [hb0]
                      have HB00 := Lib.hid hb0
                      clear hb0
                      have o2 := RQ.out.co.c2
                      have hlt4 := RQ.out.co.lt
                      have own1 := (RQ.out.grown (World.grownBy_alloc wq (.cells #[.int .u8 a3, .int .u8 b3, .slice A3 k3 c3] TN) none)).row
                      go_wp2_with (at_builtin; refine wpList_append_own_at _ rfl _ _ 68 rfl (h + 3) TN i0 (.agg #[.int .u8 0, .int .u8 0, .slice none 0 0]) 3 32 Try.underlying68 hi0 hz0 hz1 hz2 rfl (by decide) _ j (flat3 ys) rfl own1 ⟨wq.heap.size, 0, none⟩ 1 1 [.int .u8 a3, .int .u8 b3, .slice A3 k3 c3] rfl rfl ?n24_1 ?n24_2 ?n24_3 ?n24_4 ?n24_5 ?_)
                      try case n24_1 => exact cell3_new _ _ _ _ _
                      try case n24_2 => simp [Value.oneCell']
                      try case n24_3 => simp only [maxLen]; omega
                      try case n24_4 => omega
                      try case n24_5 => first | omega | (rw [World.size_alloc]; omega)
                      intro v8 w8 hown8 hg8 _ hat8
                      obtain ⟨A8, k8, c8, rfl⟩ := own_form hown8
                      have RP := (RQ.out.grown (World.grownBy_alloc wq (.cells #[.int .u8 a3, .int .u8 b3, .slice A3 k3 c3] TN) none)).push hown8 hg8 (by rw [World.size_alloc]; exact hat8) (HPQ.out.grown (World.grownBy_alloc wq (.cells #[.int .u8 a3, .int .u8 b3, .slice A3 k3 c3] TN) none))
                      rw [take_snoc5 HKJ.out] at RP
                      have HRP := Lib.hid RP
                      have HO8 := Lib.hid ((RQ.out.co.alloc (.cells #[.int .u8 a3, .int .u8 b3, .slice A3 k3 c3] TN)).grown hg8 (fun e => RQ.out.ap _ e.symm rfl))
                      have s2 := HO8.out.c2
                      have sf := HO8.out.f 2
                      clear RP hown8 hg8 hat8 own1 o2 hlt4
                      go_wp2_with fail
                      go_roundw
                      case rel => exact ⟨j + 1, _, A8, k8, c8, _, by omega, by go_num, rfl, Lib.hid (good3 HGJ.out hgd.out hj0 (.inr (.inr (.inl ⟨rfl, rfl, HB00.out, rfl⟩)))), HRP⟩
                      case measure => simp [intOf]; omega
                    · have hb1 : (b == 0) = false := by simp [hb0]
                      have hbp : 0 < b := by have := HB0.out; omega
                      have HFU := Lib.hid (sfree_any u.size u S ua ub UA uk uc b wq (Nat.le_refl _) huok hbp (HU.out.grown RQ.out.gr))
                      obtain ⟨fu, hfu⟩ : ∃ fu, u.free b = fu := ⟨_, rfl⟩
                      rw [hfu] at HFU HGJ
                      have u0 := RQ.out.cu.c0
                      have u1 := RQ.out.cu.c1
                      have u2 := RQ.out.cu.c2
                      clear hfu
                      go_wp2_with fail
                      refine HFU.out.mono ?_
                      rintro e w9 ⟨rfl, hg8⟩
                      have R8 := Lib.hid (RQ.out.grown hg8)
                      have C8 := Lib.hid (CQ.out.grown hg8 (by simp))
                      have HP8 := Lib.hid (HPQ.out.grown hg8)
                      clear hg8 u0 u1 u2 p0 p1 p2 n1p
                      have p0 := C8.out.c0
                      have p1 := C8.out.c1
                      have p2 := C8.out.c2
                      cases fu
                      · have o2 := R8.out.co.c2
                        have hlt4 := R8.out.co.lt
                        have own1 := (R8.out.grown (World.grownBy_alloc w9 (.cells #[.int .u8 a3, .int .u8 b3, .slice A3 k3 c3] TN) none)).row
                        go_wp2_with (at_builtin; refine wpList_append_own_at _ rfl _ _ 68 rfl (h + 3) TN i0 (.agg #[.int .u8 0, .int .u8 0, .slice none 0 0]) 3 32 Try.underlying68 hi0 hz0 hz1 hz2 rfl (by decide) _ j (flat3 ys) rfl own1 ⟨w9.heap.size, 0, none⟩ 1 1 [.int .u8 a3, .int .u8 b3, .slice A3 k3 c3] rfl rfl ?n25_1 ?n25_2 ?n25_3 ?n25_4 ?n25_5 ?_)
                        try case n25_1 => exact cell3_new _ _ _ _ _
                        try case n25_2 => simp [Value.oneCell']
                        try case n25_3 => simp only [maxLen]; omega
                        try case n25_4 => omega
                        try case n25_5 => first | omega | (rw [World.size_alloc]; omega)
                        intro v8 w8 hown8 hg8 _ hat8
                        obtain ⟨A8, k8, c8, rfl⟩ := own_form hown8
                        have RP := (R8.out.grown (World.grownBy_alloc w9 (.cells #[.int .u8 a3, .int .u8 b3, .slice A3 k3 c3] TN) none)).push hown8 hg8 (by rw [World.size_alloc]; exact hat8) (HP8.out.grown (World.grownBy_alloc w9 (.cells #[.int .u8 a3, .int .u8 b3, .slice A3 k3 c3] TN) none))
                        rw [take_snoc5 HKJ.out] at RP
                        have HRP := Lib.hid RP
                        have HO8 := Lib.hid ((R8.out.co.alloc (.cells #[.int .u8 a3, .int .u8 b3, .slice A3 k3 c3] TN)).grown hg8 (fun e => R8.out.ap _ e.symm rfl))
                        have s2 := HO8.out.c2
                        have sf := HO8.out.f 2
                        clear RP hown8 hg8 hat8 own1 o2 hlt4
                        go_wp2_with fail
                        go_roundw
                        case rel => exact ⟨j + 1, _, A8, k8, c8, _, by omega, by go_num, rfl, Lib.hid (good3 HGJ.out hgd.out hj0 (.inr (.inr (.inr ⟨rfl, rfl, hb0, rfl⟩)))), HRP⟩
                        case measure => simp [intOf]; omega
                      · have o2 := R8.out.co.c2
                        have hlt4 := R8.out.co.lt
                        have own1 := (R8.out.grown (World.grownBy_alloc w9 (.cells #[.int .u8 a3, .int .u8 b3, .slice A3 k3 c3] TN) none)).row
                        go_wp2_with (at_builtin; refine wpList_append_own_at _ rfl _ _ 68 rfl (h + 3) TN i0 (.agg #[.int .u8 0, .int .u8 0, .slice none 0 0]) 3 32 Try.underlying68 hi0 hz0 hz1 hz2 rfl (by decide) _ j (flat3 ys) rfl own1 ⟨w9.heap.size, 0, none⟩ 1 1 [.int .u8 a3, .int .u8 b3, .slice A3 k3 c3] rfl rfl ?n26_1 ?n26_2 ?n26_3 ?n26_4 ?n26_5 ?_)
                        try case n26_1 => exact cell3_new _ _ _ _ _
                        try case n26_2 => simp [Value.oneCell']
                        try case n26_3 => simp only [maxLen]; omega
                        try case n26_4 => omega
                        try case n26_5 => first | omega | (rw [World.size_alloc]; omega)
                        intro v8 w8 hown8 hg8 _ hat8
                        obtain ⟨A8, k8, c8, rfl⟩ := own_form hown8
                        have RP := (R8.out.grown (World.grownBy_alloc w9 (.cells #[.int .u8 a3, .int .u8 b3, .slice A3 k3 c3] TN) none)).push hown8 hg8 (by rw [World.size_alloc]; exact hat8) (HP8.out.grown (World.grownBy_alloc w9 (.cells #[.int .u8 a3, .int .u8 b3, .slice A3 k3 c3] TN) none))
                        rw [take_snoc5 HKJ.out] at RP
                        have HRP := Lib.hid RP
                        have HO8 := Lib.hid ((R8.out.co.alloc (.cells #[.int .u8 a3, .int .u8 b3, .slice A3 k3 c3] TN)).grown hg8 (fun e => R8.out.ap _ e.symm rfl))
                        have s2 := HO8.out.c2
                        have sf := HO8.out.f 2
                        clear RP hown8 hg8 hat8 own1 o2 hlt4
                        go_wp2_with fail
                        go_roundw
                        case rel => exact ⟨j + 1, _, A8, k8, c8, _, by omega, by go_num, rfl, Lib.hid (good3 HGJ.out hgd.out hj0 (.inr (.inr (.inr ⟨rfl, rfl, hb0, rfl⟩)))), HRP⟩
                        case measure => simp [intOf]; omega

            · cases hjbb
      · have hjk : j = k := by omega
        have HJK := Lib.hid hjk
        have HRS := hrs
        obtain ⟨PV, hPV⟩ : ∃ x, Value.slice PA pn pc = x := ⟨_, rfl⟩
        have c0 := hrs.out.co.c0
        have c1 := hrs.out.co.c1
        have c2 := hrs.out.co.c2
        have r0 := hrs.out.cr.c0
        have r1 := hrs.out.cr.c1
        have r2 := hrs.out.cr.c2
        have f0 := hrs.out.cr.f 0
        have f1 := hrs.out.cr.f 1
        have f2 := hrs.out.cr.f 2
        have HEND := Lib.hid (hrs.out.ended hS)
        have HC3 := Lib.hid (hrs.out.cr.laid (x' := .int .u8 a) (y' := .int .u8 b) (z' := .slice PA pn pc))
        have hgd2 : Hid (gd = res) := Lib.hid (by
          rw [hgd.out, HJK.out, List.take_of_length_le (by rw [HGLL.out, HLEN.out, HKL.out]; exact Nat.le_refl _), HGL.out, HRES.out])
        have hks : Hid ((repK t v u).take j = repK t v u) := Lib.hid (by rw [HJK.out, List.take_of_length_le (by rw [HRKL.out, HLEN.out, HKL.out]; exact Nat.le_refl _)])
        clear hjk hPV hrs
        go_wp2_with fail
        clear c0 c1 c2 r0 r1 r2 f0 f1 f2
        have n0 := HC3.out.c0
        have n1 := HC3.out.c1
        have n2 := HC3.out.c2
        unfold laid3 at n0 n1 n2
        refine bodyPost_ret (v := .tuple #[.agg #[.int .u8 a, .int .u8 b, .slice PA pn pc], .bool gd]) (by simp [results, Try.results77, go_sem, n0, n1, n2]) rfl ?_
        obtain ⟨e1, e2, e3, e4⟩ := HEND.out
        rw [hks.out] at e3
        exact ⟨_, _, _, _, _, by rw [hgd2.out], e4, HSN.out _ _ _ _ e1 e2 e3⟩

end Go.Proofs.Ytmofoeljajdhmaa

/- The instructions of a term; what writeTerm and writeLoop of the program write. -/
import Derived.Test.YtdfanconjiiceaaDoorWrtI
import Derived.Test.YtdfanconjiiceaaDoorInsK
import Derived.Test.YtdfanconjiiceaaDoorKidsS
import Derived.Test.YtdfanconjiiceaaDoorTSizeF
import Derived.Test.YtdfanconjiiceaaDoorTAs
import Derived.Test.YtdfanconjiiceaaDoorTRd
import Derived.Deep.RegionWith
import Derived.Deep.RegionHeld3
namespace Go.Proofs.YtdfanconjiiceaaDoor
open Go.RowKit

/-- The texts of the instructions of a term. -/
def Tm.ins : Tm → List (List UInt8)
  | .dig c => [[byt c]]
  | .var c => [[byt c]]
  | .pre c s => s.ins ++ [[byt c]]
  | .two c s t => s.ins ++ (t.ins ++ [[byt c]])
  | .loop c v s t => s.ins ++ ([[byt c, byt v]] ++ (t.ins ++ [[byt (c + 2)]]))
def insK : List Tm → List (List UInt8)
  | [] => []
  | t :: l => t.ins ++ insK l
theorem insK_snoc (l : List Tm) (t : Tm) : insK (l ++ [t]) = insK l ++ t.ins := by
  induction l with
  | nil => simp [insK]
  | cons a l ih => simp [insK, ih]
def Tm.isLp : Tm → Bool
  | .loop _ _ _ _ => true
  | _ => false
theorem ins_plain {t : Tm} (h : t.isLp = false) : t.ins = insK t.kids ++ [[byt t.sgn]] := by
  cases t <;> simp_all [Tm.isLp, Tm.ins, Tm.kids, Tm.sgn, insK]
theorem ins_len (t : Tm) : t.ins.length ≤ 2 * t.size ∧ ∀ x ∈ t.ins, x.length ≤ 2 := by
  induction t with
  | dig c => simp [Tm.ins, Tm.size]
  | var c => simp [Tm.ins, Tm.size]
  | pre c s ih =>
    refine ⟨by simp [Tm.ins, Tm.size]; omega, fun x hx => ?_⟩
    simp only [Tm.ins, List.mem_append, List.mem_singleton] at hx
    rcases hx with hx | rfl
    · exact ih.2 x hx
    · simp
  | two c s t ih1 ih2 =>
    refine ⟨by simp [Tm.ins, Tm.size]; omega, fun x hx => ?_⟩
    simp only [Tm.ins, List.mem_append, List.mem_singleton] at hx
    rcases hx with hx | hx | rfl
    · exact ih1.2 x hx
    · exact ih2.2 x hx
    · simp
  | loop c v s t ih1 ih2 =>
    refine ⟨by simp [Tm.ins, Tm.size]; omega, fun x hx => ?_⟩
    simp only [Tm.ins, List.mem_append, List.mem_singleton] at hx
    rcases hx with hx | rfl | hx | rfl
    · exact ih1.2 x hx
    · simp
    · exact ih2.2 x hx
    · simp
theorem puts_len (xs : List (List UInt8)) : ∀ (l : List UInt8), (∀ x ∈ xs, x.length ≤ 2) → (puts l xs).length ≤ l.length + 3 * xs.length := by
  induction xs with
  | nil => intro l _; simp [puts]
  | cons a xs ih =>
    intro l h
    have h1 := ih (put l a) (fun x hx => h x (List.mem_cons_of_mem _ hx))
    have h2 := put_len l a
    have h3 := h a (by simp)
    have e : puts l (a :: xs) = puts (put l a) xs := rfl
    rw [e, List.length_cons]
    omega
theorem puts_ins (l : List UInt8) (t : Tm) : (puts l t.ins).length ≤ l.length + 6 * t.size := by
  have h := ins_len t
  have := puts_len t.ins l h.2
  omega
theorem insK_le (ts : List Tm) : (insK ts).length ≤ 2 * csum ts ∧ ∀ x ∈ insK ts, x.length ≤ 2 := by
  induction ts with
  | nil => simp [insK]
  | cons t ts ih =>
    have h := ins_len t
    refine ⟨by simp only [insK, List.length_append, csum]; omega, fun x hx => ?_⟩
    simp only [insK, List.mem_append] at hx
    rcases hx with hx | hx
    · exact h.2 x hx
    · exact ih.2 x hx
theorem puts_insK (l : List UInt8) (ts : List Tm) : (puts l (insK ts)).length ≤ l.length + 6 * csum ts := by
  have h := insK_le ts
  have := puts_len (insK ts) l h.2
  omega

theorem kd_sgn {t : Tm} (ho : t.Ok) (h : t.isLp = false) : kd t.sgn ≠ 5 ∧ 0 ≤ t.sgn ∧ t.sgn ≤ 255 := by
  cases t with
  | dig c => have hd : isD c = true := ho; have := isD_ge hd; exact ⟨by unfold kd; simp [Tm.sgn, hd], by simp only [Tm.sgn]; omega, by simp only [Tm.sgn]; omega⟩
  | var c =>
    have hv : isV c = true := ho
    have hv2 : c = 97 ∨ c = 98 ∨ 118 ≤ c ∧ c ≤ 122 := by simpa [isV] using hv
    refine ⟨?_, by simp only [Tm.sgn]; omega, by simp only [Tm.sgn]; omega⟩
    unfold kd; simp only [Tm.sgn, hv, if_true]; split <;> decide
  | pre c s =>
    have hv : isP c = true := ho.1
    have hv2 : c = 83 ∨ c = 77 ∨ c = 73 ∨ c = 78 ∨ c = 82 ∨ c = 67 ∨ c = 80 := by simpa [isP] using hv
    refine ⟨?_, by simp only [Tm.sgn]; omega, by simp only [Tm.sgn]; omega⟩
    unfold kd; simp only [Tm.sgn, hv, if_true]; (repeat' split) <;> decide
  | two c s t =>
    have hv : isB c = true := ho.1
    have hv2 : c = 43 ∨ c = 42 ∨ c = 94 ∨ c = 45 ∨ c = 61 ∨ c = 60 ∨ c = 64 := by simpa [isB] using hv
    refine ⟨?_, by simp only [Tm.sgn]; omega, by simp only [Tm.sgn]; omega⟩
    unfold kd; simp only [Tm.sgn, hv, if_true]; (repeat' split) <;> decide
  | loop c v s t => simp [Tm.isLp] at h

theorem ta_plain {w : World} {S : Nat → Prop} {t : Tm} {ty : TypeId} {pv : Value} (h : PT w S t (.iface ty pv)) (hl : t.isLp = false) (xT : TypeId) (u : World) : (Instr.typeAssert (.iface ty pv) xT 71 true).run Tryd.prog u = .ok (.tuple #[.pointer none, .bool false]) u := by
  cases t with
  | dig c => cases h; exact ta_dig_loop _ _ _
  | var c => cases h; exact ta_var_loop _ _ _
  | pre c s => obtain ⟨b, x, hv, _⟩ := h; cases hv; exact ta_pre_loop _ _ _
  | two c s t => obtain ⟨b, x, y, hv, _⟩ := h; cases hv; exact ta_two_loop _ _ _
  | loop c v s t => simp [Tm.isLp] at hl

theorem Kp.own {w w' : World} {base size n : Nat} {e : TypeId} {v : Value} {xs : List Value} (h : Kp w w') (hT : e ≠ CW) (hU : e ≠ U8) (ho : w.ownsRow base e size v n xs) : w'.ownsRow base e size v n xs := own_keep ho (fun g hg => by
  rcases ho.2 with ⟨rfl, _⟩ | ⟨g', cap, cur, rfl, _, hgg, _⟩
  · cases hg
  · obtain rfl : g' = g := by simpa [Value.ownBlock] using hg
    exact (h g' _ _ _ hT hU hgg).trans hgg.symm)
theorem PT.under {w w' : World} {B : Nat} {t : Tm} {v : Value} (h : PT w (fun k => k < B) t v) (hb : Below B w w') : PT w' (fun k => k < B) t v :=
  h.keep (fun k hk _ => hb.block k hk) (fun _ hk _ => hk) t v

set_option maxRecDepth 100000 in
set_option maxHeartbeats 4000000 in
theorem wt_plain (t : Tm) (ho : t.Ok) (hnl : t.isLp = false) (ty : TypeId) (pv : Value) (B b : Nat) (l : List UInt8) (w : World) (h : PT w (fun k => k < B) t (.iface ty pv)) (hwb : WB w B b l) (hl : l.length + 6 * t.size ≤ 5000)
    (ih : ∀ (s : Tm) (sv : Value) (l' : List UInt8) (w' : World), s ∈ t.kids → PT w' (fun k => k < B) s sv → WB w' B b l' → l'.length + 6 * s.size ≤ 5000 → Calls Tryd.prog 13 #[.pointer (some ⟨b, 0, none⟩), sv] w' (WrP B b (puts l' s.ins) w')) :
    Calls Tryd.prog 13 #[.pointer (some ⟨b, 0, none⟩), .iface ty pv] w (WrP B b (puts l t.ins) w) := by
  rw [ins_plain hnl, puts_snoc]
  obtain ⟨h5, hs0, hs1⟩ := kd_sgn ho hnl
  have hta := fun xT u => ta_plain h hnl xT u
  have hm := method_sign h
  have hrun := run_sign t pv
  have hm2 := method_parts h
  have hrun2 := run_parts t pv
  have HS := Lib.hid (sign_any t _ ty pv w h)
  have HI := Lib.hid (fun u => inst_any t.sgn hs0 hs1 u)
  have HPT := Lib.hid h
  have HWB := Lib.hid hwb
  have HIH := Lib.hid ih
  have hsz := csum_kids t
  have HLB := Lib.hid (show l.length + 6 * (1 + csum t.kids) ≤ 5000 by omega)
  have hbt : ∀ v, itx (kd t.sgn) t.sgn v = [byt t.sgn] := fun v => by unfold itx; rw [if_neg h5]
  have HBT := Lib.hid hbt
  have HKL := Lib.hid (kids_len t)
  have HBw := Lib.hid (show B ≤ w.heap.size by have := hwb.lt; omega)
  obtain ⟨sg, hsg⟩ : ∃ q, t.sgn = q := ⟨_, rfl⟩
  obtain ⟨kk, hkk⟩ : ∃ q, kd sg = q := ⟨_, rfl⟩
  rw [hsg] at HS HI HBT ⊢
  rw [hkk] at HI HBT
  unfold insT at HI
  clear h hwb ih hl hsz hbt h5 hs0 hs1 hsg hkk ho hnl
  go_enter_defers Tryd.func13, Tryd.ntmps13
  go_wp2_with fail
  refine HS.out.mono ?_
  rintro e w1 ⟨rfl, rfl⟩
  go_wp2_with fail
  refine (HI.out _).mono ?_
  rintro e w2 ⟨rfl, hg2⟩
  have HPA := Lib.hid (partsS_any t _ ty pv w2 (HPT.out.grown hg2))
  have HG2 := Lib.hid hg2
  clear hg2
  go_wp2_with fail
  refine HPA.out.mono ?_
  rintro e w3 ⟨hg3, sv, xs, rfl, ho3, ha3⟩
  obtain ⟨A, k, c, rfl⟩ := own_form ho3
  obtain ⟨hkx, hkc, hrow⟩ := orow ho3
  subst hkx
  have HG3 := Lib.hid (HG2.out.trans hg3)
  have hkl := All2.length _ _ ha3
  have HA3 := Lib.hid (All2.mono (fun s v hs => PT.grown hs hg3) _ _ ha3)
  have HROW := Lib.hid ho3
  obtain ⟨n, hn⟩ : ∃ n, xs.length = n := ⟨_, rfl⟩
  have HN := Lib.hid hn
  have HKN := Lib.hid (hkl.trans hn)
  have hn2 : n ≤ 2 := by have := HKL.out; omega
  rw [hn]
  clear hg3 ho3 ha3 hrow hkl hn hkc
  go_wp2_with fail
  go_loopw [24] (fun i wr => ∃ j : Nat, j ≤ n ∧ i = .int .i64 j ∧ Hid (WB wr B b (puts l (insK (t.kids.take j)))) ∧ Hid (Below B w3 wr) ∧ Hid (Kp w3 wr)) (fun i _ => n - (intOf i).toNat)
  case atStart => exact ⟨0, Nat.zero_le _, rfl, Lib.hid (by simp only [List.take_zero, insK, puts, List.foldl_nil]; exact HWB.out.grown HG3.out), Lib.hid (Below.refl B w3), Lib.hid (Kp.refl _)⟩
  case round =>
    obtain ⟨j, hj, rfl, hw, hbe, hkp⟩ := hrel
    by_cases hlt : j < n
    · obtain ⟨s, sv, hs, hsv, hps⟩ := HA3.out.get (j := j) (by have := HN.out; omega)
      obtain ⟨sty, spv, rfl⟩ := hps.iface
      have hrow := hkp.out.own (by decide) (by decide) HROW.out
      obtain ⟨_, hnc, hr3⟩ := orow hrow
      obtain ⟨g, rfl, _, hgw, hcell⟩ := hr3 (by have := HN.out; omega)
      have hcl := hcell j _ hsv
      have hps2 := hps.under hbe.out
      have hst := csum_step hs
      have hct := csum_take t.kids (j + 1)
      have hpl := puts_insK l (t.kids.take j)
      have HC := Lib.hid (HIH.out s (.iface sty spv) _ wr (List.mem_of_getElem? hs) hps2 hw.out (by have := HLB.out; omega))
      have HTK : Hid (puts (puts l (insK (t.kids.take j))) s.ins = puts l (insK (t.kids.take (j + 1)))) := Lib.hid (by
        rw [← puts_append, ← insK_snoc, List.take_add_one, hs]; rfl)
      rw [HTK.out] at HC
      clear hs hsv hps hrow hnc hr3 hcell hps2 hst hct hpl
      go_wp2_with fail
      refine HC.out.mono ?_
      rintro e w5 ⟨rfl, hw5, hb5, hk5⟩
      have HW5 := Lib.hid hw5
      have HB5 := Lib.hid (hbe.out.trans hb5)
      have HK5 := Lib.hid (hkp.out.trans hk5)
      clear hw5 hb5 hk5
      go_wp2_with fail
      go_roundw
      case rel => exact ⟨j + 1, by omega, by go_num, HW5, HB5, HK5⟩
      case measure => simp [intOf]; omega
    · have hjn : j = n := by omega
      have HJ := Lib.hid hjn
      clear hjn
      go_wp2_with fail
      have hall : t.kids.take j = t.kids := by rw [HJ.out, ← HKN.out, List.take_length]
      have hw2 := hw.out
      rw [hall] at hw2
      have hpl := puts_insK l t.kids
      have HLATE := Lib.hid (fun um => write_late B b (puts l (insK t.kids)) kk sg 0 wr hw2 (by have := HLB.out; omega) um)
      rw [HBT.out] at HLATE
      clear hall hw2 hpl
      refine leaves_cons (f := 26) (args := #[.pointer (some ⟨b, 0, none⟩), .agg #[.int .i64 kk, .int .u8 sg, .int .u8 0]]) (by simp) (by simp [go_sem]) ?_
      refine (HLATE.out _).mono ?_
      rintro e u' w9 ⟨rfl, rfl, hw9, hb9, hk9⟩
      simp [Leaves, settle, results, Tryd.results13, go_sem]
      exact ⟨rfl, hw9, ((Below.refl B w1).grown HG3.out HBw.out (fun k hk => by cases hk)).trans (hbe.out.trans hb9), (Kp.grown HG3.out).trans (hkp.out.trans hk9)⟩

set_option maxRecDepth 100000 in
set_option maxHeartbeats 4000000 in
theorem wt_loop (c v : Int) (s t : Tm) (hc : c = 91 ∨ c = 123) (B b g : Nat) (x y : Value) (l : List UInt8) (w : World) (hgB : g < B) (hh : w.heap[g]? = some (.cells #[.int .u8 c, .int .u8 v, x, y] 105 (0, 0))) (hx : PT w (fun k => k < B) s x) (hy : PT w (fun k => k < B) t y) (hwb : WB w B b l) (hl : l.length + 6 * (1 + s.size + t.size) ≤ 5000)
    (ih1 : ∀ (l' : List UInt8) (w' : World), PT w' (fun k => k < B) s x → WB w' B b l' → l'.length + 6 * s.size ≤ 5000 → Calls Tryd.prog 13 #[.pointer (some ⟨b, 0, none⟩), x] w' (WrP B b (puts l' s.ins) w'))
    (ih2 : ∀ (l' : List UInt8) (w' : World), PT w' (fun k => k < B) t y → WB w' B b l' → l'.length + 6 * t.size ≤ 5000 → Calls Tryd.prog 13 #[.pointer (some ⟨b, 0, none⟩), y] w' (WrP B b (puts l' t.ins) w')) :
    Calls Tryd.prog 25 #[.pointer (some ⟨b, 0, none⟩), .pointer (some ⟨g, 0, none⟩)] w (WrP B b (puts l (Tm.loop c v s t).ins) w) := by
  obtain ⟨tx, px, rfl⟩ := hx.iface
  obtain ⟨ty, py, rfl⟩ := hy.iface
  have HCL : ∀ (w' : World), Below B w w' → w'.cell? ⟨g, 0, none⟩ = some (.int .u8 c) ∧ w'.cell? ⟨g, 1, none⟩ = some (.int .u8 v) ∧ w'.cell? ⟨g, 2, none⟩ = some (.iface tx px) ∧ w'.cell? ⟨g, 3, none⟩ = some (.iface ty py) := fun w' hb => by
    have h2 := (hb.block g hgB).trans hh
    exact ⟨cell_of_row w' g 0 _ _ (0, 0) h2, cell_of_row w' g 1 _ _ (0, 0) h2, cell_of_row w' g 2 _ _ (0, 0) h2, cell_of_row w' g 3 _ _ (0, 0) h2⟩
  have HCL := Lib.hid HCL
  have HBw := Lib.hid (show B ≤ w.heap.size by have := hwb.lt; omega)
  have c0 := (HCL.out w (Below.refl B w)).1
  have c2 := (HCL.out w (Below.refl B w)).2.2.1
  have HLB := Lib.hid (fun w => lastbr_any c hc w)
  have hc2 : 0 ≤ c + 2 ∧ c + 2 ≤ 255 := by omega
  have HIN := Lib.hid (fun u => inst_any (c + 2) hc2.1 hc2.2 u)
  have hk6 : kd (c + 2) = 6 := by rcases hc with rfl | rfl <;> decide
  rw [hk6] at HIN
  unfold insT at HIN
  have HLL := Lib.hid hl
  have HX := Lib.hid hx
  have HY := Lib.hid hy
  have HWB := Lib.hid hwb
  have HI1 := Lib.hid ih1
  have HI2 := Lib.hid ih2
  obtain ⟨cc, hcc⟩ : ∃ q, c + 2 = q := ⟨_, rfl⟩
  have HCC := Lib.hid hcc
  rw [hcc] at HLB HIN
  clear hh hx hy hwb ih1 ih2 hl hc2 hk6 hcc hc
  go_enter_defers Tryd.func25, Tryd.ntmps25
  go_wp2_with fail
  refine (HLB.out _).mono ?_
  rintro e w1 ⟨rfl, rfl⟩
  go_wp2_with fail
  refine (HIN.out _).mono ?_
  rintro e w2 ⟨rfl, hg2⟩
  have HB2 := Lib.hid ((Below.refl B w1).grown hg2 HBw.out (fun k hk => by cases hk))
  have HK2 := Lib.hid (Kp.grown hg2)
  have HW2 := Lib.hid (HWB.out.grown hg2)
  have d2 := (HCL.out w2 HB2.out).2.2.1
  clear hg2 c0 c2
  go_wp2_with fail
  refine (HI1.out l w2 (HX.out.under HB2.out) HW2.out (by have := HLL.out; omega)).mono ?_
  rintro e w3 ⟨rfl, hw3, hb3, hk3⟩
  have HB3 := Lib.hid (HB2.out.trans hb3)
  have HK3 := Lib.hid (HK2.out.trans hk3)
  have e0 := (HCL.out w3 HB3.out).1
  have e1 := (HCL.out w3 HB3.out).2.1
  have HP3 := Lib.hid (puts_ins l s)
  have HWR := Lib.hid (fun u (hg : w3.grownBy u none) => write_any B b (puts l s.ins) 5 c v u (hw3.grown hg) (by have := HP3.out; have := HLL.out; omega))
  have HBw3 := Lib.hid (show B ≤ w3.heap.size by have := hw3.lt; omega)
  clear hw3 hb3 hk3 d2
  go_wp2_with fail
  refine wp_region_noPanic ?_
  go_region_with (
    go_at_call 26
    refine (HWR.out _ (gr_drewN w3 1 none)).mono ?_
    rintro e w4 ⟨rfl, hw4, hb4, hk4⟩
    have HW4 := Lib.hid hw4
    have HB4 := Lib.hid (HB3.out.trans (((Below.refl B w3).grown (gr_drewN w3 1 none) HBw3.out (fun k hk => by cases hk)).trans hb4))
    have HK4 := Lib.hid (HK3.out.trans ((Kp.grown (gr_drewN w3 1 none)).trans hk4))
    have f3 := (HCL.out w4 HB4.out).2.2.2
    clear hw4 hb4 hk4)
  all_goals
    try refine NoPanic.normal ?_
    go_wp2_with fail
    refine (HI2.out _ w4 (HY.out.under HB4.out) HW4.out (by have := put_len (puts l s.ins) (itx 5 c v); have := itx_len 5 c v; have := HP3.out; have := HLL.out; omega)).mono ?_
    rintro e w5 ⟨rfl, hw5, hb5, hk5⟩
    have hp5 := puts_ins (put (puts l s.ins) (itx 5 c v)) t
    have HLATE := Lib.hid (fun um => write_late B b _ 6 cc 0 w5 hw5 (by have := put_len (puts l s.ins) (itx 5 c v); have := itx_len 5 c v; have := HP3.out; have := HLL.out; omega) um)
    have HB5 := Lib.hid (HB4.out.trans hb5)
    have HK5 := Lib.hid (HK4.out.trans hk5)
    clear hw5 hb5 hk5 hp5
    go_wp2_with fail
    refine leaves_cons (f := 26) (args := #[.pointer (some ⟨b, 0, none⟩), .agg #[.int .i64 6, .int .u8 cc, .int .u8 0]]) (by simp) (by simp [go_sem]) ?_
    refine (HLATE.out _).mono ?_
    rintro e u' w9 ⟨rfl, rfl, hw9, hb9, hk9⟩
    simp [Leaves, settle, results, Tryd.results25, go_sem]
    refine ⟨rfl, ?_, HB5.out.trans hb9, HK5.out.trans hk9⟩
    have e : puts l (Tm.loop c v s t).ins = put (puts (put (puts l s.ins) (itx 5 c v)) t.ins) (itx 6 cc 0) := by
      rw [← HCC.out]
      simp only [Tm.ins, puts_append]
      rfl
    rw [e]
    exact hw9

theorem wt_any : ∀ (n : Nat) (t : Tm) (v : Value) (B b : Nat) (l : List UInt8) (w : World), t.size ≤ n → t.Ok → PT w (fun k => k < B) t v → WB w B b l → l.length + 6 * t.size ≤ 5000 →
    Calls Tryd.prog 13 #[.pointer (some ⟨b, 0, none⟩), v] w (WrP B b (puts l t.ins) w)
  | 0, t, _, _, _, _, _, hn, _, _, _, _ => by have := t.size_pos; omega
  | n + 1, t, v, B, b, l, w, hn, ho, h, hwb, hl => by
    cases hlp : t.isLp with
    | false =>
      obtain ⟨ty, pv, rfl⟩ := h.iface
      refine wt_plain t ho hlp ty pv B b l w h hwb hl (fun s sv l' w' hs hps hw' hl' => ?_)
      have hsz : s.size ≤ n := by
        cases t with
        | dig c => simp [Tm.kids] at hs
        | var c => simp [Tm.kids] at hs
        | pre c u => simp only [Tm.kids, List.mem_singleton] at hs; subst hs; simp only [Tm.size] at hn; omega
        | two c u r => simp only [Tm.kids, List.mem_cons, List.not_mem_nil, or_false] at hs; simp only [Tm.size] at hn; rcases hs with rfl | rfl <;> omega
        | loop c i u r => simp [Tm.isLp] at hlp
      have hso : s.Ok := by
        cases t with
        | dig c => simp [Tm.kids] at hs
        | var c => simp [Tm.kids] at hs
        | pre c u => simp only [Tm.kids, List.mem_singleton] at hs; subst hs; exact ho.2
        | two c u r => simp only [Tm.kids, List.mem_cons, List.not_mem_nil, or_false] at hs; rcases hs with rfl | rfl; exact ho.2.1; exact ho.2.2
        | loop c i u r => simp [Tm.isLp] at hlp
      exact wt_any n s sv B b l' w' hsz hso hps hw' hl'
    | true =>
      cases t with
      | dig c => simp [Tm.isLp] at hlp
      | var c => simp [Tm.isLp] at hlp
      | pre c u => simp [Tm.isLp] at hlp
      | two c u r => simp [Tm.isLp] at hlp
      | loop c i u r =>
        obtain ⟨g, x, y, rfl, hgB, hh, hx, hy⟩ := h
        simp only [Tm.size] at hn hl
        have HL := Lib.hid (wt_loop c i u r ho.1 B b g x y l w hgB hh hx hy hwb (by omega) (fun l' w' h1 h2 h3 => wt_any n u x B b l' w' (by omega) ho.2.2.1 h1 h2 h3) (fun l' w' h1 h2 h3 => wt_any n r y B b l' w' (by omega) ho.2.2.2 h1 h2 h3))
        have hta := fun xT u => ta_loop_loop (.pointer (some ⟨g, 0, none⟩)) xT u
        generalize puts l (Tm.loop c i u r).ins = m at HL ⊢
        clear hh hx hy hwb hl hn ho hlp
        go_enter_defers Tryd.func13, Tryd.ntmps13
        go_wp2_with fail
        refine HL.out.mono ?_
        rintro e w1 ⟨rfl, hw1, hb1, hk1⟩
        go_wp2_with fail
        simp [bodyPostD, Leaves, results, Tryd.results13, go_sem]
        exact ⟨rfl, hw1, hb1, hk1⟩

end Go.Proofs.YtdfanconjiiceaaDoor

/- 6 texts in one: VEmpty VPack RdL VRaw VPackI VPackS. -/
import Derived.Test.YtdfanconjiiceaaPutV
import Derived.Test.YtdfanconjiiceaaRowIns
import Derived.Test.YtdfanconjiiceaaLayRd
import Derived.Test.YtdfanconjiiceaaRawM
import Derived.Test.YtdfanconjiiceaaLvText
import Derived.Test.YtdfanconjiiceaaStrsF
import Derived.Test.YtdfanconjiiceaaL1Read
import Derived.Test.YtdfanconjiiceaaIn
import Derived.Test.YtdfanconjiiceaaPutSN
import Derived.Test.YtdfanconjiiceaaNest
import Derived.Test.YtdfanconjiiceaaClone
import Derived.Test.YtdfanconjiiceaaFod
namespace Go.Proofs.Ytdfanconjiiceaa
/- VEmpty -/
section
open Go.RowKit

/-- An empty level more. -/
theorem flatv_step {wr : World} {base gl j : Nat} {d0 : Value} {D : List Int} (h : FlatV wr base gl d0 (List.replicate j []) D) :
    ∃ g c vs, Tri wr gl 34 (.int .i64 0) (.slice (some ⟨g, 0, none⟩) j c) d0 ∧ wr.ownsRow base 23 1 (.slice (some ⟨g, 0, none⟩) j c) j vs ∧ base ≤ wr.heap.size ∧
      ∀ (w8 : World) (gg cap : Nat), ((wr.alloc (.cells #[] 3)).alloc (.cells #[.slice (some ⟨wr.heap.size, 0, none⟩) 0 0] 23)).grownBy w8 (Value.slice (some ⟨g, 0, none⟩) j c).ownBlock →
        w8.ownsRow base 23 1 (.slice (some ⟨gg, 0, none⟩) (j + 1) cap) (j + 1) (vs ++ [.slice (some ⟨wr.heap.size, 0, none⟩) 0 0]) →
        Tri w8 gl 34 (.int .i64 0) (.slice (some ⟨g, 0, none⟩) j c) d0 ∧ Below base wr (w8.setCell ⟨gl, 1, none⟩ (.slice (some ⟨gg, 0, none⟩) (j + 1) cap)) ∧
        FlatV (w8.setCell ⟨gl, 1, none⟩ (.slice (some ⟨gg, 0, none⟩) (j + 1) cap)) base gl d0 (List.replicate (j + 1) []) D ∧
        ∀ (g0 : Nat) (x y z : Value), g0 ≠ gl → Tri wr g0 34 x y z → Tri (w8.setCell ⟨gl, 1, none⟩ (.slice (some ⟨gg, 0, none⟩) (j + 1) cap)) g0 34 x y z := by
  obtain ⟨g, c, hp, ⟨vs, ho, hr⟩, hb, hgl⟩ := h
  rw [List.length_replicate] at hp ho
  refine ⟨g, c, vs, hp, ho, hb, fun w8 gg cap hg8 ho8 => ?_⟩
  have hg6 : wr.grownBy ((wr.alloc (.cells #[] 3)).alloc (.cells #[.slice (some ⟨wr.heap.size, 0, none⟩) 0 0] 23)) none := (World.grownBy_alloc _ _ _).trans (World.grownBy_alloc _ _ _)
  have ho6 := ho.kept hg6 (by cases hv : (Value.slice (some ⟨g, 0, none⟩) j c).ownBlock <;> simp)
  have hx6 : ((wr.alloc (.cells #[] 3)).alloc (.cells #[.slice (some ⟨wr.heap.size, 0, none⟩) 0 0] 23)).ownsRow base 3 1 (.slice (some ⟨wr.heap.size, 0, none⟩) 0 0) 0 [] :=
    (World.ownsRow_made (base := base) (e := 3) (size := 1) wr #[] 0 hb (by simp) (by simp)).alloc _
  have hx8 := own_aside hx6 ho6 (by decide) hg8
  have hp8 := Tri.row (hp.grown hg6 (by simp)) ho6 (by decide) hg8
  have hr6 := hr.grown hg6
  have hr8 : LRows w8 base (vs ++ [d0]) (List.replicate j [] ++ [D]) := ⟨hr6.1, fun i v L hv hL => own_aside (hr6.2.1 i v L hv hL) ho6 (by decide) hg8, hr6.2.2⟩
  have hs := gr_set w8 gl 1 (.slice (some ⟨gg, 0, none⟩) (j + 1) cap)
  have hvl : vs.length = (List.replicate j ([] : List Int)).length := by have := ho.1; simp; omega
  have hr9 := (hr8.insert (L := []) hvl hx8 (fun g2 i v hg2 hv hv2 => by
    simp only [Value.ownBlock, Option.some.injEq] at hg2
    subst hg2
    have hi : i < (List.replicate j ([] : List Int) ++ [D]).length := by rw [← hr.1]; exact (List.getElem?_eq_some_iff.1 hv).1
    have := ((hr.2.1 i v _ hv (List.getElem?_eq_getElem hi)).lt _ hv2).2
    omega))
  have hB : Below base wr w8 := ⟨hg8.os.trans hg6.os, hg8.tape.trans hg6.tape, hg8.output.trans hg6.output, Nat.le_trans hg6.size hg8.size, fun k hk => (hg8.block k (Nat.lt_of_lt_of_le (Nat.lt_of_lt_of_le hk hb) hg6.size) (fun e => by have := (ho.lt k e.symm).1; omega)).trans (hg6.block k (Nat.lt_of_lt_of_le hk hb) (by simp))⟩
  have e1 : List.replicate j ([] : List Int) ++ [[]] = List.replicate (j + 1) [] := by rw [List.replicate_succ']
  have hoB : (w8.setCell ⟨gl, 1, none⟩ (.slice (some ⟨gg, 0, none⟩) (j + 1) cap)).ownsRow base 23 1 (.slice (some ⟨gg, 0, none⟩) (j + 1) cap) (j + 1) (vs ++ [.slice (some ⟨wr.heap.size, 0, none⟩) 0 0]) :=
    own_keep ho8 (fun q hq => hs.block q (ho8.lt q hq).2 (fun e => by
      cases e
      rcases ho8.2 with ⟨hv, _⟩ | ⟨b, cap', cur, hv, _, hb', _⟩
      · cases hv
      · cases hv
        simp only [Value.ownBlock, Option.some.injEq] at hq
        subst hq
        unfold Tri at hp8
        rw [hb'] at hp8
        cases hp8))
  refine ⟨hp8, hB.trans (below_set hgl), ⟨gg, cap, by rw [List.length_replicate]; exact hp8.set1 _, ⟨_, by rw [List.length_replicate]; exact hoB, ?_⟩, Nat.le_trans hb (Nat.le_trans hg6.size (Nat.le_trans hg8.size hs.size)), hgl⟩, fun g0 x y z hne hpg => ?_⟩
  · rw [← e1]
    exact LRows.other hr9 hp8 (by decide) hs
  · exact (Tri.row (hpg.grown hg6 (by simp)) ho6 (by decide) hg8).grown hs (by simpa using hne)

/-- The beginning: no levels, no numbers. -/
theorem flatv_start (w : World) (o : Obj) :
    FlatV ((((w.alloc o).alloc (.cells #[] 23)).alloc (.cells #[] 3)).alloc (.cells #[.int .i64 0, .slice (some ⟨w.heap.size + 1, 0, none⟩) 0 0, .slice (some ⟨w.heap.size + 1 + 1, 0, none⟩) 0 0] 34)) w.heap.size (w.heap.size + 1 + 1 + 1) (.slice (some ⟨w.heap.size + 1 + 1, 0, none⟩) 0 0) (List.replicate 0 []) [] := by
  have h1 := World.ownsRow_made (base := w.heap.size) (e := 23) (size := 1) (w.alloc o) #[] 0 (by simp) (by simp) (by simp)
  have h2 := World.ownsRow_made (base := w.heap.size) (e := 3) (size := 1) ((w.alloc o).alloc (.cells #[] 23)) #[] 0 (by simp; omega) (by simp) (by simp)
  have h3 := Tri.new (((w.alloc o).alloc (.cells #[] 23)).alloc (.cells #[] 3)) 34 (.int .i64 0) (.slice (some ⟨w.heap.size + 1, 0, none⟩) 0 0) (.slice (some ⟨w.heap.size + 1 + 1, 0, none⟩) 0 0)
  rw [sz_alloc] at h1
  rw [sz_alloc, sz_alloc] at h2
  rw [sz_alloc, sz_alloc, sz_alloc] at h3
  refine ⟨w.heap.size + 1, 0, h3, ⟨[], (h1.alloc _).alloc _, ?_⟩, by simp; omega, by omega⟩
  refine ⟨rfl, fun i v L hv hL => ?_, fun i j v u g hne hv hu _ => ?_⟩
  · match i, hv, hL with
    | 0, hv, hL =>
      simp at hv hL
      subst hv hL
      exact h2.alloc _
    | i + 1, hv, _ => simp at hv
  · have hi := (List.getElem?_eq_some_iff.1 hv).1
    have hj := (List.getElem?_eq_some_iff.1 hu).1
    simp at hi hj
    omega

theorem LaidAt.keep {w w' : World} {base g c : Nat} {d : Value} {LL : List (List Int)} {D : List Int} (h : LaidAt w base g c d LL D) (hk : ∀ (q : Nat) (cs : Array Value) (t : TypeId), base ≤ q → w.heap[q]? = some (.cells cs t (0, 0)) → (t = 3 ∨ t = 23) → w'.heap[q]? = w.heap[q]?) : LaidAt w' base g c d LL D := by
  have key : ∀ {e : TypeId} {v : Value} {n : Nat} {xs : List Value}, w.ownsRow base e 1 v n xs → (e = 3 ∨ e = 23) → w'.ownsRow base e 1 v n xs := fun {e v n xs} ho he => own_keep ho (fun q hq => by
    rcases ho.2 with ⟨rfl, _⟩ | ⟨b, cap, cur, rfl, hb, hg, _⟩
    · cases hq
    · simp only [Value.ownBlock, Option.some.injEq] at hq
      subst hq
      exact hk _ _ _ hb hg he)
  obtain ⟨vs, ho, hr⟩ := h
  exact ⟨vs, key ho (.inr rfl), hr.1, fun i v L hv hL => key (hr.2.1 i v L hv hL) (.inl rfl), hr.2.2⟩

set_option maxRecDepth 100000 in
set_option maxHeartbeats 4000000 in
theorem vempty_any (d : Nat) (w : World) (hd : d ≤ 10) :
    Calls Try.prog 101 #[.int .i64 (d : Int)] w fun e w' => ∃ g c dv, e = .returned (.agg #[.int .i64 0, .slice (some ⟨g, 0, none⟩) d c, dv]) ∧ w.grownBy w' none ∧ LaidAt w' w.heap.size g c dv (List.replicate d []) [] := by
  obtain ⟨i0, hi0, hz0, hz1, hz2⟩ := info_parts infoL
  go_enter Try.func101, Try.ntmps101
  go_wp2_with fail
  have HFM := Lib.hid (flatv_start w (.cells #[.int .i64 0, .slice none 0 0, .slice none 0 0] 34))
  have HND := Lib.hid ((((Tri.new w 34 (.int .i64 0) (.slice none 0 0) (.slice none 0 0)).alloc (.cells #[] 23)).alloc (.cells #[] 3)).alloc (.cells #[.int .i64 0, .slice (some ⟨w.heap.size + 1, 0, none⟩) 0 0, .slice (some ⟨w.heap.size + 1 + 1, 0, none⟩) 0 0] 34))
  have hbw : Below w.heap.size w ((((w.alloc (.cells #[.int .i64 0, .slice none 0 0, .slice none 0 0] 34)).alloc (.cells #[] 23)).alloc (.cells #[] 3)).alloc (.cells #[.int .i64 0, .slice (some ⟨w.heap.size + 1, 0, none⟩) 0 0, .slice (some ⟨w.heap.size + 1 + 1, 0, none⟩) 0 0] 34)) := by
    have hg := (((World.grownBy_alloc w (.cells #[.int .i64 0, .slice none 0 0, .slice none 0 0] 34) none).trans (World.grownBy_alloc _ (.cells #[] 23) none)).trans (World.grownBy_alloc _ (.cells #[] 3) none)).trans (World.grownBy_alloc _ (.cells #[.int .i64 0, .slice (some ⟨w.heap.size + 1, 0, none⟩) 0 0, .slice (some ⟨w.heap.size + 1 + 1, 0, none⟩) 0 0] 34) none)
    exact ⟨hg.os, hg.tape, hg.output, hg.size, fun k hk => hg.block k hk (by simp)⟩
  have HBW := Lib.hid hbw
  clear hbw
  generalize (((w.alloc (.cells #[.int .i64 0, .slice none 0 0, .slice none 0 0] 34)).alloc (.cells #[] 23)).alloc (.cells #[] 3)).alloc (.cells #[.int .i64 0, .slice (some ⟨w.heap.size + 1, 0, none⟩) 0 0, .slice (some ⟨w.heap.size + 1 + 1, 0, none⟩) 0 0] 34) = u0 at HFM HND HBW ⊢
  go_loopw [9] (fun i wr => ∃ (j : Nat), j ≤ d ∧ i = .int .i64 j ∧ Hid (FlatV wr w.heap.size (w.heap.size + 1 + 1 + 1) (.slice (some ⟨w.heap.size + 1 + 1, 0, none⟩) 0 0) (List.replicate j []) []) ∧ Hid (Below w.heap.size w wr) ∧ Hid (Tri wr w.heap.size 34 (.int .i64 0) (.slice none 0 0) (.slice none 0 0))) (fun i _ => d - (intOf i).toNat)
  case atStart => exact ⟨0, Nat.zero_le _, rfl, HFM, HBW, HND⟩
  case round =>
    obtain ⟨j, hj, rfl, hfm, hbl, hnd⟩ := hrel
    by_cases hlt : j < d
    · obtain ⟨g, c, vs, hp, ho, hb, hst⟩ := flatv_step hfm.out
      have HST := Lib.hid hst
      have own6 := (ho.alloc (.cells #[] 3)).alloc (.cells #[.slice (some ⟨wr.heap.size, 0, none⟩) 0 0] 23)
      have p0 := hp.c1
      clear hp ho hst
      go_wp2_with (at_builtin; refine wpList_append_own_at _ rfl _ _ 22 rfl w.heap.size 23 i0 (.slice none 0 0) 1 24 Try.underlying22 hi0 hz0 hz1 hz2 rfl (by decide) _ _ _ rfl own6 ⟨wr.heap.size + 1, 0, none⟩ 1 1 [(.slice (some ⟨wr.heap.size, 0, none⟩) 0 0)] rfl rfl ?h1 ?h2 ?h3 ?h4 ?h5 ?_)
      case h2 => simp [Value.oneCell']
      case h3 => simp only [maxLen]; omega
      case h4 => omega
      case h5 => first | omega | (simp; omega)
      case h1 =>
        have hcn := cell_one_new (wr.alloc (.cells #[] 3)) (.slice (some ⟨wr.heap.size, 0, none⟩) 0 0) 23
        rw [sz_alloc] at hcn
        exact hcn
      intro v8 w8 hown8 hg8 hnil8 _
      obtain ⟨g8, c8, rfl⟩ : ∃ g8 c8, v8 = .slice (some ⟨g8, 0, none⟩) (j + 1) c8 := by
        rcases hown8.2 with ⟨hv, hz⟩ | ⟨b8, cap8, cur8, hv8, _⟩
        · omega
        · exact ⟨b8, cap8, hv8⟩
      obtain ⟨hp8, hb8, hf8, hn8⟩ := HST.out w8 g8 c8 hg8 hown8
      have HB8 := Lib.hid hb8
      have HF8 := Lib.hid hf8
      have HN8 := Lib.hid (hn8 _ _ _ _ (by omega) hnd.out)
      have x0 := hp8.c1
      have x1 := hp8.f 1
      clear hown8 hg8 hnil8 own6 hp8 hb8 hf8 hn8
      go_wp2_with fail
      go_roundw
      case rel => exact ⟨j + 1, by omega, by go_num, HF8, Lib.hid (hbl.out.trans HB8.out), HN8⟩
      case measure => simp [intOf]; omega
    · have hjn : j = d := by omega
      subst hjn
      obtain ⟨g, c, hp, hl, _, _⟩ := hfm.out
      rw [List.length_replicate] at hp
      have p0 := hp.c0
      have p1 := hp.c1
      have p2 := hp.c2
      have r0 := hnd.out.c0
      have r1 := hnd.out.c1
      have r2 := hnd.out.c2
      have f0 := hnd.out.f 0
      have f1 := hnd.out.f 1
      have f2 := hnd.out.f 2
      have HL := Lib.hid hl
      clear hp hl
      go_wp2_with fail
      obtain ⟨B2, hB2⟩ : ∃ B, Value.slice (some ⟨w.heap.size + 1 + 1, 0, none⟩) 0 0 = B := ⟨_, rfl⟩
      rw [hB2] at HL ⊢
      have S1 := ((hnd.out.set0 (.int .i64 0)).set1 (.slice (some ⟨g, 0, none⟩) j c)).set2 B2
      have hgz := ((gr_set wr w.heap.size 0 (.int .i64 0)).trans (gr_set _ w.heap.size 1 (.slice (some ⟨g, 0, none⟩) j c))).trans (gr_set ((wr.setCell ⟨w.heap.size, 0, none⟩ (.int .i64 0)).setCell ⟨w.heap.size, 1, none⟩ (.slice (some ⟨g, 0, none⟩) j c)) w.heap.size 2 B2)
      have q0 := S1.c0
      have q1 := S1.c1
      have q2 := S1.c2
      refine bodyPost_ret (v := .agg #[.int .i64 0, .slice (some ⟨g, 0, none⟩) j c, B2]) (by simp [results, Try.results101, go_sem, q0, q1, q2]) rfl ?_
      refine ⟨g, c, B2, rfl, gr_ownF (gr_below (gr_refl w none) hbl.out) hgz (fun q hq => by cases hq; exact Nat.le_refl _), HL.out.keep (fun q cs t hq hc ht => hgz.block q (Array.getElem?_eq_some_iff.1 hc).1 (fun e => ?_))⟩
      cases e
      have h1 := hnd.out
      unfold Tri at h1
      rw [hc] at h1
      cases h1
      rcases ht with ht | ht <;> cases ht
end

/- VPack -/
section
open Go.RowKit

/-- A vector to be copied. -/
def VctC (w : World) (v : Value) (n : Int) (LL : List (List Int)) (D : List Int) : Prop :=
  ∃ x y, v = .agg #[.int .i64 n, x, y] ∧ LytC w (.agg #[x, y]) LL D
theorem behind_zero {d : Nat} (ts us : List (T d)) : behind 0 (lv d ts) (lv d us) = lv d (ts ++ us) := by
  rw [behind, List.take_zero, List.nil_append, List.drop_zero, lv_append]
theorem lv_none : ∀ d, lv d [] = List.replicate d []
  | 0 => rfl
  | d + 1 => by rw [lv, List.map_nil, List.flatMap_nil, lv_none d, List.replicate_succ]
theorem short_take {d : Nat} {ts : List (T d)} (h : Short (lv d ts)) (j : Nat) : Short (lv d (ts.take j)) := by
  have h1 : Short (behind 0 (lv d []) (lv d ts)) := by rw [behind_zero]; exact h
  have h2 := Short.part (j := j) h1 (by rw [lv_len]; omega)
  rw [behind_zero] at h2
  exact h2
theorem LaidAt.len {w : World} {base g c : Nat} {d : Value} {LL : List (List Int)} {D : List Int} (h : LaidAt w base g c d LL D) : LL.length ≤ c := by
  obtain ⟨vs, ho, _⟩ := h
  rcases ho.2 with ⟨hv, _⟩ | ⟨_, _, _, hv, _, _, hnc, _⟩
  · cases hv
  · simp only [Value.slice.injEq] at hv; omega
theorem LaidAt.lytc {w : World} {base g c : Nat} {d : Value} {LL : List (List Int)} {D : List Int} (h : LaidAt w base g c d LL D) : LytC w (.agg #[.slice (some ⟨g, 0, none⟩) LL.length c, d]) LL D := by
  obtain ⟨⟨A9, c9, rfl, hi9, hd9, hn9⟩, hrw9, hcl9⟩ := h.reads
  exact ⟨_, _, _, _, rfl, h.len, hd9, hrw9, hi9, hn9, hcl9⟩
theorem LaidAt.vec {w w' : World} {base g c gV : Nat} {d x y z : Value} {LL : List (List Int)} {D : List Int} (h : LaidAt w base g c d LL D) (hp : Tri w gV 34 x y z) (hg : w.grownBy w' (some gV)) : LaidAt w' base g c d LL D :=
  h.keep (fun q cs t _ hc ht => hg.block q (Array.getElem?_eq_some_iff.1 hc).1 (fun e => by
    cases e
    unfold Tri at hp
    rw [hc] at hp
    cases hp
    rcases ht with ht | ht <;> cases ht))

set_option maxRecDepth 100000 in
set_option maxHeartbeats 4000000 in
theorem vpack_any (d : Nat) (ts : List (T d)) (xs : List (Int × Value)) (S : Nat → Prop) (A : Option Addr) (k c : Nat) (w : World) (hd : d ≤ 3) (hox : w.ownsRow 0 97 2 (.slice A k c) xs.length (flat2 xs)) (ha : All2 (SNd w S d) ts xs) (hS : ∀ b, S b → b < w.heap.size) (hsh : Short (lv d ts)) (hdl : (dat d ts).length ≤ 1000000) (hn : ts.length ≤ 2000) :
    Calls Try.prog 83 #[.slice A k c, .int .i64 (d : Int)] w fun e w' => ∃ g c A8 k8 c8, e = .returned (.agg #[.int .i64 (ts.length : Int), .slice (some ⟨g, 0, none⟩) d c, .slice A8 k8 c8]) ∧ w.grownBy w' none ∧ LaidAt w' (w.heap.size + 1) g c (.slice A8 k8 c8) (lv d ts) (dat d ts) := by
  obtain ⟨n, hnn⟩ : ∃ n, ts.length = n := ⟨_, rfl⟩
  have hkx := (srowV hox).1
  have hxl := All2.length _ _ ha
  have hkn : k = n := by omega
  subst hkn
  have HE := Lib.hid (fun u => vempty_any d u (by omega))
  have HN := Lib.hid hnn
  have HXL := Lib.hid hxl
  have hg0 := World.grownBy_alloc w (.cells #[.int .i64 0, .slice none 0 0, .slice none 0 0] 34) none
  have HX := Lib.hid (fun (w' : World) (hb : Below (w.heap.size + 1) (w.alloc (.cells #[.int .i64 0, .slice none 0 0, .slice none 0 0] 34)) w') => (own_keep hox (fun g hg => (hb.block g (by have := (hox.lt g hg).2; omega)).trans (hg0.block g (hox.lt g hg).2 (by simp))) : w'.ownsRow 0 97 2 (.slice A k c) xs.length (flat2 xs)))
  have HAB := Lib.hid (fun (w' : World) (hb : Below (w.heap.size + 1) (w.alloc (.cells #[.int .i64 0, .slice none 0 0, .slice none 0 0] 34)) w') => (All2.mono (SNd.keep (w := w) (w' := w') (S' := S) (fun b hs _ => (hb.block b (by have := hS b hs; omega)).trans (hg0.block b (hS b hs) (by simp))) (fun _ hs _ => hs) d) ts xs ha))
  have HSS := Lib.hid hS
  have HSH := Lib.hid hsh
  have HDL := Lib.hid hdl
  have HG0 := Lib.hid hg0
  have HP0 := Lib.hid (Tri.new w 34 (.int .i64 0) (.slice none 0 0) (.slice none 0 0))
  rw [hnn] at hn
  rw [hnn]
  clear hox ha hS hsh hdl hnn hkx hxl hg0
  go_enter Try.func83, Try.ntmps83
  go_wp2_with fail
  have hsz0 : (w.alloc (.cells #[.int .i64 0, .slice none 0 0, .slice none 0 0] 34)).heap.size = w.heap.size + 1 := by simp
  have HSZ := Lib.hid hsz0
  generalize w.alloc (.cells #[.int .i64 0, .slice none 0 0, .slice none 0 0] 34) = w1 at HX HAB HG0 HP0 HSZ ⊢
  clear hsz0
  refine (HE.out w1).mono ?_
  rintro e w2 ⟨g, c0, dv, rfl, hg2, hl2⟩
  have hgA := World.grownBy_alloc w2 (.cells #[.int .i64 0, .slice (some ⟨g, 0, none⟩) d c0, dv] 34) none
  have hT := Tri.new w2 34 (.int .i64 0) (.slice (some ⟨g, 0, none⟩) d c0) dv
  have hF : FlatV (w2.alloc (.cells #[.int .i64 0, .slice (some ⟨g, 0, none⟩) d c0, dv] 34)) (w.heap.size + 1) w2.heap.size dv (lv d (ts.take 0)) (dat d (ts.take 0)) := by
    rw [List.take_zero, lv_none, dat_nil]
    refine ⟨g, c0, by rw [List.length_replicate]; exact hT, ?_, ?_, ?_⟩
    · rw [← HSZ.out]; exact hl2.grown hgA
    · have := hg2.size; have := HSZ.out; simp; omega
    · have := hg2.size; have := HSZ.out; omega
  have HF := Lib.hid hF
  have HB2 := Lib.hid (show Below (w.heap.size + 1) w1 (w2.alloc (.cells #[.int .i64 0, .slice (some ⟨g, 0, none⟩) d c0, dv] 34)) from by
    have h := hg2.trans hgA
    exact ⟨h.os, h.tape, h.output, h.size, fun q hq => h.block q (by rw [HSZ.out]; exact hq) (by simp)⟩)
  obtain ⟨A8, k8, c8, rfl⟩ : ∃ A k c, dv = .slice A k c := by
    obtain ⟨⟨A8, c8, rfl, _⟩, _⟩ := hl2.reads
    exact ⟨_, _, _, rfl⟩
  clear hg2 hl2 hgA hT hF
  go_wp2_with fail
  generalize w2.alloc (.cells #[.int .i64 0, .slice (some ⟨g, 0, none⟩) d c0, .slice A8 k8 c8] 34) = u0 at HF HB2 ⊢
  go_loopw [12] (fun i wr => ∃ (j : Nat), j ≤ k ∧ i = .int .i64 j ∧ Hid (Below (w.heap.size + 1) w1 wr) ∧ Hid (∃ d', FlatV wr (w.heap.size + 1) w2.heap.size d' (lv d (ts.take j)) (dat d (ts.take j)))) (fun i _ => k - (intOf i).toNat)
  case atStart => exact ⟨0, Nat.zero_le _, rfl, HB2, Lib.hid ⟨_, HF.out⟩⟩
  case round =>
    obtain ⟨j, hj, rfl, hbl, hfe⟩ := hrel
    obtain ⟨d', hfl⟩ := hfe.out
    have HFL := Lib.hid hfl
    clear hfl
    by_cases hlt : j < k
    · obtain ⟨tt, x, ht, hx, hnd⟩ := All2.nth (j := j) (HAB.out wr hbl.out) (by have := HXL.out; have := HN.out; omega)
      obtain ⟨g3, rfl, hcells⟩ := (srowV (HX.out wr hbl.out)).2.2 (by omega)
      obtain ⟨m3, sv3⟩ := x
      obtain ⟨A3, k3, c3, hsv⟩ := hnd.form
      simp only at hsv
      subst hsv
      have hx1 := hcells j _ hx
      obtain ⟨hx1, hx2⟩ := hx1
      have hga := World.grownBy_alloc wr (.cells #[.int .i64 m3, .slice A3 k3 c3] 97) none
      have HBA := Lib.hid (show Below (w.heap.size + 1) wr (wr.alloc (.cells #[.int .i64 m3, .slice A3 k3 c3] 97)) from by
        obtain ⟨_, _, _, _, hb, _⟩ := HFL.out
        exact ⟨hga.os, hga.tape, hga.output, hga.size, fun b hbb => hga.block b (by omega) (by simp)⟩)
      have e1 : ts.take j ++ [tt] = ts.take (j + 1) := by rw [List.take_add_one, ht]; rfl
      have HC := Lib.hid (layv_any d tt w2.heap.size (w.heap.size + 1) 0 S m3 A3 k3 c3 d' _ _ (wr.alloc (.cells #[.int .i64 m3, .slice A3 k3 c3] 97)) (HFL.out.grown hga) (SNd.keep (S' := S) (fun b hs _ => HBA.out.block b (by have := HSS.out b hs; omega)) (fun _ hs _ => hs) d tt _ hnd) (fun b hb => by have := HSS.out b hb; omega) (by rw [lv_len]; omega) (by omega)
        (by rw [behind_zero, e1]; exact short_take HSH.out _) (by rw [← dat_append, e1]; have := dat_part (d := d) (ts := ts) (j + 1); have := HDL.out; omega))
      rw [behind_zero, ← dat_append, e1] at HC
      clear ht hx hcells hnd hga e1
      go_wp2_with fail
      refine HC.out.mono ?_
      rintro e w5 ⟨rfl, hb5, d5, hf5⟩
      have HB5 := Lib.hid (hbl.out.trans (HBA.out.trans hb5))
      have HF5 := Lib.hid hf5
      clear hb5 hf5
      go_wp2_with fail
      go_roundw
      case rel => exact ⟨j + 1, by omega, by go_num, HB5, Lib.hid ⟨d5, HF5.out⟩⟩
      case measure => simp [intOf]; omega
    · have hjn : j = k := by omega
      have e : ts.take j = ts := List.take_of_length_le (by have := HN.out; omega)
      have hfl := HFL.out
      rw [e] at hfl
      obtain ⟨g5, c5, hp5, hl5, _, hgl⟩ := hfl
      rw [lv_len] at hp5
      obtain ⟨A9, k9, c9, rfl⟩ : ∃ A k c, d' = .slice A k c := by
        obtain ⟨⟨A8, c8, rfl, _⟩, _⟩ := hl5.reads
        exact ⟨_, _, _, rfl⟩
      have hr5 : Tri wr w.heap.size 34 (.int .i64 0) (.slice none 0 0) (.slice none 0 0) := (hbl.out.block w.heap.size (Nat.lt_succ_self _)).trans HP0.out
      have p0 := hp5.c0
      have p1 := hp5.c1
      have p2 := hp5.c2
      have p3 := hp5.f 0
      have r0 := hr5.c0
      have r1 := hr5.c1
      have r2 := hr5.c2
      have f0 := hr5.f 0
      have f1 := hr5.f 1
      have f2 := hr5.f 2
      have HP5 := Lib.hid hp5
      have HL5 := Lib.hid hl5
      have HR5 := Lib.hid hr5
      have hne : w.heap.size ≠ w2.heap.size := by omega
      clear hp5 hl5 hr5 e hjn
      go_wp2_with fail
      have hgW : w.grownBy wr none := gr_below HG0.out ⟨hbl.out.os, hbl.out.tape, hbl.out.output, hbl.out.size, fun q hq => hbl.out.block q (by omega)⟩
      have hs1 := gr_set wr w2.heap.size 0 (.int .i64 (k : Int))
      have T5 := HP5.out.set0 (.int .i64 (k : Int))
      have hR1 := HR5.out.grown hs1 (by simp; omega)
      have hL1 := HL5.out.vec HP5.out hs1
      have hg1 := gr_ownF hgW hs1 (fun q hq => by cases hq; omega)
      generalize wr.setCell ⟨w2.heap.size, 0, none⟩ (.int .i64 (k : Int)) = w6 at T5 hR1 hL1 hg1 ⊢
      have S1 := ((hR1.set0 (.int .i64 (k : Int))).set1 (.slice (some ⟨g5, 0, none⟩) d c5)).set2 (.slice A9 k9 c9)
      have hgz := ((gr_set w6 w.heap.size 0 (.int .i64 (k : Int))).trans (gr_set _ w.heap.size 1 (.slice (some ⟨g5, 0, none⟩) d c5))).trans (gr_set ((w6.setCell ⟨w.heap.size, 0, none⟩ (.int .i64 (k : Int))).setCell ⟨w.heap.size, 1, none⟩ (.slice (some ⟨g5, 0, none⟩) d c5)) w.heap.size 2 (.slice A9 k9 c9))
      have q0 := S1.c0
      have q1 := S1.c1
      have q2 := S1.c2
      refine bodyPost_ret (v := .agg #[.int .i64 (k : Int), .slice (some ⟨g5, 0, none⟩) d c5, .slice A9 k9 c9]) (by simp [results, Try.results83, go_sem, q0, q1, q2]) rfl ?_
      exact ⟨g5, c5, A9, k9, c9, rfl, gr_ownF hg1 hgz (fun q hq => by cases hq; exact Nat.le_refl _), hL1.vec hR1 hgz⟩
end

/- RdL -/
section
open Go.RowKit

/-- An array's text that is not too long. -/
def rdS (d : Nat) (s : ByteArray) : Option (T d) := if s.size ≤ 400 then readN s d else none
/-- The arrays that texts are, all of them. -/
def rdL (d : Nat) : List ByteArray → Option (List (T d))
  | [] => some []
  | s :: ss => match rdS d s with
    | none => none
    | some t => match rdL d ss with
      | none => none
      | some ts => some (t :: ts)
theorem rdL_snoc {d : Nat} {s : ByteArray} {t : T d} (h : rdS d s = some t) : ∀ {ss : List ByteArray} {ts : List (T d)}, rdL d ss = some ts → rdL d (ss ++ [s]) = some (ts ++ [t])
  | [], ts, h2 => by
    simp only [rdL, Option.some.injEq] at h2
    subst h2
    simp [rdL, h]
  | a :: ss, ts, h2 => by
    simp only [rdL] at h2
    cases ha : rdS d a with
    | none => rw [ha] at h2; cases h2
    | some b =>
      rw [ha] at h2
      cases hl : rdL d ss with
      | none => rw [hl] at h2; cases h2
      | some bs =>
        rw [hl] at h2
        simp only [Option.some.injEq] at h2
        subst h2
        have := rdL_snoc h hl
        simp [rdL, ha, this]
theorem rdL_take {d j : Nat} {ss : List ByteArray} {s : ByteArray} {t : T d} {ts : List (T d)} (hs : ss[j]? = some s) (h : rdS d s = some t) (h2 : rdL d (ss.take j) = some ts) : rdL d (ss.take (j + 1)) = some (ts ++ [t]) := by
  rw [List.take_add_one, hs]
  exact rdL_snoc h h2
theorem rdL_none {d : Nat} {s : ByteArray} (h : rdS d s = none) : ∀ {ss : List ByteArray}, s ∈ ss → rdL d ss = none
  | [], hm => by cases hm
  | a :: ss, hm => by
    rcases List.mem_cons.1 hm with rfl | hm
    · simp [rdL, h]
    · simp only [rdL, rdL_none h hm]
      split <;> rfl
theorem rdL_len {d : Nat} : ∀ {ss : List ByteArray} {ts : List (T d)}, rdL d ss = some ts → ts.length = ss.length
  | [], ts, h => by simp only [rdL, Option.some.injEq] at h; subst h; rfl
  | a :: ss, ts, h => by
    simp only [rdL] at h
    split at h
    · cases h
    · split at h
      · cases h
      · rename_i b _ bs hl
        simp only [Option.some.injEq] at h
        subst h
        simp [rdL_len hl]
theorem rdL_txs {d : Nat} : ∀ {ss : List ByteArray} {ts : List (T d)}, rdL d ss = some ts → txs d ts ≤ 400 * ss.length
  | [], ts, h => by simp only [rdL, Option.some.injEq] at h; subst h; simp [txs]
  | a :: ss, ts, h => by
    simp only [rdL] at h
    cases hb : rdS d a with
    | none => rw [hb] at h; cases h
    | some t =>
      rw [hb] at h
      cases hl : rdL d ss with
      | none => rw [hl] at h; cases h
      | some bs =>
        rw [hl] at h
        simp only [Option.some.injEq] at h
        subst h
        have := rdL_txs hl
        unfold rdS at hb
        split at hb
        · rename_i hz
          have h3 := readN_text hb
          have h4 : (text d t).length ≤ 400 := by
            rw [← h3, Array.length_toList]
            exact hz
          simp only [txs, List.length_cons]
          omega
        · cases hb
/-- Each node of arrays has a byte of its own. -/
theorem cnt_txs : ∀ (d : Nat) (ts : List (T d)), totL (lv d ts) + (dat d ts).length ≤ txs d ts
  | 0, ts => by
    have h1 : (dat 0 ts).length = ts.length := List.length_map _
    have h2 := txs_len 0 ts
    simp only [lv, totL, h1]
    omega
  | d + 1, ts => by
    have ih := cnt_txs d (ts.flatMap prt)
    have h2 : ∀ (l : List (T (d + 1))), l.length + txs d (l.flatMap prt) ≤ txs (d + 1) l := fun l => by
      induction l with
      | nil => simp [txs]
      | cons t l ih2 =>
        have h3 : txs d (prt t) + 1 ≤ (text (d + 1) t).length := by
          have e : text (d + 1) t = 91 :: (lst d (prt t) ++ [93]) := text_succ d (prt t)
          rw [e]
          cases h : prt t with
          | nil => simp [txs]
          | cons x l =>
            have := flat_txs d l
            simp only [txs, lst, List.length_cons, List.length_append, List.length_nil]
            omega
        simp only [List.length_cons, List.flatMap_cons, txs_append, txs]
        omega
    have h3 := h2 ts
    simp only [lv, totL, List.length_map, dat]
    omega
theorem rd_short {d : Nat} {ss : List ByteArray} {ts : List (T d)} (h : rdL d ss = some ts) (hn : ss.length ≤ 2000) : Short (lv d ts) ∧ (dat d ts).length ≤ 1000000 ∧ totL (lv d ts) + (dat d ts).length ≤ 800000 := by
  have h1 := rdL_txs h
  have h2 := cnt_txs d ts
  refine ⟨fun i L hL => ?_, by omega, by omega⟩
  have := totL_at hL
  omega
end

/- VRaw -/
section
open Go.RowKit

/-- The arrays of a depth that texts are, if there are not too many. -/
def packR (ss : List ByteArray) (d : Nat) : Option (List (T d)) := if ss.length ≤ 2000 then rdL d ss else none
/-- How l8RawPackVector ends. -/
def RPPost (ss : List ByteArray) (n : Nat) (w : World) (e : Ending) (w' : World) : Prop := w.grownBy w' none ∧ match packR ss n with
  | none => e = .returned (.tuple #[.agg #[.int .i64 0, .slice none 0 0, .slice none 0 0], .bool false])
  | some ts => ∃ u, e = .returned (.tuple #[u, .bool true]) ∧ VctC w' u ts.length (lv n ts) (dat n ts)
theorem rp_no {ss : List ByteArray} {n : Nat} {w w' : World} {e : Ending} (h : packR ss n = none) (hg : w.grownBy w' none) (he : e = .returned (.tuple #[.agg #[.int .i64 0, .slice none 0 0, .slice none 0 0], .bool false])) : RPPost ss n w e w' := by
  refine ⟨hg, ?_⟩
  rw [h]
  exact he
theorem rp_yes {ss : List ByteArray} {n : Nat} {w w' : World} {e : Ending} {ts : List (T n)} {u : Value} (h : packR ss n = some ts) (hg : w.grownBy w' none) (he : e = .returned (.tuple #[u, .bool true])) (hv : VctC w' u ts.length (lv n ts) (dat n ts)) : RPPost ss n w e w' := by
  refine ⟨hg, ?_⟩
  rw [h]
  exact ⟨u, he, hv⟩
/-- What l1Read does, whether the text is too long or not. -/
def SRdPost (s : ByteArray) (d : Nat) (w : World) (e : Ending) (w' : World) : Prop := match rdS d s with
  | some t => ∃ m A k c, e = .returned (.tuple #[.agg #[.int .i64 m, .slice A k c], .bool true]) ∧ w.grownBy w' none ∧ SNd w' (fun b => w.heap.size ≤ b) d t (m, .slice A k c)
  | none => SReadNo w e w'
theorem srd_any (d : Nat) (s : ByteArray) (w : World) (hd : d ≤ 3) : Calls Try.prog 71 #[.string s, .int .i64 (d : Int)] w (SRdPost s d w) := by
  unfold SRdPost rdS
  by_cases hs : s.size ≤ 400
  · rw [if_pos hs]
    refine (sread_in (d : Int) d s w rfl (by omega) (by omega) hs).mono fun e w' h => ?_
    unfold SReadPost at h
    cases hr : readN s d with
    | none => rw [hr] at h; exact h
    | some t =>
      rw [hr] at h
      obtain ⟨m, sv, he, ⟨A, k, c, rfl⟩, hg, ha⟩ := h
      exact ⟨m, A, k, c, he, hg, ha⟩
  · rw [if_neg hs]
    exact sread_out (d : Int) s w (by omega)

set_option maxRecDepth 100000 in
set_option maxHeartbeats 4000000 in
theorem vraw_any (A : Option Addr) (c d : Nat) (ss : List ByteArray) (w : World) (h : Strs w A ss) (hlen : ss.length ≤ 1048576) (hd3 : d ≤ 3) :
    Calls Try.prog 47 #[.slice A ss.length c, .int .i64 (d : Int)] w (RPPost ss d w) := by
  have HS := Lib.hid h
  obtain ⟨na, hna⟩ : ∃ na, ss.length = na := ⟨_, rfl⟩
  have HNA := Lib.hid hna
  rw [hna] at hlen ⊢
  clear h hna
  have HI := Lib.hid (fun w => in_any (d : Int) 0 3 true (decide_eq_true (by omega)) w)
  have HG0 := Lib.hid (World.grownBy_alloc w (.cells #[.int .i64 0, .slice none 0 0, .slice none 0 0] 34) none)
  have HP0 := Lib.hid (Tri.new w 34 (.int .i64 0) (.slice none 0 0) (.slice none 0 0))
  by_cases h2 : 2000 < na
  · have hp : packR ss d = none := by unfold packR; rw [if_neg (by have := HNA.out; omega)]
    have HP := Lib.hid hp
    clear hp
    go_enter Try.func47, Try.ntmps47
    go_wp2_with fail
    refine (HI.out _).mono ?_
    rintro e w1 ⟨rfl, rfl⟩
    go_wp2_with fail
    have T0 := HP0.out.alloc (.cells #[] 97)
    have q0 := T0.c0
    have q1 := T0.c1
    have q2 := T0.c2
    refine bodyPost_ret (v := .tuple #[.agg #[.int .i64 0, .slice none 0 0, .slice none 0 0], .bool false]) (by simp [results, Try.results47, go_sem, q0, q1, q2]) rfl ?_
    exact rp_no HP.out (HG0.out.trans (World.grownBy_alloc _ _ _)) rfl
  · have hpk : packR ss d = rdL d ss := by unfold packR; rw [if_pos (by have := HNA.out; omega)]
    have HPK := Lib.hid hpk
    have HRD := Lib.hid (fun s w => srd_any d s w hd3)
    obtain ⟨i0, hi0, hz0, hz1, hz2⟩ : ∃ i : TypeInfo, Try.prog.info? 97 = some i ∧ i.zero = some (.agg #[.int .i64 0, .slice none 0 0]) ∧ i.size = 2 ∧ i.bytes = 32 := by
      obtain ⟨i, hi, hzz⟩ := Option.map_eq_some_iff.1 infoN
      simp only [Prod.mk.injEq] at hzz
      exact ⟨i, hi, hzz.1, hzz.2.1, hzz.2.2⟩
    have h2' : na ≤ 2000 := by omega
    have HO : Hid (((w.alloc (.cells #[.int .i64 0, .slice none 0 0, .slice none 0 0] 34)).alloc (.cells #[] 97)).ownsRow (w.heap.size + 1) 97 2 (.slice (some ⟨w.heap.size + 1, 0, none⟩) 0 0) 0 []) := Lib.hid (by
      have := World.ownsRow_made (base := w.heap.size + 1) (e := 97) (size := 2) (w.alloc (.cells #[.int .i64 0, .slice none 0 0, .slice none 0 0] 34)) #[] 0 (by simp) (by simp) (by simp)
      rw [sz_alloc] at this
      exact this)
    have HG1 := Lib.hid (HG0.out.trans (World.grownBy_alloc _ (.cells #[] 97) none))
    have HP1 := Lib.hid (HP0.out.alloc (.cells #[] 97))
    clear h2 hpk
    go_enter Try.func47, Try.ntmps47
    go_wp2_with fail
    refine (HI.out _).mono ?_
    rintro e w1 ⟨rfl, rfl⟩
    go_wp2_with fail
    generalize (w.alloc (.cells #[.int .i64 0, .slice none 0 0, .slice none 0 0] 34)).alloc (.cells #[] 97) = u0 at HO HG1 HP1 ⊢
    clear HG0 HP0 HI
    go_loopw [6, 23] (fun v i wr => ∃ (j : Nat) (Ax : Option Addr) (cx : Nat) (ts : List (T d)) (xs : List (Int × Value)), j ≤ na ∧ i = .int .i64 j ∧ v = .slice Ax j cx ∧ Hid (xs.length = j) ∧ Hid (rdL d (ss.take j) = some ts) ∧ Hid (wr.ownsRow (w.heap.size + 1) 97 2 (.slice Ax j cx) j (flat2 xs)) ∧ Hid (All2 (SNd wr (fun b => w.heap.size + 1 ≤ b ∧ (Value.slice Ax j cx).ownBlock ≠ some b) d) ts xs) ∧ Hid (w.grownBy wr none) ∧ Hid (Tri wr w.heap.size 34 (.int .i64 0) (.slice none 0 0) (.slice none 0 0))) (fun _ i _ => na - (intOf i).toNat)
    case atStart => exact ⟨0, _, 0, [], [], Nat.zero_le _, rfl, rfl, Lib.hid rfl, Lib.hid rfl, HO, Lib.hid trivial, HG1, HP1⟩
    case round =>
      clear HO HG1 HP1
      obtain ⟨j, Ax, cx, ts, xs, hj, rfl, rfl, hxl, hrd, ho, hall, hgr, htr⟩ := hrel
      obtain ⟨wo, rfl⟩ : ∃ wo : World, wo = wr := ⟨_, rfl⟩
      by_cases hlt : j < na
      · obtain ⟨s, hs⟩ : ∃ s, ss[j]? = some s := ⟨_, List.getElem?_eq_getElem (by have := HNA.out; omega)⟩
        obtain ⟨b, off, rfl, _, hc⟩ := (HS.out.grown hgr.out) (by have := HNA.out; omega)
        have hcell := hc j s hs
        have HSJ := Lib.hid hs
        have HC := Lib.hid (HRD.out s wo)
        clear hc hs
        go_wp2_with fail
        refine HC.out.mono ?_
        intro e w5 hp5
        unfold SRdPost at hp5
        cases hr : rdS d s with
        | none =>
          rw [hr] at hp5
          obtain ⟨rfl, hg5⟩ := hp5
          have hp : packR ss d = none := by rw [HPK.out]; exact rdL_none hr (List.mem_of_getElem? HSJ.out)
          have HP := Lib.hid hp
          have HGG := Lib.hid (hgr.out.trans (hg5.trans (World.grownBy_alloc w5 (.cells #[.int .i64 0, .slice none 0 0] 97) none)))
          have T5 := (htr.out.grown hg5 (by simp)).alloc (.cells #[.int .i64 0, .slice none 0 0] 97)
          have HT5 := Lib.hid T5
          have q0 := T5.c0
          have q1 := T5.c1
          have q2 := T5.c2
          have f0 := T5.f 0
          have f1 := T5.f 1
          have f2 := T5.f 2
          clear hp hr hg5 T5
          go_wp2_with fail
          have S1 := ((HT5.out.set0 (.int .i64 0)).set1 (.slice none 0 0)).set2 (.slice none 0 0)
          have hgz := ((gr_set (w5.alloc (.cells #[.int .i64 0, .slice none 0 0] 97)) w.heap.size 0 (.int .i64 0)).trans (gr_set _ w.heap.size 1 (.slice none 0 0))).trans (gr_set (((w5.alloc (.cells #[.int .i64 0, .slice none 0 0] 97)).setCell ⟨w.heap.size, 0, none⟩ (.int .i64 0)).setCell ⟨w.heap.size, 1, none⟩ (.slice none 0 0)) w.heap.size 2 (.slice none 0 0))
          have s0 := S1.c0
          have s1 := S1.c1
          have s2 := S1.c2
          refine bodyPost_ret (v := .tuple #[.agg #[.int .i64 0, .slice none 0 0, .slice none 0 0], .bool false]) (by simp [results, Try.results47, go_sem, s0, s1, s2]) rfl ?_
          exact rp_no HP.out (gr_ownF HGG.out hgz (fun q hq => by cases hq; exact Nat.le_refl _)) rfl
        | some t =>
          rw [hr] at hp5
          obtain ⟨m, A5, k5, c5, rfl, hg5, hn5⟩ := hp5
          have HR := Lib.hid hr
          have hgA := hg5.trans (World.grownBy_alloc w5 (.cells #[.int .i64 m, .slice A5 k5 c5] 97) none)
          have HGA := Lib.hid hgA
          have hgB := hgA.trans (World.grownBy_alloc (w5.alloc (.cells #[.int .i64 m, .slice A5 k5 c5] 97)) (.cells #[.int .i64 m, .slice A5 k5 c5] 97) none)
          have hgC := (World.grownBy_alloc w5 (.cells #[.int .i64 m, .slice A5 k5 c5] 97) none).trans (World.grownBy_alloc (w5.alloc (.cells #[.int .i64 m, .slice A5 k5 c5] 97)) (.cells #[.int .i64 m, .slice A5 k5 c5] 97) none)
          have hown2 := own_keep ho.out (fun k hk => hgB.block k (ho.out.lt k hk).2 (by simp))
          have HNL := Lib.hid (fun (k : Nat) (v : Value) (hk : ([.int .i64 m, .slice A5 k5 c5] : List Value)[k]? = some v) => by
            have := (World.news_of_block (cs := #[.int .i64 m, .slice A5 k5 c5]) (heap_alloc_new (w5.alloc (.cells #[.int .i64 m, .slice A5 k5 c5] 97)) (.cells #[.int .i64 m, .slice A5 k5 c5] 97)) k v hk)
            rw [sz_alloc] at this
            exact this)
          have HT6 := Lib.hid (htr.out.grown hgB (by simp))
          have HG6 := Lib.hid (hgr.out.trans hgB)
          have HALL := Lib.hid (All2.mono (SNd.keep (w := wo) (w' := (w5.alloc (.cells #[.int .i64 m, .slice A5 k5 c5] 97)).alloc (.cells #[.int .i64 m, .slice A5 k5 c5] 97)) (S' := fun b => (w.heap.size + 1 ≤ b ∧ (Value.slice Ax j cx).ownBlock ≠ some b) ∧ b < w5.heap.size + 1 + 1) (fun b _ hb => hgB.block b hb (by simp)) (fun b hs hb => ⟨hs, by have := hgB.size; simp at this; have := hg5.size; omega⟩) d) ts xs hall.out)
          have HN5 := Lib.hid (SNd.keep (w := w5) (w' := (w5.alloc (.cells #[.int .i64 m, .slice A5 k5 c5] 97)).alloc (.cells #[.int .i64 m, .slice A5 k5 c5] 97)) (S' := fun b => (w.heap.size + 1 ≤ b ∧ (Value.slice Ax j cx).ownBlock ≠ some b) ∧ b < w5.heap.size + 1 + 1) (fun b _ hb => hgC.block b hb (by simp)) (fun b hs hb => ⟨⟨by have := hgr.out.size; have := htr.out.lt; omega, fun e => by have := (ho.out.lt b e).2; omega⟩, by omega⟩) d t _ hn5)
          have HBS := Lib.hid (show w.heap.size + 1 ≤ w5.heap.size + 1 + 1 by have := hgr.out.size; have := hg5.size; omega)
          clear hr hn5 hgA hgB hgC ho hall hgr htr hg5
          go_wp2_with (at_builtin; refine wpList_append_own_at _ rfl _ _ 95 rfl (w.heap.size + 1) 97 i0 (.agg #[.int .i64 0, .slice none 0 0]) 2 32 Try.underlying95 hi0 hz0 hz1 hz2 rfl (by decide) _ _ _ rfl hown2 ⟨w5.heap.size + 1, 0, none⟩ 1 1 [.int .i64 m, .slice A5 k5 c5] rfl rfl HNL.out ?c2 ?c3 ?c4 ?c5 ?_)
          case c2 => simp [Value.oneCell']
          case c3 => simp only [maxLen]; omega
          case c4 => omega
          case c5 => simp only [World.size_alloc]; exact HBS.out
          intro v8 w8 hown8 hg8 _ hat8
          obtain ⟨g8, c8, rfl⟩ : ∃ g c, v8 = .slice (some ⟨g, 0, none⟩) (j + 1) c := by
            rcases hown8.2 with ⟨_, hn⟩ | ⟨g, cap, cur, hv, _⟩
            · omega
            · exact ⟨g, cap, hv⟩
          have hk8 : ∀ b, ((w.heap.size + 1 ≤ b ∧ (Value.slice Ax j cx).ownBlock ≠ some b) ∧ b < w5.heap.size + 1 + 1) → (w.heap.size + 1 ≤ b ∧ (Value.slice (some ⟨g8, 0, none⟩) (j + 1) c8).ownBlock ≠ some b) := by
            rintro b ⟨⟨h1, h2⟩, h3⟩
            refine ⟨h1, fun e => ?_⟩
            rcases hat8 with h | h
            · exact h2 (h ▸ e)
            · rw [h] at e
              simp only [Option.some.injEq] at e
              omega
          have hkeep : ∀ b, ((w.heap.size + 1 ≤ b ∧ (Value.slice Ax j cx).ownBlock ≠ some b) ∧ b < w5.heap.size + 1 + 1) → b < ((w5.alloc (.cells #[.int .i64 m, .slice A5 k5 c5] 97)).alloc (.cells #[.int .i64 m, .slice A5 k5 c5] 97)).heap.size → w8.heap[b]? = ((w5.alloc (.cells #[.int .i64 m, .slice A5 k5 c5] 97)).alloc (.cells #[.int .i64 m, .slice A5 k5 c5] 97)).heap[b]? := fun b hb hlt2 => hg8.block b hlt2 (fun e => hb.1.2 e.symm)
          have HA8 := Lib.hid (All2.snoc (SNd.keep hkeep (fun b hb _ => hk8 b hb) d t _ HN5.out) ts xs (All2.mono (SNd.keep hkeep (fun b hb _ => hk8 b hb) d) ts xs HALL.out))
          have HO8 := Lib.hid hown8
          have HG8 := Lib.hid (gr_ownF HG6.out hg8 (fun k hk => by have := (hown2.lt k hk).1; omega))
          have HT8 := Lib.hid (HT6.out.grown hg8 (fun e => by have := (hown2.lt _ e.symm).1; omega))
          have HRD8 := Lib.hid (rdL_take HSJ.out HR.out hrd.out)
          clear hown8 hg8 hat8 hk8 hkeep hown2 HNL
          go_wp2_with fail
          go_roundw
          case rel => exact ⟨j + 1, _, c8, _, xs ++ [(m, .slice A5 k5 c5)], by omega, by go_num, rfl, Lib.hid (by rw [List.length_append]; have := hxl.out; simp; omega), HRD8, Lib.hid (by rw [flat2_snoc]; exact HO8.out), HA8, HG8, HT8⟩
          case measure => simp [intOf]; omega
      · have hjn : j = na := by omega
        have e1 : ss.take j = ss := List.take_of_length_le (by have := HNA.out; omega)
        have hrd2 := hrd.out
        rw [e1] at hrd2
        have hlen2 := rdL_len hrd2
        obtain ⟨hsh, hdl, _⟩ := rd_short hrd2 (by have := HNA.out; omega)
        have hox := hxl.out
        have hob : wo.ownsRow 0 97 2 (.slice Ax j cx) xs.length (flat2 xs) := by rw [hox]; exact own_base ho.out (Nat.zero_le _)
        have HC := Lib.hid (vpack_any d ts xs (fun b => (w.heap.size + 1 ≤ b ∧ (Value.slice Ax j cx).ownBlock ≠ some b) ∧ b < wo.heap.size) Ax j cx wo hd3 hob (All2.mono (SNd.keep (fun b _ _ => rfl) (fun b hs hb => ⟨hs, hb⟩) d) ts xs hall.out) (fun b hb => hb.2) hsh hdl (by rw [hlen2]; have := HNA.out; omega))
        have HR2 := Lib.hid (show packR ss d = some ts by rw [HPK.out]; exact hrd2)
        clear hrd2 hlen2 hsh hdl hob e1 hjn
        go_wp2_with fail
        refine HC.out.mono ?_
        rintro e w6 ⟨g7, c7, B7, k7, d7, rfl, hg6, hl6⟩
        have T6 := htr.out.grown hg6 (by simp)
        have r0 := T6.c0
        have r1 := T6.c1
        have r2 := T6.c2
        have f0 := T6.f 0
        have f1 := T6.f 1
        have f2 := T6.f 2
        have HT6 := Lib.hid T6
        have HG6 := Lib.hid (hgr.out.trans hg6)
        have HL6 := Lib.hid hl6
        obtain ⟨nt, hnt⟩ : ∃ nt, ts.length = nt := ⟨_, rfl⟩
        have HNT := Lib.hid hnt
        rw [hnt]
        clear T6 hg6 hl6 hnt
        go_wp2_with fail
        have S1 := ((HT6.out.set0 (.int .i64 (nt : Int))).set1 (.slice (some ⟨g7, 0, none⟩) d c7)).set2 (.slice B7 k7 d7)
        have hgz := ((gr_set w6 w.heap.size 0 (.int .i64 (nt : Int))).trans (gr_set _ w.heap.size 1 (.slice (some ⟨g7, 0, none⟩) d c7))).trans (gr_set ((w6.setCell ⟨w.heap.size, 0, none⟩ (.int .i64 (nt : Int))).setCell ⟨w.heap.size, 1, none⟩ (.slice (some ⟨g7, 0, none⟩) d c7)) w.heap.size 2 (.slice B7 k7 d7))
        have s0 := S1.c0
        have s1 := S1.c1
        have s2 := S1.c2
        refine bodyPost_ret (v := .tuple #[.agg #[.int .i64 (nt : Int), .slice (some ⟨g7, 0, none⟩) d c7, .slice B7 k7 d7], .bool true]) (by simp [results, Try.results47, go_sem, s0, s1, s2]) rfl ?_
        have hL2 := (HL6.out.vec HT6.out hgz).lytc
        rw [lv_len] at hL2
        exact rp_yes HR2.out (gr_ownF HG6.out hgz (fun q hq => by cases hq; exact Nat.le_refl _)) rfl ⟨_, _, by rw [HNT.out], hL2⟩
end

/- VPackI -/
section
open Go.RowKit

theorem nt_str : ∀ d, Nt (strT d)
  | 0 => ⟨by decide, by decide, by decide⟩
  | _ + 1 => ⟨by simp only [strT]; decide, by simp only [strT]; decide, by simp only [strT]; decide⟩
theorem nt_el : ∀ d, Nt (elT d)
  | 0 => ⟨by decide, by decide, by decide⟩
  | _ + 1 => ⟨by simp only [elT]; decide, by simp only [elT]; decide, by simp only [elT]; decide⟩
/-- The blocks of a node are of its types. -/
def TyB (w : World) (b : Nat) : Prop := ∃ (cs : Array Value) (t : TypeId) (m : Nat × Nat), w.heap[b]? = some (.cells cs t m) ∧ Nt t
theorem Nd.typed {w : World} {S : Nat → Prop} : ∀ (d : Nat) (t : T d) (v : Value), Nd w S d t v → Nd w (TyB w) d t v
  | 0, _, _, h => h
  | d + 1, ts, v, ⟨b, sv, xs, hv, _, hh, ho, _, ha⟩ => by
    refine ⟨b, sv, xs, hv, ⟨_, _, _, hh, nt_str d⟩, hh, ho, fun g hg => ?_, All2.mono (Nd.typed d) ts xs ha⟩
    rcases ho.2 with ⟨rfl, _⟩ | ⟨b2, cap, cur, rfl, _, hgg, _⟩
    · cases hg
    · simp only [Value.ownBlock, Option.some.injEq] at hg
      subst hg
      exact ⟨_, _, _, hgg, nt_el d⟩
theorem RepI.typed {w : World} {S : Nat → Prop} : ∀ (d : Nat) (t : T d) (v : Value), RepI w S d t v → RepI w (TyB w) d t v
  | 0, _, _, h => h
  | d + 1, ts, v, h => Nd.typed (d + 1) ts v h

/-- What readNested does, whether the text is too long or not. -/
def RdPost (s : ByteArray) (d : Nat) (w : World) (e : Ending) (w' : World) : Prop := w.grownBy w' none ∧ match rdS d s with
  | some t => ∃ v, e = .returned (.tuple #[v, .bool true]) ∧ RepI w' (TyB w') d t v
  | none => e = .returned (.tuple #[.nilIface, .bool false])
theorem rd_any (d : Nat) (s : ByteArray) (w : World) (hd : d ≤ 3) : Calls Try.prog 39 #[.string s, .int .i64 (d : Int)] w (RdPost s d w) := by
  unfold RdPost rdS
  by_cases hs : s.size ≤ 400
  · rw [if_pos hs]
    refine (nest_in (d : Int) d s w rfl (by omega) (by omega) hs).mono fun e w' h => ?_
    unfold NestPost at h
    cases hr : readN s d with
    | none => rw [hr] at h; exact ⟨h.2, h.1⟩
    | some t =>
      rw [hr] at h
      obtain ⟨v, he, hg, ha⟩ := h
      exact ⟨hg, v, he, RepI.typed d t v ha⟩
  · rw [if_neg hs]
    refine (nest_out (d : Int) s w (by omega)).mono fun e w' h => ⟨h.2, h.1⟩

theorem flat_startN {w w1 : World} {d g : Nat} (hg : w.heap.size ≤ w1.heap.size) (h : w1.ownsRow w.heap.size 23 1 (.slice (some ⟨g, 0, none⟩) d d) d (List.replicate d (.slice none 0 0))) :
    FlatN (w1.alloc (.cells #[.slice none 0 0, .slice (some ⟨g, 0, none⟩) d d] 70)) w.heap.size w1.heap.size (.slice none 0 0) (List.replicate d []) [] := by
  have hp := Pr.new w1 70 (.slice none 0 0) (.slice (some ⟨g, 0, none⟩) d d)
  refine ⟨g, d, by rw [List.length_replicate]; exact hp, ⟨List.replicate d (.slice none 0 0), ?_, ?_⟩, by simp; omega, hg⟩
  · rw [List.length_replicate]
    exact h.alloc _
  · have e1 : List.replicate d (Value.slice none 0 0) ++ [.slice none 0 0] = List.replicate (d + 1) (.slice none 0 0) := by rw [List.replicate_succ']
    have e2 : List.replicate d ([] : List Int) ++ [[]] = List.replicate (d + 1) [] := by rw [List.replicate_succ']
    rw [e1, e2]
    refine ⟨by simp, fun i v L hv hL => ?_, fun i j v u g _ hv _ hg => ?_⟩
    · rw [List.getElem?_replicate] at hv hL
      split at hv
      · rename_i hi
        rw [if_pos hi] at hL
        cases hv
        cases hL
        exact World.ownsRow_nil _ _ _ _
      · cases hv
    · rw [List.getElem?_replicate] at hv
      split at hv
      · cases hv; cases hg
      · cases hv
theorem FlatN.grown {w w' : World} {base gf : Nat} {d : Value} {LL : List (List Int)} {D : List Int} (h : FlatN w base gf d LL D) (hg : w.grownBy w' none) : FlatN w' base gf d LL D := by
  obtain ⟨g, c, hp, hl, hb, hgf⟩ := h
  exact ⟨g, c, hp.grown hg (by simp), hl.grown hg, Nat.le_trans hb hg.size, hgf⟩

/-- How PackVector of the program ends. -/
def IPPost (ss : List ByteArray) (n : Nat) (w : World) (e : Ending) (w' : World) : Prop := w.grownBy w' none ∧ match packR ss n with
  | none => e = .returned (.tuple #[.agg #[.int .i64 0, .slice none 0 0, .slice none 0 0], .bool false])
  | some ts => ∃ u, e = .returned (.tuple #[u, .bool true]) ∧ OwnVct w' w.heap.size u ts.length (lv n ts) (dat n ts)
theorem ip_no {ss : List ByteArray} {n : Nat} {w w' : World} {e : Ending} (h : packR ss n = none) (hg : w.grownBy w' none) (he : e = .returned (.tuple #[.agg #[.int .i64 0, .slice none 0 0, .slice none 0 0], .bool false])) : IPPost ss n w e w' := by
  refine ⟨hg, ?_⟩
  rw [h]
  exact he
theorem ip_yes {ss : List ByteArray} {n : Nat} {w w' : World} {e : Ending} {ts : List (T n)} {u : Value} (h : packR ss n = some ts) (hg : w.grownBy w' none) (he : e = .returned (.tuple #[u, .bool true])) (hv : OwnVct w' w.heap.size u ts.length (lv n ts) (dat n ts)) : IPPost ss n w e w' := by
  refine ⟨hg, ?_⟩
  rw [h]
  exact ⟨u, he, hv⟩

set_option maxRecDepth 100000 in
set_option maxHeartbeats 4000000 in
theorem vpack_impl (A : Option Addr) (c d : Nat) (ss : List ByteArray) (w : World) (h : Strs w A ss) (hlen : ss.length ≤ 1048576) (hd3 : d ≤ 3) :
    Calls Try.prog 15 #[.slice A ss.length c, .int .i64 (d : Int)] w (IPPost ss d w) := by
  have HS := Lib.hid h
  obtain ⟨na, hna⟩ : ∃ na, ss.length = na := ⟨_, rfl⟩
  have HNA := Lib.hid hna
  rw [hna] at hlen ⊢
  clear h hna
  have HG0 := Lib.hid (World.grownBy_alloc w (.cells #[.int .i64 0, .slice none 0 0, .slice none 0 0] 34) none)
  have HP0 := Lib.hid (Tri.new w 34 (.int .i64 0) (.slice none 0 0) (.slice none 0 0))
  by_cases h2 : 2000 < na
  · have hp : packR ss d = none := by unfold packR; rw [if_neg (by have := HNA.out; omega)]
    have HP := Lib.hid hp
    clear hp
    go_enter Try.func15, Try.ntmps15
    go_wp2_with fail
    have q0 := HP0.out.c0
    have q1 := HP0.out.c1
    have q2 := HP0.out.c2
    refine bodyPost_ret (v := .tuple #[.agg #[.int .i64 0, .slice none 0 0, .slice none 0 0], .bool false]) (by simp [results, Try.results15, go_sem, q0, q1, q2]) rfl ?_
    exact ip_no HP.out HG0.out rfl
  · have hpk : packR ss d = rdL d ss := by unfold packR; rw [if_pos (by have := HNA.out; omega)]
    have HPK := Lib.hid hpk
    have HRD := Lib.hid (fun s w => rd_any d s w hd3)
    have HFO := Lib.hid (fun u => fod_any d u (by omega))
    have h2' : na ≤ 2000 := by omega
    clear h2 hpk
    go_enter Try.func15, Try.ntmps15
    go_wp2_with fail
    have hsz : (w.alloc (.cells #[.int .i64 0, .slice none 0 0, .slice none 0 0] 34)).heap.size = w.heap.size + 1 := by simp
    have HSZ := Lib.hid hsz
    generalize w.alloc (.cells #[.int .i64 0, .slice none 0 0, .slice none 0 0] 34) = w1 at HG0 HP0 HSZ ⊢
    clear hsz
    refine (HFO.out w1).mono ?_
    rintro e w2 ⟨gR, rfl, hg2, _, hr2⟩
    have hfl := flat_startN hg2.size hr2
    have hgA := hg2.trans (World.grownBy_alloc w2 (.cells #[.slice none 0 0, .slice (some ⟨gR, 0, none⟩) d d] 70) none)
    rw [HSZ.out] at hfl
    have HFL := Lib.hid hfl
    have HB2 := Lib.hid (show Below (w.heap.size + 1) w1 (w2.alloc (.cells #[.slice none 0 0, .slice (some ⟨gR, 0, none⟩) d d] 70)) from ⟨hgA.os, hgA.tape, hgA.output, hgA.size, fun q hq => hgA.block q (by rw [HSZ.out]; exact hq) (by simp)⟩)
    clear hg2 hr2 hfl hgA
    go_wp2_with fail
    generalize w2.alloc (.cells #[.slice none 0 0, .slice (some ⟨gR, 0, none⟩) d d] 70) = u0 at HFL HB2 ⊢
    go_loopw [27] (fun i wr => ∃ (j : Nat) (ts : List (T d)), j ≤ na ∧ i = .int .i64 j ∧ Hid (rdL d (ss.take j) = some ts) ∧ Hid (Below (w.heap.size + 1) w1 wr) ∧ Hid (∃ d', FlatN wr (w.heap.size + 1) w2.heap.size d' (lv d ts) (dat d ts))) (fun i _ => na - (intOf i).toNat)
    case atStart => exact ⟨0, [], Nat.zero_le _, rfl, Lib.hid rfl, HB2, Lib.hid ⟨_, by rw [lv_none, dat_nil]; exact HFL.out⟩⟩
    case round =>
      clear HFL HB2
      obtain ⟨j, ts, hj, rfl, hrd, hbl, hfe⟩ := hrel
      obtain ⟨wo, rfl⟩ : ∃ wo : World, wo = wr := ⟨_, rfl⟩
      have HGW := Lib.hid (show w.grownBy wo none from gr_below HG0.out ⟨hbl.out.os, hbl.out.tape, hbl.out.output, hbl.out.size, fun q hq => hbl.out.block q (by omega)⟩)
      have HTR := Lib.hid (show Tri wo w.heap.size 34 (.int .i64 0) (.slice none 0 0) (.slice none 0 0) from (hbl.out.block w.heap.size (Nat.lt_succ_self _)).trans HP0.out)
      obtain ⟨d', hfl⟩ := hfe.out
      have HFL := Lib.hid hfl
      clear hfl hfe
      by_cases hlt : j < na
      · obtain ⟨s, hs⟩ : ∃ s, ss[j]? = some s := ⟨_, List.getElem?_eq_getElem (by have := HNA.out; omega)⟩
        obtain ⟨b, off, rfl, _, hc⟩ := (HS.out.grown HGW.out) (by have := HNA.out; omega)
        have hcell := hc j s hs
        have HSJ := Lib.hid hs
        have HC := Lib.hid (HRD.out s wo)
        clear hc hs
        go_wp2_with fail
        refine HC.out.mono ?_
        rintro e w5 ⟨hg5, hp5⟩
        cases hr : rdS d s with
        | none =>
          rw [hr] at hp5
          subst hp5
          have hp : packR ss d = none := by rw [HPK.out]; exact rdL_none hr (List.mem_of_getElem? HSJ.out)
          have HP := Lib.hid hp
          have HGG := Lib.hid (HGW.out.trans hg5)
          have T5 := HTR.out.grown hg5 (by simp)
          have HT5 := Lib.hid T5
          have q0 := T5.c0
          have q1 := T5.c1
          have q2 := T5.c2
          have f0 := T5.f 0
          have f1 := T5.f 1
          have f2 := T5.f 2
          clear hp hr hg5 T5
          go_wp2_with fail
          have S1 := ((HT5.out.set0 (.int .i64 0)).set1 (.slice none 0 0)).set2 (.slice none 0 0)
          have hgz := ((gr_set w5 w.heap.size 0 (.int .i64 0)).trans (gr_set _ w.heap.size 1 (.slice none 0 0))).trans (gr_set ((w5.setCell ⟨w.heap.size, 0, none⟩ (.int .i64 0)).setCell ⟨w.heap.size, 1, none⟩ (.slice none 0 0)) w.heap.size 2 (.slice none 0 0))
          have s0 := S1.c0
          have s1 := S1.c1
          have s2 := S1.c2
          refine bodyPost_ret (v := .tuple #[.agg #[.int .i64 0, .slice none 0 0, .slice none 0 0], .bool false]) (by simp [results, Try.results15, go_sem, s0, s1, s2]) rfl ?_
          exact ip_no HP.out (gr_ownF HGG.out hgz (fun q hq => by cases hq; exact Nat.le_refl _)) rfl
        | some t =>
          rw [hr] at hp5
          obtain ⟨v, rfl, hrep⟩ := hp5
          have hrd2 := rdL_take HSJ.out hr hrd.out
          obtain ⟨hsh, hdl, _⟩ := rd_short hrd2 (by rw [List.length_take]; omega)
          have HC2 := Lib.hid (lay_anyN d t w2.heap.size (w.heap.size + 1) 0 (TyB w5) v d' _ _ w5 (HFL.out.grown hg5) hrep (fun b hb => .inr hb) (by rw [lv_len]; omega) (by omega) (by rw [behind_zero]; exact hsh) (by rw [← dat_append]; exact hdl))
          rw [behind_zero, ← dat_append] at HC2
          have HB5 := Lib.hid (hbl.out.trans (show Below (w.heap.size + 1) wo w5 from ⟨hg5.os, hg5.tape, hg5.output, hg5.size, fun q hq => hg5.block q (by have := HTR.out.lt; omega) (by simp)⟩))
          have HRD2 := Lib.hid hrd2
          clear hr hrep hrd2 hsh hdl hg5
          go_wp2_with fail
          refine HC2.out.mono ?_
          rintro e w6 ⟨rfl, hb6, d6, hf6⟩
          have HB6 := Lib.hid (HB5.out.trans hb6.below)
          have HF6 := Lib.hid hf6
          clear hb6 hf6
          go_wp2_with fail
          go_roundw
          case rel => exact ⟨j + 1, _, by omega, by go_num, HRD2, HB6, Lib.hid ⟨d6, HF6.out⟩⟩
          case measure => simp [intOf]; omega
      · have hjn : j = na := by omega
        have e1 : ss.take j = ss := List.take_of_length_le (by have := HNA.out; omega)
        have hrd2 := hrd.out
        rw [e1] at hrd2
        have hlen2 := rdL_len hrd2
        obtain ⟨hsh, hdl, htl⟩ := rd_short hrd2 (by have := HNA.out; omega)
        obtain ⟨g, c3, hp3, hl3, _, _⟩ := HFL.out
        have hcl := hl3.len
        obtain ⟨⟨A8, c8, rfl, hi8, hd8, hn8⟩, hrw8, hcl8⟩ := hl3.reads
        have hlv := lv_len d ts
        have HLY := Lib.hid (layout_any (some ⟨g, 0, none⟩) A8 c3 c8 (lv d ts) (dat d ts) wo hrw8 hi8 (by rw [hlv]; omega) (fun M hM => by
          obtain ⟨i, hi⟩ := List.getElem?_of_mem hM
          have := hsh i M hi; omega) (by omega) hd8 hn8 hcl8)
        have c0 := hp3.c0
        have c1 := hp3.c1
        obtain ⟨k, hk⟩ : ∃ k, (dat d ts).length = k := ⟨_, rfl⟩
        rw [hk] at c0 HLY
        rw [hlv] at c1 HLY
        have HR2 := Lib.hid (show packR ss d = some ts by rw [HPK.out]; exact hrd2)
        have HNT := Lib.hid (show ts.length = na by rw [hlen2]; exact HNA.out)
        clear hrd2 hlen2 hsh hdl htl hp3 hl3 hi8 hd8 hn8 hrw8 hcl8 hcl e1 hjn
        go_wp2_with fail
        refine HLY.out.mono ?_
        rintro e w4 ⟨u, rfl, hg4, ho4⟩
        obtain ⟨A9, c9, B9, e9, rfl, _⟩ := id ho4.lyt
        have T4 := HTR.out.grown hg4 (by simp)
        have r0 := T4.c0
        have r1 := T4.c1
        have r2 := T4.c2
        have f0 := T4.f 0
        have f1 := T4.f 1
        have f2 := T4.f 2
        have HT4 := Lib.hid T4
        have HG4 := Lib.hid (HGW.out.trans hg4)
        have HO4 := Lib.hid ho4
        rw [hlv, hk] at HO4 ⊢
        have hlo : w.heap.size < wo.heap.size := HTR.out.lt
        clear T4 hg4 ho4
        go_wp2_with fail
        have S1 := ((HT4.out.set0 (.int .i64 (na : Int))).set1 (.slice A9 d c9)).set2 (.slice B9 k e9)
        have hgz := ((gr_set w4 w.heap.size 0 (.int .i64 (na : Int))).trans (gr_set _ w.heap.size 1 (.slice A9 d c9))).trans (gr_set ((w4.setCell ⟨w.heap.size, 0, none⟩ (.int .i64 (na : Int))).setCell ⟨w.heap.size, 1, none⟩ (.slice A9 d c9)) w.heap.size 2 (.slice B9 k e9))
        have s0 := S1.c0
        have s1 := S1.c1
        have s2 := S1.c2
        refine bodyPost_ret (v := .tuple #[.agg #[.int .i64 (na : Int), .slice A9 d c9, .slice B9 k e9], .bool true]) (by simp [results, Try.results15, go_sem, s0, s1, s2]) rfl ?_
        exact ip_yes HR2.out (gr_ownF HG4.out hgz (fun q hq => by cases hq; exact Nat.le_refl _)) rfl ⟨_, _, by rw [HNT.out], (HO4.out.keep (fun q hq hq2 => hgz.block q hq2 (by simp; omega))).lows (by omega)⟩
end

/- VPackS -/
section
open Go.RowKit

set_option maxHeartbeats 1000000 in
theorem ownvec_any (v : Value) (k : Int) (LL : List (List Int)) (D : List Int) (w : World) (h : VctC w v k LL D) (hn : LL.length ≤ 1099511627776) (hm : ∀ M ∈ LL, M.length ≤ 1099511627776) (hd : D.length ≤ 1099511627776) :
    Calls Try.prog 48 #[v] w fun e w' => ∃ u, e = .returned u ∧ w.grownBy w' none ∧ OwnVct w' w.heap.size u k LL D := by
  obtain ⟨x, y, rfl, hl⟩ := h
  have HZ := Lib.hid (fun w h => ownl_any (.agg #[x, y]) LL D w h hn hm hd)
  obtain ⟨A, c, B, d, he, _⟩ := id hl
  cases he
  obtain ⟨n, hnn⟩ : ∃ n, LL.length = n := ⟨_, rfl⟩
  obtain ⟨m, hmm⟩ : ∃ m, D.length = m := ⟨_, rfl⟩
  have HN := Lib.hid hnn
  have HM := Lib.hid hmm
  rw [hnn, hmm] at HZ hl ⊢
  have HL := Lib.hid hl
  clear hn hm hd hnn hmm hl
  go_enter Try.func48, Try.ntmps48
  go_wp2_with fail
  have hg0 : w.grownBy ((w.alloc (.cells #[.int .i64 k, .slice A n c, .slice B m d] 34)).alloc (.cells #[.int .i64 0, .slice none 0 0, .slice none 0 0] 34)) none :=
    (World.grownBy_alloc _ _ _).trans (World.grownBy_alloc _ _ _)
  have P0 := (Tri.new w 34 (.int .i64 k) (.slice A n c) (.slice B m d)).alloc (.cells #[.int .i64 0, .slice none 0 0, .slice none 0 0] 34)
  have P1 := Tri.new (w.alloc (.cells #[.int .i64 k, .slice A n c, .slice B m d] 34)) 34 (.int .i64 0) (.slice none 0 0) (.slice none 0 0)
  rw [sz_alloc] at P1
  generalize (w.alloc (.cells #[.int .i64 k, .slice A n c, .slice B m d] 34)).alloc (.cells #[.int .i64 0, .slice none 0 0, .slice none 0 0] 34) = u0 at hg0 P0 P1 ⊢
  have hs0 : w.heap.size + 1 < u0.heap.size := P1.lt
  refine (HZ.out _ (HL.out.grown hg0)).mono ?_
  rintro e w1 ⟨u, rfl, hg1, ho1⟩
  obtain ⟨A1, c1, B1, d1, rfl, _⟩ := id ho1.lyt
  rw [HN.out, HM.out] at ho1 ⊢
  have Q0 := P0.grown hg1 (by simp)
  have Q1 := P1.grown hg1 (by simp)
  have HG1 := Lib.hid (hg0.trans hg1)
  have a0 := Q0.c0
  have a1 := Q0.c1
  have a2 := Q0.c2
  have f0 := Q0.f 0
  have f1 := Q0.f 1
  have f2 := Q0.f 2
  have b0 := Q1.c0
  have b1 := Q1.c1
  have b2 := Q1.c2
  have e0 := Q1.f 0
  have e1 := Q1.f 1
  have e2 := Q1.f 2
  have HQ0 := Lib.hid Q0
  have HQ1 := Lib.hid Q1
  have HO1 := Lib.hid ho1
  clear hg0 P0 P1 hg1 ho1 Q0 Q1
  go_wp2_with fail
  have T2 := (HQ0.out.set1 (.slice A1 n c1)).set2 (.slice B1 m d1)
  have hgs := (gr_set w1 w.heap.size 1 (.slice A1 n c1)).trans (gr_set (w1.setCell ⟨w.heap.size, 1, none⟩ (.slice A1 n c1)) w.heap.size 2 (.slice B1 m d1))
  have T1 := HQ1.out.grown hgs (by simp)
  have ho2 := HO1.out.keep (fun q hq hq2 => hgs.block q hq2 (by simp; omega))
  have hG2 := gr_ownF HG1.out hgs (fun q hq => by cases hq; omega)
  generalize (w1.setCell ⟨w.heap.size, 1, none⟩ (.slice A1 n c1)).setCell ⟨w.heap.size, 2, none⟩ (.slice B1 m d1) = w2 at T1 T2 hgs ho2 hG2 ⊢
  have S1 := ((T1.set0 (.int .i64 k)).set1 (.slice A1 n c1)).set2 (.slice B1 m d1)
  have hgz := ((gr_set w2 (w.heap.size + 1) 0 (.int .i64 k)).trans (gr_set _ (w.heap.size + 1) 1 (.slice A1 n c1))).trans (gr_set ((w2.setCell ⟨w.heap.size + 1, 0, none⟩ (.int .i64 k)).setCell ⟨w.heap.size + 1, 1, none⟩ (.slice A1 n c1)) (w.heap.size + 1) 2 (.slice B1 m d1))
  have r0 := S1.c0
  have r1 := S1.c1
  have r2 := S1.c2
  refine bodyPost_ret (v := .agg #[.int .i64 k, .slice A1 n c1, .slice B1 m d1]) (by simp [results, Try.results48, go_sem, r0, r1, r2]) rfl ?_
  have ho3 := ho2.keep (fun q hq hq2 => hgz.block q hq2 (by simp; omega))
  exact ⟨_, rfl, gr_ownF hG2 hgz (fun q hq => by cases hq; omega), _, _, rfl, ho3.lows (by omega)⟩

theorem VctC.zero (w : World) : VctC w (.agg #[.int .i64 0, .slice none 0 0, .slice none 0 0]) 0 [] [] := ⟨_, _, rfl, LytC.zero w⟩

set_option maxRecDepth 100000 in
set_option maxHeartbeats 1000000 in
theorem vpack_out (A : Option Addr) (m c : Nat) (n : Int) (w : World) (h : ¬ (0 ≤ n ∧ n ≤ 3)) :
    Calls Try.prog 47 #[.slice A m c, .int .i64 n] w fun e w' => e = .returned (.tuple #[.agg #[.int .i64 0, .slice none 0 0, .slice none 0 0], .bool false]) ∧ w.grownBy w' none := by
  have HI := Lib.hid (fun w => in_any n 0 3 false (decide_eq_false h) w)
  clear h
  have HP0 := Lib.hid ((Tri.new w 34 (.int .i64 0) (.slice none 0 0) (.slice none 0 0)).alloc (.cells #[] 97))
  go_enter Try.func47, Try.ntmps47
  go_wp2_with fail
  refine (HI.out _).mono ?_
  rintro e w1 ⟨rfl, rfl⟩
  go_wp2_with fail
  have q0 := HP0.out.c0
  have q1 := HP0.out.c1
  have q2 := HP0.out.c2
  refine bodyPost_ret (v := .tuple #[.agg #[.int .i64 0, .slice none 0 0, .slice none 0 0], .bool false]) (by simp [results, Try.results47, go_sem, q0, q1, q2]) rfl ?_
  exact ⟨rfl, (World.grownBy_alloc _ _ _).trans (World.grownBy_alloc _ _ _)⟩

set_option maxRecDepth 100000 in
set_option maxHeartbeats 1000000 in
theorem vpack_outI (A : Option Addr) (m c : Nat) (n : Int) (w : World) (h : ¬ (0 ≤ n ∧ n ≤ 3)) (_hm : m ≤ 1048576) :
    Calls Try.prog 15 #[.slice A m c, .int .i64 n] w fun e w' => e = .returned (.tuple #[.agg #[.int .i64 0, .slice none 0 0, .slice none 0 0], .bool false]) ∧ w.grownBy w' none := by
  have HP0 := Lib.hid (Tri.new w 34 (.int .i64 0) (.slice none 0 0) (.slice none 0 0))
  by_cases h0 : n < 0
  · clear h
    go_enter Try.func15, Try.ntmps15
    go_wp2_with fail
    have q0 := HP0.out.c0
    have q1 := HP0.out.c1
    have q2 := HP0.out.c2
    refine bodyPost_ret (v := .tuple #[.agg #[.int .i64 0, .slice none 0 0, .slice none 0 0], .bool false]) (by simp [results, Try.results15, go_sem, q0, q1, q2]) rfl ?_
    exact ⟨rfl, World.grownBy_alloc _ _ _⟩
  · have h3 : 3 < n := by omega
    clear h
    go_enter Try.func15, Try.ntmps15
    go_wp2_with fail
    have q0 := HP0.out.c0
    have q1 := HP0.out.c1
    have q2 := HP0.out.c2
    refine bodyPost_ret (v := .tuple #[.agg #[.int .i64 0, .slice none 0 0, .slice none 0 0], .bool false]) (by simp [results, Try.results15, go_sem, q0, q1, q2]) rfl ?_
    exact ⟨rfl, World.grownBy_alloc _ _ _⟩

theorem raw_both (ss : List ByteArray) (n : Int) (hlen : ss.length ≤ 1048576) : ∃ (k : Int) (LL : List (List Int)) (D : List Int) (b : Bool), (LL.length ≤ 3 ∧ totL LL + D.length ≤ 800000) ∧
    (∀ A c w, Strs w A ss → Calls Try.prog 47 #[.slice A ss.length c, .int .i64 n] w fun e w' => ∃ u, e = .returned (.tuple #[u, .bool b]) ∧ w.grownBy w' none ∧ VctC w' u k LL D) ∧
    (∀ A c w, Strs w A ss → Calls Try.prog 15 #[.slice A ss.length c, .int .i64 n] w fun e w' => ∃ u, e = .returned (.tuple #[u, .bool b]) ∧ w.grownBy w' none ∧ OwnVct w' w.heap.size u k LL D) := by
  have hz : ∀ (w : World) (base : Nat), OwnVct w base (.agg #[.int .i64 0, .slice none 0 0, .slice none 0 0]) 0 [] [] := fun w base => by
    refine ⟨_, _, rfl, none, 0, .slice none 0 0, [], rfl, Nat.le_refl _, World.ownsRow_nil _ _ _ _, fun i L hi hL => ?_, fun i i' v u L L' g hi hi' hne => ?_⟩
    · have h0 : i = 0 := by simpa using hi
      subst h0
      simp at hL
      subst hL
      exact ⟨_, rfl, none, 0, rfl, Nat.le_refl _, fun h => by simp at h⟩
    · simp at hi hi'
      omega
  by_cases h : 0 ≤ n ∧ n ≤ 3
  · obtain ⟨d, rfl⟩ : ∃ d : Nat, n = d := ⟨n.toNat, by omega⟩
    cases hp : packR ss d with
    | none =>
      refine ⟨0, [], [], false, by simp [totL], fun A c w hs => (vraw_any A c d ss w hs hlen (by omega)).mono ?_, fun A c w hs => (vpack_impl A c d ss w hs hlen (by omega)).mono ?_⟩
      · rintro e w' ⟨hg, h2⟩
        rw [hp] at h2
        exact ⟨_, h2, hg, VctC.zero _⟩
      · rintro e w' ⟨hg, h2⟩
        rw [hp] at h2
        exact ⟨_, h2, hg, hz _ _⟩
    | some ts =>
      have hr : rdL d ss = some ts ∧ ss.length ≤ 2000 := by
        unfold packR at hp
        split at hp
        · exact ⟨hp, by assumption⟩
        · cases hp
      obtain ⟨_, _, h3⟩ := rd_short hr.1 hr.2
      refine ⟨ts.length, lv d ts, dat d ts, true, ⟨by rw [lv_len]; omega, h3⟩, fun A c w hs => (vraw_any A c d ss w hs hlen (by omega)).mono ?_, fun A c w hs => (vpack_impl A c d ss w hs hlen (by omega)).mono ?_⟩
      · rintro e w' ⟨hg, h2⟩
        rw [hp] at h2
        obtain ⟨u, h2, h4⟩ := h2
        exact ⟨_, h2, hg, h4⟩
      · rintro e w' ⟨hg, h2⟩
        rw [hp] at h2
        obtain ⟨u, h2, h4⟩ := h2
        exact ⟨_, h2, hg, h4⟩
  · exact ⟨0, [], [], false, by simp [totL], fun A c w hs => (vpack_out A _ c n w h).mono (fun e w' ⟨h1, h2⟩ => ⟨_, h1, h2, VctC.zero _⟩), fun A c w hs => (vpack_outI A _ c n w h hlen).mono (fun e w' ⟨h1, h2⟩ => ⟨_, h1, h2, hz _ _⟩)⟩

set_option maxRecDepth 100000 in
set_option maxHeartbeats 1000000 in
theorem spack_of (n : Int) (A : Option Addr) (m c : Nat) (k : Int) (LL : List (List Int)) (D : List Int) (b : Bool) (w : World) (hb : LL.length ≤ 3 ∧ totL LL + D.length ≤ 800000)
    (h : ∀ u, w.grownBy u none → Calls Try.prog 47 #[.slice A m c, .int .i64 n] u fun e w' => ∃ v, e = .returned (.tuple #[v, .bool b]) ∧ u.grownBy w' none ∧ VctC w' v k LL D) :
    Calls Try.prog 13 #[.slice A m c, .int .i64 n] w fun e w' => ∃ u, e = .returned (.tuple #[u, .bool b]) ∧ w.grownBy w' none ∧ Vct w' u k LL D := by
  have hg0 := World.grownBy_alloc w (.cells #[.int .i64 0, .slice none 0 0, .slice none 0 0] 34) none
  have HC := Lib.hid (h _ hg0)
  have HP0 := Lib.hid (Tri.new w 34 (.int .i64 0) (.slice none 0 0) (.slice none 0 0))
  have HG0 := Lib.hid hg0
  have HO := Lib.hid (fun v u (h : VctC u v k LL D) => ownvec_any v k LL D u h (by omega) (fun M hM => by
    obtain ⟨i, hi⟩ := List.getElem?_of_mem hM
    have := totL_at hi
    omega) (by omega))
  clear h hg0 hb
  go_enter Try.func13, Try.ntmps13
  go_wp2_with fail
  refine HC.out.mono ?_
  rintro e w1 ⟨v, rfl, hg1, hv1⟩
  obtain ⟨x, y, rfl, hl1⟩ := id hv1
  obtain ⟨A1, c1, B1, d1, he, _⟩ := hl1
  cases he
  obtain ⟨na, hna⟩ : ∃ na, LL.length = na := ⟨_, rfl⟩
  obtain ⟨nd', hnd⟩ : ∃ nd', D.length = nd' := ⟨_, rfl⟩
  have HNA := Lib.hid hna
  have HND := Lib.hid hnd
  rw [hna, hnd] at hv1 ⊢
  have hgA := World.grownBy_alloc w1 (.cells #[.int .i64 k, .slice A1 na c1, .slice B1 nd' d1] 34) none
  have hvA : VctC (w1.alloc (.cells #[.int .i64 k, .slice A1 na c1, .slice B1 nd' d1] 34)) (.agg #[.int .i64 k, .slice A1 na c1, .slice B1 nd' d1]) k LL D := by
    obtain ⟨x, y, he, hl⟩ := hv1
    exact ⟨x, y, he, hl.grown hgA⟩
  have HV := Lib.hid hvA
  have HP1 := Lib.hid ((HP0.out.grown hg1 (by simp)).alloc (.cells #[.int .i64 k, .slice A1 na c1, .slice B1 nd' d1] 34))
  have HG1 := Lib.hid ((HG0.out.trans hg1).trans hgA)
  clear hg1 hv1 hna hnd hgA hvA
  go_wp2_with fail
  refine (HO.out _ _ HV.out).mono ?_
  rintro e w2 ⟨u, rfl, hg2, ho2⟩
  obtain ⟨A2, c2, B2, d2, rfl, _⟩ := id ho2.vct
  rw [HNA.out, HND.out] at ho2 ⊢
  have T2 := HP1.out.grown hg2 (by simp)
  have r0 := T2.c0
  have r1 := T2.c1
  have r2 := T2.c2
  have f0 := T2.f 0
  have f1 := T2.f 1
  have f2 := T2.f 2
  have HT2 := Lib.hid T2
  have HG2 := Lib.hid (HG1.out.trans hg2)
  have HO2 := Lib.hid ho2
  have hlo := HP1.out.lt
  have HLO := Lib.hid hlo
  clear T2 hg2 ho2 hlo
  go_wp2_with fail
  have S1 := ((HT2.out.set0 (.int .i64 k)).set1 (.slice A2 na c2)).set2 (.slice B2 nd' d2)
  have hgz := ((gr_set w2 w.heap.size 0 (.int .i64 k)).trans (gr_set _ w.heap.size 1 (.slice A2 na c2))).trans (gr_set ((w2.setCell ⟨w.heap.size, 0, none⟩ (.int .i64 k)).setCell ⟨w.heap.size, 1, none⟩ (.slice A2 na c2)) w.heap.size 2 (.slice B2 nd' d2))
  have s0 := S1.c0
  have s1 := S1.c1
  have s2 := S1.c2
  refine bodyPost_ret (v := .tuple #[.agg #[.int .i64 k, .slice A2 na c2, .slice B2 nd' d2], .bool b]) (by simp [results, Try.results13, go_sem, s0, s1, s2]) rfl ?_
  exact ⟨_, rfl, gr_ownF HG2.out hgz (fun q hq => by cases hq; exact Nat.le_refl _), (HO2.out.kept (base' := 0) (fun u hu => (hu.keep (fun q hq hq2 => hgz.block q hq2 (by have := HLO.out; simp; omega))).lows (Nat.zero_le _))).vct⟩

/-- Both answers at once. -/
theorem both_packv (ss : List ByteArray) (n : Int) (hlen : ss.length ≤ 1048576) : ∃ (k : Int) (LL : List (List Int)) (D : List Int) (b : Bool), (LL.length ≤ 3 ∧ totL LL + D.length ≤ 800000) ∧
    (∀ A c w, Strs w A ss → Calls Try.prog 13 #[.slice A ss.length c, .int .i64 n] w fun e w' => ∃ u, e = .returned (.tuple #[u, .bool b]) ∧ w.grownBy w' none ∧ Vct w' u k LL D) ∧
    (∀ A c w, Strs w A ss → Calls Try.prog 15 #[.slice A ss.length c, .int .i64 n] w fun e w' => ∃ u, e = .returned (.tuple #[u, .bool b]) ∧ w.grownBy w' none ∧ OwnVct w' w.heap.size u k LL D) := by
  obtain ⟨k, LL, D, b, hb, h1, h2⟩ := raw_both ss n hlen
  exact ⟨k, LL, D, b, hb, fun A c w hs => spack_of n A _ c k LL D b w hb (fun u hg => h1 A c u (hs.grown hg)), h2⟩
end

end Go.Proofs.Ytdfanconjiiceaa

/- What l13OwnLayout, l2RawLayOut and LayOut of the model do. -/
import Derived.Test.YtachjodnhgmoiaaOwnM
namespace Go.Proofs.Ytachjodnhgmoiaa
open Go.RowKit

/-- A layout to be copied: its cells, and slices that are nil have no room. -/
def LytC (w : World) (v : Value) (LL : List (List Int)) (D : List Int) : Prop :=
  ∃ A c B d, v = .agg #[.slice A LL.length c, .slice B D.length d] ∧ LL.length ≤ c ∧ D.length ≤ d ∧ Rws w A LL ∧ Ints w B D ∧ (B = none → d = 0) ∧
    ∀ (w' : World) (j : Nat) (L : List Int), w.grownBy w' none → LL[j]? = some L → ∀ b off, A = some ⟨b, off, none⟩ → ∃ Aj cj, w'.cell? ⟨b, off + j, none⟩ = some (.slice Aj L.length cj) ∧ Ints w' Aj L ∧ (Aj = none → cj = 0) ∧ L.length ≤ cj
theorem LytC.grown {w w' : World} {v : Value} {LL : List (List Int)} {D : List Int} (h : LytC w v LL D) (hg : w.grownBy w' none) : LytC w' v LL D := by
  obtain ⟨A, c, B, d, rfl, h1, h2, h3, h4, h5, h6⟩ := h
  exact ⟨A, c, B, d, rfl, h1, h2, h3.grown hg, h4.grown hg (by simp), h5, fun w2 j L h => h6 w2 j L (hg.trans h)⟩
theorem LytC.zero (w : World) : LytC w (.agg #[.slice none 0 0, .slice none 0 0]) [] [] :=
  ⟨none, 0, none, 0, rfl, Nat.le_refl _, Nat.le_refl _, fun h => by simp at h, fun h => by simp at h, fun _ => rfl, fun _ _ _ _ h => by simp at h⟩

/-- What an own copy of a list of ints is: 'append([]int{}, list...)'. -/
theorem copy_row {w w8 : World} {A : Option Addr} {m8 c8 q : Nat} {zs : List Int} (h : w8.ownsRow w.heap.size 3 1 (.slice A m8 c8) q (zs.map (Value.int .i64))) (hq : zs.length = q) : m8 = q ∧ Ints w8 A zs ∧ q ≤ c8 := by
  subst hq
  obtain ⟨h1, h2, h3, _⟩ := row_reads h
  exact ⟨h1, h2, h3⟩

set_option maxRecDepth 100000 in
set_option maxHeartbeats 4000000 in
theorem ownl_any (v : Value) (LL : List (List Int)) (D : List Int) (w : World) (h : LytC w v LL D) (hn : LL.length ≤ 1099511627776) (hm : ∀ M ∈ LL, M.length ≤ 1099511627776) (hd : D.length ≤ 1099511627776) :
    Calls Try.prog 17 #[v] w fun e w' => ∃ u, e = .returned u ∧ w.grownBy w' none ∧ OwnLyt w' w.heap.size u LL D := by
  obtain ⟨A, c, B, d, rfl, h1, h2, h3, h4, h5, h6⟩ := h
  obtain ⟨j0, hj0, hy0, hy1, hy2⟩ := info_parts infoJ
  have HS := Lib.hid (fun u (hg : w.grownBy u none) => ownss_any A c LL u (h3.grown hg) hn hm (fun w2 j L h => h6 w2 j L (hg.trans h)))
  have HD := Lib.hid h4
  obtain ⟨n, hnn⟩ : ∃ n, LL.length = n := ⟨_, rfl⟩
  obtain ⟨m, hmm⟩ : ∃ m, D.length = m := ⟨_, rfl⟩
  have HN := Lib.hid hnn
  have HM := Lib.hid hmm
  rw [hnn] at HS hn
  rw [hmm] at hd h2
  rw [hnn, hmm]
  clear h1 h3 h4 h6 hm hnn hmm
  have HG0 := Lib.hid ((World.grownBy_alloc w (.cells #[.slice A n c, .slice B m d] 30) none).trans (World.grownBy_alloc _ (.cells #[.slice none 0 0, .slice none 0 0] 30) none))
  have P0 := (Pr.new w 30 (.slice A n c) (.slice B m d)).alloc (.cells #[.slice none 0 0, .slice none 0 0] 30)
  have P1 := Pr.new (w.alloc (.cells #[.slice A n c, .slice B m d] 30)) 30 (.slice none 0 0) (.slice none 0 0)
  rw [sz_alloc] at P1
  have HP0 := Lib.hid P0
  have HP1 := Lib.hid P1
  clear P0 P1
  go_enter Try.func17, Try.ntmps17
  go_wp2_with fail
  generalize (w.alloc (.cells #[.slice A n c, .slice B m d] 30)).alloc (.cells #[.slice none 0 0, .slice none 0 0] 30) = u0 at HG0 HP0 HP1 ⊢
  refine (HS.out _ HG0.out).mono ?_
  rintro e w1 ⟨A1, c1, rfl, hg1, hc1, vs, ho1, hf1⟩
  have Q0 := HP0.out.grown hg1 (by simp)
  have Q1 := HP1.out.grown hg1 (by simp)
  have hs := gr_set w1 w.heap.size 0 (.slice A1 n c1)
  have hgw := gr_ownF (HG0.out.trans hg1) hs (fun k hk => by cases hk; exact Nat.le_refl _)
  have HG2 := Lib.hid hgw
  have HOW := Lib.hid (own_box ho1 Q0 (by decide) hs)
  have HF := Lib.hid (hf1.box Q0 (by decide) hs)
  have HQ0 := Lib.hid (Q0.set0 (.slice A1 n c1))
  have HQ1 := Lib.hid (Q1.grown hs (by simp))
  have q0 := Q0.c0
  have q1 := Q0.c1
  have q2 := Q0.f 0
  have HCC := Lib.hid hc1
  clear hg1 ho1 hf1 hs hgw Q0 Q1 hc1
  go_upto_region 2 with fail
  clear q0 q1 q2
  generalize w1.setCell ⟨w.heap.size, 0, none⟩ (.slice A1 n c1) = w2 at HG2 HOW HF HQ0 HQ1 ⊢
  have own1 : (w2.alloc (.cells #[] 3)).ownsRow w2.heap.size 3 1 (.slice (some ⟨w2.heap.size, 0, none⟩) 0 0) 0 [] := World.ownsRow_made (base := w2.heap.size) (e := 3) (size := 1) w2 #[] 0 (Nat.le_refl _) (by simp) (by simp)
  -- what is left, once the copy of the data lies in a new row
  have FIN : ∀ (w5 : World) (A5 : Option Addr) (m5 c5 : Nat), w2.grownBy w5 none → w5.ownsRow w2.heap.size 3 1 (.slice A5 m5 c5) m (D.map (Value.int .i64)) →
      Pr w5 w.heap.size 30 (.slice A1 n c1) (.slice B m d) ∧ Pr w5 (w.heap.size + 1) 30 (.slice none 0 0) (.slice none 0 0) ∧
      Pr (((w5.setCell ⟨w.heap.size, 1, none⟩ (.slice A5 m5 c5)).setCell ⟨w.heap.size + 1, 0, none⟩ (.slice A1 n c1)).setCell ⟨w.heap.size + 1, 1, none⟩ (.slice A5 m5 c5)) (w.heap.size + 1) 30 (.slice A1 n c1) (.slice A5 m5 c5) ∧
      (∃ u, u = Value.agg #[.slice A1 n c1, .slice A5 m5 c5] ∧ w.grownBy (((w5.setCell ⟨w.heap.size, 1, none⟩ (.slice A5 m5 c5)).setCell ⟨w.heap.size + 1, 0, none⟩ (.slice A1 n c1)).setCell ⟨w.heap.size + 1, 1, none⟩ (.slice A5 m5 c5)) none ∧
        OwnLyt (((w5.setCell ⟨w.heap.size, 1, none⟩ (.slice A5 m5 c5)).setCell ⟨w.heap.size + 1, 0, none⟩ (.slice A1 n c1)).setCell ⟨w.heap.size + 1, 1, none⟩ (.slice A5 m5 c5)) w.heap.size u LL D) := by
    intro w5 A5 m5 c5 hg5 ho5
    have R0 := HQ0.out.grown hg5 (by simp)
    have R1 := HQ1.out.grown hg5 (by simp)
    have how5 := HOW.out.kept hg5 (by cases hv : (Value.slice A1 n c1).ownBlock <;> simp)
    have hf5 := HF.out.grown hg5
    have s1 := gr_set w5 w.heap.size 1 (.slice A5 m5 c5)
    have how6 := own_box how5 R0 (by decide) s1
    have hf6 := hf5.box R0 (by decide) s1
    have ho6 := own_box ho5 R0 (by decide) s1
    have R2 := R1.grown s1 (by simp)
    have s2 := (gr_set (w5.setCell ⟨w.heap.size, 1, none⟩ (.slice A5 m5 c5)) (w.heap.size + 1) 0 (.slice A1 n c1)).trans (gr_set ((w5.setCell ⟨w.heap.size, 1, none⟩ (.slice A5 m5 c5)).setCell ⟨w.heap.size + 1, 0, none⟩ (.slice A1 n c1)) (w.heap.size + 1) 1 (.slice A5 m5 c5))
    have how7 := own_box how6 R2 (by decide) s2
    have hf7 := hf6.box R2 (by decide) s2
    have ho7 := own_box ho6 R2 (by decide) s2
    obtain ⟨hm5, hi5, hc5⟩ := copy_row (w := w2) ho7 HM.out
    refine ⟨R0, R1, (R2.set0 _).set1 _, _, rfl, gr_ownF (gr_ownF (HG2.out.trans hg5) s1 (fun k hk => by cases hk; exact Nat.le_refl _)) s2 (fun k hk => by cases hk; omega), A1, c1, .slice A5 m5 c5, vs, by rw [HN.out], by rw [HN.out]; exact HCC.out, by rw [HN.out]; exact own_base how7 HG0.out.size, ?_⟩
    have hvl : vs.length = LL.length := by have := how7.1; have := HN.out; omega
    rw [HN.out]
    refine Fam.all (lo := w2.heap.size) (hf7.low HG0.out.size) hvl HN.out.symm ⟨A5, c5, by rw [HM.out, hm5], by rw [HM.out]; exact hc5, fun _ => own_base (by rw [HM.out]; exact ho7) HG2.out.size⟩ (fun g _ hg => (ho7.lt g hg).1) ?_
    intro i M u g hi hM hu hl hg
    exact (HF.out.lt hi hM hu hl hg).2
  have FIN := Lib.hid FIN
  cases B with
  | none =>
    have h0 := h5 rfl
    subst h0
    have hm0 : m = 0 := by omega
    subst hm0
    obtain ⟨R0, R1, hpf, u, hu, hgf, hly⟩ := FIN.out (w2.alloc (.cells #[] 3)) (some ⟨w2.heap.size, 0, none⟩) 0 0 (World.grownBy_alloc _ _ _) (by rw [List.eq_nil_of_length_eq_zero HM.out]; exact own1)
    have q0 := HQ0.out.c1
    have r0 := R0.c0
    have r1 := R0.c1
    have r2 := R0.f 1
    have r3 := R1.c0
    have r4 := R1.c1
    have r5 := R1.f 0
    have r6 := R1.f 1
    have z0 := hpf.c0
    have z1 := hpf.c1
    clear own1 h2 h5 R0 R1 hpf
    go_wp2_with fail
    refine bodyPost_ret (v := u) (by simp [results, Try.results17, go_sem, z0, z1, hu]) rfl ?_
    exact ⟨u, rfl, hgf, hly⟩
  | some ab =>
    have HD2 := Lib.hid (HD.out.grown (HG2.out.trans (World.grownBy_alloc w2 (.cells #[] 3) none)) (by simp))
    have q0 := HQ0.out.c1
    have q1 := (HQ0.out.alloc (.cells #[] 3)).c1
    go_wp2_with (at_builtin; refine wpList_append_own_at _ rfl _ _ 22 rfl w2.heap.size 3 j0 (.int .i64 0) 1 8 Try.underlying22 hj0 hy0 hy1 hy2 rfl (by decide) _ _ _ rfl own1 ab m d (D.map (Value.int .i64)) rfl ?g1 ?g0 ?g2 ?g3 ?g4 ?g5 ?_)
    case g1 => simp; exact HM.out
    case g0 =>
      intro j u hu
      rw [List.getElem?_map] at hu
      obtain ⟨z, hz, rfl⟩ := Option.map_eq_some_iff.1 hu
      have hj := (List.getElem?_eq_some_iff.1 hz).1
      obtain ⟨b, off, ha, _, hc⟩ := HD2.out (by omega)
      cases ha
      rw [addr_flat]
      exact hc j z hz
    case g2 => intro u hu; obtain ⟨z, _, rfl⟩ := List.mem_map.1 hu; rfl
    case g3 => simp only [maxLen]; omega
    case g4 => omega
    case g5 => simp
    intro v8 w8 hown8 hg8 _ _
    obtain ⟨A5, m5, c5, rfl⟩ := own_form hown8
    obtain ⟨R0, R1, hpf, u, hu, hgf, hly⟩ := FIN.out w8 A5 m5 c5 (gr_ownF (World.grownBy_alloc w2 (.cells #[] 3) none) hg8 (fun k hk => by cases hk; exact Nat.le_refl _)) (by simpa using hown8)
    clear q1 hown8 hg8
    have r0 := R0.c0
    have r1 := R0.c1
    have r2 := R0.f 1
    have r3 := R1.c0
    have r4 := R1.c1
    have r5 := R1.f 0
    have r6 := R1.f 1
    have z0 := hpf.c0
    have z1 := hpf.c1
    clear own1 h2 h5 R0 R1 hpf
    go_wp2_with fail
    refine bodyPost_ret (v := u) (by simp [results, Try.results17, go_sem, z0, z1, hu]) rfl ?_
    exact ⟨u, rfl, hgf, hly⟩

end Go.Proofs.Ytachjodnhgmoiaa

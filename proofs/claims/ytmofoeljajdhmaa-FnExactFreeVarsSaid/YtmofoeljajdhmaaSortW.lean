/- slices.Sort and slices.Sorted of at most 12 variables. -/
import Derived.Test.YtmofoeljajdhmaaCollV
import Derived.BigQuiet
import Derived.Deep.QuietTactic
namespace Go.Proofs.Ytmofoeljajdhmaa
section
open Go.RowKit

def leV (l : List Int) : Prop := l.Pairwise (· ≤ ·)
theorem leV_in {P Q : List Int} {x : Int} (h : leV (P ++ Q)) (h1 : ∀ y ∈ P, y ≤ x) (h2 : ∀ y ∈ Q, x ≤ y) : leV (P ++ x :: Q) := by
  obtain ⟨hp, hq, hpq⟩ := List.pairwise_append.1 h
  refine List.pairwise_append.2 ⟨hp, List.pairwise_cons.2 ⟨h2, hq⟩, fun a ha b hb => ?_⟩
  rcases List.mem_cons.1 hb with rfl | hb
  · exact h1 a ha
  · exact hpq a ha b hb
theorem leV_last {P Q : List Int} {y : Int} (h : leV (P ++ [y] ++ Q)) : ∀ z ∈ P, z ≤ y := fun z hz => by
  have := (List.pairwise_append.1 (List.pairwise_append.1 h).1).2.2 z hz y (by simp)
  exact this
theorem leV_one : ∀ {l k : List Int}, leV l → leV k → l.Perm k → l = k
  | [], k, _, _, hp => (List.nil_perm.1 hp).symm
  | x :: l, k, h1, h2, hp => by
    cases k with
    | nil => exact List.perm_nil.1 hp
    | cons y k =>
      obtain ⟨hx, h3⟩ := List.pairwise_cons.1 h1
      obtain ⟨hy, h4⟩ := List.pairwise_cons.1 h2
      have e : x = y := by
        have g1 : x ∈ y :: k := hp.subset List.mem_cons_self
        have g2 : y ∈ x :: l := hp.symm.subset List.mem_cons_self
        rcases List.mem_cons.1 g1 with e | g1
        · exact e
        · rcases List.mem_cons.1 g2 with e | g2
          · exact e.symm
          · have a1 := hx y g2
            have a2 := hy x g1
            omega
      subst e
      exact congrArg (x :: ·) (leV_one h3 h4 ((List.perm_cons x).1 hp))

theorem varV_at {L : List Int} {j : Nat} {x : Int} (h : L[j]? = some x) : (varV L)[j]? = some (.int .u8 x) := by simp [varV, h]
theorem mid_at (P Q : List Int) (x : Int) {p : Nat} (h : P.length = p) : (P ++ x :: Q)[p]? = some x := by
  rw [List.getElem?_append_right (by omega), h, Nat.sub_self]; rfl
theorem mid_set (P Q : List Int) (x y : Int) {p : Nat} (h : P.length = p) : (P ++ x :: Q).set p y = P ++ y :: Q := by
  subst h
  simp [List.set_append_right]

theorem isnanV (x : Int) (w : World) : Calls Try.prog 230 #[.int .u8 x] w fun e w' => e = .returned (.bool false) ∧ w' = w := by
  go_enter Try.func230, Try.ntmps230
  go_wp2_with fail
  go_ret
  exact ⟨rfl, rfl⟩
theorem lessV (x y : Int) (w : World) : Calls Try.prog 213 #[.int .u8 x, .int .u8 y] w fun e w' => e = .returned (.bool (decide (x < y))) ∧ w' = w := by
  have H := Lib.hid isnanV
  go_enter Try.func213, Try.ntmps213
  go_wp2_with fail
  refine (H.out _ _).mono ?_
  rintro e w1 ⟨rfl, rfl⟩
  go_wp2_with fail
  go_ret
  exact ⟨rfl, rfl⟩

set_option maxRecDepth 100000 in
set_option maxHeartbeats 8000000 in
theorem insV (B g n cap : Nat) (L : List Int) (w : World) (ho : w.ownsRow B TV 1 (.slice (some ⟨g, 0, none⟩) n cap) n (varV L)) (hn : L.length = n) (hn0 : 0 < n) (hn2 : n ≤ 400) :
    Calls Try.prog 207 #[.slice (some ⟨g, 0, none⟩) n cap, .int .i64 0, .int .i64 (n : Int)] w fun e w' => e = .returned (.tuple #[]) ∧ ∃ M : List Int, M.Perm L ∧ leV M ∧ w'.ownsRow B TV 1 (.slice (some ⟨g, 0, none⟩) n cap) n (varV M) ∧ w.grownBy w' (some g) := by
  have HN := Lib.hid hn
  have H0 : Hid (∃ S R, S.length = 1 ∧ leV S ∧ (S ++ R).Perm L ∧ w.ownsRow B TV 1 (.slice (some ⟨g, 0, none⟩) n cap) n (varV (S ++ R))) := Lib.hid (by
    cases L with
    | nil => simp at hn; omega
    | cons x L => exact ⟨[x], L, rfl, by simp [leV], List.Perm.refl _, ho⟩)
  have HL := Lib.hid lessV
  clear ho hn
  go_enter Try.func207, Try.ntmps207
  go_wp2_with fail
  go_loopw [6] (fun i wr => ∃ t : Nat, 1 ≤ t ∧ t ≤ n ∧ i = .int .i64 (t : Int) ∧ Hid (∃ S R, S.length = t ∧ leV S ∧ (S ++ R).Perm L ∧ wr.ownsRow B TV 1 (.slice (some ⟨g, 0, none⟩) n cap) n (varV (S ++ R))) ∧ Hid (w.grownBy wr (some g))) (fun i _ => n - (intOf i).toNat)
  case atStart => exact ⟨1, Nat.le_refl _, by omega, rfl, H0, Lib.hid (gr_refl _ _)⟩
  case round =>
    obtain ⟨t, ht1, ht2, rfl, hS, hgr⟩ := hrel
    by_cases hlt : t < n
    · have HI : Hid (∃ (P : List Int) (x : Int) (Q R : List Int), P.length = t ∧ Q.length = t - t ∧ leV (P ++ Q) ∧ (∀ y ∈ Q, x ≤ y) ∧ (P ++ x :: (Q ++ R)).Perm L ∧ wr.ownsRow B TV 1 (.slice (some ⟨g, 0, none⟩) n cap) n (varV (P ++ x :: (Q ++ R)))) := Lib.hid (by
        obtain ⟨S, R, h1, h2, h3, h4⟩ := hS.out
        cases R with
        | nil => have := h3.length_eq; rw [List.append_nil, h1, HN.out] at this; omega
        | cons x R => exact ⟨S, x, [], R, h1, by simp, by simpa using h2, by simp, by simpa using h3, by simpa using h4⟩)
      clear hS
      go_wp2_with fail
      go_loopw [7] (fun j wr => ∃ p : Nat, j = .int .i64 (p : Int) ∧ p ≤ t ∧ Hid (∃ (P : List Int) (x : Int) (Q R : List Int), P.length = p ∧ Q.length = t - p ∧ leV (P ++ Q) ∧ (∀ y ∈ Q, x ≤ y) ∧ (P ++ x :: (Q ++ R)).Perm L ∧ wr.ownsRow B TV 1 (.slice (some ⟨g, 0, none⟩) n cap) n (varV (P ++ x :: (Q ++ R)))) ∧ Hid (w.grownBy wr (some g))) (fun j _ => (intOf j).toNat)
      case atStart => exact ⟨t, rfl, Nat.le_refl _, HI, hgr⟩
      case round =>
        clear hgr HI
        obtain ⟨p, rfl, hpt, hst, hgr⟩ := hrel
        by_cases hp0 : p = 0
        · subst hp0
          have HE : Hid (∃ S R, S.length = t + 1 ∧ leV S ∧ (S ++ R).Perm L ∧ wr.ownsRow B TV 1 (.slice (some ⟨g, 0, none⟩) n cap) n (varV (S ++ R))) := Lib.hid (by
            obtain ⟨P, x, Q, R, h1, h2, h3, h4, h5, h6⟩ := hst.out
            obtain rfl := List.eq_nil_of_length_eq_zero h1
            exact ⟨x :: Q, R, by simp; omega, leV_in (P := []) h3 (by simp) h4, by simpa using h5, by simpa using h6⟩)
          clear hst
          go_wp2_with fail
          go_quiet (fail)
          go_wp2_with fail
          go_roundw
          case rel => exact ⟨t + 1, by omega, by omega, by go_num, Lib.hid (by obtain ⟨S, R, h1, h2, h3, h4⟩ := HE.out; exact ⟨S, R, h1, h2, h3, own_keep h4 (fun _ _ => rfl)⟩), Lib.hid (hgr.out.trans (gr_drewN _ _ _))⟩
          case measure => simp [intOf]; omega
        · obtain ⟨q, rfl⟩ : ∃ q, p = q + 1 := ⟨p - 1, by omega⟩
          obtain ⟨P, x, Q, R, h1, h2, h3, h4, h5, h6⟩ := hst.out
          obtain ⟨P', y, rfl⟩ : ∃ P' y, P = P' ++ [y] := by
            have hne : P ≠ [] := fun h => by rw [h] at h1; simp at h1
            exact ⟨P.dropLast, P.getLast hne, (List.dropLast_concat_getLast hne).symm⟩
          have hq : P'.length = q := by simpa using h1
          have hlen := h5.length_eq
          rw [HN.out] at hlen
          simp only [List.length_append, List.length_cons, List.length_nil] at hlen
          have c1 : wr.cell? ⟨g, q + 1, none⟩ = some (.int .u8 x) := (h6.cellAt (q + 1) (by omega)).trans (varV_at (mid_at _ _ x h1))
          have c2 : wr.cell? ⟨g, q, none⟩ = some (.int .u8 y) := (h6.cellAt q (by omega)).trans (varV_at (by rw [List.append_assoc]; exact mid_at _ _ y hq))
          have H6 := Lib.hid h6
          have H3 := Lib.hid h3
          have H4 := Lib.hid h4
          have H5 := Lib.hid h5
          have H2 := Lib.hid h2
          have HQ := Lib.hid hq
          have HQ1 := Lib.hid h1
          have hq1 : (((q + 1 : Nat) : Int)) = (q : Int) + 1 := by omega
          have hqn : q + 1 < n := by omega
          clear h1 h2 h3 h4 h5 h6 hst hq hlen
          by_cases hxy : x < y
          · have hxd : decide (x < y) = true := by simp [hxy]
            go_wp2_with fail
            go_quiet (first | (go_at_call 213; refine Calls.quiet_of_same (lessV x y _)))
            go_wp2_with fail
            generalize hwd : wr.drewN nq = wd
            have ho : wd.ownsRow B TV 1 (.slice (some ⟨g, 0, none⟩) n cap) n (varV (P' ++ [y] ++ x :: (Q ++ R))) := by rw [← hwd]; exact own_keep H6.out (fun _ _ => rfl)
            have d1 : wd.cell? ⟨g, q + 1, none⟩ = some (.int .u8 x) := by rw [← hwd]; exact c1
            have d2 : wd.cell? ⟨g, q, none⟩ = some (.int .u8 y) := by rw [← hwd]; exact c2
            have HG5 := Lib.hid (hgr.out.trans (show wr.grownBy wd (some g) by rw [← hwd]; exact gr_drewN _ _ _))
            have f1 := ho.frozenAt (q + 1)
            have f2 := ho.frozenAt q
            have hne : q + 1 ≠ q := by omega
            have hne2 : q ≠ q + 1 := by omega
            have h1 := ho.stored (q + 1) (.int .u8 y)
            have h2 := h1.1.stored q (.int .u8 x)
            have hset : ((varV (P' ++ [y] ++ x :: (Q ++ R))).set (q + 1) (.int .u8 y)).set q (.int .u8 x) = varV (P' ++ x :: (y :: Q ++ R)) := by
              unfold varV
              rw [← List.map_set, ← List.map_set, mid_set _ _ _ _ HQ1.out, List.append_assoc]
              exact congrArg _ (mid_set P' (y :: (Q ++ R)) y x HQ.out)
            rw [hset] at h2
            have HST := Lib.hid (And.intro h2.1 (h1.2.trans h2.2))
            have HP : Hid ((P' ++ x :: (y :: Q ++ R)).Perm L) := Lib.hid (by
              refine List.Perm.trans ?_ H5.out
              rw [List.append_assoc]
              exact List.Perm.append_left P' (List.Perm.swap y x (Q ++ R)))
            clear h1 h2 ho hset hwd c1 c2
            go_region
            all_goals
              go_wp2_with fail
              go_roundw
              case rel => exact ⟨q, by go_num, by omega, Lib.hid ⟨P', x, y :: Q, R, HQ.out, by have := H2.out; simp; omega, by simpa using H3.out, fun z hz => by
                rcases List.mem_cons.1 hz with rfl | hz
                · omega
                · exact H4.out z hz, HP.out, own_keep HST.out.1 (fun _ _ => rfl)⟩, Lib.hid ((HG5.out.trans HST.out.2).trans (gr_drewN _ _ _))⟩
              case measure => first | (simp [intOf]; done) | (simp [intOf]; omega)
          · have hxd : decide (x < y) = false := by simp [hxy]
            have HE : Hid (∃ S R, S.length = t + 1 ∧ leV S ∧ (S ++ R).Perm L ∧ wr.ownsRow B TV 1 (.slice (some ⟨g, 0, none⟩) n cap) n (varV (S ++ R))) := Lib.hid
              ⟨P' ++ [y] ++ x :: Q, R, by have := HQ.out; have := H2.out; simp; omega, leV_in H3.out (fun z hz => by
                rcases List.mem_append.1 hz with hz | hz
                · have := leV_last H3.out z hz; omega
                · simp at hz; omega) H4.out, by simpa using H5.out, by simpa using H6.out⟩
            go_wp2_with fail
            go_quiet (first | (go_at_call 213; refine Calls.quiet_of_same (lessV x y _)))
            go_wp2_with fail
            go_roundw
            case rel => exact ⟨t + 1, by omega, by omega, by go_num, Lib.hid (by obtain ⟨S, R, h1, h2, h3, h4⟩ := HE.out; exact ⟨S, R, h1, h2, h3, own_keep h4 (fun _ _ => rfl)⟩), Lib.hid (hgr.out.trans (gr_drewN _ _ _))⟩
            case measure => simp [intOf]; omega
    · have hjn : t = n := by omega
      have HJ := Lib.hid hjn
      clear hjn
      go_wp2_with fail
      go_end0
      obtain ⟨S, R, h1, h2, h3, h4⟩ := hS.out
      have hR : R = [] := by
        have := h3.length_eq
        rw [List.length_append, h1, HN.out, HJ.out] at this
        exact List.eq_nil_of_length_eq_zero (by omega)
      subst hR
      rw [List.append_nil] at h3 h4
      exact ⟨rfl, S, h3, h2, h4, hgr.out⟩
end

section
open Go.RowKit Go.Shelf

set_option maxRecDepth 100000 in
set_option maxHeartbeats 2000000 in
theorem len64V (x : Int) (w : World) (h0 : 0 ≤ x) (h1 : x ≤ 12) : Calls Try.prog 217 #[.int .u64 x] w fun e w' => (∃ z : Int, e = .returned (.int .i64 z)) ∧ w' = w := by
  obtain ⟨k, rfl⟩ : ∃ k : Nat, x = (k : Int) := ⟨x.toNat, by omega⟩
  have a1 : ¬ ((4294967296 : Int) ≤ (k : Int)) := by omega
  have a2 : ¬ ((65536 : Int) ≤ (k : Int)) := by omega
  have a3 : ¬ ((256 : Int) ≤ (k : Int)) := by omega
  go_enter Try.func217, Try.ntmps217
  go_wp2_with fail
  go_ret
  exact ⟨⟨_, rfl⟩, rfl⟩

theorem lenV (x : Int) (w : World) (h0 : 0 ≤ x) (h1 : x ≤ 12) : Calls Try.prog 184 #[.int .u64 x] w fun e w' => (∃ z : Int, e = .returned (.int .i64 z)) ∧ w' = w := by
  have H := Lib.hid (fun w => len64V x w h0 h1)
  go_enter Try.func184, Try.ntmps184
  go_wp2_with fail
  refine (H.out _).mono ?_
  rintro e w1 ⟨⟨z, rfl⟩, rfl⟩
  go_wp2_with fail
  go_ret
  exact ⟨⟨_, rfl⟩, rfl⟩

set_option maxRecDepth 100000 in
set_option maxHeartbeats 2000000 in
theorem ins0V (A : Option Addr) (cap : Nat) (w : World) :
    Calls Try.prog 207 #[.slice A 0 cap, .int .i64 0, .int .i64 0] w fun e w' => e = .returned (.tuple #[]) ∧ w' = w := by
  go_enter Try.func207, Try.ntmps207
  go_wp2_with fail
  go_loopw [6] (fun i wr => i = .int .i64 1 ∧ wr = w) (fun _ _ => 0)
  case atStart => exact ⟨rfl, rfl⟩
  case round =>
    obtain ⟨rfl, rfl⟩ := hrel
    go_wp2_with fail
    go_end0
    exact ⟨rfl, rfl⟩

/-- How a sort ends. -/
def SrtP (B n cap : Nat) (A : Option Addr) (L : List Int) (w : World) (e : Ending) (w' : World) : Prop := e = .returned (.tuple #[]) ∧ ∃ M : List Int, M.Perm L ∧ leV M ∧ w'.ownsRow B TV 1 (.slice A n cap) n (varV M) ∧ w.grownBy w' (Value.ownBlock (.slice A n cap))

theorem ins_allV (B n cap : Nat) (A : Option Addr) (L : List Int) (w : World) (ho : w.ownsRow B TV 1 (.slice A n cap) n (varV L)) (hn : L.length = n) (hn2 : n ≤ 12) :
    Calls Try.prog 207 #[.slice A n cap, .int .i64 0, .int .i64 (n : Int)] w (SrtP B n cap A L w) := by
  rcases Nat.eq_zero_or_pos n with h0 | h0
  · subst h0
    obtain rfl := List.eq_nil_of_length_eq_zero hn
    refine (ins0V A cap w).mono ?_
    rintro e w' ⟨rfl, rfl⟩
    exact ⟨rfl, [], List.Perm.refl _, by simp [leV], ho, gr_refl _ _⟩
  · have ho2 := ho
    rcases ho2.2 with ⟨hv, hz⟩ | ⟨g, cap', cur, hv, _⟩
    · cases hv; omega
    · cases hv
      refine (insV B g n cap L w ho hn h0 (by omega)).mono ?_
      rintro e w' ⟨rfl, M, h1, h2, h3, h4⟩
      exact ⟨rfl, M, h1, h2, h3, h4⟩

set_option maxRecDepth 100000 in
set_option maxHeartbeats 4000000 in
theorem pdqV (B n cap : Nat) (A : Option Addr) (L : List Int) (z : Int) (w : World) (ho : w.ownsRow B TV 1 (.slice A n cap) n (varV L)) (hn : L.length = n) (hn2 : n ≤ 12) :
    Calls Try.prog 183 #[.slice A n cap, .int .i64 0, .int .i64 (n : Int), .int .i64 z] w (SrtP B n cap A L w) := by
  have HI := Lib.hid (ins_allV B n cap A L w ho hn hn2)
  have h12 : (n : Int) ≤ 12 := by omega
  clear ho hn
  go_enter Try.func183, Try.ntmps183
  go_wp2_with fail
  go_loopw [1, 2] (fun a b wr => a = .int .i64 0 ∧ b = .int .i64 (n : Int) ∧ wr = w) (fun _ _ _ => 0)
  case atStart => exact ⟨rfl, rfl, rfl⟩
  case round =>
    obtain ⟨rfl, rfl, rfl⟩ := hrel
    go_wp2_with fail
    refine HI.out.mono ?_
    rintro e w1 ⟨rfl, hp⟩
    have HP := Lib.hid hp
    clear hp
    go_wp2_with fail
    go_end0
    exact ⟨rfl, HP.out⟩

theorem sortV (B n cap : Nat) (A : Option Addr) (L : List Int) (w : World) (ho : w.ownsRow B TV 1 (.slice A n cap) n (varV L)) (hn : L.length = n) (hn2 : n ≤ 12) :
    Calls Try.prog 139 #[.slice A n cap] w (SrtP B n cap A L w) := by
  have HI := Lib.hid (fun z => pdqV B n cap A L z w ho hn hn2)
  have HLN := Lib.hid (fun w => lenV (n : Int) w (by omega) (by omega))
  have hw : IntKind.u64.wrap (n : Int) = (n : Int) := IntWalk.u64_in _ (by omega)
  clear ho hn
  go_enter Try.func139, Try.ntmps139
  go_wp2_with fail
  refine (HLN.out _).mono ?_
  rintro e w1 ⟨⟨z, rfl⟩, rfl⟩
  go_wp2_with fail
  refine (HI.out z).mono ?_
  rintro e w1 ⟨rfl, hp⟩
  have HP := Lib.hid hp
  clear hp
  go_wp2_with fail
  go_end0
  exact ⟨rfl, HP.out⟩

theorem setof_len {f : Int → Bool} {ss : List Int} (h : SetOf f ss) (hf : ∀ x, f x = true → x ∈ ([97, 98, 118, 119, 120, 121, 122] : List Int)) : ss.length ≤ 7 := nodup_le _ _ h.1 (fun x hx => hf x ((h.2 x).1 hx).2.2)

/-- slices.Sorted of a set's keys: a new row, the variables in ascending order. -/
theorem sortedV (bm b m : Nat) (f : Int → Bool) (w : World) (hs : VSet w b m f) (hf : ∀ x, f x = true → x ∈ ([97, 98, 118, 119, 120, 121, 122] : List Int)) (hbm : w.heap[bm]? = some (.cells #[.map (some b)] 84 (0, 0))) :
    Calls Try.prog 74 #[.func (.func 140) #[] #[.pointer (some ⟨bm, 0, none⟩)]] w fun e w' =>
      ∃ A n cap ss, e = .returned (.slice A n cap) ∧ SetOf f ss ∧ leV ss ∧ ss.length = n ∧ w.grownBy w' none ∧ w'.ownsRow w.heap.size TV 1 (.slice A n cap) n (varV ss) := by
  have HC := Lib.hid (collectV bm b m f w hs hf hbm)
  have HF := Lib.hid hf
  clear hs hf hbm
  go_enter Try.func74, Try.ntmps74
  go_wp2_with fail
  refine HC.out.mono ?_
  rintro e w1 ⟨sv, ss, rfl, h1, h2, h3⟩
  obtain ⟨A, n, cap, rfl⟩ := own_form h3
  obtain rfl : n = ss.length := by
    rcases h3.2 with ⟨hv, hz⟩ | ⟨g, cap', cur, hv, _⟩
    · cases hv; exact hz.symm
    · cases hv; rfl
  have HS := Lib.hid (sortV w.heap.size ss.length cap A ss w1 h3 rfl (by have := setof_len h1 HF.out; omega))
  have HP := Lib.hid (And.intro h1 (And.intro h2 h3))
  obtain ⟨n, hn⟩ : ∃ n, ss.length = n := ⟨_, rfl⟩
  rw [hn] at HS HP ⊢
  have HN := Lib.hid hn
  clear h1 h2 h3 hn
  go_wp2_with fail
  refine HS.out.mono ?_
  rintro e w2 ⟨rfl, M, p1, p2, p3, p4⟩
  have HQ := Lib.hid (And.intro p1 (And.intro p2 (And.intro p3 p4)))
  clear p1 p2 p3 p4
  go_wp2_with fail
  go_ret
  obtain ⟨p1, p2, p3, p4⟩ := HQ.out
  obtain ⟨h1, h2, h3⟩ := HP.out
  refine ⟨A, n, cap, M, rfl, ⟨p1.symm.nodup h1.1, fun x => ?_⟩, p2, by rw [p1.length_eq, HN.out], gr_rowV h2 p4 (fun k e => (h3.lt k e).1), p3⟩
  rw [← h1.2 x]
  exact p1.mem_iff
end

end Go.Proofs.Ytmofoeljajdhmaa

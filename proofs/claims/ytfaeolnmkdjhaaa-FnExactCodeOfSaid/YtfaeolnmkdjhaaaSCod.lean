/- What l7List of the model gives at whatever term, l7Text, and CodeOf of the model. -/
import Derived.Test.YtfaeolnmkdjhaaaSLstL
import Derived.Test.YtfaeolnmkdjhaaaSTerm
namespace Go.Proofs.Ytfaeolnmkdjhaaa
open Go.RowKit

theorem ins_pos (t : Tm) : 0 < t.ins.length := by
  obtain ⟨xs, x, h, _⟩ := ins_last t
  rw [h]; simp

theorem slst_any : ∀ (n : Nat) (t : Tm) (S : Nat → Prop) (a b : Int) (A : Option Addr) (k c : Nat) (w : World), t.size ≤ n → n ≤ 1000 → t.Ok → SN w S t (a, b, .slice A k c) →
    Calls Try.prog 8 #[.agg #[.int .u8 a, .int .u8 b, .slice A k c]] w (LstP t w)
  | 0, t, _, _, _, _, _, _, _, hn, _, _, _ => by have := t.size_pos; omega
  | n + 1, .dig d, S, a, b, A, k, c, w, hn, hb, ho, h => by
    obtain ⟨h1, h2, hr, _⟩ := h
    simp only at h1 h2 hr
    subst h2
    obtain rfl := own_len hr
    exact slst_leaf _ a b A c w rfl
  | n + 1, .var d, S, a, b, A, k, c, w, hn, hb, ho, h => by
    obtain ⟨h1, h2, hr, _⟩ := h
    simp only at h1 h2 hr
    subst h2
    obtain rfl := own_len hr
    exact slst_leaf _ a b A c w rfl
  | n + 1, .pre d s, S, a, b, A, k, c, w, hn, hb, ho, h => by
    obtain ⟨h1, h2, ⟨y1, y2, y3⟩, hr, _, hs⟩ := h
    simp only at h1 h2 hr
    subst h1 h2
    obtain rfl := own_len hr
    obtain ⟨A2, k2, c2, h3⟩ := hs.form
    simp only at h3
    subst h3
    have hl := (ins_len s).1
    simp only [Tm.size] at hn
    exact slst_pre _ s a 0 y1 y2 A A2 c k2 c2 w rfl (by omega) hr (fun u hu => slst_any n s S y1 y2 A2 k2 c2 u (by omega) (by omega) ho.2 (hs.grown hu))
  | n + 1, .two d s t, S, a, b, A, k, c, w, hn, hb, ho, h => by
    obtain ⟨h1, h2, ⟨y1, y2, y3⟩, ⟨z1, z2, z3⟩, hr, _, hs, ht⟩ := h
    simp only at h1 h2 hr
    subst h1 h2
    obtain rfl := own_len hr
    obtain ⟨A2, k2, c2, h3⟩ := hs.form
    obtain ⟨A3, k3, c3, h4⟩ := ht.form
    simp only at h3 h4
    subst h3 h4
    have hl := (ins_len s).1
    have hl2 := (ins_len t).1
    simp only [Tm.size] at hn
    exact slst_two _ s t a y1 y2 z1 z2 A A2 A3 c k2 c2 k3 c3 w rfl (by omega) (by omega) (ins_pos t) hr (fun u hu => slst_any n s S y1 y2 A2 k2 c2 u (by omega) (by omega) ho.2.1 (hs.grown hu)) (fun u hu => slst_any n t S z1 z2 A3 k3 c3 u (by omega) (by omega) ho.2.2 (ht.grown hu))
  | n + 1, .loop d v s t, S, a, b, A, k, c, w, hn, hb, ho, h => by
    obtain ⟨h1, h2, ⟨y1, y2, y3⟩, ⟨z1, z2, z3⟩, hr, _, hs, ht⟩ := h
    simp only at h1 h2 hr
    subst h1 h2
    obtain rfl := own_len hr
    obtain ⟨A2, k2, c2, h3⟩ := hs.form
    obtain ⟨A3, k3, c3, h4⟩ := ht.form
    simp only at h3 h4
    subst h3 h4
    have hl := (ins_len s).1
    have hl2 := (ins_len t).1
    simp only [Tm.size] at hn
    have hv : b ≠ 0 := by
      have := isL_ge ho.2.1
      omega
    exact slst_loop _ s t a b y1 y2 z1 z2 A A2 A3 c k2 c2 k3 c3 w ho.1 hv rfl (by omega) (by omega) (ins_pos t) hr (fun u hu => slst_any n s S y1 y2 A2 k2 c2 u (by omega) (by omega) ho.2.2.1 (hs.grown hu)) (fun u hu => slst_any n t S z1 z2 A3 k3 c3 u (by omega) (by omega) ho.2.2.2 (ht.grown hu))

/-- The text that is put together from some instructions: a space ahead of all but the first one. -/
def txtN : Nat → List (List UInt8) → List UInt8
  | _, [] => []
  | j, x :: xs => (if 0 < j then 32 :: x else x) ++ txtN (j + 1) xs
def joinT (xs : List (List UInt8)) : List UInt8 := txtN 0 xs
theorem txtN_snoc (xs : List (List UInt8)) (x : List UInt8) : ∀ j, txtN j (xs ++ [x]) = txtN j xs ++ (if 0 < j + xs.length then 32 :: x else x) := by
  induction xs with
  | nil => intro j; simp [txtN]
  | cons a xs ih =>
    intro j
    have e : 0 < j + (xs.length + 1) := by omega
    have e2 : 0 < j + 1 + xs.length := by omega
    simp only [List.cons_append, txtN, ih, List.length_cons, if_pos e, if_pos e2, List.append_assoc]
theorem puts_joinT : ∀ (xs : List (List UInt8)), (∀ x ∈ xs, x ≠ []) → ∀ (l : List UInt8) (j : Nat), (l = [] ↔ j = 0) → puts l xs = l ++ txtN j xs
  | [], _, l, j, _ => by simp [puts, txtN]
  | x :: xs, hx, l, j, hl => by
    have hx1 := hx x (by simp)
    have e : puts l (x :: xs) = puts (put l x) xs := rfl
    have hp : put l x ≠ [] := by
      unfold put
      intro e
      exact hx1 (List.append_eq_nil_iff.1 e).2
    rw [e, puts_joinT xs (fun y hy => hx y (List.mem_cons_of_mem _ hy)) (put l x) (j + 1) ⟨fun h => absurd h hp, fun h => by omega⟩]
    simp only [txtN]
    by_cases h0 : j = 0
    · have := hl.2 h0
      subst this h0
      simp [put]
    · have hne : l ≠ [] := fun e => h0 (hl.1 e)
      rw [if_pos (by omega), put_some hne]
      simp
theorem ins_ne (t : Tm) : ∀ x ∈ t.ins, x ≠ [] := by
  induction t with
  | dig c => intro x hx; simp [Tm.ins] at hx; subst hx; simp
  | var c => intro x hx; simp [Tm.ins] at hx; subst hx; simp
  | pre c s ih =>
    intro x hx
    simp only [Tm.ins, List.mem_append, List.mem_singleton] at hx
    rcases hx with hx | rfl
    · exact ih x hx
    · simp
  | two c s t ih1 ih2 =>
    intro x hx
    simp only [Tm.ins, List.mem_append, List.mem_singleton] at hx
    rcases hx with hx | hx | rfl
    · exact ih1 x hx
    · exact ih2 x hx
    · simp
  | loop c v s t ih1 ih2 =>
    intro x hx
    simp only [Tm.ins, List.mem_append, List.mem_singleton] at hx
    rcases hx with hx | rfl | hx | rfl
    · exact ih1 x hx
    · simp
    · exact ih2 x hx
    · simp
theorem codeL_join (t : Tm) : joinT t.ins = codeL t := by
  have := puts_joinT t.ins (ins_ne t) [] 0 (by simp)
  simpa [codeL, joinT] using this.symm

theorem bstr_app (l m : List UInt8) : (⟨l.toArray⟩ : ByteArray) ++ ⟨m.toArray⟩ = ⟨(l ++ m).toArray⟩ := by
  apply ByteArray.ext
  rw [ByteArray.data_append]
  simp
theorem txtN_len (xs : List (List UInt8)) (h : ∀ x ∈ xs, x.length ≤ 2) : ∀ j, (txtN j xs).length ≤ 3 * xs.length := by
  induction xs with
  | nil => intro j; simp [txtN]
  | cons a xs ih =>
    intro j
    have h1 := ih (fun x hx => h x (List.mem_cons_of_mem _ hx)) (j + 1)
    have h2 := h a (by simp)
    simp only [txtN, List.length_append, List.length_cons]
    split <;> simp <;> omega

set_option maxRecDepth 100000 in
set_option maxHeartbeats 2000000 in
theorem stext_any (xs : List (List UInt8)) (base : Nat) (A : Option Addr) (c : Nat) (w : World) (ho : w.ownsRow base 9 1 (.slice A xs.length c) xs.length (insV xs)) (hl : xs.length ≤ 2000) (h2 : ∀ x ∈ xs, x.length ≤ 2) :
    Calls Try.prog 7 #[.slice A xs.length c] w fun e w' => e = .returned (.string ⟨(joinT xs).toArray⟩) ∧ w.grownBy w' none := by
  obtain ⟨_, hkc, hrow⟩ := orow ho
  obtain ⟨n, hn⟩ : ∃ n, xs.length = n := ⟨_, rfl⟩
  have HN := Lib.hid hn
  have H2 := Lib.hid h2
  rw [hn] at hl hkc hrow ⊢
  have HROW := Lib.hid hrow
  clear ho hn h2 hrow
  go_enter Try.func7, Try.ntmps7
  go_wp2_with fail
  go_loopw [3, 8] (fun u i wr => ∃ (j : Nat) (z : ByteArray), j ≤ n ∧ i = .int .i64 j ∧ u = .string z ∧ z.size ≤ 3 * j ∧ Hid (z = ⟨(joinT (xs.take j)).toArray⟩) ∧ Hid (w.grownBy wr none)) (fun _ i _ => n - (intOf i).toNat)
  case atStart => exact ⟨0, ⟨#[]⟩, Nat.zero_le _, rfl, rfl, by simp [ByteArray.size], Lib.hid (by simp [joinT, txtN]), Lib.hid (gr_refl _ _)⟩
  case round =>
    obtain ⟨j, z, hj, rfl, rfl, hzs, hz, hgr⟩ := hrel
    by_cases hlt : j < n
    · obtain ⟨g, rfl, _, hg1, hcell⟩ := HROW.out (by omega)
      obtain ⟨x, hx⟩ : ∃ x, xs[j]? = some x := ⟨_, List.getElem?_eq_getElem (by have := HN.out; omega)⟩
      have hc := hgr.out.cell (hcell j (.string ⟨x.toArray⟩) (by simp [insV, hx])) (by simp)
      have hx2 := H2.out x (List.mem_of_getElem? hx)
      have htk : xs.take (j + 1) = xs.take j ++ [x] := by rw [List.take_add_one, hx]; rfl
      obtain ⟨b, hb⟩ : ∃ b : ByteArray, ⟨x.toArray⟩ = b := ⟨_, rfl⟩
      have hbs : b.size ≤ 2 := by rw [← hb]; simpa [ByteArray.size] using hx2
      rw [hb] at hc
      have hlj : (xs.take j).length = j := by rw [List.length_take]; have := HN.out; omega
      by_cases h0 : 0 < j
      · obtain ⟨z1, hz1⟩ : ∃ z1 : ByteArray, z ++ { data := #[32] } = z1 := ⟨_, rfl⟩
        obtain ⟨z2, hz2⟩ : ∃ z2 : ByteArray, z1 ++ b = z2 := ⟨_, rfl⟩
        have hs1 : ({ data := #[32] } : ByteArray).size = 1 := rfl
        have hz1s : z1.size ≤ 3 * j + 1 := by rw [← hz1, ByteArray.size_append]; omega
        have hz2s : z2.size ≤ 3 * (j + 1) := by rw [← hz2, ByteArray.size_append]; omega
        have hd1 := fun u => str_add { data := #[32] } z z1 hz1 (by omega) u
        have hd2 := fun u => str_add b z1 z2 hz2 (by omega) u
        have HZ2 : Hid (z2 = ⟨(joinT (xs.take (j + 1))).toArray⟩) := Lib.hid (by
          rw [htk]
          unfold joinT
          rw [txtN_snoc, if_pos (by rw [hlj]; omega), ← hz2, ← hz1, hz.out, ← hb]
          rw [show ({ data := #[32] } : ByteArray) = ⟨([32] : List UInt8).toArray⟩ from rfl, bstr_app, bstr_app]
          unfold joinT
          simp)
        clear hz1 hz2 hs1 hz htk hb hlj hcell hx
        go_wp2_with fail
        go_roundw
        case rel => exact ⟨j + 1, z2, by omega, by go_num, rfl, hz2s, HZ2, hgr⟩
        case measure => simp [intOf]; omega
      · obtain rfl : j = 0 := by omega
        obtain ⟨z2, hz2⟩ : ∃ z2 : ByteArray, z ++ b = z2 := ⟨_, rfl⟩
        have hz2s : z2.size ≤ 3 * (0 + 1) := by rw [← hz2, ByteArray.size_append]; omega
        have hd2 := fun u => str_add b z z2 hz2 (by omega) u
        have HZ2 : Hid (z2 = ⟨(joinT (xs.take (0 + 1))).toArray⟩) := Lib.hid (by
          rw [htk]
          unfold joinT
          rw [txtN_snoc, if_neg (by rw [hlj]; omega), ← hz2, hz.out, ← hb, bstr_app]
          unfold joinT
          rfl)
        clear hz2 hz htk hb hlj hcell hx
        go_wp2_with fail
        go_roundw
        case rel => exact ⟨0 + 1, z2, by omega, by go_num, rfl, hz2s, HZ2, hgr⟩
        case measure => simp [intOf]; omega
    · have hjn : j = n := by omega
      have HJ := Lib.hid hjn
      clear hjn
      go_wp2_with fail
      go_ret
      refine ⟨?_, hgr.out⟩
      rw [hz.out, HJ.out, ← HN.out, List.take_length]
      rfl

set_option maxRecDepth 100000 in
set_option maxHeartbeats 2000000 in
theorem cod_spec (s : ByteArray) (hs : s.size ≤ 1048576) (w : World) : Calls Try.prog 4 #[.string s] w (CodP s w) := by
  have H := Lib.hid (sterm_any s hs w)
  unfold CodP codeV
  cases hr : readT s with
  | none =>
    have HR := Lib.hid hr
    simp only
    clear hr
    go_enter Try.func4, Try.ntmps4
    go_wp2_with fail
    refine H.out.mono ?_
    intro e w1 hp
    unfold STermPost at hp
    rw [HR.out] at hp
    obtain ⟨rfl, hg⟩ := hp
    have HG := Lib.hid (hg.trans (World.grownBy_alloc w1 (.cells #[.int .u8 0, .int .u8 0, .slice none 0 0] 27) none))
    clear hg
    go_wp2_with fail
    go_ret2
    exact ⟨rfl, HG.out⟩
  | some t =>
    have HR := Lib.hid hr
    have hok := readT_some hr
    have HOK := Lib.hid (And.intro hok.2.2.1 hok.2.2.2)
    simp only
    obtain ⟨z, hz⟩ : ∃ z : ByteArray, ⟨(codeL t).toArray⟩ = z := ⟨_, rfl⟩
    have HZ : Hid (⟨(joinT t.ins).toArray⟩ = z) := Lib.hid (by rw [codeL_join]; exact hz)
    rw [hz]
    clear hr hok hz
    go_enter Try.func4, Try.ntmps4
    go_wp2_with fail
    refine H.out.mono ?_
    intro e w1 hp
    unfold STermPost at hp
    rw [HR.out] at hp
    obtain ⟨a, b, A, k, c, rfl, hg, ha⟩ := hp
    obtain ⟨w2, hw2⟩ : ∃ z, w1.alloc (.cells #[.int .u8 a, .int .u8 b, .slice A k c] 27) = z := ⟨_, rfl⟩
    have g2 : w1.grownBy w2 none := by rw [← hw2]; exact World.grownBy_alloc _ _ _
    have hx : C3 w2 w1.heap.size (.int .u8 a) (.int .u8 b) (.slice A k c) 27 := by rw [← hw2]; exact c3_new _ _ _ _ _
    have x0 := hx.c0
    have x1 := hx.c1
    have x2 := hx.c2
    have HL := Lib.hid (slst_any t.size t _ a b A k c w2 (Nat.le_refl _) (by have := HOK.out.2; omega) HOK.out.1 (ha.grown g2))
    have HG := Lib.hid (hg.trans g2)
    clear hg ha g2 hx
    go_wp2_with fail
    refine HL.out.mono ?_
    rintro e w3 ⟨v, rfl, hg3, ho3⟩
    obtain ⟨A3, k3, c3, rfl⟩ := own_form ho3
    obtain rfl := own_len ho3
    have HT := Lib.hid (stext_any t.ins _ A3 c3 w3 ho3 (by have := (ins_len t).1; have := HOK.out.2; omega) (ins_len t).2)
    rw [HZ.out] at HT
    have HG3 := Lib.hid (HG.out.trans hg3)
    obtain ⟨n, hn⟩ : ∃ n, t.ins.length = n := ⟨_, rfl⟩
    rw [hn] at HT ⊢
    clear hg3 ho3 x0 x1 x2 hn
    go_wp2_with fail
    refine HT.out.mono ?_
    rintro e w4 ⟨rfl, hg4⟩
    have HG4 := Lib.hid (HG3.out.trans hg4)
    clear hg4
    go_wp2_with fail
    go_ret2
    exact ⟨rfl, HG4.out⟩

end Go.Proofs.Ytfaeolnmkdjhaaa

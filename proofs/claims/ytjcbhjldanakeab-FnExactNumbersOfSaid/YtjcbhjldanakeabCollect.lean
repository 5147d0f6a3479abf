/- What slices.AppendSeq and slices.Collect do with an iterator of ints; numbersIn of the program whole; what the program's NumbersOf does. -/
import Derived.Maps.AppendAt
import Derived.Test.YtjcbhjldanakeabIterN
import Derived.Test.YtjcbhjldanakeabValid
namespace Go.Proofs.Ytjcbhjldanakeab
open Go.RowKit Go.Shelf
attribute [local go_sem] Oper.semAt_some

/-- Rows of ints, and boxes of slices of ints. -/
def intsX (t : TypeId) : Prop := t = 3 ∨ t = 30
theorem intsX_spares : Spares intsX := ⟨fun d => by cases d <;> simp [intsX, strT], fun d => by cases d <;> simp [intsX, elT], by simp [intsX]⟩
theorem SeqOwn.later {X : TypeId → Prop} {P : Program} {g : Nat} {lb : Array Value} {zs : List Int} {w w' : World} (h : SeqOwn X P g lb zs w) (hk : KeepsX X w w') : SeqOwn X P g lb zs w' :=
  fun n l J Jx W hW => h n l J Jx W (hk.trans hW)

theorem iter_all (X : TypeId → Prop) (hX : Spares X) (S : Nat → Prop) : ∀ (d : Nat) (t : T d) (b : Nat) (v : Value) (w : World), RepI w S d t v → (text d t).length ≤ 1000000 →
    w.heap[b]? = some (.cells #[v] 67 (0, 0)) → SeqOwn X Try.prog 99 #[.pointer (some ⟨b, 0, none⟩)] (nums d t) w
  | 0, t, b, v, w, hr, _, hb => by
    obtain rfl : v = .iface 133 (.int .i64 ((show Nat from t : Nat) : Int)) := hr
    exact iter0 X hX b (show Nat from t) w hb
  | 1, t, b, v, w, hr, hl, hb => by
    refine iter1 X hX S b t v w hr ?_ hb
    have e : text 1 t = 91 :: (lst 0 t ++ [93]) := text_succ 0 t
    have h3 := lst_ge 0 t
    rw [e] at hl
    simp only [List.length_cons, List.length_append] at hl
    exact Nat.le_trans h3 (by omega)
  | d + 2, t, b, v, w, hr, hl, hb => by
    have e : text (d + 2) t = 91 :: (lst (d + 1) t ++ [93]) := text_succ (d + 1) t
    have h3 := lst_ge (d + 1) t
    rw [e] at hl
    simp only [List.length_cons, List.length_append] at hl
    exact iterS X hX S b d t v w hr (Nat.le_trans h3 (by omega)) hb (fun t' b v w hm hn hb => iter_all X hX S (d + 1) t' b v w hn (Nat.le_trans (text_mem hm) (by omega)) hb)

theorem own_len {w : World} {base e m n : Nat} {A : Option Addr} {c : Nat} {xs : List Value} (h : w.ownsRow base e 1 (.slice A m c) n xs) : m = n := by
  rcases h.2 with ⟨hv, hn⟩ | ⟨g, cap, cur, hv, _⟩
  · cases hv; omega
  · cases hv; rfl

theorem keeps_row {X : TypeId → Prop} {V V' : World} {base e size n : Nat} {v : Value} {xs : List Value} (h : V.ownsRow base e size v n xs) (he : X e) (hg : V.grownBy V' v.ownBlock) : KeepsX X V V' := by
  rcases h.2 with ⟨rfl, _⟩ | ⟨g, cap, cur, rfl, _, hgb, _⟩
  · exact KeepsX.grown hg
  · exact KeepsX.grownX hg hgb he
theorem row_from {V : World} {base e size n : Nat} {v : Value} {xs : List Value} (h : V.ownsRow base e size v n xs) : ∀ k, v.ownBlock = some k → base ≤ k := fun k hk => (h.lt k hk).1

/-- A slice of ints that is new. -/
def SeqPost (zs : List Int) (w : World) (e : Ending) (w' : World) : Prop :=
  ∃ A c, e = .returned (.slice A zs.length c) ∧ w.grownBy w' none ∧ w'.ownsRow w.heap.size 3 1 (.slice A zs.length c) zs.length (zs.map (Value.int .i64))

set_option maxRecDepth 100000 in
set_option maxHeartbeats 4000000 in
theorem append_any (gf : Nat) (fn : Func) (c : Code) (hfn : Try.prog.funcs[gf]? = some fn) (hname : (fn.name == "runtime.NumGoroutine") = false) (hbody : fn.body = some c) (lb : Array Value) (zs : List Int) (w : World) (hseq : SeqOwn intsX Try.prog gf lb zs w) (hlen : zs.length ≤ 1000000) :
    Calls Try.prog 98 #[.slice none 0 0, .func (.func gf) #[] lb] w (SeqPost zs w) := by
  obtain ⟨i0, hi, hz0, hz1, hz2⟩ := info_parts infoI
  refine (callsIn_wide (n := 3)).1 ?_
  refine callsIn_of_wp_marks Try.func98 rfl trivial ?_ rfl
  simp only [Try.ntmps98, List.size_toArray, List.length_cons, List.length_nil, Nat.reduceAdd, Nat.reduceSub, Array.replicate_succ, Array.replicate_zero, List.push_toArray, List.append_toArray, List.nil_append, List.cons_append]
  gi_wp2
  have bO := Boxed.new w 30 (.slice none 0 0)
  refine range_own (X := intsX) (zs := zs) (gf := gf) (lb := lb) rfl (enters_of hfn hname hbody) (hseq.later (KeepsX.alloc _ _))
    (fun pre V => (∃ v, Boxed V w.heap.size 30 v ∧ V.ownsRow w.heap.size 3 1 v pre.length (pre.map (Value.int .i64)) ∧ True) ∧ w.grownBy V none) (fun _ _ => False) ?hI ?hIx ?h0
    (fun x => { tmps := #[.slice none 0 0, .func (.func gf) #[] lb, .pointer (some ⟨w.heap.size, 0, none⟩), undef, .slice none 0 0, .int .i64 x, .func (.func gf) #[] lb, .int .i64 x, undef, undef, undef, undef, undef], defers := [] }) ?assign ?body ?done ?stop
  case hI => exact OwnFrom.and (Own.from (holdsRow_own w.heap.size w.heap.size 30 3 1 (fun pre : List Int => pre.length) (fun pre => pre.map (Value.int .i64)) (fun _ _ => True)) _) (fun s A C row hs hg hr => gr_row hs hg (fun k e => by have := (hr k e).1; simp at this; omega))
  case hIx => exact fun _ _ _ _ hs _ _ => hs
  case h0 => exact ⟨⟨_, bO, World.ownsRow_nil _ _ _ _, trivial⟩, World.grownBy_alloc _ _ _⟩
  case assign =>
    intro l m x W K hK
    gi_wp2
    exact hK
  case body =>
    rintro l m pre x V ⟨⟨v, hv, hrow, _⟩, hB⟩ hlt
    have hc := hv.cell
    gi_wp2_with (gi_at_builtin; refine wpListIn_append_own _ rfl _ _ 30 rfl w.heap.size 3 i0 (.int .i64 0) 1 8 Try.underlying30 hi hz0 hz1 hz2 rfl (by decide) _ _ _ rfl (hrow.alloc _) ⟨V.heap.size, 0, none⟩ 1 1 [.int .i64 x] rfl rfl (cell_one_new _ _ _) (by simp [Value.oneCell']) (by simp only [maxLen]; omega) (by omega) (by have := hB.size; simp; omega) ?_; intro v' w1 hown' hgrow _; obtain ⟨g', cap', rfl⟩ := ownsRow_succ hown'; obtain ⟨hv1, hv2, hr2, hk2, hb2⟩ := hv.appended (by decide) hrow hB.size (Nat.le_refl _) hown' hgrow; have hc1 := hv1.cell; have hf1 := hv1.frozen)
    have ka : KeepsX intsX (V.alloc (.cells #[.int .i64 x] 3)) w1 := keeps_row (hrow.alloc _) (.inl rfl) hgrow
    have kb : KeepsX intsX w1 (w1.setCell ⟨w.heap.size, 0, none⟩ (.slice (some ⟨g', 0, none⟩) (pre.length + 1) cap')) := KeepsX.grownX (grownBy_setCell' w1 w.heap.size _) hv1 (.inr rfl)
    refine ⟨((KeepsX.alloc V _).trans ka).trans kb, ⟨_, hv2, by simpa using hr2, trivial⟩, ?_⟩
    exact gr_row (gr_row (hB.trans (World.grownBy_alloc V _ none)) hgrow (row_from hrow)) (grownBy_setCell' w1 w.heap.size _) (fun k e => by cases e; exact Nat.le_refl _)
  case done =>
    rintro D V hD ⟨⟨v, hv, hrow, _⟩, hB⟩ hK
    have hc := hv.cell
    obtain ⟨A, m, c, rfl⟩ := own_form hrow
    obtain rfl := own_len hrow
    gi_wp2
    refine ⟨by simp, .inl ⟨_, _, rfl, run_takeDeferred hK, ?_⟩⟩
    refine ⟨_, results_tmp rfl _ _ _, A, c, rfl, gr_row hB (grownBy_putObj' V D _) (fun k e => by cases e; simp at hD; omega), ownsRow_putObj hrow _ hK rfl⟩
  case stop =>
    rintro D pre V _ _ h _
    exact h.elim

theorem collect_any (gf : Nat) (fn : Func) (c : Code) (hfn : Try.prog.funcs[gf]? = some fn) (hname : (fn.name == "runtime.NumGoroutine") = false) (hbody : fn.body = some c) (lb : Array Value) (zs : List Int) (w : World) (hseq : SeqOwn intsX Try.prog gf lb zs w) (hlen : zs.length ≤ 1000000) :
    Calls Try.prog 54 #[.func (.func gf) #[] lb] w (SeqPost zs w) := by
  have HC := Lib.hid (append_any gf fn c hfn hname hbody lb zs w hseq hlen)
  clear hseq hfn hname hbody
  go_enter Try.func54, Try.ntmps54
  go_wp2_with fail
  refine HC.out.mono ?_
  rintro e w' ⟨A, c', rfl, hg, ho⟩
  have HG := Lib.hid hg
  have HO := Lib.hid ho
  clear hg ho
  go_wp2_with fail
  go_ret
  exact ⟨A, c', rfl, HG.out, HO.out⟩

/-- How NumbersOf of the program ends, with and without an array. -/
def NIPost (s : ByteArray) (n : Int) (w : World) (e : Ending) (w' : World) : Prop :=
  (isArr s n = false ∧ e = .returned (.tuple #[.slice none 0 0, .bool false]) ∧ w.grownBy w' none) ∨
  (isArr s n = true ∧ ∃ t A c, readN s n.toNat = some t ∧ e = .returned (.tuple #[.slice A (nums n.toNat t).length c, .bool true]) ∧ w.grownBy w' none ∧
    w'.ownsRow w.heap.size 3 1 (.slice A (nums n.toNat t).length c) (nums n.toNat t).length ((nums n.toNat t).map (Value.int .i64)))

set_option maxHeartbeats 1000000 in
theorem numbersof_impl (s : ByteArray) (n : Int) (w : World) : Calls Try.prog 19 #[.string s, .int .i64 n] w (NIPost s n w) := by
  by_cases h : 0 ≤ n ∧ n ≤ 3 ∧ s.size ≤ 400
  · have HC := Lib.hid (nest_in n n.toNat s w (by omega) h.1 h.2.1 h.2.2)
    cases hr : readN s n.toNat with
    | none =>
      have hv : isArr s n = false := by unfold isArr; rw [hr]; simp
      have HR := Lib.hid hr
      have HV := Lib.hid hv
      clear h hv hr
      go_enter Try.func19, Try.ntmps19
      go_wp2_with fail
      refine HC.out.mono ?_
      intro e w1 hp
      unfold NestPost at hp
      rw [HR.out] at hp
      obtain ⟨rfl, hg⟩ := hp
      have HG := Lib.hid hg
      clear hg
      go_wp2_with fail
      go_ret2
      exact .inl ⟨HV.out, rfl, HG.out⟩
    | some t =>
      have hv : isArr s n = true := by unfold isArr; rw [hr]; simp; omega
      have hlen : (text n.toNat t).length ≤ 1000000 := by
        rw [← readN_bytes hr, Array.length_toList]
        have : s.data.size = s.size := rfl
        omega
      have HR := Lib.hid hr
      have HV := Lib.hid hv
      have HL := Lib.hid hlen
      clear h hv hr hlen
      go_enter Try.func19, Try.ntmps19
      go_wp2_with fail
      refine HC.out.mono ?_
      intro e w1 hp
      unfold NestPost at hp
      rw [HR.out] at hp
      obtain ⟨v, rfl, hg, ha⟩ := hp
      have ha2 := ha
      obtain ⟨ty, pv, rfl⟩ := ha2.iface
      have HG := Lib.hid (hg.trans (World.grownBy_alloc w1 (.cells #[.iface ty pv] 67) none))
      have HSEQ : Hid (SeqOwn intsX Try.prog 99 #[.pointer (some ⟨w1.heap.size, 0, none⟩)] (nums n.toNat t) (w1.alloc (.cells #[.iface ty pv] 67))) := Lib.hid (by
        refine iter_all intsX intsX_spares (fun _ => True) n.toNat t w1.heap.size (.iface ty pv) _ ?_ HL.out (World.alloc_heap_new w1 _)
        exact RepI.keep (fun b _ hb => Below.heap_alloc w1 _ b hb) (fun _ _ _ => trivial) n.toNat t _ ha)
      clear hg ha
      go_wp2_with fail
      refine (maker ty pv w1).mono ?_
      rintro e w2 ⟨rfl, rfl⟩
      go_wp2_with fail
      refine (collect_any 99 _ _ Try.func99 (by kernel_rfl) rfl _ _ _ HSEQ.out (Nat.le_trans (nums_text _ _) HL.out)).mono ?_
      rintro e w3 ⟨A, c, rfl, hg3, ho3⟩
      have HG3 := Lib.hid (HG.out.trans hg3)
      have HO3 := Lib.hid (own_base (base' := w.heap.size) ho3 HG.out.size)
      clear hg3 ho3
      go_wp2_with fail
      go_ret2
      exact .inr ⟨HV.out, t, A, c, HR.out, rfl, HG3.out, HO3.out⟩
  · have HC := Lib.hid (nest_out n s w (by omega))
    have hv : isArr s n = false := by unfold isArr; simp [h]
    have HV := Lib.hid hv
    clear h hv
    go_enter Try.func19, Try.ntmps19
    go_wp2_with fail
    refine HC.out.mono ?_
    rintro e w1 ⟨rfl, hg⟩
    have HG := Lib.hid hg
    clear hg
    go_wp2_with fail
    go_ret2
    exact .inl ⟨HV.out, rfl, HG.out⟩

end Go.Proofs.Ytjcbhjldanakeab

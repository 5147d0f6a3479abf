/- What TermOf and CodeValid of both sides answer. -/
import Derived.Test.YtfaeolnmkdjhaaaDoorWhole
import Derived.Test.YtfaeolnmkdjhaaaDoorSplitI
import Derived.Test.YtfaeolnmkdjhaaaDoorTText
import Derived.Test.YtfaeolnmkdjhaaaDoorPr
import Derived.Deep.AppendLies
import Derived.Test.YtfaeolnmkdjhaaaDoorSTerm
import Derived.Test.YtfaeolnmkdjhaaaDoorTmT
import Derived.Test.YtfaeolnmkdjhaaaDoorSFin
import Derived.Test.YtfaeolnmkdjhaaaDoorSTxtA
import Derived.Test.YtfaeolnmkdjhaaaDoorSSizeF
namespace Go.Proofs.YtfaeolnmkdjhaaaDoor
section
open Go.RowKit Go.Shelf
attribute [local go_sem] Oper.semAt_some

/-- An instruction's three numbers. -/
def ri3 (x : ByteArray) : Int × Int × Int := if x.size = 1 ∧ kd (ba x 0) ≠ 5 then (kd (ba x 0), ba x 0, 0)
  else if x.size = 2 ∧ kd (ba x 0) = 5 ∧ isL (ba x 1) = true then (5, ba x 0, ba x 1) else (0, 0, 0)
theorem riV_eq (x : ByteArray) : riV x = .agg #[.int .i64 (ri3 x).1, .int .u8 (ri3 x).2.1, .int .u8 (ri3 x).2.2] := by
  unfold riV ri3
  split
  · rfl
  · split <;> rfl
def cellsI (x : ByteArray) : List Value := [.int .i64 (ri3 x).1, .int .u8 (ri3 x).2.1, .int .u8 (ri3 x).2.2]
def flatI (l : List ByteArray) : List Value := l.flatMap cellsI
theorem flatI_snoc (l : List ByteArray) (x : ByteArray) : flatI (l ++ [x]) = flatI l ++ cellsI x := by simp [flatI]
theorem flatI_len (l : List ByteArray) : (flatI l).length = l.length * 3 := by
  induction l with
  | nil => rfl
  | cons x l ih => simp only [flatI, List.flatMap_cons, List.length_append] at ih ⊢; rw [ih]; simp [cellsI]; omega

theorem infoIns : (Tryd.prog.info? 53).map (fun i => (i.zero, i.size, i.bytes)) = some (some (.agg #[.int .i64 0, .int .u8 0, .int .u8 0]), 3, 16) := by kernel_rfl

/-- The types of the reader's blocks. -/
def RT (T : TypeId) : Prop := NT T ∨ XT T
theorem own_keepT {w w' : World} {base n size : Nat} {e : TypeId} {v : Value} {xs : List Value} (h : w.ownsRow base e size v n xs) (hk : ∀ (k : Nat) (cs : Array Value) (fr : Nat × Nat), w.heap[k]? = some (.cells cs e fr) → w'.heap[k]? = some (.cells cs e fr)) : w'.ownsRow base e size v n xs :=
  own_keep h (fun g hg => by obtain ⟨cs, hcs⟩ := own_heap h hg; rw [hcs]; exact hk g cs _ hcs)
theorem TS.keepT {w w' : World} {n0 : Nat} {L : List Nat} {ts : List Tm} {v : Value} {vs : List Value} (h : TS w n0 L ts v vs) (hk : ∀ (k : Nat) (cs : Array Value) (T : TypeId) (fr : Nat × Nat), RT T → w.heap[k]? = some (.cells cs T fr) → w'.heap[k]? = some (.cells cs T fr)) : TS w' n0 L ts v vs :=
  ⟨own_keepT h.1 (fun k cs fr => hk k cs _ fr (.inr (.inl rfl))), All2.mono (fun t v ht => PT.keepT (fun b xs T fr _ hT hh => hk b xs T fr (.inl hT) hh) (fun _ hb _ => hb) t v ht) _ _ h.2⟩
theorem OS.keepT {w w' : World} {n0 : Nat} {L : List Nat} (hk : ∀ (k : Nat) (cs : Array Value) (T : TypeId) (fr : Nat × Nat), RT T → w.heap[k]? = some (.cells cs T fr) → w'.heap[k]? = some (.cells cs T fr)) : ∀ {os : List Out} {ps : List Pnd}, OS w n0 L os ps → OS w' n0 L os ps
  | [], [], _ => trivial
  | _ :: _, _ :: _, ⟨h1, h2⟩ => ⟨⟨h1.base, hk _ _ _ _ (.inl (.inr (.inr rfl))) h1.heap, PT.keepT (fun b xs T fr _ hT hh => hk b xs T fr (.inl hT) hh) (fun _ hb _ => hb) _ _ h1.over, h1.row.keepT hk⟩, OS.keepT hk h2⟩
  | [], _ :: _, h => h.elim
  | _ :: _, [], h => h.elim
theorem RS.keepT {w w' : World} {n0 b : Nat} {m : MS} {v0 v1 : Value} {vs : List Value} {ps : List Pnd} (h : RS w n0 b m v0 v1 vs ps) (hk : ∀ (k : Nat) (cs : Array Value) (T : TypeId) (fr : Nat × Nat), RT T → w.heap[k]? = some (.cells cs T fr) → w'.heap[k]? = some (.cells cs T fr)) : RS w' n0 b m v0 v1 vs ps :=
  ⟨h.base, hk _ _ _ _ (.inr (.inr (.inr (.inl rfl)))) h.box, h.cur.keepT hk, own_keepT h.row (fun k cs fr => hk k cs _ fr (.inr (.inr (.inl rfl)))), OS.keepT hk h.outs, h.nodup, h.apart⟩

/-- The blocks that rounds may write. -/
def XC (g : Nat) (k : Nat) (T : TypeId) : Prop := g ≤ k ∧ (XT T ∨ T = 53 ∨ T = 45)

/-- Between two rounds. -/
structure RdI (w : World) (g : Nat) (pre : List ByteArray) (W : World) : Prop where
  gr : w.grownBy W none
  r0 : W.heap[g]? = some (.cells #[.slice none 0 0, .nilIface] 45 (0, 0))
  r1 : W.heap[g + 1]? = some (.cells #[.bool false] 4 (0, 0))
  pr : ∃ iv, W.heap[g + 2]? = some (.cells #[iv, .nilIface] 45 (0, 0)) ∧ W.ownsRow g 53 3 iv pre.length (flatI pre)
  rs : ∃ m v0 v1 vs ps, runB pre ([], []) = some m ∧ RS W g (g + 3) m v0 v1 vs ps
/-- A round has found that it is no code. -/
structure RdX (w : World) (g : Nat) (s : ByteArray) (W : World) : Prop where
  gr : w.grownBy W none
  r0 : W.heap[g]? = some (.cells #[.slice none 0 0, .nilIface] 45 (0, 0))
  r1 : W.heap[g + 1]? = some (.cells #[.bool false] 4 (0, 0))
  no : runB (cutB s) ([], []) = none

theorem RdI.keep {w W W' : World} {g : Nat} {pre : List ByteArray} (h : RdI w g pre W) (hg : w.grownBy W' none) (hk : ∀ (k : Nat) (cs : Array Value) (T : TypeId) (fr : Nat × Nat), (RT T ∨ T = 45 ∨ T = 4 ∨ T = 53) → W.heap[k]? = some (.cells cs T fr) → W'.heap[k]? = some (.cells cs T fr)) : RdI w g pre W' := by
  obtain ⟨iv, hp, ho⟩ := h.pr
  obtain ⟨m, v0, v1, vs, ps, hm, hr⟩ := h.rs
  exact ⟨hg, hk _ _ _ _ (.inr (.inl rfl)) h.r0, hk _ _ _ _ (.inr (.inr (.inl rfl))) h.r1, ⟨iv, hk _ _ _ _ (.inr (.inl rfl)) hp, own_keepT ho (fun k cs fr => hk k cs _ fr (.inr (.inr (.inr rfl))))⟩, m, v0, v1, vs, ps, hm, hr.keepT (fun k cs T fr hT => hk k cs T fr (.inl hT))⟩
theorem RdX.keep {w W W' : World} {g : Nat} {s : ByteArray} (h : RdX w g s W) (hg : w.grownBy W' none) (hk : ∀ (k : Nat) (cs : Array Value) (T : TypeId) (fr : Nat × Nat), (T = 45 ∨ T = 4) → W.heap[k]? = some (.cells cs T fr) → W'.heap[k]? = some (.cells cs T fr)) : RdX w g s W' :=
  ⟨hg, hk _ _ _ _ (.inl rfl) h.r0, hk _ _ _ _ (.inr rfl) h.r1, h.no⟩
theorem cells_kept {W W' : World} {row : Option Nat} (hg : W.grownBy W' row) (hr : ∀ r, row = some r → ∃ o : Obj, W.heap[r]? = some o ∧ o.isCells = false) (k : Nat) (cs : Array Value) (T : TypeId) (fr : Nat × Nat) (h : W.heap[k]? = some (.cells cs T fr)) : W'.heap[k]? = some (.cells cs T fr) :=
  (hg.block k (blk_lt h) (fun e => by
    obtain ⟨o, ho, hc⟩ := hr k e.symm
    rw [h] at ho; cases ho; cases hc)).trans h
theorem rdI_own (w : World) (g : Nat) (hg : w.heap.size = g) {B : Nat} (hB : g ≤ B) : OwnFrom B (RdI w g) := fun pre A C row hs hgr hr =>
  hs.keep (gr_ownF hs.gr hgr (fun k e => by have := (hr k e).1; omega)) (fun k cs T fr _ h => cells_kept hgr (fun r e => (hr r e).2) k cs T fr h)
theorem rdX_own (w : World) (g : Nat) (s : ByteArray) (hg : w.heap.size = g) {B : Nat} (hB : g ≤ B) : OwnFrom B (fun (_ : List ByteArray) W => RdX w g s W) := fun pre A C row hs hgr hr =>
  hs.keep (gr_ownF hs.gr hgr (fun k e => by have := (hr k e).1; omega)) (fun k cs T fr _ h => cells_kept hgr (fun r e => (hr r e).2) k cs T fr h)
theorem rdI_box (w : World) (g b0 : Nat) (hg : w.heap.size = g) (hb : g ≤ b0) : ∀ pre A u v, A.heap[b0]? = some (.cells #[u] 9 (0, 0)) → RdI w g pre A → RdI w g pre (A.setCell ⟨b0, 0, none⟩ v) := fun pre A u v hA h =>
  h.keep (gr_ownF h.gr (gr_set A b0 0 v) (fun k e => by cases e; omega)) (fun k cs T fr hT hk => (Below.heap_setCell _ _ _ _ (fun e => by
    have e' : k = b0 := by simpa using e
    rw [← e', hk] at hA
    cases hA
    rcases hT with (e | e) | e | e | e
    · rcases e with e | e | e <;> exact absurd e (by decide)
    · rcases e with e | e | e | e <;> exact absurd e (by decide)
    all_goals exact absurd e (by decide))).trans hk)

theorem chgX_keeps {g : Nat} {V V' : World} (h : Chg (WX g V) V V') : KeepsK (XC g) V V' :=
  ⟨h.size, fun k o hk ho => (h.same k (Array.getElem?_eq_some_iff.1 hk).1 (fun ⟨h1, cs, T, fr, h2, h3⟩ => by
    rw [hk] at h2
    exact ho cs T fr (Option.some.inj h2) ⟨h1, .inl h3⟩)).trans hk⟩
theorem gr_chgX {w V V' : World} {g : Nat} (h : w.grownBy V none) (hg : w.heap.size = g) (hc : Chg (WX g V) V V') : w.grownBy V' none :=
  ⟨hc.os.trans h.os, hc.tape.trans h.tape, hc.output.trans h.output, Nat.le_trans h.size hc.size, fun k hk _ => (hc.same k (Nat.lt_of_lt_of_le hk h.size) (fun hw => by have := hw.1; omega)).trans (h.block k hk (by simp))⟩
theorem chgX_cells {g : Nat} {V V' : World} (h : Chg (WX g V) V V') {k : Nat} {cs : Array Value} {T : TypeId} {fr : Nat × Nat} (hk : V.heap[k]? = some (.cells cs T fr)) (hT : ¬ XT T) : V'.heap[k]? = some (.cells cs T fr) :=
  (h.same k (blk_lt hk) (fun ⟨_, cs', T', fr', h2, h3⟩ => by rw [hk] at h2; cases h2; exact hT h3)).trans hk
theorem not_xt_prog : ¬ XT 45 := by rintro (h | h | h | h) <;> exact absurd h (by decide)
theorem not_xt_bool : ¬ XT 4 := by rintro (h | h | h | h) <;> exact absurd h (by decide)
theorem not_xt_ins : ¬ XT 53 := by rintro (h | h | h | h) <;> exact absurd h (by decide)

theorem KeepsK.ofChg {X : Nat → TypeId → Prop} {wr : Nat → Prop} {V V' : World} (h : Chg wr V V') (hw : ∀ k, wr k → ∃ cs T fr, V.heap[k]? = some (.cells cs T fr) ∧ X k T) : KeepsK X V V' :=
  ⟨h.size, fun k o hk ho => (h.same k (Array.getElem?_eq_some_iff.1 hk).1 (fun e => by
    obtain ⟨cs, T, fr, h2, h3⟩ := hw k e
    rw [hk] at h2
    exact ho cs T fr (Option.some.inj h2) h3)).trans hk⟩
theorem chg_cells {wr : Nat → Prop} {V V' : World} (h : Chg wr V V') {k : Nat} {cs : Array Value} {T : TypeId} {fr : Nat × Nat} (hk : V.heap[k]? = some (.cells cs T fr)) (hw : wr k → False) : V'.heap[k]? = some (.cells cs T fr) := (h.same k (blk_lt hk) hw).trans hk

/-- The two results' boxes, behind the mark's block. -/
theorem res_boxes {V : World} {g D : Nat} {a b r : Value} (h0 : V.heap[g]? = some (.cells #[a, b] 45 (0, 0))) (h1 : V.heap[g + 1]? = some (.cells #[r] 4 (0, 0))) (hD : g + 2 ≤ D) (o : Obj) :
    (V.putObj D o).cell? ⟨g, 0, none⟩ = some a ∧ (V.putObj D o).cell? ⟨g, 1, none⟩ = some b ∧ (V.putObj D o).cell? ⟨g + 1, 0, none⟩ = some r :=
  ⟨cell_of_row _ g 0 _ _ (0, 0) ((World.putObj_heap_other (by omega)).trans h0), cell_of_row _ g 1 _ _ (0, 0) ((World.putObj_heap_other (by omega)).trans h0), cell_of_row _ (g + 1) 0 _ _ (0, 0) ((World.putObj_heap_other (by omega)).trans h1)⟩

/-- What is put into the results' boxes. -/
def putR (V : World) (g : Nat) (a b r : Value) : World := ((V.setCell ⟨g, 0, none⟩ a).setCell ⟨g, 1, none⟩ b).setCell ⟨g + 1, 0, none⟩ r
theorem putR_same {V : World} {g k : Nat} {a b r : Value} (h0 : k ≠ g) (h1 : k ≠ g + 1) : (putR V g a b r).heap[k]? = V.heap[k]? :=
  (Below.heap_setCell _ _ _ _ h1).trans ((Below.heap_setCell _ _ _ _ h0).trans (Below.heap_setCell _ _ _ _ h0))
theorem putR_res {V : World} {g : Nat} {a0 b0 r0 a b r : Value} (hp : Pr V g 45 a0 b0) (hb : V.heap[g + 1]? = some (.cells #[r0] 4 (0, 0))) :
    (putR V g a b r).heap[g]? = some (.cells #[a, b] 45 (0, 0)) ∧ (putR V g a b r).heap[g + 1]? = some (.cells #[r] 4 (0, 0)) := by
  refine ⟨(Below.heap_setCell _ _ _ _ (by simp)).trans ((hp.set0 a).set1 b), ?_⟩
  have h1 : (((V.setCell ⟨g, 0, none⟩ a).setCell ⟨g, 1, none⟩ b)).heap[g + 1]? = some (.cells #[r0] 4 (0, 0)) := (Below.heap_setCell _ _ _ _ (by simp)).trans ((Below.heap_setCell _ _ _ _ (by simp)).trans hb)
  unfold putR
  simp [World.setCell, Array.getElem?_modify] at h1 ⊢
  simp [h1]
theorem putR_gr {w V : World} {g : Nat} {a b r : Value} (h : w.grownBy V none) (hg : w.heap.size = g) : w.grownBy (putR V g a b r) none :=
  gr_ownF (gr_ownF (gr_ownF h (gr_set V g 0 _) (fun k e => by cases e; omega)) (gr_set _ g 1 _) (fun k e => by cases e; omega)) (gr_set _ (g + 1) 0 _) (fun k e => by cases e; omega)
theorem putObj_cells {V : World} {D k : Nat} {o : Obj} {ds : Option (List Deferred)} {cs : Array Value} {T : TypeId} {fr : Nat × Nat} (hD : V.heap[D]? = some (.deferred ds)) (h : V.heap[k]? = some (.cells cs T fr)) : (V.putObj D o).heap[k]? = some (.cells cs T fr) :=
  (World.putObj_heap_other (fun e => by subst e; rw [hD] at h; cases h)).trans h

/-- How readCode ends. -/
def ReadP (s : ByteArray) (w : World) (e : Ending) (w' : World) : Prop := w.grownBy w' none ∧ match codeT s with
  | some t => ∃ iv xv, e = .returned (.tuple #[.agg #[iv, xv], .bool true]) ∧ w'.ownsRow w.heap.size 53 3 iv (cutB s).length (flatI (cutB s)) ∧ PT w' (fun _ => True) t xv
  | none => e = .returned (.tuple #[.agg #[.slice none 0 0, .nilIface], .bool false])

set_option maxRecDepth 100000 in
set_option maxHeartbeats 1000000 in
theorem readc_long (s : ByteArray) (w : World) (hs : 200 < s.size) :
    Calls Tryd.prog 29 #[.string s] w (ReadP s w) := by
  have hr : codeT s = none := by unfold codeT; rw [if_pos hs]
  have HR := Lib.hid hr
  have hd : (((s.size : Nat) : Int) > 200) := by omega
  obtain ⟨n, hn⟩ : ∃ n, s.size = n := ⟨_, rfl⟩
  rw [hn] at hs hd
  clear hr
  go_enter Tryd.func29, Tryd.ntmps29
  go_wp2_with fail
  refine bodyPost_ret (v := .tuple #[.agg #[.slice none 0 0, .nilIface], .bool false]) (by simp [results, Tryd.results29, go_sem]) rfl ?_
  refine ⟨(World.grownBy_alloc _ _ _).trans (World.grownBy_alloc _ _ _), ?_⟩
  rw [HR.out]

theorem readP_none {s : ByteArray} {w w' : World} {e : Ending} (hr : codeT s = none) (hg : w.grownBy w' none) (he : e = .returned (.tuple #[.agg #[.slice none 0 0, .nilIface], .bool false])) : ReadP s w e w' := by
  unfold ReadP; rw [hr]; exact ⟨hg, he⟩
theorem readP_some {s : ByteArray} {t : Tm} {w w' : World} {e : Ending} {iv xv : Value} (hr : codeT s = some t) (hg : w.grownBy w' none) (he : e = .returned (.tuple #[.agg #[iv, xv], .bool true]))
    (ho : w'.ownsRow w.heap.size 53 3 iv (cutB s).length (flatI (cutB s))) (hp : PT w' (fun _ => True) t xv) : ReadP s w e w' := by
  unfold ReadP; rw [hr]; exact ⟨hg, iv, xv, he, ho, hp⟩

set_option maxRecDepth 100000 in
set_option maxHeartbeats 4000000 in
theorem readc_in (s : ByteArray) (w : World) (hs : s.size ≤ 200) :
    Calls Tryd.prog 29 #[.string s] w (ReadP s w) := by
  obtain ⟨i0, hi0, hz0, hz1, hz2⟩ : ∃ i : TypeInfo, Tryd.prog.info? 53 = some i ∧ i.zero = some (.agg #[.int .i64 0, .int .u8 0, .int .u8 0]) ∧ i.size = 3 ∧ i.bytes = 16 := by
    obtain ⟨i, hi, hzz⟩ := Option.map_eq_some_iff.1 infoIns
    simp only [Prod.mk.injEq] at hzz
    exact ⟨i, hi, hzz.1, hzz.2.1, hzz.2.2⟩
  obtain ⟨g, hg⟩ : ∃ g, w.heap.size = g := ⟨_, rfl⟩
  have hd : ¬ (((s.size : Nat) : Int) > 200) := by omega
  obtain ⟨sz, hsz⟩ : ∃ n, s.size = n := ⟨_, rfl⟩
  have HSZ := Lib.hid hsz
  obtain ⟨w1, hw1⟩ : ∃ z, w.alloc (.cells #[.slice none 0 0, .nilIface] 45) = z := ⟨_, rfl⟩
  obtain ⟨w2, hw2⟩ : ∃ z, w1.alloc (.cells #[.bool false] 4) = z := ⟨_, rfl⟩
  obtain ⟨w3, hw3⟩ : ∃ z, w2.alloc (.cells #[.slice none 0 0, .nilIface] 45) = z := ⟨_, rfl⟩
  obtain ⟨w4, hw4⟩ : ∃ z, w3.alloc (.cells #[.slice none 0 0, .slice none 0 0] 68) = z := ⟨_, rfl⟩
  have z1 : w1.heap.size = g + 1 := by rw [← hw1, ← hg]; simp
  have z2 : w2.heap.size = g + 2 := by rw [← hw2]; simp [z1]
  have z3 : w3.heap.size = g + 3 := by rw [← hw3]; simp [z2]
  have z4 : w4.heap.size = g + 4 := by rw [← hw4]; simp [z3]
  have HSP := Lib.hid (split_call s w4)
  rw [z4] at HSP
  have HZ := Lib.hid (And.intro z1 (And.intro z2 (And.intro z3 z4)))
  rw [hsz] at hd
  refine (callsIn_wide (n := 3)).1 ?_
  refine callsIn_of_wp_marks Tryd.func29 rfl trivial ?_ rfl
  simp only [Tryd.ntmps29, List.size_toArray, List.length_cons, List.length_nil, Nat.reduceAdd, Nat.reduceSub, Array.replicate_succ, Array.replicate_zero, List.push_toArray, List.append_toArray, List.nil_append, List.cons_append]
  gi_wp2_with (refine ⟨trivial, ?_⟩; gi_at_call 40; refine (callsIn_wide.2 HSP.out).mono ?_; clear HSP; rintro e w5 ⟨rfl, hg5, hs5⟩)
  have hz5 : g + 7 ≤ w5.heap.size := by
    have := hs5.k
    have := blk_lt this
    omega
  have g1 : w.grownBy w1 none := by rw [← hw1]; exact World.grownBy_alloc _ _ _
  have g2 : w1.grownBy w2 none := by rw [← hw2]; exact World.grownBy_alloc _ _ _
  have g3 : w2.grownBy w3 none := by rw [← hw3]; exact World.grownBy_alloc _ _ _
  have g4 : w3.grownBy w4 none := by rw [← hw4]; exact World.grownBy_alloc _ _ _
  have b1 : w1.heap[g]? = some (.cells #[.slice none 0 0, .nilIface] 45 (0, 0)) := by rw [← hw1, ← hg]; exact heap_alloc_new _ _
  have b2 : w2.heap[g + 1]? = some (.cells #[.bool false] 4 (0, 0)) := by rw [← hw2, ← z1]; exact heap_alloc_new _ _
  have b3 : w3.heap[g + 2]? = some (.cells #[.slice none 0 0, .nilIface] 45 (0, 0)) := by rw [← hw3, ← z2]; exact heap_alloc_new _ _
  have b4 : w4.heap[g + 3]? = some (.cells #[.slice none 0 0, .slice none 0 0] 68 (0, 0)) := by rw [← hw4, ← z3]; exact heap_alloc_new _ _
  have gA := g4.trans hg5
  have gB := g3.trans gA
  have gC := g2.trans gB
  have h0 : RdI w g [] w5 := ⟨g1.trans gC, (gC.block _ (by omega) (by simp)).trans b1, (gB.block _ (by omega) (by simp)).trans b2, ⟨.slice none 0 0, (gA.block _ (by omega) (by simp)).trans b3, ⟨rfl, .inl ⟨rfl, rfl⟩⟩⟩,
    ([], []), .slice none 0 0, .slice none 0 0, [], [], rfl, by omega, (hg5.block _ (by omega) (by simp)).trans b4, ⟨⟨rfl, .inl ⟨rfl, rfl⟩⟩, trivial⟩, ⟨rfl, .inl ⟨rfl, rfl⟩⟩, trivial, List.nodup_nil, List.pairwise_cons.2 ⟨fun _ h => by simp at h, List.Pairwise.nil⟩⟩
  have HZ5 := Lib.hid hz5
  have HSL := Lib.hid hs
  clear hw1 hw2 hw3 hw4 z1 z2 z3 z4 HZ g1 g2 g3 g4 b1 b2 b3 b4 gA gB gC hg5 hsz hs hd
  have hX0 : ¬ XC g (g + 4) 9 := by rintro ⟨_, (h | h | h | h) | h | h⟩ <;> exact absurd h (by decide)
  have hX1 : ¬ XC g (g + 4 + 1) 9 := by rintro ⟨_, (h | h | h | h) | h | h⟩ <;> exact absurd h (by decide)
  have hX2 : ¬ XC g (g + 4 + 2) 3 := by rintro ⟨_, (h | h | h | h) | h | h⟩ <;> exact absurd h (by decide)
  refine range_ownB strK (X := XC g) (zs := cutB s) (gf := 77) (lb := #[.pointer (some ⟨g + 4 + 1, 0, none⟩), .pointer (some ⟨g + 4, 0, none⟩), .pointer (some ⟨g + 4 + 2, 0, none⟩)]) (b0 := g + 4) (tb := 9) rfl (enters_of Tryd.func77 (by kernel_rfl) rfl) (by omega)
    (split_iter (XC g) (g + 4) s w5 hs5 (by have := HSL.out; omega) hX0 hX1 hX2) (RdI w g) (fun _ W => RdX w g s W) (rdI_own w g hg (by omega)) (rdX_own w g s hg (by omega)) (rdI_box w g (g + 4) hg (by omega)) h0 (fun _ => rfl)
    (fun x => { tmps := #[.string s, undef, .pointer (some ⟨g, 0, none⟩), .pointer (some ⟨g + 1, 0, none⟩), .pointer (some ⟨g + 2, 0, none⟩), .pointer (some ⟨g + 3, 0, none⟩), .string x, undef, undef, undef, .string s, .int .i64 (sz : Nat), .bool false, undef, .string s, .func (.func 77) #[] #[.pointer (some ⟨g + 4 + 1, 0, none⟩), .pointer (some ⟨g + 4, 0, none⟩), .pointer (some ⟨g + 4 + 2, 0, none⟩)], .string x, undef, undef, undef, undef, undef, undef, undef, undef, undef, undef, undef, undef, undef, undef, undef, undef, undef, undef, undef, undef, undef, undef, undef, undef, undef, undef, undef, undef], defers := [] }) ?assign ?body ?done ?stop
  case assign =>
    intro l m x V K hK
    simp only [strK]
    gi_wp2
    exact hK
  case body =>
    rintro l1 m1 pre x V hl1 hr1 hI hpre
    obtain ⟨hgr, hr0, hr1', ⟨iv, hp, ho⟩, m, v0, v1, vs, ps, hm, hrs⟩ := hI
    obtain ⟨A6, k6, c6, rfl⟩ := own_form ho
    obtain rfl := own_len ho
    have hlen : pre.length + 1 ≤ 201 := by
      have h1 := hpre.length_le
      have h2 := cutB_len s
      have := HSL.out
      simp only [List.length_append, List.length_cons, List.length_nil] at h1
      omega
    have htd := runB_told pre 0 _ _ told7_nil hm
    rw [Nat.zero_add] at htd
    have hsV := hgr.size
    obtain ⟨⟨k3, c3, x3⟩, h3⟩ : ∃ q, ri3 x = q := ⟨_, rfl⟩
    have hrv := riV_eq x
    rw [h3] at hrv
    have HRI := Lib.hid (read_any x V)
    have HT := Lib.hid (fun V2 (hg2 : V.grownBy V2 none) => take_any g (g + 3) pre.length x m v0 v1 vs ps V2 (hrs.grown hg2) htd (by omega) (by have := hg2.size; omega))
    rw [hrv] at HRI HT
    have HP := Lib.hid hp
    have HR0 := Lib.hid hr0
    have HR1 := Lib.hid hr1'
    have HO := Lib.hid ho
    have HM := Lib.hid hm
    have HGR := Lib.hid hgr
    have HPRE := Lib.hid hpre
    have H3 := Lib.hid h3
    clear hgr hr0 hr1' hp ho hm hrs hpre h3 hrv
    cases hst : stepB x m with
    | none =>
      have HST := Lib.hid hst
      rw [hst] at HT
      clear hst
      gi_wp2_with (first
        | (refine ⟨trivial, fun h => (by cases h), ?_⟩; refine (CallsIn.inRound l1 (callsIn_wide.2 HRI.out)).mono ?_; clear HRI; rintro e V1 ⟨rfl, hg1⟩; have hg2 := hg1.trans (World.grownBy_alloc V1 (.cells #[.int .i64 k3, .int .u8 c3, .int .u8 x3] 53) none); have HTC := Lib.hid (HT.out _ hg2); have HG2 := Lib.hid hg2; have hb3 := c3_new V1 (.int .i64 k3) (.int .u8 c3) (.int .u8 x3) 53; have t0 := hb3.c0; have t1 := hb3.c1; have t2 := hb3.c2; have HB3 := Lib.hid hb3; clear hg1 hg2 HT hb3)
        | (refine ⟨trivial, fun h => (by cases h), ?_⟩; refine (CallsIn.inRound l1 (callsIn_wide.2 HTC.out)).mono ?_; clear HTC; rintro e V3 ⟨hc3, rfl⟩
           have hpr : Pr V3 g 45 (.slice none 0 0) .nilIface := chgX_cells hc3 ((HG2.out.block _ (blk_lt HR0.out) (by simp)).trans HR0.out) not_xt_prog
           have hbl : V3.heap[g + 1]? = some (.cells #[.bool false] 4 (0, 0)) := chgX_cells hc3 ((HG2.out.block _ (blk_lt HR1.out) (by simp)).trans HR1.out) not_xt_bool
           have p0 := hpr.c0; have p1 := hpr.c1; have p2 := hpr.f 0; have p3 := hpr.f 1
           have p4 : V3.cell? ⟨g + 1, 0, none⟩ = some (.bool false) := cell_of_row V3 (g + 1) 0 _ _ (0, 0) hbl
           have p5 : V3.frozen? ⟨g + 1, 0, none⟩ = false := by simp [World.frozen?, hbl]
           have HC3 := Lib.hid hc3; have HPR := Lib.hid hpr; have HBL := Lib.hid hbl
           clear hc3 hpr hbl))
      have hno := runB_snoc_none HM.out HST.out _ HPRE.out
      have hcf : Chg (fun k => k = g ∨ k = g + 1) V3 (((V3.setCell ⟨g, 0, none⟩ (.slice none 0 0)).setCell ⟨g, 1, none⟩ .nilIface).setCell ⟨g + 1, 0, none⟩ (.bool false)) :=
        ((Chg.row (wr := fun k => k = g ∨ k = g + 1) (gr_set V3 g 0 _) (fun k hk => .inl (by simpa using hk.symm))).trans (Chg.row (wr := fun k => k = g ∨ k = g + 1) (gr_set _ g 1 _) (fun k hk => .inl (by simpa using hk.symm))) (fun _ _ e => e) (fun _ _ e => e)).trans
          (Chg.row (wr := fun k => k = g ∨ k = g + 1) (gr_set _ (g + 1) 0 _) (fun k hk => .inr (by simpa using hk.symm))) (fun _ _ e => e) (fun _ _ e => e)
      have hk3 : KeepsK (XC g) V V3 := (KeepsK.grown HG2.out).trans (chgX_keeps HC3.out)
      have hkf : KeepsK (fun _ _ => True) V3 (((V3.setCell ⟨g, 0, none⟩ (.slice none 0 0)).setCell ⟨g, 1, none⟩ .nilIface).setCell ⟨g + 1, 0, none⟩ (.bool false)) :=
        KeepsK.ofChg hcf (fun k e => by rcases e with rfl | rfl; exact ⟨_, _, _, HPR.out, trivial⟩; exact ⟨_, _, _, HBL.out, trivial⟩)
      refine ⟨⟨Nat.le_trans hk3.size hkf.size, fun k o hB hk ho => (hkf.from w5.heap.size).same k o hB ((hk3.from w5.heap.size).same k o hB hk ho) ho⟩, ?_, ?_, ?_, hno⟩
      · exact gr_ownF (gr_ownF (gr_ownF (gr_chgX (HGR.out.trans HG2.out) hg HC3.out) (gr_set V3 g 0 _) (fun k e => by cases e; omega)) (gr_set _ g 1 _) (fun k e => by cases e; omega)) (gr_set _ (g + 1) 0 _) (fun k e => by cases e; omega)
      · exact (Below.heap_setCell _ _ _ _ (by simp)).trans ((HPR.out.set0 _).set1 _)
      · have h1 : (((V3.setCell ⟨g, 0, none⟩ (.slice none 0 0)).setCell ⟨g, 1, none⟩ .nilIface)).heap[g + 1]? = some (.cells #[.bool false] 4 (0, 0)) := (Below.heap_setCell _ _ _ _ (by simp)).trans ((Below.heap_setCell _ _ _ _ (by simp)).trans HBL.out)
        simp [World.setCell, Array.getElem?_modify] at h1 ⊢
        simp [h1]
    | some m' =>
      have HST := Lib.hid hst
      rw [hst] at HT
      clear hst
      have hbm := told_low (htd.step HST.out)
      gi_wp2_with (first
        | (refine ⟨trivial, fun h => (by cases h), ?_⟩; refine (CallsIn.inRound l1 (callsIn_wide.2 HRI.out)).mono ?_; clear HRI; rintro e V1 ⟨rfl, hg1⟩; have hg2 := hg1.trans (World.grownBy_alloc V1 (.cells #[.int .i64 k3, .int .u8 c3, .int .u8 x3] 53) none); have HTC := Lib.hid (HT.out _ hg2); have HG2 := Lib.hid hg2; have hb3 := c3_new V1 (.int .i64 k3) (.int .u8 c3) (.int .u8 x3) 53; have t0 := hb3.c0; have t1 := hb3.c1; have t2 := hb3.c2; have HB3 := Lib.hid hb3; clear hg1 hg2 HT hb3)
        | (refine ⟨trivial, fun h => (by cases h), ?_⟩; refine (CallsIn.inRound l1 (callsIn_wide.2 HTC.out)).mono ?_; clear HTC; rintro e V3 ⟨hc3, rfl, w0, w1', vs', ps', hrs3⟩
           have hpr : Pr V3 (g + 2) 45 (.slice A6 pre.length c6) .nilIface := chgX_cells hc3 ((HG2.out.block _ (blk_lt HP.out) (by simp)).trans HP.out) not_xt_prog
           have hb3 : C3 V3 V1.heap.size (.int .i64 k3) (.int .u8 c3) (.int .u8 x3) 53 := chgX_cells hc3 HB3.out not_xt_ins
           have p0 := hpr.c0; have p2 := hpr.f 0
           have q0 := hb3.c0; have q1 := hb3.c1; have q2 := hb3.c2
           have hrow : V3.ownsRow g 53 3 (.slice A6 pre.length c6) pre.length (flatI pre) := own_keep (own_keep HO.out (fun k hk => HG2.out.block k (HO.out.lt k hk).2 (by simp))) (fun k hk => by
             have hl := HO.out.lt k hk
             obtain ⟨cs, hcs⟩ := own_heap HO.out hk
             have e2 := (HG2.out.block k hl.2 (by simp)).trans hcs
             exact (chgX_cells hc3 e2 not_xt_ins).trans e2.symm)
           have HROW := Lib.hid hrow
           have hrow4 := hrow.alloc (.cells #[.int .i64 k3, .int .u8 c3, .int .u8 x3] 53)
           have HNL := Lib.hid (fun (j : Nat) (u : Value) (hj : ([.int .i64 k3, .int .u8 c3, .int .u8 x3] : List Value)[j]? = some u) => (World.news_of_block (cs := #[.int .i64 k3, .int .u8 c3, .int .u8 x3]) (heap_alloc_new V3 (.cells #[.int .i64 k3, .int .u8 c3, .int .u8 x3] 53)) j u hj : (V3.alloc (.cells #[.int .i64 k3, .int .u8 c3, .int .u8 x3] 53)).cell? ((⟨V3.heap.size, 0, none⟩ : Addr).add j) = some u))
           have hsz3 : g ≤ V3.heap.size := Nat.le_trans (Nat.le_trans (by omega) HG2.out.size) hc3.size
           have HC3 := Lib.hid hc3; have HPR := Lib.hid hpr; have HRS := Lib.hid hrs3
           clear hc3 hpr hb3 hrow hrs3)
        | (gi_at_builtin; refine wpListIn_append_own _ rfl _ _ 41 rfl g 53 i0 (.agg #[.int .i64 0, .int .u8 0, .int .u8 0]) 3 16 Tryd.underlying41 hi0 hz0 hz1 hz2 rfl (by decide) (.slice A6 pre.length c6) pre.length _ rfl hrow4 ⟨V3.heap.size, 0, none⟩ 1 1 [.int .i64 k3, .int .u8 c3, .int .u8 x3] rfl rfl HNL.out (by simp [Value.oneCell']) (by simp only [maxLen]; omega) (by omega) (by simp; omega) ?_
           intro v8 V5 hown8 hgr8 _
           obtain ⟨A8, k8, c8, rfl⟩ := own_form hown8
           have hnb : ∀ (k : Nat) (cs : Array Value) (T : TypeId) (fr : Nat × Nat), T ≠ 53 → V3.heap[k]? = some (.cells cs T fr) → V5.heap[k]? = some (.cells cs T fr) := fun k cs T fr hT hk => by
             refine (hgr8.block k (by have := blk_lt hk; simp; omega) (fun e => own_not HROW.out hk hT e.symm)).trans ((Below.heap_alloc _ _ _ (blk_lt hk)).trans hk)
           have hp5 : Pr V5 (g + 2) 45 (.slice A6 pre.length c6) .nilIface := hnb _ _ _ _ (by decide) HPR.out
           have r0 := hp5.c0; have r2 := hp5.f 0
           have HNB := Lib.hid hnb; have HP5 := Lib.hid hp5; have HO8 := Lib.hid hown8; have HGR8 := Lib.hid hgr8; have HROW4 := Lib.hid hrow4
           clear hnb hp5 hown8 hgr8 hrow4))
      have hk3 : KeepsK (XC g) V V3 := (KeepsK.grown HG2.out).trans (chgX_keeps HC3.out)
      have hk5 : KeepsK (XC g) (V3.alloc (.cells #[.int .i64 k3, .int .u8 c3, .int .u8 x3] 53)) V5 :=
        KeepsK.ofChg (Chg.row (wr := fun k => (Value.slice A6 pre.length c6).ownBlock = some k) HGR8.out (fun k e => e)) (fun k e => by
          obtain ⟨cs, hcs⟩ := own_heap HROW4.out e
          exact ⟨cs, _, _, hcs, (HROW4.out.lt k e).1, .inr (.inl rfl)⟩)
      have hk6 : KeepsK (XC g) V5 (V5.setCell ⟨g + 2, 0, none⟩ (.slice A8 k8 c8)) := KeepsK.grownX (gr_set V5 (g + 2) 0 _) HP5.out ⟨by omega, .inr (.inr rfl)⟩
      have h36 : ∀ (k : Nat) (cs : Array Value) (T : TypeId) (fr : Nat × Nat), T ≠ 53 → k ≠ g + 2 → V3.heap[k]? = some (.cells cs T fr) → (V5.setCell ⟨g + 2, 0, none⟩ (.slice A8 k8 c8)).heap[k]? = some (.cells cs T fr) := fun k cs T fr hT hk h => (Below.heap_setCell _ _ _ _ hk).trans (HNB.out k cs T fr hT h)
      refine ⟨((hk3.trans (KeepsK.alloc _ _)).trans hk5).trans hk6, ?_, ?_, ?_, ⟨.slice A8 k8 c8, HP5.out.set0 _, ?_⟩, m', w0, w1', vs', ps', (runB_snoc HM.out).trans HST.out, HRS.out.keepT (fun k cs T fr hT h => h36 k cs T fr ?_ ?_ h)⟩
      · exact gr_ownF (gr_ownF ((gr_chgX (HGR.out.trans HG2.out) hg HC3.out).trans (World.grownBy_alloc V3 _ none)) HGR8.out (fun k e => by have := (HROW4.out.lt k e).1; omega)) (gr_set V5 (g + 2) 0 _) (fun k e => by cases e; omega)
      · exact h36 _ _ _ _ (by decide) (by omega) (chgX_cells HC3.out ((HG2.out.block _ (blk_lt HR0.out) (by simp)).trans HR0.out) not_xt_prog)
      · exact h36 _ _ _ _ (by decide) (by omega) (chgX_cells HC3.out ((HG2.out.block _ (blk_lt HR1.out) (by simp)).trans HR1.out) not_xt_bool)
      · rw [flatI_snoc, List.length_append, show cellsI x = [.int .i64 k3, .int .u8 c3, .int .u8 x3] by unfold cellsI; rw [H3.out]]
        exact own_keep HO8.out (fun k hk => Below.heap_setCell _ _ _ _ (fun e => own_not HO8.out HP5.out (by decide) (by rw [hk]; simpa using e)))
      · rintro rfl
        rcases hT with (e | e | e) | e | e | e | e <;> exact absurd e (by decide)
      · rintro rfl
        have := HPR.out
        unfold Pr at this
        rw [h] at this
        cases this
        rcases hT with (e | e | e) | e | e | e | e <;> exact absurd e (by decide)
  case done =>
    rintro D V hD hI hK
    obtain ⟨hgr, hr0, hr1', ⟨iv, hp, ho⟩, m, v0, v1, vs, ps, hm, hrs⟩ := hI
    obtain ⟨A6, k6, c6, rfl⟩ := own_form ho
    obtain rfl := own_len ho
    have hlen : (cutB s).length ≤ 201 := by have := cutB_len s; have := HSL.out; omega
    have htd := runB_told _ 0 _ _ told7_nil hm
    rw [Nat.zero_add] at htd
    have htl := told_low htd
    have hw := whole_any g (g + 3) m v0 v1 vs ps V hrs (by omega) (by omega)
    have HP := Lib.hid hp
    have HR0 := Lib.hid hr0
    have HR1 := Lib.hid hr1'
    have HO := Lib.hid ho
    have HM := Lib.hid hm
    have HGR := Lib.hid hgr
    have HK := Lib.hid hK
    obtain ⟨nc, hnc⟩ : ∃ n, (cutB s).length = n := ⟨_, rfl⟩
    have HNC := Lib.hid hnc
    rw [hnc] at HP HO
    have hcode : codeT s = match whole m with | none => none | some t => if t.txt.length ≤ 80 then some t else none := by
      unfold codeT
      rw [if_neg (by have := HSL.out; omega), hm]
      rfl
    have HCODE := Lib.hid hcode
    clear hp hr0 hr1' ho hm hgr hrs htd hK hcode hnc htl
    cases hwh : whole m with
    | none =>
      rw [hwh] at hw HCODE
      have HW : Hid (Calls Tryd.prog 43 #[.pointer (some ⟨g + 3, 0, none⟩)] V fun e V1 => Chg (WX g V) V V1 ∧ ∃ x : Value, (x = .nilIface ∨ ∃ ty pv, x = .iface ty pv) ∧ e = .returned (.tuple #[x, .bool false])) := Lib.hid (hw.mono (fun e V1 h => ⟨h.1, h.2.choose, h.2.choose_spec.1, h.2.choose_spec.2.1⟩))
      clear hw
      gi_wp2_with (refine ⟨trivial, ?_⟩; gi_at_call 43; refine (callsIn_wide.2 HW.out).mono ?_; clear HW; rintro e V1 ⟨hc, x, hx, rfl⟩
                   have hpr : Pr V1 g 45 (.slice none 0 0) .nilIface := chgX_cells hc HR0.out not_xt_prog
                   have hbl : V1.heap[g + 1]? = some (.cells #[.bool false] 4 (0, 0)) := chgX_cells hc HR1.out not_xt_bool
                   have p0 := hpr.c0; have p1 := hpr.c1; have p2 := hpr.f 0; have p3 := hpr.f 1
                   have p4 : V1.cell? ⟨g + 1, 0, none⟩ = some (.bool false) := cell_of_row V1 (g + 1) 0 _ _ (0, 0) hbl
                   have p5 : V1.frozen? ⟨g + 1, 0, none⟩ = false := by simp [World.frozen?, hbl]
                   have HC := Lib.hid hc; have HPR := Lib.hid hpr; have HBL := Lib.hid hbl
                   clear hc hpr hbl
                   rcases hx with rfl | ⟨ty, pv, rfl⟩)
      all_goals
        refine ⟨trivial, ?_⟩
        gi_wp2
        obtain ⟨V2, hV2⟩ : ∃ z, ((V1.setCell ⟨g, 0, none⟩ (.slice none 0 0)).setCell ⟨g, 1, none⟩ .nilIface).setCell ⟨g + 1, 0, none⟩ (.bool false) = z := ⟨_, rfl⟩
        have hK2 : V2.heap[D]? = some (.deferred (some [])) := by
          rw [← hV2]
          refine (Below.heap_setCell _ _ _ _ (by simp; omega)).trans ((Below.heap_setCell _ _ _ _ (by simp; omega)).trans ((Below.heap_setCell _ _ _ _ (by simp; omega)).trans ?_))
          refine (HC.out.same _ (Array.getElem?_eq_some_iff.1 HK.out).1 (fun ⟨_, cs, T, fr, h2, _⟩ => ?_)).trans HK.out
          rw [HK.out] at h2; cases h2
        have hp2 : V2.heap[g]? = some (.cells #[.slice none 0 0, .nilIface] 45 (0, 0)) := by rw [← hV2]; exact (Below.heap_setCell _ _ _ _ (by simp)).trans ((HPR.out.set0 _).set1 _)
        have hb2 : V2.heap[g + 1]? = some (.cells #[.bool false] 4 (0, 0)) := by
          have h1 : (((V1.setCell ⟨g, 0, none⟩ (.slice none 0 0)).setCell ⟨g, 1, none⟩ .nilIface)).heap[g + 1]? = some (.cells #[.bool false] 4 (0, 0)) := (Below.heap_setCell _ _ _ _ (by simp)).trans ((Below.heap_setCell _ _ _ _ (by simp)).trans HBL.out)
          rw [← hV2]
          simp [World.setCell, Array.getElem?_modify] at h1 ⊢
          simp [h1]
        have hgf : w.grownBy V2 none := by
          rw [← hV2]
          exact gr_ownF (gr_ownF (gr_ownF (gr_chgX HGR.out hg HC.out) (gr_set V1 g 0 _) (fun k e => by cases e; omega)) (gr_set _ g 1 _) (fun k e => by cases e; omega)) (gr_set _ (g + 1) 0 _) (fun k e => by cases e; omega)
        rw [hV2]
        clear hV2 p0 p1 p2 p3 p4 p5
        obtain ⟨m0, m1, m2⟩ := res_boxes hp2 hb2 (show g + 2 ≤ D by omega) (.deferred none)
        refine ⟨by simp, .inl ⟨_, _, rfl, run_takeDeferred hK2, ?_⟩⟩
        exact ⟨.tuple #[.agg #[.slice none 0 0, .nilIface], .bool false], by simp [results, Tryd.results29, go_sem, m0, m1, m2], readP_none HCODE.out (gr_ownF hgf (grownBy_putObj' V2 D _) (fun k e => by cases e; omega)) rfl⟩
    | some t =>
      rw [hwh] at hw HCODE
      obtain ⟨hto, htl⟩ := whole_told HSL.out HM.out hwh
      have HW : Hid (Calls Tryd.prog 43 #[.pointer (some ⟨g + 3, 0, none⟩)] V fun e V1 => Chg (WX g V) V V1 ∧ ∃ ty pv, PT V1 (fun _ => True) t (.iface ty pv) ∧ e = .returned (.tuple #[.iface ty pv, .bool true])) := Lib.hid (hw.mono (fun e V1 h => by
        obtain ⟨h1, x, _, h3, h4⟩ := h
        have h5 := h4 t rfl
        obtain ⟨ty, pv, rfl⟩ := h5.iface
        exact ⟨h1, ty, pv, h5, h3⟩))
      have HTO := Lib.hid hto
      clear hw hto
      obtain ⟨tl, htl2⟩ : ∃ n, t.txt.length = n := ⟨_, rfl⟩
      have HTL := Lib.hid htl2
      have hbs : (bytesOf t.txt).size = tl := by rw [← htl2]; rfl
      have hcd : codeT s = if tl ≤ 80 then some t else none := by rw [← htl2]; exact HCODE.out
      have HCD := Lib.hid hcd
      rw [htl2] at htl
      clear htl2 hcd HCODE
      by_cases h80 : tl ≤ 80
      · have hd80 : ¬ ((80 : Int) < ((tl : Nat) : Int)) := by omega
        gi_wp2_with (first
          | (refine ⟨trivial, ?_⟩; gi_at_call 43; refine (callsIn_wide.2 HW.out).mono ?_; clear HW; rintro e V1 ⟨hc, ty, pv, hpt, rfl⟩
             have HTX := Lib.hid (textof_any t _ ty pv V1 HTO.out hpt (by have := HTL.out; omega))
             have HC := Lib.hid hc; have HPT := Lib.hid hpt
             clear hc hpt)
          | (refine ⟨trivial, ?_⟩; gi_at_call 30; refine (callsIn_wide.2 HTX.out).mono ?_; clear HTX; rintro e V2 ⟨rfl, hg2⟩
             have hpr : Pr V2 g 45 (.slice none 0 0) .nilIface := Pr.grown (chgX_cells HC.out HR0.out not_xt_prog) hg2 (by simp)
             have hpp : Pr V2 (g + 2) 45 (.slice A6 nc c6) .nilIface := Pr.grown (chgX_cells HC.out HP.out not_xt_prog) hg2 (by simp)
             have hb1 : V1.heap[g + 1]? = some (.cells #[.bool false] 4 (0, 0)) := chgX_cells HC.out HR1.out not_xt_bool
             have hbl : V2.heap[g + 1]? = some (.cells #[.bool false] 4 (0, 0)) := (hg2.block _ (blk_lt hb1) (by simp)).trans hb1
             have p0 := hpr.c0; have p1 := hpr.c1; have p2 := hpr.f 0; have p3 := hpr.f 1
             have p4 : V2.cell? ⟨g + 1, 0, none⟩ = some (.bool false) := cell_of_row V2 (g + 1) 0 _ _ (0, 0) hbl
             have p5 : V2.frozen? ⟨g + 1, 0, none⟩ = false := by simp [World.frozen?, hbl]
             have p6 := hpp.c0; have p7 := hpp.c1; have p8 := hpp.f 1
             have hdk : V2.heap[D]? = some (.deferred (some [])) := by
               have h1 : V1.heap[D]? = some (.deferred (some [])) := (HC.out.same _ (Array.getElem?_eq_some_iff.1 HK.out).1 (fun ⟨_, cs, T, fr, h2, _⟩ => by rw [HK.out] at h2; cases h2)).trans HK.out
               exact (hg2.block _ (Array.getElem?_eq_some_iff.1 h1).1 (by simp)).trans h1
             have hrow : V2.ownsRow g 53 3 (.slice A6 nc c6) nc (flatI (cutB s)) := own_keep HO.out (fun k hk => by
               obtain ⟨cs, hcs⟩ := own_heap HO.out hk
               have h1 := chgX_cells HC.out hcs not_xt_ins
               exact ((hg2.block _ (blk_lt h1) (by simp)).trans h1).trans hcs.symm)
             have HPR := Lib.hid hpr; have HPP := Lib.hid hpp; have HBL := Lib.hid hbl; have HDK := Lib.hid hdk; have HRW := Lib.hid hrow; have HP2 := Lib.hid (HPT.out.grown hg2); have HG2 := Lib.hid ((gr_chgX HGR.out hg HC.out).trans hg2)
             clear hpr hpp hb1 hbl hdk hrow hg2))
        have hn : ∀ {k : Nat} {cs : Array Value} {T : TypeId} {fr : Nat × Nat}, T ≠ 45 → T ≠ 4 → V2.heap[k]? = some (.cells cs T fr) → (putR (V2.setCell ⟨g + 2, 1, none⟩ (.iface ty pv)) g (.slice A6 nc c6) (.iface ty pv) (.bool true)).heap[k]? = some (.cells cs T fr) := fun {k cs T fr} h1 h2 h => by
          refine (putR_same ?_ ?_).trans ((Below.heap_setCell _ _ _ _ ?_).trans h)
          · rintro rfl; have := HPR.out; unfold Pr at this; rw [h] at this; cases this; exact h1 rfl
          · rintro rfl; have := HBL.out; rw [h] at this; cases this; exact h2 rfl
          · rintro rfl; have := HPP.out; unfold Pr at this; rw [h] at this; cases this; exact h1 rfl
        have hpr3 : Pr (V2.setCell ⟨g + 2, 1, none⟩ (.iface ty pv)) g 45 (.slice none 0 0) .nilIface := (Below.heap_setCell _ _ _ _ (by simp)).trans HPR.out
        have hbl3 : (V2.setCell ⟨g + 2, 1, none⟩ (.iface ty pv)).heap[g + 1]? = some (.cells #[.bool false] 4 (0, 0)) := (Below.heap_setCell _ _ _ _ (by simp)).trans HBL.out
        obtain ⟨e0, e1⟩ := putR_res (a := .slice A6 nc c6) (b := .iface ty pv) (r := .bool true) hpr3 hbl3
        have hgf : w.grownBy (putR (V2.setCell ⟨g + 2, 1, none⟩ (.iface ty pv)) g (.slice A6 nc c6) (.iface ty pv) (.bool true)) none := putR_gr (gr_ownF HG2.out (gr_set V2 (g + 2) 1 _) (fun k e => by cases e; omega)) hg
        have hdk : (putR (V2.setCell ⟨g + 2, 1, none⟩ (.iface ty pv)) g (.slice A6 nc c6) (.iface ty pv) (.bool true)).heap[D]? = some (.deferred (some [])) := (putR_same (by omega) (by omega)).trans ((Below.heap_setCell _ _ _ _ (by simp; omega)).trans HDK.out)
        have hrow := own_keepT HRW.out (fun k cs fr h => hn (by decide) (by decide) h)
        have hpt := PT.keepT (S' := fun _ => True) (fun b' xs T fr _ hT h => hn (by rcases hT with e | e | e <;> rw [e] <;> decide) (by rcases hT with e | e | e <;> rw [e] <;> decide) h) (fun _ _ _ => trivial) _ _ HP2.out
        clear hn hpr3 hbl3 p0 p1 p2 p3 p4 p5 p6 p7 p8
        change bodyPostM _ _ _ _ _ _ _ (putR (V2.setCell ⟨g + 2, 1, none⟩ (.iface ty pv)) g (.slice A6 nc c6) (.iface ty pv) (.bool true))
        generalize putR (V2.setCell ⟨g + 2, 1, none⟩ (.iface ty pv)) g (.slice A6 nc c6) (.iface ty pv) (.bool true) = V3 at e0 e1 hgf hdk hrow hpt ⊢
        obtain ⟨m0, m1, m2⟩ := res_boxes e0 e1 (show g + 2 ≤ D by omega) (.deferred none)
        refine ⟨by simp, .inl ⟨_, _, rfl, run_takeDeferred hdk, ?_⟩⟩
        refine ⟨.tuple #[.agg #[.slice A6 nc c6, .iface ty pv], .bool true], by simp [results, Tryd.results29, go_sem, m0, m1, m2], readP_some (HCD.out.trans (if_pos h80)) (gr_ownF hgf (grownBy_putObj' V3 D _) (fun k e => by cases e; omega)) rfl ?_ ?_⟩
        · rw [HNC.out, hg]
          exact own_keepT hrow (fun k cs fr h => putObj_cells hdk h)
        · exact PT.keepT (fun b' xs T fr _ _ h => putObj_cells hdk h) (fun _ _ _ => trivial) _ _ hpt
      · have hd80 : ((80 : Int) < ((tl : Nat) : Int)) := by omega
        gi_wp2_with (first
          | (refine ⟨trivial, ?_⟩; gi_at_call 43; refine (callsIn_wide.2 HW.out).mono ?_; clear HW; rintro e V1 ⟨hc, ty, pv, hpt, rfl⟩
             have HTX := Lib.hid (textof_any t _ ty pv V1 HTO.out hpt (by have := HTL.out; omega))
             have HC := Lib.hid hc; have HPT := Lib.hid hpt
             clear hc hpt)
          | (refine ⟨trivial, ?_⟩; gi_at_call 30; refine (callsIn_wide.2 HTX.out).mono ?_; clear HTX; rintro e V2 ⟨rfl, hg2⟩
             have hpr : Pr V2 g 45 (.slice none 0 0) .nilIface := Pr.grown (chgX_cells HC.out HR0.out not_xt_prog) hg2 (by simp)
             have hpp : Pr V2 (g + 2) 45 (.slice A6 nc c6) .nilIface := Pr.grown (chgX_cells HC.out HP.out not_xt_prog) hg2 (by simp)
             have hb1 : V1.heap[g + 1]? = some (.cells #[.bool false] 4 (0, 0)) := chgX_cells HC.out HR1.out not_xt_bool
             have hbl : V2.heap[g + 1]? = some (.cells #[.bool false] 4 (0, 0)) := (hg2.block _ (blk_lt hb1) (by simp)).trans hb1
             have p0 := hpr.c0; have p1 := hpr.c1; have p2 := hpr.f 0; have p3 := hpr.f 1
             have p4 : V2.cell? ⟨g + 1, 0, none⟩ = some (.bool false) := cell_of_row V2 (g + 1) 0 _ _ (0, 0) hbl
             have p5 : V2.frozen? ⟨g + 1, 0, none⟩ = false := by simp [World.frozen?, hbl]
             have p6 := hpp.c0; have p7 := hpp.c1; have p8 := hpp.f 1
             have hdk : V2.heap[D]? = some (.deferred (some [])) := by
               have h1 : V1.heap[D]? = some (.deferred (some [])) := (HC.out.same _ (Array.getElem?_eq_some_iff.1 HK.out).1 (fun ⟨_, cs, T, fr, h2, _⟩ => by rw [HK.out] at h2; cases h2)).trans HK.out
               exact (hg2.block _ (Array.getElem?_eq_some_iff.1 h1).1 (by simp)).trans h1
             have hrow : V2.ownsRow g 53 3 (.slice A6 nc c6) nc (flatI (cutB s)) := own_keep HO.out (fun k hk => by
               obtain ⟨cs, hcs⟩ := own_heap HO.out hk
               have h1 := chgX_cells HC.out hcs not_xt_ins
               exact ((hg2.block _ (blk_lt h1) (by simp)).trans h1).trans hcs.symm)
             have HPR := Lib.hid hpr; have HPP := Lib.hid hpp; have HBL := Lib.hid hbl; have HDK := Lib.hid hdk; have HRW := Lib.hid hrow; have HP2 := Lib.hid (HPT.out.grown hg2); have HG2 := Lib.hid ((gr_chgX HGR.out hg HC.out).trans hg2)
             clear hpr hpp hb1 hbl hdk hrow hg2))
        obtain ⟨e0, e1⟩ := putR_res (a := .slice none 0 0) (b := .nilIface) (r := .bool false) HPR.out HBL.out
        have hgf : w.grownBy (putR V2 g (.slice none 0 0) .nilIface (.bool false)) none := putR_gr HG2.out hg
        have hdk : (putR V2 g (.slice none 0 0) .nilIface (.bool false)).heap[D]? = some (.deferred (some [])) := (putR_same (by omega) (by omega)).trans HDK.out
        clear p0 p1 p2 p3 p4 p5 p6 p7 p8
        change bodyPostM _ _ _ _ _ _ _ (putR V2 g (.slice none 0 0) .nilIface (.bool false))
        generalize putR V2 g (.slice none 0 0) .nilIface (.bool false) = V3 at e0 e1 hgf hdk ⊢
        obtain ⟨m0, m1, m2⟩ := res_boxes e0 e1 (show g + 2 ≤ D by omega) (.deferred none)
        refine ⟨by simp, .inl ⟨_, _, rfl, run_takeDeferred hdk, ?_⟩⟩
        exact ⟨.tuple #[.agg #[.slice none 0 0, .nilIface], .bool false], by simp [results, Tryd.results29, go_sem, m0, m1, m2], readP_none (HCD.out.trans (if_neg h80)) (gr_ownF hgf (grownBy_putObj' V3 D _) (fun k e => by cases e; omega)) rfl⟩
  case stop =>
    rintro D pre V hD _ hI hK
    gi_wp2
    obtain ⟨m0, m1, m2⟩ := res_boxes hI.r0 hI.r1 (show g + 2 ≤ D by omega) (.deferred none)
    have hgf := hI.gr
    have hcode : codeT s = none := by
      unfold codeT
      rw [if_neg (by have := HSL.out; omega), hI.no]
    refine ⟨by simp, .inl ⟨_, _, rfl, run_takeDeferred hK, ?_⟩⟩
    exact ⟨.tuple #[.agg #[.slice none 0 0, .nilIface], .bool false], by simp [results, Tryd.results29, go_sem, m0, m1, m2], readP_none hcode (gr_ownF hgf (grownBy_putObj' V D _) (fun k e => by cases e; omega)) rfl⟩

theorem readc_any (s : ByteArray) (w : World) : Calls Tryd.prog 29 #[.string s] w (ReadP s w) := by
  rcases Nat.lt_or_ge 200 s.size with h | h
  · exact readc_long s w h
  · exact readc_in s w h
end

section
open Go.RowKit

def tvalidA (s : ByteArray) : Bool := (readT s).isSome

theorem tvalid_spec (s : ByteArray) (hs : s.size ≤ 1048576) (w : World) :
    Calls Tryd.prog 39 #[.string s] w fun e w' => e = .returned (.bool (tvalidA s)) ∧ w.grownBy w' none := by
  have H := Lib.hid (sterm_any s hs w)
  obtain ⟨b, hb⟩ : ∃ b, tvalidA s = b := ⟨_, rfl⟩
  rw [hb]
  have HB := Lib.hid hb
  clear hb
  go_enter Tryd.func39, Tryd.ntmps39
  go_wp2_with fail
  refine H.out.mono ?_
  intro e w1 hp
  unfold STermPost at hp
  have hb := HB.out
  unfold tvalidA at hb
  cases hr : readT s with
  | none =>
    rw [hr] at hp hb
    obtain rfl : b = false := hb.symm
    obtain ⟨rfl, hg⟩ := hp
    have HG := Lib.hid hg
    clear hg hr hb
    go_wp2_with fail
    go_ret
    exact ⟨rfl, HG.out.trans (World.grownBy_alloc _ _ _)⟩
  | some t =>
    rw [hr] at hp hb
    obtain rfl : b = true := hb.symm
    obtain ⟨a, b, A, k, c, rfl, hg, ha⟩ := hp
    have HG := Lib.hid hg
    clear hg ha hr hb
    go_wp2_with fail
    go_ret
    exact ⟨rfl, HG.out.trans (World.grownBy_alloc _ _ _)⟩

end

section
open Go.RowKit

def inV (l : List Int) : List Value := l.map (Value.int .i64)
theorem inV_snoc (l : List Int) (x : Int) : inV (l ++ [x]) = inV l ++ [.int .i64 x] := by simp [inV]

structure BM (w : World) (s : ByteArray) (pv hv lv : Value) (hl ll : List Int) (m : MS) (v0 v1 v2 : Value) (xs : List (Int × Int × Value)) (W : World) : Prop where
  gr : w.grownBy W none
  q : C3 W w.heap.size (.int .u8 0) (.int .u8 0) (.slice none 0 0) 37
  pc : W.ownsRow (w.heap.size + 1) 9 1 pv (cutB s).length (stV (cutB s))
  ho : W.ownsRow (w.heap.size + 1) 3 1 hv hl.length (inV hl)
  lo : W.ownsRow (w.heap.size + 1) 3 1 lv ll.length (inV ll)
  ap : ∀ g, hv.ownBlock = some g → lv.ownBlock ≠ some g
  bs : BS W (w.heap.size + 1) (w.heap.size + 1) m v0 v1 v2 xs
  pv1 : ∀ g, pv.ownBlock = some g → v1.ownBlock ≠ some g
  hv2 : ∀ g, hv.ownBlock = some g → v2.ownBlock ≠ some g
  lv2 : ∀ g, lv.ownBlock = some g → v2.ownBlock ≠ some g

section
variable {w W W' : World} {s : ByteArray} {pv hv lv : Value} {hl ll : List Int} {m : MS} {v0 v1 v2 : Value} {xs : List (Int × Int × Value)}

theorem BM.grown (h : BM w s pv hv lv hl ll m v0 v1 v2 xs W) (hg : W.grownBy W' none) : BM w s pv hv lv hl ll m v0 v1 v2 xs W' :=
  ⟨h.gr.trans hg, h.q.grown hg (by simp), own_keep h.pc (fun k hk => hg.block k (h.pc.lt k hk).2 (by simp)), own_keep h.ho (fun k hk => hg.block k (h.ho.lt k hk).2 (by simp)), own_keep h.lo (fun k hk => hg.block k (h.lo.lt k hk).2 (by simp)), h.ap, h.bs.grown hg, h.pv1, h.hv2, h.lv2⟩

/-- Behind an instruction. -/
theorem BM.did {m' : MS} {u0 u1 u2 : Value} {xs' : List (Int × Int × Value)} (h : BM w s pv hv lv hl ll m v0 v1 v2 xs W) (hc : Chg (BW (w.heap.size + 1) v0 v1 v2) W W') (hb : BS W' (w.heap.size + 1) (w.heap.size + 1) m' u0 u1 u2 xs') (f1 : Fr3 W v1 u1) (f2 : Fr3 W v2 u2) : BM w s pv hv lv hl ll m' u0 u1 u2 xs' W' := by
  have hge : ∀ k, BW (w.heap.size + 1) v0 v1 v2 k → w.heap.size + 1 ≤ k := fun k e => by
    rcases e with e | e | e | e
    · omega
    · exact (h.bs.st.lt k e).1
    · exact (h.bs.lo.lt k e).1
    · exact (h.bs.ba.lt k e).1
  have hint : ∀ {n : Nat} {v : Value} {ys : List Value}, W.ownsRow (w.heap.size + 1) 3 1 v n ys → (∀ g, v.ownBlock = some g → v2.ownBlock ≠ some g) → ∀ g, v.ownBlock = some g → ¬ BW (w.heap.size + 1) v0 v1 v2 g := fun ho hn g hg e => by
    obtain ⟨cs, hcs⟩ := own_heap ho hg
    rcases e with e | e | e | e
    · exact own_not ho h.bs.box (by decide) (e ▸ hg)
    · exact own_not h.bs.st hcs (by decide) e
    · exact own_not h.bs.lo hcs (by decide) e
    · exact hn g hg e
  refine ⟨⟨hc.os.trans h.gr.os, hc.tape.trans h.gr.tape, hc.output.trans h.gr.output, Nat.le_trans h.gr.size hc.size, fun k hk _ => (hc.same k (Nat.lt_of_lt_of_le hk h.gr.size) (fun e => by have := hge k e; omega)).trans (h.gr.block k hk (by simp))⟩, ?_, ?_, ?_, ?_, h.ap, hb, ?_, ?_, ?_⟩
  · exact (hc.same _ h.q.lt (fun e => by have := hge _ e; omega)).trans h.q
  · refine hc.own h.pc (fun g hg e => ?_)
    obtain ⟨cs, hcs⟩ := own_heap h.pc hg
    rcases e with e | e | e | e
    · exact own_not h.pc h.bs.box (by decide) (e ▸ hg)
    · exact own_not h.bs.st hcs (by decide) e
    · exact h.pv1 g hg e
    · exact own_not h.bs.ba hcs (by decide) e
  · exact hc.own h.ho (hint h.ho h.hv2)
  · exact hc.own h.lo (hint h.lo h.lv2)
  · exact fun g hg e => (f1 g e).elim (h.pv1 g hg) (fun e => by have := (h.pc.lt g hg).2; omega)
  · exact fun g hg e => (f2 g e).elim (h.hv2 g hg) (fun e => by have := (h.ho.lt g hg).2; omega)
  · exact fun g hg e => (f2 g e).elim (h.lv2 g hg) (fun e => by have := (h.lo.lt g hg).2; omega)

theorem BS.keepI {n0 b : Nat} (h : BS W n0 b m v0 v1 v2 xs) (hk : ∀ (k : Nat) (cs : Array Value) (T : TypeId) (fr : Nat × Nat), (T ≠ 3 ∨ v2.ownBlock = some k) → W.heap[k]? = some (.cells cs T fr) → W'.heap[k]? = some (.cells cs T fr)) : BS W' n0 b m v0 v1 v2 xs := by
  have key : ∀ {n size : Nat} {e : TypeId} {v : Value} {ys : List Value}, W.ownsRow n0 e size v n ys → (e ≠ 3 ∨ v2 = v) → W'.ownsRow n0 e size v n ys := fun ho he =>
    own_keep ho (fun g hg => by
      obtain ⟨cs, hcs⟩ := own_heap ho hg
      rw [hcs]
      exact hk g cs _ _ (he.imp id (fun hv => by rw [hv]; exact hg)) hcs)
  refine ⟨h.base, hk _ _ _ _ (.inl (by decide)) h.box, key h.st (.inl (by decide)), ?_, key h.lo (.inl (by decide)), key h.ba (.inr rfl)⟩
  exact All2.mono (fun t N ht => SN.keepT (fun k cs fr _ hh => hk k cs _ fr (.inl (by decide)) hh) (fun _ hs _ => hs) t N ht) _ _ h.sn

theorem keep_int {row : Option Nat} (hg : W.grownBy W' row) (hr : ∀ r, row = some r → (∃ cs fr, W.heap[r]? = some (.cells cs 3 fr)) ∧ v2.ownBlock ≠ some r) : ∀ (k : Nat) (cs : Array Value) (T : TypeId) (fr : Nat × Nat), (T ≠ 3 ∨ v2.ownBlock = some k) → W.heap[k]? = some (.cells cs T fr) → W'.heap[k]? = some (.cells cs T fr) := fun k cs T fr hT hh =>
  (hg.block k (blk_lt hh) (fun e => by
    obtain ⟨⟨cs', fr', h1⟩, h2⟩ := hr k e.symm
    rw [hh] at h1
    cases h1
    exact hT.elim (fun e => e rfl) h2)).trans hh

/-- Behind a level that is told. -/
theorem BM.addL {u : Value} {x : Int} (h : BM w s pv hv lv hl ll m v0 v1 v2 xs W) (hg : W.grownBy W' lv.ownBlock) (ho : W'.ownsRow (w.heap.size + 1) 3 1 u (ll.length + 1) (inV ll ++ [.int .i64 x])) (hb : u.ownBlock = lv.ownBlock ∨ ∃ k, u.ownBlock = some k ∧ W.heap.size ≤ k) : BM w s pv hv u hl (ll ++ [x]) m v0 v1 v2 xs W' := by
  have hrow : ∀ r, lv.ownBlock = some r → (∃ cs fr, W.heap[r]? = some (.cells cs 3 fr)) := fun r hr => by
    obtain ⟨cs, hcs⟩ := own_heap h.lo hr
    exact ⟨cs, _, hcs⟩
  have hk := keep_int hg (fun r hr => ⟨hrow r hr, h.lv2 r hr⟩)
  refine ⟨gr_ownR h.gr hg (fun k hk => by have := (h.lo.lt k hk).1; omega), hk _ _ _ _ (.inl (by decide)) h.q, own_keep h.pc (fun g hg => ?_), own_keep h.ho (fun g hg' => ?_), ?_, ?_, h.bs.keepI hk, h.pv1, h.hv2, ?_⟩
  · obtain ⟨cs, hcs⟩ := own_heap h.pc hg
    rw [hcs]
    exact hk _ _ _ _ (.inl (by decide)) hcs
  · exact hg.block g (h.ho.lt g hg').2 (fun e => h.ap g hg' e.symm)
  · rw [List.length_append, inV_snoc]; exact ho
  · intro g hg' e
    rcases hb with e2 | ⟨k, e2, hk2⟩
    · exact h.ap g hg' (e2 ▸ e)
    · rw [e2] at e; cases e
      have := (h.ho.lt _ hg').2
      omega
  · intro g hg' e
    rcases hb with e2 | ⟨k, e2, hk2⟩
    · exact h.lv2 g (e2 ▸ hg') e
    · rw [e2] at hg'; cases hg'
      have := (h.bs.ba.lt _ e).2
      omega
/-- Behind a height that is told. -/
theorem BM.addH {u : Value} {x : Int} (h : BM w s pv hv lv hl ll m v0 v1 v2 xs W) (hg : W.grownBy W' hv.ownBlock) (ho : W'.ownsRow (w.heap.size + 1) 3 1 u (hl.length + 1) (inV hl ++ [.int .i64 x])) (hb : u.ownBlock = hv.ownBlock ∨ ∃ k, u.ownBlock = some k ∧ W.heap.size ≤ k) : BM w s pv u lv (hl ++ [x]) ll m v0 v1 v2 xs W' := by
  have hrow : ∀ r, hv.ownBlock = some r → (∃ cs fr, W.heap[r]? = some (.cells cs 3 fr)) := fun r hr => by
    obtain ⟨cs, hcs⟩ := own_heap h.ho hr
    exact ⟨cs, _, hcs⟩
  have hk := keep_int hg (fun r hr => ⟨hrow r hr, h.hv2 r hr⟩)
  refine ⟨gr_ownR h.gr hg (fun k hk => by have := (h.ho.lt k hk).1; omega), hk _ _ _ _ (.inl (by decide)) h.q, own_keep h.pc (fun g hg => ?_), ?_, own_keep h.lo (fun g hg' => ?_), ?_, h.bs.keepI hk, h.pv1, ?_, h.lv2⟩
  · obtain ⟨cs, hcs⟩ := own_heap h.pc hg
    rw [hcs]
    exact hk _ _ _ _ (.inl (by decide)) hcs
  · rw [List.length_append, inV_snoc]; exact ho
  · exact hg.block g (h.lo.lt g hg').2 (fun e => h.ap g e.symm hg')
  · intro g hg' e
    rcases hb with e2 | ⟨k, e2, hk2⟩
    · exact h.ap g (e2 ▸ hg') e
    · rw [e2] at hg'; cases hg'
      have := (h.lo.lt _ e).2
      omega
  · intro g hg' e
    rcases hb with e2 | ⟨k, e2, hk2⟩
    · exact h.hv2 g (e2 ▸ hg') e
    · rw [e2] at hg'; cases hg'
      have := (h.bs.ba.lt _ e).2
      omega
end
end

section
open Go.RowKit

def BldP (s : ByteArray) (w : World) (e : Ending) (w' : World) : Prop := w.grownBy w' none ∧ match codeT s with
  | some t => ∃ a c A k d hv lv, e = .returned (.tuple #[.agg #[.int .u8 a, .int .u8 c, .slice A k d], hv, lv, .bool true]) ∧ SN w' (fun _ => True) t (a, c, .slice A k d) ∧ w'.ownsRow w.heap.size 3 1 hv (cutB s).length (inV (htsB (cutB s) ([], []))) ∧ w'.ownsRow w.heap.size 3 1 lv (cutB s).length (inV (lvsB (cutB s) ([], [])))
  | none => ∃ hv lv, e = .returned (.tuple #[.agg #[.int .u8 0, .int .u8 0, .slice none 0 0], hv, lv, .bool false]) ∧ w'.ownsRow w.heap.size 3 1 hv 0 [] ∧ w'.ownsRow w.heap.size 3 1 lv 0 []
theorem bldP_none {s : ByteArray} {w w' : World} {e : Ending} {hv lv : Value} (hr : codeT s = none) (hg : w.grownBy w' none) (he : e = .returned (.tuple #[.agg #[.int .u8 0, .int .u8 0, .slice none 0 0], hv, lv, .bool false])) (h1 : w'.ownsRow w.heap.size 3 1 hv 0 []) (h2 : w'.ownsRow w.heap.size 3 1 lv 0 []) : BldP s w e w' := by
  unfold BldP; rw [hr]; exact ⟨hg, hv, lv, he, h1, h2⟩

theorem tvalid_txt {t : Tm} (ho : t.Ok) : tvalidA (bytesOf t.txt) = decide (t.txt.length ≤ 80) := by
  have hz := bytesOf_size t.txt
  by_cases h : t.txt.length ≤ 80
  · unfold tvalidA
    rw [readT_back ho (by simp [bytesOf]) (by omega), decide_eq_true h]; rfl
  · unfold tvalidA
    rw [readT_long (by omega), decide_eq_false h]; rfl
theorem codeT_run {s : ByteArray} (hs : ¬ 200 < s.size) (h : runB (cutB s) ([], []) = none) : codeT s = none := by
  unfold codeT; rw [if_neg hs, h]
theorem codeT_whole {s : ByteArray} {m : MS} (hs : ¬ 200 < s.size) (h : runB (cutB s) ([], []) = some m) (hw : whole m = none) : codeT s = none := by
  unfold codeT; rw [if_neg hs, h]; simp only [hw]
theorem codeT_some {s : ByteArray} {m : MS} {t : Tm} (hs : ¬ 200 < s.size) (h : runB (cutB s) ([], []) = some m) (hw : whole m = some t) : codeT s = if t.txt.length ≤ 80 then some t else none := by
  unfold codeT; rw [if_neg hs, h]; simp only [hw]

/-- An empty row of ints that was made. -/
theorem own_mt {w : World} {base : Nat} (h : base ≤ w.heap.size) : (w.alloc (.cells #[] 3)).ownsRow base 3 1 (.slice (some ⟨w.heap.size, 0, none⟩) 0 0) 0 [] := by
  have := World.ownsRow_made (base := base) (e := 3) (size := 1) w #[] 0 h (by simp) (by simp)
  simpa using this

theorem own_laid {W : World} {base q n : Nat} {v x y z x' y' z' : Value} {ys : List Value} (h : W.ownsRow base 3 1 v n ys) (hq : C3 W q x y z 37) : (laid3 W q x' y' z').ownsRow base 3 1 v n ys := by
  have hc : Chg (fun k => k = q) W (laid3 W q x' y' z') := chg_laid (Chg.refl _ _) rfl
  exact hc.own h (fun g hg e => own_not h hq (by decide) (e ▸ hg))

set_option maxRecDepth 100000 in
set_option maxHeartbeats 1000000 in
theorem bld_long (s : ByteArray) (w : World) (hs : 200 < s.size) :
    Calls Tryd.prog 27 #[.string s] w (BldP s w) := by
  have HR := Lib.hid (show codeT s = none by unfold codeT; rw [if_pos hs])
  have hd : (((s.size : Nat) : Int) > 200) := by omega
  obtain ⟨n, hn⟩ : ∃ n, s.size = n := ⟨_, rfl⟩
  rw [hn] at hs hd
  obtain ⟨wa, hwa⟩ : ∃ z, w.alloc (.cells #[.int .u8 0, .int .u8 0, .slice none 0 0] 37) = z := ⟨_, rfl⟩
  obtain ⟨wb, hwb⟩ : ∃ z, wa.alloc (.cells #[.slice none 0 0, .slice none 0 0, .slice none 0 0] 59) = z := ⟨_, rfl⟩
  obtain ⟨wc, hwc⟩ : ∃ z, wb.alloc (.cells #[] 3) = z := ⟨_, rfl⟩
  obtain ⟨wd, hwd⟩ : ∃ z, wc.alloc (.cells #[] 3) = z := ⟨_, rfl⟩
  have ga : w.grownBy wa none := by rw [← hwa]; exact World.grownBy_alloc _ _ _
  have gb : wa.grownBy wb none := by rw [← hwb]; exact World.grownBy_alloc _ _ _
  have gc : wb.grownBy wc none := by rw [← hwc]; exact World.grownBy_alloc _ _ _
  have gd : wc.grownBy wd none := by rw [← hwd]; exact World.grownBy_alloc _ _ _
  have hq : C3 wa w.heap.size (.int .u8 0) (.int .u8 0) (.slice none 0 0) 37 := by rw [← hwa]; exact c3_new _ _ _ _ _
  have hqd := ((hq.grown gb (by simp)).grown gc (by simp)).grown gd (by simp)
  have m0 := hqd.c0
  have m1 := hqd.c1
  have m2 := hqd.c2
  have m3 := hqd.f 0
  have m4 := hqd.f 1
  have m5 := hqd.f 2
  have s1 : w.heap.size ≤ wb.heap.size := Nat.le_trans ga.size gb.size
  have s2 := gc.size
  have r1 : wd.ownsRow w.heap.size 3 1 (.slice (some ⟨wb.heap.size, 0, none⟩) 0 0) 0 [] := by
    have := own_mt (w := wb) s1
    rw [hwc] at this
    exact own_keep this (fun k hk => gd.block k (this.lt k hk).2 (by simp))
  have r2 : wd.ownsRow w.heap.size 3 1 (.slice (some ⟨wc.heap.size, 0, none⟩) 0 0) 0 [] := by
    have := own_mt (w := wc) (Nat.le_trans s1 s2)
    rw [hwd] at this
    exact this
  have HG := Lib.hid (((ga.trans gb).trans gc).trans gd)
  have R1 := Lib.hid r1
  have R2 := Lib.hid r2
  have HQ := Lib.hid hqd
  clear ga gb gc gd hq hqd s1 s2 r1 r2
  go_enter Tryd.func27, Tryd.ntmps27
  go_wp2_with fail
  have HL : C3 (laid3 wd w.heap.size (.int .u8 0) (.int .u8 0) (.slice none 0 0)) w.heap.size (.int .u8 0) (.int .u8 0) (.slice none 0 0) 37 := HQ.out.laid
  have n0 := HL.c0
  have n1 := HL.c1
  have n2 := HL.c2
  unfold laid3 at n0 n1 n2
  clear m0 m1 m2 m3 m4 m5
  refine bodyPost_ret (v := .tuple #[.agg #[.int .u8 0, .int .u8 0, .slice none 0 0], .slice (some ⟨wb.heap.size, 0, none⟩) 0 0, .slice (some ⟨wc.heap.size, 0, none⟩) 0 0, .bool false]) (by simp [results, Tryd.results27, go_sem, n0, n1, n2]) rfl ?_
  exact bldP_none HR.out (gr_laid3n HG.out (Nat.le_refl _) _ _ _) rfl (own_laid R1.out HQ.out) (own_laid R2.out HQ.out)


/-- Between two rounds. -/
def BLd (w : World) (s : ByteArray) (pv hv lv : Value) (j : Nat) (W : World) : Prop := ∃ m v0 v1 v2 xs, runB ((cutB s).take j) ([], []) = some m ∧ Told7 j m ∧ BM w s pv hv lv (htsB ((cutB s).take j) ([], [])) (lvsB ((cutB s).take j) ([], [])) m v0 v1 v2 xs W

/-- Ahead of the first one. -/
theorem bld_start {w wa wb wc wd we : World} {s : ByteArray} {pv : Value} (hwa : w.alloc (.cells #[.int .u8 0, .int .u8 0, .slice none 0 0] 37) = wa) (hwb : wa.alloc (.cells #[.slice none 0 0, .slice none 0 0, .slice none 0 0] 59) = wb) (hwc : wb.alloc (.cells #[] 3) = wc) (hwd : wc.alloc (.cells #[] 3) = wd)
    (hg : wd.grownBy we none) (ho : we.ownsRow wd.heap.size 9 1 pv (cutB s).length (stV (cutB s))) : BLd w s pv (.slice (some ⟨wb.heap.size, 0, none⟩) 0 0) (.slice (some ⟨wc.heap.size, 0, none⟩) 0 0) 0 we := by
  have ga : w.grownBy wa none := by rw [← hwa]; exact World.grownBy_alloc _ _ _
  have gb : wa.grownBy wb none := by rw [← hwb]; exact World.grownBy_alloc _ _ _
  have gc : wb.grownBy wc none := by rw [← hwc]; exact World.grownBy_alloc _ _ _
  have gd : wc.grownBy wd none := by rw [← hwd]; exact World.grownBy_alloc _ _ _
  have za : wa.heap.size = w.heap.size + 1 := by rw [← hwa]; simp
  have zb : wb.heap.size = wa.heap.size + 1 := by rw [← hwb]; simp
  have zc : wc.heap.size = wb.heap.size + 1 := by rw [← hwc]; simp
  have zd : wd.heap.size = wc.heap.size + 1 := by rw [← hwd]; simp
  have hq : C3 wa w.heap.size (.int .u8 0) (.int .u8 0) (.slice none 0 0) 37 := by rw [← hwa]; exact c3_new _ _ _ _ _
  have hb : C3 wb (w.heap.size + 1) (.slice none 0 0) (.slice none 0 0) (.slice none 0 0) 59 := by rw [← hwb, ← za]; exact c3_new _ _ _ _ _
  have r1 : we.ownsRow (w.heap.size + 1) 3 1 (.slice (some ⟨wb.heap.size, 0, none⟩) 0 0) 0 [] := by
    have := own_mt (w := wb) (base := w.heap.size + 1) (by omega)
    rw [hwc] at this
    have h2 := own_keep this (fun k hk => gd.block k (this.lt k hk).2 (by simp))
    exact own_keep h2 (fun k hk => hg.block k (h2.lt k hk).2 (by simp))
  have r2 : we.ownsRow (w.heap.size + 1) 3 1 (.slice (some ⟨wc.heap.size, 0, none⟩) 0 0) 0 [] := by
    have := own_mt (w := wc) (base := w.heap.size + 1) (by omega)
    rw [hwd] at this
    exact own_keep this (fun k hk => hg.block k (this.lt k hk).2 (by simp))
  have gall := ((gb.trans gc).trans gd).trans hg
  have gal2 := (gc.trans gd).trans hg
  refine ⟨([], []), .slice none 0 0, .slice none 0 0, .slice none 0 0, [], rfl, told7_nil, ⟨ga.trans gall, hq.grown gall (by simp), ?_, r1, r2, ?_, ⟨Nat.le_refl _, hb.grown gal2 (by simp), ⟨rfl, .inl ⟨rfl, rfl⟩⟩, trivial, ⟨rfl, .inl ⟨rfl, rfl⟩⟩, ⟨rfl, .inl ⟨rfl, rfl⟩⟩⟩, ?_, ?_, ?_⟩⟩
  · exact own_base ho (by omega)
  · intro g h1 h2
    cases h1
    have h3 : wc.heap.size = wb.heap.size := Option.some.inj h2
    omega
  · intro g _ e; cases e
  · intro g _ e; cases e
  · intro g _ e; cases e

theorem BM.chg {w W W' : World} {s : ByteArray} {pv hv lv : Value} {hl ll : List Int} {m : MS} {v0 v1 v2 : Value} {xs : List (Int × Int × Value)} (h : BM w s pv hv lv hl ll m v0 v1 v2 xs W) (hc : Chg (BW (w.heap.size + 1) v0 v1 v2) W W') : w.grownBy W' none ∧ C3 W' w.heap.size (.int .u8 0) (.int .u8 0) (.slice none 0 0) 37 := by
  have hge : ∀ k, BW (w.heap.size + 1) v0 v1 v2 k → w.heap.size + 1 ≤ k := fun k e => by
    rcases e with e | e | e | e
    · omega
    · exact (h.bs.st.lt k e).1
    · exact (h.bs.lo.lt k e).1
    · exact (h.bs.ba.lt k e).1
  exact ⟨⟨hc.os.trans h.gr.os, hc.tape.trans h.gr.tape, hc.output.trans h.gr.output, Nat.le_trans h.gr.size hc.size, fun k hk _ => (hc.same k (Nat.lt_of_lt_of_le hk h.gr.size) (fun e => by have := hge k e; omega)).trans (h.gr.block k hk (by simp))⟩,
    (hc.same _ h.q.lt (fun e => by have := hge _ e; omega)).trans h.q⟩

theorem runB_take {l : List ByteArray} {j : Nat} {x : ByteArray} (h : l[j]? = some x) : l.take (j + 1) = l.take j ++ [x] := by
  have hj : j < l.length := by
    rcases Nat.lt_or_ge j l.length with h' | h'
    · exact h'
    · rw [List.getElem?_eq_none h'] at h; cases h
  rw [List.take_add_one, h]; rfl

theorem sn_sign {w : World} {S : Nat → Prop} {t : Tm} {x : Int × Int × Value} (ho : t.Ok) (h : SN w S t x) : x.1 ≠ 0 := by
  cases t with
  | dig c => rw [h.1]; decide
  | var c => rw [h.1]; decide
  | pre c s => rw [h.1]; intro e; have := ho.1; rw [e] at this; exact absurd this (by decide)
  | two c s t => rw [h.1]; intro e; have := ho.1; rw [e] at this; exact absurd this (by decide)
  | loop c v s t => rw [h.1]; intro e; have := ho.1; rw [e] at this; exact absurd this (by decide)
theorem row0_laid {w : World} {q : Nat} {v x y z x' y' z' : Value} (h : w.ownsRow 0 37 3 v 0 []) (hq : C3 w q x y z 37) : (laid3 w q x' y' z').ownsRow 0 37 3 v 0 [] := by
  rcases h.2 with h0 | ⟨g, cap, cur, hv, hb, hg, hnc, hcm, hcs, htake⟩
  · exact ⟨h.1, .inl h0⟩
  · by_cases e : g = q
    · subst e
      have h2 := hq
      unfold C3 at h2
      rw [hg] at h2
      cases h2
      exact ⟨h.1, .inr ⟨g, cap, #[x', y', z'], hv, hb, hq.laid, hnc, hcm, by simpa using hcs, by simp⟩⟩
    · have hc : Chg (fun k => k = q) w (laid3 w q x' y' z') := chg_laid (Chg.refl _ _) rfl
      exact hc.own h (fun k hk e2 => by rw [hv] at hk; cases hk; exact e e2)
theorem rowN_laid {w : World} {q n : Nat} {v y z x' y' z' : Value} {N : Int × Int × Value} {l : List (Int × Int × Value)} (h : w.ownsRow 0 37 3 v n (flat3 (N :: l))) (hn : N.1 ≠ 0) (hq : C3 w q (.int .u8 0) y z 37) : (laid3 w q x' y' z').ownsRow 0 37 3 v n (flat3 (N :: l)) := by
  have hc : Chg (fun k => k = q) w (laid3 w q x' y' z') := chg_laid (Chg.refl _ _) rfl
  refine hc.own h (fun k hk e => ?_)
  subst e
  obtain ⟨A, k1, c, rfl⟩ := own_form h
  rcases h.2 with ⟨hv, h0⟩ | ⟨g, cap, cur, hv, hb, hg, hnc, hcm, hcs, htake⟩
  · rw [hv] at hk; cases hk
  · cases hv
    cases hk
    have h1 := own_cell (i := 0) h (x := .int .u8 N.1) rfl
    rw [hq.c0] at h1
    exact hn (by simpa using h1.symm)
theorem sn_laid {w : World} {q : Nat} {y z x' y' z' : Value} {S : Nat → Prop} (hq : C3 w q (.int .u8 0) y z 37) : ∀ (t : Tm) (x : Int × Int × Value), t.Ok → SN w S t x → SN (laid3 w q x' y' z') S t x := by
  intro t
  induction t with
  | dig c => exact fun x _ ⟨h1, h2, ho, hS⟩ => ⟨h1, h2, row0_laid ho hq, hS⟩
  | var c => exact fun x _ ⟨h1, h2, ho, hS⟩ => ⟨h1, h2, row0_laid ho hq, hS⟩
  | pre c s ih => exact fun x hk ⟨h1, h2, y, ho, hS, h3⟩ => ⟨h1, h2, y, rowN_laid ho (sn_sign hk.2 h3) hq, hS, ih y hk.2 h3⟩
  | two c s t ih1 ih2 => exact fun x hk ⟨h1, h2, y, z, ho, hS, h3, h4⟩ => ⟨h1, h2, y, z, rowN_laid ho (sn_sign hk.2.1 h3) hq, hS, ih1 y hk.2.1 h3, ih2 z hk.2.2 h4⟩
  | loop c v s t ih1 ih2 => exact fun x hk ⟨h1, h2, y, z, ho, hS, h3, h4⟩ => ⟨h1, h2, y, z, rowN_laid ho (sn_sign hk.2.2.1 h3) hq, hS, ih1 y hk.2.2.1 h3, ih2 z hk.2.2.2 h4⟩

set_option maxRecDepth 100000 in
set_option maxHeartbeats 4000000 in
theorem bld_any (s : ByteArray) (w : World) :
    Calls Tryd.prog 27 #[.string s] w (BldP s w) := by
  by_cases hs : 200 < s.size
  · exact bld_long s w hs
  obtain ⟨i0, hi0, hz0, hz1, hz2⟩ := info_parts infoIn
  have hd : ¬ (((s.size : Nat) : Int) > 200) := by omega
  have HS := Lib.hid hs
  obtain ⟨n, hn⟩ : ∃ n, (cutB s).length = n := ⟨_, rfl⟩
  have hn2 : n ≤ 201 := by have := cutB_len s; omega
  have HC := Lib.hid (fun w => scut_any s (by omega) w)
  have HN := Lib.hid hn
  obtain ⟨ns, hns⟩ : ∃ n, s.size = n := ⟨_, rfl⟩
  rw [hns] at hd
  obtain ⟨wa, hwa⟩ : ∃ z, w.alloc (.cells #[.int .u8 0, .int .u8 0, .slice none 0 0] 37) = z := ⟨_, rfl⟩
  obtain ⟨wb, hwb⟩ : ∃ z, wa.alloc (.cells #[.slice none 0 0, .slice none 0 0, .slice none 0 0] 59) = z := ⟨_, rfl⟩
  obtain ⟨wc, hwc⟩ : ∃ z, wb.alloc (.cells #[] 3) = z := ⟨_, rfl⟩
  obtain ⟨wd, hwd⟩ : ∃ z, wc.alloc (.cells #[] 3) = z := ⟨_, rfl⟩
  have HST := Lib.hid (fun we pv => bld_start (w := w) (we := we) (s := s) (pv := pv) hwa hwb hwc hwd)
  have HZA := Lib.hid (show wa.heap.size = w.heap.size + 1 by rw [← hwa]; simp)
  clear hs hn
  go_enter Tryd.func27, Tryd.ntmps27
  go_wp2_with fail
  refine (HC.out wd).mono ?_
  rintro e we ⟨pv, rfl, hge, hoe⟩
  obtain ⟨PA, pk, pc, rfl⟩ := own_form hoe
  obtain rfl := own_len hoe
  have HB0 := Lib.hid (HST.out we _ hge hoe)
  clear hge hoe HST hwa hwb hwc hwd
  rw [HN.out] at HB0
  rw [HN.out]
  go_wp2_with fail
  go_loopw [7, 8, 25] (fun h l i wr => ∃ (j : Nat) (A1 A2 : Option Addr) (c1 c2 : Nat), j ≤ n ∧ i = .int .i64 j ∧ h = .slice A1 j c1 ∧ l = .slice A2 j c2 ∧ Hid (BLd w s (.slice PA n pc) (.slice A1 j c1) (.slice A2 j c2) j wr)) (fun _ _ i _ => n - (intOf i).toNat)
  case atStart => exact ⟨0, _, _, 0, 0, Nat.zero_le _, rfl, rfl, rfl, HB0⟩
  case round =>
    obtain ⟨j, A1, A2, c1, c2, hjn, rfl, rfl, rfl, hB⟩ := hrel
    clear HB0
    obtain ⟨m, v0, v1, v2, xs, hrun, hT, hM⟩ := hB.out
    have HB := Lib.hid hB.out
    clear hB
    have HM := Lib.hid hM
    by_cases hlt : j < n
    · obtain ⟨x, hx⟩ : ∃ x, (cutB s)[j]? = some x := ⟨_, List.getElem?_eq_getElem (by rw [HN.out]; exact hlt)⟩
      have hpc := hM.pc
      rw [HN.out] at hpc
      rcases hpc.2 with ⟨_, h0⟩ | ⟨pg, cap, cur, hv, _, _, hpn, _, _, _⟩
      · omega
      cases hv
      have hcell : wr.cell? ⟨pg, j, none⟩ = some (.string x) := own_cell hpc (by simp [stV, hx])
      obtain ⟨A3, k3, c3, rfl⟩ := own_form hM.bs.lo
      have hk3 := own_len hM.bs.lo
      subst hk3
      have hbs := hM.bs
      rw [← HZA.out] at hbs
      have b1 := hbs.box.c1
      have HD := Lib.hid (sdo_any wa.heap.size wa.heap.size x j m hT (by omega) v0 _ v2 xs wr hbs (by have := hbs.box.lt; omega))
      have HX := Lib.hid hx
      have HRT := Lib.hid (And.intro hrun hT)
      have hlv : m.2.length ≤ 201 := by have := hT.lv; omega
      obtain ⟨lz, hlz⟩ : ∃ z, m.2.length = z := ⟨_, rfl⟩
      have HLZ := Lib.hid hlz
      rw [hlz] at b1 HD HM hlv
      clear hpc hM hbs hx hrun hT hlz
      cases hsx : stepB x m with
      | none =>
        rw [hsx] at HD
        have HNO := Lib.hid (codeT_run HS.out (runB_snoc_none HRT.out.1 hsx _ ⟨(cutB s).drop (j + 1), by rw [← runB_take HX.out]; exact List.take_append_drop _ _⟩))
        clear hsx
        go_wp2_with fail
        refine HD.out.mono ?_
        rintro e w2 hd
        obtain rfl : e = .returned (.bool false) := doP_ret hd
        have hc := hd.1
        rw [HZA.out] at hc
        obtain ⟨hg2, hq2⟩ := HM.out.chg hc
        obtain ⟨w3, hw3⟩ : ∃ z, w2.alloc (.cells #[] 3) = z := ⟨_, rfl⟩
        obtain ⟨w4, hw4⟩ : ∃ z, w3.alloc (.cells #[] 3) = z := ⟨_, rfl⟩
        have g3 : w2.grownBy w3 none := by rw [← hw3]; exact World.grownBy_alloc _ _ _
        have g4 : w3.grownBy w4 none := by rw [← hw4]; exact World.grownBy_alloc _ _ _
        have hq4 := (hq2.grown g3 (by simp)).grown g4 (by simp)
        have r1 : w4.ownsRow w.heap.size 3 1 (.slice (some ⟨w2.heap.size, 0, none⟩) 0 0) 0 [] := by
          have := own_mt (w := w2) (base := w.heap.size) hg2.size
          rw [hw3] at this
          exact own_keep this (fun k hk => g4.block k (this.lt k hk).2 (by simp))
        have r2 : w4.ownsRow w.heap.size 3 1 (.slice (some ⟨w3.heap.size, 0, none⟩) 0 0) 0 [] := by
          have := own_mt (w := w3) (base := w.heap.size) (Nat.le_trans hg2.size g3.size)
          rw [hw4] at this
          exact this
        have m0 := hq4.c0
        have m1 := hq4.c1
        have m2 := hq4.c2
        have m3 := hq4.f 0
        have m4 := hq4.f 1
        have m5 := hq4.f 2
        have HQ := Lib.hid hq4
        have R1 := Lib.hid r1
        have R2 := Lib.hid r2
        have HG := Lib.hid ((hg2.trans g3).trans g4)
        clear hd hc hg2 hq2 g3 g4 hq4 r1 r2 b1 hcell
        go_wp2_with fail
        have HL : C3 (laid3 w4 w.heap.size (.int .u8 0) (.int .u8 0) (.slice none 0 0)) w.heap.size (.int .u8 0) (.int .u8 0) (.slice none 0 0) 37 := HQ.out.laid
        have n0 := HL.c0
        have n1 := HL.c1
        have n2 := HL.c2
        unfold laid3 at n0 n1 n2
        clear m0 m1 m2 m3 m4 m5
        refine bodyPost_ret (v := .tuple #[.agg #[.int .u8 0, .int .u8 0, .slice none 0 0], .slice (some ⟨w2.heap.size, 0, none⟩) 0 0, .slice (some ⟨w3.heap.size, 0, none⟩) 0 0, .bool false]) (by simp [results, Tryd.results27, go_sem, n0, n1, n2]) rfl ?_
        exact bldP_none HNO.out (gr_laid3n HG.out (Nat.le_refl _) _ _ _) rfl (own_laid R1.out HQ.out) (own_laid R2.out HQ.out)
      | some m' =>
        rw [hsx] at HD
        have HSX := Lib.hid hsx
        clear hsx
        go_wp2_with fail
        refine HD.out.mono ?_
        rintro e w2 hd
        obtain rfl : e = .returned (.bool true) := doP_ret hd
        obtain ⟨hc, _, u0, u1, u2, xs', hb, f0, f1, f2⟩ := hd
        rw [HZA.out] at hc hb
        have hM2 := HM.out.did hc hb f1 f2
        obtain ⟨A4, k4, c4, rfl⟩ := own_form hb.lo
        have hk4 := own_len hb.lo
        subst hk4
        obtain ⟨A5, k5, c5, rfl⟩ := own_form hb.st
        have hk5 := own_len hb.st
        subst hk5
        have hbx := hb.box
        rw [← HZA.out] at hbx
        have d0 := hbx.c0
        have d1 := hbx.c1
        have HM2 := Lib.hid hM2
        clear hc hb f0 f1 f2 hM2 hbx b1 hcell
        have hlo := HM2.out.lo
        have hl1 := own_len hlo
        rw [← hl1] at hlo
        have HL1 := Lib.hid hl1
        have HSZ := Lib.hid HM2.out.gr.size
        clear hl1
        have own1 := hlo.alloc (.cells #[.int .i64 (min (lz : Int) (m'.2.length : Int))] 3)
        go_wp2_with (at_builtin; refine wpList_append_own_at _ rfl _ _ 29 rfl (w.heap.size + 1) 3 i0 (.int .i64 0) 1 8 Tryd.underlying29 hi0 hz0 hz1 hz2 rfl (by decide) _ _ _ rfl own1 ⟨w2.heap.size, 0, none⟩ 1 1 [.int .i64 (min (lz : Int) (m'.2.length : Int))] rfl rfl ?a1 ?a2 ?a3 ?a4 ?a5 ?_)
        case a1 => exact cell_one_new _ _ _
        case a2 => simp [Value.oneCell']
        case a3 => simp only [maxLen]; omega
        case a4 => omega
        case a5 => have := HSZ.out; rw [World.size_alloc]; omega
        intro v8 w8 hown8 hg8 _ hb8
        obtain ⟨A8, k8, c8, rfl⟩ := own_form hown8
        have hk8 := own_len hown8
        subst hk8
        have hM3 := (HM2.out.grown (World.grownBy_alloc w2 (.cells #[.int .i64 (min (lz : Int) (m'.2.length : Int))] 3) none)).addL hg8 (by rw [← HL1.out]; exact hown8) (hb8.imp id (fun e => ⟨_, e, by simp⟩))
        have hbx := hM3.bs.box
        rw [← HZA.out] at hbx
        have e0 := hbx.c0
        have hho := hM3.ho
        have hl2 := own_len hho
        rw [← hl2] at hho
        have HL2 := Lib.hid hl2
        have HSZ8 := Lib.hid hM3.gr.size
        have HM3 := Lib.hid hM3
        have HLX := Lib.hid (bs_len hM3.bs)
        clear hl2 hM3 hbx hown8 hg8 hb8 own1 hlo d0 d1
        have own2 := hho.alloc (.cells #[.int .i64 (xs'.length : Int)] 3)
        go_wp2_with (at_builtin; refine wpList_append_own_at _ rfl _ _ 29 rfl (w.heap.size + 1) 3 i0 (.int .i64 0) 1 8 Tryd.underlying29 hi0 hz0 hz1 hz2 rfl (by decide) _ _ _ rfl own2 ⟨w8.heap.size, 0, none⟩ 1 1 [.int .i64 (xs'.length : Int)] rfl rfl ?a1 ?a2 ?a3 ?a4 ?a5 ?_)
        case a1 => exact cell_one_new _ _ _
        case a2 => simp [Value.oneCell']
        case a3 => simp only [maxLen]; omega
        case a4 => omega
        case a5 => have := HSZ8.out; rw [World.size_alloc]; omega
        intro v9 w9 hown9 hg9 _ hb9
        obtain ⟨A9, k9, c9, rfl⟩ := own_form hown9
        have hk9 := own_len hown9
        subst hk9
        have hM4 := (HM3.out.grown (World.grownBy_alloc w8 (.cells #[.int .i64 (xs'.length : Int)] 3) none)).addH hg9 (by rw [← HL2.out]; exact hown9) (hb9.imp id (fun e => ⟨_, e, by simp⟩))
        have HM4 := Lib.hid hM4
        clear hM4 hown9 hg9 hb9 own2 hho e0
        go_wp2_with fail
        go_roundw
        case rel =>
          have e1 : (xs'.length : Int) = (hgt m' : Int) := by rw [hgt_eq, HLX.out]
          have e2 : min (lz : Int) (m'.2.length : Int) = ((min m.2.length m'.2.length : Nat) : Int) := by rw [HLZ.out]; omega
          have e3 : htsB ((cutB s).take (j + 1)) ([], []) = htsB ((cutB s).take j) ([], []) ++ [(xs'.length : Int)] := by rw [runB_take HX.out, htsB_snoc _ _ _ _ _ HRT.out.1 HSX.out, e1]
          have e4 : lvsB ((cutB s).take (j + 1)) ([], []) = lvsB ((cutB s).take j) ([], []) ++ [min (lz : Int) (m'.2.length : Int)] := by rw [runB_take HX.out, lvsB_snoc _ _ _ _ _ HRT.out.1 HSX.out, e2]
          have h5 := HM4.out
          rw [← e3, ← e4] at h5
          have h6 : runB ((cutB s).take (j + 1)) ([], []) = some m' := by rw [runB_take HX.out, runB_snoc HRT.out.1]; exact HSX.out
          exact ⟨j + 1, A9, A8, c9, c8, hlt, by go_num, rfl, rfl, Lib.hid ⟨m', _, _, _, xs', h6, HRT.out.2.step HSX.out, h5⟩⟩
        case measure => simp [intOf]; omega
    · obtain rfl : j = n := by omega
      rw [List.take_of_length_le (Nat.le_of_eq HN.out)] at hrun HM
      obtain ⟨A3, k3, c3, rfl⟩ := own_form hM.bs.lo
      have hk3 := own_len hM.bs.lo
      subst hk3
      obtain ⟨A5, k5, c5, rfl⟩ := own_form hM.bs.st
      have hk5 := own_len hM.bs.st
      subst hk5
      have hbx := hM.bs.box
      rw [← HZA.out] at hbx
      have d0 := hbx.c0
      have d1 := hbx.c1
      have hlen := bs_len hM.bs
      have hT7 := hT.lv
      have hTg := hT.hg
      rw [hgt_eq] at hTg
      obtain ⟨nx, hnx⟩ : ∃ z, xs.length = z := ⟨_, rfl⟩
      obtain ⟨lz, hlz⟩ : ∃ z, m.2.length = z := ⟨_, rfl⟩
      have HNX := Lib.hid hnx
      have HLZ := Lib.hid hlz
      rw [hnx] at d0 hlen HM
      rw [hlz] at d1 hT7 HM
      have HRT := Lib.hid (And.intro hrun hT)
      by_cases h1 : nx = 1
      · by_cases h2 : lz = 0
        · obtain ⟨ts, os⟩ := m
          simp only at hlz
          subst h2
          obtain rfl : os = [] := List.length_eq_zero_iff.1 hlz
          obtain ⟨⟨na, nc, nv⟩, rfl⟩ : ∃ N, xs = [N] := List.length_eq_one_iff.1 (by omega)
          obtain ⟨t, rfl⟩ : ∃ t, ts = [t] := List.length_eq_one_iff.1 (by simp [low] at hlen; omega)
          subst h1
          have hsn := hM.bs.sn.1
          obtain ⟨A, k, d, hnv⟩ := hsn.form
          simp only at hnv
          subst hnv
          have hst := hM.bs.st
          simp only [List.length_cons, List.length_nil] at hst
          rcases hst.2 with ⟨_, h0⟩ | ⟨g, cap, cur, hv, _, _, hgc, _, _, _⟩
          · omega
          cases hv
          have hrow : ∀ W, wr.grownBy W none → W.cell? ⟨g, 0, none⟩ = some (.int .u8 na) ∧ W.cell? ⟨g, 1, none⟩ = some (.int .u8 nc) ∧ W.cell? ⟨g, 2, none⟩ = some (.slice A k d) := fun W hg =>
            ⟨hg.cell (own_cell (i := 0) hst rfl) (by simp), hg.cell (own_cell (i := 1) hst rfl) (by simp), hg.cell (own_cell (i := 2) hst rfl) (by simp)⟩
          obtain ⟨u0, u1, u2⟩ := hrow wr (gr_refl _ _)
          have hwt := whole_told (by have := HS.out; omega) hrun rfl
          have HOK := Lib.hid hwt
          have HTX := Lib.hid (stxt_any t _ na nc A k d wr hwt.1 (by omega) hsn)
          have hzz := bytesOf_size t.txt
          have HTV := Lib.hid (fun w => tvalid_spec (bytesOf t.txt) (by omega) w)
          have HROW := Lib.hid hrow
          have HSN := Lib.hid hsn
          have HBX := Lib.hid hbx
          clear hbx hrun hT hM hlen hnx hlz hT7 hTg hst hrow hwt hzz hsn
          go_wp2_with fail
          refine HTX.out.mono ?_
          rintro e wt ⟨rfl, hgt⟩
          have HGT := Lib.hid hgt
          clear hgt
          go_wp2_with fail
          refine (HTV.out wt).mono ?_
          rintro e wv ⟨rfl, hgv⟩
          have HGV := Lib.hid (HGT.out.trans hgv)
          rw [tvalid_txt HOK.out.1]
          clear hgv
          by_cases h80 : t.txt.length ≤ 80
          · rw [decide_eq_true h80]
            have HYES := Lib.hid (show codeT s = some t by rw [codeT_some HS.out HRT.out.1 (t := t) rfl, if_pos h80])
            have hMv := HM.out.grown HGV.out
            obtain ⟨p0, p1, p2⟩ := HROW.out wv HGV.out
            have hxv := HBX.out.grown HGV.out (by simp)
            have q0 := hxv.c0
            have m0 := hMv.q.c0
            have m1 := hMv.q.c1
            have m2 := hMv.q.c2
            have m3 := hMv.q.f 0
            have m4 := hMv.q.f 1
            have m5 := hMv.q.f 2
            have HMV := Lib.hid hMv
            clear d0 d1 u0 u1 u2 hMv hxv h80
            go_wp2_with fail
            have HL : C3 (laid3 wv w.heap.size (.int .u8 na) (.int .u8 nc) (.slice A k d)) w.heap.size (.int .u8 na) (.int .u8 nc) (.slice A k d) 37 := HMV.out.q.laid
            have n0 := HL.c0
            have n1 := HL.c1
            have n2 := HL.c2
            unfold laid3 at n0 n1 n2
            clear m0 m1 m2 m3 m4 m5 p0 p1 p2 q0
            refine bodyPost_ret (v := .tuple #[.agg #[.int .u8 na, .int .u8 nc, .slice A k d], .slice A1 j c1, .slice A2 j c2, .bool true]) (by simp [results, Tryd.results27, go_sem, n0, n1, n2]) rfl ?_
            have hsv := sn_laid (x' := .int .u8 na) (y' := .int .u8 nc) (z' := .slice A k d) HMV.out.q t _ HOK.out.1 (HSN.out.grown HGV.out)
            have ho1 := own_laid (x' := .int .u8 na) (y' := .int .u8 nc) (z' := .slice A k d) HMV.out.ho HMV.out.q
            have ho2 := own_laid (x' := .int .u8 na) (y' := .int .u8 nc) (z' := .slice A k d) HMV.out.lo HMV.out.q
            have l1 := own_len ho1
            have l2 := own_len ho2
            rw [← l1] at ho1
            rw [← l2] at ho2
            unfold BldP
            rw [HYES.out]
            refine ⟨gr_laid3n HMV.out.gr (Nat.le_refl _) _ _ _, na, nc, A, k, d, _, _, rfl, SN.keepT (fun _ _ _ _ h => h) (fun _ _ _ => trivial) _ _ hsv, ?_, ?_⟩
            · rw [HN.out]; exact own_base ho1 (by omega)
            · rw [HN.out]; exact own_base ho2 (by omega)
          · rw [decide_eq_false h80]
            have HNO := Lib.hid (show codeT s = none by rw [codeT_some HS.out HRT.out.1 (t := t) rfl, if_neg h80])
            clear h80 d0 d1 u0 u1 u2
            obtain ⟨w3, hw3⟩ : ∃ z, wv.alloc (.cells #[] 3) = z := ⟨_, rfl⟩
            obtain ⟨w4, hw4⟩ : ∃ z, w3.alloc (.cells #[] 3) = z := ⟨_, rfl⟩
            have g3 : wv.grownBy w3 none := by rw [← hw3]; exact World.grownBy_alloc _ _ _
            have g4 : w3.grownBy w4 none := by rw [← hw4]; exact World.grownBy_alloc _ _ _
            have hg2 : w.grownBy wv none := HM.out.gr.trans HGV.out
            have hq2 : C3 wv w.heap.size (.int .u8 0) (.int .u8 0) (.slice none 0 0) 37 := HM.out.q.grown HGV.out (by simp)
            have hq4 := (hq2.grown g3 (by simp)).grown g4 (by simp)
            have r1 : w4.ownsRow w.heap.size 3 1 (.slice (some ⟨wv.heap.size, 0, none⟩) 0 0) 0 [] := by
              have := own_mt (w := wv) (base := w.heap.size) hg2.size
              rw [hw3] at this
              exact own_keep this (fun k hk => g4.block k (this.lt k hk).2 (by simp))
            have r2 : w4.ownsRow w.heap.size 3 1 (.slice (some ⟨w3.heap.size, 0, none⟩) 0 0) 0 [] := by
              have := own_mt (w := w3) (base := w.heap.size) (Nat.le_trans hg2.size g3.size)
              rw [hw4] at this
              exact this
            have m0 := hq4.c0
            have m1 := hq4.c1
            have m2 := hq4.c2
            have m3 := hq4.f 0
            have m4 := hq4.f 1
            have m5 := hq4.f 2
            have HQ := Lib.hid hq4
            have R1 := Lib.hid r1
            have R2 := Lib.hid r2
            have HG := Lib.hid ((hg2.trans g3).trans g4)
            clear hg2 hq2 g3 g4 hq4 r1 r2
            go_wp2_with fail
            have HL : C3 (laid3 w4 w.heap.size (.int .u8 0) (.int .u8 0) (.slice none 0 0)) w.heap.size (.int .u8 0) (.int .u8 0) (.slice none 0 0) 37 := HQ.out.laid
            have n0 := HL.c0
            have n1 := HL.c1
            have n2 := HL.c2
            unfold laid3 at n0 n1 n2
            clear m0 m1 m2 m3 m4 m5
            refine bodyPost_ret (v := .tuple #[.agg #[.int .u8 0, .int .u8 0, .slice none 0 0], .slice (some ⟨wv.heap.size, 0, none⟩) 0 0, .slice (some ⟨w3.heap.size, 0, none⟩) 0 0, .bool false]) (by simp [results, Tryd.results27, go_sem, n0, n1, n2]) rfl ?_
            exact bldP_none HNO.out (gr_laid3n HG.out (Nat.le_refl _) _ _ _) rfl (own_laid R1.out HQ.out) (own_laid R2.out HQ.out)
        · have HNO := Lib.hid (codeT_whole HS.out hrun (by
            unfold whole
            split
            · simp at hlz; omega
            · rfl))
          have c1' : (((nx : Nat) : Int) != 1) = false := by simp; omega
          have c2' : ((lz : Nat) : Int) > 0 := by omega
          clear hbx hrun hT hM hlen hnx hlz hT7 hTg h1 h2
          obtain ⟨w3, hw3⟩ : ∃ z, wr.alloc (.cells #[] 3) = z := ⟨_, rfl⟩
          obtain ⟨w4, hw4⟩ : ∃ z, w3.alloc (.cells #[] 3) = z := ⟨_, rfl⟩
          have g3 : wr.grownBy w3 none := by rw [← hw3]; exact World.grownBy_alloc _ _ _
          have g4 : w3.grownBy w4 none := by rw [← hw4]; exact World.grownBy_alloc _ _ _
          have hg2 : w.grownBy wr none := HM.out.gr
          have hq2 : C3 wr w.heap.size (.int .u8 0) (.int .u8 0) (.slice none 0 0) 37 := HM.out.q
          have hq4 := (hq2.grown g3 (by simp)).grown g4 (by simp)
          have r1 : w4.ownsRow w.heap.size 3 1 (.slice (some ⟨wr.heap.size, 0, none⟩) 0 0) 0 [] := by
            have := own_mt (w := wr) (base := w.heap.size) hg2.size
            rw [hw3] at this
            exact own_keep this (fun k hk => g4.block k (this.lt k hk).2 (by simp))
          have r2 : w4.ownsRow w.heap.size 3 1 (.slice (some ⟨w3.heap.size, 0, none⟩) 0 0) 0 [] := by
            have := own_mt (w := w3) (base := w.heap.size) (Nat.le_trans hg2.size g3.size)
            rw [hw4] at this
            exact this
          have m0 := hq4.c0
          have m1 := hq4.c1
          have m2 := hq4.c2
          have m3 := hq4.f 0
          have m4 := hq4.f 1
          have m5 := hq4.f 2
          have HQ := Lib.hid hq4
          have R1 := Lib.hid r1
          have R2 := Lib.hid r2
          have HG := Lib.hid ((hg2.trans g3).trans g4)
          clear hg2 hq2 g3 g4 hq4 r1 r2
          go_wp2_with fail
          have HL : C3 (laid3 w4 w.heap.size (.int .u8 0) (.int .u8 0) (.slice none 0 0)) w.heap.size (.int .u8 0) (.int .u8 0) (.slice none 0 0) 37 := HQ.out.laid
          have n0 := HL.c0
          have n1 := HL.c1
          have n2 := HL.c2
          unfold laid3 at n0 n1 n2
          clear m0 m1 m2 m3 m4 m5 d0 d1
          refine bodyPost_ret (v := .tuple #[.agg #[.int .u8 0, .int .u8 0, .slice none 0 0], .slice (some ⟨wr.heap.size, 0, none⟩) 0 0, .slice (some ⟨w3.heap.size, 0, none⟩) 0 0, .bool false]) (by simp [results, Tryd.results27, go_sem, n0, n1, n2]) rfl ?_
          exact bldP_none HNO.out (gr_laid3n HG.out (Nat.le_refl _) _ _ _) rfl (own_laid R1.out HQ.out) (own_laid R2.out HQ.out)
      · have HNO := Lib.hid (codeT_whole HS.out hrun (by
          unfold whole
          split
          · simp [low] at hlen; omega
          · rfl))
        have c1' : (((nx : Nat) : Int) != 1) = true := by simp; omega
        clear hbx hrun hT hM hlen hnx hlz hT7 hTg h1
        obtain ⟨w3, hw3⟩ : ∃ z, wr.alloc (.cells #[] 3) = z := ⟨_, rfl⟩
        obtain ⟨w4, hw4⟩ : ∃ z, w3.alloc (.cells #[] 3) = z := ⟨_, rfl⟩
        have g3 : wr.grownBy w3 none := by rw [← hw3]; exact World.grownBy_alloc _ _ _
        have g4 : w3.grownBy w4 none := by rw [← hw4]; exact World.grownBy_alloc _ _ _
        have hg2 : w.grownBy wr none := HM.out.gr
        have hq2 : C3 wr w.heap.size (.int .u8 0) (.int .u8 0) (.slice none 0 0) 37 := HM.out.q
        have hq4 := (hq2.grown g3 (by simp)).grown g4 (by simp)
        have r1 : w4.ownsRow w.heap.size 3 1 (.slice (some ⟨wr.heap.size, 0, none⟩) 0 0) 0 [] := by
          have := own_mt (w := wr) (base := w.heap.size) hg2.size
          rw [hw3] at this
          exact own_keep this (fun k hk => g4.block k (this.lt k hk).2 (by simp))
        have r2 : w4.ownsRow w.heap.size 3 1 (.slice (some ⟨w3.heap.size, 0, none⟩) 0 0) 0 [] := by
          have := own_mt (w := w3) (base := w.heap.size) (Nat.le_trans hg2.size g3.size)
          rw [hw4] at this
          exact this
        have m0 := hq4.c0
        have m1 := hq4.c1
        have m2 := hq4.c2
        have m3 := hq4.f 0
        have m4 := hq4.f 1
        have m5 := hq4.f 2
        have HQ := Lib.hid hq4
        have R1 := Lib.hid r1
        have R2 := Lib.hid r2
        have HG := Lib.hid ((hg2.trans g3).trans g4)
        clear hg2 hq2 g3 g4 hq4 r1 r2
        go_wp2_with fail
        have HL : C3 (laid3 w4 w.heap.size (.int .u8 0) (.int .u8 0) (.slice none 0 0)) w.heap.size (.int .u8 0) (.int .u8 0) (.slice none 0 0) 37 := HQ.out.laid
        have n0 := HL.c0
        have n1 := HL.c1
        have n2 := HL.c2
        unfold laid3 at n0 n1 n2
        clear m0 m1 m2 m3 m4 m5 d0 d1
        refine bodyPost_ret (v := .tuple #[.agg #[.int .u8 0, .int .u8 0, .slice none 0 0], .slice (some ⟨wr.heap.size, 0, none⟩) 0 0, .slice (some ⟨w3.heap.size, 0, none⟩) 0 0, .bool false]) (by simp [results, Tryd.results27, go_sem, n0, n1, n2]) rfl ?_
        exact bldP_none HNO.out (gr_laid3n HG.out (Nat.le_refl _) _ _ _) rfl (own_laid R1.out HQ.out) (own_laid R2.out HQ.out)
end

section
open Go.RowKit

theorem codeT_ok {s : ByteArray} {t : Tm} (h : codeT s = some t) : t.Ok ∧ t.txt.length ≤ 80 := by
  unfold codeT at h
  by_cases hs : 200 < s.size
  · rw [if_pos hs] at h; cases h
  · rw [if_neg hs] at h
    cases hr : runB (cutB s) ([], []) with
    | none => rw [hr] at h; cases h
    | some m =>
      rw [hr] at h
      simp only at h
      cases hw : whole m with
      | none => rw [hw] at h; cases h
      | some t' =>
        rw [hw] at h
        simp only at h
        split at h
        · cases h
          exact ⟨(whole_told (by omega) hr hw).1, by assumption⟩
        · cases h
def tofV (s : ByteArray) : ByteArray × Bool := match codeT s with
  | some t => (bytesOf t.txt, true)
  | none => (⟨#[]⟩, false)
def TofP (s : ByteArray) (w : World) (e : Ending) (w' : World) : Prop := e = .returned (.tuple #[.string (tofV s).1, .bool (tofV s).2]) ∧ w.grownBy w' none

set_option maxRecDepth 100000 in
set_option maxHeartbeats 1000000 in
theorem tof_spec (s : ByteArray) (w : World) : Calls Tryd.prog 9 #[.string s] w (TofP s w) := by
  have H := Lib.hid (bld_any s w)
  unfold TofP tofV
  cases hc : codeT s with
  | none =>
    simp only
    have HC := Lib.hid hc
    clear hc
    go_enter Tryd.func9, Tryd.ntmps9
    go_wp2_with fail
    refine H.out.mono ?_
    intro e w1 hp
    obtain ⟨hg, hp⟩ := hp
    rw [HC.out] at hp
    obtain ⟨hv, lv, rfl, h1, h2⟩ := hp
    obtain ⟨A1, k1, c1, rfl⟩ := own_form h1
    obtain ⟨A2, k2, c2, rfl⟩ := own_form h2
    have HG := Lib.hid (hg.trans (World.grownBy_alloc w1 (.cells #[.int .u8 0, .int .u8 0, .slice none 0 0] 37) none))
    clear hg h1 h2
    go_wp2_with fail
    go_ret2
    exact ⟨rfl, HG.out⟩
  | some t =>
    simp only
    have HC := Lib.hid hc
    have HOK := Lib.hid (codeT_ok hc)
    clear hc
    go_enter Tryd.func9, Tryd.ntmps9
    go_wp2_with fail
    refine H.out.mono ?_
    intro e w1 hp
    obtain ⟨hg, hp⟩ := hp
    rw [HC.out] at hp
    obtain ⟨a, c, A, k, d, hv, lv, rfl, hsn, h1, h2⟩ := hp
    obtain ⟨A1, k1, c1, rfl⟩ := own_form h1
    obtain ⟨A2, k2, c2, rfl⟩ := own_form h2
    obtain ⟨w2, hw2⟩ : ∃ z, w1.alloc (.cells #[.int .u8 a, .int .u8 c, .slice A k d] 37) = z := ⟨_, rfl⟩
    have g2 : w1.grownBy w2 none := by rw [← hw2]; exact World.grownBy_alloc _ _ _
    have hx : C3 w2 w1.heap.size (.int .u8 a) (.int .u8 c) (.slice A k d) 37 := by rw [← hw2]; exact c3_new _ _ _ _ _
    have x0 := hx.c0
    have x1 := hx.c1
    have x2 := hx.c2
    have HT := Lib.hid (stxt_any t _ a c A k d w2 HOK.out.1 (by have := HOK.out.2; omega) (hsn.grown g2))
    have HG := Lib.hid (hg.trans g2)
    clear hg h1 h2 hsn g2 hx
    go_wp2_with fail
    refine HT.out.mono ?_
    rintro e w3 ⟨rfl, hg3⟩
    have HG3 := Lib.hid (HG.out.trans hg3)
    clear hg3
    go_wp2_with fail
    go_ret2
    exact ⟨rfl, HG3.out⟩

set_option maxRecDepth 100000 in
set_option maxHeartbeats 1000000 in
theorem tof_impl (s : ByteArray) (w : World) : Calls Tryd.prog 10 #[.string s] w (TofP s w) := by
  have H := Lib.hid (readc_any s w)
  unfold TofP tofV
  cases hc : codeT s with
  | none =>
    simp only
    have HC := Lib.hid hc
    clear hc
    go_enter Tryd.func10, Tryd.ntmps10
    go_wp2_with fail
    refine H.out.mono ?_
    intro e w1 hp
    obtain ⟨hg, hp⟩ := hp
    rw [HC.out] at hp
    obtain rfl := hp
    have HG := Lib.hid (hg.trans (World.grownBy_alloc w1 (.cells #[.slice none 0 0, .nilIface] 45) none))
    clear hg
    go_wp2_with fail
    go_ret2
    exact ⟨rfl, HG.out⟩
  | some t =>
    simp only
    have HC := Lib.hid hc
    have HOK := Lib.hid (codeT_ok hc)
    clear hc
    go_enter Tryd.func10, Tryd.ntmps10
    go_wp2_with fail
    refine H.out.mono ?_
    intro e w1 hp
    obtain ⟨hg, hp⟩ := hp
    rw [HC.out] at hp
    obtain ⟨iv, xv, rfl, h1, h2⟩ := hp
    obtain ⟨A1, k1, c1, rfl⟩ := own_form h1
    obtain ⟨ty, pv, rfl⟩ := h2.iface
    obtain ⟨w2, hw2⟩ : ∃ z, w1.alloc (.cells #[.slice A1 k1 c1, .iface ty pv] 45) = z := ⟨_, rfl⟩
    have g2 : w1.grownBy w2 none := by rw [← hw2]; exact World.grownBy_alloc _ _ _
    have hx : Pr w2 w1.heap.size 45 (.slice A1 k1 c1) (.iface ty pv) := by rw [← hw2]; exact Pr.new _ _ _ _
    have x0 := hx.c0
    have x1 := hx.c1
    have HT := Lib.hid (textof_any t _ ty pv w2 HOK.out.1 (h2.grown g2) (by have := HOK.out.2; omega))
    have HG := Lib.hid (hg.trans g2)
    clear hg h1 h2 g2 hx
    go_wp2_with fail
    refine HT.out.mono ?_
    rintro e w3 ⟨rfl, hg3⟩
    have HG3 := Lib.hid (HG.out.trans hg3)
    clear hg3
    go_wp2_with fail
    go_ret2
    exact ⟨rfl, HG3.out⟩

def cvalA (s : ByteArray) : Bool := (codeT s).isSome
theorem tofV_cval (s : ByteArray) : (tofV s).2 = cvalA s := by
  unfold tofV cvalA
  cases codeT s <;> rfl

set_option maxHeartbeats 1000000 in
theorem cval_spec (s : ByteArray) (w : World) : Calls Tryd.prog 11 #[.string s] w fun e w' => e = .returned (.bool (cvalA s)) ∧ w.grownBy w' none := by
  have H := Lib.hid (tof_spec s w)
  unfold TofP at H
  rw [tofV_cval] at H
  generalize (tofV s).1 = x at H
  generalize cvalA s = b at H ⊢
  go_enter Tryd.func11, Tryd.ntmps11
  go_wp2_with fail
  refine H.out.mono ?_
  rintro e w1 ⟨rfl, hg⟩
  have HG := Lib.hid hg
  clear hg
  go_wp2_with fail
  go_ret
  exact ⟨rfl, HG.out⟩

set_option maxHeartbeats 1000000 in
theorem cval_impl (s : ByteArray) (w : World) : Calls Tryd.prog 12 #[.string s] w fun e w' => e = .returned (.bool (cvalA s)) ∧ w.grownBy w' none := by
  have H := Lib.hid (readc_any s w)
  have hx : ∀ e w', ReadP s w e w' → w.grownBy w' none ∧ ∃ iv xv, (∃ A k c, iv = .slice A k c) ∧ (xv = .nilIface ∨ ∃ ty pv, xv = .iface ty pv) ∧ e = .returned (.tuple #[.agg #[iv, xv], .bool (cvalA s)]) := by
    intro e w' hp
    obtain ⟨hg, hp⟩ := hp
    unfold cvalA
    cases hc : codeT s with
    | none =>
      rw [hc] at hp
      exact ⟨hg, _, _, ⟨_, _, _, rfl⟩, .inl rfl, hp⟩
    | some t =>
      rw [hc] at hp
      obtain ⟨iv, xv, rfl, h1, h2⟩ := hp
      exact ⟨hg, iv, xv, own_form h1, .inr h2.iface, rfl⟩
  have HX := Lib.hid hx
  clear hx
  generalize cvalA s = b at HX ⊢
  go_enter Tryd.func12, Tryd.ntmps12
  go_wp2_with fail
  refine H.out.mono ?_
  intro e w1 hp
  obtain ⟨hg, iv, xv, ⟨A, k, c, rfl⟩, hxv, rfl⟩ := HX.out e w1 hp
  have HG := Lib.hid hg
  clear hg hp
  rcases hxv with rfl | ⟨ty, pv, rfl⟩
  all_goals
    go_wp2_with fail
    go_ret
    exact ⟨rfl, HG.out.trans (World.grownBy_alloc _ _ _)⟩
end

end Go.Proofs.YtfaeolnmkdjhaaaDoor

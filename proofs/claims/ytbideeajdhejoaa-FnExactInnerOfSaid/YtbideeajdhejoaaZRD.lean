/- 7 texts in one: Num Rep Loop Parts0 Parts1 Arr Nest. -/
import Derived.Test.YtbideeajdhejoaaStrs0
import Derived.IntWalk
import Derived.Test.YtbideeajdhejoaaOwn
import Derived.Recover
namespace Go.Proofs.Ytbideeajdhejoaa
/- Num -/
section
open Go.RowKit

/-- How readNumber ends. -/
def NumPost (s : ByteArray) (p g : Nat) (w : World) (e : Ending) (w' : World) : Prop :=
  w.grownBy w' (some g) ∧ ((∃ v q, num s p = some (v, q) ∧ e = .returned (.int .i64 (v : Nat)) ∧ Rdr w' g s q) ∨ (num s p = none ∧ Fell e))

theorem numPost_fell {s : ByteArray} {p g : Nat} {w w' : World} {e : Ending} (hn : num s p = none) (hg : w.grownBy w' (some g)) (he : Fell e) : NumPost s p g w e w' :=
  ⟨hg, .inr ⟨hn, he⟩⟩
theorem numPost_ok {s : ByteArray} {p g v q : Nat} {w w' : World} {e : Ending} (hn : num s p = some (v, q)) (hg : w.grownBy w' (some g)) (he : e = .returned (.int .i64 (v : Nat))) (hr : Rdr w' g s q) : NumPost s p g w e w' :=
  ⟨hg, .inl ⟨v, q, hn, he, hr⟩⟩

set_option maxHeartbeats 400000 in
theorem number_none (g p : Nat) (s : ByteArray) (w : World) (h : Rdr w g s p) (hd : dg s p = false) :
    Calls Try.prog 140 #[.pointer (some ⟨g, 0, none⟩)] w (NumPost s p g w) := by
  have hn : num s p = none := num_none (.inl (nd_no hd))
  have H := Lib.hid (digit_any g p s w h false hd)
  have HN := Lib.hid hn
  clear hn hd h
  go_enter Try.func140, Try.ntmps140
  go_wp2_with fail
  refine H.out.mono ?_
  rintro e w' ⟨rfl, n, rfl⟩
  go_wp2_with fail
  exact ⟨rfl, numPost_fell HN.out (gr_drewN w n _) ⟨_, rfl⟩⟩

theorem dg_sub {s : ByteArray} {q : Nat} (h : dg s q = true) : ∃ hq : q < s.size, 48 ≤ (s[q].toNat : Int) ∧ (s[q].toNat : Int) ≤ 57 ∧ ((ba s q - 48).toNat : Int) = (s[q].toNat : Int) - 48 := by
  have hq := dg_lt h
  have := dg_yes h
  rw [ba_in hq] at *
  exact ⟨hq, by omega, by omega, by omega⟩

set_option maxHeartbeats 1000000 in
theorem number_some (g p : Nat) (s : ByteArray) (w : World) (h : Rdr w g s p) (hd : dg s p = true) (hs : s.size ≤ 400) :
    Calls Try.prog 140 #[.pointer (some ⟨g, 0, none⟩)] w (NumPost s p g w) := by
  have H := Lib.hid (digit_any g p s w h true hd)
  have HD := Lib.hid hd
  have HR := Lib.hid h
  have hlt := dg_lt hd
  have hnd : 0 < nd s p := by rw [nd_yes hd]; omega
  have hle := nd_le s p hnd
  clear hd h
  obtain ⟨Z, hZ⟩ : ∃ Z : Bool, decide (ba s p = 48) = Z := ⟨_, rfl⟩
  have HZ := Lib.hid hZ
  clear hZ
  go_enter Try.func140, Try.ntmps140
  go_wp2_with fail
  refine H.out.mono ?_
  rintro e w' ⟨rfl, n, rfl⟩
  go_wp2_with fail
  refine (sees_any g p s 48 _ (HR.out.drewN n) (by omega) Z HZ.out).mono ?_
  rintro e w' ⟨rfl, n2, rfl⟩
  go_wp2_with fail
  go_loopw [4, 5] (fun v d wr => ∃ k : Nat, k ≤ nd s p ∧ d = .int .i64 k ∧ v = .int .i64 (val s p k : Nat) ∧ val s p k < 10007 ∧ Hid (Z = true → k ≤ 1) ∧ Hid (Rdr wr g s (p + k)) ∧ Hid (w.grownBy wr (some g))) (fun _ d _ => nd s p - (intOf d).toNat)
  case atStart => exact ⟨0, Nat.zero_le _, rfl, rfl, by simp [val], Lib.hid (fun _ => Nat.zero_le _), Lib.hid ((HR.out.drewN n).drewN n2), Lib.hid (gr_drewN w _ _)⟩
  case round =>
    obtain ⟨k, hk, rfl, rfl, hv, hz1, hr, hgr⟩ := hrel
    by_cases hlt2 : k < nd s p
    · have hdk := nd_dg s k p hlt2
      have HDK := Lib.hid hdk
      go_wp2_with fail
      refine (digit_any g (p + k) s _ hr.out true HDK.out).mono ?_
      rintro e w' ⟨rfl, n3, rfl⟩
      go_wp2_with fail
      · have hk0 : 0 < k := by assumption
        have hZt : Z = true := by assumption
        refine ⟨rfl, numPost_fell (num_none (.inr (.inl ⟨?_, by omega⟩))) (hgr.out.trans (gr_drewN _ n3 _)) ⟨_, rfl⟩⟩
        have := HZ.out
        rw [hZt] at this
        simpa using this
      all_goals
        have HZK : Hid (Z = true → k = 0) := by
          intro hz
          first
            | (have hzf : Z = false := by assumption
               rw [hzf] at hz; cases hz)
            | omega
        obtain ⟨q, hqe⟩ : ∃ q, p + k = q := ⟨_, rfl⟩
        have HDQ := Lib.hid HDK.out
        have HRQ := Lib.hid hr.out
        rw [hqe] at HDQ HRQ
        have HQE := Lib.hid hqe
        clear hqe
        obtain ⟨hq, h48, h57, hdv⟩ := dg_sub HDQ.out
        have hc0 := HRQ.out.c0
        have hc1 := HRQ.out.c1
        have HDV := Lib.hid hdv
        clear hdv
        have w1 : IntKind.i64.wrap (10 * (val s p k : Int)) = 10 * (val s p k : Int) := IntWalk.i64_in _ (by omega)
        have w2 : IntKind.u8.wrap ((s[q].toNat : Int) - 48) = (s[q].toNat : Int) - 48 := IntWalk.u8_in _ (by omega)
        have w3 : IntKind.i64.wrap ((s[q].toNat : Int) - 48) = (s[q].toNat : Int) - 48 := IntWalk.i64_in _ (by omega)
        have w4 : IntKind.i64.wrap (10 * (val s p k : Int) + ((s[q].toNat : Int) - 48)) = 10 * (val s p k : Int) + ((s[q].toNat : Int) - 48) := IntWalk.i64_in _ (by omega)
        go_quiet (fail)
        clear w1 w2 w3 w4
        have hcf := HRQ.out.f 1
        have hq400 : q < 400 := by omega
        have hvs : ((val s p (k + 1) : Nat) : Int) = 10 * (val s p k : Int) + ((s[q].toNat : Int) - 48) := by
          have e1 := HDV.out
          have e2 := HQE.out
          rw [val, e2]
          omega
        have HVS := Lib.hid hvs
        clear hvs
        have hmn := val_mono s p (k + 1) (nd s p - (k + 1))
        have HMN := Lib.hid hmn
        clear hmn
        go_wp2_with fail
        · have hge : 10007 ≤ 10 * (val s p k : Int) + ((s[q].toNat : Int) - 48) := by assumption
          refine ⟨rfl, numPost_fell (num_none (.inr (.inr ?_))) (hgr.out.trans (gr_drewN _ _ _)) ⟨_, rfl⟩⟩
          have e1 := HVS.out
          have e2 := HMN.out
          rw [show k + 1 + (nd s p - (k + 1)) = nd s p from by omega] at e2
          omega
        · have hlt3 : 10 * (val s p k : Int) + ((s[q].toNat : Int) - 48) < 10007 := by assumption
          have e1 := HVS.out
          go_roundw
          case rel =>
            refine ⟨k + 1, by omega, by go_num, by rw [e1], by omega, Lib.hid (fun hz => by have := HZK.out hz; omega), Lib.hid ?_, Lib.hid ?_⟩
            · have := (HRQ.out.drewN (n3 + nq)).set1 (q + 1)
              rw [show p + (k + 1) = q + 1 from by have := HQE.out; omega]
              simpa using this
            · exact (hgr.out.trans (gr_drewN _ (n3 + nq) _)).trans (gr_set _ _ _ _)
          case measure => simp [intOf]; omega
    · have hk2 : k = nd s p := by omega
      have hst := nd_stop s k p hk2.symm
      have HK := Lib.hid hk2
      have HST := Lib.hid hst
      clear hk2 hst
      go_wp2_with fail
      refine (digit_any g (p + k) s _ hr.out false HST.out).mono ?_
      rintro e w' ⟨rfl, n3, rfl⟩
      go_wp2_with fail
      go_ret
      refine numPost_ok (q := p + nd s p) (num_some (by omega) ?_ ?_) (hgr.out.trans (gr_drewN _ _ _)) ?_ ?_
      · intro hz
        have h1 := hz1.out (by rw [← HZ.out]; simpa using hz)
        have h2 := HK.out
        omega
      · rw [← HK.out]; exact hv
      · rw [← HK.out]; rfl
      · have := hr.out.drewN n3
        rw [HK.out] at this
        exact this

theorem number_any (g p : Nat) (s : ByteArray) (w : World) (h : Rdr w g s p) (hs : s.size ≤ 400) :
    Calls Try.prog 140 #[.pointer (some ⟨g, 0, none⟩)] w (NumPost s p g w) := by
  cases hd : dg s p with
  | true => exact number_some g p s w h hd hs
  | false => exact number_none g p s w h hd
end

/- Rep -/
section
open Go.RowKit

/-- The types of a node, by the depth of its parts. -/
def ptrT : Nat → TypeId
  | 0 => 142
  | _ + 1 => 147
def strT : Nat → TypeId
  | 0 => 146
  | _ + 1 => 151
def elT : Nat → TypeId
  | 0 => 140
  | _ + 1 => 114

/-- A part as it stands in a row: a number, or a node. Its blocks are among S. -/
def Nd (w : World) (S : Nat → Prop) : (d : Nat) → T d → Value → Prop
  | 0, n, v => v = .int .i64 (show Nat from n : Nat)
  | d + 1, ts, v => ∃ b sv xs, v = .iface (ptrT d) (.pointer (some ⟨b, 0, none⟩)) ∧ S b ∧ w.heap[b]? = some (.cells #[sv] (strT d) (0, 0)) ∧
      w.ownsRow 0 (elT d) 1 sv xs.length xs ∧ (∀ g, sv.ownBlock = some g → S g) ∧ All2 (Nd w S d) ts xs

/-- A whole array behind the interface. -/
def RepI (w : World) (S : Nat → Prop) : (d : Nat) → T d → Value → Prop
  | 0, n, v => v = .iface 140 (.int .i64 (show Nat from n : Nat))
  | d + 1, ts, v => Nd w S (d + 1) ts v

theorem Nd.keep {w w' : World} {S S' : Nat → Prop} (hk : ∀ b, S b → b < w.heap.size → w'.heap[b]? = w.heap[b]?) (hs : ∀ b, S b → b < w.heap.size → S' b) : ∀ (d : Nat) (t : T d) (v : Value), Nd w S d t v → Nd w' S' d t v
  | 0, _, _, h => h
  | d + 1, ts, v, ⟨b, sv, xs, hv, hb, hh, ho, hS, ha⟩ => by
    have hl : b < w.heap.size := by
      rcases Nat.lt_or_ge b w.heap.size with hlt | hge
      · exact hlt
      · rw [Array.getElem?_eq_none hge] at hh; cases hh
    have hl2 : ∀ g, sv.ownBlock = some g → g < w.heap.size := fun g hg => (ho.lt g hg).2
    exact ⟨b, sv, xs, hv, hs b hb hl, (hk b hb hl).trans hh, own_keep ho (fun g hg => hk g (hS g hg) (hl2 g hg)), fun g hg => hs g (hS g hg) (hl2 g hg), All2.mono (Nd.keep hk hs d) ts xs ha⟩
theorem RepI.keep {w w' : World} {S S' : Nat → Prop} (hk : ∀ b, S b → b < w.heap.size → w'.heap[b]? = w.heap[b]?) (hs : ∀ b, S b → b < w.heap.size → S' b) : ∀ (d : Nat) (t : T d) (v : Value), RepI w S d t v → RepI w' S' d t v
  | 0, _, _, h => h
  | d + 1, ts, v, h => Nd.keep hk hs (d + 1) ts v h
end

/- Loop -/
section
open Go.RowKit

/-- How readParts ends. -/
def PartsPost (s : ByteArray) (d p g : Nat) (w : World) (e : Ending) (w' : World) : Prop :=
  w.grownBy w' (some g) ∧ ((∃ ts q sv xs, parts s (node s d) p = some (ts, q) ∧ e = .returned sv ∧ Rdr w' g s q ∧
    w'.ownsRow w.heap.size (elT d) 1 sv xs.length xs ∧ All2 (Nd w' (fun b => w.heap.size ≤ b) d) ts xs) ∨ (parts s (node s d) p = none ∧ Fell e))

/-- How a part's reading ends. -/
def ElPost (s : ByteArray) (d p g : Nat) (w : World) (e : Ending) (w' : World) : Prop :=
  w.grownBy w' (some g) ∧ ((∃ t q v, node s d p = some (t, q) ∧ e = .returned v ∧ Rdr w' g s q ∧ Nd w' (fun b => w.heap.size ≤ b) d t v) ∨ (node s d p = none ∧ Fell e))

def cons' {α : Type} (ts : List α) : Option (List α × Nat) → Option (List α × Nat)
  | none => none
  | some (xs, r) => some (ts ++ xs, r)

/-- The place of the reader, out of the world: a loop's measure. -/
def plc (w : World) (g : Nat) : Nat := match w.cell? ⟨g, 1, none⟩ with
  | some v => (intOf v).toNat
  | none => 0
theorem plc_eq {w : World} {g p : Nat} {s : ByteArray} (h : Rdr w g s p) : plc w g = p := by
  unfold plc; rw [h.c1]; simp [intOf]
theorem plc_drewN (w : World) (g n : Nat) : plc (w.drewN n) g = plc w g := rfl

/-- What holds at the head of each round. -/
structure Lf (s : ByteArray) (d g : Nat) (w wr : World) (sv : Value) (ts : List (T d)) (xs : List Value) (q : Nat) : Prop where
  le : q ≤ s.size
  rdr : Rdr wr g s q
  gr : w.grownBy wr (some g)
  own : wr.ownsRow w.heap.size (elT d) 1 sv xs.length xs
  len : xs.length ≤ q
  all : All2 (Nd wr (fun b => w.heap.size ≤ b ∧ sv.ownBlock ≠ some b) d) ts xs

structure Lp (s : ByteArray) (d p g : Nat) (w wr : World) (sv : Value) (ts : List (T d)) (xs : List Value) (f q : Nat) : Prop where
  fuel : s.size < f + q
  com : parts s (node s d) p = cons' ts (more s (node s d) f q)
  lf : Lf s d g w wr sv ts xs q

section
variable {s : ByteArray} {d p g : Nat} {w wr : World} {sv : Value} {ts : List (T d)} {xs : List Value} {f q : Nat}

theorem Lp.pos (h : Lp s d p g w wr sv ts xs f q) : ∃ f', f = f' + 1 := by
  have := h.fuel; have := h.lf.le
  exact ⟨f - 1, by omega⟩

theorem Lp.exit (h : Lp s d p g w wr sv ts xs f q) (hc : ba s q = 93) : parts s (node s d) p = some (ts, q + 1) := by
  obtain ⟨f', rfl⟩ := h.pos
  rw [h.com, more, if_pos hc]
  simp [cons']
theorem Lp.stop1 (h : Lp s d p g w wr sv ts xs f q) (hc : ba s q ≠ 93) (h2 : ba s q ≠ 44) : parts s (node s d) p = none := by
  obtain ⟨f', rfl⟩ := h.pos
  rw [h.com, more, if_neg hc, if_neg h2]
  rfl
theorem Lp.stop2 (h : Lp s d p g w wr sv ts xs f q) (hc : ba s q ≠ 93) (h2 : ba s q = 44) (h3 : node s d (q + 1) = none) : parts s (node s d) p = none := by
  obtain ⟨f', rfl⟩ := h.pos
  rw [h.com, more, if_neg hc, if_pos h2, h3]
  rfl
theorem Lp.next (h : Lp s d p g w wr sv ts xs f q) (hc : ba s q ≠ 93) (h2 : ba s q = 44) {t : T d} {q2 : Nat} (h3 : node s d (q + 1) = some (t, q2)) :
    ∃ f', s.size < f' + q2 ∧ q2 ≤ s.size ∧ q + 1 < q2 ∧ parts s (node s d) p = cons' (ts ++ [t]) (more s (node s d) f' q2) := by
  obtain ⟨f', rfl⟩ := h.pos
  have hg := node_ge s d _ _ _ h3
  have := h.fuel
  refine ⟨f', by omega, hg.2, hg.1, ?_⟩
  rw [h.com, more, if_neg hc, if_pos h2, h3]
  simp only
  cases hm : more s (node s d) f' q2 with
  | none => rfl
  | some r => simp [cons']

/-- A part more: the element was read (world we), laid in a box of its own, and appended (world w2). -/
theorem Lf.step (h : Lf s d g w wr sv ts xs q) {t : T d} {v : Value} {we w2 : World} {q2 : Nat} {sv2 : Value} {o : Obj}
    (hq : q < q2) (hle : q2 ≤ s.size)
    (hge : wr.grownBy we (some g)) (hrd : Rdr we g s q2) (hnd : Nd we (fun b => wr.heap.size ≤ b) d t v)
    (hown : w2.ownsRow w.heap.size (elT d) 1 sv2 (xs.length + 1) (xs ++ [v])) (hg2 : (we.alloc o).grownBy w2 sv.ownBlock)
    (hat : sv2.ownBlock = sv.ownBlock ∨ sv2.ownBlock = some (we.heap.size + 1)) (hgw : g < w.heap.size) :
    Lf s d g w w2 sv2 (ts ++ [t]) (xs ++ [v]) q2 := by
  have hsz : (we.alloc o).heap.size = we.heap.size + 1 := by simp
  have hsw := h.gr.size
  have hse := hge.size
  have hlt := h.own.lt
  have hga : we.grownBy (we.alloc o) (some g) := World.grownBy_alloc _ _ _
  have hsv : ∀ k, sv.ownBlock = some k → w.heap.size ≤ k ∧ k < wr.heap.size := hlt
  refine ⟨hle, ?_, ?_, ?_, ?_, ?_⟩
  · refine (hrd.alloc o).grown hg2 ?_
    intro e
    have := hsv g e.symm
    omega
  · have h1 := h.gr.trans (hge.trans hga)
    refine ⟨hg2.os.trans h1.os, hg2.tape.trans h1.tape, hg2.output.trans h1.output, Nat.le_trans h1.size hg2.size, fun k hk hne => ?_⟩
    exact (hg2.block k (Nat.lt_of_lt_of_le hk h1.size) (fun e => by have := hsv k e.symm; omega)).trans (h1.block k hk hne)
  · simpa using hown
  · simp; have := h.len; omega
  · have hkeep : ∀ b, (w.heap.size ≤ b ∧ sv.ownBlock ≠ some b) → b < wr.heap.size → w2.heap[b]? = wr.heap[b]? := by
      rintro b ⟨hb1, hb2⟩ hb
      rw [hg2.block b (by omega) (fun e => hb2 e.symm), hga.block b (by omega) (by simp; omega), hge.block b hb (by simp; omega)]
    have hne : ∀ b, w.heap.size ≤ b → sv.ownBlock ≠ some b → b < we.heap.size → sv2.ownBlock ≠ some b := by
      intro b hb hb2 hb3 e
      rcases hat with e2 | e2
      · exact hb2 (e2 ▸ e)
      · rw [e2] at e
        simp only [Option.some.injEq] at e
        omega
    refine All2.snoc ?_ ts xs ?_
    · refine Nd.keep ?_ ?_ d t v hnd
      · intro b hb hb2
        rw [hg2.block b (by omega) (fun e => by have := hsv b e.symm; omega), hga.block b (by omega) (by simp; omega)]
      · intro b hb hb2
        exact ⟨by omega, hne b (by omega) (fun e => by have := hsv b e; omega) hb2⟩
    · exact All2.mono (Nd.keep hkeep (fun b hb hb2 => ⟨hb.1, hne b hb.1 hb.2 (by omega)⟩) d) ts xs h.all

theorem Lf.drewN (h : Lf s d g w wr sv ts xs q) (n : Nat) : Lf s d g w (wr.drewN n) sv ts xs q :=
  ⟨h.le, h.rdr.drewN n, h.gr.trans (gr_drewN _ _ _), own_keep h.own (fun _ _ => rfl), h.len, All2.mono (Nd.keep (w := wr) (w' := wr.drewN n) (fun _ _ _ => rfl) (fun _ hb _ => hb) d) ts xs h.all⟩
/-- The reader alone has gone on. -/
theorem Lf.reader (h : Lf s d g w wr sv ts xs q) {w2 : World} {q2 : Nat} (hg : wr.grownBy w2 (some g)) (hr : Rdr w2 g s q2) (hq : q ≤ q2) (hle : q2 ≤ s.size) (hgw : g < w.heap.size) : Lf s d g w w2 sv ts xs q2 := by
  have hb : ∀ b, w.heap.size ≤ b → b < wr.heap.size → w2.heap[b]? = wr.heap[b]? := fun b hb hb2 => hg.block b hb2 (by simp; omega)
  have hl := h.own.lt
  exact ⟨hle, hr, h.gr.trans hg, own_keep h.own (fun k hk => hb k (hl k hk).1 (hl k hk).2), by have := h.len; omega,
    All2.mono (Nd.keep (fun b hb1 hb2 => hb b hb1.1 hb2) (fun _ hb _ => hb) d) ts xs h.all⟩
/-- The row with its parts, when all are read. -/
theorem Lf.done (h : Lf s d g w wr sv ts xs q) : wr.ownsRow w.heap.size (elT d) 1 sv xs.length xs ∧ All2 (Nd wr (fun b => w.heap.size ≤ b) d) ts xs :=
  ⟨h.own, All2.mono (Nd.keep (fun _ _ _ => rfl) (fun _ hb _ => hb.1) d) ts xs h.all⟩
theorem Lf.start {w wa : World} (hr : Rdr wa g s q) (hg : w.grownBy wa (some g)) (hq : q ≤ s.size) : Lf s d g w wa (.slice none 0 0) [] [] q :=
  ⟨hq, hr, hg, World.ownsRow_nil _ _ _ _, Nat.zero_le _, trivial⟩
end
end

/- Parts0 -/
section
open Go.RowKit

theorem el0 {s : ByteArray} {p g : Nat} {w w' : World} {e : Ending} (h : NumPost s p g w e w') : ElPost s 0 p g w e w' := by
  obtain ⟨hg, ⟨v, q, hn, he, hr⟩ | ⟨hn, he⟩⟩ := h
  · exact ⟨hg, .inl ⟨v, q, _, hn, he, hr, rfl⟩⟩
  · exact ⟨hg, .inr ⟨hn, he⟩⟩

theorem parts_fell {s : ByteArray} {d p g : Nat} {w w' : World} {e : Ending} (hn : parts s (node s d) p = none) (hg : w.grownBy w' (some g)) (he : Fell e) : PartsPost s d p g w e w' := ⟨hg, .inr ⟨hn, he⟩⟩
theorem parts_ok {s : ByteArray} {d p g q : Nat} {w w' : World} {e : Ending} {ts : List (T d)} {xs : List Value} {sv : Value} (hn : parts s (node s d) p = some (ts, q)) (hg : w.grownBy w' (some g)) (he : e = .returned sv) (hr : Rdr w' g s q)
    (ho : w'.ownsRow w.heap.size (elT d) 1 sv xs.length xs) (ha : All2 (Nd w' (fun b => w.heap.size ≤ b) d) ts xs) : PartsPost s d p g w e w' := ⟨hg, .inl ⟨ts, q, sv, xs, hn, he, hr, ho, ha⟩⟩
theorem parts_n1 {s : ByteArray} {d p : Nat} (h : ba s p ≠ 91) : parts s (node s d) p = none := by rw [parts, if_neg h]
theorem parts_e {s : ByteArray} {d p : Nat} (h : ba s p = 91) (h2 : ba s (p + 1) = 93) : parts s (node s d) p = some ([], p + 2) := by rw [parts, if_pos h, if_pos h2]
theorem parts_n2 {s : ByteArray} {d p : Nat} (h : ba s p = 91) (h2 : ba s (p + 1) ≠ 93) (h3 : node s d (p + 1) = none) : parts s (node s d) p = none := by rw [parts, if_pos h, if_neg h2, h3]
theorem parts_s {s : ByteArray} {d p q : Nat} {t : T d} (h : ba s p = 91) (h2 : ba s (p + 1) ≠ 93) (h3 : node s d (p + 1) = some (t, q)) : parts s (node s d) p = cons' ([] ++ [t]) (more s (node s d) (s.size + 1) q) := by
  rw [parts, if_pos h, if_neg h2, h3]
  simp only
  cases more s (node s d) (s.size + 1) q with
  | none => rfl
  | some r => simp [cons']

theorem info0 : (Try.prog.info? 140).map (fun i => (i.zero, i.size, i.bytes)) = some (some (.int .i64 0), 1, 8) := by kernel_rfl

set_option maxHeartbeats 400000 in
theorem parts0_n1 (g p : Nat) (s : ByteArray) (w : World) (h : Rdr w g s p) (hc : ba s p ≠ 91) :
    Calls Try.prog 141 #[.pointer (some ⟨g, 0, none⟩), .func (.func 140) #[.pointer (some ⟨g, 0, none⟩)] #[]] w (PartsPost s 0 p g w) := by
  have H := Lib.hid (take_no g p s 91 w h hc)
  have HN := Lib.hid (parts_n1 (d := 0) hc)
  clear hc h
  go_enter Try.func141, Try.ntmps141
  go_wp2_with fail
  refine H.out.mono ?_
  rintro e w1 ⟨⟨b, rfl⟩, hg1⟩
  exact ⟨rfl, parts_fell HN.out hg1 ⟨_, rfl⟩⟩

set_option maxHeartbeats 400000 in
theorem parts0_e (g p : Nat) (s : ByteArray) (w : World) (h : Rdr w g s p) (hc : ba s p = 91) (hc2 : ba s (p + 1) = 93) (hs : s.size ≤ 400) :
    Calls Try.prog 141 #[.pointer (some ⟨g, 0, none⟩), .func (.func 140) #[.pointer (some ⟨g, 0, none⟩)] #[]] w (PartsPost s 0 p g w) := by
  have H := Lib.hid (take_yes g p s 91 w h (by omega) hc hs)
  have HN := Lib.hid (parts_e (d := 0) hc hc2)
  have HC := Lib.hid hc2
  clear hc hc2 h
  go_enter Try.func141, Try.ntmps141
  go_wp2_with fail
  refine H.out.mono ?_
  rintro e w1 ⟨rfl, hr1, hg1⟩
  have HR1 := Lib.hid hr1
  have HG1 := Lib.hid hg1
  clear hr1 hg1
  go_wp2_with fail
  refine (sees_yes g (p + 1) s 93 w1 HR1.out (by omega) HC.out).mono ?_
  rintro e w2 ⟨rfl, n, rfl⟩
  go_wp2_with fail
  refine wp_loop_rounds 1 ?_
  rw [rounds_succ]
  go_wp2_with fail
  refine (sees_yes g (p + 1) s 93 _ (HR1.out.drewN n) (by omega) HC.out).mono ?_
  rintro e w3 ⟨rfl, n2, rfl⟩
  go_wp2_with fail
  refine (take_yes g (p + 1) s 93 _ (HR1.out.drewN _) (by omega) HC.out hs).mono ?_
  rintro e w4 ⟨rfl, hr4, hg4⟩
  have HR4 := Lib.hid hr4
  have HG4 := Lib.hid hg4
  clear hr4 hg4
  go_wp2_with fail
  go_ret
  refine parts_ok HN.out (HG1.out.trans ((gr_drewN w1 _ _).trans HG4.out)) rfl HR4.out (World.ownsRow_nil _ _ _ _) trivial

set_option maxHeartbeats 400000 in
theorem parts0_n2 (g p : Nat) (s : ByteArray) (w : World) (h : Rdr w g s p) (hc : ba s p = 91) (hc2 : ba s (p + 1) ≠ 93) (h3 : node s 0 (p + 1) = none) (hs : s.size ≤ 400) :
    Calls Try.prog 141 #[.pointer (some ⟨g, 0, none⟩), .func (.func 140) #[.pointer (some ⟨g, 0, none⟩)] #[]] w (PartsPost s 0 p g w) := by
  have H := Lib.hid (take_yes g p s 91 w h (by omega) hc hs)
  have HN := Lib.hid (parts_n2 (d := 0) hc hc2 h3)
  have HC := Lib.hid hc2
  have H3 := Lib.hid h3
  clear hc hc2 h h3
  go_enter Try.func141, Try.ntmps141
  go_wp2_with fail
  refine H.out.mono ?_
  rintro e w1 ⟨rfl, hr1, hg1⟩
  have HR1 := Lib.hid hr1
  have HG1 := Lib.hid hg1
  clear hr1 hg1
  go_wp2_with fail
  refine (sees_no g (p + 1) s 93 w1 HR1.out HC.out).mono ?_
  rintro e w2 ⟨rfl, n, rfl⟩
  go_wp2_with fail
  refine (number_any g (p + 1) s _ (HR1.out.drewN n) hs).mono ?_
  intro e w3 hp
  obtain ⟨hg3, ⟨t, q, v, hn, he, hr, hnd⟩ | ⟨hn, b, rfl⟩⟩ := el0 hp
  · rw [H3.out] at hn; cases hn
  · have HG3 := Lib.hid hg3
    clear hg3 hp
    exact ⟨rfl, parts_fell HN.out (HG1.out.trans ((gr_drewN w1 _ _).trans HG3.out)) ⟨_, rfl⟩⟩

set_option maxHeartbeats 1000000 in
theorem parts0_s (g p : Nat) (s : ByteArray) (w : World) (h : Rdr w g s p) (hc : ba s p = 91) (hc2 : ba s (p + 1) ≠ 93) (t : T 0) (q : Nat) (h3 : node s 0 (p + 1) = some (t, q)) (hs : s.size ≤ 400) :
    Calls Try.prog 141 #[.pointer (some ⟨g, 0, none⟩), .func (.func 140) #[.pointer (some ⟨g, 0, none⟩)] #[]] w (PartsPost s 0 p g w) := by
  have H := Lib.hid (take_yes g p s 91 w h (by omega) hc hs)
  have HN := Lib.hid (parts_s (d := 0) hc hc2 h3)
  have HC := Lib.hid hc2
  have H3 := Lib.hid h3
  have hgw := h.lt
  have hq := node_ge s 0 _ _ _ h3
  clear hc hc2 h h3
  obtain ⟨i0, hi0, hz0, hz1, hz2⟩ := info_parts info0
  go_enter Try.func141, Try.ntmps141
  go_wp2_with fail
  refine H.out.mono ?_
  rintro e w1 ⟨rfl, hr1, hg1⟩
  have HR1 := Lib.hid hr1
  have HG1 := Lib.hid hg1
  clear hr1 hg1
  go_wp2_with fail
  refine (sees_no g (p + 1) s 93 w1 HR1.out HC.out).mono ?_
  rintro e w2 ⟨rfl, n, rfl⟩
  go_wp2_with fail
  refine (number_any g (p + 1) s _ (HR1.out.drewN n) hs).mono ?_
  intro e w3 hp
  obtain ⟨hg3, ⟨t', q', v, hn, rfl, hr3, hnd⟩ | ⟨hn, b, rfl⟩⟩ := el0 hp
  · obtain ⟨rfl, rfl⟩ : t = t' ∧ q = q' := by rw [H3.out] at hn; simpa using hn
    have HG3 := Lib.hid hg3
    have HR3 := Lib.hid hr3
    have HND := Lib.hid hnd
    obtain ⟨tv, rfl⟩ : ∃ tv : Int, v = .int .i64 tv := ⟨_, hnd⟩
    clear hg3 hp hr3 hnd hn
    have own0 := World.ownsRow_nil (w3.alloc (.cells #[.int .i64 tv] 140)) w.heap.size 140 1
    have hb3 : w.heap.size ≤ w3.heap.size := Nat.le_trans HG1.out.size (Nat.le_trans (gr_drewN w1 n (some g)).size HG3.out.size)
    go_wp2_with (at_builtin; refine wpList_append_own_at _ rfl _ _ 144 rfl w.heap.size 140 i0 (.int .i64 0) 1 8 Try.underlying144 hi0 hz0 hz1 hz2 rfl (by decide) _ _ _ rfl own0 ⟨w3.heap.size, 0, none⟩ 1 1 [.int .i64 tv] rfl rfl ?c1 ?c2 ?c3 ?c4 ?c5 ?_)
    case c1 => exact cell_one_new _ _ _
    case c2 => simp [Value.oneCell']
    case c3 => simp [maxLen]
    case c4 => omega
    case c5 => simp; omega
    intro sv w4 hown4 hg4 hnil4 hat4
    have hl4 : Lf s 0 g w w4 sv ([] ++ [t]) ([] ++ [.int .i64 tv]) q :=
      (Lf.start (d := 0) (HR1.out.drewN n) (HG1.out.trans (gr_drewN w1 n _)) (by omega)).step hq.1 hq.2 HG3.out HR3.out HND.out hown4 hg4 hat4 hgw
    have HL := Lib.hid (show Lp s 0 p g w w4 sv ([] ++ [t]) ([] ++ [.int .i64 tv]) (s.size + 1) q from ⟨by omega, HN.out, hl4⟩)
    clear hl4 hown4 hg4 hnil4 hat4 own0 hb3
    go_wp2_with fail
    go_loopw [5] (fun u wr => ∃ ts xs f q', Hid (Lp s 0 p g w wr u ts xs f q')) (fun _ wr => s.size + 1 - plc wr g)
    case atStart => exact ⟨_, _, _, _, HL⟩
    case round =>
      obtain ⟨ts, xs, f, q', hL⟩ := hrel
      have hle := hL.out.lf.le
      by_cases h93 : ba s q' = 93
      · have H93 := Lib.hid h93
        clear h93
        go_wp2_with fail
        refine (sees_yes g q' s 93 wr hL.out.lf.rdr (by omega) H93.out).mono ?_
        rintro e w5 ⟨rfl, n5, rfl⟩
        go_wp2_with fail
        refine (take_yes g q' s 93 _ (hL.out.lf.rdr.drewN n5) (by omega) H93.out hs).mono ?_
        rintro e w6 ⟨rfl, hr6, hg6⟩
        have HL6 := Lib.hid ((hL.out.lf.drewN n5).reader hg6 hr6 (by omega) (by have := ba_lt (s := s) (p := q') (by rw [H93.out]; omega); omega) hgw)
        clear hr6 hg6
        go_wp2_with fail
        go_ret
        exact parts_ok (hL.out.exit H93.out) HL6.out.gr rfl HL6.out.rdr HL6.out.done.1 HL6.out.done.2
      · have H93 := Lib.hid h93
        clear h93
        go_wp2_with fail
        refine (sees_no g q' s 93 wr hL.out.lf.rdr H93.out).mono ?_
        rintro e w5 ⟨rfl, n5, rfl⟩
        go_wp2_with fail
        by_cases h44 : ba s q' = 44
        · have H44 := Lib.hid h44
          clear h44
          have hq1 : q' < s.size := ba_lt (by rw [H44.out]; omega)
          refine (take_yes g q' s 44 _ (hL.out.lf.rdr.drewN n5) (by omega) H44.out hs).mono ?_
          rintro e w6 ⟨rfl, hr6, hg6⟩
          have HL6 := Lib.hid ((hL.out.lf.drewN n5).reader hg6 hr6 (by omega) (by omega) hgw)
          have HG6 := Lib.hid ((gr_drewN wr n5 _).trans hg6)
          clear hr6 hg6
          go_wp2_with fail
          refine (number_any g (q' + 1) s w6 HL6.out.rdr hs).mono ?_
          intro e w7 hp
          obtain ⟨hg7, ⟨t7, q7, v, hn, rfl, hr7, hnd⟩ | ⟨hn, b, rfl⟩⟩ := el0 hp
          · have HG7 := Lib.hid hg7
            have HR7 := Lib.hid hr7
            have HND7 := Lib.hid hnd
            have HN7 := Lib.hid (hL.out.next H93.out H44.out hn)
            obtain ⟨tv7, rfl⟩ : ∃ tv : Int, v = .int .i64 tv := ⟨_, hnd⟩
            have hlx := HL6.out.len
            have hb6 := HL6.out.gr.size
            have hb7 := hg7.size
            have own7 := (own_keep HL6.out.own (fun k hk => hg7.block k (HL6.out.own.lt k hk).2 (fun e => by have := (HL6.out.own.lt k hk).1; simp at e; omega))).alloc (.cells #[.int .i64 tv7] 140)
            clear hg7 hr7 hnd hn hp
            go_wp2_with (at_builtin; refine wpList_append_own_at _ rfl _ _ 144 rfl w.heap.size 140 i0 (.int .i64 0) 1 8 Try.underlying144 hi0 hz0 hz1 hz2 rfl (by decide) _ _ _ rfl own7 ⟨w7.heap.size, 0, none⟩ 1 1 [.int .i64 tv7] rfl rfl ?c1 ?c2 ?c3 ?c4 ?c5 ?_)
            case c1 => exact cell_one_new _ _ _
            case c2 => simp [Value.oneCell']
            case c3 => simp [maxLen]; omega
            case c4 => omega
            case c5 => simp; omega
            intro sv8 w8 hown8 hg8 hnil8 hat8
            obtain ⟨f8, hf8, hle8, hlt8, hcom8⟩ := HN7.out
            have HL8 := Lib.hid (show Lp s 0 p g w w8 sv8 (ts ++ [t7]) (xs ++ [.int .i64 tv7]) f8 q7 from ⟨hf8, hcom8, HL6.out.step (by omega) hle8 HG7.out HR7.out HND7.out hown8 hg8 hat8 hgw⟩)
            clear hown8 hg8 hnil8 hat8 own7 hcom8 hf8
            go_wp2_with fail
            go_roundw
            case rel => exact ⟨_, _, _, _, HL8⟩
            case measure =>
              rw [plc_eq hL.out.lf.rdr, plc_eq HL8.out.lf.rdr]
              omega
          · have HG7 := Lib.hid hg7
            have HN7 := Lib.hid hn
            clear hg7 hp hn
            exact ⟨rfl, parts_fell (hL.out.stop2 H93.out H44.out HN7.out) (HL6.out.gr.trans HG7.out) ⟨_, rfl⟩⟩
        · have H44 := Lib.hid h44
          clear h44
          refine (take_no g q' s 44 _ (hL.out.lf.rdr.drewN n5) H44.out).mono ?_
          rintro e w6 ⟨⟨b, rfl⟩, hg6⟩
          exact ⟨rfl, parts_fell (hL.out.stop1 H93.out H44.out) ((hL.out.lf.gr.trans (gr_drewN wr n5 _)).trans hg6) ⟨_, rfl⟩⟩
  · rw [H3.out] at hn; cases hn
end

/- Parts1 -/
section
open Go.RowKit

theorem Nd.iface {w : World} {S : Nat → Prop} {d : Nat} {t : T (d + 1)} {v : Value} (h : Nd w S (d + 1) t v) : ∃ ty pv, v = .iface ty pv := by
  obtain ⟨b, sv, xs, hv, _⟩ := h
  exact ⟨_, _, hv⟩

theorem info1 : (Try.prog.info? 114).map (fun i => (i.zero, i.size, i.bytes)) = some (some .nilIface, 1, 16) := by kernel_rfl

set_option maxHeartbeats 400000 in
theorem parts1_n1 (g p bx bn d : Nat) (s : ByteArray) (w : World) (h : Rdr w g s p) (hc : ba s p ≠ 91) :
    Calls Try.prog 142 #[.pointer (some ⟨g, 0, none⟩), .func (.func 143) #[] #[.pointer (some ⟨bx, 0, none⟩), .pointer (some ⟨bn, 0, none⟩)]] w (PartsPost s (d + 1) p g w) := by
  have H := Lib.hid (take_no g p s 91 w h hc)
  have HN := Lib.hid (parts_n1 (d := d + 1) hc)
  clear hc h
  go_enter Try.func142, Try.ntmps142
  go_wp2_with fail
  refine H.out.mono ?_
  rintro e w1 ⟨⟨b, rfl⟩, hg1⟩
  exact ⟨rfl, parts_fell HN.out hg1 ⟨_, rfl⟩⟩

set_option maxHeartbeats 400000 in
theorem parts1_e (g p bx bn d : Nat) (s : ByteArray) (w : World) (h : Rdr w g s p) (hc : ba s p = 91) (hc2 : ba s (p + 1) = 93) (hs : s.size ≤ 400) :
    Calls Try.prog 142 #[.pointer (some ⟨g, 0, none⟩), .func (.func 143) #[] #[.pointer (some ⟨bx, 0, none⟩), .pointer (some ⟨bn, 0, none⟩)]] w (PartsPost s (d + 1) p g w) := by
  have H := Lib.hid (take_yes g p s 91 w h (by omega) hc hs)
  have HN := Lib.hid (parts_e (d := d + 1) hc hc2)
  have HC := Lib.hid hc2
  clear hc hc2 h
  go_enter Try.func142, Try.ntmps142
  go_wp2_with fail
  refine H.out.mono ?_
  rintro e w1 ⟨rfl, hr1, hg1⟩
  have HR1 := Lib.hid hr1
  have HG1 := Lib.hid hg1
  clear hr1 hg1
  go_wp2_with fail
  refine (sees_yes g (p + 1) s 93 w1 HR1.out (by omega) HC.out).mono ?_
  rintro e w2 ⟨rfl, n, rfl⟩
  go_wp2_with fail
  refine wp_loop_rounds 1 ?_
  rw [rounds_succ]
  go_wp2_with fail
  refine (sees_yes g (p + 1) s 93 _ (HR1.out.drewN n) (by omega) HC.out).mono ?_
  rintro e w3 ⟨rfl, n2, rfl⟩
  go_wp2_with fail
  refine (take_yes g (p + 1) s 93 _ (HR1.out.drewN _) (by omega) HC.out hs).mono ?_
  rintro e w4 ⟨rfl, hr4, hg4⟩
  have HR4 := Lib.hid hr4
  have HG4 := Lib.hid hg4
  clear hr4 hg4
  go_wp2_with fail
  go_ret
  refine parts_ok HN.out (HG1.out.trans ((gr_drewN w1 _ _).trans HG4.out)) rfl HR4.out (World.ownsRow_nil _ _ _ _) trivial

set_option maxHeartbeats 400000 in
theorem parts1_n2 (g p bx bn d : Nat) (s : ByteArray) (w : World) (h : Rdr w g s p) (hc : ba s p = 91) (hc2 : ba s (p + 1) ≠ 93) (h3 : node s (d + 1) (p + 1) = none) (hs : s.size ≤ 400) (hel : ∀ (p : Nat) (w' : World), w.grownBy w' (some g) → Rdr w' g s p → Calls Try.prog 143 #[.pointer (some ⟨bx, 0, none⟩), .pointer (some ⟨bn, 0, none⟩)] w' (ElPost s (d + 1) p g w')) :
    Calls Try.prog 142 #[.pointer (some ⟨g, 0, none⟩), .func (.func 143) #[] #[.pointer (some ⟨bx, 0, none⟩), .pointer (some ⟨bn, 0, none⟩)]] w (PartsPost s (d + 1) p g w) := by
  have H := Lib.hid (take_yes g p s 91 w h (by omega) hc hs)
  have HN := Lib.hid (parts_n2 (d := d + 1) hc hc2 h3)
  have HC := Lib.hid hc2
  have H3 := Lib.hid h3
  have HE := Lib.hid hel
  clear hc hc2 h h3 hel
  go_enter Try.func142, Try.ntmps142
  go_wp2_with fail
  refine H.out.mono ?_
  rintro e w1 ⟨rfl, hr1, hg1⟩
  have HR1 := Lib.hid hr1
  have HG1 := Lib.hid hg1
  clear hr1 hg1
  go_wp2_with fail
  refine (sees_no g (p + 1) s 93 w1 HR1.out HC.out).mono ?_
  rintro e w2 ⟨rfl, n, rfl⟩
  go_wp2_with fail
  refine (HE.out (p + 1) _ (HG1.out.trans (gr_drewN w1 n _)) (HR1.out.drewN n)).mono ?_
  intro e w3 hp
  obtain ⟨hg3, ⟨t, q, v, hn, he, hr, hnd⟩ | ⟨hn, b, rfl⟩⟩ := hp
  · rw [H3.out] at hn; cases hn
  · have HG3 := Lib.hid hg3
    clear hg3
    exact ⟨rfl, parts_fell HN.out (HG1.out.trans ((gr_drewN w1 _ _).trans HG3.out)) ⟨_, rfl⟩⟩

set_option maxHeartbeats 1000000 in
theorem parts1_s (g p bx bn d : Nat) (s : ByteArray) (w : World) (h : Rdr w g s p) (hc : ba s p = 91) (hc2 : ba s (p + 1) ≠ 93) (t : T (d + 1)) (q : Nat) (h3 : node s (d + 1) (p + 1) = some (t, q)) (hs : s.size ≤ 400) (hel : ∀ (p : Nat) (w' : World), w.grownBy w' (some g) → Rdr w' g s p → Calls Try.prog 143 #[.pointer (some ⟨bx, 0, none⟩), .pointer (some ⟨bn, 0, none⟩)] w' (ElPost s (d + 1) p g w')) :
    Calls Try.prog 142 #[.pointer (some ⟨g, 0, none⟩), .func (.func 143) #[] #[.pointer (some ⟨bx, 0, none⟩), .pointer (some ⟨bn, 0, none⟩)]] w (PartsPost s (d + 1) p g w) := by
  have H := Lib.hid (take_yes g p s 91 w h (by omega) hc hs)
  have HN := Lib.hid (parts_s (d := d + 1) hc hc2 h3)
  have HC := Lib.hid hc2
  have H3 := Lib.hid h3
  have hgw := h.lt
  have hq := node_ge s (d + 1) _ _ _ h3
  have HE := Lib.hid hel
  clear hc hc2 h h3 hel
  obtain ⟨i0, hi0, hz0, hz1, hz2⟩ := info_parts info1
  go_enter Try.func142, Try.ntmps142
  go_wp2_with fail
  refine H.out.mono ?_
  rintro e w1 ⟨rfl, hr1, hg1⟩
  have HR1 := Lib.hid hr1
  have HG1 := Lib.hid hg1
  clear hr1 hg1
  go_wp2_with fail
  refine (sees_no g (p + 1) s 93 w1 HR1.out HC.out).mono ?_
  rintro e w2 ⟨rfl, n, rfl⟩
  go_wp2_with fail
  refine (HE.out (p + 1) _ (HG1.out.trans (gr_drewN w1 n _)) (HR1.out.drewN n)).mono ?_
  intro e w3 hp
  obtain ⟨hg3, ⟨t', q', v, hn, rfl, hr3, hnd⟩ | ⟨hn, b, rfl⟩⟩ := hp
  · obtain ⟨rfl, rfl⟩ : t = t' ∧ q = q' := by rw [H3.out] at hn; simpa using hn
    have HG3 := Lib.hid hg3
    have HR3 := Lib.hid hr3
    have HND := Lib.hid hnd
    obtain ⟨ty, pv, rfl⟩ : ∃ ty pv, v = .iface ty pv := hnd.iface
    clear hg3 hr3 hnd hn
    have own0 := World.ownsRow_nil (w3.alloc (.cells #[.iface ty pv] 114)) w.heap.size 114 1
    have hb3 : w.heap.size ≤ w3.heap.size := Nat.le_trans HG1.out.size (Nat.le_trans (gr_drewN w1 n (some g)).size HG3.out.size)
    go_wp2_with (at_builtin; refine wpList_append_own_at _ rfl _ _ 149 rfl w.heap.size 114 i0 .nilIface 1 16 Try.underlying149 hi0 hz0 hz1 hz2 rfl (by decide) _ _ _ rfl own0 ⟨w3.heap.size, 0, none⟩ 1 1 [.iface ty pv] rfl rfl ?c1 ?c2 ?c3 ?c4 ?c5 ?_)
    case c1 => exact cell_one_new _ _ _
    case c2 => simp [Value.oneCell']
    case c3 => simp [maxLen]
    case c4 => omega
    case c5 => simp; omega
    intro sv w4 hown4 hg4 hnil4 hat4
    have hl4 : Lf s (d + 1) g w w4 sv ([] ++ [t]) ([] ++ [.iface ty pv]) q :=
      (Lf.start (d := d + 1) (HR1.out.drewN n) (HG1.out.trans (gr_drewN w1 n _)) (by omega)).step hq.1 hq.2 HG3.out HR3.out HND.out hown4 hg4 hat4 hgw
    have HL := Lib.hid (show Lp s (d + 1) p g w w4 sv ([] ++ [t]) ([] ++ [.iface ty pv]) (s.size + 1) q from ⟨by omega, HN.out, hl4⟩)
    clear hl4 hown4 hg4 hnil4 hat4 own0 hb3
    go_wp2_with fail
    go_loopw [5] (fun u wr => ∃ ts xs f q', Hid (Lp s (d + 1) p g w wr u ts xs f q')) (fun _ wr => s.size + 1 - plc wr g)
    case atStart => exact ⟨_, _, _, _, HL⟩
    case round =>
      obtain ⟨ts, xs, f, q', hL⟩ := hrel
      have hle := hL.out.lf.le
      by_cases h93 : ba s q' = 93
      · have H93 := Lib.hid h93
        clear h93
        go_wp2_with fail
        refine (sees_yes g q' s 93 wr hL.out.lf.rdr (by omega) H93.out).mono ?_
        rintro e w5 ⟨rfl, n5, rfl⟩
        go_wp2_with fail
        refine (take_yes g q' s 93 _ (hL.out.lf.rdr.drewN n5) (by omega) H93.out hs).mono ?_
        rintro e w6 ⟨rfl, hr6, hg6⟩
        have HL6 := Lib.hid ((hL.out.lf.drewN n5).reader hg6 hr6 (by omega) (by have := ba_lt (s := s) (p := q') (by rw [H93.out]; omega); omega) hgw)
        clear hr6 hg6
        go_wp2_with fail
        go_ret
        exact parts_ok (hL.out.exit H93.out) HL6.out.gr rfl HL6.out.rdr HL6.out.done.1 HL6.out.done.2
      · have H93 := Lib.hid h93
        clear h93
        go_wp2_with fail
        refine (sees_no g q' s 93 wr hL.out.lf.rdr H93.out).mono ?_
        rintro e w5 ⟨rfl, n5, rfl⟩
        go_wp2_with fail
        by_cases h44 : ba s q' = 44
        · have H44 := Lib.hid h44
          clear h44
          have hq1 : q' < s.size := ba_lt (by rw [H44.out]; omega)
          refine (take_yes g q' s 44 _ (hL.out.lf.rdr.drewN n5) (by omega) H44.out hs).mono ?_
          rintro e w6 ⟨rfl, hr6, hg6⟩
          have HL6 := Lib.hid ((hL.out.lf.drewN n5).reader hg6 hr6 (by omega) (by omega) hgw)
          have HG6 := Lib.hid ((gr_drewN wr n5 _).trans hg6)
          clear hr6 hg6
          go_wp2_with fail
          refine (HE.out (q' + 1) w6 HL6.out.gr HL6.out.rdr).mono ?_
          intro e w7 hp
          obtain ⟨hg7, ⟨t7, q7, v, hn, rfl, hr7, hnd⟩ | ⟨hn, b, rfl⟩⟩ := hp
          · have HG7 := Lib.hid hg7
            have HR7 := Lib.hid hr7
            have HND7 := Lib.hid hnd
            have HN7 := Lib.hid (hL.out.next H93.out H44.out hn)
            obtain ⟨ty7, pv7, rfl⟩ : ∃ ty pv, v = .iface ty pv := hnd.iface
            have hlx := HL6.out.len
            have hb6 := HL6.out.gr.size
            have hb7 := hg7.size
            have own7 := (own_keep HL6.out.own (fun k hk => hg7.block k (HL6.out.own.lt k hk).2 (fun e => by have := (HL6.out.own.lt k hk).1; simp at e; omega))).alloc (.cells #[.iface ty7 pv7] 114)
            clear hg7 hr7 hnd hn
            go_wp2_with (at_builtin; refine wpList_append_own_at _ rfl _ _ 149 rfl w.heap.size 114 i0 .nilIface 1 16 Try.underlying149 hi0 hz0 hz1 hz2 rfl (by decide) _ _ _ rfl own7 ⟨w7.heap.size, 0, none⟩ 1 1 [.iface ty7 pv7] rfl rfl ?c1 ?c2 ?c3 ?c4 ?c5 ?_)
            case c1 => exact cell_one_new _ _ _
            case c2 => simp [Value.oneCell']
            case c3 => simp [maxLen]; omega
            case c4 => omega
            case c5 => simp; omega
            intro sv8 w8 hown8 hg8 hnil8 hat8
            obtain ⟨f8, hf8, hle8, hlt8, hcom8⟩ := HN7.out
            have HL8 := Lib.hid (show Lp s (d + 1) p g w w8 sv8 (ts ++ [t7]) (xs ++ [.iface ty7 pv7]) f8 q7 from ⟨hf8, hcom8, HL6.out.step (by omega) hle8 HG7.out HR7.out HND7.out hown8 hg8 hat8 hgw⟩)
            clear hown8 hg8 hnil8 hat8 own7 hcom8 hf8
            go_wp2_with fail
            go_roundw
            case rel => exact ⟨_, _, _, _, HL8⟩
            case measure =>
              rw [plc_eq hL.out.lf.rdr, plc_eq HL8.out.lf.rdr]
              omega
          · have HG7 := Lib.hid hg7
            have HN7 := Lib.hid hn
            clear hg7 hn
            exact ⟨rfl, parts_fell (hL.out.stop2 H93.out H44.out HN7.out) (HL6.out.gr.trans HG7.out) ⟨_, rfl⟩⟩
        · have H44 := Lib.hid h44
          clear h44
          refine (take_no g q' s 44 _ (hL.out.lf.rdr.drewN n5) H44.out).mono ?_
          rintro e w6 ⟨⟨b, rfl⟩, hg6⟩
          exact ⟨rfl, parts_fell (hL.out.stop1 H93.out H44.out) ((hL.out.lf.gr.trans (gr_drewN wr n5 _)).trans hg6) ⟨_, rfl⟩⟩
  · rw [H3.out] at hn; cases hn
end

/- Arr -/
section
open Go.RowKit

/-- How readArray ends. -/
def ArrPost (s : ByteArray) (d p g : Nat) (w : World) (e : Ending) (w' : World) : Prop :=
  w.grownBy w' (some g) ∧ ((∃ t q v, node s d p = some (t, q) ∧ e = .returned v ∧ Rdr w' g s q ∧ RepI w' (fun b => w.heap.size ≤ b) d t v) ∨ (node s d p = none ∧ Fell e))

theorem arr_fell {s : ByteArray} {d p g : Nat} {w w' : World} {e : Ending} (hn : node s d p = none) (hg : w.grownBy w' (some g)) (he : Fell e) : ArrPost s d p g w e w' := ⟨hg, .inr ⟨hn, he⟩⟩
theorem arr_ok {s : ByteArray} {d p g q : Nat} {w w' : World} {e : Ending} {t : T d} {v : Value} (hn : node s d p = some (t, q)) (hg : w.grownBy w' (some g)) (he : e = .returned v) (hr : Rdr w' g s q)
    (ha : RepI w' (fun b => w.heap.size ≤ b) d t v) : ArrPost s d p g w e w' := ⟨hg, .inl ⟨t, q, v, hn, he, hr, ha⟩⟩

theorem makeFunc_run (fn : Fn) (first cap : Array Value) (w : World) : (Instr.makeFunc fn first cap).run Try.prog w = .ok (.func fn first cap) w := rfl

set_option maxHeartbeats 400000 in
theorem array0 (g p : Nat) (s : ByteArray) (w : World) (h : Rdr w g s p) (hs : s.size ≤ 400) :
    Calls Try.prog 125 #[.pointer (some ⟨g, 0, none⟩), .int .i64 0] w (ArrPost s 0 p g w) := by
  have HR := Lib.hid h
  clear h
  go_enter Try.func125, Try.ntmps125
  go_wp2_with fail
  refine (number_any g p s _ ((HR.out.alloc _).alloc _) hs).mono ?_
  rintro e w1 ⟨hg1, ⟨v, q, hn, rfl, hr1⟩ | ⟨hn, b, rfl⟩⟩
  · have HG1 := Lib.hid hg1
    have HR1 := Lib.hid hr1
    have HN := Lib.hid hn
    obtain ⟨vi, hvi⟩ : ∃ vi : Int, vi = (v : Int) := ⟨_, rfl⟩
    rw [← hvi]
    have HVI := Lib.hid hvi
    clear hg1 hr1 hn hvi
    go_wp2_with fail
    go_ret
    refine arr_ok (d := 0) (t := v) HN.out (((World.grownBy_alloc _ _ _).trans (World.grownBy_alloc _ _ _)).trans HG1.out) rfl HR1.out ?_
    show _ = Value.iface _ (.int .i64 (v : Int))
    rw [← HVI.out]; rfl
  · have HG1 := Lib.hid hg1
    have HN := Lib.hid hn
    clear hg1 hn
    exact ⟨rfl, arr_fell (d := 0) HN.out (((World.grownBy_alloc _ _ _).trans (World.grownBy_alloc _ _ _)).trans HG1.out) ⟨_, rfl⟩⟩

theorem parts0_any (g p : Nat) (s : ByteArray) (w : World) (h : Rdr w g s p) (hs : s.size ≤ 400) :
    Calls Try.prog 141 #[.pointer (some ⟨g, 0, none⟩), .func (.func 140) #[.pointer (some ⟨g, 0, none⟩)] #[]] w (PartsPost s 0 p g w) := by
  by_cases hc : ba s p = 91
  · by_cases hc2 : ba s (p + 1) = 93
    · exact parts0_e g p s w h hc hc2 hs
    · cases h3 : node s 0 (p + 1) with
      | none => exact parts0_n2 g p s w h hc hc2 h3 hs
      | some r => exact parts0_s g p s w h hc hc2 r.1 r.2 h3 hs
  · exact parts0_n1 g p s w h hc

theorem parts1_any (g p bx bn d : Nat) (s : ByteArray) (w : World) (h : Rdr w g s p) (hs : s.size ≤ 400)
    (hel : ∀ (p : Nat) (w' : World), w.grownBy w' (some g) → Rdr w' g s p → Calls Try.prog 143 #[.pointer (some ⟨bx, 0, none⟩), .pointer (some ⟨bn, 0, none⟩)] w' (ElPost s (d + 1) p g w')) :
    Calls Try.prog 142 #[.pointer (some ⟨g, 0, none⟩), .func (.func 143) #[] #[.pointer (some ⟨bx, 0, none⟩), .pointer (some ⟨bn, 0, none⟩)]] w (PartsPost s (d + 1) p g w) := by
  by_cases hc : ba s p = 91
  · by_cases hc2 : ba s (p + 1) = 93
    · exact parts1_e g p bx bn d s w h hc hc2 hs
    · cases h3 : node s (d + 1) (p + 1) with
      | none => exact parts1_n2 g p bx bn d s w h hc hc2 h3 hs hel
      | some r => exact parts1_s g p bx bn d s w h hc hc2 r.1 r.2 h3 hs hel
  · exact parts1_n1 g p bx bn d s w h hc

/-- The node is laid round its row. -/
theorem rep_node {g d : Nat} {w w0 w1 : World} {ts : List (T d)} {sv : Value} {xs : List Value} (h0 : w.grownBy w0 (some g)) (h1 : w0.grownBy w1 (some g)) (ho : w1.ownsRow w0.heap.size (elT d) 1 sv xs.length xs) (ha : All2 (Nd w1 (fun b => w0.heap.size ≤ b) d) ts xs) :
    Nd (w1.alloc (.cells #[sv] (strT d))) (fun b => w.heap.size ≤ b) (d + 1) ts (.iface (ptrT d) (.pointer (some ⟨w1.heap.size, 0, none⟩))) := by
  have e0 := h0.size
  have e1 := h1.size
  have hl := ho.lt
  have hk : ∀ b, b < w1.heap.size → (w1.alloc (.cells #[sv] (strT d))).heap[b]? = w1.heap[b]? := fun b hb => Below.heap_alloc _ _ _ hb
  refine ⟨w1.heap.size, sv, xs, rfl, by omega, heap_alloc_new _ _, own_base (own_keep ho (fun k hk' => hk k (hl k hk').2)) (Nat.zero_le _), fun k hk' => by have := (hl k hk').1; omega, ?_⟩
  exact All2.mono (Nd.keep (fun b _ hb2 => hk b hb2) (fun b hb _ => by omega) d) ts xs ha

set_option maxHeartbeats 400000 in
theorem array1 (g p : Nat) (s : ByteArray) (w : World) (h : Rdr w g s p) (hs : s.size ≤ 400) :
    Calls Try.prog 125 #[.pointer (some ⟨g, 0, none⟩), .int .i64 1] w (ArrPost s 1 p g w) := by
  have HR := Lib.hid h
  clear h
  have hmf := makeFunc_run
  go_enter Try.func125, Try.ntmps125
  go_wp2_with fail
  clear hmf
  refine (parts0_any g p s _ ((HR.out.alloc _).alloc _) hs).mono ?_
  rintro e w1 ⟨hg1, ⟨ts, q, sv, xs, hn, rfl, hr1, ho1, ha1⟩ | ⟨hn, b, rfl⟩⟩
  · have HG1 := Lib.hid hg1
    have HR1 := Lib.hid hr1
    have HN := Lib.hid hn
    have HA := Lib.hid (rep_node (d := 0) ((World.grownBy_alloc _ _ _).trans (World.grownBy_alloc _ _ _)) hg1 ho1 ha1)
    obtain ⟨A1, m1, c1, rfl⟩ := own_form ho1
    clear hg1 hr1 hn ho1 ha1
    go_wp2_with fail
    go_ret
    exact arr_ok (d := 1) (t := ts) HN.out ((((World.grownBy_alloc _ _ _).trans (World.grownBy_alloc _ _ _)).trans HG1.out).trans (World.grownBy_alloc _ _ _)) rfl (HR1.out.alloc _) HA.out
  · have HG1 := Lib.hid hg1
    have HN := Lib.hid hn
    clear hg1 hn
    exact ⟨rfl, arr_fell (d := 1) HN.out (((World.grownBy_alloc _ _ _).trans (World.grownBy_alloc _ _ _)).trans HG1.out) ⟨_, rfl⟩⟩

/-- Two boxes, one behind the other. -/
theorem cell_two (w : World) (x y : Value) (tx ty : TypeId) : ((w.alloc (.cells #[x] tx)).alloc (.cells #[y] ty)).cell? ⟨w.heap.size, 0, none⟩ = some x ∧ ((w.alloc (.cells #[x] tx)).alloc (.cells #[y] ty)).cell? ⟨w.heap.size + 1, 0, none⟩ = some y := by
  have e : (w.alloc (.cells #[x] tx)).heap.size = w.heap.size + 1 := by simp
  constructor
  · exact cell_of_row _ _ 0 _ _ (0, 0) ((Below.heap_alloc _ _ _ (by omega)).trans (heap_alloc_new _ _))
  · have h := cell_of_row _ _ 0 _ _ (0, 0) (heap_alloc_new (w.alloc (.cells #[x] tx)) (.cells #[y] ty))
    rw [e] at h
    exact h

/-- What the closure does, out of readArray one depth below. -/
theorem closure_any (g bx bn d : Nat) (n : Int) (s : ByteArray) (hn0 : -1000 ≤ n) (hn1 : n ≤ 1000)
    (ih : ∀ (p : Nat) (w : World), Rdr w g s p → Calls Try.prog 125 #[.pointer (some ⟨g, 0, none⟩), .int .i64 (n - 1)] w (ArrPost s (d + 1) p g w))
    (p : Nat) (w : World) (h : Rdr w g s p) (hbx : w.cell? ⟨bx, 0, none⟩ = some (.pointer (some ⟨g, 0, none⟩))) (hbn : w.cell? ⟨bn, 0, none⟩ = some (.int .i64 n)) :
    Calls Try.prog 143 #[.pointer (some ⟨bx, 0, none⟩), .pointer (some ⟨bn, 0, none⟩)] w (ElPost s (d + 1) p g w) := by
  have HI := Lib.hid ih
  have HR := Lib.hid h
  clear ih h
  go_enter Try.func143, Try.ntmps143
  go_wp2_with fail
  refine (HI.out p w HR.out).mono ?_
  rintro e w1 ⟨hg1, ⟨t, q, v, hn, rfl, hr1, ha1⟩ | ⟨hn, b, rfl⟩⟩
  · have HG1 := Lib.hid hg1
    have HR1 := Lib.hid hr1
    have HN := Lib.hid hn
    have HA := Lib.hid ha1
    clear hg1 hr1 hn ha1
    go_wp2_with fail
    go_ret
    exact ⟨HG1.out, .inl ⟨t, q, v, HN.out, rfl, HR1.out, HA.out⟩⟩
  · have HG1 := Lib.hid hg1
    have HN := Lib.hid hn
    clear hg1 hn
    exact ⟨rfl, HG1.out, .inr ⟨HN.out, _, rfl⟩⟩

set_option maxHeartbeats 400000 in
theorem arrayS (g p d : Nat) (n : Int) (s : ByteArray) (w : World) (h : Rdr w g s p) (hs : s.size ≤ 400) (hn2 : 2 ≤ n) (hn3 : n ≤ 1000)
    (ih : ∀ (p : Nat) (w : World), Rdr w g s p → Calls Try.prog 125 #[.pointer (some ⟨g, 0, none⟩), .int .i64 (n - 1)] w (ArrPost s (d + 1) p g w)) :
    Calls Try.prog 125 #[.pointer (some ⟨g, 0, none⟩), .int .i64 n] w (ArrPost s (d + 2) p g w) := by
  have HI := Lib.hid ih
  have HR := Lib.hid h
  have hgw := h.lt
  clear ih h
  have hmf := makeFunc_run
  have e0 : (n == 0) = false := by rw [beq_eq_false_iff_ne]; omega
  have e1 : (n == 1) = false := by rw [beq_eq_false_iff_ne]; omega
  go_enter Try.func125, Try.ntmps125
  go_wp2_with fail
  clear hmf e0 e1
  refine (parts1_any g p _ _ d s _ ((HR.out.alloc _).alloc _) hs ?_).mono ?_
  · intro p' w' hg' hr'
    refine closure_any g _ _ d n s (by omega) (by omega) HI.out p' w' hr' ?_ ?_
    · exact hg'.cell (cell_two w _ _ _ _).1 (by simp; omega)
    · exact hg'.cell (cell_two w _ _ _ _).2 (by simp; omega)
  rintro e w1 ⟨hg1, ⟨ts, q, sv, xs, hn, rfl, hr1, ho1, ha1⟩ | ⟨hn, b, rfl⟩⟩
  · have HG1 := Lib.hid hg1
    have HR1 := Lib.hid hr1
    have HN := Lib.hid hn
    have HA := Lib.hid (rep_node (d := d + 1) ((World.grownBy_alloc _ _ _).trans (World.grownBy_alloc _ _ _)) hg1 ho1 ha1)
    obtain ⟨A1, m1, c1, rfl⟩ := own_form ho1
    clear hg1 hr1 hn ho1 ha1
    go_wp2_with fail
    go_ret
    exact arr_ok (d := d + 2) (t := ts) HN.out ((((World.grownBy_alloc _ _ _).trans (World.grownBy_alloc _ _ _)).trans HG1.out).trans (World.grownBy_alloc _ _ _)) rfl (HR1.out.alloc _) HA.out
  · have HG1 := Lib.hid hg1
    have HN := Lib.hid hn
    clear hg1 hn
    exact ⟨rfl, arr_fell (d := d + 2) HN.out (((World.grownBy_alloc _ _ _).trans (World.grownBy_alloc _ _ _)).trans HG1.out) ⟨_, rfl⟩⟩

theorem array_any (g : Nat) (s : ByteArray) (hs : s.size ≤ 400) : ∀ (d : Nat) (n : Int) (p : Nat) (w : World), n = d → d ≤ 1000 → Rdr w g s p →
    Calls Try.prog 125 #[.pointer (some ⟨g, 0, none⟩), .int .i64 n] w (ArrPost s d p g w)
  | 0, n, p, w, hn, _, h => by obtain rfl : n = 0 := hn; exact array0 g p s w h hs
  | 1, n, p, w, hn, _, h => by obtain rfl : n = 1 := hn; exact array1 g p s w h hs
  | d + 2, n, p, w, hn, hd, h => arrayS g p d n s w h hs (by omega) (by omega) (fun p w h => array_any g s hs (d + 1) (n - 1) p w (by omega) (by omega) h)
end

/- Nest -/
section
open Go.RowKit

/-- The array of a depth whose text is s. -/
def readN (s : ByteArray) (d : Nat) : Option (T d) := match node s d 0 with
  | none => none
  | some (t, q) => if q = s.size then some t else none

theorem catch_fell (p q : Addr) (b : ByteArray) (x y : Value) (w : World) (hc : w.cell? p = some x) (hz : w.frozen? p = false) (hc2 : w.cell? q = some y) (hz2 : w.frozen? q = false) (hne : p.block ≠ q.block) :
    CallsD Try.prog 124 #[.pointer (some p), .pointer (some q)] (.panicking [{ v := .iface 9 (.string b), recovered := false }]) w fun e u' w' =>
      e = .returned (.tuple #[]) ∧ u' = .panicking [{ v := .iface 9 (.string b), recovered := true }] ∧ w' = (w.setCell p .nilIface).setCell q (.bool false) := by
  have hc3 : (w.setCell p .nilIface).cell? q = some y := (World.cell?_setCell_other w p q .nilIface (fun e => hne (by rw [e]))).trans hc2
  refine callsD_of_wpS Try.func124 rfl fun c₀ cs hu => ?_
  apply wpS_seq
  apply wpS_region
  simp [wpOpsS, go_sem, recoverD, hu, Try.ntmps124, Exit.thenS]
  refine wpS_cond (t := true) (by simp [Act.eval, Array.replicate]) ?_
  simp only [if_true]
  apply wpS_region
  simp [wpOpsS, go_sem, hc, hz, hc3, hz2, bodyPostS, results, Try.results124]

theorem catch_idle (p q : Addr) (w : World) :
    CallsD Try.prog 124 #[.pointer (some p), .pointer (some q)] .returning w fun e u' w' => e = .returned (.tuple #[]) ∧ u' = .returning ∧ w' = w := by
  refine callsD_of_wpS Try.func124 rfl fun c₀ cs hu => ?_
  apply wpS_seq
  apply wpS_region
  simp [wpOpsS, go_sem, recoverD, hu, Try.ntmps124, Exit.thenS]
  refine wpS_cond (t := false) (by simp [Act.eval, Array.replicate]) ?_
  simp only [Bool.false_eq_true, if_false]
  refine wpS_of_wp (wp_skip ?_)
  cases c₀
  simp_all [bodyPostS, results, Try.results124]

/-- How readNested ends without an array. -/
def NestNo (w : World) (e : Ending) (w' : World) : Prop := e = .returned (.tuple #[.nilIface, .bool false]) ∧ w.grownBy w' none

set_option maxHeartbeats 400000 in
theorem nest_out (n : Int) (s : ByteArray) (w : World) (h : n < 0 ∨ 3 < n ∨ 400 < s.size) :
    Calls Try.prog 106 #[.string s, .int .i64 n] w (NestNo w) := by
  have hmf := makeFunc_run
  go_enter_defers Try.func106, Try.ntmps106
  go_wp2_with fail
  all_goals
    refine leaves_cons (f := 124) (args := #[.pointer (some ⟨w.heap.size, 0, none⟩), .pointer (some ⟨w.heap.size + 1, 0, none⟩)]) (by simp) (by simp [go_sem]) ?_
    refine (catch_idle _ _ _).mono ?_
    rintro e u' w'' ⟨rfl, rfl, rfl⟩
    simp [Leaves, settle, results, Try.results106, go_sem]
    exact ⟨rfl, (World.grownBy_alloc _ _ _).trans (World.grownBy_alloc _ _ _)⟩

/-- How readNested ends with an array. -/
def NestYes (d : Nat) (t : T d) (w : World) (e : Ending) (w' : World) : Prop :=
  ∃ v, e = .returned (.tuple #[v, .bool true]) ∧ w.grownBy w' none ∧ RepI w' (fun b => w.heap.size ≤ b) d t v
def NestPost (s : ByteArray) (d : Nat) (w : World) (e : Ending) (w' : World) : Prop := match readN s d with
  | some t => NestYes d t w e w'
  | none => NestNo w e w'

theorem frozen_grown {w w' : World} {row : Option Nat} (h : w.grownBy w' row) {b i : Nat} (hb : b < w.heap.size) (hne : some b ≠ row) (hf : w.frozen? ⟨b, i, none⟩ = false) : w'.frozen? ⟨b, i, none⟩ = false :=
  (World.frozen?_of_block (w := w) (a := ⟨b, i, none⟩) (h.block b hb hne)).trans hf

theorem rdr_new {w : World} {k : Nat} (s : ByteArray) (hk : w.heap.size = k) : Rdr (w.alloc (.cells #[.string s, .int .i64 0] 138)) k s 0 := by
  subst hk
  exact heap_alloc_new _ _

theorem nestPost_no {s : ByteArray} {d : Nat} {w w' : World} {e : Ending} (hr : readN s d = none) (he : e = .returned (.tuple #[.nilIface, .bool false])) (hg : w.grownBy w' none) : NestPost s d w e w' := by
  unfold NestPost
  rw [hr]
  exact ⟨he, hg⟩
theorem nestPost_yes {s : ByteArray} {d : Nat} {t : T d} {v : Value} {w w' : World} {e : Ending} (hr : readN s d = some t) (he : e = .returned (.tuple #[v, .bool true])) (hg : w.grownBy w' none) (ha : RepI w' (fun b => w.heap.size ≤ b) d t v) : NestPost s d w e w' := by
  unfold NestPost
  rw [hr]
  exact ⟨v, he, hg, ha⟩
theorem gr_set_new {w w1 : World} {g i : Nat} (h : w.grownBy w1 none) (hg : w.heap.size ≤ g) (u : Value) : w.grownBy (w1.setCell ⟨g, i, none⟩ u) none := gr_new h (gr_set w1 g i u) hg
theorem RepI.iface {w : World} {S : Nat → Prop} : ∀ {d : Nat} {t : T d} {v : Value}, RepI w S d t v → ∃ ty pv, v = .iface ty pv
  | 0, _, _, h => ⟨_, _, h⟩
  | _ + 1, _, _, h => Nd.iface h

/-- The blocks that readNested makes first: the two results and the reader. -/
structure Three (w w3 : World) : Prop where
  gr : w.grownBy w3 none
  size : w3.heap.size = w.heap.size + 3
  c0 : w3.cell? ⟨w.heap.size, 0, none⟩ = some .nilIface
  f0 : w3.frozen? ⟨w.heap.size, 0, none⟩ = false
  c1 : w3.cell? ⟨w.heap.size + 1, 0, none⟩ = some (.bool false)
  f1 : w3.frozen? ⟨w.heap.size + 1, 0, none⟩ = false
theorem three (w : World) (s : ByteArray) : Three w (((w.alloc (.cells #[.nilIface] 114)).alloc (.cells #[.bool false] 4)).alloc (.cells #[.string s, .int .i64 0] 138)) := by
  have h := cell_two w .nilIface (.bool false) 114 4
  refine ⟨(World.grownBy_alloc _ _ _).trans ((World.grownBy_alloc _ _ _).trans (World.grownBy_alloc _ _ _)), by simp, ?_, ?_, ?_, ?_⟩
  · rw [World.cell?_alloc_lt _ _ _ (by simp; omega)]; exact h.1
  · simp [go_sem]
  · rw [World.cell?_alloc_lt _ _ _ (by simp)]; exact h.2
  · simp [go_sem]

set_option maxHeartbeats 1000000 in
theorem nest_in (n : Int) (d : Nat) (s : ByteArray) (w : World) (hnd : n = d) (h0 : 0 ≤ n) (h3 : n ≤ 3) (hs : s.size ≤ 400) :
    Calls Try.prog 106 #[.string s, .int .i64 n] w (NestPost s d w) := by
  have hmf := makeFunc_run
  have HND := Lib.hid hnd
  have hd3 : d ≤ 3 := by omega
  clear hnd
  go_enter_defers Try.func106, Try.ntmps106
  go_wp2_with fail
  clear hmf
  refine (array_any _ s hs d n 0 _ HND.out (by omega) (rdr_new s (by simp))).mono ?_
  have H3 := Lib.hid (three w s)
  generalize ((w.alloc (.cells #[.nilIface] 114)).alloc (.cells #[.bool false] 4)).alloc (.cells #[.string s, .int .i64 0] 138) = w3 at H3
  rintro e w4 ⟨hg4, ⟨t, q, v, hn, rfl, hr4, ha4⟩ | ⟨hn, b, rfl⟩⟩
  · have hs3 := H3.out.size
    have hc0 := hg4.cell H3.out.c0 (by simp; omega)
    have hf0 := frozen_grown hg4 (by omega) (by simp; omega) H3.out.f0
    have hc1 := hg4.cell H3.out.c1 (by simp)
    have hf1 := frozen_grown hg4 (by omega) (by simp) H3.out.f1
    have HG4 := Lib.hid hg4
    have HN := Lib.hid hn
    have HR4 := Lib.hid hr4
    have HA4 := Lib.hid ha4
    have hz4 := hg4.size
    have hqs := node_ge s d 0 t q hn
    obtain ⟨ty, pv, rfl⟩ := ha4.iface
    clear hg4 hn hr4 ha4
    go_wp2_with fail
    have HR5 := Lib.hid (HR4.out.grown (gr_set w4 w.heap.size 0 (.iface ty pv)) (by simp; omega))
    by_cases hend : q = s.size
    · refine (end_yes _ q s _ HR5.out (by omega)).mono ?_
      rintro e w6 ⟨rfl, n6, rfl⟩
      have HE := Lib.hid hend
      clear hend
      go_wp2_with fail
      refine leaves_cons (f := 124) (args := #[.pointer (some ⟨w.heap.size, 0, none⟩), .pointer (some ⟨w.heap.size + 1, 0, none⟩)]) (by simp) (by simp [go_sem]) ?_
      refine (catch_idle _ _ _).mono ?_
      rintro e u' w'' ⟨rfl, rfl, rfl⟩
      simp [Leaves, settle, results, Try.results106, go_sem, hc0, hc1]
      have hr : readN s d = some t := by rw [readN, HN.out]; exact if_pos HE.out
      have hg0 := gr_new H3.out.gr HG4.out (by omega)
      have hg1 : w.grownBy ((w4.setCell ⟨w.heap.size, 0, none⟩ (.iface ty pv)).drewN n6) none := (gr_set_new hg0 (by omega) (.iface ty pv)).trans (gr_drewN _ n6 none)
      refine nestPost_yes hr rfl (gr_set_new (gr_set_new hg1 (by omega) _) (by omega) _) (RepI.keep ?_ ?_ d t _ HA4.out)
      · intro b hb _
        rw [Below.heap_setCell _ _ _ _ (by simp; omega), Below.heap_setCell _ _ _ _ (by simp; omega)]
        exact Below.heap_setCell _ _ _ _ (by simp; omega)
      · intro b hb _
        omega
    · refine (end_no _ q s _ HR5.out (by omega)).mono ?_
      rintro e w6 ⟨⟨b, rfl⟩, hg6⟩
      have hr : readN s d = none := by rw [readN, HN.out]; exact if_neg hend
      have HR := Lib.hid hr
      have hb0 : ((w4.setCell ⟨w.heap.size, 0, none⟩ (.iface ty pv)).cell? ⟨w.heap.size, 0, none⟩) = some (.iface ty pv) := by simp [go_sem, hc0]
      have hg5 := gr_set w4 w.heap.size 0 (.iface ty pv)
      have hb1 := hg5.cell hc1 (by simp)
      have hbf0 := (by simpa [go_sem] using hf0 : (w4.setCell ⟨w.heap.size, 0, none⟩ (.iface ty pv)).frozen? ⟨w.heap.size, 0, none⟩ = false)
      have hbf1 := frozen_grown hg5 (by omega) (by simp) hf1
      have hd0 := hg6.cell hb0 (by simp; omega)
      have hd1 := hg6.cell hb1 (by simp)
      have hdf0 := frozen_grown hg6 (by simp; omega) (by simp; omega) hbf0
      have hdf1 := frozen_grown hg6 (by simp; omega) (by simp) hbf1
      have HG := Lib.hid (gr_new (gr_set_new (gr_new H3.out.gr HG4.out (by omega)) (by omega) (.iface ty pv)) hg6 (by omega))
      clear hr hb0 hg5 hb1 hbf0 hbf1 hg6 hc0 hc1 hf0 hf1
      refine leaves_cons (f := 124) (args := #[.pointer (some ⟨w.heap.size, 0, none⟩), .pointer (some ⟨w.heap.size + 1, 0, none⟩)]) (by simp) (by simp [go_sem]) ?_
      refine (catch_fell _ _ b _ _ _ hd0 hdf0 hd1 hdf1 (by simp)).mono ?_
      rintro e u' w'' ⟨rfl, rfl, rfl⟩
      simp [Leaves, settle, results, Try.results106, go_sem, hd0, hd1]
      exact nestPost_no HR.out rfl (gr_set_new (gr_set_new HG.out (by omega) _) (by omega) _)
  · have hs3 := H3.out.size
    have hc0 := hg4.cell H3.out.c0 (by simp; omega)
    have hf0 := frozen_grown hg4 (by omega) (by simp; omega) H3.out.f0
    have hc1 := hg4.cell H3.out.c1 (by simp)
    have hf1 := frozen_grown hg4 (by omega) (by simp) H3.out.f1
    have hr : readN s d = none := by rw [readN, hn]
    have HR := Lib.hid hr
    have HG := Lib.hid (gr_new H3.out.gr hg4 (by omega))
    clear hr hn hg4
    refine leaves_cons (f := 124) (args := #[.pointer (some ⟨w.heap.size, 0, none⟩), .pointer (some ⟨w.heap.size + 1, 0, none⟩)]) (by simp) (by simp [go_sem]) ?_
    refine (catch_fell _ _ b _ _ _ hc0 hf0 hc1 hf1 (by simp)).mono ?_
    rintro e u' w'' ⟨rfl, rfl, rfl⟩
    simp [Leaves, settle, results, Try.results106, go_sem, hc0, hc1]
    exact nestPost_no HR.out rfl (gr_set_new (gr_set_new HG.out (by omega) _) (by omega) _)
end

end Go.Proofs.Ytbideeajdhejoaa

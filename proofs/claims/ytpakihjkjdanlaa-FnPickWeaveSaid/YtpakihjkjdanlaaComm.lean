/- Communication in one goroutine within an ordinary walk: the walk's statement, asked of frames that are no early ones alone, so that a send and a receive have laws too. -/
import Derived.Test.YtpakihjkjdanlaaGathI
import Derived.Conc.LoneCalls
namespace Go.Proofs.Ytpakihjkjdanlaa
open Go.RowKit Go.Conc

section
variable {P : Program} {Q : Exit → Act → World → Prop} {a : Act} {w : World}

/-- The code comes to an exit of which Q holds, in every frame that is no early one. -/
def CodeN (P : Program) (c : Code) (Q : Exit → Act → World → Prop) (a : Act) (w : World) : Prop :=
  ∀ (b : Frame) (k : List Item) (cs : List Frame), b.kind ≠ .early → ∃ e a' w', Q e a' w' ∧ Arrives P (lone (b.at a (.code c :: k)) cs w) b k cs e a' w'
def OpsN (P : Program) (ops : Array Oper) (l : List Nat) (Q : Exit → Act → World → Prop) (a : Act) (w : World) : Prop :=
  ∀ (b : Frame) (k : List Item) (cs : List Frame), b.kind ≠ .early → ∃ e a' w', Q e a' w' ∧ Arrives P (lone (b.at a (.inRegion ops l :: k)) cs w) b k cs e a' w'

theorem CodeN.of {c : Code} (h : c.wp P Q a w) : CodeN P c Q a w := fun b k cs _ => h b k cs
theorem OpsN.of {ops : Array Oper} {l : List Nat} (h : wpOps P ops Q l a w) : OpsN P ops l Q a w := fun b k cs _ => wp_ops l a w h b k cs

/-- What is left is left for what stands behind it too. -/
theorem leave_pass {m m1 : Machine} {b : Frame} {x : Item} {k : List Item} {cs : List Frame} {e : Exit} (hs : Steps P m m1) (hx : x.plain = true) (hn : e ≠ .normal) (h : Arrives P m1 b (x :: k) cs e a w) : Arrives P m b k cs e a w :=
  .of_steps hs (.pass (x := x) hx (fun _ _ => .inl hn) h)
theorem then_other {K : Act → World → Prop} {e : Exit} (hn : e ≠ .normal) (h : Exit.then K Q e a w) : Q e a w := by
  cases e <;> first | exact absurd rfl hn | exact h

theorem codeN_seq {x y : Code} (h : CodeN P x (Exit.then (CodeN P y Q) Q) a w) : CodeN P (.seq x y) Q a w := by
  intro b k cs hb
  obtain ⟨e, a1, w1, hq, ha⟩ := h b (.code y :: k) cs hb
  by_cases hn : e = .normal
  · subst hn
    obtain ⟨e2, a2, w2, hq2, ha2⟩ := hq b k cs hb
    exact ⟨e2, a2, w2, hq2, .of_steps (.head step_seq ha) ha2⟩
  · exact ⟨e, a1, w1, then_other hn hq, leave_pass (.one step_seq) rfl hn ha⟩
theorem codeN_cut {x y : Code} (R : Act → World → Prop) (h : CodeN P x (Exit.then R Q) a w) (h2 : ∀ a w, R a w → CodeN P y Q a w) : CodeN P (.seq x y) Q a w :=
  codeN_seq fun b k cs hb => by
    obtain ⟨e, a1, w1, hq, ha⟩ := h b k cs hb
    exact ⟨e, a1, w1, by cases e <;> first | exact h2 _ _ hq | exact hq, ha⟩
theorem codeN_cond {c : Operand} {x y : Code} {t : Bool} (hc : a.eval c = .bool t) (h : CodeN P (if t then x else y) Q a w) : CodeN P (.cond c x y) Q a w := fun b k cs hb => by
  obtain ⟨e, a1, w1, hq, ha⟩ := h b k cs hb
  exact ⟨e, a1, w1, hq, .of_steps (.one (step_cond hc)) ha⟩
theorem codeN_true {c : Operand} {x y : Code} (hc : a.eval c = .bool true) (h : CodeN P x Q a w) : CodeN P (.cond c x y) Q a w := codeN_cond hc h
theorem codeN_false {c : Operand} {x y : Code} (hc : a.eval c = .bool false) (h : CodeN P y Q a w) : CodeN P (.cond c x y) Q a w := codeN_cond hc h
theorem codeN_block {id : Nat} {c : Code} (h : CodeN P c (Exit.inBlock id Q) a w) : CodeN P (.block id c) Q a w := by
  intro b k cs hb
  obtain ⟨e, a1, w1, hq, ha⟩ := h b (.inBlock id :: k) cs hb
  cases e with
  | normal => exact ⟨.normal, a1, w1, hq, .head step_block (Steps.trans ha (.one step_inBlock))⟩
  | exit id2 =>
    by_cases hid : id2 = id
    · simp only [Exit.inBlock, hid, if_true] at hq
      exact ⟨.normal, a1, w1, hq, .head step_block (ha k (by simp [exitTo, hid]))⟩
    · simp only [Exit.inBlock, hid, if_false] at hq
      exact ⟨.exit id2, a1, w1, hq, fun k2 hk => .head step_block (ha k2 (by
        have : (id == id2) = false := by simpa using fun h => hid h.symm
        simp [exitTo, this, hk]))⟩
  | goto l => exact ⟨_, a1, w1, hq, fun k2 hk => .head step_block (ha k2 (by simp [gotoIn, hk]))⟩
  | ret => exact ⟨_, a1, w1, hq, .of_steps (.one step_block) ha⟩
  | panic ch => exact ⟨_, a1, w1, hq, .of_steps (.one step_block) ha⟩
  | outgrown => exact ⟨_, a1, w1, hq, .of_steps (b := b) (k := k) (cs := cs) (e := .outgrown) (.one step_block) ha⟩
theorem codeN_loop {c : Code} (I : Nat → Act → World → Prop) (n : Nat) (h0 : I n a w)
    (round : ∀ m a w, I m a w → CodeN P c (Exit.then (fun a' w' => ∃ m', m' < m ∧ I m' a' w') Q) a w) : CodeN P (.loop c) Q a w := by
  intro b k cs hb
  have key : ∀ m a w, I m a w → ∃ e a' w', Q e a' w' ∧ Arrives P (lone (b.at a (.code c :: .inLoop c :: k)) cs w) b k cs e a' w' := by
    intro m
    induction m using Nat.strongRecOn with
    | _ m ih =>
      intro a w hI
      obtain ⟨e, a1, w1, hq, ha⟩ := round m a w hI b (.inLoop c :: k) cs hb
      by_cases hn : e = .normal
      · subst hn
        obtain ⟨m2, hlt, hI2⟩ := hq
        obtain ⟨e2, a2, w2, hq2, ha2⟩ := ih m2 hlt a1 w1 hI2
        exact ⟨e2, a2, w2, hq2, .of_steps (Steps.trans ha (.one step_inLoop)) ha2⟩
      · exact ⟨e, a1, w1, then_other hn hq, leave_pass (Steps.refl _ _) rfl hn ha⟩
  obtain ⟨e, a1, w1, hq, ha⟩ := key n a w h0
  exact ⟨e, a1, w1, hq, .of_steps (.one step_loop) ha⟩
theorem codeN_region {id : Nat} {ops : Array Oper} (h : OpsN P ops (List.range ops.size) Q a w) : CodeN P (.region id ops false) Q a w := fun b k cs hb => by
  obtain ⟨e, a1, w1, hq, ha⟩ := h b k cs hb
  exact ⟨e, a1, w1, hq, .of_steps (.one step_region) ha⟩

variable {ops : Array Oper} {i : Nat} {rest : List Nat} {o : Oper}
theorem opsN_step {a1 : Act} {w1 : World} (hs : ∀ b k cs, Frame.kind b ≠ .early → step P (lone (b.at a (.inRegion ops (i :: rest) :: k)) cs w) = .next (lone (b.at a1 (.inRegion ops rest :: k)) cs w1)) (h : OpsN P ops rest Q a1 w1) : OpsN P ops (i :: rest) Q a w := fun b k cs hb => by
  obtain ⟨e, a2, w2, hq, ha⟩ := h b k cs hb
  exact ⟨e, a2, w2, hq, .of_steps (.one (hs b k cs hb)) ha⟩
theorem opsN_value {v : Value} {w1 : World} (ho : ops[i]? = some o) (hw : Region.wanted o (yielded ops a.tmps) = true) (hr : (execOp a.eval o).run P w = .ok (.value v) w1) (h : OpsN P ops rest Q (a.put o.dst v) w1) : OpsN P ops (i :: rest) Q a w := by
  refine opsN_step (fun b k cs _ => step_lone_go ?_) h
  have hf := Frame.finish_at b a ops i rest k v
  rw [ho, Option.bind_some] at hf
  rw [stepG_op ho hw, ← hf]
  simp [stepG.apply, hr]
theorem opsN_send {v z : Value} {c cap s r : Nat} {buf : Array Value} {tm : Bool} (ho : ops[i]? = some o) (hw : Region.wanted o (yielded ops a.tmps) = true) (hr : (execOp a.eval o).run P w = .ok (.comm #[scase c v z] true .send) w)
    (hc : w.heap[c]? = some (.chan cap buf false s r tm)) (hroom : buf.size < cap) (h : OpsN P ops rest Q (a.put o.dst undef) (w.setChan c cap (buf.push v) false (s + 1) r tm)) : OpsN P ops (i :: rest) Q a w := by
  refine opsN_step (fun b k cs hb => ?_) h
  have h1 := step_lone_send_room (stepG_comm (main := true) (k := k) (cs := cs) (rest := rest) ho hw hb hr) hc hroom
  rw [Frame.finish_at, ho, Option.bind_some] at h1
  exact h1
theorem opsN_recv {z : Value} {c cap s r : Nat} {buf : Array Value} {closed tm : Bool} (ok : Bool) (ho : ops[i]? = some o) (hw : Region.wanted o (yielded ops a.tmps) = true) (hr : (execOp a.eval o).run P w = .ok (.comm #[rcase c z] true (.recv ok)) w)
    (hc : w.heap[c]? = some (.chan cap buf closed s r tm)) (hsome : 0 < buf.size) (h : OpsN P ops rest Q (a.put o.dst (got ok (buf.getD 0 undef) true)) (w.setChan c cap (buf.extract 1 buf.size) closed s (r + 1) tm)) : OpsN P ops (i :: rest) Q a w := by
  refine opsN_step (fun b k cs hb => ?_) h
  have h1 := step_lone_recv_buf ok (stepG_comm (main := true) (k := k) (cs := cs) (rest := rest) ho hw hb hr) hc hsome
  rw [Frame.finish_at, ho, Option.bind_some] at h1
  exact h1
theorem opsN_recv_shut {z : Value} {c cap s r : Nat} {tm : Bool} (ok : Bool) (ho : ops[i]? = some o) (hw : Region.wanted o (yielded ops a.tmps) = true) (hr : (execOp a.eval o).run P w = .ok (.comm #[rcase c z] true (.recv ok)) w)
    (hc : w.heap[c]? = some (.chan cap #[] true s r tm)) (h : OpsN P ops rest Q (a.put o.dst (got ok z false)) w) : OpsN P ops (i :: rest) Q a w := by
  refine opsN_step (fun b k cs hb => ?_) h
  have h1 := step_lone_recv_shut ok (stepG_comm (main := true) (k := k) (cs := cs) (rest := rest) ho hw hb hr) hc
  rw [Frame.finish_at, ho, Option.bind_some] at h1
  exact h1

/-- The walk is to see nothing of what stands behind. -/
theorem codeN_hide {c : Code} (h : ∀ Q' : Exit → Act → World → Prop, (∀ a w, Q .normal a w → Q' .normal a w) → CodeN P c Q' a w) : CodeN P c Q a w := h Q (fun _ _ h => h)
theorem opsN_nil (h : Q .normal a w) : OpsN P ops [] Q a w := .of h
theorem setChan_grown (w : World) (c cap : Nat) (buf : Array Value) (closed : Bool) (s r : Nat) (tm : Bool) : w.grownBy (w.setChan c cap buf closed s r tm) (some c) :=
  ⟨rfl, rfl, rfl, by simp [World.setChan], fun k _ hne => by
    simp only [World.setChan]
    rw [Array.getElem?_setIfInBounds_ne (fun e => hne (by rw [e]))]⟩

theorem calls_of_codeN {f : FuncId} {fn : Func} {c : Code} {args : Array Value} {R : Ending → World → Prop} (hf : P.funcs[f]? = some fn) (hbd : fn.body = some c)
    (h : CodeN P c (fun e a w => (e = .normal ∨ e = .ret) ∧ a.defers = [] ∧ ∃ v, (results fn a.tmps).run P w = .ok v w ∧ R (.returned v) w) { tmps := args ++ Array.replicate (fn.ntmps - args.size) undef, defers := [] } w) : Calls P f args w R := by
  intro cs
  let b : Frame := { (default : Frame) with fn := f, kind := .normal }
  have he : Frame.enter P f args .normal = b.at { tmps := args ++ Array.replicate (fn.ntmps - args.size) undef, defers := [] } [.code c] := by simp [Frame.enter, Frame.at, hf, hbd, b]
  obtain ⟨e, a1, w1, ⟨hn, hd, v, hr, hR⟩, ha⟩ := h b [] cs (by simp [b])
  rw [← he] at ha
  rcases hn with rfl | rfl
  · exact ⟨.returned v, w1, _, hR, Steps.trans ha (.one step_end), rfl, rfl, hd, rfl, fn, hf, hr⟩
  · obtain ⟨todo, hs⟩ := ha
    exact ⟨.returned v, w1, _, hR, hs, rfl, rfl, hd, rfl, fn, hf, hr⟩
end

end Go.Proofs.Ytpakihjkjdanlaa

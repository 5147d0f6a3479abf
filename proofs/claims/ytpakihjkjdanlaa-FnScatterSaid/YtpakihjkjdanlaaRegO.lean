/- A region of l4Order that draws its order: a number put into a list. -/
import Derived.Test.YtpakihjkjdanlaaSt3
import Derived.OrdersHeld
import Derived.Deep.RegionHeld
namespace Go.Proofs.Ytpakihjkjdanlaa
open Go.RowKit

theorem op_appendI {o : Oper} {a : Act} {w : World} {K : Act → World → Prop} {Q : Exit → Act → World → Prop} (x y : Operand) (ho : o.op = .call { callee := .builtin .append, args := #[x, y], argTypes := #[22, 22] }) (base : Nat) (v : Value) (n : Nat) (xs : List Int) (hs : a.eval x = v) (hown : w.ownsRow base 3 1 v n (xs.map (Value.int .i64)))
    (ad : Addr) (m c : Nat) (news : List Int) (hy : a.eval y = .slice (some ad) m c) (hl : news.length = m) (hnews : ∀ (j : Nat) (z : Int), news[j]? = some z → w.cell? (ad.add j) = some (.int .i64 z)) (h63 : n + m ≤ 1048576) (hbase : base ≤ w.heap.size)
    (h : ∀ v' w', w'.ownsRow base 3 1 v' (n + m) ((xs ++ news).map (Value.int .i64)) → w.grownBy w' v.ownBlock → (v'.ownBlock = v.ownBlock ∨ v'.ownBlock = some w.heap.size) → K (a.put o.dst v') w') : Oper.wp Try.prog o a w K Q := by
  obtain ⟨i0, hi0, hz0, hz1, hz2⟩ := info_parts infoJ
  obtain ⟨v', w', hr, h2, h3, _, h5⟩ := run_append_own_at (P := Try.prog) w base 22 o.type 3 i0 (.int .i64 0) 1 8 Try.underlying22 hi0 hz0 hz1 hz2 rfl (by decide) v n _ hown ad m c (news.map (Value.int .i64)) (by rw [List.length_map, hl]; simp) (fun j u hu => by
    rw [List.getElem?_map] at hu
    obtain ⟨z, hz, rfl⟩ := Option.map_eq_some_iff.1 hu
    exact hnews j z hz) (fun u hu => by obtain ⟨z, _, rfl⟩ := List.mem_map.1 hu; rfl) (by simp only [maxLen]; omega) (by omega) hbase
  unfold Oper.wp execOp
  simp only [ho, resolve, invoke, builtin, Sem.run_bind, Sem.run_pure, Result.andThen_ok, List.map_toArray, List.map_cons, List.map_nil, hs, hy, hr]
  exact h v' w' (by rw [List.map_append]; exact h2) h3 h5
theorem exec_cut1 {o : Oper} {ev : Operand → Value} {w : World} (x y : Operand) (ho : o.op = .slice 22 x none (some y) none) (h n c k : Nat) (hx : ev x = .slice (some ⟨h, 0, none⟩) n c) (hy : ev y = .int .i64 (k : Int)) (hk : k ≤ c) :
    (execOp ev o).run Try.prog w = .ok (.value (.slice (some ⟨h, 0, none⟩) k c)) w := by
  have hu : (underlying 22).run Try.prog w = .ok (.slice 3) w := by kernel_rfl
  have h1 : (sizeOf 3).run Try.prog w = .ok 1 w := by kernel_rfl
  simp only [execOp, ho, Option.map_none, Option.map_some, hx, hy]
  simp [Instr.sliceAt, Instr.slice, hu, Instr.sliceBounds, Instr.sliceBound, asIntOf, hk, h1, Result.andThen, Addr.add]
theorem exec_cut2 {o : Oper} {ev : Operand → Value} {w : World} (x y : Operand) (ho : o.op = .slice 22 x (some y) none none) (h n c k : Nat) (hx : ev x = .slice (some ⟨h, 0, none⟩) n c) (hy : ev y = .int .i64 (k : Int)) (hk : k ≤ n) :
    (execOp ev o).run Try.prog w = .ok (.value (.slice (some (if c = k then ⟨h, 0, none⟩ else ⟨h, k, none⟩)) (n - k) (c - k))) w := by
  have hu : (underlying 22).run Try.prog w = .ok (.slice 3) w := by kernel_rfl
  have h1 : (sizeOf 3).run Try.prog w = .ok 1 w := by kernel_rfl
  simp only [execOp, ho, Option.map_none, Option.map_some, hx, hy]
  simp [Instr.sliceAt, Instr.slice, hu, Instr.sliceBounds, Instr.sliceBound, asIntOf, hk, h1, Result.andThen, addr_flat]
  split <;> rfl

/-- The region, as the translation has it. -/
def opsO : Array Oper := #[{ dst := some 17, op := Op.buildSlice 22 0 #[], type := 22, pos := "l4_moving.go:158", after := #[], guard := none }, { dst := some 18, op := Op.move (Operand.tmp 5), type := 22, pos := "l4_moving.go:158", after := #[], guard := none }, { dst := some 19, op := Op.move (Operand.tmp 7), type := 3, pos := "l4_moving.go:158", after := #[], guard := none }, { dst := some 20, op := Op.slice 22 (Operand.tmp 18) none (some (Operand.tmp 19)) none, type := 22, pos := "l4_moving.go:158", after := #[{ on := 1, ground := Ground.data }, { on := 2, ground := Ground.data }], guard := none }, { dst := some 21, op := Op.call { callee := Callee.builtin Builtin.append, args := #[Operand.tmp 17, Operand.tmp 20], argTypes := #[22, 22] }, type := 22, pos := "l4_moving.go:158", after := #[{ on := 0, ground := Ground.data }, { on := 3, ground := Ground.data }], guard := none }, { dst := some 22, op := Op.move (Operand.tmp 6), type := 3, pos := "l4_moving.go:158", after := #[], guard := none }, { dst := some 23, op := Op.buildSlice 22 1 #[(0, Operand.tmp 22)], type := 22, pos := "l4_moving.go:158", after := #[{ on := 5, ground := Ground.data }], guard := none }, { dst := some 24, op := Op.call { callee := Callee.builtin Builtin.append, args := #[Operand.tmp 21, Operand.tmp 23], argTypes := #[22, 22] }, type := 22, pos := "l4_moving.go:158", after := #[{ on := 4, ground := Ground.data }, { on := 6, ground := Ground.data }, { on := 4, ground := Ground.chain }], guard := none }, { dst := some 25, op := Op.move (Operand.tmp 5), type := 22, pos := "l4_moving.go:158", after := #[], guard := none }, { dst := some 26, op := Op.move (Operand.tmp 7), type := 3, pos := "l4_moving.go:158", after := #[], guard := none }, { dst := some 27, op := Op.slice 22 (Operand.tmp 25) (some (Operand.tmp 26)) none none, type := 22, pos := "l4_moving.go:158", after := #[{ on := 8, ground := Ground.data }, { on := 9, ground := Ground.data }], guard := none }, { dst := some 28, op := Op.call { callee := Callee.builtin Builtin.append, args := #[Operand.tmp 24, Operand.tmp 27], argTypes := #[22, 22] }, type := 22, pos := "l4_moving.go:158", after := #[{ on := 7, ground := Ground.data }, { on := 10, ground := Ground.data }, { on := 7, ground := Ground.chain }], guard := none }, { dst := some 5, op := Op.assign (Operand.tmp 28), type := 22, pos := "l4_moving.go:158", after := #[{ on := 11, ground := Ground.data }, { on := 11, ground := Ground.chain }, { on := 0, ground := Ground.phase }, { on := 1, ground := Ground.phase }, { on := 2, ground := Ground.phase }, { on := 3, ground := Ground.phase }, { on := 4, ground := Ground.phase }, { on := 5, ground := Ground.phase }, { on := 6, ground := Ground.phase }, { on := 7, ground := Ground.phase }, { on := 8, ground := Ground.phase }, { on := 9, ground := Ground.phase }, { on := 10, ground := Ground.phase }, { on := 11, ground := Ground.phase }], guard := none }]

set_option maxRecDepth 100000 in
set_option maxHeartbeats 2000000 in
theorem go_11 {x0 x1 x2 x3 x4 x8 x9 x10 x11 x12 x13 x14 x15 x16 x28 x29 x30 x31 x32 x33 x34 x35 x36 x37 x38 x39 x40 x41 x42 x43 x44 x45 x46 x47 x48 : Value} {Qc : Exit → Act → World → Prop} (hpan : ∀ (c : List PanicEntry) (a : Act) (d : Option Tmp) (v : Value) (w : World), Qc (.panic c) (a.put d v) w → Qc (.panic c) a w) (W0 : World) (h t c k : Nat) (V : List Int) (A2 : Addr) (hV : V.length = t) (ht : t ≤ 1000) (hk : k ≤ t) (hc1 : ∀ (j : Nat) (z : Int), V[j]? = some z → W0.cell? ⟨h, j, none⟩ = some (.int .i64 z)) (hA2 : 0 < t - k → A2 = ⟨h, k, none⟩) (hK : ∀ (W : World) (v y17 y21 y23 y24 : Value), W.ownsRow W0.heap.size 3 1 v (t + 1) ((V.take k ++ [(t : Int)] ++ V.drop k).map (Value.int .i64)) → W0.grownBy W none → Qc .normal { tmps := #[x0, x1, x2, x3, x4, v, .int .i64 (t : Int), .int .i64 (k : Int), x8, x9, x10, x11, x12, x13, x14, x15, x16, y17, .slice (some ⟨h, 0, none⟩) t c, .int .i64 (k : Int), .slice (some ⟨h, 0, none⟩) k c, y21, .int .i64 (t : Int), y23, y24, .slice (some ⟨h, 0, none⟩) t c, .int .i64 (k : Int), .slice (some A2) (t - k) (c - k), v, x29, x30, x31, x32, x33, x34, x35, x36, x37, x38, x39, x40, x41, x42, x43, x44, x45, x46, x47, x48], defers := [] } W)
    (y17 y21 y23 v24 : Value) (W : World) (ho : W.ownsRow W0.heap.size 3 1 v24 (k + 1) ((V.take k ++ [(t : Int)]).map (Value.int .i64))) (hS : W0.grownBy W none) :
    wpAnyH Try.prog .any opsO Qc (fun w' => W0.grownBy w' none) 2 #[true, true, true, true, true, true, true, true, true, true, true, false, false] { tmps := #[x0, x1, x2, x3, x4, .slice (some ⟨h, 0, none⟩) t c, .int .i64 (t : Int), .int .i64 (k : Int), x8, x9, x10, x11, x12, x13, x14, x15, x16, y17, .slice (some ⟨h, 0, none⟩) t c, .int .i64 (k : Int), .slice (some ⟨h, 0, none⟩) k c, y21, .int .i64 (t : Int), y23, v24, .slice (some ⟨h, 0, none⟩) t c, .int .i64 (k : Int), .slice (some A2) (t - k) (c - k), x28, x29, x30, x31, x32, x33, x34, x35, x36, x37, x38, x39, x40, x41, x42, x43, x44, x45, x46, x47, x48], defers := [] } W := by
  have hnw : ∀ (j : Nat) (z : Int), (V.drop k)[j]? = some z → W.cell? (A2.add j) = some (.int .i64 z) := fun j z hz => by
    have hjl := (List.getElem?_eq_some_iff.1 hz).1
    rw [List.length_drop] at hjl
    rw [List.getElem?_drop] at hz
    rw [hA2 (by omega), addr_flat]
    exact hS.cell (hc1 _ _ hz) (by simp)
  refine wpAnyH_ready (rs := [11]) (by kernel_rfl) (by simp) ?_
  refine AllReadyH.cons (o := { dst := some 28, op := Op.call { callee := Callee.builtin Builtin.append, args := #[Operand.tmp 24, Operand.tmp 27], argTypes := #[22, 22] }, type := 22, pos := "l4_moving.go:158", after := #[{ on := 7, ground := Ground.data }, { on := 10, ground := Ground.data }, { on := 7, ground := Ground.chain }], guard := none }) rfl (fun K hK' => ?_) ?_
  · rw [if_pos (by rfl)]
    refine op_appendI (.tmp 24) (.tmp 27) rfl W0.heap.size v24 (k + 1) (V.take k ++ [(t : Int)]) rfl ho A2 (t - k) (c - k) (V.drop k) rfl (by rw [List.length_drop, hV]) hnw (by omega) hS.size (fun v w' ho' hg _ => ?_)
    have hs' := gr_own hS hg (fun q hq => (ho.lt q hq).1)
    rw [show k + 1 + (t - k) = t + 1 from by omega] at ho'
    refine hK'.out _ _ hs' (fun hS2 => ?_)
    refine wpAnyH_take (i := 12) (oi := { dst := some 5, op := Op.assign (Operand.tmp 28), type := 22, pos := "l4_moving.go:158", after := #[{ on := 11, ground := Ground.data }, { on := 11, ground := Ground.chain }, { on := 0, ground := Ground.phase }, { on := 1, ground := Ground.phase }, { on := 2, ground := Ground.phase }, { on := 3, ground := Ground.phase }, { on := 4, ground := Ground.phase }, { on := 5, ground := Ground.phase }, { on := 6, ground := Ground.phase }, { on := 7, ground := Ground.phase }, { on := 8, ground := Ground.phase }, { on := 9, ground := Ground.phase }, { on := 10, ground := Ground.phase }, { on := 11, ground := Ground.phase }], guard := none }) (v := v) rfl (by kernel_rfl) (by kernel_rfl) (by kernel_rfl) (fun _ _ _ h => hpan _ _ _ _ _ h) (.inl ⟨by rfl, fun _ _ => rfl⟩) hS2 ?_
    exact wpAnyH_done (by kernel_rfl) (hK w' v y17 y21 y23 v24 ho' hS2) _
  exact AllReadyH.nil

set_option maxRecDepth 100000 in
set_option maxHeartbeats 2000000 in
theorem go_7 {x0 x1 x2 x3 x4 x8 x9 x10 x11 x12 x13 x14 x15 x16 x24 x28 x29 x30 x31 x32 x33 x34 x35 x36 x37 x38 x39 x40 x41 x42 x43 x44 x45 x46 x47 x48 : Value} {Qc : Exit → Act → World → Prop} (hpan : ∀ (c : List PanicEntry) (a : Act) (d : Option Tmp) (v : Value) (w : World), Qc (.panic c) (a.put d v) w → Qc (.panic c) a w) (W0 : World) (h t c k : Nat) (V : List Int) (A2 : Addr) (hV : V.length = t) (ht : t ≤ 1000) (hk : k ≤ t) (hc1 : ∀ (j : Nat) (z : Int), V[j]? = some z → W0.cell? ⟨h, j, none⟩ = some (.int .i64 z)) (hA2 : 0 < t - k → A2 = ⟨h, k, none⟩) (hK : ∀ (W : World) (v y17 y21 y23 y24 : Value), W.ownsRow W0.heap.size 3 1 v (t + 1) ((V.take k ++ [(t : Int)] ++ V.drop k).map (Value.int .i64)) → W0.grownBy W none → Qc .normal { tmps := #[x0, x1, x2, x3, x4, v, .int .i64 (t : Int), .int .i64 (k : Int), x8, x9, x10, x11, x12, x13, x14, x15, x16, y17, .slice (some ⟨h, 0, none⟩) t c, .int .i64 (k : Int), .slice (some ⟨h, 0, none⟩) k c, y21, .int .i64 (t : Int), y23, y24, .slice (some ⟨h, 0, none⟩) t c, .int .i64 (k : Int), .slice (some A2) (t - k) (c - k), v, x29, x30, x31, x32, x33, x34, x35, x36, x37, x38, x39, x40, x41, x42, x43, x44, x45, x46, x47, x48], defers := [] } W)
    (y17 v21 : Value) (b6 : Nat) (W : World) (ho : W.ownsRow W0.heap.size 3 1 v21 k ((V.take k).map (Value.int .i64))) (h6 : W.cell? ⟨b6, 0, none⟩ = some (.int .i64 (t : Int))) (hS : W0.grownBy W none) :
    wpAnyH Try.prog .any opsO Qc (fun w' => W0.grownBy w' none) 3 #[true, true, true, true, true, true, true, false, true, true, true, false, false] { tmps := #[x0, x1, x2, x3, x4, .slice (some ⟨h, 0, none⟩) t c, .int .i64 (t : Int), .int .i64 (k : Int), x8, x9, x10, x11, x12, x13, x14, x15, x16, y17, .slice (some ⟨h, 0, none⟩) t c, .int .i64 (k : Int), .slice (some ⟨h, 0, none⟩) k c, v21, .int .i64 (t : Int), .slice (some ⟨b6, 0, none⟩) 1 1, x24, .slice (some ⟨h, 0, none⟩) t c, .int .i64 (k : Int), .slice (some A2) (t - k) (c - k), x28, x29, x30, x31, x32, x33, x34, x35, x36, x37, x38, x39, x40, x41, x42, x43, x44, x45, x46, x47, x48], defers := [] } W := by
  have hnw : ∀ (j : Nat) (z : Int), ([(t : Int)] : List Int)[j]? = some z → W.cell? ((⟨b6, 0, none⟩ : Addr).add j) = some (.int .i64 z) := fun j z hz => by
    cases j with
    | zero => simp at hz; subst hz; rw [addr_flat]; exact h6
    | succ j => simp at hz
  refine wpAnyH_ready (rs := [7]) (by kernel_rfl) (by simp) ?_
  refine AllReadyH.cons (o := { dst := some 24, op := Op.call { callee := Callee.builtin Builtin.append, args := #[Operand.tmp 21, Operand.tmp 23], argTypes := #[22, 22] }, type := 22, pos := "l4_moving.go:158", after := #[{ on := 4, ground := Ground.data }, { on := 6, ground := Ground.data }, { on := 4, ground := Ground.chain }], guard := none }) rfl (fun K hK' => ?_) ?_
  · rw [if_pos (by rfl)]
    refine op_appendI (.tmp 21) (.tmp 23) rfl W0.heap.size v21 k (V.take k) rfl ho ⟨b6, 0, none⟩ 1 1 [(t : Int)] rfl rfl hnw (by omega) hS.size (fun v w' ho' hg _ => ?_)
    have hs' := gr_own hS hg (fun q hq => (ho.lt q hq).1)
    exact hK'.out _ _ hs' (fun hS2 => go_11 hpan W0 h t c k V A2 hV ht hk hc1 hA2 hK y17 v21 _ v w' ho' hS2)
  exact AllReadyH.nil

set_option maxRecDepth 100000 in
set_option maxHeartbeats 2000000 in
theorem go_4 {x0 x1 x2 x3 x4 x8 x9 x10 x11 x12 x13 x14 x15 x16 x21 x24 x28 x29 x30 x31 x32 x33 x34 x35 x36 x37 x38 x39 x40 x41 x42 x43 x44 x45 x46 x47 x48 : Value} {Qc : Exit → Act → World → Prop} (hpan : ∀ (c : List PanicEntry) (a : Act) (d : Option Tmp) (v : Value) (w : World), Qc (.panic c) (a.put d v) w → Qc (.panic c) a w) (W0 : World) (h t c k : Nat) (V : List Int) (A2 : Addr) (hV : V.length = t) (ht : t ≤ 1000) (hk : k ≤ t) (hc1 : ∀ (j : Nat) (z : Int), V[j]? = some z → W0.cell? ⟨h, j, none⟩ = some (.int .i64 z)) (hA2 : 0 < t - k → A2 = ⟨h, k, none⟩) (hK : ∀ (W : World) (v y17 y21 y23 y24 : Value), W.ownsRow W0.heap.size 3 1 v (t + 1) ((V.take k ++ [(t : Int)] ++ V.drop k).map (Value.int .i64)) → W0.grownBy W none → Qc .normal { tmps := #[x0, x1, x2, x3, x4, v, .int .i64 (t : Int), .int .i64 (k : Int), x8, x9, x10, x11, x12, x13, x14, x15, x16, y17, .slice (some ⟨h, 0, none⟩) t c, .int .i64 (k : Int), .slice (some ⟨h, 0, none⟩) k c, y21, .int .i64 (t : Int), y23, y24, .slice (some ⟨h, 0, none⟩) t c, .int .i64 (k : Int), .slice (some A2) (t - k) (c - k), v, x29, x30, x31, x32, x33, x34, x35, x36, x37, x38, x39, x40, x41, x42, x43, x44, x45, x46, x47, x48], defers := [] } W)
    (b0 b6 : Nat) (hb : b6 ≠ b0) (W : World) (ho : W.ownsRow W0.heap.size 3 1 (.slice (some ⟨b0, 0, none⟩) 0 0) 0 ([])) (h6 : W.cell? ⟨b6, 0, none⟩ = some (.int .i64 (t : Int))) (hS : W0.grownBy W none) :
    wpAnyH Try.prog .any opsO Qc (fun w' => W0.grownBy w' none) 4 #[true, true, true, true, false, true, true, false, true, true, true, false, false] { tmps := #[x0, x1, x2, x3, x4, .slice (some ⟨h, 0, none⟩) t c, .int .i64 (t : Int), .int .i64 (k : Int), x8, x9, x10, x11, x12, x13, x14, x15, x16, .slice (some ⟨b0, 0, none⟩) 0 0, .slice (some ⟨h, 0, none⟩) t c, .int .i64 (k : Int), .slice (some ⟨h, 0, none⟩) k c, x21, .int .i64 (t : Int), .slice (some ⟨b6, 0, none⟩) 1 1, x24, .slice (some ⟨h, 0, none⟩) t c, .int .i64 (k : Int), .slice (some A2) (t - k) (c - k), x28, x29, x30, x31, x32, x33, x34, x35, x36, x37, x38, x39, x40, x41, x42, x43, x44, x45, x46, x47, x48], defers := [] } W := by
  have hnw : ∀ (j : Nat) (z : Int), (V.take k)[j]? = some z → W.cell? ((⟨h, 0, none⟩ : Addr).add j) = some (.int .i64 z) := fun j z hz => by
    rw [List.getElem?_take] at hz
    split at hz
    · rw [addr_flat, Nat.zero_add]
      exact hS.cell (hc1 _ _ hz) (by simp)
    · cases hz
  refine wpAnyH_ready (rs := [4]) (by kernel_rfl) (by simp) ?_
  refine AllReadyH.cons (o := { dst := some 21, op := Op.call { callee := Callee.builtin Builtin.append, args := #[Operand.tmp 17, Operand.tmp 20], argTypes := #[22, 22] }, type := 22, pos := "l4_moving.go:158", after := #[{ on := 0, ground := Ground.data }, { on := 3, ground := Ground.data }], guard := none }) rfl (fun K hK' => ?_) ?_
  · rw [if_pos (by rfl)]
    refine op_appendI (.tmp 17) (.tmp 20) rfl W0.heap.size (.slice (some ⟨b0, 0, none⟩) 0 0) 0 [] rfl (by simpa using ho) ⟨h, 0, none⟩ k c (V.take k) rfl (by rw [List.length_take]; omega) hnw (by omega) hS.size (fun v w' ho' hg hat => ?_)
    have hs' := gr_own hS hg (fun q hq => (ho.lt q hq).1)
    rw [Nat.zero_add, List.nil_append] at ho'
    exact hK'.out _ _ hs' (fun hS2 => go_7 hpan W0 h t c k V A2 hV ht hk hc1 hA2 hK _ v b6 w' ho' (hg.cell h6 (by simp [Value.ownBlock]; omega)) hS2)
  exact AllReadyH.nil

set_option maxRecDepth 100000 in
set_option maxHeartbeats 2000000 in
theorem go_6 {x0 x1 x2 x3 x4 x8 x9 x10 x11 x12 x13 x14 x15 x16 x23 x24 x28 x29 x30 x31 x32 x33 x34 x35 x36 x37 x38 x39 x40 x41 x42 x43 x44 x45 x46 x47 x48 : Value} {Qc : Exit → Act → World → Prop} (hpan : ∀ (c : List PanicEntry) (a : Act) (d : Option Tmp) (v : Value) (w : World), Qc (.panic c) (a.put d v) w → Qc (.panic c) a w) (W0 : World) (h t c k : Nat) (V : List Int) (A2 : Addr) (hV : V.length = t) (ht : t ≤ 1000) (hk : k ≤ t) (hc1 : ∀ (j : Nat) (z : Int), V[j]? = some z → W0.cell? ⟨h, j, none⟩ = some (.int .i64 z)) (hA2 : 0 < t - k → A2 = ⟨h, k, none⟩) (hK : ∀ (W : World) (v y17 y21 y23 y24 : Value), W.ownsRow W0.heap.size 3 1 v (t + 1) ((V.take k ++ [(t : Int)] ++ V.drop k).map (Value.int .i64)) → W0.grownBy W none → Qc .normal { tmps := #[x0, x1, x2, x3, x4, v, .int .i64 (t : Int), .int .i64 (k : Int), x8, x9, x10, x11, x12, x13, x14, x15, x16, y17, .slice (some ⟨h, 0, none⟩) t c, .int .i64 (k : Int), .slice (some ⟨h, 0, none⟩) k c, y21, .int .i64 (t : Int), y23, y24, .slice (some ⟨h, 0, none⟩) t c, .int .i64 (k : Int), .slice (some A2) (t - k) (c - k), v, x29, x30, x31, x32, x33, x34, x35, x36, x37, x38, x39, x40, x41, x42, x43, x44, x45, x46, x47, x48], defers := [] } W)
    (y17 v21 : Value) (W : World) (ho : W.ownsRow W0.heap.size 3 1 v21 k ((V.take k).map (Value.int .i64))) (hS : W0.grownBy W none) :
    wpAnyH Try.prog .any opsO Qc (fun w' => W0.grownBy w' none) 4 #[true, true, true, true, true, true, false, false, true, true, true, false, false] { tmps := #[x0, x1, x2, x3, x4, .slice (some ⟨h, 0, none⟩) t c, .int .i64 (t : Int), .int .i64 (k : Int), x8, x9, x10, x11, x12, x13, x14, x15, x16, y17, .slice (some ⟨h, 0, none⟩) t c, .int .i64 (k : Int), .slice (some ⟨h, 0, none⟩) k c, v21, .int .i64 (t : Int), x23, x24, .slice (some ⟨h, 0, none⟩) t c, .int .i64 (k : Int), .slice (some A2) (t - k) (c - k), x28, x29, x30, x31, x32, x33, x34, x35, x36, x37, x38, x39, x40, x41, x42, x43, x44, x45, x46, x47, x48], defers := [] } W := by
  refine wpAnyH_ready (rs := [6]) (by kernel_rfl) (by simp) ?_
  refine AllReadyH.cons (o := { dst := some 23, op := Op.buildSlice 22 1 #[(0, Operand.tmp 22)], type := 22, pos := "l4_moving.go:158", after := #[{ on := 5, ground := Ground.data }], guard := none }) rfl (fun K hK' => ?_) ?_
  · go_simp
    refine hK'.out _ _ (hS.trans (World.grownBy_alloc _ _ none)) (fun hS2 => ?_)
    exact go_7 hpan W0 h t c k V A2 hV ht hk hc1 hA2 hK y17 v21 W.heap.size _ (ho.alloc _) (by simp) hS2
  exact AllReadyH.nil

set_option maxRecDepth 100000 in
set_option maxHeartbeats 2000000 in
theorem go_46 {x0 x1 x2 x3 x4 x8 x9 x10 x11 x12 x13 x14 x15 x16 x21 x23 x24 x28 x29 x30 x31 x32 x33 x34 x35 x36 x37 x38 x39 x40 x41 x42 x43 x44 x45 x46 x47 x48 : Value} {Qc : Exit → Act → World → Prop} (hpan : ∀ (c : List PanicEntry) (a : Act) (d : Option Tmp) (v : Value) (w : World), Qc (.panic c) (a.put d v) w → Qc (.panic c) a w) (W0 : World) (h t c k : Nat) (V : List Int) (A2 : Addr) (hV : V.length = t) (ht : t ≤ 1000) (hk : k ≤ t) (hc1 : ∀ (j : Nat) (z : Int), V[j]? = some z → W0.cell? ⟨h, j, none⟩ = some (.int .i64 z)) (hA2 : 0 < t - k → A2 = ⟨h, k, none⟩) (hK : ∀ (W : World) (v y17 y21 y23 y24 : Value), W.ownsRow W0.heap.size 3 1 v (t + 1) ((V.take k ++ [(t : Int)] ++ V.drop k).map (Value.int .i64)) → W0.grownBy W none → Qc .normal { tmps := #[x0, x1, x2, x3, x4, v, .int .i64 (t : Int), .int .i64 (k : Int), x8, x9, x10, x11, x12, x13, x14, x15, x16, y17, .slice (some ⟨h, 0, none⟩) t c, .int .i64 (k : Int), .slice (some ⟨h, 0, none⟩) k c, y21, .int .i64 (t : Int), y23, y24, .slice (some ⟨h, 0, none⟩) t c, .int .i64 (k : Int), .slice (some A2) (t - k) (c - k), v, x29, x30, x31, x32, x33, x34, x35, x36, x37, x38, x39, x40, x41, x42, x43, x44, x45, x46, x47, x48], defers := [] } W)
    (b0 : Nat) (W : World) (ho : W.ownsRow W0.heap.size 3 1 (.slice (some ⟨b0, 0, none⟩) 0 0) 0 ([])) (hS : W0.grownBy W none) :
    wpAnyH Try.prog .any opsO Qc (fun w' => W0.grownBy w' none) 5 #[true, true, true, true, false, true, false, false, true, true, true, false, false] { tmps := #[x0, x1, x2, x3, x4, .slice (some ⟨h, 0, none⟩) t c, .int .i64 (t : Int), .int .i64 (k : Int), x8, x9, x10, x11, x12, x13, x14, x15, x16, .slice (some ⟨b0, 0, none⟩) 0 0, .slice (some ⟨h, 0, none⟩) t c, .int .i64 (k : Int), .slice (some ⟨h, 0, none⟩) k c, x21, .int .i64 (t : Int), x23, x24, .slice (some ⟨h, 0, none⟩) t c, .int .i64 (k : Int), .slice (some A2) (t - k) (c - k), x28, x29, x30, x31, x32, x33, x34, x35, x36, x37, x38, x39, x40, x41, x42, x43, x44, x45, x46, x47, x48], defers := [] } W := by
  have hnw : ∀ (j : Nat) (z : Int), (V.take k)[j]? = some z → W.cell? ((⟨h, 0, none⟩ : Addr).add j) = some (.int .i64 z) := fun j z hz => by
    rw [List.getElem?_take] at hz
    split at hz
    · rw [addr_flat, Nat.zero_add]
      exact hS.cell (hc1 _ _ hz) (by simp)
    · cases hz
  refine wpAnyH_ready (rs := [4, 6]) (by kernel_rfl) (by simp) ?_
  refine AllReadyH.cons (o := { dst := some 21, op := Op.call { callee := Callee.builtin Builtin.append, args := #[Operand.tmp 17, Operand.tmp 20], argTypes := #[22, 22] }, type := 22, pos := "l4_moving.go:158", after := #[{ on := 0, ground := Ground.data }, { on := 3, ground := Ground.data }], guard := none }) rfl (fun K hK' => ?_) ?_
  · rw [if_pos (by rfl)]
    refine op_appendI (.tmp 17) (.tmp 20) rfl W0.heap.size (.slice (some ⟨b0, 0, none⟩) 0 0) 0 [] rfl (by simpa using ho) ⟨h, 0, none⟩ k c (V.take k) rfl (by rw [List.length_take]; omega) hnw (by omega) hS.size (fun v w' ho' hg hat => ?_)
    have hs' := gr_own hS hg (fun q hq => (ho.lt q hq).1)
    rw [Nat.zero_add, List.nil_append] at ho'
    exact hK'.out _ _ hs' (fun hS2 => go_6 hpan W0 h t c k V A2 hV ht hk hc1 hA2 hK _ v w' ho' hS2)
  refine AllReadyH.cons (o := { dst := some 23, op := Op.buildSlice 22 1 #[(0, Operand.tmp 22)], type := 22, pos := "l4_moving.go:158", after := #[{ on := 5, ground := Ground.data }], guard := none }) rfl (fun K hK' => ?_) ?_
  · go_simp
    refine hK'.out _ _ (hS.trans (World.grownBy_alloc _ _ none)) (fun hS2 => ?_)
    exact go_4 hpan W0 h t c k V A2 hV ht hk hc1 hA2 hK b0 W.heap.size (by have := (ho.lt b0 rfl).2; omega) _ (ho.alloc _) (by simp) hS2
  exact AllReadyH.nil

set_option maxRecDepth 100000 in
set_option maxHeartbeats 2000000 in
theorem go_0 {x0 x1 x2 x3 x4 x8 x9 x10 x11 x12 x13 x14 x15 x16 x17 x21 x24 x28 x29 x30 x31 x32 x33 x34 x35 x36 x37 x38 x39 x40 x41 x42 x43 x44 x45 x46 x47 x48 : Value} {Qc : Exit → Act → World → Prop} (hpan : ∀ (c : List PanicEntry) (a : Act) (d : Option Tmp) (v : Value) (w : World), Qc (.panic c) (a.put d v) w → Qc (.panic c) a w) (W0 : World) (h t c k : Nat) (V : List Int) (A2 : Addr) (hV : V.length = t) (ht : t ≤ 1000) (hk : k ≤ t) (hc1 : ∀ (j : Nat) (z : Int), V[j]? = some z → W0.cell? ⟨h, j, none⟩ = some (.int .i64 z)) (hA2 : 0 < t - k → A2 = ⟨h, k, none⟩) (hK : ∀ (W : World) (v y17 y21 y23 y24 : Value), W.ownsRow W0.heap.size 3 1 v (t + 1) ((V.take k ++ [(t : Int)] ++ V.drop k).map (Value.int .i64)) → W0.grownBy W none → Qc .normal { tmps := #[x0, x1, x2, x3, x4, v, .int .i64 (t : Int), .int .i64 (k : Int), x8, x9, x10, x11, x12, x13, x14, x15, x16, y17, .slice (some ⟨h, 0, none⟩) t c, .int .i64 (k : Int), .slice (some ⟨h, 0, none⟩) k c, y21, .int .i64 (t : Int), y23, y24, .slice (some ⟨h, 0, none⟩) t c, .int .i64 (k : Int), .slice (some A2) (t - k) (c - k), v, x29, x30, x31, x32, x33, x34, x35, x36, x37, x38, x39, x40, x41, x42, x43, x44, x45, x46, x47, x48], defers := [] } W)
    (b6 : Nat) (W : World) (h6 : W.cell? ⟨b6, 0, none⟩ = some (.int .i64 (t : Int))) (hb : b6 < W.heap.size) (hS : W0.grownBy W none) :
    wpAnyH Try.prog .any opsO Qc (fun w' => W0.grownBy w' none) 5 #[false, true, true, true, false, true, true, false, true, true, true, false, false] { tmps := #[x0, x1, x2, x3, x4, .slice (some ⟨h, 0, none⟩) t c, .int .i64 (t : Int), .int .i64 (k : Int), x8, x9, x10, x11, x12, x13, x14, x15, x16, x17, .slice (some ⟨h, 0, none⟩) t c, .int .i64 (k : Int), .slice (some ⟨h, 0, none⟩) k c, x21, .int .i64 (t : Int), .slice (some ⟨b6, 0, none⟩) 1 1, x24, .slice (some ⟨h, 0, none⟩) t c, .int .i64 (k : Int), .slice (some A2) (t - k) (c - k), x28, x29, x30, x31, x32, x33, x34, x35, x36, x37, x38, x39, x40, x41, x42, x43, x44, x45, x46, x47, x48], defers := [] } W := by
  refine wpAnyH_ready (rs := [0]) (by kernel_rfl) (by simp) ?_
  refine AllReadyH.cons (o := { dst := some 17, op := Op.buildSlice 22 0 #[], type := 22, pos := "l4_moving.go:158", after := #[], guard := none }) rfl (fun K hK' => ?_) ?_
  · go_simp
    refine hK'.out _ _ (hS.trans (World.grownBy_alloc _ _ none)) (fun hS2 => ?_)
    exact go_4 hpan W0 h t c k V A2 hV ht hk hc1 hA2 hK W.heap.size b6 (by omega) _ (made_row W W0.heap.size hS.size) ((World.grownBy_alloc W _ none).cell h6 (by simp)) hS2
  exact AllReadyH.nil

set_option maxRecDepth 100000 in
set_option maxHeartbeats 2000000 in
theorem go_S {x0 x1 x2 x3 x4 x8 x9 x10 x11 x12 x13 x14 x15 x16 x17 x21 x23 x24 x28 x29 x30 x31 x32 x33 x34 x35 x36 x37 x38 x39 x40 x41 x42 x43 x44 x45 x46 x47 x48 : Value} {Qc : Exit → Act → World → Prop} (hpan : ∀ (c : List PanicEntry) (a : Act) (d : Option Tmp) (v : Value) (w : World), Qc (.panic c) (a.put d v) w → Qc (.panic c) a w) (W0 : World) (h t c k : Nat) (V : List Int) (A2 : Addr) (hV : V.length = t) (ht : t ≤ 1000) (hk : k ≤ t) (hc1 : ∀ (j : Nat) (z : Int), V[j]? = some z → W0.cell? ⟨h, j, none⟩ = some (.int .i64 z)) (hA2 : 0 < t - k → A2 = ⟨h, k, none⟩) (hK : ∀ (W : World) (v y17 y21 y23 y24 : Value), W.ownsRow W0.heap.size 3 1 v (t + 1) ((V.take k ++ [(t : Int)] ++ V.drop k).map (Value.int .i64)) → W0.grownBy W none → Qc .normal { tmps := #[x0, x1, x2, x3, x4, v, .int .i64 (t : Int), .int .i64 (k : Int), x8, x9, x10, x11, x12, x13, x14, x15, x16, y17, .slice (some ⟨h, 0, none⟩) t c, .int .i64 (k : Int), .slice (some ⟨h, 0, none⟩) k c, y21, .int .i64 (t : Int), y23, y24, .slice (some ⟨h, 0, none⟩) t c, .int .i64 (k : Int), .slice (some A2) (t - k) (c - k), v, x29, x30, x31, x32, x33, x34, x35, x36, x37, x38, x39, x40, x41, x42, x43, x44, x45, x46, x47, x48], defers := [] } W)
     (W : World)  (hS : W0.grownBy W none) :
    wpAnyH Try.prog .any opsO Qc (fun w' => W0.grownBy w' none) 6 #[false, true, true, true, false, true, false, false, true, true, true, false, false] { tmps := #[x0, x1, x2, x3, x4, .slice (some ⟨h, 0, none⟩) t c, .int .i64 (t : Int), .int .i64 (k : Int), x8, x9, x10, x11, x12, x13, x14, x15, x16, x17, .slice (some ⟨h, 0, none⟩) t c, .int .i64 (k : Int), .slice (some ⟨h, 0, none⟩) k c, x21, .int .i64 (t : Int), x23, x24, .slice (some ⟨h, 0, none⟩) t c, .int .i64 (k : Int), .slice (some A2) (t - k) (c - k), x28, x29, x30, x31, x32, x33, x34, x35, x36, x37, x38, x39, x40, x41, x42, x43, x44, x45, x46, x47, x48], defers := [] } W := by
  refine wpAnyH_ready (rs := [0, 6]) (by kernel_rfl) (by simp) ?_
  refine AllReadyH.cons (o := { dst := some 17, op := Op.buildSlice 22 0 #[], type := 22, pos := "l4_moving.go:158", after := #[], guard := none }) rfl (fun K hK' => ?_) ?_
  · go_simp
    refine hK'.out _ _ (hS.trans (World.grownBy_alloc _ _ none)) (fun hS2 => ?_)
    exact go_46 hpan W0 h t c k V A2 hV ht hk hc1 hA2 hK W.heap.size _ (made_row W W0.heap.size hS.size) hS2
  refine AllReadyH.cons (o := { dst := some 23, op := Op.buildSlice 22 1 #[(0, Operand.tmp 22)], type := 22, pos := "l4_moving.go:158", after := #[{ on := 5, ground := Ground.data }], guard := none }) rfl (fun K hK' => ?_) ?_
  · go_simp
    refine hK'.out _ _ (hS.trans (World.grownBy_alloc _ _ none)) (fun hS2 => ?_)
    exact go_0 hpan W0 h t c k V A2 hV ht hk hc1 hA2 hK W.heap.size _ (by simp) (by simp) hS2
  exact AllReadyH.nil

set_option maxRecDepth 100000 in
set_option maxHeartbeats 2000000 in
theorem go_all {x0 x1 x2 x3 x4 x8 x9 x10 x11 x12 x13 x14 x15 x16 x17 x18 x19 x20 x21 x22 x23 x24 x25 x26 x27 x28 x29 x30 x31 x32 x33 x34 x35 x36 x37 x38 x39 x40 x41 x42 x43 x44 x45 x46 x47 x48 : Value} {Qc : Exit → Act → World → Prop} (hpan : ∀ (c : List PanicEntry) (a : Act) (d : Option Tmp) (v : Value) (w : World), Qc (.panic c) (a.put d v) w → Qc (.panic c) a w) (W0 : World) (h t c k : Nat) (V : List Int) (hV : V.length = t) (ht : t ≤ 1000) (hk : k ≤ t) (hc1 : ∀ (j : Nat) (z : Int), V[j]? = some z → W0.cell? ⟨h, j, none⟩ = some (.int .i64 z)) (htc : t ≤ c) (hK : ∀ (A2 : Addr) (W : World) (v y17 y21 y23 y24 : Value), W.ownsRow W0.heap.size 3 1 v (t + 1) ((V.take k ++ [(t : Int)] ++ V.drop k).map (Value.int .i64)) → W0.grownBy W none → Qc .normal { tmps := #[x0, x1, x2, x3, x4, v, .int .i64 (t : Int), .int .i64 (k : Int), x8, x9, x10, x11, x12, x13, x14, x15, x16, y17, .slice (some ⟨h, 0, none⟩) t c, .int .i64 (k : Int), .slice (some ⟨h, 0, none⟩) k c, y21, .int .i64 (t : Int), y23, y24, .slice (some ⟨h, 0, none⟩) t c, .int .i64 (k : Int), .slice (some A2) (t - k) (c - k), v, x29, x30, x31, x32, x33, x34, x35, x36, x37, x38, x39, x40, x41, x42, x43, x44, x45, x46, x47, x48], defers := [] } W) :
    (Code.region 6 opsO true).wp Try.prog Qc { tmps := #[x0, x1, x2, x3, x4, .slice (some ⟨h, 0, none⟩) t c, .int .i64 (t : Int), .int .i64 (k : Int), x8, x9, x10, x11, x12, x13, x14, x15, x16, x17, x18, x19, x20, x21, x22, x23, x24, x25, x26, x27, x28, x29, x30, x31, x32, x33, x34, x35, x36, x37, x38, x39, x40, x41, x42, x43, x44, x45, x46, x47, x48], defers := [] } W0 := by
  refine wp_region_held_drew (S := (fun w' => W0.grownBy w' none)) (by kernel_rfl) (gr_drewN W0 1 none) (fun hS => ?_)
  obtain ⟨A2, hA2⟩ : ∃ A2 : Addr, (if c = k then (⟨h, 0, none⟩ : Addr) else ⟨h, k, none⟩) = A2 := ⟨_, rfl⟩
  refine wpAnyH_take (i := 1) (oi := { dst := some 18, op := Op.move (Operand.tmp 5), type := 22, pos := "l4_moving.go:158", after := #[], guard := none }) (v := .slice (some ⟨h, 0, none⟩) t c) rfl (by kernel_rfl) (by kernel_rfl) (by kernel_rfl) (fun _ _ _ h => hpan _ _ _ _ _ h) (.inl ⟨by rfl, fun _ _ => rfl⟩) hS ?_
  simp only [Act.put, List.setIfInBounds_toArray, List.set_cons_zero, List.set_cons_succ]
  refine wpAnyH_take (i := 2) (oi := { dst := some 19, op := Op.move (Operand.tmp 7), type := 3, pos := "l4_moving.go:158", after := #[], guard := none }) (v := .int .i64 (k : Int)) rfl (by kernel_rfl) (by kernel_rfl) (by kernel_rfl) (fun _ _ _ h => hpan _ _ _ _ _ h) (.inl ⟨by rfl, fun _ _ => rfl⟩) hS ?_
  simp only [Act.put, List.setIfInBounds_toArray, List.set_cons_zero, List.set_cons_succ]
  refine wpAnyH_take (i := 3) (oi := { dst := some 20, op := Op.slice 22 (Operand.tmp 18) none (some (Operand.tmp 19)) none, type := 22, pos := "l4_moving.go:158", after := #[{ on := 1, ground := Ground.data }, { on := 2, ground := Ground.data }], guard := none }) (v := .slice (some ⟨h, 0, none⟩) k c) rfl (by kernel_rfl) (by kernel_rfl) (by kernel_rfl) (fun _ _ _ h => hpan _ _ _ _ _ h) (.inl ⟨by rfl, fun u _ => exec_cut1 (.tmp 18) (.tmp 19) rfl h t c k rfl rfl (by omega)⟩) hS ?_
  simp only [Act.put, List.setIfInBounds_toArray, List.set_cons_zero, List.set_cons_succ]
  refine wpAnyH_take (i := 5) (oi := { dst := some 22, op := Op.move (Operand.tmp 6), type := 3, pos := "l4_moving.go:158", after := #[], guard := none }) (v := .int .i64 (t : Int)) rfl (by kernel_rfl) (by kernel_rfl) (by kernel_rfl) (fun _ _ _ h => hpan _ _ _ _ _ h) (.inl ⟨by rfl, fun _ _ => rfl⟩) hS ?_
  simp only [Act.put, List.setIfInBounds_toArray, List.set_cons_zero, List.set_cons_succ]
  refine wpAnyH_take (i := 8) (oi := { dst := some 25, op := Op.move (Operand.tmp 5), type := 22, pos := "l4_moving.go:158", after := #[], guard := none }) (v := .slice (some ⟨h, 0, none⟩) t c) rfl (by kernel_rfl) (by kernel_rfl) (by kernel_rfl) (fun _ _ _ h => hpan _ _ _ _ _ h) (.inl ⟨by rfl, fun _ _ => rfl⟩) hS ?_
  simp only [Act.put, List.setIfInBounds_toArray, List.set_cons_zero, List.set_cons_succ]
  refine wpAnyH_take (i := 9) (oi := { dst := some 26, op := Op.move (Operand.tmp 7), type := 3, pos := "l4_moving.go:158", after := #[], guard := none }) (v := .int .i64 (k : Int)) rfl (by kernel_rfl) (by kernel_rfl) (by kernel_rfl) (fun _ _ _ h => hpan _ _ _ _ _ h) (.inl ⟨by rfl, fun _ _ => rfl⟩) hS ?_
  simp only [Act.put, List.setIfInBounds_toArray, List.set_cons_zero, List.set_cons_succ]
  refine wpAnyH_take (i := 10) (oi := { dst := some 27, op := Op.slice 22 (Operand.tmp 25) (some (Operand.tmp 26)) none none, type := 22, pos := "l4_moving.go:158", after := #[{ on := 8, ground := Ground.data }, { on := 9, ground := Ground.data }], guard := none }) (v := .slice (some A2) (t - k) (c - k)) rfl (by kernel_rfl) (by kernel_rfl) (by kernel_rfl) (fun _ _ _ h => hpan _ _ _ _ _ h) (.inl ⟨by rfl, fun u _ => by rw [← hA2]; exact exec_cut2 (.tmp 25) (.tmp 26) rfl h t c k rfl rfl hk⟩) hS ?_
  simp only [Act.put, List.setIfInBounds_toArray, List.set_cons_zero, List.set_cons_succ]
  exact go_S hpan W0 h t c k V A2 hV ht hk hc1 (fun hp => by rw [← hA2, if_neg (by omega)]) (hK A2) _ hS

end Go.Proofs.Ytpakihjkjdanlaa

/- '==' of references and of operations. -/
import Derived.Test.YtjgegggcbjecbaaDoorByts
import Derived.Laws.StructEq
namespace Go.Proofs.YtjgegggcbjecbaaDoor
open Go Go.RowKit

section
variable {P : Program}
theorem part_agg {e : TypeId} {d : TypeDesc} (he : P.underlying e = some d) (hd : d.isRow = true) {n : Nat} (hi : (P.info? e).map (·.size) = some n) (cs : Array Value) (k : Nat) (w : World) : (part e cs k).run P w = .ok (.agg (cs.extract k (k + n))) w := by
  have hag : (isAgg e).run P w = .ok true w := by
    unfold isAgg
    rw [Sem.run_bind, run_underlying he w]
    cases d <;> simp_all
  cases hq : P.info? e with
  | none => simp [hq] at hi
  | some i =>
    have hs : i.size = n := by simpa [hq] using hi
    simp [part, hag, sizeOf, typeInfo, hq, hs]
theorem part_one {e : TypeId} {d : TypeDesc} (he : P.underlying e = some d) (hd : d.isRow = false) (cs : Array Value) (k : Nat) (v : Value) (hv : cs[k]? = some v) (w : World) : (part e cs k).run P w = .ok v w := by
  have hag : (isAgg e).run P w = .ok false w := by
    unfold isAgg
    rw [Sem.run_bind, run_underlying he w]
    cases d <;> simp_all
  simp [part, hag, hv]
theorem run_equal_bytes_d {t e : TypeId} {n : Nat} (d : Nat) (ht : P.underlying t = some (.array n e)) (he : P.underlying e = some (.int .u8)) (hi : (P.info? e).map (·.size) = some 1) {a b : List UInt8} (ha : a.length = n) (hb : b.length = n) (w : World) :
    (Op.equalIn (d + 1 + 1) t (.agg (bv a).toArray) (.agg (bv b).toArray)).run P w = .ok (decide (a = b)) w := by
  cases hq : P.info? e with
  | none => simp [hq] at hi
  | some i =>
    have hs : i.size = 1 := by simpa [hq] using hi
    have hc : P.cellsOf e = 1 := by simp [Program.cellsOf, hq, hs]
    rw [run_equalIn_array w (d + 1) _ _ ht hq, hc, run_eqItems_bytes d he a b w _ (fun i hi => by rw [List.mem_range] at hi; omega), ← ha, all_getD (by omega)]
theorem eqFields_next {d : Nat} {xs ys : Array Value} {f : Field} {fs : List Field} {x y : Value} {r : Bool} {w : World} (hn : f.name ≠ "_") (px : (part f.type xs f.offset).run P w = .ok x w) (py : (part f.type ys f.offset).run P w = .ok y w) (pe : (Op.equalIn d f.type x y).run P w = .ok r w) {b : Bool} (ht : (Op.eqFields d xs ys fs).run P w = .ok b w) : (Op.eqFields d xs ys (f :: fs)).run P w = .ok (r && b) w := by
  simp only [Op.eqFields, hn, ne_eq, not_false_eq_true, if_true, Sem.run_bind, px, py, pe, Result.andThen_ok]
  cases r
  · simp
  · simp [ht]
theorem eqFields_nil {d : Nat} {xs ys : Array Value} {w : World} : (Op.eqFields d xs ys []).run P w = .ok true w := by simp [Op.eqFields]
end

theorem refCells_mid {r : Cm.Rf} (h : r.commit.length = 32) : (refCells r).toArray.extract 1 (1 + 32) = (bv r.commit).toArray := by
  apply Array.ext'
  rw [Array.toList_extract]
  unfold refCells
  simp only [List.extract_eq_take_drop, List.drop_succ_cons, List.drop_zero, Nat.add_sub_cancel_left]
  rw [List.take_append_of_le_length (by rw [bv_length]; omega), List.take_of_length_le (by rw [bv_length]; omega)]
theorem opCells_mid {x : Cm.Op} (h : x.at_.commit.length = 32) : (opCells x).toArray.extract 2 (2 + 34) = (refCells x.at_).toArray := by
  apply Array.ext'
  rw [Array.toList_extract]
  unfold opCells
  simp only [List.extract_eq_take_drop, List.drop_succ_cons, List.drop_zero, Nat.add_sub_cancel_left]
  rw [List.take_append_of_le_length (by rw [refCells_len h]; omega), List.take_of_length_le (by rw [refCells_len h]; omega)]

set_option maxRecDepth 100000 in
theorem run_equal_ref (d : Nat) (a b : Cm.Rf) (ha : a.commit.length = 32) (hb : b.commit.length = 32) (w : World) : (Op.equalIn (d + 1 + 1 + 1) 53 (.agg (refCells a).toArray) (.agg (refCells b).toArray)).run Tryd.prog w = .ok (decide (a = b)) w := by
  have hS : Tryd.prog.underlying 53 = some (.struct (Tryd.prog.fieldsOf 53)) := by kernel_rfl
  rw [run_equalIn_struct w (d + 1 + 1) 53 _ _ hS Tryd.stoodInHeld53]
  simp only [Program.fieldsOf, Tryd.underlying53]
  have pa0 := part_one (P := Tryd.prog) Tryd.underlying4 rfl (refCells a).toArray 0 _ (by rw [List.getElem?_toArray]; exact refCells_0 a) w
  have pb0 := part_one (P := Tryd.prog) Tryd.underlying4 rfl (refCells b).toArray 0 _ (by rw [List.getElem?_toArray]; exact refCells_0 b) w
  have pa1 := part_agg (P := Tryd.prog) Tryd.underlying34 rfl infoD32 (refCells a).toArray 1 w
  have pb1 := part_agg (P := Tryd.prog) Tryd.underlying34 rfl infoD32 (refCells b).toArray 1 w
  have pa2 := part_one (P := Tryd.prog) Tryd.underlying3 rfl (refCells a).toArray 33 _ (by rw [List.getElem?_toArray]; exact refCells_33 ha) w
  have pb2 := part_one (P := Tryd.prog) Tryd.underlying3 rfl (refCells b).toArray 33 _ (by rw [List.getElem?_toArray]; exact refCells_33 hb) w
  rw [refCells_mid ha] at pa1
  rw [refCells_mid hb] at pb1
  have e0 := run_equalIn_bool' (P := Tryd.prog) w (d + 1) 4 a.own b.own Tryd.underlying4
  have e1 := run_equal_bytes_d (P := Tryd.prog) d Tryd.underlying34 Tryd.underlying5 infoU81 ha hb w
  have e2 := run_equalIn_int (P := Tryd.prog) w (d + 1) 3 .i64 .i64 a.n b.n Tryd.underlying3
  have hG : ∀ r : Bool, r = decide (a = b) → ∀ G : Sem Bool, G.run Tryd.prog w = .ok r w → G.run Tryd.prog w = .ok (decide (a = b)) w := fun r hr G h => by rw [h, hr]
  refine hG ((a.own == b.own) && (decide (a.commit = b.commit) && ((a.n == b.n) && true))) ?_ _ ?_
  · obtain ⟨o1, c1, n1⟩ := a
    obtain ⟨o2, c2, n2⟩ := b
    simp only []
    by_cases h1 : o1 = o2 <;> by_cases h2 : c1 = c2 <;> by_cases h3 : n1 = n2 <;> simp [h1, h2, h3]
  refine eqFields_next (x := .bool a.own) (y := .bool b.own) ?_ pa0 pb0 e0 ?_
  · decide
  refine eqFields_next (x := .agg (bv a.commit).toArray) (y := .agg (bv b.commit).toArray) ?_ pa1 pb1 e1 ?_
  · decide
  refine eqFields_next (x := .int .i64 a.n) (y := .int .i64 b.n) ?_ pa2 pb2 e2 ?_
  · decide
  exact eqFields_nil

set_option maxRecDepth 100000 in
theorem run_equal_op_d (d : Nat) (a b : Cm.Op) (ha : dimOp a) (hb : dimOp b) (w : World) : (Op.equalIn (d + 1 + 1 + 1 + 1) 55 (.agg (opCells a).toArray) (.agg (opCells b).toArray)).run Tryd.prog w = .ok (decide (a = b)) w := by
  have hS : Tryd.prog.underlying 55 = some (.struct (Tryd.prog.fieldsOf 55)) := by kernel_rfl
  rw [run_equalIn_struct w (d + 1 + 1 + 1) 55 _ _ hS Tryd.stoodInHeld55]
  simp only [Program.fieldsOf, Tryd.underlying55]
  have pa0 := part_one (P := Tryd.prog) Tryd.underlying3 rfl (opCells a).toArray 0 _ (by rw [List.getElem?_toArray]; exact opCells_0 a) w
  have pb0 := part_one (P := Tryd.prog) Tryd.underlying3 rfl (opCells b).toArray 0 _ (by rw [List.getElem?_toArray]; exact opCells_0 b) w
  have pa1 := part_one (P := Tryd.prog) Tryd.underlying4 rfl (opCells a).toArray 1 _ (by rw [List.getElem?_toArray]; exact opCells_1 a) w
  have pb1 := part_one (P := Tryd.prog) Tryd.underlying4 rfl (opCells b).toArray 1 _ (by rw [List.getElem?_toArray]; exact opCells_1 b) w
  have pa2 := part_agg (P := Tryd.prog) Tryd.underlying53 rfl infoR34 (opCells a).toArray 2 w
  have pb2 := part_agg (P := Tryd.prog) Tryd.underlying53 rfl infoR34 (opCells b).toArray 2 w
  have pa3 := part_one (P := Tryd.prog) Tryd.underlying5 rfl (opCells a).toArray 36 _ (by rw [List.getElem?_toArray]; exact opCells_36 ha.1) w
  have pb3 := part_one (P := Tryd.prog) Tryd.underlying5 rfl (opCells b).toArray 36 _ (by rw [List.getElem?_toArray]; exact opCells_36 hb.1) w
  rw [opCells_mid ha.1] at pa2
  rw [opCells_mid hb.1] at pb2
  have e0 := run_equalIn_int (P := Tryd.prog) w (d + 1 + 1) 3 .i64 .i64 a.kind b.kind Tryd.underlying3
  have e1 := run_equalIn_bool' (P := Tryd.prog) w (d + 1 + 1) 4 a.left b.left Tryd.underlying4
  have e2 := run_equal_ref d a.at_ b.at_ ha.1 hb.1 w
  have e3 := run_equalIn_int (P := Tryd.prog) w (d + 1 + 1) 5 .u8 .u8 (a.byte.toNat : Int) (b.byte.toNat : Int) Tryd.underlying5
  have hbb : ((a.byte.toNat : Int) == (b.byte.toNat : Int)) = decide (a.byte = b.byte) := by
    rw [Bool.eq_iff_iff, beq_iff_eq, decide_eq_true_iff]
    exact ⟨fun h => UInt8.toNat_inj.1 (by omega), fun h => by rw [h]⟩
  rw [hbb] at e3
  have hG : ∀ r : Bool, r = decide (a = b) → ∀ G : Sem Bool, G.run Tryd.prog w = .ok r w → G.run Tryd.prog w = .ok (decide (a = b)) w := fun r hr G h => by rw [h, hr]
  refine hG ((a.kind == b.kind) && ((a.left == b.left) && (decide (a.at_ = b.at_) && (decide (a.byte = b.byte) && true)))) ?_ _ ?_
  · obtain ⟨k1, l1, r1, b1⟩ := a
    obtain ⟨k2, l2, r2, b2⟩ := b
    simp only []
    by_cases h1 : k1 = k2 <;> by_cases h2 : l1 = l2 <;> by_cases h3 : r1 = r2 <;> by_cases h4 : b1 = b2 <;> simp [h1, h2, h3, h4]
  refine eqFields_next (x := .int .i64 a.kind) (y := .int .i64 b.kind) ?_ pa0 pb0 e0 ?_
  · decide
  refine eqFields_next (x := .bool a.left) (y := .bool b.left) ?_ pa1 pb1 e1 ?_
  · decide
  refine eqFields_next (x := .agg (refCells a.at_).toArray) (y := .agg (refCells b.at_).toArray) ?_ pa2 pb2 e2 ?_
  · decide
  refine eqFields_next (x := .int .u8 (a.byte.toNat : Int)) (y := .int .u8 (b.byte.toNat : Int)) ?_ pa3 pb3 e3 ?_
  · decide
  exact eqFields_nil
theorem run_equal_op (a b : Cm.Op) (ha : dimOp a) (hb : dimOp b) (w : World) : (Op.equalIn 10000 55 (.agg (opCells a).toArray) (.agg (opCells b).toArray)).run Tryd.prog w = .ok (decide (a = b)) w := by
  have h := fun d (hd : d + 1 + 1 + 1 + 1 = 10000) => (hd ▸ run_equal_op_d d a b ha hb w : (Op.equalIn 10000 55 (.agg (opCells a).toArray) (.agg (opCells b).toArray)).run Tryd.prog w = .ok (decide (a = b)) w)
  exact h 9996 rfl
end Go.Proofs.YtjgegggcbjecbaaDoor

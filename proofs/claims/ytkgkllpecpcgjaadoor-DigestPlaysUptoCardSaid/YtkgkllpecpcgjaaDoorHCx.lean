/- The cells of a hash, part by part; a row stored into the midst of a block that is known whole. -/
import Derived.Test.YtkgkllpecpcgjaaDoorPSum
import Derived.Laws.CopyOwn
namespace Go.Proofs.YtkgkllpecpcgjaaDoor
open Go Go.RowKit

def HCx (st : List Nat) (blk : List UInt8) (sz : Int) : List Value := Value.bool true :: (uv st ++ (bv blk ++ [Value.int .i64 sz]))
theorem HC_eq (l : List UInt8) : HC l = HCx (Sh.stt l) (Sh.pad (Sh.rest l)) (l.length : Int) := rfl
section
variable {st : List Nat} {blk : List UInt8} {sz : Int}
theorem HCx_length (h8 : st.length = 8) (h64 : blk.length = 64) : (HCx st blk sz).length = 74 := by
  have h1 := uv_length st
  have h2 := bv_length blk
  unfold HCx; simp only [List.length_cons, List.length_append, List.length_nil, h1, h2, h8, h64]
theorem HCx_size (h8 : st.length = 8) (h64 : blk.length = 64) : (HCx st blk sz).toArray.size = 74 := by rw [List.size_toArray, HCx_length h8 h64]
theorem HCx_last (h8 : st.length = 8) (h64 : blk.length = 64) : (HCx st blk sz).toArray[73]? = some (.int .i64 sz) := by
  have h1 := uv_length st
  have h2 := bv_length blk
  rw [List.getElem?_toArray]; unfold HCx
  rw [List.getElem?_cons_succ, List.getElem?_append_right (by omega), List.getElem?_append_right (by omega), h1, h2, h8, h64]
  rfl
theorem HCx_setLast (h8 : st.length = 8) (h64 : blk.length = 64) (sz' : Int) : (HCx st blk sz).toArray.setIfInBounds 73 (.int .i64 sz') = (HCx st blk sz').toArray := by
  have h1 := uv_length st
  have h2 := bv_length blk
  rw [List.setIfInBounds_toArray]; unfold HCx
  congr 1
  rw [List.set_cons_succ, List.set_append_right _ _ (by omega), List.set_append_right _ _ (by omega), h1, h2, h8, h64]
  rfl
theorem HCx_state {w : World} {g : Nat} (h : Blk w g 52 (HCx st blk sz).toArray) : w.rangeAt g 1 (uv st) := fun j v hv => by
  have h1 := uv_length st
  have hj := (List.getElem?_eq_some_iff.1 hv).1
  rw [h.cell, List.getElem?_toArray]
  unfold HCx
  rw [Nat.add_comm, List.getElem?_cons_succ, List.getElem?_append_left hj]
  exact hv
theorem HCx_block (h8 : st.length = 8) (h64 : blk.length = 64) {w : World} {g : Nat} (h : Blk w g 52 (HCx st blk sz).toArray) : w.rangeAt g 9 (bv blk) := fun j v hv => by
  have h1 := uv_length st
  have h2 := bv_length blk
  have hj := (List.getElem?_eq_some_iff.1 hv).1
  rw [h.cell, List.getElem?_toArray]
  unfold HCx
  rw [show 9 + j = (8 + j) + 1 by omega, List.getElem?_cons_succ, List.getElem?_append_right (by omega), List.getElem?_append_left (by omega), ← hv]
  congr 1; omega

/-- What a row written from place o on leaves of these cells. -/
def over (cur : Array Value) (o : Nat) (vs : List Value) : Array Value := (cur.toList.take o ++ (vs ++ cur.toList.drop (o + vs.length))).toArray
theorem over_state (h8 : st.length = 8) {st' : List Nat} (h8' : st'.length = 8) : over (HCx st blk sz).toArray 1 (uv st') = (HCx st' blk sz).toArray := by
  have h1 := uv_length st
  have h2 := uv_length st'
  unfold over HCx
  congr 1
  rw [h2, h8']
  simp only [List.take_succ_cons, List.take_zero, List.cons_append, List.nil_append]
  rw [show 1 + 8 = 8 + 1 by omega, List.drop_succ_cons, List.drop_append_of_le_length (by omega), List.drop_of_length_le (by omega), List.nil_append]
theorem over_block (h8 : st.length = 8) (h64 : blk.length = 64) (b : Nat) (c : List UInt8) (hb : b + c.length ≤ 64) :
    over (HCx st blk sz).toArray (9 + b) (bv c) = (HCx st (blk.take b ++ (c ++ blk.drop (b + c.length))) sz).toArray := by
  have h1 := uv_length st
  have h2 := bv_length blk
  have h3 := bv_length c
  unfold over HCx
  congr 1
  simp only []
  rw [h3, show 9 + b = (8 + b) + 1 by omega, List.take_succ_cons, List.take_append, List.take_of_length_le (by omega), show (8 + b) + 1 + c.length = (8 + (b + c.length)) + 1 by omega, List.drop_succ_cons, List.drop_append, List.drop_of_length_le (by omega), List.nil_append, h1, h8,
    show 8 + b - 8 = b by omega, show 8 + (b + c.length) - 8 = b + c.length by omega, List.take_append_of_le_length (by omega), List.drop_append_of_le_length (by omega)]
  rw [bv_append, bv_append, bv_take, bv_drop]
  simp only [List.cons_append, List.append_assoc]
end

section
variable {P : Program}
/-- 'x[b:]' of an array of one-cell elements, b not its end. -/
theorem run_sliceAt_from {t e : TypeId} {n : Nat} (ht : P.underlying t = some (.array n e)) (hs : (P.info? e).map (·.size) = some 1) (g o b : Nat) (hb : b < n) (W : World) :
    (Instr.sliceAt t (.pointer (some ⟨g, o, none⟩)) (some (.int .i64 (b : Int))) none none).run P W = .ok (.slice (some ⟨g, o + b, none⟩) (n - b) (n - b)) W := by
  have hal : P.arrayLen t = n := by unfold Program.arrayLen; rw [ht]
  have hel : P.elem t = e := by unfold Program.elem; rw [ht]
  cases hq : P.info? e with
  | none => simp [hq] at hs
  | some i =>
    have hi : i.size = 1 := by simpa [hq] using hs
    have hsz : (sizeOf e).run P W = .ok 1 W := by simp [sizeOf, typeInfo, hq, hi]
    rw [run_sliceAt_array_l W t ⟨g, o, none⟩ (by rw [hal, hel]; exact ht) .i64 (b : Int) (by omega) (by rw [hal]; omega), hel, hal, hsz]
    have hne : ¬ n = b := by omega
    simp only [Result.andThen_ok, slicedAt, Int.toNat_natCast, Nat.mul_one, if_neg hne, Addr.add_mid]
/-- Where 'x[n:]' begins; 'x[n:]' of a slice of one-cell elements. -/
def fromA (A : Option Addr) (cap n : Nat) : Option Addr := if cap = n then A else A.map (fun a => a.add n)
theorem run_slice_from {t e : TypeId} (ht : P.underlying t = some (.slice e)) (hs : (P.info? e).map (·.size) = some 1) (A : Option Addr) (len cap n : Nat) (hn : n ≤ len) (W : World) :
    (Instr.slice t (.slice A len cap) (some (.int .i64 (n : Int))) none none).run P W = .ok (.slice (fromA A cap n) (len - n) (cap - n)) W := by
  have hel : P.elem t = e := by unfold Program.elem; rw [ht]
  cases hq : P.info? e with
  | none => simp [hq] at hs
  | some i =>
    have hi : i.size = 1 := by simpa [hq] using hs
    have hsz : (sizeOf e).run P W = .ok 1 W := by simp [sizeOf, typeInfo, hq, hi]
    rw [run_slice_l W t A len cap (by rw [hel]; exact ht) .i64 (n : Int) (by omega) (by omega), hel, hsz]
    simp only [Result.andThen_ok, sliced, Int.toNat_natCast, Nat.mul_one]
    rfl
theorem run_storeVar_over (ty : TypeId) (cells : Array Value) (hi : (P.info? ty).map (·.size) = some cells.size) (h1 : cells.all (·.oneCell') = true) (g o : Nat) (t : TypeId) (cur : Array Value) (w : World) (hg : Blk w g t cur) (hfit : o + cells.size ≤ cur.size) :
    (storeVar ty ⟨g, o, none⟩ (.agg cells)).run P w = .ok () (w.setRow g (over cur o cells.toList)) := by
  have hst := run_storeCells_at P g o t cells.toList 0 cur w hg (by simpa using hfit) (fun v hv => (Array.all_eq_true_iff_forall_mem.1 h1) v (by simpa using hv))
  cases hq : P.info? ty with
  | none => simp [hq] at hi
  | some i =>
    have hs : cells.size = i.size := by simp [hq] at hi; omega
    simp only [Nat.add_zero, List.append_assoc] at hst
    simp [storeVar, sizeOf, typeInfo, hq, Value.cells, hs, hst, over]
theorem wp_store_over {o : Oper} {a : Act} {w : World} {K : Act → World → Prop} {Q : Exit → Act → World → Prop} (ty : TypeId) (x y : Operand) (ho : o.op = .store ty x y)
    (g off : Nat) (cells : Array Value) (hx : a.eval x = .pointer (some ⟨g, off, none⟩)) (hy : a.eval y = .agg cells) (t : TypeId) (cur : Array Value) (hg : Blk w g t cur) (hfit : off + cells.size ≤ cur.size)
    (hi : (P.info? ty).map (·.size) = some cells.size) (h1 : cells.all (·.oneCell') = true) (h : K (a.put o.dst undef) (w.setRow g (over cur off cells.toList))) : o.wp P a w K Q := by
  unfold Oper.wp execOp
  simp only [ho, hx, hy, Instr.storeAt, Instr.sureAddr, Sem.run_bind, Sem.run_pure, Result.andThen_ok, run_storeVar_over (P := P) ty cells hi h1 g off t cur w hg hfit]
  exact h
theorem wpList_store_over {ops : Array Oper} {rest : List Oper} {o : Oper} {a : Act} {w : World} {Q : Exit → Act → World → Prop} (hgd : o.guard = none) (ty : TypeId) (x y : Operand) (ho : o.op = .store ty x y)
    (g off : Nat) (cells : Array Value) (hx : a.eval x = .pointer (some ⟨g, off, none⟩)) (hy : a.eval y = .agg cells) (t : TypeId) (cur : Array Value) (hg : Blk w g t cur) (hfit : off + cells.size ≤ cur.size)
    (hi : (P.info? ty).map (·.size) = some cells.size) (h1 : cells.all (·.oneCell') = true) (h : wpList P ops Q rest (a.put o.dst undef) (w.setRow g (over cur off cells.toList))) : wpList P ops Q (o :: rest) a w :=
  wpList_plain hgd fun _ hK => wp_store_over ty x y ho g off cells hx hy t cur hg hfit hi h1 (hK _ _ h)

/-- Only one block, and what is new, has turned. -/
theorem only_drew {a w : World} {row : Option Nat} (h : a.grownBy w row) : a.grownBy w.drew row := ⟨h.os, h.tape, h.output, h.size, h.block⟩
theorem only_row {a w : World} {g : Nat} (h : a.grownBy w (some g)) (cs : Array Value) : a.grownBy (w.setRow g cs) (some g) :=
  ⟨h.os, h.tape, h.output, by rw [size_setRow]; exact h.size, fun i hi hne => (setRow_other w g i cs (fun e => hne (by rw [e]))).trans (h.block i hi hne)⟩
theorem only_set {a w : World} {g : Nat} (h : a.grownBy w (some g)) (i : Nat) (v : Value) : a.grownBy (w.setCell ⟨g, i, none⟩ v) (some g) :=
  ⟨h.os, h.tape, h.output, by simpa [World.setCell] using h.size, fun k hk hne => (Below.heap_setCell w ⟨g, i, none⟩ v k (fun e => hne (congrArg some e))).trans (h.block k hk hne)⟩
theorem only_later {a w w' : World} {row : Option Nat} (h : a.grownBy w row) (hb : Below w.heap.size w w') : a.grownBy w' row :=
  ⟨hb.os.trans h.os, hb.tape.trans h.tape, hb.output.trans h.output, Nat.le_trans h.size hb.size, fun i hi hn => (hb.block i (Nat.lt_of_lt_of_le hi h.size)).trans (h.block i hi hn)⟩
theorem only_blk {a w : World} {g g' : Nat} {t : TypeId} {cs : Array Value} (hb : Blk a g' t cs) (h : a.grownBy w (some g)) (hne : g' ≠ g) : Blk w g' t cs := (h.block g' hb.lt (fun e => hne (Option.some.inj e))).trans hb
theorem KT.only {a w : World} {g : Nat} (hk : KT a) (h : a.grownBy w (some g)) (hne : 0 ≠ g) : KT w := fun i hi => by
  rw [← hk i hi]
  exact World.cell?_of_block (h.block _ hk.lt (fun e => hne (Option.some.inj e)))
end
end Go.Proofs.YtkgkllpecpcgjaaDoor

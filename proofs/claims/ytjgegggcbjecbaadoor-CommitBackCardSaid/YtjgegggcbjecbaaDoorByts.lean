/- Bytes in memory, and as texts. · What speaks of commits in memory, of no function: results, slices of one element, what readers tell, a commit of the call's own. · A commit in memory, and its bytes: small facts. -/
import Derived.Test.YtjgegggcbjecbaaDoorRMay
import Derived.Test.YtjgegggcbjecbaaDoorNums2
import Derived.Test.YtjgegggcbjecbaaDoorGet
import Derived.Test.YtjgegggcbjecbaaDoorGetText
import Derived.Great.BuildSlice
namespace Go.Proofs.YtjgegggcbjecbaaDoor
open Go Go.RowKit

theorem new_rd (w : World) (l : List UInt8) (fr : Nat × Nat) : Rd (w.alloc (.cells (bv l).toArray 5 fr)) (w.alloc (.cells (bv l).toArray 5 fr)).heap.size (some ⟨w.heap.size, 0, none⟩) l.length (bv l) :=
  ⟨bv_length l, fun _ => ⟨_, rfl, by simp, World.news_of_block (heap_alloc_new w _)⟩⟩
theorem num_size {n : Nat} (h : n < 9223372036854775808) : (sB (Wi.num n)).size ≤ 9 := by rw [sB_size]; exact Wi.num_len_nine h
theorem sB_ext {a b : ByteArray} (h : a.data.toList = b.data.toList) : Ending.returned (Value.string a) = Ending.returned (Value.string b) := by
  have : a = b := ByteArray.ext (Array.ext' h)
  rw [this]
/-- One byte, as a text. -/
theorem conv_one (x : UInt8) (w : World) : (convert 27 9 (.slice (some ⟨w.heap.size, 0, none⟩) 1 1)).run Tryd.prog (w.alloc (.cells #[.int .u8 (x.toNat : Int)] 5)) = .ok (.string (sB [x])) (w.alloc (.cells #[.int .u8 (x.toNat : Int)] 5)) :=
  (new_rd w [x] (0, 0)).str (P := Tryd.prog) 1 Tryd.underlying27 Tryd.underlying5 Tryd.underlying9
end Go.Proofs.YtjgegggcbjecbaaDoor

namespace Go.Proofs.YtjgegggcbjecbaaDoor
open Go Go.RowKit

section
variable {P : Program}
/-- Results: what lies in a variable that is a row, and one or two of one cell. -/
theorem results_row_tmp {fn : Func} {p t : Tmp} {ty : TypeId} (h : fn.results = #[.cell p ty, .tmp t]) (tmps : Array Value) (w : World) (g : Nat) (u : TypeId) (cs : Array Value) (fr : Nat × Nat) (d : TypeDesc)
    (hp : tmps.getD p undef = .pointer (some ⟨g, 0, none⟩)) (hg : w.heap[g]? = some (.cells cs u fr))
    (hu : P.underlying ty = some d) (hd : (match d with | .struct _ | .array _ _ => true | _ => false) = true) (hi : (P.info? ty).map (·.size) = some cs.size)
    (v : Value) (hv : tmps.getD t undef = v) : (results fn tmps).run P w = .ok (.tuple #[.agg cs, v]) w := by
  have hv' : tmps[t]?.getD undef = v := by simpa using hv
  have hp' : tmps[p]?.getD undef = .pointer (some ⟨g, 0, none⟩) := by simpa using hp
  simp [results, h, hp', hv', asAddr, run_loadVar_row w g u ty cs fr d hg hu hd hi]
theorem results_row_tmp2 {fn : Func} {p t t' : Tmp} {ty : TypeId} (h : fn.results = #[.cell p ty, .tmp t, .tmp t']) (tmps : Array Value) (w : World) (g : Nat) (u : TypeId) (cs : Array Value) (fr : Nat × Nat) (d : TypeDesc)
    (hp : tmps.getD p undef = .pointer (some ⟨g, 0, none⟩)) (hg : w.heap[g]? = some (.cells cs u fr))
    (hu : P.underlying ty = some d) (hd : (match d with | .struct _ | .array _ _ => true | _ => false) = true) (hi : (P.info? ty).map (·.size) = some cs.size)
    (v v' : Value) (hv : tmps.getD t undef = v) (hv' : tmps.getD t' undef = v') : (results fn tmps).run P w = .ok (.tuple #[.agg cs, v, v']) w := by
  have h1 : tmps[t]?.getD undef = v := by simpa using hv
  have h2 : tmps[t']?.getD undef = v' := by simpa using hv'
  have hp' : tmps[p]?.getD undef = .pointer (some ⟨g, 0, none⟩) := by simpa using hp
  simp [results, h, hp', h1, h2, asAddr, run_loadVar_row w g u ty cs fr d hg hu hd hi]
end
theorem below_row {B g : Nat} {a w : World} (h : Below B a w) (hg : B ≤ g) (cs : Array Value) : Below B a (w.setRow g cs) :=
  ⟨h.os, h.tape, h.output, by rw [size_setRow]; exact h.size, fun i hi => (setRow_other w g i cs (by omega)).trans (h.block i hi)⟩
/-- The first i bytes, and noughts. -/
def part32 (T : List UInt8) (i : Nat) : List UInt8 := T.take i ++ List.replicate (32 - i) 0
theorem part32_zero (T : List UInt8) : part32 T 0 = Cm.zero32 := rfl
theorem part32_full {T : List UInt8} (h : T.length = 32) : part32 T 32 = T := by unfold part32; rw [List.take_of_length_le (by omega)]; simp
theorem part32_len {T : List UInt8} {i : Nat} (h : T.length = 32) (hi : i ≤ 32) : (part32 T i).length = 32 := by unfold part32; rw [List.length_append, List.length_take, List.length_replicate]; omega
theorem part32_set {T : List UInt8} {i : Nat} (h : T.length = 32) (hi : i < 32) : (bv (part32 T i)).toArray.setIfInBounds i (.int .u8 ((T.getD i 0).toNat : Int)) = (bv (part32 T (i + 1))).toArray := by
  have hit : i < T.length := by omega
  rw [List.setIfInBounds_toArray]
  congr 1
  unfold part32 bv
  rw [List.map_append, List.map_append, List.take_succ_eq_append_getElem hit, List.map_append, List.set_append_right _ _ (by rw [List.length_map, List.length_take]; omega), List.length_map, List.length_take, show min i T.length = i by omega, Nat.sub_self, show 32 - i = (32 - (i + 1)) + 1 by omega, List.replicate_succ, List.map_cons, List.set_cons_zero, List.getD_eq_getElem?_getD, List.getElem?_eq_getElem hit]
  simp

/-- The answer of digest. -/
def rdgV (b : List UInt8) (p : Nat) : Value := if b.length < p + 32 then .tuple #[digV Cm.zero32, .bool false] else .tuple #[digV ((b.drop p).take 32), .bool true]

section
variable {P : Program}
theorem wpList_build_as {ops : Array Oper} {rest : List Oper} {o : Oper} {a : Act} {w : World} {Q : Exit → Act → World → Prop} (hg : o.guard = none) (t : TypeId) (parts : Array (Nat × Operand)) (ho : o.op = .build t parts)
    (ps : List (Nat × Value)) (hps : (parts.toList.map fun p => (p.1, a.eval p.2)) = ps) (cs : Array Value) (hcs : P.built t ps = some cs)
    (h : wpList P ops Q rest (a.put o.dst (.agg cs)) w) : wpList P ops Q (o :: rest) a w :=
  have e : (parts.map fun (i, x) => (i, a.eval x)).toList = ps := by rw [Array.toList_map]; exact hps
  wpList_build hg t parts ho (by rw [e, hcs]; rfl) (by rw [e, hcs]; exact h)
end

theorem opP_num {b : List UInt8} {p n p1 e : Nat} (h : Wi.getNum b p = (n, p1, e)) : (e ≠ 0 → Cm.opP b p = .error e) ∧ (e = 0 → 11 < n → Cm.opP b p = .error 7) := by
  constructor
  · intro he; exact Pa.bind_err (by unfold Pa.numP; rw [h, if_pos he])
  · intro he hn; exact Pa.bind_err (by unfold Pa.numP; rw [h]; simp only []; rw [if_neg (by omega), if_pos hn])
theorem numP_ok {b : List UInt8} {p n p1 : Nat} (h : Wi.getNum b p = (n, p1, 0)) (hn : n ≤ 11) : Pa.numP 11 7 b p = .ok (n, p1) := by
  unfold Pa.numP; rw [h]; simp only []; rw [if_neg (by omega), if_neg (by omega)]
theorem opP_dig {b : List UInt8} {p n p1 : Nat} (h : Wi.getNum b p = (n, p1, 0)) (hn : n ≤ 11) (hq : n / 4 = 2) (hl : b.length < p1 + 32) : Cm.opP b p = .error 8 :=
  Pa.bind_err2 (numP_ok h hn) (Pa.bind_err (by rw [if_pos hq]; unfold Pa.digP; rw [if_pos hl]))
theorem opP_pos {b : List UInt8} {p n p1 p2 e : Nat} {D : List UInt8} (h : Wi.getNum b p = (n, p1, 0)) (hn : n ≤ 11) (hd : (if n / 4 = 2 then Pa.digP 32 else Pa.noneP Cm.zero32) b p1 = .ok (D, p2)) (hk : (if 0 < n / 4 then Pa.posP 7 else Pa.noneP 0) b p2 = .error e) : Cm.opP b p = .error e :=
  Pa.bind_err2 (numP_ok h hn) (Pa.bind_err2 hd (Pa.bind_err hk))
theorem opP_byte {b : List UInt8} {p n p1 p2 p3 k e : Nat} {D : List UInt8} (h : Wi.getNum b p = (n, p1, 0)) (hn : n ≤ 11) (hd : (if n / 4 = 2 then Pa.digP 32 else Pa.noneP Cm.zero32) b p1 = .ok (D, p2)) (hk : (if 0 < n / 4 then Pa.posP 7 else Pa.noneP 0) b p2 = .ok (k, p3)) (hb : (if n % 2 = 0 then Pa.digP 1 else Pa.noneP []) b p3 = .error e) : Cm.opP b p = .error e :=
  Pa.bind_err2 (numP_ok h hn) (Pa.bind_err2 hd (Pa.bind_err2 hk hb))
theorem opP_ok {b y D : List UInt8} {p n p1 p2 p3 p4 k : Nat} (h : Wi.getNum b p = (n, p1, 0)) (hn : n ≤ 11) (hd : (if n / 4 = 2 then Pa.digP 32 else Pa.noneP Cm.zero32) b p1 = .ok (D, p2)) (hk : (if 0 < n / 4 then Pa.posP 7 else Pa.noneP 0) b p2 = .ok (k, p3)) (hb : (if n % 2 = 0 then Pa.digP 1 else Pa.noneP []) b p3 = .ok (y, p4)) : Cm.opP b p = .ok ((n, (D, (k, y))), p4) :=
  Pa.bind_ok (numP_ok h hn) (Pa.bind_ok hd (Pa.bind_ok hk hb))
theorem posP_is {b : List UInt8} {p k p1 e : Nat} (h : Wi.getNum b p = (k, p1, e)) : Pa.posP 7 b p = if e ≠ 0 then .error e else if k = 0 then .error 7 else .ok (k, p1) := by unfold Pa.posP; rw [h]
theorem getNum_lim' {d : List UInt8} {p : Int} {m q : Nat} (h : Wi.getNum d p = (m, q, 0)) : m < 9223372036854775808 ∧ q ≤ d.length := by
  obtain ⟨k, hk, hn, hq, hql, -⟩ := Wi.getNum_just h
  exact ⟨hn, hql⟩

theorem op0_lit (k : Int) (l : Bool) : (opCells ⟨k, l, ⟨false, Cm.zero32, 0⟩, 0⟩).toArray = #[Value.int .i64 k, Value.bool l, Value.bool false, Value.int .u8 0, Value.int .u8 0, Value.int .u8 0, Value.int .u8 0, Value.int .u8 0, Value.int .u8 0, Value.int .u8 0, Value.int .u8 0, Value.int .u8 0, Value.int .u8 0, Value.int .u8 0, Value.int .u8 0, Value.int .u8 0, Value.int .u8 0, Value.int .u8 0, Value.int .u8 0, Value.int .u8 0, Value.int .u8 0, Value.int .u8 0, Value.int .u8 0, Value.int .u8 0, Value.int .u8 0, Value.int .u8 0, Value.int .u8 0, Value.int .u8 0, Value.int .u8 0, Value.int .u8 0, Value.int .u8 0, Value.int .u8 0, Value.int .u8 0, Value.int .u8 0, Value.int .u8 0, Value.int .i64 0, Value.int .u8 0] := rfl
theorem build_op (k : Int) (l : Bool) (w : World) : (Instr.build 55 #[(0, .int .i64 k), (1, .bool l)]).run Tryd.prog w = .ok (.agg (opCells ⟨k, l, ⟨false, Cm.zero32, 0⟩, 0⟩).toArray) w := run_build w 55 _ _ (by kernel_rfl)
def op0 : Cm.Op := ⟨0, false, ⟨false, Cm.zero32, 0⟩, 0⟩
theorem opA_size {x : Cm.Op} (h : x.at_.commit.length = 32) : (opCells x).toArray.size = 37 := by
  rw [List.size_toArray]; unfold opCells refCells; simp [bv_length, h]
theorem op_own (k : Int) (l o o' : Bool) (c : List UInt8) (n : Int) (b : UInt8) : (opCells ⟨k, l, ⟨o, c, n⟩, b⟩).toArray.setIfInBounds 2 (.bool o') = (opCells ⟨k, l, ⟨o', c, n⟩, b⟩).toArray := by
  rw [List.setIfInBounds_toArray]; rfl
theorem op_n (k : Int) (l o : Bool) (c : List UInt8) (n n' : Int) (b : UInt8) (hc : c.length = 32) : (opCells ⟨k, l, ⟨o, c, n⟩, b⟩).toArray.setIfInBounds 35 (.int .i64 n') = (opCells ⟨k, l, ⟨o, c, n'⟩, b⟩).toArray := by
  rw [List.setIfInBounds_toArray]
  congr 1
  unfold opCells refCells
  simp only [List.cons_append, List.append_assoc, List.set_cons_succ]
  rw [List.set_append_right _ _ (by rw [bv_length]; omega), bv_length, hc]
  rfl
theorem op_byte (k : Int) (l o : Bool) (c : List UInt8) (n : Int) (b b' : UInt8) (hc : c.length = 32) : (opCells ⟨k, l, ⟨o, c, n⟩, b⟩).toArray.setIfInBounds 36 (.int .u8 (b'.toNat : Int)) = (opCells ⟨k, l, ⟨o, c, n⟩, b'⟩).toArray := by
  rw [List.setIfInBounds_toArray]
  congr 1
  unfold opCells refCells
  simp only [List.cons_append, List.append_assoc, List.set_cons_succ]
  rw [List.set_append_right _ _ (by rw [bv_length]; omega), bv_length, hc]
  rfl
theorem op_dig (k : Int) (l o : Bool) (c c' : List UInt8) (n : Int) (b : UInt8) (hc : c.length = 32) (hc' : c'.length = 32) : over (opCells ⟨k, l, ⟨o, c, n⟩, b⟩).toArray 3 (bv c').toArray.toList = (opCells ⟨k, l, ⟨o, c', n⟩, b⟩).toArray := by
  unfold over opCells refCells
  simp only [bv_length, hc', List.cons_append, List.append_assoc, List.take_succ_cons, List.take_zero, List.drop_succ_cons]
  rw [List.drop_append_of_le_length (by rw [bv_length]; omega), List.drop_eq_nil_of_le (by rw [bv_length]; omega)]
  rfl

/-- The answer of readOp. -/
def rdoV : Except Nat (Cm.RawOp × Nat) → Value
  | .ok z => .tuple #[.agg (opCells (Cm.toOp z.1)).toArray, .int .i64 (z.2 : Int), .int .i64 0]
  | .error e => .tuple #[.agg (opCells op0).toArray, .int .i64 0, .int .i64 (e : Int)]

theorem infoDg : (Tryd.prog.info? 34).map (fun i => (i.zero, i.size, i.bytes)) = some (some (.agg (bv Cm.zero32).toArray), 32, 32) := by kernel_rfl
theorem infoOp : (Tryd.prog.info? 55).map (fun i => (i.zero, i.size, i.bytes)) = some (some (.agg (opCells op0).toArray), 37, 72) := by kernel_rfl

theorem run_one_slice {P : Program} (t e : TypeId) (ie : TypeInfo) (z : Value) (D : Array Value) (hu : P.underlying t = some (.slice e)) (hie : P.info? e = some ie) (hz : ie.zero = some z) (hs : ie.size = D.size) (h0 : 0 < D.size) (hl : D.size ≤ 16777216) (w : World) :
    (Instr.buildSlice t 1 #[(0, .agg D)]).run P w = .ok (.slice (some ⟨w.heap.size, 0, none⟩) 1 1) (w.alloc (.cells D e)) := by
  refine run_buildSlice w t e 1 _ D ie z hu hie hz (by rw [hs]; omega) (by rw [hs]; omega) ?_
  have h := Go.Great.fill_whole (s := D.size) h0 [Value.agg D] ((Array.range (1 * ie.size)).map (z.cells[· % z.cells.size]!)) (by intro v hv; rw [List.mem_singleton.1 hv]; rfl) (by simp [hs])
  rw [hs] at h ⊢
  rw [show (#[(0, Value.agg D)] : Array (Nat × Value)).toList = (([Value.agg D].zipIdx 0).map fun x => (x.2, x.1)) from rfl, h]
  simp [Value.cells]
theorem wpList_one_slice {P : Program} {ops : Array Oper} {rest : List Oper} {o : Oper} {a : Act} {w : World} {Q : Exit → Act → World → Prop} (hg : o.guard = none) (t e : TypeId) (x : Operand) (ho : o.op = .buildSlice t 1 #[(0, x)]) (ie : TypeInfo) (z : Value) (D : Array Value) (hx : a.eval x = .agg D)
    (hu : P.underlying t = some (.slice e)) (hie : P.info? e = some ie) (hz : ie.zero = some z) (hs : ie.size = D.size) (h0 : 0 < D.size) (hl : D.size ≤ 16777216)
    (h : wpList P ops Q rest (a.put o.dst (.slice (some ⟨w.heap.size, 0, none⟩) 1 1)) (w.alloc (.cells D e))) : wpList P ops Q (o :: rest) a w := by
  refine wpList_plain hg fun _ hK => ?_
  unfold Oper.wp execOp
  have hr := run_one_slice (P := P) t e ie z D hu hie hz hs h0 hl w
  rw [← hx] at hr
  simp only [ho, List.map_toArray, List.map_cons, List.map_nil, Sem.run_bind, hr, Result.andThen_ok]
  exact hK _ _ h
theorem one_dig (D : Array Value) (hs : D.size = 32) (w : World) : (Instr.buildSlice 22 1 #[(0, .agg D)]).run Tryd.prog w = .ok (.slice (some ⟨w.heap.size, 0, none⟩) 1 1) (w.alloc (.cells D 34)) := by
  obtain ⟨i0, hi, hz0, hz1, hz2⟩ := info_parts infoDg
  exact run_one_slice (P := Tryd.prog) _ _ i0 _ D Tryd.underlying22 hi hz0 (by rw [hz1, hs]) (by omega) (by omega) w
theorem one_op (D : Array Value) (hs : D.size = 37) (w : World) : (Instr.buildSlice 23 1 #[(0, .agg D)]).run Tryd.prog w = .ok (.slice (some ⟨w.heap.size, 0, none⟩) 1 1) (w.alloc (.cells D 55)) := by
  obtain ⟨i0, hi, hz0, hz1, hz2⟩ := info_parts infoOp
  exact run_one_slice (P := Tryd.prog) _ _ i0 _ D Tryd.underlying23 hi hz0 (by rw [hz1, hs]) (by omega) (by omega) w

theorem row_own_ne {B g n k : Nat} {e t : TypeId} {xs : List Value} {v : Value} {cs : Array Value} {w : World} (ho : w.ownsRow B e k v n xs) (hg : Blk w g t cs) (ht : t ≠ e) : v.ownBlock ≠ some g := by
  rcases ho.2 with ⟨rfl, _⟩ | ⟨q, cap, cur, rfl, _, hq, _⟩
  · simp [Value.ownBlock]
  · intro h
    simp only [Value.ownBlock, Option.some.injEq] at h
    subst h
    unfold Blk at hg
    rw [hq] at hg
    simp only [Option.some.injEq, Obj.cells.injEq] at hg
    exact ht hg.2.1.symm
/-- Rows of unlike types lie in unlike blocks. -/
theorem rows_apart {B B' n n' k k' : Nat} {e e' : TypeId} {xs xs' : List Value} {v v' : Value} {w : World} (ho : w.ownsRow B e k v n xs) (ho' : w.ownsRow B' e' k' v' n' xs') (ht : e ≠ e') : v.ownBlock = none ∨ v.ownBlock ≠ v'.ownBlock := by
  rcases ho.2 with ⟨rfl, _⟩ | ⟨q, cap, cur, rfl, _, hq, _⟩
  · exact .inl rfl
  · right
    rcases ho'.2 with ⟨rfl, _⟩ | ⟨q', cap', cur', rfl, _, hq', _⟩
    · simp [Value.ownBlock]
    · intro h
      simp only [Value.ownBlock, Option.some.injEq] at h
      subst h
      rw [hq] at hq'
      simp only [Option.some.injEq, Obj.cells.injEq] at hq'
      exact ht hq'.2.1
/-- A row, and a store elsewhere. -/
theorem row_set {B g i n k : Nat} {e t : TypeId} {xs : List Value} {v x : Value} {cs : Array Value} {w : World} (ho : w.ownsRow B e k v n xs) (hg : Blk w g t cs) (ht : t ≠ e) : (w.setCell ⟨g, i, none⟩ x).ownsRow B e k v n xs :=
  ho.kept (row := some g) ⟨rfl, rfl, rfl, by simp [World.setCell], fun j _ hj => Below.heap_setCell _ _ _ _ (fun e => hj (by simp [e]))⟩ (Or.inr (row_own_ne ho hg ht))
theorem row_row {B g n k : Nat} {e t : TypeId} {xs : List Value} {v : Value} {cs cs' : Array Value} {w : World} (ho : w.ownsRow B e k v n xs) (hg : Blk w g t cs) (ht : t ≠ e) : (w.setRow g cs').ownsRow B e k v n xs :=
  ho.kept (row := some g) ⟨rfl, rfl, rfl, by rw [size_setRow]; exact Nat.le_refl _, fun j _ hj => setRow_other w g j cs' (fun e => hj (by rw [e]))⟩ (Or.inr (row_own_ne ho hg ht))

abbrev RawHd := Nat × (List (List UInt8) × (List UInt8 × List UInt8))
def headP : Pa.Rdr RawHd := Pa.bindP (Pa.numP 8 4) fun n => Pa.bindP (Pa.listP (Pa.digP 32) n) fun _ => Pa.bindP Pa.textP fun _ => Pa.textP
def tailP : Pa.Rdr (Nat × List Cm.RawOp) := Pa.bindP (Pa.numP 2000 4) fun m => Pa.listP Cm.opP m
theorem cm_head_err {b : List UInt8} {p e : Nat} (h : headP b p = .error e) : Cm.cmP b p = .error e := by
  unfold headP at h
  unfold Cm.cmP
  cases h1 : Pa.numP 8 4 b p with
  | error e1 => rw [Pa.bind_err h1] at h ⊢; exact congrArg Except.error (Except.error.inj h)
  | ok x1 =>
    obtain ⟨n, p1⟩ := x1
    cases h2 : Pa.listP (Pa.digP 32) n b p1 with
    | error e2 => rw [Pa.bind_err2 h1 (Pa.bind_err h2)] at h ⊢; exact congrArg Except.error (Except.error.inj h)
    | ok x2 =>
      obtain ⟨ps, p2⟩ := x2
      cases h3 : Pa.textP b p2 with
      | error e3 => rw [Pa.bind_err2 h1 (Pa.bind_err2 h2 (Pa.bind_err h3))] at h ⊢; exact congrArg Except.error (Except.error.inj h)
      | ok x3 =>
        obtain ⟨a, p3⟩ := x3
        cases h4 : Pa.textP b p3 with
        | error e4 => rw [Pa.bind_err2 h1 (Pa.bind_err2 h2 (Pa.bind_err2 h3 h4))] at h; rw [Pa.bind_err2 h1 (Pa.bind_err2 h2 (Pa.bind_err2 h3 (Pa.bind_err h4)))]; exact congrArg Except.error (Except.error.inj h)
        | ok x4 => obtain ⟨t, p4⟩ := x4; rw [Pa.bind_ok h1 (Pa.bind_ok h2 (Pa.bind_ok h3 h4))] at h; cases h
theorem cm_head_ok {b a t : List UInt8} {p n q : Nat} {ps : List (List UInt8)} (h : headP b p = .ok ((n, (ps, (a, t))), q)) :
    (∀ e, tailP b q = .error e → Cm.cmP b p = .error e) ∧ (∀ m os r, tailP b q = .ok ((m, os), r) → Cm.cmP b p = .ok ((n, (ps, (a, (t, (m, os))))), r)) := by
  unfold headP at h
  obtain ⟨p1, h1, h⟩ := Pa.bind_of h
  obtain ⟨p2, h2, h⟩ := Pa.bind_of h
  obtain ⟨p3, h3, h4⟩ := Pa.bind_of h
  exact ⟨fun e he => Pa.bind_err2 h1 (Pa.bind_err2 h2 (Pa.bind_err2 h3 (Pa.bind_err2 h4 he))), fun m os r hr => Pa.bind_ok h1 (Pa.bind_ok h2 (Pa.bind_ok h3 (Pa.bind_ok h4 hr)))⟩
/-- What was read ahead, put ahead. -/
def glue {α : Type} (L : List α) : Except Nat (List α × Nat) → Except Nat (List α × Nat)
  | .error e => .error e
  | .ok y => .ok (L ++ y.1, y.2)
theorem glue_nil {α : Type} (r : Except Nat (List α × Nat)) : glue [] r = r := by cases r <;> rfl
theorem glue_next {α : Type} {P : Pa.Rdr α} {L : List α} {k p q : Nat} {b : List UInt8} {x : α} (h : P b p = .ok (x, q)) : glue L (Pa.listP P (k + 1) b p) = glue (L ++ [x]) (Pa.listP P k b q) := by
  cases h2 : Pa.listP P k b q with
  | error e => rw [Pa.list_err2 h h2]; rfl
  | ok y => obtain ⟨M, r⟩ := y; rw [Pa.list_ok h h2]; simp [glue]
theorem digP_is {b : List UInt8} {p : Nat} : Pa.digP 32 b p = if b.length < p + 32 then .error 8 else .ok ((b.drop p).take 32, p + 32) := rfl
theorem textP_is {b s : List UInt8} {p q e : Nat} (h : Wi.getText b p = (s, q, e)) : Pa.textP b p = if e ≠ 0 then .error e else .ok (s, q) := by unfold Pa.textP; rw [h]
theorem text_lim {b s : List UInt8} {p : Nat} {q : Nat} (h : Wi.getText b (p : Int) = (s, q, 0)) : s.length ≤ 131072 ∧ q ≤ b.length := by
  obtain ⟨k, hk, h1, h2, h3, h4⟩ := Wi.getText_just h
  exact ⟨h1, h3⟩

/-- A commit's box. -/
def bx (vp : Value) (s t : List UInt8) (vo : Value) : Array Value := #[vp, .string (sB s), .string (sB t), vo]
theorem infoC4 : (Tryd.prog.info? 25).map (·.size) = some 4 := by kernel_rfl
theorem bx_all {A B : Option Addr} {n c n' c' : Nat} {s t : List UInt8} : (bx (.slice A n c) s t (.slice B n' c')).all (·.oneCell') = true := by simp [bx, Value.oneCell']
theorem bx_info {vp vo : Value} {s t : List UInt8} : (Tryd.prog.info? 25).map (·.size) = some (bx vp s t vo).size := infoC4

/-- How head ends. -/
def HeadO (b : List UInt8) (w : World) (e : Ending) (w' : World) : Prop :=
  Below w.heap.size w w' ∧ ((∃ (er : Nat) (A B : Option Addr) (n c n' c' : Nat) (s t : List UInt8), er ≠ 0 ∧ headP b 0 = .error er ∧ e = .returned (.tuple #[.agg (bx (.slice A n c) s t (.slice B n' c')), .int .i64 0, .int .i64 (er : Int)])) ∨
    ∃ (n : Nat) (ps : List (List UInt8)) (a t : List UInt8) (q : Nat) (A : Option Addr) (c : Nat), headP b 0 = .ok ((n, (ps, (a, t))), q) ∧ e = .returned (.tuple #[.agg (bx (.slice A ps.length c) a t (.slice none 0 0)), .int .i64 (q : Int), .int .i64 0]) ∧
      w'.ownsRow w.heap.size 34 32 (.slice A ps.length c) ps.length (rows bv ps) ∧ (∀ d ∈ ps, d.length = 32) ∧ q ≤ b.length ∧ a.length ≤ 131072 ∧ t.length ≤ 131072 ∧ ps.length ≤ 8)
theorem headO_err {b : List UInt8} {w w' : World} {A B : Option Addr} {n c n' c' : Nat} {s t : List UInt8} (er : Nat) (h0 : er ≠ 0) (h : headP b 0 = .error er) (hb : Below w.heap.size w w') : HeadO b w (.returned (.tuple #[.agg (bx (.slice A n c) s t (.slice B n' c')), .int .i64 0, .int .i64 (er : Int)])) w' :=
  ⟨hb, .inl ⟨er, A, B, n, c, n', c', s, t, h0, h, rfl⟩⟩

/-- What stands in the loop. -/
structure HdG (b : List UInt8) (n p1 i p : Nat) (ps : List (List UInt8)) (A : Option Addr) (c : Nat) (w wr : World) : Prop where
  res : Blk wr w.heap.size 25 (bx (.slice none 0 0) [] [] (.slice none 0 0))
  box : Blk wr (w.heap.size + 1) 25 (bx (.slice A i c) [] [] (.slice none 0 0))
  own : wr.ownsRow w.heap.size 34 32 (.slice A i c) ps.length (rows bv ps)
  len : ∀ d ∈ ps, d.length = 32
  hi : ps.length = i
  hin : i ≤ n
  hp : p ≤ b.length
  go : Pa.listP (Pa.digP 32) n b p1 = glue ps (Pa.listP (Pa.digP 32) (n - i) b p)
  hB : Below w.heap.size w wr

def cm0 : Cm.Cm := ⟨[], [], [], []⟩
def okM : Except Nat Cm.Cm → Cm.Cm
  | .ok m => m
  | .error _ => cm0
def errM : Except Nat Cm.Cm → Nat
  | .ok _ => 0
  | .error e => e
/-- A commit in memory of the call's own. -/
def OwnCm (B : Nat) (w : World) (v : Value) (m : Cm.Cm) : Prop :=
  ∃ (A A' : Option Addr) (c c' : Nat), v = .agg (bx (.slice A m.parents.length c) m.author m.note (.slice A' m.ops.length c')) ∧ w.ownsRow B 34 32 (.slice A m.parents.length c) m.parents.length (rows bv m.parents) ∧
    w.ownsRow B 55 37 (.slice A' m.ops.length c') m.ops.length (rows opCells m.ops) ∧ (∀ d ∈ m.parents, d.length = 32) ∧ ∀ x ∈ m.ops, dimOp x
theorem ownCm_zero (B : Nat) (w : World) : OwnCm B w (.agg (bx (.slice none 0 0) [] [] (.slice none 0 0))) cm0 :=
  ⟨none, none, 0, 0, rfl, World.ownsRow_nil w _ _ _, World.ownsRow_nil w _ _ _, (fun d h => by cases h), fun x h => by cases h⟩
/-- How Decode ends. -/
def DecO (b : List UInt8) (w : World) (e : Ending) (w' : World) : Prop :=
  Below w.heap.size w w' ∧ ∃ v, OwnCm w.heap.size w' v (okM (Cm.decC (Cm.may Tx.less) b)) ∧ e = .returned (.tuple #[v, .int .i64 (errM (Cm.decC (Cm.may Tx.less) b) : Int)])
theorem decO_err {b : List UInt8} {w w' : World} (er : Nat) (h : Cm.decC (Cm.may Tx.less) b = .error er) (hb : Below w.heap.size w w') : DecO b w (.returned (.tuple #[.agg (bx (.slice none 0 0) [] [] (.slice none 0 0)), .int .i64 (er : Int)])) w' :=
  ⟨hb, _, by rw [h]; exact ownCm_zero _ _, by rw [h]; rfl⟩
theorem own_base {B B' n k : Nat} {e : TypeId} {v : Value} {xs : List Value} {w : World} (h : w.ownsRow B e k v n xs) (hB : B' ≤ B) : w.ownsRow B' e k v n xs := by
  refine ⟨h.1, ?_⟩
  rcases h.2 with h | ⟨g, cap, cur, h1, h2, h3⟩
  · exact .inl h
  · exact .inr ⟨g, cap, cur, h1, Nat.le_trans hB h2, h3⟩
theorem opP_lim {b : List UInt8} {p q : Nat} {z : Cm.RawOp} (hp : p ≤ b.length) (h : Cm.opP b p = .ok (z, q)) : q ≤ b.length ∧ dimOp (Cm.toOp z) := by
  obtain ⟨h1, h2, -⟩ := Cm.op_reads.just b p z q hp h
  refine ⟨h2, ?_, ?_, ?_⟩
  · have := h1.2.1
    show z.2.1.length = 32
    split at this
    · exact this
    · rw [this]; rfl
  · show -9223372036854775808 ≤ 1 + ((z.1 % 2 : Nat) : Int) ∧ 1 + ((z.1 % 2 : Nat) : Int) ≤ 9223372036854775807
    omega
  · have := h1.2.2.1
    show -9223372036854775808 ≤ (z.2.2.1 : Int) ∧ (z.2.2.1 : Int) ≤ 9223372036854775807
    split at this <;> omega

/-- A reader whose errors have numbers. -/
def NZ {α : Type} (P : Pa.Rdr α) : Prop := ∀ b p, P b p ≠ .error 0
theorem numP_nz {l e : Nat} (he : e ≠ 0) : NZ (Pa.numP l e) := by
  intro b p h
  unfold Pa.numP at h
  split at h
  · rename_i hh; exact hh (Except.error.inj h)
  · split at h
    · exact he (Except.error.inj h)
    · cases h
theorem posP_nz {e : Nat} (he : e ≠ 0) : NZ (Pa.posP e) := by
  intro b p h
  unfold Pa.posP at h
  split at h
  · rename_i hh; exact hh (Except.error.inj h)
  · split at h
    · exact he (Except.error.inj h)
    · cases h
theorem digP_nz (m : Nat) : NZ (Pa.digP m) := by
  intro b p h
  unfold Pa.digP at h
  split at h
  · have := Except.error.inj h; omega
  · cases h
theorem noneP_nz {α : Type} (x : α) : NZ (Pa.noneP x) := by intro b p h; unfold Pa.noneP at h; cases h
theorem bind_nz {α β : Type} {P : Pa.Rdr α} {F : α → Pa.Rdr β} (hP : NZ P) (hF : ∀ x, NZ (F x)) : NZ (Pa.bindP P F) := by
  intro b p h
  cases h1 : P b p with
  | error e => rw [Pa.bind_err h1] at h; rw [Except.error.inj h] at h1; exact hP b p h1
  | ok x =>
    obtain ⟨x, q⟩ := x
    cases h2 : F x b q with
    | error e => rw [Pa.bind_err2 h1 h2] at h; rw [Except.error.inj h] at h2; exact hF x b q h2
    | ok y => obtain ⟨y, r⟩ := y; rw [Pa.bind_ok h1 h2] at h; cases h
theorem if_nz {α : Type} {c : Prop} [Decidable c] {P Q : Pa.Rdr α} (hP : NZ P) (hQ : NZ Q) : NZ (if c then P else Q) := by split <;> assumption
theorem opP_nz {b : List UInt8} {p e : Nat} (h : Cm.opP b p = .error e) : e ≠ 0 := by
  rintro rfl
  exact (bind_nz (numP_nz (by decide)) fun n => bind_nz (if_nz (digP_nz 32) (noneP_nz _)) fun _ => bind_nz (if_nz (posP_nz (by decide)) (noneP_nz _)) fun _ => if_nz (digP_nz 1) (noneP_nz _) : NZ Cm.opP) b p h
theorem decC_long {b : List UInt8} {may : Cm.Cm → Nat} (h : 131072 < b.length) : Cm.decC may b = .error 3 := by unfold Cm.decC Cm.readC; rw [if_pos h]
theorem decC_err {b : List UInt8} {may : Cm.Cm → Nat} {e : Nat} (h : ¬ 131072 < b.length) (h2 : Cm.cmP b 0 = .error e) : Cm.decC may b = .error e := by unfold Cm.decC Cm.readC; rw [if_neg h, h2]
theorem decC_form {b : List UInt8} {may : Cm.Cm → Nat} {z : Cm.RawCm} {q : Nat} (h : ¬ 131072 < b.length) (h2 : Cm.cmP b 0 = .ok (z, q)) (h3 : q ≠ b.length) : Cm.decC may b = .error 7 := by unfold Cm.decC Cm.readC; rw [if_neg h, h2]; simp only []; rw [if_neg h3]
theorem decC_may {b : List UInt8} {may : Cm.Cm → Nat} {z : Cm.RawCm} {q : Nat} (h : ¬ 131072 < b.length) (h2 : Cm.cmP b 0 = .ok (z, q)) (h3 : q = b.length) : Cm.decC may b = if may (Cm.toCm z) = 0 then .ok (Cm.toCm z) else .error (may (Cm.toCm z)) := by unfold Cm.decC Cm.readC; rw [if_neg h, h2]; simp only []; rw [if_pos h3]

theorem opCells_one (x : Cm.Op) : ∀ u ∈ opCells x, u.oneCell' = true := fun u hu => (Array.all_eq_true_iff_forall_mem.1 (opCells_all x)) u (by simpa using hu)
/-- What stands in the loop. -/
structure DeG (b : List UInt8) (ps : List (List UInt8)) (a t : List UInt8) (A : Option Addr) (c : Nat) (g n p1 i p : Nat) (os : List Cm.RawOp) (A' : Option Addr) (c' : Nat) (w wr : World) : Prop where
  res : Blk wr w.heap.size 25 (bx (.slice none 0 0) [] [] (.slice none 0 0))
  box : Blk wr g 25 (bx (.slice A ps.length c) a t (.slice A' i c'))
  par : wr.ownsRow w.heap.size 34 32 (.slice A ps.length c) ps.length (rows bv ps)
  own : wr.ownsRow w.heap.size 55 37 (.slice A' i c') i (rows opCells (os.map Cm.toOp))
  hi : os.length = i
  hin : i ≤ n
  hp : p ≤ b.length
  dim : ∀ z ∈ os, dimOp (Cm.toOp z)
  go : Pa.listP Cm.opP n b p1 = glue os (Pa.listP Cm.opP (n - i) b p)
  hB : Below w.heap.size w wr
  hg : w.heap.size < g

theorem rows_ones {α : Type} {cells : α → List Value} (h : ∀ x, ∀ u ∈ cells x, u.oneCell' = true) (L : List α) : ∀ u ∈ rows cells L, u.oneCell' = true := by
  intro u hu
  unfold rows at hu
  obtain ⟨x, -, hx⟩ := List.mem_flatMap.1 hu
  exact h x u hx

theorem results_row_only {P : Program} {fn : Func} {p : Tmp} {ty : TypeId} (h : fn.results = #[.cell p ty]) (tmps : Array Value) (w : World) (g : Nat) (u : TypeId) (cs : Array Value) (fr : Nat × Nat) (d : TypeDesc)
    (hp : tmps.getD p undef = .pointer (some ⟨g, 0, none⟩)) (hg : w.heap[g]? = some (.cells cs u fr))
    (hu : P.underlying ty = some d) (hd : (match d with | .struct _ | .array _ _ => true | _ => false) = true) (hi : (P.info? ty).map (·.size) = some cs.size) : (results fn tmps).run P w = .ok (.agg cs) w := by
  have hp' : tmps[p]?.getD undef = .pointer (some ⟨g, 0, none⟩) := by simpa using hp
  simp [results, h, hp', asAddr, run_loadVar_row w g u ty cs fr d hg hu hd hi]

theorem take_more {α : Type} {L L' : List α} {k : Nat} {x y : α} (hx : L[k]? = some x) (hy : L'[k]? = some y) (ht : L.take k = L'.take k) (h : x = y) : L.take (k + 1) = L'.take (k + 1) := by
  rw [List.take_add_one, List.take_add_one, hx, hy, ht, h]
theorem ret_bool {a b : Bool} (h : a = b) : Ending.returned (.bool a) = .returned (.bool b) := by rw [h]
theorem run_equal_dig {a b : List UInt8} (ha : a.length = 32) (hb : b.length = 32) (w : World) : (Op.equalIn 10000 34 (.agg (bv a).toArray) (.agg (bv b).toArray)).run Tryd.prog w = .ok (decide (a = b)) w :=
  run_equal_bytes (P := Tryd.prog) Tryd.underlying34 Tryd.underlying5 infoU81 ha hb w
end Go.Proofs.YtjgegggcbjecbaaDoor

namespace Go.Proofs.YtjgegggcbjecbaaDoor
open Go Go.RowKit

theorem InCm.later {w w' : World} {v : Value} {A B : Option Addr} {c d : Nat} {m : Cm.Cm} (h : InCm w v A c B d m) (hb : Below w.heap.size w w') : InCm w' v A c B d m :=
  ⟨h.1, h.2.1, h.2.2.1, h.2.2.2.1.later hb, h.2.2.2.2.1.later hb, h.2.2.2.2.2.1, h.2.2.2.2.2.2⟩
theorem InCm.ok {w : World} {v : Value} {A B : Option Addr} {c d : Nat} {m : Cm.Cm} (h : InCm w v A c B d m) (hm : Cm.may Tx.less m = 0) : Cm.CmOk m := Cm.may_ok hm h.2.2.2.2.2.1 (fun x hx => (h.2.2.2.2.2.2 x hx).1)
theorem encC_is (m : Cm.Cm) : Cm.encC m = Wi.num m.parents.length ++ (Pa.encL (fun d => d) m.parents ++ (Wi.text m.author ++ (Wi.text m.note ++ (Wi.num m.ops.length ++ Pa.encL Cm.encRaw (m.ops.map Cm.ofOp))))) := rfl
theorem encL_drop {α : Type} {enc : α → List UInt8} {L : List α} {i : Nat} {x : α} (h : L[i]? = some x) : Pa.encL enc (L.drop i) = enc x ++ Pa.encL enc (L.drop (i + 1)) := by
  have hi := (List.getElem?_eq_some_iff.1 h).1
  have hx : L[i] = x := (List.getElem?_eq_some_iff.1 h).2
  rw [List.drop_eq_getElem_cons hi, hx, Pa.encL_cons]
theorem encL_nil {α : Type} {enc : α → List UInt8} : Pa.encL enc ([] : List α) = [] := rfl
theorem text_size' (s : List UInt8) (h : s.length ≤ 131072) : (sB (Wi.text s)).size ≤ 9 + s.length := by
  rw [sB_size]; unfold Wi.text; rw [List.length_append]
  have := Wi.num_len_nine (n := s.length) (by omega); omega
theorem encL_snoc {α : Type} {enc : α → List UInt8} {L : List α} {i : Nat} {x : α} (h : L[i]? = some x) : Pa.encL enc (L.take (i + 1)) = Pa.encL enc (L.take i) ++ enc x := by
  have hi := (List.getElem?_eq_some_iff.1 h).1
  have hx : L[i] = x := (List.getElem?_eq_some_iff.1 h).2
  unfold Pa.encL
  rw [List.take_succ_eq_append_getElem hi, hx]
  simp
end Go.Proofs.YtjgegggcbjecbaaDoor

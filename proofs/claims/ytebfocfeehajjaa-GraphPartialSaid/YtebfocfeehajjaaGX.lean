/- A list's nodes while they are laid: each part and its moves. -/
import Derived.Test.YtebfocfeehajjaaPFind
import Derived.Test.YtebfocfeehajjaaPRise
namespace Go.Proofs.Ytebfocfeehajjaa
open Go Go.RowKit

structure GX (base gb db mb : Nat) (cs : Array Value) (vI : Value) (ids : List (List UInt8)) (vP : Value) (V : List Value) (ns : List (List Nat)) (bs : List Bool) (M : List (List UInt8)) (w : World) : Prop where
  cells : Blk w gb 78 cs
  own : w.ownsRow base 47 32 vI ids.length (rows bv ids)
  pown : w.ownsRow base 64 1 vP V.length V
  prow : ∀ (i : Nat) (L : List Nat), ns[i]? = some L → ∃ A' c', V[i]? = some (.slice A' L.length c') ∧ w.ownsRow base 3 1 (.slice A' L.length c') L.length (nv L)
  due : Blk w db 4 (bl bs)
  map : DMap w mb M
  geo : base ≤ gb ∧ base ≤ db ∧ base ≤ mb

section
variable {base gb db mb : Nat} {cs cs' : Array Value} {vI vI' : Value} {ids ids' : List (List UInt8)} {vP vP' : Value} {V V' : List Value} {ns : List (List Nat)} {bs : List Bool} {M M' : List (List UInt8)} {w w' : World}
theorem GX.below (h : GX base gb db mb cs vI ids vP V ns bs M w) (hb : Below w.heap.size w w') : GX base gb db mb cs vI ids vP V ns bs M w' where
  cells := h.cells.later hb
  own := own_below h.own hb
  pown := own_below h.pown hb
  prow := fun i L hL => by
    obtain ⟨A', c', h1, h2⟩ := h.prow i L hL
    exact ⟨A', c', h1, own_below h2 hb⟩
  due := h.due.later hb
  map := h.map.kept (grown_of hb none) (by simp)
  geo := h.geo
theorem GX.mapped (h : GX base gb db mb cs vI ids vP V ns bs M w) (hg : w.grownBy w' (some mb)) (hm : DMap w' mb M') : GX base gb db mb cs vI ids vP V ns bs M' w' where
  cells := h.cells.grown hg (fun e => h.map.ne h.cells (Option.some.inj e))
  own := h.own.kept hg (.inr (h.map.ne_own h.own))
  pown := h.pown.kept hg (.inr (h.map.ne_own h.pown))
  prow := fun i L hL => by
    obtain ⟨A', c', h1, h2⟩ := h.prow i L hL
    exact ⟨A', c', h1, h2.kept hg (.inr (h.map.ne_own h2))⟩
  due := h.due.grown hg (fun e => h.map.ne h.due (Option.some.inj e))
  map := hm
  geo := h.geo
theorem GX.more (h : GX base gb db mb cs vI ids vP V ns bs M w) (hg : w.grownBy w' vI.ownBlock) (ho : w'.ownsRow base 47 32 vI' ids'.length (rows bv ids')) : GX base gb db mb cs vI' ids' vP V ns bs M w' where
  cells := h.cells.grown hg (fun e => row_own_ne h.own h.cells (by decide) e.symm)
  own := ho
  pown := h.pown.kept hg (rows_apart h.pown h.own (by decide))
  prow := fun i L hL => by
    obtain ⟨A', c', h1, h2⟩ := h.prow i L hL
    exact ⟨A', c', h1, h2.kept hg (rows_apart h2 h.own (by decide))⟩
  due := h.due.grown hg (fun e => row_own_ne h.own h.due (by decide) e.symm)
  map := h.map.kept hg (fun e => h.map.ne_own h.own e.symm)
  geo := h.geo
theorem GX.morePs (h : GX base gb db mb cs vI ids vP V ns bs M w) (hg : w.grownBy w' vP.ownBlock) {A : Option Addr} {c : Nat} {L : List Nat} (hL : w.ownsRow base 3 1 (.slice A L.length c) L.length (nv L)) (hn : ns.length = V.length)
    (ho : w'.ownsRow base 64 1 vP' (V ++ [Value.slice A L.length c]).length (V ++ [Value.slice A L.length c])) : GX base gb db mb cs vI ids vP' (V ++ [.slice A L.length c]) (ns ++ [L]) bs M w' where
  cells := h.cells.grown hg (fun e => row_own_ne h.pown h.cells (by decide) e.symm)
  own := h.own.kept hg (rows_apart h.own h.pown (by decide))
  pown := ho
  prow := fun i K hK => by
    rcases Nat.lt_or_ge i ns.length with hi | hi
    · rw [List.getElem?_append_left hi] at hK
      obtain ⟨A', c', h1, h2⟩ := h.prow i K hK
      exact ⟨A', c', by rw [List.getElem?_append_left (by rw [← hn]; exact hi), h1], h2.kept hg (rows_apart h2 h.pown (by decide))⟩
    · rw [List.getElem?_append_right hi] at hK
      have h0 : i - ns.length = 0 := by
        have := (List.getElem?_eq_some_iff.1 hK).1
        simp at this; omega
      rw [h0] at hK
      obtain rfl : L = K := by simpa using hK
      refine ⟨A, c, ?_, hL.kept hg (rows_apart hL h.pown (by decide))⟩
      rw [List.getElem?_append_right (by omega), ← hn, h0]; rfl
  due := h.due.grown hg (fun e => row_own_ne h.pown h.due (by decide) e.symm)
  map := h.map.kept hg (fun e => h.map.ne_own h.pown e.symm)
  geo := h.geo
theorem grown_set (w : World) (g i : Nat) (u : Value) : w.grownBy (w.setCell ⟨g, i, none⟩ u) (some g) :=
  ⟨rfl, rfl, rfl, by simp [World.setCell], fun k _ hk => Below.heap_setCell w ⟨g, i, none⟩ u k (fun e => hk (by rw [e]))⟩
theorem GX.set (h : GX base gb db mb cs vI ids vP V ns bs M w) (i : Nat) (u : Value) : GX base gb db mb (cs.setIfInBounds i u) vI ids vP V ns bs M (w.setCell ⟨gb, i, none⟩ u) where
  cells := h.cells.set_ i u
  own := row_set h.own h.cells (by decide)
  pown := row_set h.pown h.cells (by decide)
  prow := fun i L hL => by
    obtain ⟨A', c', h1, h2⟩ := h.prow i L hL
    exact ⟨A', c', h1, row_set h2 h.cells (by decide)⟩
  due := h.due.far (p := ⟨gb, i, none⟩) (fun e => blk_ne h.cells h.due (by decide) e.symm) u
  map := h.map.kept (grown_set w gb i u) (fun e => h.map.ne h.cells (Option.some.inj e).symm)
  geo := h.geo
end
theorem GX.stored {base gb db mb : Nat} {cs cs' : Array Value} {vI : Value} {ids : List (List UInt8)} {vP : Value} {V : List Value} {ns : List (List Nat)} {bs : List Bool} {M : List (List UInt8)} {w w' : World} (h : GX base gb db mb cs vI ids vP V ns bs M w) (hg : w.grownBy w' (some gb)) (hb : Blk w' gb 78 cs') : GX base gb db mb cs' vI ids vP V ns bs M w' where
  cells := hb
  own := h.own.kept hg (.inr (row_own_ne h.own h.cells (by decide)))
  pown := h.pown.kept hg (.inr (row_own_ne h.pown h.cells (by decide)))
  prow := fun i L hL => by
    obtain ⟨A', c', h1, h2⟩ := h.prow i L hL
    exact ⟨A', c', h1, h2.kept hg (.inr (row_own_ne h2 h.cells (by decide)))⟩
  due := h.due.grown hg (fun e => blk_ne h.cells h.due (by decide) (Option.some.inj e).symm)
  map := h.map.kept hg (fun e => h.map.ne h.cells (Option.some.inj e).symm)
  geo := h.geo
theorem wp_store_blk {P : Program} {o : Oper} {a : Act} {w : World} {K : Act → World → Prop} {Q : Exit → Act → World → Prop} (ty : TypeId) (x y : Operand) (ho : o.op = .store ty x y)
    (g i : Nat) (v : Value) (hx : a.eval x = .pointer (some ⟨g, i, none⟩)) (hy : a.eval y = v) (t : TypeId) (cs : Array Value) (hg : Blk w g t cs) (hi : i < cs.size) (hv : v.oneCell' = true) (hinfo : (P.info? ty).map (·.size) = some 1)
    (h : ∀ w', Blk w' g t (cs.setIfInBounds i v) → w.grownBy w' (some g) → K (a.put o.dst undef) w') : Oper.wp P o a w K Q := by
  have hc : w.cell? ⟨g, i, none⟩ = some cs[i] := by rw [hg.cell i, Array.getElem?_eq_getElem hi]
  unfold Oper.wp execOp
  simp only [ho, hx, hy, Instr.storeAt, Instr.sureAddr, Sem.run_bind, Sem.run_pure, Result.andThen_ok, run_storeVar_cell (P := P) ty hinfo ⟨g, i, none⟩ v _ hv w hc (hg.frozen i)]
  exact h _ (hg.set_ i v) (grown_set w g i v)
/-- The same in a plain list. -/
theorem wpList_store_b {P : Program} {ops : Array Oper} {rest : List Oper} {o : Oper} {a : Act} {w : World} {Q : Exit → Act → World → Prop} (hgd : o.guard = none) (ty : TypeId) (x y : Operand) (ho : o.op = .store ty x y)
    (g i : Nat) (v : Value) (hx : a.eval x = .pointer (some ⟨g, i, none⟩)) (hy : a.eval y = v) (t : TypeId) (cs : Array Value) (hg : Blk w g t cs) (hi : i < cs.size) (hv : v.oneCell' = true) (hinfo : (P.info? ty).map (·.size) = some 1)
    (h : ∀ w', Blk w' g t (cs.setIfInBounds i v) → w.grownBy w' (some g) → wpList P ops Q rest (a.put o.dst undef) w') : wpList P ops Q (o :: rest) a w :=
  wpList_plain hgd fun _ hK => wp_store_blk ty x y ho g i v hx hy t cs hg hi hv hinfo fun w' h1 h2 => hK _ _ (h w' h1 h2)
theorem op_one_slice {P : Program} {o : Oper} {a : Act} {w : World} {K : Act → World → Prop} {Q : Exit → Act → World → Prop} (t e : TypeId) (x : Operand) (ho : o.op = .buildSlice t 1 #[(0, x)]) (ie : TypeInfo) (z : Value) (D : Array Value) (hx : a.eval x = .agg D)
    (hu : P.underlying t = some (.slice e)) (hie : P.info? e = some ie) (hz : ie.zero = some z) (hs : ie.size = D.size) (h0 : 0 < D.size) (hl : D.size ≤ 16777216)
    (h : K (a.put o.dst (.slice (some ⟨w.heap.size, 0, none⟩) 1 1)) (w.alloc (.cells D e))) : Oper.wp P o a w K Q := by
  unfold Oper.wp execOp
  have hr := run_one_slice (P := P) t e ie z D hu hie hz hs h0 hl w
  rw [← hx] at hr
  simp only [ho, List.map_toArray, List.map_cons, List.map_nil, Sem.run_bind, hr, Result.andThen_ok]
  exact h
section
variable {P : Program} {md : Region.Mode} {ops : Array Oper} {S : World → Prop} {Q : Exit → Act → World → Prop} {z : Nat}
/-- A load of many cells, taken first, where something is held behind every operation but one. -/
theorem zed_load {i : Nat} {oi : Oper} {fuel : Nat} {listed : Array Bool} {a : Act} {w : World} (hi : ops[i]? = some oi) (hs : Region.noSelect ops = true) (hf : Region.free md ops listed i = true) (hr : (Region.ready md ops listed).contains i = true) (hwz : waitsB md ops z i = true)
    (ty : TypeId) (x : Operand) (ho : oi.op = .load ty x) (ad : Addr) (cs : List Value) (hx : a.eval x = .pointer (some ad)) (hc : ∀ w, S w → ∀ j v, cs[j]? = some v → w.cell? (ad.add j) = some v) {d : TypeDesc} (hu : P.underlying ty = some d) (hd : d.isRow = true) (hz : (P.info? ty).map (·.size) = some cs.length)
    (hw : Region.wanted oi (yielded ops a.tmps) = true) (hQ : ∀ c a w, Q (.panic c) (a.put oi.dst (.agg cs.toArray)) w → Q (.panic c) a w) (hS : S w)
    (h : wpAnyZ P md ops Q S z fuel (listed.setIfInBounds i true) (a.put oi.dst (.agg cs.toArray)) w) : wpAnyZ P md ops Q S z (fuel + 1) listed a w :=
  zed_take hi hs hf hr hwz hQ (Or.inl ⟨hw, fun w hS => by
    unfold execOp
    simp only [ho, hx, Instr.loadAt, Instr.sureAddr, Sem.run_bind, Sem.run_pure, Result.andThen_ok, run_loadVar_any w ad ty cs d (hc w hS) hu hd hz]⟩) hS h
end
theorem GM.gx {base gb db mb : Nat} {A : Option Addr} {c : Nat} {B : Option Addr} {d : Nat} {V : List Value} {ids : List (List UInt8)} {ns : List (List Nat)} {bs : List Bool} {w : World} (h : GM base gb db mb A c B d V ids ns bs w) :
    V.length = ids.length ∧ GX base gb db mb #[.slice A ids.length c, .slice B ids.length d, .map (some mb), .slice (some ⟨db, 0, none⟩) bs.length bs.length] (.slice A ids.length c) ids (.slice B ids.length d) V ns bs ids w := by
  have hV : V.length = ids.length := by have := h.pown.1; omega
  refine ⟨hV, h.cells, h.own, ?_, h.prow, h.due, h.map, h.geo⟩
  rw [hV]
  exact h.pown
end Go.Proofs.Ytebfocfeehajjaa

/- The program's reader: single, ref, op. -/
import Derived.Test.YtjgegggcbjecbaaDoorPDig
import Derived.Test.YtjgegggcbjecbaaDoorPRef
import Derived.Great.BuildSlice
namespace Go.Proofs.YtjgegggcbjecbaaDoor
open Go Go.RowKit

set_option maxRecDepth 100000 in
set_option maxHeartbeats 1000000 in
theorem single_any (B g c p : Nat) (A : Option Addr) (b : List UInt8) (w : World) (h : RdrB B g A c b p w) (hc : b.length ≤ c) (hm : c ≤ 9223372036854775807) :
    Calls Tryd.prog 74 #[.pointer (some ⟨g, 0, none⟩)] w (RdO B g A c b (Pa.digP 1 b p) (fun y => .int .u8 ((y.headD 0).toNat : Int)) w) := by
  have C := Lib.hid (need_any B g c p A b 1 w h (by omega))
  have HX := Lib.hid h
  clear h
  by_cases hlen : b.length < p + 1
  · have HR := Lib.hid (show Pa.digP 1 b p = .error 8 by unfold Pa.digP; rw [if_pos hlen])
    have HLN := Lib.hid hlen
    clear hlen
    go_enter Tryd.func74, Tryd.ntmps74
    go_wp2_with fail
    refine C.out.mono ?_; rintro e w2 ⟨hb2, he⟩
    rw [if_pos HLN.out] at he
    unfold thr at he
    subst he
    have HG2 := Lib.hid (gb_below (row := some g) hb2)
    clear hb2
    go_wp2_with fail
    exact ⟨rfl, HG2.out, by rw [HR.out]; rfl⟩
  have hp : p < b.length := by omega
  have HR := Lib.hid (show Pa.digP 1 b p = .ok ([b[p]], p + 1) by unfold Pa.digP; rw [if_neg hlen, List.drop_eq_getElem_cons hp]; rfl)
  obtain ⟨ad, hA, hB, hcl⟩ := HX.out.rd.2 (by omega)
  subst hA
  have HCL := Lib.hid (hcl p _ (by unfold bv; rw [List.getElem?_map, List.getElem?_eq_getElem hp]; rfl))
  obtain ⟨y, hy⟩ : ∃ y, y = b[p] := ⟨_, rfl⟩
  rw [← hy] at HR HCL
  have HLN := Lib.hid hlen
  have hadd : IntKind.i64.wrap ((p : Int) + 1) = ((p + 1 : Nat) : Int) := by rw [IntWalk.i64_in _ (by omega)]; omega
  have hpI : (p : Int) < (b.length : Int) := by omega
  have HAB := Lib.hid hB
  clear hy hcl hlen hB
  go_enter Tryd.func74, Tryd.ntmps74
  go_wp2_with fail
  refine C.out.mono ?_; rintro e w2 ⟨hb2, he⟩
  rw [if_neg HLN.out] at he
  subst he
  have HX2 := Lib.hid ((HX.out.later hb2).drew)
  have HG2 := Lib.hid (show w.grownBy w2.drew (some g) from gb_trans (gb_below hb2) gb_drew)
  have cp : w2.drew.cell? (ad.add p) = some (.int .u8 (y.toNat : Int)) := (hb2.cell (p := ad.add p) (by rw [block_add]; exact Nat.lt_of_lt_of_le HAB.out (Nat.le_trans HX.out.hB (Nat.le_of_lt HX.out.blk.lt)))).trans HCL.out
  have c0 := HX2.out.c0
  have c1 := HX2.out.c1
  clear hb2 C
  go_wp2_with fail
  refine still_all (by kernel_rfl) (by kernel_rfl) ?_
  generalize World.drew w2 = wd at *
  first | (with_reducible refine wpStill_step (fun K hK => ?_); go_simp; refine hK _ ?_; clear hK K) | (with_reducible refine still_skip ?hw (fun K hK => ?_); (case hw => simp [Region.wanted, yielded, undef]); go_simp; refine hK _ ?_; clear hK K)
  first | (with_reducible refine wpStill_step (fun K hK => ?_); go_simp; refine hK _ ?_; clear hK K) | (with_reducible refine still_skip ?hw (fun K hK => ?_); (case hw => simp [Region.wanted, yielded, undef]); go_simp; refine hK _ ?_; clear hK K)
  first | (with_reducible refine wpStill_step (fun K hK => ?_); go_simp; refine hK _ ?_; clear hK K) | (with_reducible refine still_skip ?hw (fun K hK => ?_); (case hw => simp [Region.wanted, yielded, undef]); go_simp; refine hK _ ?_; clear hK K)
  first | (with_reducible refine wpStill_step (fun K hK => ?_); go_simp; refine hK _ ?_; clear hK K) | (with_reducible refine still_skip ?hw (fun K hK => ?_); (case hw => simp [Region.wanted, yielded, undef]); go_simp; refine hK _ ?_; clear hK K)
  first | (with_reducible refine wpStill_step (fun K hK => ?_); go_simp; refine hK _ ?_; clear hK K) | (with_reducible refine still_skip ?hw (fun K hK => ?_); (case hw => simp [Region.wanted, yielded, undef]); go_simp; refine hK _ ?_; clear hK K)
  first | (with_reducible refine wpStill_step (fun K hK => ?_); go_simp; refine hK _ ?_; clear hK K) | (with_reducible refine still_skip ?hw (fun K hK => ?_); (case hw => simp [Region.wanted, yielded, undef]); go_simp; refine hK _ ?_; clear hK K)
  first | (with_reducible refine wpStill_step (fun K hK => ?_); go_simp; refine hK _ ?_; clear hK K) | (with_reducible refine still_skip ?hw (fun K hK => ?_); (case hw => simp [Region.wanted, yielded, undef]); go_simp; refine hK _ ?_; clear hK K)
  first | (with_reducible refine wpStill_step (fun K hK => ?_); go_simp; refine hK _ ?_; clear hK K) | (with_reducible refine still_skip ?hw (fun K hK => ?_); (case hw => simp [Region.wanted, yielded, undef]); go_simp; refine hK _ ?_; clear hK K)
  first | (with_reducible refine wpStill_step (fun K hK => ?_); go_simp; refine hK _ ?_; clear hK K) | (with_reducible refine still_skip ?hw (fun K hK => ?_); (case hw => simp [Region.wanted, yielded, undef]); go_simp; refine hK _ ?_; clear hK K)
  first | (with_reducible refine wpStill_step (fun K hK => ?_); go_simp; refine hK _ ?_; clear hK K) | (with_reducible refine still_skip ?hw (fun K hK => ?_); (case hw => simp [Region.wanted, yielded, undef]); go_simp; refine hK _ ?_; clear hK K)
  first | (with_reducible refine wpStill_step (fun K hK => ?_); go_simp; refine hK _ ?_; clear hK K) | (with_reducible refine still_skip ?hw (fun K hK => ?_); (case hw => simp [Region.wanted, yielded, undef]); go_simp; refine hK _ ?_; clear hK K)
  first | (with_reducible refine wpStill_step (fun K hK => ?_); go_simp; refine hK _ ?_; clear hK K) | (with_reducible refine still_skip ?hw (fun K hK => ?_); (case hw => simp [Region.wanted, yielded, undef]); go_simp; refine hK _ ?_; clear hK K)
  first | (with_reducible refine wpStill_step (fun K hK => ?_); go_simp; refine hK _ ?_; clear hK K) | (with_reducible refine still_skip ?hw (fun K hK => ?_); (case hw => simp [Region.wanted, yielded, undef]); go_simp; refine hK _ ?_; clear hK K)
  refine wpStill_nil ?_
  have f1 := HX2.out.blk.frozen 1
  have HX3 := Lib.hid (HX2.out.go (q := p + 1) (by omega))
  have HG3 := Lib.hid (gb_trans HG2.out (gb_set g 1 (.int .i64 ((p + 1 : Nat) : Int))))
  go_wp2_with fail
  go_ret
  exact ⟨HG3.out, by rw [HR.out]; exact ⟨rfl, HX3.out⟩⟩

/-! ### A reference that is read -/
theorem ref_own (o o' : Bool) (c : List UInt8) (n : Int) : (refCells ⟨o, c, n⟩).toArray.setIfInBounds 0 (.bool o') = (refCells ⟨o', c, n⟩).toArray := by
  rw [List.setIfInBounds_toArray]; rfl
theorem ref_n (o : Bool) (c : List UInt8) (n n' : Int) (hc : c.length = 32) : (refCells ⟨o, c, n⟩).toArray.setIfInBounds 33 (.int .i64 n') = (refCells ⟨o, c, n'⟩).toArray := by
  rw [List.setIfInBounds_toArray]
  congr 1
  unfold refCells
  simp only [List.set_cons_succ]
  rw [List.set_append_right _ _ (by rw [bv_length]; omega), bv_length, hc]
  rfl
theorem ref_dig (o : Bool) (c c' : List UInt8) (n : Int) (hc : c.length = 32) (hc' : c'.length = 32) : over (refCells ⟨o, c, n⟩).toArray 1 (bv c').toArray.toList = (refCells ⟨o, c', n⟩).toArray := by
  unfold over refCells
  simp only [bv_length, hc', List.take_succ_cons, List.take_zero, List.drop_succ_cons]
  rw [List.drop_append_of_le_length (by rw [bv_length]; omega), List.drop_eq_nil_of_le (by rw [bv_length]; omega)]
  rfl
/-- What stands while a reference is read: the reader, and the reference in a new block. -/
structure RfS (B g : Nat) (A : Option Addr) (c : Nat) (b : List UInt8) (p : Nat) (r : Cm.Rf) (w wr : World) : Prop where
  rdr : RdrB B g A c b p wr
  blk : Blk wr w.heap.size 53 (refCells r).toArray
  gb : w.grownBy wr (some g)
  hg : g < w.heap.size
  hc : r.commit.length = 32
theorem RdrB.farSet {B g c p G i : Nat} {A : Option Addr} {b : List UInt8} {w : World} {v : Value} (h : RdrB B g A c b p w) (hG : g < G) : RdrB B g A c b p (w.setCell ⟨G, i, none⟩ v) :=
  ⟨h.blk.far (p := ⟨G, i, none⟩) (by simp; omega) v, h.rd.below ((Below.refl B w).setCell (p := ⟨G, i, none⟩) (Nat.le_trans h.hB (Nat.le_of_lt hG)) v), h.hB, h.hp⟩
theorem RdrB.farRow {B g c p G : Nat} {A : Option Addr} {b : List UInt8} {w : World} {cs : Array Value} (h : RdrB B g A c b p w) (hG : g < G) : RdrB B g A c b p (w.setRow G cs) :=
  ⟨h.blk.farRow (by omega) cs, h.rd.below (below_row (Below.refl B w) (Nat.le_trans h.hB (Nat.le_of_lt hG)) cs), h.hB, h.hp⟩
theorem gb_far {w w1 : World} {row : Option Nat} {G i : Nat} {v : Value} (h : w.grownBy w1 row) (hG : w.heap.size ≤ G) : w.grownBy (w1.setCell ⟨G, i, none⟩ v) row :=
  ⟨h.os, h.tape, h.output, by have := h.size; simpa [World.setCell] using this, fun k hk hn => (Below.heap_setCell w1 ⟨G, i, none⟩ v k (by simp; omega)).trans (h.block k hk hn)⟩
theorem gb_farRow {w w1 : World} {row : Option Nat} {G : Nat} {cs : Array Value} (h : w.grownBy w1 row) (hG : w.heap.size ≤ G) : w.grownBy (w1.setRow G cs) row :=
  ⟨h.os, h.tape, h.output, by have := h.size; simpa [World.setRow] using this, fun k hk hn => (setRow_other w1 G k cs (by omega)).trans (h.block k hk hn)⟩
theorem RfS.own {B g c p : Nat} {A : Option Addr} {b : List UInt8} {r : Cm.Rf} {w wr : World} (h : RfS B g A c b p r w wr) (o : Bool) : RfS B g A c b p ⟨o, r.commit, r.n⟩ w (wr.setCell ⟨w.heap.size, 0, none⟩ (.bool o)) :=
  ⟨h.rdr.farSet h.hg, by have := h.blk.set_ 0 (.bool o); rw [ref_own] at this; exact this, gb_far h.gb (Nat.le_refl _), h.hg, h.hc⟩
theorem RfS.num {B g c p : Nat} {A : Option Addr} {b : List UInt8} {r : Cm.Rf} {w wr : World} (h : RfS B g A c b p r w wr) (n : Int) : RfS B g A c b p ⟨r.own, r.commit, n⟩ w (wr.setCell ⟨w.heap.size, 33, none⟩ (.int .i64 n)) :=
  ⟨h.rdr.farSet h.hg, by have := h.blk.set_ 33 (.int .i64 n); rw [ref_n _ _ _ _ h.hc] at this; exact this, gb_far h.gb (Nat.le_refl _), h.hg, h.hc⟩
theorem RfS.dig {B g c p : Nat} {A : Option Addr} {b d : List UInt8} {r : Cm.Rf} {w wr : World} (h : RfS B g A c b p r w wr) (hd : d.length = 32) : RfS B g A c b p ⟨r.own, d, r.n⟩ w (wr.setRow w.heap.size (over (refCells r).toArray 1 (bv d).toArray.toList)) :=
  ⟨h.rdr.farRow h.hg, by have := h.blk.row (over (refCells r).toArray 1 (bv d).toArray.toList); rw [ref_dig _ _ _ _ h.hc hd] at this ⊢; exact this, gb_farRow h.gb (Nat.le_refl _), h.hg, hd⟩
theorem RfS.read {B g c p q : Nat} {A : Option Addr} {b : List UInt8} {r : Cm.Rf} {w wr w' : World} (h : RfS B g A c b p r w wr) (hg : wr.grownBy w' (some g)) (hx : RdrB B g A c b q w') : RfS B g A c b q r w w' :=
  ⟨hx, h.blk.grown hg (fun e => by have := Option.some.inj e; have := h.hg; omega), gb_trans h.gb hg, h.hg, h.hc⟩
theorem digP_ok {b d : List UInt8} {p q : Nat} (h : Pa.digP 32 b p = .ok (d, q)) : d.length = 32 := by
  rw [digP_is] at h
  split at h
  · cases h
  · simp only [Except.ok.injEq, Prod.mk.injEq] at h
    rw [← h.1, List.length_take, List.length_drop]
    omega
theorem RfS.done {B g c p : Nat} {A : Option Addr} {b : List UInt8} {r : Cm.Rf} {w wr : World} (h : RfS B g A c b p r w wr) : RdO B g A c b (.ok (r, p)) refV w (.returned (.agg (refCells r).toArray)) (wr.setRow w.heap.size (refCells r).toArray) :=
  ⟨gb_farRow h.gb (Nat.le_refl _), rfl, h.rdr.farRow h.hg⟩
/-- What a reference is read as. -/
def refR (n : Nat) (b : List UInt8) (p : Nat) : Except Nat (Cm.Rf × Nat) := match (if n / 4 = 2 then Pa.digP 32 else Pa.noneP Cm.zero32) b p with
  | .error e => .error e
  | .ok d => match (if 0 < n / 4 then Pa.posP 7 else Pa.noneP 0) b d.2 with
    | .error e => .error e
    | .ok k => .ok (⟨decide (n / 4 = 1), d.1, (k.1 : Int)⟩, k.2)
theorem posP_any (b : List UInt8) (p : Nat) : Pa.posP 7 b p = match anyP b p with
    | .error e => .error e
    | .ok z => if z.1 = 0 then .error 7 else .ok z := by
  unfold Pa.posP anyP
  split
  · rfl
  · rfl
theorem and4 {n : Nat} (h : n ≤ 11) : bits BinOp.and IntKind.i64 (n : Int) 4 = (if n / 4 = 1 then 4 else 0) := by
  have : n = 0 ∨ n = 1 ∨ n = 2 ∨ n = 3 ∨ n = 4 ∨ n = 5 ∨ n = 6 ∨ n = 7 ∨ n = 8 ∨ n = 9 ∨ n = 10 ∨ n = 11 := by omega
  rcases this with rfl | rfl | rfl | rfl | rfl | rfl | rfl | rfl | rfl | rfl | rfl | rfl <;> rfl
theorem and8 {n : Nat} (h : n ≤ 11) : bits BinOp.and IntKind.i64 (n : Int) 8 = (if n / 4 = 2 then 8 else 0) := by
  have : n = 0 ∨ n = 1 ∨ n = 2 ∨ n = 3 ∨ n = 4 ∨ n = 5 ∨ n = 6 ∨ n = 7 ∨ n = 8 ∨ n = 9 ∨ n = 10 ∨ n = 11 := by omega
  rcases this with rfl | rfl | rfl | rfl | rfl | rfl | rfl | rfl | rfl | rfl | rfl | rfl <;> rfl
theorem and2 {n : Nat} (h : n ≤ 11) : bits BinOp.and IntKind.i64 (n : Int) 2 = (if n / 2 % 2 = 1 then 2 else 0) := by
  have : n = 0 ∨ n = 1 ∨ n = 2 ∨ n = 3 ∨ n = 4 ∨ n = 5 ∨ n = 6 ∨ n = 7 ∨ n = 8 ∨ n = 9 ∨ n = 10 ∨ n = 11 := by omega
  rcases this with rfl | rfl | rfl | rfl | rfl | rfl | rfl | rfl | rfl | rfl | rfl | rfl <;> rfl
theorem and1 {n : Nat} (h : n ≤ 11) : bits BinOp.and IntKind.i64 (n : Int) 1 = (if n % 2 = 1 then 1 else 0) := by
  have : n = 0 ∨ n = 1 ∨ n = 2 ∨ n = 3 ∨ n = 4 ∨ n = 5 ∨ n = 6 ∨ n = 7 ∨ n = 8 ∨ n = 9 ∨ n = 10 ∨ n = 11 := by omega
  rcases this with rfl | rfl | rfl | rfl | rfl | rfl | rfl | rfl | rfl | rfl | rfl | rfl <;> rfl

set_option maxRecDepth 100000 in
set_option maxHeartbeats 2000000 in
theorem rref_read (B g c p n : Nat) (A : Option Addr) (b : List UInt8) (w : World) (h : RdrB B g A c b p w) (hn : n ≤ 11) (hc : b.length ≤ c) (hm : c ≤ 9223372036854775807) :
    Calls Tryd.prog 73 #[.pointer (some ⟨g, 0, none⟩), .int .i64 (n : Int)] w (RdO B g A c b (refR n b p) refV w) := by
  have h4 := and4 hn
  have h8 := and8 hn
  have hzl := ref_lit
  obtain ⟨Z, hZ⟩ : ∃ Z, Z = (refCells ⟨false, Cm.zero32, 0⟩).toArray := ⟨_, rfl⟩
  have HZE := Lib.hid hZ
  have hzl2 := (hZ.trans hzl).symm
  obtain ⟨w1, hw1⟩ : ∃ y, y = w.alloc (.cells Z 53) := ⟨_, rfl⟩
  have hb1 : Below w.heap.size w w1 := by rw [hw1]; exact below_alloc w _
  have H1 := Lib.hid (show RfS B g A c b p ⟨false, Cm.zero32, 0⟩ w w1 from ⟨h.later hb1, by rw [hw1, ← hZ]; exact Blk.new w _ _, gb_below hb1, h.blk.lt, rfl⟩)
  have HR : Hid (refR n b p = match (if n / 4 = 2 then Pa.digP 32 else Pa.noneP Cm.zero32) b p with
    | .error e => .error e
    | .ok d => match (if 0 < n / 4 then Pa.posP 7 else Pa.noneP 0) b d.2 with
      | .error e => .error e
      | .ok k => .ok (⟨decide (n / 4 = 1), d.1, (k.1 : Int)⟩, k.2)) := Lib.hid rfl
  obtain ⟨R, hR⟩ : ∃ R, R = refR n b p := ⟨_, rfl⟩
  rw [← hR] at HR ⊢
  replace hw1 := hw1.symm
  obtain ⟨q, hq⟩ : ∃ q, q = n / 4 := ⟨_, rfl⟩
  have hq3 : q = 0 ∨ q = 1 ∨ q = 2 := by omega
  rw [← hq] at HR
  simp only [← hq] at h4 h8
  clear hzl hZ hb1 h hR hq
  rcases hq3 with rfl | rfl | rfl
  · have e4 : (if 0 = 1 then (4 : Int) else 0) = 0 := rfl
    have e8 : (if 0 = 2 then (8 : Int) else 0) = 0 := rfl
    rw [e4] at h4
    rw [e8] at h8
    have HR2 := Lib.hid (show R = .ok (⟨false, Cm.zero32, 0⟩, p) from HR.out)
    clear HR e4 e8
    have c0 : w1.cell? ⟨w.heap.size, 0, none⟩ = some (.bool false) := by rw [H1.out.blk.cell, List.getElem?_toArray]; rfl
    have f0 := H1.out.blk.frozen 0
    have H2 := Lib.hid (H1.out.own false)
    obtain ⟨w2, hw2⟩ : ∃ y, y = w1.setCell ⟨w.heap.size, 0, none⟩ (.bool false) := ⟨_, rfl⟩
    rw [← hw2] at H2
    replace hw2 := hw2.symm
    have HXI := Lib.hid (show (Tryd.prog.info? 53).map (·.size) = some Z.size by rw [HZE.out, refA_size rfl]; exact infoR34)
    have HXB := Lib.hid (show Blk w2 w.heap.size 53 Z by rw [HZE.out]; exact H2.out.blk)
    have d0 : w2.cell? ⟨w.heap.size, 0, none⟩ = some (.bool false) := by rw [H2.out.blk.cell, List.getElem?_toArray]; rfl
    go_enter Tryd.func73, Tryd.ntmps73
    clear HXI HXB
    obtain ⟨X, hX⟩ : ∃ X, X = (refCells ⟨false, Cm.zero32, 0⟩).toArray := ⟨_, rfl⟩
    have HXE := Lib.hid hX
    have HXI := Lib.hid (show (Tryd.prog.info? 53).map (·.size) = some X.size by rw [hX, refA_size H2.out.hc]; exact infoR34)
    have HXB := Lib.hid (show Blk w2 w.heap.size 53 X by rw [hX]; exact H2.out.blk)
    clear hX
    go_wp2_with (first | (refine at_lod 53 (.tmp 4) rfl ?_; go_must (refine wpList_load_row rfl 53 (.tmp 4) rfl w.heap.size rfl _ X (0, 0) _ HXB.out Tryd.underlying53 rfl HXI.out ?_)) | (refine at_sto 53 (.tmp 4) (.tmp 29) rfl ?_; go_must (refine wpList_store_row rfl 53 (.tmp 4) (.tmp 29) rfl w.heap.size X rfl rfl _ X HXB.out HXI.out rfl (by rw [HXE.out]; exact refCells_all _) ?_)))
    exact bodyPost_ret (v := .agg X) (results_row_only rfl _ _ w.heap.size _ _ _ _ rfl (HXB.out.row _) Tryd.underlying53 rfl HXI.out) rfl (by rw [HR2.out, HXE.out]; exact H2.out.done)
  · have e4 : (if 1 = 1 then (4 : Int) else 0) = 4 := rfl
    have e8 : (if 1 = 2 then (8 : Int) else 0) = 0 := rfl
    rw [e4] at h4
    rw [e8] at h8
    clear e4 e8
    have hpn : ∀ (v : Value) (w : World), (Instr.panic (.iface 28 v)).run Tryd.prog w = .halt (.panic (.iface 28 v)) w := fun _ _ => rfl
    have c0 : w1.cell? ⟨w.heap.size, 0, none⟩ = some (.bool false) := by rw [H1.out.blk.cell, List.getElem?_toArray]; rfl
    have f0 := H1.out.blk.frozen 0
    have H2 := Lib.hid (H1.out.own true)
    obtain ⟨w2, hw2⟩ : ∃ y, y = w1.setCell ⟨w.heap.size, 0, none⟩ (.bool true) := ⟨_, rfl⟩
    rw [← hw2] at H2
    replace hw2 := hw2.symm
    have d0 : w2.cell? ⟨w.heap.size, 0, none⟩ = some (.bool true) := by rw [H2.out.blk.cell, List.getElem?_toArray]; rfl
    have HRK := Lib.hid (show R = match Pa.posP 7 b p with | .error e => .error e | .ok k => .ok (⟨true, Cm.zero32, (k.1 : Int)⟩, k.2) from HR.out)
    clear HR
    have C := Lib.hid (number_any B g c p A b w2 H2.out.rdr hc hm)
    cases hr : anyP b p with
    | error er =>
      rw [hr] at C
      have HE := Lib.hid (show R = .error er by rw [HRK.out, posP_any, hr])
      clear hr HRK
      go_enter Tryd.func73, Tryd.ntmps73
      go_wp2_with fail
      refine C.out.mono ?_; rintro e w5 ⟨hg, he⟩
      simp only [] at he
      unfold thr at he
      subst he
      have HG := Lib.hid (gb_trans H2.out.gb hg)
      clear hg
      go_wp2_with fail
      exact ⟨rfl, HG.out, by rw [HE.out]; rfl⟩
    | ok z =>
      obtain ⟨k, q'⟩ := z
      rw [hr] at C
      obtain ⟨hk63, hq'⟩ := anyP_lim hr
      have HE := Lib.hid (show R = if k = 0 then .error 7 else .ok (⟨true, Cm.zero32, (k : Int)⟩, q') by rw [HRK.out, posP_any, hr]; by_cases hk : k = 0 <;> simp [hk])
      clear hr HRK
      go_enter Tryd.func73, Tryd.ntmps73
      go_wp2_with fail
      refine C.out.mono ?_; rintro e w5 ⟨hg, rfl, hx⟩
      have H5 := Lib.hid (H2.out.read hg hx)
      have H6 := Lib.hid (H5.out.num (k : Int))
      have c33 : w5.cell? ⟨w.heap.size, 33, none⟩ = some (.int .i64 0) := by rw [H5.out.blk.cell, List.getElem?_toArray]; exact refCells_33 H5.out.hc
      have f33 := H5.out.blk.frozen 33
      obtain ⟨w6, hw6⟩ : ∃ y, y = w5.setCell ⟨w.heap.size, 33, none⟩ (.int .i64 (k : Int)) := ⟨_, rfl⟩
      rw [← hw6] at H6
      have d33 : w6.cell? ⟨w.heap.size, 33, none⟩ = some (.int .i64 (k : Int)) := by rw [H6.out.blk.cell, List.getElem?_toArray]; exact refCells_33 H6.out.hc
      replace hw6 := hw6.symm
      clear hg hx
      by_cases hk : k = 0
      · have hkb : ((k : Int) == 0) = true := by rw [hk]; rfl
        rw [if_pos hk] at HE
        clear hk
        go_wp2_with fail
        exact ⟨rfl, H6.out.gb, by rw [HE.out]; rfl⟩
      · have hkb : ((k : Int) == 0) = false := by rw [beq_eq_false_iff_ne]; omega
        have hkb2 : ¬ k = 0 := hk
        rw [if_neg hk] at HE
        clear hk
        obtain ⟨X, hX⟩ : ∃ X, X = (refCells ⟨true, Cm.zero32, (k : Int)⟩).toArray := ⟨_, rfl⟩
        have HXE := Lib.hid hX
        have HXI := Lib.hid (show (Tryd.prog.info? 53).map (·.size) = some X.size by rw [hX, refA_size H6.out.hc]; exact infoR34)
        have HXB := Lib.hid (show Blk w6 w.heap.size 53 X by rw [hX]; exact H6.out.blk)
        clear hX
        go_wp2_with (first | (refine at_lod 53 (.tmp 4) rfl ?_; go_must (refine wpList_load_row rfl 53 (.tmp 4) rfl w.heap.size rfl _ X (0, 0) _ HXB.out Tryd.underlying53 rfl HXI.out ?_)) | (refine at_sto 53 (.tmp 4) (.tmp 29) rfl ?_; go_must (refine wpList_store_row rfl 53 (.tmp 4) (.tmp 29) rfl w.heap.size X rfl rfl _ X HXB.out HXI.out rfl (by rw [HXE.out]; exact refCells_all _) ?_)))
        exact bodyPost_ret (v := .agg X) (results_row_only rfl _ _ w.heap.size _ _ _ _ rfl (HXB.out.row _) Tryd.underlying53 rfl HXI.out) rfl (by rw [HE.out, HXE.out]; exact H6.out.done)
  · have e4 : (if 2 = 1 then (4 : Int) else 0) = 0 := rfl
    have e8 : (if 2 = 2 then (8 : Int) else 0) = 8 := rfl
    rw [e4] at h4
    rw [e8] at h8
    clear e4 e8
    have hpn : ∀ (v : Value) (w : World), (Instr.panic (.iface 28 v)).run Tryd.prog w = .halt (.panic (.iface 28 v)) w := fun _ _ => rfl
    have c0 : w1.cell? ⟨w.heap.size, 0, none⟩ = some (.bool false) := by rw [H1.out.blk.cell, List.getElem?_toArray]; rfl
    have f0 := H1.out.blk.frozen 0
    have H2 := Lib.hid (H1.out.own false)
    obtain ⟨w2, hw2⟩ : ∃ y, y = w1.setCell ⟨w.heap.size, 0, none⟩ (.bool false) := ⟨_, rfl⟩
    rw [← hw2] at H2
    replace hw2 := hw2.symm
    have d0 : w2.cell? ⟨w.heap.size, 0, none⟩ = some (.bool false) := by rw [H2.out.blk.cell, List.getElem?_toArray]; rfl
    have HR3 := Lib.hid (show R = match Pa.digP 32 b p with | .error e => .error e | .ok d => (match Pa.posP 7 b d.2 with | .error e => .error e | .ok k => .ok (⟨false, d.1, (k.1 : Int)⟩, k.2)) from HR.out)
    clear HR
    have CD := Lib.hid (rdigest_any B g c p A b w2 H2.out.rdr hc hm)
    cases hdg : Pa.digP 32 b p with
    | error er =>
      rw [hdg] at CD HR3
      simp only [] at HR3
      clear hdg
      go_enter Tryd.func73, Tryd.ntmps73
      go_wp2_with fail
      refine CD.out.mono ?_; rintro e w5 ⟨hg, he⟩
      simp only [] at he
      unfold thr at he
      subst he
      have HG := Lib.hid (gb_trans H2.out.gb hg)
      clear hg
      go_wp2_with fail
      exact ⟨rfl, HG.out, by rw [HR3.out]; rfl⟩
    | ok z =>
      obtain ⟨D, p1⟩ := z
      rw [hdg] at CD HR3
      have HRK := Lib.hid (show R = match Pa.posP 7 b p1 with | .error e => .error e | .ok k => .ok (⟨false, D, (k.1 : Int)⟩, k.2) from HR3.out)
      have hD : D.length = 32 := digP_ok hdg
      clear hdg HR3
      go_enter Tryd.func73, Tryd.ntmps73
      go_wp2_with fail
      refine CD.out.mono ?_; rintro e w3 ⟨hg, rfl, hx⟩
      have H3 := Lib.hid (H2.out.read hg hx)
      have H4 := Lib.hid (H3.out.dig hD)
      obtain ⟨w4, hw4⟩ : ∃ y, y = w3.setRow w.heap.size (over (refCells ⟨false, Cm.zero32, 0⟩).toArray 1 (bv D).toArray.toList) := ⟨_, rfl⟩
      have HW4 := Lib.hid hw4
      rw [← hw4] at H4
      have d0' : w4.cell? ⟨w.heap.size, 0, none⟩ = some (.bool false) := by rw [H4.out.blk.cell, List.getElem?_toArray]; rfl
      have HDS := Lib.hid (show (bv D).toArray.size = 32 by rw [bv_size]; exact hD)
      unfold digV
      clear hg hx d0 c0 hw4 hw2 hw1 CD
      go_wp2_with (refine at_sto 34 (.tmp 16) (.tmp 15) rfl ?_; go_must (refine wpList_store_over rfl 34 (.tmp 16) (.tmp 15) rfl w.heap.size 1 (bv D).toArray rfl rfl 53 _ H3.out.blk (by rw [HDS.out, refA_size H3.out.hc]; decide) (by rw [HDS.out]; exact infoD32) (bv_all D) ?_); rw [← HW4.out])
      have C := Lib.hid (number_any B g c p1 A b w4 H4.out.rdr hc hm)
      cases hr : anyP b p1 with
      | error er =>
        rw [hr] at C
        have HE := Lib.hid (show R = .error er by rw [HRK.out, posP_any, hr])
        clear hr HRK
        refine C.out.mono ?_; rintro e w5 ⟨hg, he⟩
        simp only [] at he
        unfold thr at he
        subst he
        have HG := Lib.hid (gb_trans H4.out.gb hg)
        clear hg
        go_wp2_with fail
        exact ⟨rfl, HG.out, by rw [HE.out]; rfl⟩
      | ok z =>
        obtain ⟨k, q'⟩ := z
        rw [hr] at C
        obtain ⟨hk63, hq'⟩ := anyP_lim hr
        have HE := Lib.hid (show R = if k = 0 then .error 7 else .ok (⟨false, D, (k : Int)⟩, q') by rw [HRK.out, posP_any, hr]; by_cases hk : k = 0 <;> simp [hk])
        clear hr HRK
        refine C.out.mono ?_; rintro e w5 ⟨hg, rfl, hx⟩
        have H5 := Lib.hid (H4.out.read hg hx)
        have H6 := Lib.hid (H5.out.num (k : Int))
        have c33 : w5.cell? ⟨w.heap.size, 33, none⟩ = some (.int .i64 0) := by rw [H5.out.blk.cell, List.getElem?_toArray]; exact refCells_33 H5.out.hc
        have f33 := H5.out.blk.frozen 33
        obtain ⟨w6, hw6⟩ : ∃ y, y = w5.setCell ⟨w.heap.size, 33, none⟩ (.int .i64 (k : Int)) := ⟨_, rfl⟩
        rw [← hw6] at H6
        have d33 : w6.cell? ⟨w.heap.size, 33, none⟩ = some (.int .i64 (k : Int)) := by rw [H6.out.blk.cell, List.getElem?_toArray]; exact refCells_33 H6.out.hc
        replace hw6 := hw6.symm
        clear hg hx
        by_cases hk : k = 0
        · have hkb : ((k : Int) == 0) = true := by rw [hk]; rfl
          rw [if_pos hk] at HE
          clear hk
          go_wp2_with fail
          exact ⟨rfl, H6.out.gb, by rw [HE.out]; rfl⟩
        · have hkb : ((k : Int) == 0) = false := by rw [beq_eq_false_iff_ne]; omega
          have hkb2 : ¬ k = 0 := hk
          rw [if_neg hk] at HE
          clear hk
          obtain ⟨X, hX⟩ : ∃ X, X = (refCells ⟨false, D, (k : Int)⟩).toArray := ⟨_, rfl⟩
          have HXE := Lib.hid hX
          have HXI := Lib.hid (show (Tryd.prog.info? 53).map (·.size) = some X.size by rw [hX, refA_size H6.out.hc]; exact infoR34)
          have HXB := Lib.hid (show Blk w6 w.heap.size 53 X by rw [hX]; exact H6.out.blk)
          clear hX
          go_wp2_with (first | (refine at_lod 53 (.tmp 4) rfl ?_; go_must (refine wpList_load_row rfl 53 (.tmp 4) rfl w.heap.size rfl _ X (0, 0) _ HXB.out Tryd.underlying53 rfl HXI.out ?_)) | (refine at_sto 53 (.tmp 4) (.tmp 29) rfl ?_; go_must (refine wpList_store_row rfl 53 (.tmp 4) (.tmp 29) rfl w.heap.size X rfl rfl _ X HXB.out HXI.out rfl (by rw [HXE.out]; exact refCells_all _) ?_)))
          exact bodyPost_ret (v := .agg X) (results_row_only rfl _ _ w.heap.size _ _ _ _ rfl (HXB.out.row _) Tryd.underlying53 rfl HXI.out) rfl (by rw [HE.out, HXE.out]; exact H6.out.done)
end Go.Proofs.YtjgegggcbjecbaaDoor

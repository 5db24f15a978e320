/- The library's slices.SortFunc at digests, by order: what it was, sorted. -/
import Derived.Test.YtjgegggcbjecbaaPOrd
import Derived.Test.YtjgegggcbjecbaaShelfB
namespace Go.Proofs.Ytjgegggcbjecbaa
open Go Go.RowKit Go.Sort
open Go.Lib (keeps compactUpTo)

def dv (x : D32) : List Value := bv x.1
theorem dv_len (x : D32) : (dv x).length = 32 := by unfold dv; rw [bv_length, x.2]
theorem flat_at {d : Array D32} {R : List Value} {t : Nat} (ht : t < d.size * 32) : (cpA d R)[t]? = some (flatK dv 32 d)[t]! := by
  rw [get_flatK _ _ _ _ ht]
  have h1 : t / 32 < d.size := by omega
  have h2 : t % 32 < (dv d[t / 32]!).length := by rw [dv_len]; omega
  have h3 := cpA_at (R := R) h1 (j := t % 32) (v := (dv d[t / 32]!)[t % 32]!) (by
    show (dv d[t / 32]!)[t % 32]? = _
    rw [List.getElem?_eq_getElem h2, getElem!_pos (dv d[t / 32]!) (t % 32) h2])
  rw [show t / 32 * 32 + t % 32 = t by omega] at h3
  exact h3
theorem put_cpA {d d' : Array D32} {R : List Value} (hs : d'.size = d.size) : putCells id 0 (flatK dv 32 d') (cpA d R) = cpA d' R := by
  apply Array.ext_getElem?
  intro t
  simp only [putCells, Array.getElem?_mapIdx, size_flatK, Nat.zero_le, true_and, Nat.zero_add, Nat.sub_zero, id_eq]
  rcases Nat.lt_or_ge t (d'.size * 32) with h | h
  · rw [flat_at (d := d) (R := R) (by rw [← hs]; exact h), flat_at (d := d') (R := R) h, Option.map_some, if_pos h]
  · have e : (cpA d R)[t]? = (cpA d' R)[t]? := by
      have l1 := rows_len (cells := bv) (k := 32) (L := dl d) (fun s hs => by rw [bv_length]; exact dl_dig d s hs)
      have l2 := rows_len (cells := bv) (k := 32) (L := dl d') (fun s hs => by rw [bv_length]; exact dl_dig d' s hs)
      rw [dl_len] at l1 l2
      unfold cpA
      rw [List.getElem?_toArray, List.getElem?_toArray, List.getElem?_append_right (by omega), List.getElem?_append_right (by omega), l1, l2, hs]
    rw [← e]
    cases (cpA d R)[t]? with
    | none => rfl
    | some x => rw [Option.map_some, if_neg (by omega)]
theorem ord_lt (a b : D32) : ltOf (fun a b : D32 => ordD a.1 b.1) a b = Tx.less a.1 b.1 := by
  unfold ltOf ordD
  cases h : Tx.less a.1 b.1 with
  | true => simp [h]
  | false =>
    cases h2 : Tx.less b.1 a.1 with
    | true => simp [h, h2]
    | false => simp [h, h2]
theorem less_or (a b : List UInt8) (ha : a.length = 32) (hb : b.length = 32) (h : a ≠ b) : Tx.less a b = true ∨ Tx.less b a = true := by
  have h1 := Tx.less_one a b (by rw [ha, hb])
  rw [bne_iff_ne.2 h] at h1
  simpa using h1
theorem ord_swo : SWO (ltOf (fun a b : D32 => ordD a.1 b.1)) where
  irrefl x := by rw [ord_lt]; exact Tx.less_self _
  trans x y z h1 h2 := by rw [ord_lt] at h1 h2 ⊢; exact Tx.less_trans _ _ _ h1 h2
  ntrans x y z h1 h2 := by
    rw [ord_lt] at h1 h2 ⊢
    by_cases hxy : x.1 = y.1
    · rw [hxy]; exact h2
    · by_cases hyz : y.1 = z.1
      · rw [← hyz]; exact h1
      · have e1 := (less_or _ _ x.2 y.2 hxy).resolve_left (by rw [h1]; decide)
        have e2 := (less_or _ _ y.2 z.2 hyz).resolve_left (by rw [h2]; decide)
        have e3 := Tx.less_trans _ _ _ e2 e1
        have e4 := Tx.less_both x.1 z.1
        rw [e3, Bool.and_true] at e4
        exact e4

set_option maxRecDepth 100000 in
set_option maxHeartbeats 1000000 in
theorem sortD_any (g c : Nat) (d : Array D32) (R : List Value) (w : World) (hg : Blk w g 47 (cpA d R)) (hz : d.size < 4611686018427387904) :
    Calls Try.prog 45 #[.slice (some ⟨g, 0, none⟩) d.size c, .func (.func 46) #[] #[]] w fun e w' => e = .returned (.tuple #[]) ∧ ∃ d', PermIn 0 d.size d d' ∧ SortedIn (fun a b : D32 => Tx.less a.1 b.1) 0 d.size d' ∧ CpS g d' R w w' := by
  have hH : HoldsK dv 32 w g 0 d := by
    intro j hj
    rw [size_flatK] at hj
    rw [Nat.zero_add]
    exact ⟨(hg.cell j).trans (flat_at hj), hg.frozen j⟩
  have hc : CmpLays Try.prog 46 #[] dv 32 (fun a b : D32 => ordD a.1 b.1) g 0 d.size w := by
    intro m os dk _ x y
    refine (order_dr x.1 y.1 _ x.2 y.2).mono ?_
    rintro e w' ⟨he, hgr⟩
    exact ⟨he, hgr.grow⟩
  have h := AnyQ.slices_SortFunc (P := Try.prog) (ρ := Try.sortD_ren) Try.sortD 32 (fun w => Try.isAgg47 w) (fun w => Try.sizeOf47 w) dv dv_len (fun x v hv => bv_one _ v hv) (fun a b : D32 => ordD a.1 b.1) ord_swo 46 #[] g 0 c d w (enters_of Try.func46 (by kernel_rfl) rfl) hc hH hg.lt hz
  refine h.mono ?_
  rintro e w' ⟨he, d', n, os, hp, hs, rfl⟩
  refine ⟨he, d', hp, ?_, ?_⟩
  · intro i j h1 h2 h3
    have := hs i j h1 h2 h3
    rw [ord_lt] at this
    exact this
  · have hm : (putRowK dv 32 (Sort.ahead w n) g 0 d').heap[g]? = some (Obj.cells (cpA d' R) 47 (0, 0)) := by
      have h1 : w.heap[g]? = some (Obj.cells (cpA d R) 47 (0, 0)) := hg
      rw [← put_cpA (R := R) hp.1]
      simp [putRowK, putRow, mapBlock, Array.getElem?_modify, h1, onCells, Sort.ahead]
    have hsz : (putRowK dv 32 (Sort.ahead w n) g 0 d').heap.size = w.heap.size := by simp [putRowK, putRow, mapBlock, Sort.ahead]
    refine ⟨(heap_grow_old _ os (by rw [hsz]; exact hg.lt)).trans hm, ⟨rfl, rfl, rfl, ?_, fun j hj hne => ?_⟩⟩
    · show w.heap.size ≤ ((putRowK dv 32 (Sort.ahead w n) g 0 d').heap ++ os).size
      rw [Array.size_append, hsz]
      omega
    · refine (heap_grow_old _ os (by rw [hsz]; exact hj)).trans ?_
      have hjg : ¬ g = j := fun e => hne (by rw [e])
      simp [putRowK, putRow, mapBlock, Array.getElem?_modify, hjg, Sort.ahead]
end Go.Proofs.Ytjgegggcbjecbaa

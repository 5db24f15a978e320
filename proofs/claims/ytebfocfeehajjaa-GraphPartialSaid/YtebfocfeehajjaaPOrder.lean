/- The program's order: again and again the least one whose parents have all come. -/
import Derived.Test.YtebfocfeehajjaaPHeads
namespace Go.Proofs.Ytebfocfeehajjaa
open Go Go.RowKit Go.Shelf Go.Sort

theorem first_is {α : Type} [DecidableEq α] (p : α → Bool) : ∀ {R : List α}, R.any p = true → ∃ d, R[R.findIdx p]? = some d ∧ R.find? p = some d ∧ R.erase d = R.eraseIdx (R.findIdx p) ∧ R.findIdx p < R.length
  | [], h => by simp at h
  | x :: R, h => by
    by_cases hx : p x = true
    · refine ⟨x, ?_, ?_, ?_, ?_⟩
      · simp [List.findIdx_cons, hx]
      · simp [hx]
      · simp [List.findIdx_cons, hx]
      · simp [List.findIdx_cons, hx]
    · have hx' : p x = false := by simpa using hx
      have h' : R.any p = true := by simpa [hx'] using h
      obtain ⟨d, h1, h2, h3, h4⟩ := first_is p h'
      have hd : p d = true := List.find?_some h2
      have hne : ¬ x = d := fun e => by rw [e, hd] at hx'; cases hx'
      have hf : (x :: R).findIdx p = R.findIdx p + 1 := by rw [List.findIdx_cons, hx']; rfl
      rw [hf]
      refine ⟨d, by simpa using h1, by rw [List.find?_cons, hx']; exact h2, ?_, by simpa using h4⟩
      rw [List.erase_cons_tail (by simpa using hne), h3]
      rfl
theorem idxBy_is {α : Type} (q : α → Bool) (x : α) : ∀ (D : List α) (i : Nat), D.any q = true → Lib.idxByFrom (fun _ y => q y) x D i = ((i + D.findIdx q : Nat) : Int)
  | [], i, h => by simp at h
  | y :: D, i, h => by
    by_cases hy : q y = true
    · simp [Lib.idxByFrom, hy, List.findIdx_cons]
    · have hy' : q y = false := by simpa using hy
      have h' : D.any q = true := by simpa [hy'] using h
      have ih := idxBy_is q x D (i + 1) h'
      rw [Lib.idxByFrom, if_neg (by simp [hy'])]
      rw [ih, List.findIdx_cons, hy']
      simp; omega
theorem findIdx_num {N : Nat} (p : Nat → Bool) : ∀ (D : List (Num N)), D.findIdx (fun y => p y.1) = (D.map fun x => x.1).findIdx p
  | [] => rfl
  | x :: D => by
    rw [List.map_cons, List.findIdx_cons, List.findIdx_cons, findIdx_num p D]

/-- What the test whether one is still to come leans on. -/
structure LateW (lb lr N : Nat) (LT : List Bool) (W : World) : Prop where
  box : Blk W lb 66 #[.slice (some ⟨lr, 0, none⟩) N N]
  row : Blk W lr 4 (bl LT)
theorem LateW.below {lb lr N : Nat} {LT : List Bool} {W W' : World} (h : LateW lb lr N LT W) (hb : Below W.heap.size W W') : LateW lb lr N LT W' := ⟨h.box.later hb, h.row.later hb⟩

set_option maxRecDepth 100000 in
set_option maxHeartbeats 1000000 in
theorem clo_late (lb lr N : Nat) (LT : List Bool) (W : World) (h : LateW lb lr N LT W) (hl : LT.length = N) (hN : N ≤ 200) (x : Nat) (hx : x < N) :
    Calls Try.prog 56 #[.int .i64 (x : Int), .pointer (some ⟨lb, 0, none⟩)] W fun e w' => e = .returned (.bool (LT.getD x false)) ∧ ∃ q, w' = W.drewN q := by
  have c1 : W.cell? ⟨lb, 0, none⟩ = some (.slice (some ⟨lr, 0, none⟩) N N) := h.box.cell 0
  have c2 : W.cell? ⟨lr, x, none⟩ = some (.bool (LT.getD x false)) := (h.row.cell x).trans (bl_at (by rw [hl]; exact hx))
  have hxI : (x : Int) < (N : Int) := by omega
  generalize LT.getD x false = b at *
  go_enter Try.func56, Try.ntmps56
  go_wp2_with fail
  go_ret
  exact ⟨rfl, 0, rfl⟩

/-- Is one of these still to come? -/
theorem any_late (lb lr N : Nat) (LT : List Bool) (W : World) (h : LateW lb lr N LT W) (hl : LT.length = N) (hN : N ≤ 200) (base : Nat) (A' : Option Addr) (c' : Nat) (L : List Nat) (ho : W.ownsRow base 3 1 (.slice A' L.length c') L.length (nv L)) (hL : ∀ p ∈ L, p < N) (hl8 : L.length ≤ 200) :
    Calls Try.prog 59 #[.slice A' L.length c', .func (.func 56) #[] #[.pointer (some ⟨lb, 0, none⟩)]] W fun e w' => e = .returned (.bool (L.any fun p => LT.getD p false)) ∧ ∃ q, w' = W.drewN q := by
  by_cases h0 : L = []
  · subst h0
    refine (Try.slices_ContainsFunc_empty (α := Nat) A' c' _ W).mono ?_
    rintro e w' ⟨rfl, rfl⟩
    exact ⟨rfl, 0, rfl⟩
  · obtain ⟨D, hDm⟩ := nums_exist hL
    have hpos : 0 < L.length := List.length_pos_iff.2 h0
    haveI : Inhabited (Num N) := ⟨⟨L[0], hL _ (List.getElem_mem hpos)⟩⟩
    have hlen : D.length = L.length := by rw [← hDm]; simp
    rcases ho.2 with ⟨-, h2⟩ | ⟨g, cap', cur, hv, -⟩
    · omega
    · injection hv with e1 _ e3
      subst e1
      have hc : ∀ j, j < D.length → W.cell? ⟨g, 0 + j, none⟩ = some (encN D[j]!) := by
        intro j hj
        have h1 := (Rd.of_own ho).2 hpos
        obtain ⟨ad, he, -, hcc⟩ := h1
        obtain rfl := Option.some.inj he
        have h3 := hcc j (encN D[j]!) (by rw [← hDm, ← encN_map, List.getElem?_map, List.getElem?_eq_getElem hj, getElem!_pos D j hj]; rfl)
        rw [add_zero0] at h3
        rw [Nat.zero_add]; exact h3
      have hp : PredAt Try.prog 56 #[.pointer (some ⟨lb, 0, none⟩)] encN (fun y : Num N => LT.getD y.1 false) W :=
        fun W' y hb => clo_late lb lr N LT W' (h.below hb) hl hN y.1 y.2
      have h4 := Try.slices_ContainsFunc encN (fun y : Num N => LT.getD y.1 false) 56 #[.pointer (some ⟨lb, 0, none⟩)] (enters_of Try.func56 (by kernel_rfl) rfl) g 0 L.length c' D W hp (by rw [hlen]; exact Nat.le_refl _) (by omega) hc
      refine h4.mono ?_
      rintro e w' ⟨rfl, hq⟩
      refine ⟨?_, hq⟩
      rw [List.take_of_length_le (by rw [hlen]; exact Nat.le_refl _), ← hDm, List.any_map]
      rfl

/-- What the choice of the next one leans on. -/
structure NextW (gb bg lb fb lr N base : Nat) (v0 v2 v3 : Value) (B : Option Addr) (d : Nat) (V : List Value) (ns : List (List Nat)) (LT : List Bool) (W : World) : Prop where
  b1 : Blk W bg 55 #[.pointer (some ⟨gb, 0, none⟩)]
  cells : Blk W gb 78 #[v0, .slice B N d, v2, v3]
  pown : W.ownsRow base 64 1 (.slice B N d) N V
  prow : ∀ (i : Nat) (L : List Nat), ns[i]? = some L → ∃ A' c', V[i]? = some (.slice A' L.length c') ∧ W.ownsRow base 3 1 (.slice A' L.length c') L.length (nv L)
  late : LateW lb lr N LT W
  fbox : Blk W fb 75 #[.func (.func 56) #[] #[.pointer (some ⟨lb, 0, none⟩)]]
theorem NextW.below {gb bg lb fb lr N base : Nat} {v0 v2 v3 : Value} {B : Option Addr} {d : Nat} {V : List Value} {ns : List (List Nat)} {LT : List Bool} {W W' : World} (h : NextW gb bg lb fb lr N base v0 v2 v3 B d V ns LT W) (hb : Below W.heap.size W W') : NextW gb bg lb fb lr N base v0 v2 v3 B d V ns LT W' :=
  ⟨h.b1.later hb, h.cells.later hb, own_below h.pown hb, fun i L hL => by
    obtain ⟨A', c', h1, h2⟩ := h.prow i L hL
    exact ⟨A', c', h1, own_below h2 hb⟩, h.late.below hb, h.fbox.later hb⟩

set_option maxRecDepth 100000 in
set_option maxHeartbeats 2000000 in
theorem clo_next (gb bg lb fb lr N base : Nat) (v0 v2 v3 : Value) (B : Option Addr) (d : Nat) (V : List Value) (ns : List (List Nat)) (LT : List Bool) (W : World) (h : NextW gb bg lb fb lr N base v0 v2 v3 B d V ns LT W) (hl : LT.length = N) (hN : N ≤ 200) (hns : ∀ (i : Nat) (L : List Nat), ns[i]? = some L → L.length ≤ 8 ∧ ∀ p ∈ L, p < N) (x : Nat) (hx : x < N) (hnl : ns.length = N) :
    Calls Try.prog 58 #[.int .i64 (x : Int), .pointer (some ⟨bg, 0, none⟩), .pointer (some ⟨fb, 0, none⟩)] W fun e w' => e = .returned (.bool (!(ns.getD x []).any fun p => LT.getD p false)) ∧ ∃ q, w' = W.drewN q := by
  obtain ⟨L, hL⟩ : ∃ L, ns[x]? = some L := ⟨_, List.getElem?_eq_getElem (by rw [hnl]; exact hx)⟩
  have hgd : ns.getD x [] = L := by rw [List.getD_eq_getElem?_getD, hL]; rfl
  rw [hgd]
  obtain ⟨A', c', hV, hrow⟩ := h.prow x L hL
  obtain ⟨adB, v, hB', -, hVu, hcv⟩ := (Rd.of_own h.pown).spot hx
  rw [hV] at hVu
  obtain rfl := Option.some.inj hVu
  have c1 : W.cell? ⟨bg, 0, none⟩ = some (.pointer (some ⟨gb, 0, none⟩)) := h.b1.cell 0
  have c2 : W.cell? ⟨gb, 1, none⟩ = some (.slice B N d) := h.cells.cell 1
  have c3 : W.cell? ⟨fb, 0, none⟩ = some (.func (.func 56) #[] #[.pointer (some ⟨lb, 0, none⟩)]) := h.fbox.cell 0
  rw [hB'] at c2
  have HL := hns x L hL
  have HC := Lib.hid (fun q : Nat => any_late lb lr N LT (W.drewN q) (h.late.below (below_drewN' (Below.refl _ W) q)) hl hN base A' c' L (own_below hrow (below_drewN' (Below.refl _ W) q)) HL.2 (by omega))
  have hxI : (x : Int) < (N : Int) := by omega
  generalize (L.any fun p => LT.getD p false) = b at *
  clear hgd hV hrow hL HL h hB' hns
  go_enter Try.func58, Try.ntmps58
  go_wp2_with fail
  go_quiet ((go_at_call 59; exact Calls.quiet_of (HC.out _)))
  go_wp2_with fail
  go_ret
  exact ⟨rfl, _, rfl⟩

theorem pindex_any (gb bg lb fb lr N base : Nat) (v0 v2 v3 : Value) (B : Option Addr) (d : Nat) (V : List Value) (ns : List (List Nat)) (LT : List Bool) (W : World) (h : NextW gb bg lb fb lr N base v0 v2 v3 B d V ns LT W) (hl : LT.length = N) (hN : N ≤ 200) (hns : ∀ (i : Nat) (L : List Nat), ns[i]? = some L → L.length ≤ 8 ∧ ∀ p ∈ L, p < N) (hnl : ns.length = N)
    (base2 : Nat) (A' : Option Addr) (c' : Nat) (R : List Nat) (ho : W.ownsRow base2 3 1 (.slice A' R.length c') R.length (nv R)) (hR : ∀ n ∈ R, n < N) (hl2 : R.length ≤ 200) (ha : R.any (fun x => !(ns.getD x []).any fun p => LT.getD p false) = true) :
    Calls Try.prog 57 #[.slice A' R.length c', .func (.func 58) #[] #[.pointer (some ⟨bg, 0, none⟩), .pointer (some ⟨fb, 0, none⟩)]] W fun e w' => e = .returned (.int .i64 ((R.findIdx fun x => !(ns.getD x []).any fun p => LT.getD p false : Nat) : Int)) ∧ ∃ q, w' = W.drewN q := by
  obtain ⟨D, hDm⟩ := nums_exist hR
  have hpos : 0 < R.length := by
    rcases R with _ | ⟨x, R⟩
    · simp at ha
    · simp
  haveI : Inhabited (Num N) := ⟨⟨R[0], hR _ (List.getElem_mem hpos)⟩⟩
  have hlen : D.length = R.length := by rw [← hDm]; simp
  rcases ho.2 with ⟨-, h2⟩ | ⟨g, cap', cur, hv, -⟩
  · omega
  · injection hv with e1 _ e3
    subst e1
    have hc : ∀ j, j < D.length → W.cell? ⟨g, 0 + j, none⟩ = some (encN D[j]!) := by
      intro j hj
      obtain ⟨ad, he, -, hcc⟩ := (Rd.of_own ho).2 hpos
      obtain rfl := Option.some.inj he
      have h3 := hcc j (encN D[j]!) (by rw [← hDm, ← encN_map, List.getElem?_map, List.getElem?_eq_getElem hj, getElem!_pos D j hj]; rfl)
      rw [add_zero0] at h3
      rw [Nat.zero_add]; exact h3
    have hp : PredAt Try.prog 58 #[.pointer (some ⟨bg, 0, none⟩), .pointer (some ⟨fb, 0, none⟩)] encN (fun y : Num N => !(ns.getD y.1 []).any fun p => LT.getD p false) W :=
      fun W' y hb => clo_next gb bg lb fb lr N base v0 v2 v3 B d V ns LT W' (h.below hb) hl hN hns y.1 y.2 hnl
    have h4 := Try.slices_IndexFunc encN (fun y : Num N => !(ns.getD y.1 []).any fun p => LT.getD p false) 58 #[.pointer (some ⟨bg, 0, none⟩), .pointer (some ⟨fb, 0, none⟩)] (enters_of Try.func58 (by kernel_rfl) rfl) g 0 R.length c' D W hp (by rw [hlen]; exact Nat.le_refl _) (by omega) hc
    refine h4.mono ?_
    rintro e w' ⟨rfl, hq⟩
    refine ⟨?_, hq⟩
    rw [List.take_of_length_le (by rw [hlen]; exact Nat.le_refl _), Lib.idxBy, idxBy_is _ _ D 0 (by rw [← hDm, List.any_map] at ha; exact ha), findIdx_num (fun x => !(ns.getD x []).any fun p => LT.getD p false) D, hDm, Nat.zero_add]

theorem own_cut {w : World} {base n m c : Nat} {e : TypeId} {g : Nat} {xs : List Value} (h : w.ownsRow base e 1 (.slice (some ⟨g, 0, none⟩) n c) n xs) (hm : m ≤ n) : w.ownsRow base e 1 (.slice (some ⟨g, 0, none⟩) m c) m (xs.take m) := by
  obtain ⟨hl, h2⟩ := h
  rcases h2 with ⟨h2, -⟩ | ⟨g', cap', cur, hv, h3, h4, h5, h6, h7, h8⟩
  · cases h2
  · injection hv with e1 _ e3
    injection e1 with e1
    injection e1 with e1
    subst e1
    subst e3
    refine ⟨by rw [List.length_take, hl]; omega, .inr ⟨g, c, cur, rfl, h3, h4, by omega, h6, h7, ?_⟩⟩
    rw [← h8, List.take_take]
    congr 1
    omega
def encI (n : Nat) : Value := .int .i64 (n : Int)
theorem pdelete_any (W : World) (base2 : Nat) (A' : Option Addr) (c' : Nat) (R : List Nat) (i : Nat) (ho : W.ownsRow base2 3 1 (.slice A' R.length c') R.length (nv R)) (hi : i < R.length) (hl2 : R.length ≤ 200) :
    Calls Try.prog 60 #[.slice A' R.length c', .int .i64 (i : Int), .int .i64 ((i : Int) + 1)] W fun e w' => e = .returned (.slice A' (R.eraseIdx i).length c') ∧ w'.ownsRow base2 3 1 (.slice A' (R.eraseIdx i).length c') (R.eraseIdx i).length (nv (R.eraseIdx i)) ∧ W.grownBy w' (Value.slice A' R.length c').ownBlock := by
  obtain ⟨iI, hiI, hzI0, hzI1, hzI2⟩ := info_parts infoI
  have ho2 := ho
  rcases ho.2 with ⟨-, h2⟩ | ⟨g, cap', cur, hv, h3, h4, h5, h6, h7, h8⟩
  · omega
  · injection hv with e1 _ e3
    subst e1
    subst e3
    have hblk : Blk W g 3 cur := h4
    have hH : Holds encI W g 0 R.toArray := by
      intro j hj
      rw [Nat.zero_add]
      refine ⟨?_, hblk.frozen j⟩
      rw [hblk.cell j]
      have hj' : j < R.length := by simpa using hj
      have e1 : cur[j]? = (nv R)[j]? := by
        rw [← h8, List.getElem?_take, if_pos (by omega)]; simp
      rw [e1, getElem!_pos R.toArray j hj]
      unfold nv encI
      rw [List.getElem?_map, List.getElem?_eq_getElem hj']
      simp
    have h9 := Try.slices_Delete encI (fun _ => rfl) 0 (fun w => zeroInt w) iI hiI hzI1 g 0 c' i (i + 1) R.toArray W hH (by simp; omega) (by unfold maxLen at h6; omega) (by omega) (by simp; omega)
    have e2 : ((i + 1 : Nat) : Int) = (i : Int) + 1 := by omega
    rw [e2] at h9
    have e3 : R.toArray.size = R.length := by simp
    have hle : (R.eraseIdx i).length = R.length - 1 := List.length_eraseIdx_of_lt hi
    rw [e3] at h9
    refine h9.mono ?_
    rintro e w' ⟨rfl, q, rfl⟩
    have e4 : (R.toArray.toList.take i ++ R.toArray.toList.drop (i + 1) ++ List.replicate (i + 1 - i) 0) = R.eraseIdx i ++ [0] := by
      rw [List.eraseIdx_eq_take_drop_succ, show i + 1 - i = 1 by omega]
      rfl
    have hsz : (R.eraseIdx i ++ [0]).toArray.size = R.length := by simp [hle]; omega
    have hput := own_put (enc := encI) ho2 (R.eraseIdx i ++ [0]).toArray hsz q #[]
    have e5 : sortWorld encI W g 0 q (R.eraseIdx i ++ [0]).toArray #[] = putRow encI (Sort.ahead W q) g 0 (R.eraseIdx i ++ [0]).toArray := by unfold sortWorld; rw [grow_empty]
    rw [e5] at hput
    rw [e4]
    refine ⟨by rw [hle, show i + 1 - i = 1 by omega], ?_, hput.2⟩
    have h10 := own_cut hput.1 (m := (R.eraseIdx i).length) (by omega)
    have e6 : ((R.eraseIdx i ++ [0]).toArray.toList.map encI).take (R.eraseIdx i).length = nv (R.eraseIdx i) := by
      unfold nv encI
      rw [← List.map_take]
      simp
    rw [e6] at h10
    exact h10
end Go.Proofs.Ytebfocfeehajjaa

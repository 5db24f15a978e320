/- The program's rising and tell: those that are marked, by their digests; the digests of some. -/
import Derived.Test.YtebfocfeehajjaaPClo
namespace Go.Proofs.Ytebfocfeehajjaa
open Go Go.RowKit Go.Shelf Go.Sort

set_option maxRecDepth 100000 in
set_option maxHeartbeats 4000000 in
theorem ptell_any (gb base : Nat) (A : Option Addr) (c : Nat) (v1 v2 v3 : Value) (ids : List (List UInt8)) (w : World) (hc : Blk w gb 78 #[.slice A ids.length c, v1, v2, v3]) (ho : w.ownsRow base 47 32 (.slice A ids.length c) ids.length (rows bv ids)) (hD : ∀ s ∈ ids, s.length = 32) (hN : ids.length ≤ 200)
    (BB : Nat) (As : Option Addr) (cs : Nat) (L : List Nat) (hL : Rd w BB As L.length (nv L)) (hBB : BB ≤ w.heap.size) (hl : L.length ≤ 200) (hLn : ∀ n ∈ L, n < ids.length) :
    Calls Try.prog 38 #[.pointer (some ⟨gb, 0, none⟩), .slice As L.length cs] w fun e w' => ∃ A' c', e = .returned (.slice A' L.length c') ∧ w'.ownsRow w.heap.size 47 32 (.slice A' L.length c') L.length (rows bv (L.map fun n => ids.getD n [])) ∧ Below w.heap.size w w' := by
  have HC := Lib.hid hc
  have HO := Lib.hid ho
  have HD := Lib.hid hD
  have HL := Lib.hid hL
  have HBB := Lib.hid hBB
  have HLN := Lib.hid hLn
  clear hc ho hD hL hBB hLn
  obtain ⟨iD, hiD, hzD0, hzD1, hzD2⟩ := info_parts infoDg
  go_enter Try.func38, Try.ntmps38
  go_wp2_with fail
  go_loopw [5, 10] (fun ov iv wr => ∃ (i : Nat) (A' : Option Addr) (c' : Nat), iv = .int .i64 (i : Int) ∧ ov = .slice A' i c' ∧ i ≤ L.length ∧ wr.ownsRow w.heap.size 47 32 (.slice A' i c') i (rows bv ((L.take i).map fun n => ids.getD n [])) ∧ Below w.heap.size w wr) (fun _ iv _ => L.length - (intOf iv).toNat)
  case atStart => exact ⟨0, none, 0, rfl, rfl, Nat.zero_le _, World.ownsRow_nil w _ _ _, Below.refl _ _⟩
  case round =>
    obtain ⟨i, A', c', rfl, rfl, hi, hown, hb⟩ := hrel
    have HOW := Lib.hid hown
    have HB := Lib.hid hb
    clear hown hb
    by_cases hlt : i < L.length
    · have hltI : (i : Int) < (L.length : Int) := by omega
      obtain ⟨x, hx⟩ : ∃ x, L[i]? = some x := ⟨_, List.getElem?_eq_getElem hlt⟩
      have hxn := HLN.out x (List.mem_of_getElem? hx)
      have hxI : (x : Int) < (ids.length : Int) := by omega
      obtain ⟨dx, hdx⟩ : ∃ d, ids[x]? = some d := ⟨_, List.getElem?_eq_getElem hxn⟩
      have hlx := HD.out dx (List.mem_of_getElem? hdx)
      obtain ⟨adL, u, hA1, hbL, hu, hcu⟩ := HL.out.spot hlt
      subst hA1
      have hu' := nv_at hx
      rw [hu] at hu'
      obtain rfl := Option.some.inj hu'
      have hcu' : wr.cell? (adL.add i) = some (.int .i64 (x : Int)) := (HB.out.cell (by rw [block_add]; have := HBB.out; omega)).trans hcu
      obtain ⟨ad, hA2, hbx, hca⟩ := (Rd.of_ownK HO.out).elem (by decide) (fun s hs => by rw [bv_length]; exact HD.out s hs) hdx
      subst hA2
      have HCA := Lib.hid (grw_cells HB.out (ad := ad.add (x * 32)) (by rw [block_add]; exact hbx) hca)
      have HLA := Lib.hid (show (Try.prog.info? 47).map (·.size) = some (bv dx).length by rw [bv_length, hlx]; exact infoD32)
      have HDS := Lib.hid (show (bv dx).toArray.size = 32 by rw [bv_size]; exact hlx)
      have HXL := Lib.hid hlx
      have HX := Lib.hid hx
      have HDX := Lib.hid (show ids.getD x [] = dx by rw [List.getD_eq_getElem?_getD, hdx]; rfl)
      have g0 : wr.cell? ⟨gb, 0, none⟩ = some (.slice (some ad) ids.length c) := (HC.out.below HB.out HC.out.lt).cell 0
      have HOA := Lib.hid (HOW.out.alloc (.cells (bv dx).toArray 47))
      have HBA := Lib.hid (show w.heap.size ≤ (wr.alloc (.cells (bv dx).toArray 47)).heap.size by have := HB.out.size; simp; omega)
      clear hx hxn hdx hlx hu hu' hcu hca hbL hbx
      go_wp2_with (first | (refine at_lod 47 (.tmp 20) rfl ?_; go_must (refine wpList_load_any rfl 47 (.tmp 20) rfl (ad.add (x * 32)) rfl (bv dx) _ HCA.out Try.underlying47 rfl HLA.out ?_)) | (refine at_dst 22 rfl ?_; go_must (refine wpList_one_slice rfl 30 47 (.tmp 21) rfl iD _ (bv dx).toArray rfl Try.underlying30 hiD hzD0 (by rw [hzD1, HDS.out]) (by rw [HDS.out]; decide) (by rw [HDS.out]; decide) ?_)) | (refine at_dst 23 rfl ?_; go_must (refine wp_appK _ 32 rfl (.tmp 14) (.tmp 22) 30 30 rfl w.heap.size 47 iD _ 32 Try.underlying30 hiD hzD0 hzD1 hzD2 rfl (.slice A' i c') i (rows bv ((L.take i).map fun n => ids.getD n [])) rfl HOA.out (.slice (some ⟨wr.heap.size, 0, none⟩) 1 1) 1 (bv dx) rfl (new_srcK 32 Try.underlying30 wr (bv dx) 1 1 47 (0, 0) (by rw [bv_length, HXL.out]) (bv_one dx)) (by unfold maxLen; omega) (by omega) HBA.out ?_); intro v2 w2 ho2 hg2 _; obtain ⟨A2, c2, hv2, -, -, -⟩ := own_form ho2; subst hv2; have HB2 := Lib.hid (show Below w.heap.size w w2 from (HB.out.trans ((below_alloc wr (.cells (bv dx).toArray 47)).mono HB.out.size)).grown hg2 HBA.out (fun q hq => (HOA.out.lt q hq).1)); have HO2 := Lib.hid ho2; clear ho2 hg2))
      go_roundw
      case rel =>
        refine ⟨i + 1, A2, c2, by go_num, rfl, by omega, ?_, HB2.out⟩
        rw [take_snoc HX.out, List.map_append, rows_append]
        simp only [List.map_cons, List.map_nil, rows_one, HDX.out]
        exact HO2.out
      case measure => simp [intOf] <;> omega
    · obtain rfl : i = L.length := by omega
      have hltI : ¬ (L.length : Int) < (L.length : Int) := by omega
      go_wp2_with fail
      go_ret
      have h := HOW.out
      rw [List.take_of_length_le (Nat.le_refl _)] at h
      exact ⟨A', c', rfl, h, HB.out⟩

theorem own_put {α : Type} [Inhabited α] {enc : α → Value} {w : World} {base blk n cap : Nat} {e : TypeId} {xs : List Value} (h : w.ownsRow base e 1 (.slice (some ⟨blk, 0, none⟩) n cap) n xs) (d' : Array α) (hs : d'.size = n) (m : Nat) (os : Array Obj) :
    (sortWorld enc w blk 0 m d' os).ownsRow base e 1 (.slice (some ⟨blk, 0, none⟩) n cap) n (d'.toList.map enc) ∧ w.grownBy (sortWorld enc w blk 0 m d' os) (some blk) := by
  obtain ⟨hl, h2⟩ := h
  rcases h2 with ⟨h2, -⟩ | ⟨g, cap', cur, hv, h3, h4, h5, h6, h7, h8⟩
  · cases h2
  · injection hv with e1 _ e3
    injection e1 with e1
    injection e1 with e1
    subst e1
    subst e3
    have hsz : (putRow enc (Sort.ahead w m) blk 0 d').heap.size = w.heap.size := by simp [putRow, mapBlock, Sort.ahead]
    have hm : (putRow enc (Sort.ahead w m) blk 0 d').heap[blk]? = some (Obj.cells (putCells enc 0 d' cur) e (0, 0)) := by
      simp [putRow, mapBlock, Array.getElem?_modify, h4, onCells, Sort.ahead]
    have hlt : blk < w.heap.size := (Array.getElem?_eq_some_iff.1 h4).1
    refine ⟨⟨by simp [hs], .inr ⟨blk, cap, putCells enc 0 d' cur, rfl, h3, (heap_grow_old _ os (by rw [hsz]; exact hlt)).trans hm, h5, h6, by simp [putCells, h7], ?_⟩⟩, ⟨rfl, rfl, rfl, ?_, fun j hj hne => ?_⟩⟩
    · rw [Nat.mul_one]
      apply List.ext_getElem?
      intro j
      rw [List.getElem?_take, List.getElem?_map]
      by_cases hj : j < n
      · have hc : j < cur.size := by omega
        rw [if_pos hj]
        simp [putCells, hs, hj, hc, getElem!_pos d' j (by omega), Array.getElem?_eq_getElem (show j < d'.size by omega)]
      · rw [if_neg hj]
        simp [Array.getElem?_eq_none (show d'.size ≤ j by omega)]
    · show w.heap.size ≤ ((putRow enc (Sort.ahead w m) blk 0 d').heap ++ os).size
      rw [Array.size_append, hsz]
      omega
    · refine (heap_grow_old _ os (by rw [hsz]; exact hj)).trans ?_
      have hjg : ¬ blk = j := fun e => hne (by rw [e])
      simp [putRow, mapBlock, Array.getElem?_modify, hjg, Sort.ahead]

/-- Numbers of nodes, rising by their digests. -/
structure RisO (ids : List (List UInt8)) (bs : List Bool) (L : List Nat) : Prop where
  mem : ∀ n, n ∈ L ↔ bs.getD n false = true
  nodup : L.Nodup
  up : So.Up Tx.less (L.map fun n => ids.getD n [])
  len : L.length ≤ ids.length
theorem pick_len (bs : List Bool) (i : Nat) : ((List.range i).filter fun n => bs.getD n false).length ≤ i := by
  have := List.length_filter_le (fun n => bs.getD n false) (List.range i)
  rwa [List.length_range] at this
theorem pick_snoc (bs : List Bool) (i : Nat) : ((List.range (i + 1)).filter fun n => bs.getD n false) = ((List.range i).filter fun n => bs.getD n false) ++ if bs.getD i false = true then [i] else [] := by
  rw [List.range_succ, List.filter_append]
  congr 1
  rw [List.filter_cons, List.filter_nil]
abbrev Num (N : Nat) := { n : Nat // n < N }
def encN {N : Nat} (x : Num N) : Value := .int .i64 (x.1 : Int)
theorem encN_one {N : Nat} : OneCell (encN (N := N)) := fun _ => rfl
theorem nums_exist {N : Nat} : ∀ {L : List Nat}, (∀ n ∈ L, n < N) → ∃ D : List (Num N), D.map (fun x => x.1) = L
  | [], _ => ⟨[], rfl⟩
  | n :: L, h => by
    obtain ⟨D, hD⟩ := nums_exist (L := L) (fun m hm => h m (by simp [hm]))
    exact ⟨⟨n, h n (by simp)⟩ :: D, by simp [hD]⟩
theorem encN_map {N : Nat} (D : List (Num N)) : D.map encN = nv (D.map fun x => x.1) := by
  unfold nv encN
  rw [List.map_map]
  rfl
theorem getD_inj {ids : List (List UInt8)} (hnd : ids.Nodup) {x y : Nat} (hx : x < ids.length) (hy : y < ids.length) (h : ids.getD x [] = ids.getD y []) : x = y := by
  rw [List.getD_eq_getElem?_getD, List.getD_eq_getElem?_getD, List.getElem?_eq_getElem hx, List.getElem?_eq_getElem hy] at h
  exact (List.getElem_inj hnd).1 h
section
variable {ids : List (List UInt8)}
def cfN (ids : List (List UInt8)) (x y : Num ids.length) : Int := ordD (ids.getD x.1 []) (ids.getD y.1 [])
theorem dlen (hD : ∀ s ∈ ids, s.length = 32) (x : Num ids.length) : (ids.getD x.1 []).length = 32 := by
  rw [List.getD_eq_getElem?_getD, List.getElem?_eq_getElem x.2]
  exact hD _ (List.getElem_mem x.2)
theorem cfN_lt (x y : Num ids.length) : ltOf (cfN ids) x y = Tx.less (ids.getD x.1 []) (ids.getD y.1 []) := by
  unfold ltOf cfN ordD
  cases h : Tx.less (ids.getD x.1 []) (ids.getD y.1 []) with
  | true => simp
  | false =>
    cases h2 : Tx.less (ids.getD y.1 []) (ids.getD x.1 []) <;> simp
theorem less_or (a b : List UInt8) (ha : a.length = 32) (hb : b.length = 32) (h : a ≠ b) : Tx.less a b = true ∨ Tx.less b a = true := by
  have h1 := Tx.less_one a b (by rw [ha, hb])
  rw [bne_iff_ne.2 h] at h1
  simpa using h1
theorem cfN_swo (hD : ∀ s ∈ ids, s.length = 32) : SWO (ltOf (cfN ids)) where
  irrefl x := by rw [cfN_lt]; exact Tx.less_self _
  trans x y z h1 h2 := by rw [cfN_lt] at h1 h2 ⊢; exact Tx.less_trans _ _ _ h1 h2
  ntrans x y z h1 h2 := by
    rw [cfN_lt] at h1 h2 ⊢
    by_cases hxy : ids.getD x.1 [] = ids.getD y.1 []
    · rw [hxy]; exact h2
    · by_cases hyz : ids.getD y.1 [] = ids.getD z.1 []
      · rw [← hyz]; exact h1
      · have e1 := (less_or _ _ (dlen hD x) (dlen hD y) hxy).resolve_left (by rw [h1]; decide)
        have e2 := (less_or _ _ (dlen hD y) (dlen hD z) hyz).resolve_left (by rw [h2]; decide)
        have e3 := Tx.less_trans _ _ _ e2 e1
        have e4 := Tx.less_both (ids.getD x.1 []) (ids.getD z.1 [])
        rw [e3, Bool.and_true] at e4
        exact e4
theorem cfN_total (hD : ∀ s ∈ ids, s.length = 32) (hnd : ids.Nodup) (x y : Num ids.length) (h1 : ltOf (cfN ids) x y = false) (h2 : ltOf (cfN ids) y x = false) : x = y := by
  rw [cfN_lt] at h1 h2
  apply Subtype.ext
  refine getD_inj hnd x.2 y.2 (Decidable.byContradiction fun hne => ?_)
  rcases less_or _ _ (dlen hD x) (dlen hD y) hne with h | h
  · rw [h1] at h; cases h
  · rw [h2] at h; cases h
/-- What the sort leaves. -/
theorem sorted_up (hD : ∀ s ∈ ids, s.length = 32) (hnd : ids.Nodup) {D : List (Num ids.length)} (hn : (D.map fun x => x.1).Nodup) :
    So.Up Tx.less (((D.mergeSort fun x y => !(ltOf (cfN ids)) y x).map fun x => x.1).map fun n => ids.getD n []) := by
  have hp := List.mergeSort_perm D (fun x y => !(ltOf (cfN ids)) y x)
  have hs := List.pairwise_mergeSort (le := fun x y => !(ltOf (cfN ids)) y x) (fun a b c h1 h2 => by
    simp only [Bool.not_eq_true'] at h1 h2 ⊢
    exact (cfN_swo hD).ntrans c b a h2 h1) (fun a b => by
    cases h : ltOf (cfN ids) b a with
    | false => simp
    | true =>
      have h4 := Tx.less_both (ids.getD b.1 []) (ids.getD a.1 [])
      rw [cfN_lt] at h
      rw [h, Bool.true_and] at h4
      rw [cfN_lt, h4]; simp) D
  have hn2 : (D.mergeSort fun x y => !(ltOf (cfN ids)) y x).Pairwise (fun x y => x.1 ≠ y.1) := by
    have h := (hp.map (fun x => x.1)).nodup_iff.2 hn
    rw [List.nodup_iff_pairwise_ne, List.pairwise_map] at h
    exact h
  unfold So.Up
  rw [List.pairwise_map, List.pairwise_map]
  refine (hs.and hn2).imp ?_
  rintro x y ⟨h1, h2⟩
  have h3 : Tx.less (ids.getD y.1 []) (ids.getD x.1 []) = false := by rw [cfN_lt] at h1; simpa using h1
  exact (less_or _ _ (dlen hD x) (dlen hD y) (fun e => h2 (getD_inj hnd x.2 y.2 e))).resolve_right (by rw [h3]; decide)
end

theorem own_grown_of {w w' : World} {base : Nat} {v : Value} (hb : Below w.heap.size w w') : w.grownBy w' v.ownBlock := grown_of hb _
/-- The library's sort of numbers, by their digests. -/
theorem psort_any (gb bg base : Nat) (A : Option Addr) (c : Nat) (v1 v2 v3 : Value) (ids : List (List UInt8)) (W : World) (h : OrdW gb bg base A c v1 v2 v3 ids W) (hD : ∀ s ∈ ids, s.length = 32) (hnd : ids.Nodup) (hN : ids.length ≤ 200)
    (base2 : Nat) (A' : Option Addr) (c' : Nat) (K : List Nat) (ho : W.ownsRow base2 3 1 (.slice A' K.length c') K.length (nv K)) (hK : ∀ n ∈ K, n < ids.length) (hn : K.Nodup) (hl : K.length ≤ 200) :
    Calls Try.prog 52 #[.slice A' K.length c', .func (.func 53) #[] #[.pointer (some ⟨bg, 0, none⟩)]] W fun e w' => e = .returned (.tuple #[]) ∧
      ∃ L : List Nat, L.Perm K ∧ So.Up Tx.less (L.map fun n => ids.getD n []) ∧ w'.ownsRow base2 3 1 (.slice A' K.length c') K.length (nv L) ∧ W.grownBy w' (Value.slice A' K.length c').ownBlock := by
  by_cases h0 : K = []
  · subst h0
    refine (Try.slices_SortFunc_none (α := Nat) A' c' _ W).mono ?_
    rintro e w' ⟨rfl, rfl⟩
    exact ⟨rfl, [], List.Perm.refl _, List.Pairwise.nil, ho, World.grownBy.refl _ _⟩
  · obtain ⟨D, hDm⟩ := nums_exist hK
    have hpos : 0 < K.length := List.length_pos_iff.2 h0
    haveI : Inhabited (Num ids.length) := ⟨⟨K[0], hK _ (List.getElem_mem hpos)⟩⟩
    have hlen : K.length = D.toArray.size := by rw [← hDm]; simp
    obtain ⟨hl1, h2⟩ := ho
    rcases h2 with ⟨-, h2⟩ | ⟨g, cap', cur, hv, h3, h4, h5, h6, h7, h8⟩
    · omega
    · have ho' : W.ownsRow base2 3 1 (.slice A' K.length c') K.length (nv K) := ⟨hl1, .inr ⟨g, cap', cur, hv, h3, h4, h5, h6, h7, h8⟩⟩
      injection hv with e1 _ e3
      subst e1
      subst e3
      have hblk : Blk W g 3 cur := h4
      have hH : Holds encN W g 0 D.toArray := by
        intro j hj
        rw [Nat.zero_add]
        refine ⟨?_, hblk.frozen j⟩
        rw [hblk.cell j]
        have e1 : cur[j]? = (nv K)[j]? := by
          rw [← h8, List.getElem?_take, if_pos (by omega)]; simp
        rw [e1, ← hDm, ← encN_map, List.getElem?_map]
        have hj' : j < D.length := by simpa using hj
        rw [List.getElem?_eq_getElem hj', getElem!_pos D.toArray j hj]
        simp
      have hput : ∀ (m : Nat) (os : Array Obj) (dk : Array (Num ids.length)), dk.size = D.toArray.size → (sortWorld encN W g 0 m dk os).ownsRow base2 3 1 (.slice (some ⟨g, 0, none⟩) K.length c') K.length (dk.toList.map encN) ∧ W.grownBy (sortWorld encN W g 0 m dk os) (some g) :=
        fun m os dk hk => own_put ho' dk (by rw [hk, hlen]) m os
      have hcmp : CmpLays1 Try.prog 53 #[.pointer (some ⟨bg, 0, none⟩)] encN (cfN ids) g 0 D.toArray.size W := by
        intro m os dk hk x y
        have hw := h.grown (hput m os dk hk).2 hblk (by decide) (by decide) (by decide)
        have gx : ids[x.1]? = some (ids.getD x.1 []) := by rw [List.getD_eq_getElem?_getD, List.getElem?_eq_getElem x.2]; rfl
        have gy : ids[y.1]? = some (ids.getD y.1 []) := by rw [List.getD_eq_getElem?_getD, List.getElem?_eq_getElem y.2]; rfl
        refine (clo_order gb bg base A c v1 v2 v3 ids _ hw hD hN x.1 y.1 _ _ gx gy).mono ?_
        rintro e w' ⟨he, hgr⟩
        exact ⟨he, hgr.grow⟩
      have hs := Try.slices_SortFunc_total encN encN_one (cfN ids) (cfN_swo hD) 53 #[.pointer (some ⟨bg, 0, none⟩)] g 0 c' D.toArray W (enters_of Try.func53 (by kernel_rfl) rfl) hcmp hH hblk.lt (by omega) (cfN_total hD hnd)
      rw [← hlen] at hs
      refine hs.mono ?_
      rintro e w' ⟨he, n, os, rfl⟩
      have hp := List.mergeSort_perm D (fun x y => !(ltOf (cfN ids)) y x)
      have hsz : (D.toArray.toList.mergeSort fun x y => !(ltOf (cfN ids)) y x).toArray.size = D.toArray.size := by
        rw [List.size_toArray, List.size_toArray]; exact hp.length_eq
      obtain ⟨o1, o2⟩ := hput n os _ hsz
      refine ⟨he, (D.mergeSort fun x y => !(ltOf (cfN ids)) y x).map (fun x => x.1), ?_, sorted_up hD hnd (by rw [hDm]; exact hn), ?_, o2⟩
      · have := hp.map (fun x => x.1)
        rwa [hDm] at this
      · rw [← encN_map]
        exact o1

set_option maxRecDepth 100000 in
set_option maxHeartbeats 4000000 in
theorem prising_any (gb base : Nat) (A : Option Addr) (c : Nat) (v1 v2 v3 : Value) (ids : List (List UInt8)) (w : World) (hc : Blk w gb 78 #[.slice A ids.length c, v1, v2, v3]) (ho : w.ownsRow base 47 32 (.slice A ids.length c) ids.length (rows bv ids)) (hD : ∀ s ∈ ids, s.length = 32) (hnd : ids.Nodup) (hN : ids.length ≤ 200)
    (g : Nat) (bs : List Bool) (cc : Nat) (hb : Blk w g 4 (bl bs)) (hbl : bs.length = ids.length) :
    Calls Try.prog 39 #[.pointer (some ⟨gb, 0, none⟩), .slice (some ⟨g, 0, none⟩) bs.length cc] w fun e w' => ∃ A' c' L, e = .returned (.slice A' L.length c') ∧ w'.ownsRow w.heap.size 3 1 (.slice A' L.length c') L.length (nv L) ∧ Below w.heap.size w w' ∧ RisO ids bs L := by
  obtain ⟨iI, hiI, hzI0, hzI1, hzI2⟩ := info_parts infoI
  obtain ⟨wa, hwa⟩ : ∃ y, y = w.alloc (.cells #[.pointer (some ⟨gb, 0, none⟩)] 55) := ⟨_, rfl⟩
  have HBA := Lib.hid (show Below w.heap.size w wa by rw [hwa]; exact below_alloc w _)
  have HW := Lib.hid (show OrdW gb w.heap.size base A c v1 v2 v3 ids wa from ⟨by rw [hwa]; exact Blk.new w _ _, hc.later HBA.out, own_below ho HBA.out⟩)
  have HM := Lib.hid (hb.later HBA.out)
  have HD := Lib.hid hD
  have HND := Lib.hid hnd
  have HBL := Lib.hid hbl
  replace hwa := hwa.symm
  clear hc ho hD hnd hb hbl
  go_enter Try.func39, Try.ntmps39
  go_wp2_with fail
  clear hwa
  go_loopw [5, 10] (fun ov iv wr => ∃ (i : Nat) (K : List Nat) (A' : Option Addr) (c' : Nat), iv = .int .i64 (i : Int) ∧ ov = .slice A' K.length c' ∧ i ≤ bs.length ∧ Hid (K = (List.range i).filter fun n => bs.getD n false) ∧ K.length ≤ i ∧ wr.ownsRow wa.heap.size 3 1 (.slice A' K.length c') K.length (nv K) ∧ Below wa.heap.size wa wr) (fun _ iv _ => bs.length - (intOf iv).toNat)
  case atStart => exact ⟨0, [], none, 0, rfl, rfl, Nat.zero_le _, rfl, Nat.le_refl _, World.ownsRow_nil _ _ _ _, Below.refl _ _⟩
  case round =>
    obtain ⟨i, K, A', c', rfl, rfl, hi, HK, hki, hown, hbw⟩ := hrel
    have HOW := Lib.hid hown
    have HB := Lib.hid hbw
    have HBW := Lib.hid (HBA.out.trans (hbw.mono HBA.out.size))
    clear hown hbw
    by_cases hlt : i < bs.length
    · have hltI : (i : Int) < (bs.length : Int) := by omega
      have cm : wr.cell? ⟨g, i, none⟩ = some (.bool (bs.getD i false)) := ((HM.out.below HB.out HM.out.lt).cell i).trans (bl_at hlt)
      have HPS := Lib.hid (pick_snoc bs i)
      have hl2 : bs.length ≤ 200 := by rw [HBL.out]; exact hN
      by_cases hm : bs.getD i false = true
      · rw [hm] at cm
        rw [if_pos hm, ← HK.out] at HPS
        have HOA := Lib.hid (HOW.out.alloc (.cells #[.int .i64 (i : Int)] 3))
        have HBS := Lib.hid (show wa.heap.size ≤ (wr.alloc (.cells #[.int .i64 (i : Int)] 3)).heap.size by have := HB.out.size; simp; omega)
        clear hm
        go_wp2_with (refine at_dst 19 rfl ?_; go_must (refine wp_appK _ 1 rfl (.tmp 16) (.tmp 18) 64 64 rfl wa.heap.size 3 iI _ 8 Try.underlying64 hiI hzI0 hzI1 hzI2 rfl (.slice A' K.length c') K.length (nv K) rfl HOA.out (.slice (some ⟨wr.heap.size, 0, none⟩) 1 1) 1 [.int .i64 (i : Int)] rfl (new_srcK 1 Try.underlying64 wr [.int .i64 (i : Int)] 1 1 3 (0, 0) rfl (by simp [Value.oneCell'])) (by unfold maxLen; omega) (by omega) HBS.out ?_); intro v2 w2 ho2 hg2 _; obtain ⟨A2, c2, hv2, -, -, -⟩ := own_form ho2; subst hv2; have HB2 := Lib.hid (show Below wa.heap.size wa w2 from (HB.out.trans ((below_alloc wr (.cells #[.int .i64 (i : Int)] 3)).mono HB.out.size)).grown hg2 HBS.out (fun q hq => (HOA.out.lt q hq).1)); have HO2 := Lib.hid ho2; clear ho2 hg2)
        go_roundw
        case rel =>
          refine ⟨i + 1, K ++ [i], A2, c2, by go_num, by rw [List.length_append]; rfl, by omega, Lib.hid HPS.out.symm, by rw [List.length_append]; simp; omega, ?_, HB2.out⟩
          rw [nv_append, List.length_append]
          exact HO2.out
        case measure => simp [intOf] <;> omega
      · have hm' : bs.getD i false = false := by simpa using hm
        rw [hm'] at cm
        rw [if_neg hm, List.append_nil, ← HK.out] at HPS
        clear hm hm'
        go_wp2_with fail
        go_roundw
        case rel => exact ⟨i + 1, K, A', c', by go_num, rfl, by omega, Lib.hid HPS.out.symm, by omega, HOW.out, HB.out⟩
        case measure => simp [intOf] <;> omega
    · obtain rfl : i = bs.length := by omega
      have hltI : ¬ (bs.length : Int) < (bs.length : Int) := by omega
      have hKl : ∀ n ∈ K, n < ids.length := fun n hn => by
        rw [HK.out] at hn
        have := List.mem_range.1 (List.mem_filter.1 hn).1
        rw [HBL.out] at this
        exact this
      have hKn : K.Nodup := by rw [HK.out]; exact List.nodup_range.filter _
      have HC := Lib.hid (psort_any gb w.heap.size base A c v1 v2 v3 ids wr (HW.out.below HB.out) HD.out HND.out hN wa.heap.size A' c' K HOW.out hKl hKn (by rw [HBL.out] at hki; omega))
      clear hKl hKn
      go_wp2_with fail
      refine HC.out.mono ?_; rintro e w2 ⟨rfl, L, hp, hup, ho2, hg2⟩
      have HP := Lib.hid hp
      have HU := Lib.hid hup
      have HO2 := Lib.hid ho2
      have HB2 := Lib.hid (show Below w.heap.size w w2 from HBW.out.grown hg2 HBW.out.size (fun q hq => by have := (HOW.out.lt q hq).1; have := HBA.out.size; omega))
      clear hp hup ho2 hg2 HC
      go_wp2_with fail
      go_ret
      have hlen : L.length = K.length := HP.out.length_eq
      refine ⟨A', c', L, by rw [hlen]; rfl, ?_, HB2.out, ⟨fun n => ?_, ?_, HU.out, by rw [hlen]; rw [HBL.out] at hki; omega⟩⟩
      · rw [hlen]
        exact own_base HO2.out HBA.out.size
      · rw [HP.out.mem_iff, HK.out, List.mem_filter, List.mem_range]
        refine ⟨fun h => h.2, fun h => ⟨?_, h⟩⟩
        apply Decidable.byContradiction
        intro hc
        rw [List.getD_eq_getElem?_getD, List.getElem?_eq_none (by omega)] at h
        cases h
      · rw [HP.out.nodup_iff, HK.out]
        exact List.nodup_range.filter _
end Go.Proofs.Ytebfocfeehajjaa

/- The library's slices.Compact at digests: consecutive equal ones, once. -/
import Derived.Test.YtjgegggcbjecbaaRRefs
import Derived.Test.YtjgegggcbjecbaaCmpt
import Derived.Laws.CopyRow
import Derived.Test.YtjgegggcbjecbaaAliv
namespace Go.Proofs.Ytjgegggcbjecbaa
open Go Go.RowKit
open Go.Lib (keeps compactUpTo keeps_lt_one CompInv)

/-- A digest, by its bytes. -/
abbrev D32 := {l : List UInt8 // l.length = 32}
instance : Inhabited D32 := ⟨⟨Cm.zero32, rfl⟩⟩
def vl (L : List D32) : List (List UInt8) := L.map fun x => x.1
theorem vl_len (L : List D32) : (vl L).length = L.length := by unfold vl; rw [List.length_map]
def dl (d : Array D32) : List (List UInt8) := d.toList.map (·.1)
theorem dl_len (d : Array D32) : (dl d).length = d.size := by unfold dl; rw [List.length_map, Array.length_toList]
theorem dl_dig (d : Array D32) : ∀ s ∈ dl d, s.length = 32 := by
  intro s hs
  unfold dl at hs
  obtain ⟨x, -, rfl⟩ := List.mem_map.1 hs
  exact x.2
theorem dl_at (d : Array D32) {i : Nat} (hi : i < d.size) : (dl d)[i]? = some d[i]!.1 := by
  unfold dl
  rw [List.getElem?_map, getElem!_pos d i hi, List.getElem?_eq_getElem (by simpa using hi), Array.getElem_toList]
  rfl
theorem dl_set (d : Array D32) (i : Nat) (x : D32) : dl (d.setIfInBounds i x) = (dl d).set i x.1 := by
  unfold dl
  rw [Array.toList_setIfInBounds, List.map_set]
/-- The cells of a block that holds digests, and more behind them. -/
def cpA (d : Array D32) (R : List Value) : Array Value := (rows bv (dl d) ++ R).toArray
theorem cpA_size (d : Array D32) (R : List Value) : (cpA d R).size = d.size * 32 + R.length := by
  unfold cpA
  rw [List.size_toArray, List.length_append, rows_len (fun s hs => by rw [bv_length]; exact dl_dig d s hs), dl_len]
theorem cpA_at {d : Array D32} {R : List Value} {i : Nat} (hi : i < d.size) {j : Nat} {v : Value} (hv : (bv d[i]!.1)[j]? = some v) : (cpA d R)[i * 32 + j]? = some v := by
  have hj : j < 32 := by
    have := (List.getElem?_eq_some_iff.1 hv).1
    rw [bv_length, d[i]!.2] at this
    exact this
  unfold cpA
  have hl : i * 32 + j < (rows bv (dl d)).length := by
    rw [rows_len (fun s hs => by rw [bv_length]; exact dl_dig d s hs), dl_len]
    omega
  rw [List.getElem?_toArray, List.getElem?_append_left hl, rows_get (k := 32) (dl d) (fun s hs => by rw [bv_length]; exact dl_dig d s hs) i j _ (dl_at d hi) hj]
  exact hv
theorem cpA_over {d : Array D32} {R : List Value} {i : Nat} (hi : i < d.size) (x : D32) : over (cpA d R) (i * 32) (bv x.1) = cpA (d.setIfInBounds i x) R := by
  have hl := rows_len (cells := bv) (k := 32) (L := dl d) (fun s hs => by rw [bv_length]; exact dl_dig d s hs)
  rw [dl_len] at hl
  unfold over cpA
  congr 1
  rw [bv_length, x.2, dl_set]
  have e1 : (rows bv (dl d) ++ R).take (i * 32) = rows bv ((dl d).take i) := by
    rw [List.take_append_of_le_length (by omega), rows_take (dl_dig d)]
  have e2 : (rows bv (dl d) ++ R).drop (i * 32 + 32) = rows bv ((dl d).drop (i + 1)) ++ R := by
    rw [List.drop_append_of_le_length (by omega), show i * 32 + 32 = (i + 1) * 32 by omega, rows_drop (dl_dig d)]
  show ((rows bv (dl d) ++ R).toArray.toList.take (i * 32)) ++ (bv x.1 ++ (rows bv (dl d) ++ R).toArray.toList.drop (i * 32 + 32)) = _
  rw [List.toList_toArray, e1, e2, ← List.append_assoc, ← List.append_assoc, ← rows_one bv x.1, ← rows_append, ← rows_append]
  congr 2
  rw [List.set_eq_take_append_cons_drop, if_pos (by rw [dl_len]; exact hi)]
  simp
/-- A block that holds digests, seen from the world ahead. -/
structure CpS (g : Nat) (d : Array D32) (R : List Value) (w wr : World) : Prop where
  blk : Blk wr g 47 (cpA d R)
  grown : w.grownBy wr (some g)
theorem CpS.drew {g : Nat} {d : Array D32} {R : List Value} {w wr : World} (h : CpS g d R w wr) : CpS g d R w wr.drew := ⟨h.blk.drew, sole_drew h.grown⟩
theorem CpS.later {g : Nat} {d : Array D32} {R : List Value} {w wr w2 : World} (h : CpS g d R w wr) (hb : Below wr.heap.size wr w2) : CpS g d R w w2 := ⟨h.blk.later hb, gb_trans h.grown (gb_below hb)⟩
theorem CpS.cells {g : Nat} {d : Array D32} {R : List Value} {w wr : World} (h : CpS g d R w wr) {i : Nat} (hi : i < d.size) : ∀ j v, (bv d[i]!.1)[j]? = some v → wr.cell? ((⟨g, i * 32, none⟩ : Addr).add j) = some v := by
  intro j v hv
  rw [Addr.add_lit, h.blk.cell, cpA_at hi hv]
theorem CpS.put {g : Nat} {d : Array D32} {R : List Value} {w wr : World} (h : CpS g d R w wr) {i : Nat} (hi : i < d.size) (x : D32) : CpS g (d.setIfInBounds i x) R w (wr.setRow g (over (cpA d R) (i * 32) (bv x.1))) := by
  rw [cpA_over hi]
  exact ⟨h.blk.row _, sole_row h.grown _⟩
theorem D32_eq {x y : D32} : decide (x.1 = y.1) = decide (x = y) := decide_eq_decide.2 ⟨Subtype.ext, fun h => by rw [h]⟩

theorem over_sized {cur : Array Value} {o : Nat} {vs : List Value} (h : o + vs.length ≤ cur.size) : (over cur o vs).size = cur.size := by
  unfold over
  rw [List.size_toArray, List.length_append, List.length_append, List.length_take, List.length_drop, Array.length_toList]
  omega
theorem over_take {cur : Array Value} {o : Nat} {vs : List Value} (h : o ≤ cur.size) : (over cur o vs).toList.take o = cur.toList.take o := by
  unfold over
  rw [List.toList_toArray, List.take_append_of_le_length (by rw [List.length_take, Array.length_toList]; omega), List.take_take, Nat.min_self]
/-- 'clear(s)', where s lies in a block that is known whole. -/
theorem run_clear_blk {P : Program} {w : World} {t e ty : TypeId} {Z : Array Value} {g off n c : Nat} {cur : Array Value} {tag : TypeId} (ht : P.underlying t = some (.slice e)) (hv : ∀ w, (zeroValue e).run P w = .ok (.agg Z) w) (h1 : ∀ v ∈ (Builtin.zeroCells Z n).toList, v.oneCell' = true) (hn : 0 < n) (hB : Blk w g tag cur)
    (hfit : off + (Builtin.zeroCells Z n).toList.length ≤ cur.size) : (Builtin.clear_ #[t] ty #[.slice (some ⟨g, off, none⟩) n c]).run P w = .ok (.tuple #[]) (w.setRow g (over cur off (Builtin.zeroCells Z n).toList)) := by
  have hst := run_storeCells_at P g off tag (Builtin.zeroCells Z n).toList 0 cur w hB (by simpa using hfit) h1
  simp only [Nat.add_zero, List.append_assoc] at hst
  obtain ⟨m, rfl⟩ : ∃ m, n = m + 1 := ⟨n - 1, by omega⟩
  simp [Builtin.clear_, run_underlying ht, hv, Value.cells, hst, over]
theorem zero_cells {Z : Array Value} {n : Nat} (hZ : Z.size = 32) (h1 : Z.all (·.oneCell') = true) : (Builtin.zeroCells Z n).toList.length = n * 32 ∧ ∀ v ∈ (Builtin.zeroCells Z n).toList, v.oneCell' = true := by
  unfold Builtin.zeroCells
  refine ⟨by simp [hZ], fun v hv => ?_⟩
  rw [Array.toList_map, List.mem_map] at hv
  obtain ⟨i, -, rfl⟩ := hv
  have hi : i % Z.size < Z.size := Nat.mod_lt _ (by omega)
  rw [getElem!_pos Z _ hi]
  exact (Array.all_eq_true_iff_forall_mem.1 h1) _ (Array.getElem_mem hi)
/-- What is left of a slice of digests, and its head. -/
theorem run_restD {w : World} {g n c i : Nat} (hj : i < n) (hc : n ≤ c) :
    (Instr.slice 29 (.slice (some ⟨g, 0, none⟩) n c) (some (.int .i64 (i : Int))) none none).run Try.prog w = .ok (.slice (some ⟨g, i * 32, none⟩) (n - i) (c - i)) w := by
  have hsz : (Try.prog.info? (Try.prog.elem 29)).map (·.size) = some 32 := by kernel_rfl
  rw [run_slice_l (P := Try.prog) (w := w) (t := 29) (a := some ⟨g, 0, none⟩) (len := n) (cap := c) (by kernel_rfl) .i64 (i : Int) (by omega) (by omega)]
  cases hq : Try.prog.info? (Try.prog.elem 29) with
  | none => simp [hq] at hsz
  | some x =>
    have hs : x.size = 32 := by simpa [hq] using hsz
    have e2 : ¬ c = i := by omega
    simp [sizeOf, typeInfo, hq, hs, sliced, e2, Result.andThen, Addr.add_lit]
theorem run_headD {w : World} {g n c i : Nat} (hi : i ≤ c) :
    (Instr.slice 29 (.slice (some ⟨g, 0, none⟩) n c) none (some (.int .i64 (i : Int))) none).run Try.prog w = .ok (.slice (some ⟨g, 0, none⟩) i c) w := by
  have hsz : (Try.prog.info? (Try.prog.elem 29)).map (·.size) = some 32 := by kernel_rfl
  rw [run_slice_h w 29 (some ⟨g, 0, none⟩) n c (by kernel_rfl) .i64 (i : Int) (by omega) (by omega)]
  cases hq : Try.prog.info? (Try.prog.elem 29) with
  | none => simp [hq] at hsz
  | some x =>
    have hs : x.size = 32 := by simpa [hq] using hsz
    simp [sizeOf, typeInfo, hq, hs, sliced, Result.andThen, Addr.add_lit]

set_option maxRecDepth 100000 in
set_option maxHeartbeats 4000000 in
theorem compact_any (g c B : Nat) (d : Array D32) (w : World) (ho : w.ownsRow B 47 32 (.slice (some ⟨g, 0, none⟩) d.size c) d.size (rows bv (dl d))) (h2 : 2 ≤ d.size) (hl : d.size ≤ 4611686018427387904) :
    Calls Try.prog 47 #[.slice (some ⟨g, 0, none⟩) d.size c] w fun e w' => e = .returned (.slice (some ⟨g, 0, none⟩) (compactUpTo d d.size).length c) ∧ w'.ownsRow B 47 32 (.slice (some ⟨g, 0, none⟩) (compactUpTo d d.size).length c) (compactUpTo d d.size).length (rows bv (vl (compactUpTo d d.size))) ∧ w.grownBy w' (some g) := by
  obtain ⟨ho1, ho2⟩ := ho
  obtain ⟨cur, hB, hg, hcn, hcm, hcs, htk⟩ : ∃ cur, B ≤ g ∧ w.heap[g]? = some (.cells cur 47 (0, 0)) ∧ d.size ≤ c ∧ c ≤ maxLen ∧ cur.size = c * 32 ∧ cur.toList.take (d.size * 32) = rows bv (dl d) := by
    rcases ho2 with ⟨h, -⟩ | ⟨g', cap, cur, hv, h1, h2, h3, h4, h5, h6⟩
    · cases h
    · injection hv with e1 _ e3
      injection e1 with e1
      injection e1 with e1
      subst e1
      subst e3
      exact ⟨cur, h1, h2, h3, h4, h5, h6⟩
  obtain ⟨R, hR⟩ : ∃ R, R = cur.toList.drop (d.size * 32) := ⟨_, rfl⟩
  have hcur : cur = cpA d R := by
    unfold cpA
    rw [← htk, hR, List.take_append_drop, Array.toArray_toList]
  have HS := Lib.hid (show CpS g d R w w from ⟨by rw [← hcur]; exact hg, World.grownBy.refl _ _⟩)
  have HCS := Lib.hid (show (cpA d R).size = c * 32 by rw [← hcur]; exact hcs)
  have HBC := Lib.hid (And.intro hB hcm)
  have hcm' : c ≤ 9223372036854775807 := by simpa [maxLen] using hcm
  have d2 : ¬ (d.size : Int) < 2 := by omega
  clear ho1 ho2 hR hcur hg hcs htk hB hcm
  go_enter Try.func47, Try.ntmps47
  go_wp2_with fail
  go_loopw [3] (fun kv wr => ∃ k : Nat, 1 ≤ k ∧ k ≤ d.size ∧ kv = .int .i64 (k : Int) ∧ Hid (∀ j, j < k → keeps d j = true) ∧ CpS g d R w wr) (fun kv _ => d.size - (intOf kv).toNat)
  case atStart => exact ⟨1, Nat.le_refl _, by omega, rfl, Lib.hid (fun j hj => keeps_lt_one d j (by omega)), HS.out⟩
  case round =>
    obtain ⟨k, hk1, hk, rfl, HA, hS⟩ := hrel
    have HS := Lib.hid hS
    clear hS
    by_cases hlt : k < d.size
    · have hltI : (k : Int) < (d.size : Int) := by omega
      have hw1 : IntKind.i64.wrap ((k : Int) - 1) = ((k - 1 : Nat) : Int) := by rw [IntWalk.i64_in _ (by omega)]; omega
      have hltI2 : ((k - 1 : Nat) : Int) < (d.size : Int) := by omega
      obtain ⟨x, hx⟩ : ∃ x : D32, x = d[k]! := ⟨_, rfl⟩
      obtain ⟨y, hy⟩ : ∃ y : D32, y = d[k - 1]! := ⟨_, rfl⟩
      have HCA := Lib.hid (fun u : Grw wr => (HS.out.later u.prop).cells hlt)
      have HCB := Lib.hid (fun u : Grw wr => (HS.out.later u.prop).cells (i := k - 1) (by omega))
      rw [← hx] at HCA
      rw [← hy] at HCB
      have HLA := Lib.hid (show (Try.prog.info? 47).map (·.size) = some (bv x.1).length by rw [bv_length, x.2]; exact infoD32)
      have HLB := Lib.hid (show (Try.prog.info? 47).map (·.size) = some (bv y.1).length by rw [bv_length, y.2]; exact infoD32)
      have heq := fun w => run_equal_dig x.2 y.2 w
      have HX := Lib.hid hx
      have HY := Lib.hid hy
      clear hx hy
      go_wp2_with fail
      refine wp_region_grow (by kernel_rfl) (by kernel_rfl) ?_
      go_big_quiet_step (fail)
      go_big_quiet_step (fail)
      go_big_quiet_step (fail)
      refine quiet_load_any (by rfl) 47 (.tmp 18) rfl ⟨g, k * 32, none⟩ rfl (bv x.1) HCA.out _ Try.underlying47 rfl HLA.out ?_; go_simp
      go_big_quiet_step (fail)
      go_big_quiet_step (fail)
      go_big_quiet_step (fail)
      go_big_quiet_step (fail)
      refine quiet_load_any (by rfl) 47 (.tmp 23) rfl ⟨g, (k - 1) * 32, none⟩ rfl (bv y.1) HCB.out _ Try.underlying47 rfl HLB.out ?_; go_simp
      go_big_quiet_step (fail)
      refine wpQuiet_nil ?_
      first | (intro _ hw'; obtain ⟨u, hw''⟩ := hw'; subst hw'') | intro u
      have HSu := Lib.hid (HS.out.later u.prop)
      by_cases hxy : x.1 = y.1
      · have hkp : keeps d k = false := by
          unfold keeps
          rw [← HX.out, ← HY.out]
          simp only [decide_eq_false_iff_not, not_or, Decidable.not_not]
          exact ⟨by omega, Subtype.ext hxy⟩
        have HCI := Lib.hid (CompInv.start HA.out hkp)
        have hd : decide (x.1 = y.1) = true := decide_eq_true hxy
        rw [hd] at heq ⊢
        clear hd hxy hkp HCA HCB
        have hsl := fun w => run_restD (w := w) (g := g) (n := d.size) (c := c) (i := k) hlt hcn
        have hsn : ((d.size - k : Nat) : Int) = (d.size : Int) - k := by omega
        go_wp2_with fail
        go_loopw [3, 5] (fun kv k2v wr => ∃ (kk k2 : Nat) (dk : Array D32), kv = .int .i64 (kk : Int) ∧ k2v = .int .i64 (k2 : Int) ∧ 1 ≤ k2 ∧ k + k2 ≤ d.size ∧ Hid (CompInv d (k + k2) kk dk) ∧ CpS g dk R w wr) (fun _ k2v _ => d.size - (intOf k2v).toNat)
        case atStart => exact ⟨k, 1, d, rfl, rfl, Nat.le_refl _, by omega, HCI, HSu.out⟩
        case round =>
          obtain ⟨kk, k2, dk, rfl, rfl, hk21, hk2, HI, hS2⟩ := hrel
          have HS2 := Lib.hid hS2
          clear hS2
          have HDS := Lib.hid HI.out.size
          have hklt := HI.out.lt
          by_cases hlt2 : k + k2 < d.size
          · have hltI3 : (k2 : Int) < ((d.size - k : Nat) : Int) := by omega
            have hw3 : IntKind.i64.wrap ((k2 : Int) - 1) = ((k2 - 1 : Nat) : Int) := by rw [IntWalk.i64_in _ (by omega)]; omega
            have hltI4 : ((k2 - 1 : Nat) : Int) < ((d.size - k : Nat) : Int) := by omega
            obtain ⟨p, hp⟩ : ∃ p : D32, p = d[k + k2]! := ⟨_, rfl⟩
            obtain ⟨q, hq⟩ : ∃ q : D32, q = d[k + k2 - 1]! := ⟨_, rfl⟩
            have HP := Lib.hid hp
            have HQ := Lib.hid hq
            have HP2 := Lib.hid (show dk[k + k2]! = p by rw [hp]; exact HI.out.high _ (by omega))
            have HQ2 := Lib.hid (show dk[k + k2 - 1]! = q by rw [hq]; exact HI.out.high _ (by omega))
            clear hp hq
            have HCP := Lib.hid (fun u : Grw wr => (HS2.out.later u.prop).cells (i := k + k2) (by rw [HDS.out]; omega))
            have HCQ := Lib.hid (fun u : Grw wr => (HS2.out.later u.prop).cells (i := k + k2 - 1) (by rw [HDS.out]; omega))
            rw [HP2.out] at HCP
            rw [HQ2.out] at HCQ
            rw [show (k + k2) * 32 = k * 32 + k2 * 32 by omega] at HCP
            rw [show (k + k2 - 1) * 32 = k * 32 + (k2 - 1) * 32 by omega] at HCQ
            have HLP := Lib.hid (show (Try.prog.info? 47).map (·.size) = some (bv p.1).length by rw [bv_length, p.2]; exact infoD32)
            have HLQ := Lib.hid (show (Try.prog.info? 47).map (·.size) = some (bv q.1).length by rw [bv_length, q.2]; exact infoD32)
            have heq2 := fun w => run_equal_dig p.2 q.2 w
            go_wp2_with fail
            refine wp_region_grow (by kernel_rfl) (by kernel_rfl) ?_
            go_big_quiet_step (fail)
            go_big_quiet_step (fail)
            go_big_quiet_step (fail)
            refine quiet_load_any (by rfl) 47 (.tmp 37) rfl ⟨g, k * 32 + k2 * 32, none⟩ rfl (bv p.1) HCP.out _ Try.underlying47 rfl HLP.out ?_; go_simp
            go_big_quiet_step (fail)
            go_big_quiet_step (fail)
            go_big_quiet_step (fail)
            go_big_quiet_step (fail)
            refine quiet_load_any (by rfl) 47 (.tmp 42) rfl ⟨g, k * 32 + (k2 - 1) * 32, none⟩ rfl (bv q.1) HCQ.out _ Try.underlying47 rfl HLQ.out ?_; go_simp
            go_big_quiet_step (fail)
            refine wpQuiet_nil ?_
            first | (intro _ hw'; obtain ⟨u, hw''⟩ := hw'; subst hw'') | intro u
            have HSv := Lib.hid (HS2.out.later u.prop)
            by_cases hpq : p.1 = q.1
            · have hkp : keeps d (k + k2) = false := by
                unfold keeps
                rw [← HP.out, ← HQ.out]
                simp only [decide_eq_false_iff_not, not_or, Decidable.not_not]
                exact ⟨by omega, Subtype.ext hpq⟩
              have HIN := Lib.hid (HI.out.skip hkp)
              have hd : decide (p.1 = q.1) = true := decide_eq_true hpq
              rw [hd] at heq2 ⊢
              clear hd hpq hkp HCP HCQ
              go_wp2_with fail
              go_roundw
              case rel => exact ⟨kk, k2 + 1, dk, rfl, by go_num, by omega, by omega, HIN, HSv.out⟩
              case measure => simp [intOf] <;> omega
            · have hkp : keeps d (k + k2) = true := by
                unfold keeps
                rw [← HP.out, ← HQ.out]
                exact decide_eq_true (.inr (fun e => hpq (by rw [e])))
              have HIN := Lib.hid (HI.out.keep hlt2 hkp)
              rw [← HP.out] at HIN
              have hd : decide (p.1 = q.1) = false := decide_eq_false hpq
              have HPT := Lib.hid (HSv.out.put (i := kk) (by rw [HDS.out]; omega) p)
              have HPI := Lib.hid (show (Try.prog.info? 47).map (·.size) = some (bv p.1).toArray.size by rw [bv_size, p.2]; exact infoD32)
              have HFT := Lib.hid (show kk * 32 + (bv p.1).toArray.size ≤ (cpA dk R).size by rw [bv_size, p.2, cpA_size, HDS.out]; omega)
              have HCV := Lib.hid (HSv.out.cells (i := k + k2) (by rw [HDS.out]; omega))
              rw [HP2.out, show (k + k2) * 32 = k * 32 + k2 * 32 by omega] at HCV
              have hkI : (kk : Int) < (d.size : Int) := by omega
              rw [hd] at heq2 ⊢
              clear hd hpq hkp HCP HCQ
              go_wp2_with (first | (refine at_lod 47 (.tmp 49) rfl ?_; go_must (refine wpList_load_any (by rfl) 47 (.tmp 49) rfl ⟨g, k * 32 + k2 * 32, none⟩ rfl (bv p.1) _ HCV.out Try.underlying47 rfl HLP.out ?_)) | (refine at_sto 47 (.tmp 51) (.tmp 50) rfl ?_; go_must (refine wpList_store_over rfl 47 (.tmp 51) (.tmp 50) rfl g (kk * 32) (bv p.1).toArray rfl rfl 47 (cpA dk R) HSv.out.blk HFT.out HPI.out (bv_all p.1) ?_); rw [List.toList_toArray]; go_wp2_with fail))
              go_roundw
              case rel => exact ⟨kk + 1, k2 + 1, _, by go_num, by go_num, by omega, by omega, HIN, HPT.out⟩
              case measure => simp [intOf] <;> omega
          · have hltI3 : ¬ (k2 : Int) < ((d.size - k : Nat) : Int) := by omega
            have hke : k + k2 = d.size := by omega
            rw [hke] at HI hklt
            have hsl2 := fun w => run_restD (w := w) (g := g) (n := d.size) (c := c) (i := kk) (by omega) hcn
            have hsl3 := fun w => run_headD (w := w) (g := g) (n := d.size) (c := c) (i := kk) (by omega)
            have hzc := zero_cells (n := d.size - kk) (show (bv Cm.zero32).toArray.size = 32 from by rw [bv_size]; rfl) (bv_all _)
            have HFT := Lib.hid (show kk * 32 + (Builtin.zeroCells (bv Cm.zero32).toArray (d.size - kk)).toList.length ≤ (cpA dk R).size by rw [hzc.1, cpA_size, HDS.out]; omega)
            have hclr := fun ty => run_clear_blk (P := Try.prog) (w := wr) (ty := ty) (c := c - kk) Try.underlying29 (fun w => by rw [zero_lit]; exact Try.zeroValue47 w) hzc.2 (by omega) HS2.out.blk HFT.out
            obtain ⟨ZC, hZC⟩ : ∃ ZC, ZC = (Builtin.zeroCells (bv Cm.zero32).toArray (d.size - kk)).toList := ⟨_, rfl⟩
            rw [← hZC] at HFT hclr
            have HL := Lib.hid HI.out.len
            have HTK := Lib.hid (show (dl dk).take kk = vl (compactUpTo d d.size) from by
              apply List.ext_getElem?
              intro j
              unfold vl
              rw [List.getElem?_map]
              rcases Nat.lt_or_ge j kk with h | h
              · rw [List.getElem?_take_of_lt h, dl_at dk (by rw [HDS.out]; omega), HI.out.low j h]
                rfl
              · rw [List.getElem?_eq_none (by rw [List.length_take]; omega), List.getElem?_eq_none (by rw [HL.out]; omega)]
                rfl)
            have HCZ := Lib.hid (show (cpA dk R).size = c * 32 by rw [cpA_size, HDS.out, ← cpA_size d R]; exact HCS.out)
            clear hzc hZC
            go_wp2_with fail
            go_ret
            rw [HL.out]
            refine ⟨rfl, ⟨?_, .inr ⟨g, c, over (cpA dk R) (kk * 32) ZC, rfl, HBC.out.1, HS2.out.blk.row _, by omega, HBC.out.2, (over_sized HFT.out).trans HCZ.out, ?_⟩⟩, sole_row HS2.out.grown _⟩
            · rw [rows_len (k := 32) (fun s hs => by rw [bv_length]; unfold vl at hs; obtain ⟨x, -, rfl⟩ := List.mem_map.1 hs; exact x.2), vl_len, HL.out]
            · rw [over_take (by rw [HCZ.out]; omega), ← HTK.out, ← rows_take (dl_dig dk)]
              unfold cpA
              rw [List.toList_toArray, List.take_append_of_le_length (by rw [rows_len (k := 32) (fun s hs => by rw [bv_length]; exact dl_dig dk s hs), dl_len, HDS.out]; omega)]
      · have hkp : keeps d k = true := by
          unfold keeps
          rw [← HX.out, ← HY.out]
          exact decide_eq_true (.inr (fun e => hxy (by rw [e])))
        have hd : decide (x.1 = y.1) = false := decide_eq_false hxy
        rw [hd] at heq ⊢
        clear hd hxy HCA HCB
        go_wp2_with fail
        go_roundw
        case rel =>
          refine ⟨k + 1, by omega, by omega, by go_num, Lib.hid (fun j hj => ?_), HSu.out⟩
          rcases Nat.lt_or_ge j k with h | h
          · exact HA.out j h
          · obtain rfl : j = k := by omega
            exact hkp
        case measure => simp [intOf] <;> omega
    · have hltI : ¬ (k : Int) < (d.size : Int) := by omega
      obtain rfl : k = d.size := by omega
      have HCE := Lib.hid (show compactUpTo d d.size = d.toList by rw [Lib.compactUpTo_all d _ HA.out, Lib.range_map_get])
      have HCL := Lib.hid (show (compactUpTo d d.size).length = d.size by rw [HCE.out, Array.length_toList])
      go_wp2_with fail
      go_ret
      rw [HCL.out, HCE.out]
      refine ⟨rfl, ⟨?_, .inr ⟨g, c, cpA d R, rfl, HBC.out.1, HS.out.blk, hcn, HBC.out.2, HCS.out, ?_⟩⟩, HS.out.grown⟩
      · show (rows bv (dl d)).length = _
        rw [rows_len (k := 32) (fun s hs => by rw [bv_length]; exact dl_dig d s hs), dl_len]
      · unfold cpA
        rw [List.toList_toArray]
        have hrl := rows_len (cells := bv) (k := 32) (L := dl d) (fun s hs => by rw [bv_length]; exact dl_dig d s hs)
        rw [dl_len] at hrl
        rw [← hrl, List.take_left]
        rfl
end Go.Proofs.Ytjgegggcbjecbaa

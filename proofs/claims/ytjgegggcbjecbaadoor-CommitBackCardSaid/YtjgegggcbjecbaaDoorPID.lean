/- The contract of the document's Sum. · The program's ID, and the document's: the digest of a commit's bytes. -/
import Derived.Test.YtjgegggcbjecbaaDoorDigC
import Derived.Test.YtjgegggcbjecbaaDoorDigB
import Derived.Test.YtjgegggcbjecbaaDoorBox
import Derived.Test.YtjgegggcbjecbaaDoorREnc
namespace Go.Proofs.YtjgegggcbjecbaaDoor
open Go Go.RowKit

section
variable {P : Program}
theorem run_slice_between {t e : TypeId} (ht : P.underlying t = some (.slice e)) (hs : (P.info? e).map (·.size) = some 1) (A : Option Addr) (len cap l h : Nat) (hl : l ≤ h) (hh : h ≤ cap) (W : World) :
    (Instr.slice t (.slice A len cap) (some (.int .i64 (l : Int))) (some (.int .i64 (h : Int))) none).run P W = .ok (.slice (fromA A cap l) (h - l) (cap - l)) W := by
  have hel : P.elem t = e := by unfold Program.elem; rw [ht]
  cases hq : P.info? e with
  | none => simp [hq] at hs
  | some i =>
    have hi : i.size = 1 := by simpa [hq] using hs
    have hsz : (sizeOf e).run P W = .ok 1 W := by simp [sizeOf, typeInfo, hq, hi]
    rw [run_slice_lh W t A len cap (by rw [hel]; exact ht) .i64 .i64 (l : Int) (h : Int) (by omega) (by omega) (by omega), hel, hsz]
    simp only [Result.andThen_ok, sliced, Int.toNat_natCast, Nat.mul_one]
    rfl
end
theorem Rd.between {w : World} {B n cap l h : Nat} {A : Option Addr} {xs : List Value} (hr : Rd w B A n xs) (hl : l < h) (hh : h ≤ n) (hc : n ≤ cap) : Rd w B (fromA A cap l) (h - l) ((xs.drop l).take (h - l)) := by
  have hne : ¬ cap = l := by omega
  unfold fromA
  rw [if_neg hne]
  obtain ⟨ad, rfl, hd⟩ := hr.drop (k := l) (by omega)
  exact hd.take (by omega)

theorem uv_take (l : List Nat) (k : Nat) : uv (l.take k) = (uv l).take k := List.map_take

set_option maxRecDepth 100000 in
set_option maxHeartbeats 8000000 in
theorem rsum_any (bs : List UInt8) (A : Option Addr) (c : Nat) (w : World) (hr : Rd w w.heap.size A bs.length (bv bs)) (hl : bs.length ≤ 140737488351232) :
    Calls Tryd.prog 22 #[.slice A bs.length c] w fun e w' => e = .returned (.agg (bv (Sh.sum bs)).toArray) ∧ Below w.heap.size w w' := by
  obtain ⟨i0, hi, hz0, hz1, hz2⟩ := info_parts infoU32
  have HR := Lib.hid hr
  have hTL := Sh.whole_length bs
  have hTB := Sh.whole_blocks bs
  obtain ⟨T, hT⟩ : ∃ T, T = Sh.whole bs := ⟨_, rfl⟩
  rw [← hT] at hTL hTB
  have hzr : Sh.zeros bs.length < 64 := by unfold Sh.zeros; omega
  have hTb : T.length ≤ 140737488351400 := by omega
  obtain ⟨q, hq⟩ : ∃ q, q = T.length / 64 := ⟨_, rfl⟩
  rw [← hq] at hTB
  have HT := Lib.hid hT
  have HQ := Lib.hid hq
  have HTQ := Lib.hid hTB
  have hqb : q ≤ 140737488351400 := by omega
  clear hr hTL hzr hT hq hTB
  go_enter Tryd.func22, Tryd.ntmps22
  have hB0 : Below w.heap.size w (w.alloc (.cells (bz [] 32) 34)) := (Below.refl _ _).alloc (Nat.le_refl _) _
  have hZ0 : Blk (w.alloc (.cells (bz [] 32) 34)) w.heap.size 34 (bz [] 32) := Blk.new w _ _
  go_wp2_with fail
  go_loopw [3, 4] (fun v i wr => ∃ k : Nat, k ≤ 8 ∧ i = .int .i64 (k : Int) ∧ wr.ownsRow (w.heap.size + 1) 79 1 v k (uv (Sh.H.take k)) ∧ Blk wr w.heap.size 34 (bz [] 32) ∧ Below w.heap.size w wr ∧ w.heap.size < wr.heap.size) (fun _ i _ => 8 - (intOf i).toNat)
  case atStart => exact ⟨0, Nat.zero_le _, rfl, World.ownsRow_nil _ _ _ _, hZ0, hB0, by simp⟩
  case round =>
    obtain ⟨k, hk, rfl, ho, hZ, hb, hsz⟩ := hrel
    by_cases hlt : k < 8
    · have TW := Lib.hid (fun (s : ByteArray) (w : World) (hs : (List.range 8).map (fun i => Sh.wordOf 0 ((s.data.toList.drop (8 * i)).take 8)) = Sh.H) (hz : s.size = 8 * 8) => word_K s Sh.H 8 k w hs hz (by decide) hlt)
      have HX := Lib.hid (show uv (Sh.H.take (k + 1)) = uv (Sh.H.take k) ++ [Value.int .u32 (Sh.H.getD k 0 : Int)] by
        rw [List.take_succ_eq_append_getElem (show k < Sh.H.length from hlt), uv_append]
        congr 1
        rw [List.getD_eq_getElem?_getD, List.getElem?_eq_getElem (show k < Sh.H.length from hlt)]
        rfl)
      generalize Sh.H.getD k 0 = x at *
      go_wp2_with (first
        | (go_at_call 44; refine (TW.out _ _ (by kernel_rfl) (by kernel_rfl)).mono ?_; rintro e w' ⟨rfl, rfl⟩)
        | (at_builtin; go_must (refine wp_app' _ rfl (.tmp 13) (.tmp 16) 78 78 rfl (w.heap.size + 1) 79 i0 _ 4 Tryd.underlying78 hi hz0 hz1 hz2 rfl _ k (uv (Sh.H.take k)) rfl (ho.alloc _) _ 1 [Value.int .u32 (x : Int)] rfl (new_src Tryd.underlying78 wr [Value.int .u32 (x : Int)] 1 1 79 (0, 0) rfl (by intro u hu; simp at hu; subst hu; rfl)) (by unfold maxLen; omega) (by omega) (by simp; omega) ?_); intro v3 w3 ho3 hb3; rw [← HX.out] at ho3))
      go_roundw
      case rel => exact ⟨k + 1, by omega, by go_num, ho3, (hZ.alloc _).below hb3 (by omega), (hb.alloc (by omega) _).trans (hb3.mono (by omega)), by have := hb3.size; simp at this; omega⟩
      case measure => simp [intOf]; omega
    · obtain rfl : k = 8 := by omega
      rw [show Sh.H.take 8 = Sh.H from rfl] at ho
      obtain ⟨As, cs, rfl, hcs, hcm, -⟩ := own_form ho
      have hRS := Rd.of_own ho
      have WH := Lib.hid (whole_any A c bs wr ((HR.out.below hb).more hb.size) hl)
      rw [← HT.out] at WH
      clear hk hlt ho
      rw [show ((8 : Nat) : Int) = 8 from rfl]
      go_wp2_with fail
      refine WH.out.mono ?_; rintro e w1 ⟨Aw, cw, rfl, ⟨hcw1, hcw2⟩, hRW, hb1⟩
      have hRS := hRS.later hb1
      have hZ := hZ.later hb1
      have hsz := Nat.lt_of_lt_of_le hsz hb1.size
      have hb := hb.trans (hb1.mono hb.size)
      clear hb1 WH hZ0 hB0
      go_wp2_with fail
      go_loopw [3, 6] (fun v i wr => ∃ (j : Nat) (As : Option Addr) (cs : Nat), j ≤ q ∧ i = .int .i64 (64 * (j : Int)) ∧ v = .slice As 8 cs ∧ Hid (Rd wr wr.heap.size As 8 (uv (Sh.blocks T j))) ∧ Hid (Rd wr wr.heap.size Aw T.length (bv T)) ∧ Blk wr w.heap.size 34 (bz [] 32) ∧ Below w.heap.size w wr ∧ w.heap.size < wr.heap.size) (fun _ i _ => 64 * q - (intOf i).toNat)
      case atStart => exact ⟨0, As, cs, Nat.zero_le _, rfl, rfl, hRS, hRW, hZ, hb, hsz⟩
      case round =>
        obtain ⟨j, As, cs, hj, rfl, rfl, hRS, hRW, hZ, hb, hsz⟩ := hrel
        by_cases hlt : j < q
        · have hlt64 : 64 * (j : Int) < (T.length : Int) := by have := HTQ.out; omega
          have hle : 64 * j + 64 ≤ T.length := by have := HTQ.out; omega
          have e1 : (64 * (j : Int)) = ((64 * j : Nat) : Int) := by omega
          have e2 : (64 * (j : Int) + 64) = ((64 * j + 64 : Nat) : Int) := by omega
          have hsl : ∀ W : World, (Instr.slice 27 (.slice Aw T.length cw) (some (.int .i64 (64 * (j : Int)))) (some (.int .i64 (64 * (j : Int) + 64))) none).run Tryd.prog W = .ok (.slice (fromA Aw cw (64 * j)) 64 (cw - 64 * j)) W := fun W => by
            have := run_slice_between (P := Tryd.prog) Tryd.underlying27 dz_infoU81 Aw T.length cw (64 * j) (64 * j + 64) (by omega) (by omega) W
            rw [← e1, ← e2, show 64 * j + 64 - 64 * j = 64 by omega] at this
            exact this
          have hRb := hRW.out.between (l := 64 * j) (h := 64 * j + 64) (cap := cw) (by omega) (by omega) (by omega)
          rw [show 64 * j + 64 - 64 * j = 64 by omega, ← bv_drop, ← bv_take] at hRb
          have MX := Lib.hid (mix_any As (fromA Aw cw (64 * j)) cs (cw - 64 * j) (Sh.blocks T j) ((T.drop (64 * j)).take 64) wr hRS.out hRb (Sh.blocks_ws T j))
          have HBS := Lib.hid (show Sh.mix (Sh.blocks T j) ((T.drop (64 * j)).take 64) = Sh.blocks T (j + 1) from rfl)
          rw [HBS.out] at MX
          have hj2 : 64 * (j : Int) ≤ 140737488351400 := by omega
          clear e1 e2 hRb
          go_wp2_with (go_at_call 46; refine MX.out.mono ?_; rintro e w2 ⟨A2, c2, rfl, hc2, hR2, hb2⟩; rw [Sh.blocks_length] at hR2)
          rw [Sh.blocks_length]
          go_roundw
          case rel => exact ⟨j + 1, A2, c2, by omega, by go_num, rfl, hR2, hRW.out.later hb2, hZ.later hb2, hb.trans (hb2.mono hb.size), Nat.lt_of_lt_of_le hsz hb2.size⟩
          case measure => simp [intOf]; omega
        · obtain rfl : j = q := by omega
          have hfin : Sh.sum bs = Sh.out (Sh.blocks T j) := by rw [HQ.out, HT.out]; rfl
          have hF8 := Sh.blocks_length T j
          have hFw := Sh.blocks_ws T j
          obtain ⟨F, hF⟩ : ∃ F, F = Sh.blocks T j := ⟨_, rfl⟩
          rw [← hF] at hfin hRS hF8 hFw
          have HFIN := Lib.hid hfin
          have hRS := hRS.out
          rw [← hF8] at hRS
          obtain ⟨ad, hA, -⟩ := hRS.wordAt (k := 0) (by omega)
          subst hA
          have HRS := Lib.hid hRS
          have HF8 := Lib.hid hF8
          have hnlt : ¬ 64 * (j : Int) < (T.length : Int) := by have := HTQ.out; omega
          have hj2 : 64 * (j : Int) ≤ 140737488351400 := by have := HTQ.out; omega
          clear hfin hRS hF8 hF hRW hj hlt
          go_wp2_with fail
          have hB1 := hb.alloc hb.size (.cells (bz [] 32) 34)
          obtain ⟨wo, rfl⟩ : ∃ wo : World, wo = wr := ⟨_, rfl⟩
          obtain ⟨G, hG⟩ : ∃ G, G = wo.heap.size := ⟨_, rfl⟩
          have hGw : w.heap.size < G := by omega
          have hBn := Blk.new wo 34 (bz [] 32)
          rw [← hG] at hBn HRS
          rw [← hG]
          have HG := Lib.hid hG
          clear hG
          go_loopw [8] (fun i wx => ∃ m : Nat, m ≤ 32 ∧ i = .int .i64 (m : Int) ∧ Blk wx G 34 (bz (outs F m) 32) ∧ Blk wx w.heap.size 34 (bz [] 32) ∧ Below w.heap.size w wx ∧ Hid (∀ p : Addr, p.block < G → wx.cell? p = wo.cell? p)) (fun i _ => 32 - (intOf i).toNat)
          case atStart => exact ⟨0, Nat.zero_le _, rfl, hBn, hZ.alloc _, hB1, fun p hp => World.cell?_alloc_lt wo _ p (by rw [← HG.out]; exact hp)⟩
          case round =>
            obtain ⟨m, hm, rfl, hD, hZx, hbx, HC⟩ := hrel
            by_cases hlm : m < 32
            · obtain ⟨jj, hjj⟩ : ∃ jj, jj = m / 4 := ⟨_, rfl⟩
              obtain ⟨_, hx, hcell⟩ := HRS.out.wordAt (k := m / 4) (by rw [HF8.out]; omega)
              cases hx
              have hblk := World.block_lt_of_cell? _ _ hcell
              have hblk2 : (ad.add (m / 4)).block < G := by rw [HG.out]; exact hblk
              have hc := (HC.out _ hblk2).trans hcell
              have hx := hFw.at (m / 4)
              have hv : IntKind.u8.wrap ((F.getD (m / 4) 0 : Int) / 2 ^ (24 - 8 * (m % 4))) = (Sh.outByte F m : Int) := by
                unfold Sh.outByte
                rw [IntKind.wrap_u8, Int.natCast_emod, Int.natCast_ediv, Int.natCast_pow]; rfl
              have hset := outs_set F hlm
              have HSET := Lib.hid hset
              have hsz := bz_size (l := outs F m) (n := 32) (by rw [outs_length]; omega)
              have HSZ := Lib.hid hsz
              generalize F.getD (m / 4) 0 = x at *
              generalize Sh.outByte F m = y at *
              clear hset hsz hcell
              rw [block_add] at hblk2
              clear hblk
              go_wp2_with (refine at_sto 5 (.tmp 50) (.tmp 49) rfl ?_; go_must (refine wpList_store_blk rfl 5 (.tmp 50) (.tmp 49) rfl G m (.int .u8 (y : Int)) rfl rfl _ _ hD (by rw [HSZ.out]; omega) rfl (by kernel_rfl) ?_; intro wq hq hkq hsq hbq; rw [HSET.out] at hq))
              go_roundw
              case rel => exact ⟨m + 1, by omega, by go_num, hq, hZx.other hkq (by omega), hbq _ _ (by omega) hbx, fun p hp => (World.cell?_of_block (hkq p.block (by omega))).trans (HC.out p hp)⟩
              case measure => simp [intOf]; omega
            · obtain rfl : m = 32 := by omega
              rw [show outs F 32 = Sh.out F from rfl, bz_full (by rw [← outs_all, outs_length])] at hD
              have hz := dz_bv_size (Sh.out F)
              rw [← outs_all, outs_length, outs_all] at hz
              have HZ := Lib.hid hz
              have hz2 : (bz [] 32).size = 32 := bz_size (by decide)
              have HZ2 := Lib.hid hz2
              have HA := Lib.hid (dz_bv_all (Sh.out F))
              clear hz hz2 hlm hm
              rw [show ((32 : Nat) : Int) = 32 from rfl]
              go_wp2_with (first
                | (refine at_lod 34 (.tmp 7) rfl ?_; go_must (refine wpList_load_row rfl 34 (.tmp 7) rfl _ rfl _ _ _ _ hD Tryd.underlying34 rfl (by rw [HZ.out]; exact dz_infoD32) ?_))
                | (refine at_sto 34 (.tmp 2) (.tmp 51) rfl ?_; go_must (refine wpList_store_row rfl 34 (.tmp 2) (.tmp 51) rfl _ (bv (Sh.out F)).toArray rfl rfl _ _ hZx (by rw [HZ.out]; exact dz_infoD32) (by rw [HZ.out, HZ2.out]) HA.out ?_)))
              exact bodyPost_ret (v := .agg (bv (Sh.out F)).toArray) (results_cell_row rfl _ _ w.heap.size _ _ _ _ rfl (hZx.row _) Tryd.underlying34 rfl (by rw [HZ.out]; exact dz_infoD32)) rfl ⟨by rw [HFIN.out], below_setRow hbx (Nat.le_refl _) _⟩
end Go.Proofs.YtjgegggcbjecbaaDoor

namespace Go.Proofs.YtjgegggcbjecbaaDoor
open Go Go.RowKit

theorem out_length (s : List Nat) : (Sh.out s).length = 32 := by rw [← outs_all, outs_length]
theorem sum_length (l : List UInt8) : (Sh.sum l).length = 32 := out_length _
/-- The digest that ID tells. -/
def idB (m : Cm.Cm) : List UInt8 := if Cm.may Tx.less m = 0 then Sh.sum (Cm.encC m) else Cm.zero32
theorem idB_len (m : Cm.Cm) : (idB m).length = 32 := by
  unfold idB
  split
  · exact sum_length _
  · rfl
/-- '[]byte(s)': the bytes, in new memory. -/
theorem conv_bytes (w : World) (K : List UInt8) : ∃ c w', (convert 9 27 (.string (sB K))).run Tryd.prog w = .ok (.slice (some ⟨w.heap.size, 0, none⟩) K.length c) w' ∧ Rd w' w'.heap.size (some ⟨w.heap.size, 0, none⟩) K.length (bv K) ∧ Below w.heap.size w w' := by
  have h := run_bytes_of_string (P := Tryd.prog) w 9 27 5 (sB K) Tryd.underlying9 Tryd.underlying27 Tryd.underlying5
  rw [sB_size] at h
  refine ⟨_, _, h, ⟨bv_length K, fun _ => ⟨_, rfl, by simp, fun j u hu => ?_⟩⟩, (Below.refl _ _).drew.alloc (Nat.le_refl _) _⟩
  have hj := (List.getElem?_eq_some_iff.1 hu).1
  rw [bv_length] at hj
  rw [Addr.add_lit, Nat.zero_add]
  refine (show _ = _ from cell_of_row (w.drew.alloc _) w.heap.size j _ _ _ (heap_alloc_new w.drew _)).trans ?_
  unfold bytesRow
  rw [Array.getElem?_append_left (by rw [Array.size_map]; exact (by rw [show (sB K).data.size = (sB K).size from rfl, sB_size]; exact hj))]
  unfold bv at hu
  rw [List.getElem?_map] at hu
  rw [Array.getElem?_map, show (sB K).data = K.toArray from rfl, List.getElem?_toArray]
  exact hu

set_option maxRecDepth 100000 in
set_option maxHeartbeats 4000000 in
theorem pid_any (m : Cm.Cm) (v : Value) (A B : Option Addr) (c d : Nat) (w : World) (hI : InCm w v A c B d m) (hk : KT w) (hm : CmLim m) :
    Calls Tryd.prog 8 #[v] w fun e w' => e = .returned (.tuple #[.agg (bv (idB m)).toArray, .int .i64 (Cm.may Tx.less m : Int)]) ∧ Below w.heap.size w w' := by
  obtain ⟨l1, l2, l3, l4⟩ := hm
  have hOK := fun h => hI.ok h
  have ⟨hv, _⟩ := hI
  obtain ⟨X, hX⟩ : ∃ X, X = (#[.slice A m.parents.length c, .string (sB m.author), .string (sB m.note), .slice B m.ops.length d] : Array Value) := ⟨_, rfl⟩
  rw [← hX] at hv
  subst hv
  have hzl := zero_lit
  obtain ⟨Z, hZ⟩ : ∃ Z, Z = (bv Cm.zero32).toArray := ⟨_, rfl⟩
  have HZS := Lib.hid (show Z.size = 32 by rw [hZ, bv_size]; rfl)
  have HZI := Lib.hid (show (Tryd.prog.info? 34).map (·.size) = some Z.size by rw [HZS.out]; exact infoD32)
  have HZA := Lib.hid (show Z.all (·.oneCell') = true by rw [hZ]; exact bv_all _)
  have HZE := Lib.hid hZ
  have hzl2 := (hZ.trans hzl).symm
  have HXI := Lib.hid (show (Tryd.prog.info? 25).map (·.size) = some X.size by rw [hX]; exact infoC4)
  obtain ⟨wa, hwa⟩ : ∃ y, y = w.alloc (.cells X 25) := ⟨_, rfl⟩
  obtain ⟨wb, hwb⟩ : ∃ y, y = wa.alloc (.cells Z 34) := ⟨_, rfl⟩
  have hsa : wa.heap.size = w.heap.size + 1 := by rw [hwa]; simp
  have HKX := Lib.hid (show Blk wb w.heap.size 25 X by rw [hwb, hwa]; exact (Blk.new w _ _).alloc _)
  have HKZ := Lib.hid (show Blk wb (w.heap.size + 1) 34 Z by rw [hwb, ← hsa]; exact Blk.new wa _ _)
  have HBW := Lib.hid (show Below w.heap.size w wb by rw [hwb, hwa]; exact (below_alloc w _).alloc (by simp) _)
  have HK := Lib.hid (hk.later HBW.out)
  have C1 := Lib.hid (pencode_any m _ A B c d wb (hI.later HBW.out) (by omega) (by omega) (by omega) (by omega))
  unfold EncO at C1
  rw [hwa] at hwb
  replace hwb := hwb.symm
  clear hX hI hk hZ hzl hwa
  by_cases h0 : Cm.may Tx.less m = 0
  · have hlen := Cm.encC_len (hOK h0)
    have hE : encB m = Cm.encC m := by unfold encB; rw [if_pos h0]
    have hD : idB m = Sh.sum (Cm.encC m) := by unfold idB; rw [if_pos h0]
    rw [hE, h0] at C1
    rw [hD, h0]
    obtain ⟨K, hK⟩ : ∃ K, K = Cm.encC m := ⟨_, rfl⟩
    rw [← hK] at C1 hlen ⊢
    have HS := Lib.hid (fun A c w hk hr hc => psum_any K A c w hk hr hc (by omega))
    obtain ⟨D, hDD⟩ : ∃ D, D = (bv (Sh.sum K)).toArray := ⟨_, rfl⟩
    have HDS := Lib.hid (show D.size = 32 by rw [hDD, bv_size]; exact sum_length K)
    have HDI := Lib.hid (show (Tryd.prog.info? 34).map (·.size) = some D.size by rw [HDS.out]; exact infoD32)
    have HDA := Lib.hid (show D.all (·.oneCell') = true by rw [hDD]; exact bv_all _)
    rw [← hDD] at HS ⊢
    clear hE hD hK hDD h0 hOK
    go_enter Tryd.func8, Tryd.ntmps8
    go_wp2_with (refine at_lod 25 (.tmp 1) rfl ?_; go_must (refine wpList_load_boxed (by rfl) 25 (.tmp 1) rfl w.heap.size rfl X HKX.out _ Tryd.underlying25 rfl HXI.out ?_); go_wp2_with fail)
    refine C1.out.mono ?_; rintro e w1 ⟨A1, c1, rfl, hc1, ho1, hb1⟩
    have HB1 := Lib.hid (HBW.out.trans (hb1.mono HBW.out.size))
    have HZ1 := Lib.hid (HKZ.out.later hb1)
    have C2 := Lib.hid (HS.out A1 c1 w1 (HK.out.later hb1) (Rd.of_own ho1) hc1)
    clear ho1 hb1 hc1 C1
    go_wp2_with fail
    refine C2.out.mono ?_; rintro e w2 ⟨rfl, hb2⟩
    have HB2 := Lib.hid (HB1.out.trans (hb2.mono HB1.out.size))
    have HZ2 := Lib.hid (HZ1.out.later hb2)
    clear hb2 C2
    go_wp2_with (refine at_sto 34 (.tmp 2) (.tmp 16) rfl ?_; go_must (refine wpList_store_row rfl 34 (.tmp 2) (.tmp 16) rfl (w.heap.size + 1) D rfl rfl _ Z HZ2.out HDI.out (by rw [HZS.out, HDS.out]) HDA.out ?_); go_wp2_with fail)
    exact bodyPost_ret (v := .tuple #[.agg D, .int .i64 0]) (results_row_tmp rfl _ _ (w.heap.size + 1) _ _ _ _ rfl (HZ2.out.row _) Tryd.underlying34 rfl HDI.out (.int .i64 0) rfl) rfl ⟨rfl, below_row HB2.out (by omega) _⟩
  · obtain ⟨k, hk⟩ : ∃ k, k = Cm.may Tx.less m := ⟨_, rfl⟩
    have hE : encB m = [] := by unfold encB; rw [if_neg h0]
    have hD : idB m = Cm.zero32 := by unfold idB; rw [if_neg h0]
    have hbe : ((k : Int) != 0) = true := by rw [bne_iff_ne]; omega
    rw [hE, ← hk] at C1
    rw [hD, ← hk, ← HZE.out]
    clear hE hk h0 hOK hD
    go_enter Tryd.func8, Tryd.ntmps8
    go_wp2_with (refine at_lod 25 (.tmp 1) rfl ?_; go_must (refine wpList_load_boxed (by rfl) 25 (.tmp 1) rfl w.heap.size rfl X HKX.out _ Tryd.underlying25 rfl HXI.out ?_); go_wp2_with fail)
    refine C1.out.mono ?_; rintro e w1 ⟨A1, c1, rfl, hc1, ho1, hb1⟩
    have HB1 := Lib.hid (HBW.out.trans (hb1.mono HBW.out.size))
    have HZ1 := Lib.hid (HKZ.out.later hb1)
    clear ho1 hb1 hc1 C1
    go_wp2_with (refine at_sto 34 (.tmp 2) (.tmp 13) rfl ?_; go_must (refine wpList_store_row rfl 34 (.tmp 2) (.tmp 13) rfl (w.heap.size + 1) Z rfl rfl _ Z HZ1.out HZI.out rfl HZA.out ?_); go_wp2_with fail)
    exact bodyPost_ret (v := .tuple #[.agg Z, .int .i64 (k : Int)]) (results_row_tmp rfl _ _ (w.heap.size + 1) _ _ _ _ rfl (HZ1.out.row _) Tryd.underlying34 rfl HZI.out (.int .i64 (k : Int)) rfl) rfl ⟨rfl, below_row HB1.out (by omega) _⟩
set_option maxRecDepth 100000 in
set_option maxHeartbeats 4000000 in
theorem rid_any (m : Cm.Cm) (v : Value) (A B : Option Addr) (c d : Nat) (w : World) (hI : InCm w v A c B d m) (hm : CmLim m) :
    Calls Tryd.prog 9 #[v] w fun e w' => e = .returned (.tuple #[.agg (bv (idB m)).toArray, .int .i64 (Cm.may Tx.less m : Int)]) ∧ Below w.heap.size w w' := by
  obtain ⟨l1, l2, l3, l4⟩ := hm
  have hOK := fun h => hI.ok h
  have ⟨hv, _⟩ := hI
  obtain ⟨X, hX⟩ : ∃ X, X = (#[.slice A m.parents.length c, .string (sB m.author), .string (sB m.note), .slice B m.ops.length d] : Array Value) := ⟨_, rfl⟩
  rw [← hX] at hv
  subst hv
  have hzl := zero_lit
  obtain ⟨Z, hZ⟩ : ∃ Z, Z = (bv Cm.zero32).toArray := ⟨_, rfl⟩
  have HZS := Lib.hid (show Z.size = 32 by rw [hZ, bv_size]; rfl)
  have HZI := Lib.hid (show (Tryd.prog.info? 34).map (·.size) = some Z.size by rw [HZS.out]; exact infoD32)
  have HZA := Lib.hid (show Z.all (·.oneCell') = true by rw [hZ]; exact bv_all _)
  have HZE := Lib.hid hZ
  have hzl2 := (hZ.trans hzl).symm
  have HXI := Lib.hid (show (Tryd.prog.info? 25).map (·.size) = some X.size by rw [hX]; exact infoC4)
  obtain ⟨wa, hwa⟩ : ∃ y, y = w.alloc (.cells X 25) := ⟨_, rfl⟩
  obtain ⟨wb, hwb⟩ : ∃ y, y = wa.alloc (.cells Z 34) := ⟨_, rfl⟩
  have hsa : wa.heap.size = w.heap.size + 1 := by rw [hwa]; simp
  have HKX := Lib.hid (show Blk wb w.heap.size 25 X by rw [hwb, hwa]; exact (Blk.new w _ _).alloc _)
  have HKZ := Lib.hid (show Blk wb (w.heap.size + 1) 34 Z by rw [hwb, ← hsa]; exact Blk.new wa _ _)
  have HBW := Lib.hid (show Below w.heap.size w wb by rw [hwb, hwa]; exact (below_alloc w _).alloc (by simp) _)
  have C1 := Lib.hid (renc_any m _ A B c d wb (hI.later HBW.out) (by omega) (by omega) (by omega) (by omega))
  unfold encV at C1
  rw [hwa] at hwb
  replace hwb := hwb.symm
  clear hX hI hZ hzl hwa
  by_cases h0 : Cm.may Tx.less m = 0
  · have hlen := Cm.encC_len (hOK h0)
    have hD : idB m = Sh.sum (Cm.encC m) := by unfold idB; rw [if_pos h0]
    rw [if_pos h0, h0] at C1
    rw [hD, h0]
    obtain ⟨K, hK⟩ : ∃ K, K = Cm.encC m := ⟨_, rfl⟩
    rw [← hK] at C1 hlen ⊢
    have HS := Lib.hid (fun A c w hr => rsum_any K A c w hr (by omega))
    obtain ⟨D, hDD⟩ : ∃ D, D = (bv (Sh.sum K)).toArray := ⟨_, rfl⟩
    have HDS := Lib.hid (show D.size = 32 by rw [hDD, bv_size]; exact sum_length K)
    have HDI := Lib.hid (show (Tryd.prog.info? 34).map (·.size) = some D.size by rw [HDS.out]; exact infoD32)
    have HDA := Lib.hid (show D.all (·.oneCell') = true by rw [hDD]; exact bv_all _)
    rw [← hDD] at HS ⊢
    clear hD hK hDD h0 hOK
    go_enter Tryd.func9, Tryd.ntmps9
    go_wp2_with (refine at_lod 25 (.tmp 1) rfl ?_; go_must (refine wpList_load_boxed (by rfl) 25 (.tmp 1) rfl w.heap.size rfl X HKX.out _ Tryd.underlying25 rfl HXI.out ?_); go_wp2_with fail)
    refine C1.out.mono ?_; rintro e w1 ⟨rfl, hb1⟩
    have HB1 := Lib.hid (HBW.out.trans (hb1.mono HBW.out.size))
    have HZ1 := Lib.hid (HKZ.out.later hb1)
    obtain ⟨cx, wx, hcv, hrx, hbx⟩ := conv_bytes w1 K
    have C2 := Lib.hid (HS.out _ cx wx hrx)
    have HBX := Lib.hid (HB1.out.trans (hbx.mono HB1.out.size))
    have HZX := Lib.hid (HZ1.out.later hbx)
    clear hb1 C1 hrx hbx
    go_wp2_with fail
    refine C2.out.mono ?_; rintro e w2 ⟨rfl, hb2⟩
    have HB2 := Lib.hid (HBX.out.trans (hb2.mono HBX.out.size))
    have HZ2 := Lib.hid (HZX.out.later hb2)
    clear hb2 C2 hcv
    go_wp2_with (refine at_sto 34 (.tmp 2) (.tmp 17) rfl ?_; go_must (refine wpList_store_row rfl 34 (.tmp 2) (.tmp 17) rfl (w.heap.size + 1) D rfl rfl _ Z HZ2.out HDI.out (by rw [HZS.out, HDS.out]) HDA.out ?_); go_wp2_with fail)
    exact bodyPost_ret (v := .tuple #[.agg D, .int .i64 0]) (results_row_tmp rfl _ _ (w.heap.size + 1) _ _ _ _ rfl (HZ2.out.row _) Tryd.underlying34 rfl HDI.out (.int .i64 0) rfl) rfl ⟨rfl, below_row HB2.out (by omega) _⟩
  · obtain ⟨k, hk⟩ : ∃ k, k = Cm.may Tx.less m := ⟨_, rfl⟩
    have hD : idB m = Cm.zero32 := by unfold idB; rw [if_neg h0]
    have hbe : ((k : Int) != 0) = true := by rw [bne_iff_ne]; omega
    rw [if_neg h0, ← hk] at C1
    rw [hD, ← hk, ← HZE.out]
    clear hk h0 hOK hD
    go_enter Tryd.func9, Tryd.ntmps9
    go_wp2_with (refine at_lod 25 (.tmp 1) rfl ?_; go_must (refine wpList_load_boxed (by rfl) 25 (.tmp 1) rfl w.heap.size rfl X HKX.out _ Tryd.underlying25 rfl HXI.out ?_); go_wp2_with fail)
    refine C1.out.mono ?_; rintro e w1 ⟨rfl, hb1⟩
    have HB1 := Lib.hid (HBW.out.trans (hb1.mono HBW.out.size))
    have HZ1 := Lib.hid (HKZ.out.later hb1)
    clear hb1 C1
    go_wp2_with (refine at_sto 34 (.tmp 2) (.tmp 13) rfl ?_; go_must (refine wpList_store_row rfl 34 (.tmp 2) (.tmp 13) rfl (w.heap.size + 1) Z rfl rfl _ Z HZ1.out HZI.out rfl HZA.out ?_); go_wp2_with fail)
    exact bodyPost_ret (v := .tuple #[.agg Z, .int .i64 (k : Int)]) (results_row_tmp rfl _ _ (w.heap.size + 1) _ _ _ _ rfl (HZ1.out.row _) Tryd.underlying34 rfl HZI.out (.int .i64 (k : Int)) rfl) rfl ⟨rfl, below_row HB1.out (by omega) _⟩
end Go.Proofs.YtjgegggcbjecbaaDoor

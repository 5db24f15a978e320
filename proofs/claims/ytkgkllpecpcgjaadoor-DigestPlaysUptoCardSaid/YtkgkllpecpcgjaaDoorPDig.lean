/- The contract of the program's digest: a state's bytes. -/
import Derived.Test.YtkgkllpecpcgjaaDoorPNext
import Derived.Deep.Cut
import Derived.Deep.DeepMust
namespace Go.Proofs.YtkgkllpecpcgjaaDoor
open Go Go.RowKit

theorem infoD32 : (Tryd.prog.info? 24).map (·.size) = some 32 := by kernel_rfl

/-- Bytes so far, with noughts behind them, in a row of n. -/
def bz (l : List UInt8) (n : Nat) : Array Value := (bv (l ++ List.replicate (n - l.length) 0)).toArray
theorem bz_full {l : List UInt8} {n : Nat} (h : l.length = n) : bz l n = (bv l).toArray := by unfold bz; rw [h, Nat.sub_self, List.replicate_zero, List.append_nil]
theorem bz_size {l : List UInt8} {n : Nat} (h : l.length ≤ n) : (bz l n).size = n := by
  unfold bz; rw [bv_size, List.length_append, List.length_replicate]; omega
theorem bz_in {l : List UInt8} {n p : Nat} (hl : l.length ≤ p) (h : p < n) : (bz l n)[p]? = some (.int .u8 0) := by
  unfold bz
  rw [bv_at _ (by rw [List.length_append, List.length_replicate]; omega)]
  unfold Sh.byteAt
  rw [List.getD_eq_getElem?_getD, List.getElem?_append_right hl, List.getElem?_replicate, if_pos (by omega)]
  rfl
theorem bz_set {l : List UInt8} {n : Nat} (h : l.length < n) {x : Nat} (hx : x < 256) : (bz l n).setIfInBounds l.length (.int .u8 (x : Int)) = bz (l ++ [UInt8.ofNat x]) n := by
  unfold bz
  rw [bv_append, bv_append, bv_append, byte_cell hx, List.setIfInBounds_toArray, List.length_append, List.length_cons, List.length_nil]
  congr 1
  rw [show n - l.length = (n - (l.length + (0 + 1))) + 1 by omega, List.replicate_succ]
  rw [← bv_length l, List.set_append_right _ _ (Nat.le_refl _), Nat.sub_self]
  unfold bv
  simp

/-- The first so many bytes of a state. -/
def outs (s : List Nat) (m : Nat) : List UInt8 := (List.range m).map fun i => UInt8.ofNat (Sh.outByte s i)
theorem outs_length (s : List Nat) (m : Nat) : (outs s m).length = m := by unfold outs; rw [List.length_map, List.length_range]
theorem outs_succ (s : List Nat) (m : Nat) : outs s (m + 1) = outs s m ++ [UInt8.ofNat (Sh.outByte s m)] := by unfold outs; rw [List.range_succ, List.map_append]; rfl
theorem outs_all (s : List Nat) : outs s 32 = Sh.out s := rfl
theorem outByte_lt (s : List Nat) (i : Nat) : Sh.outByte s i < 256 := Nat.mod_lt _ (by decide)
theorem outs_set (s : List Nat) {m : Nat} (h : m < 32) : (bz (outs s m) 32).setIfInBounds m (.int .u8 (Sh.outByte s m : Int)) = bz (outs s (m + 1)) 32 := by
  have := bz_set (l := outs s m) (n := 32) (by rw [outs_length]; exact h) (outByte_lt s m)
  rw [outs_length] at this
  rw [this, outs_succ]

set_option maxRecDepth 100000 in
set_option maxHeartbeats 4000000 in
theorem digest_any (s : List Nat) (w : World) (hs : s.length = 8) (hws : Sh.Ws s) :
    Calls Tryd.prog 34 #[.agg (uv s).toArray] w fun e w' => e = .returned (.agg (bv (Sh.out s)).toArray) ∧ Below w.heap.size w w' := by
  have h8 := uv_size s
  rw [hs] at h8
  have H8 := Lib.hid h8
  have HAT := Lib.hid (fun (p : Nat) (h : p < 8) => uv_at' s (p := p) (by rw [hs]; exact h))
  clear hs h8
  obtain ⟨S, hS⟩ : ∃ S, S = (uv s).toArray := ⟨_, rfl⟩
  rw [← hS] at H8 HAT ⊢
  clear hS
  go_enter Tryd.func34, Tryd.ntmps34
  have s1 : (w.alloc (.cells S 48)).heap.size = w.heap.size + 1 := by simp
  have hS0 : Blk (w.alloc (.cells S 48)) w.heap.size 48 S := Blk.new w _ _
  have hW0 : Below w.heap.size w (w.alloc (.cells S 48)) := (Below.refl _ _).alloc (Nat.le_refl _) _
  have HSZ := Lib.hid s1
  clear s1
  go_wp2_with (refine wpList_load_row rfl 48 (.tmp 1) rfl _ rfl _ S _ _ ((hS0.alloc _).alloc _) Tryd.underlying48 rfl (by rw [H8.out]; exact infoS8) ?_)
  go_loopw [7] (fun i wr => ∃ k : Nat, k ≤ 8 ∧ i = .int .i64 (k : Int) ∧ Blk wr (w.heap.size + 1) 24 (bz [] 32) ∧ Blk wr (w.heap.size + 1 + 1) 24 (bz (outs s (4 * k)) 32) ∧ Below w.heap.size w wr) (fun i _ => 8 - (intOf i).toNat)
  case atStart =>
    have s2 : ((w.alloc (.cells S 48)).alloc (.cells (bz [] 32) 24)).heap.size = w.heap.size + 1 + 1 := by simp
    exact ⟨0, Nat.zero_le _, rfl, HSZ.out ▸ (Blk.new (w.alloc (.cells S 48)) _ (bz [] 32)).alloc _, s2 ▸ Blk.new ((w.alloc (.cells S 48)).alloc (.cells (bz [] 32) 24)) _ (bz [] 32), (hW0.alloc hW0.size _).alloc (by simp; omega) _⟩
  case round =>
    obtain ⟨k, hk, rfl, hgr, hgw, hbk⟩ := hrel
    by_cases hlt : k < 8
    · have hx := HAT.out k hlt
      have bx := hws.at k
      have hix := fun w : World => run_index_agg (P := Tryd.prog) Tryd.underlying48 Tryd.underlying46 (by kernel_rfl) S k _ hlt hx w
      clear hx
      have y0 : Sh.outByte s (4 * k) = s.getD k 0 / 16777216 % 256 := by unfold Sh.outByte; rw [show 4 * k / 4 = k by omega, show 4 * k % 4 = 0 by omega]
      have y1 : Sh.outByte s (4 * k + 1) = s.getD k 0 / 65536 % 256 := by unfold Sh.outByte; rw [show (4 * k + 1) / 4 = k by omega, show (4 * k + 1) % 4 = 1 by omega]
      have y2 : Sh.outByte s (4 * k + 2) = s.getD k 0 / 256 % 256 := by unfold Sh.outByte; rw [show (4 * k + 2) / 4 = k by omega, show (4 * k + 2) % 4 = 2 by omega]
      have y3 : Sh.outByte s (4 * k + 3) = s.getD k 0 % 256 := by unfold Sh.outByte; rw [show (4 * k + 3) / 4 = k by omega, show (4 * k + 3) % 4 = 3 by omega]; simp
      have u0 := outs_set s (m := 4 * k) (by omega)
      have u1 := outs_set s (m := 4 * k + 1) (by omega)
      have u2 := outs_set s (m := 4 * k + 2) (by omega)
      have u3 := outs_set s (m := 4 * k + 3) (by omega)
      generalize s.getD k 0 = x at *
      have hx256 : x / 16777216 < 256 := by omega
      have v0 : IntKind.u8.wrap ((x : Int) / 16777216) = (Sh.outByte s (4 * k) : Int) := by rw [IntKind.wrap_u8, y0]; omega
      have v1 : IntKind.u8.wrap ((x : Int) / 65536) = (Sh.outByte s (4 * k + 1) : Int) := by rw [IntKind.wrap_u8, y1]; omega
      have v2 : IntKind.u8.wrap ((x : Int) / 256) = (Sh.outByte s (4 * k + 2) : Int) := by rw [IntKind.wrap_u8, y2]; omega
      have v3 : IntKind.u8.wrap (x : Int) = (Sh.outByte s (4 * k + 3) : Int) := by rw [IntKind.wrap_u8, y3]; omega
      have U0 := Lib.hid u0
      have U1 := Lib.hid u1
      have U2 := Lib.hid u2
      have U3 := Lib.hid u3
      have z0 : ∀ m, m ≤ 32 → (bz (outs s m) 32).size = 32 := fun m h => bz_size (by rw [outs_length]; exact h)
      have Z0 := Lib.hid z0
      have V3 := Lib.hid v3
      have V0 := Lib.hid v0
      clear y0 y1 y2 y3 u0 u1 u2 u3 z0
      go_upto_region 5 with (fail)
      clear hix
      generalize Sh.outByte s (4 * k) = n0 at *
      generalize Sh.outByte s (4 * k + 1) = n1 at *
      generalize Sh.outByte s (4 * k + 2) = n2 at *
      generalize Sh.outByte s (4 * k + 3) = n3 at *
      go_wp2_with (first
        | (refine at_sto 5 (.tmp 33) (.tmp 24) rfl ?_; go_must (refine wpList_store_blk rfl 5 (.tmp 33) (.tmp 24) rfl _ (4 * k) (.int .u8 (n0 : Int)) rfl rfl _ _ hgw (by rw [Z0.out (4 * k) (by omega)]; omega) rfl (by kernel_rfl) ?_; intro wa hga hka hsa hba; rw [U0.out] at hga; have hgra := hgr.other hka (by omega); have hbka := hba _ _ (by omega) hbk))
        | (refine at_sto 5 (.tmp 34) (.tmp 27) rfl ?_; go_must (refine wpList_store_blk rfl 5 (.tmp 34) (.tmp 27) rfl _ (4 * k + 1) (.int .u8 (n1 : Int)) rfl rfl _ _ hga (by rw [Z0.out (4 * k + 1) (by omega)]; omega) rfl (by kernel_rfl) ?_; intro wb hgb hkb hsb hbb; rw [U1.out] at hgb; have hgrb := hgra.other hkb (by omega); have hbkb := hbb _ _ (by omega) hbka))
        | (refine at_sto 5 (.tmp 35) (.tmp 30) rfl ?_; go_must (refine wpList_store_blk rfl 5 (.tmp 35) (.tmp 30) rfl _ (4 * k + 2) (.int .u8 (n2 : Int)) rfl rfl _ _ hgb (by rw [Z0.out (4 * k + 2) (by omega)]; omega) rfl (by kernel_rfl) ?_; intro wc hgc hkc hsc hbc; rw [U2.out] at hgc; have hgrc := hgrb.other hkc (by omega); have hbkc := hbc _ _ (by omega) hbkb))
        | (refine at_sto 5 (.tmp 36) (.tmp 32) rfl ?_; go_must (refine wpList_store_blk rfl 5 (.tmp 36) (.tmp 32) rfl _ (4 * k + 3) (.int .u8 (n3 : Int)) rfl rfl _ _ hgc (by rw [Z0.out (4 * k + 3) (by omega)]; omega) rfl (by kernel_rfl) ?_; intro wd hgd hkd hsd hbd; rw [U3.out] at hgd; have hgrd := hgrc.other hkd (by omega); have hbkd := hbd _ _ (by omega) hbkc)))
      go_roundw
      case rel => exact ⟨k + 1, by omega, by go_num, hgrd, hgd, hbkd⟩
      case measure => simp [intOf]; omega
    · obtain rfl : k = 8 := by omega
      clear hk hlt
      rw [show outs s (4 * 8) = Sh.out s from rfl, bz_full (by rw [← outs_all, outs_length])] at hgw
      have hz := bv_size (Sh.out s)
      rw [← outs_all, outs_length, outs_all] at hz
      have HZ := Lib.hid hz
      have hz2 : (bz [] 32).size = 32 := bz_size (by decide)
      have HZ2 := Lib.hid hz2
      have HA := Lib.hid (bv_all (Sh.out s))
      clear hz hz2
      obtain ⟨C, hC⟩ : ∃ C, C = (bv (Sh.out s)).toArray := ⟨_, rfl⟩
      rw [← hC] at hgw HZ HA
      have HC := Lib.hid hC
      clear hC
      generalize bz [] 32 = Z at *
      go_wp2_with (first
        | (refine wpList_load_row rfl 24 (.tmp 3) rfl _ rfl _ C _ _ hgw Tryd.underlying24 rfl (by rw [HZ.out]; exact infoD32) ?_)
        | (refine wpList_store_row rfl 24 (.tmp 2) (.tmp 38) rfl _ C rfl rfl _ Z hgr (by rw [HZ.out]; exact infoD32) (by rw [HZ.out, HZ2.out]) HA.out ?_))
      exact bodyPost_ret (v := .agg C) (results_cell_row rfl _ _ (w.heap.size + 1) _ C _ _ rfl (hgr.row C) Tryd.underlying24 rfl (by rw [HZ.out]; exact infoD32)) rfl ⟨by rw [HC.out], below_setRow hbk (by omega) _⟩
end Go.Proofs.YtkgkllpecpcgjaaDoor

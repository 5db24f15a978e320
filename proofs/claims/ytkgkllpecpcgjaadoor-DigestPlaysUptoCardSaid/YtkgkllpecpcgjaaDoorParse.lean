/- The contracts of Parse, the program's and the document's. -/
import Derived.Test.YtkgkllpecpcgjaaDoorHex
import Derived.Test.YtkgkllpecpcgjaaDoorShelf
namespace Go.Proofs.YtkgkllpecpcgjaaDoor
open Go Go.RowKit

section
variable {P : Program}
/-- Two results: what lies in a variable that is a row, and one of one cell. -/
theorem results_row_tmp {fn : Func} {p t : Tmp} {ty : TypeId} (h : fn.results = #[.cell p ty, .tmp t]) (tmps : Array Value) (w : World) (g : Nat) (u : TypeId) (cs : Array Value) (fr : Nat × Nat) (d : TypeDesc)
    (hp : tmps.getD p undef = .pointer (some ⟨g, 0, none⟩)) (hg : w.heap[g]? = some (.cells cs u fr))
    (hu : P.underlying ty = some d) (hd : (match d with | .struct _ | .array _ _ => true | _ => false) = true) (hi : (P.info? ty).map (·.size) = some cs.size)
    (v : Value) (hv : tmps.getD t undef = v) : (results fn tmps).run P w = .ok (.tuple #[.agg cs, v]) w := by
  have hv' : tmps[t]?.getD undef = v := by simpa using hv
  have hp' : tmps[p]?.getD undef = .pointer (some ⟨g, 0, none⟩) := by simpa using hp
  simp [results, h, hp', hv', asAddr, run_loadVar_row w g u ty cs fr d hg hu hd hi]
end

/-- Bytes by their places. -/
def prow (f : Nat → Nat) (n : Nat) : Array Value := ((List.range n).map fun j => Value.int .u8 (f j : Int)).toArray
theorem prow_size (f : Nat → Nat) (n : Nat) : (prow f n).size = n := by unfold prow; simp
theorem prow_at (f : Nat → Nat) {n j : Nat} (h : j < n) : (prow f n)[j]? = some (.int .u8 (f j : Int)) := by
  unfold prow
  rw [List.getElem?_toArray, List.getElem?_map, List.getElem?_range h]; rfl
theorem prow_set (f g : Nat → Nat) (n m : Nat) (h : ∀ j, j ≠ m → g j = f j) : (prow f n).setIfInBounds m (.int .u8 (g m : Int)) = prow g n := by
  unfold prow
  rw [List.setIfInBounds_toArray]
  congr 1
  apply List.ext_getElem?
  intro j
  rw [List.getElem?_set]
  by_cases hj : j < n
  · by_cases hm : m = j
    · subst hm; simp [hj]
    · rw [if_neg hm]
      simp [hj, h j (fun e => hm e.symm)]
  · have hl : ∀ f' : Nat → Nat, ((List.range n).map fun i => Value.int .u8 (f' i : Int))[j]? = none := fun f' => List.getElem?_eq_none (by simp; omega)
    rw [hl g, hl f]
    split
    · rw [if_neg (by simp; omega)]
    · rfl
theorem prow_bv (f : Nat → Nat) (n : Nat) (h : ∀ j, j < n → f j < 256) : prow f n = (bv ((List.range n).map fun j => UInt8.ofNat (f j))).toArray := by
  unfold prow bv
  congr 1
  rw [List.map_map]
  refine List.map_congr_left fun j hj => ?_
  have := h j (List.mem_range.1 hj)
  simp only [Function.comp, UInt8.toNat_ofNat', Nat.mod_eq_of_lt this]
theorem prow_zero (s : List UInt8) : prow (Tx.pc s 0) 32 = bz [] 32 := by
  unfold prow bz
  rw [show (fun j => Value.int .u8 ((Tx.pc s 0 j : Nat) : Int)) = fun _ => Value.int .u8 0 from funext fun j => by rw [Tx.pc_zero]; rfl]
  rfl

theorem idx_digs : ∀ n : Nat, n < 256 → Lib.indexByte [48, 49, 50, 51, 52, 53, 54, 55, 56, 57, 97, 98, 99, 100, 101, 102] (UInt8.ofNat n) = if Sh.digit n < 16 then (Sh.digit n : Int) else -1 := by decide +kernel
theorem idx_any (x : UInt8) (w : World) : Calls Tryd.prog 29 #[.string ⟨#[48, 49, 50, 51, 52, 53, 54, 55, 56, 57, 97, 98, 99, 100, 101, 102]⟩, .int .u8 (x.toNat : Int)] w fun e w' =>
    e = .returned (.int .i64 (if Sh.digit x.toNat < 16 then (Sh.digit x.toNat : Int) else -1)) ∧ w = w' := by
  refine (Tryd.strings_IndexByte _ _ w).mono ?_
  rintro e w' ⟨rfl, rfl⟩
  refine ⟨?_, rfl⟩
  rw [← idx_digs x.toNat x.toNat_lt, Int.toNat_natCast]

theorem or_low {a b : Nat} (ha : a < 16) (hb : b < 16) : bits .or .u8 ((a * 16 : Nat) : Int) (b : Int) = ((a * 16 + b : Nat) : Int) := by
  rw [u8_or_nat _ _ (by omega) (by omega)]
  have := Nat.two_pow_add_eq_or_of_lt (i := 4) (b := b) (by omega) a
  rw [Nat.mul_comm] at this
  rw [← this]

theorem str_at {s : ByteArray} {k : Nat} (h : k < s.size) : s[k]? = some (s.data.toList.getD k 0) := by
  have hl : k < s.data.toList.length := by rw [Array.length_toList]; exact h
  rw [List.getD_eq_getElem?_getD, List.getElem?_eq_getElem hl]
  rw [getElem?_pos s k h]
  rfl

/-- What Parse hands back. -/
def ParseV (s : List UInt8) : Value := .tuple #[.agg (bv (Tx.parse s).1).toArray, .bool (Tx.parse s).2]
theorem parseV_no {s : List UInt8} (h : ¬ Tx.fine s) : ParseV s = .tuple #[.agg (bz [] 32), .bool false] := by
  unfold ParseV Tx.parse; rw [if_neg h]; rfl
theorem parseV_yes {s : List UInt8} (h : Tx.fine s) : ParseV s = .tuple #[.agg (prow (Tx.pc s 64) 32), .bool true] := by
  unfold ParseV Tx.parse; rw [if_pos h, prow_bv _ _ (fun j _ => Tx.pc_lt s h.2 j)]; rfl

set_option maxRecDepth 100000 in
set_option maxHeartbeats 4000000 in
theorem pparse_any (s : ByteArray) (w : World) :
    Calls Tryd.prog 16 #[.string s] w fun e w' => e = .returned (ParseV s.data.toList) ∧ Below w.heap.size w w' := by
  have hz2 : (bz [] 32).size = 32 := bz_size (by decide)
  have HZ2 := Lib.hid hz2
  have hR0 : Blk (w.alloc (.cells (bz [] 32) 24)) w.heap.size 24 (bz [] 32) := Blk.new w _ _
  have hs1 : (w.alloc (.cells (bz [] 32) 24)).heap.size = w.heap.size + 1 := by simp
  have hB0 : Below w.heap.size w (w.alloc (.cells (bz [] 32) 24)) := (Below.refl _ _).alloc (Nat.le_refl _) _
  have hD0 := Blk.new (w.alloc (.cells (bz [] 32) 24)) 24 (bz [] 32)
  rw [hs1] at hD0
  have hR1 := hR0.alloc (.cells (bz [] 32) 24)
  have hB1 := hB0.alloc hB0.size (.cells (bz [] 32) 24)
  clear hR0 hB0 hs1 hz2
  by_cases h64 : s.size = 64
  · have hq : ((s.size : Int) != 64) = false := by rw [bne_eq_false_iff_eq]; omega
    have H64 := Lib.hid h64
    clear h64
    go_enter Tryd.func16, Tryd.ntmps16
    go_wp2_with fail
    have hD1 : Blk ((w.alloc (.cells (bz [] 32) 24)).alloc (.cells (bz [] 32) 24)) (w.heap.size + 1) 24 (prow (Tx.pc s.data.toList 0) 32) := by rw [prow_zero]; exact hD0
    clear hD0
    have hF0 : Tx.good s.data.toList 0 := fun k hk => absurd hk (Nat.not_lt_zero _)
    go_loopw [13] (fun i wr => ∃ k : Nat, k ≤ 64 ∧ i = .int .i64 (k : Int) ∧ Hid (Tx.good s.data.toList k) ∧ Blk wr w.heap.size 24 (bz [] 32) ∧ Blk wr (w.heap.size + 1) 24 (prow (Tx.pc s.data.toList k) 32) ∧ Below w.heap.size w wr) (fun i _ => 64 - (intOf i).toNat)
    case atStart => exact ⟨0, Nat.zero_le _, rfl, hF0, hR1, hD1, hB1⟩
    case round =>
      obtain ⟨k, hk, rfl, HG, hR, hD, hb⟩ := hrel
      by_cases hlt : k < 64
      · have hin : k < s.size := by rw [H64.out]; exact hlt
        have hkI : (k : Int) < (s.size : Int) := by omega
        have hix := run_index_str (P := Tryd.prog) Tryd.underlying9 s .i64 k _ (str_at hin)
        have hdl := Tx.dg_le s.data.toList k
        have IX := Lib.hid (fun W => idx_any (s.data.toList.getD k 0) W)
        have hpi : ∀ h : Tx.dg s.data.toList k < 16, Tx.good s.data.toList (k + 1) := fun h j hj => by
          by_cases e : j = k
          · subst e; exact h
          · exact HG.out j (by omega)
        have HPI := Lib.hid hpi
        have HDG := Lib.hid (show Tx.dg s.data.toList k = Sh.digit (s.data.toList.getD k 0).toNat from rfl)
        clear hpi
        by_cases hd : Tx.dg s.data.toList k < 16
        · rw [← HDG.out] at IX
          have hG1 := HPI.out hd
          obtain ⟨hp1, hp2⟩ := Tx.pc_here s.data.toList hG1
          have hset := prow_set (Tx.pc s.data.toList k) (Tx.pc s.data.toList (k + 1)) 32 (k / 2) (fun j hj => Tx.pc_other s.data.toList hj)
          have HSET := Lib.hid hset
          have hcell := (hD.cell (k / 2)).trans (prow_at (Tx.pc s.data.toList k) (n := 32) (j := k / 2) (by omega))
          have HP1 := Lib.hid hp1
          generalize Tx.dg s.data.toList k = g at *
          have hgif : (if g < 16 then (g : Int) else -1) = (g : Int) := if_pos hd
          rw [hgif] at IX
          generalize s.data.toList.getD k 0 = x at *
          generalize Tx.pc s.data.toList k (k / 2) = y at *
          have hor := or_low hp2 hd
          obtain ⟨yy, hyy⟩ : ∃ yy, yy = y * 16 := ⟨_, rfl⟩
          have hw1 : IntKind.u8.wrap ((y : Int) * 16) = (yy : Int) := by rw [IntKind.wrap_u8]; omega
          have hw2 : IntKind.u8.wrap (g : Int) = (g : Int) := by rw [IntKind.wrap_u8]; omega
          have HV := Lib.hid (show yy + g = Tx.pc s.data.toList (k + 1) (k / 2) by rw [HP1.out]; omega)
          have hg0 : 0 ≤ (g : Int) := by omega
          rw [← hyy] at hor
          clear hset hp1 hgif hyy
          generalize yy + g = v at *
          go_wp2_with fail
          refine (IX.out _).mono ?_; rintro e w' ⟨rfl, rfl⟩
          go_wp2_with (refine at_sto 5 (.tmp 33) (.tmp 32) rfl ?_; go_must (refine wpList_store_blk rfl 5 (.tmp 33) (.tmp 32) rfl (w.heap.size + 1) (k / 2) (.int .u8 (v : Int)) rfl rfl _ _ hD (by rw [prow_size]; omega) rfl (by kernel_rfl) ?_; intro wq hq hkq hsq hbq; rw [HV.out, HSET.out] at hq))
          go_roundw
          case rel => exact ⟨k + 1, by omega, by go_num, hG1, hR.other hkq (by omega), hq, hbq _ _ (by omega) hb⟩
          case measure => simp [intOf]; omega
        · have hnf : ¬ Tx.fine s.data.toList := fun h => hd (h.2 k hlt)
          have hgif : (if Sh.digit (s.data.toList.getD k 0).toNat < 16 then (Sh.digit (s.data.toList.getD k 0).toNat : Int) else -1) = -1 := if_neg (by rw [← HDG.out]; exact hd)
          rw [hgif] at IX
          have HPV := Lib.hid (parseV_no hnf)
          clear hgif hd hnf
          generalize s.data.toList.getD k 0 = x at *
          go_wp2_with fail
          refine (IX.out _).mono ?_; rintro e w' ⟨rfl, rfl⟩
          go_wp2_with (first
            | (refine at_dst 22 rfl ?_; go_must (refine wpList_build_as rfl 24 _ rfl [] rfl (bz [] 32) (by kernel_rfl) ?_))
            | (refine at_sto 24 (.tmp 2) (.tmp 22) rfl ?_; go_must (refine wpList_store_row rfl 24 (.tmp 2) (.tmp 22) rfl _ (bz [] 32) rfl rfl _ _ hR (by rw [HZ2.out]; exact infoD32) rfl (bv_all _) ?_)))
          exact bodyPost_ret (v := .tuple #[.agg (bz [] 32), .bool false]) (results_row_tmp rfl _ _ w.heap.size _ _ _ _ rfl (hR.row _) Tryd.underlying24 rfl (by rw [HZ2.out]; exact infoD32) _ rfl) rfl ⟨by rw [HPV.out], below_setRow hb (Nat.le_refl _) _⟩
      · obtain rfl : k = 64 := by omega
        have hf : Tx.fine s.data.toList := ⟨by rw [Array.length_toList]; exact H64.out, HG.out⟩
        have HPV := Lib.hid (parseV_yes hf)
        have hps := prow_size (Tx.pc s.data.toList 64) 32
        have HPS := Lib.hid hps
        have HPA := Lib.hid (show (prow (Tx.pc s.data.toList 64) 32).all (·.oneCell') = true by rw [prow_bv _ _ (fun j _ => Tx.pc_lt _ hf.2 j)]; exact bv_all _)
        have hnl : ¬ (64 : Int) < (s.size : Int) := by have := H64.out; omega
        clear hlt hk hps hf
        generalize prow (Tx.pc s.data.toList 64) 32 = R at *
        rw [show ((64 : Nat) : Int) = 64 from rfl]
        go_wp2_with (first
          | (refine at_lod 24 (.tmp 4) rfl ?_; go_must (refine wpList_load_row rfl 24 (.tmp 4) rfl _ rfl _ _ _ _ hD Tryd.underlying24 rfl (by rw [HPS.out]; exact infoD32) ?_))
          | (refine at_sto 24 (.tmp 2) (.tmp 35) rfl ?_; go_must (refine wpList_store_row rfl 24 (.tmp 2) (.tmp 35) rfl _ R rfl rfl _ _ hR (by rw [HPS.out]; exact infoD32) (by rw [HPS.out, HZ2.out]) HPA.out ?_)))
        exact bodyPost_ret (v := .tuple #[.agg R, .bool true]) (results_row_tmp rfl _ _ w.heap.size _ _ _ _ rfl (hR.row _) Tryd.underlying24 rfl (by rw [HPS.out]; exact infoD32) _ rfl) rfl ⟨by rw [HPV.out], below_setRow hb (Nat.le_refl _) _⟩
  · have hq : ((s.size : Int) != 64) = true := by rw [bne_iff_ne]; omega
    have hnf : ¬ Tx.fine s.data.toList := fun h => h64 (by have := h.1; rwa [Array.length_toList] at this)
    rw [parseV_no hnf]
    clear hnf h64
    go_enter Tryd.func16, Tryd.ntmps16
    go_wp2_with (first
      | (refine at_dst 10 rfl ?_; go_must (refine wpList_build_as rfl 24 _ rfl [] rfl (bz [] 32) (by kernel_rfl) ?_))
      | (refine at_sto 24 (.tmp 2) (.tmp 10) rfl ?_; go_must (refine wpList_store_row rfl 24 (.tmp 2) (.tmp 10) rfl _ (bz [] 32) rfl rfl _ _ hR1 (by rw [HZ2.out]; exact infoD32) rfl (bv_all _) ?_)))
    exact bodyPost_ret (v := .tuple #[.agg (bz [] 32), .bool false]) (results_row_tmp rfl _ _ w.heap.size _ _ _ _ rfl (hR1.row _) Tryd.underlying24 rfl (by rw [HZ2.out]; exact infoD32) _ rfl) rfl ⟨rfl, below_setRow hB1 (Nat.le_refl _) _⟩

set_option maxRecDepth 100000 in
set_option maxHeartbeats 4000000 in
theorem rparse_any (s : ByteArray) (w : World) :
    Calls Tryd.prog 17 #[.string s] w fun e w' => e = .returned (ParseV s.data.toList) ∧ Below w.heap.size w w' := by
  have hz2 : (bz [] 32).size = 32 := bz_size (by decide)
  have HZ2 := Lib.hid hz2
  have hR0 : Blk (w.alloc (.cells (bz [] 32) 24)) w.heap.size 24 (bz [] 32) := Blk.new w _ _
  have hs1 : (w.alloc (.cells (bz [] 32) 24)).heap.size = w.heap.size + 1 := by simp
  have hB0 : Below w.heap.size w (w.alloc (.cells (bz [] 32) 24)) := (Below.refl _ _).alloc (Nat.le_refl _) _
  have hD0 := Blk.new (w.alloc (.cells (bz [] 32) 24)) 24 (bz [] 32)
  rw [hs1] at hD0
  have hR1 := hR0.alloc (.cells (bz [] 32) 24)
  have hB1 := hB0.alloc hB0.size (.cells (bz [] 32) 24)
  clear hs1 hz2
  by_cases h64 : s.size = 64
  · have hq : ((s.size : Int) != 64) = false := by rw [bne_eq_false_iff_eq]; omega
    have H64 := Lib.hid h64
    clear h64
    go_enter Tryd.func17, Tryd.ntmps17
    go_wp2_with fail
    have hD1 : Blk ((w.alloc (.cells (bz [] 32) 24)).alloc (.cells (bz [] 32) 24)) (w.heap.size + 1) 24 (prow (Tx.pc s.data.toList 0) 32) := by rw [prow_zero]; exact hD0
    clear hD0
    have hF0 : Tx.good s.data.toList 0 := fun k hk => absurd hk (Nat.not_lt_zero _)
    go_loopw [5] (fun i wr => ∃ k : Nat, k ≤ 64 ∧ i = .int .i64 (k : Int) ∧ Hid (Tx.good s.data.toList k) ∧ Blk wr w.heap.size 24 (bz [] 32) ∧ Blk wr (w.heap.size + 1) 24 (prow (Tx.pc s.data.toList k) 32) ∧ Below w.heap.size w wr) (fun i _ => 64 - (intOf i).toNat)
    case atStart => exact ⟨0, Nat.zero_le _, rfl, hF0, hR1, hD1, hB1⟩
    case round =>
      obtain ⟨k, hk, rfl, HG, hR, hD, hb⟩ := hrel
      by_cases hlt : k < 64
      · have hin : k < s.size := by rw [H64.out]; exact hlt
        have hkI : (k : Int) < (s.size : Int) := by omega
        have hix := run_index_str (P := Tryd.prog) Tryd.underlying9 s .i64 k _ (str_at hin)
        have hdl := Tx.dg_le s.data.toList k
        have IX := Lib.hid (fun W => digit_any (s.data.toList.getD k 0) W)
        have hpi : ∀ h : Tx.dg s.data.toList k < 16, Tx.good s.data.toList (k + 1) := fun h j hj => by
          by_cases e : j = k
          · subst e; exact h
          · exact HG.out j (by omega)
        have HPI := Lib.hid hpi
        have HDG := Lib.hid (show Tx.dg s.data.toList k = Sh.digit (s.data.toList.getD k 0).toNat from rfl)
        clear hpi
        by_cases hd : Tx.dg s.data.toList k < 16
        · rw [← HDG.out] at IX
          have hG1 := HPI.out hd
          obtain ⟨hp1, hp2⟩ := Tx.pc_here s.data.toList hG1
          have hset := prow_set (Tx.pc s.data.toList k) (Tx.pc s.data.toList (k + 1)) 32 (k / 2) (fun j hj => Tx.pc_other s.data.toList hj)
          have HSET := Lib.hid hset
          have hcell := (hD.cell (k / 2)).trans (prow_at (Tx.pc s.data.toList k) (n := 32) (j := k / 2) (by omega))
          have HP1 := Lib.hid hp1
          generalize Tx.dg s.data.toList k = g at *
          have hq16 : ((g : Int) == 16) = false := by rw [beq_eq_false_iff_ne]; omega
          generalize s.data.toList.getD k 0 = x at *
          generalize Tx.pc s.data.toList k (k / 2) = y at *
          obtain ⟨yy, hyy⟩ : ∃ yy, yy = y * 16 := ⟨_, rfl⟩
          have hw1 : IntKind.u8.wrap ((y : Int) * 16) = (yy : Int) := by rw [IntKind.wrap_u8]; omega
          have hw2 : IntKind.u8.wrap (g : Int) = (g : Int) := by rw [IntKind.wrap_u8]; omega
          have HV := Lib.hid (show yy + g = Tx.pc s.data.toList (k + 1) (k / 2) by rw [HP1.out]; omega)
          have hg0 : 0 ≤ (g : Int) := by omega
          have hor : IntKind.u8.wrap ((yy : Int) + (g : Int)) = ((yy + g : Nat) : Int) := by rw [IntKind.wrap_u8]; omega
          clear hset hp1 hyy
          generalize yy + g = v at *
          go_wp2_with fail
          refine (IX.out _).mono ?_; rintro e w' ⟨rfl, rfl⟩
          go_wp2_with (refine at_sto 5 (.tmp 32) (.tmp 31) rfl ?_; go_must (refine wpList_store_blk rfl 5 (.tmp 32) (.tmp 31) rfl (w.heap.size + 1) (k / 2) (.int .u8 (v : Int)) rfl rfl _ _ hD (by rw [prow_size]; omega) rfl (by kernel_rfl) ?_; intro wq hq hkq hsq hbq; rw [HV.out, HSET.out] at hq))
          go_roundw
          case rel => exact ⟨k + 1, by omega, by go_num, hG1, hR.other hkq (by omega), hq, hbq _ _ (by omega) hb⟩
          case measure => simp [intOf]; omega
        · have hnf : ¬ Tx.fine s.data.toList := fun h => hd (h.2 k hlt)
          have hg16 : Sh.digit (s.data.toList.getD k 0).toNat = 16 := by have := HDG.out; omega
          rw [hg16] at IX
          have HPV := Lib.hid (parseV_no hnf)
          clear hg16 hd hnf
          generalize s.data.toList.getD k 0 = x at *
          go_wp2_with fail
          refine (IX.out _).mono ?_; rintro e w' ⟨rfl, rfl⟩
          go_wp2_with (first
            | (refine at_dst 21 rfl ?_; go_must (refine wpList_build_as rfl 24 _ rfl [] rfl (bz [] 32) (by kernel_rfl) ?_))
            | (refine at_sto 24 (.tmp 2) (.tmp 21) rfl ?_; go_must (refine wpList_store_row rfl 24 (.tmp 2) (.tmp 21) rfl _ (bz [] 32) rfl rfl _ _ hR (by rw [HZ2.out]; exact infoD32) rfl (bv_all _) ?_)))
          exact bodyPost_ret (v := .tuple #[.agg (bz [] 32), .bool false]) (results_row_tmp rfl _ _ w.heap.size _ _ _ _ rfl (hR.row _) Tryd.underlying24 rfl (by rw [HZ2.out]; exact infoD32) _ rfl) rfl ⟨by rw [HPV.out], below_setRow hb (Nat.le_refl _) _⟩
      · obtain rfl : k = 64 := by omega
        have hf : Tx.fine s.data.toList := ⟨by rw [Array.length_toList]; exact H64.out, HG.out⟩
        have HPV := Lib.hid (parseV_yes hf)
        have hps := prow_size (Tx.pc s.data.toList 64) 32
        have HPS := Lib.hid hps
        have HPA := Lib.hid (show (prow (Tx.pc s.data.toList 64) 32).all (·.oneCell') = true by rw [prow_bv _ _ (fun j _ => Tx.pc_lt _ hf.2 j)]; exact bv_all _)
        have hnl : ¬ (64 : Int) < (s.size : Int) := by have := H64.out; omega
        clear hlt hk hps hf
        generalize prow (Tx.pc s.data.toList 64) 32 = R at *
        rw [show ((64 : Nat) : Int) = 64 from rfl]
        go_wp2_with (first
          | (refine at_lod 24 (.tmp 4) rfl ?_; go_must (refine wpList_load_row rfl 24 (.tmp 4) rfl _ rfl _ _ _ _ hD Tryd.underlying24 rfl (by rw [HPS.out]; exact infoD32) ?_))
          | (refine at_sto 24 (.tmp 2) (.tmp 33) rfl ?_; go_must (refine wpList_store_row rfl 24 (.tmp 2) (.tmp 33) rfl _ R rfl rfl _ _ hR (by rw [HPS.out]; exact infoD32) (by rw [HPS.out, HZ2.out]) HPA.out ?_)))
        exact bodyPost_ret (v := .tuple #[.agg R, .bool true]) (results_row_tmp rfl _ _ w.heap.size _ _ _ _ rfl (hR.row _) Tryd.underlying24 rfl (by rw [HPS.out]; exact infoD32) _ rfl) rfl ⟨by rw [HPV.out], below_setRow hb (Nat.le_refl _) _⟩
  · have hq : ((s.size : Int) != 64) = true := by rw [bne_iff_ne]; omega
    have hnf : ¬ Tx.fine s.data.toList := fun h => h64 (by have := h.1; rwa [Array.length_toList] at this)
    rw [parseV_no hnf]
    clear hnf h64
    go_enter Tryd.func17, Tryd.ntmps17
    go_wp2_with (first
      | (refine at_dst 10 rfl ?_; go_must (refine wpList_build_as rfl 24 _ rfl [] rfl (bz [] 32) (by kernel_rfl) ?_))
      | (refine at_sto 24 (.tmp 2) (.tmp 10) rfl ?_; go_must (refine wpList_store_row rfl 24 (.tmp 2) (.tmp 10) rfl _ (bz [] 32) rfl rfl _ _ hR0 (by rw [HZ2.out]; exact infoD32) rfl (bv_all _) ?_)))
    exact bodyPost_ret (v := .tuple #[.agg (bz [] 32), .bool false]) (results_row_tmp rfl _ _ w.heap.size _ _ _ _ rfl (hR0.row _) Tryd.underlying24 rfl (by rw [HZ2.out]; exact infoD32) _ rfl) rfl ⟨rfl, below_setRow hB0 (Nat.le_refl _) _⟩
end Go.Proofs.YtkgkllpecpcgjaaDoor

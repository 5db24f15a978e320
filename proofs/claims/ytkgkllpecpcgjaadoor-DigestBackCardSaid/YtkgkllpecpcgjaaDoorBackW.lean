/- The walk of DigestBack. -/
import Derived.Test.YtkgkllpecpcgjaaDoorHexesW
namespace Go.Proofs.YtkgkllpecpcgjaaDoor
open Go Go.RowKit

set_option maxRecDepth 100000 in
set_option maxHeartbeats 2000000 in
theorem back_false (d : List UInt8) (s : ByteArray) (w : World) (hd : d.length = 32) (hk : KT w) (hok : (Tx.parse s.data.toList).2 = false) :
    Calls Tryd.prog 8 #[.agg (bv d).toArray, .string s] w fun e w' => e = .returned (.bool true) ∧ Below w.heap.size w w' := by
  have HSD := Lib.hid ((bv_size d).trans hd)
  have HX1 := Lib.hid (fun W : World => phex_any d W hd)
  have P1' := fun W : World => pparse_any (sB (Tx.hex d)) W
  unfold ParseV at P1'
  rw [sB_data, Tx.parse_hex hd] at P1'
  have P1 := Lib.hid P1'
  clear P1'
  have P2 := Lib.hid (fun W : World => pparse_any s W)
  have hzl := parse_length s.data.toList
  unfold ParseV at P2
  have hEQ := run_eql_bytes (P := Tryd.prog) Tryd.underlying24 Tryd.underlying5 (by kernel_rfl) hd hd
  have HSZ := Lib.hid ((bv_size (Tx.parse s.data.toList).1).trans hzl)
  have HZA := Lib.hid (bv_all (Tx.parse s.data.toList).1)
  have HXA := Lib.hid (bv_all d)
  rw [show decide (d = d) = true from decide_eq_true rfl] at hEQ
  rw [hok] at P2
  have hTs : (sB (Tx.hex d)).size = 64 := by rw [sB_size, Tx.hex_length, hd]
  generalize (bv (Tx.parse s.data.toList).1).toArray = Z at *
  generalize sB (Tx.hex d) = T at *
  have hT64 : ((T.size : Int) == 64) = true := by rw [hTs]; rfl
  have HK := Lib.hid hk
  have hglt := hk.lt
  have hss : (s.toList == s.toList) = true := beq_self_eq_true _
  clear hd hk hzl hok hTs
  generalize (bv d).toArray = X at *
  have hX0 : Blk (w.alloc (.cells X 24)) w.heap.size 24 X := Blk.new w _ _
  have hW0 : Below w.heap.size w (w.alloc (.cells X 24)) := (Below.refl _ _).alloc (Nat.le_refl _) _
  go_enter Tryd.func8, Tryd.ntmps8
  go_wp2_with (first
    | (refine at_dst 10 rfl ?_; go_must (refine wpList_load_row_g (by rfl) 24 (.tmp 2) rfl _ rfl _ _ _ hX0 Tryd.underlying24 rfl (by rw [HSD.out]; exact infoD32) ?_))
    | (go_at_call 15; refine (HX1.out _).mono ?_; rintro e w1 ⟨rfl, hb1⟩; have hX1 := hX0.later hb1; have hB1 := hW0.trans (hb1.mono hW0.size))
    | (go_at_call_of 16 (Value.string T); refine (P1.out _).mono ?_; rintro e w2 ⟨rfl, hb2⟩; have hX2 := hX1.later hb2; have hB2 := hB1.trans (hb2.mono hB1.size))
    | (refine at_sto 24 (.tmp 5) (.tmp 13) rfl ?_; go_must (refine wpList_store_row rfl 24 (.tmp 5) (.tmp 13) rfl _ X rfl rfl _ _ (Blk.new w2 _ _) (by rw [HSD.out]; exact infoD32) (by rw [HSD.out]; rfl) HXA.out ?_; generalize hq : World.setRow _ _ _ = w3)))
  have hlt2 := hX2.lt
  have hX3 : Blk w3 w.heap.size 24 X := hq ▸ (hX2.alloc _).farRow (by omega) _
  have hY3 : Blk w3 w2.heap.size 24 X := hq ▸ (Blk.new w2 _ _).row _
  have hB3 : Below w.heap.size w w3 := hq ▸ below_setRow (hB2.alloc hB2.size _) hB2.size _
  clear hq hX0 hW0 hX1 hB1 hX2 hB2 hb1 hb2
  generalize w2.heap.size = g2 at *
  refine (P2.out _).mono ?_; rintro e w4 ⟨rfl, hb4⟩
  have hX4 := hX3.later hb4
  have hY4 := hY3.later hb4
  have hB4 := hB3.trans (hb4.mono hB3.size)
  clear hX3 hY3 hB3 hb4
  go_wp2_with (first
    | (refine at_sto 24 (.tmp 7) (.tmp 18) rfl ?_; go_must (refine wpList_store_row rfl 24 (.tmp 7) (.tmp 18) rfl _ Z rfl rfl _ _ (Blk.new w4 _ _) (by rw [HSZ.out]; exact infoD32) (by rw [HSZ.out]; rfl) HZA.out ?_; generalize hq : World.setRow _ _ _ = w5; have hlt4 := hX4.lt; have hlt5 := hY4.lt; have hX5 : Blk w5 w.heap.size 24 X := hq ▸ (hX4.alloc _).farRow (by omega) _; have hY5 : Blk w5 g2 24 X := hq ▸ (hY4.alloc _).farRow (by omega) _; have hZ5 : Blk w5 w4.heap.size 24 Z := hq ▸ (Blk.new w4 _ _).row _; have hB5 : Below w.heap.size w w5 := hq ▸ below_setRow (hB4.alloc hB4.size _) hB4.size _; clear hq hX4 hY4 hB4))
    | (refine at_dst 22 rfl ?_; go_must (refine wpList_load_row_g (by rfl) 24 (.tmp 5) rfl _ rfl _ _ _ (hY5) Tryd.underlying24 rfl (by rw [HSD.out]; exact infoD32) ?_))
    | (refine at_dst 23 rfl ?_; go_must (refine wpList_load_row_g (by rfl) 24 (.tmp 2) rfl _ rfl _ _ _ (hX5) Tryd.underlying24 rfl (by rw [HSD.out]; exact infoD32) ?_))
    | (refine at_dst 27 rfl ?_; go_must (refine wpList_load_row_g (by rfl) 24 (.tmp 2) rfl _ rfl _ _ _ (hX5) Tryd.underlying24 rfl (by rw [HSD.out]; exact infoD32) ?_))
    | (go_at_call_of 15 (Value.agg X); refine (HX1.out _).mono ?_; rintro e w6 ⟨rfl, hb6⟩; have hB6 := hB5.trans (hb6.mono hB5.size); have hZ6 := hZ5.later hb6)
    | (go_at_call 14; refine (alive_any _ (HK.out.below hB6 hglt)).mono ?_; rintro e w9 ⟨rfl, hb9⟩; have hB9 := hB6.trans (hb9.mono hB6.size)))
  go_ret
  exact ⟨rfl, hB9⟩

set_option maxRecDepth 100000 in
set_option maxHeartbeats 2000000 in
theorem back_true (d : List UInt8) (s : ByteArray) (w : World) (hd : d.length = 32) (hk : KT w) (hok : (Tx.parse s.data.toList).2 = true) :
    Calls Tryd.prog 8 #[.agg (bv d).toArray, .string s] w fun e w' => e = .returned (.bool true) ∧ Below w.heap.size w w' := by
  have HSD := Lib.hid ((bv_size d).trans hd)
  have HX1 := Lib.hid (fun W : World => phex_any d W hd)
  have P1' := fun W : World => pparse_any (sB (Tx.hex d)) W
  unfold ParseV at P1'
  rw [sB_data, Tx.parse_hex hd] at P1'
  have P1 := Lib.hid P1'
  clear P1'
  have P2 := Lib.hid (fun W : World => pparse_any s W)
  have hzl := parse_length s.data.toList
  unfold ParseV at P2
  have hEQ := run_eql_bytes (P := Tryd.prog) Tryd.underlying24 Tryd.underlying5 (by kernel_rfl) hd hd
  have HSZ := Lib.hid ((bv_size (Tx.parse s.data.toList).1).trans hzl)
  have HZA := Lib.hid (bv_all (Tx.parse s.data.toList).1)
  have HXA := Lib.hid (bv_all d)
  rw [show decide (d = d) = true from decide_eq_true rfl] at hEQ
  rw [hok] at P2
  have hfine : Tx.fine s.data.toList := by
    unfold Tx.parse at hok
    by_cases hf : Tx.fine s.data.toList
    · exact hf
    · rw [if_neg hf] at hok; cases hok
  have hback : sB (Tx.hex (Tx.parse s.data.toList).1) = s := by
    unfold Tx.parse
    rw [if_pos hfine, Tx.hex_pr hfine]
    rfl
  have HX2' := fun W : World => phex_any (Tx.parse s.data.toList).1 W hzl
  rw [hback] at HX2'
  have HX2 := Lib.hid HX2'
  clear HX2' hback hfine
  have hTs : (sB (Tx.hex d)).size = 64 := by rw [sB_size, Tx.hex_length, hd]
  generalize (bv (Tx.parse s.data.toList).1).toArray = Z at *
  generalize sB (Tx.hex d) = T at *
  have hT64 : ((T.size : Int) == 64) = true := by rw [hTs]; rfl
  have HK := Lib.hid hk
  have hglt := hk.lt
  have hss : (s.toList == s.toList) = true := beq_self_eq_true _
  clear hd hk hzl hok hTs
  generalize (bv d).toArray = X at *
  have hX0 : Blk (w.alloc (.cells X 24)) w.heap.size 24 X := Blk.new w _ _
  have hW0 : Below w.heap.size w (w.alloc (.cells X 24)) := (Below.refl _ _).alloc (Nat.le_refl _) _
  go_enter Tryd.func8, Tryd.ntmps8
  go_wp2_with (first
    | (refine at_dst 10 rfl ?_; go_must (refine wpList_load_row_g (by rfl) 24 (.tmp 2) rfl _ rfl _ _ _ hX0 Tryd.underlying24 rfl (by rw [HSD.out]; exact infoD32) ?_))
    | (go_at_call 15; refine (HX1.out _).mono ?_; rintro e w1 ⟨rfl, hb1⟩; have hX1 := hX0.later hb1; have hB1 := hW0.trans (hb1.mono hW0.size))
    | (go_at_call_of 16 (Value.string T); refine (P1.out _).mono ?_; rintro e w2 ⟨rfl, hb2⟩; have hX2 := hX1.later hb2; have hB2 := hB1.trans (hb2.mono hB1.size))
    | (refine at_sto 24 (.tmp 5) (.tmp 13) rfl ?_; go_must (refine wpList_store_row rfl 24 (.tmp 5) (.tmp 13) rfl _ X rfl rfl _ _ (Blk.new w2 _ _) (by rw [HSD.out]; exact infoD32) (by rw [HSD.out]; rfl) HXA.out ?_; generalize hq : World.setRow _ _ _ = w3)))
  have hlt2 := hX2.lt
  have hX3 : Blk w3 w.heap.size 24 X := hq ▸ (hX2.alloc _).farRow (by omega) _
  have hY3 : Blk w3 w2.heap.size 24 X := hq ▸ (Blk.new w2 _ _).row _
  have hB3 : Below w.heap.size w w3 := hq ▸ below_setRow (hB2.alloc hB2.size _) hB2.size _
  clear hq hX0 hW0 hX1 hB1 hX2 hB2 hb1 hb2
  generalize w2.heap.size = g2 at *
  refine (P2.out _).mono ?_; rintro e w4 ⟨rfl, hb4⟩
  have hX4 := hX3.later hb4
  have hY4 := hY3.later hb4
  have hB4 := hB3.trans (hb4.mono hB3.size)
  clear hX3 hY3 hB3 hb4
  go_wp2_with (first
    | (refine at_sto 24 (.tmp 7) (.tmp 18) rfl ?_; go_must (refine wpList_store_row rfl 24 (.tmp 7) (.tmp 18) rfl _ Z rfl rfl _ _ (Blk.new w4 _ _) (by rw [HSZ.out]; exact infoD32) (by rw [HSZ.out]; rfl) HZA.out ?_; generalize hq : World.setRow _ _ _ = w5; have hlt4 := hX4.lt; have hlt5 := hY4.lt; have hX5 : Blk w5 w.heap.size 24 X := hq ▸ (hX4.alloc _).farRow (by omega) _; have hY5 : Blk w5 g2 24 X := hq ▸ (hY4.alloc _).farRow (by omega) _; have hZ5 : Blk w5 w4.heap.size 24 Z := hq ▸ (Blk.new w4 _ _).row _; have hB5 : Below w.heap.size w w5 := hq ▸ below_setRow (hB4.alloc hB4.size _) hB4.size _; clear hq hX4 hY4 hB4))
    | (refine at_dst 22 rfl ?_; go_must (refine wpList_load_row_g (by rfl) 24 (.tmp 5) rfl _ rfl _ _ _ (hY5) Tryd.underlying24 rfl (by rw [HSD.out]; exact infoD32) ?_))
    | (refine at_dst 23 rfl ?_; go_must (refine wpList_load_row_g (by rfl) 24 (.tmp 2) rfl _ rfl _ _ _ (hX5) Tryd.underlying24 rfl (by rw [HSD.out]; exact infoD32) ?_))
    | (refine at_dst 27 rfl ?_; go_must (refine wpList_load_row_g (by rfl) 24 (.tmp 2) rfl _ rfl _ _ _ (hX5) Tryd.underlying24 rfl (by rw [HSD.out]; exact infoD32) ?_))
    | (go_at_call_of 15 (Value.agg X); refine (HX1.out _).mono ?_; rintro e w6 ⟨rfl, hb6⟩; have hB6 := hB5.trans (hb6.mono hB5.size); have hZ6 := hZ5.later hb6)
    | (refine at_dst 36 rfl ?_; go_must (refine wpList_load_row_g (by rfl) 24 (.tmp 7) rfl _ rfl _ _ _ (hZ6) Tryd.underlying24 rfl (by rw [HSZ.out]; exact infoD32) ?_))
    | (go_at_call_of 15 (Value.agg Z); refine (HX2.out _).mono ?_; rintro e w7 ⟨rfl, hb7⟩; have hB7 := hB6.trans (hb7.mono hB6.size))
    | (go_at_call 14; refine (alive_any _ (HK.out.below hB7 hglt)).mono ?_; rintro e w9 ⟨rfl, hb9⟩; have hB9 := hB7.trans (hb9.mono hB7.size)))
  go_ret
  exact ⟨rfl, hB9⟩

theorem digestBack_walk (d : List UInt8) (s : ByteArray) (w : World) (hd : d.length = 32) (hk : KT w) :
    Calls Tryd.prog 8 #[.agg (bv d).toArray, .string s] w fun e w' => e = .returned (.bool true) ∧ Below w.heap.size w w' := by
  cases h : (Tx.parse s.data.toList).2
  · exact back_false d s w hd hk h
  · exact back_true d s w hd hk h
end Go.Proofs.YtkgkllpecpcgjaaDoor

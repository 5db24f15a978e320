/- The contracts of the program's firstState, New, isMade, Len and Copy. -/
import Derived.Test.YtkgkllpecpcgjaaDoorPDig
import Derived.Test.YtkgkllpecpcgjaaDoorShaH
import Derived.Test.YtkgkllpecpcgjaaDoorCell
import Derived.Deep.WholeRow
namespace Go.Proofs.YtkgkllpecpcgjaaDoor
open Go Go.RowKit

theorem infoHash : (Tryd.prog.info? 52).map (·.size) = some 74 := by kernel_rfl

/-- The cells of a hash that has taken these bytes. -/
def HC (l : List UInt8) : List Value := Value.bool true :: (uv (Sh.stt l) ++ (bv (Sh.pad (Sh.rest l)) ++ [Value.int .i64 (l.length : Int)]))
def HashIs (w : World) (g : Nat) (l : List UInt8) : Prop := Blk w g 52 (HC l).toArray

/-- A hash that nobody made. -/
def HN : Array Value := (Value.bool false :: (uv (List.replicate 8 0) ++ (bv (List.replicate 64 0) ++ [Value.int .i64 0]))).toArray
theorem HN_size : HN.size = 74 := by decide +kernel
theorem HN_made : HN[0]? = some (.bool false) := rfl
theorem zeroHash (w : World) : (zeroValue 52).run Tryd.prog w = .ok (.agg HN) w := (zero_of_info (n := 74) (by kernel_rfl)).1 w

set_option maxRecDepth 100000 in
set_option maxHeartbeats 4000000 in
theorem first_any (w : World) :
    Calls Tryd.prog 31 #[] w fun e w' => e = .returned (.agg (uv Sh.H).toArray) ∧ Below w.heap.size w w' := by
  go_enter Tryd.func31, Tryd.ntmps31
  go_wp2_with (refine at_sto 48 (.tmp 0) (.tmp 1) rfl ?_; go_must (refine wpList_store_row rfl 48 (.tmp 0) (.tmp 1) rfl _ (uv Sh.H).toArray rfl rfl _ _ (Blk.new w _ _) infoS8 rfl (uv_all _) ?_))
  exact bodyPost_ret (v := .agg (uv Sh.H).toArray) (results_cell_row rfl _ _ w.heap.size _ _ _ _ rfl ((Blk.new w _ _).row _) Tryd.underlying48 rfl infoS8) rfl ⟨rfl, below_setRow ((Below.refl _ _).alloc (Nat.le_refl _) _) (Nat.le_refl _) _⟩

set_option maxRecDepth 100000 in
set_option maxHeartbeats 4000000 in
theorem new_any (w : World) :
    Calls Tryd.prog 21 #[] w fun e w' => ∃ g, e = .returned (.pointer (some ⟨g, 0, none⟩)) ∧ w.heap.size ≤ g ∧ HashIs w' g [] ∧ Below w.heap.size w w' := by
  have F := Lib.hid (first_any w)
  go_enter Tryd.func21, Tryd.ntmps21
  go_wp2_with fail
  refine F.out.mono ?_; rintro e w1 ⟨rfl, hb1⟩
  go_wp2_with (refine at_dst 2 rfl ?_; go_must (refine wpList_build_as rfl 52 _ rfl [(0, .bool true), (1, .agg (uv Sh.H).toArray)] rfl (HC []).toArray (by kernel_rfl) ?_))
  go_ret
  exact ⟨w1.heap.size, rfl, hb1.size, Blk.new w1 _ _, hb1.alloc hb1.size _⟩

theorem HC_size (l : List UInt8) : (HC l).toArray.size = 74 := by
  have h1 := uv_length (Sh.stt l)
  rw [Sh.stt_length] at h1
  have h2 := bv_length (Sh.pad (Sh.rest l))
  rw [Sh.pad_length (by rw [Sh.rest_length]; omega)] at h2
  rw [List.size_toArray]; unfold HC
  simp only [List.length_cons, List.length_append, List.length_nil, h1, h2]
theorem HC_made (l : List UInt8) : (HC l).toArray[0]? = some (.bool true) := rfl
theorem HC_last (l : List UInt8) : (HC l).toArray[73]? = some (.int .i64 (l.length : Int)) := by
  have h1 := uv_length (Sh.stt l)
  rw [Sh.stt_length] at h1
  have h2 := bv_length (Sh.pad (Sh.rest l))
  rw [Sh.pad_length (by rw [Sh.rest_length]; omega)] at h2
  rw [List.getElem?_toArray]; unfold HC
  rw [List.getElem?_cons_succ, List.getElem?_append_right (by omega), List.getElem?_append_right (by omega), h1, h2]
  rfl
theorem HC_all (l : List UInt8) : (HC l).toArray.all (·.oneCell') = true := Array.all_eq_true_iff_forall_mem.2 (fun v hv => by
  have hv' : v ∈ HC l := by simpa using hv
  unfold HC at hv'
  rcases List.mem_cons.1 hv' with rfl | hv'
  · rfl
  rcases List.mem_append.1 hv' with hv' | hv'
  · exact uv_one _ v hv'
  rcases List.mem_append.1 hv' with hv' | hv'
  · exact bv_one _ v hv'
  · rw [List.mem_singleton.1 hv']; rfl)

set_option maxRecDepth 100000 in
set_option maxHeartbeats 1000000 in
theorem made_nil (w : World) : Calls Tryd.prog 32 #[.pointer none] w fun e w' => e = .returned (.bool false) ∧ w = w' := by
  go_enter Tryd.func32, Tryd.ntmps32
  go_wp2
  go_ret
  exact ⟨rfl, rfl⟩
set_option maxRecDepth 100000 in
set_option maxHeartbeats 1000000 in
theorem made_any (w : World) (g : Nat) (b : Bool) (cs : Array Value) (h : Blk w g 52 cs) (hc : cs[0]? = some (.bool b)) : Calls Tryd.prog 32 #[.pointer (some ⟨g, 0, none⟩)] w fun e w' => e = .returned (.bool b) ∧ w = w' := by
  have h0 := (h.cell 0).trans hc
  clear hc h
  go_enter Tryd.func32, Tryd.ntmps32
  go_wp2
  go_ret
  exact ⟨rfl, rfl⟩

set_option maxRecDepth 100000 in
set_option maxHeartbeats 1000000 in
theorem len_nil (w : World) : Calls Tryd.prog 24 #[.pointer none] w fun e w' => e = .returned (.int .i64 0) ∧ w = w' := by
  have M := Lib.hid (made_nil w)
  go_enter Tryd.func24, Tryd.ntmps24
  go_wp2_with fail
  refine M.out.mono ?_; rintro e w' ⟨rfl, rfl⟩
  go_wp2_with fail
  go_ret
  exact ⟨rfl, rfl⟩
set_option maxRecDepth 100000 in
set_option maxHeartbeats 1000000 in
theorem len_not (w : World) (g : Nat) (cs : Array Value) (h : Blk w g 52 cs) (hc : cs[0]? = some (.bool false)) : Calls Tryd.prog 24 #[.pointer (some ⟨g, 0, none⟩)] w fun e w' => e = .returned (.int .i64 0) ∧ w = w' := by
  have M := Lib.hid (made_any w g false cs h hc)
  clear h hc
  go_enter Tryd.func24, Tryd.ntmps24
  go_wp2_with fail
  refine M.out.mono ?_; rintro e w' ⟨rfl, rfl⟩
  go_wp2_with fail
  go_ret
  exact ⟨rfl, rfl⟩
set_option maxRecDepth 100000 in
set_option maxHeartbeats 1000000 in
theorem len_any (w : World) (g : Nat) (l : List UInt8) (h : HashIs w g l) : Calls Tryd.prog 24 #[.pointer (some ⟨g, 0, none⟩)] w fun e w' => e = .returned (.int .i64 (l.length : Int)) ∧ w = w' := by
  have M := Lib.hid (made_any w g true _ h (HC_made l))
  have hc := (h.cell 73).trans (HC_last l)
  clear h
  go_enter Tryd.func24, Tryd.ntmps24
  go_wp2_with fail
  refine M.out.mono ?_; rintro e w' ⟨rfl, rfl⟩
  go_wp2_with fail
  go_ret
  exact ⟨rfl, rfl⟩

set_option maxRecDepth 100000 in
set_option maxHeartbeats 1000000 in
theorem copy_nil (w : World) : Calls Tryd.prog 25 #[.pointer none] w fun e w' => e = .returned (.pointer none) ∧ w = w' := by
  have M := Lib.hid (made_nil w)
  go_enter Tryd.func25, Tryd.ntmps25
  go_wp2_with fail
  refine M.out.mono ?_; rintro e w' ⟨rfl, rfl⟩
  go_wp2_with fail
  go_ret
  exact ⟨rfl, rfl⟩
set_option maxRecDepth 100000 in
set_option maxHeartbeats 1000000 in
theorem copy_not (w : World) (g : Nat) (cs : Array Value) (h : Blk w g 52 cs) (hc : cs[0]? = some (.bool false)) : Calls Tryd.prog 25 #[.pointer (some ⟨g, 0, none⟩)] w fun e w' => e = .returned (.pointer none) ∧ w = w' := by
  have M := Lib.hid (made_any w g false cs h hc)
  clear h hc
  go_enter Tryd.func25, Tryd.ntmps25
  go_wp2_with fail
  refine M.out.mono ?_; rintro e w' ⟨rfl, rfl⟩
  go_wp2_with fail
  go_ret
  exact ⟨rfl, rfl⟩
set_option maxRecDepth 100000 in
set_option maxHeartbeats 1000000 in
theorem copy_any (w : World) (g : Nat) (l : List UInt8) (h : HashIs w g l) : Calls Tryd.prog 25 #[.pointer (some ⟨g, 0, none⟩)] w fun e w' => ∃ g', e = .returned (.pointer (some ⟨g', 0, none⟩)) ∧ w.heap.size ≤ g' ∧ HashIs w' g' l ∧ Below w.heap.size w w' := by
  have M := Lib.hid (made_any w g true _ h (HC_made l))
  have hz := HC_size l
  have HZ := Lib.hid hz
  have HA := Lib.hid (HC_all l)
  have hzv := zeroHash
  have HNS := Lib.hid HN_size
  generalize HN = Z at *
  unfold HashIs at h ⊢
  clear hz
  generalize (HC l).toArray = C at *
  go_enter Tryd.func25, Tryd.ntmps25
  go_wp2_with fail
  refine M.out.mono ?_; rintro e w' ⟨rfl, rfl⟩
  go_wp2_with (first
    | (refine at_lod 52 (.tmp 8) rfl ?_; go_must (refine wpList_load_row rfl 52 (.tmp 8) rfl _ rfl _ C _ _ h Tryd.underlying52 rfl (by rw [HZ.out]; exact infoHash) ?_))
    | (refine at_sto 52 (.tmp 3) (.tmp 9) rfl ?_; go_must (refine wpList_store_row rfl 52 (.tmp 3) (.tmp 9) rfl _ C rfl rfl _ _ (Blk.new w _ _) (by rw [HZ.out]; exact infoHash) (by rw [HZ.out, HNS.out]) HA.out ?_)))
  go_ret
  exact ⟨w.heap.size, rfl, Nat.le_refl _, (Blk.new w _ _).row _, below_setRow ((Below.refl _ _).alloc (Nat.le_refl _) _) (Nat.le_refl _) _⟩
end Go.Proofs.YtkgkllpecpcgjaaDoor

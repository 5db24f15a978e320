/- The contract of alive: what must come does come. -/
import Derived.Test.YtkgkllpecpcgjaaDoorParse
import Derived.Test.YtkgkllpecpcgjaaDoorPSumF
import Derived.Test.YtkgkllpecpcgjaaDoorRSum
import Derived.Lib.SlBytesConst
namespace Go.Proofs.YtkgkllpecpcgjaaDoor
open Go Go.RowKit

theorem abc_hex : Tx.hex (Sh.sum [97, 98, 99]) = [98, 97, 55, 56, 49, 54, 98, 102, 56, 102, 48, 49, 99, 102, 101, 97, 52, 49, 52, 49, 52, 48, 100, 101, 53, 100, 97, 101, 50, 50, 50, 51, 98, 48, 48, 51, 54, 49, 97, 51, 57, 54, 49, 55, 55, 97, 57, 99, 98, 52, 49, 48, 102, 102, 54, 49, 102, 50, 48, 48, 49, 53, 97, 100] := by
  rw [Sh.sum_abc]
  decide +kernel

theorem sB_toList (l : List UInt8) : (sB l).toList = l := by rw [ByteArray.toList_eq]; rfl
theorem out_length (s : List Nat) : (Sh.out s).length = 32 := by rw [← outs_all, outs_length]
theorem sum_length (l : List UInt8) : (Sh.sum l).length = 32 := out_length _

set_option maxRecDepth 100000 in
set_option maxHeartbeats 2000000 in
theorem alive_any (w : World) (hk : KT w) : Calls Tryd.prog 14 #[] w fun e w' => e = .returned (.bool true) ∧ Below w.heap.size w w' := by
  have HK := Lib.hid hk
  have hglt := hk.lt
  clear hk
  have hB0 : Below w.heap.size w (w.alloc (.cells (bv [97, 98, 99]).toArray 5 (3, 4))) := (Below.refl _ _).alloc (Nat.le_refl _) _
  have hR0 : Rd (w.alloc (.cells (bv [97, 98, 99]).toArray 5 (3, 4))) (w.heap.size + 1) (some ⟨w.heap.size, 0, none⟩) 3 (bv [97, 98, 99]) := ⟨rfl, fun _ => ⟨_, rfl, Nat.lt_succ_self _, World.news_of_block (heap_alloc_new w _)⟩⟩
  have S := Lib.hid (psum_any [97, 98, 99] (some ⟨w.heap.size, 0, none⟩) 3 _ (HK.out.below hB0 hglt) (hR0.more (by simp)) ⟨by decide, by decide⟩ (by decide))
  have hHL := abc_hex
  have hSL := sum_length [97, 98, 99]
  generalize Sh.sum [97, 98, 99] = D at *
  have HX := Lib.hid (fun W => phex_any D W hSL)
  rw [hHL] at HX
  have heq := sB_toList [98, 97, 55, 56, 49, 54, 98, 102, 56, 102, 48, 49, 99, 102, 101, 97, 52, 49, 52, 49, 52, 48, 100, 101, 53, 100, 97, 101, 50, 50, 50, 51, 98, 48, 48, 51, 54, 49, 97, 51, 57, 54, 49, 55, 55, 97, 57, 99, 98, 52, 49, 48, 102, 102, 54, 49, 102, 50, 48, 48, 49, 53, 97, 100]
  obtain ⟨T, hT⟩ : ∃ T, T = sB [98, 97, 55, 56, 49, 54, 98, 102, 56, 102, 48, 49, 99, 102, 101, 97, 52, 49, 52, 49, 52, 48, 100, 101, 53, 100, 97, 101, 50, 50, 50, 51, 98, 48, 48, 51, 54, 49, 97, 51, 57, 54, 49, 55, 55, 97, 57, 99, 98, 52, 49, 48, 102, 102, 54, 49, 102, 50, 48, 48, 49, 53, 97, 100] := ⟨_, rfl⟩
  rw [← hT] at HX heq
  have hbq : (T.toList == [98, 97, 55, 56, 49, 54, 98, 102, 56, 102, 48, 49, 99, 102, 101, 97, 52, 49, 52, 49, 52, 48, 100, 101, 53, 100, 97, 101, 50, 50, 50, 51, 98, 48, 48, 51, 54, 49, 97, 51, 57, 54, 49, 55, 55, 97, 57, 99, 98, 52, 49, 48, 102, 102, 54, 49, 102, 50, 48, 48, 49, 53, 97, 100]) = true := by rw [heq]; decide
  clear hHL hSL hR0 heq hT
  have kc := fun (w : World) (C : Array Value) (n c : Nat) => Lib.run_convert_bytes_const (P := Tryd.prog) w 22 5 C n c Tryd.underlying22 Tryd.underlying5
  go_enter Tryd.func14, Tryd.ntmps14
  go_wp2_with fail
  refine S.out.mono ?_; rintro e w1 ⟨rfl, hb1⟩
  go_wp2_with fail
  refine (HX.out _).mono ?_; rintro e w2 ⟨rfl, hb2⟩
  go_wp2_with fail
  go_ret
  exact ⟨rfl, hB0.trans ((hb1.trans (hb2.mono hb1.size)).mono hB0.size)⟩
end Go.Proofs.YtkgkllpecpcgjaaDoor

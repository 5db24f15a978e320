/- The contract of alive: what must come does come. -/
import Derived.Test.YtemcfmneokbhkaaPMake
import Derived.Test.YtemcfmneokbhkaaHeld
import Derived.Lib.SmallJoins
namespace Go.Proofs.Ytemcfmneokbhkaa
open Go Go.RowKit

def dig : List UInt8 := [48, 49, 50, 51, 52, 53, 54, 55, 56, 57]
theorem alive_make : Dl.makeD dig (120 :: dig) = ([10, 11, 2, 120, 21, 0], 0) := by
  unfold Dl.makeD
  rw [if_neg (by decide)]
  have b1 : (Dl.bestOf dig (120 :: dig)).2 < 8 := by decide
  have b2 : Dl.bestOf dig dig = (0, 10) := by decide
  rw [Dl.mkGo_own b1]
  have h : dig = 48 :: [49, 50, 51, 52, 53, 54, 55, 56, 57] := rfl
  have h2 : Dl.mkGo dig ([] ++ [120]) dig = [2, 120, 21, 0] := by
    conv => lhs; arg 3; rw [h]
    rw [Dl.mkGo_copy (by rw [← h, b2]; decide), ← h, b2]
    have h3 : dig.drop 10 = [] := rfl
    simp only []
    rw [h3, Dl.mkGo_nil]
    have e1 : Wi.num (2 * 10 + 1) = [21] := by rw [Wi.num_small (by decide)]; rfl
    have e2 : Wi.num 0 = [0] := by rw [Wi.num_small (by decide)]; rfl
    have e3 : Wi.num (2 * 1) = [2] := by rw [Wi.num_small (by decide)]; rfl
    rw [e1, e2]
    show Dl.flush [120] ++ _ = _
    unfold Dl.flush
    rw [if_neg (by decide)]
    show Wi.num (2 * 1) ++ _ ++ _ = _
    rw [e3]; rfl
  rw [h2, Wi.num_small (by decide), Wi.num_small (by decide)]
  rfl
theorem alive_ok : Dl.applyD [97, 98] [2, 1, 2, 120] = .ok [120] := by
  have h := Dl.applyD_is (base := [97, 98]) (d := [2, 1, 2, 120]) (p1 := 1) (size := 1) (p2 := 2) (by decide) (by decide) (by decide) (by decide)
  rw [h]
  have hp : Dl.piece [97, 98] [2, 1, 2, 120] 2 (1 - ([] : List UInt8).length) = .ok ([120], 4) := by
    rw [Dl.piece_is_own (m := 2) (p1 := 3) (by decide) (by decide) (by decide) (by decide)]; rfl
  rw [Dl.goD_ok (by decide) hp]
  exact Dl.goD_end (d := [2, 1, 2, 120]) (by decide)
theorem alive_arg : Dl.applyD [97, 98] [3, 0] = .error 1 := by
  have hz : (((0 : Nat) : Int)) = (0 : Int) := rfl
  have h : Wi.getNum [3, 0] ((0 : Nat) : Int) = (3, 1, 0) := by decide
  unfold Dl.applyD
  rw [← hz, h]
  rfl

theorem new_rd (w : World) (l : List UInt8) (fr : Nat × Nat) : Rd (w.alloc (.cells (bv l).toArray 5 fr)) (w.alloc (.cells (bv l).toArray 5 fr)).heap.size (some ⟨w.heap.size, 0, none⟩) l.length (bv l) :=
  ⟨bv_length l, fun _ => ⟨_, rfl, by simp, World.news_of_block (heap_alloc_new w _)⟩⟩
theorem dig_cells : (bv dig).toArray = #[.int .u8 48, .int .u8 49, .int .u8 50, .int .u8 51, .int .u8 52, .int .u8 53, .int .u8 54, .int .u8 55, .int .u8 56, .int .u8 57] := rfl
theorem xdig_cells : (bv (120 :: dig)).toArray = #[.int .u8 120, .int .u8 48, .int .u8 49, .int .u8 50, .int .u8 51, .int .u8 52, .int .u8 53, .int .u8 54, .int .u8 55, .int .u8 56, .int .u8 57] := rfl
theorem ab_cells : (bv [97, 98]).toArray = #[.int .u8 97, .int .u8 98] := rfl
theorem d1_cells : (bv [2, 1, 2, 120]).toArray = #[.int .u8 2, .int .u8 1, .int .u8 2, .int .u8 120] := rfl
theorem d2_cells : (bv [3, 0]).toArray = #[.int .u8 3, .int .u8 0] := rfl
/-- Two lists laid one behind the other. -/
theorem two_lists (w : World) (l r : List UInt8) (f1 f2 : Nat × Nat) :
    Rd ((w.alloc (.cells (bv l).toArray 5 f1)).alloc (.cells (bv r).toArray 5 f2)) ((w.alloc (.cells (bv l).toArray 5 f1)).alloc (.cells (bv r).toArray 5 f2)).heap.size (some ⟨w.heap.size, 0, none⟩) l.length (bv l) ∧
    Rd ((w.alloc (.cells (bv l).toArray 5 f1)).alloc (.cells (bv r).toArray 5 f2)) ((w.alloc (.cells (bv l).toArray 5 f1)).alloc (.cells (bv r).toArray 5 f2)).heap.size (some ⟨w.heap.size + 1, 0, none⟩) r.length (bv r) ∧
    Below w.heap.size w ((w.alloc (.cells (bv l).toArray 5 f1)).alloc (.cells (bv r).toArray 5 f2)) := by
  have hs1 : (w.alloc (.cells (bv l).toArray 5 f1)).heap.size = w.heap.size + 1 := by simp
  refine ⟨((new_rd w l f1).alloc (Nat.le_refl _) _).more (by simp), ?_, (below_alloc w _).alloc (by simp) _⟩
  have := new_rd (w.alloc (.cells (bv l).toArray 5 f1)) r f2
  rw [hs1] at this
  exact this

set_option maxRecDepth 100000 in
set_option maxHeartbeats 4000000 in
theorem alive_any (w : World) : Calls Try.prog 14 #[] w (Ret (.bool true) w) := by
  have HCV := Lib.hid (fun (w : World) (B : Nat) (A : Option Addr) (n c : Nat) (l : List UInt8) (hr : Rd w B A n (bv l)) => (show (convert 22 9 (.slice A n c)).run Try.prog w = .ok (.string (sB l)) w from hr.str (P := Try.prog) c Try.underlying22 Try.underlying5 Try.underlying9))
  have kc := fun (w : World) (C : Array Value) (n c : Nat) => Lib.run_convert_bytes_const (P := Try.prog) w 22 5 C n c Try.underlying22 Try.underlying5
  have kd := fun (w : World) (C : Array Value) (n c g : Nat) (hg : g = w.heap.size) => Go.Joins.run_convert_bytes_const_at (P := Try.prog) w 22 5 C n c g hg Try.underlying22 Try.underlying5
  have kd1 := kd (w.alloc (.cells (bv dig).toArray 5 (10, 11))) (bv (120 :: dig)).toArray 11 11 (w.heap.size + 1) (by simp)
  have P1 := Lib.hid (two_lists w dig (120 :: dig) (10, 11) (11, 12))
  rw [show (bv (120 :: dig)).toArray.size = 11 from rfl] at kd1
  have C1 := Lib.hid (pmake_any _ _ 10 11 dig (120 :: dig) _ P1.out.1 P1.out.2.1 (by decide) (by decide) (by decide) (by decide))
  rw [alive_make] at C1
  have HB1 := Lib.hid P1.out.2.2
  rw [dig_cells, xdig_cells] at C1 kd1 HB1
  obtain ⟨wb, hwb⟩ : ∃ y, y = (w.alloc (.cells #[.int .u8 48, .int .u8 49, .int .u8 50, .int .u8 51, .int .u8 52, .int .u8 53, .int .u8 54, .int .u8 55, .int .u8 56, .int .u8 57] 5 (10, 11))).alloc (.cells #[.int .u8 120, .int .u8 48, .int .u8 49, .int .u8 50, .int .u8 51, .int .u8 52, .int .u8 53, .int .u8 54, .int .u8 55, .int .u8 56, .int .u8 57] 5 (11, 12)) := ⟨_, rfl⟩
  rw [← hwb] at C1 kd1 HB1
  clear P1 kd hwb
  go_enter Try.func14, Try.ntmps14
  go_wp2_with fail
  refine C1.out.mono ?_; rintro e w1 ⟨v1, rfl, ho1, hb1⟩
  have HB2 := Lib.hid (HB1.out.trans (hb1.mono HB1.out.size))
  obtain ⟨A1, k1, hv1, -, -, -⟩ := own_form ho1
  subst hv1
  have HR1 := Lib.hid (Rd.of_own ho1)
  have P2 := Lib.hid (two_lists w1 [97, 98] [2, 1, 2, 120] (2, 3) (0, 0))
  have C2 := Lib.hid (papply_any _ _ 2 4 [97, 98] [2, 1, 2, 120] _ P2.out.1 P2.out.2.1 (by decide) (by decide) (by decide) (by decide))
  rw [alive_ok] at C2
  have HB3 := Lib.hid P2.out.2.2
  rw [ab_cells, d1_cells] at C2 HB3
  clear ho1 hb1 C1 P2 HB1 kd1
  go_wp2_with fail
  refine C2.out.mono ?_; rintro e w3 ⟨v2, rfl, ho2, hb2⟩
  have HB4 := Lib.hid (HB3.out.trans (hb2.mono HB3.out.size))
  obtain ⟨A2, k2, hv2, -, -, -⟩ := own_form ho2
  subst hv2
  have HR2 := Lib.hid (Rd.of_own ho2)
  have P3 := Lib.hid (two_lists w3 [97, 98] [3, 0] (2, 3) (0, 0))
  have C3 := Lib.hid (papply_any _ _ 2 2 [97, 98] [3, 0] _ P3.out.1 P3.out.2.1 (by decide) (by decide) (by decide) (by decide))
  rw [alive_arg] at C3
  have HB5 := Lib.hid P3.out.2.2
  rw [ab_cells, d2_cells] at C3 HB5
  clear ho2 hb2 C2 P3 HB3
  try unfold okL
  try unfold errN
  go_wp2_with fail
  refine C3.out.mono ?_; rintro e w5 ⟨v3, rfl, ho3, hb3⟩
  have HB6 := Lib.hid (HB5.out.trans (hb3.mono HB5.out.size))
  have hcv1 := HCV.out w5 _ A1 6 k1 [10, 11, 2, 120, 21, 0] ((HR1.out.later HB4.out).later HB6.out)
  have hcv2 := HCV.out w5 _ A2 1 k2 [120] (HR2.out.later HB6.out)
  rw [show sB [10, 11, 2, 120, 21, 0] = ⟨#[10, 11, 2, 120, 21, 0]⟩ from rfl] at hcv1
  rw [show sB [120] = ⟨#[120]⟩ from rfl] at hcv2
  clear ho3 hb3 C3 HB5
  try unfold okL
  try unfold errN
  go_wp2_with fail
  go_ret
  refine ⟨?_, HB2.out.trans ((HB4.out.trans (HB6.out.mono HB4.out.size)).mono HB2.out.size)⟩
  first | rfl | (simp; done) | (simp; decide)
end Go.Proofs.Ytemcfmneokbhkaa

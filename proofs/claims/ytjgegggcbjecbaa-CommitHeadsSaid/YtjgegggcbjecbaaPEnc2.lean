/- The program's Encode. -/
import Derived.Test.YtjgegggcbjecbaaPEnc
namespace Go.Proofs.Ytjgegggcbjecbaa
open Go Go.RowKit

/-- The bytes that Encode tells. -/
def encB (m : Cm.Cm) : List UInt8 := if Cm.may Tx.less m = 0 then Cm.encC m else []
/-- How the program's Encode ends. -/
def EncO (m : Cm.Cm) (w : World) (e : Ending) (w' : World) : Prop :=
  ∃ A c, e = .returned (.tuple #[.slice A (encB m).length c, .int .i64 (Cm.may Tx.less m : Int)]) ∧ ((encB m).length ≤ c ∧ c ≤ 9223372036854775807) ∧ w'.ownsRow w.heap.size 5 1 (.slice A (encB m).length c) (encB m).length (bv (encB m)) ∧ Below w.heap.size w w'

set_option maxRecDepth 100000 in
set_option maxHeartbeats 4000000 in
theorem pencode_any (m : Cm.Cm) (v : Value) (A B : Option Addr) (c d : Nat) (w : World) (hI : InCm w v A c B d m) (ha : m.author.length ≤ 4611686018427387904) (hn : m.note.length ≤ 4611686018427387904) (hpl : m.parents.length ≤ 4611686018427387904) (hol : m.ops.length ≤ 4611686018427387904) :
    Calls Try.prog 29 #[v] w (EncO m w) := by
  have hI' := hI
  obtain ⟨hv, -, -, -, -, -, -⟩ := hI'
  obtain ⟨X, hX⟩ : ∃ X, X = (#[.slice A m.parents.length c, .string (sB m.author), .string (sB m.note), .slice B m.ops.length d] : Array Value) := ⟨_, rfl⟩
  rw [← hX] at hv
  subst hv
  have HXS := Lib.hid (show X.size = 4 by rw [hX]; rfl)
  have HXI := Lib.hid (show (Try.prog.info? 31).map (·.size) = some X.size by rw [HXS.out]; exact infoC4)
  obtain ⟨wa, hwa⟩ : ∃ y, y = w.alloc (.cells X 31) := ⟨_, rfl⟩
  have HB := Lib.hid (show Blk wa w.heap.size 31 X by rw [hwa]; exact Blk.new w _ _)
  have HBW := Lib.hid (show Below w.heap.size w wa by rw [hwa]; exact below_alloc w _)
  have HM := Lib.hid (pmay_any m _ A B c d wa (hI.later HBW.out) ha hn hpl hol)
  have HEN := Lib.hid (fun (w1 : World) (hb : Below w.heap.size w w1) (h : Cm.may Tx.less m = 0) => bytesOf_any m _ A B c d w1 (hI.later hb) (hI.ok h))
  obtain ⟨k, hk⟩ : ∃ k, k = Cm.may Tx.less m := ⟨_, rfl⟩
  have HEB := Lib.hid (show encB m = if k = 0 then Cm.encC m else [] by rw [hk]; rfl)
  unfold EncO
  rw [← hk] at HM HEN ⊢
  replace hwa := hwa.symm
  clear hX hI hk
  by_cases h0 : k = 0
  · subst h0
    rw [if_pos rfl] at HEB
    go_enter Try.func29, Try.ntmps29
    go_wp2_with (refine at_lod 31 (.tmp 1) rfl ?_; go_must (refine wpList_load_row rfl 31 (.tmp 1) rfl w.heap.size rfl _ X (0, 0) _ HB.out Try.underlying31 rfl HXI.out ?_))
    refine HM.out.mono ?_; rintro e w1 ⟨rfl, hb1⟩
    have HB1 := Lib.hid (HB.out.later hb1)
    have HBW1 := Lib.hid (HBW.out.trans (hb1.mono HBW.out.size))
    clear hb1 hwa
    go_wp2_with (refine at_lod 31 (.tmp 1) rfl ?_; go_must (refine wpList_load_row rfl 31 (.tmp 1) rfl w.heap.size rfl _ X (0, 0) _ HB1.out Try.underlying31 rfl HXI.out ?_))
    refine (HEN.out w1 HBW1.out (by first | rfl | trivial)).mono ?_; rintro e w2 ⟨v2, rfl, hp⟩
    obtain ⟨A2, c2, rfl, h1, h2, -⟩ := own_form hp.own
    have HP := Lib.hid hp
    have HC := Lib.hid h1
    have HC2 := Lib.hid h2
    clear hp h1 h2
    go_wp2_with fail
    go_ret2
    refine ⟨A2, c2, by rw [HEB.out]; rfl, ⟨by rw [HEB.out]; exact HC.out, by have := HC2.out; simpa [maxLen] using this⟩, ?_, HBW1.out.trans (HP.out.hb.mono HBW1.out.size)⟩
    rw [HEB.out]
    exact own_base HP.out.own HBW1.out.size
  · have hne : ((k : Int) != 0) = true := by rw [bne_iff_ne]; omega
    have hne2 : ¬ k = 0 := h0
    rw [if_neg h0] at HEB
    go_enter Try.func29, Try.ntmps29
    go_wp2_with (refine at_lod 31 (.tmp 1) rfl ?_; go_must (refine wpList_load_row rfl 31 (.tmp 1) rfl w.heap.size rfl _ X (0, 0) _ HB.out Try.underlying31 rfl HXI.out ?_))
    refine HM.out.mono ?_; rintro e w1 ⟨rfl, hb1⟩
    have HBW1 := Lib.hid (HBW.out.trans (hb1.mono HBW.out.size))
    clear hb1 hwa
    go_wp2_with fail
    go_ret2
    refine ⟨none, 0, by rw [HEB.out]; rfl, ⟨by rw [HEB.out]; exact Nat.le_refl _, by omega⟩, ?_, HBW1.out⟩
    rw [HEB.out]
    exact World.ownsRow_nil w1 _ _ _
end Go.Proofs.Ytjgegggcbjecbaa

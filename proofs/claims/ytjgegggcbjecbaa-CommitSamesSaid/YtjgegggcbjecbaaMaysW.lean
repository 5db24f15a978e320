/- CommitMays: what is wrong with any commit is told as the document says. No conditions but the row's own. -/
import Derived.Test.YtjgegggcbjecbaaAliv
import Derived.Test.YtjgegggcbjecbaaRMay
import Derived.Test.YtjgegggcbjecbaaOpenD
namespace Go.Proofs.Ytjgegggcbjecbaa
open Go Go.RowKit

theorem blk_cells {w : World} {g : Nat} {t : TypeId} {X : List Value} (h : Blk w g t X.toArray) : ∀ j v, X[j]? = some v → w.cell? ((⟨g, 0, none⟩ : Addr).add j) = some v := by
  intro j v hj; rw [Addr.add_lit, Nat.zero_add, h.cell, List.getElem?_toArray, hj]
/-- The cells of a commit that came in. -/
def cmX (m : Cm.Cm) (A : Option Addr) (c : Nat) (B : Option Addr) (d : Nat) : List Value := [.slice A m.parents.length c, .string (sB m.author), .string (sB m.note), .slice B m.ops.length d]
theorem cmX_info {m : Cm.Cm} {A : Option Addr} {c : Nat} {B : Option Addr} {d : Nat} : (Try.prog.info? 31).map (·.size) = some (cmX m A c B d).length := infoC4

set_option maxRecDepth 100000 in
set_option maxHeartbeats 2000000 in
theorem commitMays_walk (m : Cm.Cm) (v : Value) (A : Option Addr) (c : Nat) (B : Option Addr) (d : Nat) (w : World) (hI : InCm w v A c B d m) (hm : CmLim m) :
    Calls Try.prog 5 #[v] w (Ret (.bool true) w) := by
  obtain ⟨l1, l2, l3, l4⟩ := hm
  have hI' := hI
  obtain ⟨hv, -⟩ := hI'
  obtain ⟨X, hX⟩ : ∃ X, X = cmX m A c B d := ⟨_, rfl⟩
  have hv' : v = .agg X.toArray := by rw [hX]; exact hv
  have HXI := Lib.hid (show (Try.prog.info? 31).map (·.size) = some X.length by rw [hX]; exact cmX_info)
  clear hv hX
  subst hv'
  obtain ⟨wa, hwa⟩ : ∃ y, y = w.alloc (.cells X.toArray 31) := ⟨_, rfl⟩
  have HB := Lib.hid (show Blk wa w.heap.size 31 X.toArray by rw [hwa]; exact Blk.new w _ _)
  have HBW := Lib.hid (show Below w.heap.size w wa by rw [hwa]; exact below_alloc w _)
  have HCX := Lib.hid (fun u : Grw wa => blk_cells (HB.out.grw u))
  have C1 := Lib.hid (fun u : Grw wa => pmay_any m _ A B c d u.val (hI.later (HBW.out.trans (u.prop.mono HBW.out.size))) (by omega) (by omega) (by omega) (by omega))
  have C2 := Lib.hid (fun u : Grw wa => rmay_any m _ A B c d u.val (hI.later (HBW.out.trans (u.prop.mono HBW.out.size))) (by omega) (by omega) (by omega) (by omega))
  obtain ⟨k, hk⟩ : ∃ k, k = Cm.may Tx.less m := ⟨_, rfl⟩
  rw [← hk] at C1 C2
  have k1 : ((k : Int) == (k : Int)) = true := by simp
  replace hwa := hwa.symm
  clear hI hk HB
  go_enter Try.func5, Try.ntmps5
  go_wp2_with fail
  refine wp_region_grow (by kernel_rfl) (by kernel_rfl) ?_
  refine quiet_load_any (by rfl) 31 (.tmp 1) rfl ⟨w.heap.size, 0, none⟩ rfl X HCX.out _ Try.underlying31 rfl HXI.out ?_; go_simp
  go_big_quiet_step ((go_at_call 17; exact grow_call (C1.out _)))
  refine quiet_load_any (by rfl) 31 (.tmp 1) rfl ⟨w.heap.size, 0, none⟩ rfl X HCX.out _ Try.underlying31 rfl HXI.out ?_; go_simp
  go_big_quiet_step ((go_at_call 18; exact grow_call (C2.out _)))
  go_big_quiet_step (fail)
  go_big_quiet_step (fail)
  go_big_quiet_step ((go_at_call 14; exact grow_call (alive_any _)))
  go_big_quiet_step (fail)
  go_big_quiet_step (fail)
  refine wpQuiet_nil ?_
  first | (intro _ hw'; obtain ⟨u, hw''⟩ := hw'; subst hw'') | intro u
  go_wp2_with fail
  go_ret
  exact ⟨rfl, HBW.out.trans (u.prop.mono HBW.out.size)⟩
end Go.Proofs.Ytjgegggcbjecbaa

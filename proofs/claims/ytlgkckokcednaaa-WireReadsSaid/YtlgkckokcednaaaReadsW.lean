/- WireReads: the number that stands at any place of any bytes is read as the document says, or refused. No conditions but the row's own. -/
import Derived.Test.YtlgkckokcednaaaAlive
namespace Go.Proofs.Ytlgkckokcednaaa
open Go Go.RowKit

set_option maxRecDepth 100000 in
set_option maxHeartbeats 1000000 in
theorem wireReads_walk (A : Option Addr) (c : Nat) (l : List UInt8) (p : Int) (w : World) (hr : Rd w w.heap.size A l.length (bv l)) (hl : l.length ≤ c) (hc : c ≤ 140737488351232) (_ : -9223372036854775808 ≤ p ∧ p ≤ 9223372036854775807) :
    Calls Try.prog 4 #[.slice A l.length c, .int .i64 p] w (Ret (.bool true) w) := by
  have C1 := Lib.hid (lent_any A c l w hr (by omega))
  have hsl : (sB l).size = l.length := sB_size l
  have C3 := Lib.hid (fun w => refGetNum_any (sB l) p w (by omega))
  rw [sB_data] at C3
  obtain ⟨t, nx, e, hg⟩ : ∃ t nx e, Wi.getNum l p = (t, nx, e) := ⟨_, _, _, rfl⟩
  rw [hg] at C3
  have HG := Lib.hid hg
  have HR := Lib.hid hr
  have HCV := Lib.hid (fun (w : World) (B : Nat) (A : Option Addr) (n c : Nat) (l : List UInt8) (hr : Rd w B A n (bv l)) => (show (convert 22 9 (.slice A n c)).run Try.prog w = .ok (.string (sB l)) w from hr.str (P := Try.prog) c Try.underlying22 Try.underlying5 Try.underlying9))
  have k1 : ((t : Int) == (t : Int)) = true := by simp
  have k2 : ((nx : Int) == (nx : Int)) = true := by simp
  have k3 : ((e : Int) == (e : Int)) = true := by simp
  clear hsl hg hr
  go_enter Try.func4, Try.ntmps4
  go_wp2_with fail
  refine C1.out.mono ?_; rintro e' w1 ⟨g, c', rfl, hc', hm', hx, hb1⟩
  have hx1 := hx.take (k := l.length) (by omega)
  rw [← bv_take, List.take_left] at hx1
  have C2 := Lib.hid (getNum_any (some ⟨g, 0, none⟩) c' w1.heap.size p l w1 hx1 (by omega) (by omega))
  rw [HG.out] at C2
  have hcv1 := HCV.out w1 _ A l.length c l (HR.out.later hb1)
  have HX := Lib.hid hx
  have HH := Lib.hid (held_any g c' w1.heap.size c A l w1 hx ((HR.out.later hb1)) hc' hm')
  clear hx hx1
  go_wp2_with fail
  refine C2.out.mono ?_; rintro e' w' ⟨rfl, rfl⟩
  unfold getV
  go_wp2_with fail
  refine (C3.out _).mono ?_; rintro e' w' ⟨rfl, rfl⟩
  unfold getV
  go_wp2_with fail
  refine HH.out.mono ?_; rintro e' w2 ⟨rfl, n, rfl⟩
  go_wp2_with fail
  refine (alive_any _).mono ?_; rintro e' w2 ⟨rfl, hb2⟩
  go_wp2_with fail
  go_ret
  exact ⟨rfl, below_of (below_drewN hb1 n) hb2⟩
end Go.Proofs.Ytlgkckokcednaaa

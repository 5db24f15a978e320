/- WireNums: every number has the document's bytes, as many as are told, or is refused. No conditions but the row's own. -/
import Derived.Test.YtlgkckokcednaaaAlive
import Derived.Test.YtlgkckokcednaaaGrow
namespace Go.Proofs.Ytlgkckokcednaaa
open Go Go.RowKit

set_option maxRecDepth 100000 in
set_option maxHeartbeats 400000 in
theorem wireNums_walk (n : Int) (w : World) (h : -9223372036854775808 ≤ n ∧ n ≤ 9223372036854775807) :
    Calls Try.prog 3 #[.int .i64 n] w (Ret (.bool true) w) := by
  by_cases h0 : n < 0
  · have C1 := Lib.hid (num_neg n w h0)
    have C2 := Lib.hid (size_neg n w h0)
    go_enter Try.func3, Try.ntmps3
    go_wp2_with fail
    refine C1.out.mono ?_; rintro e w' ⟨rfl, rfl⟩
    go_wp2_with fail
    refine C2.out.mono ?_; rintro e w' ⟨rfl, rfl⟩
    go_wp2_with fail
    refine (alive_any _).mono ?_; rintro e w1 ⟨rfl, hb⟩
    go_wp2_with fail
    go_ret
    exact ⟨rfl, hb⟩
  · obtain ⟨k, rfl⟩ := Int.eq_ofNat_of_zero_le (show 0 ≤ n by omega)
    have hk : k < 9223372036854775808 := by omega
    have C1 := Lib.hid (num_any k w hk)
    have C2 := Lib.hid (fun w => size_any k w hk)
    have C3 := Lib.hid (fun w => refNum_any k k w (Nat.le_refl _) hk)
    have HCV := Lib.hid (fun (w : World) (B : Nat) (A : Option Addr) (c : Nat) (hr : Rd w B A (Wi.num k).length (bv (Wi.num k))) => (show (convert 22 9 (.slice A (Wi.num k).length c)).run Try.prog w = .ok (.string (sB (Wi.num k))) w from hr.str (P := Try.prog) c Try.underlying22 Try.underlying5 Try.underlying9))
    clear h hk
    go_enter Try.func3, Try.ntmps3
    go_wp2_with fail
    refine C1.out.mono ?_; rintro e w1 ⟨A, c, rfl, hc, hr, hb1⟩
    have hcv1 := fun u : Grw w1 => HCV.out u.val _ A c (hr.grw (Nat.le_refl _) u)
    generalize sB (Wi.num k) = S at *
    generalize hlen : (Wi.num k).length = m at *
    have hq1 : (S.toList == S.toList) = true := by simp
    have hq2 : ((m : Int) == (m : Int)) = true := by simp
    clear hc hr hlen HCV
    go_wp2_with fail
    refine wp_region_grow (by kernel_rfl) (by kernel_rfl) ?_
    repeat (refine wpQuiet_step (fun K hK => ?_); go_simp; first | (refine hK _ ?_; clear hK K) | (apply Exists.intro; refine ⟨fun u => ?_, hK _ ?_⟩; (first | (go_at_call 14; exact grow_call (C3.out _)) | (go_at_call 12; exact grow_same (C2.out _)) | (go_at_call 13; exact grow_call (alive_any _))); clear hK K))
    refine wpQuiet_nil ?_
    intro _ hw'
    obtain ⟨u, hw''⟩ := hw'
    subst hw''
    go_wp2_with fail
    go_ret
    exact ⟨rfl, below_of hb1 u.prop⟩
end Go.Proofs.Ytlgkckokcednaaa

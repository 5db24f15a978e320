/- DeltaMakes: any target is told by any base as the document says, byte by byte, or refused. No conditions but the row's own. -/
import Derived.Test.YtemcfmneokbhkaaAliv
namespace Go.Proofs.Ytemcfmneokbhkaa
open Go Go.RowKit

theorem conv_str (w : World) (B : Nat) (A : Option Addr) (n c : Nat) (l : List UInt8) (hr : Rd w B A n (bv l)) : (convert 22 9 (.slice A n c)).run Try.prog w = .ok (.string (sB l)) w :=
  hr.str (P := Try.prog) c Try.underlying22 Try.underlying5 Try.underlying9
theorem lent_rd {w : World} {B g : Nat} {l : List UInt8} (h : Rd w B (some ⟨g, 0, none⟩) (l.length + 2) (bv (l ++ [77, 78]))) : Rd w B (some ⟨g, 0, none⟩) l.length (bv l) := by
  have h1 := h.take (k := l.length) (by omega)
  rw [← bv_take, List.take_left] at h1
  exact h1

set_option maxRecDepth 100000 in
set_option maxHeartbeats 2000000 in
theorem deltaMakes_walk (A1 : Option Addr) (c1 : Nat) (base : List UInt8) (A2 : Option Addr) (c2 : Nat) (t : List UInt8) (w : World) (h1 : Rd w w.heap.size A1 base.length (bv base)) (hl1 : base.length ≤ c1) (hm1 : c1 ≤ 140737488351232) (h2 : Rd w w.heap.size A2 t.length (bv t)) (hl2 : t.length ≤ c2) (hm2 : c2 ≤ 140737488351232) :
    Calls Try.prog 3 #[.slice A1 base.length c1, .slice A2 t.length c2] w (Ret (.bool true) w) := by
  have C1 := Lib.hid (lent_any A1 c1 base w h1 (by omega))
  have H1 := Lib.hid h1
  have H2 := Lib.hid h2
  obtain ⟨K, e, hKe⟩ : ∃ K e, Dl.makeD base t = (K, e) := ⟨_, _, rfl⟩
  have HMK := Lib.hid (fun A1 A2 c1 c2 w h1 h2 hc1 hc2 => pmake_any A1 A2 c1 c2 base t w h1 h2 hc1 hc2 (by omega) (by omega))
  have HRM := Lib.hid (fun w => refMake_any base t w (by omega) (by omega))
  rw [hKe] at HMK HRM
  unfold mkR at HRM
  have k3 : ((e : Int) == (e : Int)) = true := by simp
  clear h1 h2 hKe
  go_enter Try.func3, Try.ntmps3
  go_wp2_with fail
  refine C1.out.mono ?_; rintro e' w1 ⟨g1, cx1, rfl, hcx1, hmx1, hx1, hb1⟩
  have HX1 := Lib.hid hx1
  have HB1 := Lib.hid hb1
  have C2 := Lib.hid (lent_any A2 c2 t w1 (H2.out.later hb1) (by omega))
  clear hx1 hb1
  go_wp2_with fail
  refine C2.out.mono ?_; rintro e' w2 ⟨g2, cx2, rfl, hcx2, hmx2, hx2, hb2⟩
  have HX2 := Lib.hid hx2
  have HB2 := Lib.hid (HB1.out.trans (hb2.mono HB1.out.size))
  have HX1b := Lib.hid (HX1.out.later hb2)
  have C3 := Lib.hid (HMK.out _ _ cx1 cx2 w2 (lent_rd HX1b.out) (lent_rd hx2) (by omega) (by omega))
  clear hx2 hb2
  go_wp2_with fail
  refine C3.out.mono ?_; rintro e' w3 ⟨v, rfl, ho, hb3⟩
  obtain ⟨A3, c3, hv, -, -, -⟩ := own_form ho
  subst hv
  have HB3 := Lib.hid (HB2.out.trans (hb3.mono HB2.out.size))
  have HX1c := Lib.hid (HX1b.out.later hb3)
  have HX2c := Lib.hid (HX2.out.later hb3)
  have HR3 := Lib.hid (Rd.of_own ho)
  have hcv1 := conv_str w3 _ A1 base.length c1 base (H1.out.later HB3.out)
  have hcv2 := conv_str w3 _ A2 t.length c2 t (H2.out.later HB3.out)
  clear ho hb3
  go_wp2_with fail
  refine (HRM.out w3).mono ?_; rintro e' w4 ⟨rfl, hb4⟩
  have HB4 := Lib.hid (HB3.out.trans (hb4.mono HB3.out.size))
  have hcv3 := conv_str w4 _ A3 K.length c3 K (HR3.out.later hb4)
  have HX2d := Lib.hid (HX2c.out.later hb4)
  have HH1 := Lib.hid (held_any g1 cx1 w4.heap.size c1 A1 base w4 (HX1c.out.later hb4) (H1.out.later HB4.out) hcx1 hmx1)
  clear hb4 hcv1 hcv2
  go_wp2_with fail
  refine HH1.out.mono ?_; rintro e' w5 ⟨rfl, n, rfl⟩
  have HH2 := Lib.hid (held_any g2 cx2 w4.heap.size c2 A2 t (w4.drewN n) (HX2d.out.drewN n) ((H2.out.later HB4.out).drewN n) hcx2 hmx2)
  go_wp2_with fail
  refine HH2.out.mono ?_; rintro e' w6 ⟨rfl, m, rfl⟩
  have HB6 := Lib.hid (below_drewN HB4.out (n + m))
  go_wp2_with fail
  refine (alive_any _).mono ?_; rintro e' w7 ⟨rfl, hb7⟩
  go_wp2_with fail
  go_ret
  exact ⟨rfl, HB6.out.trans (hb7.mono HB6.out.size)⟩
end Go.Proofs.Ytemcfmneokbhkaa

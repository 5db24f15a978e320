/- WireTexts: every text has the document's bytes, and the text at any place of any bytes is read, or refused, as the document says. No conditions but the row's own. -/
import Derived.Test.YtlgkckokcednaaaAlive
import Derived.Test.YtlgkckokcednaaaPutText
import Derived.Test.YtlgkckokcednaaaGetTextR
import Derived.Test.YtlgkckokcednaaaGrow
namespace Go.Proofs.Ytlgkckokcednaaa
open Go Go.RowKit

set_option maxRecDepth 100000 in
set_option maxHeartbeats 400000 in
theorem wireTexts_walk (s : ByteArray) (A : Option Addr) (c : Nat) (l : List UInt8) (p : Int) (w : World) (hs : s.size ≤ 140737488351232) (hr : Rd w w.heap.size A l.length (bv l)) (hl : l.length ≤ c) (hc : c ≤ 140737488351232) (_ : -9223372036854775808 ≤ p ∧ p ≤ 9223372036854775807) :
    Calls Try.prog 5 #[.string s, .slice A l.length c, .int .i64 p] w (Ret (.bool true) w) := by
  have C1 := Lib.hid (lent_any A c l w hr (by omega))
  have C4 := Lib.hid (fun w => text_any s w (by omega))
  have C5 := Lib.hid (fun w => refText_any s w (by omega))
  have hsl : (sB l).size = l.length := sB_size l
  have C3 := Lib.hid (fun w => refGetText_any (sB l) p w (by omega))
  rw [sB_data] at C3
  obtain ⟨t, nx, e, hg⟩ : ∃ t nx e, Wi.getText l p = (t, nx, e) := ⟨_, _, _, rfl⟩
  rw [hg] at C3
  have HG := Lib.hid hg
  have HR := Lib.hid hr
  have HCV := Lib.hid (fun (w : World) (B : Nat) (A : Option Addr) (n c : Nat) (l : List UInt8) (hr : Rd w B A n (bv l)) => (show (convert 22 9 (.slice A n c)).run Try.prog w = .ok (.string (sB l)) w from hr.str (P := Try.prog) c Try.underlying22 Try.underlying5 Try.underlying9))
  have k1 : ((sB t).toList == (sB t).toList) = true := by simp
  have k2 : ((nx : Int) == (nx : Int)) = true := by simp
  have k3 : ((e : Int) == (e : Int)) = true := by simp
  clear hsl hg hr
  go_enter Try.func5, Try.ntmps5
  go_wp2_with fail
  refine C1.out.mono ?_; rintro e' w1 ⟨g, c', rfl, hc', hm', hx, hb1⟩
  have hx1 := hx.take (k := l.length) (by omega)
  rw [← bv_take, List.take_left] at hx1
  have C2 := Lib.hid (getText_any (some ⟨g, 0, none⟩) c' w1.heap.size p l w1 hx1 (by omega) (by omega))
  rw [HG.out] at C2
  have hcv1 := HCV.out w1 _ A l.length c l (HR.out.later hb1)
  have HX := Lib.hid hx
  clear hx hx1
  go_wp2_with fail
  refine C2.out.mono ?_; rintro e' w' ⟨rfl, rfl⟩
  unfold textV
  go_wp2_with fail
  refine (C3.out _).mono ?_; rintro e' w' ⟨rfl, rfl⟩
  unfold textV
  go_wp2_with fail
  refine wp_region_any (by kernel_rfl) ?_
  change wpAny _ _ _ _ _ _ _ (World.drew _)
  refine wpAny_take (i := 0) (v := ?_) rfl (by kernel_rfl) (by kernel_rfl) (by kernel_rfl) (fun _ _ _ h => h) (Or.inl ⟨by rfl, ?_⟩) ?_
  rotate_left
  · intro w; go_simp; try with_reducible rfl
  change wpAny _ _ _ _ _ _ (Act.put _ _ _) _
  refine wpAny_take (i := 3) (v := ?_) rfl (by kernel_rfl) (by kernel_rfl) (by kernel_rfl) (fun _ _ _ h => h) (Or.inl ⟨by rfl, ?_⟩) ?_
  rotate_left
  · intro w; go_simp; try with_reducible rfl
  change wpAny _ _ _ _ _ _ (Act.put _ _ _) _
  refine wpAny_ready (rs := [1]) (by kernel_rfl) (by simp) ?_
  refine AllReady.cons rfl (fun K hK => ?_) AllReady.nil
  go_simp
  (refine (C4.out _).mono ?_; rintro e' w2 ⟨A2, c2, rfl, hc2, hr2, hb2⟩)
  refine hK _ _ ?_; clear hK K
  have hb2' : Below w1.heap.size w1 w2 := below_of ((Below.refl _ _).drew) hb2
  have hcv2 := fun u : Grw w2 => HCV.out u.val _ A2 _ c2 _ (hr2.grw (Nat.le_refl _) u)
  have HH := Lib.hid (fun u : Grw w2 => held_any g c' w1.heap.size c A l u.val ((HX.out.below hb2').grw hb2'.size u) (((HR.out.later hb1).below hb2').grw hb2'.size u) hc' hm')
  have k0 : ((sB (Wi.text s.data.toList)).toList == (sB (Wi.text s.data.toList)).toList) = true := by simp
  generalize sB (Wi.text s.data.toList) = S at *
  clear hr2 hcv1
  refine wpAny_grow (by kernel_rfl) (Picks.cons (i := 2) rfl <| Picks.cons (i := 4) rfl <| Picks.cons (i := 5) rfl <| Picks.cons (i := 6) rfl <| Picks.cons (i := 7) rfl <| Picks.cons (i := 8) rfl <| Picks.cons (i := 9) rfl <| Picks.cons (i := 10) rfl <| Picks.cons (i := 11) rfl <| Picks.cons (i := 12) rfl <| Picks.cons (i := 13) rfl <| Picks.cons (i := 14) rfl <| Picks.cons (i := 15) rfl <| Picks.cons (i := 16) rfl <| Picks.cons (i := 17) rfl <| Picks.cons (i := 18) rfl <| Picks.cons (i := 19) rfl <| Picks.cons (i := 20) rfl <| Picks.cons (i := 21) rfl <| Picks.cons (i := 22) rfl <| Picks.cons (i := 23) rfl <| Picks.cons (i := 24) rfl <| Picks.cons (i := 25) rfl <| Picks.cons (i := 26) rfl <| Picks.cons (i := 27) rfl <| Picks.cons (i := 28) rfl <| Picks.cons (i := 29) rfl <| Picks.nil _) (by kernel_rfl) rfl ?_
  go_simp
  repeat (go_big_quiet_step ((first | (go_at_call 22; exact grow_call (C5.out _)) | (go_at_call 18; exact grow_drew (HH.out _)) | (go_at_call 13; exact grow_call (alive_any _)))))
  refine wpQuiet_nil ?_
  first | (intro _ hw'; obtain ⟨u, hw''⟩ := hw'; subst hw'') | intro u
  go_wp2_with fail
  go_ret
  exact ⟨rfl, below_of (below_of hb1 hb2') u.prop⟩
end Go.Proofs.Ytlgkckokcednaaa

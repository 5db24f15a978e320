/- WireLists, where what is read is of bulk at most 1048576: every list has the document's bytes, and the list at any place of any bytes is read, or refused, as the document says. -/
import Derived.Test.YtlgkckokcednaaaAlive
import Derived.Test.YtlgkckokcednaaaListR
import Derived.Test.YtlgkckokcednaaaGetListR
import Derived.Test.YtlgkckokcednaaaGrow
namespace Go.Proofs.Ytlgkckokcednaaa
open Go Go.RowKit

theorem str_conv {w : World} {B n : Nat} {A : Option Addr} {s : List UInt8} (hr : Rd w B A n (bv s)) (c : Nat) :
    (convert 22 9 (.slice A n c)).run Try.prog w = .ok (.string (sB s)) w :=
  hr.str (P := Try.prog) c Try.underlying22 Try.underlying5 Try.underlying9

theorem sameB_self (L : List ByteArray) : sameB L L = true := decide_eq_true rfl

theorem same_tB (A A2 : Option Addr) (c c2 B : Nat) (K : List (List UInt8)) (w : World) (hr : Rd w B A K.length (sv (tB K))) (hr2 : Rd w B A2 K.length (sv (tB K))) (hm : K.length < 9223372036854775807) :
    Calls Try.prog 27 #[.slice A K.length c, .slice A2 K.length c2] w fun e w' => e = .returned (.bool true) ∧ ∃ n, w' = w.drewN n := by
  have e := tB_length K
  have h := same_any A A2 c c2 B (tB K) (tB K) w (by rw [e]; exact hr) (by rw [e]; exact hr2) (by rw [e]; exact hm)
  rw [sameB_self, e] at h
  exact h

theorem getList_len {l : List UInt8} {p : Int} {K : List (List UInt8)} {nx e : Nat} (h : Wi.getList l p = (K, nx, e)) : K.length ≤ 131072 := by
  by_cases he : e = 0
  · subst he
    exact (Wi.getList_just h).choose_spec.2.2.2.2.1
  · obtain ⟨n, next, f, hn⟩ : ∃ n next f, Wi.getNum l p = (n, next, f) := ⟨_, _, _, rfl⟩
    by_cases hf : f = 0
    · subst hf
      by_cases h3 : 131072 < n
      · rw [Wi.getList_long hn h3] at h; cases h; exact Nat.zero_le _
      · rw [Wi.getList_ok hn (by omega)] at h
        have h4 := Wi.getTexts_form l n next (by rw [h]; exact he)
        rw [h] at h4
        have : K = [] := (Prod.mk.inj h4).1
        rw [this]; exact Nat.zero_le _
    · rw [Wi.getList_err hn hf] at h; cases h; exact Nat.zero_le _

set_option maxRecDepth 100000 in
set_option maxHeartbeats 2000000 in
theorem wireLists_walk (A0 : Option Addr) (c0 : Nat) (L : List ByteArray) (A : Option Addr) (c : Nat) (l : List UInt8) (p : Int) (w : World) (hr0 : Rd w w.heap.size A0 L.length (sv L)) (_ : L.length ≤ c0) (_ : c0 ≤ 9223372036854775807)
    (hr : Rd w w.heap.size A l.length (bv l)) (hl : l.length ≤ c) (_ : c ≤ 9223372036854775807) (_ : -9223372036854775808 ≤ p ∧ p ≤ 9223372036854775807)
    (hb : ((Wi.list (tl L)).length ≤ 20000000 ∧ (∀ s ∈ L, s.size ≤ 1048576) ∧ L.length ≤ 1048576) ∧ c ≤ 1048576) :
    Calls Try.prog 6 #[.slice A0 L.length c0, .slice A l.length c, .int .i64 p] w (Ret (.bool true) w) := by
  obtain ⟨⟨hb1, hb2, hb3⟩, hb4⟩ := hb
  have C1 := Lib.hid (lent_any A c l w hr (by omega))
  have C4 := Lib.hid (fun (w : World) (hr : Rd w w.heap.size A0 L.length (sv L)) => list_any A0 c0 L w hr (by omega))
  have C5 := Lib.hid (fun (w : World) (hr : Rd w w.heap.size A0 L.length (sv L)) => refList_any A0 c0 L w hr (fun s hs => by have := hb2 s hs; omega) (by omega))
  have hsl : (sB l).size = l.length := sB_size l
  have C3 := Lib.hid (fun w => refGetList_any (sB l) p w (by omega))
  rw [sB_data] at C3
  obtain ⟨K, nx, e, hg⟩ : ∃ t nx e, Wi.getList l p = (t, nx, e) := ⟨_, _, _, rfl⟩
  have hK := getList_len hg
  rw [hg] at C3
  have HG := Lib.hid hg
  have HR := Lib.hid hr
  have HR0 := Lib.hid hr0
  have k2 : ((nx : Int) == (nx : Int)) = true := by simp
  have k3 : ((e : Int) == (e : Int)) = true := by simp
  clear hsl hg hr hr0 hb2
  go_enter Try.func6, Try.ntmps6
  go_wp2_with fail
  refine C1.out.mono ?_; rintro e' w1 ⟨g, c', rfl, hc', hm', hx, hb1⟩
  have hx1 := hx.take (k := l.length) (by omega)
  rw [← bv_take, List.take_left] at hx1
  have C2 := Lib.hid (getList_any (some ⟨g, 0, none⟩) c' p l w1 hx1 (by omega) (by omega))
  rw [HG.out] at C2
  have HX := Lib.hid hx
  clear hx hx1
  go_wp2_with fail
  refine C2.out.mono ?_; rintro e' w2 ⟨A2, c2, hv, hc2, hr2, hb2⟩
  simp only [] at hv hc2 hr2
  subst hv
  have hB2 : Below w.heap.size w w2 := below_of hb1 hb2
  have hcv1 := str_conv (HR.out.later hB2) c
  have HR2 := Lib.hid hr2
  clear hr2
  go_wp2_with fail
  refine (C3.out _).mono ?_; rintro e' w3 ⟨A3, c3, hv, hc3, hr3, hb3⟩
  simp only [] at hv hc3 hr3
  subst hv
  have hB3 : Below w.heap.size w w3 := below_of hB2 hb3
  have HR3 := Lib.hid hr3
  clear hr3 hcv1
  go_wp2_with fail
  refine wp_region_any (by kernel_rfl) ?_
  change wpAny _ _ _ _ _ _ _ (World.drew _)
  refine wpAny_take (i := 0) (v := ?_) rfl (by kernel_rfl) (by kernel_rfl) (by kernel_rfl) (fun _ _ _ h => h) (Or.inl ⟨by rfl, ?_⟩) ?_
  rotate_left
  · intro w; go_simp; try with_reducible rfl
  change wpAny _ _ _ _ _ _ (Act.put _ _ _) _
  refine wpAny_take (i := 3) (v := ?_) rfl (by kernel_rfl) (by kernel_rfl) (by kernel_rfl) (fun _ _ _ h => h) (Or.inl ⟨by rfl, ?_⟩) ?_
  rotate_left
  · intro w; go_simp; try with_reducible rfl
  change wpAny _ _ _ _ _ _ (Act.put _ _ _) _
  refine wpAny_ready (rs := [1]) (by kernel_rfl) (by simp) ?_
  refine AllReady.cons rfl (fun K hK => ?_) AllReady.nil
  go_simp
  (refine (C4.out _ ((HR0.out.later hB3).drew)).mono ?_; rintro e' w4 ⟨A4, c4, rfl, hc4, hr4, hb4⟩)
  refine hK _ _ ?_; clear hK K
  have hB4 : Below w3.heap.size w3 w4 := below_of ((Below.refl _ _).drew) hb4
  have hB24 : Below w2.heap.size w2 w4 := hb3.trans (hB4.mono hb3.size)
  have hB14 : Below w1.heap.size w1 w4 := hb2.trans (hB24.mono hb2.size)
  have hB04 : Below w.heap.size w w4 := hb1.trans (hB14.mono hb1.size)
  have hcv4 := fun u : Grw w4 => str_conv (hr4.grw (Nat.le_refl _) u) c4
  have HH := Lib.hid (fun u : Grw w4 => held_any g c' w1.heap.size c A l u.val ((HX.out.below hB14).grw hB14.size u) (((HR.out.later hb1).below hB14).grw hB14.size u) hc' hm')
  have HS := Lib.hid (fun u : Grw w4 => same_tB A2 A3 c2 c3 w3.heap.size K u.val ((((HR2.out.below hb3).more hb3.size).below hB4).grw hB4.size u) ((HR3.out.below hB4).grw hB4.size u) (by omega))
  have HL := Lib.hid (fun u : Grw w4 => C5.out u.val (((HR0.out.later hB04).grw (Nat.le_refl _) u).more u.prop.size))
  have k0 : ((sB (Wi.list (tl L))).toList == (sB (Wi.list (tl L))).toList) = true := by simp
  generalize sB (Wi.list (tl L)) = S at *
  clear hr4
  refine wpAny_grow (by kernel_rfl) (Picks.cons (i := 2) rfl <| Picks.cons (i := 4) rfl <| Picks.cons (i := 5) rfl <| Picks.cons (i := 6) rfl <| Picks.cons (i := 7) rfl <| Picks.cons (i := 8) rfl <| Picks.cons (i := 9) rfl <| Picks.cons (i := 10) rfl <| Picks.cons (i := 11) rfl <| Picks.cons (i := 12) rfl <| Picks.cons (i := 13) rfl <| Picks.cons (i := 14) rfl <| Picks.cons (i := 15) rfl <| Picks.cons (i := 16) rfl <| Picks.cons (i := 17) rfl <| Picks.cons (i := 18) rfl <| Picks.cons (i := 19) rfl <| Picks.cons (i := 20) rfl <| Picks.cons (i := 21) rfl <| Picks.cons (i := 22) rfl <| Picks.cons (i := 23) rfl <| Picks.cons (i := 24) rfl <| Picks.cons (i := 25) rfl <| Picks.cons (i := 26) rfl <| Picks.cons (i := 27) rfl <| Picks.cons (i := 28) rfl <| Picks.cons (i := 29) rfl <| Picks.nil _) (by kernel_rfl) rfl ?_
  go_simp
  repeat (go_big_quiet_step ((first | (go_at_call 26; exact grow_call (HL.out _)) | (go_at_call 27; exact grow_drew (HS.out _)) | (go_at_call 18; exact grow_drew (HH.out _)) | (go_at_call 13; exact grow_call (alive_any _)))))
  refine wpQuiet_nil ?_
  first | (intro _ hw'; obtain ⟨u, hw''⟩ := hw'; subst hw'') | intro u
  go_wp2_with fail
  go_ret
  exact ⟨rfl, below_of hB04 u.prop⟩
end Go.Proofs.Ytlgkckokcednaaa

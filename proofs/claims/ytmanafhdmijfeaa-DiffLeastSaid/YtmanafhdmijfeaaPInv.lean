/- The program's Invert. -/
import Derived.Test.YtmanafhdmijfeaaPHold
namespace Go.Proofs.Ytmanafhdmijfeaa
open Go Go.RowKit

/-- The way back so far, in block B. -/
def InvI (B : Nat) (J : List Ed) (N : Nat) (a : List UInt8) (_ : List UInt8) (R : List Ed) (T : Nat) (w : World) : Prop := ∃ v K, Boxed B K T v w ∧ J = K ++ invS a R ∧ K.length + R.length = N

theorem inv_next {B N T : Nat} {J K R : List Ed} {a : List UInt8} {x e : Ed} {out : List UInt8} {v' : Value} {w w0 w' : World} (hJ : J = K ++ invS a (x :: R)) (hN : K.length + (x :: R).length = N) (he : inv1 a x = e) (h : Held B (K ++ [e]) T w v' w') (hb : Below B w0 w)
    (hst : ∀ g cs, Blk w0 g 32 cs → Blk w g 32 cs) :
    Below B w0 w' ∧ (∃ T', T' ≤ w'.heap.size ∧ InvI B J N (a.drop x.n.toNat) out R T' w') ∧ ∀ g cs, T ≤ g → Blk w0 g 32 cs → Blk w' g 32 cs :=
  ⟨hb.trans h.hb, ⟨_, Nat.le_refl _, v', _, h.box, by rw [hJ, invS, he, List.append_assoc]; rfl, by simp at hN ⊢; omega⟩, fun g cs h1 h2 => h.stay g _ cs (.inr h1) (by have := h.hBT; omega) (hst g cs h2)⟩

set_option maxRecDepth 100000 in
set_option maxHeartbeats 4000000 in
theorem hands_invert (B N : Nat) (J : List Ed) (hN : N * 32 ≤ 140737488351232) : Hands 34 B (InvI B J N) where
  ent := enters_of Try.func34 (by kernel_rfl) rfl
  keep := fun a out R T w w' ⟨v, K, h, h2⟩ hb => ⟨v, K, h.later hb, h2⟩
  act := by
    intro a out x R T w hm hn ha hp hBw hTw hI
    obtain ⟨v, K, hX0, hJ, hKN⟩ := hI
    obtain ⟨i0, hi, hz0, hz1, hz2⟩ := info_parts infoEd
    have HJ := Lib.hid hJ
    have HKN := Lib.hid hKN
    have hKl : K.length + 1 ≤ N := by simp at hKN; omega
    have HK := Lib.hid (mayB_kind' hm)
    have hsz2 := sB_size (a.take x.n.toNat)
    have htl : (a.take x.n.toNat).length ≤ 1000 := by rw [List.length_take]; omega
    have HI2 := Lib.hid (inv1_put (a := a) (m := x.n.toNat) (t := x.text))
    have hn0 := mayB_n hm
    clear hJ hKN hm hp
    obtain ⟨kd, n, t⟩ := x
    unfold edV
    simp only [] at hn htl hsz2 HK HI2 hn0 ⊢
    obtain ⟨wa, hwa⟩ : ∃ y, y = w.alloc (.cells #[.int .i64 kd, .int .i64 n, .string (sB t)] 32) := ⟨_, rfl⟩
    have hAl : Below w.heap.size w wa := by rw [hwa]; exact below_alloc w _
    have HST := Lib.hid (show ∀ g cs, Blk w g 32 cs → Blk wa g 32 cs from fun g cs h => h.later hAl)
    have hX := hX0.later hAl
    have hS : Blk wa w.heap.size 32 #[.int .i64 kd, .int .i64 n, .string (sB t)] := by rw [hwa]; exact Blk.new w _ _
    have s0 := hS.cell 0
    have s1 := hS.cell 1
    have s2 := hS.cell 2
    simp only [List.getElem?_toArray, List.getElem?_cons_zero, List.getElem?_cons_succ] at s0 s1 s2
    have hba : B ≤ wa.heap.size := Nat.le_trans hBw hAl.size
    have HAl := Lib.hid (hAl.mono hBw)
    have cB : wa.cell? ⟨B, 0, none⟩ = some v := hX.blk.cell 0
    have fB := hX.blk.frozen 0
    have HX := Lib.hid hX
    replace hwa := hwa.symm
    clear hX hAl hS hX0
    by_cases h1 : kd = 1
    · subst h1
      have HE := Lib.hid (show inv1 a ⟨1, n, t⟩ = ⟨1, n, t⟩ by simp [inv1])
      go_enter Try.func34, Try.ntmps34
      go_wp2_with (at_builtin; go_must (refine wp_appK _ 3 rfl (.tmp 9) (.tmp 11) 22 22 rfl B 32 i0 _ 32 Try.underlying22 hi hz0 hz1 hz2 rfl v K.length (ev K) rfl (HX.out.own.alloc _) (.slice (some ⟨wa.heap.size, 0, none⟩) 1 1) 1 (edCells ⟨1, n, t⟩) rfl (new_srcK 3 Try.underlying22 wa (edCells ⟨1, n, t⟩) 1 1 32 (0, 0) rfl (ev_one [⟨1, n, t⟩] · ·)) (by unfold maxLen; omega) (by omega) (by simp; omega) ?_); intro v2 w2 ho2 hg2 _; rw [ev_snoc, ← len_snoc K ⟨1, n, t⟩] at ho2; obtain ⟨A2, k2, hv2, -, -, -⟩ := own_form ho2; subst hv2; have HH := Lib.hid (held_next HX.out (below_alloc wa _) ho2 hg2); have hb2 := (HX.out.blk.alloc _).grown hg2 (fun e => HX.out.ne e.symm); have c2 := hb2.cell 0; have f2 := hb2.frozen 0; simp only [List.getElem?_toArray, List.getElem?_cons_zero] at c2; clear ho2 hg2 hb2 cB fB s0 s1 s2)
      go_end0
      have hh := HH.out
      simp only [len_snoc] at hh
      exact ⟨rfl, inv_next HJ.out HKN.out HE.out hh HAl.out HST.out⟩
    by_cases h3 : kd = 3
    · subst h3
      have HE := Lib.hid (show inv1 a ⟨3, n, t⟩ = ⟨2, (t.length : Int), []⟩ by simp [inv1])
      have hbc := build_cut
      have hsi : ((sB t).size : Int) = (t.length : Int) := by rw [sB_size]
      go_enter Try.func34, Try.ntmps34
      go_wp2_with (at_builtin; go_must (refine wp_appK _ 3 rfl (.tmp 23) (.tmp 28) 22 22 rfl B 32 i0 _ 32 Try.underlying22 hi hz0 hz1 hz2 rfl v K.length (ev K) rfl (HX.out.own.alloc _) (.slice (some ⟨wa.heap.size, 0, none⟩) 1 1) 1 (edCells ⟨2, (t.length : Int), []⟩) rfl (new_srcK 3 Try.underlying22 wa (edCells ⟨2, (t.length : Int), []⟩) 1 1 32 (0, 0) rfl (ev_one [⟨2, (t.length : Int), []⟩] · ·)) (by unfold maxLen; omega) (by omega) (by simp; omega) ?_); intro v2 w2 ho2 hg2 _; rw [ev_snoc, ← len_snoc K ⟨2, (t.length : Int), []⟩] at ho2; obtain ⟨A2, k2, hv2, -, -, -⟩ := own_form ho2; subst hv2; have HH := Lib.hid (held_next HX.out (below_alloc wa _) ho2 hg2); have hb2 := (HX.out.blk.alloc _).grown hg2 (fun e => HX.out.ne e.symm); have c2 := hb2.cell 0; have f2 := hb2.frozen 0; simp only [List.getElem?_toArray, List.getElem?_cons_zero] at c2; clear ho2 hg2 hb2 cB fB s0 s1 s2)
      go_end0
      have hh := HH.out
      simp only [len_snoc] at hh
      exact ⟨rfl, inv_next HJ.out HKN.out HE.out hh HAl.out HST.out⟩
    · obtain rfl : kd = 2 := by have := HK.out; omega
      have b1 : ((2 : Int) == 1) = false := rfl
      have b2 : ((2 : Int) == 2) = true := rfl
      have HE := Lib.hid (show inv1 a ⟨2, n, t⟩ = ⟨3, 0, a.take n.toNat⟩ by simp [inv1])
      have hbp := build_put
      go_enter Try.func34, Try.ntmps34
      go_wp2_with fail
      have HXd := Lib.hid HX.out.drew
      have hBd := HXd.out.blk
      have HAd := Lib.hid HAl.out.drew
      have HSTd := Lib.hid (show ∀ g cs, Blk w g 32 cs → Blk wa.drew g 32 cs from fun g cs h => (HST.out g cs h).drew)
      have hbd : B ≤ wa.drew.heap.size := hba
      refine wp_region_any (by kernel_rfl) ?_
      change wpAny _ _ _ _ _ _ _ (World.drew _)
      refine wpAny_of_zed (S := fun w' => Blk w' B 22 #[v]) (z := 6) _ _ _ _ ?_
      generalize World.drew wa = wd at *
      refine zed_take (i := 0) (v := v) rfl (by kernel_rfl) (by kernel_rfl) (by kernel_rfl) (by kernel_rfl) (fun _ _ _ h => h) (Or.inl ⟨by rfl, ?_⟩) hBd ?_
      · intro wq hS
        have hS' : wq.cell? ⟨B, 0, none⟩ = some v := Blk.cell hS 0
        go_simp
      change wpAnyZ _ _ _ _ _ _ _ _ (Act.put _ _ _) _
      refine zed_take (i := 1) (v := ?_) rfl (by kernel_rfl) (by kernel_rfl) (by kernel_rfl) (by kernel_rfl) (fun _ _ _ h => h) (Or.inl ⟨by rfl, ?_⟩) (hBd) ?_
      rotate_left
      · intro wq hS
        have hS' := hS
        try simp only [] at hS'
        go_simp; try with_reducible rfl
      change wpAnyZ _ _ _ _ _ _ _ _ (Act.put _ _ _) _
      go_simp
      have HC := Lib.hid (clone_any (sB (a.take n.toNat)) wd (by omega))
      refine zed_op 2 (by kernel_rfl) rfl rfl (fun Kq hK => ?_)
      go_simp
      refine HC.out.mono ?_; rintro e' w5 ⟨rfl, hb5⟩
      have HX5 := Lib.hid (HXd.out.later hb5)
      refine hK _ _ (fun _ => HX5.out.blk) ?_; clear hK Kq
      go_simp
      have hbp := build_put
      refine zed_op 3 (by kernel_rfl) rfl rfl (fun Kq hK => ?_)
      go_simp
      refine hK _ _ (fun _ => HX5.out.blk) ?_; clear hK Kq
      go_simp
      refine zed_op 4 (by kernel_rfl) rfl rfl (fun Kq hK => ?_)
      go_simp
      have HSb : Blk (w5.alloc (Obj.cells #[Value.int IntKind.i64 3, Value.int IntKind.i64 0, Value.string (sB (List.take n.toNat a))] 32)) B 22 #[v] := HX5.out.blk.alloc _
      refine hK _ _ (fun _ => HSb) ?_; clear hK Kq
      have hb5s : B ≤ w5.heap.size := Nat.le_trans hbd hb5.size
      refine zed_op 5 (by kernel_rfl) rfl rfl (fun Kq hK => op_appK _ 3 (.tmp 15) (.tmp 19) 22 22 rfl B 32 i0 _ 32 Try.underlying22 hi hz0 hz1 hz2 rfl v K.length (ev K) rfl (HX5.out.own.alloc _) (.slice (some ⟨w5.heap.size, 0, none⟩) 1 1) 1 (edCells ⟨3, 0, a.take n.toNat⟩) rfl (new_srcK 3 Try.underlying22 w5 (edCells ⟨3, 0, a.take n.toNat⟩) 1 1 32 (0, 0) rfl (ev_one [⟨3, 0, a.take n.toNat⟩] · ·)) (by unfold maxLen; omega) (by omega) (by simp; omega) ?_)
      intro v2 w2 ho2 hg2 _
      rw [ev_snoc, ← len_snoc K ⟨3, 0, a.take n.toNat⟩] at ho2
      obtain ⟨A2, k2, hv2, -, -, -⟩ := own_form ho2
      subst hv2
      have HH := Lib.hid (held_next HXd.out (hb5.trans ((below_alloc w5 _).mono hb5.size)) ho2 hg2)
      have hb2 := HSb.grown hg2 (fun e => HX5.out.ne e.symm)
      have c2 := hb2.cell 0
      have f2 := hb2.frozen 0
      simp only [List.getElem?_toArray, List.getElem?_cons_zero] at c2
      refine hK _ _ (fun _ => hb2) ?_; clear hK Kq
      go_simp
      refine zed_op 6 (by kernel_rfl) rfl rfl (fun Kq hK => ?_)
      go_simp
      refine hK _ _ (fun h => absurd rfl h) ?_; clear hK Kq
      refine ⟨by kernel_rfl, ?_⟩
      go_wp2_with fail
      go_end0
      have hh := HH.out
      simp only [len_snoc] at hh
      exact ⟨rfl, inv_next HJ.out HKN.out HE.out hh HAd.out HSTd.out⟩

set_option maxRecDepth 100000 in
set_option maxHeartbeats 2000000 in
theorem pinvert_any (a : List UInt8) (A : Option Addr) (c : Nat) (L : List Ed) (w : World) (h : Rd w w.heap.size A (L.length * 3) (ev L)) (hl : L.length * 32 ≤ 140737488351232) (_hc : L.length ≤ c ∧ c ≤ 9223372036854775807) (ht : ∀ x ∈ L, x.text.length ≤ 4611686018427387904) (_hal : a.length ≤ 4611686018427387904) :
    Calls Try.prog 20 #[.string (sB a), .slice A L.length c] w (OwnEd (invR a L).1 (invR a L).2 w) := by
  have hb0 := below_alloc w (.cells #[.slice none 0 0] 22)
  have hlt : w.heap.size < (w.alloc (.cells #[.slice none 0 0] 22)).heap.size := by simp
  have HO := Lib.hid (over_any _ _ _ (hands_invert w.heap.size L.length (invS a L) hl) a A c _ L (w.alloc (.cells #[.slice none 0 0] 22)) (h.below hb0) (by omega) ht hb0.size (Nat.le_refl _) ⟨.slice none 0 0, [], ⟨Blk.new w _ _, World.ownsRow_nil _ _ _ _, fun g hg => (by cases hg), hlt⟩, rfl, by simp⟩)
  have HB0 := Lib.hid hb0
  have hmf : ∀ (fn : Fn) (first cap : Array Value) (w : World), (Instr.makeFunc fn first cap).run Try.prog w = .ok (.func fn first cap) w := fun _ _ _ _ => rfl
  clear h hb0
  go_enter Try.func20, Try.ntmps20
  go_wp2_with fail
  refine HO.out.mono ?_; rintro e w1 ⟨hB1, hE⟩
  have HB1 := Lib.hid (HB0.out.trans hB1)
  rcases hE with ⟨n, hap, rfl⟩ | ⟨s, T, hap, rfl, hT, v, K, hX, hJ, -⟩
  · have hne : ((n : Int) != 0) = true := by rw [bne_iff_ne]; have := applyS_err hap; omega
    have hne2 : ¬ n = 0 := by have := applyS_err hap; omega
    have HR := Lib.hid (show invR a L = ([], n) by unfold invR; rw [hap])
    clear hap hB1
    go_wp2_with fail
    go_ret2
    rw [HR.out]
    exact ⟨_, rfl, World.ownsRow_nil _ _ _ _, HB1.out⟩
  · have HR := Lib.hid (show invR a L = (K, 0) by unfold invR; rw [hap, hJ]; simp [invS])
    have c0 := hX.blk.cell 0
    simp only [List.getElem?_toArray, List.getElem?_cons_zero] at c0
    have HX := Lib.hid hX
    clear hap hB1 hJ hX hT
    go_wp2_with fail
    go_ret2
    rw [HR.out]
    exact ⟨_, rfl, HX.out.own, HB1.out⟩
end Go.Proofs.Ytmanafhdmijfeaa

/- WireBack, where what is read is of bulk at most 1048576: a number, a text and a list that were put are got again, with anything ahead of them and behind them. -/
import Derived.Test.YtlgkckokcednaaaAlive
import Derived.Test.YtlgkckokcednaaaBackA
import Derived.Test.YtlgkckokcednaaaPutText
import Derived.Test.YtlgkckokcednaaaGetList
namespace Go.Proofs.Ytlgkckokcednaaa
open Go Go.RowKit

theorem neg_int {n : Int} (h : n < 0) (hn : -9223372036854775808 ≤ n) : ∃ m : Nat, m < 9223372036854775808 ∧ IntKind.i64.wrap (n + 1) = n + 1 ∧ IntKind.i64.wrap (-(n + 1)) = (m : Int) :=
  ⟨(-(n + 1)).toNat, by omega, IntWalk.i64_in _ (by omega), by rw [IntWalk.i64_in _ (by omega)]; omega⟩

theorem sizes_tl {L : List ByteArray} (h : ∀ j s, j < L.length → L[j]? = some s → s.size ≤ 131072) : ∀ t ∈ tl L, t.length ≤ 131072 := by
  intro t ht
  unfold tl at ht
  obtain ⟨s, hs, rfl⟩ := List.mem_map.1 ht
  obtain ⟨j, hj⟩ := List.getElem?_of_mem hs
  rw [Array.length_toList]
  exact h j s (List.getElem?_eq_some_iff.1 hj).1 hj

set_option maxRecDepth 100000 in
set_option maxHeartbeats 8000000 in
theorem wireBack_walk (n : Int) (A0 : Option Addr) (c0 : Nat) (L : List ByteArray) (Ap : Option Addr) (cp : Nat) (lp : List UInt8) (Aq : Option Addr) (cq : Nat) (lq : List UInt8) (w : World) (hn : -9223372036854775808 ≤ n ∧ n ≤ 9223372036854775807)
    (hr0 : Rd w w.heap.size A0 L.length (sv L)) (_ : L.length ≤ c0) (_ : c0 ≤ 9223372036854775807) (hrp : Rd w w.heap.size Ap lp.length (bv lp)) (_ : lp.length ≤ cp) (_ : cp ≤ 9223372036854775807)
    (hrq : Rd w w.heap.size Aq lq.length (bv lq)) (_ : lq.length ≤ cq) (_ : cq ≤ 9223372036854775807)
    (hb : ((Wi.list (tl L)).length ≤ 20000000 ∧ (∀ s ∈ L, s.size ≤ 1048576) ∧ L.length ≤ 1048576) ∧ cp ≤ 1048576 ∧ cq ≤ 1048576) :
    Calls Try.prog 7 #[.int .i64 n, .slice A0 L.length c0, .agg #[.slice Ap lp.length cp, .slice Aq lq.length cq]] w (Ret (.bool true) w) := by
  obtain ⟨⟨hb1, hb2, hb3⟩, hb4', hb5'⟩ := hb
  have hb4 : lp.length ≤ 1048576 := by omega
  have hb5 : lq.length ≤ 1048576 := by omega
  clear hb4' hb5'
  obtain ⟨i0, hi, hz0, hz1, hz2⟩ := info_parts infoU8
  have C4 := Lib.hid (fun (w : World) (hr : Rd w w.heap.size A0 L.length (sv L)) => list_any A0 c0 L w hr (by omega))
  have hT0 := Wi.list_pos (tl L)
  have HS2 := Lib.hid hb2
  have HR0 := Lib.hid hr0
  have HRP := Lib.hid hrp
  have HRQ := Lib.hid hrq
  have HNP := Lib.hid (fun (m : Nat) (hm : m < 9223372036854775808) => back_num lp lq (Wi.list (tl L)) hm)
  have HLP := Lib.hid (fun (X : List UInt8) => back_list lp lq X (tl L))
  obtain ⟨T, hT⟩ : ∃ T, T = Wi.list (tl L) := ⟨_, rfl⟩
  rw [← hT] at C4 HNP HLP hb1 hT0
  clear hb2 hT hr0 hrp hrq
  by_cases h0 : n < 0
  · obtain ⟨m, hm, hn1, hn2⟩ := neg_int h0 hn.1
    have hN0 := Wi.num_pos m
    have hN9 := Wi.num_len_nine hm
    have C1 := Lib.hid (fun w => num_any m w hm)
    have HNX := Lib.hid (HNP.out m hm)
    obtain ⟨X, hX⟩ : ∃ X, X = Wi.num m := ⟨_, rfl⟩
    rw [← hX] at C1 HNX hN0 hN9
    have HLX := Lib.hid (HLP.out X)
    clear hX hm HNP HLP
    have g0 : (w.alloc (.cells #[.slice Ap lp.length cp, .slice Aq lq.length cq] 53)).cell? ⟨w.heap.size, 0, none⟩ = some (.slice Ap lp.length cp) := World.news_of_block (heap_alloc_new w _) 0 _ rfl
    have g1 : (w.alloc (.cells #[.slice Ap lp.length cp, .slice Aq lq.length cq] 53)).cell? ⟨w.heap.size, 1, none⟩ = some (.slice Aq lq.length cq) := World.news_of_block (heap_alloc_new w _) 1 _ rfl
    have gs : w.heap.size < (w.alloc (.cells #[.slice Ap lp.length cp, .slice Aq lq.length cq] 53)).heap.size := by simp
    have gb : Below w.heap.size w (w.alloc (.cells #[.slice Ap lp.length cp, .slice Aq lq.length cq] 53)) := (Below.refl _ _).alloc (Nat.le_refl _) _
    go_enter Try.func7, Try.ntmps7
    go_wp2_with fail
    generalize w.alloc (.cells #[.slice Ap lp.length cp, .slice Aq lq.length cq] 53) = w0 at *
    have HC := Lib.hid (fun (w' : World) (hb : Below w0.heap.size w0 w') => And.intro ((hb.cell (p := ⟨w.heap.size, 0, none⟩) gs).trans g0) ((hb.cell (p := ⟨w.heap.size, 1, none⟩) gs).trans g1))
    have HB := Lib.hid (fun (w' : World) (hb : Below w0.heap.size w0 w') => below_of gb hb)
    clear g0 g1
    refine (C1.out w0).mono ?_; rintro e' w1 ⟨A1, c1, rfl, hc1, hr1, hbb1⟩
    have hB1 := HB.out _ hbb1
    have hle1 := hB1.size
    have kc1 := fun o : Obj => (HC.out _ (hbb1.alloc hbb1.size o)).1
    go_wp2_with (first
      | (at_builtin; (refine wp_app' _ rfl (.tmp 33) (.tmp 35) 22 22 rfl w1.heap.size 5 i0 _ 1 Try.underlying22 hi hz0 hz1 hz2 rfl (.slice (some ⟨w1.heap.size, 0, none⟩) 0 0) 0 [] rfl (World.ownsRow_made w1 #[] 0 (Nat.le_refl _) (Nat.zero_le _) rfl) (.slice Ap lp.length cp) lp.length (bv lp) rfl (((HRP.out.below hB1).alloc hle1 _).src Try.underlying22 cp (bv_one lp)) (by unfold maxLen; omega) (by omega) (by simp) ?_); intro v2 w2 ho2 hb12; rw [Nat.zero_add, List.nil_append] at ho2; have hB2 := (Below.refl w1.heap.size w1).alloc (Nat.le_refl _) _ |>.trans hb12; clear hb12)
      | (at_builtin; go_must (refine wp_app' _ rfl (.tmp 36) (.tmp 37) 22 22 rfl w1.heap.size 5 i0 _ 1 Try.underlying22 hi hz0 hz1 hz2 rfl v2 lp.length (bv lp) rfl ho2 (.slice A1 X.length c1) X.length (bv X) rfl ((hr1.below hB2).src Try.underlying22 c1 (bv_one X)) (by unfold maxLen; omega) (by omega) hB2.size ?_); intro v3 w3 ho3 hb23))
    have hB3 := hB2.trans hb23
    have hW3 := HB.out _ (hbb1.trans (hB3.mono hbb1.size))
    refine (C4.out w3 ((HR0.out.below hW3).more hW3.size)).mono ?_; rintro e' w4 ⟨A4, c4, rfl, hc4, hr4, hb4⟩
    have ho4 := own_below ho3 hb4
    have hB4 := hB3.trans (hb4.mono hB3.size)
    go_wp2_with (first
      | (at_builtin; go_must (refine wp_app' _ rfl (.tmp 38) (.tmp 40) 22 22 rfl w1.heap.size 5 i0 _ 1 Try.underlying22 hi hz0 hz1 hz2 rfl v3 (lp.length + X.length) (bv lp ++ bv X) rfl ho4 (.slice A4 T.length c4) T.length (bv T) rfl (hr4.src Try.underlying22 c4 (bv_one T)) (by unfold maxLen; omega) (by omega) hB4.size ?_); intro v5 w5 ho5 hb45))
    have hB5 : Below w0.heap.size w0 w5 := hbb1.trans ((hB4.trans hb45).mono hbb1.size)
    obtain ⟨b, hbx⟩ : ∃ b, b = lp ++ X ++ T := ⟨_, rfl⟩
    have hbl : b.length = lp.length + X.length + T.length := by rw [hbx, List.length_append, List.length_append]
    rw [← bv_append, ← bv_append, ← hbx, ← hbl] at ho5
    have hbm : b.length ≤ 30000000 := by omega
    have HBL := Lib.hid hbl
    clear hbl
    have HNB := HNX.out
    rw [← hbx] at HNB
    obtain ⟨A9, c9, hv9, hc9, hm9, -⟩ := own_form ho5
    subst hv9
    have hr9 : Rd w5 w5.heap.size A9 b.length (bv b) := Rd.of_own ho5
    have HNBH := Lib.hid HNB
    have HBX := Lib.hid hbx
    clear HNB hbx ho2 ho3 ho4 ho5 hr1 hr4 hb4 hb45 hb23 hB2 hB3 hB4 hW3 kc1 hB1 hle1 HNX C1
    have hD5 : Below w0.heap.size w0 w5.drew := hB5.drew
    refine wp_region_any (by kernel_rfl) ?_
    change wpAny _ _ _ _ _ _ _ (World.drew _)
    refine wpAny_of_held (S := (fun w' => w'.cell? ⟨w.heap.size, 0, none⟩ = some (.slice Ap lp.length cp) ∧ w'.cell? ⟨w.heap.size, 1, none⟩ = some (.slice Aq lq.length cq))) _ _ _ _ ?_
    refine wpAnyH_take (i := 1) (v := .slice A9 b.length c9) rfl (by kernel_rfl) (by kernel_rfl) (by kernel_rfl) (fun _ _ _ h => h) (Or.inl ⟨by rfl, fun w hS => ?_⟩) (HC.out _ hD5) ?_
    · have hS' := hS
      simp only [] at hS'
      go_simp
    change wpAnyH _ _ _ _ _ _ _ (Act.put _ _ _) _
    refine wpAnyH_take (i := 3) (v := .pointer (some ⟨w.heap.size, 1, none⟩)) rfl (by kernel_rfl) (by kernel_rfl) (by kernel_rfl) (fun _ _ _ h => h) (Or.inl ⟨by rfl, fun w hS => ?_⟩) (HC.out _ hD5) ?_
    · have hS' := hS
      simp only [] at hS'
      go_simp
    change wpAnyH _ _ _ _ _ _ _ (Act.put _ _ _) _
    refine wpAnyH_take (i := 4) (v := .slice Aq lq.length cq) rfl (by kernel_rfl) (by kernel_rfl) (by kernel_rfl) (fun _ _ _ h => h) (Or.inl ⟨by rfl, fun w hS => ?_⟩) (HC.out _ hD5) ?_
    · have hS' := hS
      simp only [] at hS'
      go_simp
    change wpAnyH _ _ _ _ _ _ _ (Act.put _ _ _) _
    refine wpAnyH_take (i := 6) (v := .pointer (some ⟨w.heap.size, 0, none⟩)) rfl (by kernel_rfl) (by kernel_rfl) (by kernel_rfl) (fun _ _ _ h => h) (Or.inl ⟨by rfl, fun w hS => ?_⟩) (HC.out _ hD5) ?_
    · have hS' := hS
      simp only [] at hS'
      go_simp
    change wpAnyH _ _ _ _ _ _ _ (Act.put _ _ _) _
    refine wpAnyH_take (i := 7) (v := .slice Ap lp.length cp) rfl (by kernel_rfl) (by kernel_rfl) (by kernel_rfl) (fun _ _ _ h => h) (Or.inl ⟨by rfl, fun w hS => ?_⟩) (HC.out _ hD5) ?_
    · have hS' := hS
      simp only [] at hS'
      go_simp
    change wpAnyH _ _ _ _ _ _ _ (Act.put _ _ _) _
    refine wpAnyH_take (i := 8) (v := .int .i64 (lp.length : Int)) rfl (by kernel_rfl) (by kernel_rfl) (by kernel_rfl) (fun _ _ _ h => h) (Or.inl ⟨by rfl, fun w hS => ?_⟩) (HC.out _ hD5) ?_
    · have hS' := hS
      simp only [] at hS'
      go_simp
    change wpAnyH _ _ _ _ _ _ _ (Act.put _ _ _) _
    refine held_one (i := 0) (by kernel_rfl) rfl (fun K hK => ?_)
    go_simp
    skip
    refine hK _ _ (HC.out _ (hD5.alloc hD5.size _)) ?_; clear hK K
    go_simp
    refine held_app (i := 2) (by kernel_rfl) rfl rfl (.tmp 43) (.tmp 44) 22 22 rfl w5.heap.size 5 i0 _ 1 Try.underlying22 hi hz0 hz1 hz2 rfl (.slice (some ⟨w5.heap.size, 0, none⟩) 0 0) 0 [] rfl (World.ownsRow_made w5 #[] 0 (Nat.le_refl _) (Nat.zero_le _) rfl).drew (.slice A9 b.length c9) b.length (bv b) rfl ((hr9.alloc (Nat.le_refl _) _).drew.src Try.underlying22 c9 (bv_one b)) (by unfold maxLen; omega) (by omega) (by simp) ?_
    intro v6 w6 ho6 hb6
    rw [Nat.zero_add, List.nil_append] at ho6
    have hB6a : Below w5.heap.size w5 w6 := ((Below.refl w5.heap.size w5).alloc (Nat.le_refl _) _).drew.trans hb6
    have hB6 := hB5.trans (hB6a.mono hB5.size)
    refine ⟨HC.out _ hB6, ?_⟩
    go_simp
    refine held_app (i := 5) (by kernel_rfl) rfl rfl (.tmp 45) (.tmp 47) 22 22 rfl w5.heap.size 5 i0 _ 1 Try.underlying22 hi hz0 hz1 hz2 rfl v6 b.length (bv b) rfl ho6 (.slice Aq lq.length cq) lq.length (bv lq) rfl ((HRQ.out.below (HB.out _ hB6)).src Try.underlying22 cq (bv_one lq)) (by unfold maxLen; omega) (by omega) hB6a.size ?_
    intro v7 w7 ho7 hb7
    rw [← bv_append, ← List.length_append] at ho7
    have hB7a := hB6a.trans hb7
    have hB7 := hB5.trans ((hB6a.trans hb7).mono hB5.size)
    obtain ⟨A7, c7, hv7, hc7, hm7, -⟩ := own_form ho7
    subst hv7
    have CG := Lib.hid (getNum_any A7 c7 w7.heap.size (lp.length : Int) (b ++ lq) w7 (Rd.of_own ho7) hc7 (by simpa [maxLen] using hm7))
    rw [HNBH.out] at CG
    refine ⟨HC.out _ hB7, ?_⟩
    clear ho6 ho7 hb6 hb7 hB6 hB6a hc7 hm7 HNBH
    generalize (b ++ lq).length = len7 at *
    go_simp
    refine held_one (i := 9) (by kernel_rfl) rfl (fun K hK => ?_)
    go_simp
    (refine CG.out.mono ?_; rintro e' w' ⟨rfl, rfl⟩; unfold getV)
    refine hK _ _ (HC.out _ hB7) ?_; clear hK K
    clear CG
    refine wpAnyH_grow (by kernel_rfl) (Picks.cons (i := 10) rfl <| Picks.cons (i := 11) rfl <| Picks.cons (i := 12) rfl <| Picks.cons (i := 13) rfl <| Picks.cons (i := 14) rfl <| Picks.cons (i := 15) rfl <| Picks.cons (i := 16) rfl <| Picks.nil _) (by kernel_rfl) rfl (fun u => HC.out _ (hB7.trans (u.prop.mono hB7.size))) ?_
    go_simp
    repeat (go_big_quiet_step (fail))
    refine wpQuiet_nil ?_
    first | (intro _ hw'; obtain ⟨u, hw''⟩ := hw'; subst hw'') | intro u
    have hB8 := hB7.trans (u.prop.mono hB7.size)
    have hs8 := Nat.le_trans hB7a.size u.prop.size
    have hr8 : Rd u.val u.val.heap.size A9 b.length (bv b) := (hr9.below (hB7a.trans (u.prop.mono hB7a.size))).more hs8
    obtain ⟨k0, k1⟩ := HC.out _ hB8
    have hw1 : IntKind.i64.wrap ((lp.length : Int) + (X.length : Int)) = (lp.length : Int) + (X.length : Int) := IntWalk.i64_in _ (by omega)
    clear hB7 hB7a
    generalize u.val = w8 at *
    go_wp2_with fail
    clear k0 k1 hs8
    go_loopw [13] (fun i wr => ∃ k : Nat, k ≤ L.length ∧ i = .int .i64 (k : Int) ∧ Below w8.heap.size w8 wr ∧ ∀ j s, j < k → L[j]? = some s → s.size ≤ 131072) (fun i _ => L.length - (intOf i).toNat)
    case atStart => exact ⟨0, Nat.zero_le _, rfl, Below.refl _ _, fun j s h => absurd h (Nat.not_lt_zero _)⟩
    case round =>
      obtain ⟨k, hk, rfl, hbr, hall⟩ := hrel
      have HALL := Lib.hid hall
      clear hall
      have hB9 := hB8.trans (hbr.mono hB8.size)
      have hW9 := HB.out _ hB9
      by_cases hlt : k < L.length
      · obtain ⟨ad, s, rfl, hs, hcell⟩ := (HR0.out.below hW9).strAt hlt
        have hs20 := HS2.out s (List.mem_of_getElem? hs)
        have hyn := text_size s
        have hy9 := Wi.num_len_nine (n := s.size) (by omega)
        have CT := Lib.hid (fun w => text_any s w (by omega))
        have HTS := Lib.hid (fun (h : s.size ≤ 131072) => back_text lp lq s.data.toList (by rw [str_len]; exact h))
        have HTL := Lib.hid (fun (h : 131072 < s.size) => back_long lp lq s.data.toList (by rw [str_len]; exact h) (by rw [str_len]; omega))
        obtain ⟨Y, hY⟩ : ∃ Y, Y = Wi.text s.data.toList := ⟨_, rfl⟩
        rw [← hY] at CT HTS HTL hyn
        have hyl : Y.length ≤ 1048600 := by omega
        have HS := Lib.hid hs
        have HH := Lib.hid (fun (w' : World) (hb : Below wr.heap.size wr w') => And.intro (HC.out _ (hB9.trans (hb.mono hB9.size))).1 (And.intro (HC.out _ (hB9.trans (hb.mono hB9.size))).2 ((hb.cell (lt_of_cell hcell)).trans hcell)))
        have hbd : Below wr.heap.size wr wr.drew := (Below.refl _ _).drew
        clear hs hY hyn hy9 hs20
        go_wp2_with fail
        refine wp_region_any (by kernel_rfl) ?_
        change wpAny _ _ _ _ _ _ _ (World.drew _)
        refine wpAny_of_held (S := (fun w' => w'.cell? ⟨w.heap.size, 0, none⟩ = some (.slice Ap lp.length cp) ∧ w'.cell? ⟨w.heap.size, 1, none⟩ = some (.slice Aq lq.length cq) ∧ w'.cell? (ad.add k) = some (.string s))) _ _ _ _ ?_
        refine wpAnyH_take (i := 1) (v := .pointer (some ⟨w.heap.size, 0, none⟩)) rfl (by kernel_rfl) (by kernel_rfl) (by kernel_rfl) (fun _ _ _ h => h) (Or.inl ⟨by rfl, fun w hS => ?_⟩) (HH.out _ hbd) ?_
        · have hS' := hS
          simp only [] at hS'
          go_simp
        change wpAnyH _ _ _ _ _ _ _ (Act.put _ _ _) _
        refine wpAnyH_take (i := 2) (v := .slice Ap lp.length cp) rfl (by kernel_rfl) (by kernel_rfl) (by kernel_rfl) (fun _ _ _ h => h) (Or.inl ⟨by rfl, fun w hS => ?_⟩) (HH.out _ hbd) ?_
        · have hS' := hS
          simp only [] at hS'
          go_simp
        change wpAnyH _ _ _ _ _ _ _ (Act.put _ _ _) _
        refine wpAnyH_take (i := 4) (v := .slice (some ad) L.length c0) rfl (by kernel_rfl) (by kernel_rfl) (by kernel_rfl) (fun _ _ _ h => h) (Or.inl ⟨by rfl, fun w hS => ?_⟩) (HH.out _ hbd) ?_
        · have hS' := hS
          simp only [] at hS'
          go_simp
        change wpAnyH _ _ _ _ _ _ _ (Act.put _ _ _) _
        refine wpAnyH_take (i := 5) (v := .int .i64 (k : Int)) rfl (by kernel_rfl) (by kernel_rfl) (by kernel_rfl) (fun _ _ _ h => h) (Or.inl ⟨by rfl, fun w hS => ?_⟩) (HH.out _ hbd) ?_
        · have hS' := hS
          simp only [] at hS'
          go_simp
        change wpAnyH _ _ _ _ _ _ _ (Act.put _ _ _) _
        refine wpAnyH_take (i := 6) (v := .pointer (some (ad.add k))) rfl (by kernel_rfl) (by kernel_rfl) (by kernel_rfl) (fun _ _ _ h => h) (Or.inl ⟨by rfl, fun w hS => ?_⟩) (HH.out _ hbd) ?_
        · have hS' := hS
          simp only [] at hS'
          go_simp
        change wpAnyH _ _ _ _ _ _ _ (Act.put _ _ _) _
        refine wpAnyH_take (i := 7) (v := .string s) rfl (by kernel_rfl) (by kernel_rfl) (by kernel_rfl) (fun _ _ _ h => h) (Or.inl ⟨by rfl, fun w hS => ?_⟩) (HH.out _ hbd) ?_
        · have hS' := hS
          simp only [] at hS'
          go_simp
        change wpAnyH _ _ _ _ _ _ _ (Act.put _ _ _) _
        refine wpAnyH_take (i := 10) (v := .pointer (some ⟨w.heap.size, 1, none⟩)) rfl (by kernel_rfl) (by kernel_rfl) (by kernel_rfl) (fun _ _ _ h => h) (Or.inl ⟨by rfl, fun w hS => ?_⟩) (HH.out _ hbd) ?_
        · have hS' := hS
          simp only [] at hS'
          go_simp
        change wpAnyH _ _ _ _ _ _ _ (Act.put _ _ _) _
        refine wpAnyH_take (i := 11) (v := .slice Aq lq.length cq) rfl (by kernel_rfl) (by kernel_rfl) (by kernel_rfl) (fun _ _ _ h => h) (Or.inl ⟨by rfl, fun w hS => ?_⟩) (HH.out _ hbd) ?_
        · have hS' := hS
          simp only [] at hS'
          go_simp
        change wpAnyH _ _ _ _ _ _ _ (Act.put _ _ _) _
        refine held_one (i := 0) (by kernel_rfl) rfl (fun K hK => ?_)
        go_simp
        skip
        refine hK _ _ (HH.out _ (hbd.alloc hbd.size _)) ?_; clear hK K
        go_simp
        refine held_app (i := 3) (by kernel_rfl) rfl rfl (.tmp 79) (.tmp 81) 22 22 rfl wr.heap.size 5 i0 _ 1 Try.underlying22 hi hz0 hz1 hz2 rfl (.slice (some ⟨wr.heap.size, 0, none⟩) 0 0) 0 [] rfl (World.ownsRow_made wr #[] 0 (Nat.le_refl _) (Nat.zero_le _) rfl).drew (.slice Ap lp.length cp) lp.length (bv lp) rfl (((HRP.out.below hW9).alloc hW9.size _).drew.src Try.underlying22 cp (bv_one lp)) (by unfold maxLen; omega) (by omega) (by simp) ?_
        intro v10 w10 ho10 hb10
        rw [Nat.zero_add, List.nil_append] at ho10
        have hB10 : Below wr.heap.size wr w10 := ((Below.refl wr.heap.size wr).alloc (Nat.le_refl _) _).drew.trans hb10
        refine ⟨HH.out _ hB10, ?_⟩
        go_simp
        refine held_one (i := 8) (by kernel_rfl) rfl (fun K hK => ?_)
        go_simp
        (refine (CT.out w10).mono ?_; rintro e' w11 ⟨A11, c11, rfl, hc11, hr11, hb11⟩)
        refine hK _ _ (HH.out _ (hB10.trans (hb11.mono hB10.size))) ?_; clear hK K
        have ho11 := own_below ho10 hb11
        have hB11 := hB10.trans (hb11.mono hB10.size)
        go_simp
        refine held_app (i := 9) (by kernel_rfl) rfl rfl (.tmp 82) (.tmp 87) 22 22 rfl wr.heap.size 5 i0 _ 1 Try.underlying22 hi hz0 hz1 hz2 rfl v10 lp.length (bv lp) rfl ho11 (.slice A11 Y.length c11) Y.length (bv Y) rfl (hr11.src Try.underlying22 c11 (bv_one Y)) (by unfold maxLen; omega) (by omega) hB11.size ?_
        intro v12 w12 ho12 hb12
        have hB12 := hB11.trans hb12
        refine ⟨HH.out _ hB12, ?_⟩
        go_simp
        have hW12 := HB.out _ (hB9.trans (hB12.mono hB9.size))
        refine held_app (i := 12) (by kernel_rfl) rfl rfl (.tmp 88) (.tmp 90) 22 22 rfl wr.heap.size 5 i0 _ 1 Try.underlying22 hi hz0 hz1 hz2 rfl v12 (lp.length + Y.length) (bv lp ++ bv Y) rfl ho12 (.slice Aq lq.length cq) lq.length (bv lq) rfl ((HRQ.out.below hW12).src Try.underlying22 cq (bv_one lq)) (by unfold maxLen; omega) (by omega) hB12.size ?_
        intro v13 w13 ho13 hb13
        rw [← bv_append, ← bv_append, ← List.length_append, ← List.length_append] at ho13
        have hB13 := hB12.trans hb13
        refine ⟨HH.out _ hB13, ?_⟩
        obtain ⟨A13, c13, hv13, hc13, hm13, -⟩ := own_form ho13
        subst hv13
        have hl13 : (lp ++ Y ++ lq).length = lp.length + Y.length + lq.length := by rw [List.length_append, List.length_append]
        have hw2 : IntKind.i64.wrap (((lp ++ Y ++ lq).length : Int) - (lq.length : Int)) = (lp.length : Int) + (Y.length : Int) := by rw [hl13, IntWalk.i64_in _ (by omega)]; push_cast; omega
        have CG := Lib.hid (fun (w' : World) (hb : Below w13.heap.size w13 w') => getText_any A13 c13 w13.heap.size (lp.length : Int) (lp ++ Y ++ lq) w' ((Rd.of_own ho13).below hb) hc13 (by simpa [maxLen] using hm13))
        clear ho10 ho11 ho12 ho13 hb10 hb11 hb12 hb13 hB10 hB11 hB12 hW12 hr11 hc11 hc13 hm13 hl13
        generalize (lp ++ Y ++ lq).length = len13 at *
        go_simp
        refine wpAnyH_grow (by kernel_rfl) (Picks.cons (i := 13) rfl <| Picks.nil _) (by kernel_rfl) rfl (fun u => HH.out _ (hB13.trans (u.prop.mono hB13.size))) ?_
        go_simp
        repeat (go_big_quiet_step (fail))
        refine wpQuiet_nil ?_
        first | (intro _ hw'; obtain ⟨u, hw''⟩ := hw'; subst hw'') | intro u
        have hB14 := hB13.trans (u.prop.mono hB13.size)
        obtain ⟨k0, k1, k2⟩ := HH.out _ hB14
        have CG2 := CG.out _ u.prop
        have hW14 := HB.out _ (hB9.trans (hB14.mono hB9.size))
        have hbr14 := hbr.trans (hB14.mono hbr.size)
        clear hB13 hB14 CG
        generalize u.val = w14 at *
        by_cases hlong : 131072 < s.size
        · rw [HTL.out hlong] at CG2
          go_wp2_with fail
          refine CG2.mono ?_; rintro e' w' ⟨rfl, rfl⟩
          unfold textV
          go_wp2_with fail
          refine (alive_any _).mono ?_; rintro e' w15 ⟨rfl, hb15⟩
          go_wp2_with fail
          go_ret
          exact ⟨rfl, below_of hW14 hb15⟩
        · rw [HTS.out (by omega)] at CG2
          have q1 : (s.toList == s.toList) = true := by simp
          have q2 : (s.toList != s.toList) = false := by simp
          go_wp2_with fail
          refine CG2.mono ?_; rintro e' w' ⟨rfl, rfl⟩
          simp only [textV, sB_self]
          go_wp2_with fail
          go_roundw
          case rel => exact ⟨k + 1, by omega, by go_num, hbr14, fun j t hj ht => by
            rcases Nat.lt_succ_iff_lt_or_eq.1 hj with h | rfl
            · exact HALL.out j t h ht
            · rw [HS.out] at ht; cases ht; omega⟩
          case measure => simp [intOf]; omega
      · obtain rfl : k = L.length := by omega
        by_cases hL : L.length ≤ 131072
        · have HLB : Wi.getList (b ++ lq) ((lp.length : Int) + (X.length : Int)) = (tl L, b.length, 0) := by
            rw [HBL.out, HBX.out]
            exact HLX.out (by rw [tl_length]; exact hL) (sizes_tl HALL.out)
          have HLBH := Lib.hid HLB
          have hr9 := hr8.later hbr
          have hD9 : Below w0.heap.size w0 wr.drew := hB9.drew
          clear HLB hr8
          go_wp2_with fail
          refine wp_region_any (by kernel_rfl) ?_
          change wpAny _ _ _ _ _ _ _ (World.drew _)
          refine wpAny_of_held (S := (fun w' => w'.cell? ⟨w.heap.size, 0, none⟩ = some (.slice Ap lp.length cp) ∧ w'.cell? ⟨w.heap.size, 1, none⟩ = some (.slice Aq lq.length cq))) _ _ _ _ ?_
          refine wpAnyH_take (i := 1) (v := .slice A9 b.length c9) rfl (by kernel_rfl) (by kernel_rfl) (by kernel_rfl) (fun _ _ _ h => h) (Or.inl ⟨by rfl, fun w hS => ?_⟩) (HC.out _ hD9) ?_
          · have hS' := hS
            simp only [] at hS'
            go_simp
          change wpAnyH _ _ _ _ _ _ _ (Act.put _ _ _) _
          refine wpAnyH_take (i := 3) (v := .pointer (some ⟨w.heap.size, 1, none⟩)) rfl (by kernel_rfl) (by kernel_rfl) (by kernel_rfl) (fun _ _ _ h => h) (Or.inl ⟨by rfl, fun w hS => ?_⟩) (HC.out _ hD9) ?_
          · have hS' := hS
            simp only [] at hS'
            go_simp
          change wpAnyH _ _ _ _ _ _ _ (Act.put _ _ _) _
          refine wpAnyH_take (i := 4) (v := .slice Aq lq.length cq) rfl (by kernel_rfl) (by kernel_rfl) (by kernel_rfl) (fun _ _ _ h => h) (Or.inl ⟨by rfl, fun w hS => ?_⟩) (HC.out _ hD9) ?_
          · have hS' := hS
            simp only [] at hS'
            go_simp
          change wpAnyH _ _ _ _ _ _ _ (Act.put _ _ _) _
          refine wpAnyH_take (i := 6) (v := .int .i64 ((lp.length : Int) + (X.length : Int))) rfl (by kernel_rfl) (by kernel_rfl) (by kernel_rfl) (fun _ _ _ h => h) (Or.inl ⟨by rfl, fun w hS => ?_⟩) (HC.out _ hD9) ?_
          · have hS' := hS
            simp only [] at hS'
            go_simp
          change wpAnyH _ _ _ _ _ _ _ (Act.put _ _ _) _
          refine held_one (i := 0) (by kernel_rfl) rfl (fun K hK => ?_)
          go_simp
          skip
          refine hK _ _ (HC.out _ (hD9.alloc hD9.size _)) ?_; clear hK K
          go_simp
          refine held_app (i := 2) (by kernel_rfl) rfl rfl (.tmp 137) (.tmp 138) 22 22 rfl wr.heap.size 5 i0 _ 1 Try.underlying22 hi hz0 hz1 hz2 rfl (.slice (some ⟨wr.heap.size, 0, none⟩) 0 0) 0 [] rfl (World.ownsRow_made wr #[] 0 (Nat.le_refl _) (Nat.zero_le _) rfl).drew (.slice A9 b.length c9) b.length (bv b) rfl ((hr9.alloc (Nat.le_refl _) _).drew.src Try.underlying22 c9 (bv_one b)) (by unfold maxLen; omega) (by omega) (by simp) ?_
          intro v6 w6 ho6 hb6
          rw [Nat.zero_add, List.nil_append] at ho6
          have hB6a : Below wr.heap.size wr w6 := ((Below.refl wr.heap.size wr).alloc (Nat.le_refl _) _).drew.trans hb6
          have hB6 := hB9.trans (hB6a.mono hB9.size)
          refine ⟨HC.out _ hB6, ?_⟩
          go_simp
          refine held_app (i := 5) (by kernel_rfl) rfl rfl (.tmp 139) (.tmp 141) 22 22 rfl wr.heap.size 5 i0 _ 1 Try.underlying22 hi hz0 hz1 hz2 rfl v6 b.length (bv b) rfl ho6 (.slice Aq lq.length cq) lq.length (bv lq) rfl ((HRQ.out.below (HB.out _ hB6)).src Try.underlying22 cq (bv_one lq)) (by unfold maxLen; omega) (by omega) hB6a.size ?_
          intro v7 w7 ho7 hb7
          rw [← bv_append, ← List.length_append] at ho7
          have hB7a := hB6a.trans hb7
          have hB7 := hB9.trans (hB7a.mono hB9.size)
          obtain ⟨A7, c7, hv7, hc7, hm7, -⟩ := own_form ho7
          subst hv7
          have CG := Lib.hid (getList_any A7 c7 ((lp.length : Int) + (X.length : Int)) (b ++ lq) w7 (Rd.of_own ho7) hc7 (by simpa [maxLen] using hm7))
          rw [HLBH.out] at CG
          refine ⟨HC.out _ hB7, ?_⟩
          clear ho6 ho7 hb6 hb7 hB6 hB6a hc7 hm7 HLBH hr9
          generalize (b ++ lq).length = len7 at *
          go_simp
          refine held_one (i := 7) (by kernel_rfl) rfl (fun K hK => ?_)
          go_simp
          (refine CG.out.mono ?_; rintro e' w10 ⟨A10, c10, hv10, hc10, hr10, hb10⟩; simp only [tl_length, tB_tl] at hv10 hc10 hr10; subst hv10)
          refine hK _ _ (HC.out _ (hB7.trans (hb10.mono hB7.size))) ?_; clear hK K
          have hB10 := hB7.trans (hb10.mono hB7.size)
          clear CG
          go_simp
          refine wpAnyH_grow (by kernel_rfl) (Picks.cons (i := 8) rfl <| Picks.cons (i := 9) rfl <| Picks.cons (i := 10) rfl <| Picks.cons (i := 11) rfl <| Picks.cons (i := 12) rfl <| Picks.cons (i := 13) rfl <| Picks.cons (i := 14) rfl <| Picks.nil _) (by kernel_rfl) rfl (fun u => HC.out _ (hB10.trans (u.prop.mono hB10.size))) ?_
          go_simp
          repeat (go_big_quiet_step (fail))
          refine wpQuiet_nil ?_
          first | (intro _ hw'; obtain ⟨u, hw''⟩ := hw'; subst hw'') | intro u
          have hB11 := hB10.trans (u.prop.mono hB10.size)
          have hW11 := HB.out _ hB11
          have HSM := same_any A10 A0 c10 c0 u.val.heap.size L L u.val ((hr10.below u.prop).more u.prop.size) ((HR0.out.below hW11).more hW11.size) (by omega)
          rw [show sameB L L = true from decide_eq_true rfl] at HSM
          have q1 : ((b.length : Int) == (b.length : Int)) = true := by simp
          clear hr10 hB11 hB10 hB7 hB7a
          generalize u.val = w11 at *
          go_wp2_with fail
          refine HSM.mono ?_; rintro e' w' ⟨rfl, n2, rfl⟩
          go_wp2_with fail
          refine (alive_any _).mono ?_; rintro e' w15 ⟨rfl, hb15⟩
          go_wp2_with fail
          go_ret
          exact ⟨rfl, below_of (below_drewN hW11 n2) hb15⟩
        · have hL' : 131072 < L.length := by omega
          go_wp2_with fail
          refine (alive_any _).mono ?_; rintro e' w15 ⟨rfl, hb15⟩
          go_wp2_with fail
          go_ret
          exact ⟨rfl, below_of hW9 hb15⟩
  · obtain ⟨m, rfl⟩ := Int.eq_ofNat_of_zero_le (show 0 ≤ n by omega)
    have hm : m < 9223372036854775808 := by omega
    have hN0 := Wi.num_pos m
    have hN9 := Wi.num_len_nine hm
    have C1 := Lib.hid (fun w => num_any m w hm)
    have HNX := Lib.hid (HNP.out m hm)
    obtain ⟨X, hX⟩ : ∃ X, X = Wi.num m := ⟨_, rfl⟩
    rw [← hX] at C1 HNX hN0 hN9
    have HLX := Lib.hid (HLP.out X)
    clear hX hm HNP HLP
    have g0 : (w.alloc (.cells #[.slice Ap lp.length cp, .slice Aq lq.length cq] 53)).cell? ⟨w.heap.size, 0, none⟩ = some (.slice Ap lp.length cp) := World.news_of_block (heap_alloc_new w _) 0 _ rfl
    have g1 : (w.alloc (.cells #[.slice Ap lp.length cp, .slice Aq lq.length cq] 53)).cell? ⟨w.heap.size, 1, none⟩ = some (.slice Aq lq.length cq) := World.news_of_block (heap_alloc_new w _) 1 _ rfl
    have gs : w.heap.size < (w.alloc (.cells #[.slice Ap lp.length cp, .slice Aq lq.length cq] 53)).heap.size := by simp
    have gb : Below w.heap.size w (w.alloc (.cells #[.slice Ap lp.length cp, .slice Aq lq.length cq] 53)) := (Below.refl _ _).alloc (Nat.le_refl _) _
    go_enter Try.func7, Try.ntmps7
    go_wp2_with fail
    generalize w.alloc (.cells #[.slice Ap lp.length cp, .slice Aq lq.length cq] 53) = w0 at *
    have HC := Lib.hid (fun (w' : World) (hb : Below w0.heap.size w0 w') => And.intro ((hb.cell (p := ⟨w.heap.size, 0, none⟩) gs).trans g0) ((hb.cell (p := ⟨w.heap.size, 1, none⟩) gs).trans g1))
    have HB := Lib.hid (fun (w' : World) (hb : Below w0.heap.size w0 w') => below_of gb hb)
    clear g0 g1
    refine (C1.out w0).mono ?_; rintro e' w1 ⟨A1, c1, rfl, hc1, hr1, hbb1⟩
    have hB1 := HB.out _ hbb1
    have hle1 := hB1.size
    have kc1 := fun o : Obj => (HC.out _ (hbb1.alloc hbb1.size o)).1
    go_wp2_with (first
      | (at_builtin; (refine wp_app' _ rfl (.tmp 33) (.tmp 35) 22 22 rfl w1.heap.size 5 i0 _ 1 Try.underlying22 hi hz0 hz1 hz2 rfl (.slice (some ⟨w1.heap.size, 0, none⟩) 0 0) 0 [] rfl (World.ownsRow_made w1 #[] 0 (Nat.le_refl _) (Nat.zero_le _) rfl) (.slice Ap lp.length cp) lp.length (bv lp) rfl (((HRP.out.below hB1).alloc hle1 _).src Try.underlying22 cp (bv_one lp)) (by unfold maxLen; omega) (by omega) (by simp) ?_); intro v2 w2 ho2 hb12; rw [Nat.zero_add, List.nil_append] at ho2; have hB2 := (Below.refl w1.heap.size w1).alloc (Nat.le_refl _) _ |>.trans hb12; clear hb12)
      | (at_builtin; go_must (refine wp_app' _ rfl (.tmp 36) (.tmp 37) 22 22 rfl w1.heap.size 5 i0 _ 1 Try.underlying22 hi hz0 hz1 hz2 rfl v2 lp.length (bv lp) rfl ho2 (.slice A1 X.length c1) X.length (bv X) rfl ((hr1.below hB2).src Try.underlying22 c1 (bv_one X)) (by unfold maxLen; omega) (by omega) hB2.size ?_); intro v3 w3 ho3 hb23))
    have hB3 := hB2.trans hb23
    have hW3 := HB.out _ (hbb1.trans (hB3.mono hbb1.size))
    refine (C4.out w3 ((HR0.out.below hW3).more hW3.size)).mono ?_; rintro e' w4 ⟨A4, c4, rfl, hc4, hr4, hb4⟩
    have ho4 := own_below ho3 hb4
    have hB4 := hB3.trans (hb4.mono hB3.size)
    go_wp2_with (first
      | (at_builtin; go_must (refine wp_app' _ rfl (.tmp 38) (.tmp 40) 22 22 rfl w1.heap.size 5 i0 _ 1 Try.underlying22 hi hz0 hz1 hz2 rfl v3 (lp.length + X.length) (bv lp ++ bv X) rfl ho4 (.slice A4 T.length c4) T.length (bv T) rfl (hr4.src Try.underlying22 c4 (bv_one T)) (by unfold maxLen; omega) (by omega) hB4.size ?_); intro v5 w5 ho5 hb45))
    have hB5 : Below w0.heap.size w0 w5 := hbb1.trans ((hB4.trans hb45).mono hbb1.size)
    obtain ⟨b, hbx⟩ : ∃ b, b = lp ++ X ++ T := ⟨_, rfl⟩
    have hbl : b.length = lp.length + X.length + T.length := by rw [hbx, List.length_append, List.length_append]
    rw [← bv_append, ← bv_append, ← hbx, ← hbl] at ho5
    have hbm : b.length ≤ 30000000 := by omega
    have HBL := Lib.hid hbl
    clear hbl
    have HNB := HNX.out
    rw [← hbx] at HNB
    obtain ⟨A9, c9, hv9, hc9, hm9, -⟩ := own_form ho5
    subst hv9
    have hr9 : Rd w5 w5.heap.size A9 b.length (bv b) := Rd.of_own ho5
    have HNBH := Lib.hid HNB
    have HBX := Lib.hid hbx
    clear HNB hbx ho2 ho3 ho4 ho5 hr1 hr4 hb4 hb45 hb23 hB2 hB3 hB4 hW3 kc1 hB1 hle1 HNX C1
    have hD5 : Below w0.heap.size w0 w5.drew := hB5.drew
    refine wp_region_any (by kernel_rfl) ?_
    change wpAny _ _ _ _ _ _ _ (World.drew _)
    refine wpAny_of_held (S := (fun w' => w'.cell? ⟨w.heap.size, 0, none⟩ = some (.slice Ap lp.length cp) ∧ w'.cell? ⟨w.heap.size, 1, none⟩ = some (.slice Aq lq.length cq))) _ _ _ _ ?_
    refine wpAnyH_take (i := 1) (v := .slice A9 b.length c9) rfl (by kernel_rfl) (by kernel_rfl) (by kernel_rfl) (fun _ _ _ h => h) (Or.inl ⟨by rfl, fun w hS => ?_⟩) (HC.out _ hD5) ?_
    · have hS' := hS
      simp only [] at hS'
      go_simp
    change wpAnyH _ _ _ _ _ _ _ (Act.put _ _ _) _
    refine wpAnyH_take (i := 3) (v := .pointer (some ⟨w.heap.size, 1, none⟩)) rfl (by kernel_rfl) (by kernel_rfl) (by kernel_rfl) (fun _ _ _ h => h) (Or.inl ⟨by rfl, fun w hS => ?_⟩) (HC.out _ hD5) ?_
    · have hS' := hS
      simp only [] at hS'
      go_simp
    change wpAnyH _ _ _ _ _ _ _ (Act.put _ _ _) _
    refine wpAnyH_take (i := 4) (v := .slice Aq lq.length cq) rfl (by kernel_rfl) (by kernel_rfl) (by kernel_rfl) (fun _ _ _ h => h) (Or.inl ⟨by rfl, fun w hS => ?_⟩) (HC.out _ hD5) ?_
    · have hS' := hS
      simp only [] at hS'
      go_simp
    change wpAnyH _ _ _ _ _ _ _ (Act.put _ _ _) _
    refine wpAnyH_take (i := 6) (v := .pointer (some ⟨w.heap.size, 0, none⟩)) rfl (by kernel_rfl) (by kernel_rfl) (by kernel_rfl) (fun _ _ _ h => h) (Or.inl ⟨by rfl, fun w hS => ?_⟩) (HC.out _ hD5) ?_
    · have hS' := hS
      simp only [] at hS'
      go_simp
    change wpAnyH _ _ _ _ _ _ _ (Act.put _ _ _) _
    refine wpAnyH_take (i := 7) (v := .slice Ap lp.length cp) rfl (by kernel_rfl) (by kernel_rfl) (by kernel_rfl) (fun _ _ _ h => h) (Or.inl ⟨by rfl, fun w hS => ?_⟩) (HC.out _ hD5) ?_
    · have hS' := hS
      simp only [] at hS'
      go_simp
    change wpAnyH _ _ _ _ _ _ _ (Act.put _ _ _) _
    refine wpAnyH_take (i := 8) (v := .int .i64 (lp.length : Int)) rfl (by kernel_rfl) (by kernel_rfl) (by kernel_rfl) (fun _ _ _ h => h) (Or.inl ⟨by rfl, fun w hS => ?_⟩) (HC.out _ hD5) ?_
    · have hS' := hS
      simp only [] at hS'
      go_simp
    change wpAnyH _ _ _ _ _ _ _ (Act.put _ _ _) _
    refine held_one (i := 0) (by kernel_rfl) rfl (fun K hK => ?_)
    go_simp
    skip
    refine hK _ _ (HC.out _ (hD5.alloc hD5.size _)) ?_; clear hK K
    go_simp
    refine held_app (i := 2) (by kernel_rfl) rfl rfl (.tmp 43) (.tmp 44) 22 22 rfl w5.heap.size 5 i0 _ 1 Try.underlying22 hi hz0 hz1 hz2 rfl (.slice (some ⟨w5.heap.size, 0, none⟩) 0 0) 0 [] rfl (World.ownsRow_made w5 #[] 0 (Nat.le_refl _) (Nat.zero_le _) rfl).drew (.slice A9 b.length c9) b.length (bv b) rfl ((hr9.alloc (Nat.le_refl _) _).drew.src Try.underlying22 c9 (bv_one b)) (by unfold maxLen; omega) (by omega) (by simp) ?_
    intro v6 w6 ho6 hb6
    rw [Nat.zero_add, List.nil_append] at ho6
    have hB6a : Below w5.heap.size w5 w6 := ((Below.refl w5.heap.size w5).alloc (Nat.le_refl _) _).drew.trans hb6
    have hB6 := hB5.trans (hB6a.mono hB5.size)
    refine ⟨HC.out _ hB6, ?_⟩
    go_simp
    refine held_app (i := 5) (by kernel_rfl) rfl rfl (.tmp 45) (.tmp 47) 22 22 rfl w5.heap.size 5 i0 _ 1 Try.underlying22 hi hz0 hz1 hz2 rfl v6 b.length (bv b) rfl ho6 (.slice Aq lq.length cq) lq.length (bv lq) rfl ((HRQ.out.below (HB.out _ hB6)).src Try.underlying22 cq (bv_one lq)) (by unfold maxLen; omega) (by omega) hB6a.size ?_
    intro v7 w7 ho7 hb7
    rw [← bv_append, ← List.length_append] at ho7
    have hB7a := hB6a.trans hb7
    have hB7 := hB5.trans ((hB6a.trans hb7).mono hB5.size)
    obtain ⟨A7, c7, hv7, hc7, hm7, -⟩ := own_form ho7
    subst hv7
    have CG := Lib.hid (getNum_any A7 c7 w7.heap.size (lp.length : Int) (b ++ lq) w7 (Rd.of_own ho7) hc7 (by simpa [maxLen] using hm7))
    rw [HNBH.out] at CG
    refine ⟨HC.out _ hB7, ?_⟩
    clear ho6 ho7 hb6 hb7 hB6 hB6a hc7 hm7 HNBH
    generalize (b ++ lq).length = len7 at *
    go_simp
    refine held_one (i := 9) (by kernel_rfl) rfl (fun K hK => ?_)
    go_simp
    (refine CG.out.mono ?_; rintro e' w' ⟨rfl, rfl⟩; unfold getV)
    refine hK _ _ (HC.out _ hB7) ?_; clear hK K
    clear CG
    refine wpAnyH_grow (by kernel_rfl) (Picks.cons (i := 10) rfl <| Picks.cons (i := 11) rfl <| Picks.cons (i := 12) rfl <| Picks.cons (i := 13) rfl <| Picks.cons (i := 14) rfl <| Picks.cons (i := 15) rfl <| Picks.cons (i := 16) rfl <| Picks.nil _) (by kernel_rfl) rfl (fun u => HC.out _ (hB7.trans (u.prop.mono hB7.size))) ?_
    go_simp
    repeat (go_big_quiet_step (fail))
    refine wpQuiet_nil ?_
    first | (intro _ hw'; obtain ⟨u, hw''⟩ := hw'; subst hw'') | intro u
    have hB8 := hB7.trans (u.prop.mono hB7.size)
    have hs8 := Nat.le_trans hB7a.size u.prop.size
    have hr8 : Rd u.val u.val.heap.size A9 b.length (bv b) := (hr9.below (hB7a.trans (u.prop.mono hB7a.size))).more hs8
    obtain ⟨k0, k1⟩ := HC.out _ hB8
    have hw1 : IntKind.i64.wrap ((lp.length : Int) + (X.length : Int)) = (lp.length : Int) + (X.length : Int) := IntWalk.i64_in _ (by omega)
    clear hB7 hB7a
    generalize u.val = w8 at *
    go_wp2_with fail
    clear k0 k1 hs8
    go_loopw [13] (fun i wr => ∃ k : Nat, k ≤ L.length ∧ i = .int .i64 (k : Int) ∧ Below w8.heap.size w8 wr ∧ ∀ j s, j < k → L[j]? = some s → s.size ≤ 131072) (fun i _ => L.length - (intOf i).toNat)
    case atStart => exact ⟨0, Nat.zero_le _, rfl, Below.refl _ _, fun j s h => absurd h (Nat.not_lt_zero _)⟩
    case round =>
      obtain ⟨k, hk, rfl, hbr, hall⟩ := hrel
      have HALL := Lib.hid hall
      clear hall
      have hB9 := hB8.trans (hbr.mono hB8.size)
      have hW9 := HB.out _ hB9
      by_cases hlt : k < L.length
      · obtain ⟨ad, s, rfl, hs, hcell⟩ := (HR0.out.below hW9).strAt hlt
        have hs20 := HS2.out s (List.mem_of_getElem? hs)
        have hyn := text_size s
        have hy9 := Wi.num_len_nine (n := s.size) (by omega)
        have CT := Lib.hid (fun w => text_any s w (by omega))
        have HTS := Lib.hid (fun (h : s.size ≤ 131072) => back_text lp lq s.data.toList (by rw [str_len]; exact h))
        have HTL := Lib.hid (fun (h : 131072 < s.size) => back_long lp lq s.data.toList (by rw [str_len]; exact h) (by rw [str_len]; omega))
        obtain ⟨Y, hY⟩ : ∃ Y, Y = Wi.text s.data.toList := ⟨_, rfl⟩
        rw [← hY] at CT HTS HTL hyn
        have hyl : Y.length ≤ 1048600 := by omega
        have HS := Lib.hid hs
        have HH := Lib.hid (fun (w' : World) (hb : Below wr.heap.size wr w') => And.intro (HC.out _ (hB9.trans (hb.mono hB9.size))).1 (And.intro (HC.out _ (hB9.trans (hb.mono hB9.size))).2 ((hb.cell (lt_of_cell hcell)).trans hcell)))
        have hbd : Below wr.heap.size wr wr.drew := (Below.refl _ _).drew
        clear hs hY hyn hy9 hs20
        go_wp2_with fail
        refine wp_region_any (by kernel_rfl) ?_
        change wpAny _ _ _ _ _ _ _ (World.drew _)
        refine wpAny_of_held (S := (fun w' => w'.cell? ⟨w.heap.size, 0, none⟩ = some (.slice Ap lp.length cp) ∧ w'.cell? ⟨w.heap.size, 1, none⟩ = some (.slice Aq lq.length cq) ∧ w'.cell? (ad.add k) = some (.string s))) _ _ _ _ ?_
        refine wpAnyH_take (i := 1) (v := .pointer (some ⟨w.heap.size, 0, none⟩)) rfl (by kernel_rfl) (by kernel_rfl) (by kernel_rfl) (fun _ _ _ h => h) (Or.inl ⟨by rfl, fun w hS => ?_⟩) (HH.out _ hbd) ?_
        · have hS' := hS
          simp only [] at hS'
          go_simp
        change wpAnyH _ _ _ _ _ _ _ (Act.put _ _ _) _
        refine wpAnyH_take (i := 2) (v := .slice Ap lp.length cp) rfl (by kernel_rfl) (by kernel_rfl) (by kernel_rfl) (fun _ _ _ h => h) (Or.inl ⟨by rfl, fun w hS => ?_⟩) (HH.out _ hbd) ?_
        · have hS' := hS
          simp only [] at hS'
          go_simp
        change wpAnyH _ _ _ _ _ _ _ (Act.put _ _ _) _
        refine wpAnyH_take (i := 4) (v := .slice (some ad) L.length c0) rfl (by kernel_rfl) (by kernel_rfl) (by kernel_rfl) (fun _ _ _ h => h) (Or.inl ⟨by rfl, fun w hS => ?_⟩) (HH.out _ hbd) ?_
        · have hS' := hS
          simp only [] at hS'
          go_simp
        change wpAnyH _ _ _ _ _ _ _ (Act.put _ _ _) _
        refine wpAnyH_take (i := 5) (v := .int .i64 (k : Int)) rfl (by kernel_rfl) (by kernel_rfl) (by kernel_rfl) (fun _ _ _ h => h) (Or.inl ⟨by rfl, fun w hS => ?_⟩) (HH.out _ hbd) ?_
        · have hS' := hS
          simp only [] at hS'
          go_simp
        change wpAnyH _ _ _ _ _ _ _ (Act.put _ _ _) _
        refine wpAnyH_take (i := 6) (v := .pointer (some (ad.add k))) rfl (by kernel_rfl) (by kernel_rfl) (by kernel_rfl) (fun _ _ _ h => h) (Or.inl ⟨by rfl, fun w hS => ?_⟩) (HH.out _ hbd) ?_
        · have hS' := hS
          simp only [] at hS'
          go_simp
        change wpAnyH _ _ _ _ _ _ _ (Act.put _ _ _) _
        refine wpAnyH_take (i := 7) (v := .string s) rfl (by kernel_rfl) (by kernel_rfl) (by kernel_rfl) (fun _ _ _ h => h) (Or.inl ⟨by rfl, fun w hS => ?_⟩) (HH.out _ hbd) ?_
        · have hS' := hS
          simp only [] at hS'
          go_simp
        change wpAnyH _ _ _ _ _ _ _ (Act.put _ _ _) _
        refine wpAnyH_take (i := 10) (v := .pointer (some ⟨w.heap.size, 1, none⟩)) rfl (by kernel_rfl) (by kernel_rfl) (by kernel_rfl) (fun _ _ _ h => h) (Or.inl ⟨by rfl, fun w hS => ?_⟩) (HH.out _ hbd) ?_
        · have hS' := hS
          simp only [] at hS'
          go_simp
        change wpAnyH _ _ _ _ _ _ _ (Act.put _ _ _) _
        refine wpAnyH_take (i := 11) (v := .slice Aq lq.length cq) rfl (by kernel_rfl) (by kernel_rfl) (by kernel_rfl) (fun _ _ _ h => h) (Or.inl ⟨by rfl, fun w hS => ?_⟩) (HH.out _ hbd) ?_
        · have hS' := hS
          simp only [] at hS'
          go_simp
        change wpAnyH _ _ _ _ _ _ _ (Act.put _ _ _) _
        refine held_one (i := 0) (by kernel_rfl) rfl (fun K hK => ?_)
        go_simp
        skip
        refine hK _ _ (HH.out _ (hbd.alloc hbd.size _)) ?_; clear hK K
        go_simp
        refine held_app (i := 3) (by kernel_rfl) rfl rfl (.tmp 79) (.tmp 81) 22 22 rfl wr.heap.size 5 i0 _ 1 Try.underlying22 hi hz0 hz1 hz2 rfl (.slice (some ⟨wr.heap.size, 0, none⟩) 0 0) 0 [] rfl (World.ownsRow_made wr #[] 0 (Nat.le_refl _) (Nat.zero_le _) rfl).drew (.slice Ap lp.length cp) lp.length (bv lp) rfl (((HRP.out.below hW9).alloc hW9.size _).drew.src Try.underlying22 cp (bv_one lp)) (by unfold maxLen; omega) (by omega) (by simp) ?_
        intro v10 w10 ho10 hb10
        rw [Nat.zero_add, List.nil_append] at ho10
        have hB10 : Below wr.heap.size wr w10 := ((Below.refl wr.heap.size wr).alloc (Nat.le_refl _) _).drew.trans hb10
        refine ⟨HH.out _ hB10, ?_⟩
        go_simp
        refine held_one (i := 8) (by kernel_rfl) rfl (fun K hK => ?_)
        go_simp
        (refine (CT.out w10).mono ?_; rintro e' w11 ⟨A11, c11, rfl, hc11, hr11, hb11⟩)
        refine hK _ _ (HH.out _ (hB10.trans (hb11.mono hB10.size))) ?_; clear hK K
        have ho11 := own_below ho10 hb11
        have hB11 := hB10.trans (hb11.mono hB10.size)
        go_simp
        refine held_app (i := 9) (by kernel_rfl) rfl rfl (.tmp 82) (.tmp 87) 22 22 rfl wr.heap.size 5 i0 _ 1 Try.underlying22 hi hz0 hz1 hz2 rfl v10 lp.length (bv lp) rfl ho11 (.slice A11 Y.length c11) Y.length (bv Y) rfl (hr11.src Try.underlying22 c11 (bv_one Y)) (by unfold maxLen; omega) (by omega) hB11.size ?_
        intro v12 w12 ho12 hb12
        have hB12 := hB11.trans hb12
        refine ⟨HH.out _ hB12, ?_⟩
        go_simp
        have hW12 := HB.out _ (hB9.trans (hB12.mono hB9.size))
        refine held_app (i := 12) (by kernel_rfl) rfl rfl (.tmp 88) (.tmp 90) 22 22 rfl wr.heap.size 5 i0 _ 1 Try.underlying22 hi hz0 hz1 hz2 rfl v12 (lp.length + Y.length) (bv lp ++ bv Y) rfl ho12 (.slice Aq lq.length cq) lq.length (bv lq) rfl ((HRQ.out.below hW12).src Try.underlying22 cq (bv_one lq)) (by unfold maxLen; omega) (by omega) hB12.size ?_
        intro v13 w13 ho13 hb13
        rw [← bv_append, ← bv_append, ← List.length_append, ← List.length_append] at ho13
        have hB13 := hB12.trans hb13
        refine ⟨HH.out _ hB13, ?_⟩
        obtain ⟨A13, c13, hv13, hc13, hm13, -⟩ := own_form ho13
        subst hv13
        have hl13 : (lp ++ Y ++ lq).length = lp.length + Y.length + lq.length := by rw [List.length_append, List.length_append]
        have hw2 : IntKind.i64.wrap (((lp ++ Y ++ lq).length : Int) - (lq.length : Int)) = (lp.length : Int) + (Y.length : Int) := by rw [hl13, IntWalk.i64_in _ (by omega)]; push_cast; omega
        have CG := Lib.hid (fun (w' : World) (hb : Below w13.heap.size w13 w') => getText_any A13 c13 w13.heap.size (lp.length : Int) (lp ++ Y ++ lq) w' ((Rd.of_own ho13).below hb) hc13 (by simpa [maxLen] using hm13))
        clear ho10 ho11 ho12 ho13 hb10 hb11 hb12 hb13 hB10 hB11 hB12 hW12 hr11 hc11 hc13 hm13 hl13
        generalize (lp ++ Y ++ lq).length = len13 at *
        go_simp
        refine wpAnyH_grow (by kernel_rfl) (Picks.cons (i := 13) rfl <| Picks.nil _) (by kernel_rfl) rfl (fun u => HH.out _ (hB13.trans (u.prop.mono hB13.size))) ?_
        go_simp
        repeat (go_big_quiet_step (fail))
        refine wpQuiet_nil ?_
        first | (intro _ hw'; obtain ⟨u, hw''⟩ := hw'; subst hw'') | intro u
        have hB14 := hB13.trans (u.prop.mono hB13.size)
        obtain ⟨k0, k1, k2⟩ := HH.out _ hB14
        have CG2 := CG.out _ u.prop
        have hW14 := HB.out _ (hB9.trans (hB14.mono hB9.size))
        have hbr14 := hbr.trans (hB14.mono hbr.size)
        clear hB13 hB14 CG
        generalize u.val = w14 at *
        by_cases hlong : 131072 < s.size
        · rw [HTL.out hlong] at CG2
          go_wp2_with fail
          refine CG2.mono ?_; rintro e' w' ⟨rfl, rfl⟩
          unfold textV
          go_wp2_with fail
          refine (alive_any _).mono ?_; rintro e' w15 ⟨rfl, hb15⟩
          go_wp2_with fail
          go_ret
          exact ⟨rfl, below_of hW14 hb15⟩
        · rw [HTS.out (by omega)] at CG2
          have q1 : (s.toList == s.toList) = true := by simp
          have q2 : (s.toList != s.toList) = false := by simp
          go_wp2_with fail
          refine CG2.mono ?_; rintro e' w' ⟨rfl, rfl⟩
          simp only [textV, sB_self]
          go_wp2_with fail
          go_roundw
          case rel => exact ⟨k + 1, by omega, by go_num, hbr14, fun j t hj ht => by
            rcases Nat.lt_succ_iff_lt_or_eq.1 hj with h | rfl
            · exact HALL.out j t h ht
            · rw [HS.out] at ht; cases ht; omega⟩
          case measure => simp [intOf]; omega
      · obtain rfl : k = L.length := by omega
        by_cases hL : L.length ≤ 131072
        · have HLB : Wi.getList (b ++ lq) ((lp.length : Int) + (X.length : Int)) = (tl L, b.length, 0) := by
            rw [HBL.out, HBX.out]
            exact HLX.out (by rw [tl_length]; exact hL) (sizes_tl HALL.out)
          have HLBH := Lib.hid HLB
          have hr9 := hr8.later hbr
          have hD9 : Below w0.heap.size w0 wr.drew := hB9.drew
          clear HLB hr8
          go_wp2_with fail
          refine wp_region_any (by kernel_rfl) ?_
          change wpAny _ _ _ _ _ _ _ (World.drew _)
          refine wpAny_of_held (S := (fun w' => w'.cell? ⟨w.heap.size, 0, none⟩ = some (.slice Ap lp.length cp) ∧ w'.cell? ⟨w.heap.size, 1, none⟩ = some (.slice Aq lq.length cq))) _ _ _ _ ?_
          refine wpAnyH_take (i := 1) (v := .slice A9 b.length c9) rfl (by kernel_rfl) (by kernel_rfl) (by kernel_rfl) (fun _ _ _ h => h) (Or.inl ⟨by rfl, fun w hS => ?_⟩) (HC.out _ hD9) ?_
          · have hS' := hS
            simp only [] at hS'
            go_simp
          change wpAnyH _ _ _ _ _ _ _ (Act.put _ _ _) _
          refine wpAnyH_take (i := 3) (v := .pointer (some ⟨w.heap.size, 1, none⟩)) rfl (by kernel_rfl) (by kernel_rfl) (by kernel_rfl) (fun _ _ _ h => h) (Or.inl ⟨by rfl, fun w hS => ?_⟩) (HC.out _ hD9) ?_
          · have hS' := hS
            simp only [] at hS'
            go_simp
          change wpAnyH _ _ _ _ _ _ _ (Act.put _ _ _) _
          refine wpAnyH_take (i := 4) (v := .slice Aq lq.length cq) rfl (by kernel_rfl) (by kernel_rfl) (by kernel_rfl) (fun _ _ _ h => h) (Or.inl ⟨by rfl, fun w hS => ?_⟩) (HC.out _ hD9) ?_
          · have hS' := hS
            simp only [] at hS'
            go_simp
          change wpAnyH _ _ _ _ _ _ _ (Act.put _ _ _) _
          refine wpAnyH_take (i := 6) (v := .int .i64 ((lp.length : Int) + (X.length : Int))) rfl (by kernel_rfl) (by kernel_rfl) (by kernel_rfl) (fun _ _ _ h => h) (Or.inl ⟨by rfl, fun w hS => ?_⟩) (HC.out _ hD9) ?_
          · have hS' := hS
            simp only [] at hS'
            go_simp
          change wpAnyH _ _ _ _ _ _ _ (Act.put _ _ _) _
          refine held_one (i := 0) (by kernel_rfl) rfl (fun K hK => ?_)
          go_simp
          skip
          refine hK _ _ (HC.out _ (hD9.alloc hD9.size _)) ?_; clear hK K
          go_simp
          refine held_app (i := 2) (by kernel_rfl) rfl rfl (.tmp 137) (.tmp 138) 22 22 rfl wr.heap.size 5 i0 _ 1 Try.underlying22 hi hz0 hz1 hz2 rfl (.slice (some ⟨wr.heap.size, 0, none⟩) 0 0) 0 [] rfl (World.ownsRow_made wr #[] 0 (Nat.le_refl _) (Nat.zero_le _) rfl).drew (.slice A9 b.length c9) b.length (bv b) rfl ((hr9.alloc (Nat.le_refl _) _).drew.src Try.underlying22 c9 (bv_one b)) (by unfold maxLen; omega) (by omega) (by simp) ?_
          intro v6 w6 ho6 hb6
          rw [Nat.zero_add, List.nil_append] at ho6
          have hB6a : Below wr.heap.size wr w6 := ((Below.refl wr.heap.size wr).alloc (Nat.le_refl _) _).drew.trans hb6
          have hB6 := hB9.trans (hB6a.mono hB9.size)
          refine ⟨HC.out _ hB6, ?_⟩
          go_simp
          refine held_app (i := 5) (by kernel_rfl) rfl rfl (.tmp 139) (.tmp 141) 22 22 rfl wr.heap.size 5 i0 _ 1 Try.underlying22 hi hz0 hz1 hz2 rfl v6 b.length (bv b) rfl ho6 (.slice Aq lq.length cq) lq.length (bv lq) rfl ((HRQ.out.below (HB.out _ hB6)).src Try.underlying22 cq (bv_one lq)) (by unfold maxLen; omega) (by omega) hB6a.size ?_
          intro v7 w7 ho7 hb7
          rw [← bv_append, ← List.length_append] at ho7
          have hB7a := hB6a.trans hb7
          have hB7 := hB9.trans (hB7a.mono hB9.size)
          obtain ⟨A7, c7, hv7, hc7, hm7, -⟩ := own_form ho7
          subst hv7
          have CG := Lib.hid (getList_any A7 c7 ((lp.length : Int) + (X.length : Int)) (b ++ lq) w7 (Rd.of_own ho7) hc7 (by simpa [maxLen] using hm7))
          rw [HLBH.out] at CG
          refine ⟨HC.out _ hB7, ?_⟩
          clear ho6 ho7 hb6 hb7 hB6 hB6a hc7 hm7 HLBH hr9
          generalize (b ++ lq).length = len7 at *
          go_simp
          refine held_one (i := 7) (by kernel_rfl) rfl (fun K hK => ?_)
          go_simp
          (refine CG.out.mono ?_; rintro e' w10 ⟨A10, c10, hv10, hc10, hr10, hb10⟩; simp only [tl_length, tB_tl] at hv10 hc10 hr10; subst hv10)
          refine hK _ _ (HC.out _ (hB7.trans (hb10.mono hB7.size))) ?_; clear hK K
          have hB10 := hB7.trans (hb10.mono hB7.size)
          clear CG
          go_simp
          refine wpAnyH_grow (by kernel_rfl) (Picks.cons (i := 8) rfl <| Picks.cons (i := 9) rfl <| Picks.cons (i := 10) rfl <| Picks.cons (i := 11) rfl <| Picks.cons (i := 12) rfl <| Picks.cons (i := 13) rfl <| Picks.cons (i := 14) rfl <| Picks.nil _) (by kernel_rfl) rfl (fun u => HC.out _ (hB10.trans (u.prop.mono hB10.size))) ?_
          go_simp
          repeat (go_big_quiet_step (fail))
          refine wpQuiet_nil ?_
          first | (intro _ hw'; obtain ⟨u, hw''⟩ := hw'; subst hw'') | intro u
          have hB11 := hB10.trans (u.prop.mono hB10.size)
          have hW11 := HB.out _ hB11
          have HSM := same_any A10 A0 c10 c0 u.val.heap.size L L u.val ((hr10.below u.prop).more u.prop.size) ((HR0.out.below hW11).more hW11.size) (by omega)
          rw [show sameB L L = true from decide_eq_true rfl] at HSM
          have q1 : ((b.length : Int) == (b.length : Int)) = true := by simp
          clear hr10 hB11 hB10 hB7 hB7a
          generalize u.val = w11 at *
          go_wp2_with fail
          refine HSM.mono ?_; rintro e' w' ⟨rfl, n2, rfl⟩
          go_wp2_with fail
          refine (alive_any _).mono ?_; rintro e' w15 ⟨rfl, hb15⟩
          go_wp2_with fail
          go_ret
          exact ⟨rfl, below_of (below_drewN hW11 n2) hb15⟩
        · have hL' : 131072 < L.length := by omega
          go_wp2_with fail
          refine (alive_any _).mono ?_; rintro e' w15 ⟨rfl, hb15⟩
          go_wp2_with fail
          go_ret
          exact ⟨rfl, below_of hW9 hb15⟩
end Go.Proofs.Ytlgkckokcednaaa

/- The contract of the document's GetList. -/
import Derived.Test.YtlgkckokcednaaaGetList
namespace Go.Proofs.Ytlgkckokcednaaa
open Go Go.RowKit

set_option maxRecDepth 100000 in
set_option maxHeartbeats 2000000 in
theorem refGetList_any (s : ByteArray) (p : Int) (w : World) (hm : s.size ≤ 9223372036854775807) :
    Calls Try.prog 24 #[.string s, .int .i64 p] w (GotList (Wi.getList s.data.toList p) w) := by
  obtain ⟨i0, hi, hz0, hz1, hz2⟩ := info_parts infoStr
  have C := Lib.hid (refGetNum_any s p w hm)
  have HC := Lib.hid (fun (q : Int) (w : World) => refGetText_any s q w hm)
  generalize s.data.toList = l at *
  obtain ⟨n, next, e, hn⟩ : ∃ n next e, Wi.getNum l p = (n, next, e) := ⟨_, _, _, rfl⟩
  rw [hn] at C
  by_cases he : e = 0
  · subst he
    have hlt0 := (Wi.getNum_just hn).choose_spec.2.1
    by_cases h3 : 131072 < n
    · have HT := Lib.hid (Wi.getList_long hn h3)
      clear hn
      go_enter Try.func24, Try.ntmps24
      go_wp2_with fail
      refine C.out.mono ?_; rintro e w' ⟨rfl, rfl⟩
      unfold getV
      go_wp2
      go_ret3
      rw [HT.out]
      exact gotList_err 3 (Below.refl _ _)
    · have HT := Lib.hid (Wi.getList_ok hn (by omega))
      have HB := Lib.hid (Wi.behind_nil l n next)
      have hn3 : n ≤ 131072 := by omega
      have hd : decide (131072 < (n : Int)) = false := by simp; omega
      clear hn
      go_enter Try.func24, Try.ntmps24
      go_wp2_with fail
      refine C.out.mono ?_; rintro e w' ⟨rfl, rfl⟩
      unfold getV
      go_wp2_with fail
      go_loopw [8, 10, 11] (fun q v i wr => ∃ (k nx : Nat) (L : List (List UInt8)), k ≤ n ∧ i = .int .i64 (k : Int) ∧ q = .int .i64 (nx : Int) ∧ L.length = k ∧ wr.ownsRow w.heap.size 9 1 v k (sv (tB L)) ∧ Wi.behind L (Wi.getTexts l (n - k) nx) = Wi.getTexts l n next ∧ Below w.heap.size w wr) (fun _ _ i _ => n - (intOf i).toNat)
      case atStart => exact ⟨0, next, [], Nat.zero_le _, rfl, rfl, rfl, World.ownsRow_nil _ _ _ _, HB.out, Below.refl _ _⟩
      case round =>
        obtain ⟨k, nx, L, hk, rfl, rfl, hL, ho, hg, hb⟩ := hrel
        have hsz := hb.size
        have HL := Lib.hid hL
        have HO := Lib.hid ho
        clear hL
        by_cases hlt : k < n
        · rw [show n - k = (n - (k + 1)) + 1 by omega] at hg
          have CT := Lib.hid (HC.out (nx : Int) wr)
          obtain ⟨t, m, f, ht⟩ : ∃ t m f, Wi.getText l nx = (t, m, f) := ⟨_, _, _, rfl⟩
          rw [ht] at CT
          by_cases hf : f = 0
          · subst hf
            rw [Wi.behind_ok ht] at hg
            have HGG := Lib.hid hg
            have HL2 := Lib.hid (show (L ++ [t]).length = k + 1 by rw [List.length_append, HL.out]; rfl)
            have HB2 := Lib.hid (show sv (tB (L ++ [t])) = sv (tB L) ++ [Value.string (sB t)] by rw [tB_append, sv_append]; rfl)
            clear hg ht
            go_wp2_with fail
            refine CT.out.mono ?_; rintro e w' ⟨rfl, rfl⟩
            unfold textV
            go_wp2_with (first
              | (at_builtin; go_must (refine wp_app _ rfl (.tmp 42) (.tmp 44) 44 44 rfl w.heap.size 9 i0 _ 16 Try.underlying44 hi hz0 hz1 hz2 rfl u10 k (sv (tB L)) rfl (ho.alloc _) _ 1 [Value.string (sB t)] rfl (new_src Try.underlying44 wr [Value.string (sB t)] 1 1 9 (0, 0) rfl (by intro u hu; simp at hu; subst hu; rfl)) (by unfold maxLen; omega) (by omega) (by simp; omega) ?_); intro v1 w1 ho1 hg1 hat1))
            go_roundw
            case rel =>
              have hb2 : Below w.heap.size w w1 := (hb.alloc hsz _).grown hg1 (by simp; omega) (fun q hq => (HO.out.lt q hq).1)
              exact ⟨k + 1, m, L ++ [t], by omega, by go_num, rfl, HL2.out, by rw [HB2.out]; exact ho1, HGG.out, hb2⟩
            case measure => simp [intOf]; omega
          · rw [Wi.behind_err ht hf] at hg
            have HGG := Lib.hid hg
            have hf1 : ((f : Int) != 0) = true := by rw [bne_iff_ne]; omega
            clear hg ht hf
            go_wp2_with fail
            refine CT.out.mono ?_; rintro e w' ⟨rfl, rfl⟩
            unfold textV
            go_wp2_with fail
            go_ret3
            rw [HT.out, ← HGG.out]
            exact gotList_err f hb
        · obtain rfl : k = n := by omega
          rw [Nat.sub_self, Wi.behind_zero] at hg
          have HGG := Lib.hid hg
          clear hg
          obtain ⟨A2, c2, hv, hc2, -, -⟩ := own_form ho
          subst hv
          go_wp2_with fail
          go_ret3
          rw [HT.out, ← HGG.out]
          have ho2 := HO.out
          have hL2 := HL.out
          subst hL2
          have hr2 := Rd.of_own ho2
          exact ⟨A2, c2, rfl, hc2, hr2, hb⟩
  · have HT := Lib.hid (Wi.getList_err hn he)
    have he1 : ((e : Int) != 0) = true := by rw [bne_iff_ne]; omega
    clear hn he
    go_enter Try.func24, Try.ntmps24
    go_wp2_with fail
    refine C.out.mono ?_; rintro e w' ⟨rfl, rfl⟩
    unfold getV
    go_wp2
    go_ret3
    rw [HT.out]
    exact gotList_err e (Below.refl _ _)
end Go.Proofs.Ytlgkckokcednaaa

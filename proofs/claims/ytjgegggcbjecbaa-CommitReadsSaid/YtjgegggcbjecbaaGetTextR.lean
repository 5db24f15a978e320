/- The contract of the document's GetText. -/
import Derived.Test.YtjgegggcbjecbaaGetText
import Derived.Lib.Strings
import Derived.WalkSpells
namespace Go.Proofs.Ytjgegggcbjecbaa
open Go Go.RowKit

theorem extract_sB (s : ByteArray) (a n : Nat) : s.extract a (a + n) = sB ((s.data.toList.drop a).take n) := by
  have h := Lib.extract_data s a (a + n)
  rw [Nat.add_sub_cancel_left] at h
  have e : sB (s.extract a (a + n)).data.toList = sB ((s.data.toList.drop a).take n) := by rw [h]
  rw [sB_self] at e
  exact e

set_option maxRecDepth 100000 in
set_option maxHeartbeats 1000000 in
theorem refGetText_any (s : ByteArray) (p : Int) (w : World) (hm : s.size ≤ 9223372036854775807) :
    Calls Try.prog 62 #[.string s, .int .i64 p] w fun e w' => e = .returned (textV (Wi.getText s.data.toList p)) ∧ w = w' := by
  have C := Lib.hid (refGetNum_any s p w hm)
  have hlen : s.data.toList.length = s.size := by rw [Array.length_toList]; rfl
  have hex := extract_sB s
  generalize s.data.toList = l at *
  obtain ⟨n, next, e, hn⟩ : ∃ n next e, Wi.getNum l p = (n, next, e) := ⟨_, _, _, rfl⟩
  rw [hn] at C
  by_cases he : e = 0
  · subst he
    have hle := Wi.getNum_le hn
    have hlt := (Wi.getNum_just hn).choose_spec.2.1
    have hle2 : next ≤ s.size := by omega
    by_cases h3 : 131072 < n
    · have HT := Lib.hid (Wi.getText_long hn h3)
      clear hn hex hlen
      go_enter Try.func62, Try.ntmps62
      go_wp2_with fail
      refine C.out.mono ?_; rintro e w' ⟨rfl, rfl⟩
      unfold getV
      go_wp2
      go_ret3
      exact ⟨by rw [HT.out]; rfl, rfl⟩
    · by_cases hl : l.length < next + n
      · have HT := Lib.hid (Wi.getText_end hn (by omega) hl)
        have hl1 : (s.size : Int) - (next : Int) < (n : Int) := by omega
        clear hn hex hlen
        go_enter Try.func62, Try.ntmps62
        go_wp2_with fail
        refine C.out.mono ?_; rintro e w' ⟨rfl, rfl⟩
        unfold getV
        go_wp2
        go_ret3
        exact ⟨by rw [HT.out]; rfl, rfl⟩
      · have HT := Lib.hid (Wi.getText_ok hn (by omega) (by omega))
        have HX := Lib.hid (hex next n)
        have hk : next + n ≤ s.size := by omega
        generalize (l.drop next).take n = S at *
        clear hn hex hlen
        go_enter Try.func62, Try.ntmps62
        go_wp2_with fail
        refine C.out.mono ?_; rintro e w' ⟨rfl, rfl⟩
        unfold getV
        go_wp2
        go_ret3
        exact ⟨by rw [HT.out, textV, ← HX.out]; rfl, rfl⟩
  · have HT := Lib.hid (Wi.getText_err hn he)
    have he1 : ((e : Int) != 0) = true := by rw [bne_iff_ne]; omega
    clear hn he hex hlen
    go_enter Try.func62, Try.ntmps62
    go_wp2_with fail
    refine C.out.mono ?_; rintro e w' ⟨rfl, rfl⟩
    unfold getV
    go_wp2
    go_ret3
    exact ⟨by rw [HT.out]; rfl, rfl⟩
end Go.Proofs.Ytjgegggcbjecbaa

/- The contracts of getLength and GetText, and of the document's GetText. -/
import Derived.Test.YtjgegggcbjecbaaDoorGetR
namespace Go.Proofs.YtjgegggcbjecbaaDoor
open Go Go.RowKit

/-- What getLength answers. -/
def lenO (l : List UInt8) (p : Int) : Nat × Nat × Nat :=
  if (Wi.getNum l p).2.2 ≠ 0 then (0, 0, (Wi.getNum l p).2.2) else if 131072 < (Wi.getNum l p).1 then (0, 0, 3) else Wi.getNum l p

theorem lenO_err {l : List UInt8} {p : Int} {n next e : Nat} (h : Wi.getNum l p = (n, next, e)) (he : e ≠ 0) : lenO l p = (0, 0, e) := by
  unfold lenO; rw [h]; exact if_pos he
theorem lenO_long {l : List UInt8} {p : Int} {n next : Nat} (h : Wi.getNum l p = (n, next, 0)) (hn : 131072 < n) : lenO l p = (0, 0, 3) := by
  unfold lenO; rw [h, if_neg (by simp), if_pos hn]
theorem lenO_ok {l : List UInt8} {p : Int} {n next : Nat} (h : Wi.getNum l p = (n, next, 0)) (hn : n ≤ 131072) : lenO l p = (n, next, 0) := by
  unfold lenO; rw [h, if_neg (by simp), if_neg (by simpa using hn)]

set_option maxHeartbeats 1000000 in
theorem getLength_any (A : Option Addr) (c B : Nat) (p : Int) (l : List UInt8) (w : World) (hr : Rd w B A l.length (bv l)) (hc : l.length ≤ c) (hm : c ≤ 9223372036854775807) :
    Calls Tryd.prog 81 #[.slice A l.length c, .int .i64 p] w fun e w' => e = .returned (getV (lenO l p)) ∧ w = w' := by
  have C := Lib.hid (getNum_any A c B p l w hr hc hm)
  obtain ⟨n, next, e, hn⟩ : ∃ n next e, Wi.getNum l p = (n, next, e) := ⟨_, _, _, rfl⟩
  rw [hn] at C
  by_cases he : e = 0
  · subst he
    have hb := (Wi.getNum_just hn).choose_spec.2.1
    by_cases h3 : 131072 < n
    · have HL := Lib.hid (lenO_long hn h3)
      clear hn
      go_enter Tryd.func81, Tryd.ntmps81
      go_wp2_with fail
      refine C.out.mono ?_; rintro e w' ⟨rfl, rfl⟩
      unfold getV
      go_wp2
      go_ret3
      exact ⟨by rw [HL.out]; rfl, rfl⟩
    · have HL := Lib.hid (lenO_ok hn (by omega))
      clear hn
      go_enter Tryd.func81, Tryd.ntmps81
      go_wp2_with fail
      refine C.out.mono ?_; rintro e w' ⟨rfl, rfl⟩
      unfold getV
      go_wp2
      go_ret3
      exact ⟨by rw [HL.out]; rfl, rfl⟩
  · have HL := Lib.hid (lenO_err hn he)
    have he1 : ((e : Int) != 0) = true := by rw [bne_iff_ne]; omega
    clear hn he
    go_enter Tryd.func81, Tryd.ntmps81
    go_wp2_with fail
    refine C.out.mono ?_; rintro e w' ⟨rfl, rfl⟩
    unfold getV
    go_wp2
    go_ret3
    exact ⟨by rw [HL.out]; rfl, rfl⟩

/-- What GetText answers. -/
def textV (r : List UInt8 × Nat × Nat) : Value := .tuple #[.string (sB r.1), .int .i64 (r.2.1 : Int), .int .i64 (r.2.2 : Int)]

theorem take_drop_length {l : List UInt8} {next n : Nat} (h : next + n ≤ l.length) : ((l.drop next).take n).length = n := by
  rw [List.length_take, List.length_drop]; omega

set_option maxRecDepth 100000 in
set_option maxHeartbeats 1000000 in
theorem getText_any (A : Option Addr) (c B : Nat) (p : Int) (l : List UInt8) (w : World) (hr : Rd w B A l.length (bv l)) (hc : l.length ≤ c) (hm : c ≤ 9223372036854775807) :
    Calls Tryd.prog 72 #[.slice A l.length c, .int .i64 p] w fun e w' => e = .returned (textV (Wi.getText l p)) ∧ w = w' := by
  have C := Lib.hid (getLength_any A c B p l w hr hc hm)
  obtain ⟨n, next, e, hn⟩ : ∃ n next e, Wi.getNum l p = (n, next, e) := ⟨_, _, _, rfl⟩
  by_cases he : e = 0
  · subst he
    have hle := Wi.getNum_le hn
    by_cases h3 : 131072 < n
    · have HT := Lib.hid (Wi.getText_long hn h3)
      rw [lenO_long hn h3] at C
      clear hn
      go_enter Tryd.func72, Tryd.ntmps72
      go_wp2_with fail
      refine C.out.mono ?_; rintro e w' ⟨rfl, rfl⟩
      unfold getV
      go_wp2
      go_ret3
      exact ⟨by rw [HT.out]; rfl, rfl⟩
    · rw [lenO_ok hn (by omega)] at C
      by_cases hl : l.length < next + n
      · have HT := Lib.hid (Wi.getText_end hn (by omega) hl)
        clear hn
        go_enter Tryd.func72, Tryd.ntmps72
        go_wp2_with fail
        refine C.out.mono ?_; rintro e w' ⟨rfl, rfl⟩
        unfold getV
        go_wp2
        go_ret3
        exact ⟨by rw [HT.out]; rfl, rfl⟩
      · have HT := Lib.hid (Wi.getText_ok hn (by omega) (by omega))
        have hk : next + n ≤ l.length := by omega
        have hl2 := take_drop_length hk
        generalize hS : (l.drop next).take n = S at *
        by_cases hcn : c = next
        · subst hcn
          obtain rfl : n = 0 := by omega
          obtain rfl : S = [] := List.eq_nil_of_length_eq_zero hl2
          have hcv := fun c' => (Rd.nil w B A).str (P := Tryd.prog) (l := []) (n := 0) c' Tryd.underlying27 Tryd.underlying5 Tryd.underlying9
          clear hn hr hS hl2
          go_enter Tryd.func72, Tryd.ntmps72
          go_wp2_with fail
          refine C.out.mono ?_; rintro e w' ⟨rfl, rfl⟩
          unfold getV
          go_wp2
          go_ret3
          exact ⟨by rw [HT.out]; rfl, rfl⟩
        · have hr2 := (hr.mapDrop (k := next) hle).take (k := n) (by omega)
          rw [← bv_drop, ← bv_take, hS] at hr2
          have hcv := fun c' => hr2.str (P := Tryd.prog) c' Tryd.underlying27 Tryd.underlying5 Tryd.underlying9
          have hne : ¬ next = c := fun h => hcn h.symm
          clear hn hr hS hl2 hr2
          go_enter Tryd.func72, Tryd.ntmps72
          go_wp2_with fail
          refine C.out.mono ?_; rintro e w' ⟨rfl, rfl⟩
          unfold getV
          go_wp2
          go_ret3
          exact ⟨by rw [HT.out]; rfl, rfl⟩
  · have HT := Lib.hid (Wi.getText_err hn he)
    rw [lenO_err hn he] at C
    have he1 : ((e : Int) != 0) = true := by rw [bne_iff_ne]; omega
    clear hn he
    go_enter Tryd.func72, Tryd.ntmps72
    go_wp2_with fail
    refine C.out.mono ?_; rintro e w' ⟨rfl, rfl⟩
    unfold getV
    go_wp2
    go_ret3
    exact ⟨by rw [HT.out]; rfl, rfl⟩
end Go.Proofs.YtjgegggcbjecbaaDoor

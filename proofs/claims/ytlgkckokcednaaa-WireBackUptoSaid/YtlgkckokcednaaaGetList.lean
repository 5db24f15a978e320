/- The contracts of GetList, of the program and of the document's answer. -/
import Derived.Test.YtlgkckokcednaaaListR
import Derived.Test.YtlgkckokcednaaaGetTextR
namespace Go.Proofs.Ytlgkckokcednaaa
open Go Go.RowKit

theorem infoStr : (Try.prog.info? 9).map (fun i => (i.zero, i.size, i.bytes)) = some (some (.string ByteArray.empty), 1, 16) := by kernel_rfl

/-- Lists of bytes as texts. -/
def tB (L : List (List UInt8)) : List ByteArray := L.map sB
theorem tB_length (L : List (List UInt8)) : (tB L).length = L.length := List.length_map _
theorem tB_append (L M : List (List UInt8)) : tB (L ++ M) = tB L ++ tB M := List.map_append
theorem tl_tB (L : List (List UInt8)) : tl (tB L) = L := by
  unfold tl tB
  rw [List.map_map]
  exact List.map_id' _
theorem tB_tl (L : List ByteArray) : tB (tl L) = L := by
  unfold tl tB
  rw [List.map_map]
  exact List.map_id' _

/-- A list in new memory, a place and an error. -/
def GotList (r : List (List UInt8) × Nat × Nat) (w : World) (e : Ending) (w' : World) : Prop :=
  ∃ A c, e = .returned (.tuple #[.slice A r.1.length c, .int .i64 (r.2.1 : Int), .int .i64 (r.2.2 : Int)]) ∧ r.1.length ≤ c ∧ Rd w' w'.heap.size A r.1.length (sv (tB r.1)) ∧ Below w.heap.size w w'

theorem gotList_err {w w' : World} (k : Nat) (hb : Below w.heap.size w w') : GotList ([], 0, k) w (.returned (.tuple #[.slice none 0 0, .int .i64 0, .int .i64 (k : Int)])) w' :=
  ⟨none, 0, rfl, Nat.le_refl _, Rd.nil _ _ _, hb⟩

set_option maxRecDepth 100000 in
set_option maxHeartbeats 2000000 in
theorem getList_any (A : Option Addr) (c : Nat) (p : Int) (l : List UInt8) (w : World) (hr : Rd w w.heap.size A l.length (bv l)) (hc : l.length ≤ c) (hm : c ≤ 9223372036854775807) :
    Calls Try.prog 23 #[.slice A l.length c, .int .i64 p] w (GotList (Wi.getList l p) w) := by
  obtain ⟨i0, hi, hz0, hz1, hz2⟩ := info_parts infoStr
  have C := Lib.hid (getLength_any A c w.heap.size p l w hr hc hm)
  obtain ⟨n, next, e, hn⟩ : ∃ n next e, Wi.getNum l p = (n, next, e) := ⟨_, _, _, rfl⟩
  by_cases he : e = 0
  · subst he
    have hle := Wi.getNum_le hn
    by_cases h3 : 131072 < n
    · have HT := Lib.hid (Wi.getList_long hn h3)
      rw [lenO_long hn h3] at C
      clear hn
      go_enter Try.func23, Try.ntmps23
      go_wp2_with fail
      refine C.out.mono ?_; rintro e w' ⟨rfl, rfl⟩
      unfold getV
      go_wp2
      go_ret3
      rw [HT.out]
      exact gotList_err 3 (Below.refl _ _)
    · rw [lenO_ok hn (by omega)] at C
      have HT := Lib.hid (Wi.getList_ok hn (by omega))
      have HB := Lib.hid (Wi.behind_nil l n next)
      have hn3 : n ≤ 131072 := by omega
      have HR := Lib.hid hr
      clear hn hr
      go_enter Try.func23, Try.ntmps23
      go_wp2_with fail
      refine C.out.mono ?_; rintro e w' ⟨rfl, rfl⟩
      unfold getV
      go_wp2_with fail
      go_loopw [4, 5, 20] (fun v q i wr => ∃ (k nx : Nat) (L : List (List UInt8)), k ≤ n ∧ i = .int .i64 (k : Int) ∧ q = .int .i64 (nx : Int) ∧ nx ≤ l.length ∧ L.length = k ∧ wr.ownsRow w.heap.size 9 1 v k (sv (tB L)) ∧ Wi.behind L (Wi.getTexts l (n - k) nx) = Wi.getTexts l n next ∧ Below w.heap.size w wr) (fun _ _ i _ => n - (intOf i).toNat)
      case atStart => exact ⟨0, next, [], Nat.zero_le _, rfl, rfl, hle, rfl, World.ownsRow_nil _ _ _ _, HB.out, Below.refl _ _⟩
      case round =>
        obtain ⟨k, nx, L, hk, rfl, rfl, hnx, hL, ho, hg, hb⟩ := hrel
        have hsz := hb.size
        have HL := Lib.hid hL
        have HO := Lib.hid ho
        clear hL
        by_cases hlt : k < n
        · rw [show n - k = (n - (k + 1)) + 1 by omega] at hg
          have CT := Lib.hid (getText_any A c w.heap.size (nx : Int) l wr (HR.out.below hb) hc hm)
          obtain ⟨t, m, f, ht⟩ : ∃ t m f, Wi.getText l nx = (t, m, f) := ⟨_, _, _, rfl⟩
          rw [ht] at CT
          by_cases hf : f = 0
          · subst hf
            have hmle : m ≤ l.length := (Wi.getText_just ht).choose_spec.2.2.2.1
            rw [Wi.behind_ok ht] at hg
            have HGG := Lib.hid hg
            have HL2 := Lib.hid (show (L ++ [t]).length = k + 1 by rw [List.length_append, HL.out]; rfl)
            have HB2 := Lib.hid (show sv (tB (L ++ [t])) = sv (tB L) ++ [Value.string (sB t)] by rw [tB_append, sv_append]; rfl)
            clear hg ht
            go_wp2_with fail
            refine CT.out.mono ?_; rintro e w' ⟨rfl, rfl⟩
            unfold textV
            go_wp2_with (first
              | (at_builtin; go_must (refine wp_app _ rfl (.tmp 32) (.tmp 34) 44 44 rfl w.heap.size 9 i0 _ 16 Try.underlying44 hi hz0 hz1 hz2 rfl u4 k (sv (tB L)) rfl (ho.alloc _) _ 1 [Value.string (sB t)] rfl (new_src Try.underlying44 wr [Value.string (sB t)] 1 1 9 (0, 0) rfl (by intro u hu; simp at hu; subst hu; rfl)) (by unfold maxLen; omega) (by omega) (by simp; omega) ?_); intro v1 w1 ho1 hg1 hat1))
            go_roundw
            case rel =>
              have hb2 : Below w.heap.size w w1 := (hb.alloc hsz _).grown hg1 (by simp; omega) (fun q hq => (HO.out.lt q hq).1)
              exact ⟨k + 1, m, L ++ [t], by omega, by go_num, rfl, hmle, HL2.out, by rw [HB2.out]; exact ho1, HGG.out, hb2⟩
            case measure => simp [intOf]; omega
          · rw [Wi.behind_err ht hf] at hg
            have HGG := Lib.hid hg
            have hf1 : ((f : Int) != 0) = true := by rw [bne_iff_ne]; omega
            clear hg ht hf
            go_wp2_with fail
            refine CT.out.mono ?_; rintro e w' ⟨rfl, rfl⟩
            unfold textV
            go_wp2_with fail
            go_ret3
            rw [HT.out, ← HGG.out]
            exact gotList_err f hb
        · obtain rfl : k = n := by omega
          rw [Nat.sub_self, Wi.behind_zero] at hg
          have HGG := Lib.hid hg
          clear hg
          obtain ⟨A2, c2, hv, hc2, -, -⟩ := own_form ho
          subst hv
          go_wp2_with fail
          go_ret3
          rw [HT.out, ← HGG.out]
          have ho2 := HO.out
          have hL2 := HL.out
          subst hL2
          have hr2 := Rd.of_own ho2
          exact ⟨A2, c2, rfl, hc2, hr2, hb⟩
  · have HT := Lib.hid (Wi.getList_err hn he)
    rw [lenO_err hn he] at C
    have he1 : ((e : Int) != 0) = true := by rw [bne_iff_ne]; omega
    clear hn he
    go_enter Try.func23, Try.ntmps23
    go_wp2_with fail
    refine C.out.mono ?_; rintro e w' ⟨rfl, rfl⟩
    unfold getV
    go_wp2
    go_ret3
    rw [HT.out]
    exact gotList_err e (Below.refl _ _)
end Go.Proofs.Ytlgkckokcednaaa

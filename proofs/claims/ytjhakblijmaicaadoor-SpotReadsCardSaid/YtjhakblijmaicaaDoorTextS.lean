/- The contracts of Text, of the document's answer and of the program, at every spot. -/
import Derived.Test.YtjhakblijmaicaaDoorDigits
import Derived.Lib.LaidTab
namespace Go.Proofs.YtjhakblijmaicaaDoor
open Go Go.RowKit

theorem decB_size (n : Nat) (h : n ≤ 1125899906842624) : (decB n).size ≤ 20 := by
  unfold decB
  rw [size_of_list]
  exact Num.digits_length n (by omega)

theorem textB_dec (m n : Nat) : (decB m ++ (⟨#[58]⟩ : ByteArray)) ++ decB n = textB m n := textB_eq m n

set_option maxRecDepth 100000 in
set_option maxHeartbeats 2000000 in
theorem refText_any (m n : Nat) (hm : m ≤ 1125899906842624) (hn : n ≤ 1125899906842624) (w : World) :
    Calls Tryd.prog 28 #[spotV m n] w (Ret (.string (textB m n)) w) := by
  have HT := Lib.hid (textB_dec m n)
  have C1 := Lib.hid (fun w => digits_any m m w (Nat.le_refl _) hm)
  have C2 := Lib.hid (fun w => digits_any n n w (Nat.le_refl _) hn)
  have s1 := decB_size m hm
  have s2 := decB_size n hn
  generalize decB m = M at *
  generalize decB n = N at *
  have s3 : (M ++ (⟨#[58]⟩ : ByteArray)).size ≤ 21 := by rw [ByteArray.size_append]; have : (⟨#[58]⟩ : ByteArray).size = 1 := rfl; omega
  have s4 : ¬ 9223372036854775807 < M.size + 1 := by omega
  have s5 : ¬ 9223372036854775807 < M.size + 1 + N.size := by omega
  go_enter Tryd.func28, Tryd.ntmps28
  go_wp2
  go_region_with (first
    | (go_at_call_of 39 (Value.int .i64 (m : Int)); refine (C1.out _).mono ?_; rintro e w1 ⟨rfl, hb1⟩; obtain ⟨hc1, hf1⟩ := bcell hb1)
    | (go_at_call_of 39 (Value.int .i64 (n : Int)); refine (C2.out _).mono ?_; rintro e w2 ⟨rfl, hb2⟩; obtain ⟨hc2, hf2⟩ := bcell hb2))
  all_goals
    go_wp2
    go_ret
    exact ⟨by rw [← HT.out]; rfl, below_of (below_of (((Below.refl w.heap.size w).alloc (Nat.le_refl _) _).drew) hb1) hb2⟩

theorem below_grow (w : World) (k : Nat) (os : Array Obj) : Below w.heap.size w (Go.Sort.grow (w.drewN k) os) :=
  ⟨rfl, rfl, rfl, by simp, fun i hi => Go.Sort.heap_grow_old (w.drewN k) os hi⟩

theorem tab_below {P : Program} {w w' : World} {name : String} {k : IntKind} {zs : List Int} (h : Lib.TabIs P w name k zs) (hb : Below w.heap.size w w') : Lib.TabIs P w' name k zs := by
  unfold Lib.TabIs at h ⊢
  unfold World.var? at h ⊢
  cases hg : P.globalNamed name with
  | none => rw [hg] at h; cases h
  | some g =>
    rw [hg] at h
    simp only [Option.bind_some] at h ⊢
    have hlt : g < w.heap.size := by
      cases hh : w.heap[g]? with
      | none => rw [hh] at h; cases h
      | some o => exact (Array.getElem?_eq_some_iff.1 hh).1
    rw [hb.block g hlt]
    exact h

/-- The table that Itoa reads. -/
def Tab (w : World) : Prop := Lib.TabIs Tryd.prog w "internal/strconv.uint64pow10" .u64 Lib.pow10Tab

theorem itoa_dec (n : Nat) : (⟨(Lib.itoa (n : Int)).toArray⟩ : ByteArray) = decB n := by
  unfold decB Lib.itoa
  rw [if_neg (by omega)]
  rfl

theorem itoa_any (n : Nat) (hn : n ≤ 1125899906842624) (w : World) (ht : Tab w) : Calls Tryd.prog 43 #[.int .i64 n] w (Ret (.string (decB n)) w) :=
  (Tryd.strconv_Itoa n (by omega) (by omega) w ht).mono fun e w' ⟨he, k, os, hw⟩ => by
    rw [itoa_dec] at he
    exact ⟨he, by rw [hw]; exact below_grow w k os⟩

set_option maxRecDepth 100000 in
set_option maxHeartbeats 2000000 in
theorem text_yes (c d : Nat) (w : World) {m n : Nat} (h1 : Fl.part c = some m) (h2 : Fl.part d = some n) (ht : Tab w) :
    Calls Tryd.prog 31 #[.complex .f64 c d] w (Ret (.string (textB m n)) w) := by
  have IA := Lib.hid (is_yes c d w m n h1 h2)
  obtain ⟨r1, q1⟩ := Fl.part_rep h1
  obtain ⟨r2, q2⟩ := Fl.part_rep h2
  have hc := fun w : World => run_convert_float_int (P := Tryd.prog) w 30 3 .f64 .i64 c m (by rw [Tryd.underlying30]; rfl) Tryd.underlying3 (toIntVal (Fl.toInt_rep r1 (by omega)) (by omega))
  have hd := fun w : World => run_convert_float_int (P := Tryd.prog) w 30 3 .f64 .i64 d n (by rw [Tryd.underlying30]; rfl) Tryd.underlying3 (toIntVal (Fl.toInt_rep r2 (by omega)) (by omega))
  have HT := Lib.hid (textB_dec m n)
  have T1 := Lib.hid (fun w ht => itoa_any m q1 w ht)
  have T2 := Lib.hid (fun w ht => itoa_any n q2 w ht)
  have HTab := Lib.hid ht
  have s1 := decB_size m q1
  have s2 := decB_size n q2
  generalize decB m = M at *
  generalize decB n = N at *
  have s4 : ¬ 9223372036854775807 < M.size + 1 := by omega
  have s5 : ¬ 9223372036854775807 < M.size + 1 + N.size := by omega
  clear h1 h2 r1 r2 ht
  go_enter Tryd.func31, Tryd.ntmps31
  go_wp2_with fail
  refine IA.out.mono ?_; rintro e w' ⟨rfl, rfl⟩
  go_wp2_with fail
  refine (T1.out _ HTab.out).mono ?_; rintro e w1 ⟨rfl, hb1⟩
  have HTab1 := Lib.hid (tab_below HTab.out hb1)
  go_wp2_with fail
  refine (T2.out _ HTab1.out).mono ?_; rintro e w2 ⟨rfl, hb2⟩
  go_wp2
  go_ret
  exact ⟨by rw [← HT.out]; rfl, below_of hb1 hb2⟩

set_option maxHeartbeats 400000 in
theorem text_no (c d : Nat) (w : World) (h : Fl.part c = none ∨ Fl.part d = none) :
    Calls Tryd.prog 31 #[.complex .f64 c d] w fun e w' => e = .returned (.string ⟨#[]⟩) ∧ w = w' := by
  have IA := Lib.hid (is_no c d w h)
  clear h
  go_enter Tryd.func31, Tryd.ntmps31
  go_wp2_with fail
  refine IA.out.mono ?_; rintro e w' ⟨rfl, rfl⟩
  go_wp2
  go_ret
  exact ⟨rfl, rfl⟩
end Go.Proofs.YtjhakblijmaicaaDoor

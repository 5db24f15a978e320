/- The contracts of At and Find of package spot. -/
import Derived.Test.YtjhakblijmaicaaDoorOf
namespace Go.Proofs.YtjhakblijmaicaaDoor
open Go Go.RowKit

theorem extract_size_le (s : ByteArray) (a b : Nat) : (s.extract a b).size ≤ s.size := by
  rw [ByteArray.size_extract]; omega

set_option maxHeartbeats 1000000 in
theorem at_in (s : ByteArray) (n : Nat) (w : World) (hs : s.size ≤ 140737488351232) (hn : n ≤ s.size) :
    Calls Tryd.prog 23 #[.string s, .int .i64 n] w fun e w' => e = .returned (.tuple #[.complex .f64 (Fl.FN (Pos.pos (s.data.toList.take n)).1) (Fl.FN (Pos.pos (s.data.toList.take n)).2), .bool true]) ∧ w = w' := by
  have C := Lib.hid (fun w => of_any (s.extract 0 n) w (by have := extract_size_le s 0 n; omega))
  have E := Lib.hid (Pos.extract_take s n)
  go_enter Tryd.func23, Tryd.ntmps23
  go_wp2_with fail
  refine (C.out _).mono ?_; rintro e w1 ⟨rfl, rfl⟩
  rw [E.out]
  go_wp2
  go_ret2
  exact ⟨rfl, rfl⟩

set_option maxHeartbeats 1000000 in
theorem at_out (s : ByteArray) (n : Int) (w : World) (hs : s.size ≤ 140737488351232) (hn : n < 0 ∨ (s.size : Int) < n) :
    Calls Tryd.prog 23 #[.string s, .int .i64 n] w fun e w' => e = .returned (.tuple #[.complex .f64 0 0, .bool false]) ∧ w = w' := by
  rcases hn with hn | hn
  · go_enter Tryd.func23, Tryd.ntmps23
    go_wp2
    go_ret2
    exact ⟨rfl, rfl⟩
  · have h0 : ¬ n < 0 := by omega
    go_enter Tryd.func23, Tryd.ntmps23
    go_wp2
    go_ret2
    exact ⟨rfl, rfl⟩

/-- What lineBegin tells: where the line begins; or there are not so many lines. -/
def LB (s : ByteArray) (line : Nat) (e : Ending) : Prop :=
  (∃ b : Nat, b ≤ s.size ∧ e = .returned (.tuple #[.int .i64 b, .bool true]) ∧ Pos.pos (s.data.toList.take b) = (line, 0)) ∨
  (e = .returned (.tuple #[.int .i64 0, .bool false]) ∧ ∀ n, (Pos.pos (s.data.toList.take n)).1 < line)

set_option maxHeartbeats 1000000 in
theorem lineBegin_any (s : ByteArray) (line : Nat) (w : World) (hs : s.size ≤ 140737488351232) (hline : line ≤ 1125899906842624) :
    Calls Tryd.prog 37 #[.string s, .int .i64 line] w fun e w' => LB s line e ∧ w = w' := by
  have hlen : s.data.toList.length = s.size := by rw [Array.length_toList]; rfl
  have HL := Lib.hid hlen
  clear hlen
  go_enter Tryd.func37, Tryd.ntmps37
  go_wp2
  go_loop [6, 9] (fun bv iv => ∃ j b : Nat, j ≤ line ∧ b ≤ s.size ∧ iv = .int .i64 j ∧ bv = .int .i64 b ∧ Pos.pos (s.data.toList.take b) = (j, 0)) (fun _ iv => line - (intOf iv).toNat)
  case atStart => exact ⟨0, 0, Nat.zero_le _, Nat.zero_le _, rfl, rfl, rfl⟩
  case round =>
    obtain ⟨j, b, hj, hb, rfl, rfl, hp⟩ := hrel
    have HP := Lib.hid hp
    clear hp
    by_cases hlt : j < line
    · have C := Lib.hid (fun w => Tryd.strings_IndexByte (s.extract b s.size) 10 w)
      have E := Lib.hid (Pos.extract_drop s b)
      by_cases hi : Lib.indexByte (s.data.toList.drop b) 10 = -1
      · have HI := Lib.hid hi
        clear hi
        go_wp2_with fail
        refine (C.out _).mono ?_; rintro e w1 ⟨rfl, rfl⟩
        rw [E.out, show (10 : Int).toNat.toUInt8 = 10 from rfl, HI.out]
        go_wp2
        go_ret2
        exact ⟨Or.inr ⟨rfl, fun n => Pos.line_none _ b j line n HP.out (by rw [HL.out]; exact hb) HI.out hlt⟩, rfl⟩
      · obtain ⟨o, ho⟩ := Int.eq_ofNat_of_zero_le (show 0 ≤ Lib.indexByte (s.data.toList.drop b) 10 by have := Lib.indexByte_ge (s.data.toList.drop b) 10; omega)
        obtain ⟨g1, g2⟩ := Lib.indexByte_some ho
        have hol : o < (s.data.toList.drop b).length := (List.getElem?_eq_some_iff.1 g1).1
        rw [List.length_drop, HL.out] at hol
        have hbo : b + o + 1 ≤ s.size := by omega
        rw [List.getElem?_drop] at g1
        have hq : Pos.pos (s.data.toList.take (b + o + 1)) = (j + 1, 0) :=
          Pos.pos_feed _ _ _ _ (Pos.pos_run _ b j 0 o HP.out (fun i hi => by have := g2 i hi; rwa [List.getElem?_drop] at this) (by rw [HL.out]; omega)) g1
        have HQ := Lib.hid hq
        have HO := Lib.hid ho
        clear hq ho g1 g2 hi
        go_wp2_with fail
        refine (C.out _).mono ?_; rintro e w1 ⟨rfl, rfl⟩
        rw [E.out, show (10 : Int).toNat.toUInt8 = 10 from rfl, HO.out]
        go_wp2
        go_round
        case rel => exact ⟨j + 1, b + o + 1, by omega, by omega, by go_num, by congr 1, HQ.out⟩
        case measure => simp [intOf]; omega
    · obtain rfl : j = line := by omega
      go_wp2
      go_ret2
      exact ⟨Or.inl ⟨b, hb, rfl, HP.out⟩, rfl⟩

set_option maxHeartbeats 1000000 in
theorem lineLen_any (s : ByteArray) (w : World) (_ : s.size ≤ 140737488351232) :
    Calls Tryd.prog 38 #[.string s] w fun e w' => e = .returned (.int .i64 (Pos.lineLen s.data.toList)) ∧ w = w' := by
  have hlen : s.data.toList.length = s.size := by rw [Array.length_toList]; rfl
  have C := Lib.hid (fun w => Tryd.strings_IndexByte s 10 w)
  by_cases hi : 0 ≤ Lib.indexByte s.data.toList 10
  · obtain ⟨o, ho⟩ := Int.eq_ofNat_of_zero_le hi
    have HR := Lib.hid (show Pos.lineLen s.data.toList = o by unfold Pos.lineLen; rw [if_pos hi, ho]; rfl)
    have HO := Lib.hid ho
    clear hi ho hlen
    go_enter Tryd.func38, Tryd.ntmps38
    go_wp2_with fail
    refine (C.out _).mono ?_; rintro e w1 ⟨rfl, rfl⟩
    rw [show (10 : Int).toNat.toUInt8 = 10 from rfl, HO.out]
    go_wp2
    go_ret
    exact ⟨by rw [HR.out]; rfl, rfl⟩
  · have HR := Lib.hid (show Pos.lineLen s.data.toList = s.size by unfold Pos.lineLen; rw [if_neg hi, hlen])
    have hm : Lib.indexByte s.data.toList 10 = -1 := by have := Lib.indexByte_ge s.data.toList 10; omega
    have HO := Lib.hid hm
    clear hi hm hlen
    go_enter Tryd.func38, Tryd.ntmps38
    go_wp2_with fail
    refine (C.out _).mono ?_; rintro e w1 ⟨rfl, rfl⟩
    rw [show (10 : Int).toNat.toUInt8 = 10 from rfl, HO.out]
    go_wp2
    go_ret
    exact ⟨by rw [HR.out]; rfl, rfl⟩

/-- What Find tells of a place: behind how many bytes it lies; or it is none of the text's. -/
def FindV (s : ByteArray) (o : Option (Nat × Nat)) (e : Ending) : Prop :=
  (∃ n : Nat, n ≤ s.size ∧ e = .returned (.tuple #[.int .i64 n, .bool true]) ∧ o = some (Pos.pos (s.data.toList.take n))) ∨
  (e = .returned (.tuple #[.int .i64 0, .bool false]) ∧ ∀ n, n ≤ s.size → o ≠ some (Pos.pos (s.data.toList.take n)))

set_option maxHeartbeats 1000000 in
theorem find_any (s : ByteArray) (c d : Nat) (w : World) (hs : s.size ≤ 140737488351232) :
    Calls Tryd.prog 24 #[.string s, .complex .f64 c d] w fun e w' => FindV s (spotO c d) e ∧ w = w' := by
  have hlen : s.data.toList.length = s.size := by rw [Array.length_toList]; rfl
  cases ho : spotO c d with
  | none =>
    have C := Lib.hid (fun w => is_no c d w (spotO_none ho))
    clear ho hlen
    go_enter Tryd.func24, Tryd.ntmps24
    go_wp2_with fail
    refine (C.out _).mono ?_; rintro e w1 ⟨rfl, rfl⟩
    go_wp2
    go_ret2
    exact ⟨Or.inr ⟨rfl, fun n _ h => by cases h⟩, rfl⟩
  | some p =>
    obtain ⟨h1, h2⟩ := spotO_some ho
    have C := Lib.hid (fun w => is_yes c d w _ _ h1 h2)
    obtain ⟨r1, q1⟩ := Fl.part_rep h1
    obtain ⟨r2, q2⟩ := Fl.part_rep h2
    have hc := fun w : World => run_convert_float_int (P := Tryd.prog) w 30 3 .f64 .i64 c p.1 (by rw [Tryd.underlying30]; rfl) Tryd.underlying3 (toIntVal (Fl.toInt_rep r1 (by omega)) (by omega))
    have hd := fun w : World => run_convert_float_int (P := Tryd.prog) w 30 3 .f64 .i64 d p.2 (by rw [Tryd.underlying30]; rfl) Tryd.underlying3 (toIntVal (Fl.toInt_rep r2 (by omega)) (by omega))
    have CB := Lib.hid (fun w => lineBegin_any s p.1 w hs q1)
    have HL := Lib.hid hlen
    clear ho h1 h2 r1 r2 hlen
    go_enter Tryd.func24, Tryd.ntmps24
    go_wp2_with fail
    refine (C.out _).mono ?_; rintro e w1 ⟨rfl, rfl⟩
    go_wp2_with fail
    refine (CB.out _).mono ?_; rintro e w1 ⟨hv, rfl⟩
    rcases hv with ⟨b, hb, rfl, hp⟩ | ⟨rfl, hn⟩
    · have HP := Lib.hid hp
      clear hp
      have CL := Lib.hid (fun w => lineLen_any (s.extract b s.size) w (by have := extract_size_le s b s.size; omega))
      have E := Lib.hid (Pos.extract_drop s b)
      obtain ⟨l1, l2, l3⟩ := Pos.lineLen_spec (s.data.toList.drop b)
      rw [List.length_drop, HL.out] at l1
      have L2 := Lib.hid l2
      clear l2 l3
      by_cases hcol : p.2 ≤ Pos.lineLen (s.data.toList.drop b)
      · have HR := Lib.hid (show Pos.pos (s.data.toList.take (b + p.2)) = (p.1, p.2) by
          have := Pos.pos_run s.data.toList b p.1 0 p.2 HP.out (fun k hk => by have := L2.out k (by omega); rwa [List.getElem?_drop] at this) (by rw [HL.out]; omega)
          rw [Nat.zero_add] at this
          exact this)
        have hle : ¬ Pos.lineLen (s.data.toList.drop b) < p.2 := by omega
        go_wp2_with fail
        refine (CL.out _).mono ?_; rintro e w1 ⟨rfl, rfl⟩
        rw [E.out]
        generalize Pos.lineLen (s.data.toList.drop b) = ll at *
        go_wp2
        go_ret2
        exact ⟨Or.inl ⟨b + p.2, by omega, rfl, by rw [HR.out]⟩, rfl⟩
      · have HR := Lib.hid (fun n (hn : n ≤ s.size) => Pos.none_behind s.data.toList b p.1 p.2 n HP.out (by rw [HL.out]; exact hb) (by omega) (by rw [HL.out]; exact hn))
        have hle : Pos.lineLen (s.data.toList.drop b) < p.2 := by omega
        go_wp2_with fail
        refine (CL.out _).mono ?_; rintro e w1 ⟨rfl, rfl⟩
        rw [E.out]
        generalize Pos.lineLen (s.data.toList.drop b) = ll at *
        go_wp2
        go_ret2
        exact ⟨Or.inr ⟨rfl, fun n hn h => HR.out n hn (Option.some.inj h).symm⟩, rfl⟩
    · have HN := Lib.hid hn
      clear hn
      go_wp2
      go_ret2
      exact ⟨Or.inr ⟨rfl, fun n _ h => by have h1 := HN.out n; rw [← Option.some.inj h] at h1; exact absurd h1 (Nat.lt_irrefl _)⟩, rfl⟩
end Go.Proofs.YtjhakblijmaicaaDoor

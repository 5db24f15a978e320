/- SpotRises: spots rise strictly from byte to byte. No conditions but the row's own. -/
import Derived.Test.YtjhakblijmaicaaDoorAt
import Derived.Test.YtjhakblijmaicaaDoorLift
namespace Go.Proofs.YtjhakblijmaicaaDoor
open Go Go.ChangeShapes Go.WideShapes Go.RowKit


theorem fn_part {n : Nat} (h : n ≤ 2 ^ 50) : Fl.part (Fl.FN n) = some n := Fl.part_of_rep (Fl.rep_FN (by omega)) h

theorem less_take (l : List UInt8) (n m : Nat) (_ : n ≤ l.length) (hm : m ≤ l.length) : lessO (some (Pos.pos (l.take n))) (some (Pos.pos (l.take m))) = decide ((n : Int) < m) := by
  unfold lessO
  simp only
  rw [decide_eq_decide]
  constructor
  · intro h
    by_cases hx : n < m
    · omega
    · exact absurd h (Pos.not_less_of_le (l := l) (show m ≤ n by omega))
  · intro h
    exact Pos.pos_take_less l n m (by omega) hm

set_option maxHeartbeats 4000000 in
theorem spotRises_walk (s : ByteArray) (n m : Int) (w : World) (hs : s.size ≤ 140737488351232) (_ : -9223372036854775808 ≤ n ∧ n ≤ 9223372036854775807) (_ : -9223372036854775808 ≤ m ∧ m ≤ 9223372036854775807) :
    Calls Tryd.prog 13 #[.string s, .int .i64 n, .int .i64 m] w (Ret (.bool true) w) := by
  have hlen : s.data.toList.length = s.size := by rw [Array.length_toList]; rfl
  by_cases hn : 0 ≤ n ∧ n ≤ s.size
  · obtain ⟨i, rfl⟩ := Int.eq_ofNat_of_zero_le hn.1
    have hi : i ≤ s.size := by omega
    have C1 := Lib.hid (fun w => at_in s i w hs hi)
    by_cases hm : 0 ≤ m ∧ m ≤ s.size
    · obtain ⟨j, rfl⟩ := Int.eq_ofNat_of_zero_le hm.1
      have hj : j ≤ s.size := by omega
      have C2 := Lib.hid (fun w => at_in s j w hs hj)
      have L1 := less_take s.data.toList i j (by rw [hlen]; exact hi) (by rw [hlen]; exact hj)
      have L2 := less_take s.data.toList j i (by rw [hlen]; exact hj) (by rw [hlen]; exact hi)
      have LE := fun h => Pos.pos_take_inj s.data.toList i j (by rw [hlen]; exact hi) (by rw [hlen]; exact hj) h
      have hpi := Pos.pos_take_le s i
      have hpj := Pos.pos_take_le s j
      have hij : i = j → Pos.pos (s.data.toList.take i) = Pos.pos (s.data.toList.take j) := fun h => by rw [h]
      generalize Pos.pos (s.data.toList.take i) = p at *
      generalize Pos.pos (s.data.toList.take j) = q at *
      have f1 := fn_part (show p.1 ≤ 2 ^ 50 by omega)
      have f2 := fn_part (show p.2 ≤ 2 ^ 50 by omega)
      have f3 := fn_part (show q.1 ≤ 2 ^ 50 by omega)
      have f4 := fn_part (show q.2 ≤ 2 ^ 50 by omega)
      have D1 := Lib.hid (fun w => less_any (Fl.FN p.1) (Fl.FN p.2) (Fl.FN q.1) (Fl.FN q.2) w)
      have D2 := Lib.hid (fun w => less_any (Fl.FN q.1) (Fl.FN q.2) (Fl.FN p.1) (Fl.FN p.2) w)
      rw [spotO_mk f1 f2, spotO_mk f3 f4] at D1 D2
      rw [show ((p.1, p.2) : Nat × Nat) = p from rfl, show ((q.1, q.2) : Nat × Nat) = q from rfl, L1] at D1
      rw [show ((p.1, p.2) : Nat × Nat) = p from rfl, show ((q.1, q.2) : Nat × Nat) = q from rfl, L2] at D2
      have e1 := eq_bit f1 f3
      have e2 := eq_bit f2 f4
      have hE : ((FloatKind.f64.format.order (Fl.FN p.1) (Fl.FN q.1) == some Ordering.eq) && (FloatKind.f64.format.order (Fl.FN p.2) (Fl.FN q.2) == some Ordering.eq)) = ((i : Int) == j) := by
        rw [e1, e2]
        by_cases h : i = j
        · have := hij h
          rw [this, h]; simp
        · have h1 : ¬ p = q := fun e => h (LE e)
          have h2 : ¬ (p.1 = q.1 ∧ p.2 = q.2) := fun e => h1 (Prod.ext e.1 e.2)
          have h3 : ((i : Int) == j) = false := beq_eq_false_iff_ne.2 (by omega)
          rw [h3]
          by_cases g : p.1 = q.1
          · have : ¬ p.2 = q.2 := fun e => h2 ⟨g, e⟩
            simp [this]
          · simp [g]
      have HE := Lib.hid hE
      generalize Fl.FN p.1 = x1 at *
      generalize Fl.FN p.2 = x2 at *
      generalize Fl.FN q.1 = y1 at *
      generalize Fl.FN q.2 = y2 at *
      clear hE e1 e2 f1 f2 f3 f4 L1 L2 LE hij hpi hpj hn hm hlen
      go_enter Tryd.func13, Tryd.ntmps13
      go_wp2_with fail
      refine (C1.out _).mono ?_; rintro e w1 ⟨rfl, rfl⟩
      go_wp2_with fail
      refine (C2.out _).mono ?_; rintro e w1 ⟨rfl, rfl⟩
      go_wp2_with fail
      refine (D1.out _).mono ?_; rintro e w1 ⟨rfl, rfl⟩
      go_wp2_with fail
      refine (D2.out _).mono ?_; rintro e w1 ⟨rfl, rfl⟩
      go_wp2_with fail
      refine (alive_any _).mono ?_; rintro e w3 ⟨rfl, rfl⟩
      go_wp2
      go_ret
      exact ⟨rfl, Below.refl _ _⟩
    · have C2 := Lib.hid (fun w => at_out s m w hs (show m < 0 ∨ (s.size : Int) < m by omega))
      clear hn hm
      go_enter Tryd.func13, Tryd.ntmps13
      go_wp2_with fail
      refine (C1.out _).mono ?_; rintro e w1 ⟨rfl, rfl⟩
      go_wp2_with fail
      refine (C2.out _).mono ?_; rintro e w1 ⟨rfl, rfl⟩
      go_wp2_with fail
      refine (alive_any _).mono ?_; rintro e w3 ⟨rfl, rfl⟩
      go_wp2
      go_ret
      exact ⟨rfl, Below.refl _ _⟩
  · have C1 := Lib.hid (fun w => at_out s n w hs (show n < 0 ∨ (s.size : Int) < n by omega))
    clear hn
    by_cases hm : 0 ≤ m ∧ m ≤ s.size
    · obtain ⟨j, rfl⟩ := Int.eq_ofNat_of_zero_le hm.1
      have hj : j ≤ s.size := by omega
      have C2 := Lib.hid (fun w => at_in s j w hs hj)
      clear hm
      go_enter Tryd.func13, Tryd.ntmps13
      go_wp2_with fail
      refine (C1.out _).mono ?_; rintro e w1 ⟨rfl, rfl⟩
      go_wp2_with fail
      refine (C2.out _).mono ?_; rintro e w1 ⟨rfl, rfl⟩
      go_wp2_with fail
      refine (alive_any _).mono ?_; rintro e w3 ⟨rfl, rfl⟩
      go_wp2
      go_ret
      exact ⟨rfl, Below.refl _ _⟩
    · have C2 := Lib.hid (fun w => at_out s m w hs (show m < 0 ∨ (s.size : Int) < m by omega))
      clear hm
      go_enter Tryd.func13, Tryd.ntmps13
      go_wp2_with fail
      refine (C1.out _).mono ?_; rintro e w1 ⟨rfl, rfl⟩
      go_wp2_with fail
      refine (C2.out _).mono ?_; rintro e w1 ⟨rfl, rfl⟩
      go_wp2_with fail
      refine (alive_any _).mono ?_; rintro e w3 ⟨rfl, rfl⟩
      go_wp2
      go_ret
      exact ⟨rfl, Below.refl _ _⟩

set_option maxRecDepth 100000 in
theorem spotRises_said : Rows.SpotRisesSaid :=
  OpenClaim.holds_of_wide 13 Tryd.f13 rfl rfl rfl rfl rfl rfl rfl ⟨rfl, rfl, rfl, rfl, rfl⟩ rfl rfl rfl rfl rfl (by kernel_rfl) Tryd.func13 (by kernel_rfl)
    (of_decide_eq_true (by kernel_rfl)) (by unfold Func.isWrapper; first | (rw [if_pos (by decide +kernel)]; kernel_rfl) | (rw [if_neg (by decide +kernel)]; exact ⟨rfl, rfl⟩))
    (fun os started H enc _ => lift (s := Rows.spotRisesSpec) #[.string ⟨#[]⟩, .int .i64 0, .int .i64 0] rfl (by kernel_rfl) Tryd.func13 (by kernel_rfl) (by kernel_rfl) (fun _ => by kernel_rfl) (fun _ _ _ => by kernel_rfl) (fun _ _ _ => by kernel_rfl)
      (fun H enc W base args ds p hval hA hsz hL => by
        rw [Tryd.params13] at hA hval hsz
        obtain ⟨v0, v1, v2, d0, d1, d2, p0, p1, p2, rfl, rfl, rfl, h0, h1, h2⟩ := trodAll_three hA
        obtain ⟨b0, rfl, rfl, rfl, wf0⟩ := Go.ChangeMaps.open_string Tryd.underlying9 (hval 0 9 v0 rfl rfl) h0
        obtain ⟨b1, rfl, rfl, rfl, wf1⟩ := open_int Tryd.underlying3 (hval 1 3 v1 rfl rfl) h1
        obtain ⟨b2, rfl, rfl, rfl, wf2⟩ := open_int Tryd.underlying3 (hval 2 3 v2 rfl rfl) h2
        exact ⟨rfl, spotRises_walk b0 b1 b2 W (size_of_sized hsz 0 rfl rfl) (int_of_wf wf1) (int_of_wf wf2)⟩) os started H enc)

theorem spotRises_holds : Rows.SpotRisesCardSaid :=
  Claim7.holds_tied_plain_at .later [] [.data, .data, .data] true Rows.spotRisesCard.stood.harness false
    spotRises_said (fun _ h => by cases h) (by kernel_rfl) (fun _ h => by cases h) spotRises_row_tie rfl ⟨rfl, rfl⟩ (by kernel_rfl) rfl
    (fun f fn hf hfn => by
      obtain rfl : f = 13 := Option.some.inj ((show Tryd.prog.funcNamed Rows.spotRisesRow.func = some 13 by kernel_rfl).symm.trans hf) |>.symm
      obtain rfl : fn = Tryd.f13 := (Option.some.inj (Tryd.func13.symm.trans hfn)).symm
      exact ⟨by kernel_rfl, fun j t ht => by
        rw [Tryd.params13] at ht
        have hm : t ∈ [9, 3, 3] := by simpa using Array.mem_of_getElem? ht
        have hall : ([9, 3, 3].all fun u => !Tryd.prog.wantsStandIn u) = true := by kernel_rfl
        exact (show Tryd.prog.wantsStandIn t = false by simpa using List.all_eq_true.1 hall t hm)⟩)
    (by kernel_rfl)
#print axioms spotRises_holds
end Go.Proofs.YtjhakblijmaicaaDoor

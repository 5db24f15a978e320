/- SpotGroups: three spots are joined to the same one whichever two are joined first, where both ways are told. No conditions but the row's own. -/
import Derived.Test.YtjhakblijmaicaaDoorLess
import Derived.Test.YtjhakblijmaicaaDoorLift
namespace Go.Proofs.YtjhakblijmaicaaDoor
open Go Go.ChangeShapes Go.WideShapes Go.RowKit


theorem below_drewN {B : Nat} {a w : World} (h : Below B a w) (n : Nat) : Below B a (w.drewN n) := ⟨h.os, h.tape, h.output, h.size, h.block⟩

theorem join_assoc (a b c : Nat × Nat) : Pos.join (Pos.join a b) c = Pos.join a (Pos.join b c) := by
  unfold Pos.join
  by_cases hb : b.1 = 0 <;> by_cases hc : c.1 = 0
  · simp [hb, hc]; omega
  · simp [hb, hc]
  · simp [hb, hc]
  · simp [hb, hc]; omega

theorem joinO_eq {a b p : Nat × Nat} (h : joinO a b = some p) : p = Pos.join a b := by
  unfold joinO at h
  split at h
  · exact (Option.some.inj h).symm
  · cases h

/-- Join, with what is told beside it as one bool. -/
theorem join_bool (a1 a2 b1 b2 : Nat) (w : World) (hb : b2 < 2 ^ 64) :
    Calls Tryd.prog 21 #[.complex .f64 a1 a2, .complex .f64 b1 b2] w fun e w' =>
      (∃ c d, e = .returned (.tuple #[.complex .f64 c d, .bool (joinOO (spotO a1 a2) (spotO b1 b2)).isSome]) ∧ d < 2 ^ 64 ∧ ((joinOO (spotO a1 a2) (spotO b1 b2)).isSome = true → spotO c d = joinOO (spotO a1 a2) (spotO b1 b2))) ∧ w = w' :=
  (join_any a1 a2 b1 b2 w hb).mono fun e w' ⟨hv, hw⟩ => by
    refine ⟨?_, hw⟩
    cases ho : joinOO (spotO a1 a2) (spotO b1 b2) with
    | none =>
      rw [ho] at hv
      exact ⟨0, 0, hv, by decide, fun h => by cases h⟩
    | some p =>
      rw [ho] at hv
      obtain ⟨c, d, he, pc, pd, hd⟩ := hv
      exact ⟨c, d, he, hd, fun _ => spotO_mk pc pd⟩

set_option maxHeartbeats 4000000 in
theorem spotGroups_walk (a b c d x y : Nat) (w : World) (_ : a < 2 ^ 64) (_ : b < 2 ^ 64) (_ : c < 2 ^ 64) (hd : d < 2 ^ 64) (_ : x < 2 ^ 64) (hy : y < 2 ^ 64) :
    Calls Tryd.prog 11 #[.agg #[.float .f64 a, .float .f64 b], .agg #[.float .f64 c, .float .f64 d], .agg #[.float .f64 x, .float .f64 y]] w (Ret (.bool true) w) := by
  go_enter Tryd.func11, Tryd.ntmps11
  go_wp2
  go_quiet (fail)
  go_wp2_with fail
  refine (join_bool _ _ _ _ _ hd).mono ?_; rintro e w1 ⟨⟨p1, p2, rfl, lp, sp⟩, rfl⟩
  have SP := Lib.hid sp
  clear sp
  generalize hB1 : (joinOO (spotO a b) (spotO c d)).isSome = B1 at *
  have HB1 := Lib.hid hB1
  clear hB1
  go_wp2_with fail
  refine (join_bool _ _ _ _ _ hy).mono ?_; rintro e w1 ⟨⟨q1, q2, rfl, lq, sq⟩, rfl⟩
  have SQ := Lib.hid sq
  clear sq
  generalize hB2 : (joinOO (spotO p1 p2) (spotO x y)).isSome = B2 at *
  have HB2 := Lib.hid hB2
  clear hB2
  go_wp2_with fail
  refine (join_bool _ _ _ _ _ hy).mono ?_; rintro e w1 ⟨⟨u1, u2, rfl, lu, su⟩, rfl⟩
  have SU := Lib.hid su
  clear su
  generalize hB3 : (joinOO (spotO c d) (spotO x y)).isSome = B3 at *
  have HB3 := Lib.hid hB3
  clear hB3
  go_wp2_with fail
  refine (join_bool _ _ _ _ _ lu).mono ?_; rintro e w1 ⟨⟨v1, v2, rfl, lv, sv⟩, rfl⟩
  have SV := Lib.hid sv
  clear sv
  generalize hB4 : (joinOO (spotO a b) (spotO u1 u2)).isSome = B4 at *
  have HB4 := Lib.hid hB4
  clear hB4
  cases B1
  · go_wp2_with fail
    refine (alive_any _).mono ?_; rintro e w4 ⟨rfl, rfl⟩
    go_wp2
    go_ret
    exact ⟨rfl, below_drewN ((((Below.refl _ _).alloc (Nat.le_refl _) _).alloc (by simp) _).alloc (by simp; omega) _) _⟩
  cases B2
  · go_wp2_with fail
    refine (alive_any _).mono ?_; rintro e w4 ⟨rfl, rfl⟩
    go_wp2
    go_ret
    exact ⟨rfl, below_drewN ((((Below.refl _ _).alloc (Nat.le_refl _) _).alloc (by simp) _).alloc (by simp; omega) _) _⟩
  cases B3
  · go_wp2_with fail
    refine (alive_any _).mono ?_; rintro e w4 ⟨rfl, rfl⟩
    go_wp2
    go_ret
    exact ⟨rfl, below_drewN ((((Below.refl _ _).alloc (Nat.le_refl _) _).alloc (by simp) _).alloc (by simp; omega) _) _⟩
  cases B4
  · go_wp2_with fail
    refine (alive_any _).mono ?_; rintro e w4 ⟨rfl, rfl⟩
    go_wp2
    go_ret
    exact ⟨rfl, below_drewN ((((Below.refl _ _).alloc (Nat.le_refl _) _).alloc (by simp) _).alloc (by simp; omega) _) _⟩
  have hq : spotO q1 q2 = spotO v1 v2 ∧ (spotO q1 q2).isSome = true := by
    rw [SQ.out rfl, SV.out rfl, SP.out rfl, SU.out rfl]
    have h1 := HB1.out
    have h2 := HB2.out
    have h3 := HB3.out
    have h4 := HB4.out
    rw [SP.out rfl] at h2
    rw [SU.out rfl] at h4
    refine ⟨?_, h2⟩
    cases e1 : spotO a b with
    | none => rw [e1] at h1; cases h1
    | some A =>
    cases e2 : spotO c d with
    | none => rw [e1, e2] at h1; cases h1
    | some B =>
    cases e3 : spotO x y with
    | none => rw [e2, e3] at h3; cases h3
    | some C =>
    rw [e1, e2] at h1 h2
    rw [e3] at h2 h3 h4
    rw [e2] at h3 h4
    rw [e1] at h4
    simp only [joinOO, Option.bind_some] at h1 h2 h3 h4 ⊢
    cases o1 : joinO A B with
    | none => rw [o1] at h1; cases h1
    | some P =>
    cases o3 : joinO B C with
    | none => rw [o3] at h3; cases h3
    | some Q =>
    rw [o1] at h2
    rw [o3] at h4
    simp only [Option.bind_some] at h2 h4 ⊢
    cases o2 : joinO P C with
    | none => rw [o2] at h2; cases h2
    | some R =>
    cases o4 : joinO A Q with
    | none => rw [o4] at h4; cases h4
    | some S =>
    have g1 := joinO_eq o1
    have g2 := joinO_eq o2
    have g3 := joinO_eq o3
    have g4 := joinO_eq o4
    rw [g2, g4, g1, g3, join_assoc]
  obtain ⟨R, hR⟩ := Option.isSome_iff_exists.1 hq.2
  have hR' := hR
  rw [hq.1] at hR'
  obtain ⟨r1, r2⟩ := spotO_some hR
  obtain ⟨r3, r4⟩ := spotO_some hR'
  have k1 : (FloatKind.f64.format.order q1 v1 == some Ordering.eq) = true := by rw [eq_bit r1 r3]; simp
  have k2 : (FloatKind.f64.format.order q2 v2 == some Ordering.eq) = true := by rw [eq_bit r2 r4]; simp
  clear hq hR hR' r1 r2 r3 r4
  go_wp2_with fail
  refine (alive_any _).mono ?_; rintro e w4 ⟨rfl, rfl⟩
  go_wp2
  go_ret
  exact ⟨rfl, below_drewN ((((Below.refl _ _).alloc (Nat.le_refl _) _).alloc (by simp) _).alloc (by simp; omega) _) _⟩

set_option maxRecDepth 100000 in
theorem spotGroups_said : Rows.SpotGroupsSaid :=
  OpenClaim.holds_of_wide 11 Tryd.f11 rfl rfl rfl rfl rfl rfl rfl ⟨rfl, rfl, rfl, rfl, rfl⟩ rfl rfl rfl rfl rfl (by kernel_rfl) Tryd.func11 (by kernel_rfl)
    (of_decide_eq_true (by kernel_rfl)) (by unfold Func.isWrapper; first | (rw [if_pos (by decide +kernel)]; kernel_rfl) | (rw [if_neg (by decide +kernel)]; exact ⟨rfl, rfl⟩))
    (fun os started H enc _ => lift (s := Rows.spotGroupsSpec) #[.agg #[.float .f64 0, .float .f64 0], .agg #[.float .f64 0, .float .f64 0], .agg #[.float .f64 0, .float .f64 0]] rfl (by kernel_rfl) Tryd.func11 (by kernel_rfl) (by kernel_rfl) (fun _ => by kernel_rfl) (fun _ _ _ => by kernel_rfl) (fun _ _ _ => by kernel_rfl)
      (fun H enc W base args ds p hval hA hsz hL => by
        rw [Tryd.params11] at hA hval hsz
        obtain ⟨v0, v1, v2, d0, d1, d2, p0, p1, p2, rfl, rfl, rfl, h0, h1, h2⟩ := trodAll_three hA
        obtain ⟨b0, c0, rfl, rfl, rfl, wf0, wg0⟩ := open_floats2 Tryd.underlying35 Tryd.underlying30 (by kernel_rfl) (by kernel_rfl) (hval 0 35 v0 rfl rfl) h0
        obtain ⟨b1, c1, rfl, rfl, rfl, wf1, wg1⟩ := open_floats2 Tryd.underlying35 Tryd.underlying30 (by kernel_rfl) (by kernel_rfl) (hval 1 35 v1 rfl rfl) h1
        obtain ⟨b2, c2, rfl, rfl, rfl, wf2, wg2⟩ := open_floats2 Tryd.underlying35 Tryd.underlying30 (by kernel_rfl) (by kernel_rfl) (hval 2 35 v2 rfl rfl) h2
        exact ⟨rfl, spotGroups_walk b0 c0 b1 c1 b2 c2 W (bits_of_wf wf0) (bits_of_wf wg0) (bits_of_wf wf1) (bits_of_wf wg1) (bits_of_wf wf2) (bits_of_wf wg2)⟩) os started H enc)

theorem spotGroups_holds : Rows.SpotGroupsCardSaid :=
  Claim7.holds_tied_plain_at .later [] [.data, .data, .data] true Rows.spotGroupsCard.stood.harness false
    spotGroups_said (fun _ h => by cases h) (by kernel_rfl) (fun _ h => by cases h) spotGroups_row_tie rfl ⟨rfl, rfl⟩ (by kernel_rfl) rfl
    (fun f fn hf hfn => by
      obtain rfl : f = 11 := Option.some.inj ((show Tryd.prog.funcNamed Rows.spotGroupsRow.func = some 11 by kernel_rfl).symm.trans hf) |>.symm
      obtain rfl : fn = Tryd.f11 := (Option.some.inj (Tryd.func11.symm.trans hfn)).symm
      exact ⟨by kernel_rfl, fun j t ht => by
        rw [Tryd.params11] at ht
        have hm : t ∈ [35, 35, 35] := by simpa using Array.mem_of_getElem? ht
        have hall : ([35, 35, 35].all fun u => !Tryd.prog.wantsStandIn u) = true := by kernel_rfl
        exact (show Tryd.prog.wantsStandIn t = false by simpa using List.all_eq_true.1 hall t hm)⟩)
    (by kernel_rfl)
#print axioms spotGroups_holds
end Go.Proofs.YtjhakblijmaicaaDoor

/- WireJust: what is got has just the bytes that stand there. No conditions but the row's own. -/
import Derived.Test.YtlgkckokcednaaaAlive
import Derived.Test.YtlgkckokcednaaaPutText
import Derived.Test.YtlgkckokcednaaaGetText
import Derived.Test.YtlgkckokcednaaaGetList
import Derived.Test.YtlgkckokcednaaaGrow
namespace Go.Proofs.Ytlgkckokcednaaa
open Go Go.RowKit

theorem just_take {l s : List UInt8} {k : Nat} (h : l.drop k = s ++ l.drop (k + s.length)) : (l.drop k).take s.length = s := by rw [h, List.take_left]

/-- 'string(b[k:k+m])'. -/
theorem cut_str {w : World} {B k m : Nat} {A : Option Addr} {l s : List UInt8} (hr : Rd w B A l.length (bv l)) (hm : s.length = m) (hk : k + m ≤ l.length) (h : l.drop k = s ++ l.drop (k + m)) (c : Nat) :
    (convert 22 9 (.slice (Option.map (fun x => x.add k) A) m c)).run Try.prog w = .ok (.string (sB s)) w := by
  subst hm
  have h1 := (hr.mapDrop (k := k) (by omega)).take (k := s.length) (by omega)
  rw [← bv_drop, ← bv_take, just_take h] at h1
  exact h1.str (P := Try.prog) c Try.underlying22 Try.underlying5 Try.underlying9

theorem own_str {w : World} {B n : Nat} {A : Option Addr} {s : List UInt8} (hr : Rd w B A n (bv s)) (c : Nat) :
    (convert 22 9 (.slice A n c)).run Try.prog w = .ok (.string (sB s)) w :=
  hr.str (P := Try.prog) c Try.underlying22 Try.underlying5 Try.underlying9

theorem listB_any (A : Option Addr) (c : Nat) (L : List (List UInt8)) (w : World) (hr : Rd w w.heap.size A L.length (sv (tB L))) (h : (Wi.list L).length + 9 ≤ 140737488355328) :
    Calls Try.prog 25 #[.slice A L.length c] w (Got (Wi.list L) w) := by
  have e := tB_length L
  have hr' : Rd w w.heap.size A (tB L).length (sv (tB L)) := by rw [e]; exact hr
  have h1 := list_any A c (tB L) w hr' (by rw [tl_tB]; exact h)
  rw [tl_tB, e] at h1
  exact h1

theorem getText_of_num {l : List UInt8} {p : Int} {n nx e : Nat} (h : Wi.getNum l p = (n, nx, e)) (he : e ≠ 0) : Wi.getText l p = ([], 0, e) ∧ Wi.getList l p = ([], 0, e) :=
  ⟨Wi.getText_err h he, Wi.getList_err h he⟩

set_option maxRecDepth 100000 in
set_option maxHeartbeats 4000000 in
theorem wireJust_walk (A : Option Addr) (c : Nat) (l : List UInt8) (p : Int) (w : World) (hr : Rd w w.heap.size A l.length (bv l)) (hl : l.length ≤ c) (hc : c ≤ 140737488351232) (hp : -9223372036854775808 ≤ p ∧ p ≤ 9223372036854775807) :
    Calls Try.prog 8 #[.slice A l.length c, .int .i64 p] w (Ret (.bool true) w) := by
  have C1 := Lib.hid (getNum_any A c w.heap.size p l w hr hl (by omega))
  obtain ⟨n, nx, e, hg⟩ : ∃ n nx e, Wi.getNum l p = (n, nx, e) := ⟨_, _, _, rfl⟩
  rw [hg] at C1
  by_cases he : e = 0
  · subst he
    obtain ⟨k, rfl, hn, rfl, hle, r, hd, rfl⟩ := Wi.getNum_just hg
    have hm := Wi.num_pos n
    have CN := Lib.hid (num_any n w hn)
    have HD := Lib.hid hd
    have HR := Lib.hid hr
    obtain ⟨X, hX⟩ : ∃ X, X = Wi.num n := ⟨_, rfl⟩
    rw [← hX] at C1 CN HD hm hle
    clear hg hd hX hr
    go_enter Try.func8, Try.ntmps8
    go_wp2_with fail
    refine C1.out.mono ?_; rintro e' w' ⟨rfl, rfl⟩
    unfold getV
    go_wp2_with fail
    refine CN.out.mono ?_; rintro e' w1 ⟨A1, c1, rfl, hc1, hr1, hb1⟩
    have hcv1 := fun u : Grw w1 => own_str (hr1.grw (Nat.le_refl _) u) c1
    have hcv2 := fun (u : Grw w1) (c' : Nat) => cut_str ((HR.out.later hb1).grw (Nat.le_refl _) u) rfl hle HD.out c'
    have q1 : ((sB X).toList == (sB X).toList) = true := by simp
    have q2 : k < c := by omega
    have q3 : ¬ k = c := by omega
    have q4 : decide ((k : Int) + (X.length : Int) ≤ (k : Int)) = false := by simp; omega
    have q5 : decide ((l.length : Int) < (k : Int) + (X.length : Int)) = false := by simp; omega
    go_wp2_with fail
    refine wp_region_grow (by kernel_rfl) (by kernel_rfl) ?_
    repeat (go_big_quiet_step ((fail)))
    refine wpQuiet_nil ?_
    first | (intro _ hw'; obtain ⟨u, hw''⟩ := hw'; subst hw'') | intro u
    go_wp2_with fail
    have CT := Lib.hid (getText_any A c w.heap.size (k : Int) l u.val ((HR.out.below (hb1.trans (u.prop.mono hb1.size)))) hl (by omega))
    have hb2 : Below w.heap.size w u.val := below_of hb1 u.prop
    clear hcv1 hcv2 q1 q4 q5
    generalize u.val = w2 at *
    clear hr1 hb1
    obtain ⟨s, nx, f, ht⟩ : ∃ s nx f, Wi.getText l k = (s, nx, f) := ⟨_, _, _, rfl⟩
    rw [ht] at CT
    by_cases hf : f = 0
    · subst hf
      obtain ⟨k', hk', hs, rfl, hle2, hd2⟩ := Wi.getText_just ht
      obtain rfl : k = k' := by omega
      have hm2 : 0 < (Wi.text s).length := by rw [Wi.text_length]; have := Wi.num_pos s.length; omega
      have CX := Lib.hid (fun w => text_any (sB s) w (by rw [sB_size]; omega))
      rw [sB_data] at CX
      have HD2 := Lib.hid hd2
      generalize Wi.text s = Y at *
      clear ht hd2
      refine CT.out.mono ?_; rintro e' w' ⟨rfl, rfl⟩
      unfold textV
      have q1 : ((sB Y).toList == (sB Y).toList) = true := by simp
      have q4 : decide ((k : Int) + (Y.length : Int) ≤ (k : Int)) = false := by simp; omega
      have q5 : decide ((l.length : Int) < (k : Int) + (Y.length : Int)) = false := by simp; omega
      have q6 : IntKind.i64.wrap ((k : Int) + (Y.length : Int)) = (k : Int) + (Y.length : Int) := by rw [IntKind.wrap_i64]; omega
      have q7 : (k : Int) ≤ (k : Int) + (Y.length : Int) := by omega
      have q8 : (k : Int) + (Y.length : Int) ≤ (c : Int) := by omega
      have q9 : ((k : Int) + (Y.length : Int)).toNat = k + Y.length := by omega
      have q11 : ¬ c = k := by omega
      go_wp2_with fail
      refine wp_region_any (by kernel_rfl) ?_
      change wpAny _ _ _ _ _ _ _ (World.drew _)
      refine wpAny_take (i := 0) (v := ?_) rfl (by kernel_rfl) (by kernel_rfl) (by kernel_rfl) (fun _ _ _ h => h) (Or.inl ⟨by rfl, ?_⟩) ?_
      rotate_left
      · intro w; go_simp; try with_reducible rfl
      change wpAny _ _ _ _ _ _ (Act.put _ _ _) _
      refine wpAny_take (i := 1) (v := ?_) rfl (by kernel_rfl) (by kernel_rfl) (by kernel_rfl) (fun _ _ _ h => h) (Or.inl ⟨by rfl, ?_⟩) ?_
      rotate_left
      · intro w; go_simp; try with_reducible rfl
      change wpAny _ _ _ _ _ _ (Act.put _ _ _) _
      refine wpAny_take (i := 2) (v := ?_) rfl (by kernel_rfl) (by kernel_rfl) (by kernel_rfl) (fun _ _ _ h => h) (Or.inl ⟨by rfl, ?_⟩) ?_
      rotate_left
      · intro w; go_simp; try with_reducible rfl
      change wpAny _ _ _ _ _ _ (Act.put _ _ _) _
      refine wpAny_take (i := 3) (v := ?_) rfl (by kernel_rfl) (by kernel_rfl) (by kernel_rfl) (fun _ _ _ h => h) (Or.inl ⟨by rfl, ?_⟩) ?_
      rotate_left
      · intro w; go_simp; try with_reducible rfl
      change wpAny _ _ _ _ _ _ (Act.put _ _ _) _
      refine wpAny_take (i := 4) (v := ?_) rfl (by kernel_rfl) (by kernel_rfl) (by kernel_rfl) (fun _ _ _ h => h) (Or.inl ⟨by rfl, ?_⟩) ?_
      rotate_left
      · intro w; go_simp; try with_reducible rfl
      change wpAny _ _ _ _ _ _ (Act.put _ _ _) _
      go_simp
      refine wpAny_take (i := 5) (v := ?_) rfl (by kernel_rfl) (by kernel_rfl) (by kernel_rfl) (fun _ _ _ h => h) (Or.inl ⟨by rfl, ?_⟩) ?_
      rotate_left
      · intro w; go_simp; try with_reducible rfl
      change wpAny _ _ _ _ _ _ (Act.put _ _ _) _
      refine wpAny_take (i := 6) (v := ?_) rfl (by kernel_rfl) (by kernel_rfl) (by kernel_rfl) (fun _ _ _ h => h) (Or.inl ⟨by rfl, ?_⟩) ?_
      rotate_left
      · intro w; go_simp; try with_reducible rfl
      change wpAny _ _ _ _ _ _ (Act.put _ _ _) _
      refine wpAny_take (i := 7) (v := ?_) rfl (by kernel_rfl) (by kernel_rfl) (by kernel_rfl) (fun _ _ _ h => h) (Or.inl ⟨by rfl, ?_⟩) ?_
      rotate_left
      · intro w; go_simp; try with_reducible rfl
      change wpAny _ _ _ _ _ _ (Act.put _ _ _) _
      refine wpAny_take (i := 8) (v := ?_) rfl (by kernel_rfl) (by kernel_rfl) (by kernel_rfl) (fun _ _ _ h => h) (Or.inl ⟨by rfl, ?_⟩) ?_
      rotate_left
      · intro w; go_simp; try with_reducible rfl
      change wpAny _ _ _ _ _ _ (Act.put _ _ _) _
      refine wpAny_take (i := 9) (v := ?_) rfl (by kernel_rfl) (by kernel_rfl) (by kernel_rfl) (fun _ _ _ h => h) (Or.inl ⟨by rfl, ?_⟩) ?_
      rotate_left
      · intro w; go_simp; try with_reducible rfl
      change wpAny _ _ _ _ _ _ (Act.put _ _ _) _
      go_simp
      refine wpAny_take (i := 10) (v := ?_) rfl (by kernel_rfl) (by kernel_rfl) (by kernel_rfl) (fun _ _ _ h => h) (Or.inl ⟨by rfl, ?_⟩) ?_
      rotate_left
      · intro w; go_simp; try with_reducible rfl
      change wpAny _ _ _ _ _ _ (Act.put _ _ _) _
      refine wpAny_take (i := 11) (v := ?_) rfl (by kernel_rfl) (by kernel_rfl) (by kernel_rfl) (fun _ _ _ h => h) (Or.inl ⟨by rfl, ?_⟩) ?_
      rotate_left
      · intro w; go_simp; try with_reducible rfl
      change wpAny _ _ _ _ _ _ (Act.put _ _ _) _
      refine wpAny_take (i := 12) (v := ?_) rfl (by kernel_rfl) (by kernel_rfl) (by kernel_rfl) (fun _ _ _ h => h) (Or.inl ⟨by rfl, ?_⟩) ?_
      rotate_left
      · intro w; go_simp; try with_reducible rfl
      change wpAny _ _ _ _ _ _ (Act.put _ _ _) _
      refine wpAny_take (i := 13) (v := ?_) rfl (by kernel_rfl) (by kernel_rfl) (by kernel_rfl) (fun _ _ _ h => h) (Or.inl ⟨by rfl, ?_⟩) ?_
      rotate_left
      · intro w; go_simp; try with_reducible rfl
      change wpAny _ _ _ _ _ _ (Act.put _ _ _) _
      go_simp
      refine wpAny_take (i := 16) (v := ?_) rfl (by kernel_rfl) (by kernel_rfl) (by kernel_rfl) (fun _ _ _ h => h) (Or.inl ⟨by rfl, ?_⟩) ?_
      rotate_left
      · intro w; go_simp; try with_reducible rfl
      change wpAny _ _ _ _ _ _ (Act.put _ _ _) _
      refine wpAny_take (i := 17) (v := ?_) rfl (by kernel_rfl) (by kernel_rfl) (by kernel_rfl) (fun _ _ _ h => h) (Or.inl ⟨by rfl, ?_⟩) ?_
      rotate_left
      · intro w; go_simp; try with_reducible rfl
      change wpAny _ _ _ _ _ _ (Act.put _ _ _) _
      refine wpAny_take (i := 18) (v := ?_) rfl (by kernel_rfl) (by kernel_rfl) (by kernel_rfl) (fun _ _ _ h => h) (Or.inl ⟨by rfl, ?_⟩) ?_
      rotate_left
      · intro w; go_simp; try with_reducible rfl
      change wpAny _ _ _ _ _ _ (Act.put _ _ _) _
      refine wpAny_take (i := 19) (v := ?_) rfl (by kernel_rfl) (by kernel_rfl) (by kernel_rfl) (fun _ _ _ h => h) (Or.inl ⟨by rfl, ?_⟩) ?_
      rotate_left
      · intro w; go_simp; try with_reducible rfl
      change wpAny _ _ _ _ _ _ (Act.put _ _ _) _
      go_simp
      have HS0 := fun (w' : World) (hb : Below w.heap.size w w') => (cut_str (HR.out.below hb) rfl hle2 HD2.out (c - k))
      have HC := Lib.hid HS0
      clear HS0
      refine wpAny_of_held (S := (fun w' => (convert 22 9 (.slice (Option.map (fun x => x.add k) A) Y.length (c - k))).run Try.prog w' = .ok (.string (sB Y)) w')) _ _ _ _ ?_
      refine wpAnyH_take (i := 20) (v := .string (sB Y)) rfl (by kernel_rfl) (by kernel_rfl) (by kernel_rfl) (fun _ _ _ h => h) (Or.inl ⟨by rfl, fun w hS => ?_⟩) (HC.out _ (hb2.drew)) ?_
      · have hS' := hS
        simp only [] at hS'
        go_simp
      change wpAnyH _ _ _ _ _ _ _ (Act.put _ _ _) _
      refine held_one (i := 14) (by kernel_rfl) rfl (fun K hK => ?_)
      go_simp
      (refine (CX.out _).mono ?_; rintro e' w3 ⟨A2, c2, rfl, hc2, hr2, hb3⟩)
      refine hK _ _ (HC.out _ (hb2.drew.trans (hb3.mono hb2.drew.size))) ?_; clear hK K
      have hb4 : Below w.heap.size w w3 := hb2.drew.trans (hb3.mono hb2.drew.size)
      have hcv3 := fun u : Grw w3 => own_str (hr2.grw (Nat.le_refl _) u) c2
      clear hr2
      refine wpAnyH_grow (by kernel_rfl) (Picks.cons (i := 15) rfl <| Picks.cons (i := 21) rfl <| Picks.cons (i := 22) rfl <| Picks.cons (i := 23) rfl <| Picks.nil _) (by kernel_rfl) rfl (fun u => HC.out _ (below_of hb4 u.prop)) ?_
      go_simp
      repeat (go_big_quiet_step (fail))
      refine wpQuiet_nil ?_
      first | (intro _ hw'; obtain ⟨u, hw''⟩ := hw'; subst hw'') | intro u
      go_wp2_with fail
      have CL := Lib.hid (getList_any A c (k : Int) l u.val (HR.out.later (below_of hb4 u.prop)) hl (by omega))
      clear CT
      have hbz := (below_of hb4 u.prop)
      generalize u.val = wz at *
      obtain ⟨L, nx3, f3, hL⟩ : ∃ L nx f, Wi.getList l k = (L, nx, f) := ⟨_, _, _, rfl⟩
      rw [hL] at CL
      by_cases hf3 : f3 = 0
      · subst hf3
        obtain ⟨k', hk', rfl, hle3, hd3, hLl, hLs⟩ := Wi.getList_just hL
        obtain rfl : k = k' := by omega
        have hm3 := Wi.list_pos L
        have CX3 := Lib.hid (fun (A3 : Option Addr) (c3 : Nat) (w : World) (hr : Rd w w.heap.size A3 L.length (sv (tB L))) => listB_any A3 c3 L w hr (by omega))
        have HD3 := Lib.hid hd3
        clear hL hd3 hLs
        refine CL.out.mono ?_; rintro e' w4 ⟨A3, c3, hv, hc3, hr3, hb4⟩
        simp only [] at hv hc3 hr3
        subst hv
        generalize Wi.list L = Z at *
        have q1 : ((sB Z).toList == (sB Z).toList) = true := by simp
        have q4 : decide ((k : Int) < (k : Int) + (Z.length : Int)) = true := by simp; omega
        have q5 : decide ((k : Int) + (Z.length : Int) ≤ (l.length : Int)) = true := by simp; omega
        have q6 : IntKind.i64.wrap ((k : Int) + (Z.length : Int)) = (k : Int) + (Z.length : Int) := by rw [IntKind.wrap_i64]; omega
        have q7 : (k : Int) ≤ (k : Int) + (Z.length : Int) := by omega
        have q8 : (k : Int) + (Z.length : Int) ≤ (c : Int) := by omega
        have q9 : ((k : Int) + (Z.length : Int)).toNat = k + Z.length := by omega
        have q11 : ¬ c = k := by omega
        have hb5 : Below w.heap.size w w4 := hbz.trans (hb4.mono hbz.size)
        go_wp2_with fail
        refine wp_region_any (by kernel_rfl) ?_
        change wpAny _ _ _ _ _ _ _ (World.drew _)
        refine wpAny_take (i := 0) (v := ?_) rfl (by kernel_rfl) (by kernel_rfl) (by kernel_rfl) (fun _ _ _ h => h) (Or.inl ⟨by rfl, ?_⟩) ?_
        rotate_left
        · intro w; go_simp; try with_reducible rfl
        change wpAny _ _ _ _ _ _ (Act.put _ _ _) _
        refine wpAny_take (i := 1) (v := ?_) rfl (by kernel_rfl) (by kernel_rfl) (by kernel_rfl) (fun _ _ _ h => h) (Or.inl ⟨by rfl, ?_⟩) ?_
        rotate_left
        · intro w; go_simp; try with_reducible rfl
        change wpAny _ _ _ _ _ _ (Act.put _ _ _) _
        refine wpAny_take (i := 2) (v := ?_) rfl (by kernel_rfl) (by kernel_rfl) (by kernel_rfl) (fun _ _ _ h => h) (Or.inl ⟨by rfl, ?_⟩) ?_
        rotate_left
        · intro w; go_simp; try with_reducible rfl
        change wpAny _ _ _ _ _ _ (Act.put _ _ _) _
        refine wpAny_take (i := 3) (v := ?_) rfl (by kernel_rfl) (by kernel_rfl) (by kernel_rfl) (fun _ _ _ h => h) (Or.inl ⟨by rfl, ?_⟩) ?_
        rotate_left
        · intro w; go_simp; try with_reducible rfl
        change wpAny _ _ _ _ _ _ (Act.put _ _ _) _
        refine wpAny_take (i := 4) (v := ?_) rfl (by kernel_rfl) (by kernel_rfl) (by kernel_rfl) (fun _ _ _ h => h) (Or.inl ⟨by rfl, ?_⟩) ?_
        rotate_left
        · intro w; go_simp; try with_reducible rfl
        change wpAny _ _ _ _ _ _ (Act.put _ _ _) _
        go_simp
        refine wpAny_take (i := 5) (v := ?_) rfl (by kernel_rfl) (by kernel_rfl) (by kernel_rfl) (fun _ _ _ h => h) (Or.inl ⟨by rfl, ?_⟩) ?_
        rotate_left
        · intro w; go_simp; try with_reducible rfl
        change wpAny _ _ _ _ _ _ (Act.put _ _ _) _
        refine wpAny_take (i := 6) (v := ?_) rfl (by kernel_rfl) (by kernel_rfl) (by kernel_rfl) (fun _ _ _ h => h) (Or.inl ⟨by rfl, ?_⟩) ?_
        rotate_left
        · intro w; go_simp; try with_reducible rfl
        change wpAny _ _ _ _ _ _ (Act.put _ _ _) _
        refine wpAny_take (i := 7) (v := ?_) rfl (by kernel_rfl) (by kernel_rfl) (by kernel_rfl) (fun _ _ _ h => h) (Or.inl ⟨by rfl, ?_⟩) ?_
        rotate_left
        · intro w; go_simp; try with_reducible rfl
        change wpAny _ _ _ _ _ _ (Act.put _ _ _) _
        refine wpAny_take (i := 8) (v := ?_) rfl (by kernel_rfl) (by kernel_rfl) (by kernel_rfl) (fun _ _ _ h => h) (Or.inl ⟨by rfl, ?_⟩) ?_
        rotate_left
        · intro w; go_simp; try with_reducible rfl
        change wpAny _ _ _ _ _ _ (Act.put _ _ _) _
        refine wpAny_take (i := 9) (v := ?_) rfl (by kernel_rfl) (by kernel_rfl) (by kernel_rfl) (fun _ _ _ h => h) (Or.inl ⟨by rfl, ?_⟩) ?_
        rotate_left
        · intro w; go_simp; try with_reducible rfl
        change wpAny _ _ _ _ _ _ (Act.put _ _ _) _
        go_simp
        refine wpAny_take (i := 10) (v := ?_) rfl (by kernel_rfl) (by kernel_rfl) (by kernel_rfl) (fun _ _ _ h => h) (Or.inl ⟨by rfl, ?_⟩) ?_
        rotate_left
        · intro w; go_simp; try with_reducible rfl
        change wpAny _ _ _ _ _ _ (Act.put _ _ _) _
        refine wpAny_take (i := 11) (v := ?_) rfl (by kernel_rfl) (by kernel_rfl) (by kernel_rfl) (fun _ _ _ h => h) (Or.inl ⟨by rfl, ?_⟩) ?_
        rotate_left
        · intro w; go_simp; try with_reducible rfl
        change wpAny _ _ _ _ _ _ (Act.put _ _ _) _
        refine wpAny_take (i := 12) (v := ?_) rfl (by kernel_rfl) (by kernel_rfl) (by kernel_rfl) (fun _ _ _ h => h) (Or.inl ⟨by rfl, ?_⟩) ?_
        rotate_left
        · intro w; go_simp; try with_reducible rfl
        change wpAny _ _ _ _ _ _ (Act.put _ _ _) _
        refine wpAny_take (i := 13) (v := ?_) rfl (by kernel_rfl) (by kernel_rfl) (by kernel_rfl) (fun _ _ _ h => h) (Or.inl ⟨by rfl, ?_⟩) ?_
        rotate_left
        · intro w; go_simp; try with_reducible rfl
        change wpAny _ _ _ _ _ _ (Act.put _ _ _) _
        go_simp
        refine wpAny_take (i := 16) (v := ?_) rfl (by kernel_rfl) (by kernel_rfl) (by kernel_rfl) (fun _ _ _ h => h) (Or.inl ⟨by rfl, ?_⟩) ?_
        rotate_left
        · intro w; go_simp; try with_reducible rfl
        change wpAny _ _ _ _ _ _ (Act.put _ _ _) _
        refine wpAny_take (i := 17) (v := ?_) rfl (by kernel_rfl) (by kernel_rfl) (by kernel_rfl) (fun _ _ _ h => h) (Or.inl ⟨by rfl, ?_⟩) ?_
        rotate_left
        · intro w; go_simp; try with_reducible rfl
        change wpAny _ _ _ _ _ _ (Act.put _ _ _) _
        refine wpAny_take (i := 18) (v := ?_) rfl (by kernel_rfl) (by kernel_rfl) (by kernel_rfl) (fun _ _ _ h => h) (Or.inl ⟨by rfl, ?_⟩) ?_
        rotate_left
        · intro w; go_simp; try with_reducible rfl
        change wpAny _ _ _ _ _ _ (Act.put _ _ _) _
        refine wpAny_take (i := 19) (v := ?_) rfl (by kernel_rfl) (by kernel_rfl) (by kernel_rfl) (fun _ _ _ h => h) (Or.inl ⟨by rfl, ?_⟩) ?_
        rotate_left
        · intro w; go_simp; try with_reducible rfl
        change wpAny _ _ _ _ _ _ (Act.put _ _ _) _
        go_simp
        have HS3 := fun (w' : World) (hb : Below w.heap.size w w') => (cut_str (HR.out.below hb) rfl hle3 HD3.out (c - k))
        have HC3 := Lib.hid HS3
        clear HS3
        refine wpAny_of_held (S := (fun w' => (convert 22 9 (.slice (Option.map (fun x => x.add k) A) Z.length (c - k))).run Try.prog w' = .ok (.string (sB Z)) w')) _ _ _ _ ?_
        refine wpAnyH_take (i := 20) (v := .string (sB Z)) rfl (by kernel_rfl) (by kernel_rfl) (by kernel_rfl) (fun _ _ _ h => h) (Or.inl ⟨by rfl, fun w hS => ?_⟩) (HC3.out _ (hb5.drew)) ?_
        · have hS' := hS
          simp only [] at hS'
          go_simp
        change wpAnyH _ _ _ _ _ _ _ (Act.put _ _ _) _
        refine held_one (i := 14) (by kernel_rfl) rfl (fun K hK => ?_)
        go_simp
        (refine (CX3.out _ _ _ hr3.drew).mono ?_; rintro e' w5 ⟨A4, c4, rfl, hc4, hr4, hb6⟩)
        refine hK _ _ (HC3.out _ (hb5.drew.trans (hb6.mono hb5.drew.size))) ?_; clear hK K
        have hb7 : Below w.heap.size w w5 := hb5.drew.trans (hb6.mono hb5.drew.size)
        have hcv5 := fun u : Grw w5 => own_str (hr4.grw (Nat.le_refl _) u) c4
        clear hr4
        refine wpAnyH_grow (by kernel_rfl) (Picks.cons (i := 15) rfl <| Picks.cons (i := 21) rfl <| Picks.cons (i := 22) rfl <| Picks.cons (i := 23) rfl <| Picks.cons (i := 24) rfl <| Picks.cons (i := 25) rfl <| Picks.cons (i := 26) rfl <| Picks.cons (i := 27) rfl <| Picks.nil _) (by kernel_rfl) rfl (fun u => HC3.out _ (below_of hb7 u.prop)) ?_
        go_simp
        repeat (go_big_quiet_step ((go_at_call 13; exact grow_call (alive_any _))))
        refine wpQuiet_nil ?_
        first | (intro _ hw'; obtain ⟨u, hw''⟩ := hw'; subst hw'') | intro u
        go_wp2_with fail
        go_ret
        exact ⟨rfl, below_of hb7 u.prop⟩
      · have he3 : ((f3 : Int) != 0) = true := by rw [bne_iff_ne]; omega
        clear hL hf3
        refine CL.out.mono ?_; rintro e' w4 ⟨A3, c3, hv, hc3, hr3, hb4⟩
        simp only [] at hv hc3 hr3
        subst hv
        have hb5 : Below w.heap.size w w4 := hbz.trans (hb4.mono hbz.size)
        go_wp2_with fail
        refine wp_region_grow (by kernel_rfl) (by kernel_rfl) ?_
        repeat (go_big_quiet_step ((go_at_call 13; exact grow_call (alive_any _))))
        refine wpQuiet_nil ?_
        first | (intro _ hw'; obtain ⟨u, hw''⟩ := hw'; subst hw'') | intro u
        go_wp2_with fail
        go_ret
        exact ⟨rfl, below_of hb5 u.prop⟩
    · have he2 : ((f : Int) == 0) = false := by rw [beq_eq_false_iff_ne]; omega
      clear ht
      refine CT.out.mono ?_; rintro e' w' ⟨rfl, rfl⟩
      unfold textV
      go_wp2_with fail
      refine wp_region_grow (by kernel_rfl) (by kernel_rfl) ?_
      repeat (go_big_quiet_step ((fail)))
      refine wpQuiet_nil ?_
      first | (intro _ hw'; obtain ⟨u, hw''⟩ := hw'; subst hw'') | intro u
      go_wp2_with fail
      have CL := Lib.hid (getList_any A c (k : Int) l u.val (HR.out.later (below_of hb2 u.prop)) hl (by omega))
      clear CT
      have hbz := (below_of hb2 u.prop)
      generalize u.val = wz at *
      obtain ⟨L, nx3, f3, hL⟩ : ∃ L nx f, Wi.getList l k = (L, nx, f) := ⟨_, _, _, rfl⟩
      rw [hL] at CL
      by_cases hf3 : f3 = 0
      · subst hf3
        obtain ⟨k', hk', rfl, hle3, hd3, hLl, hLs⟩ := Wi.getList_just hL
        obtain rfl : k = k' := by omega
        have hm3 := Wi.list_pos L
        have CX3 := Lib.hid (fun (A3 : Option Addr) (c3 : Nat) (w : World) (hr : Rd w w.heap.size A3 L.length (sv (tB L))) => listB_any A3 c3 L w hr (by omega))
        have HD3 := Lib.hid hd3
        clear hL hd3 hLs
        refine CL.out.mono ?_; rintro e' w4 ⟨A3, c3, hv, hc3, hr3, hb4⟩
        simp only [] at hv hc3 hr3
        subst hv
        generalize Wi.list L = Z at *
        have q1 : ((sB Z).toList == (sB Z).toList) = true := by simp
        have q4 : decide ((k : Int) < (k : Int) + (Z.length : Int)) = true := by simp; omega
        have q5 : decide ((k : Int) + (Z.length : Int) ≤ (l.length : Int)) = true := by simp; omega
        have q6 : IntKind.i64.wrap ((k : Int) + (Z.length : Int)) = (k : Int) + (Z.length : Int) := by rw [IntKind.wrap_i64]; omega
        have q7 : (k : Int) ≤ (k : Int) + (Z.length : Int) := by omega
        have q8 : (k : Int) + (Z.length : Int) ≤ (c : Int) := by omega
        have q9 : ((k : Int) + (Z.length : Int)).toNat = k + Z.length := by omega
        have q11 : ¬ c = k := by omega
        have hb5 : Below w.heap.size w w4 := hbz.trans (hb4.mono hbz.size)
        go_wp2_with fail
        refine wp_region_any (by kernel_rfl) ?_
        change wpAny _ _ _ _ _ _ _ (World.drew _)
        refine wpAny_take (i := 0) (v := ?_) rfl (by kernel_rfl) (by kernel_rfl) (by kernel_rfl) (fun _ _ _ h => h) (Or.inl ⟨by rfl, ?_⟩) ?_
        rotate_left
        · intro w; go_simp; try with_reducible rfl
        change wpAny _ _ _ _ _ _ (Act.put _ _ _) _
        refine wpAny_take (i := 1) (v := ?_) rfl (by kernel_rfl) (by kernel_rfl) (by kernel_rfl) (fun _ _ _ h => h) (Or.inl ⟨by rfl, ?_⟩) ?_
        rotate_left
        · intro w; go_simp; try with_reducible rfl
        change wpAny _ _ _ _ _ _ (Act.put _ _ _) _
        refine wpAny_take (i := 2) (v := ?_) rfl (by kernel_rfl) (by kernel_rfl) (by kernel_rfl) (fun _ _ _ h => h) (Or.inl ⟨by rfl, ?_⟩) ?_
        rotate_left
        · intro w; go_simp; try with_reducible rfl
        change wpAny _ _ _ _ _ _ (Act.put _ _ _) _
        refine wpAny_take (i := 3) (v := ?_) rfl (by kernel_rfl) (by kernel_rfl) (by kernel_rfl) (fun _ _ _ h => h) (Or.inl ⟨by rfl, ?_⟩) ?_
        rotate_left
        · intro w; go_simp; try with_reducible rfl
        change wpAny _ _ _ _ _ _ (Act.put _ _ _) _
        refine wpAny_take (i := 4) (v := ?_) rfl (by kernel_rfl) (by kernel_rfl) (by kernel_rfl) (fun _ _ _ h => h) (Or.inl ⟨by rfl, ?_⟩) ?_
        rotate_left
        · intro w; go_simp; try with_reducible rfl
        change wpAny _ _ _ _ _ _ (Act.put _ _ _) _
        go_simp
        refine wpAny_take (i := 5) (v := ?_) rfl (by kernel_rfl) (by kernel_rfl) (by kernel_rfl) (fun _ _ _ h => h) (Or.inl ⟨by rfl, ?_⟩) ?_
        rotate_left
        · intro w; go_simp; try with_reducible rfl
        change wpAny _ _ _ _ _ _ (Act.put _ _ _) _
        refine wpAny_take (i := 6) (v := ?_) rfl (by kernel_rfl) (by kernel_rfl) (by kernel_rfl) (fun _ _ _ h => h) (Or.inl ⟨by rfl, ?_⟩) ?_
        rotate_left
        · intro w; go_simp; try with_reducible rfl
        change wpAny _ _ _ _ _ _ (Act.put _ _ _) _
        refine wpAny_take (i := 7) (v := ?_) rfl (by kernel_rfl) (by kernel_rfl) (by kernel_rfl) (fun _ _ _ h => h) (Or.inl ⟨by rfl, ?_⟩) ?_
        rotate_left
        · intro w; go_simp; try with_reducible rfl
        change wpAny _ _ _ _ _ _ (Act.put _ _ _) _
        refine wpAny_take (i := 8) (v := ?_) rfl (by kernel_rfl) (by kernel_rfl) (by kernel_rfl) (fun _ _ _ h => h) (Or.inl ⟨by rfl, ?_⟩) ?_
        rotate_left
        · intro w; go_simp; try with_reducible rfl
        change wpAny _ _ _ _ _ _ (Act.put _ _ _) _
        refine wpAny_take (i := 9) (v := ?_) rfl (by kernel_rfl) (by kernel_rfl) (by kernel_rfl) (fun _ _ _ h => h) (Or.inl ⟨by rfl, ?_⟩) ?_
        rotate_left
        · intro w; go_simp; try with_reducible rfl
        change wpAny _ _ _ _ _ _ (Act.put _ _ _) _
        go_simp
        refine wpAny_take (i := 10) (v := ?_) rfl (by kernel_rfl) (by kernel_rfl) (by kernel_rfl) (fun _ _ _ h => h) (Or.inl ⟨by rfl, ?_⟩) ?_
        rotate_left
        · intro w; go_simp; try with_reducible rfl
        change wpAny _ _ _ _ _ _ (Act.put _ _ _) _
        refine wpAny_take (i := 11) (v := ?_) rfl (by kernel_rfl) (by kernel_rfl) (by kernel_rfl) (fun _ _ _ h => h) (Or.inl ⟨by rfl, ?_⟩) ?_
        rotate_left
        · intro w; go_simp; try with_reducible rfl
        change wpAny _ _ _ _ _ _ (Act.put _ _ _) _
        refine wpAny_take (i := 12) (v := ?_) rfl (by kernel_rfl) (by kernel_rfl) (by kernel_rfl) (fun _ _ _ h => h) (Or.inl ⟨by rfl, ?_⟩) ?_
        rotate_left
        · intro w; go_simp; try with_reducible rfl
        change wpAny _ _ _ _ _ _ (Act.put _ _ _) _
        refine wpAny_take (i := 13) (v := ?_) rfl (by kernel_rfl) (by kernel_rfl) (by kernel_rfl) (fun _ _ _ h => h) (Or.inl ⟨by rfl, ?_⟩) ?_
        rotate_left
        · intro w; go_simp; try with_reducible rfl
        change wpAny _ _ _ _ _ _ (Act.put _ _ _) _
        go_simp
        refine wpAny_take (i := 16) (v := ?_) rfl (by kernel_rfl) (by kernel_rfl) (by kernel_rfl) (fun _ _ _ h => h) (Or.inl ⟨by rfl, ?_⟩) ?_
        rotate_left
        · intro w; go_simp; try with_reducible rfl
        change wpAny _ _ _ _ _ _ (Act.put _ _ _) _
        refine wpAny_take (i := 17) (v := ?_) rfl (by kernel_rfl) (by kernel_rfl) (by kernel_rfl) (fun _ _ _ h => h) (Or.inl ⟨by rfl, ?_⟩) ?_
        rotate_left
        · intro w; go_simp; try with_reducible rfl
        change wpAny _ _ _ _ _ _ (Act.put _ _ _) _
        refine wpAny_take (i := 18) (v := ?_) rfl (by kernel_rfl) (by kernel_rfl) (by kernel_rfl) (fun _ _ _ h => h) (Or.inl ⟨by rfl, ?_⟩) ?_
        rotate_left
        · intro w; go_simp; try with_reducible rfl
        change wpAny _ _ _ _ _ _ (Act.put _ _ _) _
        refine wpAny_take (i := 19) (v := ?_) rfl (by kernel_rfl) (by kernel_rfl) (by kernel_rfl) (fun _ _ _ h => h) (Or.inl ⟨by rfl, ?_⟩) ?_
        rotate_left
        · intro w; go_simp; try with_reducible rfl
        change wpAny _ _ _ _ _ _ (Act.put _ _ _) _
        go_simp
        have HS3 := fun (w' : World) (hb : Below w.heap.size w w') => (cut_str (HR.out.below hb) rfl hle3 HD3.out (c - k))
        have HC3 := Lib.hid HS3
        clear HS3
        refine wpAny_of_held (S := (fun w' => (convert 22 9 (.slice (Option.map (fun x => x.add k) A) Z.length (c - k))).run Try.prog w' = .ok (.string (sB Z)) w')) _ _ _ _ ?_
        refine wpAnyH_take (i := 20) (v := .string (sB Z)) rfl (by kernel_rfl) (by kernel_rfl) (by kernel_rfl) (fun _ _ _ h => h) (Or.inl ⟨by rfl, fun w hS => ?_⟩) (HC3.out _ (hb5.drew)) ?_
        · have hS' := hS
          simp only [] at hS'
          go_simp
        change wpAnyH _ _ _ _ _ _ _ (Act.put _ _ _) _
        refine held_one (i := 14) (by kernel_rfl) rfl (fun K hK => ?_)
        go_simp
        (refine (CX3.out _ _ _ hr3.drew).mono ?_; rintro e' w5 ⟨A4, c4, rfl, hc4, hr4, hb6⟩)
        refine hK _ _ (HC3.out _ (hb5.drew.trans (hb6.mono hb5.drew.size))) ?_; clear hK K
        have hb7 : Below w.heap.size w w5 := hb5.drew.trans (hb6.mono hb5.drew.size)
        have hcv5 := fun u : Grw w5 => own_str (hr4.grw (Nat.le_refl _) u) c4
        clear hr4
        refine wpAnyH_grow (by kernel_rfl) (Picks.cons (i := 15) rfl <| Picks.cons (i := 21) rfl <| Picks.cons (i := 22) rfl <| Picks.cons (i := 23) rfl <| Picks.cons (i := 24) rfl <| Picks.cons (i := 25) rfl <| Picks.cons (i := 26) rfl <| Picks.cons (i := 27) rfl <| Picks.nil _) (by kernel_rfl) rfl (fun u => HC3.out _ (below_of hb7 u.prop)) ?_
        go_simp
        repeat (go_big_quiet_step ((go_at_call 13; exact grow_call (alive_any _))))
        refine wpQuiet_nil ?_
        first | (intro _ hw'; obtain ⟨u, hw''⟩ := hw'; subst hw'') | intro u
        go_wp2_with fail
        go_ret
        exact ⟨rfl, below_of hb7 u.prop⟩
      · have he3 : ((f3 : Int) != 0) = true := by rw [bne_iff_ne]; omega
        clear hL hf3
        refine CL.out.mono ?_; rintro e' w4 ⟨A3, c3, hv, hc3, hr3, hb4⟩
        simp only [] at hv hc3 hr3
        subst hv
        have hb5 : Below w.heap.size w w4 := hbz.trans (hb4.mono hbz.size)
        go_wp2_with fail
        refine wp_region_grow (by kernel_rfl) (by kernel_rfl) ?_
        repeat (go_big_quiet_step ((go_at_call 13; exact grow_call (alive_any _))))
        refine wpQuiet_nil ?_
        first | (intro _ hw'; obtain ⟨u, hw''⟩ := hw'; subst hw'') | intro u
        go_wp2_with fail
        go_ret
        exact ⟨rfl, below_of hb5 u.prop⟩
  · obtain ⟨ht, hL⟩ := getText_of_num hg he
    have CT := Lib.hid (getText_any A c w.heap.size p l w hr hl (by omega))
    have CL := Lib.hid (fun (w' : World) (hb : Below w.heap.size w w') => getList_any A c p l w' (hr.later hb) hl (by omega))
    rw [ht] at CT
    rw [hL] at CL
    have he1 : ((e : Int) == 0) = false := by rw [beq_eq_false_iff_ne]; omega
    have he3 : ((e : Int) != 0) = true := by rw [bne_iff_ne]; omega
    clear ht hL hg he hr
    go_enter Try.func8, Try.ntmps8
    go_wp2_with fail
    refine C1.out.mono ?_; rintro e' w' ⟨rfl, rfl⟩
    unfold getV
    go_wp2_with fail
    refine CT.out.mono ?_; rintro e' w' ⟨rfl, rfl⟩
    unfold textV
    go_wp2_with fail
    refine wp_region_grow (by kernel_rfl) (by kernel_rfl) ?_
    repeat (go_big_quiet_step ((fail)))
    refine wpQuiet_nil ?_
    first | (intro _ hw'; obtain ⟨u, hw''⟩ := hw'; subst hw'') | intro u
    go_wp2_with fail
    refine (CL.out _ u.prop).mono ?_; rintro e' w4 ⟨A3, c3, hv, hc3, hr3, hb4⟩
    simp only [] at hv hc3 hr3
    subst hv
    have hb5 : Below w.heap.size w w4 := below_of u.prop hb4
    go_wp2_with fail
    refine wp_region_grow (by kernel_rfl) (by kernel_rfl) ?_
    repeat (go_big_quiet_step ((go_at_call 13; exact grow_call (alive_any _))))
    refine wpQuiet_nil ?_
    first | (intro _ hw'; obtain ⟨u, hw''⟩ := hw'; subst hw'') | intro u
    go_wp2_with fail
    go_ret
    exact ⟨rfl, below_of hb5 u.prop⟩
end Go.Proofs.Ytlgkckokcednaaa

/- WireHeads, where what is read is of bulk at most 1048576: a number's, a text's or a list's bytes with some of the last ones missing end too early. -/
import Derived.Test.YtlgkckokcednaaaAlive
import Derived.Test.YtlgkckokcednaaaCaps
import Derived.Test.YtlgkckokcednaaaGetList
namespace Go.Proofs.Ytlgkckokcednaaa
open Go Go.RowKit

/-- Go's '(cut%k+k)%k'. -/
theorem cut_mod (cut : Int) (k : Nat) (hk : 0 < k) (hb : k ≤ 140737488355328) : ∃ (x : Int) (j : Nat), j < k ∧ IntKind.i64.wrap (cut.tmod k + k) = x ∧ x.tmod k = j := by
  have h1 : cut.tmod k < k := Int.tmod_lt_of_pos cut (by omega)
  have h2 : -(k : Int) < cut.tmod k := Int.lt_tmod_of_pos cut (by omega)
  have h0 : 0 ≤ cut.tmod k + k := by omega
  refine ⟨cut.tmod k + k, ((cut.tmod k + k) % k).toNat, ?_, IntWalk.i64_in _ (by omega), ?_⟩
  · have h3 := Int.emod_lt_of_pos (cut.tmod k + k) (show (0 : Int) < k by omega)
    have h4 := Int.emod_nonneg (cut.tmod k + k) (show (k : Int) ≠ 0 by omega)
    omega
  · rw [Int.tmod_eq_emod_of_nonneg h0]
    have h4 := Int.emod_nonneg (cut.tmod k + k) (show (k : Int) ≠ 0 by omega)
    omega

theorem num_neg' {n : Int} (h : n < 0) (hn : -9223372036854775808 ≤ n) : ∃ m : Nat, m < 9223372036854775808 ∧ IntKind.i64.wrap (n + 1) = n + 1 ∧ IntKind.i64.wrap (-(n + 1)) = (m : Int) :=
  ⟨(-(n + 1)).toNat, by omega, IntWalk.i64_in _ (by omega), by rw [IntWalk.i64_in _ (by omega)]; omega⟩

theorem sizes_le {L : List ByteArray} (h : ∀ j s, j < L.length → L[j]? = some s → s.size ≤ 131072) : ∀ t ∈ tl L, t.length ≤ 131072 := by
  intro t ht
  unfold tl at ht
  obtain ⟨s, hs, rfl⟩ := List.mem_map.1 ht
  obtain ⟨j, hj⟩ := List.getElem?_of_mem hs
  rw [Array.length_toList]
  exact h j s (List.getElem?_eq_some_iff.1 hj).1 hj

set_option maxRecDepth 100000 in
set_option maxHeartbeats 2000000 in
theorem wireHeads_walk (n : Int) (A0 : Option Addr) (c0 : Nat) (L : List ByteArray) (cut : Int) (w : World) (hn : -9223372036854775808 ≤ n ∧ n ≤ 9223372036854775807) (hr0 : Rd w w.heap.size A0 L.length (sv L)) (_ : L.length ≤ c0) (_ : c0 ≤ 9223372036854775807)
    (_ : -9223372036854775808 ≤ cut ∧ cut ≤ 9223372036854775807) (hb : (Wi.list (tl L)).length ≤ 20000000 ∧ (∀ s ∈ L, s.size ≤ 1048576) ∧ L.length ≤ 1048576) :
    Calls Try.prog 9 #[.int .i64 n, .slice A0 L.length c0, .int .i64 cut] w (Ret (.bool true) w) := by
  obtain ⟨hb1, hb2, hb3⟩ := hb
  have C4 := Lib.hid (fun (w : World) (hr : Rd w w.heap.size A0 L.length (sv L)) => list_cap A0 c0 L w hr (by omega))
  have hT0 := Wi.list_pos (tl L)
  have HCUT := Lib.hid (fun (hL : L.length ≤ 131072) (hs : ∀ t ∈ tl L, t.length ≤ 131072) (j : Nat) (hj : j < (Wi.list (tl L)).length) => Wi.getList_cut (tl L) (k := j) (by unfold tl; rw [List.length_map]; exact hL) hs hj)
  obtain ⟨T, hT⟩ : ∃ T, T = Wi.list (tl L) := ⟨_, rfl⟩
  rw [← hT] at C4 HCUT hb1 hT0
  clear hb2 hT
  obtain ⟨y, j2, hj2, hy1, hy2⟩ := cut_mod cut T.length hT0 (by omega)
  have ht0 : ¬ ((T.length : Int) = 0) := by omega
  have ht1 : ((T.length : Int) == 0) = false := by rw [beq_eq_false_iff_ne]; omega
  have ht2 : ¬ T = [] := fun h => by rw [h] at hT0; exact Nat.lt_irrefl 0 hT0
  have HR0 := Lib.hid hr0
  clear hr0
  by_cases h0 : n < 0
  · obtain ⟨m, hm, hn1, hn2⟩ := num_neg' h0 hn.1
    have hN0 := Wi.num_pos m
    have hN9 := Wi.num_len_nine hm
    have C1 := Lib.hid (num_cap m w hm)
    have HNC := Lib.hid (fun j (hj : j < (Wi.num m).length) => Wi.getNum_cut [] hm hj)
    obtain ⟨X, hX⟩ : ∃ X, X = Wi.num m := ⟨_, rfl⟩
    rw [← hX] at C1 HNC hN0 hN9
    clear hX hm
    obtain ⟨x, j, hj, hx1, hx2⟩ := cut_mod cut X.length hN0 (by omega)
    have hx0 : ¬ ((X.length : Int) = 0) := by omega
    have hx3 : ¬ X = [] := fun h => by rw [h] at hN0; exact Nat.lt_irrefl 0 hN0
    have hjx : (X.take j).length = j := by rw [List.length_take]; omega
    have hjt : (T.take j2).length = j2 := by rw [List.length_take]; omega
    have HNJ := Lib.hid (HNC.out j hj)
    clear HNC
    simp only [List.nil_append, List.length_nil] at HNJ
    go_enter Try.func9, Try.ntmps9
    go_wp2_with fail
    refine C1.out.mono ?_; rintro e' w1 ⟨A1, c1, rfl, hc1, hr1, hb1'⟩
    have hr1' := hr1.take (k := j) (by omega)
    rw [← bv_take] at hr1'
    have C2 := Lib.hid (getNum_any A1 c1 w1.heap.size ((0 : Nat) : Int) (X.take j) w1 (by rw [hjx]; exact hr1') (by omega) (by omega))
    rw [HNJ.out, hjx] at C2
    clear hr1 hr1'
    go_wp2_with fail
    refine C2.out.mono ?_; rintro e' w' ⟨rfl, rfl⟩
    unfold getV
    go_wp2_with fail
    refine (C4.out _ (HR0.out.later hb1')).mono ?_; rintro e' w2 ⟨A2, c2, rfl, hc2, hr2, hb2'⟩
    have hB2 : Below w.heap.size w w2 := below_of hb1' hb2'
    have hr2' := hr2.take (k := j2) (by omega)
    rw [← bv_take] at hr2'
    have C5 := Lib.hid (getList_any A2 c2 (0 : Int) (T.take j2) w2 (by rw [hjt]; exact hr2') (by omega) (by omega))
    rw [hjt] at C5
    clear hr2 hr2'
    go_wp2_with fail
    go_loopw [13] (fun i wr => ∃ k : Nat, k ≤ L.length ∧ i = .int .i64 (k : Int) ∧ w2 = wr ∧ ∀ j s, j < k → L[j]? = some s → s.size ≤ 131072) (fun i _ => L.length - (intOf i).toNat)
    case atStart => exact ⟨0, Nat.zero_le _, rfl, rfl, fun j s h => absurd h (Nat.not_lt_zero _)⟩
    case round =>
      obtain ⟨k, hk, rfl, rfl, hall⟩ := hrel
      have HALL := Lib.hid hall
      clear hall
      by_cases hlt : k < L.length
      · obtain ⟨ad, s, rfl, hs, hcell⟩ := (HR0.out.below hB2).strAt hlt
        have HS := Lib.hid hs
        clear hs
        by_cases hlong : 131072 < s.size
        · go_wp2_with fail
          refine (alive_any _).mono ?_; rintro e' w4 ⟨rfl, hb4⟩
          go_wp2_with fail
          go_ret
          exact ⟨rfl, below_of hB2 hb4⟩
        · go_wp2_with fail
          go_roundw
          case rel => exact ⟨k + 1, by omega, by go_num, trivial, fun j t hj ht => by
            rcases Nat.lt_succ_iff_lt_or_eq.1 hj with h | rfl
            · exact HALL.out j t h ht
            · rw [HS.out] at ht; cases ht; omega⟩
          case measure => simp [intOf]; omega
      · obtain rfl : k = L.length := by omega
        by_cases hL : L.length ≤ 131072
        · rw [HCUT.out hL (sizes_le HALL.out) j2 hj2] at C5
          go_wp2_with fail
          refine C5.out.mono ?_; rintro e' w3 ⟨A3, c3, hv, hc3, hr3, hb3⟩
          simp only [] at hv hc3 hr3
          subst hv
          have hB3 : Below w.heap.size w w3 := below_of hB2 hb3
          go_wp2_with fail
          refine (alive_any _).mono ?_; rintro e' w4 ⟨rfl, hb4⟩
          go_wp2_with fail
          go_ret
          exact ⟨rfl, below_of hB3 hb4⟩
        · have hL' : 131072 < L.length := by omega
          have hLd : decide (131072 < (L.length : Int)) = true := by simp; omega
          obtain ⟨K, nx, e, hg⟩ : ∃ t nx e, Wi.getList (T.take j2) (0 : Int) = (t, nx, e) := ⟨_, _, _, rfl⟩
          rw [hg] at C5
          clear hg
          go_wp2_with fail
          refine C5.out.mono ?_; rintro e' w3 ⟨A3, c3, hv, hc3, hr3, hb3⟩
          simp only [] at hv hc3 hr3
          subst hv
          have hB3 : Below w.heap.size w w3 := below_of hB2 hb3
          cases hq : ((e : Int) == 8)
          all_goals
            go_wp2_with fail
            refine (alive_any _).mono ?_; rintro e' w4 ⟨rfl, hb4⟩
            go_wp2_with fail
            go_ret
            exact ⟨rfl, below_of hB3 hb4⟩
  · obtain ⟨m, rfl⟩ := Int.eq_ofNat_of_zero_le (show 0 ≤ n by omega)
    have hm : m < 9223372036854775808 := by omega
    have hN0 := Wi.num_pos m
    have hN9 := Wi.num_len_nine hm
    have C1 := Lib.hid (num_cap m w hm)
    have HNC := Lib.hid (fun j (hj : j < (Wi.num m).length) => Wi.getNum_cut [] hm hj)
    obtain ⟨X, hX⟩ : ∃ X, X = Wi.num m := ⟨_, rfl⟩
    rw [← hX] at C1 HNC hN0 hN9
    clear hX hm
    obtain ⟨x, j, hj, hx1, hx2⟩ := cut_mod cut X.length hN0 (by omega)
    have hx0 : ¬ ((X.length : Int) = 0) := by omega
    have hx3 : ¬ X = [] := fun h => by rw [h] at hN0; exact Nat.lt_irrefl 0 hN0
    have hjx : (X.take j).length = j := by rw [List.length_take]; omega
    have hjt : (T.take j2).length = j2 := by rw [List.length_take]; omega
    have HNJ := Lib.hid (HNC.out j hj)
    clear HNC
    simp only [List.nil_append, List.length_nil] at HNJ
    go_enter Try.func9, Try.ntmps9
    go_wp2_with fail
    refine C1.out.mono ?_; rintro e' w1 ⟨A1, c1, rfl, hc1, hr1, hb1'⟩
    have hr1' := hr1.take (k := j) (by omega)
    rw [← bv_take] at hr1'
    have C2 := Lib.hid (getNum_any A1 c1 w1.heap.size ((0 : Nat) : Int) (X.take j) w1 (by rw [hjx]; exact hr1') (by omega) (by omega))
    rw [HNJ.out, hjx] at C2
    clear hr1 hr1'
    go_wp2_with fail
    refine C2.out.mono ?_; rintro e' w' ⟨rfl, rfl⟩
    unfold getV
    go_wp2_with fail
    refine (C4.out _ (HR0.out.later hb1')).mono ?_; rintro e' w2 ⟨A2, c2, rfl, hc2, hr2, hb2'⟩
    have hB2 : Below w.heap.size w w2 := below_of hb1' hb2'
    have hr2' := hr2.take (k := j2) (by omega)
    rw [← bv_take] at hr2'
    have C5 := Lib.hid (getList_any A2 c2 (0 : Int) (T.take j2) w2 (by rw [hjt]; exact hr2') (by omega) (by omega))
    rw [hjt] at C5
    clear hr2 hr2'
    go_wp2_with fail
    go_loopw [13] (fun i wr => ∃ k : Nat, k ≤ L.length ∧ i = .int .i64 (k : Int) ∧ w2 = wr ∧ ∀ j s, j < k → L[j]? = some s → s.size ≤ 131072) (fun i _ => L.length - (intOf i).toNat)
    case atStart => exact ⟨0, Nat.zero_le _, rfl, rfl, fun j s h => absurd h (Nat.not_lt_zero _)⟩
    case round =>
      obtain ⟨k, hk, rfl, rfl, hall⟩ := hrel
      have HALL := Lib.hid hall
      clear hall
      by_cases hlt : k < L.length
      · obtain ⟨ad, s, rfl, hs, hcell⟩ := (HR0.out.below hB2).strAt hlt
        have HS := Lib.hid hs
        clear hs
        by_cases hlong : 131072 < s.size
        · go_wp2_with fail
          refine (alive_any _).mono ?_; rintro e' w4 ⟨rfl, hb4⟩
          go_wp2_with fail
          go_ret
          exact ⟨rfl, below_of hB2 hb4⟩
        · go_wp2_with fail
          go_roundw
          case rel => exact ⟨k + 1, by omega, by go_num, trivial, fun j t hj ht => by
            rcases Nat.lt_succ_iff_lt_or_eq.1 hj with h | rfl
            · exact HALL.out j t h ht
            · rw [HS.out] at ht; cases ht; omega⟩
          case measure => simp [intOf]; omega
      · obtain rfl : k = L.length := by omega
        by_cases hL : L.length ≤ 131072
        · rw [HCUT.out hL (sizes_le HALL.out) j2 hj2] at C5
          go_wp2_with fail
          refine C5.out.mono ?_; rintro e' w3 ⟨A3, c3, hv, hc3, hr3, hb3⟩
          simp only [] at hv hc3 hr3
          subst hv
          have hB3 : Below w.heap.size w w3 := below_of hB2 hb3
          go_wp2_with fail
          refine (alive_any _).mono ?_; rintro e' w4 ⟨rfl, hb4⟩
          go_wp2_with fail
          go_ret
          exact ⟨rfl, below_of hB3 hb4⟩
        · have hL' : 131072 < L.length := by omega
          have hLd : decide (131072 < (L.length : Int)) = true := by simp; omega
          obtain ⟨K, nx, e, hg⟩ : ∃ t nx e, Wi.getList (T.take j2) (0 : Int) = (t, nx, e) := ⟨_, _, _, rfl⟩
          rw [hg] at C5
          clear hg
          go_wp2_with fail
          refine C5.out.mono ?_; rintro e' w3 ⟨A3, c3, hv, hc3, hr3, hb3⟩
          simp only [] at hv hc3 hr3
          subst hv
          have hB3 : Below w.heap.size w w3 := below_of hB2 hb3
          cases hq : ((e : Int) == 8)
          all_goals
            go_wp2_with fail
            refine (alive_any _).mono ?_; rintro e' w4 ⟨rfl, hb4⟩
            go_wp2_with fail
            go_ret
            exact ⟨rfl, below_of hB3 hb4⟩
end Go.Proofs.Ytlgkckokcednaaa

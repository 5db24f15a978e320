/- The document's runs and Best: how many bytes are the same, and the best places. -/
import Derived.Test.YtemcfmneokbhkaaDl2
import Derived.Test.YtemcfmneokbhkaaStr
import Derived.Test.YtemcfmneokbhkaaStill
import Derived.Deep.OwnRows
import Derived.IntWalk
import Derived.Outline
import Derived.Lib.Hide
namespace Go.Proofs.Ytemcfmneokbhkaa
open Go Go.RowKit

theorem infoInt : (Try.prog.info? 3).map (fun i => (i.zero, i.size, i.bytes)) = some (some (.int .i64 0), 1, 8) := by kernel_rfl
theorem make_ints (n : Nat) (hn : n ≤ 4097) (w : World) : (Instr.makeSlice 43 (.int .i64 (n : Int)) (.int .i64 (n : Int))).run Try.prog w = .ok (.slice (some ⟨w.heap.size, 0, none⟩) n n) (w.alloc (.cells (madeCells #[.int .i64 0] n) 3)) :=
  run_make_row' (P := Try.prog) 43 3 (.int .i64 0) 8 Try.underlying43 infoInt rfl .i64 .i64 n (by omega) (by omega) w
theorem make_ints1 (n : Nat) (hn : n ≤ 4096) (w : World) : (Instr.makeSlice 43 (.int .i64 ((n : Int) + 1)) (.int .i64 ((n : Int) + 1))).run Try.prog w = .ok (.slice (some ⟨w.heap.size, 0, none⟩) (n + 1) (n + 1)) (w.alloc (.cells (madeCells #[.int .i64 0] (n + 1)) 3)) := by
  have h := make_ints (n + 1) (by omega) w
  rwa [Int.natCast_add] at h
theorem made_size (z : Value) (n : Nat) : (madeCells #[z] n).size = n := by
  rw [← Array.length_toList, toList_madeCells_one, List.length_replicate]
theorem made_at (z : Value) (n k : Nat) (hk : k < n) : (madeCells #[z] n)[k]? = some z := by
  rw [← Array.getElem?_toList, toList_madeCells_one, List.getElem?_replicate, if_pos hk]

/-- Block g: how many bytes from each place of the base on are the same as t's. -/
def RowD (base t : List UInt8) (w : World) (g : Nat) : Prop := ∃ cs, Blk w g 3 cs ∧ cs.size = base.length + 1 ∧ ∀ k, k ≤ base.length → cs[k]? = some (.int .i64 (Dl.lcp (base.drop k) t : Int))
/-- .. the first k places, noughts behind them. -/
def RowTo (base t : List UInt8) (k : Nat) (w : World) (g : Nat) : Prop := ∃ cs, Blk w g 3 cs ∧ cs.size = base.length + 1 ∧ (∀ j, j < k → j ≤ base.length → cs[j]? = some (.int .i64 (Dl.lcp (base.drop j) t : Int))) ∧ ∀ j, k ≤ j → j ≤ base.length → cs[j]? = some (.int .i64 0)

section
variable {base t : List UInt8} {w w' : World} {g k : Nat}
theorem RowD.later (h : RowD base t w g) (hb : Below w.heap.size w w') : RowD base t w' g := by
  obtain ⟨cs, k1, k2, k3⟩ := h
  exact ⟨cs, k1.later hb, k2, k3⟩
theorem RowD.lt (h : RowD base t w g) : g < w.heap.size := by
  obtain ⟨cs, k1, -⟩ := h
  exact k1.lt
theorem RowD.cell (h : RowD base t w g) (hk : k ≤ base.length) : w.cell? ⟨g, k, none⟩ = some (.int .i64 (Dl.lcp (base.drop k) t : Int)) := by
  obtain ⟨cs, k1, k2, k3⟩ := h
  rw [k1.cell, k3 k hk]
theorem RowD.far (h : RowD base t w g) {p : Addr} (hp : g ≠ p.block) (x : Value) : RowD base t (w.setCell p x) g := by
  obtain ⟨cs, k1, k2, k3⟩ := h
  exact ⟨cs, k1.far hp x, k2, k3⟩
theorem RowTo.old (h : RowTo base t k w g) (hk : k ≤ base.length) : w.cell? ⟨g, k, none⟩ = some (.int .i64 0) ∧ w.frozen? ⟨g, k, none⟩ = false := by
  obtain ⟨cs, k1, k2, k3, k4⟩ := h
  exact ⟨by rw [k1.cell, k4 k (Nat.le_refl _) hk], k1.frozen k⟩
theorem RowTo.set (h : RowTo base t k w g) (hk : k ≤ base.length) {x : Int} (hx : x = (Dl.lcp (base.drop k) t : Int)) : RowTo base t (k + 1) (w.setCell ⟨g, k, none⟩ (.int .i64 x)) g := by
  obtain ⟨cs, k1, k2, k3, k4⟩ := h
  refine ⟨_, k1.set_ k _, by simpa using k2, fun j h1 h2 => ?_, fun j h1 h2 => ?_⟩
  · by_cases hj : j = k
    · subst hj; rw [Array.getElem?_setIfInBounds, if_pos rfl, if_pos (by omega), hx]
    · rw [Array.getElem?_setIfInBounds, if_neg (by omega)]; exact k3 j (by omega) h2
  · rw [Array.getElem?_setIfInBounds, if_neg (by omega)]; exact k4 j (by omega) h2
theorem RowTo.skip (h : RowTo base t k w g) (hx : Dl.lcp (base.drop k) t = 0) : RowTo base t (k + 1) w g := by
  obtain ⟨cs, k1, k2, k3, k4⟩ := h
  refine ⟨cs, k1, k2, fun j h1 h2 => ?_, fun j h1 h2 => k4 j (by omega) h2⟩
  by_cases hj : j = k
  · subst hj; rw [hx]; exact k4 j (Nat.le_refl _) h2
  · exact k3 j (by omega) h2
theorem RowTo.done (h : RowTo base t base.length w g) : RowD base t w g := by
  obtain ⟨cs, k1, k2, k3, k4⟩ := h
  refine ⟨cs, k1, k2, fun j hj => ?_⟩
  by_cases h1 : j < base.length
  · exact k3 j h1 hj
  · obtain rfl : j = base.length := by omega
    rw [List.drop_length]
    exact k4 _ (Nat.le_refl _) hj
theorem RowTo.begin (w : World) : RowTo base t 0 (w.alloc (.cells (madeCells #[.int .i64 0] (base.length + 1)) 3)) w.heap.size :=
  ⟨_, Blk.new w _ _, made_size _ _, fun j h => absurd h (Nat.not_lt_zero _), fun j _ h => made_at _ _ _ (by omega)⟩
theorem RowD.zero (w : World) : RowD base [] (w.alloc (.cells (madeCells #[.int .i64 0] (base.length + 1)) 3)) w.heap.size :=
  ⟨_, Blk.new w _ _, made_size _ _, fun j h => by rw [Dl.lcp_nil]; exact made_at _ _ _ (by omega)⟩
end
theorem lcp_same {base t : List UInt8} {k i : Nat} (hk : k < base.length) (hi : i < t.length) (h : base[k] = t[i]) : Dl.lcp (base.drop k) (t.drop i) = Dl.lcp (base.drop (k + 1)) (t.drop (i + 1)) + 1 := by
  rw [List.drop_eq_getElem_cons hk, List.drop_eq_getElem_cons hi, Dl.lcp, if_pos h]
theorem lcp_unlike {base t : List UInt8} {k i : Nat} (hk : k < base.length) (hi : i < t.length) (h : base[k] ≠ t[i]) : Dl.lcp (base.drop k) (t.drop i) = 0 := by
  rw [List.drop_eq_getElem_cons hk, List.drop_eq_getElem_cons hi, Dl.lcp, if_neg h]

set_option maxRecDepth 100000 in
set_option maxHeartbeats 4000000 in
theorem runs_any (base t : List UInt8) (i g : Nat) (hb : base.length ≤ 4096) (hi : i < t.length) (w : World) (h : RowD base (t.drop (i + 1)) w g) :
    Calls Try.prog 30 #[.string (sB base), .string (sB t), .int .i64 (i : Int), .slice (some ⟨g, 0, none⟩) (base.length + 1) (base.length + 1)] w
      fun e w' => ∃ g', e = .returned (.slice (some ⟨g', 0, none⟩) (base.length + 1) (base.length + 1)) ∧ RowD base (t.drop i) w' g' ∧ w.heap.size ≤ g' ∧ Below w.heap.size w w' := by
  have hsb := sB_size base
  have hst := sB_size t
  have hmk := make_ints1 base.length hb
  have H := Lib.hid h
  have HB := Lib.hid (RowTo.begin (base := base) (t := t.drop i) w)
  have hit := fun w => run_str_index (P := Try.prog) Try.underlying9 t i hi w
  have HSM := Lib.hid (fun k (hk : k < base.length) => lcp_same (t := t) (i := i) hk hi)
  have HUN := Lib.hid (fun k (hk : k < base.length) => lcp_unlike (t := t) (i := i) hk hi)
  obtain ⟨xt, hxt⟩ : ∃ x, x = t[i] := ⟨_, rfl⟩
  rw [← hxt] at hit HSM HUN
  have hgl : g < w.heap.size := h.lt
  have hiI : (i : Int) < (t.length : Int) := by omega
  clear h hxt
  go_enter Try.func30, Try.ntmps30
  go_wp2_with fail
  clear hmk
  go_loopw [10] (fun kv wr => ∃ k : Nat, k ≤ base.length ∧ kv = .int .i64 (k : Int) ∧ RowTo base (t.drop i) k wr w.heap.size ∧ Below w.heap.size w wr) (fun kv _ => base.length - (intOf kv).toNat)
  case atStart => exact ⟨0, Nat.zero_le _, rfl, HB.out, below_alloc w _⟩
  clear HB
  case round =>
    obtain ⟨k, hk, rfl, hT, hB⟩ := hrel
    have HT := Lib.hid hT
    have HB := Lib.hid hB
    clear hT hB
    by_cases hlt : k < base.length
    · have hltI : (k : Int) < (base.length : Int) := by omega
      have hib := fun w => run_str_index (P := Try.prog) Try.underlying9 base k hlt w
      have HS1 := Lib.hid (HSM.out k hlt)
      have HU1 := Lib.hid (HUN.out k hlt)
      obtain ⟨xb, hxb⟩ : ∃ x, x = base[k] := ⟨_, rfl⟩
      rw [← hxb] at hib HS1 HU1
      clear hxb
      by_cases hab : xb = xt
      · subst hab
        have HS2 := Lib.hid (HS1.out rfl)
        have HTd := Lib.hid (show RowTo base (t.drop i) k wr.drew w.heap.size from HT.out)
        have HBd := Lib.hid HB.out.drew
        have HR := Lib.hid (H.out.later HBd.out)
        have c1 := HR.out.cell (k := k + 1) (by omega)
        obtain ⟨c0, f0⟩ := HTd.out.old hk
        have hl1 := Dl.lcp_le_left (base.drop (k + 1)) (t.drop (i + 1))
        rw [List.length_drop] at hl1
        obtain ⟨X, hX⟩ : ∃ X, X = Dl.lcp (base.drop (k + 1)) (t.drop (i + 1)) := ⟨_, rfl⟩
        rw [← hX] at c1 HS2 hl1
        have hw1 : IntKind.i64.wrap ((k : Int) + 1) = (k : Int) + 1 := IntWalk.i64_in _ (by omega)
        have hn1 : 0 ≤ (k : Int) + 1 := by omega
        have hl2 : (k : Int) + 1 < (base.length : Int) + 1 := by omega
        have hl3 : (k : Int) < (base.length : Int) + 1 := by omega
        have ht1 : ((k : Int) + 1).toNat = k + 1 := by omega
        clear hX HS1 HU1
        go_wp2_with fail
        refine still_all (by kernel_rfl) (by kernel_rfl) ?_
        generalize World.drew wr = wd at *
        first | (with_reducible refine wpStill_step (fun K hK => ?_); go_simp; refine hK _ ?_; clear hK K) | (with_reducible refine still_skip ?hw (fun K hK => ?_); (case hw => simp [Region.wanted, yielded, undef]); go_simp; refine hK _ ?_; clear hK K)
        first | (with_reducible refine wpStill_step (fun K hK => ?_); go_simp; refine hK _ ?_; clear hK K) | (with_reducible refine still_skip ?hw (fun K hK => ?_); (case hw => simp [Region.wanted, yielded, undef]); go_simp; refine hK _ ?_; clear hK K)
        first | (with_reducible refine wpStill_step (fun K hK => ?_); go_simp; refine hK _ ?_; clear hK K) | (with_reducible refine still_skip ?hw (fun K hK => ?_); (case hw => simp [Region.wanted, yielded, undef]); go_simp; refine hK _ ?_; clear hK K)
        first | (with_reducible refine wpStill_step (fun K hK => ?_); go_simp; refine hK _ ?_; clear hK K) | (with_reducible refine still_skip ?hw (fun K hK => ?_); (case hw => simp [Region.wanted, yielded, undef]); go_simp; refine hK _ ?_; clear hK K)
        first | (with_reducible refine wpStill_step (fun K hK => ?_); go_simp; refine hK _ ?_; clear hK K) | (with_reducible refine still_skip ?hw (fun K hK => ?_); (case hw => simp [Region.wanted, yielded, undef]); go_simp; refine hK _ ?_; clear hK K)
        first | (with_reducible refine wpStill_step (fun K hK => ?_); go_simp; refine hK _ ?_; clear hK K) | (with_reducible refine still_skip ?hw (fun K hK => ?_); (case hw => simp [Region.wanted, yielded, undef]); go_simp; refine hK _ ?_; clear hK K)
        first | (with_reducible refine wpStill_step (fun K hK => ?_); go_simp; refine hK _ ?_; clear hK K) | (with_reducible refine still_skip ?hw (fun K hK => ?_); (case hw => simp [Region.wanted, yielded, undef]); go_simp; refine hK _ ?_; clear hK K)
        refine wpStill_nil ?_
        go_wp2_with fail
        go_roundw
        case rel => exact ⟨k + 1, by omega, by go_num, HTd.out.set hk (by rw [HS2.out]; omega), HBd.out.setCell (Nat.le_refl _) _⟩
        case measure => simp [intOf]; omega
      · have hne : ((xb.toNat : Int) == (xt.toNat : Int)) = false := by rw [beq_eq_false_iff_ne]; exact fun h => hab (UInt8.toNat_inj.1 (by omega))
        have hne2 : ¬ xb.toNat = xt.toNat := fun h => hab (UInt8.toNat_inj.1 h)
        have HU2 := Lib.hid (HU1.out hab)
        have HTd := Lib.hid (show RowTo base (t.drop i) k wr.drew w.heap.size from HT.out)
        have HBd := Lib.hid HB.out.drew
        clear HS1 HU1
        go_wp2_with fail
        refine still_all (by kernel_rfl) (by kernel_rfl) ?_
        generalize World.drew wr = wd at *
        first | (with_reducible refine wpStill_step (fun K hK => ?_); go_simp; refine hK _ ?_; clear hK K) | (with_reducible refine still_skip ?hw (fun K hK => ?_); (case hw => simp [Region.wanted, yielded, undef]); go_simp; refine hK _ ?_; clear hK K)
        first | (with_reducible refine wpStill_step (fun K hK => ?_); go_simp; refine hK _ ?_; clear hK K) | (with_reducible refine still_skip ?hw (fun K hK => ?_); (case hw => simp [Region.wanted, yielded, undef]); go_simp; refine hK _ ?_; clear hK K)
        first | (with_reducible refine wpStill_step (fun K hK => ?_); go_simp; refine hK _ ?_; clear hK K) | (with_reducible refine still_skip ?hw (fun K hK => ?_); (case hw => simp [Region.wanted, yielded, undef]); go_simp; refine hK _ ?_; clear hK K)
        first | (with_reducible refine wpStill_step (fun K hK => ?_); go_simp; refine hK _ ?_; clear hK K) | (with_reducible refine still_skip ?hw (fun K hK => ?_); (case hw => simp [Region.wanted, yielded, undef]); go_simp; refine hK _ ?_; clear hK K)
        first | (with_reducible refine wpStill_step (fun K hK => ?_); go_simp; refine hK _ ?_; clear hK K) | (with_reducible refine still_skip ?hw (fun K hK => ?_); (case hw => simp [Region.wanted, yielded, undef]); go_simp; refine hK _ ?_; clear hK K)
        first | (with_reducible refine wpStill_step (fun K hK => ?_); go_simp; refine hK _ ?_; clear hK K) | (with_reducible refine still_skip ?hw (fun K hK => ?_); (case hw => simp [Region.wanted, yielded, undef]); go_simp; refine hK _ ?_; clear hK K)
        first | (with_reducible refine wpStill_step (fun K hK => ?_); go_simp; refine hK _ ?_; clear hK K) | (with_reducible refine still_skip ?hw (fun K hK => ?_); (case hw => simp [Region.wanted, yielded, undef]); go_simp; refine hK _ ?_; clear hK K)
        refine wpStill_nil ?_
        go_wp2_with fail
        go_roundw
        case rel => exact ⟨k + 1, by omega, by go_num, HTd.out.skip HU2.out, HBd.out⟩
        case measure => simp [intOf]; omega
    · have hltI : ¬ (k : Int) < (base.length : Int) := by omega
      obtain rfl : k = base.length := by omega
      go_wp2_with fail
      go_ret
      exact ⟨w.heap.size, rfl, HT.out.done, Nat.le_refl _, HB.out⟩

/-- The best places told, from place s of the target on. -/
def BestTo (base t : List UInt8) (ga gs s : Nat) (w : World) : Prop :=
  ∃ ca cs, Blk w ga 3 ca ∧ Blk w gs 3 cs ∧ ca.size = t.length ∧ cs.size = t.length ∧ ∀ j, j < t.length → (s ≤ j → ca[j]? = some (.int .i64 ((Dl.bestOf base (t.drop j)).1 : Int)) ∧ cs[j]? = some (.int .i64 ((Dl.bestOf base (t.drop j)).2 : Int))) ∧ (j < s → ca[j]? = some (.int .i64 0) ∧ cs[j]? = some (.int .i64 0))
/-- .. and for place i the best of the first k of the base. -/
def BestIn (base t : List UInt8) (ga gs i k : Nat) (w : World) : Prop :=
  ∃ ca cs, Blk w ga 3 ca ∧ Blk w gs 3 cs ∧ ca.size = t.length ∧ cs.size = t.length ∧ ∀ j, j < t.length → (i < j → ca[j]? = some (.int .i64 ((Dl.bestOf base (t.drop j)).1 : Int)) ∧ cs[j]? = some (.int .i64 ((Dl.bestOf base (t.drop j)).2 : Int))) ∧
    (j = i → ca[j]? = some (.int .i64 ((Dl.best (fun x => Dl.lcp (base.drop x) (t.drop i)) k).1 : Int)) ∧ cs[j]? = some (.int .i64 ((Dl.best (fun x => Dl.lcp (base.drop x) (t.drop i)) k).2 : Int))) ∧ (j < i → ca[j]? = some (.int .i64 0) ∧ cs[j]? = some (.int .i64 0))
section
variable {base t : List UInt8} {ga gs i k s : Nat} {w w' : World}
theorem BestTo.later (h : BestTo base t ga gs s w) (hb : Below w.heap.size w w') : BestTo base t ga gs s w' := by
  obtain ⟨ca, cs, h1, h2, h3⟩ := h
  exact ⟨ca, cs, h1.later hb, h2.later hb, h3⟩
theorem BestTo.begin (h : BestTo base t ga gs (i + 1) w) : BestIn base t ga gs i 0 w := by
  obtain ⟨ca, cs, h1, h2, h3, h4, h5⟩ := h
  refine ⟨ca, cs, h1, h2, h3, h4, fun j hj => ⟨fun h => (h5 j hj).1 (by omega), fun h => ?_, fun h => (h5 j hj).2 (by omega)⟩⟩
  exact (h5 j hj).2 (by omega)
theorem BestIn.done (h : BestIn base t ga gs i base.length w) : BestTo base t ga gs i w := by
  obtain ⟨ca, cs, h1, h2, h3, h4, h5⟩ := h
  refine ⟨ca, cs, h1, h2, h3, h4, fun j hj => ⟨fun h => ?_, fun h => (h5 j hj).2.2 h⟩⟩
  by_cases hji : j = i
  · subst hji; exact (h5 j hj).2.1 rfl
  · exact (h5 j hj).1 (by omega)
theorem BestIn.cells (h : BestIn base t ga gs i k w) (hi : i < t.length) : w.cell? ⟨ga, i, none⟩ = some (.int .i64 ((Dl.best (fun x => Dl.lcp (base.drop x) (t.drop i)) k).1 : Int)) ∧ w.cell? ⟨gs, i, none⟩ = some (.int .i64 ((Dl.best (fun x => Dl.lcp (base.drop x) (t.drop i)) k).2 : Int)) ∧ w.frozen? ⟨ga, i, none⟩ = false ∧ w.frozen? ⟨gs, i, none⟩ = false := by
  obtain ⟨ca, cs, h1, h2, h3, h4, h5⟩ := h
  exact ⟨by rw [h1.cell, ((h5 i hi).2.1 rfl).1], by rw [h2.cell, ((h5 i hi).2.1 rfl).2], h1.frozen i, h2.frozen i⟩
theorem BestIn.skip (h : BestIn base t ga gs i k w) (hx : ¬ (Dl.best (fun x => Dl.lcp (base.drop x) (t.drop i)) k).2 < Dl.lcp (base.drop k) (t.drop i)) : BestIn base t ga gs i (k + 1) w := by
  obtain ⟨ca, cs, h1, h2, h3, h4, h5⟩ := h
  refine ⟨ca, cs, h1, h2, h3, h4, fun j hj => ⟨(h5 j hj).1, fun h => ?_, (h5 j hj).2.2⟩⟩
  rw [Dl.best, if_neg hx]
  exact (h5 j hj).2.1 h
theorem BestIn.take (h : BestIn base t ga gs i k w) (hne : ga ≠ gs) (hi : i < t.length) {x : Int} (hx : (Dl.best (fun x => Dl.lcp (base.drop x) (t.drop i)) k).2 < Dl.lcp (base.drop k) (t.drop i)) (hxe : x = (Dl.lcp (base.drop k) (t.drop i) : Int)) :
    BestIn base t ga gs i (k + 1) ((w.setCell ⟨ga, i, none⟩ (.int .i64 (k : Int))).setCell ⟨gs, i, none⟩ (.int .i64 x)) := by
  obtain ⟨ca, cs, h1, h2, h3, h4, h5⟩ := h
  refine ⟨_, _, (h1.set_ i _).far (by exact hne) _, (h2.far (by exact hne.symm) _).set_ i _, by simpa using h3, by simpa using h4, fun j hj => ⟨fun h => ?_, fun h => ?_, fun h => ?_⟩⟩
  · rw [Array.getElem?_setIfInBounds, if_neg (by omega), Array.getElem?_setIfInBounds, if_neg (by omega)]
    exact (h5 j hj).1 h
  · subst h
    rw [Array.getElem?_setIfInBounds, if_pos rfl, if_pos (by omega), Array.getElem?_setIfInBounds, if_pos rfl, if_pos (by omega), Dl.best, if_pos hx, hxe]
    exact ⟨rfl, rfl⟩
  · rw [Array.getElem?_setIfInBounds, if_neg (by omega), Array.getElem?_setIfInBounds, if_neg (by omega)]
    exact (h5 j hj).2.2 h
theorem BestIn.drew (h : BestIn base t ga gs i k w) : BestIn base t ga gs i k w.drew := h
theorem BestTo.cells {j : Nat} (h : BestTo base t ga gs 0 w) (hj : j < t.length) : w.cell? ⟨ga, j, none⟩ = some (.int .i64 ((Dl.bestOf base (t.drop j)).1 : Int)) ∧ w.cell? ⟨gs, j, none⟩ = some (.int .i64 ((Dl.bestOf base (t.drop j)).2 : Int)) := by
  obtain ⟨ca, cs, h1, h2, h3, h4, h5⟩ := h
  exact ⟨by rw [h1.cell, ((h5 j hj).1 (Nat.zero_le _)).1], by rw [h2.cell, ((h5 j hj).1 (Nat.zero_le _)).2]⟩
end

set_option maxRecDepth 100000 in
set_option maxHeartbeats 8000000 in
theorem best_any (base t : List UInt8) (hb : base.length ≤ 4096) (ht : t.length ≤ 4096) (w : World) :
    Calls Try.prog 22 #[.string (sB base), .string (sB t)] w
      fun e w' => ∃ ga gs, e = .returned (.tuple #[.slice (some ⟨ga, 0, none⟩) t.length t.length, .slice (some ⟨gs, 0, none⟩) t.length t.length]) ∧ BestTo base t ga gs 0 w' ∧ Below w.heap.size w w' := by
  have hsb := sB_size base
  have hst := sB_size t
  have hm1 := make_ints t.length (by omega)
  have hm2 := make_ints1 base.length hb
  obtain ⟨wa, hwa⟩ : ∃ y, y = w.alloc (.cells (madeCells #[.int .i64 0] t.length) 3) := ⟨_, rfl⟩
  obtain ⟨wb, hwb⟩ : ∃ y, y = wa.alloc (.cells (madeCells #[.int .i64 0] t.length) 3) := ⟨_, rfl⟩
  have hza : Blk wa w.heap.size 3 (madeCells #[.int .i64 0] t.length) := by rw [hwa]; exact Blk.new w _ _
  have hsa : wa.heap.size = w.heap.size + 1 := by rw [hwa]; simp
  have hsbz : wb.heap.size = w.heap.size + 1 + 1 := by rw [hwb]; simp [hsa]
  have hzb : Blk wb w.heap.size 3 (madeCells #[.int .i64 0] t.length) := by rw [hwb]; exact hza.alloc _
  have hzs : Blk wb (w.heap.size + 1) 3 (madeCells #[.int .i64 0] t.length) := by rw [hwb, ← hsa]; exact Blk.new wa _ _
  have hBb : Below w.heap.size w wb := by rw [hwb, hwa]; exact (below_alloc w _).alloc (by simp) _
  have HZ := Lib.hid (show BestTo base t w.heap.size (w.heap.size + 1) t.length wb from ⟨_, _, hzb, hzs, made_size _ _, made_size _ _, fun j hj => ⟨fun h => absurd h (by omega), fun _ => ⟨made_at _ _ _ hj, made_at _ _ _ hj⟩⟩⟩)
  have HR0 := Lib.hid (RowD.zero (base := base) wb)
  rw [hsbz] at HR0
  have HBb := Lib.hid hBb
  have HAL := Lib.hid (below_alloc wb (.cells (madeCells #[.int .i64 0] (base.length + 1)) 3))
  have HRN := Lib.hid (fun i g (hi : i < t.length) w => runs_any base t i g hb hi w)
  clear hza hzb hzs hBb
  replace hwa := hwa.symm
  replace hwb := hwb.symm
  go_enter Try.func22, Try.ntmps22
  go_wp2_with fail
  clear hm1 hm2 hwa hwb hsa
  obtain ⟨ga, hga⟩ : ∃ y, y = w.heap.size := ⟨_, rfl⟩
  obtain ⟨gs, hgs⟩ : ∃ y, y = w.heap.size + 1 := ⟨_, rfl⟩
  have hsz2 : gs < wb.heap.size := by omega
  have hsz1 : ga < wb.heap.size := by omega
  have hne : ga ≠ gs := by omega
  have hge : w.heap.size ≤ ga := by omega
  have hge2 : w.heap.size ≤ gs := by omega
  obtain ⟨g0, hg0⟩ : ∃ y, y = w.heap.size + 1 + 1 := ⟨_, rfl⟩
  have h0a : g0 ≠ ga := by omega
  have h0s : g0 ≠ gs := by omega
  rw [← hgs, ← hga] at HZ
  rw [← hg0] at HR0
  rw [show w.heap.size + 2 = g0 by omega, ← hgs, ← hga]
  clear hga hgs hg0 hsbz
  go_loopw [8, 9] (fun rv iv wr => ∃ (s g : Nat), s ≤ t.length ∧ rv = .slice (some ⟨g, 0, none⟩) (base.length + 1) (base.length + 1) ∧ iv = .int .i64 ((s : Int) - 1) ∧ RowD base (t.drop s) wr g ∧ BestTo base t ga gs s wr ∧ Below w.heap.size w wr ∧ ga < wr.heap.size ∧ gs < wr.heap.size) (fun _ iv _ => (intOf iv + 1).toNat)
  case atStart => exact ⟨t.length, g0, Nat.le_refl _, rfl, by go_num, by rw [List.drop_length]; exact HR0.out, HZ.out.later HAL.out, HBb.out.trans (HAL.out.mono HBb.out.size), Nat.lt_of_lt_of_le hsz1 HAL.out.size, Nat.lt_of_lt_of_le hsz2 HAL.out.size⟩
  clear HR0 HZ HBb HAL hsz1 hsz2 h0a h0s
  case round =>
    obtain ⟨s, g, hs, rfl, hi, hR, hT, hB, h1, h2⟩ := hrel
    have HR := Lib.hid hR
    have HT := Lib.hid hT
    have HB := Lib.hid hB
    clear hR hT hB
    cases s with
    | zero =>
      obtain rfl := hi
      go_wp2_with fail
      go_ret2
      exact ⟨ga, gs, rfl, HT.out, HB.out⟩
    | succ u =>
      have hi2 : (((u + 1 : Nat) : Int) - 1) = (u : Int) := by omega
      rw [hi2] at hi
      obtain rfl := hi
      have hul : u < t.length := by omega
      have hulI : (u : Int) < (t.length : Int) := by omega
      have HN := Lib.hid (HRN.out u g hul wr HR.out)
      clear hi2
      go_wp2_with fail
      refine HN.out.mono ?_; rintro e w1 ⟨g', rfl, hR1, hg1, hb1⟩
      have HR1 := Lib.hid hR1
      have HT1 := Lib.hid (HT.out.later hb1).begin
      have HB1 := Lib.hid (HB.out.trans (hb1.mono HB.out.size))
      have hga' : g' ≠ ga := by omega
      have hgs' : g' ≠ gs := by omega
      have h1' : ga < w1.heap.size := Nat.lt_of_lt_of_le h1 hb1.size
      have h2' : gs < w1.heap.size := Nat.lt_of_lt_of_le h2 hb1.size
      clear hR1 hg1 hb1 HN HR HT HB h1 h2
      go_wp2_with fail
      go_loopw [10] (fun kv wr => ∃ k : Nat, k ≤ base.length ∧ kv = .int .i64 (k : Int) ∧ RowD base (t.drop u) wr g' ∧ BestIn base t ga gs u k wr ∧ Below w.heap.size w wr ∧ ga < wr.heap.size ∧ gs < wr.heap.size) (fun kv _ => base.length - (intOf kv).toNat)
      case atStart => exact ⟨0, Nat.zero_le _, rfl, HR1.out, HT1.out, HB1.out, h1', h2'⟩
      clear HR1 HT1 HB1 h1' h2'
      case round =>
        obtain ⟨k, hk, rfl, hR, hT, hB, h1, h2⟩ := hrel
        have HR := Lib.hid hR
        have HT := Lib.hid hT
        have HB := Lib.hid hB
        clear hR hT hB
        by_cases hlt : k < base.length
        · have hltI : (k : Int) < (base.length : Int) := by omega
          have hltJ : (k : Int) < (base.length : Int) + 1 := by omega
          have HRd := Lib.hid (show RowD base (t.drop u) wr.drew g' from HR.out)
          have HTd := Lib.hid HT.out.drew
          have HBd := Lib.hid HB.out.drew
          have c1 := HRd.out.cell hk
          obtain ⟨a0, b0, fa, fb⟩ := HTd.out.cells hul
          have HX := Lib.hid (show Dl.lcp (base.drop k) (t.drop u) = Dl.lcp (base.drop k) (t.drop u) from rfl)
          obtain ⟨X, hX⟩ : ∃ X, X = Dl.lcp (base.drop k) (t.drop u) := ⟨_, rfl⟩
          obtain ⟨F, hF⟩ : ∃ F, F = (Dl.best (fun x => Dl.lcp (base.drop x) (t.drop u)) k).2 := ⟨_, rfl⟩
          rw [← hX] at c1
          rw [← hF] at b0
          have hd1 : ga < wr.drew.heap.size := h1
          have hd2 : gs < wr.drew.heap.size := h2
          by_cases hxf : F < X
          · have dx : decide (F < X) = true := decide_eq_true hxf
            have HXF := Lib.hid (show (Dl.best (fun x => Dl.lcp (base.drop x) (t.drop u)) k).2 < Dl.lcp (base.drop k) (t.drop u) by rw [← hX, ← hF]; exact hxf)
            have HXE := Lib.hid hX
            clear hX hF hxf
            obtain ⟨w1, hw1⟩ : ∃ y, y = wr.drew.setCell ⟨ga, u, none⟩ (.int .i64 (k : Int)) := ⟨_, rfl⟩
            have c1b : w1.cell? ⟨g', k, none⟩ = some (.int .i64 (X : Int)) := by rw [hw1, HXE.out]; exact (HRd.out.far (by exact hga') _).cell hk
            have b0b : w1.cell? ⟨gs, u, none⟩ = some (.int .i64 (F : Int)) := by rw [hw1, ← b0]; exact World.cell?_of_block (Below.heap_setCell _ _ _ _ (by exact hne.symm))
            have fbb : w1.frozen? ⟨gs, u, none⟩ = false := by rw [hw1, ← fb]; exact World.frozen?_of_block (Below.heap_setCell _ _ _ _ (by exact hne.symm))
            have HT1 := Lib.hid (show BestIn base t ga gs u (k + 1) (w1.setCell ⟨gs, u, none⟩ (.int .i64 (X : Int))) by rw [hw1]; exact HTd.out.take hne hul HXF.out (by rw [HXE.out]))
            have HR1 := Lib.hid (show RowD base (t.drop u) (w1.setCell ⟨gs, u, none⟩ (.int .i64 (X : Int))) g' by rw [hw1]; exact (HRd.out.far (by exact hga') _).far (by exact hgs') _)
            have HB1 := Lib.hid (show Below w.heap.size w (w1.setCell ⟨gs, u, none⟩ (.int .i64 (X : Int))) by rw [hw1]; exact (HBd.out.setCell hge _).setCell hge2 _)
            have HZ1 := Lib.hid (show (w1.setCell ⟨gs, u, none⟩ (.int .i64 (X : Int))).heap.size = wr.drew.heap.size by rw [hw1]; simp [World.setCell])
            replace hw1 := hw1.symm
            go_wp2_with fail
            refine still_all (by kernel_rfl) (by kernel_rfl) ?_
            generalize World.drew wr = wd at *
            first | (with_reducible refine wpStill_step (fun K hK => ?_); go_simp; refine hK _ ?_; clear hK K) | (with_reducible refine still_skip ?hw (fun K hK => ?_); (case hw => simp [Region.wanted, yielded, undef]); go_simp; refine hK _ ?_; clear hK K)
            first | (with_reducible refine wpStill_step (fun K hK => ?_); go_simp; refine hK _ ?_; clear hK K) | (with_reducible refine still_skip ?hw (fun K hK => ?_); (case hw => simp [Region.wanted, yielded, undef]); go_simp; refine hK _ ?_; clear hK K)
            first | (with_reducible refine wpStill_step (fun K hK => ?_); go_simp; refine hK _ ?_; clear hK K) | (with_reducible refine still_skip ?hw (fun K hK => ?_); (case hw => simp [Region.wanted, yielded, undef]); go_simp; refine hK _ ?_; clear hK K)
            first | (with_reducible refine wpStill_step (fun K hK => ?_); go_simp; refine hK _ ?_; clear hK K) | (with_reducible refine still_skip ?hw (fun K hK => ?_); (case hw => simp [Region.wanted, yielded, undef]); go_simp; refine hK _ ?_; clear hK K)
            first | (with_reducible refine wpStill_step (fun K hK => ?_); go_simp; refine hK _ ?_; clear hK K) | (with_reducible refine still_skip ?hw (fun K hK => ?_); (case hw => simp [Region.wanted, yielded, undef]); go_simp; refine hK _ ?_; clear hK K)
            first | (with_reducible refine wpStill_step (fun K hK => ?_); go_simp; refine hK _ ?_; clear hK K) | (with_reducible refine still_skip ?hw (fun K hK => ?_); (case hw => simp [Region.wanted, yielded, undef]); go_simp; refine hK _ ?_; clear hK K)
            first | (with_reducible refine wpStill_step (fun K hK => ?_); go_simp; refine hK _ ?_; clear hK K) | (with_reducible refine still_skip ?hw (fun K hK => ?_); (case hw => simp [Region.wanted, yielded, undef]); go_simp; refine hK _ ?_; clear hK K)
            first | (with_reducible refine wpStill_step (fun K hK => ?_); go_simp; refine hK _ ?_; clear hK K) | (with_reducible refine still_skip ?hw (fun K hK => ?_); (case hw => simp [Region.wanted, yielded, undef]); go_simp; refine hK _ ?_; clear hK K)
            first | (with_reducible refine wpStill_step (fun K hK => ?_); go_simp; refine hK _ ?_; clear hK K) | (with_reducible refine still_skip ?hw (fun K hK => ?_); (case hw => simp [Region.wanted, yielded, undef]); go_simp; refine hK _ ?_; clear hK K)
            refine wpStill_nil ?_
            go_wp2_with fail
            go_roundw
            case rel => exact ⟨k + 1, by omega, by go_num, HR1.out, HT1.out, HB1.out, by rw [HZ1.out]; exact hd1, by rw [HZ1.out]; exact hd2⟩
            case measure => simp [intOf]; omega
          · have dx : decide (F < X) = false := decide_eq_false hxf
            have HT1 := Lib.hid (HTd.out.skip (by rw [← hX, ← hF]; exact hxf))
            clear hX hF hxf
            go_wp2_with fail
            refine still_all (by kernel_rfl) (by kernel_rfl) ?_
            generalize World.drew wr = wd at *
            first | (with_reducible refine wpStill_step (fun K hK => ?_); go_simp; refine hK _ ?_; clear hK K) | (with_reducible refine still_skip ?hw (fun K hK => ?_); (case hw => simp [Region.wanted, yielded, undef]); go_simp; refine hK _ ?_; clear hK K)
            first | (with_reducible refine wpStill_step (fun K hK => ?_); go_simp; refine hK _ ?_; clear hK K) | (with_reducible refine still_skip ?hw (fun K hK => ?_); (case hw => simp [Region.wanted, yielded, undef]); go_simp; refine hK _ ?_; clear hK K)
            first | (with_reducible refine wpStill_step (fun K hK => ?_); go_simp; refine hK _ ?_; clear hK K) | (with_reducible refine still_skip ?hw (fun K hK => ?_); (case hw => simp [Region.wanted, yielded, undef]); go_simp; refine hK _ ?_; clear hK K)
            first | (with_reducible refine wpStill_step (fun K hK => ?_); go_simp; refine hK _ ?_; clear hK K) | (with_reducible refine still_skip ?hw (fun K hK => ?_); (case hw => simp [Region.wanted, yielded, undef]); go_simp; refine hK _ ?_; clear hK K)
            first | (with_reducible refine wpStill_step (fun K hK => ?_); go_simp; refine hK _ ?_; clear hK K) | (with_reducible refine still_skip ?hw (fun K hK => ?_); (case hw => simp [Region.wanted, yielded, undef]); go_simp; refine hK _ ?_; clear hK K)
            first | (with_reducible refine wpStill_step (fun K hK => ?_); go_simp; refine hK _ ?_; clear hK K) | (with_reducible refine still_skip ?hw (fun K hK => ?_); (case hw => simp [Region.wanted, yielded, undef]); go_simp; refine hK _ ?_; clear hK K)
            first | (with_reducible refine wpStill_step (fun K hK => ?_); go_simp; refine hK _ ?_; clear hK K) | (with_reducible refine still_skip ?hw (fun K hK => ?_); (case hw => simp [Region.wanted, yielded, undef]); go_simp; refine hK _ ?_; clear hK K)
            first | (with_reducible refine wpStill_step (fun K hK => ?_); go_simp; refine hK _ ?_; clear hK K) | (with_reducible refine still_skip ?hw (fun K hK => ?_); (case hw => simp [Region.wanted, yielded, undef]); go_simp; refine hK _ ?_; clear hK K)
            first | (with_reducible refine wpStill_step (fun K hK => ?_); go_simp; refine hK _ ?_; clear hK K) | (with_reducible refine still_skip ?hw (fun K hK => ?_); (case hw => simp [Region.wanted, yielded, undef]); go_simp; refine hK _ ?_; clear hK K)
            refine wpStill_nil ?_
            go_wp2_with fail
            go_roundw
            case rel => exact ⟨k + 1, by omega, by go_num, HRd.out, HT1.out, HBd.out, hd1, hd2⟩
            case measure => simp [intOf]; omega
        · have hltI : ¬ (k : Int) < (base.length : Int) := by omega
          obtain rfl : k = base.length := by omega
          go_wp2_with fail
          go_roundw
          case rel => exact ⟨u, g', by omega, rfl, by go_num, HR.out, HT.out.done, HB.out, h1, h2⟩
          case measure => simp [intOf]
end Go.Proofs.Ytemcfmneokbhkaa

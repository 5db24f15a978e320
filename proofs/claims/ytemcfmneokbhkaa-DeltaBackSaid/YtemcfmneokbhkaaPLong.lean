/- The program's longestMatches. -/
import Derived.Test.YtemcfmneokbhkaaPPlac
namespace Go.Proofs.Ytemcfmneokbhkaa
open Go Go.RowKit

/-- The j-th place, or the end. -/
def nxp (base : List UInt8) (c j : Nat) : Nat := ((plc base base.length c)[j]?).getD base.length
theorem plc_mem {base : List UInt8} {c k : Nat} : k ∈ plc base base.length c ↔ k < base.length ∧ (base.getD k 0).toNat = c := by
  unfold plc
  rw [List.mem_filter, List.mem_range, beq_iff_eq]
theorem plc_up (base : List UInt8) (c : Nat) : (plc base base.length c).Pairwise (· < ·) := List.Pairwise.filter _ List.pairwise_lt_range
theorem plc_lt {base : List UInt8} {c i j a b : Nat} (hij : i < j) (ha : (plc base base.length c)[i]? = some a) (hb : (plc base base.length c)[j]? = some b) : a < b := by
  obtain ⟨hi, rfl⟩ := List.getElem?_eq_some_iff.1 ha
  obtain ⟨hj, rfl⟩ := List.getElem?_eq_some_iff.1 hb
  exact (List.pairwise_iff_getElem.1 (plc_up base c)) i j hi hj hij
theorem nxp_le (base : List UInt8) (c j : Nat) : nxp base c j ≤ base.length := by
  unfold nxp
  cases h : (plc base base.length c)[j]? with
  | none => exact Nat.le_refl _
  | some a => exact Nat.le_of_lt (plc_mem.1 (List.mem_of_getElem? h)).1
theorem nxp_end {base : List UInt8} {c j : Nat} (h : (plc base base.length c).length ≤ j) : nxp base c j = base.length := by
  unfold nxp
  rw [List.getElem?_eq_none h]; rfl
theorem nxp_at {base : List UInt8} {c j : Nat} (h : j < (plc base base.length c).length) : (plc base base.length c)[j]? = some (nxp base c j) ∧ nxp base c j < base.length ∧ (base.getD (nxp base c j) 0).toNat = c := by
  have h1 : (plc base base.length c)[j]? = some (nxp base c j) := by unfold nxp; rw [List.getElem?_eq_getElem h]; rfl
  exact ⟨h1, plc_mem.1 (List.mem_of_getElem? h1)⟩
theorem nxp_up {base : List UInt8} {c j : Nat} (h : j < (plc base base.length c).length) : nxp base c j + 1 ≤ nxp base c (j + 1) := by
  obtain ⟨h1, h2, -⟩ := nxp_at h
  by_cases h3 : j + 1 < (plc base base.length c).length
  · have := plc_lt (Nat.lt_succ_self j) h1 (nxp_at h3).1
    omega
  · rw [nxp_end (base := base) (c := c) (j := j + 1) (by omega)]; omega
theorem nxp_gap0 {base : List UInt8} {c k : Nat} (hk : k < nxp base c 0) : (base.getD k 0).toNat ≠ c := fun e => by
  have hm : k ∈ plc base base.length c := plc_mem.2 ⟨Nat.lt_of_lt_of_le hk (nxp_le _ _ _), e⟩
  obtain ⟨m, h3⟩ := List.getElem?_of_mem hm
  have hl := (List.getElem?_eq_some_iff.1 h3).1
  obtain ⟨h4, -⟩ := nxp_at (base := base) (c := c) (j := 0) (by omega)
  rcases Nat.eq_zero_or_pos m with h5 | h5
  · subst h5; rw [h3] at h4; have := Option.some.inj h4; omega
  · have := plc_lt h5 h4 h3; omega
theorem nxp_gap {base : List UInt8} {c j k : Nat} (h : j < (plc base base.length c).length) (h1 : nxp base c j < k) (h2 : k < nxp base c (j + 1)) : (base.getD k 0).toNat ≠ c := fun e => by
  have hm : k ∈ plc base base.length c := plc_mem.2 ⟨Nat.lt_of_lt_of_le h2 (nxp_le _ _ _), e⟩
  obtain ⟨m, h3⟩ := List.getElem?_of_mem hm
  have hl := (List.getElem?_eq_some_iff.1 h3).1
  obtain ⟨h4, -⟩ := nxp_at h
  rcases Nat.lt_trichotomy m j with h5 | h5 | h5
  · have := plc_lt h5 h3 h4; omega
  · subst h5; rw [h3] at h4; have := Option.some.inj h4; omega
  · obtain ⟨h6, -⟩ := nxp_at (base := base) (c := c) (j := j + 1) (by omega)
    rcases Nat.eq_or_lt_of_le (show j + 1 ≤ m by omega) with h7 | h7
    · subst h7; rw [h3] at h6; have := Option.some.inj h6; omega
    · have := plc_lt h7 h6 h3; omega

theorem infoMat : (Try.prog.info? 57).map (fun i => (i.zero, i.size, i.bytes)) = some (some (.agg #[.int .i64 0, .int .i64 0]), 2, 16) := by kernel_rfl
theorem make_mat (n : Nat) (hn : n ≤ 4096) (w : World) : (Instr.makeSlice 39 (.int .i64 (n : Int)) (.int .i64 (n : Int))).run Try.prog w = .ok (.slice (some ⟨w.heap.size, 0, none⟩) n n) (w.alloc (.cells (madeCells #[.int .i64 0, .int .i64 0] (n * 2)) 57)) := by
  obtain ⟨i, hi, hz0, hz1, hz2⟩ := info_parts infoMat
  have h := run_make (P := Try.prog) w 39 57 i _ Try.underlying39 hi hz0 .i64 .i64 (n : Int) (n : Int) (by omega) (Int.le_refl _) (by rw [hz2]; omega) (by omega)
  simp only [Int.toNat_natCast, hz1] at h
  exact h
theorem made2_at (n k : Nat) (hk : k < n) : (madeCells #[Value.int .i64 0, .int .i64 0] n)[k]? = some (.int .i64 0) := by
  unfold madeCells
  have h : k % 2 = 0 ∨ k % 2 = 1 := by omega
  rcases h with h | h <;> simp [hk, h]

/-- 'clear' of a row that is known whole. -/
theorem run_clear_blk (w : World) (g n c : Nat) (ch : Array Value) (ty : TypeId) (hg : Blk w g 3 ch) (hn : 0 < n) (hs : ch.size = n) :
    (Builtin.clear_ #[43] ty #[.slice (some ⟨g, 0, none⟩) n c]).run Try.prog w = .ok (.tuple #[]) (w.setRow g (madeCells #[.int .i64 0] n)) := by
  have hzc : (Builtin.zeroCells #[Value.int .i64 0] n).toList = List.replicate n (.int .i64 0) := by
    simp [Builtin.zeroCells]
    apply List.ext_getElem
    · simp
    · intro i h1 h2
      simp [Nat.mod_one]
  have hz := (zero_of_info (P := Try.prog) (t := 3) (v := .int .i64 0) (n := 1) (by kernel_rfl)).1
  have hst := run_storeCells_at (P := Try.prog) g 0 3 (List.replicate n (Value.int .i64 0)) 0 ch w hg (by simp; omega) (by intro v hv; rw [List.eq_of_mem_replicate hv]; rfl)
  have he : (ch.toList.take (0 + 0) ++ List.replicate n (Value.int .i64 0) ++ ch.toList.drop (0 + 0 + (List.replicate n (Value.int .i64 0)).length)).toArray = madeCells #[.int .i64 0] n := by
    apply Array.ext'
    rw [toList_madeCells_one, List.drop_eq_nil_of_le (by simp; omega)]
    simp
  rw [he] at hst
  obtain ⟨m, rfl⟩ : ∃ m, n = m + 1 := ⟨n - 1, by omega⟩
  have hzv : (Value.int .i64 0).cells = #[Value.int .i64 0] := rfl
  simp [Builtin.clear_, run_underlying Try.underlying43, hz, hzv, hzc, hst]

theorem best_jump {f : Nat → Nat} {a : Nat} : ∀ d : Nat, (∀ k, a ≤ k → k < a + d → f k = 0) → Dl.best f (a + d) = Dl.best f a
  | 0, _ => rfl
  | d + 1, h => by
    rw [show a + (d + 1) = (a + d) + 1 by omega, Dl.best, if_neg (by rw [h (a + d) (by omega) (by omega)]; exact Nat.not_lt_zero _)]
    exact best_jump d (fun k h1 h2 => h k h1 (by omega))
theorem row_jump {base T : List UInt8} {w : World} {g a : Nat} : ∀ d : Nat, RowTo base T a w g → (∀ k, a ≤ k → k < a + d → Dl.lcp (base.drop k) T = 0) → RowTo base T (a + d) w g
  | 0, h, _ => h
  | d + 1, h, hz => (row_jump d h (fun k h1 h2 => hz k h1 (by omega))).skip (hz (a + d) (by omega) (by omega))
theorem RowTo.later {base T : List UInt8} {k g : Nat} {w w' : World} (h : RowTo base T k w g) (hb : Below w.heap.size w w') : RowTo base T k w' g := by
  obtain ⟨cs, k1, k2⟩ := h
  exact ⟨cs, k1.later hb, k2⟩
theorem RowTo.far {base T : List UInt8} {k g : Nat} {w : World} (h : RowTo base T k w g) {p : Addr} (hp : g ≠ p.block) (x : Value) : RowTo base T k (w.setCell p x) g := by
  obtain ⟨cs, k1, k2⟩ := h
  exact ⟨cs, k1.far hp x, k2⟩
theorem RowTo.zeros {base T : List UInt8} {w : World} {g : Nat} (h : Blk w g 3 (madeCells #[.int .i64 0] (base.length + 1))) : RowTo base T 0 w g :=
  ⟨_, h, made_size _ _, fun j h => absurd h (Nat.not_lt_zero _), fun j _ h => made_at _ _ _ (by omega)⟩
theorem RowD.zeros {base : List UInt8} {w : World} {g : Nat} (h : Blk w g 3 (madeCells #[.int .i64 0] (base.length + 1))) : RowD base [] w g :=
  ⟨_, h, made_size _ _, fun j h => by rw [Dl.lcp_nil]; exact made_at _ _ _ (by omega)⟩

/-- The matches told, from place s of the target on, noughts ahead of it. -/
def MatTo (base t : List UInt8) (M s : Nat) (w : World) : Prop :=
  ∃ cs, Blk w M 57 cs ∧ cs.size = t.length * 2 ∧ ∀ j, j < t.length → (s ≤ j → cs[j * 2]? = some (.int .i64 ((Dl.bestOf base (t.drop j)).1 : Int)) ∧ cs[j * 2 + 1]? = some (.int .i64 ((Dl.bestOf base (t.drop j)).2 : Int))) ∧ (j < s → cs[j * 2]? = some (.int .i64 0) ∧ cs[j * 2 + 1]? = some (.int .i64 0))
/-- .. and for place u the best of the first k of the base. -/
def MatIn (base t : List UInt8) (M u k : Nat) (w : World) : Prop :=
  ∃ cs, Blk w M 57 cs ∧ cs.size = t.length * 2 ∧ ∀ j, j < t.length → (u < j → cs[j * 2]? = some (.int .i64 ((Dl.bestOf base (t.drop j)).1 : Int)) ∧ cs[j * 2 + 1]? = some (.int .i64 ((Dl.bestOf base (t.drop j)).2 : Int))) ∧
    (j = u → cs[j * 2]? = some (.int .i64 ((Dl.best (fun x => Dl.lcp (base.drop x) (t.drop u)) k).1 : Int)) ∧ cs[j * 2 + 1]? = some (.int .i64 ((Dl.best (fun x => Dl.lcp (base.drop x) (t.drop u)) k).2 : Int))) ∧ (j < u → cs[j * 2]? = some (.int .i64 0) ∧ cs[j * 2 + 1]? = some (.int .i64 0))
section
variable {base t : List UInt8} {M u k s : Nat} {w w' : World}
theorem MatTo.begin (h : MatTo base t M (u + 1) w) : MatIn base t M u 0 w := by
  obtain ⟨cs, h1, h2, h3⟩ := h
  refine ⟨cs, h1, h2, fun j hj => ⟨fun h => (h3 j hj).1 (by omega), fun h => ?_, fun h => (h3 j hj).2 (by omega)⟩⟩
  exact (h3 j hj).2 (by omega)
theorem MatIn.done (h : MatIn base t M u base.length w) : MatTo base t M u w := by
  obtain ⟨cs, h1, h2, h3⟩ := h
  refine ⟨cs, h1, h2, fun j hj => ⟨fun h => ?_, fun h => (h3 j hj).2.2 h⟩⟩
  by_cases hji : j = u
  · subst hji; exact (h3 j hj).2.1 rfl
  · exact (h3 j hj).1 (by omega)
theorem MatTo.whole (h : MatTo base t M 0 w) : Mats base t M w := by
  obtain ⟨cs, h1, h2, h3⟩ := h
  exact ⟨cs, h1, h2, fun j hj => (h3 j hj).1 (Nat.zero_le _)⟩
theorem MatTo.zeros (h : Blk w M 57 (madeCells #[.int .i64 0, .int .i64 0] (t.length * 2))) : MatTo base t M t.length w :=
  ⟨_, h, size_madeCells _ _, fun j hj => ⟨fun h => absurd h (by omega), fun _ => ⟨made2_at _ _ (by omega), made2_at _ _ (by omega)⟩⟩⟩
theorem MatTo.later (h : MatTo base t M s w) (hb : Below w.heap.size w w') : MatTo base t M s w' := by
  obtain ⟨cs, h1, h2⟩ := h
  exact ⟨cs, h1.later hb, h2⟩
theorem MatTo.farRow {g : Nat} (h : MatTo base t M s w) (hg : M ≠ g) (cs' : Array Value) : MatTo base t M s (w.setRow g cs') := by
  obtain ⟨cs, h1, h2⟩ := h
  exact ⟨cs, h1.farRow hg cs', h2⟩
theorem MatIn.far (h : MatIn base t M u k w) {p : Addr} (hp : M ≠ p.block) (x : Value) : MatIn base t M u k (w.setCell p x) := by
  obtain ⟨cs, h1, h2⟩ := h
  exact ⟨cs, h1.far hp x, h2⟩
theorem MatIn.cells (h : MatIn base t M u k w) (hu : u < t.length) : ∃ x, w.cell? ⟨M, u * 2, none⟩ = some (.int .i64 (x : Int)) ∧ w.cell? ⟨M, u * 2 + 1, none⟩ = some (.int .i64 ((Dl.best (fun x => Dl.lcp (base.drop x) (t.drop u)) k).2 : Int)) ∧ w.frozen? ⟨M, u * 2, none⟩ = false ∧ w.frozen? ⟨M, u * 2 + 1, none⟩ = false := by
  obtain ⟨cs, h1, h2, h3⟩ := h
  exact ⟨_, by rw [h1.cell, ((h3 u hu).2.1 rfl).1], by rw [h1.cell, ((h3 u hu).2.1 rfl).2], h1.frozen _, h1.frozen _⟩
theorem MatIn.skip (h : MatIn base t M u k w) (hx : ¬ (Dl.best (fun x => Dl.lcp (base.drop x) (t.drop u)) k).2 < Dl.lcp (base.drop k) (t.drop u)) : MatIn base t M u (k + 1) w := by
  obtain ⟨cs, h1, h2, h3⟩ := h
  refine ⟨cs, h1, h2, fun j hj => ⟨(h3 j hj).1, fun h => ?_, (h3 j hj).2.2⟩⟩
  rw [Dl.best, if_neg hx]
  exact (h3 j hj).2.1 h
theorem MatIn.jump (h : MatIn base t M u k w) (d : Nat) (hz : ∀ x, k ≤ x → x < k + d → Dl.lcp (base.drop x) (t.drop u) = 0) : MatIn base t M u (k + d) w := by
  obtain ⟨cs, h1, h2, h3⟩ := h
  refine ⟨cs, h1, h2, fun j hj => ⟨(h3 j hj).1, fun h => ?_, (h3 j hj).2.2⟩⟩
  rw [best_jump d hz]
  exact (h3 j hj).2.1 h
theorem MatIn.take (h : MatIn base t M u k w) (hu : u < t.length) {x : Int} (hx : (Dl.best (fun x => Dl.lcp (base.drop x) (t.drop u)) k).2 < Dl.lcp (base.drop k) (t.drop u)) (hxe : x = (Dl.lcp (base.drop k) (t.drop u) : Int)) :
    MatIn base t M u (k + 1) ((w.setCell ⟨M, u * 2, none⟩ (.int .i64 (k : Int))).setCell ⟨M, u * 2 + 1, none⟩ (.int .i64 x)) := by
  obtain ⟨cs, h1, h2, h3⟩ := h
  refine ⟨_, (h1.set_ (u * 2) _).set_ (u * 2 + 1) _, by simpa using h2, fun j hj => ⟨fun h => ?_, fun h => ?_, fun h => ?_⟩⟩
  · rw [Array.getElem?_setIfInBounds, if_neg (by omega), Array.getElem?_setIfInBounds, if_neg (by omega), Array.getElem?_setIfInBounds, if_neg (by omega), Array.getElem?_setIfInBounds, if_neg (by omega)]
    exact (h3 j hj).1 h
  · subst h
    rw [Array.getElem?_setIfInBounds, if_neg (by omega), Array.getElem?_setIfInBounds, if_pos rfl, if_pos (by omega), Array.getElem?_setIfInBounds, if_pos rfl, if_pos (by rw [Array.size_setIfInBounds]; omega), Dl.best, if_pos hx, hxe]
    exact ⟨rfl, rfl⟩
  · rw [Array.getElem?_setIfInBounds, if_neg (by omega), Array.getElem?_setIfInBounds, if_neg (by omega), Array.getElem?_setIfInBounds, if_neg (by omega), Array.getElem?_setIfInBounds, if_neg (by omega)]
    exact (h3 j hj).2.2 h
end

/-- Four blocks, from N on, apart. -/
structure Four (N a b M P : Nat) : Prop where
  ha : N ≤ a
  hb : N ≤ b
  hM : N ≤ M
  ab : a ≠ b
  aM : a ≠ M
  bM : b ≠ M
  aP : a ≠ P
  bP : b ≠ P
  MP : M ≠ P
theorem Four.swap {N a b M P : Nat} (h : Four N a b M P) : Four N b a M P := ⟨h.hb, h.ha, h.hM, h.ab.symm, h.bM, h.aM, h.bP, h.aP, h.MP⟩
/-- What stands in the outer loop: row a is free, row b is that of place s. -/
structure LoG (base t : List UInt8) (cs : Array Value) (w1 : World) (a b M P s : Nat) (wr : World) : Prop where
  four : Four w1.heap.size a b M P
  hh : ∃ ch, Blk wr a 3 ch ∧ ch.size = base.length + 1
  hb : RowD base (t.drop s) wr b
  hM : MatTo base t M s wr
  hP : Blk wr P 58 cs
  hB : Below w1.heap.size w1 wr
/-- .. in the inner one. -/
structure LiG (base t : List UInt8) (cs : Array Value) (w1 : World) (a b M P u k : Nat) (wr : World) : Prop where
  hh : RowTo base (t.drop u) k wr a
  hb : RowD base (t.drop (u + 1)) wr b
  hM : MatIn base t M u k wr
  hP : Blk wr P 58 cs
  hB : Below w1.heap.size w1 wr
theorem LoG.clear {base t : List UInt8} {cs : Array Value} {w1 wr : World} {a b M P u : Nat} (h : LoG base t cs w1 a b M P (u + 1) wr) : LiG base t cs w1 a b M P u 0 (wr.setRow a (madeCells #[.int .i64 0] (base.length + 1))) := by
  obtain ⟨ch, h1, h2⟩ := h.hh
  obtain ⟨cb, h3, h4⟩ := h.hb
  exact ⟨RowTo.zeros (h1.row _), ⟨cb, h3.farRow h.four.ab.symm _, h4⟩, (h.hM.farRow h.four.aM.symm _).begin, h.hP.farRow h.four.aP.symm _, below_row h.hB h.four.ha _⟩
theorem LiG.jump {base t : List UInt8} {cs : Array Value} {w1 wr : World} {a b M P u k : Nat} (h : LiG base t cs w1 a b M P u k wr) {k' : Nat} (hk : k ≤ k') (hz : ∀ x, k ≤ x → x < k' → Dl.lcp (base.drop x) (t.drop u) = 0) : LiG base t cs w1 a b M P u k' wr := by
  obtain ⟨d, rfl⟩ : ∃ d, k' = k + d := ⟨k' - k, by omega⟩
  exact ⟨row_jump d h.hh hz, h.hb, h.hM.jump d hz, h.hP, h.hB⟩
theorem LiG.done {base t : List UInt8} {cs : Array Value} {w1 wr : World} {a b M P u : Nat} (hf : Four w1.heap.size a b M P) (h : LiG base t cs w1 a b M P u base.length wr) : LoG base t cs w1 b a M P u wr := by
  obtain ⟨cb, h3, h4, -⟩ := h.hb
  exact ⟨hf.swap, ⟨cb, h3, h4⟩, h.hh.done, h.hM.done, h.hP, h.hB⟩
theorem LiG.put {base t : List UInt8} {cs : Array Value} {w1 wr : World} {a b M P u k : Nat} (hf : Four w1.heap.size a b M P) (h : LiG base t cs w1 a b M P u k wr) (hk : k ≤ base.length) {x : Int} (hx : x = (Dl.lcp (base.drop k) (t.drop u) : Int)) :
    RowTo base (t.drop u) (k + 1) (wr.setCell ⟨a, k, none⟩ (.int .i64 x)) a ∧ RowD base (t.drop (u + 1)) (wr.setCell ⟨a, k, none⟩ (.int .i64 x)) b ∧ MatIn base t M u k (wr.setCell ⟨a, k, none⟩ (.int .i64 x)) ∧ Blk (wr.setCell ⟨a, k, none⟩ (.int .i64 x)) P 58 cs ∧ Below w1.heap.size w1 (wr.setCell ⟨a, k, none⟩ (.int .i64 x)) :=
  ⟨h.hh.set hk hx, h.hb.far (by exact hf.ab.symm) _, h.hM.far (by exact hf.aM.symm) _, h.hP.far (by exact hf.aP.symm) _, h.hB.setCell hf.ha _⟩
theorem lcp_nx {base t : List UInt8} {u k c : Nat} (hk : k < base.length) (hu : u < t.length) (hc : t[u].toNat = c) : ((base.getD k 0).toNat = c → Dl.lcp (base.drop k) (t.drop u) = Dl.lcp (base.drop (k + 1)) (t.drop (u + 1)) + 1) ∧ ((base.getD k 0).toNat ≠ c → Dl.lcp (base.drop k) (t.drop u) = 0) := by
  rw [List.getD_eq_getElem?_getD, List.getElem?_eq_getElem hk, Option.getD_some, ← hc]
  exact ⟨fun h => lcp_same hk hu (UInt8.toNat_inj.1 h), fun h => lcp_unlike hk hu (fun e => h (by rw [e]))⟩

set_option maxRecDepth 100000 in
set_option maxHeartbeats 16000000 in
theorem longest_any (base t : List UInt8) (A1 A2 : Option Addr) (c1 c2 : Nat) (w : World) (h1 : Rd w w.heap.size A1 base.length (bv base)) (h2 : Rd w w.heap.size A2 t.length (bv t)) (hc1 : base.length ≤ c1 ∧ c1 ≤ 9223372036854775807) (hc2 : t.length ≤ c2 ∧ c2 ≤ 9223372036854775807) (hb : base.length ≤ 4096) (ht : t.length ≤ 4096) :
    Calls Try.prog 19 #[.slice A1 base.length c1, .slice A2 t.length c2] w fun e w' => ∃ M, e = .returned (.slice (some ⟨M, 0, none⟩) t.length t.length) ∧ Mats base t M w' ∧ w.heap.size ≤ M ∧ Below w.heap.size w w' := by
  have HP := Lib.hid (places_any base A1 c1 w h1 hc1 hb)
  have H2 := Lib.hid h2
  have HC2 := Lib.hid hc2
  clear h1 h2 hc1 hc2
  go_enter Try.func19, Try.ntmps19
  go_wp2_with fail
  refine HP.out.mono ?_; rintro e w1 ⟨cs, rfl, hp, hb1⟩
  have hzp := zeroPl w1
  obtain ⟨wa, hwa⟩ : ∃ y, y = (w1.alloc (.cells NP 58)).setRow w1.heap.size cs := ⟨_, rfl⟩
  have hPB : Blk wa w1.heap.size 58 cs := by rw [hwa]; exact (Blk.new w1 _ _).row cs
  have hsa : wa.heap.size = w1.heap.size + 1 := by rw [hwa, size_setRow]; simp
  have hBa : Below w1.heap.size w1 wa := by rw [hwa]; exact below_row (below_alloc w1 _) (Nat.le_refl _) _
  have hmk := make_mat t.length ht
  obtain ⟨wb, hwb⟩ : ∃ y, y = wa.alloc (.cells (madeCells #[.int .i64 0, .int .i64 0] (t.length * 2)) 57) := ⟨_, rfl⟩
  have hM : Blk wb (w1.heap.size + 1) 57 (madeCells #[.int .i64 0, .int .i64 0] (t.length * 2)) := by rw [hwb, ← hsa]; exact Blk.new wa _ _
  have hsb : wb.heap.size = w1.heap.size + 2 := by rw [hwb]; simp [hsa]
  have hBb : Below wa.heap.size wa wb := by rw [hwb]; exact below_alloc wa _
  obtain ⟨wc, hwc⟩ : ∃ y, y = wb.alloc (.cells (madeCells #[.int .i64 0] (base.length + 1)) 3) := ⟨_, rfl⟩
  obtain ⟨wd, hwd⟩ : ∃ y, y = (wc.alloc (.cells (madeCells #[.int .i64 0] (base.length + 1)) 3)).drew := ⟨_, rfl⟩
  have hsc : wc.heap.size = w1.heap.size + 3 := by rw [hwc]; simp [hsb]
  have hBc : Below wb.heap.size wb wc := by rw [hwc]; exact below_alloc wb _
  have hBd : Below wc.heap.size wc wd := by rw [hwd]; exact (below_alloc wc _).drew
  have hI1 : Blk wd (w1.heap.size + 2) 3 (madeCells #[.int .i64 0] (base.length + 1)) := by
    refine Blk.later ?_ hBd
    rw [hwc, ← hsb]; exact Blk.new wb _ _
  have hI2 : Blk wd (w1.heap.size + 2 + 1) 3 (madeCells #[.int .i64 0] (base.length + 1)) := by
    rw [hwd, show w1.heap.size + 2 + 1 = wc.heap.size by omega]; exact (Blk.new wc _ _).drew
  have hBbd := hBc.trans (hBd.mono hBc.size)
  have HPB := Lib.hid ((hPB.later hBb).later hBbd)
  have HBd := Lib.hid ((hBa.trans (hBb.mono hBa.size)).trans (hBbd.mono (by omega)))
  have HPL := Lib.hid hp
  have HM := Lib.hid (hM.later hBbd)
  have HB1 := Lib.hid hb1
  have HI1 := Lib.hid hI1
  have HI2 := Lib.hid hI2
  have HWD := Lib.hid hwd
  have HWC := Lib.hid hwc
  replace hwa := hwa.symm
  replace hwb := hwb.symm
  clear hPB hBa hM hBb hb1 hp hwc hwd hBc hBd hBbd hsc hI1 hI2
  go_wp2_with (refine at_sto 58 (.tmp 5) (.tmp 14) rfl ?_; go_must (refine wpList_store_row rfl 58 (.tmp 5) (.tmp 14) rfl w1.heap.size cs rfl rfl _ NP (Blk.new w1 _ _) (by rw [HPL.out.1]; exact infoPl) (by rw [HPL.out.1, NP_size]) HPL.out.2.1 ?_))
  have hmk1 := make_ints1 base.length hb
  have HNE : Four w1.heap.size (w1.heap.size + 2) (w1.heap.size + 2 + 1) (w1.heap.size + 1) w1.heap.size := ⟨by omega, by omega, by omega, by omega, by omega, by omega, by omega, by omega, by omega⟩
  have HF := Lib.hid HNE
  clear hmk hwa hwb HNE hzp
  go_region
  · have hwd := HWD.out
    rw [HWC.out] at hwd
    rw [← hwd]
    clear hwd hmk1 hsb hsa
    have HS0 := Lib.hid (show LoG base t cs w1 (w1.heap.size + 2) (w1.heap.size + 2 + 1) (w1.heap.size + 1) w1.heap.size t.length wd from ⟨HF.out, ⟨_, HI1.out, made_size _ _⟩, by rw [List.drop_length]; exact RowD.zeros HI2.out, MatTo.zeros HM.out, HPB.out, HBd.out⟩)
    clear HI1 HI2 HM HPB HBd HF HWD HWC
    obtain ⟨a0, ha0⟩ : ∃ a, a = (w1.heap.size + 2) := ⟨_, rfl⟩
    obtain ⟨b0, hb0⟩ : ∃ a, a = (w1.heap.size + 2 + 1) := ⟨_, rfl⟩
    obtain ⟨M, hM⟩ : ∃ a, a = w1.heap.size + 1 := ⟨_, rfl⟩
    rw [← hb0, ← ha0, ← hM] at HS0 ⊢
    clear ha0 hb0 hM
    go_wp2_with fail
    go_loopw [7, 8, 9] (fun av bv' kv wr => ∃ (s a b : Nat), s ≤ t.length ∧ av = .slice (some ⟨a, 0, none⟩) (base.length + 1) (base.length + 1) ∧ bv' = .slice (some ⟨b, 0, none⟩) (base.length + 1) (base.length + 1) ∧ kv = .int .i64 ((s : Int) - 1) ∧ LoG base t cs w1 a b M w1.heap.size s wr) (fun _ _ kv _ => (intOf kv + 1).toNat)
    case atStart => exact ⟨t.length, a0, b0, Nat.le_refl _, rfl, rfl, rfl, HS0.out⟩
    clear HS0
    case round =>
      obtain ⟨s, a, b, hs, rfl, rfl, rfl, hL⟩ := hrel
      have HL := Lib.hid hL
      clear hL
      rcases s with _ | u
      · have hMW := HL.out.four.hM
        have hM0 := HL.out.hM.whole
        have hBr := HL.out.hB
        have HBW := Lib.hid (HB1.out.trans (hBr.mono HB1.out.size))
        have HMW := Lib.hid (Nat.le_trans HB1.out.size hMW)
        have HM0 := Lib.hid hM0
        clear hMW hM0 hBr
        have hg0 : decide ((0 : Int) ≤ ((0 : Nat) : Int) - 1) = false := rfl
        go_wp2_with fail
        go_ret
        exact ⟨M, rfl, HM0.out, HMW.out, HBW.out⟩
      · have hu : u < t.length := by omega
        have huI : (u : Int) < (t.length : Int) := by omega
        have hw0 : ((u + 1 : Nat) : Int) - 1 = (u : Int) := by omega
        rw [hw0]
        have hg0 : decide ((0 : Int) ≤ (u : Int)) = true := decide_eq_true (by omega)
        have hw1 : IntKind.i64.wrap ((u : Int) - 1) = (u : Int) - 1 := IntWalk.i64_in _ (by omega)
        obtain ⟨ch, hch, hcs⟩ := HL.out.hh
        have hcl := fun ty => run_clear_blk wr a (base.length + 1) (base.length + 1) ch ty hch (Nat.succ_pos _) hcs
        have hLc := HL.out.clear
        obtain ⟨wk, hwk⟩ : ∃ y, y = wr.setRow a (madeCells #[.int .i64 0] (base.length + 1)) := ⟨_, rfl⟩
        rw [← hwk] at hLc
        obtain ⟨ad, x, hA, hx, hcell⟩ := (H2.out.below (HB1.out.trans (hLc.hB.mono HB1.out.size))).byteAt hu
        subst hA
        have hbx : t[u].toNat = x.toNat := by
          have h := List.drop_eq_getElem_cons hu
          rw [hx] at h
          exact congrArg UInt8.toNat (List.cons.inj h).1.symm
        have hx256 : x.toNat < 256 := UInt8.toNat_lt x
        obtain ⟨c, hc⟩ : ∃ n, n = x.toNat := ⟨_, rfl⟩
        rw [← hc] at hbx hx256 hcell
        have HX := Lib.hid hbx
        have hx256I : (c : Int) < 256 := by omega
        obtain ⟨Ax, kx, hax, hrx⟩ := HPL.out.2.2 c hx256
        have cP : wk.cell? ⟨w1.heap.size, c, none⟩ = some (.slice Ax (plc base base.length c).length kx) := by rw [hLc.hP.cell, hax]
        have hgapz := Lib.hid (hLc.jump (k' := nxp base c 0) (Nat.zero_le _) (fun y _ hy => (lcp_nx (Nat.lt_of_lt_of_le hy (nxp_le _ _ _)) hu hbx).2 (nxp_gap0 hy)))
        have HRX := Lib.hid (hrx.more (Nat.le_refl _))
        have HPC := Lib.hid (plc_len base base.length c)
        have HFO := Lib.hid HL.out.four
        replace hwk := hwk.symm
        clear hch hcs hLc hx hbx hc hax hrx
        obtain ⟨L, hLl⟩ : ∃ L, L = (plc base base.length c).length := ⟨_, rfl⟩
        have HLL := Lib.hid hLl
        rw [← hLl] at cP HRX HPC
        have hLb : L ≤ 4096 := by have := HPC.out; omega
        clear hLl
        go_wp2_with fail
        go_loopw [41] (fun jv wr => ∃ j : Nat, j ≤ L ∧ jv = .int .i64 (j : Int) ∧ LiG base t cs w1 a b M w1.heap.size u (nxp base c j) wr) (fun jv _ => L - (intOf jv).toNat)
        case atStart => exact ⟨0, Nat.zero_le _, rfl, hgapz.out⟩
        clear hgapz cP hcl hwk hcell
        case round =>
          obtain ⟨j, hj, rfl, hI⟩ := hrel
          have HI := Lib.hid hI
          clear hI
          by_cases hjl : j < L
          · have hjlI : (j : Int) < (L : Int) := by omega
            have hjl2 : j < (plc base base.length c).length := by rw [← HLL.out]; exact hjl
            obtain ⟨hat, hpb, hpc⟩ := nxp_at hjl2
            have HUP := Lib.hid (nxp_up hjl2)
            have HGP := Lib.hid (fun k => nxp_gap (k := k) hjl2)
            have HNL := Lib.hid (nxp_le base c (j + 1))
            obtain ⟨p', hp'⟩ : ∃ p', p' = nxp base c (j + 1) := ⟨_, rfl⟩
            rw [← hp'] at HUP HGP HNL
            obtain ⟨p, hp⟩ : ∃ p, p = nxp base c j := ⟨_, rfl⟩
            rw [← hp] at hat hpb hpc HI HUP HGP
            obtain ⟨adx, hAx, -, hcx⟩ := HRX.out.2 (by omega)
            have cx : ∀ wq, Below w1.heap.size w1 wq → wq.cell? (adx.add j) = some (.int .i64 (p : Int)) := fun wq hq => by
              obtain ⟨ad', u', hA', hlt, hu', hc'⟩ := HRX.out.spot hjl
              rw [hAx] at hA'
              cases hA'
              rw [hq.cell (by rw [block_add]; exact hlt), hc']
              unfold iv at hu'
              rw [List.getElem?_map, hat] at hu'
              exact congrArg some (Option.some.inj hu').symm
            subst hAx
            have cx1 := cx _ HI.out.hB
            have hpI : (p : Int) < (base.length : Int) := by omega
            have hlx := (lcp_nx hpb hu HX.out).1 hpc
            have cb := HI.out.hb.cell (k := p + 1) (by omega)
            have hl1 := Dl.lcp_le_left (base.drop (p + 1)) (t.drop (u + 1))
            rw [List.length_drop] at hl1
            have hput := HI.out.put HFO.out (Nat.le_of_lt hpb) (x := ((Dl.lcp (base.drop (p + 1)) (t.drop (u + 1)) + 1 : Nat) : Int)) (by rw [hlx])
            obtain ⟨c0, f0⟩ := HI.out.hh.old (Nat.le_of_lt hpb)
            have HLX := Lib.hid hlx
            obtain ⟨X, hX⟩ : ∃ X, X = Dl.lcp (base.drop (p + 1)) (t.drop (u + 1)) := ⟨_, rfl⟩
            rw [← hX] at cb hput hl1 HLX
            obtain ⟨wp, hwp⟩ : ∃ y, y = wr.setCell ⟨a, p, none⟩ (.int .i64 ((X + 1 : Nat) : Int)) := ⟨_, rfl⟩
            rw [← hwp] at hput
            obtain ⟨q1, q2, q3, q4, q5⟩ := hput
            have Q1 := Lib.hid q1
            have Q2 := Lib.hid q2
            have Q3 := Lib.hid q3
            have Q4 := Lib.hid q4
            have Q5 := Lib.hid q5
            obtain ⟨m1, d0, d1, e0, e1⟩ := q3.cells hu
            obtain ⟨F, hF⟩ : ∃ F, F = (Dl.best (fun x => Dl.lcp (base.drop x) (t.drop u)) p).2 := ⟨_, rfl⟩
            rw [← hF] at d1
            have HFF := Lib.hid hF
            have hw2 : IntKind.i64.wrap ((p : Int) + 1) = (p : Int) + 1 := IntWalk.i64_in _ (by omega)
            have hw3 : IntKind.i64.wrap ((X : Int) + 1) = (X : Int) + 1 := IntWalk.i64_in _ (by omega)
            have hpl1 : (p : Int) + 1 < (base.length : Int) + 1 := by omega
            have hpl2 : (p : Int) < (base.length : Int) + 1 := by omega
            have hpn : 0 ≤ (p : Int) + 1 := by omega
            have hpt : ((p : Int) + 1).toNat = p + 1 := by omega
            have HP' := Lib.hid hp'
            rw [Int.natCast_add] at hwp
            have hcn : ((1 : Nat) : Int) = 1 := rfl
            rw [hcn] at hwp
            replace hwp := hwp.symm
            clear hX hF q1 q2 q3 q4 q5 hat hpc hlx hp cx hcx hp' hcn
            by_cases hlt : F < X + 1
            · have hd : decide ((F : Int) < (X : Int) + 1) = true := decide_eq_true (by omega)
              go_wp2_with fail
              go_roundw
              case rel =>
                refine ⟨j + 1, by omega, by go_num, ?_⟩
                have hT := Q3.out.take hu (x := (X : Int) + 1) (by rw [← HFF.out, HLX.out]; omega) (by rw [HLX.out]; omega)
                have hI' : LiG base t cs w1 a b M w1.heap.size u (p + 1) ((wp.setCell ⟨M, u * 2, none⟩ (.int .i64 (p : Int))).setCell ⟨M, u * 2 + 1, none⟩ (.int .i64 ((X : Int) + 1))) :=
                  ⟨(Q1.out.far (by exact HFO.out.aM) _).far (by exact HFO.out.aM) _, (Q2.out.far (by exact HFO.out.bM) _).far (by exact HFO.out.bM) _, hT, (Q4.out.far (by exact HFO.out.MP.symm) _).far (by exact HFO.out.MP.symm) _, (Q5.out.setCell HFO.out.hM _).setCell HFO.out.hM _⟩
                rw [← HP'.out]
                exact hI'.jump HUP.out (fun y h1 h2 => (lcp_nx (Nat.lt_of_lt_of_le h2 HNL.out) hu HX.out).2 (HGP.out y (by omega) h2))
              case measure => simp [intOf] <;> omega
            · have hd : decide ((F : Int) < (X : Int) + 1) = false := decide_eq_false (by omega)
              go_wp2_with fail
              go_roundw
              case rel =>
                refine ⟨j + 1, by omega, by go_num, ?_⟩
                have hT := Q3.out.skip (by rw [← HFF.out, HLX.out]; omega)
                have hI' : LiG base t cs w1 a b M w1.heap.size u (p + 1) wp := ⟨Q1.out, Q2.out, hT, Q4.out, Q5.out⟩
                rw [← HP'.out]
                exact hI'.jump HUP.out (fun y h1 h2 => (lcp_nx (Nat.lt_of_lt_of_le h2 HNL.out) hu HX.out).2 (HGP.out y (by omega) h2))
              case measure => simp [intOf] <;> omega
          · have hjlI : ¬ (j : Int) < (L : Int) := by omega
            obtain rfl : j = L := by omega
            have hI := HI.out
            rw [nxp_end (by rw [HLL.out]; exact Nat.le_refl _)] at hI
            have HD := Lib.hid (hI.done HFO.out)
            clear hI
            go_wp2_with fail
            go_roundw
            case rel => first | exact ⟨u, b, a, by omega, rfl, rfl, by go_num, HD.out⟩ | exact ⟨u, b, a, by omega, rfl, rfl, rfl, HD.out⟩
            case measure => simp [intOf] <;> omega
  · have hwd := HWD.out
    rw [HWC.out] at hwd
    rw [← hwd]
    clear hwd hmk1 hsb hsa
    have HS0 := Lib.hid (show LoG base t cs w1 (w1.heap.size + 2 + 1) (w1.heap.size + 2) (w1.heap.size + 1) w1.heap.size t.length wd from ⟨HF.out.swap, ⟨_, HI2.out, made_size _ _⟩, by rw [List.drop_length]; exact RowD.zeros HI1.out, MatTo.zeros HM.out, HPB.out, HBd.out⟩)
    clear HI1 HI2 HM HPB HBd HF HWD HWC
    obtain ⟨a0, ha0⟩ : ∃ a, a = (w1.heap.size + 2 + 1) := ⟨_, rfl⟩
    obtain ⟨b0, hb0⟩ : ∃ a, a = (w1.heap.size + 2) := ⟨_, rfl⟩
    obtain ⟨M, hM⟩ : ∃ a, a = w1.heap.size + 1 := ⟨_, rfl⟩
    rw [← ha0, ← hb0, ← hM] at HS0 ⊢
    clear ha0 hb0 hM
    go_wp2_with fail
    go_loopw [7, 8, 9] (fun av bv' kv wr => ∃ (s a b : Nat), s ≤ t.length ∧ av = .slice (some ⟨a, 0, none⟩) (base.length + 1) (base.length + 1) ∧ bv' = .slice (some ⟨b, 0, none⟩) (base.length + 1) (base.length + 1) ∧ kv = .int .i64 ((s : Int) - 1) ∧ LoG base t cs w1 a b M w1.heap.size s wr) (fun _ _ kv _ => (intOf kv + 1).toNat)
    case atStart => exact ⟨t.length, a0, b0, Nat.le_refl _, rfl, rfl, rfl, HS0.out⟩
    clear HS0
    case round =>
      obtain ⟨s, a, b, hs, rfl, rfl, rfl, hL⟩ := hrel
      have HL := Lib.hid hL
      clear hL
      rcases s with _ | u
      · have hMW := HL.out.four.hM
        have hM0 := HL.out.hM.whole
        have hBr := HL.out.hB
        have HBW := Lib.hid (HB1.out.trans (hBr.mono HB1.out.size))
        have HMW := Lib.hid (Nat.le_trans HB1.out.size hMW)
        have HM0 := Lib.hid hM0
        clear hMW hM0 hBr
        have hg0 : decide ((0 : Int) ≤ ((0 : Nat) : Int) - 1) = false := rfl
        go_wp2_with fail
        go_ret
        exact ⟨M, rfl, HM0.out, HMW.out, HBW.out⟩
      · have hu : u < t.length := by omega
        have huI : (u : Int) < (t.length : Int) := by omega
        have hw0 : ((u + 1 : Nat) : Int) - 1 = (u : Int) := by omega
        rw [hw0]
        have hg0 : decide ((0 : Int) ≤ (u : Int)) = true := decide_eq_true (by omega)
        have hw1 : IntKind.i64.wrap ((u : Int) - 1) = (u : Int) - 1 := IntWalk.i64_in _ (by omega)
        obtain ⟨ch, hch, hcs⟩ := HL.out.hh
        have hcl := fun ty => run_clear_blk wr a (base.length + 1) (base.length + 1) ch ty hch (Nat.succ_pos _) hcs
        have hLc := HL.out.clear
        obtain ⟨wk, hwk⟩ : ∃ y, y = wr.setRow a (madeCells #[.int .i64 0] (base.length + 1)) := ⟨_, rfl⟩
        rw [← hwk] at hLc
        obtain ⟨ad, x, hA, hx, hcell⟩ := (H2.out.below (HB1.out.trans (hLc.hB.mono HB1.out.size))).byteAt hu
        subst hA
        have hbx : t[u].toNat = x.toNat := by
          have h := List.drop_eq_getElem_cons hu
          rw [hx] at h
          exact congrArg UInt8.toNat (List.cons.inj h).1.symm
        have hx256 : x.toNat < 256 := UInt8.toNat_lt x
        obtain ⟨c, hc⟩ : ∃ n, n = x.toNat := ⟨_, rfl⟩
        rw [← hc] at hbx hx256 hcell
        have HX := Lib.hid hbx
        have hx256I : (c : Int) < 256 := by omega
        obtain ⟨Ax, kx, hax, hrx⟩ := HPL.out.2.2 c hx256
        have cP : wk.cell? ⟨w1.heap.size, c, none⟩ = some (.slice Ax (plc base base.length c).length kx) := by rw [hLc.hP.cell, hax]
        have hgapz := Lib.hid (hLc.jump (k' := nxp base c 0) (Nat.zero_le _) (fun y _ hy => (lcp_nx (Nat.lt_of_lt_of_le hy (nxp_le _ _ _)) hu hbx).2 (nxp_gap0 hy)))
        have HRX := Lib.hid (hrx.more (Nat.le_refl _))
        have HPC := Lib.hid (plc_len base base.length c)
        have HFO := Lib.hid HL.out.four
        replace hwk := hwk.symm
        clear hch hcs hLc hx hbx hc hax hrx
        obtain ⟨L, hLl⟩ : ∃ L, L = (plc base base.length c).length := ⟨_, rfl⟩
        have HLL := Lib.hid hLl
        rw [← hLl] at cP HRX HPC
        have hLb : L ≤ 4096 := by have := HPC.out; omega
        clear hLl
        go_wp2_with fail
        go_loopw [41] (fun jv wr => ∃ j : Nat, j ≤ L ∧ jv = .int .i64 (j : Int) ∧ LiG base t cs w1 a b M w1.heap.size u (nxp base c j) wr) (fun jv _ => L - (intOf jv).toNat)
        case atStart => exact ⟨0, Nat.zero_le _, rfl, hgapz.out⟩
        clear hgapz cP hcl hwk hcell
        case round =>
          obtain ⟨j, hj, rfl, hI⟩ := hrel
          have HI := Lib.hid hI
          clear hI
          by_cases hjl : j < L
          · have hjlI : (j : Int) < (L : Int) := by omega
            have hjl2 : j < (plc base base.length c).length := by rw [← HLL.out]; exact hjl
            obtain ⟨hat, hpb, hpc⟩ := nxp_at hjl2
            have HUP := Lib.hid (nxp_up hjl2)
            have HGP := Lib.hid (fun k => nxp_gap (k := k) hjl2)
            have HNL := Lib.hid (nxp_le base c (j + 1))
            obtain ⟨p', hp'⟩ : ∃ p', p' = nxp base c (j + 1) := ⟨_, rfl⟩
            rw [← hp'] at HUP HGP HNL
            obtain ⟨p, hp⟩ : ∃ p, p = nxp base c j := ⟨_, rfl⟩
            rw [← hp] at hat hpb hpc HI HUP HGP
            obtain ⟨adx, hAx, -, hcx⟩ := HRX.out.2 (by omega)
            have cx : ∀ wq, Below w1.heap.size w1 wq → wq.cell? (adx.add j) = some (.int .i64 (p : Int)) := fun wq hq => by
              obtain ⟨ad', u', hA', hlt, hu', hc'⟩ := HRX.out.spot hjl
              rw [hAx] at hA'
              cases hA'
              rw [hq.cell (by rw [block_add]; exact hlt), hc']
              unfold iv at hu'
              rw [List.getElem?_map, hat] at hu'
              exact congrArg some (Option.some.inj hu').symm
            subst hAx
            have cx1 := cx _ HI.out.hB
            have hpI : (p : Int) < (base.length : Int) := by omega
            have hlx := (lcp_nx hpb hu HX.out).1 hpc
            have cb := HI.out.hb.cell (k := p + 1) (by omega)
            have hl1 := Dl.lcp_le_left (base.drop (p + 1)) (t.drop (u + 1))
            rw [List.length_drop] at hl1
            have hput := HI.out.put HFO.out (Nat.le_of_lt hpb) (x := ((Dl.lcp (base.drop (p + 1)) (t.drop (u + 1)) + 1 : Nat) : Int)) (by rw [hlx])
            obtain ⟨c0, f0⟩ := HI.out.hh.old (Nat.le_of_lt hpb)
            have HLX := Lib.hid hlx
            obtain ⟨X, hX⟩ : ∃ X, X = Dl.lcp (base.drop (p + 1)) (t.drop (u + 1)) := ⟨_, rfl⟩
            rw [← hX] at cb hput hl1 HLX
            obtain ⟨wp, hwp⟩ : ∃ y, y = wr.setCell ⟨a, p, none⟩ (.int .i64 ((X + 1 : Nat) : Int)) := ⟨_, rfl⟩
            rw [← hwp] at hput
            obtain ⟨q1, q2, q3, q4, q5⟩ := hput
            have Q1 := Lib.hid q1
            have Q2 := Lib.hid q2
            have Q3 := Lib.hid q3
            have Q4 := Lib.hid q4
            have Q5 := Lib.hid q5
            obtain ⟨m1, d0, d1, e0, e1⟩ := q3.cells hu
            obtain ⟨F, hF⟩ : ∃ F, F = (Dl.best (fun x => Dl.lcp (base.drop x) (t.drop u)) p).2 := ⟨_, rfl⟩
            rw [← hF] at d1
            have HFF := Lib.hid hF
            have hw2 : IntKind.i64.wrap ((p : Int) + 1) = (p : Int) + 1 := IntWalk.i64_in _ (by omega)
            have hw3 : IntKind.i64.wrap ((X : Int) + 1) = (X : Int) + 1 := IntWalk.i64_in _ (by omega)
            have hpl1 : (p : Int) + 1 < (base.length : Int) + 1 := by omega
            have hpl2 : (p : Int) < (base.length : Int) + 1 := by omega
            have hpn : 0 ≤ (p : Int) + 1 := by omega
            have hpt : ((p : Int) + 1).toNat = p + 1 := by omega
            have HP' := Lib.hid hp'
            rw [Int.natCast_add] at hwp
            have hcn : ((1 : Nat) : Int) = 1 := rfl
            rw [hcn] at hwp
            replace hwp := hwp.symm
            clear hX hF q1 q2 q3 q4 q5 hat hpc hlx hp cx hcx hp' hcn
            by_cases hlt : F < X + 1
            · have hd : decide ((F : Int) < (X : Int) + 1) = true := decide_eq_true (by omega)
              go_wp2_with fail
              go_roundw
              case rel =>
                refine ⟨j + 1, by omega, by go_num, ?_⟩
                have hT := Q3.out.take hu (x := (X : Int) + 1) (by rw [← HFF.out, HLX.out]; omega) (by rw [HLX.out]; omega)
                have hI' : LiG base t cs w1 a b M w1.heap.size u (p + 1) ((wp.setCell ⟨M, u * 2, none⟩ (.int .i64 (p : Int))).setCell ⟨M, u * 2 + 1, none⟩ (.int .i64 ((X : Int) + 1))) :=
                  ⟨(Q1.out.far (by exact HFO.out.aM) _).far (by exact HFO.out.aM) _, (Q2.out.far (by exact HFO.out.bM) _).far (by exact HFO.out.bM) _, hT, (Q4.out.far (by exact HFO.out.MP.symm) _).far (by exact HFO.out.MP.symm) _, (Q5.out.setCell HFO.out.hM _).setCell HFO.out.hM _⟩
                rw [← HP'.out]
                exact hI'.jump HUP.out (fun y h1 h2 => (lcp_nx (Nat.lt_of_lt_of_le h2 HNL.out) hu HX.out).2 (HGP.out y (by omega) h2))
              case measure => simp [intOf] <;> omega
            · have hd : decide ((F : Int) < (X : Int) + 1) = false := decide_eq_false (by omega)
              go_wp2_with fail
              go_roundw
              case rel =>
                refine ⟨j + 1, by omega, by go_num, ?_⟩
                have hT := Q3.out.skip (by rw [← HFF.out, HLX.out]; omega)
                have hI' : LiG base t cs w1 a b M w1.heap.size u (p + 1) wp := ⟨Q1.out, Q2.out, hT, Q4.out, Q5.out⟩
                rw [← HP'.out]
                exact hI'.jump HUP.out (fun y h1 h2 => (lcp_nx (Nat.lt_of_lt_of_le h2 HNL.out) hu HX.out).2 (HGP.out y (by omega) h2))
              case measure => simp [intOf] <;> omega
          · have hjlI : ¬ (j : Int) < (L : Int) := by omega
            obtain rfl : j = L := by omega
            have hI := HI.out
            rw [nxp_end (by rw [HLL.out]; exact Nat.le_refl _)] at hI
            have HD := Lib.hid (hI.done HFO.out)
            clear hI
            go_wp2_with fail
            go_roundw
            case rel => first | exact ⟨u, b, a, by omega, rfl, rfl, by go_num, HD.out⟩ | exact ⟨u, b, a, by omega, rfl, rfl, rfl, HD.out⟩
            case measure => simp [intOf] <;> omega
end Go.Proofs.Ytemcfmneokbhkaa

/- The map from digests to their places: what is looked up, and one more put in. -/
import Derived.Test.YtebfocfeehajjaaRowG
import Derived.Maps.OwnSet
import Derived.DeepKeys4
namespace Go.Proofs.Ytebfocfeehajjaa
open Go Go.RowKit Go.Maps
set_option maxRecDepth 400000

theorem dkWide : (match Try.prog.underlying 47 with | some (.array _ _) | some (.struct _) => true | _ => false) = true := by rw [Try.underlying47]
theorem dkLaid : laidOutB Try.prog = true := by kernel_rfl
theorem dkType : Try.prog.keyTypeAt 3 47 = true := by kernel_rfl
theorem dkKey : Try.prog.keyType 47 = true := by kernel_rfl
theorem dkCells : Try.prog.cellsOf 47 = 32 := by kernel_rfl
theorem dkByte : Try.prog.cellsOf 5 = 1 := by kernel_rfl
theorem dkRow : decide (47 < Try.prog.types.size) = true := by kernel_rfl
theorem dkPos : decide (0 < Try.prog.types.size) = true := by kernel_rfl
theorem dkKeyed : Keyed Try.prog 47 := Keyed.of_law (deep_law_laid dkLaid (m := 3) (by decide) (of_decide_eq_true dkRow) dkType dkWide)

theorem mapM_some {α β : Type} {f : α → Option β} {g : α → β} : ∀ {L : List α}, (∀ x ∈ L, f x = some (g x)) → L.mapM f = some (L.map g)
  | [], _ => rfl
  | x :: L, h => by
    rw [List.mapM_cons, h x (by simp), mapM_some (L := L) (fun y hy => h y (by simp [hy]))]
    rfl
theorem u8_wf (c : UInt8) : (Lit.int .u8 (c.toNat : Int)).wf = true := by
  have e1 : IntKind.u8.min = 0 := by decide
  have e2 : IntKind.u8.max = 255 := by decide
  have h := c.toNat_lt
  simp only [Lit.wf, e1, e2, Bool.and_eq_true, decide_eq_true_eq]
  omega
theorem dk_some {d : List UInt8} (hd : d.length = 32) : ∃ l, keyOf Try.prog 47 (digV d) = some l := by
  have hf : (digV d).formed Try.prog 47 = true := by
    unfold digV
    simp only [Value.formed, Try.underlying47, dkCells, bv_size, hd]
    decide
  have hl : ∀ D, Try.prog.keyLits (D + 1 + 1) 47 (bv d) = some (((List.range 32).map fun i => [Lit.int .u8 ((d.getD i 0).toNat : Int)]).flatten) := by
    intro D
    unfold Program.keyLits
    simp only [Try.underlying47]
    rw [dkCells, dkByte, if_pos (by rw [bv_length, hd])]
    rw [mapM_some (g := fun i => [Lit.int .u8 ((d.getD i 0).toNat : Int)])]
    · rfl
    · intro i hi
      have hi' : i < 32 := List.mem_range.1 hi
      have h1 : ((bv d).drop (i * 1)).take 1 = [Value.int .u8 ((d.getD i 0).toNat : Int)] := by
        have h2 : i < (bv d).length := by rw [bv_length, hd]; exact hi'
        have h3 := bv_at d (p := i) (by rw [hd]; exact hi')
        rw [List.getElem?_toArray, List.getElem?_eq_getElem h2] at h3
        rw [Nat.mul_one, List.drop_eq_getElem_cons h2, List.take_succ_cons, List.take_zero, Option.some.inj h3]
      rw [h1]
      unfold Program.keyLits
      simp [Try.underlying5, u8_wf]
  have ht : Try.prog.types.size + 1 = (Try.prog.types.size - 1) + 1 + 1 := by have := of_decide_eq_true dkPos; omega
  unfold keyOf
  rw [Try.underlying47]
  rw [dkKey, hf, ht]
  have hc : (digV d).cells.toList = bv d := by unfold digV Value.cells; rfl
  rw [hc, hl]
  exact ⟨_, rfl⟩
/-- A digest as a key. -/
noncomputable def kk (d : List UInt8) : Lit := (keyOf Try.prog 47 (digV d)).getD .nil
theorem kk_is {d : List UInt8} (hd : d.length = 32) : keyOf Try.prog 47 (.agg (bv d).toArray) = some (kk d) := by
  obtain ⟨l, h⟩ := dk_some hd
  unfold kk
  rw [h]
  exact h
theorem bv_inj : ∀ {a b : List UInt8}, bv a = bv b → a = b
  | [], [], _ => rfl
  | [], _ :: _, h => by cases h
  | _ :: _, [], h => by cases h
  | x :: a, y :: b, h => by
    unfold bv at h
    rw [List.map_cons, List.map_cons, List.cons.injEq] at h
    have h1 : (x.toNat : Int) = (y.toNat : Int) := by injection h.1
    rw [UInt8.toNat_inj.1 (by omega : x.toNat = y.toNat), bv_inj (a := a) (b := b) h.2]
theorem kk_ne {a b : List UInt8} (ha : a.length = 32) (hb : b.length = 32) (h : a ≠ b) : kk a ≠ kk b := by
  intro e
  have h2 := kk_is hb
  rw [← e] at h2
  have := dkKeyed.inj (kk_is ha) h2
  injection this with h3
  exact h (bv_inj (by simpa using congrArg Array.toList h3))
theorem kk_lit {a : List UInt8} (ha : a.length = 32) : WideAt.IsKeyLit (kk a) := dkKeyed.key (kk_is ha)

/-- Block b holds the places of these digests. -/
def DMap (w : World) (b : Nat) (L : List (List UInt8)) : Prop :=
  ∃ D : DataW Unit, w.ownsMap Try.prog 47 (plainElem Try.prog 3) b L.length D ∧ (∀ d : List UInt8, d.length = 32 → Maps.has D (kk d) = decide (d ∈ L)) ∧
    ∀ d : List UInt8, d.length = 32 → d ∈ L → D.atKey (kk d) (.lit (.int .i64 0)) = .lit (.int .i64 (L.idxOf d : Int))

theorem DMap.made (w : World) : DMap (w.alloc (.map #[] 0)) w.heap.size [] :=
  ⟨.map [], World.ownsMap_made _ _ _ _, fun d _ => by simp [Maps.has], fun d _ h => by cases h⟩
theorem DMap.kept {w w' : World} {b : Nat} {L : List (List UInt8)} {row : Option Nat} (h : DMap w b L) (hg : w.grownBy w' row) (hne : some b ≠ row) : DMap w' b L := by
  obtain ⟨D, h1, h2⟩ := h
  exact ⟨D, h1.kept hg hne, h2⟩
theorem DMap.lt {w : World} {b : Nat} {L : List (List UInt8)} (h : DMap w b L) : b < w.heap.size := by
  obtain ⟨D, h1, _⟩ := h
  exact h1.lt
/-- A block of cells is another one. -/
theorem DMap.ne {w : World} {b g : Nat} {L : List (List UInt8)} {t : TypeId} {cs : Array Value} (h : DMap w b L) (hg : Blk w g t cs) : g ≠ b := by
  obtain ⟨D, ⟨es, clock, hb, _⟩, _⟩ := h
  rintro rfl
  unfold Blk at hg
  rw [hg] at hb
  cases hb
theorem DMap.ne_own {w : World} {b B k n : Nat} {e : TypeId} {v : Value} {xs : List Value} {L : List (List UInt8)} (h : DMap w b L) (ho : w.ownsRow B e k v n xs) : v.ownBlock ≠ some b := by
  rcases ho.2 with ⟨rfl, _⟩ | ⟨q, cap, cur, rfl, _, hq, _⟩
  · simp [Value.ownBlock]
  · intro e
    obtain ⟨D, ⟨es, clock, hb, _⟩, _⟩ := h
    have : q = b := by simpa [Value.ownBlock] using e
    subst this
    rw [hq] at hb
    cases hb
theorem zeroInt (w : World) : (zeroValue 3).run Try.prog w = .ok (.int .i64 0) w := by kernel_rfl
/-- 'n, ok := m[d]'. -/
theorem DMap.look {w : World} {b : Nat} {L : List (List UInt8)} (h : DMap w b L) {d : List UInt8} (hd : d.length = 32) : ∃ n : Int, (d ∈ L → n = (L.idxOf d : Int)) ∧
    ∀ w', Below w.heap.size w w' → (Instr.lookup 76 (.map (some b)) (.agg (bv d).toArray) true).run Try.prog w' = .ok (.tuple #[.int .i64 n, .bool (decide (d ∈ L))]) w' := by
  obtain ⟨D, h1, h2, h3⟩ := h
  have key : ∀ w', Below w.heap.size w w' → ∃ n : Int, (DataW.atKey D (kk d) (.lit (.int .i64 0)) = .lit (.int .i64 n)) ∧ (Instr.lookup 76 (.map (some b)) (.agg (bv d).toArray) true).run Try.prog w' = .ok (.tuple #[.int .i64 n, .bool (decide (d ∈ L))]) w' := by
    intro w' hb
    have h1' := h1.kept (row := none) ⟨hb.os, hb.tape, hb.output, hb.size, fun k hk _ => hb.block k hk⟩ (by simp)
    obtain ⟨v, ps, hr, hv⟩ := h1'.look_ok dkKeyed Try.underlying76 (zeroInt w') (plainElem_int Try.underlying3 (by decide)) (kk_is hd)
    obtain ⟨c, rfl, hc, -⟩ := plainElem_int_inv Try.underlying3 hv
    refine ⟨c, congrArg Prod.fst hc, ?_⟩
    rw [hr, h2 d hd]
  obtain ⟨n, hn, -⟩ := key w (Below.refl _ _)
  refine ⟨n, fun hm => ?_, fun w' hb => ?_⟩
  · rw [h3 d hd hm] at hn
    injection hn with hn
    injection hn with _ hn
    exact hn.symm
  · obtain ⟨m, hm, hr⟩ := key w' hb
    rw [hn] at hm
    injection hm with hm
    injection hm with _ hm
    subst hm
    exact hr
/-- 'm[d] = len(L)', of a digest that wasn't there. -/
theorem DMap.put {w : World} {b : Nat} {L : List (List UInt8)} (h : DMap w b L) {d : List UInt8} (hd : d.length = 32) (hn : d ∉ L) (hl : L.length < 9223372036854775807) : ∃ w',
    (Instr.mapUpdate 76 (.map (some b)) (.agg (bv d).toArray) (.int .i64 (L.length : Int))).run Try.prog w = .ok () w' ∧ DMap w' b (L ++ [d]) ∧ w.grownBy w' (some b) := by
  obtain ⟨D, h1, h2, h3⟩ := h
  have hwf : (Lit.int .i64 (L.length : Int)).wf = true := by
    have e1 : IntKind.i64.min = -9223372036854775808 := by decide
    have e2 : IntKind.i64.max = 9223372036854775807 := by decide
    simp only [Lit.wf, e1, e2, Bool.and_eq_true, decide_eq_true_eq]
    omega
  obtain ⟨w', hr, ho, ht⟩ := h1.store dkKeyed Try.underlying76 (by unfold maxLen; omega) (kk_is hd) (plainElem_int Try.underlying3 hwf)
  refine ⟨w', hr, ⟨_, by rw [List.length_append]; exact ho, fun s hs => ?_, fun s hs hm => ?_⟩, ht.grown⟩
  · by_cases e : s = d
    · subst e
      rw [has_put_same h1.isMap (kk_lit hs)]
      simp
    · rw [has_put_other (kk_ne hs hd e), h2 s hs]
      simp [e]
  · by_cases e : s = d
    · subst e
      rw [atKey_put_same h1.isMap (kk_lit hs), List.idxOf_append, if_neg hn]
      simp
    · have hm' : s ∈ L := by simpa [e] using hm
      rw [atKey_put_other (kk_ne hs hd e), h3 s hs hm', List.idxOf_append, if_pos hm']
end Go.Proofs.Ytebfocfeehajjaa

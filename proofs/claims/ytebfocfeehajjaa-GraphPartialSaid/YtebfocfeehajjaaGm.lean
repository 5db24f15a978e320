/- A history's nodes without memory: what stands above what, gone over from the list's end; heads, what is common, the order. -/
import Derived.Test.YtebfocfeehajjaaMaths
import Derived.Test.YtebfocfeehajjaaTxt
import Derived.Test.YtebfocfeehajjaaSort
namespace Go.Proofs.Ytebfocfeehajjaa.Gr

/-- A node: its ID and its parents'. -/
structure Nd (α : Type) where
  id : α
  ps : List α

section
variable {α : Type}
def idsOf (l : List (Nd α)) : List α := l.map fun x => x.id
theorem ids_at {l : List (Nd α)} {i : Nat} {x : Nd α} (h : l[i]? = some x) : (idsOf l)[i]? = some x.id := by
  unfold idsOf; rw [List.getElem?_map, h]; rfl
theorem at_ids {l : List (Nd α)} {i : Nat} {d : α} (h : (idsOf l)[i]? = some d) : ∃ x, l[i]? = some x ∧ x.id = d := by
  unfold idsOf at h
  rw [List.getElem?_map] at h
  cases hx : l[i]? with
  | none => rw [hx] at h; cases h
  | some x => rw [hx] at h; exact ⟨x, rfl, Option.some.inj h⟩
theorem ids_len (l : List (Nd α)) : (idsOf l).length = l.length := by unfold idsOf; rw [List.length_map]
theorem ids_take {l : List (Nd α)} {i : Nat} {d : α} : d ∈ idsOf (l.take i) ↔ ∃ (j : Nat) (x : Nd α), j < i ∧ l[j]? = some x ∧ x.id = d := by
  unfold idsOf
  rw [List.mem_map]
  constructor
  · rintro ⟨x, hx, rfl⟩
    obtain ⟨j, hj⟩ := List.mem_iff_getElem?.1 hx
    rw [List.getElem?_take] at hj
    split at hj
    · rename_i h; exact ⟨j, x, h, hj, rfl⟩
    · cases hj
  · rintro ⟨j, x, hj, hx, rfl⟩
    exact ⟨x, List.mem_iff_getElem?.2 ⟨j, by rw [List.getElem?_take, if_pos hj, hx]⟩, rfl⟩
theorem mem_ids {l : List (Nd α)} {d : α} : d ∈ idsOf l ↔ ∃ (j : Nat) (x : Nd α), l[j]? = some x ∧ x.id = d := by
  unfold idsOf
  rw [List.mem_map]
  constructor
  · rintro ⟨x, hx, rfl⟩
    obtain ⟨j, hj⟩ := List.mem_iff_getElem?.1 hx
    exact ⟨j, x, hj, rfl⟩
  · rintro ⟨j, x, hx, rfl⟩
    exact ⟨x, List.mem_iff_getElem?.2 ⟨j, hx⟩, rfl⟩
theorem nodup_at {L : List α} (h : L.Nodup) {i j : Nat} {d : α} (hi : L[i]? = some d) (hj : L[j]? = some d) : i = j := by
  obtain ⟨h1, e1⟩ := List.getElem?_eq_some_iff.1 hi
  obtain ⟨h2, e2⟩ := List.getElem?_eq_some_iff.1 hj
  exact (List.getElem_inj h).1 (e1.trans e2.symm)
/-- Those that are marked, in the list's order. -/
def pick (l : List (Nd α)) (c : List Bool) : List α := ((l.zip c).filter fun z => z.2).map fun z => z.1.id
theorem mem_pick {l : List (Nd α)} {c : List Bool} {d : α} : d ∈ pick l c ↔ ∃ m x, l[m]? = some x ∧ c.getD m false = true ∧ x.id = d := by
  unfold pick
  rw [List.mem_map]
  constructor
  · rintro ⟨⟨x, b⟩, hz, rfl⟩
    rw [List.mem_filter] at hz
    obtain ⟨m, hm⟩ := List.mem_iff_getElem?.1 hz.1
    rw [List.getElem?_zip_eq_some] at hm
    refine ⟨m, x, hm.1, ?_, rfl⟩
    rw [List.getD_eq_getElem?_getD, hm.2]
    exact hz.2
  · rintro ⟨m, x, hm, hc, rfl⟩
    refine ⟨(x, true), List.mem_filter.2 ⟨List.mem_iff_getElem?.2 ⟨m, List.getElem?_zip_eq_some.2 ⟨hm, ?_⟩⟩, rfl⟩, rfl⟩
    rw [List.getD_eq_getElem?_getD] at hc
    cases h : c[m]? with
    | none => rw [h] at hc; cases hc
    | some b => rw [h] at hc; exact congrArg some hc
end
section
variable {α : Type} [DecidableEq α]

/-- Where an ID stands: the list's length, if nowhere. -/
def fnd (l : List (Nd α)) (d : α) : Nat := (idsOf l).idxOf d
def psOf (l : List (Nd α)) (d : α) : List α := match l[fnd l d]? with | some x => x.ps | none => []

/-- What is asked of a list here: no ID twice, each parent ahead. -/
structure Ok (l : List (Nd α)) : Prop where
  nodup : (idsOf l).Nodup
  ahead : ∀ (i : Nat) (x : Nd α), l[i]? = some x → ∀ p ∈ x.ps, p ∈ idsOf (l.take i)

theorem fnd_le (l : List (Nd α)) (d : α) : fnd l d ≤ l.length := by unfold fnd; rw [← ids_len]; exact List.idxOf_le_length
theorem fnd_lt {l : List (Nd α)} {d : α} : fnd l d < l.length ↔ d ∈ idsOf l := by unfold fnd; rw [← ids_len]; exact List.idxOf_lt_length_iff
theorem fnd_at {l : List (Nd α)} {d : α} (h : d ∈ idsOf l) : ∃ x, l[fnd l d]? = some x ∧ x.id = d := by
  have h1 : fnd l d < (idsOf l).length := by rw [ids_len]; exact fnd_lt.2 h
  refine at_ids (l := l) ?_
  rw [List.getElem?_eq_getElem h1]
  exact congrArg some (List.getElem_idxOf h1)
theorem fnd_is {l : List (Nd α)} (hl : (idsOf l).Nodup) {i : Nat} {x : Nd α} (h : l[i]? = some x) : fnd l x.id = i := by
  obtain ⟨y, hy, he⟩ := fnd_at (l := l) (d := x.id) (List.mem_of_getElem? (ids_at h))
  have h1 := ids_at hy
  rw [he] at h1
  exact nodup_at hl h1 (ids_at h)
theorem psOf_is {l : List (Nd α)} (hl : (idsOf l).Nodup) {i : Nat} {x : Nd α} (h : l[i]? = some x) : psOf l x.id = x.ps := by
  unfold psOf; rw [fnd_is hl h, h]
theorem psOf_none {l : List (Nd α)} {d : α} (h : d ∉ idsOf l) : psOf l d = [] := by
  unfold psOf
  rw [List.getElem?_eq_none (Nat.le_of_not_lt (fun e => h (fnd_lt.1 e)))]
/-- A parent stands ahead. -/
theorem Ok.par {l : List (Nd α)} (h : Ok l) {d p : α} (hp : p ∈ psOf l d) : d ∈ idsOf l ∧ p ∈ idsOf l ∧ fnd l p < fnd l d := by
  have hd : d ∈ idsOf l := Decidable.byContradiction fun hn => by rw [psOf_none hn] at hp; cases hp
  obtain ⟨x, hx, rfl⟩ := fnd_at hd
  rw [psOf_is h.nodup hx] at hp
  obtain ⟨j, y, hj, hy, rfl⟩ := ids_take.1 (h.ahead _ _ hx p hp)
  exact ⟨hd, mem_ids.2 ⟨j, y, hy, rfl⟩, by rw [fnd_is h.nodup hy]; exact hj⟩

/-! ### Marks -/
def sets (b : List Bool) (L : List Nat) : List Bool := L.foldl (fun b p => b.set p true) b
theorem sets_length : ∀ (L : List Nat) (b : List Bool), (sets b L).length = b.length
  | [], _ => rfl
  | p :: L, b => by
    have := sets_length L (b.set p true)
    unfold sets at this ⊢
    rw [List.foldl_cons, this, List.length_set]
theorem sets_snoc (b : List Bool) (L : List Nat) (p : Nat) : sets b (L ++ [p]) = (sets b L).set p true := by unfold sets; rw [List.foldl_append]; rfl
theorem getD_set {b : List Bool} {p m : Nat} : (b.set p true).getD m false = true ↔ b.getD m false = true ∨ (m = p ∧ m < b.length) := by
  rw [List.getD_eq_getElem?_getD, List.getD_eq_getElem?_getD, List.getElem?_set]
  by_cases h : p = m
  · subst h
    by_cases hl : p < b.length
    · simp [hl]
    · simp [hl]
  · rw [if_neg h]
    have h' : ¬ m = p := fun e => h e.symm
    simp [h']
theorem getD_sets : ∀ {L : List Nat} {b : List Bool} {m : Nat}, (sets b L).getD m false = true ↔ b.getD m false = true ∨ (m ∈ L ∧ m < b.length)
  | [], b, m => by unfold sets; simp
  | p :: L, b, m => by
    have h := getD_sets (L := L) (b := b.set p true) (m := m)
    rw [getD_set, List.length_set] at h
    have e : sets b (p :: L) = sets (b.set p true) L := rfl
    rw [e, h, List.mem_cons]
    constructor
    · rintro ((h | h) | h)
      · exact .inl h
      · exact .inr ⟨.inl h.1, h.2⟩
      · exact .inr ⟨.inr h.1, h.2⟩
    · rintro (h | ⟨h | h, h2⟩)
      · exact .inl (.inl h)
      · exact .inl (.inr ⟨h, h2⟩)
      · exact .inr ⟨h, h2⟩
def mkStep (ns : List (List Nat)) (k : Nat) (b : List Bool) : List Bool := if b.getD k false = true then sets b (ns.getD k []) else b
/-- From the place ahead of k down. -/
def mkTo (ns : List (List Nat)) : Nat → List Bool → List Bool
  | 0, b => b
  | k + 1, b => mkTo ns k (mkStep ns k b)
theorem mkStep_length (ns : List (List Nat)) (k : Nat) (b : List Bool) : (mkStep ns k b).length = b.length := by
  unfold mkStep; split
  · exact sets_length _ _
  · rfl
theorem mkTo_length (ns : List (List Nat)) : ∀ (k : Nat) (b : List Bool), (mkTo ns k b).length = b.length
  | 0, _ => rfl
  | k + 1, b => by rw [mkTo, mkTo_length ns k, mkStep_length]
def Down (ns : List (List Nat)) : Prop := ∀ i p, p ∈ ns.getD i [] → p < i
theorem mkStep_mono {ns : List (List Nat)} {k m : Nat} {b : List Bool} (h : b.getD m false = true) : (mkStep ns k b).getD m false = true := by
  unfold mkStep; split
  · exact getD_sets.2 (.inl h)
  · exact h
theorem mkTo_mono {ns : List (List Nat)} {m : Nat} : ∀ (k : Nat) {b : List Bool}, b.getD m false = true → (mkTo ns k b).getD m false = true
  | 0, _, h => h
  | k + 1, _, h => mkTo_mono k (mkStep_mono h)
theorem mkStep_keep {ns : List (List Nat)} (hd : Down ns) {k m : Nat} (hm : k ≤ m) {b : List Bool} (h : (mkStep ns k b).getD m false = true) : b.getD m false = true := by
  unfold mkStep at h
  split at h
  · rcases getD_sets.1 h with h | h
    · exact h
    · have := hd k m h.1; omega
  · exact h
theorem mkTo_keep {ns : List (List Nat)} (hd : Down ns) {m : Nat} : ∀ (k : Nat) {b : List Bool}, k ≤ m → (mkTo ns k b).getD m false = true → b.getD m false = true
  | 0, _, _, h => h
  | k + 1, _, hm, h => mkStep_keep hd (by omega) (mkTo_keep hd k (by omega) h)
theorem mkTo_closed {ns : List (List Nat)} (hd : Down ns) {j p : Nat} (hp : p ∈ ns.getD j []) : ∀ (k : Nat) {b : List Bool}, j < k → p < b.length → (mkTo ns k b).getD j false = true → (mkTo ns k b).getD p false = true
  | 0, _, h, _, _ => by omega
  | k + 1, b, hj, hpb, h => by
    rw [mkTo] at h ⊢
    by_cases hjk : j = k
    · subst hjk
      have h1 := mkStep_keep hd (Nat.le_refl _) (mkTo_keep hd j (Nat.le_refl _) h)
      refine mkTo_mono j ?_
      unfold mkStep
      rw [if_pos h1]
      exact getD_sets.2 (.inr ⟨hp, hpb⟩)
    · exact mkTo_closed hd hp k (by omega) (by rw [mkStep_length]; exact hpb) h
theorem mkTo_sound {ns : List (List Nat)} {R : Nat → Prop} (hR : ∀ j p, R j → p ∈ ns.getD j [] → R p) : ∀ (k : Nat) {b : List Bool}, (∀ m, b.getD m false = true → R m) → ∀ m, (mkTo ns k b).getD m false = true → R m
  | 0, _, hb, m, h => hb m h
  | k + 1, b, hb, m, h => by
    refine mkTo_sound hR k (fun q hq => ?_) m h
    unfold mkStep at hq
    split at hq
    · rename_i hk
      rcases getD_sets.1 hq with hq | hq
      · exact hb q hq
      · exact hR k q (hb k hk) hq.1
    · exact hb q hq
/-- Whom one meets on the way down. -/
def vis (ns : List (List Nat)) : Nat → List Bool → List Nat
  | 0, _ => []
  | k + 1, b => if b.getD k false = true then k :: vis ns k (mkStep ns k b) else vis ns k (mkStep ns k b)
theorem mem_vis {ns : List (List Nat)} (hd : Down ns) {m : Nat} : ∀ (k : Nat) {b : List Bool}, m ∈ vis ns k b ↔ m < k ∧ (mkTo ns k b).getD m false = true
  | 0, b => by unfold vis; simp
  | k + 1, b => by
    rw [vis, mkTo]
    have ih := mem_vis hd (m := m) k (b := mkStep ns k b)
    by_cases hk : b.getD k false = true
    · rw [if_pos hk, List.mem_cons, ih]
      constructor
      · rintro (rfl | h)
        · exact ⟨by omega, mkTo_mono _ (mkStep_mono hk)⟩
        · exact ⟨by omega, h.2⟩
      · rintro ⟨h1, h2⟩
        by_cases e : m = k
        · exact .inl e
        · exact .inr ⟨by omega, h2⟩
    · rw [if_neg hk, ih]
      constructor
      · rintro ⟨h1, h2⟩; exact ⟨by omega, h2⟩
      · rintro ⟨h1, h2⟩
        by_cases e : m = k
        · subst e; exact absurd (mkStep_keep hd (Nat.le_refl _) (mkTo_keep hd m (Nat.le_refl _) h2)) hk
        · exact ⟨by omega, h2⟩

theorem getD_ext {a b : List Bool} (hl : a.length = b.length) (h : ∀ m, m < a.length → (a.getD m false = true ↔ b.getD m false = true)) : a = b := by
  apply List.ext_getElem hl
  intro m h1 h2
  have := h m h1
  rw [List.getD_eq_getElem?_getD, List.getD_eq_getElem?_getD, List.getElem?_eq_getElem h1, List.getElem?_eq_getElem h2] at this
  simp only [Option.getD_some] at this
  cases ha : a[m] <;> cases hb : b[m] <;> simp_all
theorem sets_vis {ns : List (List Nat)} (hd : Down ns) {n : Nat} {st : List Bool} (hs : st.length = n) : sets (List.replicate n false) (vis ns n st) = mkTo ns n st := by
  apply getD_ext
  · rw [sets_length, List.length_replicate, mkTo_length, hs]
  · intro m hm
    rw [sets_length, List.length_replicate] at hm
    rw [getD_sets, mem_vis hd, List.length_replicate]
    have hr : ¬ (List.replicate n false).getD m false = true := by rw [List.getD_eq_getElem?_getD, List.getElem?_replicate]; split <;> simp
    constructor
    · rintro (h | h)
      · exact absurd h hr
      · exact h.1.2
    · intro h; exact .inr ⟨⟨hm, h⟩, hm⟩
def nums (l : List (Nd α)) : List (List Nat) := l.map fun x => x.ps.map (fnd l)
theorem nums_at {l : List (Nd α)} {i : Nat} {x : Nd α} (h : l[i]? = some x) : (nums l).getD i [] = x.ps.map (fnd l) := by
  unfold nums; rw [List.getD_eq_getElem?_getD, List.getElem?_map, h]; rfl
theorem nums_none {l : List (Nd α)} {i : Nat} (h : l[i]? = none) : (nums l).getD i [] = [] := by
  unfold nums; rw [List.getD_eq_getElem?_getD, List.getElem?_map, h]; rfl
theorem nums_len (l : List (Nd α)) : (nums l).length = l.length := by unfold nums; rw [List.length_map]
theorem Ok.down {l : List (Nd α)} (h : Ok l) : Down (nums l) := by
  intro i p hp
  cases hx : l[i]? with
  | none => rw [nums_none hx] at hp; cases hp
  | some x =>
    rw [nums_at hx, List.mem_map] at hp
    obtain ⟨q, hq, rfl⟩ := hp
    obtain ⟨j, y, hj, hy, rfl⟩ := ids_take.1 (h.ahead _ _ hx q hq)
    rw [fnd_is h.nodup hy]; exact hj

/-- What some stand above. -/
inductive Rch (l : List (Nd α)) (S : List α) : α → Prop
  | base {d : α} : d ∈ S → Rch l S d
  | step {e d : α} : Rch l S e → d ∈ psOf l e → Rch l S d

def marksOf (l : List (Nd α)) (N : List Nat) : List Bool := mkTo (nums l) l.length (sets (List.replicate l.length false) N)
def marks (l : List (Nd α)) (S : List α) : List Bool := marksOf l (S.map (fnd l))
theorem marks_length (l : List (Nd α)) (S : List α) : (marks l S).length = l.length := by unfold marks marksOf; rw [mkTo_length, sets_length, List.length_replicate]
theorem start_iff {n m : Nat} {N : List Nat} : (sets (List.replicate n false) N).getD m false = true ↔ m ∈ N ∧ m < n := by
  rw [getD_sets, List.length_replicate, List.getD_eq_getElem?_getD, List.getElem?_replicate]
  by_cases h : m < n <;> simp [h]
theorem Rch.ids {l : List (Nd α)} (hl : Ok l) {S : List α} (hS : ∀ s ∈ S, s ∈ idsOf l) {d : α} (h : Rch l S d) : d ∈ idsOf l := by
  cases h with
  | base h => exact hS _ h
  | step _ h => exact (hl.par h).2.1
theorem marks_iff {l : List (Nd α)} (hl : Ok l) {S : List α} (hS : ∀ s ∈ S, s ∈ idsOf l) {m : Nat} {x : Nd α} (hm : l[m]? = some x) : (marks l S).getD m false = true ↔ Rch l S x.id := by
  constructor
  · intro h
    have := mkTo_sound (ns := nums l) (R := fun m => ∃ x, l[m]? = some x ∧ Rch l S x.id) ?_ l.length (b := sets (List.replicate l.length false) (S.map (fnd l))) ?_ m h
    · obtain ⟨y, hy, hr⟩ := this
      rw [hm] at hy
      cases hy
      exact hr
    · rintro j p ⟨y, hy, hr⟩ hp
      rw [nums_at hy, List.mem_map] at hp
      obtain ⟨q, hq, rfl⟩ := hp
      have hq' : q ∈ psOf l y.id := by rw [psOf_is hl.nodup hy]; exact hq
      obtain ⟨z, hz, he⟩ := fnd_at (hl.par hq').2.1
      exact ⟨z, hz, he ▸ .step hr hq'⟩
    · intro q hq
      rw [start_iff, List.mem_map] at hq
      obtain ⟨⟨s, hs, rfl⟩, _⟩ := hq
      obtain ⟨z, hz, he⟩ := fnd_at (hS s hs)
      exact ⟨z, hz, he ▸ .base hs⟩
  · intro h
    have key : ∀ d, Rch l S d → (marks l S).getD (fnd l d) false = true := by
      intro d hd
      induction hd with
      | base hd => exact mkTo_mono _ (start_iff.2 ⟨List.mem_map.2 ⟨_, hd, rfl⟩, fnd_lt.2 (hS _ hd)⟩)
      | @step e d he hp ih =>
        obtain ⟨h1, h2, h3⟩ := hl.par hp
        obtain ⟨y, hy, hye⟩ := fnd_at h1
        refine mkTo_closed hl.down (j := fnd l e) ?_ l.length (fnd_lt.2 h1) (by rw [sets_length, List.length_replicate]; exact fnd_lt.2 h2) ih
        rw [nums_at hy, List.mem_map]
        rw [← hye, psOf_is hl.nodup hy] at hp
        exact ⟨d, hp, rfl⟩
    have := key _ h
    rwa [fnd_is hl.nodup hm] at this

theorem mem_reach {l : List (Nd α)} (hl : Ok l) {S : List α} (hS : ∀ s ∈ S, s ∈ idsOf l) {d : α} : d ∈ pick l (marks l S) ↔ Rch l S d := by
  rw [mem_pick]
  constructor
  · rintro ⟨m, x, hm, hc, rfl⟩; exact (marks_iff hl hS hm).1 hc
  · intro h
    obtain ⟨x, hx, rfl⟩ := fnd_at (h.ids hl hS)
    exact ⟨_, x, hx, (marks_iff hl hS hx).2 h, rfl⟩

variable (less : α → α → Bool)
def aboveL (l : List (Nd α)) (S : List α) : List α := So.sort less (pick l (marks l S))
def headsL (l : List (Nd α)) (S : List α) : List α := (So.sort less S).filter fun d => decide (∀ e ∈ pick l (marks l S), d ∉ psOf l e)
def commonL (l : List (Nd α)) (a b : List α) : List α := headsL less l ((aboveL less l a).filter fun d => decide (d ∈ aboveL less l b))
def withinB (l : List (Nd α)) (a b : List α) : Bool := a.all fun d => decide (d ∈ aboveL less l b)
/-- Again and again the first one none of whose parents is still to come. -/
def ordR (P : α → List α) : Nat → List α → List α
  | 0, _ => []
  | k + 1, rest => match rest.find? (fun d => (P d).all fun p => decide (p ∉ rest)) with
    | none => []
    | some d => d :: ordR P k (rest.erase d)
def orderL (l : List (Nd α)) (S : List α) : List α := ordR (psOf l) (aboveL less l S).length (aboveL less l S)
def lacksL (l : List (Nd α)) (w h : List α) : List α := (orderL less l w).filter fun d => decide (d ∉ aboveL less l h)
theorem mem_above {l : List (Nd α)} (hl : Ok l) {S : List α} (hS : ∀ s ∈ S, s ∈ idsOf l) {d : α} : d ∈ aboveL less l S ↔ Rch l S d := by
  unfold aboveL; rw [So.sort_mem, mem_reach hl hS]
theorem mem_heads {l : List (Nd α)} (hl : Ok l) {S : List α} (hS : ∀ s ∈ S, s ∈ idsOf l) {d : α} : d ∈ headsL less l S ↔ d ∈ S ∧ ∀ e, Rch l S e → d ∉ psOf l e := by
  unfold headsL
  rw [List.mem_filter, So.sort_mem, decide_eq_true_iff]
  exact ⟨fun h => ⟨h.1, fun e he => h.2 e ((mem_reach hl hS).2 he)⟩, fun h => ⟨h.1, fun e he => h.2 e ((mem_reach hl hS).1 he)⟩⟩
end

/-! ### The order -/
section
variable {α : Type} [DecidableEq α]
/-- Where something is left one of it may come. -/
theorem ord_some {P : α → List α} {f : α → Nat} (hf : ∀ d p, p ∈ P d → f p < f d) {rest : List α} (h : rest ≠ []) : ∃ d, rest.find? (fun d => (P d).all fun p => decide (p ∉ rest)) = some d := by
  have key : ∀ n, (∃ d ∈ rest, f d ≤ n) → ∃ d ∈ rest, (P d).all (fun p => decide (p ∉ rest)) = true := by
    intro n
    induction n with
    | zero =>
      rintro ⟨d, hd, h0⟩
      refine ⟨d, hd, List.all_eq_true.2 fun p hp => ?_⟩
      have := hf d p hp
      omega
    | succ n ih =>
      rintro ⟨d, hd, hn⟩
      by_cases hall : (P d).all (fun p => decide (p ∉ rest)) = true
      · exact ⟨d, hd, hall⟩
      · have : ∃ p ∈ P d, p ∈ rest := by
          apply Decidable.byContradiction
          intro hc
          refine hall (List.all_eq_true.2 fun p hp => decide_eq_true fun hr => hc ⟨p, hp, hr⟩)
        obtain ⟨p, hp, hr⟩ := this
        have := hf d p hp
        exact ih ⟨p, hr, by omega⟩
  obtain ⟨d, hd⟩ := List.exists_mem_of_ne_nil rest h
  obtain ⟨e, he, hall⟩ := key (f d) ⟨d, hd, Nat.le_refl _⟩
  have := List.find?_isSome (xs := rest) (p := fun d => (P d).all fun p => decide (p ∉ rest))
  exact Option.isSome_iff_exists.1 (this.2 ⟨e, he, hall⟩)
theorem ordR_spec {P : α → List α} {f : α → Nat} (hf : ∀ d p, p ∈ P d → f p < f d) : ∀ (k : Nat) (rest : List α), rest.length = k → rest.Nodup →
    (ordR P k rest).Perm rest ∧ (∀ (A B : List α) (d : α), ordR P k rest = A ++ d :: B → ∀ p ∈ P d, p ∈ rest → p ∈ A)
  | 0, rest, hk, _ => by
    obtain rfl := List.eq_nil_of_length_eq_zero hk
    exact ⟨List.Perm.refl _, fun A B d h => by cases A <;> cases h⟩
  | k + 1, rest, hk, hn => by
    obtain ⟨d, hd⟩ := ord_some hf (rest := rest) (by rintro rfl; cases hk)
    have hm := List.mem_of_find?_eq_some hd
    have hp := List.find?_some hd
    have hl : (rest.erase d).length = k := by rw [List.length_erase_of_mem hm]; omega
    obtain ⟨ih1, ih2⟩ := ordR_spec hf k (rest.erase d) hl (hn.erase d)
    rw [ordR, hd]
    refine ⟨(ih1.cons d).trans (List.perm_cons_erase hm).symm, ?_⟩
    intro A B e he p hpe hpr
    cases A with
    | nil =>
      simp only [List.nil_append, List.cons.injEq] at he
      obtain ⟨rfl, _⟩ := he
      have := List.all_eq_true.1 hp p hpe
      exact absurd hpr (of_decide_eq_true this)
    | cons y A =>
      simp only [List.cons_append, List.cons.injEq] at he
      obtain ⟨rfl, he⟩ := he
      by_cases hpd : p = d
      · simp [hpd]
      · exact List.mem_cons_of_mem _ (ih2 A B e he p hpe ((List.mem_erase_of_ne hpd).2 hpr))
end
end Go.Proofs.Ytebfocfeehajjaa.Gr

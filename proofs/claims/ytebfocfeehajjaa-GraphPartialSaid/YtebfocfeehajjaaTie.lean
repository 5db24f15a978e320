/- What the numbers tell about the digests: all that some stand above, heads, the order. -/
import Derived.Test.YtebfocfeehajjaaLive
namespace Go.Proofs.Ytebfocfeehajjaa
open Go Go.RowKit

section
variable {α : Type} [DecidableEq α] (less : α → α → Bool)
theorem Gr.within_iff {l : List (Gr.Nd α)} {a b : List α} : Gr.withinB less l a b = true ↔ ∀ d ∈ a, d ∈ Gr.aboveL less l b := by
  unfold Gr.withinB; rw [List.all_eq_true]; simp
theorem Gr.lacks_is {l : List (Gr.Nd α)} {w h : List α} {p : α → Bool} (hp : ∀ d, p d = true ↔ d ∉ Gr.aboveL less l h) : Gr.lacksL less l w h = (Gr.orderL less l w).filter p := by
  unfold Gr.lacksL
  congr 1
  funext d
  rw [Bool.eq_iff_iff, decide_eq_true_iff, hp d]
theorem Gr.common_is {l : List (Gr.Nd α)} {a b : List α} {p : α → Bool} (hp : ∀ d, p d = true ↔ d ∈ Gr.aboveL less l b) : Gr.commonL less l a b = Gr.headsL less l ((Gr.aboveL less l a).filter p) := by
  unfold Gr.commonL
  congr 2
  funext d
  rw [Bool.eq_iff_iff, decide_eq_true_iff, hp d]
end
theorem numQ_eq (l : List Nod) (q : Qst) : numQ l q = q.1.map (Gr.fnd l) := by
  unfold numQ
  exact (List.map_congr_left fun d _ => (fnd_eq l d)).symm
theorem marksOf_eq (l : List Nod) (q : Qst) : Gr.marksOf l (numQ l q) = Gr.marks l q.1 := by unfold Gr.marks; rw [numQ_eq]
theorem getD_id {l : List Nod} {m : Nat} {x : Nod} (h : l[m]? = some x) : (Gr.idsOf l).getD m [] = x.id := by
  rw [List.getD_eq_getElem?_getD, Gr.ids_at h]; rfl
theorem marks_lt {bs : List Bool} {m : Nat} (h : bs.getD m false = true) : m < bs.length := by
  apply Decidable.byContradiction
  intro hc
  rw [List.getD_eq_getElem?_getD, List.getElem?_eq_none (by omega)] at h
  cases h
theorem digs_up {l : List Nod} (hD : ∀ s ∈ Gr.idsOf l, s.length = 32) {S : List (List UInt8)} (hS : ∀ s ∈ S, s ∈ Gr.idsOf l) : So.Up Tx.less (So.sort Tx.less S) :=
  So.sort_up (ok := fun s : List UInt8 => s.length = 32) Tx.less Tx.less_trans (fun a b ha hb h => less_or a b ha hb h) (fun x hx => hD x (hS x hx))
theorem ris_mem {l : List Nod} {bs : List Bool} {L : List Nat} (h : RisO (Gr.idsOf l) bs L) (hl : bs.length = l.length) {d : List UInt8} :
    d ∈ (L.map fun n => (Gr.idsOf l).getD n []) ↔ ∃ (m : Nat) (x : Nod), l[m]? = some x ∧ bs.getD m false = true ∧ x.id = d := by
  rw [List.mem_map]
  constructor
  · rintro ⟨n, hn, rfl⟩
    have hb := (h.mem n).1 hn
    have hlt := marks_lt hb
    rw [hl] at hlt
    exact ⟨n, l[n], List.getElem?_eq_getElem hlt, hb, (getD_id (List.getElem?_eq_getElem hlt)).symm⟩
  · rintro ⟨m, x, hx, hb, rfl⟩
    exact ⟨m, (h.mem m).2 hb, getD_id hx⟩
theorem ris_above {l : List Nod} (hl : Gr.Ok l) (hD : ∀ s ∈ Gr.idsOf l, s.length = 32) {q : Qst} (hq : ∀ s ∈ q.1, s ∈ Gr.idsOf l) {L : List Nat} (h : RisO (Gr.idsOf l) (Gr.marksOf l (numQ l q)) L) :
    (L.map fun n => (Gr.idsOf l).getD n []) = Gr.aboveL Tx.less l q.1 := by
  rw [marksOf_eq] at h
  refine So.up_uniq Tx.less Tx.less_self Tx.less_trans _ _ h.up (digs_up hD fun s hs => ?_) fun d => ?_
  · exact ((Gr.mem_reach hl hq).1 hs).ids hl hq
  · rw [ris_mem h (Gr.marks_length _ _), Gr.mem_above Tx.less hl hq]
    constructor
    · rintro ⟨m, x, hx, hb, rfl⟩; exact (Gr.marks_iff hl hq hx).1 hb
    · intro hr
      obtain ⟨x, hx, rfl⟩ := Gr.fnd_at (hr.ids hl hq)
      exact ⟨_, x, hx, (Gr.marks_iff hl hq hx).2 hr, rfl⟩
theorem heads_up {l : List Nod} (hD : ∀ s ∈ Gr.idsOf l, s.length = 32) {S : List (List UInt8)} (hS : ∀ s ∈ S, s ∈ Gr.idsOf l) : So.Up Tx.less (Gr.headsL Tx.less l S) := (digs_up hD hS).filter _
/-- Heads hang on what is in the list alone. -/
theorem heads_set {l : List Nod} (hl : Gr.Ok l) (hD : ∀ s ∈ Gr.idsOf l, s.length = 32) {S T : List (List UInt8)} (hS : ∀ s ∈ S, s ∈ Gr.idsOf l) (h : ∀ d, d ∈ S ↔ d ∈ T) : Gr.headsL Tx.less l S = Gr.headsL Tx.less l T := by
  have hT : ∀ s ∈ T, s ∈ Gr.idsOf l := fun s hs => hS s ((h s).2 hs)
  have hr : ∀ d, Gr.Rch l S d ↔ Gr.Rch l T d := fun d => ⟨fun hd => by
    induction hd with
    | base hd => exact .base ((h _).1 hd)
    | step _ hp ih => exact .step ih hp, fun hd => by
    induction hd with
    | base hd => exact .base ((h _).2 hd)
    | step _ hp ih => exact .step ih hp⟩
  refine So.up_uniq Tx.less Tx.less_self Tx.less_trans _ _ (heads_up hD hS) (heads_up hD hT) fun d => ?_
  rw [Gr.mem_heads Tx.less hl hS, Gr.mem_heads Tx.less hl hT, h d]
  exact ⟨fun ⟨h1, h2⟩ => ⟨h1, fun e he => h2 e ((hr e).2 he)⟩, fun ⟨h1, h2⟩ => ⟨h1, fun e he => h2 e ((hr e).1 he)⟩⟩
/-- The numbers S of some digests T. -/
structure NumOf (l : List Nod) (S : List Nat) (T : List (List UInt8)) : Prop where
  ids : ∀ s ∈ T, s ∈ Gr.idsOf l
  mem : ∀ n, n ∈ S ↔ ∃ s ∈ T, Gr.fnd l s = n
theorem numOf_q {l : List Nod} {q : Qst} (hq : ∀ s ∈ q.1, s ∈ Gr.idsOf l) : NumOf l (numQ l q) q.1 := ⟨hq, fun n => by rw [numQ_eq, List.mem_map]⟩
theorem sets_mem_eq {n : Nat} {S T : List Nat} (h : ∀ m, m ∈ S ↔ m ∈ T) : Gr.sets (List.replicate n false) S = Gr.sets (List.replicate n false) T := by
  refine Gr.getD_ext (by rw [Gr.sets_length, Gr.sets_length]) fun m _ => ?_
  rw [Gr.start_iff, Gr.start_iff, h m]
theorem ris_heads {l : List Nod} (hl : Gr.Ok l) (hD : ∀ s ∈ Gr.idsOf l, s.length = 32) {S : List Nat} {T : List (List UInt8)} (hS : NumOf l S T) {L : List Nat}
    (h : RisO (Gr.idsOf l) (unw (Gr.nums l) (Gr.sets (List.replicate l.length false) S) (Gr.vis (Gr.nums l) l.length (Gr.sets (List.replicate l.length false) S))) L) :
    (L.map fun n => (Gr.idsOf l).getD n []) = Gr.headsL Tx.less l T := by
  have hst : Gr.sets (List.replicate l.length false) S = Gr.sets (List.replicate l.length false) (T.map (Gr.fnd l)) := sets_mem_eq fun m => by rw [hS.mem, List.mem_map]
  rw [hst] at h
  have hlen : (unw (Gr.nums l) (Gr.sets (List.replicate l.length false) (T.map (Gr.fnd l))) (Gr.vis (Gr.nums l) l.length (Gr.sets (List.replicate l.length false) (T.map (Gr.fnd l))))).length = l.length := by
    rw [unw_length, Gr.sets_length, List.length_replicate]
  refine So.up_uniq Tx.less Tx.less_self Tx.less_trans _ _ h.up (heads_up hD hS.ids) fun d => ?_
  rw [ris_mem h hlen, Gr.mem_heads Tx.less hl hS.ids]
  have hvis : ∀ (j : Nat) (y : Nod), l[j]? = some y → (j ∈ Gr.vis (Gr.nums l) l.length (Gr.sets (List.replicate l.length false) (T.map (Gr.fnd l))) ↔ Gr.Rch l T y.id) := by
    intro j y hy
    rw [Gr.mem_vis hl.down]
    have := Gr.marks_iff hl hS.ids hy
    unfold Gr.marks Gr.marksOf at this
    rw [this]
    exact ⟨fun h => h.2, fun h => ⟨(List.getElem?_eq_some_iff.1 hy).1, h⟩⟩
  constructor
  · rintro ⟨m, x, hx, hb, rfl⟩
    obtain ⟨h1, h2⟩ := getD_unw.1 hb
    rw [Gr.start_iff, List.mem_map] at h1
    obtain ⟨⟨s, hs, hsm⟩, _⟩ := h1
    have hsx : x.id = s := by
      obtain ⟨z, hz, hze⟩ := Gr.fnd_at (hS.ids s hs)
      rw [hsm, hx] at hz
      cases hz
      exact hze
    refine ⟨hsx ▸ hs, fun e he hp => ?_⟩
    obtain ⟨y, hy, rfl⟩ := Gr.fnd_at (he.ids hl hS.ids)
    refine h2 _ ((hvis _ y hy).2 he) ?_
    rw [Gr.nums_at hy, List.mem_map]
    rw [Gr.psOf_is hl.nodup hy] at hp
    exact ⟨x.id, hp, Gr.fnd_is hl.nodup hx⟩
  · rintro ⟨hd, hn⟩
    obtain ⟨x, hx, rfl⟩ := Gr.fnd_at (hS.ids d hd)
    refine ⟨_, x, hx, getD_unw.2 ⟨Gr.start_iff.2 ⟨List.mem_map.2 ⟨_, hd, rfl⟩, (List.getElem?_eq_some_iff.1 hx).1⟩, fun j hj hp => ?_⟩, rfl⟩
    have hjl := ((Gr.mem_vis hl.down _).1 hj).1
    obtain ⟨y, hy⟩ : ∃ y, l[j]? = some y := ⟨_, List.getElem?_eq_getElem hjl⟩
    rw [Gr.nums_at hy, List.mem_map] at hp
    obtain ⟨p, hp, hpe⟩ := hp
    have hp' : p ∈ Gr.psOf l y.id := by rw [Gr.psOf_is hl.nodup hy]; exact hp
    have hpx : p = x.id := by
      obtain ⟨z, hz, hze⟩ := Gr.fnd_at (hl.par hp').2.1
      rw [hpe, hx] at hz
      cases hz
      exact hze.symm
    exact hn y.id ((hvis j y hy).1 hj) (hpx ▸ hp')

/-! ### The order -/
theorem find_map {α β : Type} (g : α → β) (p : β → Bool) : ∀ L : List α, (L.map g).find? p = (L.find? fun x => p (g x)).map g
  | [] => rfl
  | x :: L => by
    rw [List.map_cons, List.find?_cons, List.find?_cons]
    cases p (g x) with
    | true => rfl
    | false => exact find_map g p L
theorem erase_map {α β : Type} [DecidableEq α] [DecidableEq β] {g : α → β} {d : α} : ∀ {L : List α}, (∀ x ∈ L, g x = g d → x = d) → (L.map g).erase (g d) = (L.erase d).map g
  | [], _ => rfl
  | x :: L, h => by
    rw [List.map_cons, List.erase_cons, List.erase_cons]
    by_cases hx : x = d
    · subst hx; simp
    · have hg : g x ≠ g d := fun e => hx (h x (by simp) e)
      simp only [beq_iff_eq, hx, hg, if_false, List.map_cons, List.cons.injEq, true_and]
      exact erase_map fun y hy => h y (by simp [hy])
theorem find_congr' {α : Type} {p q : α → Bool} : ∀ {L : List α}, (∀ x ∈ L, p x = q x) → L.find? p = L.find? q
  | [], _ => rfl
  | x :: L, h => by
    rw [List.find?_cons, List.find?_cons, h x (by simp), find_congr' fun y hy => h y (by simp [hy])]
theorem ordR_map {α β : Type} [DecidableEq α] [DecidableEq β] {g : α → β} {P : α → List α} {P' : β → List β} {ok : α → Prop} (hinj : ∀ a b, ok a → ok b → g a = g b → a = b) (hP : ∀ a, ok a → P' (g a) = (P a).map g) (hPo : ∀ a, ok a → ∀ p ∈ P a, ok p) :
    ∀ (k : Nat) (R : List α), (∀ r ∈ R, ok r) → Gr.ordR P' k (R.map g) = (Gr.ordR P k R).map g
  | 0, _, _ => rfl
  | k + 1, R, hR => by
    have hf : (R.map g).find? (fun d => (P' d).all fun p => decide (p ∉ R.map g)) = (R.find? fun d => (P d).all fun p => decide (p ∉ R)).map g := by
      rw [find_map]
      congr 1
      apply find_congr'
      intro a ha
      rw [hP a (hR a ha), List.all_map]
      rw [Bool.eq_iff_iff, List.all_eq_true, List.all_eq_true]
      refine forall_congr' fun p => forall_congr' fun hp => ?_
      simp only [Function.comp, decide_eq_true_iff]
      refine not_congr ⟨fun h => ?_, fun h => List.mem_map.2 ⟨p, h, rfl⟩⟩
      obtain ⟨b, hb, hbe⟩ := List.mem_map.1 h
      rw [← hinj b p (hR b hb) (hPo a (hR a ha) p hp) hbe]
      exact hb
    rw [Gr.ordR, Gr.ordR, hf]
    cases hd : R.find? (fun d => (P d).all fun p => decide (p ∉ R)) with
    | none => rfl
    | some d =>
      have hdm := List.mem_of_find?_eq_some hd
      show g d :: Gr.ordR P' k ((R.map g).erase (g d)) = _
      rw [erase_map (fun x hx => hinj x d (hR x hx) (hR d hdm)), ordR_map hinj hP hPo k (R.erase d) (fun r hr => hR r (List.mem_of_mem_erase hr))]
      rfl
theorem ris_order {l : List Nod} (hl : Gr.Ok l) (hD : ∀ s ∈ Gr.idsOf l, s.length = 32) {q : Qst} (hq : ∀ s ∈ q.1, s ∈ Gr.idsOf l) {R0 K : List Nat} (h : RisO (Gr.idsOf l) (Gr.marksOf l (numQ l q)) R0) (hK : K = Gr.ordR (fun n => (Gr.nums l).getD n []) R0.length R0) :
    (K.map fun n => (Gr.idsOf l).getD n []) = Gr.orderL Tx.less l q.1 ∧ ∀ n ∈ K, n < (Gr.idsOf l).length := by
  have hR : ∀ r ∈ R0, r < (Gr.idsOf l).length := by
    intro r hr
    have := marks_lt ((h.mem r).1 hr)
    rwa [marksOf_eq, Gr.marks_length, ← Gr.ids_len] at this
  have hpl : ∀ a, a < (Gr.idsOf l).length → ∀ p ∈ (Gr.nums l).getD a [], p < (Gr.idsOf l).length := by
    intro a ha p hp
    have := hl.down a p hp
    omega
  subst hK
  constructor
  · have e := ris_above hl hD hq h
    unfold Gr.orderL
    rw [← e, List.length_map]
    refine (ordR_map (ok := fun n => n < (Gr.idsOf l).length) (fun a b ha hb he => getD_inj hl.nodup ha hb he) (fun a ha => ?_) hpl _ _ hR).symm
    rw [Gr.ids_len] at ha
    have hx := List.getElem?_eq_getElem ha
    show Gr.psOf l ((Gr.idsOf l).getD a []) = _
    rw [getD_id hx, Gr.psOf_is hl.nodup hx, Gr.nums_at hx, List.map_map]
    have key : (l[a].ps.map ((fun n => (Gr.idsOf l).getD n []) ∘ Gr.fnd l)) = l[a].ps.map id := List.map_congr_left fun p hp => ?_
    · rw [key, List.map_id]
    have hp' : p ∈ Gr.psOf l l[a].id := by rw [Gr.psOf_is hl.nodup hx]; exact hp
    obtain ⟨z, hz, hze⟩ := Gr.fnd_at (hl.par hp').2.1
    show (Gr.idsOf l).getD (Gr.fnd l p) [] = id p
    rw [getD_id hz, hze]; rfl
  · intro n hn
    have hperm := (Gr.ordR_spec (P := fun n => (Gr.nums l).getD n []) (f := id) (fun d p hp => hl.down d p hp) R0.length R0 rfl h.nodup).1
    exact hR n (hperm.mem_iff.1 hn)
end Go.Proofs.Ytebfocfeehajjaa

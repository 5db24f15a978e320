/- A list's nodes as a call finds them, and what each of the program's functions does to them. -/
import Derived.Test.YtebfocfeehajjaaPAsk
import Derived.Test.YtebfocfeehajjaaPOrdr
namespace Go.Proofs.Ytebfocfeehajjaa
open Go Go.RowKit

theorem chk_gr {l : List Nod} (h : (chk l).2 = 0) : (Gr.idsOf l).length ≤ 200 ∧ (Gr.idsOf l).Nodup ∧ (∀ (i : Nat) (L : List Nat), (Gr.nums l)[i]? = some L → L.length ≤ 8 ∧ ∀ p ∈ L, p < (Gr.idsOf l).length) ∧ Gr.Down (Gr.nums l) ∧ Gr.Ok l := by
  obtain ⟨h1, h2, h3⟩ := chk_ok h
  refine ⟨by rw [Gr.ids_len]; exact h1, h2.nodup, fun i L hL => ?_, h2.down, h2⟩
  unfold Gr.nums at hL
  rw [List.getElem?_map] at hL
  cases hx : l[i]? with
  | none => rw [hx] at hL; cases hL
  | some x =>
    rw [hx] at hL
    obtain rfl : x.ps.map (Gr.fnd l) = L := by simpa using hL
    refine ⟨by rw [List.length_map]; exact (h3 x (List.mem_of_getElem? hx)).1, fun p hp => ?_⟩
    obtain ⟨d, hd, rfl⟩ := List.mem_map.1 hp
    rw [Gr.ids_len, Gr.fnd_lt]
    obtain ⟨j, y, hj, hy, hyd⟩ := Gr.ids_take.1 (h2.ahead i x hx d hd)
    exact Gr.mem_ids.2 ⟨j, y, hy, hyd⟩

structure Live (base gb db mb : Nat) (A : Option Addr) (c : Nat) (B : Option Addr) (d : Nat) (V : List Value) (l : List Nod) (w : World) : Prop where
  ok : (chk l).2 = 0
  gm : ∃ bs, bs.length = (Gr.idsOf l).length ∧ GM base gb db mb A c B d V (Gr.idsOf l) (Gr.nums l) bs w
section
variable {base gb db mb : Nat} {A : Option Addr} {c : Nat} {B : Option Addr} {d : Nat} {V : List Value} {l : List Nod} {w w' : World}
theorem Live.below (h : Live base gb db mb A c B d V l w) (hb : Below w.heap.size w w') : Live base gb db mb A c B d V l w' := by
  obtain ⟨bs, h1, h2⟩ := h.gm
  exact ⟨h.ok, bs, h1, h2.below hb⟩
theorem Live.turned (h : Live base gb db mb A c B d V l w) (ht : Turned db (Gr.idsOf l).length w w') : Live base gb db mb A c B d V l w' := by
  obtain ⟨bs, h1, h2⟩ := h.gm
  obtain ⟨hg, bs', h3, h4⟩ := ht
  exact ⟨h.ok, bs', h3, h2.marks hg h4 (by rw [h1, h3])⟩
theorem Live.size (h : Live base gb db mb A c B d V l w) : base ≤ db ∧ db < w.heap.size := by
  obtain ⟨bs, h1, h2⟩ := h.gm
  exact ⟨h2.geo.2.1, h2.lt.2.1⟩
theorem Live.due (h : Live base gb db mb A c B d V l w) : ∃ bs : List Bool, Blk w db 4 (bl bs) := by
  obtain ⟨bs, h1, h2⟩ := h.gm
  exact ⟨bs, h2.due⟩
theorem Live.dig (h : Live base gb db mb A c B d V l w) : ∀ s ∈ Gr.idsOf l, s.length = 32 := by
  obtain ⟨bs, h1, h2⟩ := h.gm
  exact h2.dig
theorem turned_below (h : Live base gb db mb A c B d V l w) {n : Nat} (ht : Turned db n w w') : Below base w w' :=
  (Below.refl base w).grown ht.1 (by have := h.size; omega) (fun q hq => by cases hq; exact h.size.1)

theorem live_under (h : Live base gb db mb A c B d V l w) (b1 : Nat) (As : Option Addr) (cs : Nat) (S : List Nat) (hS : w.ownsRow b1 3 1 (.slice As S.length cs) S.length (nv S)) (hSl : S.length ≤ 4611686018427387904) (hSn : ∀ s ∈ S, s < (Gr.idsOf l).length) :
    Calls Try.prog 40 #[.pointer (some ⟨gb, 0, none⟩), .slice As S.length cs] w fun e w' => e = .returned (.slice (some ⟨w.heap.size, 0, none⟩) (Gr.idsOf l).length (Gr.idsOf l).length) ∧ Blk w' w.heap.size 4 (bl (Gr.marksOf l S)) ∧ Turned db (Gr.idsOf l).length w w' := by
  obtain ⟨bs, h1, h2⟩ := h.gm
  obtain ⟨g1, g2, g3, g4, g5⟩ := chk_gr h.ok
  have H := punder_any base gb db mb A c B d V _ _ bs w h2 h1 g1 g3 g4 b1 As cs S hS hSl hSn
  unfold Gr.marksOf
  rw [← Gr.ids_len]
  exact H
theorem live_rising (h : Live base gb db mb A c B d V l w) (g : Nat) (bs : List Bool) (cc : Nat) (hb : Blk w g 4 (bl bs)) (hbl : bs.length = (Gr.idsOf l).length) :
    Calls Try.prog 39 #[.pointer (some ⟨gb, 0, none⟩), .slice (some ⟨g, 0, none⟩) (Gr.idsOf l).length cc] w fun e w' => ∃ A' c' L, e = .returned (.slice A' L.length c') ∧ w'.ownsRow w.heap.size 3 1 (.slice A' L.length c') L.length (nv L) ∧ Below w.heap.size w w' ∧ RisO (Gr.idsOf l) bs L := by
  obtain ⟨bs', h1, h2⟩ := h.gm
  obtain ⟨g1, g2, g3, g4, g5⟩ := chk_gr h.ok
  rw [← hbl]
  exact prising_any gb base A c _ _ _ _ w h2.cells h2.own h2.dig g2 g1 g bs cc hb hbl
theorem live_tell (h : Live base gb db mb A c B d V l w) (BB : Nat) (As : Option Addr) (cs : Nat) (L : List Nat) (hL : Rd w BB As L.length (nv L)) (hBB : BB ≤ w.heap.size) (hl : L.length ≤ 200) (hLn : ∀ n ∈ L, n < (Gr.idsOf l).length) :
    Calls Try.prog 38 #[.pointer (some ⟨gb, 0, none⟩), .slice As L.length cs] w fun e w' => ∃ A' c', e = .returned (.slice A' L.length c') ∧ w'.ownsRow w.heap.size 47 32 (.slice A' L.length c') L.length (rows bv (L.map fun n => (Gr.idsOf l).getD n [])) ∧ Below w.heap.size w w' := by
  obtain ⟨bs', h1, h2⟩ := h.gm
  obtain ⟨g1, g2, g3, g4, g5⟩ := chk_gr h.ok
  exact ptell_any gb base A c _ _ _ _ w h2.cells h2.own h2.dig g1 BB As cs L hL hBB hl hLn
theorem live_heads (h : Live base gb db mb A c B d V l w) (b1 : Nat) (As : Option Addr) (cs : Nat) (S : List Nat) (hS : w.ownsRow b1 3 1 (.slice As S.length cs) S.length (nv S)) (hSl : S.length ≤ 4611686018427387904) (hSn : ∀ s ∈ S, s < (Gr.idsOf l).length) :
    Calls Try.prog 43 #[.pointer (some ⟨gb, 0, none⟩), .slice As S.length cs] w fun e w' => ∃ A' c' L, e = .returned (.slice A' L.length c') ∧ w'.ownsRow w.heap.size 3 1 (.slice A' L.length c') L.length (nv L) ∧ Turned db (Gr.idsOf l).length w w' ∧
      RisO (Gr.idsOf l) (unw (Gr.nums l) (Gr.sets (List.replicate l.length false) S) (Gr.vis (Gr.nums l) l.length (Gr.sets (List.replicate l.length false) S))) L := by
  obtain ⟨bs, h1, h2⟩ := h.gm
  obtain ⟨g1, g2, g3, g4, g5⟩ := chk_gr h.ok
  have H := pheads_any base gb db mb A c B d V _ _ bs w h2 h1 g1 g2 g3 g4 b1 As cs S hS hSl hSn
  rw [← Gr.ids_len]
  exact H
theorem live_order (h : Live base gb db mb A c B d V l w) (b1 : Nat) (As : Option Addr) (cs : Nat) (S : List Nat) (hS : w.ownsRow b1 3 1 (.slice As S.length cs) S.length (nv S)) (hSl : S.length ≤ 4611686018427387904) (hSn : ∀ s ∈ S, s < (Gr.idsOf l).length) :
    Calls Try.prog 46 #[.pointer (some ⟨gb, 0, none⟩), .slice As S.length cs] w fun e w' => ∃ A' c' R0 K, e = .returned (.slice A' K.length c') ∧ w'.ownsRow w.heap.size 3 1 (.slice A' K.length c') K.length (nv K) ∧ Turned db (Gr.idsOf l).length w w' ∧
      RisO (Gr.idsOf l) (Gr.marksOf l S) R0 ∧ K = Gr.ordR (fun n => (Gr.nums l).getD n []) R0.length R0 ∧ K.length ≤ 200 := by
  obtain ⟨bs, h1, h2⟩ := h.gm
  obtain ⟨g1, g2, g3, g4, g5⟩ := chk_gr h.ok
  have H := porder_any base gb db mb A c B d V _ _ bs w h2 h1 g1 g2 g3 g4 b1 As cs S hS hSl hSn
  unfold Gr.marksOf
  rw [← Gr.ids_len]
  exact H
end

/-- Why a question is not answered; 0: it is. -/
def askE (l : List Nod) (Ls : List (List (List UInt8))) : Nat := if (chk l).2 ≠ 0 then (chk l).2 else if ∀ q ∈ Ls, ∀ s ∈ q, s ∈ Gr.idsOf l then 0 else 5
/-- An answer that is a list of digests. -/
def LstO (er : Nat) (R : List (List UInt8)) (w : World) (e : Ending) (w' : World) : Prop :=
  Below w.heap.size w w' ∧ ((er ≠ 0 ∧ e = .returned (.tuple #[.slice none 0 0, .int .i64 (er : Int)])) ∨
    (er = 0 ∧ R.length ≤ 200 ∧ ∃ A c, e = .returned (.tuple #[.slice A R.length c, .int .i64 0]) ∧ w'.ownsRow w.heap.size 47 32 (.slice A R.length c) R.length (rows bv R)))
/-- What a question leaves, for the functions that ask. -/
def AskdO (l : List Nod) (Ls : List Qst) (w : World) (e : Ending) (w' : World) : Prop :=
  Below w.heap.size w w' ∧ ((askE l (Ls.map fun q => q.1) ≠ 0 ∧ e = .returned (.tuple #[.pointer none, .slice none 0 0, .int .i64 (askE l (Ls.map fun q => q.1) : Int)])) ∨
    (askE l (Ls.map fun q => q.1) = 0 ∧ (∀ q ∈ Ls, ∀ s ∈ q.1, s ∈ Gr.idsOf l) ∧ ∃ gb db mb A c B d V AQ cQ W, e = .returned (.tuple #[.pointer (some ⟨gb, 0, none⟩), .slice AQ Ls.length cQ, .int .i64 0]) ∧
      Live w.heap.size gb db mb A c B d V l w' ∧ Askd w.heap.size (.slice AQ Ls.length cQ) W (Ls.map (numQ l)) w'))
theorem askdO {l : List Nod} {Ls : List Qst} {w w' : World} {e : Ending} (h : AskO l Ls w e w') : AskdO l Ls w e w' := by
  obtain ⟨hb, ⟨h1, h2⟩ | ⟨h1, h2, h3⟩ | ⟨h1, h2, gb, db, mb, A, c, B, d, V, bs, AQ, cQ, W, h3, h4, h5, h6⟩⟩ := h
  · have he : askE l (Ls.map fun q => q.1) = (chk l).2 := by unfold askE; rw [if_pos h1]
    refine ⟨hb, .inl ?_⟩
    rw [he]; exact ⟨h1, h2⟩
  · have he : askE l (Ls.map fun q => q.1) = 5 := by
      unfold askE
      rw [if_neg (by rw [h1]; decide), if_neg]
      intro h
      exact h2 (fun q hq => h _ (List.mem_map.2 ⟨q, hq, rfl⟩))
    refine ⟨hb, .inl ?_⟩
    rw [he]; exact ⟨by decide, h3⟩
  · have he : askE l (Ls.map fun q => q.1) = 0 := by
      unfold askE
      rw [if_neg (by rw [h1]; decide), if_pos]
      intro q hq
      obtain ⟨q', hq', rfl⟩ := List.mem_map.1 hq
      exact h2 q' hq'
    exact ⟨hb, .inr ⟨he, h2, gb, db, mb, A, c, B, d, V, AQ, cQ, W, h4, ⟨h1, bs, by rw [Gr.ids_len, h3], h5⟩, h6⟩⟩
/-- The one list that was asked about. -/
theorem Askd.at {base : Nat} {AQ : Option Addr} {n cQ : Nat} {W : List Value} {K : List (List Nat)} {w : World} (h : Askd base (.slice AQ n cQ) W K w) (hn : K.length = n) {i : Nat} {L : List Nat} (hL : K[i]? = some L) :
    ∃ ad A' c', AQ = some ad ∧ w.cell? (ad.add i) = some (.slice A' L.length c') ∧ w.ownsRow base 3 1 (.slice A' L.length c') L.length (nv L) := by
  obtain ⟨A', c', h1, h2⟩ := h.row i L hL
  have ho := h.own
  rw [hn] at ho
  obtain ⟨ad, u, hA, -, hu, hcu⟩ := (Rd.of_own ho).spot (k := i) (by have := (List.getElem?_eq_some_iff.1 hL).1; omega)
  rw [h1] at hu
  obtain rfl := Option.some.inj hu
  exact ⟨ad, A', c', hA, hcu, h2⟩
theorem numQ_lt {l : List Nod} {q : Qst} (h : ∀ s ∈ q.1, s ∈ Gr.idsOf l) : ∀ n ∈ numQ l q, n < (Gr.idsOf l).length := by
  intro n hn
  obtain ⟨s, hs, rfl⟩ := List.mem_map.1 hn
  exact List.idxOf_lt_length_iff.2 (h s hs)
end Go.Proofs.Ytebfocfeehajjaa

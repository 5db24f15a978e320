/- Scripts of calls that came in; and append, which says what it grew, in a region that draws its order. -/
import Derived.Test.YtkgkllpecpcgjaaDoorPieces
import Derived.Test.YtkgkllpecpcgjaaDoorZed
import Derived.Test.YtkgkllpecpcgjaaDoorQuiet
namespace Go.Proofs.YtkgkllpecpcgjaaDoor
open Go Go.RowKit

/-- A call of a script: its kind, whose it is, its bytes. -/
structure Step where
  kind : Int
  two : Bool
  bit : Bit
instance : Inhabited Step := ⟨⟨0, false, none, 0, []⟩⟩
def stepCells (s : Step) : List Value := [.int .i64 s.kind, .bool s.two, bitv s.bit]

/-- A slice of n steps, at A, reads as L; it lies below block B. -/
def RdS (w : World) (B : Nat) (A : Option Addr) (n : Nat) (L : List Step) : Prop :=
  L.length = n ∧ (0 < n → ∃ ad, A = some ad ∧ ad.block < B ∧ ∀ (i : Nat) (s : Step), L[i]? = some s → ∀ (j : Nat) (u : Value), (stepCells s)[j]? = some u → w.cell? (ad.add (i * 3 + j)) = some u)

def said (L : List Step) : List UInt8 := flat (L.map (·.bit))

section
variable {w w' : World} {B B' n : Nat} {A : Option Addr} {L : List Step}
theorem RdS.below (h : RdS w B A n L) (hb : Below B w w') : RdS w' B A n L :=
  ⟨h.1, fun hn => by
    obtain ⟨ad, e, hlt, hc⟩ := h.2 hn
    exact ⟨ad, e, hlt, fun i s hs j u hu => (hb.cell (by rw [block_add]; exact hlt)).trans (hc i s hs j u hu)⟩⟩
theorem RdS.nil (w : World) (B : Nat) (A : Option Addr) : RdS w B A 0 [] := ⟨rfl, fun h => absurd h (Nat.lt_irrefl 0)⟩
end

/-- APPEND, one operation of a region: what it grew. -/
theorem op_appG {P : Program} (w : World) {o : Oper} {a : Act} {K : Act → World → Prop} {Q : Exit → Act → World → Prop} (s r : Operand) (t tx : TypeId)
    (ho : o.op = .call { callee := .builtin .append, args := #[s, r], argTypes := #[t, tx] })
    (base : Nat) (e : TypeId) (i : TypeInfo) (z : Value) (bytes : Nat) (ht : P.underlying t = some (.slice e)) (hi : P.info? e = some i) (hz : i.zero = some z)
    (hsize : i.size = 1) (hby : i.bytes = bytes) (hzs : z.cells.size = 1)
    (v : Value) (n : Nat) (xs : List Value) (hv : a.eval s = v) (hown : w.ownsRow base e 1 v n xs) (x : Value) (m : Nat) (news : List Value) (hx : a.eval r = x) (hs : Src P 1 tx x m news w)
    (h63 : n + m ≤ maxLen) (hbytes : (n + m) * bytes ≤ 140737488355328) (hbase : base ≤ w.heap.size)
    (h : ∀ v' w', w'.ownsRow base e 1 v' (n + m) (xs ++ news) → w.grownBy w' v.ownBlock → (v'.ownBlock = v.ownBlock ∨ v'.ownBlock = some w.heap.size) → K (a.put o.dst v') w') : Oper.wp P o a w K Q := by
  obtain ⟨v', w', hr, h2, h3, h4, h5⟩ := run_app (P := P) w base t tx o.type e i z bytes ht hi hz hsize hby hzs v n xs hown x m news hs h63 hbytes hbase
  unfold Oper.wp execOp
  simp only [ho, resolve, invoke, builtin, Sem.run_bind, Sem.run_pure, Result.andThen_ok, List.map_toArray, List.map_cons, List.map_nil, hv, hx, hr]
  exact h v' w' h2 h3 h4

/-- A row of the call's own is no block that is known to be of another type. -/
theorem own_ne {w : World} {base g k n : Nat} {e t : TypeId} {v : Value} {xs : List Value} {cs : Array Value} (h : w.ownsRow base e k v n xs) (hb : Blk w g t cs) (hne : t ≠ e) : v.ownBlock ≠ some g := by
  rcases h.2 with ⟨rfl, -⟩ | ⟨q, cap, cur, rfl, -, hq, -⟩
  · intro h; cases h
  · intro hq2
    obtain rfl : q = g := Option.some.inj hq2
    unfold Blk at hb
    rw [hb] at hq
    simp only [Option.some.injEq, Obj.cells.injEq] at hq
    exact hne hq.2.1

/-- A one-cell value stored into a block that is known whole, one operation of a region. -/
theorem wp_store_blk {P : Program} {o : Oper} {a : Act} {w : World} {K : Act → World → Prop} {Q : Exit → Act → World → Prop} (ty : TypeId) (x y : Operand) (ho : o.op = .store ty x y)
    (g i : Nat) (v : Value) (hx : a.eval x = .pointer (some ⟨g, i, none⟩)) (hy : a.eval y = v) (t : TypeId) (cs : Array Value) (hg : Blk w g t cs) (hi : i < cs.size) (hv : v.oneCell' = true) (hinfo : (P.info? ty).map (·.size) = some 1)
    (h : ∀ w', Blk w' g t (cs.setIfInBounds i v) → w.grownBy w' (some g) → K (a.put o.dst undef) w') : Oper.wp P o a w K Q := by
  have hc : w.cell? ⟨g, i, none⟩ = some cs[i] := by rw [hg.cell i, Array.getElem?_eq_getElem hi]
  unfold Oper.wp execOp
  simp only [ho, hx, hy, Instr.storeAt, Instr.sureAddr, Sem.run_bind, Sem.run_pure, Result.andThen_ok, run_storeVar_cell (P := P) ty hinfo ⟨g, i, none⟩ v _ hv w hc (hg.frozen i)]
  exact h _ (hg.set_ i v) (only_set (World.grownBy.refl w _) i v)

theorem own_mono {w : World} {base base' n k : Nat} {e : TypeId} {v : Value} {xs : List Value} (h : w.ownsRow base e k v n xs) (hb : base' ≤ base) : w.ownsRow base' e k v n xs :=
  ⟨h.1, h.2.imp id fun ⟨g, cap, cur, hv, hg, r⟩ => ⟨g, cap, cur, hv, Nat.le_trans hb hg, r⟩⟩

/-- The cells of a row of bytes: each holds some byte. -/
def Bytes (n : Nat) (xs : List Value) : Prop := ∀ m, m < n → ∃ z : Int, xs[m]? = some (.int .u8 z)
theorem Bytes.bv (l : List UInt8) : Bytes l.length (bv l) := fun m hm => ⟨_, by unfold Go.Proofs.YtkgkllpecpcgjaaDoor.bv; rw [List.getElem?_map, List.getElem?_eq_getElem hm]; rfl⟩
theorem Bytes.set {n j : Nat} {xs : List Value} (h : Bytes n xs) (hl : xs.length = n) (z : Int) : Bytes n (xs.set j (.int .u8 z)) := fun m hm => by
  rw [List.getElem?_set]
  split
  · rename_i e
    subst e
    exact ⟨z, by rw [if_pos (by omega)]⟩
  · exact h m hm

/-- What a round of DigestPlays finds: two hashes, the bytes that each was given, two rows of bytes; in blocks of their own. -/
structure PlG (w : World) (GH GA g0 g1 : Nat) (D0 D1 F0 F1 : List UInt8) (A0 A1 : Option Addr) (c0 c1 : Nat) (wr : World) : Prop where
  h0 : HashIs wr g0 D0
  h1 : HashIs wr g1 D1
  hne : g0 ≠ g1
  hg0 : w.heap.size ≤ g0
  hg1 : w.heap.size ≤ g1
  hH : Blk wr GH 34 #[.pointer (some ⟨g0, 0, none⟩), .pointer (some ⟨g1, 0, none⟩)]
  hGH : w.heap.size ≤ GH
  hA : Blk wr GA 22 #[.slice A0 F0.length c0, .slice A1 F1.length c1]
  hGA : w.heap.size ≤ GA
  o0 : wr.ownsRow w.heap.size 5 1 (.slice A0 F0.length c0) F0.length (bv F0)
  o1 : wr.ownsRow w.heap.size 5 1 (.slice A1 F1.length c1) F1.length (bv F1)
  hd : ∀ q, (Value.slice A0 F0.length c0).ownBlock = some q → (Value.slice A1 F1.length c1).ownBlock ≠ some q
  hB : Below w.heap.size w wr

section
variable {w wr wr' wr'' : World} {GH GA g0 g1 c0 c1 : Nat} {D0 D1 F0 F1 : List UInt8} {A0 A1 : Option Addr}
theorem PlG.later (h : PlG w GH GA g0 g1 D0 D1 F0 F1 A0 A1 c0 c1 wr) (hb : Below wr.heap.size wr wr') : PlG w GH GA g0 g1 D0 D1 F0 F1 A0 A1 c0 c1 wr' where
  h0 := Blk.later h.h0 hb
  h1 := Blk.later h.h1 hb
  hne := h.hne
  hg0 := h.hg0
  hg1 := h.hg1
  hH := h.hH.later hb
  hGH := h.hGH
  hA := h.hA.later hb
  hGA := h.hGA
  o0 := own_below h.o0 hb
  o1 := own_below h.o1 hb
  hd := h.hd
  hB := h.hB.trans (hb.mono h.hB.size)

/-- Behind what writes into another row of bytes. -/
theorem PlG.other {q : Nat} {cur : Array Value} (h : PlG w GH GA g0 g1 D0 D1 F0 F1 A0 A1 c0 c1 wr) (hq : Blk wr q 5 cur) (h0 : (Value.slice A0 F0.length c0).ownBlock ≠ some q) (h1 : (Value.slice A1 F1.length c1).ownBlock ≠ some q) (hge : w.heap.size ≤ q) (hg : wr.grownBy wr' (some q)) : PlG w GH GA g0 g1 D0 D1 F0 F1 A0 A1 c0 c1 wr' where
  h0 := Blk.grown h.h0 hg (fun e => Blk.ne_ h.h0 hq (by decide) (Option.some.inj e))
  h1 := Blk.grown h.h1 hg (fun e => Blk.ne_ h.h1 hq (by decide) (Option.some.inj e))
  hne := h.hne
  hg0 := h.hg0
  hg1 := h.hg1
  hH := Blk.grown h.hH hg (fun e => Blk.ne_ h.hH hq (by decide) (Option.some.inj e))
  hGH := h.hGH
  hA := Blk.grown h.hA hg (fun e => Blk.ne_ h.hA hq (by decide) (Option.some.inj e))
  hGA := h.hGA
  o0 := h.o0.kept hg (.inr h0)
  o1 := h.o1.kept hg (.inr h1)
  hd := h.hd
  hB := h.hB.grown hg h.hB.size (fun k hk => by cases hk; exact hge)

theorem PlG.wrote0 {D' : List UInt8} (h : PlG w GH GA g0 g1 D0 D1 F0 F1 A0 A1 c0 c1 wr) (hD : HashIs wr' g0 D') (hg : wr.grownBy wr' (some g0)) : PlG w GH GA g0 g1 D' D1 F0 F1 A0 A1 c0 c1 wr' where
  h0 := hD
  h1 := Blk.grown h.h1 hg (fun e => h.hne.symm (Option.some.inj e))
  hne := h.hne
  hg0 := h.hg0
  hg1 := h.hg1
  hH := Blk.grown h.hH hg (fun e => Blk.ne_ h.hH h.h0 (by decide) (Option.some.inj e))
  hGH := h.hGH
  hA := Blk.grown h.hA hg (fun e => Blk.ne_ h.hA h.h0 (by decide) (Option.some.inj e))
  hGA := h.hGA
  o0 := h.o0.kept hg (.inr (own_ne h.o0 h.h0 (by decide)))
  o1 := h.o1.kept hg (.inr (own_ne h.o1 h.h0 (by decide)))
  hd := h.hd
  hB := h.hB.grown hg h.hB.size (fun q hq => by cases hq; exact h.hg0)

theorem PlG.grew0 {F' : List UInt8} {A' : Option Addr} {c' : Nat} (h : PlG w GH GA g0 g1 D0 D1 F0 F1 A0 A1 c0 c1 wr) (ho : wr'.ownsRow w.heap.size 5 1 (.slice A' F'.length c') F'.length (bv F')) (hg : wr.grownBy wr' (Value.slice A0 F0.length c0).ownBlock)
    (halt : (Value.slice A' F'.length c').ownBlock = (Value.slice A0 F0.length c0).ownBlock ∨ (Value.slice A' F'.length c').ownBlock = some wr.heap.size)
    (hA' : Blk wr'' GA 22 #[.slice A' F'.length c', .slice A1 F1.length c1]) (hg' : wr'.grownBy wr'' (some GA)) : PlG w GH GA g0 g1 D0 D1 F' F1 A' A1 c' c1 wr'' := by
  have hA1 : Blk wr' GA 22 _ := Blk.grown h.hA hg (fun e => own_ne h.o0 h.hA (by decide) e.symm)
  have hoJ : wr'.ownsRow w.heap.size 5 1 (.slice A1 F1.length c1) F1.length (bv F1) := h.o1.kept hg (by
    cases hq : (Value.slice A1 F1.length c1).ownBlock with
    | none => exact .inl rfl
    | some q => exact .inr (fun e => h.hd q (by rw [← e]) hq))
  have hh0 : Blk wr' g0 52 _ := Blk.grown h.h0 hg (fun e => own_ne h.o0 h.h0 (by decide) e.symm)
  have hh1 : Blk wr' g1 52 _ := Blk.grown h.h1 hg (fun e => own_ne h.o0 h.h1 (by decide) e.symm)
  have hHH : Blk wr' GH 34 _ := Blk.grown h.hH hg (fun e => own_ne h.o0 h.hH (by decide) e.symm)
  have hoK' : (Value.slice A' F'.length c').ownBlock ≠ some GA := own_ne ho hA1 (by decide)
  have hoJ' := own_ne hoJ hA1 (by decide)
  have hdj : ∀ q, (Value.slice A' F'.length c').ownBlock = some q → (Value.slice A1 F1.length c1).ownBlock ≠ some q := fun q hq e => by
    rcases halt with h1 | h1
    · rw [h1] at hq; exact h.hd q hq e
    · rw [h1] at hq; cases hq; have := (h.o1.lt _ e).2; omega
  exact {
    h0 := Blk.grown hh0 hg' (fun e => Blk.ne_ hh0 hA1 (by decide) (Option.some.inj e))
    h1 := Blk.grown hh1 hg' (fun e => Blk.ne_ hh1 hA1 (by decide) (Option.some.inj e))
    hne := h.hne
    hg0 := h.hg0
    hg1 := h.hg1
    hH := Blk.grown hHH hg' (fun e => Blk.ne_ hHH hA1 (by decide) (Option.some.inj e))
    hGH := h.hGH
    hA := hA'
    hGA := h.hGA
    o0 := ho.kept hg' (.inr hoK')
    o1 := hoJ.kept hg' (.inr hoJ')
    hd := hdj
    hB := (h.hB.grown hg h.hB.size (fun q hq => (h.o0.lt q hq).1)).grown hg' (Nat.le_trans h.hB.size hg.size) (fun q hq => by cases hq; exact h.hGA) }

theorem PlG.made0 {F' : List UInt8} {A' : Option Addr} {c' : Nat} (h : PlG w GH GA g0 g1 D0 D1 F0 F1 A0 A1 c0 c1 wr) (hb : Below wr.heap.size wr wr') (ho : wr'.ownsRow wr.heap.size 5 1 (.slice A' F'.length c') F'.length (bv F'))
    (hA' : Blk wr'' GA 22 #[.slice A' F'.length c', .slice A1 F1.length c1]) (hg' : wr'.grownBy wr'' (some GA)) : PlG w GH GA g0 g1 D0 D1 F' F1 A' A1 c' c1 wr'' := by
  have h2 := h.later hb
  have ho2 := own_mono ho h.hB.size
  exact {
    h0 := Blk.grown h2.h0 hg' (fun e => Blk.ne_ h2.h0 h2.hA (by decide) (Option.some.inj e))
    h1 := Blk.grown h2.h1 hg' (fun e => Blk.ne_ h2.h1 h2.hA (by decide) (Option.some.inj e))
    hne := h.hne
    hg0 := h.hg0
    hg1 := h.hg1
    hH := Blk.grown h2.hH hg' (fun e => Blk.ne_ h2.hH h2.hA (by decide) (Option.some.inj e))
    hGH := h.hGH
    hA := hA'
    hGA := h.hGA
    o0 := ho2.kept hg' (.inr (own_ne ho2 h2.hA (by decide)))
    o1 := h2.o1.kept hg' (.inr (own_ne h2.o1 h2.hA (by decide)))
    hd := fun q hq e => by
      have h3 := (ho.lt q hq).1
      have h4 := (h.o1.lt q e).2
      omega
    hB := h2.hB.grown hg' h2.hB.size (fun q hq => by cases hq; exact h.hGA) }

theorem PlG.copied0 {D' : List UInt8} {g' : Nat} (h : PlG w GH GA g0 g1 D0 D1 F0 F1 A0 A1 c0 c1 wr) (hb : Below wr.heap.size wr wr') (hD : HashIs wr' g' D') (hg : wr.heap.size ≤ g')
    (hH' : Blk wr'' GH 34 #[.pointer (some ⟨g', 0, none⟩), .pointer (some ⟨g1, 0, none⟩)]) (hg' : wr'.grownBy wr'' (some GH)) : PlG w GH GA g' g1 D' D1 F0 F1 A0 A1 c0 c1 wr'' := by
  have h2 := h.later hb
  have hlt := Blk.lt h.h1
  have hB := h.hB.size
  exact {
    h0 := Blk.grown hD hg' (fun e => Blk.ne_ hD h2.hH (by decide) (Option.some.inj e))
    h1 := Blk.grown h2.h1 hg' (fun e => Blk.ne_ h2.h1 h2.hH (by decide) (Option.some.inj e))
    hne := by omega
    hg0 := by omega
    hg1 := h.hg1
    hH := hH'
    hGH := h.hGH
    hA := Blk.grown h2.hA hg' (fun e => Blk.ne_ h2.hA h2.hH (by decide) (Option.some.inj e))
    hGA := h.hGA
    o0 := h2.o0.kept hg' (.inr (own_ne h2.o0 h2.hH (by decide)))
    o1 := h2.o1.kept hg' (.inr (own_ne h2.o1 h2.hH (by decide)))
    hd := h.hd
    hB := h2.hB.grown hg' h2.hB.size (fun q hq => by cases hq; exact h.hGH) }

theorem PlG.wrote1 {D' : List UInt8} (h : PlG w GH GA g0 g1 D0 D1 F0 F1 A0 A1 c0 c1 wr) (hD : HashIs wr' g1 D') (hg : wr.grownBy wr' (some g1)) : PlG w GH GA g0 g1 D0 D' F0 F1 A0 A1 c0 c1 wr' where
  h1 := hD
  h0 := Blk.grown h.h0 hg (fun e => h.hne (Option.some.inj e))
  hne := h.hne
  hg0 := h.hg0
  hg1 := h.hg1
  hH := Blk.grown h.hH hg (fun e => Blk.ne_ h.hH h.h1 (by decide) (Option.some.inj e))
  hGH := h.hGH
  hA := Blk.grown h.hA hg (fun e => Blk.ne_ h.hA h.h1 (by decide) (Option.some.inj e))
  hGA := h.hGA
  o0 := h.o0.kept hg (.inr (own_ne h.o0 h.h1 (by decide)))
  o1 := h.o1.kept hg (.inr (own_ne h.o1 h.h1 (by decide)))
  hd := h.hd
  hB := h.hB.grown hg h.hB.size (fun q hq => by cases hq; exact h.hg1)

theorem PlG.grew1 {F' : List UInt8} {A' : Option Addr} {c' : Nat} (h : PlG w GH GA g0 g1 D0 D1 F0 F1 A0 A1 c0 c1 wr) (ho : wr'.ownsRow w.heap.size 5 1 (.slice A' F'.length c') F'.length (bv F')) (hg : wr.grownBy wr' (Value.slice A1 F1.length c1).ownBlock)
    (halt : (Value.slice A' F'.length c').ownBlock = (Value.slice A1 F1.length c1).ownBlock ∨ (Value.slice A' F'.length c').ownBlock = some wr.heap.size)
    (hA' : Blk wr'' GA 22 #[.slice A0 F0.length c0, .slice A' F'.length c']) (hg' : wr'.grownBy wr'' (some GA)) : PlG w GH GA g0 g1 D0 D1 F0 F' A0 A' c0 c' wr'' := by
  have hA1 : Blk wr' GA 22 _ := Blk.grown h.hA hg (fun e => own_ne h.o1 h.hA (by decide) e.symm)
  have hoJ : wr'.ownsRow w.heap.size 5 1 (.slice A0 F0.length c0) F0.length (bv F0) := h.o0.kept hg (by
    cases hq : (Value.slice A0 F0.length c0).ownBlock with
    | none => exact .inl rfl
    | some q => exact .inr (fun e => h.hd q hq (by rw [← e])))
  have hh0 : Blk wr' g0 52 _ := Blk.grown h.h0 hg (fun e => own_ne h.o1 h.h0 (by decide) e.symm)
  have hh1 : Blk wr' g1 52 _ := Blk.grown h.h1 hg (fun e => own_ne h.o1 h.h1 (by decide) e.symm)
  have hHH : Blk wr' GH 34 _ := Blk.grown h.hH hg (fun e => own_ne h.o1 h.hH (by decide) e.symm)
  have hoK' : (Value.slice A' F'.length c').ownBlock ≠ some GA := own_ne ho hA1 (by decide)
  have hoJ' := own_ne hoJ hA1 (by decide)
  have hdj : ∀ q, (Value.slice A' F'.length c').ownBlock = some q → (Value.slice A0 F0.length c0).ownBlock ≠ some q := fun q hq e => by
    rcases halt with h1 | h1
    · rw [h1] at hq; exact h.hd q e hq
    · rw [h1] at hq; cases hq; have := (h.o0.lt _ e).2; omega
  exact {
    h0 := Blk.grown hh0 hg' (fun e => Blk.ne_ hh0 hA1 (by decide) (Option.some.inj e))
    h1 := Blk.grown hh1 hg' (fun e => Blk.ne_ hh1 hA1 (by decide) (Option.some.inj e))
    hne := h.hne
    hg0 := h.hg0
    hg1 := h.hg1
    hH := Blk.grown hHH hg' (fun e => Blk.ne_ hHH hA1 (by decide) (Option.some.inj e))
    hGH := h.hGH
    hA := hA'
    hGA := h.hGA
    o1 := ho.kept hg' (.inr hoK')
    o0 := hoJ.kept hg' (.inr hoJ')
    hd := fun q hq e => hdj q e hq
    hB := (h.hB.grown hg h.hB.size (fun q hq => (h.o1.lt q hq).1)).grown hg' (Nat.le_trans h.hB.size hg.size) (fun q hq => by cases hq; exact h.hGA) }

theorem PlG.made1 {F' : List UInt8} {A' : Option Addr} {c' : Nat} (h : PlG w GH GA g0 g1 D0 D1 F0 F1 A0 A1 c0 c1 wr) (hb : Below wr.heap.size wr wr') (ho : wr'.ownsRow wr.heap.size 5 1 (.slice A' F'.length c') F'.length (bv F'))
    (hA' : Blk wr'' GA 22 #[.slice A0 F0.length c0, .slice A' F'.length c']) (hg' : wr'.grownBy wr'' (some GA)) : PlG w GH GA g0 g1 D0 D1 F0 F' A0 A' c0 c' wr'' := by
  have h2 := h.later hb
  have ho2 := own_mono ho h.hB.size
  exact {
    h0 := Blk.grown h2.h0 hg' (fun e => Blk.ne_ h2.h0 h2.hA (by decide) (Option.some.inj e))
    h1 := Blk.grown h2.h1 hg' (fun e => Blk.ne_ h2.h1 h2.hA (by decide) (Option.some.inj e))
    hne := h.hne
    hg0 := h.hg0
    hg1 := h.hg1
    hH := Blk.grown h2.hH hg' (fun e => Blk.ne_ h2.hH h2.hA (by decide) (Option.some.inj e))
    hGH := h.hGH
    hA := hA'
    hGA := h.hGA
    o1 := ho2.kept hg' (.inr (own_ne ho2 h2.hA (by decide)))
    o0 := h2.o0.kept hg' (.inr (own_ne h2.o0 h2.hA (by decide)))
    hd := fun q hq e => by
      have h3 := (ho.lt q e).1
      have h4 := (h.o0.lt q hq).2
      omega
    hB := h2.hB.grown hg' h2.hB.size (fun q hq => by cases hq; exact h.hGA) }

theorem PlG.copied1 {D' : List UInt8} {g' : Nat} (h : PlG w GH GA g0 g1 D0 D1 F0 F1 A0 A1 c0 c1 wr) (hb : Below wr.heap.size wr wr') (hD : HashIs wr' g' D') (hg : wr.heap.size ≤ g')
    (hH' : Blk wr'' GH 34 #[.pointer (some ⟨g0, 0, none⟩), .pointer (some ⟨g', 0, none⟩)]) (hg' : wr'.grownBy wr'' (some GH)) : PlG w GH GA g0 g' D0 D' F0 F1 A0 A1 c0 c1 wr'' := by
  have h2 := h.later hb
  have hlt := Blk.lt h.h0
  have hB := h.hB.size
  exact {
    h1 := Blk.grown hD hg' (fun e => Blk.ne_ hD h2.hH (by decide) (Option.some.inj e))
    h0 := Blk.grown h2.h0 hg' (fun e => Blk.ne_ h2.h0 h2.hH (by decide) (Option.some.inj e))
    hne := by omega
    hg1 := by omega
    hg0 := h.hg0
    hH := hH'
    hGH := h.hGH
    hA := Blk.grown h2.hA hg' (fun e => Blk.ne_ h2.hA h2.hH (by decide) (Option.some.inj e))
    hGA := h.hGA
    o0 := h2.o0.kept hg' (.inr (own_ne h2.o0 h2.hH (by decide)))
    o1 := h2.o1.kept hg' (.inr (own_ne h2.o1 h2.hH (by decide)))
    hd := h.hd
    hB := h2.hB.grown hg' h2.hB.size (fun q hq => by cases hq; exact h.hGH) }

/-- Behind a loop that writes into a row of bytes of its own. -/
theorem PlG.inner {B n : Nat} {v : Value} {xs : List Value} (h : PlG w GH GA g0 g1 D0 D1 F0 F1 A0 A1 c0 c1 wr) (ho : wr.ownsRow B 5 1 v n xs) (h0 : ∀ q, v.ownBlock = some q → (Value.slice A0 F0.length c0).ownBlock ≠ some q) (h1 : ∀ q, v.ownBlock = some q → (Value.slice A1 F1.length c1).ownBlock ≠ some q) (hge : w.heap.size ≤ B) (hg : wr.grownBy wr' v.ownBlock) : PlG w GH GA g0 g1 D0 D1 F0 F1 A0 A1 c0 c1 wr' := by
  rcases ho.2 with ⟨rfl, -⟩ | ⟨q, cap, cur, rfl, hb, hq, -⟩
  · exact h.later ((Below.refl _ _).grown hg (Nat.le_refl _) (fun k hk => by cases hk))
  · exact h.other (q := q) (cur := cur) hq (h0 q rfl) (h1 q rfl) (Nat.le_trans hge hb) hg
end
end Go.Proofs.YtkgkllpecpcgjaaDoor

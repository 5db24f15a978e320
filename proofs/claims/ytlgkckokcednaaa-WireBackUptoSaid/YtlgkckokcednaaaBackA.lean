/- For WireBack: append as one operation of a region that draws its order; two rows of bytes that come in as an array; what is put is got, with bytes ahead of it and behind it. -/
import Derived.Test.YtlgkckokcednaaaGrow
import Derived.Test.YtlgkckokcednaaaOpen
import Derived.Test.YtlgkckokcednaaaMath2
import Derived.Lib.SmallJoins
namespace Go.Proofs.Ytlgkckokcednaaa
open Go Go.RowKit

theorem own_below {B : Nat} {e : TypeId} {k : Nat} {v : Value} {n : Nat} {xs : List Value} {w w' : World} (h : w.ownsRow B e k v n xs) (hb : Below w.heap.size w w') : w'.ownsRow B e k v n xs :=
  h.kept (row := none) ⟨hb.os, hb.tape, hb.output, hb.size, fun j hj _ => hb.block j hj⟩ (by cases hv : v.ownBlock <;> simp)

/-- APPEND, one operation of a region. -/
theorem op_app {P : Program} (w : World) {o : Oper} {a : Act} {K : Act → World → Prop} {Q : Exit → Act → World → Prop} (s r : Operand) (t tx : TypeId)
    (ho : o.op = .call { callee := .builtin .append, args := #[s, r], argTypes := #[t, tx] })
    (base : Nat) (e : TypeId) (i : TypeInfo) (z : Value) (bytes : Nat) (ht : P.underlying t = some (.slice e)) (hi : P.info? e = some i) (hz : i.zero = some z)
    (hsize : i.size = 1) (hby : i.bytes = bytes) (hzs : z.cells.size = 1)
    (v : Value) (n : Nat) (xs : List Value) (hv : a.eval s = v) (hown : w.ownsRow base e 1 v n xs) (x : Value) (m : Nat) (news : List Value) (hx : a.eval r = x) (hs : Src P 1 tx x m news w)
    (h63 : n + m ≤ maxLen) (hbytes : (n + m) * bytes ≤ 140737488355328) (hbase : base ≤ w.heap.size)
    (h : ∀ v' w', w'.ownsRow base e 1 v' (n + m) (xs ++ news) → Below base w w' → K (a.put o.dst v') w') : Oper.wp P o a w K Q := by
  obtain ⟨v', w', hr, h2, h3, h4⟩ := run_app (P := P) w base t tx o.type e i z bytes ht hi hz hsize hby hzs v n xs hown x m news hs h63 hbytes hbase
  have hb : Below base w w' := (Below.refl _ _).grown h3 hbase (fun q hq => (hown.lt q hq).1)
  unfold Oper.wp execOp
  simp only [ho, resolve, invoke, builtin, Sem.run_bind, Sem.run_pure, Result.andThen_ok, List.map_toArray, List.map_cons, List.map_nil, hv, hx, hr]
  exact h v' w' h2 hb

/-- The same: it alone may come up, and behind it what is held is shown anew. -/
theorem held_app {P : Program} {md : Region.Mode} {ops : Array Oper} {S : World → Prop} {Q : Exit → Act → World → Prop} {fuel : Nat} {listed : Array Bool} {a : Act} {w : World} {i : Nat} {o : Oper} (hr : Region.ready md ops listed = [i]) (hget : ops[i]? = some o) (hgd : o.guard = none) (s r : Operand) (t tx : TypeId)
    (ho : o.op = .call { callee := .builtin .append, args := #[s, r], argTypes := #[t, tx] })
    (base : Nat) (e : TypeId) (ti : TypeInfo) (z : Value) (bytes : Nat) (ht : P.underlying t = some (.slice e)) (hi : P.info? e = some ti) (hz : ti.zero = some z)
    (hsize : ti.size = 1) (hby : ti.bytes = bytes) (hzs : z.cells.size = 1)
    (v : Value) (n : Nat) (xs : List Value) (hv : a.eval s = v) (hown : w.ownsRow base e 1 v n xs) (x : Value) (m : Nat) (news : List Value) (hx : a.eval r = x) (hs : Src P 1 tx x m news w)
    (h63 : n + m ≤ maxLen) (hbytes : (n + m) * bytes ≤ 140737488355328) (hbase : base ≤ w.heap.size)
    (h : ∀ v' w', w'.ownsRow base e 1 v' (n + m) (xs ++ news) → Below base w w' → S w' ∧ wpAnyH P md ops Q S fuel (listed.setIfInBounds i true) (a.put o.dst v') w') : wpAnyH P md ops Q S (fuel + 1) listed a w := by
  refine held_one hr hget (fun K hK => ?_)
  have hw : Region.wanted o (yielded ops a.tmps) = true := by simp [Region.wanted, hgd]
  rw [if_pos hw]
  exact op_app w s r t tx ho base e ti z bytes ht hi hz hsize hby hzs v n xs hv hown x m news hx hs h63 hbytes hbase (fun v' w' h1 h2 => hK _ _ (h v' w' h1 h2).1 (h v' w' h1 h2).2)

/-- The same, one operation of a list. -/
theorem wp_app' {P : Program} (w : World) {ops : Array Oper} {rest : List Oper} {o : Oper} {a : Act} {Q : Exit → Act → World → Prop} (hgd : o.guard = none) (s r : Operand) (t tx : TypeId)
    (ho : o.op = .call { callee := .builtin .append, args := #[s, r], argTypes := #[t, tx] })
    (base : Nat) (e : TypeId) (i : TypeInfo) (z : Value) (bytes : Nat) (ht : P.underlying t = some (.slice e)) (hi : P.info? e = some i) (hz : i.zero = some z)
    (hsize : i.size = 1) (hby : i.bytes = bytes) (hzs : z.cells.size = 1)
    (v : Value) (n : Nat) (xs : List Value) (hv : a.eval s = v) (hown : w.ownsRow base e 1 v n xs) (x : Value) (m : Nat) (news : List Value) (hx : a.eval r = x) (hs : Src P 1 tx x m news w)
    (h63 : n + m ≤ maxLen) (hbytes : (n + m) * bytes ≤ 140737488355328) (hbase : base ≤ w.heap.size)
    (h : ∀ v' w', w'.ownsRow base e 1 v' (n + m) (xs ++ news) → Below base w w' → wpList P ops Q rest (a.put o.dst v') w') : wpList P ops Q (o :: rest) a w :=
  wp_app w hgd s r t tx ho base e i z bytes ht hi hz hsize hby hzs v n xs hv hown x m news hx hs h63 hbytes hbase
    (fun v' w' h2 h3 _ => h v' w' h2 ((Below.refl _ _).grown h3 hbase (fun q hq => (hown.lt q hq).1)))

section
variable {H : Type} {enc : TypeId × Value → H} {P : Program} {W : World}
theorem open_bytes2 {r : Reach} {b0 : Nat} {t ts e : TypeId} {v : Value} {d : DataW H} {p : List MemPlace} (ht : P.underlying t = some (.array 2 ts)) (hs : P.underlying ts = some (.slice e)) (he : P.underlying e = some (.int .u8)) (hct : P.cellsOf t = 2) (hcs : P.cellsOf ts = 1) (hce : P.cellsOf e = 1)
    (hval : Value.okWide P W r b0 t v) (h : DataW.Trod enc P W 0 (fun _ => true) true t v d p) :
    ∃ A c l A' c' l' v0 v1 d0 d1, v = .agg #[v0, v1] ∧ d = .agg [d0, d1] ∧ InBytes H W v0 d0 A c l ∧ InBytes H W v1 d1 A' c' l' := by
  simp only [Value.okWide, ht] at hval
  obtain ⟨cs, rfl, h2, _⟩ := hval
  rw [hct] at h2
  obtain ⟨v0, v1, rfl⟩ : ∃ v0 v1, cs = #[v0, v1] := by
    obtain ⟨l⟩ := cs
    match l, h2 with
    | [a, b], _ => exact ⟨a, b, rfl⟩
  obtain ⟨fuel, hf⟩ := h
  obtain ⟨xs, m, rfl, hx, _, hl, hi⟩ := DataW.trod_array ht hf
  have h0 := hi 0 (by decide)
  have h1 := hi 1 (by decide)
  rw [hcs] at h0 h1
  obtain ⟨x0, x1, rfl⟩ : ∃ x0 x1, xs = [x0, x1] := by
    match xs, hl with
    | [a, b], _ => exact ⟨a, b, rfl⟩
  simp [Value.cells] at h0 h1
  obtain ⟨A, c, l, hb⟩ := open_bytes1 hs he hce h0
  obtain ⟨A', c', l', hb'⟩ := open_bytes1 hs he hce h1
  simp only [Prod.mk.injEq, List.map_cons, List.map_nil] at hx
  obtain ⟨rfl, -⟩ := hx
  exact ⟨A, c, l, A', c', l', v0, v1, _, _, rfl, rfl, hb, hb'⟩
end

theorem back_num (p q T : List UInt8) {m : Nat} (hm : m < 9223372036854775808) : Wi.getNum (p ++ Wi.num m ++ T ++ q) p.length = (m, p.length + (Wi.num m).length, 0) := by
  have h := Wi.getNum_put p (T ++ q) hm
  rwa [show p ++ (Wi.num m ++ (T ++ q)) = p ++ Wi.num m ++ T ++ q by simp] at h
theorem back_text (p q s : List UInt8) (h : s.length ≤ 131072) : Wi.getText (p ++ Wi.text s ++ q) p.length = (s, p.length + (Wi.text s).length, 0) := by
  have h := Wi.getText_put p q s h
  rwa [show p ++ (Wi.text s ++ q) = p ++ Wi.text s ++ q by simp] at h
theorem back_long (p q s : List UInt8) (h : 131072 < s.length) (hs : s.length < 9223372036854775808) : Wi.getText (p ++ Wi.text s ++ q) p.length = ([], 0, 3) := by
  have h := Wi.getText_put_long p q s h hs
  rwa [show p ++ (Wi.text s ++ q) = p ++ Wi.text s ++ q by simp] at h
theorem back_list (p q X : List UInt8) (L : List (List UInt8)) (hL : L.length ≤ 131072) (h : ∀ s ∈ L, s.length ≤ 131072) :
    Wi.getList (p ++ X ++ Wi.list L ++ q) ((p.length : Int) + (X.length : Int)) = (L, p.length + X.length + (Wi.list L).length, 0) := by
  have h := Wi.getList_put (p ++ X) q L hL h
  rw [List.length_append] at h
  rw [show (p.length : Int) + (X.length : Int) = ((p.length + X.length : Nat) : Int) by push_cast; rfl]
  rwa [show p ++ X ++ (Wi.list L ++ q) = p ++ X ++ Wi.list L ++ q by simp] at h
end Go.Proofs.Ytlgkckokcednaaa

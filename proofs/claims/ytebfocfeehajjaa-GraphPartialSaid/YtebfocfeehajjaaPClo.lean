/- The functions that are handed to the library: how two numbers stand, what is still to come. -/
import Derived.Test.YtebfocfeehajjaaPUnder
import Derived.Test.YtebfocfeehajjaaPOrd
import Derived.Test.YtebfocfeehajjaaShelf
namespace Go.Proofs.Ytebfocfeehajjaa
open Go Go.RowKit Go.Shelf Go.Sort

/-- A world behind, no less being drawn. -/
structure Grd (w : World) where
  val : World
  prop : GrD w val
instance grd_some (w : World) : Nonempty (Grd w) := ⟨⟨w, GrD.refl _⟩⟩
section
variable {P : Program} {w : World}
theorem wp_region_grd {id : Nat} {Q : Exit → Act → World → Prop} {a : Act} {l : List Oper} (hm : P.follows .mixedOrders = true) (hB : Region.lexB .any l.toArray = true)
    (h : wpQuiet P l.toArray (fun w' => ∃ u : Grd w, w' = u.val) (fun a' => ∀ w', (∃ u : Grd w, w' = u.val) → Q .normal a' w') l a) : (Code.region id l.toArray true).wp P Q a w :=
  wp_region_quiet (C := fun w' => ∃ u : Grd w, w' = u.val) hm hB ⟨⟨_, (GrD.refl _).drew⟩, rfl⟩ (by simpa using h)
theorem grd_call {f : FuncId} {args : Array Value} {v : Value} {u : Grd w} (h : Calls P f args u.val fun e w' => e = .returned v ∧ GrD u.val w') : Calls P f args u.val fun e w'' => e = .returned v ∧ ∃ u' : Grd w, w'' = u'.val :=
  h.mono fun _ w' ⟨he, hb⟩ => ⟨he, ⟨w', u.prop.trans hb⟩, rfl⟩
end
theorem quiet_load_C {P : Program} {ops : Array Oper} {C : World → Prop} {Q : Act → Prop} {rest : List Oper} {o : Oper} {a : Act} (hw : Region.wanted o (yielded ops a.tmps) = true) (ty : TypeId) (x : Operand) (ho : o.op = .load ty x)
    (ad : Addr) (hx : a.eval x = .pointer (some ad)) (cs : List Value) (hc : ∀ w', C w' → ∀ j v, cs[j]? = some v → w'.cell? (ad.add j) = some v) (d : TypeDesc)
    (hu : P.underlying ty = some d) (hd : d.isRow = true) (hi : (P.info? ty).map (·.size) = some cs.length)
    (h : wpQuiet P ops C Q rest (a.put o.dst (.agg cs.toArray))) : wpQuiet P ops C Q (o :: rest) a := by
  rw [wpQuiet, if_pos hw]
  refine ⟨_, ?_, h⟩
  intro w' hC
  unfold Oper.quietAt execOp
  simp only [ho, hx, Instr.loadAt, Instr.sureAddr, Sem.run_bind, Sem.run_pure, Result.andThen_ok, run_loadVar_any w' ad ty cs d (hc w' hC) hu hd hi]
  exact ⟨rfl, rfl⟩

/-- What the order of numbers leans on. -/
structure OrdW (gb bg base : Nat) (A : Option Addr) (c : Nat) (v1 v2 v3 : Value) (ids : List (List UInt8)) (W : World) : Prop where
  b1 : Blk W bg 55 #[.pointer (some ⟨gb, 0, none⟩)]
  cells : Blk W gb 78 #[.slice A ids.length c, v1, v2, v3]
  own : W.ownsRow base 47 32 (.slice A ids.length c) ids.length (rows bv ids)
theorem OrdW.grown {gb bg base blk : Nat} {A : Option Addr} {c : Nat} {v1 v2 v3 : Value} {ids : List (List UInt8)} {W W' : World} {cs : Array Value} {t : TypeId} (h : OrdW gb bg base A c v1 v2 v3 ids W) (hg : W.grownBy W' (some blk)) (hb : Blk W blk t cs) (h1 : 55 ≠ t) (h2 : 78 ≠ t) (h3 : t ≠ 47) : OrdW gb bg base A c v1 v2 v3 ids W' :=
  ⟨h.b1.grown hg (fun e => blk_ne h.b1 hb h1 (Option.some.inj e)), h.cells.grown hg (fun e => blk_ne h.cells hb h2 (Option.some.inj e)), h.own.kept hg (.inr (row_own_ne h.own hb h3))⟩
theorem OrdW.below {gb bg base : Nat} {A : Option Addr} {c : Nat} {v1 v2 v3 : Value} {ids : List (List UInt8)} {W W' : World} (h : OrdW gb bg base A c v1 v2 v3 ids W) (hb : Below W.heap.size W W') : OrdW gb bg base A c v1 v2 v3 ids W' :=
  ⟨h.b1.later hb, h.cells.later hb, own_below h.own hb⟩

set_option maxRecDepth 100000 in
set_option maxHeartbeats 2000000 in
theorem clo_order (gb bg base : Nat) (A : Option Addr) (c : Nat) (v1 v2 v3 : Value) (ids : List (List UInt8)) (W : World) (h : OrdW gb bg base A c v1 v2 v3 ids W) (hD : ∀ s ∈ ids, s.length = 32) (hN : ids.length ≤ 200) (x y : Nat) (dx dy : List UInt8) (hx : ids[x]? = some dx) (hy : ids[y]? = some dy) :
    Calls Try.prog 53 #[.int .i64 (x : Int), .int .i64 (y : Int), .pointer (some ⟨bg, 0, none⟩)] W fun e w' => e = .returned (.int .i64 (ordD dx dy)) ∧ GrD W w' := by
  have hxl : x < ids.length := (List.getElem?_eq_some_iff.1 hx).1
  have hyl : y < ids.length := (List.getElem?_eq_some_iff.1 hy).1
  have hlx := hD dx (List.mem_of_getElem? hx)
  have hly := hD dy (List.mem_of_getElem? hy)
  have hrd := Rd.of_ownK h.own
  obtain ⟨ad, hA, hbx, hca⟩ := hrd.elem (by decide) (fun s hs => by rw [bv_length]; exact hD s hs) hx
  obtain ⟨ad', hA', -, hcb⟩ := hrd.elem (by decide) (fun s hs => by rw [bv_length]; exact hD s hs) hy
  have hAe : ad = ad' := by rw [hA] at hA'; exact Option.some.inj hA'
  subst hAe
  subst hA
  have HH := Lib.hid h
  have HCA := Lib.hid (show ∀ w', (∃ u : Grd W, w' = u.val) → ∀ j v, (bv dx)[j]? = some v → w'.cell? ((ad.add (x * 32)).add j) = some v from fun w' ⟨u, e⟩ => by rw [e]; exact grw_cells u.prop.below (by rw [block_add]; exact hbx) hca)
  have HCB := Lib.hid (show ∀ w', (∃ u : Grd W, w' = u.val) → ∀ j v, (bv dy)[j]? = some v → w'.cell? ((ad.add (y * 32)).add j) = some v from fun w' ⟨u, e⟩ => by rw [e]; exact grw_cells u.prop.below (by rw [block_add]; exact hbx) hcb)
  have HLA := Lib.hid (show (Try.prog.info? 47).map (·.size) = some (bv dx).length by rw [bv_length, hlx]; exact infoD32)
  have HLB := Lib.hid (show (Try.prog.info? 47).map (·.size) = some (bv dy).length by rw [bv_length, hly]; exact infoD32)
  have HLS := Lib.hid (fun w => order_dr dx dy w hlx hly)
  have g1 : ∀ u : Grd W, u.val.cell? ⟨bg, 0, none⟩ = some (.pointer (some ⟨gb, 0, none⟩)) := fun u => (HH.out.b1.later u.prop.below).cell 0
  have g2 : ∀ u : Grd W, u.val.cell? ⟨gb, 0, none⟩ = some (.slice (some ad) ids.length c) := fun u => (HH.out.cells.later u.prop.below).cell 0
  have hxI : (x : Int) < (ids.length : Int) := by omega
  have hyI : (y : Int) < (ids.length : Int) := by omega
  clear hx hy hca hcb hlx hly hA' hrd h hbx
  go_enter Try.func53, Try.ntmps53
  go_wp2_with fail
  refine wp_region_grd (by kernel_rfl) (by kernel_rfl) ?_
  go_big_quiet_step (fail)
  go_big_quiet_step (fail)
  go_big_quiet_step (fail)
  go_big_quiet_step (fail)
  go_big_quiet_step (fail)
  go_big_quiet_step (fail)
  refine quiet_load_C (by rfl) 47 (.tmp 11) rfl (ad.add (x * 32)) rfl (bv dx) HCA.out _ Try.underlying47 rfl HLA.out ?_; go_simp
  go_big_quiet_step (fail)
  go_big_quiet_step (fail)
  go_big_quiet_step (fail)
  go_big_quiet_step (fail)
  go_big_quiet_step (fail)
  go_big_quiet_step (fail)
  refine quiet_load_C (by rfl) 47 (.tmp 18) rfl (ad.add (y * 32)) rfl (bv dy) HCB.out _ Try.underlying47 rfl HLB.out ?_; go_simp
  go_big_quiet_step ((go_at_call 54; exact grd_call (HLS.out _)))
  go_big_quiet_step (fail)
  refine wpQuiet_nil ?_
  first | (intro _ hw'; obtain ⟨u, hw''⟩ := hw'; subst hw'') | intro u
  go_wp2_with fail
  go_ret
  exact ⟨rfl, u.prop⟩
end Go.Proofs.Ytebfocfeehajjaa

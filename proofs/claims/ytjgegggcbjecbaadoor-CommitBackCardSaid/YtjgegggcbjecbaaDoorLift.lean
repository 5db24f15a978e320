/- From the walk of a law to its statement: a call that returns true and leaves all that was as it was meets the row, whatever its arguments are. -/
import Derived.Carry
import Derived.SizedLaws
import Derived.ProofKit
import Derived.OpenShut
import Derived.LaidMore
import Derived.Stop.Joined
import Derived.SevenTiedAt
import Derived.Deep.DeepHandedRow
import Derived.Lib.LaidTab
import Derived.Test.YtjgegggcbjecbaaDoorDigA
import Derived.Test.YtjgegggcbjecbaaDoorTie
import Derived.Test.YtjgegggcbjecbaaDoorCards
namespace Go.Proofs.YtjgegggcbjecbaaDoor
open Go Go.ChangeShapes Go.WideShapes Go.RowKit
set_option maxRecDepth 400000

section
variable {H : Type} {enc : TypeId × Value → H} {P : Program}

theorem trodAll_below (hl : laidOutB P = true) {W W' : World} (hb : Below W.heap.size W W') :
    ∀ {ts : List TypeId} {vs : List Value} {ds : List (DataW H)} {ps : List MemPlace}, (ts.all fun t => P.readableRec t && decide (t < P.types.size)) = true →
      DataW.TrodAll enc P W 0 (fun _ => true) true ts vs ds ps → (∀ x ∈ ps, x.block < W.heap.size) → DataW.TrodAll enc P W' 0 (fun b => decide (b < W.heap.size)) true ts vs ds ps
  | [], [], [], _, _, h, _ => h
  | t :: ts, v :: vs, d :: ds, ps, ht, h, hlt => by
    obtain ⟨p, q, h1, h2, rfl⟩ := h
    simp only [List.all_cons, Bool.and_eq_true, decide_eq_true_eq] at ht
    exact ⟨p, q, Below.trod hl ht.1.1 ht.1.2 h1 hb (fun x hx => hlt x (by simp [hx])), trodAll_below hl hb ht.2 h2 (fun x hx => hlt x (by simp [hx])), rfl⟩
  | [], [], _ :: _, _, _, h, _ => h.elim
  | [], _ :: _, _, _, _, h, _ => by cases ‹List (DataW H)› <;> exact h.elim
  | _ :: _, [], _, _, _, h, _ => by cases ‹List (DataW H)› <;> exact h.elim
  | _ :: _, _ :: _, [], _, _, h, _ => h.elim

/-- What a law leaves: true, and each argument as it was. -/
theorem post_true {f : Func} {s : ChangeSpec} {W W' : World} {args : Array Value} {ds : List (DataW H)} {before : List MemPlace} {tb : TypeId}
    (hl : laidOutB P = true) (hts : (f.params.toList.all fun t => P.readableRec t && decide (t < P.types.size)) = true) (hvars : s.vars = [])
    (hres : f.resultTypes = #[tb]) (htb : P.underlying tb = some .bool) (hfn : s.fn H ds = { results := [.lit (.bool true)], args := ds })
    (hW : DataW.Whole enc P f.params.toList s.vars false W args.toList ds [] before) (hb : Below W.heap.size W W') :
    s.post enc P f false true false false W args (.bool true) W' := by
  have hlt := hW.lt
  have hW' := hW
  obtain ⟨p, q, hA, hV, rfl, -, -⟩ := hW
  rw [hvars] at hV
  have hq : q = [] := hV
  subst hq
  refine ⟨ds, [], p ++ [], [], p, [], hW', ?_, ?_, ?_, hb.frame _, fun h => by cases h⟩
  · rw [hres, List.append_nil, hfn]
    exact trodAll_mk1 (shut_bool htb true)
  · rw [List.append_nil, hfn]
    exact trodAll_below hl hb hts hA (fun x hx => hlt x (by simp [hx]))
  · rw [List.append_nil, hfn, hvars]
    rfl
end

theorem int_of_wf {n : Int} (h : (Lit.int .i64 n).wf = true) : -9223372036854775808 ≤ n ∧ n ≤ 9223372036854775807 := by
  have e1 : IntKind.i64.min = -9223372036854775808 := by decide
  have e2 : IntKind.i64.max = 9223372036854775807 := by decide
  simpa [Lit.wf, e1, e2] using h

theorem size_of_sized {H : Type} {ts : List TypeId} {ds : List (DataW H)} {P : Program} (h : (DataW.weightsEach P ts ds).all (· ≤ reachBytes) = true) (j : Nat) {t : TypeId} {b : ByteArray} (ht : ts[j]? = some t) (hd : ds[j]? = some (.lit (.string b.data.toList))) : b.size ≤ 140737488351232 := by
  have h1 := sized_string h ht hd
  have h2 : reachBytes = 140737488351232 := by decide
  rw [h2, Array.length_toList] at h1
  exact h1

theorem own : ownKnob Tryd.prog.godebug = none := by kernel_rfl
theorem laidOut : laidOutB Tryd.prog = true := by kernel_rfl

/-- The tables that every row of this seat lists. -/
def laidL : List (String × DataW Unit) := Rows.commitWritesRow.laid

theorem door_met (os : Os) (args : Array Value) : laidMetH Tryd.prog laidL ((World.doorLaid Tryd.prog 400 os).forCall (fun _ _ => 0) ⟨#[], args, []⟩).memory :=
  laidMetH_of_parts3 (fuel := 8) (laidMet_of_run' 8 (by kernel_rfl) (by kernel_rfl)) (by kernel_rfl) (by kernel_rfl)

theorem door_shaped (os : Os) (args : Array Value) : ((World.doorLaid Tryd.prog 400 os).forCall (fun _ _ => 0) ⟨#[], args, []⟩).Shaped Tryd.prog :=
  World.shaped_of_RefB (by kernel_rfl) (by kernel_rfl)

/-- FROM A WALK TO THE ROW's STATEMENT, of any law of this seat. -/
theorem lift {K : FuncId} {f : Func} {s : ChangeSpec} (wargs : Array Value) (hvars : s.vars = [])
    (noInit : Tryd.prog.inits.idxOf? K = none) (hf : Tryd.prog.funcs[K]? = some f)
    (hts : (f.params.toList.all fun t => Tryd.prog.readableRec t && decide (t < Tryd.prog.types.size)) = true) (hres : f.resultTypes = #[4])
    (hok : ∀ os, Input.okWideB Tryd.prog ((World.doorLaid Tryd.prog 400 os).forCall (fun _ _ => 0) ⟨#[], wargs, []⟩) K ⟨#[], wargs, []⟩ = true)
    (hpre : ∀ (os : Os) (H : Type) (enc : TypeId × Value → H), s.preB enc Tryd.prog f [] false ((World.doorLaid Tryd.prog 400 os).forCall (fun _ _ => 0) ⟨#[], wargs, []⟩).memory wargs 8 = true)
    (hsz : ∀ (os : Os) (H : Type) (enc : TypeId × Value → H), s.sizedB enc Tryd.prog f false ((World.doorLaid Tryd.prog 400 os).forCall (fun _ _ => 0) ⟨#[], wargs, []⟩).memory wargs 8 = true)
    (walk : ∀ (H : Type) (enc : TypeId × Value → H) (W : World) (base : Nat) (args : Array Value) (ds : List (DataW H)) (p : List MemPlace),
      (∀ (j : Nat) t v, f.params[j]? = some t → args[j]? = some v → Value.okWide Tryd.prog W .any base t v) →
      DataW.TrodAll enc Tryd.prog W 0 (fun _ => true) true f.params.toList args.toList ds p →
      (DataW.weightsEach Tryd.prog f.params.toList ds).all (· ≤ reachBytes) = true → laidMetH Tryd.prog laidL W →
      s.fn H ds = { results := [.lit (.bool true)], args := ds } ∧
      Calls Tryd.prog K args W fun e W' => e = .returned (.bool true) ∧ Below W.heap.size W W')
    (os : Os) (started : os.Started) (H : Type) (enc : TypeId × Value → H) :
    ReturnsInHanded {} Tryd.checked os K .any (fun w args => (s.pre enc Tryd.prog f [] false w args ∧ laidMetH Tryd.prog laidL w) ∧ sizedMet enc Tryd.prog f (OpenSpec.ofChange s) false w args)
      (s.post enc Tryd.prog f false true false false) := by
  refine returnsInHanded_of_change_and (C := Tryd.checked) (X := fun w _ => laidMetH Tryd.prog laidL w) (fun _ _ _ hh h => h.of_heap hh) own started noInit hf
    (ChangeSpec.witness_shaped (enc := enc) (C := Tryd.checked) (os := os) (X := fun w _ => laidMetH Tryd.prog laidL w) false (World.doorLaid Tryd.prog 400 os) wargs 8 rfl (door_shaped os _) (hok os) (hpre os H enc) (hsz os H enc) (door_met os _)) ?_
  intro W base args ds gs before hval hW _ hsz hL _
  have hW' := hW
  obtain ⟨p, q, hA, hV, rfl, -, -⟩ := hW
  rw [hvars] at hV
  have hgs : gs = [] := by
    cases gs with
    | nil => rfl
    | cons g r => exact absurd hV (by intro h; cases h)
  subst hgs
  have hvt : s.plain.varTypes Tryd.checked.prog = [] := by
    show List.filterMap _ s.vars = []
    rw [hvars]; rfl
  rw [hvt, List.append_nil, List.append_nil] at hsz
  obtain ⟨hfn, hc⟩ := walk H enc W base args ds p hval hA hsz hL
  refine hc.mono fun e W' ⟨he, hb⟩ => ?_
  subst he
  exact ⟨_, rfl, post_true laidOut hts hvars hres Tryd.underlying4 hfn hW' hb⟩

/-- The name of the listed table. -/
def laidName : String := (laidL.headD ("", .nil)).1

/-- WHAT THE ROW's LIST GIVES: the table of k lies. -/
theorem kt_of {W : World} (h : laidMetH Tryd.prog laidL W) : KT W := by
  have hT : Lib.TabIs Tryd.prog W laidName .u32 (Sh.K.map fun n : Nat => (n : Int)) :=
    Lib.tabIs_of_head (rest := []) (g := 0) (t := 115) (e := 79) (n := 64) (by kernel_rfl) (by kernel_rfl) Tryd.underlying115 Tryd.underlying79 (by kernel_rfl) (by kernel_rfl) h
  intro i hi
  have hl : Sh.K.length = 64 := by decide
  have := hT.cell (g := 0) (by kernel_rfl) i (by rw [List.length_map, hl]; exact hi)
  rw [this, List.getD_eq_getElem?_getD, List.getD_eq_getElem?_getD, List.getElem?_map, List.getElem?_eq_getElem (by rw [hl]; exact hi)]
  rfl

/-- THE SECOND FORM's STEP: where what is read is of bounded bulk. -/
theorem liftUpto {K : FuncId} {f : Func} {s : ChangeSpec} (wargs : Array Value) (hvars : s.vars = [])
    (noInit : Tryd.prog.inits.idxOf? K = none) (hf : Tryd.prog.funcs[K]? = some f)
    (hts : (f.params.toList.all fun t => Tryd.prog.readableRec t && decide (t < Tryd.prog.types.size)) = true) (hres : f.resultTypes = #[4])
    (hok : ∀ os, Input.okWideB Tryd.prog ((World.doorLaid Tryd.prog 400 os).forCall (fun _ _ => 0) ⟨#[], wargs, []⟩) K ⟨#[], wargs, []⟩ = true)
    (x : (H : Type) → List (DataW H)) (xp : List MemPlace)
    (hx : ∀ (os : Os) (H : Type) (enc : TypeId × Value → H), DataW.whole enc Tryd.prog ((World.doorLaid Tryd.prog 400 os).forCall (fun _ _ => 0) ⟨#[], wargs, []⟩).memory f.params.toList s.vars false wargs.toList 8 = some (x H, [], xp))
    (hxs : ∀ H, Rows.uptoSmall H (x H ++ []) = true)
    (hsz : ∀ (os : Os) (H : Type) (enc : TypeId × Value → H), (Rows.OpenSpec.upto s).bare.sizedB enc Tryd.prog f false ((World.doorLaid Tryd.prog 400 os).forCall (fun _ _ => 0) ⟨#[], wargs, []⟩).memory wargs 8 = true)
    (walk : ∀ (H : Type) (enc : TypeId × Value → H) (W : World) (base : Nat) (args : Array Value) (ds : List (DataW H)) (p : List MemPlace),
      (∀ (j : Nat) t v, f.params[j]? = some t → args[j]? = some v → Value.okWide Tryd.prog W .any base t v) →
      DataW.TrodAll enc Tryd.prog W 0 (fun _ => true) true f.params.toList args.toList ds p →
      Rows.uptoBulkAll ds ≤ 1048576 → laidMetH Tryd.prog laidL W →
      s.fn H ds = { results := [.lit (.bool true)], args := ds } ∧
      Calls Tryd.prog K args W fun e W' => e = .returned (.bool true) ∧ Below W.heap.size W W')
    (os : Os) (started : os.Started) (H : Type) (enc : TypeId × Value → H) (F : Stop.Interp) :
    ReturnsInHanded {} Tryd.checked os K .any ((Rows.OpenSpec.upto s).preRow enc Tryd.prog f [] false laidL) (((Rows.OpenSpec.upto s).at F).post enc Tryd.prog f false true false false) := by
  refine returnsInHanded_of_row (C := Tryd.checked) (s := Rows.OpenSpec.upto s) own started noInit hf
    (witness_row_at (enc := enc) (C := Tryd.checked) false (World.doorLaid Tryd.prog 400 os) wargs rfl (by kernel_rfl) (by kernel_rfl) (hok os)
      (OpenSpec.preRow_of_cond 8 (hx os H enc) rfl (fun k hk => by cases hk; exact hxs H) (hsz os H enc) (door_met os wargs))) ?_
  intro W base args ds gs before hval hW _ hcond _ hL _ _
  have hW' : DataW.Whole enc Tryd.prog f.params.toList s.vars false W args.toList ds gs before := hW
  obtain ⟨p, q, hA, hV, rfl, -, -⟩ := hW
  have hV' : DataW.TrodVars enc Tryd.checked.prog W (fun _ => true) s.vars gs q := hV
  rw [hvars] at hV'
  have hgs : gs = [] := by
    cases gs with
    | nil => rfl
    | cons g r => exact absurd hV' (by intro h; cases h)
  subst hgs
  have hk := hcond _ rfl
  rw [List.append_nil] at hk
  obtain ⟨hfn, hc⟩ := walk H enc W base args ds p hval hA (of_decide_eq_true hk) hL
  refine hc.mono fun e W' ⟨he, hb⟩ => ?_
  subst he
  exact ⟨_, rfl, post_true laidOut hts hvars hres Tryd.underlying4 hfn hW' hb⟩

end Go.Proofs.YtjgegggcbjecbaaDoor

/- From the walk of a law to its statement, where the row lists nothing: for every input, and where what is read is of bounded bulk. -/
import Derived.Carry
import Derived.SizedLaws
import Derived.ProofKit
import Derived.OpenShut
import Derived.JoinedCond
import Derived.Deep.CondSized
import Derived.Test.YtebfocfeehajjaaRows
namespace Go.Proofs.Ytebfocfeehajjaa
open Go Go.ChangeShapes Go.WideShapes Go.ChangeAt Go.RowKit

section
variable {H : Type} {enc : TypeId × Value → H} {P : Program}

theorem trodAll_below (hl : laidOutB P = true) {W W' : World} (hb : Below W.heap.size W W') :
    ∀ {ts : List TypeId} {vs : List Value} {ds : List (DataW H)} {ps : List MemPlace}, (ts.all fun t => P.readableRec t && decide (t < P.types.size)) = true →
      DataW.TrodAll enc P W 0 (fun _ => true) true ts vs ds ps → (∀ x ∈ ps, x.block < W.heap.size) → DataW.TrodAll enc P W' 0 (fun b => decide (b < W.heap.size)) true ts vs ds ps
  | [], [], [], _, _, h, _ => h
  | t :: ts, v :: vs, d :: ds, ps, ht, h, hlt => by
    obtain ⟨p, q, h1, h2, rfl⟩ := h
    simp only [List.all_cons, Bool.and_eq_true, decide_eq_true_eq] at ht
    exact ⟨p, q, Below.trod hl ht.1.1 ht.1.2 h1 hb (fun x hx => hlt x (by simp [hx])), trodAll_below hl hb ht.2 h2 (fun x hx => hlt x (by simp [hx])), rfl⟩
  | [], [], _ :: _, _, _, h, _ => h.elim
  | [], _ :: _, _, _, _, h, _ => by cases ‹List (DataW H)› <;> exact h.elim
  | _ :: _, [], _, _, _, h, _ => by cases ‹List (DataW H)› <;> exact h.elim
  | _ :: _, _ :: _, [], _, _, h, _ => h.elim

/-- What a law leaves: true, and each argument as it was. -/
theorem post_true {f : Func} {s : ChangeSpec} {W W' : World} {args : Array Value} {ds : List (DataW H)} {before : List MemPlace} {tb : TypeId}
    (hl : laidOutB P = true) (hts : (f.params.toList.all fun t => P.readableRec t && decide (t < P.types.size)) = true) (hvars : s.vars = [])
    (hres : f.resultTypes = #[tb]) (htb : P.underlying tb = some .bool) (hfn : s.fn H ds = { results := [.lit (.bool true)], args := ds })
    (hW : DataW.Whole enc P f.params.toList s.vars false W args.toList ds [] before) (hb : Below W.heap.size W W') :
    s.post enc P f false true false false W args (.bool true) W' := by
  have hlt := hW.lt
  have hW' := hW
  obtain ⟨p, q, hA, hV, rfl, -, -⟩ := hW
  rw [hvars] at hV
  have hq : q = [] := hV
  subst hq
  refine ⟨ds, [], p ++ [], [], p, [], hW', ?_, ?_, ?_, hb.frame _, fun h => by cases h⟩
  · rw [hres, List.append_nil, hfn]
    exact trodAll_mk1 (shut_bool htb true)
  · rw [List.append_nil, hfn]
    exact trodAll_below hl hb hts hA (fun x hx => hlt x (by simp [hx]))
  · rw [List.append_nil, hfn, hvars]
    rfl
end

theorem int_of_wf {n : Int} (h : (Lit.int .i64 n).wf = true) : -9223372036854775808 ≤ n ∧ n ≤ 9223372036854775807 := by
  have e1 : IntKind.i64.min = -9223372036854775808 := by decide
  have e2 : IntKind.i64.max = 9223372036854775807 := by decide
  simpa [Lit.wf, e1, e2] using h

theorem size_of_sized {H : Type} {ts : List TypeId} {ds : List (DataW H)} {P : Program} (h : (DataW.weightsEach P ts ds).all (· ≤ reachBytes) = true) (j : Nat) {t : TypeId} {b : ByteArray} (ht : ts[j]? = some t) (hd : ds[j]? = some (.lit (.string b.data.toList))) : b.size ≤ 140737488351232 := by
  have h1 := sized_string h ht hd
  have h2 : reachBytes = 140737488351232 := by decide
  rw [h2, Array.length_toList] at h1
  exact h1

theorem own : ownKnob Try.prog.godebug = none := by kernel_rfl
theorem laidOut : laidOutB Try.prog = true := by kernel_rfl

set_option maxRecDepth 100000 in
/-- FROM A WALK TO THE ROW's STATEMENT, of any law of this seat. -/
theorem lift {K : FuncId} {f : Func} {s : ChangeSpec} (i : Input) (hvars : s.vars = [])
    (noInit : Try.prog.inits.idxOf? K = none) (hf : Try.prog.funcs[K]? = some f)
    (hts : (f.params.toList.all fun t => Try.prog.readableRec t && decide (t < Try.prog.types.size)) = true) (hres : f.resultTypes = #[4])
    (hv : ∀ os, (World.plainHolding Try.prog os i).variablesB Try.prog = true)
    (hr : ∀ os, ((World.plainHolding Try.prog os i).heap.toList.drop Try.prog.globals.size).take ((begin Try.prog (fun _ _ => 0) default).world.heap.size - Try.prog.globals.size) =
      (begin Try.prog (fun _ _ => 0) default).world.heap.toList.drop Try.prog.globals.size)
    (hok : ∀ os, Input.okWideB Try.prog (World.plainHolding Try.prog os i) K ⟨#[], i.args, []⟩ = true)
    (hpre : ∀ (os : Os) (H : Type) (enc : TypeId × Value → H), s.preB enc Try.prog f [] false (World.plainHolding Try.prog os i).memory i.args 8 = true)
    (hsz : ∀ (os : Os) (H : Type) (enc : TypeId × Value → H), s.sizedB enc Try.prog f false (World.plainHolding Try.prog os i).memory i.args 8 = true)
    (walk : ∀ (H : Type) (enc : TypeId × Value → H) (W : World) (base : Nat) (args : Array Value) (ds : List (DataW H)) (p : List MemPlace),
      (∀ (j : Nat) t v, f.params[j]? = some t → args[j]? = some v → Value.okWide Try.prog W .any base t v) →
      DataW.TrodAll enc Try.prog W 0 (fun _ => true) true f.params.toList args.toList ds p →
      (DataW.weightsEach Try.prog f.params.toList ds).all (· ≤ reachBytes) = true →
      s.fn H ds = { results := [.lit (.bool true)], args := ds } ∧
      Calls Try.prog K args W fun e W' => e = .returned (.bool true) ∧ Below W.heap.size W W')
    (os : Os) (started : os.Started) (H : Type) (enc : TypeId × Value → H) :
    ReturnsInHanded {} Try.checked os K .any (s.pre6 enc Try.prog f [] false) (s.post enc Try.prog f false true false false) := by
  refine returnsInHanded_of_change_sized (C := Try.checked) own started noInit hf
    (ChangeSpec.witness6 (enc := enc) (C := Try.checked) (os := os) (s := s) false i 8 (hv os) (hr os) (hok os) (hpre os H enc) (hsz os H enc)) ?_
  intro W base args ds gs before hval hW _ hsz _
  have hW' := hW
  obtain ⟨p, q, hA, hV, rfl, -, -⟩ := hW
  rw [hvars] at hV
  have hgs : gs = [] := by
    cases gs with
    | nil => rfl
    | cons g r => exact absurd hV (by intro h; cases h)
  subst hgs
  have hvt : s.plain.varTypes Try.checked.prog = [] := by
    show List.filterMap _ s.vars = []
    rw [hvars]; rfl
  rw [hvt, List.append_nil, List.append_nil] at hsz
  obtain ⟨hfn, hc⟩ := walk H enc W base args ds p hval hA hsz
  refine hc.mono fun e W' ⟨he, hb⟩ => ?_
  subst he
  exact ⟨_, rfl, post_true laidOut hts hvars hres Try.underlying4 hfn hW' hb⟩

set_option maxRecDepth 100000 in
/-- THE SAME WHERE WHAT IS READ IS OF BOUNDED BULK. -/
theorem liftUpto {K : FuncId} {f : Func} {s : ChangeSpec} (i : Input) (hvars : s.vars = [])
    (noInit : Try.prog.inits.idxOf? K = none) (hf : Try.prog.funcs[K]? = some f)
    (hts : (f.params.toList.all fun t => Try.prog.readableRec t && decide (t < Try.prog.types.size)) = true) (hres : f.resultTypes = #[4])
    (hv : ∀ os, (World.plainHolding Try.prog os i).variablesB Try.prog = true)
    (hr : ∀ os, ((World.plainHolding Try.prog os i).heap.toList.drop Try.prog.globals.size).take ((begin Try.prog (fun _ _ => 0) default).world.heap.size - Try.prog.globals.size) =
      (begin Try.prog (fun _ _ => 0) default).world.heap.toList.drop Try.prog.globals.size)
    (hok : ∀ os, Input.okWideB Try.prog (World.plainHolding Try.prog os i) K ⟨#[], i.args, []⟩ = true)
    (x : (H : Type) → List (DataW H)) (xp : List MemPlace)
    (hx : ∀ (os : Os) (H : Type) (enc : TypeId × Value → H), DataW.whole enc Try.prog (World.plainHolding Try.prog os i).memory f.params.toList s.vars false i.args.toList 8 = some (x H, [], xp))
    (hxs : ∀ H, Rows.uptoSmall H (x H ++ []) = true)
    (hsz : ∀ (os : Os) (H : Type) (enc : TypeId × Value → H), (Rows.OpenSpec.upto s).bare.sizedB enc Try.prog f false (World.plainHolding Try.prog os i).memory i.args 8 = true)
    (walk : ∀ (H : Type) (enc : TypeId × Value → H) (W : World) (base : Nat) (args : Array Value) (ds : List (DataW H)) (p : List MemPlace),
      (∀ (j : Nat) t v, f.params[j]? = some t → args[j]? = some v → Value.okWide Try.prog W .any base t v) →
      DataW.TrodAll enc Try.prog W 0 (fun _ => true) true f.params.toList args.toList ds p →
      Rows.uptoBulkAll ds ≤ 1048576 →
      s.fn H ds = { results := [.lit (.bool true)], args := ds } ∧
      Calls Try.prog K args W fun e W' => e = .returned (.bool true) ∧ Below W.heap.size W W')
    (os : Os) (started : os.Started) (H : Type) (enc : TypeId × Value → H) (F : Stop.Interp) :
    ReturnsInHanded {} Try.checked os K .any ((Rows.OpenSpec.upto s).pre6 enc Try.prog f [] false) (((Rows.OpenSpec.upto s).at F).post enc Try.prog f false true false false) := by
  refine returnsInHanded_of_cond (C := Try.checked) (s := Rows.OpenSpec.upto s) (k := Rows.uptoSmall) rfl own started noInit hf
    (OpenSpec.witness (enc := enc) (C := Try.checked) (s := Rows.OpenSpec.upto s) (k := Rows.uptoSmall) rfl false i 8 (hv os) (hr os) (hok os)
      (x := (x H, [], xp)) (hx os H enc) rfl (hxs H) (hsz os H enc)) ?_
  intro W base args ds gs before hval hW _ hk _
  have hW' : DataW.Whole enc Try.prog f.params.toList s.vars false W args.toList ds gs before := hW
  obtain ⟨p, q, hA, hV, rfl, -, -⟩ := hW
  have hV' : DataW.TrodVars enc Try.checked.prog W (fun _ => true) s.vars gs q := hV
  rw [hvars] at hV'
  have hgs : gs = [] := by
    cases gs with
    | nil => rfl
    | cons g r => exact absurd hV' (by intro h; cases h)
  subst hgs
  rw [List.append_nil] at hk
  obtain ⟨hfn, hc⟩ := walk H enc W base args ds p hval hA (of_decide_eq_true hk)
  refine hc.mono fun e W' ⟨he, hb⟩ => ?_
  subst he
  exact ⟨_, rfl, post_true laidOut hts hvars hres Try.underlying4 hfn hW' hb⟩

end Go.Proofs.Ytebfocfeehajjaa

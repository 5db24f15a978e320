/- The program's Decode. -/
import Derived.Test.YtjgegggcbjecbaaDoorPCmR
import Derived.Test.YtjgegggcbjecbaaDoorPMay
import Derived.Recover
namespace Go.Proofs.YtjgegggcbjecbaaDoor
open Go Go.RowKit

set_option maxRecDepth 100000 in
set_option maxHeartbeats 2000000 in
theorem catch_pan (gc ge : Nat) (er : Nat) (X : Array Value) (v0 : Value) (older : List PanicEntry) (w : World) (hc : Blk w gc 25 X) (hX : X.size = 4) (he : Blk w ge 28 #[v0]) (hne : gc ≠ ge) :
    CallsD Tryd.prog 28 #[.pointer (some ⟨gc, 0, none⟩), .pointer (some ⟨ge, 0, none⟩)] (.panicking ({ v := .iface 28 (.int .i64 (er : Int)), recovered := false } :: older)) w fun e u' w' =>
      e = .returned (.tuple #[]) ∧ u' = .panicking ({ v := .iface 28 (.int .i64 (er : Int)), recovered := true } :: older) ∧ w' = (w.setRow gc (bx (.slice none 0 0) [] [] (.slice none 0 0))).setCell ⟨ge, 0, none⟩ (.int .i64 (er : Int)) := by
  have hta : ∀ w, (Instr.typeAssert (.iface 28 (.int .i64 (er : Int))) 20 28 true).run Tryd.prog w = .ok (.tuple #[.int .i64 (er : Int), .bool true]) w := fun _ => rfl
  have f0 := he.frozen 0
  have he2 : Blk (w.setRow gc (bx (.slice none 0 0) [] [] (.slice none 0 0))) ge 28 #[v0] := he.farRow (fun h => hne h.symm) _
  have HC := Lib.hid hc
  have HXS := Lib.hid hX
  have ce := he2.cell 0
  have fe := he2.frozen 0
  simp only [List.getElem?_toArray, List.getElem?_cons_zero] at ce
  obtain ⟨w1, hw1⟩ : ∃ y, y = w.setRow gc (bx (.slice none 0 0) [] [] (.slice none 0 0)) := ⟨_, rfl⟩
  have HW1 := Lib.hid hw1
  rw [← hw1] at ce fe ⊢
  clear hc he he2 hX hw1 f0
  refine callsD_of_wpS Tryd.func28 rfl fun c₀ cs hu => ?_
  apply wpS_seq
  apply wpS_region
  simp [wpOpsS, go_sem, recoverD, hu, Tryd.ntmps28, Exit.thenS]
  refine wpS_of_wp ?_
  change Code.wp Tryd.prog _ _ { tmps := #[.pointer (some ⟨gc, 0, none⟩), .pointer (some ⟨ge, 0, none⟩), (.iface 28 (.int .i64 (er : Int))), undef, undef, (.iface 28 (.int .i64 (er : Int))), undef, undef, undef, undef, undef, undef, undef, undef, undef, undef, undef], defers := [] } w
  go_wp2_with (first | (refine at_sto 25 (.tmp 0) (.tmp 12) rfl ?_; go_must (refine wpList_store_row rfl 25 (.tmp 0) (.tmp 12) rfl gc (bx (.slice none 0 0) [] [] (.slice none 0 0)) rfl rfl _ X HC.out bx_info (by rw [HXS.out]; rfl) bx_all ?_); rw [← HW1.out]; go_wp2_with fail))
  cases c₀
  simp_all [bodyPostS, results, Tryd.results28]
set_option maxRecDepth 100000 in
set_option maxHeartbeats 2000000 in
theorem catch_idle (gc ge : Nat) (w : World) :
    CallsD Tryd.prog 28 #[.pointer (some ⟨gc, 0, none⟩), .pointer (some ⟨ge, 0, none⟩)] .returning w fun e u' w' => e = .returned (.tuple #[]) ∧ u' = .returning ∧ w' = w := by
  have hta : ∀ w, (Instr.typeAssert .nilIface 20 28 true).run Tryd.prog w = .ok (.tuple #[.int .i64 0, .bool false]) w := fun _ => rfl
  have hnn : ∀ w, (binOp .neq 20 .nilIface .nilIface).run Tryd.prog w = .ok (.bool false) w := fun _ => by kernel_rfl
  refine callsD_of_wpS Tryd.func28 rfl fun c₀ cs hu => ?_
  apply wpS_seq
  apply wpS_region
  simp [wpOpsS, go_sem, recoverD, hu, Tryd.ntmps28, Exit.thenS]
  refine wpS_of_wp ?_
  change Code.wp Tryd.prog _ _ { tmps := #[.pointer (some ⟨gc, 0, none⟩), .pointer (some ⟨ge, 0, none⟩), .nilIface, undef, undef, .nilIface, undef, undef, undef, undef, undef, undef, undef, undef, undef, undef, undef], defers := [] } w
  go_wp2_with fail
  cases c₀
  simp_all [bodyPostS, results, Tryd.results28]

/-- Results: a row and one cell, both in variables. -/
theorem results_row_cell {P : Program} {fn : Func} {p q : Tmp} {ty ty2 : TypeId} (h : fn.results = #[.cell p ty, .cell q ty2]) (tmps : Array Value) (w : World) (g : Nat) (u : TypeId) (cs : Array Value) (fr : Nat × Nat) (d : TypeDesc)
    (hp : tmps.getD p undef = .pointer (some ⟨g, 0, none⟩)) (hg : w.heap[g]? = some (.cells cs u fr))
    (hu : P.underlying ty = some d) (hd : (match d with | .struct _ | .array _ _ => true | _ => false) = true) (hi : (P.info? ty).map (·.size) = some cs.size)
    (g2 : Nat) (v : Value) (hq : tmps.getD q undef = .pointer (some ⟨g2, 0, none⟩)) (hv : (loadVar ty2 ⟨g2, 0, none⟩).run P w = .ok v w) : (results fn tmps).run P w = .ok (.tuple #[.agg cs, v]) w := by
  have hp' : tmps[p]?.getD undef = .pointer (some ⟨g, 0, none⟩) := by simpa using hp
  have hq' : tmps[q]?.getD undef = .pointer (some ⟨g2, 0, none⟩) := by simpa using hq
  simp [results, h, hp', hq', asAddr, run_loadVar_row w g u ty cs fr d hg hu hd hi, hv]
theorem loadVar_errno {w : World} {a : Addr} {v : Value} (h : w.cell? a = some v) : (loadVar 28 a).run Tryd.prog w = .ok v w := by
  have hag : (isAgg 28).run Tryd.prog w = .ok false w := by
    unfold isAgg
    rw [Sem.run_bind, run_underlying (P := Tryd.prog) Tryd.underlying28 w]
    rfl
  simp [loadVar, hag, Result.andThen, h, go_sem]

/-- The door, behind an error thrown. -/
theorem dec_door {b : List UInt8} {w W : World} {er : Nat} {X : Array Value} {v0 : Value} {tmps : Array Value} (h2 : tmps.getD 2 undef = .pointer (some ⟨w.heap.size, 0, none⟩)) (h3 : tmps.getD 3 undef = .pointer (some ⟨w.heap.size + 1, 0, none⟩))
    (hR : Cm.decC (Cm.may Tx.less) b = .error er) (hB : Below w.heap.size w W) (hc : Blk W w.heap.size 25 X) (hX : X.size = 4) (he : Blk W (w.heap.size + 1) 28 #[v0]) :
    Leaves Tryd.prog Tryd.f13 tmps (DecO b w) [{ target := Target.fn (Fn.func 28) #[.pointer (some ⟨w.heap.size, 0, none⟩), .pointer (some ⟨w.heap.size + 1, 0, none⟩)], args := #[] }] (.panicking [{ v := .iface 28 (.int .i64 (er : Int)), recovered := false }]) W := by
  refine leaves_cons (f := 28) (args := #[.pointer (some ⟨w.heap.size, 0, none⟩), .pointer (some ⟨w.heap.size + 1, 0, none⟩)]) (by simp) (by simp [go_sem]) ?_
  refine (catch_pan w.heap.size (w.heap.size + 1) er X v0 [] W hc hX he (by omega)).mono ?_
  rintro e u' w'' ⟨rfl, rfl, rfl⟩
  have hA : Blk (W.setRow w.heap.size (bx (.slice none 0 0) [] [] (.slice none 0 0))) w.heap.size 25 (bx (.slice none 0 0) [] [] (.slice none 0 0)) := hc.row _
  have hE : Blk (W.setRow w.heap.size (bx (.slice none 0 0) [] [] (.slice none 0 0))) (w.heap.size + 1) 28 #[v0] := he.farRow (by omega) _
  have hA2 := hA.far (p := ⟨w.heap.size + 1, 0, none⟩) (by simp) (.int .i64 (er : Int))
  have hE2 := hE.set_ 0 (.int .i64 (er : Int))
  have hB2 : Below w.heap.size w ((W.setRow w.heap.size (bx (.slice none 0 0) [] [] (.slice none 0 0))).setCell ⟨w.heap.size + 1, 0, none⟩ (.int .i64 (er : Int))) := (below_row hB (Nat.le_refl _) _).setCell (p := ⟨w.heap.size + 1, 0, none⟩) (Nat.le_succ _) _
  show Leaves _ _ _ _ [] .returning _
  exact ⟨_, results_row_cell rfl tmps _ w.heap.size _ _ (0, 0) _ h2 hA2 Tryd.underlying25 rfl bx_info (w.heap.size + 1) _ h3 (loadVar_errno (hE2.cell 0)), decO_err er hR hB2⟩

/-- The door, behind a commit read. -/
theorem dec_door_ok {b : List UInt8} {w W : World} {m : Cm.Cm} {X : Array Value} {tmps : Array Value} (h2 : tmps.getD 2 undef = .pointer (some ⟨w.heap.size, 0, none⟩)) (h3 : tmps.getD 3 undef = .pointer (some ⟨w.heap.size + 1, 0, none⟩))
    (hR : Cm.decC (Cm.may Tx.less) b = .ok m) (hB : Below w.heap.size w W) (hc : Blk W w.heap.size 25 X) (hX : (Tryd.prog.info? 25).map (·.size) = some X.size) (he : Blk W (w.heap.size + 1) 28 #[.int .i64 0]) (ho : OwnCm w.heap.size W (.agg X) m) :
    Leaves Tryd.prog Tryd.f13 tmps (DecO b w) [{ target := Target.fn (Fn.func 28) #[.pointer (some ⟨w.heap.size, 0, none⟩), .pointer (some ⟨w.heap.size + 1, 0, none⟩)], args := #[] }] .returning W := by
  refine leaves_cons (f := 28) (args := #[.pointer (some ⟨w.heap.size, 0, none⟩), .pointer (some ⟨w.heap.size + 1, 0, none⟩)]) (by simp) (by simp [go_sem]) ?_
  refine (catch_idle w.heap.size (w.heap.size + 1) W).mono ?_
  rintro e u' w'' ⟨rfl, rfl, rfl⟩
  show Leaves _ _ _ _ [] .returning _
  exact ⟨_, results_row_cell rfl tmps _ w.heap.size _ _ (0, 0) _ h2 hc Tryd.underlying25 rfl hX (w.heap.size + 1) _ h3 (loadVar_errno (he.cell 0)), hB, _, by rw [hR]; exact ho, by rw [hR]; rfl⟩

set_option maxRecDepth 100000 in
set_option maxHeartbeats 4000000 in
theorem pdecode_any (A : Option Addr) (c : Nat) (b : List UInt8) (w : World) (hr : Rd w w.heap.size A b.length (bv b)) (hc : b.length ≤ c) (hm : c ≤ 9223372036854775807) : Calls Tryd.prog 13 #[.slice A b.length c] w (DecO b w) := by
  have hmf : ∀ (fn : Fn) (first cap : Array Value) (w : World), (Instr.makeFunc fn first cap).run Tryd.prog w = .ok (.func fn first cap) w := fun _ _ _ _ => rfl
  obtain ⟨Z, hZ⟩ : ∃ Z, Z = bx (.slice none 0 0) [] [] (.slice none 0 0) := ⟨_, rfl⟩
  have hZl : (#[Value.slice none 0 0, .string ⟨#[]⟩, .string ⟨#[]⟩, .slice none 0 0] : Array Value) = Z := hZ.symm
  obtain ⟨w1, hw1⟩ : ∃ y, y = w.alloc (.cells Z 25) := ⟨_, rfl⟩
  obtain ⟨w2, hw2⟩ : ∃ y, y = w1.alloc (.cells #[.int .i64 0] 28) := ⟨_, rfl⟩
  have s1 : w1.heap.size = w.heap.size + 1 := by rw [hw1]; simp
  have s2 : w2.heap.size = w.heap.size + 2 := by rw [hw2]; simp [s1]
  have hc1 : Blk w1 w.heap.size 25 Z := by rw [hw1]; exact Blk.new w _ _
  have HC := Lib.hid (show Blk w2 w.heap.size 25 Z by rw [hw2]; exact hc1.alloc _)
  have HE := Lib.hid (show Blk w2 (w.heap.size + 1) 28 #[.int .i64 0] by rw [hw2, ← s1]; exact Blk.new w1 _ _)
  have HB := Lib.hid (show Below w.heap.size w w2 by rw [hw2, hw1]; exact ((Below.refl _ _).alloc (Nat.le_refl _) _).alloc (by simp) _)
  have HZ := Lib.hid hZ
  have HS1 := Lib.hid s1
  replace hw1 := hw1.symm
  replace hw2 := hw2.symm
  by_cases hlong : 131072 < b.length
  · have HR := Lib.hid (decC_long (may := Cm.may Tx.less) hlong)
    have hd : decide ((131072 : Int) < (b.length : Int)) = true := decide_eq_true (by omega)
    have hd2 : decide (131072 < b.length) = true := decide_eq_true hlong
    have ce := HE.out.cell 0
    have fe := HE.out.frozen 0
    clear hlong hZ hc1
    go_enter_defers Tryd.func13, Tryd.ntmps13
    have HC3 := Lib.hid (HC.out.row Z)
    have HE3 := Lib.hid (HE.out.farRow (g' := w.heap.size) (by omega) Z)
    have HB3 := Lib.hid (below_row HB.out (Nat.le_refl _) Z)
    obtain ⟨w3, hw3⟩ : ∃ y, y = w2.setRow w.heap.size Z := ⟨_, rfl⟩
    have HW3 := Lib.hid hw3
    rw [← hw3] at HC3 HE3 HB3
    have ce3 : w3.cell? ⟨w.heap.size + 1, 0, none⟩ = some (.int .i64 0) := HE3.out.cell 0
    have fe3 := HE3.out.frozen 0
    clear hw3 ce fe
    go_wp2_with ((refine at_sto 25 (.tmp 2) (.tmp 8) rfl ?_; go_must (refine wpList_store_row rfl 25 (.tmp 2) (.tmp 8) rfl w.heap.size Z rfl rfl _ Z HC.out (by rw [HZ.out]; exact bx_info) rfl (by rw [HZ.out]; exact bx_all) ?_)); rw [← HW3.out]; go_wp2_with fail)
    have hC4 := HC3.out.far (p := ⟨w.heap.size + 1, 0, none⟩) (by simp) (.int .i64 3)
    have hE4 := HE3.out.set_ 0 (.int .i64 3)
    have hB4 := HB3.out.setCell (p := ⟨w.heap.size + 1, 0, none⟩) (Nat.le_succ _) (.int .i64 3)
    show Leaves _ _ _ _ [] .returning _
    refine ⟨_, results_row_cell rfl _ _ w.heap.size _ _ (0, 0) _ rfl hC4 Tryd.underlying25 rfl (by rw [HZ.out]; exact bx_info) (w.heap.size + 1) _ rfl (loadVar_errno (hE4.cell 0)), by rw [HZ.out]; exact decO_err 3 HR.out hB4⟩
  have hd : decide ((131072 : Int) < (b.length : Int)) = false := decide_eq_false (by omega)
  have hd2 : decide (131072 < b.length) = false := decide_eq_false hlong
  have HLG := Lib.hid hlong
  obtain ⟨w3, hw3⟩ : ∃ y, y = w2.alloc (.cells #[.slice A b.length c, .int .i64 0] 65) := ⟨_, rfl⟩
  have hb3 : Below w2.heap.size w2 w3 := by rw [hw3]; exact below_alloc w2 _
  have HC3 := Lib.hid (HC.out.later hb3)
  have HE3 := Lib.hid (HE.out.later hb3)
  have HB3 := Lib.hid (HB.out.trans (hb3.mono (by omega)))
  have HX3 := Lib.hid (show RdrB w.heap.size (w.heap.size + 2) A c b 0 w3 from ⟨by rw [hw3, ← s2]; exact Blk.new w2 _ _, hr.below HB3.out, Nat.le_add_right _ _, Nat.zero_le _⟩)
  have HRC := Lib.hid (rcommit_read w.heap.size (w.heap.size + 2) c 0 A b w3 HX3.out hc hm)
  have HAZ := Lib.hid (show (w2.alloc (.cells #[.slice none 0 0, .int .i64 0] 65)).heap[w.heap.size + 2]? = some (.cells #[.slice none 0 0, .int .i64 0] 65 (0, 0)) by rw [← s2]; exact heap_alloc_new w2 _)
  have HAX := Lib.hid (show (w2.alloc (.cells #[.slice none 0 0, .int .i64 0] 65)).setRow (w.heap.size + 2) #[.slice A b.length c, .int .i64 0] = w3 by rw [← s2, hw3]; exact World.setRow_alloc_new w2 _ _ _)
  clear hlong hb3 hZ hc1 hw3
  cases hcm : Cm.cmP b 0 with
  | error er =>
    have HR := Lib.hid (decC_err (may := Cm.may Tx.less) HLG.out hcm)
    rw [hcm] at HRC
    clear hcm
    go_enter_defers Tryd.func13, Tryd.ntmps13
    go_wp2_with (refine at_sto 65 (.tmp 4) (.tmp 12) rfl ?_; go_must (refine wpList_store_row rfl 65 (.tmp 4) (.tmp 12) rfl (w.heap.size + 2) #[.slice A b.length c, .int .i64 0] rfl rfl 65 _ HAZ.out (by kernel_rfl) rfl (by simp [Value.oneCell']) ?_); rw [HAX.out]; go_wp2_with fail)
    refine HRC.out.mono ?_; rintro e w4 ⟨hg, he⟩
    simp only [] at he
    unfold thr at he
    subst he
    have HC4 := Lib.hid (HC3.out.grown hg (fun e => by have := Option.some.inj e; omega))
    have HE4 := Lib.hid (HE3.out.grown hg (fun e => by have := Option.some.inj e; omega))
    have HB4 := Lib.hid (HB3.out.grown hg HB3.out.size (fun k hk => by have := Option.some.inj hk; omega))
    clear hg
    go_wp2_with fail
    exact dec_door rfl rfl HR.out HB4.out HC4.out (by rw [HZ.out]; rfl) HE4.out
  | ok z =>
    obtain ⟨z, q⟩ := z
    rw [hcm] at HRC
    obtain ⟨hok, hq, -, -⟩ := Cm.cm_reads.just b 0 z q (Nat.zero_le _) hcm
    obtain ⟨m, hm0⟩ : ∃ m, m = Cm.toCm z := ⟨_, rfl⟩
    have HLP := Lib.hid (show m.parents.length ≤ 4611686018427387904 by rw [hm0]; have h1 := hok.2.1.1; have h2 := hok.1; show z.2.1.length ≤ _; omega)
    have HLA := Lib.hid (show m.author.length ≤ 4611686018427387904 by rw [hm0]; have h1 := hok.2.2.1; show z.2.2.1.length ≤ _; omega)
    have HLN := Lib.hid (show m.note.length ≤ 4611686018427387904 by rw [hm0]; have h1 := hok.2.2.2.1; show z.2.2.2.1.length ≤ _; omega)
    have HLO := Lib.hid (show m.ops.length ≤ 4611686018427387904 by rw [hm0]; have h1 := hok.2.2.2.2.2.1; have h2 := hok.2.2.2.2.1; show (z.2.2.2.2.2.map Cm.toOp).length ≤ _; rw [List.length_map]; omega)
    have HFM := Lib.hid (fun (h : q ≠ b.length) => decC_form (may := Cm.may Tx.less) HLG.out hcm h)
    have HMY := Lib.hid (fun (h : q = b.length) => decC_may (may := Cm.may Tx.less) HLG.out hcm h)
    unfold CmO at HRC
    simp only [← hm0] at HRC HMY
    clear hcm hok hm0
    go_enter_defers Tryd.func13, Tryd.ntmps13
    go_wp2_with (refine at_sto 65 (.tmp 4) (.tmp 12) rfl ?_; go_must (refine wpList_store_row rfl 65 (.tmp 4) (.tmp 12) rfl (w.heap.size + 2) #[.slice A b.length c, .int .i64 0] rfl rfl 65 _ HAZ.out (by kernel_rfl) rfl (by simp [Value.oneCell']) ?_); rw [HAX.out]; go_wp2_with fail)
    refine HRC.out.mono ?_; rintro e w4 ⟨hg, v, rfl, ⟨Ar, Ao, cr, co, rfl, hpar, hops, hpd, hod⟩, hx⟩
    have HC4 := Lib.hid (HC3.out.grown hg (fun e => by have := Option.some.inj e; omega))
    have HE4 := Lib.hid (HE3.out.grown hg (fun e => by have := Option.some.inj e; omega))
    have HB4 := Lib.hid (HB3.out.grown hg HB3.out.size (fun k hk => by have := Option.some.inj hk; omega))
    obtain ⟨X, hX⟩ : ∃ X, X = bx (.slice Ar m.parents.length cr) m.author m.note (.slice Ao m.ops.length co) := ⟨_, rfl⟩
    have HXE := Lib.hid hX
    have HXI := Lib.hid (show (Tryd.prog.info? 25).map (·.size) = some X.size by rw [hX]; exact bx_info)
    have HXS := Lib.hid (show X.size = 4 by rw [hX]; rfl)
    have HXA := Lib.hid (show X.all (·.oneCell') = true by rw [hX]; exact bx_all)
    rw [← hX]
    have HPA5 := Lib.hid (row_row (cs' := X) hpar HC4.out (by decide))
    have HOP5 := Lib.hid (row_row (cs' := X) hops HC4.out (by decide))
    have HX5 := Lib.hid (show RdrB w.heap.size (w.heap.size + 2) A c b q (w4.setRow w.heap.size X) from ⟨hx.blk.farRow (by omega) _, hx.rd.below (below_row (Below.refl _ w4) (Nat.le_refl _) _), hx.hB, hx.hp⟩)
    have HC5 := Lib.hid (HC4.out.row X)
    have HE5 := Lib.hid (HE4.out.farRow (g' := w.heap.size) (by omega) X)
    have HB5 := Lib.hid (below_row HB4.out (Nat.le_refl _) X)
    have HPD := Lib.hid hpd
    have HOD := Lib.hid hod
    have h3s := HB3.out.size
    obtain ⟨w5, hw5⟩ : ∃ y, y = w4.setRow w.heap.size X := ⟨_, rfl⟩
    have HW5 := Lib.hid hw5
    rw [← hw5] at HPA5 HOP5 HX5 HC5 HE5 HB5
    have CE := Lib.hid (end_any w.heap.size (w.heap.size + 2) c q A b w5 HX5.out (by omega))
    clear hg hpar hops hpd hod hx hX hw5
    go_wp2_with (refine at_sto 25 (.tmp 2) (.tmp 13) rfl ?_; go_must (refine wpList_store_row rfl 25 (.tmp 2) (.tmp 13) rfl w.heap.size X rfl rfl _ Z HC4.out HXI.out (by rw [HXS.out, HZ.out]; rfl) HXA.out ?_); rw [← HW5.out]; go_wp2_with fail)
    refine CE.out.mono ?_; rintro e w6 ⟨hb6, he⟩
    by_cases hql : q = b.length
    · rw [if_pos hql] at he
      subst he
      have HR := Lib.hid (HMY.out hql)
      have HC6 := Lib.hid (HC5.out.later hb6)
      have HE6 := Lib.hid (HE5.out.later hb6)
      have HB6 := Lib.hid (HB5.out.trans (hb6.mono HB5.out.size))
      have HPA6 := Lib.hid (own_below HPA5.out hb6)
      have HOP6 := Lib.hid (own_below HOP5.out hb6)
      obtain ⟨_, c1, e1, hcp1, hcp2, -⟩ := own_form HPA6.out
      cases e1
      obtain ⟨_, c2, e2, hco1, hco2, -⟩ := own_form HOP6.out
      cases e2
      have HM := Lib.hid (pmay_any m (.agg X) Ar Ao cr co w6 ⟨by rw [HXE.out]; rfl, ⟨hcp1, by simpa [maxLen] using hcp2⟩, ⟨hco1, by simpa [maxLen] using hco2⟩, Rd.of_ownK HPA6.out, Rd.of_ownK HOP6.out, HPD.out, HOD.out⟩ HLA.out HLN.out HLP.out HLO.out)
      clear hb6 hcp1 hcp2 hco1 hco2 hql
      go_wp2_with (refine at_lod 25 (.tmp 2) rfl ?_; go_must (refine wpList_load_row rfl 25 (.tmp 2) rfl w.heap.size rfl _ X (0, 0) _ HC6.out Tryd.underlying25 rfl HXI.out ?_); go_wp2_with fail)
      refine HM.out.mono ?_; rintro e w7 ⟨rfl, hb7⟩
      have HC7 := Lib.hid (HC6.out.later hb7)
      have HE7 := Lib.hid (HE6.out.later hb7)
      have HB7 := Lib.hid (HB6.out.trans (hb7.mono HB6.out.size))
      have HPA7 := Lib.hid (own_below HPA6.out hb7)
      have HOP7 := Lib.hid (own_below HOP6.out hb7)
      obtain ⟨k, hk⟩ : ∃ k, k = Cm.may Tx.less m := ⟨_, rfl⟩
      rw [← hk] at HR ⊢
      have CK := Lib.hid (check_any k w7)
      clear hb7 hk HM
      go_wp2_with fail
      refine CK.out.mono ?_; rintro e w8 ⟨rfl, he⟩
      by_cases hk0 : k = 0
      · rw [if_pos hk0] at he HR
        subst he
        have HC8 := Lib.hid (HC7.out.row X)
        have HE8 := Lib.hid (HE7.out.farRow (g' := w.heap.size) (by omega) X)
        have HB8 := Lib.hid (below_row HB7.out (Nat.le_refl _) X)
        have HPA8 := Lib.hid (row_row (cs' := X) HPA7.out HC7.out (by decide))
        have HOP8 := Lib.hid (row_row (cs' := X) HOP7.out HC7.out (by decide))
        obtain ⟨w9, hw9⟩ : ∃ y, y = w7.setRow w.heap.size X := ⟨_, rfl⟩
        have HW9 := Lib.hid hw9
        rw [← hw9] at HC8 HE8 HB8 HPA8 HOP8
        have ce9 : w9.cell? ⟨w.heap.size + 1, 0, none⟩ = some (.int .i64 0) := HE8.out.cell 0
        have fe9 := HE8.out.frozen 0
        clear hw9 hk0
        go_wp2_with (first | (refine at_lod 25 (.tmp 2) rfl ?_; go_must (refine wpList_load_row rfl 25 (.tmp 2) rfl w.heap.size rfl _ X (0, 0) _ HC7.out Tryd.underlying25 rfl HXI.out ?_)) | (refine at_sto 25 (.tmp 2) (.tmp 18) rfl ?_; go_must (refine wpList_store_row rfl 25 (.tmp 2) (.tmp 18) rfl w.heap.size X rfl rfl _ X HC7.out HXI.out rfl HXA.out ?_); rw [← HW9.out]; go_wp2_with fail))
        have hC := HC8.out.far (p := ⟨w.heap.size + 1, 0, none⟩) (by simp) (.int .i64 0)
        have hE := HE8.out.set_ 0 (.int .i64 0)
        have hB := HB8.out.setCell (p := ⟨w.heap.size + 1, 0, none⟩) (Nat.le_succ _) (.int .i64 0)
        exact dec_door_ok rfl rfl HR.out hB hC HXI.out hE ⟨Ar, Ao, cr, co, by rw [HXE.out], own_base (row_set HPA8.out HE8.out (by decide)) h3s, own_base (row_set HOP8.out HE8.out (by decide)) h3s, HPD.out, HOD.out⟩
      · rw [if_neg hk0] at he HR
        unfold thr at he
        subst he
        clear hk0
        go_wp2_with fail
        exact dec_door rfl rfl HR.out HB7.out HC7.out HXS.out HE7.out
    · rw [if_neg hql] at he
      unfold thr at he
      subst he
      have HR := Lib.hid (HFM.out hql)
      have HC6 := Lib.hid (HC5.out.later hb6)
      have HE6 := Lib.hid (HE5.out.later hb6)
      have HB6 := Lib.hid (HB5.out.trans (hb6.mono HB5.out.size))
      clear hb6 hql
      go_wp2_with fail
      exact dec_door rfl rfl HR.out HB6.out HC6.out HXS.out HE6.out
end Go.Proofs.YtjgegggcbjecbaaDoor

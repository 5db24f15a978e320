/- The program's order, walked. -/
import Derived.Test.YtebfocfeehajjaaPOrder
namespace Go.Proofs.Ytebfocfeehajjaa
open Go Go.RowKit Go.Shelf Go.Sort

def lenV : Value → Nat
  | .slice _ n _ => n
  | _ => 0
/-- What lies while order goes on: R is still to come, K has come. -/
structure OrM (w : World) (gb db lb lr fb n5 N : Nat) (R K : List Nat) (A1 : Option Addr) (c1 : Nat) (A2 : Option Addr) (c2 : Nat) (LT : List Bool) (wr : World) : Prop where
  gr : w.grownBy wr (some db)
  due : ∃ bs : List Bool, bs.length = N ∧ Blk wr db 4 (bl bs)
  b1 : Blk wr w.heap.size 55 #[.pointer (some ⟨gb, 0, none⟩)]
  late : LateW lb lr N LT wr
  fbox : Blk wr fb 75 #[.func (.func 56) #[] #[.pointer (some ⟨lb, 0, none⟩)]]
  rest : wr.ownsRow w.heap.size 3 1 (.slice A1 R.length c1) R.length (nv R)
  rlt : ∀ q, (Value.slice A1 R.length c1).ownBlock = some q → q < n5
  come : wr.ownsRow n5 3 1 (.slice A2 K.length c2) K.length (nv K)
  geo : w.heap.size < n5 ∧ lb < n5 ∧ lr < n5 ∧ fb < n5 ∧ w.heap.size < lb ∧ w.heap.size < lr ∧ w.heap.size < fb ∧ db < w.heap.size ∧ n5 ≤ wr.heap.size
structure OrG (w : World) (gb db lb lr fb n5 N : Nat) (ns : List (List Nat)) (R0 R K : List Nat) (A1 : Option Addr) (c1 : Nat) (A2 : Option Addr) (c2 : Nat) (LT : List Bool) (wr : World) : Prop where
  mem : OrM w gb db lb lr fb n5 N R K A1 c1 A2 c2 LT wr
  lts : LT.length = N ∧ ∀ n, LT.getD n false = true ↔ n ∈ R
  small : R.length ≤ 200 ∧ (∀ n ∈ R, n < N) ∧ R.Nodup ∧ K.length + R.length = R0.length
  go : K ++ Gr.ordR (fun n => ns.getD n []) R.length R = Gr.ordR (fun n => ns.getD n []) R0.length R0
section
variable {w wr W' : World} {gb db lb lr fb n5 N : Nat} {ns : List (List Nat)} {R0 R K : List Nat} {A1 A2 : Option Addr} {c1 c2 : Nat} {LT : List Bool}
theorem ne_lt {v : Value} {k n : Nat} (h : ∀ q, v.ownBlock = some q → q < n) (hk : n ≤ k) : v.ownBlock = none ∨ v.ownBlock ≠ some k := by
  cases hq : v.ownBlock with
  | none => exact .inl rfl
  | some q => exact .inr (fun e => by have := h q hq; have := Option.some.inj e; omega)
theorem OrM.below (h : OrM w gb db lb lr fb n5 N R K A1 c1 A2 c2 LT wr) (hb : Below wr.heap.size wr W') : OrM w gb db lb lr fb n5 N R K A1 c1 A2 c2 LT W' where
  gr := ⟨hb.os.trans h.gr.os, hb.tape.trans h.gr.tape, hb.output.trans h.gr.output, Nat.le_trans h.gr.size hb.size, fun k hk hne => (hb.block k (Nat.lt_of_lt_of_le hk h.gr.size)).trans (h.gr.block k hk hne)⟩
  due := by obtain ⟨bs, h1, h2⟩ := h.due; exact ⟨bs, h1, h2.later hb⟩
  b1 := h.b1.later hb
  late := h.late.below hb
  fbox := h.fbox.later hb
  rest := own_below h.rest hb
  rlt := h.rlt
  come := own_below h.come hb
  geo := ⟨h.geo.1, h.geo.2.1, h.geo.2.2.1, h.geo.2.2.2.1, h.geo.2.2.2.2.1, h.geo.2.2.2.2.2.1, h.geo.2.2.2.2.2.2.1, h.geo.2.2.2.2.2.2.2.1, Nat.le_trans h.geo.2.2.2.2.2.2.2.2 hb.size⟩
/-- One more has come. -/
theorem OrM.came {K' : List Nat} {A3 : Option Addr} {c3 : Nat} (h : OrM w gb db lb lr fb n5 N R K A1 c1 A2 c2 LT wr) (hg : wr.grownBy W' (Value.slice A2 K.length c2).ownBlock) (ho : W'.ownsRow n5 3 1 (.slice A3 K'.length c3) K'.length (nv K')) : OrM w gb db lb lr fb n5 N R K' A1 c1 A3 c3 LT W' := by
  obtain ⟨g1, g2, g3, g4, g5, g6, g7, g8, g9⟩ := h.geo
  have hne : ∀ k, k < n5 → some k ≠ (Value.slice A2 K.length c2).ownBlock := fun k hk e => by have := (h.come.lt k e.symm).1; omega
  exact {
    gr := ⟨hg.os.trans h.gr.os, hg.tape.trans h.gr.tape, hg.output.trans h.gr.output, Nat.le_trans h.gr.size hg.size, fun k hk hn => (hg.block k (Nat.lt_of_lt_of_le hk h.gr.size) (hne k (by omega))).trans (h.gr.block k hk hn)⟩
    due := by obtain ⟨bs, h1, h2⟩ := h.due; exact ⟨bs, h1, h2.grown hg (hne _ (by omega))⟩
    b1 := h.b1.grown hg (hne _ (by omega))
    late := ⟨h.late.box.grown hg (hne _ (by omega)), h.late.row.grown hg (hne _ (by omega))⟩
    fbox := h.fbox.grown hg (hne _ (by omega))
    rest := h.rest.kept hg (by
      cases hq : (Value.slice A1 R.length c1).ownBlock with
      | none => exact .inl rfl
      | some q => exact .inr (hne q (h.rlt q hq)))
    rlt := h.rlt
    come := ho
    geo := ⟨g1, g2, g3, g4, g5, g6, g7, g8, Nat.le_trans g9 hg.size⟩ }
/-- A mark is struck. -/
theorem OrM.struck {LT' : List Bool} (h : OrM w gb db lb lr fb n5 N R K A1 c1 A2 c2 LT wr) (hg : wr.grownBy W' (some lr)) (hb : Blk W' lr 4 (bl LT')) : OrM w gb db lb lr fb n5 N R K A1 c1 A2 c2 LT' W' := by
  obtain ⟨g1, g2, g3, g4, g5, g6, g7, g8, g9⟩ := h.geo
  exact {
    gr := ⟨hg.os.trans h.gr.os, hg.tape.trans h.gr.tape, hg.output.trans h.gr.output, Nat.le_trans h.gr.size hg.size, fun k hk hn => (hg.block k (Nat.lt_of_lt_of_le hk h.gr.size) (fun e => by have := Option.some.inj e; omega)).trans (h.gr.block k hk hn)⟩
    due := by obtain ⟨bs, h1, h2⟩ := h.due; exact ⟨bs, h1, h2.grown hg (fun e => by have := Option.some.inj e; omega)⟩
    b1 := h.b1.grown hg (fun e => by have := Option.some.inj e; omega)
    late := ⟨h.late.box.grown hg (fun e => blk_ne h.late.box h.late.row (by decide) (Option.some.inj e)), hb⟩
    fbox := h.fbox.grown hg (fun e => blk_ne h.fbox h.late.row (by decide) (Option.some.inj e))
    rest := h.rest.kept hg (.inr (row_own_ne h.rest h.late.row (by decide)))
    rlt := h.rlt
    come := h.come.kept hg (.inr (row_own_ne h.come h.late.row (by decide)))
    geo := ⟨g1, g2, g3, g4, g5, g6, g7, g8, Nat.le_trans g9 hg.size⟩ }
/-- The rest is one less. -/
theorem OrM.less {R' : List Nat} {A3 : Option Addr} (h : OrM w gb db lb lr fb n5 N R K A1 c1 A2 c2 LT wr) (hg : wr.grownBy W' (Value.slice A1 R.length c1).ownBlock) (ho : W'.ownsRow w.heap.size 3 1 (.slice A3 R'.length c1) R'.length (nv R')) (hA : A3 = A1) : OrM w gb db lb lr fb n5 N R' K A3 c1 A2 c2 LT W' := by
  subst hA
  obtain ⟨g1, g2, g3, g4, g5, g6, g7, g8, g9⟩ := h.geo
  have hne : ∀ {g : Nat} {t : TypeId} {cs : Array Value}, Blk wr g t cs → t ≠ 3 → some g ≠ (Value.slice A3 R.length c1).ownBlock := fun hb ht e => row_own_ne h.rest hb ht e.symm
  have hlo : ∀ k, k < w.heap.size → some k ≠ (Value.slice A3 R.length c1).ownBlock := fun k hk e => by have := (h.rest.lt k e.symm).1; omega
  exact {
    gr := ⟨hg.os.trans h.gr.os, hg.tape.trans h.gr.tape, hg.output.trans h.gr.output, Nat.le_trans h.gr.size hg.size, fun k hk hn => (hg.block k (Nat.lt_of_lt_of_le hk h.gr.size) (hlo k hk)).trans (h.gr.block k hk hn)⟩
    due := by obtain ⟨bs, h1, h2⟩ := h.due; exact ⟨bs, h1, h2.grown hg (hlo _ g8)⟩
    b1 := h.b1.grown hg (hne h.b1 (by decide))
    late := ⟨h.late.box.grown hg (hne h.late.box (by decide)), h.late.row.grown hg (hne h.late.row (by decide))⟩
    fbox := h.fbox.grown hg (hne h.fbox (by decide))
    rest := ho
    rlt := fun q hq => h.rlt q (by cases A3 <;> exact hq)
    come := h.come.kept hg (by
      cases hq : (Value.slice A2 K.length c2).ownBlock with
      | none => exact .inl rfl
      | some q => exact .inr (fun e => by have h1 := (h.come.lt q hq).1; have h2 := h.rlt q e.symm; omega))
    geo := ⟨g1, g2, g3, g4, g5, g6, g7, g8, Nat.le_trans g9 hg.size⟩ }
theorem OrG.below (h : OrG w gb db lb lr fb n5 N ns R0 R K A1 c1 A2 c2 LT wr) (hb : Below wr.heap.size wr W') : OrG w gb db lb lr fb n5 N ns R0 R K A1 c1 A2 c2 LT W' := ⟨h.mem.below hb, h.lts, h.small, h.go⟩
theorem OrG.next {base mb : Nat} {A : Option Addr} {c : Nat} {B : Option Addr} {d : Nat} {V : List Value} {ids : List (List UInt8)} {bs1 : List Bool} (h : OrG w gb db lb lr fb n5 ids.length ns R0 R K A1 c1 A2 c2 LT wr) (hG : GM base gb db mb A c B d V ids ns bs1 w) :
    NextW gb w.heap.size lb fb lr ids.length base (.slice A ids.length c) (.map (some mb)) (.slice (some ⟨db, 0, none⟩) bs1.length bs1.length) B d V ns LT wr where
  b1 := h.mem.b1
  cells := hG.cells.grown h.mem.gr (fun e => blk_ne hG.cells hG.due (by decide) (Option.some.inj e))
  pown := hG.pown.kept h.mem.gr (.inr (row_own_ne hG.pown hG.due (by decide)))
  prow := fun i L hL => by
    obtain ⟨A', c', h1, h2⟩ := hG.prow i L hL
    exact ⟨A', c', h1, h2.kept h.mem.gr (.inr (row_own_ne h2 hG.due (by decide)))⟩
  late := h.mem.late
  fbox := h.mem.fbox
end
theorem any_next {ns : List (List Nat)} {LT : List Bool} {R : List Nat} (hd : Gr.Down ns) (hR : R ≠ []) (hl : ∀ n, LT.getD n false = true ↔ n ∈ R) :
    (fun x => !(ns.getD x []).any fun p => LT.getD p false) = (fun x => (ns.getD x []).all fun p => decide (p ∉ R)) ∧ R.any (fun x => !(ns.getD x []).any fun p => LT.getD p false) = true := by
  have e : (fun x => !(ns.getD x []).any fun p => LT.getD p false) = (fun x => (ns.getD x []).all fun p => decide (p ∉ R)) := by
    funext x
    rw [List.not_any_eq_all_not]
    congr 1
    funext p
    have h := hl p
    cases hb : LT.getD p false with
    | false =>
      rw [hb] at h
      have : p ∉ R := fun hp => by have := h.2 hp; cases this
      simp [this]
    | true =>
      have : p ∈ R := h.1 hb
      simp [this]
  refine ⟨e, ?_⟩
  rw [e]
  obtain ⟨d, hd'⟩ := Gr.ord_some (P := fun n => ns.getD n []) (f := fun n => n) (fun d p hp => hd d p hp) hR
  have h3 := List.find?_some hd'
  exact List.any_eq_true.2 ⟨d, List.mem_of_find?_eq_some hd', h3⟩

set_option maxRecDepth 100000 in
set_option maxHeartbeats 8000000 in
theorem porder_any (base gb db mb : Nat) (A : Option Addr) (c : Nat) (B : Option Addr) (d : Nat) (V : List Value) (ids : List (List UInt8)) (ns : List (List Nat)) (bs1 : List Bool) (w : World) (hG : GM base gb db mb A c B d V ids ns bs1 w) (hbl : bs1.length = ids.length) (hN : ids.length ≤ 200) (hnd : ids.Nodup) (hns : ∀ (i : Nat) (L : List Nat), ns[i]? = some L → L.length ≤ 8 ∧ ∀ p ∈ L, p < ids.length) (hdn : Gr.Down ns)
    (b1 : Nat) (As : Option Addr) (cs : Nat) (S : List Nat) (hS : w.ownsRow b1 3 1 (.slice As S.length cs) S.length (nv S)) (hSl : S.length ≤ 4611686018427387904) (hSn : ∀ s ∈ S, s < ids.length) :
    Calls Try.prog 46 #[.pointer (some ⟨gb, 0, none⟩), .slice As S.length cs] w fun e w' => ∃ A' c' R0 K, e = .returned (.slice A' K.length c') ∧ w'.ownsRow w.heap.size 3 1 (.slice A' K.length c') K.length (nv K) ∧ Turned db ids.length w w' ∧
      RisO ids (Gr.mkTo ns ids.length (Gr.sets (List.replicate ids.length false) S)) R0 ∧ K = Gr.ordR (fun n => ns.getD n []) R0.length R0 ∧ K.length ≤ 200 := by
  have hdb : db < w.heap.size := hG.due.lt
  obtain ⟨wa, hwa⟩ : ∃ y, y = w.alloc (.cells #[.pointer (some ⟨gb, 0, none⟩)] 55) := ⟨_, rfl⟩
  have hsa : wa.heap.size = w.heap.size + 1 := by rw [hwa]; simp
  have hba : Below w.heap.size w wa := by rw [hwa]; exact below_alloc w _
  have HKA := Lib.hid (show Blk wa w.heap.size 55 #[.pointer (some ⟨gb, 0, none⟩)] by rw [hwa]; exact Blk.new w _ _)
  have HBA := Lib.hid hba
  have HGA := Lib.hid (hG.below hba)
  have HC1 := Lib.hid (punder_any base gb db mb A c B d V ids ns bs1 wa HGA.out hbl hN hns hdn b1 As cs S (own_below hS hba) hSl hSn)
  have HG := Lib.hid hG
  have HBL := Lib.hid hbl
  have HND := Lib.hid hnd
  have HNS := Lib.hid hns
  have HDN := Lib.hid hdn
  have HSA := Lib.hid hsa
  have k1 : wa.cell? ⟨w.heap.size, 0, none⟩ = some (.pointer (some ⟨gb, 0, none⟩)) := HKA.out.cell 0
  replace hwa := hwa.symm
  clear hG hbl hnd hns hdn hba hsa hS hSn
  go_enter Try.func46, Try.ntmps46
  go_wp2_with fail
  refine HC1.out.mono ?_; rintro e w2 ⟨rfl, hrow2, hgr2, bs2, hbs2, hdu2⟩
  obtain ⟨LATE, hLATE⟩ : ∃ x, x = Gr.mkTo ns ids.length (Gr.sets (List.replicate ids.length false) S) := ⟨_, rfl⟩
  rw [← hLATE] at hrow2
  have hll : LATE.length = ids.length := by rw [hLATE, Gr.mkTo_length, Gr.sets_length, List.length_replicate]
  have HLL := Lib.hid hll
  have hgr0 : w.grownBy w2 (some db) := ⟨hgr2.os.trans HBA.out.os, hgr2.tape.trans HBA.out.tape, hgr2.output.trans HBA.out.output, Nat.le_trans HBA.out.size hgr2.size, fun k hk hne => (hgr2.block k (Nat.lt_of_lt_of_le hk HBA.out.size) hne).trans (HBA.out.block k hk)⟩
  obtain ⟨w3, hw3⟩ : ∃ y, y = w2.alloc (.cells #[.slice (some ⟨wa.heap.size, 0, none⟩) ids.length ids.length] 66) := ⟨_, rfl⟩
  have hb3 : Below w2.heap.size w2 w3 := by rw [hw3]; exact below_alloc w2 _
  have HGR3 := Lib.hid (show w.grownBy w3 (some db) from ⟨hb3.os.trans hgr0.os, hb3.tape.trans hgr0.tape, hb3.output.trans hgr0.output, Nat.le_trans hgr0.size hb3.size, fun k hk hne => (hb3.block k (Nat.lt_of_lt_of_le hk hgr0.size)).trans (hgr0.block k hk hne)⟩)
  have HG3 := Lib.hid (HG.out.marks HGR3.out (hdu2.later hb3) (by rw [hbs2, HBL.out]))
  have HLR := Lib.hid (show Blk w3 wa.heap.size 4 (bl LATE) from hrow2.later hb3)
  have HLB := Lib.hid (show Blk w3 w2.heap.size 66 #[.slice (some ⟨wa.heap.size, 0, none⟩) ids.length ids.length] by rw [hw3]; exact Blk.new w2 _ _)
  have HB1 := Lib.hid (show Blk w3 w.heap.size 55 #[.pointer (some ⟨gb, 0, none⟩)] from (HKA.out.grown hgr2 (fun e => by have := Option.some.inj e; omega)).later hb3)
  have HS3 := Lib.hid (show wa.heap.size < w2.heap.size ∧ w2.heap.size < w3.heap.size from ⟨hrow2.lt, by rw [hw3]; simp⟩)
  have k2 : w3.cell? ⟨w.heap.size, 0, none⟩ = some (.pointer (some ⟨gb, 0, none⟩)) := HB1.out.cell 0
  have k3 : w3.cell? ⟨w2.heap.size, 0, none⟩ = some (.slice (some ⟨wa.heap.size, 0, none⟩) ids.length ids.length) := HLB.out.cell 0
  have HC2 := Lib.hid (prising_any gb base A c _ _ _ ids w3 HG3.out.cells HG3.out.own HG3.out.dig HND.out hN wa.heap.size LATE ids.length HLR.out hll)
  rw [hll] at HC2
  have HLT := Lib.hid hLATE
  have HDU3 := Lib.hid (show ∃ bs : List Bool, bs.length = ids.length ∧ Blk w3 db 4 (bl bs) from ⟨bs2, hbs2, hdu2.later hb3⟩)
  replace hw3 := hw3.symm
  clear hrow2 hgr2 hbs2 hdu2 hgr0 hb3 hll HC1 k1 hwa hLATE HG3
  go_wp2_with fail
  refine HC2.out.mono ?_; rintro e w4 ⟨A1, c1, R0, rfl, ho4, hb4, hro⟩
  go_wp2_with (refine at_sto 75 (.tmp 7) (.tmp 16) rfl ?_; go_must (refine wpList_store_b rfl 75 (.tmp 7) (.tmp 16) rfl w4.heap.size 0 (.func (.func 56) #[] #[.pointer (some ⟨w2.heap.size, 0, none⟩)]) rfl rfl 75 #[Value.nilFunc] (Blk.new w4 _ _) (by simp) rfl (by kernel_rfl) ?_); intro w5 hA5 hg5)
  have hb5 : Below w4.heap.size w4 w5 := (below_alloc w4 _).grown hg5 (by simp) (fun r e => by cases e; exact Nat.le_refl _)
  have hb35 : Below w3.heap.size w3 w5 := hb4.trans (hb5.mono hb4.size)
  have HRO := Lib.hid hro
  have HS5 := Lib.hid (show w3.heap.size ≤ w4.heap.size ∧ w4.heap.size < w5.heap.size from ⟨hb4.size, by have := hg5.size; simp at this; omega⟩)
  have HN200 := hN
  have HST := Lib.hid (show OrG w gb db w2.heap.size wa.heap.size w4.heap.size w5.heap.size ids.length ns R0 R0 [] A1 c1 none 0 LATE w5 by
    refine ⟨⟨?_, ?_, HB1.out.later hb35, ⟨HLB.out.later hb35, HLR.out.later hb35⟩, by have h := hA5; exact h, ?_, ?_, World.ownsRow_nil _ _ _ _, ?_⟩, ⟨HLL.out, fun n => (hro.mem n).symm⟩, ⟨by have := hro.len; omega, fun n hn => ?_, hro.nodup, by simp⟩, rfl⟩
    · exact ⟨hb35.os.trans HGR3.out.os, hb35.tape.trans HGR3.out.tape, hb35.output.trans HGR3.out.output, Nat.le_trans HGR3.out.size hb35.size, fun k hk hne => (hb35.block k (Nat.lt_of_lt_of_le hk HGR3.out.size)).trans (HGR3.out.block k hk hne)⟩
    · obtain ⟨bs, h1, h2⟩ := HDU3.out
      exact ⟨bs, h1, h2.later hb35⟩
    · exact own_base (own_below ho4 hb5) (by have := HGR3.out.size; exact this)
    · intro q hq
      have := (ho4.lt q hq).2
      have := HS5.out
      omega
    · have h1 := HSA.out
      have h2 := HS3.out
      have h3 := HS5.out
      have h4 := HB1.out.lt
      refine ⟨by omega, by omega, by omega, by omega, by omega, by omega, by omega, hdb, Nat.le_refl _⟩
    · have h1 := (hro.mem n).1 hn
      apply Decidable.byContradiction
      intro hc
      rw [List.getD_eq_getElem?_getD, List.getElem?_eq_none (by rw [HLL.out]; omega)] at h1
      cases h1)
  obtain ⟨lb, hlb⟩ : ∃ x, x = w2.heap.size := ⟨_, rfl⟩
  obtain ⟨lr, hlr⟩ : ∃ x, x = wa.heap.size := ⟨_, rfl⟩
  obtain ⟨fb, hfb⟩ : ∃ x, x = w4.heap.size := ⟨_, rfl⟩
  obtain ⟨n5, hn5⟩ : ∃ x, x = w5.heap.size := ⟨_, rfl⟩
  clear ho4 hb4 hro hb5 hb35 HC2 k2 k3 hw3 hA5 hg5
  rw [← hlb, ← hlr, ← hfb, ← hn5] at HST
  rw [← hlb, ← hlr, ← hfb]
  clear HS3 HS5 HLB HLR HB1 HGR3 HDU3 HKA HBA HGA HSA hlb hlr hfb hn5
  obtain ⟨iI, hiI, hzI0, hzI1, hzI2⟩ := info_parts infoI
  go_loopw [6, 8] (fun rv lv wr => ∃ (R K : List Nat) (A1 : Option Addr) (c1 : Nat) (A2 : Option Addr) (c2 : Nat) (LT : List Bool), rv = .slice A1 R.length c1 ∧ lv = .slice A2 K.length c2 ∧ OrG w gb db lb lr fb n5 ids.length ns R0 R K A1 c1 A2 c2 LT wr) (fun rv _ _ => lenV rv)
  case atStart => exact ⟨R0, [], A1, c1, none, 0, LATE, rfl, rfl, HST.out⟩
  case round =>
    clear HST
    obtain ⟨R, K, A1, c1, A2, c2, LT, rfl, rfl, hS⟩ := hrel
    have HS := Lib.hid hS
    have hsm1 := hS.small.1
    have hsm2 := hS.small.2.2.2
    have hsm3 := HRO.out.len
    clear hS
    by_cases hR : R = []
    · subst hR
      have hl0 : ¬ (0 : Int) < (([] : List Nat).length : Int) := by simp
      go_wp2_with fail
      go_ret
      obtain ⟨bs, hb1, hb2⟩ := HS.out.mem.due
      have hgo := HS.out.go
      rw [List.length_nil, Gr.ordR, List.append_nil] at hgo
      refine ⟨A2, c2, R0, K, rfl, own_base HS.out.mem.come (by have := HS.out.mem.geo.1; omega), ⟨HS.out.mem.gr, bs, hb1, hb2⟩, ?_, hgo, by simp at hsm2; omega⟩
      rw [← HLT.out]
      exact HRO.out
    · have hpos : 0 < R.length := List.length_pos_iff.2 hR
      have hposI : (0 : Int) < (R.length : Int) := by omega
      have hposB : decide (0 < R.length) = true := decide_eq_true hpos
      obtain ⟨hpe, hany⟩ := any_next HDN.out hR HS.out.lts.2
      have HC := Lib.hid (pindex_any gb w.heap.size lb fb lr ids.length base _ _ _ B d V ns LT wr (HS.out.next HG.out) HS.out.lts.1 hN HNS.out (by rw [HG.out.plen]) w.heap.size A1 c1 R HS.out.mem.rest HS.out.small.2.1 hsm1 hany)
      obtain ⟨x, hx1, hx2, hx3, hx4⟩ := first_is _ hany
      obtain ⟨i, hi⟩ : ∃ i, i = R.findIdx (fun x => !(ns.getD x []).any fun p => LT.getD p false) := ⟨_, rfl⟩
      rw [← hi] at HC hx1 hx3 hx4
      rw [hpe] at hx2
      have HX1 := Lib.hid hx1
      have HX2 := Lib.hid hx2
      have HX3 := Lib.hid hx3
      clear hi hpe hany hx1 hx2 hx3 hR
      go_wp2_with fail
      refine HC.out.mono ?_; rintro e wq ⟨rfl, q, hq⟩
      have HQ := Lib.hid (HS.out.below (W' := wq) (by rw [hq]; exact below_drewN' (Below.refl _ wr) q))
      clear hq HC HS
      obtain ⟨ad, u, hA1, hbk, hu, hcu⟩ := (Rd.of_own HQ.out.mem.rest).spot hx4
      subst hA1
      have hu' := nv_at HX1.out
      rw [hu] at hu'
      obtain rfl := Option.some.inj hu'
      have hiX : (i : Int) < (R.length : Int) := by omega
      have hxN := HQ.out.small.2.1 x (List.mem_of_getElem? HX1.out)
      have hxNI : (x : Int) < (ids.length : Int) := by omega
      have HCA := Lib.hid (HQ.out.mem.come.alloc (.cells #[.int .i64 (x : Int)] 3))
      have HMA := Lib.hid (HQ.out.mem.below (below_alloc wq (.cells #[.int .i64 (x : Int)] 3)))
      have hn5a : n5 ≤ (wq.alloc (.cells #[.int .i64 (x : Int)] 3)).heap.size := HMA.out.geo.2.2.2.2.2.2.2.2
      clear hu hu'
      go_wp2_with (refine at_dst 29 rfl ?_; go_must (refine wp_appK _ 1 rfl (.tmp 23) (.tmp 28) 64 64 rfl n5 3 iI _ 8 Try.underlying64 hiI hzI0 hzI1 hzI2 rfl (.slice A2 K.length c2) K.length (nv K) rfl HCA.out (.slice (some ⟨wq.heap.size, 0, none⟩) 1 1) 1 [.int .i64 (x : Int)] rfl (new_srcK 1 Try.underlying64 wq [.int .i64 (x : Int)] 1 1 3 (0, 0) rfl (by simp [Value.oneCell'])) (by unfold maxLen; omega) (by omega) hn5a ?_); intro v3 w3 ho3 hg3 _; obtain ⟨A3, c3, hv3, -, -, -⟩ := own_form ho3; subst hv3)
      have HM3 := Lib.hid (show OrM w gb db lb lr fb n5 ids.length R (K ++ [x]) (some ad) c1 A3 c3 LT w3 from HMA.out.came hg3 (by rw [nv_append, List.length_append]; exact ho3))
      have HMD := Lib.hid (HM3.out.below (Below.refl w3.heap.size w3).drew)
      have c5 : w3.drew.cell? ⟨lb, 0, none⟩ = some (.slice (some ⟨lr, 0, none⟩) ids.length ids.length) := HMD.out.late.box.cell 0
      obtain ⟨ad2, u2, hA2, -, hu2, hcu2⟩ := (Rd.of_own HMD.out.rest).spot hx4
      obtain rfl := Option.some.inj hA2
      have hu2' := nv_at HX1.out
      rw [hu2] at hu2'
      obtain rfl := Option.some.inj hu2'
      have HQL := Lib.hid (And.intro HQ.out.lts (And.intro HQ.out.small HQ.out.go))
      clear ho3 hg3 hu2 hu2' hA2 hcu HMA HCA HM3 HQ
      refine still_tail 6 (by kernel_rfl) (by kernel_rfl) ?_
      simp only [List.take_succ_cons, List.take_zero, List.drop_succ_cons, List.drop_zero]
      generalize World.drew w3 = wd at *
      with_reducible refine wpStill_step (fun K hK => ?_); go_simp; refine hK _ ?_; clear hK K
      with_reducible refine wpStill_step (fun K hK => ?_); go_simp; refine hK _ ?_; clear hK K
      with_reducible refine wpStill_step (fun K hK => ?_); go_simp; refine hK _ ?_; clear hK K
      with_reducible refine wpStill_step (fun K hK => ?_); go_simp; refine hK _ ?_; clear hK K
      with_reducible refine wpStill_step (fun K hK => ?_); go_simp; refine hK _ ?_; clear hK K
      with_reducible refine wpStill_step (fun K hK => ?_); go_simp; refine hK _ ?_; clear hK K
      refine wpStill_nil ?_
      go_wp2_with (refine at_sto 4 (.tmp 35) (.const (.bool false)) rfl ?_; go_must (refine wpList_store_b rfl 4 (.tmp 35) (.const (.bool false)) rfl lr x (.bool false) rfl rfl 4 (bl LT) HMD.out.late.row (by rw [bl_size, HQL.out.1.1]; exact hxN) rfl (by kernel_rfl) ?_); intro w6 hA6 hg6; have HM6 := Lib.hid (HMD.out.struck hg6 (LT' := LT.set x false) (by rw [← bl_set]; exact hA6)); clear hA6 hg6 c5 hcu2)
      refine (pdelete_any w6 w.heap.size (some ad) c1 R i HM6.out.rest hx4 hsm1).mono ?_; rintro e w7 ⟨rfl, ho7, hg7⟩
      have HM7 := Lib.hid (HM6.out.less hg7 ho7 rfl)
      have HLE := Lib.hid (show (R.eraseIdx i).length = R.length - 1 from List.length_eraseIdx_of_lt hx4)
      clear ho7 hg7 HM6 HMD
      go_wp2_with fail
      go_roundw
      case rel =>
        have hE := HX3.out
        obtain ⟨⟨hl1, hl2⟩, ⟨-, hs2, hs3, hs4⟩, hgo⟩ := HQL.out
        have hxR : x ∈ R := List.mem_of_getElem? HX1.out
        refine ⟨R.eraseIdx i, K ++ [x], some ad, c1, A3, c3, LT.set x false, rfl, by rw [List.length_append]; rfl, ⟨HM7.out, ⟨by rw [List.length_set]; exact hl1, fun n => ?_⟩, ⟨by rw [HLE.out]; omega, fun n hn => ?_, ?_, ?_⟩, ?_⟩⟩
        · rw [getD_unset, hl2 n, ← hE, hs3.mem_erase_iff]
          exact ⟨fun h => ⟨h.2, h.1⟩, fun h => ⟨h.2, h.1⟩⟩
        · rw [← hE] at hn
          exact hs2 n (List.mem_of_mem_erase hn)
        · rw [← hE]; exact hs3.erase x
        · rw [List.length_append, HLE.out]
          simp
          omega
        · rw [← hgo, HLE.out, List.append_assoc]
          congr 1
          obtain ⟨m, hm⟩ : ∃ m, R.length = m + 1 := ⟨R.length - 1, by omega⟩
          rw [hm, Gr.ordR, HX2.out, ← hE]
          rfl
      case measure =>
        show (R.eraseIdx i).length < R.length
        rw [HLE.out]; omega
end Go.Proofs.Ytebfocfeehajjaa

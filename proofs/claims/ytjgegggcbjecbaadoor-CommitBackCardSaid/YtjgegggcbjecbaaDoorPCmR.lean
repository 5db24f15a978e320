/- The program's reader: commit. -/
import Derived.Test.YtjgegggcbjecbaaDoorPOp
namespace Go.Proofs.YtjgegggcbjecbaaDoor
open Go Go.RowKit

section
variable {P : Program}
theorem op_one_slice {o : Oper} {a : Act} {w : World} {K : Act → World → Prop} {Q : Exit → Act → World → Prop} (t e : TypeId) (x : Operand) (ho : o.op = .buildSlice t 1 #[(0, x)]) (ie : TypeInfo) (z : Value) (D : Array Value) (hx : a.eval x = .agg D)
    (hu : P.underlying t = some (.slice e)) (hie : P.info? e = some ie) (hz : ie.zero = some z) (hs : ie.size = D.size) (h0 : 0 < D.size) (hl : D.size ≤ 16777216)
    (h : K (a.put o.dst (.slice (some ⟨w.heap.size, 0, none⟩) 1 1)) (w.alloc (.cells D e))) : Oper.wp P o a w K Q := by
  unfold Oper.wp execOp
  have hr := run_one_slice (P := P) t e ie z D hu hie hz hs h0 hl w
  rw [← hx] at hr
  simp only [ho, List.map_toArray, List.map_cons, List.map_nil, Sem.run_bind, hr, Result.andThen_ok]
  exact h
end
theorem own_gb {w1 w2 : World} {B g n k : Nat} {e : TypeId} {v : Value} {xs : List Value} (ho : w1.ownsRow B e k v n xs) (hg : w1.grownBy w2 (some g)) (hB : g < B) : w2.ownsRow B e k v n xs :=
  ho.kept hg (by
    cases hq : v.ownBlock with
    | none => exact .inl rfl
    | some q => exact .inr (fun h => by have := (ho.lt q hq).1; have := Option.some.inj h; omega))

/-- How a commit's reading ends. -/
def CmO (B g : Nat) (A : Option Addr) (c : Nat) (b : List UInt8) (r : Except Nat (Cm.RawCm × Nat)) (w : World) (e : Ending) (w' : World) : Prop :=
  w.grownBy w' (some g) ∧ match r with
    | .ok z => ∃ v, e = .returned v ∧ OwnCm w.heap.size w' v (Cm.toCm z.1) ∧ RdrB B g A c b z.2 w'
    | .error er => e = thr er
/-- What stands while the parents are read. -/
structure PaG (B g : Nat) (A : Option Addr) (c : Nat) (b : List UInt8) (n p1 i p : Nat) (ps : List (List UInt8)) (Ar : Option Addr) (cr : Nat) (w wr : World) : Prop where
  rdr : RdrB B g A c b p wr
  box : Blk wr w.heap.size 25 (bx (.slice Ar i cr) [] [] (.slice none 0 0))
  own : wr.ownsRow w.heap.size 34 32 (.slice Ar i cr) ps.length (rows bv ps)
  len : ∀ d ∈ ps, d.length = 32
  hi : ps.length = i
  hin : i ≤ n
  go : Pa.listP (Pa.digP 32) n b p1 = glue ps (Pa.listP (Pa.digP 32) (n - i) b p)
  gb : w.grownBy wr (some g)
  hg : g < w.heap.size
/-- What stands while the operations are read. -/
structure OpG (B g : Nat) (A : Option Addr) (c : Nat) (b : List UInt8) (ps : List (List UInt8)) (s t : List UInt8) (Ar : Option Addr) (cr : Nat) (n p1 i p : Nat) (os : List Cm.RawOp) (Ao : Option Addr) (co : Nat) (w wr : World) : Prop where
  rdr : RdrB B g A c b p wr
  box : Blk wr w.heap.size 25 (bx (.slice Ar ps.length cr) s t (.slice Ao i co))
  par : wr.ownsRow w.heap.size 34 32 (.slice Ar ps.length cr) ps.length (rows bv ps)
  own : wr.ownsRow w.heap.size 55 37 (.slice Ao i co) i (rows opCells (os.map Cm.toOp))
  dim : ∀ z ∈ os, dimOp (Cm.toOp z)
  hi : os.length = i
  hin : i ≤ n
  go : Pa.listP Cm.opP n b p1 = glue os (Pa.listP Cm.opP (n - i) b p)
  gb : w.grownBy wr (some g)
  hg : g < w.heap.size

set_option maxRecDepth 100000 in
set_option maxHeartbeats 16000000 in
theorem rcommit_read (B g c p : Nat) (A : Option Addr) (b : List UInt8) (w : World) (h : RdrB B g A c b p w) (hc : b.length ≤ c) (hm : c ≤ 9223372036854775807) :
    Calls Tryd.prog 29 #[.pointer (some ⟨g, 0, none⟩)] w (CmO B g A c b (Cm.cmP b p) w) := by
  obtain ⟨iD, hiD, hzD0, hzD1, hzD2⟩ := info_parts infoDg
  obtain ⟨iO, hiO, hzO0, hzO1, hzO2⟩ := info_parts infoOp
  obtain ⟨Z, hZ⟩ : ∃ Z, Z = bx (.slice none 0 0) [] [] (.slice none 0 0) := ⟨_, rfl⟩
  have hZl : (#[Value.slice none 0 0, .string ⟨#[]⟩, .string ⟨#[]⟩, .slice none 0 0] : Array Value) = Z := hZ.symm
  obtain ⟨w1, hw1⟩ : ∃ y, y = w.alloc (.cells Z 25) := ⟨_, rfl⟩
  have hb1 : Below w.heap.size w w1 := by rw [hw1]; exact below_alloc w _
  have HX1 := Lib.hid (h.later hb1)
  have HBX1 := Lib.hid (show Blk w1 w.heap.size 25 (bx (.slice none 0 0) [] [] (.slice none 0 0)) by rw [hw1, ← hZ]; exact Blk.new w _ _)
  have HGB1 := Lib.hid (gb_below (row := some g) hb1)
  have HGL := Lib.hid h.blk.lt
  have C := Lib.hid (count_any B g c p 8 A b w1 HX1.out hc hm)
  have hi8 : ((8 : Nat) : Int) = 8 := rfl
  rw [hi8] at C
  replace hw1 := hw1.symm
  have HZ := Lib.hid hZ
  clear hZ hb1 h hi8
  cases hn : Pa.numP 8 4 b p with
  | error er =>
    rw [hn] at C
    have HR := Lib.hid (show Cm.cmP b p = .error er from Pa.bind_err hn)
    clear hn
    go_enter Tryd.func29, Tryd.ntmps29
    go_wp2_with fail
    refine C.out.mono ?_; rintro e w5 ⟨hg, he⟩
    simp only [] at he
    unfold thr at he
    subst he
    have HG := Lib.hid (gb_trans HGB1.out hg)
    clear hg
    go_wp2_with fail
    exact ⟨rfl, HG.out, by rw [HR.out]; rfl⟩
  | ok z =>
  obtain ⟨n, p1⟩ := z
  rw [hn] at C
  have HNP := Lib.hid hn
  have hn8 : n ≤ 8 := by
    have h := hn
    rw [numP_any] at h
    split at h
    · cases h
    · split at h
      · cases h
      · rename_i z _ hz
        simp only [Except.ok.injEq] at h
        subst h
        omega
  clear hn
  go_enter Tryd.func29, Tryd.ntmps29
  go_wp2_with fail
  refine C.out.mono ?_; rintro e w2 ⟨hg, rfl, hx⟩
  have HS := Lib.hid (show PaG B g A c b n p1 0 p1 [] none 0 w w2 from ⟨hx, HBX1.out.grown hg (fun e => by have h1 := Option.some.inj e; have h2 := HGL.out; omega), World.ownsRow_nil w2 _ _ _, (fun d h => by cases h), rfl, Nat.zero_le _, by rw [glue_nil, Nat.sub_zero], gb_trans HGB1.out hg, HGL.out⟩)
  clear hg hx hw1 HX1 HBX1 HGB1 C
  go_wp2_with fail
  go_loopw [5] (fun iv wr => ∃ (i p' : Nat) (ps : List (List UInt8)) (Ar : Option Addr) (cr : Nat), iv = .int .i64 (i : Int) ∧ PaG B g A c b n p1 i p' ps Ar cr w wr) (fun iv _ => n - (intOf iv).toNat)
  case atStart => exact ⟨0, p1, [], none, 0, rfl, HS.out⟩
  clear HS
  case round =>
    obtain ⟨i, p', ps, Ar, cr, rfl, hG⟩ := hrel
    have HG := Lib.hid hG
    have hin := hG.hin
    have hil := hG.hi
    clear hG
    by_cases hlt : i < n
    · have hltI : (i : Int) < (n : Int) := by omega
      have HX := Lib.hid HG.out.rdr.drew
      have HBX := Lib.hid HG.out.box.drew
      have HOW := Lib.hid (show wr.drew.ownsRow w.heap.size 34 32 (.slice Ar i cr) ps.length (rows bv ps) from HG.out.own)
      have HGD := Lib.hid (show w.grownBy wr.drew (some g) from gb_trans HG.out.gb gb_drew)
      have HSD := Lib.hid (show wr.drew.cell? ⟨w.heap.size, 0, none⟩ = some (.slice Ar i cr) from HBX.out.cell 0)
      have CD := Lib.hid (fun (w' : World) (hx : RdrB B g A c b p' w') => rdigest_any B g c p' A b w' hx hc hm)
      cases hdg : Pa.digP 32 b p' with
      | error er =>
        have HR := Lib.hid (show Cm.cmP b p = .error er from Pa.bind_err2 HNP.out (Pa.bind_err (by rw [HG.out.go, show n - i = (n - i - 1) + 1 by omega, Pa.list_err hdg]; rfl)))
        rw [hdg] at CD
        clear hdg
        go_wp2_with fail
        refine wp_region_any (by kernel_rfl) ?_
        change wpAny _ _ _ _ _ _ _ (World.drew _)
        refine wpAny_of_zed (S := fun x => x.cell? ⟨w.heap.size, 0, none⟩ = some (.slice Ar i cr)) (z := 7) _ _ _ _ ?_
        refine zed_take (i := 0) (v := ?_) rfl (by kernel_rfl) (by kernel_rfl) (by kernel_rfl) (by kernel_rfl) (fun _ _ _ h => h) (Or.inl ⟨by rfl, ?_⟩) (HSD.out) ?_
        rotate_left
        · intro wq hS
          have hS' := hS
          try simp only [] at hS'
          go_simp; try with_reducible rfl
        change wpAnyZ _ _ _ _ _ _ _ _ (Act.put _ _ _) _
        refine zed_take (i := 1) (v := ?_) rfl (by kernel_rfl) (by kernel_rfl) (by kernel_rfl) (by kernel_rfl) (fun _ _ _ h => h) (Or.inl ⟨by rfl, ?_⟩) (HSD.out) ?_
        rotate_left
        · intro wq hS
          have hS' := hS
          try simp only [] at hS'
          go_simp; try with_reducible rfl
        change wpAnyZ _ _ _ _ _ _ _ _ (Act.put _ _ _) _
        refine zed_take (i := 2) (v := ?_) rfl (by kernel_rfl) (by kernel_rfl) (by kernel_rfl) (by kernel_rfl) (fun _ _ _ h => h) (Or.inl ⟨by rfl, ?_⟩) (HSD.out) ?_
        rotate_left
        · intro wq hS
          have hS' := hS
          try simp only [] at hS'
          go_simp; try with_reducible rfl
        change wpAnyZ _ _ _ _ _ _ _ _ (Act.put _ _ _) _
        go_simp
        generalize World.drew wr = wd at *
        refine zed_op 3 (by kernel_rfl) rfl rfl (fun K hK => ?_)
        go_simp
        refine (CD.out wd HX.out).mono ?_; rintro e w3 ⟨hg, he⟩
        simp only [] at he
        unfold thr at he
        subst he
        have HGT := Lib.hid (gb_trans HGD.out hg)
        dsimp only
        clear hg hK K
        go_wp2_with fail
        exact ⟨rfl, HGT.out, by rw [HR.out]; rfl⟩
      | ok z =>
        obtain ⟨D, q⟩ := z
        have hDl : D.length = 32 := digP_ok hdg
        have HGO := Lib.hid (show Pa.listP (Pa.digP 32) n b p1 = glue (ps ++ [D]) (Pa.listP (Pa.digP 32) (n - (i + 1)) b q) by
          rw [HG.out.go, show n - i = (n - (i + 1)) + 1 by omega, glue_next hdg])
        rw [hdg] at CD
        unfold digV at CD
        have HDS := Lib.hid (show (bv D).toArray.size = 32 by rw [bv_size]; exact hDl)
        have HDL := Lib.hid hDl
        clear hdg hDl
        go_wp2_with fail
        refine wp_region_any (by kernel_rfl) ?_
        change wpAny _ _ _ _ _ _ _ (World.drew _)
        refine wpAny_of_zed (S := fun x => x.cell? ⟨w.heap.size, 0, none⟩ = some (.slice Ar i cr)) (z := 7) _ _ _ _ ?_
        refine zed_take (i := 0) (v := ?_) rfl (by kernel_rfl) (by kernel_rfl) (by kernel_rfl) (by kernel_rfl) (fun _ _ _ h => h) (Or.inl ⟨by rfl, ?_⟩) (HSD.out) ?_
        rotate_left
        · intro wq hS
          have hS' := hS
          try simp only [] at hS'
          go_simp; try with_reducible rfl
        change wpAnyZ _ _ _ _ _ _ _ _ (Act.put _ _ _) _
        refine zed_take (i := 1) (v := ?_) rfl (by kernel_rfl) (by kernel_rfl) (by kernel_rfl) (by kernel_rfl) (fun _ _ _ h => h) (Or.inl ⟨by rfl, ?_⟩) (HSD.out) ?_
        rotate_left
        · intro wq hS
          have hS' := hS
          try simp only [] at hS'
          go_simp; try with_reducible rfl
        change wpAnyZ _ _ _ _ _ _ _ _ (Act.put _ _ _) _
        refine zed_take (i := 2) (v := ?_) rfl (by kernel_rfl) (by kernel_rfl) (by kernel_rfl) (by kernel_rfl) (fun _ _ _ h => h) (Or.inl ⟨by rfl, ?_⟩) (HSD.out) ?_
        rotate_left
        · intro wq hS
          have hS' := hS
          try simp only [] at hS'
          go_simp; try with_reducible rfl
        change wpAnyZ _ _ _ _ _ _ _ _ (Act.put _ _ _) _
        go_simp
        generalize World.drew wr = wd at *
        refine zed_op 3 (by kernel_rfl) rfl rfl (fun K hK => ?_)
        go_simp
        refine (CD.out wd HX.out).mono ?_; rintro e w3 ⟨hg, rfl, hx⟩
        dsimp only
        have HX3 := Lib.hid hx
        have HBX3 := Lib.hid (HBX.out.grown hg (fun e => by have h1 := Option.some.inj e; have h2 := HGL.out; omega))
        have HOW3 := Lib.hid (own_gb HOW.out hg HGL.out)
        have HGD3 := Lib.hid (gb_trans HGD.out hg)
        refine hK _ _ (fun _ => HBX3.out.cell 0) ?_; clear hK K hg hx
        go_simp
        refine zed_op 4 (by kernel_rfl) rfl rfl (fun K hK => op_one_slice 22 34 (.tmp 10) rfl iD _ (bv D).toArray rfl Tryd.underlying22 hiD hzD0 (by rw [hzD1, HDS.out]) (by rw [HDS.out]; decide) (by rw [HDS.out]; decide) (hK _ _ (fun _ => (HBX3.out.alloc _).cell 0) ?_))
        clear hK K
        go_simp
        refine zed_op 5 (by kernel_rfl) rfl rfl (fun K hK => ?_)
        refine op_appK _ 32 (.tmp 8) (.tmp 11) 22 22 rfl w.heap.size 34 iD _ 32 Tryd.underlying22 hiD hzD0 hzD1 hzD2 rfl (.slice Ar i cr) ps.length (rows bv ps) rfl (HOW3.out.alloc _) (.slice (some ⟨w3.heap.size, 0, none⟩) 1 1) 1 (bv D) rfl (new_srcK 32 Tryd.underlying22 w3 (bv D) 1 1 34 (0, 0) (by rw [bv_length, HDL.out]) (bv_one D)) (by unfold maxLen; omega) (by omega) (by have := HGD3.out.size; simp; omega) ?_
        intro v2 w5 ho2 hg2 _
        obtain ⟨A2, k2, hv2, -, -, -⟩ := own_form ho2
        subst hv2
        have HBX5 := Lib.hid ((HBX3.out.alloc (.cells (bv D).toArray 34)).grown hg2 (fun e => row_own_ne (HOW3.out.alloc (.cells (bv D).toArray 34)) (HBX3.out.alloc _) (by decide) e.symm))
        have hlw3 := (below_alloc w3 (.cells (bv D).toArray 34))
        have HB5 := Lib.hid ((Below.refl w.heap.size (w3.alloc (.cells (bv D).toArray 34))).grown hg2 (Nat.le_trans HGD3.out.size hlw3.size) (fun q hq => ((HOW3.out.alloc (.cells (bv D).toArray 34)).lt q hq).1))
        have HBA := Lib.hid (show Below w.heap.size w3 w5 from (hlw3.mono HGD3.out.size).trans HB5.out)
        have HX5 := Lib.hid (show RdrB B g A c b q w5 from ⟨HX3.out.blk.below HBA.out HGL.out, HX3.out.rd.below (HBA.out.mono (Nat.le_trans HX3.out.hB (Nat.le_of_lt HGL.out))), HX3.out.hB, HX3.out.hp⟩)
        have HGD5 := Lib.hid (show w.grownBy w5 (some g) from ⟨HBA.out.os.trans HGD3.out.os, HBA.out.tape.trans HGD3.out.tape, HBA.out.output.trans HGD3.out.output, Nat.le_trans HGD3.out.size HBA.out.size, fun k hk hn => (HBA.out.block k hk).trans (HGD3.out.block k hk hn)⟩)
        have HO5 := Lib.hid ho2
        refine hK _ _ (fun _ => HBX5.out.cell 0) ?_; clear hK K ho2 hg2 hlw3
        go_simp
        refine zed_op 6 (by kernel_rfl) rfl rfl (fun K hK => ?_)
        go_simp
        refine hK _ _ (fun _ => HBX5.out.cell 0) ?_; clear hK K
        go_simp
        refine zed_op 7 (by kernel_rfl) rfl rfl (fun K hK => wp_store_blk 22 (.tmp 13) (.tmp 12) rfl w.heap.size 0 (.slice A2 (i + 1) k2) rfl rfl 25 _ HBX5.out (by simp [bx]) rfl (by kernel_rfl) (fun w6 hA6 hg6 => hK _ _ (fun h => absurd rfl h) ?_))
        clear hK K
        have HB6 := Lib.hid (show Below w.heap.size w5 w6 from (Below.refl _ _).grown hg6 (by have := HGD5.out.size; exact this) (fun q hq => by cases hq; exact Nat.le_refl _))
        have HX6 := Lib.hid (show RdrB B g A c b q w6 from ⟨HX5.out.blk.below HB6.out HGL.out, HX5.out.rd.below (HB6.out.mono (Nat.le_trans HX5.out.hB (Nat.le_of_lt HGL.out))), HX5.out.hB, HX5.out.hp⟩)
        have HGD6 := Lib.hid (show w.grownBy w6 (some g) from ⟨HB6.out.os.trans HGD5.out.os, HB6.out.tape.trans HGD5.out.tape, HB6.out.output.trans HGD5.out.output, Nat.le_trans HGD5.out.size HB6.out.size, fun k hk hn => (HB6.out.block k hk).trans (HGD5.out.block k hk hn)⟩)
        have HO6 := Lib.hid (HO5.out.kept hg6 (.inr (row_own_ne HO5.out HBX5.out (by decide))))
        have HBX6 := Lib.hid hA6
        clear hA6 hg6
        refine ⟨by kernel_rfl, ?_⟩
        go_wp2_with fail
        go_roundw
        case rel =>
          refine ⟨i + 1, q, ps ++ [D], A2, k2, by go_num, ⟨HX6.out, ?_, ?_, ?_, ?_, by omega, HGO.out, HGD6.out, HGL.out⟩⟩
          · exact HBX6.out
          · have h := HO6.out
            rw [← rows_one bv D, ← rows_append] at h
            rw [List.length_append]
            rw [hil] at h ⊢
            exact h
          · intro d hd
            rw [List.mem_append, List.mem_singleton] at hd
            rcases hd with hd | rfl
            · exact HG.out.len d hd
            · exact HDL.out
          · rw [List.length_append, hil]; rfl
        case measure => simp [intOf] <;> omega
    · have hltI : ¬ (i : Int) < (n : Int) := by omega
      have HL := Lib.hid (show Pa.listP (Pa.digP 32) n b p1 = .ok (ps, p') by rw [HG.out.go, show n - i = 0 by omega]; simp [Pa.listP, glue])
      have HG1 := HG
      subst hil
      have CT1 := Lib.hid (rtext_any B g c p' A b wr HG.out.rdr hc hm)
      cases ht1 : Pa.textP b p' with
      | error er =>
        have HR := Lib.hid (show Cm.cmP b p = .error er from Pa.bind_err2 HNP.out (Pa.bind_err2 HL.out (Pa.bind_err ht1)))
        rw [ht1] at CT1
        clear ht1
        go_wp2_with fail
        refine CT1.out.mono ?_; rintro e w3 ⟨hg, he⟩
        simp only [] at he
        unfold thr at he
        subst he
        have HGT := Lib.hid (gb_trans HG.out.gb hg)
        clear hg
        go_wp2_with fail
        exact ⟨rfl, HGT.out, by rw [HR.out]; rfl⟩
      | ok z =>
      obtain ⟨s1, q1⟩ := z
      rw [ht1] at CT1
      have HT1 := Lib.hid ht1
      clear ht1
      go_wp2_with fail
      refine CT1.out.mono ?_; rintro e w3 ⟨hg, rfl, hx⟩
      have HX3 := Lib.hid hx
      have HB3 := Lib.hid (HG.out.box.grown hg (fun e => by have h1 := Option.some.inj e; have h2 := HGL.out; omega))
      have HO3 := Lib.hid (own_gb HG.out.own hg HGL.out)
      have HG3 := Lib.hid (gb_trans HG.out.gb hg)
      have c1 : w3.cell? ⟨w.heap.size, 1, none⟩ = some (.string (sB [])) := HB3.out.cell 1
      have f1 := HB3.out.frozen 1
      have HX4 := Lib.hid (HX3.out.farSet (i := 1) (v := .string (sB s1)) HGL.out)
      have HB4 := Lib.hid (show Blk (w3.setCell ⟨w.heap.size, 1, none⟩ (.string (sB s1))) w.heap.size 25 (bx (.slice Ar ps.length cr) s1 [] (.slice none 0 0)) from HB3.out.set_ 1 (.string (sB s1)))
      have HO4 := Lib.hid (row_set (i := 1) (x := .string (sB s1)) HO3.out HB3.out (by decide))
      have HG4 := Lib.hid (gb_far (i := 1) (v := .string (sB s1)) HG3.out (Nat.le_refl _))
      obtain ⟨w4, hw4⟩ : ∃ x, x = w3.setCell ⟨w.heap.size, 1, none⟩ (.string (sB s1)) := ⟨_, rfl⟩
      rw [← hw4] at HX4 HB4 HO4 HG4
      have CT2 := Lib.hid (rtext_any B g c q1 A b w4 HX4.out hc hm)
      replace hw4 := hw4.symm
      clear hg hx CT1
      cases ht2 : Pa.textP b q1 with
      | error er =>
        have HR := Lib.hid (show Cm.cmP b p = .error er from Pa.bind_err2 HNP.out (Pa.bind_err2 HL.out (Pa.bind_err2 HT1.out (Pa.bind_err ht2))))
        rw [ht2] at CT2
        clear ht2
        go_wp2_with fail
        refine CT2.out.mono ?_; rintro e w5 ⟨hg, he⟩
        simp only [] at he
        unfold thr at he
        subst he
        have HGT := Lib.hid (gb_trans HG4.out hg)
        clear hg
        go_wp2_with fail
        exact ⟨rfl, HGT.out, by rw [HR.out]; rfl⟩
      | ok z =>
      obtain ⟨s2, q2⟩ := z
      rw [ht2] at CT2
      have HT2 := Lib.hid ht2
      clear ht2
      go_wp2_with fail
      refine CT2.out.mono ?_; rintro e w5 ⟨hg, rfl, hx⟩
      have HX5 := Lib.hid hx
      have HB5 := Lib.hid (HB4.out.grown hg (fun e => by have h1 := Option.some.inj e; have h2 := HGL.out; omega))
      have HO5 := Lib.hid (own_gb HO4.out hg HGL.out)
      have HG5 := Lib.hid (gb_trans HG4.out hg)
      have c2 : w5.cell? ⟨w.heap.size, 2, none⟩ = some (.string (sB [])) := HB5.out.cell 2
      have f2 := HB5.out.frozen 2
      have HX6 := Lib.hid (HX5.out.farSet (i := 2) (v := .string (sB s2)) HGL.out)
      have HB6 := Lib.hid (show Blk (w5.setCell ⟨w.heap.size, 2, none⟩ (.string (sB s2))) w.heap.size 25 (bx (.slice Ar ps.length cr) s1 s2 (.slice none 0 0)) from HB5.out.set_ 2 (.string (sB s2)))
      have HO6 := Lib.hid (row_set (i := 2) (x := .string (sB s2)) HO5.out HB5.out (by decide))
      have HG6 := Lib.hid (gb_far (i := 2) (v := .string (sB s2)) HG5.out (Nat.le_refl _))
      obtain ⟨w6, hw6⟩ : ∃ x, x = w5.setCell ⟨w.heap.size, 2, none⟩ (.string (sB s2)) := ⟨_, rfl⟩
      rw [← hw6] at HX6 HB6 HO6 HG6
      have CN := Lib.hid (count_any B g c q2 2000 A b w6 HX6.out hc hm)
      have hi2 : ((2000 : Nat) : Int) = 2000 := rfl
      rw [hi2] at CN
      replace hw6 := hw6.symm
      clear hg hx CT2 hi2 hw4 c1 f1
      cases hn2 : Pa.numP 2000 4 b q2 with
      | error er =>
        have HR := Lib.hid (show Cm.cmP b p = .error er from Pa.bind_err2 HNP.out (Pa.bind_err2 HL.out (Pa.bind_err2 HT1.out (Pa.bind_err2 HT2.out (Pa.bind_err hn2)))))
        rw [hn2] at CN
        clear hn2
        go_wp2_with fail
        refine CN.out.mono ?_; rintro e w7 ⟨hg, he⟩
        simp only [] at he
        unfold thr at he
        subst he
        have HGT := Lib.hid (gb_trans HG6.out hg)
        clear hg
        go_wp2_with fail
        exact ⟨rfl, HGT.out, by rw [HR.out]; rfl⟩
      | ok z =>
      obtain ⟨m, q3⟩ := z
      rw [hn2] at CN
      have HN2 := Lib.hid hn2
      have hm2000 : m ≤ 2000 := by
        have h := hn2
        rw [numP_any] at h
        split at h
        · cases h
        · split at h
          · cases h
          · rename_i z _ hz
            simp only [Except.ok.injEq] at h
            subst h
            omega
      clear hn2
      go_wp2_with fail
      refine CN.out.mono ?_; rintro e w7 ⟨hg, rfl, hx⟩
      have HS2 := Lib.hid (show OpG B g A c b ps s1 s2 Ar cr m q3 0 q3 [] none 0 w w7 from ⟨hx, HB6.out.grown hg (fun e => by have h1 := Option.some.inj e; have h2 := HGL.out; omega), own_gb HO6.out hg HGL.out, World.ownsRow_nil w7 _ _ _, (fun d h => by cases h), rfl, Nat.zero_le _, by rw [glue_nil, Nat.sub_zero], gb_trans HG6.out hg, HGL.out⟩)
      clear hg hx hw6 CN c2 f2
      go_wp2_with fail
      go_loopw [23] (fun iv wr => ∃ (j p4 : Nat) (os : List Cm.RawOp) (Ao : Option Addr) (co : Nat), iv = .int .i64 (j : Int) ∧ OpG B g A c b ps s1 s2 Ar cr m q3 j p4 os Ao co w wr) (fun iv _ => m - (intOf iv).toNat)
      case atStart => exact ⟨0, q3, [], none, 0, rfl, HS2.out⟩
      clear HS2
      case round =>
        obtain ⟨j, p4, os, Ao, co, rfl, hG2⟩ := hrel
        have HG := Lib.hid hG2
        have hin := hG2.hin
        have hjl := hG2.hi
        clear hG2
        by_cases hlt : j < m
        · have hltI : (j : Int) < (m : Int) := by omega
          have HX := Lib.hid HG.out.rdr.drew
          have HBX := Lib.hid HG.out.box.drew
          have HPA := Lib.hid (show wr.drew.ownsRow w.heap.size 34 32 (.slice Ar ps.length cr) ps.length (rows bv ps) from HG.out.par)
          have HOW := Lib.hid (show wr.drew.ownsRow w.heap.size 55 37 (.slice Ao j co) j (rows opCells (os.map Cm.toOp)) from HG.out.own)
          have HGD := Lib.hid (show w.grownBy wr.drew (some g) from gb_trans HG.out.gb gb_drew)
          have HSD := Lib.hid (show wr.drew.cell? ⟨w.heap.size, 3, none⟩ = some (.slice Ao j co) from HBX.out.cell 3)
          have CD := Lib.hid (fun (w' : World) (hx : RdrB B g A c b p4 w') => rop_read B g c p4 A b w' hx hc hm)
          have HPL := Lib.hid HG.out.rdr.hp
          cases hop : Cm.opP b p4 with
          | error er =>
            have HR := Lib.hid (show Cm.cmP b p = .error er from Pa.bind_err2 HNP.out (Pa.bind_err2 HL.out (Pa.bind_err2 HT1.out (Pa.bind_err2 HT2.out (Pa.bind_err2 HN2.out (by rw [HG.out.go, show m - j = (m - j - 1) + 1 by omega, Pa.list_err hop]; rfl))))))
            rw [hop] at CD
            clear hop
            go_wp2_with fail
            refine wp_region_any (by kernel_rfl) ?_
            change wpAny _ _ _ _ _ _ _ (World.drew _)
            refine wpAny_of_zed (S := fun x => x.cell? ⟨w.heap.size, 3, none⟩ = some (.slice Ao j co)) (z := 7) _ _ _ _ ?_
            refine zed_take (i := 0) (v := ?_) rfl (by kernel_rfl) (by kernel_rfl) (by kernel_rfl) (by kernel_rfl) (fun _ _ _ h => h) (Or.inl ⟨by rfl, ?_⟩) (HSD.out) ?_
            rotate_left
            · intro wq hS
              have hS' := hS
              try simp only [] at hS'
              go_simp; try with_reducible rfl
            change wpAnyZ _ _ _ _ _ _ _ _ (Act.put _ _ _) _
            refine zed_take (i := 1) (v := ?_) rfl (by kernel_rfl) (by kernel_rfl) (by kernel_rfl) (by kernel_rfl) (fun _ _ _ h => h) (Or.inl ⟨by rfl, ?_⟩) (HSD.out) ?_
            rotate_left
            · intro wq hS
              have hS' := hS
              try simp only [] at hS'
              go_simp; try with_reducible rfl
            change wpAnyZ _ _ _ _ _ _ _ _ (Act.put _ _ _) _
            refine zed_take (i := 2) (v := ?_) rfl (by kernel_rfl) (by kernel_rfl) (by kernel_rfl) (by kernel_rfl) (fun _ _ _ h => h) (Or.inl ⟨by rfl, ?_⟩) (HSD.out) ?_
            rotate_left
            · intro wq hS
              have hS' := hS
              try simp only [] at hS'
              go_simp; try with_reducible rfl
            change wpAnyZ _ _ _ _ _ _ _ _ (Act.put _ _ _) _
            go_simp
            generalize World.drew wr = wd at *
            refine zed_op 3 (by kernel_rfl) rfl rfl (fun K hK => ?_)
            go_simp
            refine (CD.out wd HX.out).mono ?_; rintro e w8 ⟨hg, he⟩
            simp only [] at he
            unfold thr at he
            subst he
            have HGT := Lib.hid (gb_trans HGD.out hg)
            dsimp only
            clear hg hK K
            go_wp2_with fail
            exact ⟨rfl, HGT.out, by rw [HR.out]; rfl⟩
          | ok z =>
            obtain ⟨z, q⟩ := z
            obtain ⟨hql, hdz⟩ := opP_lim HPL.out hop
            have HGO := Lib.hid (show Pa.listP Cm.opP m b q3 = glue (os ++ [z]) (Pa.listP Cm.opP (m - (j + 1)) b q) by
              rw [HG.out.go, show m - j = (m - (j + 1)) + 1 by omega, glue_next hop])
            rw [hop] at CD
            unfold opV at CD
            obtain ⟨x, hx0⟩ : ∃ x, x = Cm.toOp z := ⟨_, rfl⟩
            have HXE := Lib.hid hx0
            have HDZ := Lib.hid (show dimOp x by rw [hx0]; exact hdz)
            have HDS := Lib.hid (show (opCells x).toArray.size = 37 from opA_len HDZ.out)
            clear hop hdz hql
            go_wp2_with fail
            refine wp_region_any (by kernel_rfl) ?_
            change wpAny _ _ _ _ _ _ _ (World.drew _)
            refine wpAny_of_zed (S := fun x => x.cell? ⟨w.heap.size, 3, none⟩ = some (.slice Ao j co)) (z := 7) _ _ _ _ ?_
            refine zed_take (i := 0) (v := ?_) rfl (by kernel_rfl) (by kernel_rfl) (by kernel_rfl) (by kernel_rfl) (fun _ _ _ h => h) (Or.inl ⟨by rfl, ?_⟩) (HSD.out) ?_
            rotate_left
            · intro wq hS
              have hS' := hS
              try simp only [] at hS'
              go_simp; try with_reducible rfl
            change wpAnyZ _ _ _ _ _ _ _ _ (Act.put _ _ _) _
            refine zed_take (i := 1) (v := ?_) rfl (by kernel_rfl) (by kernel_rfl) (by kernel_rfl) (by kernel_rfl) (fun _ _ _ h => h) (Or.inl ⟨by rfl, ?_⟩) (HSD.out) ?_
            rotate_left
            · intro wq hS
              have hS' := hS
              try simp only [] at hS'
              go_simp; try with_reducible rfl
            change wpAnyZ _ _ _ _ _ _ _ _ (Act.put _ _ _) _
            refine zed_take (i := 2) (v := ?_) rfl (by kernel_rfl) (by kernel_rfl) (by kernel_rfl) (by kernel_rfl) (fun _ _ _ h => h) (Or.inl ⟨by rfl, ?_⟩) (HSD.out) ?_
            rotate_left
            · intro wq hS
              have hS' := hS
              try simp only [] at hS'
              go_simp; try with_reducible rfl
            change wpAnyZ _ _ _ _ _ _ _ _ (Act.put _ _ _) _
            go_simp
            generalize World.drew wr = wd at *
            refine zed_op 3 (by kernel_rfl) rfl rfl (fun K hK => ?_)
            go_simp
            refine (CD.out wd HX.out).mono ?_; rintro e w8 ⟨hg, he, hx⟩
            simp only [← hx0] at he
            subst he
            dsimp only
            clear hx0
            have HX3 := Lib.hid hx
            have HBX3 := Lib.hid (HBX.out.grown hg (fun e => by have h1 := Option.some.inj e; have h2 := HGL.out; omega))
            have HPA3 := Lib.hid (own_gb HPA.out hg HGL.out)
            have HOW3 := Lib.hid (own_gb HOW.out hg HGL.out)
            have HGD3 := Lib.hid (gb_trans HGD.out hg)
            refine hK _ _ (fun _ => HBX3.out.cell 3) ?_; clear hK K hg hx
            go_simp
            refine zed_op 4 (by kernel_rfl) rfl rfl (fun K hK => op_one_slice 23 55 (.tmp 28) rfl iO _ (opCells x).toArray rfl Tryd.underlying23 hiO hzO0 (by rw [hzO1, HDS.out]) (by rw [HDS.out]; decide) (by rw [HDS.out]; decide) (hK _ _ (fun _ => (HBX3.out.alloc _).cell 3) ?_))
            clear hK K
            go_simp
            refine zed_op 5 (by kernel_rfl) rfl rfl (fun K hK => ?_)
            refine op_appK _ 37 (.tmp 26) (.tmp 29) 23 23 rfl w.heap.size 55 iO _ 72 Tryd.underlying23 hiO hzO0 hzO1 hzO2 rfl (.slice Ao j co) j (rows opCells (os.map Cm.toOp)) rfl (HOW3.out.alloc _) (.slice (some ⟨w8.heap.size, 0, none⟩) 1 1) 1 (opCells x) rfl (new_srcK 37 Tryd.underlying23 w8 (opCells x) 1 1 55 (0, 0) (by rw [opCells_length HDZ.out]) (opCells_one x)) (by unfold maxLen; omega) (by omega) (by have := HGD3.out.size; simp; omega) ?_
            intro v2 w9 ho2 hg2 _
            obtain ⟨A2, k2, hv2, -, -, -⟩ := own_form ho2
            subst hv2
            have HBX5 := Lib.hid ((HBX3.out.alloc (.cells (opCells x).toArray 55)).grown hg2 (fun e => row_own_ne (HOW3.out.alloc (.cells (opCells x).toArray 55)) (HBX3.out.alloc _) (by decide) e.symm))
            have HPA5 := Lib.hid ((HPA3.out.alloc (.cells (opCells x).toArray 55)).kept hg2 (rows_apart (HPA3.out.alloc (.cells (opCells x).toArray 55)) (HOW3.out.alloc (.cells (opCells x).toArray 55)) (by decide)))
            have hlw3 := (below_alloc w8 (.cells (opCells x).toArray 55))
            have HB5 := Lib.hid ((Below.refl w.heap.size (w8.alloc (.cells (opCells x).toArray 55))).grown hg2 (Nat.le_trans HGD3.out.size hlw3.size) (fun q hq => ((HOW3.out.alloc (.cells (opCells x).toArray 55)).lt q hq).1))
            have HBA := Lib.hid (show Below w.heap.size w8 w9 from (hlw3.mono HGD3.out.size).trans HB5.out)
            have HX5 := Lib.hid (show RdrB B g A c b q w9 from ⟨HX3.out.blk.below HBA.out HGL.out, HX3.out.rd.below (HBA.out.mono (Nat.le_trans HX3.out.hB (Nat.le_of_lt HGL.out))), HX3.out.hB, HX3.out.hp⟩)
            have HGD5 := Lib.hid (show w.grownBy w9 (some g) from ⟨HBA.out.os.trans HGD3.out.os, HBA.out.tape.trans HGD3.out.tape, HBA.out.output.trans HGD3.out.output, Nat.le_trans HGD3.out.size HBA.out.size, fun k hk hn => (HBA.out.block k hk).trans (HGD3.out.block k hk hn)⟩)
            have HO5 := Lib.hid ho2
            refine hK _ _ (fun _ => HBX5.out.cell 3) ?_; clear hK K ho2 hg2 hlw3
            go_simp
            refine zed_op 6 (by kernel_rfl) rfl rfl (fun K hK => ?_)
            go_simp
            refine hK _ _ (fun _ => HBX5.out.cell 3) ?_; clear hK K
            go_simp
            refine zed_op 7 (by kernel_rfl) rfl rfl (fun K hK => wp_store_blk 23 (.tmp 31) (.tmp 30) rfl w.heap.size 3 (.slice A2 (j + 1) k2) rfl rfl 25 _ HBX5.out (by simp [bx]) rfl (by kernel_rfl) (fun w6 hA6 hg6 => hK _ _ (fun h => absurd rfl h) ?_))
            clear hK K
            have HB6 := Lib.hid (show Below w.heap.size w9 w6 from (Below.refl _ _).grown hg6 (by have := HGD5.out.size; exact this) (fun q hq => by cases hq; exact Nat.le_refl _))
            have HX6 := Lib.hid (show RdrB B g A c b q w6 from ⟨HX5.out.blk.below HB6.out HGL.out, HX5.out.rd.below (HB6.out.mono (Nat.le_trans HX5.out.hB (Nat.le_of_lt HGL.out))), HX5.out.hB, HX5.out.hp⟩)
            have HGD6 := Lib.hid (show w.grownBy w6 (some g) from ⟨HB6.out.os.trans HGD5.out.os, HB6.out.tape.trans HGD5.out.tape, HB6.out.output.trans HGD5.out.output, Nat.le_trans HGD5.out.size HB6.out.size, fun k hk hn => (HB6.out.block k hk).trans (HGD5.out.block k hk hn)⟩)
            have HO6 := Lib.hid (HO5.out.kept hg6 (.inr (row_own_ne HO5.out HBX5.out (by decide))))
            have HPA6 := Lib.hid (HPA5.out.kept hg6 (.inr (row_own_ne HPA5.out HBX5.out (by decide))))
            have HBX6 := Lib.hid hA6
            clear hA6 hg6
            refine ⟨by kernel_rfl, ?_⟩
            go_wp2_with fail
            go_roundw
            case rel =>
              refine ⟨j + 1, q, os ++ [z], A2, k2, by go_num, ⟨HX6.out, HBX6.out, HPA6.out, ?_, ?_, ?_, by omega, HGO.out, HGD6.out, HGL.out⟩⟩
              · have h := HO6.out
                rw [← rows_one opCells x, ← rows_append, show os.map Cm.toOp ++ [x] = (os ++ [z]).map Cm.toOp by rw [List.map_append, HXE.out]; rfl] at h
                exact h
              · intro y hy
                rw [List.mem_append, List.mem_singleton] at hy
                rcases hy with hy | rfl
                · exact HG.out.dim y hy
                · rw [← HXE.out]; exact HDZ.out
              · rw [List.length_append, hjl]; rfl
            case measure => simp [intOf] <;> omega
        · have hltI : ¬ (j : Int) < (m : Int) := by omega
          have HLO := Lib.hid (show Pa.listP Cm.opP m b q3 = .ok (os, p4) by rw [HG.out.go, show m - j = 0 by omega]; simp [Pa.listP, glue])
          have HR := Lib.hid (show Cm.cmP b p = .ok ((n, (ps, (s1, (s2, (m, os))))), p4) from Pa.bind_ok HNP.out (Pa.bind_ok HL.out (Pa.bind_ok HT1.out (Pa.bind_ok HT2.out (Pa.bind_ok HN2.out HLO.out)))))
          have HLEN := Lib.hid hjl
          have HPD := Lib.hid HG1.out.len
          go_wp2_with (first | (refine at_lod 25 (.tmp 2) rfl ?_; go_must (refine wpList_load_row rfl 25 (.tmp 2) rfl w.heap.size rfl _ (bx (.slice Ar ps.length cr) s1 s2 (.slice Ao j co)) (0, 0) _ HG.out.box Tryd.underlying25 rfl bx_info ?_)) | (refine at_sto 25 (.tmp 2) (.tmp 33) rfl ?_; go_must (refine wpList_store_row rfl 25 (.tmp 2) (.tmp 33) rfl w.heap.size (bx (.slice Ar ps.length cr) s1 s2 (.slice Ao j co)) rfl rfl _ _ HG.out.box bx_info rfl bx_all ?_); go_wp2_with fail))
          refine bodyPost_ret (v := .agg (bx (.slice Ar ps.length cr) s1 s2 (.slice Ao j co))) (results_row_only rfl _ _ w.heap.size _ _ _ _ rfl (HG.out.box.row _) Tryd.underlying25 rfl bx_info) rfl ⟨gb_farRow HG.out.gb (Nat.le_refl _), ?_⟩
          rw [HR.out]
          refine ⟨_, rfl, ⟨Ar, Ao, cr, co, ?_, row_row HG.out.par HG.out.box (by decide), ?_, HPD.out, ?_⟩, HG.out.rdr.farRow HG.out.hg⟩
          · show _ = Value.agg (bx (.slice Ar ps.length cr) s1 s2 (.slice Ao (os.map Cm.toOp).length co))
            rw [List.length_map, HLEN.out]
          · have h := row_row (cs' := bx (.slice Ar ps.length cr) s1 s2 (.slice Ao j co)) HG.out.own HG.out.box (by decide)
            show World.ownsRow _ _ _ _ (Value.slice Ao (os.map Cm.toOp).length co) (os.map Cm.toOp).length _
            rw [List.length_map, HLEN.out]
            exact h
          · intro x hx
            obtain ⟨y, hy, rfl⟩ := List.mem_map.1 hx
            exact HG.out.dim y hy
end Go.Proofs.YtjgegggcbjecbaaDoor

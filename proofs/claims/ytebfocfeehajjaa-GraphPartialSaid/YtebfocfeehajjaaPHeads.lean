/- The program's heads: those of some that no other one of them stands above. -/
import Derived.Test.YtebfocfeehajjaaPRising
namespace Go.Proofs.Ytebfocfeehajjaa
open Go Go.RowKit Go.Shelf
attribute [local go_sem] Oper.semAt_some

def unsets (b : List Bool) (L : List Nat) : List Bool := L.foldl (fun b p => b.set p false) b
theorem unsets_length : ∀ (L : List Nat) (b : List Bool), (unsets b L).length = b.length
  | [], _ => rfl
  | p :: L, b => by
    have := unsets_length L (b.set p false)
    unfold unsets at this ⊢
    rw [List.foldl_cons, this, List.length_set]
theorem unsets_snoc (b : List Bool) (L : List Nat) (p : Nat) : unsets b (L ++ [p]) = (unsets b L).set p false := by unfold unsets; rw [List.foldl_append]; rfl
theorem getD_unset {b : List Bool} {p m : Nat} : (b.set p false).getD m false = true ↔ b.getD m false = true ∧ m ≠ p := by
  rw [List.getD_eq_getElem?_getD, List.getD_eq_getElem?_getD, List.getElem?_set]
  by_cases h : p = m
  · subst h
    by_cases hl : p < b.length
    · simp [hl]
    · simp [hl]
  · rw [if_neg h]
    have h' : ¬ m = p := fun e => h e.symm
    simp [h']
theorem getD_unsets : ∀ {L : List Nat} {b : List Bool} {m : Nat}, (unsets b L).getD m false = true ↔ b.getD m false = true ∧ m ∉ L
  | [], b, m => by unfold unsets; simp
  | p :: L, b, m => by
    have h := getD_unsets (L := L) (b := b.set p false) (m := m)
    rw [getD_unset] at h
    have e : unsets b (p :: L) = unsets (b.set p false) L := rfl
    rw [e, h, List.mem_cons, not_or, and_assoc]
/-- Struck: whoever is a parent of one of these. -/
def unw (ns : List (List Nat)) (b : List Bool) (X : List Nat) : List Bool := X.foldl (fun b j => unsets b (ns.getD j [])) b
theorem unw_length (ns : List (List Nat)) : ∀ (X : List Nat) (b : List Bool), (unw ns b X).length = b.length
  | [], _ => rfl
  | j :: X, b => by
    have := unw_length ns X (unsets b (ns.getD j []))
    unfold unw at this ⊢
    rw [List.foldl_cons, this, unsets_length]
theorem unw_snoc (ns : List (List Nat)) (b : List Bool) (X : List Nat) (j : Nat) : unw ns b (X ++ [j]) = unsets (unw ns b X) (ns.getD j []) := by unfold unw; rw [List.foldl_append]; rfl
theorem getD_unw {ns : List (List Nat)} : ∀ {X : List Nat} {b : List Bool} {m : Nat}, (unw ns b X).getD m false = true ↔ b.getD m false = true ∧ ∀ j ∈ X, m ∉ ns.getD j []
  | [], b, m => by unfold unw; simp
  | j :: X, b, m => by
    have h := getD_unw (ns := ns) (X := X) (b := unsets b (ns.getD j [])) (m := m)
    rw [getD_unsets] at h
    have e : unw ns b (j :: X) = unw ns (unsets b (ns.getD j [])) X := rfl
    rw [e, h]
    constructor
    · rintro ⟨⟨h1, h2⟩, h3⟩
      refine ⟨h1, fun i hi => ?_⟩
      rcases List.mem_cons.1 hi with rfl | hi
      · exact h2
      · exact h3 i hi
    · rintro ⟨h1, h2⟩
      exact ⟨⟨h1, h2 j (by simp)⟩, fun i hi => h2 i (by simp [hi])⟩
theorem bl_set_f (bs : List Bool) (i : Nat) : (bl bs).setIfInBounds i (.bool false) = bl (bs.set i false) := bl_set bs i false

/-- What stands while heads goes on, h being where its own begins. -/
structure HdI (w : World) (gb db N : Nat) (M : List Bool) (W : World) : Prop where
  row : Blk W (w.heap.size + 1) 4 (bl M)
  box : Blk W (w.heap.size + 1 + 1) 66 #[.slice (some ⟨w.heap.size + 1, 0, none⟩) N N]
  b0 : Blk W w.heap.size 55 #[.pointer (some ⟨gb, 0, none⟩)]
  gr : w.grownBy W (some db)
section
variable {w W W' : World} {gb db N : Nat} {M : List Bool}
theorem HdI.put (h : HdI w gb db N M W) (hdb : db < w.heap.size) (i : Nat) (v : Bool) : HdI w gb db N (M.set i v) (W.setCell ⟨w.heap.size + 1, i, none⟩ (.bool v)) where
  row := by rw [← bl_set]; exact h.row.set_ i _
  box := h.box.far (p := ⟨w.heap.size + 1, i, none⟩) (by show w.heap.size + 1 + 1 ≠ w.heap.size + 1; omega) _
  b0 := h.b0.far (p := ⟨w.heap.size + 1, i, none⟩) (by show w.heap.size ≠ w.heap.size + 1; omega) _
  gr := ⟨h.gr.os, h.gr.tape, h.gr.output, by simpa [World.setCell] using h.gr.size, fun k hk hne => (Below.heap_setCell W ⟨w.heap.size + 1, i, none⟩ _ k (by show k ≠ w.heap.size + 1; omega)).trans (h.gr.block k hk hne)⟩
theorem HdI.moved (h : HdI w gb db N M W) {row : Option Nat} (hg : W.grownBy W' row) (hr : ∀ r, row = some r → r = db ∨ w.heap.size + 1 + 1 < r) (hdb : db < w.heap.size) : HdI w gb db N M W' where
  row := h.row.grown hg (fun e => by rcases hr _ e.symm with h1 | h1 <;> omega)
  box := h.box.grown hg (fun e => by rcases hr _ e.symm with h1 | h1 <;> omega)
  b0 := h.b0.grown hg (fun e => by rcases hr _ e.symm with h1 | h1 <;> omega)
  gr := ⟨hg.os.trans h.gr.os, hg.tape.trans h.gr.tape, hg.output.trans h.gr.output, Nat.le_trans h.gr.size hg.size, fun k hk hne => (hg.block k (Nat.lt_of_lt_of_le hk h.gr.size) (fun e => by
    rcases hr _ e.symm with h1 | h1
    · exact hne (by rw [h1])
    · omega)).trans (h.gr.block k hk hne)⟩
end

set_option maxRecDepth 100000 in
set_option maxHeartbeats 4000000 in
theorem pheads_any (base gb db mb : Nat) (A : Option Addr) (c : Nat) (B : Option Addr) (d : Nat) (V : List Value) (ids : List (List UInt8)) (ns : List (List Nat)) (bs1 : List Bool) (w : World) (hG : GM base gb db mb A c B d V ids ns bs1 w) (hbl : bs1.length = ids.length) (hN : ids.length ≤ 200) (hnd : ids.Nodup) (hns : ∀ (i : Nat) (L : List Nat), ns[i]? = some L → L.length ≤ 8 ∧ ∀ p ∈ L, p < ids.length) (hdn : Gr.Down ns)
    (b1 : Nat) (As : Option Addr) (cs : Nat) (S : List Nat) (hS : w.ownsRow b1 3 1 (.slice As S.length cs) S.length (nv S)) (hSl : S.length ≤ 4611686018427387904) (hSn : ∀ s ∈ S, s < ids.length) :
    Calls Try.prog 43 #[.pointer (some ⟨gb, 0, none⟩), .slice As S.length cs] w fun e w' => ∃ A' c' L, e = .returned (.slice A' L.length c') ∧ w'.ownsRow w.heap.size 3 1 (.slice A' L.length c') L.length (nv L) ∧ Turned db ids.length w w' ∧
      RisO ids (unw ns (Gr.sets (List.replicate ids.length false) S) (Gr.vis ns ids.length (Gr.sets (List.replicate ids.length false) S))) L := by
  refine (callsIn_wide (n := 6)).1 ?_
  refine callsIn_of_wp_marks Try.func43 rfl trivial ?_ rfl
  simp only [Try.ntmps43, List.size_toArray, List.length_cons, List.length_nil, Nat.reduceAdd, Nat.reduceSub, Array.replicate_succ, Array.replicate_zero, List.push_toArray, List.append_toArray, List.nil_append, List.cons_append]
  have hdb : db < w.heap.size := hG.due.lt
  obtain ⟨wa, hwa⟩ : ∃ y, y = w.alloc (.cells #[.pointer (some ⟨gb, 0, none⟩)] 55) := ⟨_, rfl⟩
  have hsa : wa.heap.size = w.heap.size + 1 := by rw [hwa]; simp
  have hba : Below w.heap.size w wa := by rw [hwa]; exact below_alloc w _
  have ka : Blk wa w.heap.size 55 #[.pointer (some ⟨gb, 0, none⟩)] := by rw [hwa]; exact Blk.new w _ _
  have c1 : wa.cell? ⟨w.heap.size, 0, none⟩ = some (.pointer (some ⟨gb, 0, none⟩)) := ka.cell 0
  have c0 : wa.cell? ⟨gb, 0, none⟩ = some (.slice A ids.length c) := (hG.cells.later hba).cell 0
  have hmk := make_bools ids.length (by omega) wa
  rw [hsa] at hmk
  obtain ⟨wb, hwb⟩ : ∃ y, y = (wa.alloc (.cells (bl (List.replicate ids.length false)) 4)).alloc (.cells #[.slice (some ⟨w.heap.size + 1, 0, none⟩) ids.length ids.length] 66) := ⟨_, rfl⟩
  have hH : HdI w gb db ids.length (List.replicate ids.length false) wb := by
    rw [hwb]
    refine ⟨?_, ?_, (ka.alloc _).alloc _, grown_of (hba.trans ((((below_alloc wa _).trans ((below_alloc _ _).mono (by simp)))).mono hba.size)) _⟩
    · have h := (Blk.new wa 4 (bl (List.replicate ids.length false))).alloc (.cells #[.slice (some ⟨w.heap.size + 1, 0, none⟩) ids.length ids.length] 66)
      rw [hsa] at h; exact h
    · have h := Blk.new (wa.alloc (.cells (bl (List.replicate ids.length false)) 4)) 66 #[.slice (some ⟨w.heap.size + 1, 0, none⟩) ids.length ids.length]
      rw [World.size_alloc, hsa] at h; exact h
  have HH := Lib.hid hH
  have hszb : wb.heap.size = w.heap.size + 3 := by rw [hwb]; simp [hsa]
  have HSZ := Lib.hid (show w.heap.size + 3 ≤ wb.heap.size by omega)
  have HDB0 := Lib.hid (show Blk wb db 4 (bl bs1) by rw [hwb]; exact ((hG.due.later hba).alloc _).alloc _)
  have HG := Lib.hid hG
  have HSO := Lib.hid hS
  have HSN := Lib.hid hSn
  have HNS := Lib.hid hns
  have HBL := Lib.hid hbl
  have HDN := Lib.hid hdn
  have HND := Lib.hid hnd
  replace hwa := hwa.symm
  replace hwb := hwb.symm
  clear hG hS hSn hns hbl hdn hnd hH hba ka hszb
  gi_wp2
  clear c0 c1 hmk hwa hwb
  obtain ⟨st0, hst0⟩ : ∃ st, st = List.replicate ids.length false := ⟨_, rfl⟩
  have hst0l : st0.length = ids.length := by rw [hst0, List.length_replicate]
  rw [← hst0] at HH
  have HS0 := Lib.hid hst0
  have HS0L := Lib.hid hst0l
  clear hst0 hst0l
  gi_loopw [19] (fun iv wr => ∃ i : Nat, iv = .int .i64 (i : Int) ∧ i ≤ S.length ∧ HdI w gb db ids.length (Gr.sets st0 (S.take i)) wr ∧ w.heap.size + 3 ≤ wr.heap.size ∧ ∃ bs : List Bool, bs.length = ids.length ∧ Blk wr db 4 (bl bs)) (fun iv _ => S.length - (intOf iv).toNat)
  case atStart => exact ⟨0, rfl, Nat.zero_le _, HH.out, HSZ.out, bs1, HBL.out, HDB0.out⟩
  case round =>
    obtain ⟨i, rfl, hi, hA, hsz, bs2, hbs2, hdu⟩ := hrel
    have HA := Lib.hid hA
    have HB2 := Lib.hid hbs2
    have HDU := Lib.hid hdu
    clear hA hbs2 hdu
    by_cases hlt : i < S.length
    · have hltI : (i : Int) < (S.length : Int) := by omega
      obtain ⟨x, hx⟩ : ∃ x, S[i]? = some x := ⟨_, List.getElem?_eq_getElem hlt⟩
      have hxn := HSN.out x (List.mem_of_getElem? hx)
      have hso := HSO.out.kept HA.out.gr (.inr (row_own_ne HSO.out HG.out.due (by decide)))
      obtain ⟨ad, u, hA', -, hu, hcu⟩ := (Rd.of_own hso).spot hlt
      subst hA'
      have hu' := nv_at hx
      rw [hu] at hu'
      obtain rfl := Option.some.inj hu'
      have hcl : (Gr.sets st0 (S.take i)).length = ids.length := by rw [Gr.sets_length, HS0L.out]
      have c1 : wr.cell? ⟨w.heap.size + 1 + 1, 0, none⟩ = some (.slice (some ⟨w.heap.size + 1, 0, none⟩) ids.length ids.length) := HA.out.box.cell 0
      obtain ⟨v, hv⟩ : ∃ v, wr.cell? ⟨w.heap.size + 1, x, none⟩ = some v := ⟨_, (HA.out.row.cell x).trans (bl_at (by rw [hcl]; exact hxn))⟩
      have hf : wr.frozen? ⟨w.heap.size + 1, x, none⟩ = false := HA.out.row.frozen x
      have hxI : (x : Int) < (ids.length : Int) := by omega
      have HA3 := Lib.hid (HA.out.put hdb x true)
      have HDU3 := Lib.hid (HDU.out.far (p := ⟨w.heap.size + 1, x, none⟩) (by show db ≠ w.heap.size + 1; omega) (.bool true))
      have HXX := Lib.hid hx
      clear hx hso hu hcl hu' hxn
      gi_wp2
      go_roundw
      case rel =>
        refine ⟨i + 1, by go_num, by omega, ?_, by simpa [World.setCell] using hsz, bs2, HB2.out, HDU3.out⟩
        rw [take_snoc HXX.out, Gr.sets_snoc]
        exact HA3.out
      case measure => simp [intOf] <;> omega
    · obtain rfl : i = S.length := by omega
      have hltI : ¬ (S.length : Int) < (S.length : Int) := by omega
      obtain ⟨st, hst⟩ : ∃ st, st = Gr.sets st0 S := ⟨_, rfl⟩
      rw [List.take_of_length_le (Nat.le_refl _), ← hst] at HA
      have HST := Lib.hid hst
      have hstl : st.length = ids.length := by rw [hst, Gr.sets_length, HS0L.out]
      have HSTL := Lib.hid hstl
      have c1 : wr.cell? ⟨w.heap.size, 0, none⟩ = some (.pointer (some ⟨gb, 0, none⟩)) := HA.out.b0.cell 0
      clear hst hstl
      gi_wp2_with (first | (refine ⟨trivial, ?_⟩; gi_at_call 44; refine (callsIn_wide.2 (pabove_any gb As S.length cs _)).mono ?_; rintro e w' ⟨rfl, rfl⟩))
      obtain ⟨w', hw'⟩ : ∃ y, y = (wr.alloc (.cells #[.pointer (some ⟨gb, 0, none⟩)] 55)).alloc (.cells #[.slice As S.length cs] 64) := ⟨_, rfl⟩
      rw [← hw']
      have hbw : Below wr.heap.size wr w' := by rw [hw']; exact (below_alloc wr _).trans ((below_alloc _ _).mono (by simp))
      have r3 : Blk w' wr.heap.size 55 #[.pointer (some ⟨gb, 0, none⟩)] := by rw [hw']; exact (Blk.new wr _ _).alloc _
      have r4 : Blk w' (wr.heap.size + 1) 64 #[.slice As S.length cs] := by
        have h := Blk.new (wr.alloc (.cells #[.pointer (some ⟨gb, 0, none⟩)] 55)) 64 #[.slice As S.length cs]
        rw [World.size_alloc] at h
        rw [hw']; exact h
      have hsz1 : wr.heap.size + 2 ≤ w'.heap.size := by rw [hw']; simp
      have hsz2 : w'.heap.size ≤ wr.heap.size + 2 := by rw [hw']; simp
      have HA' := Lib.hid (HA.out.moved (grown_of hbw none) (fun r e => by cases e) hdb)
      have HDU' := Lib.hid (HDU.out.later hbw)
      clear hw' hbw c1 HA HDU
      have hvn : ∀ x ∈ Gr.vis ns ids.length st, x < ids.length := fun x hx => ((Gr.mem_vis HDN.out _).1 hx).1
      have hgr' : w.grownBy w' (some db) := HA'.out.gr
      have hsq := above1_all Fence.wide (6 - 1) trivial rfl (by omega) base gb db mb A c B d V ids ns bs1 w HG.out HBL.out hN HNS.out b1 As cs S HSO.out hSl HSN.out wr.heap.size (wr.heap.size + 1) (w.heap.size + 1) w'.heap.size (by omega) (by omega) ⟨by omega, by omega⟩ ⟨by omega, by omega⟩
      rw [← HS0.out, ← HST.out] at hsq
      refine wpIn_range_all (F := Fence.wide) (n := 6) (w := w') rfl (by omega) (gf := 55) (lb := #[.pointer (some ⟨wr.heap.size, 0, none⟩), .pointer (some ⟨wr.heap.size + 1, 0, none⟩)]) rfl trivial (enters_of Try.func55 (by kernel_rfl) rfl) (xs := Gr.vis ns ids.length st)
        hsq
        rfl (by omega) (fun o o' => ⟨bs2, HB2.out, ⟨⟨hgr'.os, hgr'.tape, hgr'.output, by have := hgr'.size; simp; omega, fun k hk hne => (((below_alloc w' o).trans ((below_alloc _ o').mono (by simp))).block k (by omega)).trans (hgr'.block k hk hne)⟩, (HDU'.out.alloc o).alloc o', (r3.alloc o).alloc o', (r4.alloc o).alloc o'⟩⟩)
        (fun pre W => HdI w gb db ids.length (unw ns st pre) W) ?hI HA'.out
        (fun x => { tmps := #[.pointer (some ⟨gb, 0, none⟩), .slice As S.length cs, .pointer (some ⟨w.heap.size, 0, none⟩), undef, .slice none 0 0, .pointer (some ⟨w.heap.size + 1 + 1, 0, none⟩), undef, u7, .int .i64 (x : Int), undef, undef, .pointer (some ⟨gb, 0, none⟩), .pointer (some ⟨gb, 0, none⟩), .pointer (some ⟨gb, 0, none⟩), .slice A ids.length c, .int .i64 (ids.length : Int), .slice (some ⟨w.heap.size + 1, 0, none⟩) ids.length ids.length, .slice As S.length cs, .int .i64 (S.length : Int), .int .i64 (S.length : Int), .bool false, u21, u22, u23, u24, u25, u26, .pointer (some ⟨gb, 0, none⟩), .slice As S.length cs, .func (.func 55) #[] #[.pointer (some ⟨wr.heap.size, 0, none⟩), .pointer (some ⟨wr.heap.size + 1, 0, none⟩)], .int .i64 (x : Int), undef, undef, undef, undef, undef, undef, undef, undef, undef, undef, undef, undef, undef, undef, undef, undef, undef, undef, undef], defers := [] }) ?assign ?body ?done
      case hI =>
        intro s X Y row hs hg hr
        refine hs.moved hg (fun r e => ?_) hdb
        rcases hr r e with h | ⟨h, -⟩
        · exact .inl h
        · exact .inr (by omega)
      case assign =>
        intro l x W K hK
        gi_wp2
        exact hK
      case body =>
        rintro l pre x W hWs ⟨post, hpx⟩ hs
        have hx := hvn x (by rw [hpx]; simp)
        have hxI : (x : Int) < (ids.length : Int) := by omega
        obtain ⟨L, hL⟩ : ∃ L, ns[x]? = some L := ⟨_, List.getElem?_eq_getElem (by rw [HG.out.plen]; exact hx)⟩
        have HLL := Lib.hid (HNS.out x L hL)
        have hL8 := HLL.out.1
        have hpo := HG.out.pown.kept hs.gr (.inr (row_own_ne HG.out.pown HG.out.due (by decide)))
        obtain ⟨adB, v, hB', -, hVu, hcv⟩ := (Rd.of_own hpo).spot hx
        obtain ⟨A', c', hVu', hrow⟩ := HG.out.prow x L hL
        rw [hVu] at hVu'
        obtain rfl := Option.some.inj hVu'
        have HRW := Lib.hid hrow
        have c1 : W.cell? ⟨w.heap.size, 0, none⟩ = some (.pointer (some ⟨gb, 0, none⟩)) := hs.b0.cell 0
        have c4 : W.cell? ⟨gb, 1, none⟩ = some (.slice B ids.length d) := (HG.out.cells.grown hs.gr (fun e => blk_ne HG.out.cells HG.out.due (by decide) (Option.some.inj e))).cell 1
        rw [hB'] at c4
        have HSS := Lib.hid hs
        have HXL := Lib.hid (show ns.getD x [] = L by rw [List.getD_eq_getElem?_getD, hL]; rfl)
        have HUL := Lib.hid (show (unw ns st pre).length = ids.length by rw [unw_length, HSTL.out])
        obtain ⟨M, hM⟩ : ∃ M, M = unw ns st pre := ⟨_, rfl⟩
        rw [← hM] at HSS HUL
        have HM := Lib.hid hM
        clear hs hpo hVu hVu' hrow hL hpx hM
        gi_wp2
        clear c1 c4 hcv
        gi_loopw [39] (fun jv wq => ∃ j : Nat, jv = .int .i64 (j : Int) ∧ j ≤ L.length ∧ HdI w gb db ids.length (unsets M (L.take j)) wq ∧ KpB w'.heap.size (w.heap.size + 1) W wq ∧ KeepsFrom w'.heap.size W wq) (fun jv _ => L.length - (intOf jv).toNat)
        case atStart => exact ⟨0, rfl, Nat.zero_le _, HSS.out, KpB.refl _ _ _, KeepsFrom.refl _ _⟩
        case round =>
          obtain ⟨j, rfl, hj, hA, hkp, hkf⟩ := hrel
          have HQ := Lib.hid hA
          have HKP := Lib.hid hkp
          have HKF := Lib.hid hkf
          clear hA hkp hkf
          by_cases hlt : j < L.length
          · have hltI : (j : Int) < (L.length : Int) := by omega
            obtain ⟨p, hp⟩ : ∃ p, L[j]? = some p := ⟨_, List.getElem?_eq_getElem hlt⟩
            have hpn := HLL.out.2 p (List.mem_of_getElem? hp)
            have hrow2 := HRW.out.kept HQ.out.gr (.inr (row_own_ne HRW.out HG.out.due (by decide)))
            obtain ⟨ad, z, hA', -, hz, hcz⟩ := (Rd.of_own hrow2).spot hlt
            subst hA'
            have hz' := nv_at hp
            rw [hz] at hz'
            obtain rfl := Option.some.inj hz'
            have c1 : wr.cell? ⟨w.heap.size + 1 + 1, 0, none⟩ = some (.slice (some ⟨w.heap.size + 1, 0, none⟩) ids.length ids.length) := HQ.out.box.cell 0
            obtain ⟨v, hv⟩ : ∃ v, wr.cell? ⟨w.heap.size + 1, p, none⟩ = some v := ⟨_, (HQ.out.row.cell p).trans (bl_at (by rw [unsets_length, HUL.out]; exact hpn))⟩
            have hf : wr.frozen? ⟨w.heap.size + 1, p, none⟩ = false := HQ.out.row.frozen p
            have hpI : (p : Int) < (ids.length : Int) := by omega
            have HQ3 := Lib.hid (HQ.out.put hdb p false)
            have HKP3 := Lib.hid (HKP.out.trans (KpB.grown (n₀ := w'.heap.size) (mk := w.heap.size + 1) (grown_set wr (w.heap.size + 1) p (.bool false)) (Nat.le_trans hWs HKP.out.size) (fun r e => by cases e; exact .inl rfl)))
            have HKF3 := Lib.hid (HKF.out.trans ((KeepsOthers.setCell wr ⟨w.heap.size + 1, p, none⟩ (.bool false)).from w'.heap.size))
            have HPP := Lib.hid hp
            clear hp hpn hrow2 hz hz'
            gi_wp2
            go_roundw
            case rel =>
              refine ⟨j + 1, by go_num, by omega, ?_, HKP3.out, HKF3.out⟩
              rw [take_snoc HPP.out, unsets_snoc]
              exact HQ3.out
            case measure => simp [intOf] <;> omega
          · obtain rfl : j = L.length := by omega
            have hltI : ¬ (L.length : Int) < (L.length : Int) := by omega
            rw [List.take_of_length_le (Nat.le_refl _)] at HQ
            gi_wp2
            refine ⟨HKF.out, HKP.out, ?_⟩
            show HdI w gb db ids.length (unw ns st (pre ++ [x])) wr
            rw [unw_snoc, HXL.out, ← HM.out]
            exact HQ.out
      case done =>
        rintro D W hD hs ⟨bs3, hl3, hd3⟩ hK
        have c1 : W.cell? ⟨w.heap.size, 0, none⟩ = some (.pointer (some ⟨gb, 0, none⟩)) := hs.b0.cell 0
        have c2 : W.cell? ⟨w.heap.size + 1 + 1, 0, none⟩ = some (.slice (some ⟨w.heap.size + 1, 0, none⟩) ids.length ids.length) := hs.box.cell 0
        have hul : (unw ns st (Gr.vis ns ids.length st)).length = ids.length := by rw [unw_length, HSTL.out]
        have HC := Lib.hid (prising_any gb base A c _ _ _ ids W (HG.out.cells.grown hs.gr (fun e => blk_ne HG.out.cells HG.out.due (by decide) (Option.some.inj e))) (HG.out.own.kept hs.gr (.inr (row_own_ne HG.out.own HG.out.due (by decide)))) HG.out.dig HND.out hN (w.heap.size + 1) (unw ns st (Gr.vis ns ids.length st)) ids.length hs.row hul)
        rw [hul] at HC
        have HSS := Lib.hid hs
        clear hs
        gi_wp2_with (first | (refine ⟨trivial, ?_⟩; gi_at_call 39; refine (callsIn_wide.2 HC.out).mono ?_; rintro e w2 ⟨A', c', L, rfl, ho2, hb2, hro⟩))
        have hK2 : w2.heap[D]? = some (.deferred (some [])) := (hb2.block D (Array.getElem?_eq_some_iff.1 hK).1).trans hK
        refine ⟨by simp, .inl ⟨_, _, rfl, run_takeDeferred hK2, ?_⟩⟩
        have hDs : w.heap.size < D := by omega
        have hDW : D < W.heap.size := (Array.getElem?_eq_some_iff.1 hK).1
        have ho3 := (own_base ho2 (show w.heap.size ≤ W.heap.size by have := HSS.out.gr.size; exact this)).kept (grown_put w2 D (.deferred none)) (by
          cases hq : (Value.slice A' L.length c').ownBlock with
          | none => exact .inl rfl
          | some q => exact .inr (fun e => by have := (ho2.lt q hq).1; have := Option.some.inj e; omega))
        refine ⟨_, results_tmp rfl _ _ _, A', c', L, rfl, ho3, ⟨⟨hb2.os.trans HSS.out.gr.os, hb2.tape.trans HSS.out.gr.tape, hb2.output.trans HSS.out.gr.output, by have := HSS.out.gr.size; have := hb2.size; simp; omega, fun k hk hne => (World.putObj_heap_other (by omega)).trans ((hb2.block k (by have := HSS.out.gr.size; omega)).trans (HSS.out.gr.block k hk hne))⟩, bs3, hl3, (World.putObj_heap_other (by omega)).trans (hd3.later hb2)⟩, ?_⟩
        rw [← HS0.out, ← HST.out]
        exact hro
end Go.Proofs.Ytebfocfeehajjaa

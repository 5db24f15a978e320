/- The program's find: the numbers of some digests. -/
import Derived.Test.YtebfocfeehajjaaGMem
namespace Go.Proofs.Ytebfocfeehajjaa
open Go Go.RowKit

/-- What find leaves. -/
def FindO (ids L : List (List UInt8)) (w : World) (e : Ending) (w' : World) : Prop :=
  Below w.heap.size w w' ∧ ((∃ A c, (∀ s ∈ L, s ∈ ids) ∧ e = .returned (.tuple #[.slice A L.length c, .bool true]) ∧ w'.ownsRow w.heap.size 3 1 (.slice A L.length c) L.length (nv (L.map ids.idxOf))) ∨
    (¬ (∀ s ∈ L, s ∈ ids) ∧ e = .returned (.tuple #[.slice none 0 0, .bool false])))

structure FdG (ids L : List (List UInt8)) (i : Nat) (A : Option Addr) (c : Nat) (w wr : World) : Prop where
  len : i ≤ L.length
  all : ∀ s ∈ L.take i, s ∈ ids
  own : wr.ownsRow w.heap.size 3 1 (.slice A i c) i (nv ((L.take i).map ids.idxOf))
  hB : Below w.heap.size w wr

set_option maxRecDepth 100000 in
set_option maxHeartbeats 4000000 in
theorem pfind_any (gb mb : Nat) (vI vP vD : Value) (ids L : List (List UInt8)) (A : Option Addr) (c BB : Nat) (w : World) (hg : Blk w gb 78 #[vI, vP, .map (some mb), vD]) (hm : DMap w mb ids) (h : Rd w BB A (L.length * 32) (rows bv L)) (hB : BB ≤ w.heap.size) (hl : L.length * 32 ≤ 140737488351232) (hD : ∀ s ∈ L, s.length = 32) :
    Calls Try.prog 51 #[.pointer (some ⟨gb, 0, none⟩), .slice A L.length c] w (FindO ids L w) := by
  have H := Lib.hid h
  have HBB := Lib.hid hB
  have HD := Lib.hid hD
  have HM := Lib.hid hm
  have HG := Lib.hid hg
  clear h hD hB hm hg
  obtain ⟨i0, hi, hz0, hz1, hz2⟩ := info_parts infoI
  obtain ⟨w1, hmk, ho, hg1⟩ := run_make_own (P := Try.prog) w w.heap.size 64 3 i0 _ 1 Try.underlying64 hi hz0 hz1 .i64 .i64 L.length (by rw [hz2]; omega) (by unfold maxLen; omega) (Nat.le_refl _)
  have HO := Lib.hid ho
  have HB1 := Lib.hid (show Below w.heap.size w w1 from (Below.refl _ _).grown hg1 (Nat.le_refl _) (fun q hq => by cases hq))
  obtain ⟨A1, hA1⟩ : ∃ A1 : Option Addr, A1 = some ⟨w.heap.size, 0, none⟩ := ⟨_, rfl⟩
  rw [← hA1] at hmk HO
  clear ho hg1 hA1
  go_enter Try.func51, Try.ntmps51
  go_wp2_with fail
  go_loopw [6, 16] (fun lv iv wr => ∃ (i : Nat) (A' : Option Addr) (c' : Nat), iv = .int .i64 (i : Int) ∧ lv = .slice A' i c' ∧ FdG ids L i A' c' w wr) (fun _ iv _ => L.length - (intOf iv).toNat)
  case atStart => exact ⟨0, A1, L.length, rfl, rfl, ⟨Nat.zero_le _, (fun s hs => by cases hs), HO.out, HB1.out⟩⟩
  case round =>
    obtain ⟨i, A', c', rfl, rfl, hG⟩ := hrel
    obtain ⟨w0, hw0⟩ : ∃ y, y = wr := ⟨_, rfl⟩
    subst hw0
    have HGG := Lib.hid hG
    have hiL := hG.len
    clear hG
    by_cases hlt : i < L.length
    · have hltI : (i : Int) < (L.length : Int) := by omega
      obtain ⟨x, hx⟩ : ∃ x, L[i]? = some x := ⟨_, List.getElem?_eq_getElem hlt⟩
      have hlx := HD.out x (List.mem_of_getElem? hx)
      have HX := Lib.hid hx
      have HXL := Lib.hid hlx
      obtain ⟨ad, hA, hbx, hca⟩ := H.out.elem (by decide) (fun s hs => by rw [bv_length]; exact HD.out s hs) hx
      subst hA
      have HCA := Lib.hid (grw_cells HGG.out.hB (ad := ad.add (i * 32)) (by rw [block_add]; have := HBB.out; omega) hca)
      have HLA := Lib.hid (show (Try.prog.info? 47).map (·.size) = some (bv x).length by rw [bv_length, hlx]; exact infoD32)
      clear hx hlx hca hbx
      obtain ⟨wa, hwa⟩ : ∃ y, y = w0.alloc (.cells (bv x).toArray 47) := ⟨_, rfl⟩
      have HBX := Lib.hid (show Blk wa w0.heap.size 47 (bv x).toArray by rw [hwa]; exact Blk.new w0 _ _)
      have HBA := Lib.hid (show Below w0.heap.size w0 wa by rw [hwa]; exact below_alloc w0 _)
      have HBW := Lib.hid (show Below w.heap.size w wa from HGG.out.hB.trans (HBA.out.mono HGG.out.hB.size))
      have HCX := Lib.hid (fun u : Grw wa => blk_cells (HBX.out.grw u))
      have g2 : ∀ u : Grw wa, u.val.cell? ⟨gb, 2, none⟩ = some (.map (some mb)) := fun u => ((HG.out.later (HBW.out.trans (u.prop.mono HBW.out.size))).cell 2).trans rfl
      obtain ⟨nn, hnn, hlook⟩ := (HM.out.kept (grown_of HBW.out none) (by simp)).look HXL.out
      have HNN := Lib.hid hnn
      have hlk : ∀ u : Grw wa, (Instr.lookup 76 (.map (some mb)) (.agg (bv x).toArray) true).run Try.prog u.val = .ok (.tuple #[.int .i64 nn, .bool (decide (x ∈ ids))]) u.val := fun u => hlook _ u.prop
      replace hwa := hwa.symm
      clear hnn hlook
      have HDS := Lib.hid (show (bv x).toArray.size = 32 by rw [List.size_toArray, bv_length, HXL.out])
      have HDI := Lib.hid (show (Try.prog.info? 47).map (·.size) = some (bv x).toArray.size by rw [HDS.out]; exact infoD32)
      by_cases hin : x ∈ ids
      · have hd : decide (x ∈ ids) = true := decide_eq_true hin
        have HIN := Lib.hid hin
        rw [hd] at hlk
        clear hd hin
        go_wp2_with (first | (refine at_lod 47 (.tmp 18) rfl ?_; go_must (refine wpList_load_any rfl 47 (.tmp 18) rfl (ad.add (i * 32)) rfl (bv x) _ HCA.out Try.underlying47 rfl HLA.out ?_)) | (refine at_sto 47 (.tmp 8) (.tmp 19) rfl ?_; go_must (refine wpList_store_row rfl 47 (.tmp 8) (.tmp 19) rfl w0.heap.size (bv x).toArray rfl rfl 47 _ (heap_alloc_new w0 _) HDI.out (by rw [HDS.out]; rfl) (bv_all x) ?_); rw [World.setRow_alloc_new, hwa]))
        go_simp
        refine wp_region_grow (by kernel_rfl) (by kernel_rfl) ?_
        go_big_quiet_step (fail)
        go_big_quiet_step (fail)
        go_big_quiet_step (fail)
        go_big_quiet_step (fail)
        refine quiet_load_any (by rfl) 47 (.tmp 8) rfl ⟨w0.heap.size, 0, none⟩ rfl (bv x) HCX.out _ Try.underlying47 rfl HLA.out ?_; go_simp
        go_big_quiet_step (fail)
        go_big_quiet_step (fail)
        go_big_quiet_step (fail)
        go_big_quiet_step (fail)
        go_big_quiet_step (fail)
        go_big_quiet_step (fail)
        refine wpQuiet_nil ?_
        first | (intro _ hw'; obtain ⟨u, hw''⟩ := hw'; subst hw'') | intro u
        obtain ⟨wk, hwk⟩ : ∃ y, y = u.val := ⟨_, rfl⟩
        have HBk := Lib.hid (show Below w0.heap.size w0 wk by rw [hwk]; exact HBA.out.trans (u.prop.mono HBA.out.size))
        have HBK := Lib.hid (HGG.out.hB.trans (HBk.out.mono HGG.out.hB.size))
        have HOK := Lib.hid (own_below HGG.out.own HBk.out)
        rw [← hwk]
        clear hwk HBA HBW HCX hlk g2
        go_wp2_with (refine at_dst 34 rfl ?_; go_must (refine wp_appK _ 1 rfl (.tmp 31) (.tmp 33) 64 64 rfl w.heap.size 3 i0 _ 8 Try.underlying64 hi hz0 hz1 hz2 rfl (.slice A' i c') i (nv ((L.take i).map ids.idxOf)) rfl (HOK.out.alloc (.cells #[.int .i64 nn] 3)) (.slice (some ⟨wk.heap.size, 0, none⟩) 1 1) 1 [.int .i64 nn] rfl (new_srcK 1 Try.underlying64 wk [.int .i64 nn] 1 1 3 (0, 0) rfl (by simp [Value.oneCell'])) (by unfold maxLen; omega) (by omega) (by have := HBK.out.size; simp; omega) ?_); intro v2 w2 ho2 hg2 _; obtain ⟨A2, c2, hv2, -, -, -⟩ := own_form ho2; subst hv2; have HB2 := Lib.hid (show Below w.heap.size w w2 from (HBK.out.trans ((below_alloc wk _).mono HBK.out.size)).grown hg2 (by have := HBK.out.size; simp; omega) (fun q hq => (HOK.out.lt q hq).1)); have HO2 := Lib.hid ho2; clear ho2 hg2)
        go_roundw
        case rel =>
          refine ⟨i + 1, A2, c2, by go_num, rfl, ⟨by omega, ?_, ?_, HB2.out⟩⟩
          · intro s hs
            rw [take_snoc HX.out, List.mem_append, List.mem_singleton] at hs
            rcases hs with hs | hs
            · exact HGG.out.all s hs
            · rw [hs]; exact HIN.out
          · have hO := HO2.out
            rw [take_snoc HX.out, List.map_append, nv_append]
            rw [HNN.out HIN.out] at hO
            exact hO
        case measure => simp [intOf] <;> omega
      · have hd : decide (x ∈ ids) = false := decide_eq_false hin
        have HIN := Lib.hid hin
        rw [hd] at hlk
        clear hd hin
        go_wp2_with (first | (refine at_lod 47 (.tmp 18) rfl ?_; go_must (refine wpList_load_any rfl 47 (.tmp 18) rfl (ad.add (i * 32)) rfl (bv x) _ HCA.out Try.underlying47 rfl HLA.out ?_)) | (refine at_sto 47 (.tmp 8) (.tmp 19) rfl ?_; go_must (refine wpList_store_row rfl 47 (.tmp 8) (.tmp 19) rfl w0.heap.size (bv x).toArray rfl rfl 47 _ (heap_alloc_new w0 _) HDI.out (by rw [HDS.out]; rfl) (bv_all x) ?_); rw [World.setRow_alloc_new, hwa]))
        go_simp
        refine wp_region_grow (by kernel_rfl) (by kernel_rfl) ?_
        go_big_quiet_step (fail)
        go_big_quiet_step (fail)
        go_big_quiet_step (fail)
        go_big_quiet_step (fail)
        refine quiet_load_any (by rfl) 47 (.tmp 8) rfl ⟨w0.heap.size, 0, none⟩ rfl (bv x) HCX.out _ Try.underlying47 rfl HLA.out ?_; go_simp
        go_big_quiet_step (fail)
        go_big_quiet_step (fail)
        go_big_quiet_step (fail)
        go_big_quiet_step (fail)
        go_big_quiet_step (fail)
        go_big_quiet_step (fail)
        refine wpQuiet_nil ?_
        first | (intro _ hw'; obtain ⟨u, hw''⟩ := hw'; subst hw'') | intro u
        go_wp2_with fail
        go_ret2
        exact ⟨HGG.out.hB.trans ((HBA.out.trans (u.prop.mono HBA.out.size)).mono HGG.out.hB.size), .inr ⟨fun h => HIN.out (h x (List.mem_of_getElem? HX.out)), rfl⟩⟩
    · have hltI : ¬ (i : Int) < (L.length : Int) := by omega
      obtain rfl : i = L.length := by omega
      go_wp2_with fail
      go_ret2
      have h1 := HGG.out.own
      have h2 := HGG.out.all
      rw [List.take_of_length_le (Nat.le_refl _)] at h1 h2
      exact ⟨HGG.out.hB, .inl ⟨A', c', h2, rfl, h1⟩⟩
end Go.Proofs.Ytebfocfeehajjaa

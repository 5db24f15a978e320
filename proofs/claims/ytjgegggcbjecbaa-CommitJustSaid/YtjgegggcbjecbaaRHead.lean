/- The document's head: a commit's parents and texts. -/
import Derived.Test.YtjgegggcbjecbaaRRead
import Derived.Test.YtjgegggcbjecbaaGetTextR
namespace Go.Proofs.Ytjgegggcbjecbaa
open Go Go.RowKit

set_option maxRecDepth 100000 in
set_option maxHeartbeats 16000000 in
theorem rhead_any (b : List UInt8) (w : World) (hb : b.length ≤ 4611686018427387904) : Calls Try.prog 41 #[.string (sB b)] w (HeadO b w) := by
  obtain ⟨i0, hi, hz0, hz1, hz2⟩ := info_parts infoDg
  have hsb := sB_size b
  have HG := Lib.hid (fun (p : Nat) (w : World) => refGetNum_any (sB b) (p : Int) w (by omega))
  have HT := Lib.hid (fun (p : Nat) (w : World) => refGetText_any (sB b) (p : Int) w (by omega))
  simp only [sB_data] at HG HT
  obtain ⟨Z, hZ⟩ : ∃ Z, Z = bx (.slice none 0 0) [] [] (.slice none 0 0) := ⟨_, rfl⟩
  have hZl : (#[Value.slice none 0 0, .string ⟨#[]⟩, .string ⟨#[]⟩, .slice none 0 0] : Array Value) = Z := hZ.symm
  obtain ⟨w2, hw2⟩ : ∃ y, y = (w.alloc (.cells Z 31)).alloc (.cells Z 31) := ⟨_, rfl⟩
  have hs1 : (w.alloc (.cells Z 31)).heap.size = w.heap.size + 1 := by simp
  have HRS := Lib.hid (show Blk w2 w.heap.size 31 Z by rw [hw2]; exact (Blk.new w _ _).alloc _)
  have HBX := Lib.hid (show Blk w2 (w.heap.size + 1) 31 Z by rw [hw2]; exact hs1 ▸ Blk.new (w.alloc (.cells Z 31)) 31 Z)
  have HW := Lib.hid (show Below w.heap.size w w2 by rw [hw2]; exact ((Below.refl _ _).alloc (Nat.le_refl _) _).alloc (by simp) _)
  have HZ := Lib.hid hZ
  have HZI := Lib.hid (show (Try.prog.info? 31).map (·.size) = some Z.size by rw [hZ]; exact infoC4)
  have HZA := Lib.hid (show Z.all (·.oneCell') = true by rw [hZ]; exact bx_all)
  replace hw2 := hw2.symm
  clear hs1 hZ
  obtain ⟨⟨n, p1, e⟩, hg⟩ : ∃ x, x = Wi.getNum b ((0 : Nat) : Int) := ⟨_, rfl⟩
  have hgs := hg.symm
  have HG1 := Lib.hid (HG.out 0 w2)
  rw [← hg] at HG1
  unfold getV at HG1
  simp only [] at HG1
  rw [show (((0 : Nat) : Int)) = (0 : Int) from rfl] at HG1
  clear hg
  by_cases he : e = 0
  · subst he
    obtain ⟨hn63, hp1⟩ := getNum_lim' hgs
    by_cases hn : 8 < n
    · have HR := Lib.hid (show headP b 0 = .error 4 from Pa.bind_err (by unfold Pa.numP; rw [hgs]; simp only []; rw [if_neg (by omega), if_pos hn]))
      have hd : decide ((8 : Int) < (n : Int)) = true := decide_eq_true (by omega)
      have hd2 : decide (8 < n) = true := decide_eq_true hn
      clear hgs hn
      go_enter Try.func41, Try.ntmps41
      go_wp2_with fail
      refine HG1.out.mono ?_; rintro e' w1' ⟨rfl, rfl⟩
      go_wp2_with (first | (refine at_lod 31 (.tmp 5) rfl ?_; go_must (refine wpList_load_row rfl 31 (.tmp 5) rfl (w.heap.size + 1) rfl _ Z (0, 0) _ HBX.out Try.underlying31 rfl HZI.out ?_)) | (refine at_sto 31 (.tmp 2) (.tmp 30) rfl ?_; go_must (refine wpList_store_row rfl 31 (.tmp 2) (.tmp 30) rfl w.heap.size Z rfl rfl _ Z HRS.out HZI.out rfl HZA.out ?_)))
      exact bodyPost_ret (v := .tuple #[.agg Z, .int .i64 0, .int .i64 4]) (results_row_tmp2 rfl _ _ w.heap.size _ _ _ _ rfl (HRS.out.row _) Try.underlying31 rfl HZI.out _ _ rfl rfl) rfl (by rw [HZ.out]; exact headO_err 4 (by decide) HR.out (below_row HW.out (Nat.le_refl _) _))
    have hd : decide ((8 : Int) < (n : Int)) = false := decide_eq_false (by omega)
    have hd2 : decide (8 < n) = false := decide_eq_false hn
    have hn8 : n ≤ 8 := by omega
    have HNP := Lib.hid (show Pa.numP 8 4 b 0 = .ok (n, p1) by unfold Pa.numP; rw [hgs]; simp only []; rw [if_neg (by omega), if_neg (by omega)])
    have HS0 := Lib.hid (show HdG b n p1 0 p1 [] none 0 w w2 from ⟨by rw [← HZ.out]; exact HRS.out, by rw [← HZ.out]; exact HBX.out, World.ownsRow_nil w2 _ _ _, (fun d h => by cases h), rfl, Nat.zero_le _, hp1, by rw [glue_nil, Nat.sub_zero], HW.out⟩)
    clear hgs hn HRS HBX HW
    go_enter Try.func41, Try.ntmps41
    go_wp2_with fail
    refine HG1.out.mono ?_; rintro e' w1' ⟨rfl, rfl⟩
    go_wp2_with fail
    clear hw2 hZl
    go_loopw [7, 9] (fun pv iv wr => ∃ (i p : Nat) (ps : List (List UInt8)) (A : Option Addr) (c : Nat), pv = .int .i64 (p : Int) ∧ iv = .int .i64 (i : Int) ∧ HdG b n p1 i p ps A c w wr) (fun _ iv _ => n - (intOf iv).toNat)
    case atStart => exact ⟨0, p1, [], none, 0, rfl, rfl, HS0.out⟩
    clear HS0
    case round =>
      obtain ⟨i, p, ps, A, c, rfl, rfl, hG⟩ := hrel
      have HGG := Lib.hid hG
      have hpl := hG.hp
      have hin := hG.hin
      have hil := hG.hi
      clear hG
      by_cases hlt : i < n
      · have hltI : (i : Int) < (n : Int) := by omega
        have HDG := Lib.hid (rdig_any b p wr hb hpl)
        by_cases hlen : b.length < p + 32
        · rw [show rdgV b p = .tuple #[digV Cm.zero32, .bool false] by unfold rdgV; rw [if_pos hlen]] at HDG
          unfold digV at HDG
          obtain ⟨D0, hD0⟩ : ∃ D, D = (bv Cm.zero32).toArray := ⟨_, rfl⟩
          have HDA := Lib.hid (bv_all Cm.zero32)
          have HDS := Lib.hid (show (bv Cm.zero32).toArray.size = 32 by rw [bv_size]; rfl)
          rw [← hD0] at HDG HDA HDS
          have HDI := Lib.hid (show (Try.prog.info? 47).map (·.size) = some D0.size by rw [HDS.out]; exact infoD32)
          have HR := Lib.hid (show headP b 0 = .error 8 from Pa.bind_err2 HNP.out (Pa.bind_err (by rw [HGG.out.go, show n - i = (n - i - 1) + 1 by omega, Pa.list_err (e := 8) (by rw [digP_is, if_pos hlen])]; rfl)))
          clear hD0 hlen
          go_wp2_with fail
          refine HDG.out.mono ?_; rintro e'' w3 ⟨rfl, hb3⟩
          have HRS3 := Lib.hid ((HGG.out.res.later hb3).alloc (.cells D0 47))
          have HBX3 := Lib.hid ((HGG.out.box.later hb3).alloc (.cells D0 47))
          have HW3 := Lib.hid ((HGG.out.hB.trans (hb3.mono HGG.out.hB.size)).alloc (HGG.out.hB.trans (hb3.mono HGG.out.hB.size)).size (.cells D0 47))
          clear hb3
          go_wp2_with (first | (refine at_sto 47 (.tmp 10) (.tmp 40) rfl ?_; go_must (refine wpList_store_row rfl 47 (.tmp 10) (.tmp 40) rfl w3.heap.size D0 rfl rfl 47 _ (heap_alloc_new w3 _) HDI.out (by rw [HDS.out]; rfl) HDA.out ?_); rw [World.setRow_alloc_new]) | (refine at_lod 31 (.tmp 5) rfl ?_; go_must (refine wpList_load_row rfl 31 (.tmp 5) rfl (w.heap.size + 1) rfl _ _ (0, 0) _ HBX3.out Try.underlying31 rfl bx_info ?_)) | (refine at_sto 31 (.tmp 2) (.tmp 44) rfl ?_; go_must (refine wpList_store_row rfl 31 (.tmp 2) (.tmp 44) rfl w.heap.size (bx (.slice A i c) [] [] (.slice none 0 0)) rfl rfl _ _ HRS3.out bx_info rfl bx_all ?_)))
          exact bodyPost_ret (v := .tuple #[.agg (bx (.slice A i c) [] [] (.slice none 0 0)), .int .i64 0, .int .i64 8]) (results_row_tmp2 rfl _ _ w.heap.size _ _ _ _ rfl (HRS3.out.row _) Try.underlying31 rfl bx_info _ _ rfl rfl) rfl (headO_err 8 (by decide) HR.out (below_row HW3.out (Nat.le_refl _) _))
        · rw [show rdgV b p = .tuple #[digV ((b.drop p).take 32), .bool true] by unfold rdgV; rw [if_neg hlen]] at HDG
          have hTl : ((b.drop p).take 32).length = 32 := by rw [List.length_take, List.length_drop]; omega
          have HGO := Lib.hid (show Pa.listP (Pa.digP 32) n b p1 = glue (ps ++ [(b.drop p).take 32]) (Pa.listP (Pa.digP 32) (n - (i + 1)) b (p + 32)) by
            rw [HGG.out.go, show n - i = (n - (i + 1)) + 1 by omega, glue_next (x := (b.drop p).take 32) (q := p + 32) (by rw [digP_is, if_neg hlen])])
          obtain ⟨T, hT⟩ : ∃ T, T = (b.drop p).take 32 := ⟨_, rfl⟩
          rw [← hT] at HDG HGO hTl
          unfold digV at HDG
          have HTL := Lib.hid hTl
          have hps : p + 32 ≤ b.length := by omega
          have HDS := Lib.hid (show (bv T).toArray.size = 32 by rw [bv_size]; exact hTl)
          have HDI := Lib.hid (show (Try.prog.info? 47).map (·.size) = some (bv T).toArray.size by rw [HDS.out]; exact infoD32)
          have HDA := Lib.hid (bv_all T)
          have hwp : IntKind.i64.wrap ((p : Int) + 32) = (p : Int) + 32 := IntWalk.i64_in _ (by omega)
          clear hT hlen hTl
          go_wp2_with fail
          refine HDG.out.mono ?_; rintro e'' w3 ⟨rfl, hb3⟩
          have hB3 := hb3.mono HGG.out.hB.size
          obtain ⟨w4, hw4⟩ : ∃ y, y = w3.alloc (.cells (bv T).toArray 47) := ⟨_, rfl⟩
          have hA4 : Below w3.heap.size w3 w4 := by rw [hw4]; exact below_alloc w3 _
          have HN4 := Lib.hid (show Blk w4 w3.heap.size 47 (bv T).toArray by rw [hw4]; exact Blk.new w3 _ _)
          have HRS4 := Lib.hid ((HGG.out.res.later hb3).later hA4)
          have HBX4 := Lib.hid ((HGG.out.box.later hb3).later hA4)
          have HOW4 := Lib.hid (own_below (own_below HGG.out.own hb3) hA4)
          have HB4 := Lib.hid ((HGG.out.hB.trans hB3).trans (hA4.mono (HGG.out.hB.trans hB3).size))
          have c0 : w4.cell? ⟨w.heap.size + 1, 0, none⟩ = some (.slice A i c) := HBX4.out.cell 0
          replace hw4 := hw4.symm
          have hB4s := HB4.out.size
          have HB5 := Lib.hid (HB4.out.alloc hB4s (.cells (bv T).toArray 47))
          have HOW5 := Lib.hid (HOW4.out.alloc (.cells (bv T).toArray 47))
          clear hb3 hB3 hA4
          go_wp2_with (first | (refine at_sto 47 (.tmp 10) (.tmp 40) rfl ?_; go_must (refine wpList_store_row rfl 47 (.tmp 10) (.tmp 40) rfl w3.heap.size (bv T).toArray rfl rfl 47 _ (heap_alloc_new w3 _) HDI.out (by rw [HDS.out]; rfl) HDA.out ?_); rw [World.setRow_alloc_new]) | (refine at_lod 47 (.tmp 10) rfl ?_; go_must (refine wpList_load_row rfl 47 (.tmp 10) rfl w3.heap.size rfl _ _ (0, 0) _ HN4.out Try.underlying47 rfl HDI.out ?_)) | (refine at_dst 48 rfl ?_; go_must (refine wpList_one_slice rfl 29 47 (.tmp 47) rfl i0 _ (bv T).toArray rfl Try.underlying29 hi hz0 (by rw [hz1, HDS.out]) (by rw [HDS.out]; decide) (by rw [HDS.out]; decide) ?_)) | (at_builtin; go_must (refine wp_appK _ 32 rfl (.tmp 46) (.tmp 48) 29 29 rfl w.heap.size 47 i0 _ 32 Try.underlying29 hi hz0 hz1 hz2 rfl (.slice A i c) ps.length (rows bv ps) rfl (HOW4.out.alloc _) (.slice (some ⟨w4.heap.size, 0, none⟩) 1 1) 1 (bv T) rfl (new_srcK 32 Try.underlying29 w4 (bv T) 1 1 47 (0, 0) (by rw [bv_length, HTL.out]) (bv_one T)) (by unfold maxLen; omega) (by omega) (by simp; omega) ?_); intro v2 w6 ho2 hg2 _; have hv2' := own_form ho2; obtain ⟨A2, k2, hv2, -, -, -⟩ := hv2'; subst hv2; have hne := row_own_ne (HOW4.out.alloc (.cells (bv T).toArray 47)) (HBX4.out.alloc _) (by decide); have hne2 := row_own_ne (HOW4.out.alloc (.cells (bv T).toArray 47)) (HRS4.out.alloc _) (by decide); have HBX6 := Lib.hid ((HBX4.out.alloc _).grown hg2 (fun e => hne e.symm)); have HRS6 := Lib.hid ((HRS4.out.alloc _).grown hg2 (fun e => hne2 e.symm)); have HB6 := Lib.hid (HB5.out.grown hg2 HB5.out.size (fun q hq => (HOW5.out.lt q hq).1)); have HO2 := Lib.hid ho2; have c2 : w6.cell? ⟨w.heap.size + 1, 0, none⟩ = some (.slice A i c) := HBX6.out.cell 0; have f2 := HBX6.out.frozen 0; clear ho2 hg2 hne hne2 c0))
          go_roundw
          case rel =>
            have hO := HO2.out
            rw [hil, ← rows_one bv T, ← rows_append] at hO
            have hl2 : (ps ++ [T]).length = i + 1 := by simp; omega
            refine ⟨i + 1, p + 32, ps ++ [T], A2, k2, by go_num, by go_num, ⟨HRS6.out.far (p := ⟨w.heap.size + 1, 0, none⟩) (by simp) _, ?_, ?_, ?_, hl2, by omega, hps, HGO.out, HB6.out.setCell (p := ⟨w.heap.size + 1, 0, none⟩) (Nat.le_succ _) _⟩⟩
            · exact HBX6.out.set_ 0 (.slice A2 (i + 1) k2)
            · rw [hl2]
              exact row_set hO HBX6.out (by decide)
            · intro d hd
              rw [List.mem_append, List.mem_singleton] at hd
              rcases hd with hd | rfl
              · exact HGG.out.len d hd
              · exact HTL.out
          case measure => simp [intOf] <;> omega
      · have hltI : ¬ (i : Int) < (n : Int) := by omega
        have HL := Lib.hid (show Pa.listP (Pa.digP 32) n b p1 = .ok (ps, p) by rw [HGG.out.go, show n - i = 0 by omega]; simp [Pa.listP, glue])
        obtain ⟨⟨s1, q1, e1⟩, hg1⟩ : ∃ x, x = Wi.getText b (p : Int) := ⟨_, rfl⟩
        have hgs1 := hg1.symm
        have HT1 := Lib.hid (HT.out p wr)
        rw [← hg1] at HT1
        unfold textV at HT1
        simp only [] at HT1
        have HTP1 := Lib.hid (textP_is hgs1)
        clear hg1
        by_cases he1 : e1 = 0
        · subst he1
          obtain ⟨hs1l, hq1⟩ := text_lim hgs1
          obtain ⟨⟨s2, q2, e2⟩, hg2⟩ : ∃ x, x = Wi.getText b (q1 : Int) := ⟨_, rfl⟩
          have hgs2 := hg2.symm
          have HT2 := Lib.hid (HT.out q1 wr)
          rw [← hg2] at HT2
          unfold textV at HT2
          simp only [] at HT2
          have HTP2 := Lib.hid (textP_is hgs2)
          clear hg2
          by_cases he2 : e2 = 0
          · subst he2
            obtain ⟨hs2l, hq2⟩ := text_lim hgs2
            have HR := Lib.hid (show headP b 0 = .ok ((n, (ps, (s1, s2))), q2) from Pa.bind_ok HNP.out (Pa.bind_ok HL.out (Pa.bind_ok (by rw [HTP1.out, if_neg (by decide)]) (by rw [HTP2.out, if_neg (by decide)]))))
            have b1 := HGG.out.box.cell 1
            have f1 := HGG.out.box.frozen 1
            have hbx1 := HGG.out.box.set_ 1 (.string (sB s1))
            have b2 := hbx1.cell 2
            have f2 := hbx1.frozen 2
            have HBX3 := Lib.hid (show Blk ((wr.setCell ⟨w.heap.size + 1, 1, none⟩ (.string (sB s1))).setCell ⟨w.heap.size + 1, 2, none⟩ (.string (sB s2))) (w.heap.size + 1) 31 (bx (.slice A i c) s1 s2 (.slice none 0 0)) from hbx1.set_ 2 (.string (sB s2)))
            have HRS3 := Lib.hid ((HGG.out.res.far (p := ⟨w.heap.size + 1, 1, none⟩) (by simp) (.string (sB s1))).far (p := ⟨w.heap.size + 1, 2, none⟩) (by simp) (.string (sB s2)))
            have HW3 := Lib.hid ((HGG.out.hB.setCell (p := ⟨w.heap.size + 1, 1, none⟩) (Nat.le_succ _) (.string (sB s1))).setCell (p := ⟨w.heap.size + 1, 2, none⟩) (Nat.le_succ _) (.string (sB s2)))
            have HO3 := Lib.hid (row_set (i := 2) (x := .string (sB s2)) (row_set (i := 1) (x := .string (sB s1)) HGG.out.own HGG.out.box (by decide)) hbx1 (by decide))
            simp only [bx, List.getElem?_toArray, List.getElem?_cons_zero, List.getElem?_cons_succ, Array.setIfInBounds] at b1 b2
            clear hgs1 hgs2 hbx1
            go_wp2_with fail
            refine HT1.out.mono ?_; rintro e'' w9 ⟨rfl, rfl⟩
            go_wp2_with fail
            refine HT2.out.mono ?_; rintro e'' w9 ⟨rfl, rfl⟩
            go_wp2_with (first | (refine at_lod 31 (.tmp 5) rfl ?_; go_must (refine wpList_load_row rfl 31 (.tmp 5) rfl (w.heap.size + 1) rfl _ (bx (.slice A i c) s1 s2 (.slice none 0 0)) (0, 0) _ HBX3.out Try.underlying31 rfl bx_info ?_)) | (refine at_sto 31 (.tmp 2) (.tmp 79) rfl ?_; go_must (refine wpList_store_row rfl 31 (.tmp 2) (.tmp 79) rfl w.heap.size (bx (.slice A i c) s1 s2 (.slice none 0 0)) rfl rfl _ _ HRS3.out bx_info rfl bx_all ?_)))
            exact bodyPost_ret (v := .tuple #[.agg (bx (.slice A i c) s1 s2 (.slice none 0 0)), .int .i64 (q2 : Int), .int .i64 0]) (results_row_tmp2 rfl _ _ w.heap.size _ _ _ _ rfl (HRS3.out.row _) Try.underlying31 rfl bx_info _ _ rfl rfl) rfl ⟨below_row HW3.out (Nat.le_refl _) _, .inr ⟨n, ps, s1, s2, q2, A, c, HR.out, by rw [hil], by rw [hil]; have h := row_row (cs' := bx (.slice A i c) s1 s2 (.slice none 0 0)) HO3.out HRS3.out (by decide); rw [hil] at h; exact h, HGG.out.len, hq2, hs1l, hs2l, by omega⟩⟩
          · have HR := Lib.hid (show headP b 0 = .error e2 from Pa.bind_err2 HNP.out (Pa.bind_err2 HL.out (Pa.bind_err2 (by rw [HTP1.out, if_neg (by decide)]) (by rw [HTP2.out, if_pos he2]))))
            have hb2 : ((e2 : Int) != 0) = true := by rw [bne_iff_ne]; omega
            have hb2' : ¬ e2 = 0 := he2
            have HE0 := Lib.hid he2
            have HBX3 := Lib.hid HGG.out.box
            have HRS3 := Lib.hid HGG.out.res
            clear hgs1 hgs2 he2
            go_wp2_with fail
            refine HT1.out.mono ?_; rintro e'' w9 ⟨rfl, rfl⟩
            go_wp2_with fail
            refine HT2.out.mono ?_; rintro e'' w9 ⟨rfl, rfl⟩
            go_wp2_with (first | (refine at_lod 31 (.tmp 5) rfl ?_; go_must (refine wpList_load_row rfl 31 (.tmp 5) rfl (w.heap.size + 1) rfl _ (bx (.slice A i c) [] [] (.slice none 0 0)) (0, 0) _ HBX3.out Try.underlying31 rfl bx_info ?_)) | (refine at_sto 31 (.tmp 2) (.tmp 73) rfl ?_; go_must (refine wpList_store_row rfl 31 (.tmp 2) (.tmp 73) rfl w.heap.size (bx (.slice A i c) [] [] (.slice none 0 0)) rfl rfl _ _ HRS3.out bx_info rfl bx_all ?_)))
            exact bodyPost_ret (v := .tuple #[.agg (bx (.slice A i c) [] [] (.slice none 0 0)), .int .i64 0, .int .i64 (e2 : Int)]) (results_row_tmp2 rfl _ _ w.heap.size _ _ _ _ rfl (HRS3.out.row _) Try.underlying31 rfl bx_info _ _ rfl rfl) rfl (headO_err e2 HE0.out HR.out (below_row HGG.out.hB (Nat.le_refl _) _))
        · have HR := Lib.hid (show headP b 0 = .error e1 from Pa.bind_err2 HNP.out (Pa.bind_err2 HL.out (Pa.bind_err (by rw [HTP1.out, if_pos he1]))))
          have hb2 : ((e1 : Int) != 0) = true := by rw [bne_iff_ne]; omega
          have hb2' : ¬ e1 = 0 := he1
          have HE0 := Lib.hid he1
          have HBX3 := Lib.hid HGG.out.box
          have HRS3 := Lib.hid HGG.out.res
          clear hgs1 he1
          go_wp2_with fail
          refine HT1.out.mono ?_; rintro e'' w9 ⟨rfl, rfl⟩
          go_wp2_with (first | (refine at_lod 31 (.tmp 5) rfl ?_; go_must (refine wpList_load_row rfl 31 (.tmp 5) rfl (w.heap.size + 1) rfl _ (bx (.slice A i c) [] [] (.slice none 0 0)) (0, 0) _ HBX3.out Try.underlying31 rfl bx_info ?_)) | (refine at_sto 31 (.tmp 2) (.tmp 62) rfl ?_; go_must (refine wpList_store_row rfl 31 (.tmp 2) (.tmp 62) rfl w.heap.size (bx (.slice A i c) [] [] (.slice none 0 0)) rfl rfl _ _ HRS3.out bx_info rfl bx_all ?_)))
          exact bodyPost_ret (v := .tuple #[.agg (bx (.slice A i c) [] [] (.slice none 0 0)), .int .i64 0, .int .i64 (e1 : Int)]) (results_row_tmp2 rfl _ _ w.heap.size _ _ _ _ rfl (HRS3.out.row _) Try.underlying31 rfl bx_info _ _ rfl rfl) rfl (headO_err e1 HE0.out HR.out (below_row HGG.out.hB (Nat.le_refl _) _))
  · have HR := Lib.hid (show headP b 0 = .error e from Pa.bind_err (by unfold Pa.numP; rw [hgs, if_pos he]))
    have hbe : ((e : Int) != 0) = true := by rw [bne_iff_ne]; omega
    have hbe2 : ¬ e = 0 := he
    have HE0 := Lib.hid he
    clear hgs he
    go_enter Try.func41, Try.ntmps41
    go_wp2_with fail
    refine HG1.out.mono ?_; rintro e' w1' ⟨rfl, rfl⟩
    go_wp2_with (first | (refine at_lod 31 (.tmp 5) rfl ?_; go_must (refine wpList_load_row rfl 31 (.tmp 5) rfl (w.heap.size + 1) rfl _ Z (0, 0) _ HBX.out Try.underlying31 rfl HZI.out ?_)) | (refine at_sto 31 (.tmp 2) (.tmp 26) rfl ?_; go_must (refine wpList_store_row rfl 31 (.tmp 2) (.tmp 26) rfl w.heap.size Z rfl rfl _ Z HRS.out HZI.out rfl HZA.out ?_)))
    exact bodyPost_ret (v := .tuple #[.agg Z, .int .i64 0, .int .i64 (e : Int)]) (results_row_tmp2 rfl _ _ w.heap.size _ _ _ _ rfl (HRS.out.row _) Try.underlying31 rfl HZI.out _ _ rfl rfl) rfl (by rw [HZ.out]; exact headO_err e HE0.out HR.out (below_row HW.out (Nat.le_refl _) _))
end Go.Proofs.Ytjgegggcbjecbaa

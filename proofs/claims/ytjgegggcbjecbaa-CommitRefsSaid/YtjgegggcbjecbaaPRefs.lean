/- The program's Refs: which commits a commit's operations name. -/
import Derived.Test.YtjgegggcbjecbaaPSrtF
import Derived.Test.YtjgegggcbjecbaaOpenD
namespace Go.Proofs.Ytjgegggcbjecbaa
open Go Go.RowKit
open Go.Lib (keeps compactUpTo)
open Go.Sort (PermIn SortedIn)

set_option maxRecDepth 100000 in
set_option maxHeartbeats 1000000 in
/-- Nothing, sorted. -/
theorem insD_nil (b : Value) (w : World) :
    Calls Try.prog 74 #[.slice none 0 0, .int .i64 0, .int .i64 0, b] w fun e w' => e = .returned (.tuple #[]) ∧ w = w' := by
  go_enter Try.func74, Try.ntmps74
  go_wp2_with fail
  go_loopw [8] (fun iv wr => iv = .int .i64 1 ∧ w = wr) (fun _ _ => 0)
  case atStart => exact ⟨rfl, rfl⟩
  case round =>
    obtain ⟨rfl, rfl⟩ := hrel
    go_wp2_with fail
    go_end0
    exact ⟨rfl, rfl⟩

set_option maxRecDepth 100000 in
set_option maxHeartbeats 2000000 in
theorem pdqD_nil (b : Value) (w : World) :
    Calls Try.prog 63 #[.slice none 0 0, .int .i64 0, .int .i64 0, .int .i64 0, b] w fun e w' => e = .returned (.tuple #[]) ∧ w = w' := by
  go_enter Try.func63, Try.ntmps63
  go_wp2_with fail
  go_loopw [1, 2] (fun av bv wr => av = .int .i64 0 ∧ bv = .int .i64 0 ∧ w = wr) (fun _ _ _ => 0)
  case atStart => exact ⟨rfl, rfl, rfl⟩
  case round =>
    obtain ⟨rfl, rfl, rfl⟩ := hrel
    go_wp2_with fail
    refine (insD_nil _ _).mono ?_; rintro e w1 ⟨rfl, rfl⟩
    go_wp2_with fail
    exact bodyPost_ret (results_none rfl _ _ _) rfl ⟨rfl, rfl⟩

set_option maxRecDepth 100000 in
set_option maxHeartbeats 2000000 in
theorem sortD_nil (b : Value) (w : World) :
    Calls Try.prog 45 #[.slice none 0 0, b] w fun e w' => e = .returned (.tuple #[]) ∧ w = w' := by
  have hl := Try.bits_Len 0 w (by decide) (by decide)
  go_enter Try.func45, Try.ntmps45
  go_wp2_with fail
  refine hl.mono ?_; rintro e w1 ⟨rfl, rfl⟩
  go_wp2_with fail
  refine (pdqD_nil _ _).mono ?_; rintro e w1 ⟨rfl, rfl⟩
  go_wp2_with fail
  go_end0
  exact ⟨rfl, rfl⟩

set_option maxRecDepth 100000 in
set_option maxHeartbeats 2000000 in
theorem compact_few (A : Option Addr) (n c : Nat) (hn : n < 2) (w : World) :
    Calls Try.prog 47 #[.slice A n c] w fun e w' => e = .returned (.slice A n c) ∧ w = w' := by
  have d2 : (n : Int) < 2 := by omega
  go_enter Try.func47, Try.ntmps47
  go_wp2_with fail
  go_ret
  exact ⟨rfl, rfl⟩

/-- A row of digests, told as an array. -/
theorem row_dl {L : List (List UInt8)} (h : ∀ s ∈ L, s.length = 32) : ∃ d : Array D32, dl d = L ∧ d.size = L.length := by
  refine ⟨(L.attach.map fun x => (⟨x.1, h x.1 x.2⟩ : D32)).toArray, ?_, by simp⟩
  unfold dl
  rw [List.toList_toArray, List.map_map]
  show L.attach.map (fun x => x.1) = L
  exact List.attach_map_subtype_val L
theorem refs_sorted {m : Cm.Cm} {d d' : Array D32} (hd : dl d = farsOf m.ops) (hp : PermIn 0 d.size d d') (hs : SortedIn (fun a b : D32 => Tx.less a.1 b.1) 0 d.size d') : vl (compactUpTo d' d'.size) = refsC m := by
  have h := So.sorted_compact (fun x : D32 => x.1) (fun a b e => Subtype.ext e) Tx.less (fun s => s.length = 32) (fun a => a.2) Tx.less_self Tx.less_trans (fun a b ha hb hne => less_or a b ha hb hne) hp hs
  unfold vl refsC
  rw [h, ← hd]
  rfl

theorem few_all (d : Array D32) (h : d.size < 2) : compactUpTo d d.size = d.toList := by
  rw [Lib.compactUpTo_all d _ (fun j hj => Lib.keeps_lt_one d j (by omega)), Lib.range_map_get]
theorem cps_own {g c B : Nat} {d : Array D32} {R : List Value} {w wr : World} (h : CpS g d R w wr) (hB : B ≤ g) (hn : d.size ≤ c) (hm : c ≤ Go.maxLen) (hs : (cpA d R).size = c * 32) : wr.ownsRow B 47 32 (.slice (some ⟨g, 0, none⟩) d.size c) d.size (rows bv (dl d)) := by
  have hrl := rows_len (cells := bv) (k := 32) (L := dl d) (fun s hs => by rw [bv_length]; exact dl_dig d s hs)
  rw [dl_len] at hrl
  refine ⟨hrl, .inr ⟨g, c, cpA d R, rfl, hB, h.blk, hn, hm, hs, ?_⟩⟩
  unfold cpA
  rw [List.toList_toArray, ← hrl, List.take_left]

set_option maxRecDepth 100000 in
set_option maxHeartbeats 4000000 in
theorem prefs_any (m : Cm.Cm) (v : Value) (A B : Option Addr) (c d : Nat) (w : World) (hI : InCm w v A c B d m) (hol : m.ops.length * 72 ≤ 140737488351232) :
    Calls Try.prog 24 #[v] w fun e w' => ∃ A' c', e = .returned (.slice A' (refsC m).length c') ∧ w'.ownsRow w.heap.size 47 32 (.slice A' (refsC m).length c') (refsC m).length (rows bv (refsC m)) ∧ Below w.heap.size w w' := by
  obtain ⟨rfl, hcc, hcd, hRp, hRo, hDp, hDo⟩ := hI
  have HRo := Lib.hid hRo
  have HDo := Lib.hid hDo
  clear hcc hcd hRp hRo hDp hDo
  obtain ⟨wa, hwa⟩ : ∃ y, y = w.alloc (.cells #[.slice A m.parents.length c, .string (sB m.author), .string (sB m.note), .slice B m.ops.length d] 31) := ⟨_, rfl⟩
  have HX := Lib.hid (show BoxC m A c B d w.heap.size wa from ⟨by rw [hwa]; exact Blk.new w _ _⟩)
  have HB := Lib.hid (show Below w.heap.size w wa by rw [hwa]; exact below_alloc w _)
  obtain ⟨i0, hi, hz0, hz1, hz2⟩ := info_parts infoDg
  obtain ⟨-, -, -, x3⟩ := HX.out.cells
  replace hwa := hwa.symm
  go_enter Try.func24, Try.ntmps24
  go_wp2_with fail
  clear x3
  go_loopw [3, 9] (fun ov iv wr => ∃ (i : Nat) (A' : Option Addr) (c' n : Nat), iv = .int .i64 (i : Int) ∧ ov = .slice A' n c' ∧ RfG m A c B d w.heap.size i A' c' n w wr) (fun _ iv _ => m.ops.length - (intOf iv).toNat)
  case atStart => exact ⟨0, none, 0, 0, rfl, rfl, ⟨Nat.zero_le _, rfl, HX.out, World.ownsRow_nil wa _ _ _, ⟨Nat.le_refl _, Nat.zero_le _⟩, HB.out⟩⟩
  clear HX HB hwa
  case round =>
    obtain ⟨i, A', c', n, rfl, rfl, hG⟩ := hrel
    have HGG := Lib.hid hG
    have hiL := hG.len
    have HN := Lib.hid hG.num
    have hnl := farsOf_len (m.ops.take i)
    rw [← HN.out, List.length_take] at hnl
    clear hG
    by_cases hlt : i < m.ops.length
    · have hltI : (i : Int) < (m.ops.length : Int) := by omega
      obtain ⟨x, hx⟩ : ∃ x, m.ops[i]? = some x := ⟨_, List.getElem?_eq_getElem hlt⟩
      have hlx := HDo.out x (List.mem_of_getElem? hx)
      obtain ⟨ad, hA, hbx, hca⟩ := (HRo.out.later HGG.out.hB).elem (by decide) (fun s hs => opCells_length (HDo.out s hs)) hx
      subst hA
      have HX := Lib.hid hx
      have HXL := Lib.hid hlx
      have HCA := Lib.hid hca
      have HLA := Lib.hid (show (Try.prog.info? 58).map (·.size) = some (opCells x).length by rw [opCells_length hlx]; exact infoO37)
      obtain ⟨OX, hOX⟩ : ∃ OX, OX = (opCells x).toArray := ⟨_, rfl⟩
      have HOE := Lib.hid hOX
      have HOS := Lib.hid (show OX.size = 37 by rw [hOX]; exact opA_len hlx)
      have HOA := Lib.hid (show OX.all (·.oneCell') = true by rw [hOX]; exact opCells_all x)
      have HOI := Lib.hid (show (Try.prog.info? 58).map (·.size) = some OX.size by rw [HOS.out]; exact infoO37)
      obtain ⟨w2, hw2⟩ : ∃ y, y = wr.alloc (.cells OX 58) := ⟨_, rfl⟩
      have hb2 : Below wr.heap.size wr w2 := by rw [hw2]; exact below_alloc wr _
      have HBO := Lib.hid (show BoxO x wr.heap.size w2 from ⟨by rw [hw2, hOX]; exact Blk.new wr _ _, hlx⟩)
      have HX2 := Lib.hid (HGG.out.box.later hb2)
      have HO2 := Lib.hid (own_below HGG.out.own hb2)
      have HB2 := Lib.hid (HGG.out.hB.trans (hb2.mono HGG.out.hB.size))
      have HSN := Lib.hid (farsOf_snoc (m.ops.take i) x)
      rw [← take_snoc HX.out] at HSN
      have HCR := Lib.hid (show ∀ j v, (refCells x.at_)[j]? = some v → w2.cell? ((⟨wr.heap.size, 2, none⟩ : Addr).add j) = some v from fun j v hv => by rw [Addr.add_lit]; exact HBO.out.rng j v hv)
      have HLR := Lib.hid (show (Try.prog.info? 56).map (·.size) = some (refCells x.at_).length by rw [refCells_len hlx.1]; exact infoR34)
      have HRF := Lib.hid (isFar_any x.at_ w2 hlx.1)
      unfold refV at HRF
      replace hw2 := hw2.symm
      clear hx hlx hbx hca hb2 hOX
      go_wp2_with (first | (refine at_lod 58 (.tmp 11) rfl ?_; go_must (refine wpList_load_any (by rfl) 58 (.tmp 11) rfl (ad.add (i * 37)) rfl (opCells x) _ HCA.out Try.underlying58 rfl HLA.out ?_); rw [← HOE.out]) | (refine at_sto 58 (.tmp 5) (.tmp 12) rfl ?_; go_must (refine wpList_store_row rfl 58 (.tmp 5) (.tmp 12) rfl wr.heap.size OX rfl rfl 58 _ (heap_alloc_new wr _) HOI.out (by rw [HOS.out]; rfl) HOA.out ?_); rw [World.setRow_alloc_new, hw2]; go_wp2_with (refine at_lod 56 (.tmp 13) rfl ?_; go_must (refine wpList_load_any (by rfl) 56 (.tmp 13) rfl ⟨wr.heap.size, 2, none⟩ rfl (refCells x.at_) _ HCR.out Try.underlying56 rfl HLR.out ?_); go_wp2_with fail)))
      refine HRF.out.mono ?_; rintro e w3 ⟨rfl, hb3⟩
      have HX3 := Lib.hid (HX2.out.later hb3)
      have HO3 := Lib.hid (own_below HO2.out hb3)
      have HB3 := Lib.hid (HB2.out.trans (hb3.mono HB2.out.size))
      have HBO3 := Lib.hid (HBO.out.later hb3)
      clear hb3 HCR HRF
      by_cases hk : Cm.refK x.at_ = 2
      · have hkk : decide (Cm.refK x.at_ = 2) = true := decide_eq_true hk
        rw [hkk]
        rw [if_pos hk] at HSN
        have HCD := Lib.hid (show ∀ j v, (bv x.at_.commit)[j]? = some v → w3.cell? ((⟨wr.heap.size, 3, none⟩ : Addr).add j) = some v from fun j v hv => by
          rw [Addr.add_lit]
          have := HBO3.out.rng (1 + j) v (refCells_dig hv)
          rw [show 2 + (1 + j) = 3 + j by omega] at this
          exact this)
        have HLD := Lib.hid (show (Try.prog.info? 47).map (·.size) = some (bv x.at_.commit).length by rw [bv_length, HXL.out.1]; exact infoD32)
        have HDS := Lib.hid (show (bv x.at_.commit).toArray.size = 32 by rw [List.size_toArray, bv_length, HXL.out.1])
        have hs3 := HB3.out.size
        have HB3a := Lib.hid (HB3.out.alloc hs3 (.cells (bv x.at_.commit).toArray 47))
        have hs3a := HB3a.out.size
        have HO3a := Lib.hid (HO3.out.alloc (.cells (bv x.at_.commit).toArray 47))
        have HX3a := Lib.hid (HX3.out.blk.alloc (.cells (bv x.at_.commit).toArray 47))
        clear hk hkk
        go_wp2_with (first | (refine at_lod 47 (.tmp 18) rfl ?_; go_must (refine wpList_load_any (by rfl) 47 (.tmp 18) rfl ⟨wr.heap.size, 3, none⟩ rfl (bv x.at_.commit) _ HCD.out Try.underlying47 rfl HLD.out ?_)) | (refine at_dst 20 rfl ?_; go_must (refine wpList_one_slice rfl 29 47 (.tmp 19) rfl i0 _ (bv x.at_.commit).toArray rfl Try.underlying29 hi hz0 (by rw [hz1, HDS.out]) (by rw [HDS.out]; decide) (by rw [HDS.out]; decide) ?_)) | (refine at_dst 21 rfl ?_; go_must (refine wp_appK _ 32 rfl (.tmp 16) (.tmp 20) 29 29 rfl w.heap.size 47 i0 _ 32 Try.underlying29 hi hz0 hz1 hz2 rfl (.slice A' n c') n (rows bv (farsOf (m.ops.take i))) rfl HO3a.out (.slice (some ⟨w3.heap.size, 0, none⟩) 1 1) 1 (bv x.at_.commit) rfl (new_srcK 32 Try.underlying29 w3 (bv x.at_.commit) 1 1 47 (0, 0) (by rw [bv_length, HXL.out.1]) (bv_one x.at_.commit)) (by unfold maxLen; omega) (by omega) hs3a ?_); intro v4 w4 ho4 hg4 _; obtain ⟨A4, c4, hv4, hc4, hm4, -⟩ := own_form ho4; subst hv4; have hne := row_own_ne HO3a.out HX3a.out (by decide); have HX4 := Lib.hid (BoxC.mk (HX3a.out.grown hg4 (fun e => hne e.symm))); have HB4 := Lib.hid (HB3a.out.grown hg4 hs3a (fun q hq => (HO3a.out.lt q hq).1)); have HO4 := Lib.hid ho4; clear ho4 hg4 hne))
        go_roundw
        case rel =>
          have hO := HO4.out
          rw [← rows_one bv x.at_.commit, ← rows_append, ← HSN.out] at hO
          exact ⟨i + 1, A4, c4, n + 1, by go_num, rfl, ⟨by omega, by rw [HSN.out, List.length_append, ← HN.out]; rfl, HX4.out, hO, ⟨hc4, by simpa [maxLen] using hm4⟩, HB4.out⟩⟩
        case measure => simp [intOf] <;> omega
      · have hkk : decide (Cm.refK x.at_ = 2) = false := decide_eq_false hk
        rw [hkk]
        rw [if_neg hk] at HSN
        clear hk hkk
        go_wp2_with fail
        go_roundw
        case rel => exact ⟨i + 1, A', c', n, by go_num, rfl, ⟨by omega, by rw [HSN.out]; exact HN.out, HX3.out, by rw [HSN.out]; exact HO3.out, HGG.out.cap, HB3.out⟩⟩
        case measure => simp [intOf] <;> omega
    · have hltI : ¬ (i : Int) < (m.ops.length : Int) := by omega
      have hO := HGG.out.own
      rw [List.take_of_length_le (by omega)] at hO
      have hsl : (farsOf m.ops).length = n := by rw [HN.out, List.take_of_length_le (by omega)]
      have HO := Lib.hid hO
      rcases hO.2 with ⟨hnil, h0⟩ | ⟨g, cap, cur, hv, hB, hg, hcn, hcm, hcs, htk⟩
      · injection hnil with e1 _ e3
        subst e1
        subst h0
        subst e3
        have HRE := Lib.hid (show refsC m = [] by unfold refsC; rw [List.eq_nil_of_length_eq_zero hsl]; rfl)
        clear hO hsl
        go_wp2_with fail
        refine (sortD_nil _ _).mono ?_; rintro e w2 ⟨rfl, rfl⟩
        go_wp2_with fail
        refine (compact_few none 0 0 (by omega) _).mono ?_; rintro e w3 ⟨rfl, rfl⟩
        go_wp2_with fail
        go_ret
        rw [HRE.out]
        exact ⟨none, 0, rfl, World.ownsRow_nil _ _ _ _, HGG.out.hB⟩
      · injection hv with e1 _ e3
        subst e1
        subst e3
        obtain ⟨D, hD, hDn⟩ := row_dl (farsOf_dig HDo.out)
        rw [hsl] at hDn
        obtain ⟨R, hR⟩ : ∃ R, R = cur.toList.drop (n * 32) := ⟨_, rfl⟩
        have hcur : cur = cpA D R := by
          unfold cpA
          rw [hD, ← htk, hR, List.take_append_drop, Array.toArray_toList]
        have hn62 : n < 4611686018427387904 := by omega
        have C1 := Lib.hid (sortD_any g c' D R wr (by rw [← hcur]; exact hg) (by rw [hDn]; exact hn62))
        rw [hDn] at C1
        have HDD := Lib.hid hD
        have HDN := Lib.hid hDn
        have HCS := Lib.hid (show (cpA D R).size = c' * 32 by rw [← hcur]; exact hcs)
        have HB := Lib.hid hB
        have HCN := Lib.hid hcn
        have HCM := Lib.hid hcm
        clear hO hD hDn hR hcur hg hcs htk hB hcn hcm
        go_wp2_with fail
        refine C1.out.mono ?_; rintro e w2 ⟨rfl, D', hp, hs, hc2⟩
        have HC2 := Lib.hid hc2
        have HDN' := Lib.hid (show D'.size = n by rw [hp.1, HDN.out])
        have HRS := Lib.hid (refs_sorted HDD.out (by rw [HDN.out]; exact hp) (by rw [HDN.out]; exact hs))
        have HCZ := Lib.hid (show (cpA D' R).size = c' * 32 by rw [cpA_size, HDN'.out, ← HDN.out, ← cpA_size D R]; exact HCS.out)
        have HOW := Lib.hid (cps_own HC2.out HB.out (by rw [HDN'.out]; exact HCN.out) HCM.out HCZ.out)
        clear hp hs hc2 C1 HCS
        by_cases h2 : n < 2
        · have C2 := Lib.hid (compact_few (some ⟨g, 0, none⟩) n c' h2 w2)
          go_wp2_with fail
          refine C2.out.mono ?_; rintro e w3 ⟨rfl, rfl⟩
          go_wp2_with fail
          go_ret
          have h1 := HRS.out
          rw [few_all D' (by rw [HDN'.out]; exact h2)] at h1
          have h3 : dl D' = refsC m := h1
          have h4 : (refsC m).length = n := by rw [← h3, dl_len, HDN'.out]
          have h5 := HOW.out
          rw [h3, HDN'.out] at h5
          rw [h4]
          exact ⟨_, _, rfl, h5, HGG.out.hB.grown HC2.out.grown HGG.out.hB.size (fun q hq => by have h : g = q := Option.some.inj hq; have := HB.out; omega)⟩
        · have C2 := Lib.hid (compact_any g c' w.heap.size D' w2 HOW.out (by rw [HDN'.out]; omega) (by rw [HDN'.out]; omega))
          have h4 : (compactUpTo D' D'.size).length = (refsC m).length := by rw [← HRS.out, vl_len]
          rw [h4, HRS.out, HDN'.out] at C2
          clear h4
          go_wp2_with fail
          refine C2.out.mono ?_; rintro e w3 ⟨rfl, ho3, hg3⟩
          have HO3 := Lib.hid ho3
          have HB2 := Lib.hid (HGG.out.hB.grown HC2.out.grown HGG.out.hB.size (fun q hq => by have h : g = q := Option.some.inj hq; have := HB.out; omega))
          have HB3 := Lib.hid (HB2.out.grown hg3 HB2.out.size (fun q hq => by have h : g = q := Option.some.inj hq; have := HB.out; omega))
          clear ho3 hg3
          go_wp2_with fail
          go_ret
          exact ⟨_, _, rfl, HO3.out, HB3.out⟩
end Go.Proofs.Ytjgegggcbjecbaa

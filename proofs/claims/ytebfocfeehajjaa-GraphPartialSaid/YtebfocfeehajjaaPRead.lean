/- The program's read: a list's nodes, or the first one that may not be. -/
import Derived.Test.YtebfocfeehajjaaPAdd
namespace Go.Proofs.Ytebfocfeehajjaa
open Go Go.RowKit

/-- Node by node: the first one that may not be, and why. -/
def chkGo (ah : List (List UInt8)) : List Nod → Nat × Nat
  | [] => (0, 0)
  | x :: r => if wrongN ah x ≠ 0 then (ah.length, wrongN ah x) else chkGo (ah ++ [x.id]) r
def chk (l : List Nod) : Nat × Nat := if 200 < l.length then (0, 4) else chkGo [] l
theorem chkGo_at {ah : List (List UInt8)} : ∀ {l : List Nod}, (chkGo ah l).2 = 0 → ∀ (i : Nat) (x : Nod), l[i]? = some x → wrongN (ah ++ (l.take i).map fun y => y.id) x = 0
  | [], _, i, x, hx => by cases hx
  | y :: r, h, i, x, hx => by
    rw [chkGo] at h
    split at h
    · rename_i h1; exact absurd h h1
    · rename_i h1
      cases i with
      | zero =>
        obtain rfl : y = x := by simpa using hx
        simpa using h1
      | succ i =>
        have := chkGo_at h i x (by simpa using hx)
        rw [List.append_assoc] at this
        simpa using this
theorem wrongN_zero {ah : List (List UInt8)} {x : Nod} (h : wrongN ah x = 0) : x.ps.length ≤ 8 ∧ Cm.rises Tx.less x.ps = true ∧ x.id ∉ ah ∧ ∀ p ∈ x.ps, p ∈ ah := by
  unfold wrongN at h
  split at h
  · cases h
  · split at h
    · cases h
    · split at h
      · cases h
      · split at h
        · rename_i h1 h2 h3 h4
          exact ⟨by omega, by simpa using h2, h3, h4⟩
        · cases h
theorem chk_ok {l : List Nod} (h : (chk l).2 = 0) : l.length ≤ 200 ∧ Gr.Ok l ∧ (∀ x ∈ l, x.ps.length ≤ 8 ∧ Cm.rises Tx.less x.ps = true) := by
  unfold chk at h
  split at h
  · cases h
  · rename_i hl
    have hat := chkGo_at h
    simp only [List.nil_append] at hat
    have hids : ∀ i, (l.take i).map (fun y => y.id) = Gr.idsOf (l.take i) := fun _ => rfl
    refine ⟨by omega, ⟨?_, fun i x hx p hp => ?_⟩, fun x hx => ?_⟩
    · unfold Gr.idsOf
      rw [List.nodup_iff_pairwise_ne, List.pairwise_iff_getElem]
      intro i j hi hj hij e
      rw [List.length_map] at hi hj
      have hj' := List.getElem?_eq_getElem hj
      have h3 := (wrongN_zero (hat j _ hj')).2.2.1
      refine h3 (List.mem_map.2 ⟨l[i], ?_, ?_⟩)
      · exact List.mem_iff_getElem?.2 ⟨i, by rw [List.getElem?_take, if_pos hij, List.getElem?_eq_getElem hi]⟩
      · simpa using e
    · rw [← hids]
      exact (wrongN_zero (hat i x hx)).2.2.2 p hp
    · obtain ⟨i, hi⟩ := List.mem_iff_getElem?.1 hx
      have := wrongN_zero (hat i x hi)
      exact ⟨this.1, this.2.1⟩

/-- Nodes that came in, each with where its parents lie. -/
structure NIn (w : World) (ll : List (Nod × Option Addr × Nat)) : Prop where
  each : ∀ t ∈ ll, t.1.id.length = 32 ∧ (∀ p ∈ t.1.ps, p.length = 32) ∧ Rd w w.heap.size t.2.1 (t.1.ps.length * 32) (rows bv t.1.ps) ∧ t.1.ps.length * 32 ≤ 140737488351232
def nC (t : Nod × Option Addr × Nat) : List Value := ndC t.1 t.2.1 t.2.2
def nsOf (ll : List (Nod × Option Addr × Nat)) : List Nod := ll.map fun t => t.1
theorem NIn.later {w w' : World} {ll : List (Nod × Option Addr × Nat)} (h : NIn w ll) (hb : Below w.heap.size w w') : NIn w' ll :=
  ⟨fun t ht => ⟨(h.each t ht).1, (h.each t ht).2.1, (h.each t ht).2.2.1.later hb, (h.each t ht).2.2.2⟩⟩

/-- What read leaves. -/
def ReadO (l : List Nod) (w : World) (e : Ending) (w' : World) : Prop :=
  Below w.heap.size w w' ∧ ((∃ i er, chk l = (i, er) ∧ er ≠ 0 ∧ e = .returned (.tuple #[.pointer none, .int .i64 (i : Int), .int .i64 (er : Int)])) ∨
    ((chk l).2 = 0 ∧ ∃ gb db mb A c B d V bs, bs.length = l.length ∧ e = .returned (.tuple #[.pointer (some ⟨gb, 0, none⟩), .int .i64 0, .int .i64 0]) ∧ GM w.heap.size gb db mb A c B d V (Gr.idsOf l) (Gr.nums l) bs w'))

theorem make_bools (n : Nat) (hn : n ≤ 281474976710656) (w : World) : (Instr.makeSlice 66 (.int .i64 (n : Int)) (.int .i64 (n : Int))).run Try.prog w = .ok (.slice (some ⟨w.heap.size, 0, none⟩) n n) (w.alloc (.cells (bl (List.replicate n false)) 4)) := by
  obtain ⟨i, hi, hz0, hz1, hz2⟩ := info_parts infoB
  have h := run_make (P := Try.prog) w 66 4 i _ Try.underlying66 hi hz0 .i64 .i64 (n : Int) (n : Int) (by omega) (Int.le_refl _) (by rw [hz2]; omega) (by omega)
  simp only [Int.toNat_natCast, hz1, Nat.mul_one] at h
  have e : madeCells (Value.bool false).cells n = bl (List.replicate n false) := by
    apply Array.ext
    · rw [size_madeCells, bl_size, List.length_replicate]
    · intro k h1 h2
      simp [madeCells, bl, Value.cells, Nat.mod_one]
  rw [← e]
  exact h
theorem make_map (n : Nat) (w : World) : (Instr.makeMap 76 (some (.int .i64 (n : Int)))).run Try.prog w = .ok (.map (some w.heap.size)) (w.alloc (.map #[] 0)) := by
  simp [Instr.makeMap, run_underlying Try.underlying76, asInt, asIntOf]

/-- The numbers of the first ones' parents. -/
def nsTo (l : List Nod) (i : Nat) : List (List Nat) := (l.take i).map fun x => x.ps.map (Gr.fnd l)
theorem fnd_eq (l : List Nod) (d : List UInt8) : Gr.fnd l d = (Gr.idsOf l).idxOf d := by
  unfold Gr.fnd List.idxOf
  congr 1
  funext y
  show decide (y = d) = (y == d)
  rw [Bool.eq_iff_iff, decide_eq_true_iff, beq_iff_eq]
theorem nsTo_next {l : List Nod} {i : Nat} {x : Nod} (h : l[i]? = some x) (hp : ∀ p ∈ x.ps, p ∈ Gr.idsOf (l.take i)) : nsTo l (i + 1) = nsTo l i ++ [x.ps.map (Gr.idsOf (l.take i)).idxOf] := by
  unfold nsTo
  rw [take_snoc h, List.map_append]
  congr 1
  simp only [List.map_cons, List.map_nil]
  congr 1
  refine List.map_congr_left fun p hpx => ?_
  rw [fnd_eq]
  have e : Gr.idsOf l = Gr.idsOf (l.take i) ++ Gr.idsOf (l.drop i) := by unfold Gr.idsOf; rw [← List.map_append, List.take_append_drop]
  rw [e, List.idxOf_append, if_pos (hp p hpx)]
theorem ids_snoc {l : List Nod} {i : Nat} {x : Nod} (h : l[i]? = some x) : Gr.idsOf (l.take (i + 1)) = Gr.idsOf (l.take i) ++ [x.id] := by
  unfold Gr.idsOf; rw [take_snoc h, List.map_append]; rfl
structure RdG (l : List Nod) (gb db mb : Nat) (bs : List Bool) (i : Nat) (w wr : World) : Prop where
  len : i ≤ l.length
  gm : ∃ A c B d V, GM w.heap.size gb db mb A c B d V (Gr.idsOf (l.take i)) (nsTo l i) bs wr
  go : chkGo [] l = chkGo (Gr.idsOf (l.take i)) (l.drop i)
  hB : Below w.heap.size w wr
theorem gm_zero1 (n : Nat) (w : World) : GM w.heap.size (w.heap.size + 1 + 1) (w.heap.size + 1) w.heap.size none 0 none 0 [] [] [] (List.replicate n false) (((w.alloc (.map #[] 0)).alloc (.cells (bl (List.replicate n false)) 4)).alloc (.cells #[.slice none 0 0, .slice none 0 0, .map (some w.heap.size), .slice (some ⟨w.heap.size + 1, 0, none⟩) n n] 78)).drew := by
  refine ⟨?_, World.ownsRow_nil _ _ _ _, (fun s hs => by cases hs), World.ownsRow_nil _ _ _ _, rfl, (fun i L h => by cases h), ?_, ?_, ⟨by omega, by omega, Nat.le_refl _⟩⟩
  · have h := Blk.new ((w.alloc (.map #[] 0)).alloc (.cells (bl (List.replicate n false)) 4)) 78 #[.slice none 0 0, .slice none 0 0, .map (some w.heap.size), .slice (some ⟨w.heap.size + 1, 0, none⟩) n n]
    simp only [World.size_alloc] at h
    rw [List.length_replicate]
    exact h.drew
  · have h := (Blk.new (w.alloc (.map #[] 0)) 4 (bl (List.replicate n false))).alloc (.cells #[.slice none 0 0, .slice none 0 0, .map (some w.heap.size), .slice (some ⟨w.heap.size + 1, 0, none⟩) n n] 78)
    simp only [World.size_alloc] at h
    exact h.drew
  · exact (DMap.made w).kept (grown_of (((below_alloc _ _).trans ((below_alloc _ _).mono (by simp))).drew) none) (by simp)
theorem gm_zero2 (n : Nat) (w : World) : GM w.heap.size (w.heap.size + 1 + 1) w.heap.size (w.heap.size + 1) none 0 none 0 [] [] [] (List.replicate n false) (((w.alloc (.cells (bl (List.replicate n false)) 4)).alloc (.map #[] 0)).alloc (.cells #[.slice none 0 0, .slice none 0 0, .map (some (w.heap.size + 1)), .slice (some ⟨w.heap.size, 0, none⟩) n n] 78)).drew := by
  refine ⟨?_, World.ownsRow_nil _ _ _ _, (fun s hs => by cases hs), World.ownsRow_nil _ _ _ _, rfl, (fun i L h => by cases h), ?_, ?_, ⟨by omega, Nat.le_refl _, by omega⟩⟩
  · have h := Blk.new ((w.alloc (.cells (bl (List.replicate n false)) 4)).alloc (.map #[] 0)) 78 #[.slice none 0 0, .slice none 0 0, .map (some (w.heap.size + 1)), .slice (some ⟨w.heap.size, 0, none⟩) n n]
    simp only [World.size_alloc] at h
    rw [List.length_replicate]
    exact h.drew
  · exact (((Blk.new w 4 (bl (List.replicate n false))).alloc _).alloc _).drew
  · have h := DMap.made (w.alloc (.cells (bl (List.replicate n false)) 4))
    simp only [World.size_alloc] at h
    exact h.kept (grown_of ((below_alloc _ _).drew) none) (by simp)

set_option maxRecDepth 100000 in
set_option maxHeartbeats 8000000 in
theorem pread_any (ll : List (Nod × Option Addr × Nat)) (A0 : Option Addr) (c0 BB : Nat) (w : World) (hN : NIn w ll) (hR : Rd w BB A0 (ll.length * 33) (rows nC ll)) (hBB : BB ≤ w.heap.size) (hl : ll.length * 56 ≤ 140737488351232) :
    Calls Try.prog 35 #[.slice A0 ll.length c0] w (ReadO (nsOf ll) w) := by
  have HN := Lib.hid hN
  have HR := Lib.hid hR
  have HBB := Lib.hid hBB
  have HLN := Lib.hid (show (nsOf ll).length = ll.length by unfold nsOf; rw [List.length_map])
  clear hN hR hBB
  by_cases h200 : 200 < ll.length
  · have d8 : decide ((200 : Int) < (ll.length : Int)) = true := decide_eq_true (by omega)
    have d8' : decide (200 < ll.length) = true := decide_eq_true h200
    have HCH := Lib.hid (show chk (nsOf ll) = (0, 4) by unfold chk; rw [HLN.out, if_pos h200])
    clear h200
    go_enter Try.func35, Try.ntmps35
    go_wp2_with fail
    go_ret3
    exact ⟨Below.refl _ _, .inl ⟨0, 4, HCH.out, by decide, rfl⟩⟩
  have d8 : decide ((200 : Int) < (ll.length : Int)) = false := decide_eq_false (by omega)
  have d8' : decide (200 < ll.length) = false := decide_eq_false h200
  have HCH := Lib.hid (show chk (nsOf ll) = chkGo [] (nsOf ll) by unfold chk; rw [HLN.out, if_neg h200])
  have hmk := fun W : World => make_bools ll.length (by omega) W
  have hmm := fun W : World => make_map ll.length W
  go_enter Try.func35, Try.ntmps35
  go_wp2_with fail
  go_region
  · obtain ⟨wa, hwa⟩ : ∃ y, y = (((w.alloc (.map #[] 0)).alloc (.cells (bl (List.replicate ll.length false)) 4)).alloc (.cells #[.slice none 0 0, .slice none 0 0, .map (some w.heap.size), .slice (some ⟨(w.heap.size + 1), 0, none⟩) ll.length ll.length] 78)).drew := ⟨_, rfl⟩
    obtain ⟨gb, hgb⟩ : ∃ y, y = w.heap.size + 1 + 1 := ⟨_, rfl⟩
    obtain ⟨db, mb, hg0⟩ : ∃ db mb, GM w.heap.size gb db mb none 0 none 0 [] [] [] (List.replicate ll.length false) wa := ⟨(w.heap.size + 1), w.heap.size, by rw [hwa, hgb]; exact gm_zero1 ll.length w⟩
    have HG0 := Lib.hid hg0
    have HB0 := Lib.hid (show Below w.heap.size w wa by rw [hwa]; exact (((below_alloc w _).trans ((below_alloc _ _).mono (by simp))).trans ((below_alloc _ _).mono (by simp; omega))).drew)
    rw [← hwa]
    clear hwa hmk hmm
    rw [← hgb]
    clear hgb hg0
    go_wp2_with fail
    go_loopw [22] (fun iv wr => ∃ i : Nat, iv = .int .i64 (i : Int) ∧ RdG (nsOf ll) gb db mb (List.replicate ll.length false) i w wr) (fun iv _ => ll.length - (intOf iv).toNat)
    case atStart => exact ⟨0, rfl, ⟨Nat.zero_le _, ⟨none, 0, none, 0, [], HG0.out⟩, rfl, HB0.out⟩⟩
    case round =>
      obtain ⟨i, rfl, hG⟩ := hrel
      have HGG := Lib.hid hG
      have hiL := hG.len
      rw [HLN.out] at hiL
      clear hG
      by_cases hlt : i < ll.length
      · have hltI : (i : Int) < (ll.length : Int) := by omega
        obtain ⟨⟨x, Ax, cx⟩, hx⟩ : ∃ t, ll[i]? = some t := ⟨_, List.getElem?_eq_getElem hlt⟩
        have HX := Lib.hid (show (nsOf ll)[i]? = some x by unfold nsOf; rw [List.getElem?_map, hx]; rfl)
        obtain ⟨hid, hpd, hpr, hpl⟩ := (HN.out.later HGG.out.hB).each _ (List.mem_of_getElem? hx)
        obtain ⟨ad, hA, hbx, hca⟩ := HR.out.elem (by decide) (fun t ht => ndC_length (HN.out.each t ht).1) hx
        subst hA
        have HCA := Lib.hid (grw_cells HGG.out.hB (ad := ad.add (i * 33)) (by rw [block_add]; have := HBB.out; omega) hca)
        have HXL := Lib.hid (show (nC (x, Ax, cx)).length = 33 from ndC_length hid)
        have HLA := Lib.hid (show (Try.prog.info? 50).map (·.size) = some (nC (x, Ax, cx)).length by rw [HXL.out]; exact infoNode)
        obtain ⟨wb, hwb⟩ : ∃ y, y = wr.alloc (.cells (nC (x, Ax, cx)).toArray 50) := ⟨_, rfl⟩
        have HBX := Lib.hid (show Blk wb wr.heap.size 50 (nC (x, Ax, cx)).toArray by rw [hwb]; exact Blk.new wr _ _)
        have HB1 := Lib.hid (show Below wr.heap.size wr wb by rw [hwb]; exact below_alloc wr _)
        have HBW := Lib.hid (show Below w.heap.size w wb from HGG.out.hB.trans (HB1.out.mono HGG.out.hB.size))
        have HDS := Lib.hid (show (nC (x, Ax, cx)).toArray.size = 33 by rw [List.size_toArray, HXL.out])
        have HDI := Lib.hid (show (Try.prog.info? 50).map (·.size) = some (nC (x, Ax, cx)).toArray.size by rw [HDS.out]; exact infoNode)
        have HDA := Lib.hid (show (nC (x, Ax, cx)).toArray.all (·.oneCell') = true from Array.all_eq_true_iff_forall_mem.2 (fun v hv => ndC_one x Ax cx v (List.mem_toArray.1 hv)))
        obtain ⟨A, c, B, d, V, hgm⟩ := HGG.out.gm
        have HGM := Lib.hid (hgm.below HB1.out)
        have hil : (Gr.idsOf ((nsOf ll).take i)).length = i := by rw [Gr.ids_len, List.length_take, HLN.out]; omega
        have HC := Lib.hid (padd_any w.heap.size gb db mb A c B d V _ _ _ x Ax cx wb HGM.out hid hpd (hpr.later HB1.out) hpl (by rw [hil]; omega))
        have HGO := Lib.hid (show chkGo [] (nsOf ll) = if wrongN (Gr.idsOf ((nsOf ll).take i)) x ≠ 0 then (i, wrongN (Gr.idsOf ((nsOf ll).take i)) x) else chkGo (Gr.idsOf ((nsOf ll).take (i + 1))) ((nsOf ll).drop (i + 1)) by
          rw [HGG.out.go, List.drop_eq_getElem_cons (by rw [HLN.out]; exact hlt), chkGo, ids_snoc HX.out]
          have e : (nsOf ll)[i]'(by rw [HLN.out]; exact hlt) = x := by have h := HX.out; rw [List.getElem?_eq_getElem (by rw [HLN.out]; exact hlt)] at h; exact Option.some.inj h
          rw [e, hil])
        replace hwb := hwb.symm
        clear hx hid hpd hpr hpl hca hbx hgm hil
        go_wp2_with (first | (refine at_lod 50 (.tmp 25) rfl ?_; go_must (refine wpList_load_any rfl 50 (.tmp 25) rfl (ad.add (i * 33)) rfl (nC (x, Ax, cx)) _ HCA.out Try.underlying50 rfl HLA.out ?_)) | (refine at_sto 50 (.tmp 7) (.tmp 26) rfl ?_; go_must (refine wpList_store_row rfl 50 (.tmp 7) (.tmp 26) rfl wr.heap.size (nC (x, Ax, cx)).toArray rfl rfl 50 _ (heap_alloc_new wr _) HDI.out (by rw [HDS.out]; rfl) HDA.out ?_); rw [World.setRow_alloc_new, hwb]) | (refine at_lod 50 (.tmp 7) rfl ?_; go_must (refine wpList_load_row rfl 50 (.tmp 7) rfl wr.heap.size rfl _ (nC (x, Ax, cx)).toArray (0, 0) _ HBX.out Try.underlying50 rfl HDI.out ?_)))
        refine HC.out.mono ?_; rintro e w' ⟨rfl, ⟨hne, hb⟩ | ⟨h0, hb, A', c', B', d', V', hgm'⟩⟩
        · have HGN := Lib.hid (show chk (nsOf ll) = (i, wrongN (Gr.idsOf ((nsOf ll).take i)) x) by rw [HCH.out, HGO.out, if_pos hne])
          have HNE := Lib.hid hne
          obtain ⟨er, her⟩ : ∃ er, er = wrongN (Gr.idsOf ((nsOf ll).take i)) x := ⟨_, rfl⟩
          rw [← her] at HGN HNE ⊢
          have hb1 : ((er : Int) != 0) = true := by have := HNE.out; rw [bne_iff_ne]; omega
          have HBZ := Lib.hid (HBW.out.trans (hb.mono HBW.out.size))
          clear hne hb her HC HGO
          go_wp2_with fail
          go_ret3
          exact ⟨HBZ.out, .inl ⟨i, er, HGN.out, HNE.out, rfl⟩⟩
        · have HZ := Lib.hid h0
          have HBZ := Lib.hid (HBW.out.trans hb)
          have HGZ := Lib.hid hgm'
          rw [h0]
          clear h0 hb hgm' HC
          go_wp2_with fail
          go_roundw
          case rel =>
            refine ⟨i + 1, by go_num, ⟨by rw [HLN.out]; omega, ⟨A', c', B', d', V', ?_⟩, ?_, HBZ.out⟩⟩
            · rw [ids_snoc HX.out, nsTo_next HX.out (wrongN_zero HZ.out).2.2.2]
              exact HGZ.out
            · rw [HGO.out, if_neg (by rw [HZ.out]; decide)]
          case measure => simp [intOf] <;> omega
      · have hltI : ¬ (i : Int) < (ll.length : Int) := by omega
        go_wp2_with fail
        go_ret3
        obtain rfl : i = ll.length := by omega
        obtain ⟨A, c, B, d, V, hgm⟩ := HGG.out.gm
        have hT : (nsOf ll).take ll.length = nsOf ll := List.take_of_length_le (by rw [HLN.out]; exact Nat.le_refl _)
        have hns : nsTo (nsOf ll) ll.length = Gr.nums (nsOf ll) := by unfold nsTo Gr.nums; rw [hT]
        rw [hT, hns] at hgm
        refine ⟨HGG.out.hB, .inr ⟨?_, gb, db, mb, A, c, B, d, V, _, by rw [List.length_replicate, HLN.out], rfl, hgm⟩⟩
        rw [HCH.out, HGG.out.go, List.drop_eq_nil_of_le (by rw [HLN.out]; exact Nat.le_refl _)]
        rfl

  · obtain ⟨wa, hwa⟩ : ∃ y, y = (((w.alloc (.cells (bl (List.replicate ll.length false)) 4)).alloc (.map #[] 0)).alloc (.cells #[.slice none 0 0, .slice none 0 0, .map (some (w.heap.size + 1)), .slice (some ⟨w.heap.size, 0, none⟩) ll.length ll.length] 78)).drew := ⟨_, rfl⟩
    obtain ⟨gb, hgb⟩ : ∃ y, y = w.heap.size + 1 + 1 := ⟨_, rfl⟩
    obtain ⟨db, mb, hg0⟩ : ∃ db mb, GM w.heap.size gb db mb none 0 none 0 [] [] [] (List.replicate ll.length false) wa := ⟨w.heap.size, (w.heap.size + 1), by rw [hwa, hgb]; exact gm_zero2 ll.length w⟩
    have HG0 := Lib.hid hg0
    have HB0 := Lib.hid (show Below w.heap.size w wa by rw [hwa]; exact (((below_alloc w _).trans ((below_alloc _ _).mono (by simp))).trans ((below_alloc _ _).mono (by simp; omega))).drew)
    rw [← hwa]
    clear hwa hmk hmm
    rw [← hgb]
    clear hgb hg0
    go_wp2_with fail
    go_loopw [22] (fun iv wr => ∃ i : Nat, iv = .int .i64 (i : Int) ∧ RdG (nsOf ll) gb db mb (List.replicate ll.length false) i w wr) (fun iv _ => ll.length - (intOf iv).toNat)
    case atStart => exact ⟨0, rfl, ⟨Nat.zero_le _, ⟨none, 0, none, 0, [], HG0.out⟩, rfl, HB0.out⟩⟩
    case round =>
      obtain ⟨i, rfl, hG⟩ := hrel
      have HGG := Lib.hid hG
      have hiL := hG.len
      rw [HLN.out] at hiL
      clear hG
      by_cases hlt : i < ll.length
      · have hltI : (i : Int) < (ll.length : Int) := by omega
        obtain ⟨⟨x, Ax, cx⟩, hx⟩ : ∃ t, ll[i]? = some t := ⟨_, List.getElem?_eq_getElem hlt⟩
        have HX := Lib.hid (show (nsOf ll)[i]? = some x by unfold nsOf; rw [List.getElem?_map, hx]; rfl)
        obtain ⟨hid, hpd, hpr, hpl⟩ := (HN.out.later HGG.out.hB).each _ (List.mem_of_getElem? hx)
        obtain ⟨ad, hA, hbx, hca⟩ := HR.out.elem (by decide) (fun t ht => ndC_length (HN.out.each t ht).1) hx
        subst hA
        have HCA := Lib.hid (grw_cells HGG.out.hB (ad := ad.add (i * 33)) (by rw [block_add]; have := HBB.out; omega) hca)
        have HXL := Lib.hid (show (nC (x, Ax, cx)).length = 33 from ndC_length hid)
        have HLA := Lib.hid (show (Try.prog.info? 50).map (·.size) = some (nC (x, Ax, cx)).length by rw [HXL.out]; exact infoNode)
        obtain ⟨wb, hwb⟩ : ∃ y, y = wr.alloc (.cells (nC (x, Ax, cx)).toArray 50) := ⟨_, rfl⟩
        have HBX := Lib.hid (show Blk wb wr.heap.size 50 (nC (x, Ax, cx)).toArray by rw [hwb]; exact Blk.new wr _ _)
        have HB1 := Lib.hid (show Below wr.heap.size wr wb by rw [hwb]; exact below_alloc wr _)
        have HBW := Lib.hid (show Below w.heap.size w wb from HGG.out.hB.trans (HB1.out.mono HGG.out.hB.size))
        have HDS := Lib.hid (show (nC (x, Ax, cx)).toArray.size = 33 by rw [List.size_toArray, HXL.out])
        have HDI := Lib.hid (show (Try.prog.info? 50).map (·.size) = some (nC (x, Ax, cx)).toArray.size by rw [HDS.out]; exact infoNode)
        have HDA := Lib.hid (show (nC (x, Ax, cx)).toArray.all (·.oneCell') = true from Array.all_eq_true_iff_forall_mem.2 (fun v hv => ndC_one x Ax cx v (List.mem_toArray.1 hv)))
        obtain ⟨A, c, B, d, V, hgm⟩ := HGG.out.gm
        have HGM := Lib.hid (hgm.below HB1.out)
        have hil : (Gr.idsOf ((nsOf ll).take i)).length = i := by rw [Gr.ids_len, List.length_take, HLN.out]; omega
        have HC := Lib.hid (padd_any w.heap.size gb db mb A c B d V _ _ _ x Ax cx wb HGM.out hid hpd (hpr.later HB1.out) hpl (by rw [hil]; omega))
        have HGO := Lib.hid (show chkGo [] (nsOf ll) = if wrongN (Gr.idsOf ((nsOf ll).take i)) x ≠ 0 then (i, wrongN (Gr.idsOf ((nsOf ll).take i)) x) else chkGo (Gr.idsOf ((nsOf ll).take (i + 1))) ((nsOf ll).drop (i + 1)) by
          rw [HGG.out.go, List.drop_eq_getElem_cons (by rw [HLN.out]; exact hlt), chkGo, ids_snoc HX.out]
          have e : (nsOf ll)[i]'(by rw [HLN.out]; exact hlt) = x := by have h := HX.out; rw [List.getElem?_eq_getElem (by rw [HLN.out]; exact hlt)] at h; exact Option.some.inj h
          rw [e, hil])
        replace hwb := hwb.symm
        clear hx hid hpd hpr hpl hca hbx hgm hil
        go_wp2_with (first | (refine at_lod 50 (.tmp 25) rfl ?_; go_must (refine wpList_load_any rfl 50 (.tmp 25) rfl (ad.add (i * 33)) rfl (nC (x, Ax, cx)) _ HCA.out Try.underlying50 rfl HLA.out ?_)) | (refine at_sto 50 (.tmp 7) (.tmp 26) rfl ?_; go_must (refine wpList_store_row rfl 50 (.tmp 7) (.tmp 26) rfl wr.heap.size (nC (x, Ax, cx)).toArray rfl rfl 50 _ (heap_alloc_new wr _) HDI.out (by rw [HDS.out]; rfl) HDA.out ?_); rw [World.setRow_alloc_new, hwb]) | (refine at_lod 50 (.tmp 7) rfl ?_; go_must (refine wpList_load_row rfl 50 (.tmp 7) rfl wr.heap.size rfl _ (nC (x, Ax, cx)).toArray (0, 0) _ HBX.out Try.underlying50 rfl HDI.out ?_)))
        refine HC.out.mono ?_; rintro e w' ⟨rfl, ⟨hne, hb⟩ | ⟨h0, hb, A', c', B', d', V', hgm'⟩⟩
        · have HGN := Lib.hid (show chk (nsOf ll) = (i, wrongN (Gr.idsOf ((nsOf ll).take i)) x) by rw [HCH.out, HGO.out, if_pos hne])
          have HNE := Lib.hid hne
          obtain ⟨er, her⟩ : ∃ er, er = wrongN (Gr.idsOf ((nsOf ll).take i)) x := ⟨_, rfl⟩
          rw [← her] at HGN HNE ⊢
          have hb1 : ((er : Int) != 0) = true := by have := HNE.out; rw [bne_iff_ne]; omega
          have HBZ := Lib.hid (HBW.out.trans (hb.mono HBW.out.size))
          clear hne hb her HC HGO
          go_wp2_with fail
          go_ret3
          exact ⟨HBZ.out, .inl ⟨i, er, HGN.out, HNE.out, rfl⟩⟩
        · have HZ := Lib.hid h0
          have HBZ := Lib.hid (HBW.out.trans hb)
          have HGZ := Lib.hid hgm'
          rw [h0]
          clear h0 hb hgm' HC
          go_wp2_with fail
          go_roundw
          case rel =>
            refine ⟨i + 1, by go_num, ⟨by rw [HLN.out]; omega, ⟨A', c', B', d', V', ?_⟩, ?_, HBZ.out⟩⟩
            · rw [ids_snoc HX.out, nsTo_next HX.out (wrongN_zero HZ.out).2.2.2]
              exact HGZ.out
            · rw [HGO.out, if_neg (by rw [HZ.out]; decide)]
          case measure => simp [intOf] <;> omega
      · have hltI : ¬ (i : Int) < (ll.length : Int) := by omega
        go_wp2_with fail
        go_ret3
        obtain rfl : i = ll.length := by omega
        obtain ⟨A, c, B, d, V, hgm⟩ := HGG.out.gm
        have hT : (nsOf ll).take ll.length = nsOf ll := List.take_of_length_le (by rw [HLN.out]; exact Nat.le_refl _)
        have hns : nsTo (nsOf ll) ll.length = Gr.nums (nsOf ll) := by unfold nsTo Gr.nums; rw [hT]
        rw [hT, hns] at hgm
        refine ⟨HGG.out.hB, .inr ⟨?_, gb, db, mb, A, c, B, d, V, _, by rw [List.length_replicate, HLN.out], rfl, hgm⟩⟩
        rw [HCH.out, HGG.out.go, List.drop_eq_nil_of_le (by rw [HLN.out]; exact Nat.le_refl _)]
        rfl

end Go.Proofs.Ytebfocfeehajjaa

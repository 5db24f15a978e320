/- The program's above: all that some stand above, each once, ahead of its parents. -/
import Derived.Test.YtebfocfeehajjaaSeq
namespace Go.Proofs.Ytebfocfeehajjaa
open Go Go.RowKit Go.Shelf
attribute [local go_sem] Oper.semAt_some

theorem clear_bools (w : World) (g : Nat) (bs : List Bool) (hg : Blk w g 4 (bl bs)) (ty : TypeId) : ∃ w', (Builtin.clear_ #[66] ty #[.slice (some ⟨g, 0, none⟩) bs.length bs.length]).run Try.prog w = .ok (.tuple #[]) w' ∧ w.grownBy w' (some g) ∧ Blk w' g 4 (bl (List.replicate bs.length false)) := by
  have hzc : (Builtin.zeroCells #[Value.bool false] bs.length).toList = List.replicate bs.length (.bool false) := by
    simp [Builtin.zeroCells]
    apply List.ext_getElem
    · simp
    · intro i h1 h2
      simp [Nat.mod_one]
  have hz := (zero_of_info (P := Try.prog) (t := 4) (v := .bool false) (n := 1) (by kernel_rfl)).1
  rcases Nat.eq_zero_or_pos bs.length with h0 | h0
  · obtain rfl : bs = [] := List.eq_nil_of_length_eq_zero h0
    refine ⟨w, ?_, World.grownBy.refl w _, hg⟩
    simp [Builtin.clear_, run_underlying Try.underlying66, hz]
  · have hst := run_storeCells_at (P := Try.prog) g 0 4 (List.replicate bs.length (Value.bool false)) 0 (bl bs) w hg (by rw [bl_size]; simp) (by intro v hv; rw [List.eq_of_mem_replicate hv]; rfl)
    have he : ((bl bs).toList.take (0 + 0) ++ List.replicate bs.length (Value.bool false) ++ (bl bs).toList.drop (0 + 0 + (List.replicate bs.length (Value.bool false)).length)).toArray = bl (List.replicate bs.length false) := by
      apply Array.ext'
      rw [List.drop_eq_nil_of_le (by rw [Array.length_toList, bl_size]; simp)]
      simp [bl]
    rw [he] at hst
    refine ⟨_, ?_, sole_row (World.grownBy.refl w (some g)) _, hg.row _⟩
    obtain ⟨m, hm⟩ : ∃ m, bs.length = m + 1 := ⟨bs.length - 1, by omega⟩
    rw [hm] at hst hzc ⊢
    have hzv : (Value.bool false).cells = #[Value.bool false] := rfl
    simp [Builtin.clear_, run_underlying Try.underlying66, hz, hzv, hzc, hst]

/-- What the going over leans on, row db holding cur. -/
structure AbW (w1 : World) (gb db bg bs : Nat) (As : Option Addr) (cs : Nat) (S : List Nat) (cur : List Bool) (wr : World) : Prop where
  gr : w1.grownBy wr (some db)
  due : Blk wr db 4 (bl cur)
  b1 : Blk wr bg 55 #[.pointer (some ⟨gb, 0, none⟩)]
  b2 : Blk wr bs 64 #[.slice As S.length cs]
section
variable {w1 wr : World} {gb db bg bs : Nat} {As : Option Addr} {cs : Nat} {S : List Nat} {cur : List Bool}
theorem AbW.put (h : AbW w1 gb db bg bs As cs S cur wr) (i : Nat) : AbW w1 gb db bg bs As cs S (cur.set i true) (wr.setCell ⟨db, i, none⟩ (.bool true)) where
  gr := ⟨h.gr.os, h.gr.tape, h.gr.output, by simpa [World.setCell] using h.gr.size, fun k hk hne => (Below.heap_setCell wr ⟨db, i, none⟩ _ k (fun e => hne (by rw [e]))).trans (h.gr.block k hk hne)⟩
  due := by rw [← bl_set]; exact h.due.set_ i _
  b1 := h.b1.far (p := ⟨db, i, none⟩) (blk_ne h.b1 h.due (by decide)) _
  b2 := h.b2.far (p := ⟨db, i, none⟩) (blk_ne h.b2 h.due (by decide)) _
theorem AbW.round {n₀ mk : Nat} {W' : World} (h : AbW w1 gb db bg bs As cs S cur wr) (hk : KpB n₀ mk wr W') (h1 : w1.heap.size ≤ n₀) (h2 : w1.heap.size ≤ mk) (hdb : db < w1.heap.size) (hbg : bg < n₀ ∧ bg ≠ mk) (hbs : bs < n₀ ∧ bs ≠ mk) : AbW w1 gb db bg bs As cs S cur W' where
  gr := ⟨hk.os.trans h.gr.os, hk.tape.trans h.gr.tape, hk.output.trans h.gr.output, Nat.le_trans h.gr.size hk.size, fun k hk' hne => (hk.block k (by omega) (by omega)).trans (h.gr.block k hk' hne)⟩
  due := (hk.block db (by omega) (by omega)).trans h.due
  b1 := (hk.block bg hbg.1 hbg.2).trans h.b1
  b2 := (hk.block bs hbs.1 hbs.2).trans h.b2
end

set_option maxRecDepth 100000 in
set_option maxHeartbeats 4000000 in
theorem above1_all (F : Fence) (n : Nat) (h55 : F.fn 55) (hro : F.round = none) (hn : 1 ≤ n) (base gb db mb : Nat) (A : Option Addr) (c : Nat) (B : Option Addr) (d : Nat) (V : List Value) (ids : List (List UInt8)) (ns : List (List Nat)) (bs1 : List Bool) (w1 : World) (hG : GM base gb db mb A c B d V ids ns bs1 w1) (hbl : bs1.length = ids.length) (hN : ids.length ≤ 200) (hns : ∀ (i : Nat) (L : List Nat), ns[i]? = some L → L.length ≤ 8 ∧ ∀ p ∈ L, p < ids.length)
    (b1 : Nat) (As : Option Addr) (cs : Nat) (S : List Nat) (hS : w1.ownsRow b1 3 1 (.slice As S.length cs) S.length (nv S)) (hSl : S.length ≤ 4611686018427387904) (hSn : ∀ s ∈ S, s < ids.length)
    (bg bs mk n₀ : Nat) (h1 : w1.heap.size ≤ n₀) (h2 : w1.heap.size ≤ mk) (hbg : bg < n₀ ∧ bg ≠ mk) (hbs : bs < n₀ ∧ bs ≠ mk) :
    SeqAll F n Try.prog 55 #[.pointer (some ⟨bg, 0, none⟩), .pointer (some ⟨bs, 0, none⟩)] (Gr.vis ns ids.length (Gr.sets (List.replicate ids.length false) S)) db ids.length mk n₀
      (fun W => ∃ cur : List Bool, cur.length = ids.length ∧ AbW w1 gb db bg bs As cs S cur W) := by
  rintro l J W ⟨cur0, hcl0, hA0⟩ hW hJ hY h0
  obtain ⟨st, hst⟩ : ∃ st, st = Gr.sets (List.replicate ids.length false) S := ⟨_, rfl⟩
  rw [← hst] at hY ⊢
  have HST := Lib.hid hst
  clear hst
  refine callsIn_of_wp Try.func55 rfl h55 ?_ hro
  simp only [Try.ntmps55, List.size_toArray, List.length_cons, List.length_nil, Nat.reduceAdd, Nat.reduceSub, Array.replicate_succ, Array.replicate_zero, List.push_toArray, List.append_toArray, List.nil_append, List.cons_append]
  have hG0 := hG.marks hA0.gr hA0.due (by rw [hcl0, hbl])
  obtain ⟨w2, hclr, hg2, hd2⟩ := clear_bools W db cur0 hA0.due 0
  have c1 : W.cell? ⟨bg, 0, none⟩ = some (.pointer (some ⟨gb, 0, none⟩)) := hA0.b1.cell 0
  have c3 : W.cell? ⟨gb, 3, none⟩ = some (.slice (some ⟨db, 0, none⟩) cur0.length cur0.length) := hG0.cells.cell 3
  have HG0 := Lib.hid hG
  have HSO := Lib.hid hS
  have HSN := Lib.hid hSn
  have HNS := Lib.hid hns
  have HJ := Lib.hid hJ
  have HBL := Lib.hid hbl
  have HCL := Lib.hid hcl0
  have hdb : db < w1.heap.size := hG.due.lt
  have hA2 : AbW w1 gb db bg bs As cs S (List.replicate ids.length false) w2 := by
    refine ⟨⟨hg2.os.trans hA0.gr.os, hg2.tape.trans hA0.gr.tape, hg2.output.trans hA0.gr.output, Nat.le_trans hA0.gr.size hg2.size, fun k hk hne => (hg2.block k (Nat.lt_of_lt_of_le hk hA0.gr.size) hne).trans (hA0.gr.block k hk hne)⟩, by rw [← hcl0]; exact hd2, hA0.b1.grown hg2 (fun e => blk_ne hA0.b1 hA0.due (by decide) (Option.some.inj e)), hA0.b2.grown hg2 (fun e => blk_ne hA0.b2 hA0.due (by decide) (Option.some.inj e))⟩
  have HA2 := Lib.hid hA2
  have HJ2 := Lib.hid (show J [] w2 from hJ _ _ _ h0 hg2)
  have hs2 : n₀ ≤ w2.heap.size := Nat.le_trans hW hg2.size
  have c2 : w2.cell? ⟨bs, 0, none⟩ = some (.slice As S.length cs) := hA2.b2.cell 0
  clear hG0 hG hS hSn hns hJ h0 hA0 hA2 hg2 hd2 hbl hcl0
  gi_wp2
  clear c1 c2 c3 hclr
  gi_loopw [15] (fun iv wr => ∃ i : Nat, iv = .int .i64 (i : Int) ∧ i ≤ S.length ∧ AbW w1 gb db bg bs As cs S (Gr.sets (List.replicate ids.length false) (S.take i)) wr ∧ J [] wr ∧ n₀ ≤ wr.heap.size) (fun iv _ => S.length - (intOf iv).toNat)
  case atStart => exact ⟨0, rfl, Nat.zero_le _, HA2.out, HJ2.out, hs2⟩
  case round =>
    obtain ⟨i, rfl, hi, hA, hJi, hsz⟩ := hrel
    have HA := Lib.hid hA
    have HJI := Lib.hid hJi
    clear hA hJi
    by_cases hlt : i < S.length
    · have hltI : (i : Int) < (S.length : Int) := by omega
      obtain ⟨x, hx⟩ : ∃ x, S[i]? = some x := ⟨_, List.getElem?_eq_getElem hlt⟩
      have hxn := HSN.out x (List.mem_of_getElem? hx)
      have hso := HSO.out.kept HA.out.gr (.inr (row_own_ne HSO.out HG0.out.due (by decide)))
      obtain ⟨ad, u, hA', -, hu, hcu⟩ := (Rd.of_own hso).spot hlt
      subst hA'
      have hu' := nv_at hx
      rw [hu] at hu'
      obtain rfl := Option.some.inj hu'
      have hcl : (Gr.sets (List.replicate ids.length false) (S.take i)).length = ids.length := by rw [Gr.sets_length, List.length_replicate]
      have hgm := HG0.out.marks HA.out.gr HA.out.due (by rw [hcl, HBL.out])
      have c1 : wr.cell? ⟨bg, 0, none⟩ = some (.pointer (some ⟨gb, 0, none⟩)) := HA.out.b1.cell 0
      have c3 : wr.cell? ⟨gb, 3, none⟩ = some (.slice (some ⟨db, 0, none⟩) ids.length ids.length) := by have h := hgm.cells.cell 3; rw [hcl] at h; exact h
      obtain ⟨v, hv⟩ : ∃ v, wr.cell? ⟨db, x, none⟩ = some v := ⟨_, (HA.out.due.cell x).trans (bl_at (by rw [hcl]; exact hxn))⟩
      have hf : wr.frozen? ⟨db, x, none⟩ = false := HA.out.due.frozen x
      have hxI : (x : Int) < (ids.length : Int) := by omega
      have HA3 := Lib.hid (HA.out.put x)
      have HJ3 := Lib.hid (HJ.out _ _ _ HJI.out (grown_set wr db x (.bool true)))
      have HXX := Lib.hid hx
      clear hx hso hu hgm hcl hu' hxn
      gi_wp2
      go_roundw
      case rel =>
        refine ⟨i + 1, by go_num, by omega, ?_, HJ3.out, by simpa [World.setCell] using hsz⟩
        rw [take_snoc HXX.out, Gr.sets_snoc]
        exact HA3.out
      case measure => simp [intOf] <;> omega
    · obtain rfl : i = S.length := by omega
      have hltI : ¬ (S.length : Int) < (S.length : Int) := by omega
      have hcl : st.length = ids.length := by rw [HST.out, Gr.sets_length, List.length_replicate]
      rw [List.take_of_length_le (Nat.le_refl _), ← HST.out] at HA
      have hgm := HG0.out.marks HA.out.gr HA.out.due (by rw [hcl, HBL.out])
      have c1 : wr.cell? ⟨bg, 0, none⟩ = some (.pointer (some ⟨gb, 0, none⟩)) := HA.out.b1.cell 0
      have c3 : wr.cell? ⟨gb, 3, none⟩ = some (.slice (some ⟨db, 0, none⟩) ids.length ids.length) := by have h := hgm.cells.cell 3; rw [hcl] at h; exact h
      have HCS := Lib.hid hcl
      clear hgm hcl
      gi_wp2
      clear c1 c3
      gi_loopw [6] (fun iv wr => ∃ (k : Nat) (cur : List Bool) (pre : List Nat), iv = .int .i64 ((k : Int) - 1) ∧ k ≤ ids.length ∧ cur.length = ids.length ∧ AbW w1 gb db bg bs As cs S cur wr ∧ J pre wr ∧ n₀ ≤ wr.heap.size ∧ pre ++ Gr.vis ns k cur = Gr.vis ns ids.length st) (fun iv _ => (intOf iv + 1).toNat)
      case atStart => exact ⟨ids.length, st, [], by go_num, Nat.le_refl _, HCS.out, HA.out, HJI.out, hsz, rfl⟩
      case round =>
        obtain ⟨k, cur, pre, hv, hk, hcc, hA, hJp, hsz2, hvis⟩ := hrel
        clear HA HJI hsz
        have HA := Lib.hid hA
        have HJP := Lib.hid hJp
        have HVI := Lib.hid hvis
        have HCC := Lib.hid hcc
        clear hA hJp hvis
        rcases k with _ | u
        · rw [show (((0 : Nat) : Int) - 1) = -1 from rfl] at hv
          subst hv
          gi_wp2
          go_end0
          refine ⟨⟨_, rfl⟩, ?_, cur, HCC.out, HA.out.due⟩
          have h := HVI.out
          rw [Gr.vis, List.append_nil] at h
          rw [← h]
          exact HJP.out
        · rw [show (((u + 1 : Nat) : Int) - 1) = (u : Int) by omega] at hv
          subst hv
          have hun : u < ids.length := by omega
          have hunI : (u : Int) < (ids.length : Int) := by omega
          have hu0 : (0 : Int) ≤ (u : Int) := by omega
          have hgm := HG0.out.marks HA.out.gr HA.out.due (by rw [hcc, HBL.out])
          have c1 : wr.cell? ⟨bg, 0, none⟩ = some (.pointer (some ⟨gb, 0, none⟩)) := HA.out.b1.cell 0
          have c3 : wr.cell? ⟨gb, 3, none⟩ = some (.slice (some ⟨db, 0, none⟩) ids.length ids.length) := by have h := hgm.cells.cell 3; rw [hcc] at h; exact h
          have c5 : wr.cell? ⟨db, u, none⟩ = some (.bool (cur.getD u false)) := (HA.out.due.cell u).trans (bl_at (by rw [hcc]; exact hun))
          clear hcc hgm
          by_cases hm : cur.getD u false = true
          · have HM := Lib.hid hm
            rw [hm] at c5
            clear hm
            have hvs : Gr.vis ns (u + 1) cur = u :: Gr.vis ns u (Gr.sets cur (ns.getD u [])) := by rw [Gr.vis, if_pos HM.out, Gr.mkStep, if_pos HM.out]
            have HVI2 := Lib.hid (show (pre ++ [u]) ++ Gr.vis ns u (Gr.sets cur (ns.getD u [])) = Gr.vis ns ids.length st by rw [← HVI.out, hvs, List.append_assoc]; rfl)
            obtain ⟨fn, tmps, assign, body, hy, hR⟩ := hY pre u wr ⟨Gr.vis ns u (Gr.sets cur (ns.getD u [])), by rw [← HVI.out, hvs]⟩ HJP.out hsz2
            clear hvs
            gi_wp2
            refine hR.mono ?_
            rintro e W' ⟨rfl, hJ', hkp⟩
            have HAW := Lib.hid (HA.out.round hkp h1 h2 hdb hbg hbs)
            have HJW := Lib.hid hJ'
            have hsz3 : n₀ ≤ W'.heap.size := Nat.le_trans hsz2 hkp.size
            obtain ⟨L, hL⟩ : ∃ L, ns[u]? = some L := ⟨_, List.getElem?_eq_getElem (by rw [HG0.out.plen]; exact hun)⟩
            have hgm := HG0.out.marks HAW.out.gr HAW.out.due (by rw [HCC.out, HBL.out])
            obtain ⟨adB, v, hB', -, hVu, hcv⟩ := (Rd.of_own hgm.pown).spot hun
            obtain ⟨A', c', hVu', hrow⟩ := hgm.prow u L hL
            rw [hVu] at hVu'
            obtain rfl := Option.some.inj hVu'
            have HVA := Lib.hid hVu
            have HNL := Lib.hid hL
            have HLL := Lib.hid (HNS.out u L hL)
            have hL8 := HLL.out.1
            have hgd : ns.getD u [] = L := by rw [List.getD_eq_getElem?_getD, hL]; rfl
            rw [hgd] at HVI2
            have c1' : W'.cell? ⟨bg, 0, none⟩ = some (.pointer (some ⟨gb, 0, none⟩)) := HAW.out.b1.cell 0
            have c4 : W'.cell? ⟨gb, 1, none⟩ = some (.slice B ids.length d) := hgm.cells.cell 1
            rw [hB'] at c4
            have HROW := Lib.hid hrow
            clear hJ' hkp hgm hVu hVu' hrow hL hgd hR hy HA HJP HVI c1 c3 c5
            gi_wp2
            clear c1' c4 hcv
            gi_loopw [56] (fun jv wq => ∃ j : Nat, jv = .int .i64 (j : Int) ∧ j ≤ L.length ∧ AbW w1 gb db bg bs As cs S (Gr.sets cur (L.take j)) wq ∧ J (pre ++ [u]) wq ∧ n₀ ≤ wq.heap.size) (fun jv _ => L.length - (intOf jv).toNat)
            case atStart => exact ⟨0, rfl, Nat.zero_le _, HAW.out, HJW.out, hsz3⟩
            case round =>
              obtain ⟨j, rfl, hj, hA, hJj, hsz4⟩ := hrel
              clear HAW HJW hsz3
              have HA := Lib.hid hA
              have HJJ := Lib.hid hJj
              clear hA hJj
              by_cases hlt : j < L.length
              · have hltI : (j : Int) < (L.length : Int) := by omega
                obtain ⟨p, hp⟩ : ∃ p, L[j]? = some p := ⟨_, List.getElem?_eq_getElem hlt⟩
                have hpn := HLL.out.2 p (List.mem_of_getElem? hp)
                have hcl : (Gr.sets cur (L.take j)).length = ids.length := by rw [Gr.sets_length, HCC.out]
                have hgm := HG0.out.marks HA.out.gr HA.out.due (by rw [hcl, HBL.out])
                have hro' := (HG0.out.prow u L HNL.out)
                obtain ⟨A2, c2, hV2, hrow2⟩ := hgm.prow u L HNL.out
                rw [HVA.out] at hV2
                have e2 := Option.some.inj hV2
                injection e2 with e3 _ e4
                subst e3
                subst e4
                obtain ⟨ad, z, hA', -, hz, hcz⟩ := (Rd.of_own hrow2).spot hlt
                subst hA'
                have hz' := nv_at hp
                rw [hz] at hz'
                obtain rfl := Option.some.inj hz'
                have c1 : wr.cell? ⟨bg, 0, none⟩ = some (.pointer (some ⟨gb, 0, none⟩)) := HA.out.b1.cell 0
                have c3 : wr.cell? ⟨gb, 3, none⟩ = some (.slice (some ⟨db, 0, none⟩) ids.length ids.length) := by have h := hgm.cells.cell 3; rw [hcl] at h; exact h
                obtain ⟨v, hv⟩ : ∃ v, wr.cell? ⟨db, p, none⟩ = some v := ⟨_, (HA.out.due.cell p).trans (bl_at (by rw [hcl]; exact hpn))⟩
                have hf : wr.frozen? ⟨db, p, none⟩ = false := HA.out.due.frozen p
                have hpI : (p : Int) < (ids.length : Int) := by omega
                have HA3 := Lib.hid (HA.out.put p)
                have HJ3 := Lib.hid (HJ.out _ _ _ HJJ.out (grown_set wr db p (.bool true)))
                have HPP := Lib.hid hp
                clear hp hpn hcl hgm hro' hV2 hrow2 hz hz'
                gi_wp2
                go_roundw
                case rel =>
                  refine ⟨j + 1, by go_num, by omega, ?_, HJ3.out, by simpa [World.setCell] using hsz4⟩
                  rw [take_snoc HPP.out, Gr.sets_snoc]
                  exact HA3.out
                case measure => simp [intOf] <;> omega
              · obtain rfl : j = L.length := by omega
                have hltI : ¬ (L.length : Int) < (L.length : Int) := by omega
                rw [List.take_of_length_le (Nat.le_refl _)] at HA
                have hcl : (Gr.sets cur L).length = ids.length := by rw [Gr.sets_length, HCC.out]
                have HCL2 := Lib.hid hcl
                clear hcl
                gi_wp2
                go_roundw
                case rel => exact ⟨u, Gr.sets cur L, pre ++ [u], rfl, by omega, HCL2.out, HA.out, HJJ.out, hsz4, HVI2.out⟩
                case measure => simp [intOf] <;> omega
          · have hm' : cur.getD u false = false := by simpa using hm
            have hvs : Gr.vis ns (u + 1) cur = Gr.vis ns u cur := by rw [Gr.vis, if_neg hm, Gr.mkStep, if_neg hm]
            have HVI2 := Lib.hid (show pre ++ Gr.vis ns u cur = Gr.vis ns ids.length st by rw [← HVI.out, hvs])
            rw [hm'] at c5
            clear hm hm' hvs HVI
            gi_wp2
            go_roundw
            case rel => exact ⟨u, cur, pre, rfl, by omega, HCC.out, HA.out, HJP.out, hsz2, HVI2.out⟩
            case measure => simp [intOf] <;> omega
end Go.Proofs.Ytebfocfeehajjaa

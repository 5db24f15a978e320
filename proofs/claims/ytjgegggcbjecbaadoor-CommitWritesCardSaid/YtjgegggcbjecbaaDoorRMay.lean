/- The document's May. -/
import Derived.Test.YtjgegggcbjecbaaDoorRowA
import Derived.Test.YtjgegggcbjecbaaDoorRLess
namespace Go.Proofs.YtjgegggcbjecbaaDoor
open Go Go.RowKit

theorem rises_bad {less : List UInt8 → List UInt8 → Bool} : ∀ (L : List (List UInt8)) (i : Nat) (a b : List UInt8), L[i]? = some a → L[i + 1]? = some b → less a b = false → Cm.rises less L = false
  | [], i, a, b, h, _, _ => by cases h
  | [x], i, a, b, _, h, _ => by simp at h
  | x :: y :: L, 0, a, b, h1, h2, h => by
    obtain rfl : x = a := by simpa using h1
    obtain rfl : y = b := by simpa using h2
    unfold Cm.rises; rw [h]; rfl
  | x :: y :: L, i + 1, a, b, h1, h2, h => by
    have := rises_bad (y :: L) i a b (by simpa using h1) (by simpa using h2) h
    unfold Cm.rises; rw [this, Bool.and_false]
theorem rises_all {less : List UInt8 → List UInt8 → Bool} : ∀ (L : List (List UInt8)), (∀ i a b, L[i]? = some a → L[i + 1]? = some b → less a b = true) → Cm.rises less L = true
  | [], _ => rfl
  | [_], _ => rfl
  | x :: y :: L, h => by
    have h1 := h 0 x y rfl rfl
    have h2 := rises_all (y :: L) (fun i a b ha hb => h (i + 1) a b (by simpa using ha) (by simpa using hb))
    unfold Cm.rises; rw [h1, h2]; rfl

/-- What a commit's box holds. -/
structure BoxC (m : Cm.Cm) (A : Option Addr) (c : Nat) (B : Option Addr) (d : Nat) (g : Nat) (w : World) : Prop where
  blk : Blk w g 25 #[.slice A m.parents.length c, .string (sB m.author), .string (sB m.note), .slice B m.ops.length d]
theorem BoxC.later {m : Cm.Cm} {A B : Option Addr} {c d g : Nat} {w w' : World} (h : BoxC m A c B d g w) (hb : Below w.heap.size w w') : BoxC m A c B d g w' := ⟨h.blk.later hb⟩
theorem BoxC.cells {m : Cm.Cm} {A B : Option Addr} {c d g : Nat} {w : World} (h : BoxC m A c B d g w) : w.cell? ⟨g, 0, none⟩ = some (.slice A m.parents.length c) ∧ w.cell? ⟨g, 1, none⟩ = some (.string (sB m.author)) ∧ w.cell? ⟨g, 2, none⟩ = some (.string (sB m.note)) ∧ w.cell? ⟨g, 3, none⟩ = some (.slice B m.ops.length d) :=
  ⟨h.blk.cell 0, h.blk.cell 1, h.blk.cell 2, h.blk.cell 3⟩
theorem rightAll_next {l : List Cm.Op} {k i : Nat} : Cm.rightAll l (k + 1) i = if Cm.right l (i : Int) ≠ 0 then Cm.right l (i : Int) else Cm.rightAll l k (i + 1) := by rw [Cm.rightAll]

set_option maxRecDepth 100000 in
set_option maxHeartbeats 8000000 in
theorem rmay_any (m : Cm.Cm) (v : Value) (A B : Option Addr) (c d : Nat) (w : World) (hI : InCm w v A c B d m) (ha : m.author.length ≤ 4611686018427387904) (hn : m.note.length ≤ 4611686018427387904) (hpl : m.parents.length ≤ 4611686018427387904) (hol : m.ops.length ≤ 4611686018427387904) :
    Calls Tryd.prog 17 #[v] w (Ret (.int .i64 (Cm.may Tx.less m : Int)) w) := by
  obtain ⟨rfl, hcc, hcd, hRp, hRo, hDp, hDo⟩ := hI
  have HRp := Lib.hid hRp
  have HRo := Lib.hid hRo
  have HDp := Lib.hid hDp
  have HDo := Lib.hid hDo
  have HCD := Lib.hid hcd
  obtain ⟨wa, hwa⟩ : ∃ y, y = w.alloc (.cells #[.slice A m.parents.length c, .string (sB m.author), .string (sB m.note), .slice B m.ops.length d] 25) := ⟨_, rfl⟩
  have HX := Lib.hid (show BoxC m A c B d w.heap.size wa from ⟨by rw [hwa]; exact Blk.new w _ _⟩)
  have HBW := Lib.hid (show Below w.heap.size w wa by rw [hwa]; exact below_alloc w _)
  obtain ⟨x0, x1, x2, x3⟩ := HX.out.cells
  replace hwa := hwa.symm
  have HM := Lib.hid (show Cm.may Tx.less m = if 8 < m.parents.length then 4 else if Cm.rises Tx.less m.parents = false then 7 else if Cm.nameB m.author = false then 11 else if 200 < m.note.length then 3 else if 2000 < m.ops.length then 4 else Cm.rightAll m.ops m.ops.length 1 from rfl)
  have hsn := sB_size m.note
  clear hcc hcd hRp hRo hDp hDo
  by_cases h8 : 8 < m.parents.length
  · have d8 : decide ((8 : Int) < (m.parents.length : Int)) = true := decide_eq_true (by omega)
    rw [if_pos h8] at HM
    clear h8
    go_enter Tryd.func17, Tryd.ntmps17
    go_wp2_with fail
    go_ret
    exact ⟨by rw [HM.out]; rfl, HBW.out⟩
  have d8 : decide ((8 : Int) < (m.parents.length : Int)) = false := decide_eq_false (by omega)
  rw [if_neg h8] at HM
  go_enter Tryd.func17, Tryd.ntmps17
  go_wp2_with fail
  clear hwa d8 x0 x1 x2 x3
  go_loopw [3] (fun iv wr => ∃ i : Nat, iv = .int .i64 ((i : Int) + 1) ∧ (i = 0 ∨ i + 1 ≤ m.parents.length) ∧ Hid (∀ j a b, j < i → m.parents[j]? = some a → m.parents[j + 1]? = some b → Tx.less a b = true) ∧ BoxC m A c B d w.heap.size wr ∧ Below w.heap.size w wr) (fun iv _ => m.parents.length + 1 - (intOf iv).toNat)
  case atStart => exact ⟨0, rfl, .inl rfl, (fun j a b h => absurd h (Nat.not_lt_zero _)), HX.out, HBW.out⟩
  clear HX HBW
  case round =>
    obtain ⟨i, rfl, hi, HUP, hX, hB⟩ := hrel
    have HX := Lib.hid hX
    have HB := Lib.hid hB
    obtain ⟨x0, x1, x2, x3⟩ := hX.cells
    clear hX hB
    by_cases hlt : i + 1 < m.parents.length
    · have hltI : (i : Int) + 1 < (m.parents.length : Int) := by omega
      have hiI : (i : Int) < (m.parents.length : Int) := by omega
      have hn1 : 0 ≤ (i : Int) + 1 := by omega
      have ht1 : ((i : Int) + 1).toNat = i + 1 := by omega
      have hw1 : IntKind.i64.wrap ((i : Int) + 1 - 1) = (i : Int) := by rw [IntWalk.i64_in _ (by omega)]; omega
      have hw2 : IntKind.i64.wrap ((i : Int) + 1 + 1) = ((i + 1 : Nat) : Int) + 1 := by rw [IntWalk.i64_in _ (by omega)]; omega
      obtain ⟨pa, hpa⟩ : ∃ a, m.parents[i]? = some a := ⟨_, List.getElem?_eq_getElem (by omega)⟩
      obtain ⟨pb, hpb⟩ : ∃ a, m.parents[i + 1]? = some a := ⟨_, List.getElem?_eq_getElem hlt⟩
      have hla := HDp.out pa (List.mem_of_getElem? hpa)
      have hlb := HDp.out pb (List.mem_of_getElem? hpb)
      obtain ⟨ad, hA, hbl, hca⟩ := (HRp.out.later HB.out).elem (by decide) (fun s hs => by rw [bv_length]; exact HDp.out s hs) hpa
      obtain ⟨ad', hA', -, hcb⟩ := (HRp.out.later HB.out).elem (by decide) (fun s hs => by rw [bv_length]; exact HDp.out s hs) hpb
      have hAe : ad = ad' := by rw [hA] at hA'; exact Option.some.inj hA'
      subst hAe
      subst hA
      have HCA := Lib.hid (fun u : Grw wr => grw_cells u.prop (ad := ad.add (i * 32)) (by rw [block_add]; exact hbl) hca)
      have HCB := Lib.hid (fun u : Grw wr => grw_cells u.prop (ad := ad.add ((i + 1) * 32)) (by rw [block_add]; exact hbl) hcb)
      have HLA := Lib.hid (show (Tryd.prog.info? 34).map (·.size) = some (bv pa).length by rw [bv_length, hla]; exact infoD32)
      have HLB := Lib.hid (show (Tryd.prog.info? 34).map (·.size) = some (bv pb).length by rw [bv_length, hlb]; exact infoD32)
      have HLS := Lib.hid (fun w => rless_any pa pb w hla hlb)
      have hg0 := fun u : Grw wr => (u.prop.cell (p := ⟨w.heap.size, 0, none⟩) HX.out.blk.lt).trans x0
      have HPA := Lib.hid hpa
      have HPB := Lib.hid hpb
      clear hca hcb hla hlb hpa hpb hA' hi
      go_wp2_with fail
      refine wp_region_grow (by kernel_rfl) (by kernel_rfl) ?_
      go_big_quiet_step (fail)
      go_big_quiet_step (fail)
      go_big_quiet_step (fail)
      go_big_quiet_step (fail)
      go_big_quiet_step (fail)
      refine quiet_load_any (by rfl) 34 (.tmp 21) rfl (ad.add (i * 32)) rfl (bv pa) HCA.out _ Tryd.underlying34 rfl HLA.out ?_; go_simp
      go_big_quiet_step (fail)
      go_big_quiet_step (fail)
      go_big_quiet_step (fail)
      go_big_quiet_step (fail)
      refine quiet_load_any (by rfl) 34 (.tmp 26) rfl (ad.add ((i + 1) * 32)) rfl (bv pb) HCB.out _ Tryd.underlying34 rfl HLB.out ?_; go_simp
      go_big_quiet_step ((go_at_call 40; exact grow_call (HLS.out _)))
      go_big_quiet_step (fail)
      refine wpQuiet_nil ?_
      first | (intro _ hw'; obtain ⟨u, hw''⟩ := hw'; subst hw'') | intro u
      have HXu := Lib.hid (HX.out.later u.prop)
      have HBu := Lib.hid (HB.out.trans (u.prop.mono HB.out.size))
      clear hg0 x0 x1 x2 x3
      by_cases hls : Tx.less pa pb = true
      · rw [hls]
        go_wp2_with fail
        go_roundw
        case rel =>
          refine ⟨i + 1, by go_num, .inr (by omega), Lib.hid (fun j a b hj h1 h2 => ?_), HXu.out, HBu.out⟩
          rcases Nat.lt_or_ge j i with h | h
          · exact HUP.out j a b h h1 h2
          · obtain rfl : j = i := by omega
            rw [HPA.out] at h1
            rw [HPB.out] at h2
            obtain rfl := Option.some.inj h1
            obtain rfl := Option.some.inj h2
            exact hls
        case measure => simp [intOf] <;> omega
      · have hlf : Tx.less pa pb = false := by simpa using hls
        have HRB := Lib.hid (rises_bad m.parents i pa pb HPA.out HPB.out hlf)
        rw [hlf]
        go_wp2_with fail
        go_ret
        exact ⟨by rw [HM.out, if_pos HRB.out]; rfl, HBu.out⟩
    · have hltI : ¬ (i : Int) + 1 < (m.parents.length : Int) := by omega
      have HRA := Lib.hid (rises_all (less := Tx.less) m.parents (fun j a b h1 h2 => HUP.out j a b (by have := (List.getElem?_eq_some_iff.1 h2).1; omega) h1 h2))
      rw [if_neg (by rw [HRA.out]; decide)] at HM
      have HNM := Lib.hid (rname_any m.author wr ha)
      clear HUP HRA
      go_wp2_with fail
      refine HNM.out.mono ?_; rintro e w1 ⟨rfl, rfl⟩
      by_cases hnm : Cm.nameB m.author = true
      · rw [if_neg (by rw [hnm]; decide)] at HM
        rw [hnm]
        by_cases h2 : 200 < m.note.length
        · have d2 : decide ((200 : Int) < (m.note.length : Int)) = true := decide_eq_true (by omega)
          have d2' : decide (200 < m.note.length) = true := decide_eq_true h2
          rw [if_pos h2] at HM
          clear h2 hnm HNM
          go_wp2_with fail
          go_ret
          exact ⟨by rw [HM.out]; rfl, HB.out⟩
        have d2 : decide ((200 : Int) < (m.note.length : Int)) = false := decide_eq_false (by omega)
        have d2' : decide (200 < m.note.length) = false := decide_eq_false h2
        rw [if_neg h2] at HM
        by_cases h3 : 2000 < m.ops.length
        · have d3 : decide ((2000 : Int) < (m.ops.length : Int)) = true := decide_eq_true (by omega)
          have d3' : decide (2000 < m.ops.length) = true := decide_eq_true h3
          rw [if_pos h3] at HM
          clear h2 h3 hnm HNM
          go_wp2_with fail
          go_ret
          exact ⟨by rw [HM.out]; rfl, HB.out⟩
        have d3 : decide ((2000 : Int) < (m.ops.length : Int)) = false := decide_eq_false (by omega)
        have d3' : decide (2000 < m.ops.length) = false := decide_eq_false h3
        rw [if_neg h3] at HM
        clear h2 hnm HNM
        go_wp2_with fail
        clear d2 d2' d3 d3' x0 x1 x2 x3
        go_loopw [4] (fun iv wr => ∃ i : Nat, iv = .int .i64 ((i : Int) + 1) ∧ i ≤ m.ops.length ∧ Hid (Cm.rightAll m.ops m.ops.length 1 = Cm.rightAll m.ops (m.ops.length - i) (i + 1)) ∧ BoxC m A c B d w.heap.size wr ∧ Below w.heap.size w wr) (fun iv _ => m.ops.length + 1 - (intOf iv).toNat)
        case atStart => exact ⟨0, rfl, Nat.zero_le _, rfl, HX.out, HB.out⟩
        clear HX HB
        case round =>
          obtain ⟨k, rfl, hk, HRI, hX, hB⟩ := hrel
          have HX := Lib.hid hX
          have HB := Lib.hid hB
          obtain ⟨x0, x1, x2, x3⟩ := hX.cells
          clear hX hB
          by_cases hlt : k < m.ops.length
          · have hltI : (k : Int) + 1 ≤ (m.ops.length : Int) := by omega
            have hw2 : IntKind.i64.wrap ((k : Int) + 1 + 1) = ((k + 1 : Nat) : Int) + 1 := by rw [IntWalk.i64_in _ (by omega)]; omega
            have HRR := Lib.hid (rright_any m.ops B d ((k : Int) + 1) _ (HRo.out.later HB.out) HDo.out HCD.out (by omega))
            have HRN := Lib.hid HRI.out
            rw [show m.ops.length - k = (m.ops.length - (k + 1)) + 1 by omega, rightAll_next, Int.natCast_add, show ((1 : Nat) : Int) = 1 from rfl] at HRN
            go_wp2_with fail
            refine HRR.out.mono ?_; rintro e w2 ⟨rfl, hb2⟩
            have HX2 := Lib.hid (HX.out.later hb2)
            have HB2 := Lib.hid (HB.out.trans (hb2.mono HB.out.size))
            clear hb2 HRR x0 x1 x2 x3
            by_cases hz : Cm.right m.ops ((k : Int) + 1) = 0
            · rw [if_neg (by rw [hz]; decide)] at HRN
              rw [hz]
              go_wp2_with fail
              go_roundw
              case rel => exact ⟨k + 1, by go_num, by omega, HRN, HX2.out, HB2.out⟩
              case measure => simp [intOf] <;> omega
            · rw [if_pos hz] at HRN
              obtain ⟨e, he⟩ : ∃ e, e = Cm.right m.ops ((k : Int) + 1) := ⟨_, rfl⟩
              rw [← he] at HRN hz ⊢
              have hne : ((e : Int) != 0) = true := by rw [bne_iff_ne]; omega
              clear he
              go_wp2_with fail
              go_ret
              exact ⟨by rw [HM.out, HRN.out]; rfl, HB2.out⟩
          · have hltI : ¬ (k : Int) + 1 ≤ (m.ops.length : Int) := by omega
            have HRN := Lib.hid HRI.out
            rw [show m.ops.length - k = 0 by omega, Cm.rightAll] at HRN
            go_wp2_with fail
            go_ret
            exact ⟨by rw [HM.out, HRN.out]; rfl, HB.out⟩
      · have hnf : Cm.nameB m.author = false := by simpa using hnm
        rw [if_pos hnf] at HM
        rw [hnf]
        clear HNM
        go_wp2_with fail
        go_ret
        exact ⟨by rw [HM.out]; rfl, HB.out⟩
end Go.Proofs.YtjgegggcbjecbaaDoor

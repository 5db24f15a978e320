/- The program's rise and May. -/
import Derived.Test.YtjgegggcbjecbaaDoorPRight
import Derived.Test.YtjgegggcbjecbaaDoorPName
import Derived.Test.YtjgegggcbjecbaaDoorPLess
import Derived.Test.YtjgegggcbjecbaaDoorRMay
namespace Go.Proofs.YtjgegggcbjecbaaDoor
open Go Go.RowKit

set_option maxRecDepth 100000 in
set_option maxHeartbeats 4000000 in
theorem rise_any (L : List (List UInt8)) (A : Option Addr) (c : Nat) (w : World) (hR : Rd w w.heap.size A (L.length * 32) (rows bv L)) (hD : ∀ s ∈ L, s.length = 32) (hl : L.length ≤ 4611686018427387904) :
    Calls Tryd.prog 26 #[.slice A L.length c] w (Ret (.bool (Cm.rises Tx.less L)) w) := by
  have HR := Lib.hid hR
  have HD := Lib.hid hD
  clear hR hD
  go_enter Tryd.func26, Tryd.ntmps26
  go_wp2_with fail
  go_loopw [3] (fun iv wr => ∃ i : Nat, iv = .int .i64 ((i : Int) + 1) ∧ (i = 0 ∨ i + 1 ≤ L.length) ∧ Hid (∀ j a b, j < i → L[j]? = some a → L[j + 1]? = some b → Tx.less a b = true) ∧ Below w.heap.size w wr) (fun iv _ => L.length + 1 - (intOf iv).toNat)
  case atStart => exact ⟨0, rfl, .inl rfl, (fun j a b h => absurd h (Nat.not_lt_zero _)), Below.refl _ _⟩
  case round =>
    obtain ⟨i, rfl, hi, HUP, hB⟩ := hrel
    have HB := Lib.hid hB
    clear hB
    by_cases hlt : i + 1 < L.length
    · have hltI : (i : Int) + 1 < (L.length : Int) := by omega
      have hiI : (i : Int) < (L.length : Int) := by omega
      have hn1 : 0 ≤ (i : Int) + 1 := by omega
      have ht1 : ((i : Int) + 1).toNat = i + 1 := by omega
      have hw1 : IntKind.i64.wrap ((i : Int) + 1 - 1) = (i : Int) := by rw [IntWalk.i64_in _ (by omega)]; omega
      have hw2 : IntKind.i64.wrap ((i : Int) + 1 + 1) = ((i + 1 : Nat) : Int) + 1 := by rw [IntWalk.i64_in _ (by omega)]; omega
      obtain ⟨pa, hpa⟩ : ∃ a, L[i]? = some a := ⟨_, List.getElem?_eq_getElem (by omega)⟩
      obtain ⟨pb, hpb⟩ : ∃ a, L[i + 1]? = some a := ⟨_, List.getElem?_eq_getElem hlt⟩
      have hla := HD.out pa (List.mem_of_getElem? hpa)
      have hlb := HD.out pb (List.mem_of_getElem? hpb)
      obtain ⟨ad, hA, hbl, hca⟩ := (HR.out.later HB.out).elem (by decide) (fun s hs => by rw [bv_length]; exact HD.out s hs) hpa
      obtain ⟨ad', hA', -, hcb⟩ := (HR.out.later HB.out).elem (by decide) (fun s hs => by rw [bv_length]; exact HD.out s hs) hpb
      have hAe : ad = ad' := by rw [hA] at hA'; exact Option.some.inj hA'
      subst hAe
      subst hA
      have HCA := Lib.hid (fun u : Grw wr => grw_cells u.prop (ad := ad.add (i * 32)) (by rw [block_add]; exact hbl) hca)
      have HCB := Lib.hid (fun u : Grw wr => grw_cells u.prop (ad := ad.add ((i + 1) * 32)) (by rw [block_add]; exact hbl) hcb)
      have HLA := Lib.hid (show (Tryd.prog.info? 34).map (·.size) = some (bv pa).length by rw [bv_length, hla]; exact infoD32)
      have HLB := Lib.hid (show (Tryd.prog.info? 34).map (·.size) = some (bv pb).length by rw [bv_length, hlb]; exact infoD32)
      have HLS := Lib.hid (fun w => pless_any pa pb w hla hlb)
      have HPA := Lib.hid hpa
      have HPB := Lib.hid hpb
      clear hca hcb hla hlb hpa hpb hA' hi
      go_wp2_with fail
      refine wp_region_grow (by kernel_rfl) (by kernel_rfl) ?_
      go_big_quiet_step (fail)
      go_big_quiet_step (fail)
      go_big_quiet_step (fail)
      go_big_quiet_step (fail)
      refine quiet_load_any (by rfl) 34 (.tmp 13) rfl (ad.add (i * 32)) rfl (bv pa) HCA.out _ Tryd.underlying34 rfl HLA.out ?_; go_simp
      go_big_quiet_step (fail)
      go_big_quiet_step (fail)
      go_big_quiet_step (fail)
      refine quiet_load_any (by rfl) 34 (.tmp 17) rfl (ad.add ((i + 1) * 32)) rfl (bv pb) HCB.out _ Tryd.underlying34 rfl HLB.out ?_; go_simp
      go_big_quiet_step ((go_at_call 48; exact grow_call (HLS.out _)))
      go_big_quiet_step (fail)
      refine wpQuiet_nil ?_
      first | (intro _ hw'; obtain ⟨u, hw''⟩ := hw'; subst hw'') | intro u
      have HBu := Lib.hid (HB.out.trans (u.prop.mono HB.out.size))
      by_cases hls : Tx.less pa pb = true
      · rw [hls]
        go_wp2_with fail
        go_roundw
        case rel =>
          refine ⟨i + 1, by go_num, .inr (by omega), Lib.hid (fun j a b hj h1 h2 => ?_), HBu.out⟩
          rcases Nat.lt_or_ge j i with h | h
          · exact HUP.out j a b h h1 h2
          · obtain rfl : j = i := by omega
            rw [HPA.out] at h1
            rw [HPB.out] at h2
            obtain rfl := Option.some.inj h1
            obtain rfl := Option.some.inj h2
            exact hls
        case measure => simp [intOf] <;> omega
      · have hlf : Tx.less pa pb = false := by simpa using hls
        have HRB := Lib.hid (rises_bad L i pa pb HPA.out HPB.out hlf)
        rw [hlf]
        go_wp2_with fail
        go_ret
        exact ⟨by rw [HRB.out]; rfl, HBu.out⟩
    · have hltI : ¬ (i : Int) + 1 < (L.length : Int) := by omega
      have HRA := Lib.hid (rises_all (less := Tx.less) L (fun j a b h1 h2 => HUP.out j a b (by have := (List.getElem?_eq_some_iff.1 h2).1; omega) h1 h2))
      clear HUP
      go_wp2_with fail
      go_ret
      exact ⟨by rw [HRA.out]; rfl, HB.out⟩

set_option maxRecDepth 100000 in
set_option maxHeartbeats 8000000 in
theorem pmay_any (m : Cm.Cm) (v : Value) (A B : Option Addr) (c d : Nat) (w : World) (hI : InCm w v A c B d m) (ha : m.author.length ≤ 4611686018427387904) (hn : m.note.length ≤ 4611686018427387904) (hpl : m.parents.length ≤ 4611686018427387904) (hol : m.ops.length ≤ 4611686018427387904) :
    Calls Tryd.prog 12 #[v] w (Ret (.int .i64 (Cm.may Tx.less m : Int)) w) := by
  obtain ⟨rfl, hcc, hcd, hRp, hRo, hDp, hDo⟩ := hI
  have HRp := Lib.hid hRp
  have HRo := Lib.hid hRo
  have HDp := Lib.hid hDp
  have HDo := Lib.hid hDo
  have HCD := Lib.hid hcd
  obtain ⟨wa, hwa⟩ : ∃ y, y = w.alloc (.cells #[.slice A m.parents.length c, .string (sB m.author), .string (sB m.note), .slice B m.ops.length d] 25) := ⟨_, rfl⟩
  have HX := Lib.hid (show BoxC m A c B d w.heap.size wa from ⟨by rw [hwa]; exact Blk.new w _ _⟩)
  have HBW := Lib.hid (show Below w.heap.size w wa by rw [hwa]; exact below_alloc w _)
  obtain ⟨x0, x1, x2, x3⟩ := HX.out.cells
  replace hwa := hwa.symm
  have HM := Lib.hid (show Cm.may Tx.less m = if 8 < m.parents.length then 4 else if Cm.rises Tx.less m.parents = false then 7 else if Cm.nameB m.author = false then 11 else if 200 < m.note.length then 3 else if 2000 < m.ops.length then 4 else Cm.rightAll m.ops m.ops.length 1 from rfl)
  have hsn := sB_size m.note
  clear hcc hcd hRp hRo hDp hDo
  by_cases h8 : 8 < m.parents.length
  · have d8 : decide ((8 : Int) < (m.parents.length : Int)) = true := decide_eq_true (by omega)
    have d8' : decide (8 < m.parents.length) = true := decide_eq_true h8
    rw [if_pos h8] at HM
    clear h8
    go_enter Tryd.func12, Tryd.ntmps12
    go_wp2_with fail
    go_ret
    exact ⟨by rw [HM.out]; rfl, HBW.out⟩
  have d8 : decide ((8 : Int) < (m.parents.length : Int)) = false := decide_eq_false (by omega)
  have d8' : decide (8 < m.parents.length) = false := decide_eq_false h8
  rw [if_neg h8] at HM
  have HRS := Lib.hid (rise_any m.parents A c wa (HRp.out.later HBW.out) HDp.out hpl)
  go_enter Tryd.func12, Tryd.ntmps12
  go_wp2_with fail
  refine HRS.out.mono ?_; rintro e w1 ⟨rfl, hb1⟩
  have HX1 := Lib.hid (HX.out.later hb1)
  have HB1 := Lib.hid (HBW.out.trans (hb1.mono HBW.out.size))
  clear hwa d8 d8' h8 x0 x1 x2 x3 hb1 HX HBW HRS
  obtain ⟨x0, x1, x2, x3⟩ := HX1.out.cells
  by_cases hrs : Cm.rises Tx.less m.parents = false
  · rw [if_pos hrs] at HM
    rw [hrs]
    clear hrs
    go_wp2_with fail
    go_ret
    exact ⟨by rw [HM.out]; rfl, HB1.out⟩
  have hrt : Cm.rises Tx.less m.parents = true := by simpa using hrs
  rw [if_neg hrs] at HM
  rw [hrt]
  have HNM := Lib.hid (pname_any m.author w1 ha)
  clear hrs hrt
  go_wp2_with fail
  refine HNM.out.mono ?_; rintro e w9 ⟨rfl, rfl⟩
  by_cases hnm : Cm.nameB m.author = true
  · rw [if_neg (by rw [hnm]; decide)] at HM
    rw [hnm]
    by_cases h2 : 200 < m.note.length
    · have d2 : decide ((200 : Int) < (m.note.length : Int)) = true := decide_eq_true (by omega)
      have d2' : decide (200 < m.note.length) = true := decide_eq_true h2
      rw [if_pos h2] at HM
      clear h2 hnm HNM
      go_wp2_with fail
      go_ret
      exact ⟨by rw [HM.out]; rfl, HB1.out⟩
    have d2 : decide ((200 : Int) < (m.note.length : Int)) = false := decide_eq_false (by omega)
    have d2' : decide (200 < m.note.length) = false := decide_eq_false h2
    rw [if_neg h2] at HM
    by_cases h3 : 2000 < m.ops.length
    · have d3 : decide ((2000 : Int) < (m.ops.length : Int)) = true := decide_eq_true (by omega)
      have d3' : decide (2000 < m.ops.length) = true := decide_eq_true h3
      rw [if_pos h3] at HM
      clear h2 h3 hnm HNM
      go_wp2_with fail
      go_ret
      exact ⟨by rw [HM.out]; rfl, HB1.out⟩
    have d3 : decide ((2000 : Int) < (m.ops.length : Int)) = false := decide_eq_false (by omega)
    have d3' : decide (2000 < m.ops.length) = false := decide_eq_false h3
    rw [if_neg h3] at HM
    clear h2 hnm HNM
    go_wp2_with fail
    clear d2 d2' d3 d3' x0 x1 x2 x3
    go_loopw [3, 4, 33] (fun _ _ iv wr => ∃ i : Nat, iv = .int .i64 (i : Int) ∧ i ≤ m.ops.length ∧ Hid (Cm.rightAll m.ops m.ops.length 1 = Cm.rightAll m.ops (m.ops.length - i) (i + 1)) ∧ BoxC m A c B d w.heap.size wr ∧ Below w.heap.size w wr) (fun _ _ iv _ => m.ops.length - (intOf iv).toNat)
    case atStart => exact ⟨0, rfl, Nat.zero_le _, rfl, HX1.out, HB1.out⟩
    clear HX1 HB1
    case round =>
      obtain ⟨k, rfl, hk, HRI, hX, hB⟩ := hrel
      have HX := Lib.hid hX
      have HB := Lib.hid hB
      obtain ⟨x0, x1, x2, x3⟩ := hX.cells
      clear hX hB
      by_cases hlt : k < m.ops.length
      · have hltI : (k : Int) < (m.ops.length : Int) := by omega
        have hw2 : IntKind.i64.wrap ((k : Int) + 1) = (k : Int) + 1 := IntWalk.i64_in _ (by omega)
        have HRR := Lib.hid (pright_any m.ops B d ((k : Int) + 1) _ (HRo.out.later HB.out) HDo.out (by have := HCD.out; omega) (by omega))
        have HRN := Lib.hid HRI.out
        rw [show m.ops.length - k = (m.ops.length - (k + 1)) + 1 by omega, rightAll_next, Int.natCast_add, show ((1 : Nat) : Int) = 1 from rfl] at HRN
        go_wp2_with fail
        refine HRR.out.mono ?_; rintro e w2 ⟨rfl, hb2⟩
        have HX2 := Lib.hid (HX.out.later hb2)
        have HB2 := Lib.hid (HB.out.trans (hb2.mono HB.out.size))
        clear hb2 HRR x0 x1 x2 x3
        by_cases hz : Cm.right m.ops ((k : Int) + 1) = 0
        · rw [if_neg (by rw [hz]; decide)] at HRN
          rw [hz]
          go_wp2_with fail
          go_roundw
          case rel => exact ⟨k + 1, by go_num, by omega, HRN, HX2.out, HB2.out⟩
          case measure => simp [intOf] <;> omega
        · rw [if_pos hz] at HRN
          obtain ⟨e, he⟩ : ∃ e, e = Cm.right m.ops ((k : Int) + 1) := ⟨_, rfl⟩
          rw [← he] at HRN hz ⊢
          have hne : ((e : Int) != 0) = true := by rw [bne_iff_ne]; omega
          have hne2 : ¬ e = 0 := hz
          clear he
          go_wp2_with fail
          go_ret
          exact ⟨by rw [HM.out, HRN.out]; rfl, HB2.out⟩
      · have hltI : ¬ (k : Int) < (m.ops.length : Int) := by omega
        have HRN := Lib.hid HRI.out
        rw [show m.ops.length - k = 0 by omega, Cm.rightAll] at HRN
        go_wp2_with fail
        go_ret
        exact ⟨by rw [HM.out, HRN.out]; rfl, HB.out⟩
  · have hnf : Cm.nameB m.author = false := by simpa using hnm
    rw [if_pos hnf] at HM
    rw [hnf]
    clear hnm hnf HNM
    go_wp2_with fail
    go_ret
    exact ⟨by rw [HM.out]; rfl, HB1.out⟩
end Go.Proofs.YtjgegggcbjecbaaDoor

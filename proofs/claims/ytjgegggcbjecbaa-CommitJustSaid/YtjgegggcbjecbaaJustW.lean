/- CommitJust: what is read as a commit are just that commit's bytes. No conditions but the row's own. -/
import Derived.Test.YtjgegggcbjecbaaReadsW
namespace Go.Proofs.Ytjgegggcbjecbaa
open Go Go.RowKit

/-- A load of a block's cells, where it is wanted (it may be guarded). -/
theorem wpList_load_boxed {P : Program} {ops : Array Oper} {rest : List Oper} {op : Oper} {a : Act} {w : World} {Q : Exit → Act → World → Prop} (hw : Region.wanted op (yielded ops a.tmps) = true) (ty : TypeId) (x : Operand) (ho : op.op = .load ty x)
    (g : Nat) (hx : a.eval x = .pointer (some ⟨g, 0, none⟩)) (X : Array Value) {t : TypeId} (hB : Blk w g t X) (d : TypeDesc) (hu : P.underlying ty = some d) (hd : d.isRow = true) (hi : (P.info? ty).map (·.size) = some X.size)
    (h : wpList P ops Q rest (a.put op.dst (.agg X)) w) : wpList P ops Q (op :: rest) a w := by
  obtain ⟨L⟩ := X
  exact wpList_load_any hw ty x ho ⟨g, 0, none⟩ hx L d (blk_cells hB) hu hd hi h
theorem textP_nz : NZ Pa.textP := by
  intro b p h
  unfold Pa.textP at h
  split at h
  · rename_i hh; exact hh (Except.error.inj h)
  · cases h
theorem listP_nz {α : Type} {P : Pa.Rdr α} (hP : NZ P) : ∀ k, NZ (Pa.listP P k)
  | 0 => by intro b p h; simp only [Pa.listP] at h; cases h
  | k + 1 => by
    intro b p h
    cases h1 : P b p with
    | error e => rw [Pa.list_err h1] at h; rw [Except.error.inj h] at h1; exact hP b p h1
    | ok x =>
      obtain ⟨x, q⟩ := x
      cases h2 : Pa.listP P k b q with
      | error e => rw [Pa.list_err2 h1 h2] at h; rw [Except.error.inj h] at h2; exact listP_nz hP k b q h2
      | ok y => obtain ⟨y, r⟩ := y; rw [Pa.list_ok h1 h2] at h; cases h
theorem cmP_nz : NZ Cm.cmP :=
  bind_nz (numP_nz (by decide)) fun n => bind_nz (listP_nz (digP_nz 32) n) fun _ => bind_nz textP_nz fun _ => bind_nz textP_nz fun _ => bind_nz (numP_nz (by decide)) fun m => listP_nz (fun _ _ h => opP_nz h rfl) m
theorem decC_nz {may : Cm.Cm → Nat} {b : List UInt8} {e : Nat} (h : Cm.decC may b = .error e) : e ≠ 0 := by
  unfold Cm.decC at h
  cases hr : Cm.readC b with
  | error e1 =>
    rw [hr] at h
    have he := Except.error.inj h
    unfold Cm.readC at hr
    split at hr
    · have := Except.error.inj hr; omega
    · cases hc : Cm.cmP b 0 with
      | error e2 =>
        rw [hc] at hr
        have := Except.error.inj hr
        intro h0
        exact cmP_nz b 0 (by rw [hc, this, he, h0])
      | ok x =>
        rw [hc] at hr
        dsimp only at hr
        split at hr
        · cases hr
        · have := Except.error.inj hr; omega
  | ok c =>
    rw [hr] at h
    dsimp only at h
    split at h
    · cases h
    · rename_i hh
      intro h0
      have := Except.error.inj h
      omega

set_option maxRecDepth 100000 in
set_option maxHeartbeats 4000000 in
theorem commitJust_walk (A : Option Addr) (c : Nat) (l : List UInt8) (w : World) (hr : Rd w w.heap.size A l.length (bv l)) (hl : l.length ≤ c) (hc : c ≤ 140737488351232) :
    Calls Try.prog 9 #[.slice A l.length c] w (Ret (.bool true) w) := by
  have HR := Lib.hid hr
  have C1 := Lib.hid (pdecode_any A c l w hr hl (by omega))
  unfold DecO at C1
  clear hr
  cases hdec : Cm.decC (Cm.may Tx.less) l with
  | error er =>
    have hne := decC_nz hdec
    have hbe : ((er : Int) != 0) = true := by rw [bne_iff_ne]; omega
    rw [hdec] at C1
    simp only [okM, errM] at C1
    clear hdec
    go_enter Try.func9, Try.ntmps9
    go_wp2_with fail
    refine C1.out.mono ?_; rintro e w1 ⟨hb1, v1, hown, rfl⟩
    obtain ⟨X, hv1, hXS, hXA, hXI⟩ := hown.cells
    subst hv1
    have HXS := Lib.hid hXS
    have HXA := Lib.hid hXA
    have HXI := Lib.hid hXI
    obtain ⟨w2, hw2⟩ : ∃ y, y = w1.alloc (.cells X 31) := ⟨_, rfl⟩
    have hb2 : Below w1.heap.size w1 w2 := by rw [hw2]; exact below_alloc w1 _
    have HK2 := Lib.hid (show Blk w2 w1.heap.size 31 X by rw [hw2]; exact Blk.new w1 _ _)
    have HB2 := Lib.hid (hb1.trans (hb2.mono hb1.size))
    obtain ⟨A2, c2, B2, d2, hI2⟩ := (hown.later hb2).inCm
    have C2 := Lib.hid (psame_any cm0 cm0 (.agg X) (.agg #[Value.slice none 0 0, .string ⟨#[]⟩, .string ⟨#[]⟩, .slice none 0 0]) A2 B2 none none c2 d2 0 0 w2 hI2 (inCm_zero w2) (by decide) (by decide))
    rw [decide_eq_true rfl] at C2
    replace hw2 := hw2.symm
    clear hb1 hb2 hown hXS hXA hXI hI2 C1
    go_wp2_with (refine at_sto 31 (.tmp 3) (.tmp 10) rfl ?_; go_must (refine wpList_store_row rfl 31 (.tmp 3) (.tmp 10) rfl w1.heap.size X rfl rfl 31 _ (heap_alloc_new w1 _) HXI.out (by rw [HXS.out]; rfl) HXA.out ?_); rw [World.setRow_alloc_new, hw2]; go_wp2_with (refine at_lod 31 (.tmp 3) rfl ?_; go_must (refine wpList_load_row rfl 31 (.tmp 3) rfl w1.heap.size rfl _ X (0, 0) _ HK2.out Try.underlying31 rfl HXI.out ?_); go_wp2_with fail))
    refine C2.out.mono ?_; rintro e w3 ⟨rfl, hb3⟩
    have HB3 := Lib.hid (HB2.out.trans (hb3.mono HB2.out.size))
    clear hb3
    go_wp2_with fail
    refine (alive_any _).mono ?_; rintro e w4 ⟨rfl, hb4⟩
    go_wp2_with fail
    go_ret
    exact ⟨rfl, HB3.out.trans (hb4.mono HB3.out.size)⟩
  | ok m =>
    obtain ⟨hmay, henc⟩ := Cm.encode_decode hdec
    obtain ⟨q1, -, q3, q4, q5, -⟩ := Cm.may_ops hmay
    have q3' : m.author.length ≤ 24 := by
      unfold Cm.nameB at q3
      simp only [Bool.and_eq_true, decide_eq_true_eq] at q3
      exact q3.2
    have HE := Lib.hid (show encB m = l by unfold encB; rw [if_pos hmay, henc])
    rw [hdec] at C1
    simp only [okM, errM] at C1
    clear hdec henc q3
    go_enter Try.func9, Try.ntmps9
    go_wp2_with fail
    refine C1.out.mono ?_; rintro e w1 ⟨hb1, v1, hown, rfl⟩
    obtain ⟨X, hv1, hXS, hXA, hXI⟩ := hown.cells
    subst hv1
    have HXS := Lib.hid hXS
    have HXA := Lib.hid hXA
    have HXI := Lib.hid hXI
    obtain ⟨w2, hw2⟩ : ∃ y, y = w1.alloc (.cells X 31) := ⟨_, rfl⟩
    have hb2 : Below w1.heap.size w1 w2 := by rw [hw2]; exact below_alloc w1 _
    have HK2 := Lib.hid (show Blk w2 w1.heap.size 31 X by rw [hw2]; exact Blk.new w1 _ _)
    have HB2 := Lib.hid (hb1.trans (hb2.mono hb1.size))
    obtain ⟨A2, c2, B2, d2, hI2⟩ := (hown.later hb2).inCm
    have HI2 := Lib.hid hI2
    have C2 := Lib.hid (pencode_any m (.agg X) A2 B2 c2 d2 w2 hI2 (by omega) (by omega) (by omega) (by omega))
    unfold EncO at C2
    rw [HE.out, hmay] at C2
    have HMY := Lib.hid hmay
    replace hw2 := hw2.symm
    clear hb1 hb2 hown hXS hXA hXI hI2 C1 hmay
    go_wp2_with (refine at_sto 31 (.tmp 3) (.tmp 10) rfl ?_; go_must (refine wpList_store_row rfl 31 (.tmp 3) (.tmp 10) rfl w1.heap.size X rfl rfl 31 _ (heap_alloc_new w1 _) HXI.out (by rw [HXS.out]; rfl) HXA.out ?_); rw [World.setRow_alloc_new, hw2]; go_wp2_with (refine at_lod 31 (.tmp 3) rfl ?_; go_must (refine wpList_load_row rfl 31 (.tmp 3) rfl w1.heap.size rfl _ X (0, 0) _ HK2.out Try.underlying31 rfl HXI.out ?_); go_wp2_with fail))
    refine C2.out.mono ?_; rintro e w3 ⟨A3, c3, rfl, -, ho3, hb3⟩
    have HB3 := Lib.hid (HB2.out.trans (hb3.mono HB2.out.size))
    have hcv1 := conv_str w3 _ A3 l.length c3 l (Rd.of_own ho3)
    have hcv2 := conv_str w3 _ A l.length c l (HR.out.later HB3.out)
    have HK3 := Lib.hid (HK2.out.later hb3)
    have C3 := Lib.hid (pmay_any m (.agg X) A2 B2 c2 d2 w3 (HI2.out.later hb3) (by omega) (by omega) (by omega) (by omega))
    rw [HMY.out] at C3
    clear hb3 ho3 C2
    go_wp2_with (refine at_lod 31 (.tmp 3) rfl ?_; go_must (refine wpList_load_boxed (by rfl) 31 (.tmp 3) rfl w1.heap.size rfl X HK3.out _ Try.underlying31 rfl HXI.out ?_); go_wp2_with fail)
    refine C3.out.mono ?_; rintro e w4 ⟨rfl, hb4⟩
    have HB4 := Lib.hid (HB3.out.trans (hb4.mono HB3.out.size))
    clear hb4 hcv1 hcv2
    go_wp2_with fail
    refine (alive_any _).mono ?_; rintro e w5 ⟨rfl, hb5⟩
    go_wp2_with fail
    go_ret
    exact ⟨rfl, HB4.out.trans (hb5.mono HB4.out.size)⟩
end Go.Proofs.Ytjgegggcbjecbaa

/- CommitReads: any bytes are read as the commit that the document says, or refused as it says. No conditions but the row's own. -/
import Derived.Test.YtjgegggcbjecbaaSamesW
import Derived.Test.YtjgegggcbjecbaaRDec
import Derived.Test.YtjgegggcbjecbaaLents
namespace Go.Proofs.Ytjgegggcbjecbaa
open Go Go.RowKit

theorem conv_str (w : World) (B : Nat) (A : Option Addr) (n c : Nat) (l : List UInt8) (hr : Rd w B A n (bv l)) : (convert 35 9 (.slice A n c)).run Try.prog w = .ok (.string (sB l)) w :=
  hr.str (P := Try.prog) c Try.underlying35 Try.underlying5 Try.underlying9
theorem lent_rd {w : World} {B g : Nat} {l : List UInt8} (h : Rd w B (some ⟨g, 0, none⟩) (l.length + 2) (bv (l ++ [77, 78]))) : Rd w B (some ⟨g, 0, none⟩) l.length (bv l) := by
  have h1 := h.take (k := l.length) (by omega)
  rw [← bv_take, List.take_left] at h1
  exact h1
/-- The cells of a commit of the call's own. -/
theorem OwnCm.cells {B : Nat} {w : World} {v : Value} {m : Cm.Cm} (h : OwnCm B w v m) : ∃ (X : Array Value), v = .agg X ∧ X.size = 4 ∧ X.all (·.oneCell') = true ∧ (Try.prog.info? 31).map (·.size) = some X.size := by
  obtain ⟨A, A', c, c', rfl, -⟩ := h
  exact ⟨_, rfl, rfl, bx_all, bx_info⟩
theorem OwnCm.later {B : Nat} {w w' : World} {v : Value} {m : Cm.Cm} (h : OwnCm B w v m) (hb : Below w.heap.size w w') : OwnCm B w' v m := by
  obtain ⟨A, A', c, c', h0, h1, h2, h3, h4⟩ := h
  exact ⟨A, A', c, c', h0, own_below h1 hb, own_below h2 hb, h3, h4⟩
theorem OwnCm.gb {B g : Nat} {w w' : World} {v : Value} {m : Cm.Cm} (h : OwnCm B w v m) (hg : w.grownBy w' (some g)) (hB : g < B) : OwnCm B w' v m := by
  obtain ⟨A, A', c, c', h0, h1, h2, h3, h4⟩ := h
  exact ⟨A, A', c, c', h0, own_gb h1 hg hB, own_gb h2 hg hB, h3, h4⟩

theorem okM_small (l : List UInt8) : (okM (Cm.decC (Cm.may Tx.less) l)).parents.length ≤ 8 ∧ (okM (Cm.decC (Cm.may Tx.less) l)).ops.length ≤ 2000 := by
  cases h : Cm.decC (Cm.may Tx.less) l with
  | error e => exact ⟨Nat.zero_le _, Nat.zero_le _⟩
  | ok m =>
    have h1 := Cm.may_ops (Cm.encode_decode h).1
    exact ⟨h1.1, h1.2.2.2.2.1⟩
/-- What stands while bytes are overwritten, in their own memory. -/
structure OvW (B n : Nat) (v : Value) (w wr : World) : Prop where
  own : ∃ xs, wr.ownsRow B 5 1 v n xs ∧ ∀ u ∈ xs, ∃ x : Int, u = .int .u8 x ∧ 0 ≤ x ∧ x < 256
  grown : w.grownBy wr v.ownBlock
theorem bv_bytes8 (l : List UInt8) : ∀ u ∈ bv l, ∃ x : Int, u = .int .u8 x ∧ 0 ≤ x ∧ x < 256 := by
  intro u hu
  obtain ⟨c, -, rfl⟩ := List.mem_map.1 hu
  have := c.toNat_lt
  exact ⟨_, rfl, by omega, by omega⟩
theorem OvW.cell {B n g c k : Nat} {w wr : World} (h : OvW B n (.slice (some ⟨g, 0, none⟩) n c) w wr) (hk : k < n) : ∃ x : Int, wr.cell? ⟨g, k, none⟩ = some (.int .u8 x) ∧ wr.frozen? ⟨g, k, none⟩ = false ∧ 0 ≤ x ∧ x < 256 := by
  obtain ⟨⟨xs, h1, h2⟩, -⟩ := h
  have hl : xs.length = n := by rw [h1.1, Nat.mul_one]
  obtain ⟨x, hx, hx0, hx1⟩ := h2 xs[k] (List.getElem_mem (by omega))
  refine ⟨x, ?_, h1.frozenAt k, hx0, hx1⟩
  have := h1.cellAt k (by omega)
  rw [List.getElem?_eq_getElem (by omega), hx] at this
  exact this
theorem OvW.set {B n g c k : Nat} {w wr : World} (h : OvW B n (.slice (some ⟨g, 0, none⟩) n c) w wr) {x : Int} (hx : 0 ≤ x ∧ x < 256) : OvW B n (.slice (some ⟨g, 0, none⟩) n c) w (wr.setCell ⟨g, k, none⟩ (.int .u8 x)) := by
  obtain ⟨⟨xs, h1, h2⟩, hg⟩ := h
  have h3 := h1.stored k (.int .u8 x)
  refine ⟨⟨_, h3.1, fun u hu => ?_⟩, ⟨hg.os, hg.tape, hg.output, by have := hg.size; simp [World.setCell]; omega, fun j hj hne => (Below.heap_setCell wr ⟨g, k, none⟩ _ j (fun e => hne (by simp [e, Value.ownBlock]))).trans (hg.block j hj hne)⟩⟩
  rcases List.mem_or_eq_of_mem_set hu with h | h
  · exact h2 u h
  · exact ⟨x, h, hx.1, hx.2⟩

set_option maxRecDepth 100000 in
set_option maxHeartbeats 1000000 in
/-- Lent, and whose its bytes are. -/
theorem lent_own (A : Option Addr) (c : Nat) (l : List UInt8) (w : World) (hr : Rd w w.heap.size A l.length (bv l)) (h : l.length + 2 ≤ 140737488355328) :
    Calls Try.prog 19 #[.slice A l.length c] w fun e w' => ∃ g c, e = .returned (.slice (some ⟨g, 0, none⟩) l.length c) ∧ l.length + 2 ≤ c ∧ c ≤ 9223372036854775807 ∧ w'.ownsRow w.heap.size 5 1 (.slice (some ⟨g, 0, none⟩) (l.length + 2) c) (l.length + 2) (bv (l ++ [77, 78])) ∧ Below w.heap.size w w' := by
  obtain ⟨i0, hi, hz0, hz1, hz2⟩ := info_parts infoU8
  have HR := Lib.hid hr
  clear hr
  go_enter Try.func19, Try.ntmps19
  go_wp2_with (first
    | (at_builtin; (refine wp_app _ rfl (.tmp 3) (.tmp 4) 35 35 rfl w.heap.size 5 i0 _ 1 Try.underlying35 hi hz0 hz1 hz2 rfl (.slice (some ⟨w.heap.size, 0, none⟩) 0 0) 0 [] rfl (World.ownsRow_made w #[] 0 (Nat.le_refl _) (Nat.zero_le _) rfl) (.slice A l.length c) l.length (bv l) rfl ((HR.out.alloc (Nat.le_refl _) _).src Try.underlying35 c (bv_one l)) (by unfold maxLen; omega) (by omega) (by simp) ?_); intro v1 w1 ho1 hg1 hat1; rw [Nat.zero_add, List.nil_append] at ho1; have hs1 : w.heap.size + 1 ≤ w1.heap.size := (by have := hg1.size; simpa using this))
    | (at_builtin; go_must (refine wp_app _ rfl (.tmp 5) (.tmp 6) 35 35 rfl w.heap.size 5 i0 _ 1 Try.underlying35 hi hz0 hz1 hz2 rfl v1 l.length (bv l) rfl (ho1.alloc _) _ 2 [Value.int .u8 77, Value.int .u8 78] rfl (new_src Try.underlying35 w1 [Value.int .u8 77, Value.int .u8 78] 2 2 5 (0, 0) rfl (by intro u hu; simp at hu; rcases hu with rfl | rfl <;> rfl)) (by unfold maxLen; omega) (by omega) (by simp; omega) ?_); intro v2 w2 ho2 hg2 hat2; obtain ⟨g2, c2, hv2, hn2, hm2⟩ := own_form' ho2 (by omega); subst hv2))
  go_ret
  have hb1 : Below w.heap.size w w1 := ((Below.refl _ _).alloc (Nat.le_refl _) _).grown hg1 (by simp) (fun q hq => Nat.le_of_eq (Option.some.inj hq))
  have hb2 : Below w.heap.size w w2 := (hb1.alloc (by omega) _).grown hg2 (by simp; omega) (fun q hq => (ho1.lt q hq).1)
  rw [show bv l ++ [Value.int .u8 77, Value.int .u8 78] = bv (l ++ [77, 78]) by rw [bv_append]; rfl] at ho2
  exact ⟨g2, c2, rfl, hn2, hm2, ho2, hb2⟩

set_option maxRecDepth 100000 in
set_option maxHeartbeats 4000000 in
theorem commitReads_walk (A : Option Addr) (c : Nat) (l : List UInt8) (w : World) (hr : Rd w w.heap.size A l.length (bv l)) (hl : l.length ≤ c) (hc : c ≤ 140737488351232) :
    Calls Try.prog 6 #[.slice A l.length c] w (Ret (.bool true) w) := by
  have C1 := Lib.hid (lent_own A c l w hr (by omega))
  have HR := Lib.hid hr
  obtain ⟨M, hM⟩ : ∃ M, M = okM (Cm.decC (Cm.may Tx.less) l) := ⟨_, rfl⟩
  have hlp : M.parents.length ≤ 8 := by rw [hM]; exact (okM_small l).1
  have hlo : M.ops.length ≤ 2000 := by rw [hM]; exact (okM_small l).2
  obtain ⟨E, hE⟩ : ∃ E, E = errM (Cm.decC (Cm.may Tx.less) l) := ⟨_, rfl⟩
  have HD1 := Lib.hid (fun (A : Option Addr) (c : Nat) (w : World) hr hc hm => pdecode_any A c l w hr hc hm)
  have HD2 := Lib.hid (fun (w : World) => rdec_any l w (by omega))
  unfold DecO at HD1 HD2
  rw [← hM, ← hE] at HD1 HD2
  have k2 : ((E : Int) != (E : Int)) = false := by simp
  clear hr hM hE
  go_enter Try.func6, Try.ntmps6
  go_wp2_with fail
  refine C1.out.mono ?_; rintro e w1 ⟨g, cx, rfl, hcx, hmx, hox, hb1⟩
  have HO1 := Lib.hid hox
  have HG1 := Lib.hid (hox.lt g rfl)
  have HX1 := Lib.hid (Rd.of_own hox)
  have HB1 := Lib.hid hb1
  have C2 := Lib.hid (HD1.out (some ⟨g, 0, none⟩) cx w1 (lent_rd HX1.out) (by omega) hmx)
  clear hox hb1 HD1 C1
  go_wp2_with fail
  refine C2.out.mono ?_; rintro e w2 ⟨hb2, v2, hown, rfl⟩
  obtain ⟨X, hv2, hXS, hXA, hXI⟩ := hown.cells
  subst hv2
  have HXS := Lib.hid hXS
  have HXA := Lib.hid hXA
  have HXI := Lib.hid hXI
  obtain ⟨w3, hw3⟩ : ∃ y, y = w2.alloc (.cells X 31) := ⟨_, rfl⟩
  have hb3 : Below w2.heap.size w2 w3 := by rw [hw3]; exact below_alloc w2 _
  have HK3 := Lib.hid (show Blk w3 w2.heap.size 31 X by rw [hw3]; exact Blk.new w2 _ _)
  have HW3 := Lib.hid (hown.later hb3)
  have HB13 := Lib.hid (hb2.trans (hb3.mono hb2.size))
  have HB3 := Lib.hid (HB1.out.trans (HB13.out.mono HB1.out.size))
  have HS2 := Lib.hid (And.intro hb2.size hb3.size)
  have hcv := conv_str w3 _ A l.length c l (HR.out.later HB3.out)
  replace hw3 := hw3.symm
  clear hb2 hb3 hown hXS hXA hXI C2
  go_wp2_with (refine at_sto 31 (.tmp 4) (.tmp 14) rfl ?_; go_must (refine wpList_store_row rfl 31 (.tmp 4) (.tmp 14) rfl w2.heap.size X rfl rfl 31 _ (heap_alloc_new w2 _) HXI.out (by rw [HXS.out]; rfl) HXA.out ?_); rw [World.setRow_alloc_new, hw3]; go_wp2_with fail)
  refine (HD2.out w3).mono ?_; rintro e w4 ⟨hb4, v4, hown, rfl⟩
  obtain ⟨Y, hv4, hYS, hYA, hYI⟩ := hown.cells
  subst hv4
  have HYS := Lib.hid hYS
  have HYA := Lib.hid hYA
  have HYI := Lib.hid hYI
  obtain ⟨w5, hw5⟩ : ∃ y, y = w4.alloc (.cells Y 31) := ⟨_, rfl⟩
  have hb5 : Below w4.heap.size w4 w5 := by rw [hw5]; exact below_alloc w4 _
  have hb35 := hb4.trans (hb5.mono hb4.size)
  have HK5 := Lib.hid (show Blk w5 w4.heap.size 31 Y by rw [hw5]; exact Blk.new w4 _ _)
  have HJ5 := Lib.hid (HK3.out.later hb35)
  have HV5 := Lib.hid (hown.later hb5)
  have HW5 := Lib.hid (HW3.out.later hb35)
  have HB5 := Lib.hid (HB3.out.trans (hb35.mono HB3.out.size))
  have HB15 := Lib.hid (HB13.out.trans (hb35.mono HB13.out.size))
  have HS4 := Lib.hid (And.intro hb4.size hb5.size)
  obtain ⟨Ax, cx1, Bx, dx, hIX⟩ := HW5.out.inCm
  obtain ⟨Ay, cy, By, dy, hIY⟩ := HV5.out.inCm
  have C5 := Lib.hid (rsame_any M M _ _ _ _ _ _ _ _ _ _ w5 hIX hIY (by omega) (by omega))
  rw [decide_eq_true rfl] at C5
  replace hw5 := hw5.symm
  clear hb4 hb5 hb35 hown hYS hYA hYI hIX hIY hcv HD2
  go_wp2_with (refine at_sto 31 (.tmp 6) (.tmp 20) rfl ?_; go_must (refine wpList_store_row rfl 31 (.tmp 6) (.tmp 20) rfl w4.heap.size Y rfl rfl 31 _ (heap_alloc_new w4 _) HYI.out (by rw [HYS.out]; rfl) HYA.out ?_); rw [World.setRow_alloc_new, hw5]; go_wp2_with (first | (refine at_lod 31 (.tmp 4) rfl ?_; go_must (refine wpList_load_row rfl 31 (.tmp 4) rfl w2.heap.size rfl _ X (0, 0) _ HJ5.out Try.underlying31 rfl HXI.out ?_)) | (refine at_lod 31 (.tmp 6) rfl ?_; go_must (refine wpList_load_row rfl 31 (.tmp 6) rfl w4.heap.size rfl _ Y (0, 0) _ HK5.out Try.underlying31 rfl HYI.out ?_); go_wp2_with fail)))
  refine C5.out.mono ?_; rintro e w6 ⟨rfl, hb6⟩
  have HB6 := Lib.hid (HB5.out.trans (hb6.mono HB5.out.size))
  have HB16 := Lib.hid (HB15.out.trans (hb6.mono HB15.out.size))
  have HJ6 := Lib.hid (HJ5.out.later hb6)
  have HK6 := Lib.hid (HK5.out.later hb6)
  have HV6 := Lib.hid (HV5.out.later hb6)
  have HW6 := Lib.hid (HW5.out.later hb6)
  have HS6 := Lib.hid hb6.size
  have C6 := Lib.hid (held_any g cx w6.heap.size c A l w6 (HX1.out.later HB16.out) (HR.out.later HB6.out) hcx hmx)
  clear hb6 C5
  go_wp2_with fail
  refine C6.out.mono ?_; rintro e w7 ⟨rfl, n, hw7⟩
  have HB7 := Lib.hid (show Below w.heap.size w w7 by rw [hw7]; exact below_drewN HB6.out n)
  have HJ7 := Lib.hid (show Blk w7 w2.heap.size 31 X by rw [hw7]; exact HJ6.out.drewN n)
  have HK7 := Lib.hid (show Blk w7 w4.heap.size 31 Y by rw [hw7]; exact HK6.out.drewN n)
  have hb67 : Below w6.heap.size w6 w7 := by rw [hw7]; exact below_drewN (Below.refl _ _) n
  have HV7 := Lib.hid (HV6.out.later hb67)
  have HW7 := Lib.hid (HW6.out.later hb67)
  have HS7 := Lib.hid hb67.size
  have HB17 := Lib.hid (HB16.out.trans (hb67.mono HB16.out.size))
  have HGO := Lib.hid (show OvW w.heap.size (l.length + 2) (.slice (some ⟨g, 0, none⟩) (l.length + 2) cx) w7 w7 from ⟨⟨_, own_below HO1.out HB17.out, bv_bytes8 _⟩, World.grownBy.refl _ _⟩)
  clear hb67 C6 HB16 HB13 HB15 HV5 HW5 HV6 HW6 HJ5 HK5 HJ6 HK6 HB5 HB3 HW3 HK3 hw3 hw5 hw7
  go_wp2_with fail
  go_loopw [39] (fun iv wr => ∃ i : Nat, i ≤ l.length ∧ iv = .int .i64 (i : Int) ∧ OvW w.heap.size (l.length + 2) (.slice (some ⟨g, 0, none⟩) (l.length + 2) cx) w7 wr) (fun iv _ => l.length - (intOf iv).toNat)
  case atStart => exact ⟨0, Nat.zero_le _, rfl, HGO.out⟩
  clear HGO
  case round =>
    obtain ⟨i, hi, rfl, hG⟩ := hrel
    have HG := Lib.hid hG
    clear hG
    by_cases hlt : i < l.length
    · have hltI : (i : Int) < (l.length : Int) := by omega
      obtain ⟨x, c0, f0, hx0, hx1⟩ := HG.out.cell (k := i) (by omega)
      have hw8 : IntKind.u8.wrap (x + 1) = (x + 1) % 256 := IntKind.wrap_u8 _
      have HN := Lib.hid (HG.out.set (k := i) (x := (x + 1) % 256) ⟨by omega, by omega⟩)
      go_wp2_with fail
      go_roundw
      case rel => exact ⟨i + 1, by omega, by go_num, HN.out⟩
      case measure => simp [intOf]; omega
    · have hltI : ¬ (i : Int) < (l.length : Int) := by omega
      have hgr : w7.grownBy wr (some g) := HG.out.grown
      have hg1 := HG1.out
      have s1 := HS2.out
      have s2 := HS4.out
      have s3 := HB17.out.size
      have HJ8 := Lib.hid (HJ7.out.grown hgr (fun e => by have h : w2.heap.size = g := Option.some.inj e; omega))
      have HK8 := Lib.hid (HK7.out.grown hgr (fun e => by have h : w4.heap.size = g := Option.some.inj e; omega))
      obtain ⟨Ax', cx', Bx', dx', hIX⟩ := (HW7.out.gb hgr (by omega)).inCm
      obtain ⟨Ay', cy', By', dy', hIY⟩ := (HV7.out.gb hgr (by omega)).inCm
      have C8 := Lib.hid (rsame_any M M _ _ _ _ _ _ _ _ _ _ wr hIX hIY (by omega) (by omega))
      rw [decide_eq_true rfl] at C8
      have HB8 := Lib.hid (HB7.out.grown hgr (by omega) (fun q hq => by have h : g = q := Option.some.inj hq; omega))
      clear hgr hIX hIY hg1 s1 s2 s3
      go_wp2_with (first | (refine at_lod 31 (.tmp 4) rfl ?_; go_must (refine wpList_load_row rfl 31 (.tmp 4) rfl w2.heap.size rfl _ X (0, 0) _ HJ8.out Try.underlying31 rfl HXI.out ?_)) | (refine at_lod 31 (.tmp 6) rfl ?_; go_must (refine wpList_load_row rfl 31 (.tmp 6) rfl w4.heap.size rfl _ Y (0, 0) _ HK8.out Try.underlying31 rfl HYI.out ?_); go_wp2_with fail))
      refine C8.out.mono ?_; rintro e w9 ⟨rfl, hb9⟩
      have HB9 := Lib.hid (HB8.out.trans (hb9.mono HB8.out.size))
      clear hb9
      go_wp2_with fail
      refine (alive_any _).mono ?_; rintro e w10 ⟨rfl, hb10⟩
      go_wp2_with fail
      go_ret
      exact ⟨rfl, HB9.out.trans (hb10.mono HB9.out.size)⟩
end Go.Proofs.Ytjgegggcbjecbaa

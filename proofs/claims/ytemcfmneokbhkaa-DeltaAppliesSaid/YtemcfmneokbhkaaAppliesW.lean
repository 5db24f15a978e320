/- DeltaApplies: any bytes, taken for a delta of any base, tell what the document says, or are refused. No conditions but the row's own. -/
import Derived.Test.YtemcfmneokbhkaaOtherW
namespace Go.Proofs.Ytemcfmneokbhkaa
open Go Go.RowKit

/-- What stands while the answer is overwritten: bytes, in its own memory. -/
structure OvW (B n : Nat) (v : Value) (w wr : World) : Prop where
  own : ∃ xs, wr.ownsRow B 5 1 v n xs ∧ ∀ u ∈ xs, ∃ x : Int, u = .int .u8 x ∧ 0 ≤ x ∧ x < 256
  grown : w.grownBy wr v.ownBlock
theorem bv_bytes8 (l : List UInt8) : ∀ u ∈ bv l, ∃ x : Int, u = .int .u8 x ∧ 0 ≤ x ∧ x < 256 := by
  intro u hu
  obtain ⟨c, -, rfl⟩ := List.mem_map.1 hu
  have := c.toNat_lt
  exact ⟨_, rfl, by omega, by omega⟩
theorem OvW.cell {B n g c k : Nat} {w wr : World} (h : OvW B n (.slice (some ⟨g, 0, none⟩) n c) w wr) (hk : k < n) : ∃ x : Int, wr.cell? ⟨g, k, none⟩ = some (.int .u8 x) ∧ wr.frozen? ⟨g, k, none⟩ = false ∧ 0 ≤ x ∧ x < 256 := by
  obtain ⟨⟨xs, h1, h2⟩, -⟩ := h
  have hl : xs.length = n := by rw [h1.1, Nat.mul_one]
  obtain ⟨x, hx, hx0, hx1⟩ := h2 xs[k] (List.getElem_mem (by omega))
  refine ⟨x, ?_, h1.frozenAt k, hx0, hx1⟩
  have := h1.cellAt k (by omega)
  rw [List.getElem?_eq_getElem (by omega), hx] at this
  exact this
theorem OvW.set {B n g c k : Nat} {w wr : World} (h : OvW B n (.slice (some ⟨g, 0, none⟩) n c) w wr) {x : Int} (hx : 0 ≤ x ∧ x < 256) : OvW B n (.slice (some ⟨g, 0, none⟩) n c) w (wr.setCell ⟨g, k, none⟩ (.int .u8 x)) := by
  obtain ⟨⟨xs, h1, h2⟩, hg⟩ := h
  have h3 := h1.stored k (.int .u8 x)
  refine ⟨⟨_, h3.1, fun u hu => ?_⟩, ⟨hg.os, hg.tape, hg.output, by have := hg.size; simp [World.setCell]; omega, fun j hj hne => (Below.heap_setCell wr ⟨g, k, none⟩ _ j (fun e => hne (by simp [e, Value.ownBlock]))).trans (hg.block j hj hne)⟩⟩
  rcases List.mem_or_eq_of_mem_set hu with h | h
  · exact h2 u h
  · exact ⟨x, h, hx.1, hx.2⟩

set_option maxRecDepth 100000 in
set_option maxHeartbeats 4000000 in
theorem deltaApplies_walk (A1 : Option Addr) (c1 : Nat) (base : List UInt8) (A2 : Option Addr) (c2 : Nat) (d : List UInt8) (w : World) (h1 : Rd w w.heap.size A1 base.length (bv base)) (hl1 : base.length ≤ c1) (hm1 : c1 ≤ 140737488351232) (h2 : Rd w w.heap.size A2 d.length (bv d)) (hl2 : d.length ≤ c2) (hm2 : c2 ≤ 140737488351232) :
    Calls Try.prog 4 #[.slice A1 base.length c1, .slice A2 d.length c2] w (Ret (.bool true) w) := by
  have C1 := Lib.hid (lent_any A1 c1 base w h1 (by omega))
  have H1 := Lib.hid h1
  have H2 := Lib.hid h2
  have HMK := Lib.hid (fun A1 A2 c1 c2 w h1 h2 hc1 hc2 => papply_any A1 A2 c1 c2 base d w h1 h2 hc1 hc2 (by omega) (by omega))
  have HRM := Lib.hid (fun w => refApply_any base d w (by omega) (by omega))
  rw [apR_eq] at HRM
  obtain ⟨K, hK⟩ : ∃ K, K = okL (Dl.applyD base d) := ⟨_, rfl⟩
  obtain ⟨e, he⟩ : ∃ e, e = errN (Dl.applyD base d) := ⟨_, rfl⟩
  rw [← hK, ← he] at HMK HRM
  have hKl : K.length ≤ 4096 := by
    rw [hK]
    cases hap : Dl.applyD base d with
    | error e => simp [okL]
    | ok t =>
      obtain ⟨hb, p1, size, p2, -, -, h4, hgo⟩ := Dl.applyD_ok hap
      have key : ∀ (n : Nat) (out : List UInt8) (p : Nat), out.length ≤ size → size - out.length ≤ n → Dl.goD base d size out p = .ok t → t.length ≤ size := by
        intro n
        induction n with
        | zero =>
          intro out p ho hn hg
          rw [Dl.goD, if_neg (by omega)] at hg
          split at hg
          · cases hg; exact ho
          · cases hg
        | succ n ih =>
          intro out p ho hn hg
          by_cases hl : out.length < size
          · cases hpc : Dl.piece base d p (size - out.length) with
            | error e => rw [Dl.goD_err hl hpc] at hg; cases hg
            | ok x =>
              obtain ⟨s, q⟩ := x
              rw [Dl.goD_ok hl hpc] at hg
              have := Dl.piece_len hpc
              exact ih _ _ (by rw [List.length_append]; omega) (by rw [List.length_append]; omega) hg
          · rw [Dl.goD, if_neg hl] at hg
            split at hg
            · cases hg; exact ho
            · cases hg
      have := key _ [] p2 (Nat.zero_le _) (Nat.le_refl _) hgo
      show t.length ≤ 4096
      omega
  have k3 : ((e : Int) != (e : Int)) = false := by simp
  clear h1 h2 hK he
  go_enter Try.func4, Try.ntmps4
  go_wp2_with fail
  refine C1.out.mono ?_; rintro e' w1 ⟨g1, cx1, rfl, hcx1, hmx1, hx1, hb1⟩
  have HX1 := Lib.hid hx1
  have HB1 := Lib.hid hb1
  have C2 := Lib.hid (lent_any A2 c2 d w1 (H2.out.later hb1) (by omega))
  clear hx1 hb1
  go_wp2_with fail
  refine C2.out.mono ?_; rintro e' w2 ⟨g2, cx2, rfl, hcx2, hmx2, hx2, hb2⟩
  have HX2 := Lib.hid hx2
  have HB2 := Lib.hid (HB1.out.trans (hb2.mono HB1.out.size))
  have HX1b := Lib.hid (HX1.out.later hb2)
  have C3 := Lib.hid (HMK.out _ _ cx1 cx2 w2 (lent_rd HX1b.out) (lent_rd hx2) (by omega) (by omega))
  clear hx2 hb2
  go_wp2_with fail
  refine C3.out.mono ?_; rintro e' w3 ⟨v, rfl, ho, hb3⟩
  obtain ⟨A3, c3, hv, -, -, -⟩ := own_form ho
  subst hv
  have HB3 := Lib.hid (HB2.out.trans (hb3.mono HB2.out.size))
  have HX1c := Lib.hid (HX1b.out.below hb3)
  have HX2c := Lib.hid (HX2.out.below hb3)
  have HR3 := Lib.hid (Rd.of_own ho)
  have HO3 := Lib.hid ho
  have HS23 := Lib.hid hb3.size
  have hcv1 := conv_str w3 _ A1 base.length c1 base (H1.out.later HB3.out)
  have hcv2 := conv_str w3 _ A2 d.length c2 d (H2.out.later HB3.out)
  clear ho hb3
  go_wp2_with fail
  refine (HRM.out w3).mono ?_; rintro e' w4 ⟨rfl, rfl⟩
  have hcv3 := conv_str w3 _ A3 K.length c3 K HR3.out
  clear hcv1 hcv2
  go_wp2_with fail
  clear hcv3
  have HGO := Lib.hid (show OvW w2.heap.size K.length (.slice A3 K.length c3) w3 w3 from ⟨⟨_, HO3.out, bv_bytes8 K⟩, World.grownBy.refl _ _⟩)
  have HLOW := Lib.hid (show ∀ q, (Value.slice A3 K.length c3).ownBlock = some q → w2.heap.size ≤ q from fun q hq => (HO3.out.lt q hq).1)
  have HFM := Lib.hid (show 0 < K.length → ∃ q, A3 = some ⟨q, 0, none⟩ from fun h => by
    obtain ⟨g, cap, hv, -, -⟩ := HO3.out.form h
    injection hv with h1
    exact ⟨g, h1⟩)
  go_loopw [41] (fun iv wr => ∃ i : Nat, i ≤ K.length ∧ iv = .int .i64 (i : Int) ∧ OvW w2.heap.size K.length (.slice A3 K.length c3) w3 wr) (fun iv _ => K.length - (intOf iv).toNat)
  case atStart => exact ⟨0, Nat.zero_le _, rfl, HGO.out⟩
  clear HGO
  case round =>
    obtain ⟨i, hi, rfl, hG⟩ := hrel
    have HG := Lib.hid hG
    clear hG
    by_cases hlt : i < K.length
    · have hltI : (i : Int) < (K.length : Int) := by omega
      obtain ⟨q, hA3⟩ := HFM.out (by omega)
      subst hA3
      obtain ⟨x, c0, f0, hx0, hx1⟩ := HG.out.cell hlt
      have hw8 : IntKind.u8.wrap (x + 1) = (x + 1) % 256 := IntKind.wrap_u8 _
      have HN := Lib.hid (HG.out.set (k := i) (x := (x + 1) % 256) ⟨by omega, by omega⟩)
      go_wp2_with fail
      go_roundw
      case rel => exact ⟨i + 1, by omega, by go_num, HN.out⟩
      case measure => simp [intOf]; omega
    · have hltI : ¬ (i : Int) < (K.length : Int) := by omega
      obtain rfl : i = K.length := by omega
      have hgr := HG.out.grown
      have HB5 : Below w2.heap.size w3 wr := (Below.refl _ _).grown hgr (HS23.out) HLOW.out
      have HB5h := Lib.hid HB5
      have HX1d := Lib.hid (HX1c.out.below HB5)
      have HX2d := Lib.hid (HX2c.out.below HB5)
      have HBw := Lib.hid (HB3.out.trans (HB5.mono HB2.out.size))
      have hsz : w2.heap.size ≤ wr.heap.size := Nat.le_trans HS23.out HB5h.out.size
      have HH1 := Lib.hid (held_any g1 cx1 wr.heap.size c1 A1 base wr (HX1d.out.more hsz) (H1.out.later HBw.out) hcx1 hmx1)
      clear hgr HB5
      go_wp2_with fail
      refine HH1.out.mono ?_; rintro e' w5 ⟨rfl, n, rfl⟩
      have HH2 := Lib.hid (held_any g2 cx2 wr.heap.size c2 A2 d (wr.drewN n) ((HX2d.out.more hsz).drewN n) ((H2.out.later HBw.out).drewN n) hcx2 hmx2)
      go_wp2_with fail
      refine HH2.out.mono ?_; rintro e' w6 ⟨rfl, m, rfl⟩
      have HB6 := Lib.hid (below_drewN HBw.out (n + m))
      go_wp2_with fail
      refine (alive_any _).mono ?_; rintro e' w7 ⟨rfl, hb7⟩
      go_wp2_with fail
      go_ret
      exact ⟨rfl, HB6.out.trans (hb7.mono HB6.out.size)⟩
end Go.Proofs.Ytemcfmneokbhkaa

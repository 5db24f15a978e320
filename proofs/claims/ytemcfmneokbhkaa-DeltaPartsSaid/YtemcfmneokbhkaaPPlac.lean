/- The program's placesOfBytes. -/
import Derived.Test.YtemcfmneokbhkaaPCut
import Derived.Deep.WholeRow
namespace Go.Proofs.Ytemcfmneokbhkaa
open Go Go.RowKit

/-- Numbers as cells. -/
def iv (l : List Nat) : List Value := l.map fun (n : Nat) => Value.int .i64 (n : Int)
theorem iv_length (l : List Nat) : (iv l).length = l.length := List.length_map _
theorem iv_append (l r : List Nat) : iv (l ++ r) = iv l ++ iv r := List.map_append
theorem iv_one (l : List Nat) : ∀ u ∈ iv l, u.oneCell' = true := by
  intro u hu
  obtain ⟨n, -, rfl⟩ := List.mem_map.1 hu
  rfl

/-- The places below k at which byte c stands. -/
def plc (base : List UInt8) (k c : Nat) : List Nat := (List.range k).filter fun j => (base.getD j 0).toNat == c
theorem plc_same {base : List UInt8} {k c : Nat} (hk : k < base.length) (h : base[k].toNat = c) : plc base (k + 1) c = plc base k c ++ [k] := by
  unfold plc
  rw [List.range_succ, List.filter_append, List.filter_cons_of_pos (by rw [List.getD_eq_getElem?_getD, List.getElem?_eq_getElem hk]; simpa using h)]
  rfl
theorem plc_other {base : List UInt8} {k c : Nat} (hk : k < base.length) (h : base[k].toNat ≠ c) : plc base (k + 1) c = plc base k c := by
  unfold plc
  rw [List.range_succ, List.filter_append, List.filter_cons_of_neg (by rw [List.getD_eq_getElem?_getD, List.getElem?_eq_getElem hk]; simpa using h), List.filter_nil, List.append_nil]
theorem plc_len (base : List UInt8) (k c : Nat) : (plc base k c).length ≤ k := by
  unfold plc
  exact Nat.le_trans (List.length_filter_le _ _) (by rw [List.length_range]; exact Nat.le_refl _)

/-- No places. -/
def NP : Array Value := (List.replicate 256 (Value.slice none 0 0)).toArray
theorem zeroPl (w : World) : (zeroValue 58).run Try.prog w = .ok (.agg NP) w := (zero_of_info (n := 256) (by kernel_rfl)).1 w
theorem infoPl : (Try.prog.info? 58).map (·.size) = some 256 := by kernel_rfl
theorem NP_size : NP.size = 256 := by unfold NP; rw [List.size_toArray, List.length_replicate]
theorem NP_at {c : Nat} (hc : c < 256) : NP[c]? = some (.slice none 0 0) := by unfold NP; rw [List.getElem?_toArray, List.getElem?_replicate, if_pos hc]

/-- What stands in the loop: block P tells the places below k. -/
structure PlG (base : List UInt8) (k P : Nat) (vs : Array Value) (w wr : World) : Prop where
  blk : Blk wr P 58 vs
  hsz : vs.size = 256
  own : ∀ c, c < 256 → wr.ownsRow w.heap.size 3 1 (vs.getD c undef) (plc base k c).length (iv (plc base k c))
  apart : ∀ c c' g, c < 256 → c' < 256 → c ≠ c' → (vs.getD c undef).ownBlock = some g → (vs.getD c' undef).ownBlock ≠ some g
  hB : Below w.heap.size w wr
  hP : w.heap.size ≤ P

theorem int_own_ne {B g n : Nat} {xs : List Value} {v : Value} {cs : Array Value} {t : TypeId} {w : World} (ho : w.ownsRow B 3 1 v n xs) (hg : Blk w g t cs) (ht : t ≠ 3) : v.ownBlock ≠ some g := by
  rcases ho.2 with ⟨rfl, _⟩ | ⟨q, cap, cur, rfl, _, hq, _⟩
  · simp [Value.ownBlock]
  · intro h
    simp only [Value.ownBlock, Option.some.injEq] at h
    subst h
    unfold Blk at hg
    rw [hq] at hg
    simp only [Option.some.injEq, Obj.cells.injEq] at hg
    exact ht hg.2.1.symm
theorem getD_set_same {vs : Array Value} {c : Nat} {v : Value} (h : c < vs.size) : (vs.setIfInBounds c v).getD c undef = v := by
  rw [Array.getD_eq_getD_getElem?, Array.getElem?_setIfInBounds, if_pos rfl, if_pos h]; rfl
theorem getD_set_other {vs : Array Value} {c c' : Nat} {v : Value} (h : c ≠ c') : (vs.setIfInBounds c v).getD c' undef = vs.getD c' undef := by
  rw [Array.getD_eq_getD_getElem?, Array.getElem?_setIfInBounds, if_neg h, ← Array.getD_eq_getD_getElem?]

theorem PlG.next {base : List UInt8} {k P c : Nat} {vs : Array Value} {w wr w1 w2 : World} {v' : Value} (h : PlG base k P vs w wr) (hk : k < base.length) (hc : base[k].toNat = c) (h1 : Below wr.heap.size wr w1)
    (ho : w2.ownsRow w.heap.size 3 1 v' ((plc base k c).length + 1) (iv (plc base k c) ++ [.int .i64 (k : Int)])) (hg : w1.grownBy w2 (vs.getD c undef).ownBlock) (hd : v'.ownBlock = (vs.getD c undef).ownBlock ∨ v'.ownBlock = some w1.heap.size) :
    PlG base (k + 1) P (vs.setIfInBounds c v') w (w2.setCell ⟨P, c, none⟩ v') := by
  have hcl : c < 256 := by rw [← hc]; exact UInt8.toNat_lt _
  have hb1 : Blk w1 P 58 vs := h.blk.later h1
  have hne := int_own_ne (own_below (h.own c hcl) h1) hb1 (by decide)
  have hb2 : Blk w2 P 58 vs := hb1.grown hg (fun e => hne e.symm)
  have hB2 : Below w.heap.size w w2 := (h.hB.trans (h1.mono h.hB.size)).grown hg (Nat.le_trans h.hB.size h1.size) (fun q hq => ((h.own c hcl).lt q hq).1)
  have hkeep : ∀ {v n xs}, w2.ownsRow w.heap.size 3 1 v n xs → (w2.setCell ⟨P, c, none⟩ v').ownsRow w.heap.size 3 1 v n xs := fun {v n xs} hv =>
    hv.kept (row := some P) ⟨rfl, rfl, rfl, by simp [World.setCell], fun j _ hj => Below.heap_setCell _ _ _ _ (fun e => hj (by simp [e]))⟩ (Or.inr (int_own_ne hv hb2 (by decide)))
  refine ⟨hb2.set_ c v', by simpa using h.hsz, fun c' hc' => ?_, fun a b g ha hb hab hga => ?_, hB2.setCell h.hP v', h.hP⟩
  · by_cases he : c = c'
    · subst he
      rw [getD_set_same (by rw [h.hsz]; exact hcl), plc_same hk hc, List.length_append, iv_append]
      exact hkeep (by simpa [iv] using ho)
    · rw [getD_set_other he, plc_other hk (fun e => he (hc.symm.trans e))]
      refine hkeep ((own_below (h.own c' hc') h1).kept hg ?_)
      cases hv : (vs.getD c' undef).ownBlock with
      | none => exact .inl rfl
      | some q => exact .inr (fun e => h.apart c' c q hc' hcl (fun e => he e.symm) hv e.symm)
  · by_cases ha' : c = a
    · subst ha'
      rw [getD_set_same (by rw [h.hsz]; exact hcl)] at hga
      rw [getD_set_other hab]
      rcases hd with hd | hd
      · rw [hd] at hga
        exact h.apart _ _ _ ha hb hab hga
      · rw [hd] at hga
        intro hgb
        have := ((h.own b hb).lt g hgb).2
        have := h1.size
        cases hga
        omega
    · rw [getD_set_other ha'] at hga
      by_cases hb' : c = b
      · subst hb'
        rw [getD_set_same (by rw [h.hsz]; exact hcl)]
        rcases hd with hd | hd
        · rw [hd]
          exact h.apart _ _ _ ha hb hab hga
        · rw [hd]
          intro hgb
          have := ((h.own a ha).lt g hga).2
          have := h1.size
          cases hgb
          omega
      · rw [getD_set_other hb']
        exact h.apart _ _ _ ha hb hab hga

theorem below_row {B g : Nat} {a w : World} (h : Below B a w) (hg : B ≤ g) (cs : Array Value) : Below B a (w.setRow g cs) :=
  ⟨h.os, h.tape, h.output, by rw [size_setRow]; exact h.size, fun i hi => (setRow_other w g i cs (by omega)).trans (h.block i hi)⟩
theorem PlG.row {base : List UInt8} {k P Z : Nat} {vs cz cs : Array Value} {w wr : World} (h : PlG base k P vs w wr) (hZ : Blk wr Z 58 cz) (hne : P ≠ Z) (hz : w.heap.size ≤ Z) : PlG base k P vs w (wr.setRow Z cs) :=
  ⟨h.blk.farRow hne cs, h.hsz, fun c hc => (h.own c hc).kept (row := some Z) ⟨rfl, rfl, rfl, by rw [size_setRow]; exact Nat.le_refl _, fun j _ hj => setRow_other wr Z j cs (fun e => hj (by rw [e]))⟩ (Or.inr (int_own_ne (h.own c hc) hZ (by decide))), h.apart, below_row h.hB hz cs, h.hP⟩

/-- All places told. -/
def Plcs (base : List UInt8) (cs : Array Value) (w : World) : Prop :=
  cs.size = 256 ∧ (cs.all (·.oneCell') = true) ∧ ∀ c, c < 256 → ∃ A k, cs[c]? = some (.slice A (plc base base.length c).length k) ∧ Rd w w.heap.size A (plc base base.length c).length (iv (plc base base.length c))
theorem PlG.done {base : List UInt8} {P : Nat} {vs : Array Value} {w wr : World} (h : PlG base base.length P vs w wr) : Plcs base vs wr := by
  have key : ∀ c, c < 256 → ∃ A k, vs[c]? = some (.slice A (plc base base.length c).length k) ∧ Rd wr wr.heap.size A (plc base base.length c).length (iv (plc base base.length c)) := fun c hc => by
    have ho := h.own c hc
    rw [Array.getD_eq_getD_getElem?, Array.getElem?_eq_getElem (by rw [h.hsz]; exact hc)] at ho
    obtain ⟨A, k, hv, -, -, -⟩ := own_form ho
    simp only [Option.getD_some] at hv ho
    rw [hv] at ho
    exact ⟨A, k, by rw [Array.getElem?_eq_getElem (by rw [h.hsz]; exact hc), hv], Rd.of_own ho⟩
  refine ⟨h.hsz, ?_, key⟩
  refine Array.all_eq_true.2 (fun i hi => ?_)
  obtain ⟨A, k, hv, -⟩ := key i (by rw [← h.hsz]; exact hi)
  rw [Array.getElem?_eq_getElem hi] at hv
  rw [Option.some.inj hv]; rfl
theorem Plcs.later {base : List UInt8} {cs : Array Value} {w w' : World} (h : Plcs base cs w) (hb : Below w.heap.size w w') : Plcs base cs w' :=
  ⟨h.1, h.2.1, fun c hc => by obtain ⟨A, k, h1, h2⟩ := h.2.2 c hc; exact ⟨A, k, h1, h2.later hb⟩⟩

set_option maxRecDepth 100000 in
set_option maxHeartbeats 8000000 in
theorem places_any (base : List UInt8) (A : Option Addr) (c : Nat) (w : World) (hr : Rd w w.heap.size A base.length (bv base)) (_hc : base.length ≤ c ∧ c ≤ 9223372036854775807) (hb : base.length ≤ 4096) :
    Calls Try.prog 29 #[.slice A base.length c] w fun e w' => ∃ cs, e = .returned (.agg cs) ∧ Plcs base cs w' ∧ Below w.heap.size w w' := by
  obtain ⟨i0, hi, hz0, hz1, hz2⟩ := info_parts infoInt
  have HR := Lib.hid hr
  have hzp := zeroPl
  obtain ⟨wa, hwa⟩ : ∃ y, y = w.alloc (.cells NP 58) := ⟨_, rfl⟩
  obtain ⟨wb, hwb⟩ : ∃ y, y = wa.alloc (.cells NP 58) := ⟨_, rfl⟩
  have hsa : wa.heap.size = w.heap.size + 1 := by rw [hwa]; simp
  have hBa : Below w.heap.size w wa := by rw [hwa]; exact below_alloc w _
  have hBb : Below wa.heap.size wa wb := by rw [hwb]; exact below_alloc wa _
  have hZ : Blk wa w.heap.size 58 NP := by rw [hwa]; exact Blk.new w _ _
  have HZ := Lib.hid (hZ.later hBb)
  have HG0 := Lib.hid (show PlG base 0 (w.heap.size + 1) NP w wb from ⟨by rw [hwb, ← hsa]; exact Blk.new wa _ _, NP_size, fun c hc => (by
      rw [Array.getD_eq_getD_getElem?, NP_at hc]; exact World.ownsRow_nil wb _ _ 1), fun c c' g hc hc' _ hg => (by
      rw [Array.getD_eq_getD_getElem?, NP_at hc] at hg; cases hg), hBa.trans (hBb.mono hBa.size), Nat.le_succ _⟩)
  replace hwa := hwa.symm
  replace hwb := hwb.symm
  clear hr hBa hBb hZ
  go_enter Try.func29, Try.ntmps29
  go_wp2_with fail
  obtain ⟨P, hP⟩ : ∃ P, P = w.heap.size + 1 := ⟨_, rfl⟩
  have HPW := Lib.hid (show w.heap.size ≠ P by omega)
  rw [← hP] at HG0 ⊢
  clear hP hwa hwb hsa hzp
  go_loopw [8] (fun kv wr => ∃ (k : Nat) (vs : Array Value), k ≤ base.length ∧ kv = .int .i64 (k : Int) ∧ PlG base k P vs w wr ∧ Blk wr w.heap.size 58 NP) (fun kv _ => base.length - (intOf kv).toNat)
  case atStart => exact ⟨0, NP, Nat.zero_le _, rfl, HG0.out, HZ.out⟩
  case round =>
    obtain ⟨k, vs, hk, rfl, hG, hZ⟩ := hrel
    have HG := Lib.hid hG
    have HZr := Lib.hid hZ
    clear hG hZ
    by_cases hlt : k < base.length
    · have hltI : (k : Int) < (base.length : Int) := by omega
      obtain ⟨ad, x, hA, hx, hcell⟩ := (HR.out.later HG.out.hB).byteAt hlt
      subst hA
      have hbx : base[k].toNat = x.toNat := by
        have h := List.drop_eq_getElem_cons hlt
        rw [hx] at h
        exact congrArg UInt8.toNat (List.cons.inj h).1.symm
      have HX := Lib.hid hbx
      have hx256 : x.toNat < 256 := UInt8.toNat_lt x
      obtain ⟨n, hn⟩ : ∃ n, n = x.toNat := ⟨_, rfl⟩
      rw [← hn] at HX hx256 hcell
      have hx256I : (n : Int) < 256 := by omega
      have hOwn := HG.out.own n hx256
      obtain ⟨v, hv⟩ : ∃ v, v = vs.getD n undef := ⟨_, rfl⟩
      rw [← hv] at hOwn
      have cP : wr.cell? ⟨P, n, none⟩ = some v := by
        rw [HG.out.blk.cell, hv, Array.getD_eq_getD_getElem?, Array.getElem?_eq_getElem (by rw [HG.out.hsz]; exact hx256)]; rfl
      have HV := Lib.hid hv
      have HO := Lib.hid hOwn
      have hne := int_own_ne (own_below hOwn (below_alloc wr (.cells #[.int .i64 (k : Int)] 3))) (HG.out.blk.alloc _) (by decide)
      have HNE := Lib.hid hne
      have HZNE := Lib.hid (int_own_ne (own_below hOwn (below_alloc wr (.cells #[.int .i64 (k : Int)] 3))) (HZr.out.alloc (.cells #[.int .i64 (k : Int)] 3)) (by decide))
      have hpl := plc_len base k n
      have hBs : w.heap.size ≤ wr.heap.size := HG.out.hB.size
      obtain ⟨N, hN⟩ : ∃ N, N = plc base k n := ⟨_, rfl⟩
      rw [← hN] at HO hpl
      have HN := Lib.hid hN
      clear hv hOwn hne hx hbx hn hN
      go_wp2_with (at_builtin; go_must (refine wp_app _ rfl (.tmp 16) (.tmp 18) 43 43 rfl w.heap.size 3 i0 _ 8 Try.underlying43 hi hz0 hz1 hz2 rfl v N.length (iv N) rfl (HO.out.alloc _) _ 1 [Value.int .i64 (k : Int)] rfl (new_src Try.underlying43 wr [Value.int .i64 (k : Int)] 1 1 3 (0, 0) rfl (by intro u hu; simp at hu; subst hu; rfl)) (by unfold maxLen; omega) (by omega) (by simp; omega) ?_); intro v2 w2 ho2 hg2 hd2; have hv2' := own_form ho2; obtain ⟨A2, k2, hv2, -, -, -⟩ := hv2'; subst hv2; have hb2 := (HG.out.blk.alloc _).grown hg2 (fun e => HNE.out e.symm); have HZ2 := Lib.hid (((HZr.out.alloc _).grown hg2 (fun e => HZNE.out e.symm)).far (p := ⟨P, n, none⟩) HPW.out (.slice A2 (N.length + 1) k2)); have HN2 := Lib.hid (HG.out.next hlt HX.out (below_alloc wr _) (by rw [← HN.out]; exact ho2) (by rw [← HV.out]; exact hg2) (by rw [← HV.out]; exact hd2)); have c2 : w2.cell? ⟨P, n, none⟩ = some v := (hb2.cell n).trans ((HG.out.blk.cell n).symm.trans cP); have f2 := hb2.frozen n; clear ho2 hg2 hd2 hb2)
      go_roundw
      case rel => exact ⟨k + 1, _, by omega, by go_num, HN2.out, HZ2.out⟩
      case measure => simp [intOf]; omega
    · have hltI : ¬ (k : Int) < (base.length : Int) := by omega
      obtain rfl : k = base.length := by omega
      have hst := HG.out.done
      go_wp2_with (first | (refine at_lod 58 (.tmp 3) rfl ?_; go_must (refine wpList_load_row rfl 58 (.tmp 3) rfl P rfl _ vs (0, 0) _ HG.out.blk Try.underlying58 rfl (by rw [HG.out.hsz]; exact infoPl) ?_)) | (refine at_sto 58 (.tmp 2) (.tmp 22) rfl ?_; go_must (refine wpList_store_row rfl 58 (.tmp 2) (.tmp 22) rfl w.heap.size vs rfl rfl _ NP HZr.out (by rw [HG.out.hsz]; exact infoPl) (by rw [HG.out.hsz, NP_size]) hst.2.1 ?_)))
      exact bodyPost_ret (v := .agg vs) (results_cell_row rfl _ _ w.heap.size _ _ _ _ rfl (HZr.out.row _) Try.underlying58 rfl (by rw [HG.out.hsz]; exact infoPl)) rfl ⟨vs, rfl, (HG.out.row HZr.out (fun e => HPW.out e.symm) (Nat.le_refl _)).done, (below_row HG.out.hB (Nat.le_refl _) _)⟩
end Go.Proofs.Ytemcfmneokbhkaa

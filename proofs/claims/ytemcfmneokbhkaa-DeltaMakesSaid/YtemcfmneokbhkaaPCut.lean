/- The program's cutUp: the pieces of the document's delta, each handed on to where its kind is written. -/
import Derived.Test.YtemcfmneokbhkaaPWrit
namespace Go.Proofs.Ytemcfmneokbhkaa
open Go Go.RowKit

/-- Block M: the best place, and how many bytes, of each place of the target. -/
def Mats (base t : List UInt8) (M : Nat) (w : World) : Prop :=
  ∃ cs, Blk w M 57 cs ∧ cs.size = t.length * 2 ∧ ∀ i, i < t.length → cs[i * 2]? = some (.int .i64 ((Dl.bestOf base (t.drop i)).1 : Int)) ∧ cs[i * 2 + 1]? = some (.int .i64 ((Dl.bestOf base (t.drop i)).2 : Int))
theorem Mats.later {base t : List UInt8} {M : Nat} {w w' : World} (h : Mats base t M w) (hb : Below w.heap.size w w') : Mats base t M w' := by
  obtain ⟨cs, k1, k2⟩ := h
  exact ⟨cs, k1.later hb, k2⟩
theorem Mats.held {base t L : List UInt8} {M B : Nat} {v : Value} {w w' : World} (h : Mats base t M w) (hb : WHeld B L w v w') (hne : M ≠ B) : Mats base t M w' := by
  obtain ⟨cs, k1, k2⟩ := h
  exact ⟨cs, hb.stay _ _ _ (by decide) hne k1, k2⟩
theorem Mats.cell {base t : List UInt8} {M i : Nat} {w : World} (h : Mats base t M w) (hi : i < t.length) :
    w.cell? ⟨M, i * 2, none⟩ = some (.int .i64 ((Dl.bestOf base (t.drop i)).1 : Int)) ∧ w.cell? ⟨M, i * 2 + 1, none⟩ = some (.int .i64 ((Dl.bestOf base (t.drop i)).2 : Int)) := by
  obtain ⟨cs, k1, k2, k3⟩ := h
  exact ⟨by rw [k1.cell, (k3 i hi).1], by rw [k1.cell, (k3 i hi).2]⟩

theorem mid_snoc {l : List UInt8} {i j : Nat} (hij : i ≤ j) (hj : j < l.length) : (l.take (j + 1)).drop i = (l.take j).drop i ++ [l[j]] := by
  rw [List.take_succ_eq_append_getElem hj, List.drop_append_of_le_length (by rw [List.length_take]; omega)]
theorem mid_len {l : List UInt8} {i j : Nat} (hj : j ≤ l.length) : ((l.take j).drop i).length = j - i := by rw [List.length_drop, List.length_take]; omega
/-- A part of a slice, both ends told. -/
theorem run_mid {w : World} {A : Option Addr} {l : List UInt8} {B c i j : Nat} (hij : i < j) (hj : j ≤ l.length) (hc : l.length ≤ c) (h : Rd w B A l.length (bv l)) :
    ∃ ad, A = some ad ∧ Rd w B (some (ad.add i)) (j - i) (bv ((l.take j).drop i)) ∧ ∀ w' : World, (Instr.slice 22 (.slice A l.length c) (some (.int .i64 (i : Int))) (some (.int .i64 (j : Int))) none).run Try.prog w' = .ok (.slice (some (ad.add i)) (j - i) (c - i)) w' := by
  obtain ⟨ad, hA, hr⟩ := (h.take (k := j) hj).drop (k := i) hij
  subst hA
  refine ⟨ad, rfl, by rw [bv_drop, bv_take]; exact hr, fun w' => ?_⟩
  have hsz : (Try.prog.info? (Try.prog.elem 22)).map (·.size) = some 1 := by kernel_rfl
  rw [run_slice_lh (P := Try.prog) (w := w') (t := 22) (a := some ad) (len := l.length) (cap := c) (by kernel_rfl) .i64 .i64 (i : Int) (j : Int) (by omega) (by omega) (by omega)]
  cases hq : Try.prog.info? (Try.prog.elem 22) with
  | none => simp [hq] at hsz
  | some x =>
    have hs : x.size = 1 := by simpa [hq] using hsz
    have e2 : ¬ c = i := by omega
    simp [sizeOf, typeInfo, hq, hs, sliced, e2, Result.andThen]
/-- .. to the end. -/
theorem run_rest {w : World} {A : Option Addr} {l : List UInt8} {B c i : Nat} (hi : i < l.length) (hc : l.length ≤ c) (h : Rd w B A l.length (bv l)) :
    ∃ ad, A = some ad ∧ Rd w B (some (ad.add i)) (l.length - i) (bv (l.drop i)) ∧ ∀ w' : World, (Instr.slice 22 (.slice A l.length c) (some (.int .i64 (i : Int))) none none).run Try.prog w' = .ok (.slice (some (ad.add i)) (l.length - i) (c - i)) w' := by
  obtain ⟨ad, hA, hr⟩ := h.drop (k := i) hi
  subst hA
  refine ⟨ad, rfl, by rw [bv_drop]; exact hr, fun w' => ?_⟩
  have hsz : (Try.prog.info? (Try.prog.elem 22)).map (·.size) = some 1 := by kernel_rfl
  rw [run_slice_l (P := Try.prog) (w := w') (t := 22) (a := some ad) (len := l.length) (cap := c) (by kernel_rfl) .i64 (i : Int) (by omega) (by omega)]
  cases hq : Try.prog.info? (Try.prog.elem 22) with
  | none => simp [hq] at hsz
  | some x =>
    have hs : x.size = 1 := by simpa [hq] using hsz
    have e2 : ¬ c = i := by omega
    simp [sizeOf, typeInfo, hq, hs, sliced, e2, Result.andThen]

/-- What stands in the loop: begin, i, what is written. -/
structure CuG (base t F : List UInt8) (B M b i : Nat) (L : List UInt8) (v : Value) (w wr : World) : Prop where
  hbi : b ≤ i
  hi : i ≤ t.length
  hF : L ++ Dl.mkGo base ((t.take i).drop b) (t.drop i) = F
  hW : Wr B L v wr
  hB : Below B w wr
  hM : Mats base t M wr
theorem CuG.len {base t F L : List UInt8} {B M b i : Nat} {v : Value} {w wr : World} (h : CuG base t F B M b i L v w wr) (hF : F.length ≤ 4102) : L.length ≤ 4102 := by
  have := congrArg List.length h.hF
  rw [List.length_append] at this
  omega

set_option maxRecDepth 100000 in
set_option maxHeartbeats 8000000 in
theorem cutUp_any (B M : Nat) (base t L F : List UInt8) (A : Option Addr) (c : Nat) (v : Value) (w : World) (hX : Wr B L v w) (hF : L ++ Dl.mkGo base [] t = F) (hFl : F.length ≤ 4102) (hr : Rd w B A t.length (bv t)) (hc : t.length ≤ c ∧ c ≤ 9223372036854775807) (hM : Mats base t M w) (hMB : M ≠ B) (ht : t.length ≤ 4096) (hb : base.length ≤ 4096) :
    Calls Try.prog 18 #[.slice A t.length c, .slice (some ⟨M, 0, none⟩) t.length t.length, .func (.func 20) #[.pointer (some ⟨B, 0, none⟩)] #[], .func (.func 21) #[.pointer (some ⟨B, 0, none⟩)] #[]] w
      fun e w' => e = .returned (.tuple #[]) ∧ ∃ v', Wr B F v' w' ∧ Below B w w' := by
  have HR := Lib.hid hr
  have HMB := Lib.hid hMB
  have HFL := Lib.hid hFl
  have HG0 := Lib.hid (show CuG base t F B M 0 0 L v w w from ⟨Nat.le_refl _, Nat.zero_le _, by simpa using hF, hX, Below.refl _ _, hM⟩)
  have HC := Lib.hid hc
  have ent1 := enters_of Try.func20 (by kernel_rfl) rfl
  have ent2 := enters_of Try.func21 (by kernel_rfl) rfl
  clear hX hF hFl hr hM hMB
  go_enter Try.func18, Try.ntmps18
  go_wp2_with fail
  go_loopw [8, 9] (fun gv iv wr => ∃ (b i : Nat) (L' : List UInt8) (v' : Value), gv = .int .i64 (b : Int) ∧ iv = .int .i64 (i : Int) ∧ CuG base t F B M b i L' v' w wr) (fun _ iv _ => t.length - (intOf iv).toNat)
  case atStart => exact ⟨0, 0, L, v, rfl, rfl, HG0.out⟩
  case round =>
    obtain ⟨b, i, L', v', rfl, rfl, hG⟩ := hrel
    have HG := Lib.hid hG
    have hil := hG.hi
    have hbi := hG.hbi
    have hLl := hG.len HFL.out
    clear hG
    by_cases hlt : i < t.length
    · have hltI : (i : Int) < (t.length : Int) := by omega
      obtain ⟨c0, c1⟩ := HG.out.hM.cell hlt
      have HF1 := Lib.hid HG.out.hF
      have HDR := Lib.hid (List.drop_eq_getElem_cons hlt)
      have HSN := Lib.hid (mid_snoc hbi hlt)
      have HSP := Lib.hid (Dl.bestOf_spec base (t.drop i))
      obtain ⟨x, hx⟩ : ∃ x, x = t[i] := ⟨_, rfl⟩
      rw [← hx] at HDR HSN
      rw [HDR.out] at HF1 c0 c1 HSP
      have HOW := Lib.hid (fun h => Dl.mkGo_own (base := base) (own := (t.take i).drop b) (x := x) (r := t.drop (i + 1)) h)
      have HCO := Lib.hid (fun h => Dl.mkGo_copy (base := base) (own := (t.take i).drop b) (x := x) (r := t.drop (i + 1)) h)
      obtain ⟨k, hk⟩ : ∃ k, k = (Dl.bestOf base (x :: t.drop (i + 1))).1 := ⟨_, rfl⟩
      obtain ⟨s, hs⟩ : ∃ k, k = (Dl.bestOf base (x :: t.drop (i + 1))).2 := ⟨_, rfl⟩
      rw [← hk] at c0 HSP HCO
      rw [← hs] at c1 HSP HOW HCO
      obtain ⟨wa, hwa⟩ : ∃ y, y = wr.alloc (.cells #[.int .i64 (k : Int), .int .i64 (s : Int)] 57) := ⟨_, rfl⟩
      have hAl : Below wr.heap.size wr wa := by rw [hwa]; exact below_alloc wr _
      have hS : Blk wa wr.heap.size 57 #[.int .i64 (k : Int), .int .i64 (s : Int)] := by rw [hwa]; exact Blk.new wr _ _
      have s0 := hS.cell 0
      have s1 := hS.cell 1
      simp only [List.getElem?_toArray, List.getElem?_cons_zero, List.getElem?_cons_succ] at s0 s1
      have HS := Lib.hid hS
      have HMa := Lib.hid (HG.out.hM.later hAl)
      have HWa := Lib.hid (HG.out.hW.later hAl)
      have HBa := Lib.hid (HG.out.hB.trans (hAl.mono (Nat.le_of_lt HG.out.hW.size)))
      have HNE := Lib.hid (Nat.ne_of_gt HG.out.hW.size)
      replace hwa := hwa.symm
      clear hx hk hs hAl hS
      by_cases hs8 : s < 8
      · have hd8 : decide ((s : Int) < 8) = true := decide_eq_true (by omega)
        have HF2 := Lib.hid HF1.out
        rw [HOW.out hs8, ← HSN.out] at HF2
        clear HOW HCO HSP HF1
        go_wp2_with fail
        go_roundw
        case rel => exact ⟨b, i + 1, L', v', rfl, by go_num, ⟨by omega, by omega, HF2.out, HWa.out, HBa.out, HMa.out⟩⟩
        case measure => simp [intOf]; omega
      · have hd8 : decide ((s : Int) < 8) = false := decide_eq_false (by omega)
        have hsl : s ≤ t.length - i := by have := HSP.out.1; simp only [List.length_cons, List.length_drop] at this; omega
        have hkl : k < base.length := by rcases HSP.out.2 with h | h <;> omega
        have HF2 := Lib.hid HF1.out
        rw [HCO.out hs8, ← HDR.out, List.drop_drop] at HF2
        have hw3 : IntKind.i64.wrap ((i : Int) + (s : Int)) = (i : Int) + (s : Int) := IntWalk.i64_in _ (by omega)
        have HMID := Lib.hid (show (t.take (i + s)).drop (i + s) = ([] : List UInt8) from List.drop_eq_nil_of_le (by rw [List.length_take]; omega))
        clear HOW HCO HF1
        by_cases hbe : b < i
        · have hbI : (b : Int) < (i : Int) := by omega
          have hdb : decide (b < i) = true := decide_eq_true hbe
          obtain ⟨ad, hA, hrd, hsl⟩ := run_mid hbe hil HC.out.1 HR.out
          subst hA
          have hml := mid_len (l := t) (i := b) hil
          rw [← hml] at hrd
          have HRD := Lib.hid (hrd.below HBa.out)
          have HFL2 := Lib.hid (flush_some (own := (t.take i).drop b) (by intro e; rw [e] at hml; simp at hml; omega))
          obtain ⟨o, ho⟩ : ∃ o, o = (t.take i).drop b := ⟨_, rfl⟩
          rw [← ho] at hml hrd HRD HFL2 HF2
          have HOO := Lib.hid (ofOwn_any B L' o v' (some (ad.add b)) (c - b) wa HWa.out (by omega) HRD.out (by omega))
          rw [hml] at HOO
          rw [HFL2.out, hml] at HF2
          clear hrd ho
          have HML := Lib.hid hml
          clear hml
          go_wp2_with fail
          refine HOO.out.mono ?_; rintro e w1 ⟨rfl, v1, hh⟩
          have hS1 := hh.stay _ _ _ (by decide) HNE.out HS.out
          have q0 := hS1.cell 0
          have q1 := hS1.cell 1
          simp only [List.getElem?_toArray, List.getElem?_cons_zero, List.getElem?_cons_succ] at q0 q1
          have HH1 := Lib.hid hh
          have HS1 := Lib.hid hS1
          have HOB := Lib.hid (ofBase_any B _ v1 k s w1 hh.box (by rw [List.length_append, List.length_append, HML.out]; have := Wi.num_len_nine (n := 2 * (i - b)) (by omega); omega) (by omega) (by omega))
          clear hh hS1 hwa s0 s1
          go_wp2_with fail
          refine HOB.out.mono ?_; rintro e w2 ⟨rfl, v2, hh⟩
          have hS2 := hh.stay _ _ _ (by decide) HNE.out HS1.out
          have r0 := hS2.cell 0
          have r1 := hS2.cell 1
          simp only [List.getElem?_toArray, List.getElem?_cons_zero, List.getElem?_cons_succ] at r0 r1
          have HH2 := Lib.hid hh
          clear hh hS2 q0 q1
          go_wp2_with fail
          go_roundw
          case rel => exact ⟨i + s, i + s, _, v2, by go_num, by go_num, ⟨Nat.le_refl _, by omega, by rw [HMID.out, ← HF2.out]; simp only [List.append_assoc], HH2.out.box, HBa.out.trans (HH1.out.hb.trans HH2.out.hb), (HMa.out.held HH1.out HMB.out).held HH2.out HMB.out⟩⟩
          case measure => simp [intOf]; omega
        · obtain rfl : b = i := by omega
          have hnb : ¬ (b : Int) < (b : Int) := by omega
          have hdb : decide (b < b) = false := decide_eq_false (by omega)
          have HOB := Lib.hid (ofBase_any B L' v' k s wa HWa.out (by omega) (by omega) (by omega))
          rw [show Dl.flush ((t.take b).drop b) = [] by rw [List.drop_eq_nil_of_le (by rw [List.length_take]; omega)]; rfl, List.nil_append] at HF2
          go_wp2_with fail
          refine HOB.out.mono ?_; rintro e w2 ⟨rfl, v2, hh⟩
          have hS2 := hh.stay _ _ _ (by decide) HNE.out HS.out
          have r0 := hS2.cell 0
          have r1 := hS2.cell 1
          simp only [List.getElem?_toArray, List.getElem?_cons_zero, List.getElem?_cons_succ] at r0 r1
          have HH2 := Lib.hid hh
          clear hh hS2 s0 s1 hwa
          go_wp2_with fail
          go_roundw
          case rel => exact ⟨b + s, b + s, _, v2, by go_num, by go_num, ⟨Nat.le_refl _, by omega, by rw [HMID.out, ← HF2.out]; simp only [List.append_assoc], HH2.out.box, HBa.out.trans HH2.out.hb, HMa.out.held HH2.out HMB.out⟩⟩
          case measure => simp [intOf]; omega
    · have hltI : ¬ (i : Int) < (t.length : Int) := by omega
      obtain rfl : i = t.length := by omega
      have HF1 := Lib.hid HG.out.hF
      rw [List.drop_length, Dl.mkGo_nil, List.take_length] at HF1
      by_cases hbe : b < t.length
      · have hbI : (b : Int) < (t.length : Int) := by omega
        have hdb : decide (b < t.length) = true := decide_eq_true hbe
        obtain ⟨ad, hA, hrd, hsl⟩ := run_rest hbe HC.out.1 HR.out
        subst hA
        have hml : (t.drop b).length = t.length - b := List.length_drop
        rw [← hml] at hrd
        have HRD := Lib.hid (hrd.below HG.out.hB)
        rw [flush_some (own := t.drop b) (by intro e; rw [e] at hml; simp at hml; omega)] at HF1
        obtain ⟨o, ho⟩ : ∃ o, o = t.drop b := ⟨_, rfl⟩
        rw [← ho] at hml hrd HRD HF1
        have HOO := Lib.hid (ofOwn_any B L' o v' (some (ad.add b)) (c - b) wr HG.out.hW (by omega) HRD.out (by omega))
        rw [hml] at HOO
        rw [hml] at HF1
        clear hrd ho hml
        go_wp2_with fail
        refine HOO.out.mono ?_; rintro e w1 ⟨rfl, v1, hh⟩
        have HH1 := Lib.hid hh
        clear hh
        go_wp2_with fail
        go_end0
        have hh := HH1.out
        rw [HF1.out] at hh
        first | exact ⟨rfl, ⟨v1, hh.box⟩, HG.out.hB.trans hh.hb⟩ | exact ⟨rfl, v1, hh.box, HG.out.hB.trans hh.hb⟩
      · have hbI : ¬ (b : Int) < (t.length : Int) := by omega
        have hdb : decide (b < t.length) = false := decide_eq_false hbe
        rw [show t.drop b = [] from List.drop_eq_nil_of_le (by omega), show Dl.flush [] = [] from rfl, List.append_nil] at HF1
        go_wp2_with fail
        go_end0
        have hw := HG.out.hW
        rw [HF1.out] at hw
        first | exact ⟨rfl, ⟨v', hw⟩, HG.out.hB⟩ | exact ⟨rfl, v', hw, HG.out.hB⟩
end Go.Proofs.Ytemcfmneokbhkaa

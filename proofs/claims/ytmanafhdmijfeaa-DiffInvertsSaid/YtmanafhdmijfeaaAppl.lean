/- The document's Apply. -/
import Derived.Test.YtmanafhdmijfeaaCost
import Derived.Test.YtmanafhdmijfeaaStr
import Derived.Test.YtmanafhdmijfeaaBlk
namespace Go.Proofs.Ytmanafhdmijfeaa
open Go Go.RowKit

/-- What comes behind an edit. -/
def put1 (a out : List UInt8) (x : Ed) : List UInt8 := out ++ (if x.kind = 1 then a.take x.n.toNat else x.text)
def goA : List UInt8 → List UInt8 → List Ed → Except Nat (List UInt8)
  | a, out, [] => if a = [] then .ok out else .error 8
  | a, out, x :: L => if mayB x = false then .error 1 else if (a.length : Int) < x.n then .error 8 else if 1000 < (put1 a out x).length then .error 3 else goA (a.drop x.n.toNat) (put1 a out x) L
def applyS (a : List UInt8) (L : List Ed) : Except Nat (List UInt8) := if 1000 < a.length then .error 3 else goA a [] L
/-- The answer. -/
def resA : Except Nat (List UInt8) → Value
  | .ok s => .tuple #[.string (sB s), .int .i64 0]
  | .error e => .tuple #[.string (sB []), .int .i64 (e : Int)]

theorem drop_at {L : List Ed} {k : Nat} {x : Ed} (h : L[k]? = some x) : L.drop k = x :: L.drop (k + 1) := by
  obtain ⟨hk, rfl⟩ := List.getElem?_eq_some_iff.1 h
  exact List.drop_eq_getElem_cons hk

set_option maxRecDepth 100000 in
set_option maxHeartbeats 4000000 in
theorem refApply_any (a : List UInt8) (A : Option Addr) (c : Nat) (L : List Ed) (w : World) (h : Rd w w.heap.size A (L.length * 3) (ev L)) (hl : L.length ≤ 4611686018427387904) (ht : ∀ x ∈ L, x.text.length ≤ 4611686018427387904) (hal : a.length ≤ 4611686018427387904) :
    Calls Try.prog 17 #[.string (sB a), .slice A L.length c] w fun x w' => x = .returned (resA (applyS a L)) ∧ Below w.heap.size w w' := by
  have H := Lib.hid h
  have HTX := Lib.hid ht
  clear h ht
  have hsz := sB_size a
  by_cases hlong : 1000 < a.length
  · have hg : decide ((1000 : Int) < ((sB a).size : Int)) = true := decide_eq_true (by omega)
    go_enter Try.func17, Try.ntmps17
    go_wp2_with fail
    go_ret2
    exact ⟨by unfold applyS; rw [if_pos hlong]; rfl, Below.refl _ _⟩
  have hg : decide ((1000 : Int) < ((sB a).size : Int)) = false := decide_eq_false (by omega)
  have HLG := Lib.hid hlong
  clear hlong hsz
  go_enter Try.func17, Try.ntmps17
  go_wp2_with fail
  clear hg
  go_loopw [0, 6, 7] (fun av ov i wr => ∃ (k : Nat) (a' out : List UInt8), k ≤ L.length ∧ i = .int .i64 (k : Int) ∧ av = .string (sB a') ∧ ov = .string (sB out) ∧ goA a [] L = goA a' out (L.drop k) ∧ a'.length ≤ 1000 ∧ out.length ≤ 1000 ∧ Below w.heap.size w wr) (fun _ _ i _ => L.length - (intOf i).toNat)
  case atStart => exact ⟨0, a, [], Nat.zero_le _, rfl, rfl, rfl, by rw [List.drop_zero], by have := HLG.out; omega, by simp, Below.refl _ _⟩
  case round =>
    obtain ⟨k, a', out, hk, rfl, rfl, rfl, hgo, ha', hout, hB⟩ := hrel
    by_cases hlt : k < L.length
    · have hltI : (k : Int) < (L.length : Int) := by omega
      obtain ⟨x, hx⟩ : ∃ x, L[k]? = some x := ⟨_, List.getElem?_eq_getElem hlt⟩
      obtain ⟨ad, rfl, -, c0, c1, c2⟩ := (H.out.below hB).ed hx
      rw [drop_at hx, goA] at hgo
      have htx := HTX.out x (List.mem_of_getElem? hx)
      have HM := Lib.hid (may_any x)
      unfold edV at HM
      clear hx
      obtain ⟨kd, n, t⟩ := x
      simp only [] at c0 c1 c2 hgo htx HM
      obtain ⟨wa, hwa⟩ : ∃ y, y = wr.alloc (.cells #[.int .i64 kd, .int .i64 n, .string (sB t)] 32) := ⟨_, rfl⟩
      have hS : Blk wa wr.heap.size 32 #[.int .i64 kd, .int .i64 n, .string (sB t)] := by rw [hwa]; exact Blk.new wr _ _
      have hBa : Below w.heap.size w wa := by rw [hwa]; exact hB.alloc hB.size _
      have s0 := hS.cell 0
      have s1 := hS.cell 1
      have s2 := hS.cell 2
      simp only [List.getElem?_toArray, List.getElem?_cons_zero, List.getElem?_cons_succ] at s0 s1 s2
      have HS := Lib.hid hS
      have HGO := Lib.hid hgo
      replace hwa := hwa.symm
      clear hS hgo
      go_wp2_with fail
      refine (HM.out _).mono ?_; rintro e w1 ⟨rfl, hb1⟩
      have hB1 := hBa.trans (hb1.mono hBa.size)
      have hS1 := HS.out.later hb1
      have r0 := hS1.cell 0
      have r1 := hS1.cell 1
      have r2 := hS1.cell 2
      simp only [List.getElem?_toArray, List.getElem?_cons_zero, List.getElem?_cons_succ] at r0 r1 r2
      clear c0 c1 c2 s0 s1 s2 hwa hS1
      by_cases hm : mayB ⟨kd, n, t⟩ = true
      · have hn0 : 0 ≤ n := mayB_n hm
        obtain ⟨m, rfl⟩ := Int.eq_ofNat_of_zero_le hn0
        by_cases hmn : a'.length < m
        · have hd : decide ((sB a').size < m) = true := decide_eq_true (by rw [sB_size]; exact hmn)
          have hr : goA a [] L = .error 8 := by rw [HGO.out, if_neg (by rw [hm]; decide), if_pos (by omega)]
          have HR := Lib.hid hr
          clear hr
          go_wp2_with fail
          go_ret2
          exact ⟨by unfold applyS; rw [if_neg HLG.out, HR.out]; rfl, hB1⟩
        · have hd : decide ((sB a').size < m) = false := decide_eq_false (by rw [sB_size]; exact hmn)
          have hma : m ≤ a'.length := by omega
          have hdr := fun w => run_str_drop (P := Try.prog) Try.underlying9 a' m hma w
          have htm : (a'.take m).length ≤ 1000 := by rw [List.length_take]; omega
          by_cases hk1 : kd = 1
          · subst hk1
            have htk := fun w => run_str_take (P := Try.prog) Try.underlying9 a' m hma w
            have hput : put1 a' out ⟨1, (m : Int), t⟩ = out ++ a'.take m := by unfold put1; simp
            have hcc : ¬ 9223372036854775807 < (sB out).size + (sB (a'.take m)).size := by rw [sB_size, sB_size]; omega
            have hgo2 := HGO.out
            rw [hput, if_neg (by rw [hm]; decide), if_neg (by simp only [Int.ofNat_lt]; omega), Int.toNat_natCast] at hgo2
            by_cases h3 : 1000 < (out ++ a'.take m).length
            · have hd3 : decide ((1000 : Int) < ((sB out).size : Int) + ((sB (a'.take m)).size : Int)) = true := decide_eq_true (by rw [sB_size, sB_size]; rw [List.length_append] at h3; omega)
              rw [if_pos h3] at hgo2
              have HR := Lib.hid hgo2
              clear hgo2 hput h3
              go_wp2_with fail
              go_ret2
              exact ⟨by unfold applyS; rw [if_neg HLG.out, HR.out]; rfl, hB1⟩
            · have hd3 : decide ((1000 : Int) < ((sB out).size : Int) + ((sB (a'.take m)).size : Int)) = false := decide_eq_false (by rw [sB_size, sB_size]; rw [List.length_append] at h3; omega)
              rw [if_neg h3] at hgo2
              have HR := Lib.hid hgo2
              have H3 := Lib.hid h3
              clear hgo2 hput h3
              go_wp2_with fail
              go_roundw
              case rel => exact ⟨k + 1, a'.drop m, out ++ a'.take m, by omega, by go_num, rfl, by rw [sB_append], HR.out, by rw [List.length_drop]; omega, by have := H3.out; omega, hB1⟩
              case measure => simp [intOf]; omega
          · have hkb : (kd == 1) = false := by simpa using hk1
            have hput : put1 a' out ⟨kd, (m : Int), t⟩ = out ++ t := by unfold put1; simp[hk1]
            have hcc : ¬ 9223372036854775807 < (sB out).size + (sB (t)).size := by rw [sB_size, sB_size]; omega
            have hgo2 := HGO.out
            rw [hput, if_neg (by rw [hm]; decide), if_neg (by simp only [Int.ofNat_lt]; omega), Int.toNat_natCast] at hgo2
            by_cases h3 : 1000 < (out ++ t).length
            · have hd3 : decide ((1000 : Int) < ((sB out).size : Int) + ((sB (t)).size : Int)) = true := decide_eq_true (by rw [sB_size, sB_size]; rw [List.length_append] at h3; omega)
              rw [if_pos h3] at hgo2
              have HR := Lib.hid hgo2
              clear hgo2 hput h3
              go_wp2_with fail
              go_ret2
              exact ⟨by unfold applyS; rw [if_neg HLG.out, HR.out]; rfl, hB1⟩
            · have hd3 : decide ((1000 : Int) < ((sB out).size : Int) + ((sB (t)).size : Int)) = false := decide_eq_false (by rw [sB_size, sB_size]; rw [List.length_append] at h3; omega)
              rw [if_neg h3] at hgo2
              have HR := Lib.hid hgo2
              have H3 := Lib.hid h3
              clear hgo2 hput h3
              go_wp2_with fail
              go_roundw
              case rel => exact ⟨k + 1, a'.drop m, out ++ t, by omega, by go_num, rfl, by rw [sB_append], HR.out, by rw [List.length_drop]; omega, by have := H3.out; omega, hB1⟩
              case measure => simp [intOf]; omega
      · have hm' : mayB ⟨kd, n, t⟩ = false := by simpa using hm
        have hr : goA a [] L = .error 1 := by rw [HGO.out, if_pos hm']
        have HR := Lib.hid hr
        clear hr hm
        go_wp2_with fail
        go_ret2
        exact ⟨by unfold applyS; rw [if_neg HLG.out, HR.out]; rfl, hB1⟩
    · have hltI : ¬ (k : Int) < (L.length : Int) := by omega
      obtain rfl : k = L.length := by omega
      rw [List.drop_length, goA] at hgo
      cases a' with
      | nil =>
        rw [if_pos rfl] at hgo
        have hem : (sB []).toList.isEmpty = true := by rw [sB_toList]; rfl
        have hem2 : (sB []).toList = [] := sB_toList []
        have HR := Lib.hid hgo
        clear hgo
        go_wp2_with fail
        go_ret2
        exact ⟨by unfold applyS; rw [if_neg HLG.out, HR.out]; rfl, hB⟩
      | cons y ys =>
        rw [if_neg (by simp)] at hgo
        have hem : (sB (y :: ys)).toList.isEmpty = false := by rw [sB_toList]; rfl
        have hem2 : ¬ (sB (y :: ys)).toList = [] := by rw [sB_toList]; simp
        have HR := Lib.hid hgo
        clear hgo
        go_wp2_with fail
        go_ret2
        exact ⟨by unfold applyS; rw [if_neg HLG.out, HR.out]; rfl, hB⟩
end Go.Proofs.Ytmanafhdmijfeaa

/- The program's goOver: over a script that is done on a text, each edit handed on to a function that keeps what it holds in memory of its own. -/
import Derived.Test.YtmanafhdmijfeaaPBld
import Derived.Test.YtmanafhdmijfeaaStill
import Derived.Test.YtmanafhdmijfeaaInv
namespace Go.Proofs.Ytmanafhdmijfeaa
open Go Go.RowKit

/-- What a function that edits are handed on to must bear. `I a out R T w`: with a left of the text, out made, R of the script left, what it holds lies in blocks below T. -/
structure Hands (f B : Nat) (I : List UInt8 → List UInt8 → List Ed → Nat → World → Prop) : Prop where
  ent : ∀ args w, (callFunc f args).run Try.prog w = .ok (.enter f args) w
  keep : ∀ a out R T w w', I a out R T w → Below w.heap.size w w' → I a out R T w'
  act : ∀ (a out : List UInt8) (x : Ed) (R : List Ed) (T : Nat) (w : World), mayB x = true → x.n ≤ (a.length : Int) → a.length ≤ 1000 → (put1 a out x).length ≤ 1000 → B ≤ w.heap.size → T ≤ w.heap.size → I a out (x :: R) T w →
    Calls Try.prog f #[edV x, .string (sB (a.take x.n.toNat)), .pointer (some ⟨B, 0, none⟩)] w fun e w' => e = .returned (.tuple #[]) ∧ Below B w w' ∧ (∃ T', T' ≤ w'.heap.size ∧ I (a.drop x.n.toNat) (put1 a out x) R T' w') ∧ ∀ g cs, T ≤ g → Blk w g 32 cs → Blk w' g 32 cs

/-- How it ends. -/
def Gone (B : Nat) (I : List UInt8 → List UInt8 → List Ed → Nat → World → Prop) (a : List UInt8) (L : List Ed) (w : World) (e : Ending) (w' : World) : Prop :=
  Below B w w' ∧ ((∃ n : Nat, applyS a L = .error n ∧ e = .returned (.int .i64 (n : Int))) ∨ (∃ s T, applyS a L = .ok s ∧ e = .returned (.int .i64 0) ∧ T ≤ w'.heap.size ∧ I [] s [] T w'))

/-- What stands in the loop. -/
structure OvG (B : Nat) (I : List UInt8 → List UInt8 → List Ed → Nat → World → Prop) (a : List UInt8) (L : List Ed) (w : World) (k : Nat) (a' out : List UInt8) (T : Nat) (wr : World) : Prop where
  go : goA a [] L = goA a' out (L.drop k)
  ha : a'.length ≤ 1000
  ho : out.length ≤ 1000
  hB : Below B w wr
  hT : T ≤ wr.heap.size
  hI : I a' out (L.drop k) T wr

theorem mayB_kind' {x : Ed} (h : mayB x = true) : x.kind = 1 ∨ x.kind = 2 ∨ x.kind = 3 := by
  unfold mayB at h
  split at h
  · omega
  · simp only [Bool.and_eq_true, Bool.or_eq_true, decide_eq_true_eq] at h; omega

theorem put1_cut {a out : List UInt8} {x : Ed} (hm : mayB x = true) (hk : x.kind = 2) : put1 a out x = out := by
  unfold mayB at hm; rw [if_neg (by omega)] at hm
  simp only [Bool.and_eq_true, List.isEmpty_iff] at hm
  unfold put1; rw [if_neg (by omega), hm.2, List.append_nil]
theorem put1_len {a out : List UInt8} {x : Ed} (hm : mayB x = true) (hk : x.kind ≠ 2) (hn : x.n ≤ (a.length : Int)) : ((put1 a out x).length : Int) = out.length + (x.n + x.text.length) := by
  have hn0 := mayB_n hm
  unfold mayB at hm
  unfold put1
  split at hm
  · rename_i h3
    simp only [Bool.and_eq_true, decide_eq_true_eq] at hm
    rw [if_neg (by omega), List.length_append, hm.1]; omega
  · simp only [Bool.and_eq_true, Bool.or_eq_true, decide_eq_true_eq, List.isEmpty_iff] at hm
    rw [if_pos (by omega), List.length_append, List.length_take, hm.2]
    have : x.n.toNat ≤ a.length := by omega
    simp only [List.length_nil]
    omega

set_option maxRecDepth 100000 in
set_option maxHeartbeats 8000000 in
theorem over_any (f B : Nat) (I : List UInt8 → List UInt8 → List Ed → Nat → World → Prop) (hf : Hands f B I) (a : List UInt8) (A : Option Addr) (c T0 : Nat) (L : List Ed) (w : World) (h : Rd w B A (L.length * 3) (ev L)) (hl : L.length ≤ 4611686018427387904) (ht : ∀ x ∈ L, x.text.length ≤ 4611686018427387904)
    (hBw : B ≤ w.heap.size) (hT0 : T0 ≤ w.heap.size) (hI0 : I a [] L T0 w) :
    Calls Try.prog 28 #[.string (sB a), .slice A L.length c, .func (.func f) #[] #[.pointer (some ⟨B, 0, none⟩)]] w (Gone B I a L w) := by
  have H := Lib.hid h
  have HTX := Lib.hid ht
  have HF := Lib.hid hf
  have HI0 := Lib.hid hI0
  clear h ht hf hI0
  have hsz := sB_size a
  by_cases hlong : 1000 < a.length
  · have hg : decide ((1000 : Int) < ((sB a).size : Int)) = true := decide_eq_true (by omega)
    go_enter Try.func28, Try.ntmps28
    go_wp2_with fail
    go_ret
    exact ⟨Below.refl _ _, .inl ⟨3, by unfold applyS; rw [if_pos hlong], rfl⟩⟩
  have hg : decide ((1000 : Int) < ((sB a).size : Int)) = false := decide_eq_false (by omega)
  have HLG := Lib.hid hlong
  clear hlong hsz
  go_enter Try.func28, Try.ntmps28
  go_wp2_with fail
  clear hg
  go_loopw [7, 8, 17] (fun av mv i wr => ∃ (k : Nat) (a' out : List UInt8) (T : Nat) (r : Int), k ≤ L.length ∧ i = .int .i64 (k : Int) ∧ av = .string (sB a') ∧ mv = .int .i64 r ∧ r = 1000 - (out.length : Int) ∧ OvG B I a L w k a' out T wr) (fun _ _ i _ => L.length - (intOf i).toNat)
  case atStart => exact ⟨0, a, [], T0, 1000, Nat.zero_le _, rfl, rfl, rfl, rfl, ⟨by rw [List.drop_zero], by have := HLG.out; omega, by simp, Below.refl _ _, hT0, by rw [List.drop_zero]; exact HI0.out⟩⟩
  case round =>
    obtain ⟨k, a', out, T, r, hk, rfl, rfl, rfl, hr, hG⟩ := hrel
    have hr0 : 0 ≤ r := by have := hG.ho; omega
    have hr1 : r ≤ 1000 := by omega
    have HR := Lib.hid hr
    have HG := Lib.hid hG
    clear hr hG
    by_cases hlt : k < L.length
    · have hltI : (k : Int) < (L.length : Int) := by omega
      obtain ⟨x, hx⟩ : ∃ x, L[k]? = some x := ⟨_, List.getElem?_eq_getElem hlt⟩
      obtain ⟨ad, rfl, -, c0, c1, c2⟩ := (H.out.below HG.out.hB).ed hx
      have hgo := HG.out.go
      rw [drop_at hx, goA] at hgo
      have hII := HG.out.hI
      rw [drop_at hx] at hII
      have htx := HTX.out x (List.mem_of_getElem? hx)
      have HM := Lib.hid (pmay_any x)
      have HACT := Lib.hid (HF.out.act a' out x (L.drop (k + 1)) T)
      have HP1 := Lib.hid (put1_cut (a := a') (out := out) (x := x))
      have HP2 := Lib.hid (put1_len (a := a') (out := out) (x := x))
      unfold edV at HM HACT
      have ha' := HG.out.ha
      have ho' := HG.out.ho
      clear hx
      obtain ⟨kd, n, t⟩ := x
      simp only [] at c0 c1 c2 hgo htx HM HACT HP1 HP2
      obtain ⟨wa, hwa⟩ : ∃ y, y = wr.alloc (.cells #[.int .i64 kd, .int .i64 n, .string (sB t)] 32) := ⟨_, rfl⟩
      have hS : Blk wa wr.heap.size 32 #[.int .i64 kd, .int .i64 n, .string (sB t)] := by rw [hwa]; exact Blk.new wr _ _
      have hAl : Below wr.heap.size wr wa := by rw [hwa]; exact below_alloc wr _
      have s0 := hS.cell 0
      have s1 := hS.cell 1
      have s2 := hS.cell 2
      simp only [List.getElem?_toArray, List.getElem?_cons_zero, List.getElem?_cons_succ] at s0 s1 s2
      have HS := Lib.hid hS
      have HAL := Lib.hid hAl
      have HGO := Lib.hid hgo
      have HII := Lib.hid hII
      replace hwa := hwa.symm
      have hsi : ((sB t).size : Int) = (t.length : Int) := by rw [sB_size]
      have HSZ := Lib.hid hsi
      clear hS hgo hII hAl hsi
      go_wp2_with fail
      refine (HM.out _).mono ?_; rintro e w1 ⟨rfl, hb1⟩
      have HA1 := Lib.hid (HAL.out.trans (hb1.mono HAL.out.size))
      have hS1 := HS.out.later hb1
      have r0 := hS1.cell 0
      have r1 := hS1.cell 1
      have r2 := hS1.cell 2
      simp only [List.getElem?_toArray, List.getElem?_cons_zero, List.getElem?_cons_succ] at r0 r1 r2
      have HS1 := Lib.hid hS1
      clear c0 c1 c2 s0 s1 s2 hwa hS1 HS HAL
      have hBs : B ≤ wr.heap.size := Nat.le_trans hBw HG.out.hB.size
      have HB1 := Lib.hid (HG.out.hB.trans (HA1.out.mono hBs))
      by_cases hm : mayB ⟨kd, n, t⟩ = true
      · have hn0 : 0 ≤ n := mayB_n hm
        obtain ⟨m, rfl⟩ := Int.eq_ofNat_of_zero_le hn0
        by_cases hmn : a'.length < m
        · have hd : decide ((sB a').size < m) = true := decide_eq_true (by rw [sB_size]; exact hmn)
          have HRS := Lib.hid (show goA a [] L = .error 8 by rw [HGO.out, if_neg (by rw [hm]; decide), if_pos (by omega)])
          clear HACT HP1 HP2
          go_wp2_with fail
          go_ret
          exact ⟨HB1.out, .inl ⟨8, by unfold applyS; rw [if_neg HLG.out, HRS.out], rfl⟩⟩
        · have hd : decide ((sB a').size < m) = false := decide_eq_false (by rw [sB_size]; exact hmn)
          have hma : m ≤ a'.length := by omega
          have HGO2 := Lib.hid HGO.out
          rw [if_neg (by rw [hm]; decide), if_neg (by omega), Int.toNat_natCast] at HGO2
          have hdr := fun w => run_str_drop (P := Try.prog) Try.underlying9 a' m hma w
          have htk := fun w => run_str_take (P := Try.prog) Try.underlying9 a' m hma w
          have HMB := Lib.hid hm
          by_cases hk2 : kd = 2
          · subst hk2
            have HPU := Lib.hid (HP1.out hm rfl)
            have hle : (put1 a' out ⟨2, (m : Int), t⟩).length ≤ 1000 := by rw [HPU.out]; exact ho'
            have HGO3 := Lib.hid HGO2.out
            rw [if_neg (by omega)] at HGO3
            have HLE := Lib.hid hle
            have HRN := Lib.hid (show r = 1000 - ((put1 a' out ⟨2, (m : Int), t⟩).length : Int) by rw [HPU.out]; exact HR.out)
            clear hle HP1 HP2 HGO HGO2
            have hrlt : decide (r < 0) = false := decide_eq_false (by omega)
            go_wp2_with fail
            have HSd := Lib.hid HS1.out.drew
            have q0 := HSd.out.cell 0
            have q1 := HSd.out.cell 1
            have q2 := HSd.out.cell 2
            simp only [List.getElem?_toArray, List.getElem?_cons_zero, List.getElem?_cons_succ] at q0 q1 q2
            have HAd := Lib.hid HA1.out.drew
            have HBd := Lib.hid HB1.out.drew
            have hent := HF.out.ent
            refine still_tail 6 (by kernel_rfl) (by kernel_rfl) ?_
            simp only [List.take_succ_cons, List.take_zero, List.drop_succ_cons, List.drop_zero]
            generalize World.drew w1 = wd at *
            with_reducible refine wpStill_step (fun K hK => ?_); go_simp; refine hK _ ?_; clear hK K
            with_reducible refine wpStill_step (fun K hK => ?_); go_simp; refine hK _ ?_; clear hK K
            with_reducible refine wpStill_step (fun K hK => ?_); go_simp; refine hK _ ?_; clear hK K
            with_reducible refine wpStill_step (fun K hK => ?_); go_simp; refine hK _ ?_; clear hK K
            with_reducible refine wpStill_step (fun K hK => ?_); go_simp; refine hK _ ?_; clear hK K
            with_reducible refine wpStill_step (fun K hK => ?_); go_simp; refine hK _ ?_; clear hK K
            refine wpStill_nil ?_
            have HC := Lib.hid (HACT.out wd HMB.out (by omega) HG.out.ha HLE.out (Nat.le_trans hBw HBd.out.size) (Nat.le_trans HG.out.hT HAd.out.size) (HF.out.keep _ _ _ _ _ _ HII.out HAd.out))
            go_wp2_with (go_at_fn f; go_must (refine HC.out.mono ?_; rintro e w2 ⟨rfl, hb2, ⟨T2, hT2, hI2⟩, hst⟩; have HS2 := Lib.hid (hst _ _ HG.out.hT HSd.out); have t0 := HS2.out.cell 0; have t1 := HS2.out.cell 1; have t2 := HS2.out.cell 2; simp only [List.getElem?_toArray, List.getElem?_cons_zero, List.getElem?_cons_succ] at t0 t1 t2; have HN := Lib.hid (OvG.mk (k := k + 1) (HGO3.out) (by rw [List.length_drop]; omega) HLE.out (HBd.out.trans hb2) hT2 hI2); clear hb2 hT2 hI2 hst q0 q1 q2))
            go_roundw
            case rel => exact ⟨k + 1, a'.drop m, _, T2, r, by omega, by go_num, rfl, rfl, HRN.out, HN.out⟩
            case measure => simp [intOf]; omega
          · have hkb : (kd == 2) = false := by simpa using hk2
            have HPU := Lib.hid (HP2.out hm hk2 (by omega))
            have hw1 : IntKind.i64.wrap ((m : Int) + (t.length : Int)) = (m : Int) + (t.length : Int) := IntWalk.i64_in _ (by omega)
            have hw2 : IntKind.i64.wrap (r - ((m : Int) + (t.length : Int))) = r - ((m : Int) + (t.length : Int)) := IntWalk.i64_in _ (by omega)
            have hsi : (sB t).size = t.length := sB_size t
            by_cases h3 : 1000 < (put1 a' out ⟨kd, (m : Int), t⟩).length
            · have hrlt : decide (r - ((m : Int) + (t.length : Int)) < 0) = true := decide_eq_true (by have := HPU.out; have := HR.out; omega)
              have HGO3 := Lib.hid HGO2.out
              rw [if_pos h3] at HGO3
              clear HP1 HP2 HGO HGO2 HACT
              go_wp2_with fail
              go_ret
              exact ⟨HB1.out, .inl ⟨3, by unfold applyS; rw [if_neg HLG.out, HGO3.out], rfl⟩⟩
            · have hrlt : decide (r - ((m : Int) + (t.length : Int)) < 0) = false := decide_eq_false (by have := HPU.out; have := HR.out; omega)
              have HGO3 := Lib.hid HGO2.out
              rw [if_neg h3] at HGO3
              have HLE := Lib.hid (show (put1 a' out ⟨kd, (m : Int), t⟩).length ≤ 1000 by omega)
              have HRN := Lib.hid (show r - ((m : Int) + (t.length : Int)) = 1000 - ((put1 a' out ⟨kd, (m : Int), t⟩).length : Int) by rw [HPU.out, HR.out]; omega)
              clear HP1 HP2 HGO HGO2 h3
              go_wp2_with fail
              have HSd := Lib.hid HS1.out.drew
              have q0 := HSd.out.cell 0
              have q1 := HSd.out.cell 1
              have q2 := HSd.out.cell 2
              simp only [List.getElem?_toArray, List.getElem?_cons_zero, List.getElem?_cons_succ] at q0 q1 q2
              have HAd := Lib.hid HA1.out.drew
              have HBd := Lib.hid HB1.out.drew
              have hent := HF.out.ent
              refine still_tail 6 (by kernel_rfl) (by kernel_rfl) ?_
              simp only [List.take_succ_cons, List.take_zero, List.drop_succ_cons, List.drop_zero]
              generalize World.drew w1 = wd at *
              with_reducible refine wpStill_step (fun K hK => ?_); go_simp; refine hK _ ?_; clear hK K
              with_reducible refine wpStill_step (fun K hK => ?_); go_simp; refine hK _ ?_; clear hK K
              with_reducible refine wpStill_step (fun K hK => ?_); go_simp; refine hK _ ?_; clear hK K
              with_reducible refine wpStill_step (fun K hK => ?_); go_simp; refine hK _ ?_; clear hK K
              with_reducible refine wpStill_step (fun K hK => ?_); go_simp; refine hK _ ?_; clear hK K
              with_reducible refine wpStill_step (fun K hK => ?_); go_simp; refine hK _ ?_; clear hK K
              refine wpStill_nil ?_
              have HC := Lib.hid (HACT.out wd HMB.out (by omega) HG.out.ha HLE.out (Nat.le_trans hBw HBd.out.size) (Nat.le_trans HG.out.hT HAd.out.size) (HF.out.keep _ _ _ _ _ _ HII.out HAd.out))
              go_wp2_with (go_at_fn f; go_must (refine HC.out.mono ?_; rintro e w2 ⟨rfl, hb2, ⟨T2, hT2, hI2⟩, hst⟩; have HS2 := Lib.hid (hst _ _ HG.out.hT HSd.out); have t0 := HS2.out.cell 0; have t1 := HS2.out.cell 1; have t2 := HS2.out.cell 2; simp only [List.getElem?_toArray, List.getElem?_cons_zero, List.getElem?_cons_succ] at t0 t1 t2; have HN := Lib.hid (OvG.mk (k := k + 1) (HGO3.out) (by rw [List.length_drop]; omega) HLE.out (HBd.out.trans hb2) hT2 hI2); clear hb2 hT2 hI2 hst q0 q1 q2))
              go_roundw
              case rel => exact ⟨k + 1, a'.drop m, _, T2, (r-((m:Int)+(t.length:Int))), by omega, by go_num, rfl, rfl, HRN.out, HN.out⟩
              case measure => simp [intOf]; omega
      · have hm' : mayB ⟨kd, n, t⟩ = false := by simpa using hm
        have HRS := Lib.hid (show goA a [] L = .error 1 by rw [HGO.out, if_pos hm'])
        clear HACT HP1 HP2
        go_wp2_with fail
        go_ret
        exact ⟨HB1.out, .inl ⟨1, by unfold applyS; rw [if_neg HLG.out, HRS.out], rfl⟩⟩
    · have hltI : ¬ (k : Int) < (L.length : Int) := by omega
      obtain rfl : k = L.length := by omega
      have hgo := HG.out.go
      have hII := HG.out.hI
      rw [List.drop_length] at hgo hII
      rw [goA] at hgo
      cases a' with
      | nil =>
        rw [if_pos rfl] at hgo
        have hem : (sB []).toList.isEmpty = true := by rw [sB_toList]; rfl
        have hem2 : (sB []).toList = [] := sB_toList []
        have HRS := Lib.hid hgo
        have HII := Lib.hid hII
        clear hgo hII
        go_wp2_with fail
        go_ret
        exact ⟨HG.out.hB, .inr ⟨out, T, by unfold applyS; rw [if_neg HLG.out, HRS.out], rfl, HG.out.hT, HII.out⟩⟩
      | cons y ys =>
        rw [if_neg (by simp)] at hgo
        have hem : (sB (y :: ys)).toList.isEmpty = false := by rw [sB_toList]; rfl
        have hem2 : ¬ (sB (y :: ys)).toList = [] := by rw [sB_toList]; simp
        have HRS := Lib.hid hgo
        clear hgo hII
        go_wp2_with fail
        go_ret
        exact ⟨HG.out.hB, .inl ⟨8, by unfold applyS; rw [if_neg HLG.out, HRS.out], rfl⟩⟩
end Go.Proofs.Ytmanafhdmijfeaa

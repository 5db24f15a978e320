/- The program's ask: a list's nodes, and the numbers of what is asked about them. -/
import Derived.Test.YtebfocfeehajjaaPRead
namespace Go.Proofs.Ytebfocfeehajjaa
open Go Go.RowKit

abbrev Qst := List (List UInt8) × Option Addr × Nat
def qv (q : Qst) : Value := .slice q.2.1 q.1.length q.2.2
theorem qv_at {Ls : List Qst} {i : Nat} {q : Qst} (h : Ls[i]? = some q) : (Ls.map qv)[i]? = some (qv q) := by rw [List.getElem?_map, h]; rfl
/-- Lists of digests that came in. -/
structure QIn (w : World) (Ls : List Qst) : Prop where
  each : ∀ q ∈ Ls, (∀ s ∈ q.1, s.length = 32) ∧ Rd w w.heap.size q.2.1 (q.1.length * 32) (rows bv q.1) ∧ q.1.length * 32 ≤ 140737488351232
theorem QIn.later {w w' : World} {Ls : List Qst} (h : QIn w Ls) (hb : Below w.heap.size w w') : QIn w' Ls :=
  ⟨fun q hq => ⟨(h.each q hq).1, (h.each q hq).2.1.later hb, (h.each q hq).2.2⟩⟩
/-- The rows of numbers that were found. -/
structure Askd (base : Nat) (v : Value) (W : List Value) (K : List (List Nat)) (w : World) : Prop where
  own : w.ownsRow base 64 1 v K.length W
  len : W.length = K.length
  row : ∀ (i : Nat) (L : List Nat), K[i]? = some L → ∃ A' c', W[i]? = some (.slice A' L.length c') ∧ w.ownsRow base 3 1 (.slice A' L.length c') L.length (nv L)
theorem Askd.later {base : Nat} {v : Value} {W : List Value} {K : List (List Nat)} {w w' : World} (h : Askd base v W K w) (hb : Below w.heap.size w w') : Askd base v W K w' :=
  ⟨own_below h.own hb, h.len, fun i L hL => by
    obtain ⟨A', c', h1, h2⟩ := h.row i L hL
    exact ⟨A', c', h1, own_below h2 hb⟩⟩
def numQ (l : List Nod) (q : Qst) : List Nat := q.1.map (Gr.idsOf l).idxOf
/-- What ask leaves. -/
def AskO (l : List Nod) (Ls : List Qst) (w : World) (e : Ending) (w' : World) : Prop :=
  Below w.heap.size w w' ∧ (((chk l).2 ≠ 0 ∧ e = .returned (.tuple #[.pointer none, .slice none 0 0, .int .i64 ((chk l).2 : Int)])) ∨
    ((chk l).2 = 0 ∧ ¬ (∀ q ∈ Ls, ∀ s ∈ q.1, s ∈ Gr.idsOf l) ∧ e = .returned (.tuple #[.pointer none, .slice none 0 0, .int .i64 5])) ∨
    ((chk l).2 = 0 ∧ (∀ q ∈ Ls, ∀ s ∈ q.1, s ∈ Gr.idsOf l) ∧ ∃ gb db mb A c B d V bs AQ cQ W, bs.length = l.length ∧ e = .returned (.tuple #[.pointer (some ⟨gb, 0, none⟩), .slice AQ Ls.length cQ, .int .i64 0]) ∧
      GM w.heap.size gb db mb A c B d V (Gr.idsOf l) (Gr.nums l) bs w' ∧ Askd w.heap.size (.slice AQ Ls.length cQ) W (Ls.map (numQ l)) w'))

structure AkG (l : List Nod) (Ls : List Qst) (i : Nat) (A : Option Addr) (c : Nat) (w1 wr : World) : Prop where
  len : i ≤ Ls.length
  all : ∀ q ∈ Ls.take i, ∀ s ∈ q.1, s ∈ Gr.idsOf l
  ask : ∃ W, Askd w1.heap.size (.slice A i c) W ((Ls.take i).map (numQ l)) wr
  hB : Below w1.heap.size w1 wr

set_option maxRecDepth 100000 in
set_option maxHeartbeats 8000000 in
theorem pask_any (ll : List (Nod × Option Addr × Nat)) (A0 : Option Addr) (c0 BB : Nat) (Ls : List Qst) (AL : Option Addr) (cL BL : Nat) (w : World) (hN : NIn w ll) (hR : Rd w BB A0 (ll.length * 33) (rows nC ll)) (hBB : BB ≤ w.heap.size) (hl : ll.length * 56 ≤ 140737488351232)
    (hQ : QIn w Ls) (hRL : Rd w BL AL Ls.length (Ls.map qv)) (hBL : BL ≤ w.heap.size) (hlL : Ls.length ≤ 1000) :
    Calls Try.prog 37 #[.slice A0 ll.length c0, .slice AL Ls.length cL] w (AskO (nsOf ll) Ls w) := by
  have HRD := Lib.hid (pread_any ll A0 c0 BB w hN hR hBB hl)
  have HQ := Lib.hid hQ
  have HRL := Lib.hid hRL
  have HBL := Lib.hid hBL
  clear hN hR hBB hQ hRL hBL
  obtain ⟨iS, hiS, hzS0, hzS1, hzS2⟩ := info_parts infoS
  go_enter Try.func37, Try.ntmps37
  go_wp2_with fail
  refine HRD.out.mono ?_; rintro e w1 ⟨hb1, ⟨i, er, hch, hne, rfl⟩ | ⟨h0, gb, db, mb, A, c, B, d, V, bs, hbs, rfl, hgm⟩⟩
  · have hb1' : ((er : Int) != 0) = true := by rw [bne_iff_ne]; omega
    have HCH := Lib.hid hch
    have HNE := Lib.hid hne
    have HB1 := Lib.hid hb1
    clear hch hne hb1 HRD
    go_wp2_with fail
    go_ret3
    exact ⟨HB1.out, .inl ⟨by rw [HCH.out]; exact HNE.out, by rw [HCH.out]; rfl⟩⟩
  have HB1 := Lib.hid hb1
  have H0 := Lib.hid h0
  have HBS := Lib.hid hbs
  have HGM := Lib.hid hgm
  clear hb1 h0 hbs hgm HRD
  go_wp2_with fail
  go_loopw [10, 26] (fun lv iv wr => ∃ (i : Nat) (A' : Option Addr) (c' : Nat), iv = .int .i64 (i : Int) ∧ lv = .slice A' i c' ∧ AkG (nsOf ll) Ls i A' c' w1 wr) (fun _ iv _ => Ls.length - (intOf iv).toNat)
  case atStart => exact ⟨0, none, 0, rfl, rfl, ⟨Nat.zero_le _, (fun s hs => by cases hs), ⟨[], World.ownsRow_nil _ _ _ _, rfl, (fun i L h => by cases h)⟩, Below.refl _ _⟩⟩
  case round =>
    obtain ⟨i, A', c', rfl, rfl, hG⟩ := hrel
    obtain ⟨w0, hw0⟩ : ∃ y, y = wr := ⟨_, rfl⟩
    subst hw0
    have HGG := Lib.hid hG
    have hiL := hG.len
    clear hG
    have HBW := Lib.hid (HB1.out.trans (HGG.out.hB.mono HB1.out.size))
    by_cases hlt : i < Ls.length
    · have hltI : (i : Int) < (Ls.length : Int) := by omega
      obtain ⟨⟨L, Aq, cq⟩, hx⟩ : ∃ x, Ls[i]? = some x := ⟨_, List.getElem?_eq_getElem hlt⟩
      obtain ⟨hqD, hqR, hql⟩ := (HQ.out.later HBW.out).each _ (List.mem_of_getElem? hx)
      obtain ⟨ad, u, hA, -, hu, hcu⟩ := (HRL.out.below (HBW.out.mono HBL.out)).spot hlt
      rw [qv_at hx] at hu
      obtain rfl := Option.some.inj hu
      subst hA
      change w0.cell? (ad.add i) = some (.slice Aq L.length cq) at hcu
      have HX := Lib.hid hx
      have HG0 := Lib.hid (HGM.out.below HGG.out.hB)
      have HF := Lib.hid (pfind_any gb mb _ _ _ (Gr.idsOf (nsOf ll)) L Aq cq w0.heap.size w0 HG0.out.cells HG0.out.map hqR (Nat.le_refl _) hql hqD)
      clear hx hu hqD hqR
      go_wp2_with fail
      refine HF.out.mono ?_; rintro e w3 ⟨hb3, ⟨A3, c3, hall, rfl, ho3⟩ | ⟨hall, rfl⟩⟩
      · have HB3 := Lib.hid (HGG.out.hB.trans (hb3.mono HGG.out.hB.size))
        obtain ⟨W, hW⟩ := HGG.out.ask
        have HW := Lib.hid (hW.later hb3)
        have HO3 := Lib.hid (own_base ho3 HGG.out.hB.size)
        have HALL := Lib.hid hall
        have hlen : ((Ls.take i).map (numQ (nsOf ll))).length = i := by rw [List.length_map, List.length_take]; omega
        have HWO := Lib.hid (show w3.ownsRow w1.heap.size 64 1 (.slice A' i c') i W by have h := HW.out.own; rw [hlen] at h; exact h)
        clear hb3 ho3 hall hW HF hcu
        go_wp2_with (refine at_dst 41 rfl ?_; go_must (refine wp_appK _ 1 rfl (.tmp 38) (.tmp 40) 60 60 rfl w1.heap.size 64 iS _ 24 Try.underlying60 hiS hzS0 hzS1 hzS2 rfl (.slice A' i c') i W rfl (HWO.out.alloc (.cells #[.slice A3 L.length c3] 64)) (.slice (some ⟨w3.heap.size, 0, none⟩) 1 1) 1 [.slice A3 L.length c3] rfl (new_srcK 1 Try.underlying60 w3 [.slice A3 L.length c3] 1 1 64 (0, 0) rfl (by simp [Value.oneCell'])) (by unfold maxLen; omega) (by omega) (by have := HB3.out.size; simp; omega) ?_); intro v4 w4 ho4 hg4 _; obtain ⟨A4, c4, hv4, -, -, -⟩ := own_form ho4; subst hv4; have HB4 := Lib.hid (show Below w1.heap.size w1 w4 from (HB3.out.trans ((below_alloc w3 _).mono HB3.out.size)).grown hg4 (by have := HB3.out.size; simp; omega) (fun q hq => (HWO.out.lt q hq).1)); have HO4 := Lib.hid ho4; have HG4 := Lib.hid hg4; clear ho4 hg4)
        go_roundw
        case rel =>
          refine ⟨i + 1, A4, c4, by go_num, rfl, ⟨by omega, ?_, ⟨W ++ [.slice A3 L.length c3], ?_, ?_, ?_⟩, HB4.out⟩⟩
          · intro q hq
            rw [take_snoc HX.out, List.mem_append, List.mem_singleton] at hq
            rcases hq with hq | hq
            · exact HGG.out.all q hq
            · rw [hq]; exact HALL.out
          · have h := HO4.out
            rw [List.length_map, List.length_take, Nat.min_eq_left (show i + 1 ≤ Ls.length by omega)]
            exact h
          · rw [List.length_append, HW.out.len, hlen, List.length_map, List.length_take]; simp; omega
          · rw [take_snoc HX.out, List.map_append]
            intro j K hK
            have hap := HWO.out.alloc (.cells #[.slice A3 L.length c3] 64)
            rcases Nat.lt_or_ge j i with hj | hj
            · rw [List.getElem?_append_left (by rw [hlen]; exact hj)] at hK
              obtain ⟨A5, c5, h1, h2⟩ := HW.out.row j K hK
              exact ⟨A5, c5, by rw [List.getElem?_append_left (by rw [HW.out.len, hlen]; exact hj), h1], (h2.alloc _).kept HG4.out (rows_apart (h2.alloc (.cells #[.slice A3 L.length c3] 64)) hap (by decide))⟩
            · rw [List.getElem?_append_right (by rw [hlen]; exact hj), hlen] at hK
              have h0 : j - i = 0 := by
                have := (List.getElem?_eq_some_iff.1 hK).1
                simp at this; omega
              rw [h0] at hK
              obtain rfl : numQ (nsOf ll) (L, Aq, cq) = K := by simpa using hK
              have hnl : (numQ (nsOf ll) (L, Aq, cq)).length = L.length := by unfold numQ; rw [List.length_map]
              refine ⟨A3, c3, ?_, ?_⟩
              · rw [List.getElem?_append_right (by rw [HW.out.len, hlen]; exact hj), HW.out.len, hlen, h0, hnl]; rfl
              · rw [hnl]
                exact (HO3.out.alloc _).kept HG4.out (rows_apart (HO3.out.alloc (.cells #[.slice A3 L.length c3] 64)) hap (by decide))
        case measure => simp [intOf] <;> omega
      · have HB3 := Lib.hid (HBW.out.trans (hb3.mono HBW.out.size))
        have HALL := Lib.hid hall
        clear hb3 hall HF hcu
        go_wp2_with fail
        go_ret3
        exact ⟨HB3.out, .inr (.inl ⟨H0.out, fun h => HALL.out (h _ (List.mem_of_getElem? HX.out)), rfl⟩)⟩
    · have hltI : ¬ (i : Int) < (Ls.length : Int) := by omega
      obtain rfl : i = Ls.length := by omega
      go_wp2_with fail
      go_ret3
      obtain ⟨W, hW⟩ := HGG.out.ask
      have h2 := HGG.out.all
      rw [List.take_of_length_le (Nat.le_refl _)] at hW h2
      refine ⟨HBW.out, .inr (.inr ⟨H0.out, h2, gb, db, mb, A, c, B, d, V, bs, A', c', W, HBS.out, rfl, HGM.out.below HGG.out.hB, ?_, hW.len, fun j K hK => ?_⟩)⟩
      · exact own_base hW.own HB1.out.size
      · obtain ⟨A5, c5, h1, h2⟩ := hW.row j K hK
        exact ⟨A5, c5, h1, own_base h2 HB1.out.size⟩
end Go.Proofs.Ytebfocfeehajjaa

/- The program's Within, Lacks. -/
import Derived.Test.YtebfocfeehajjaaPApi
import Derived.Test.YtebfocfeehajjaaPDel
namespace Go.Proofs.Ytebfocfeehajjaa
open Go Go.RowKit

theorem Askd.turned {base db n : Nat} {v : Value} {W : List Value} {K : List (List Nat)} {w w' : World} {b gb mb : Nat} {A : Option Addr} {c : Nat} {B : Option Addr} {d : Nat} {V : List Value} {l : List Nod} (h : Askd base v W K w) (hl : Live b gb db mb A c B d V l w) (ht : Turned db n w w') : Askd base v W K w' := by
  obtain ⟨bs, hd⟩ := hl.due
  exact ⟨h.own.kept ht.1 (.inr (row_own_ne h.own hd (by decide))), h.len, fun i L hL => by
    obtain ⟨A', c', h1, h2⟩ := h.row i L hL
    exact ⟨A', c', h1, h2.kept ht.1 (.inr (row_own_ne h2 hd (by decide)))⟩⟩
theorem two_in {w : World} {La : List (List UInt8)} {Aa : Option Addr} {ca : Nat} {Lb : List (List UInt8)} {Ab : Option Addr} {cb : Nat} (h : QIn w [(La, Aa, ca), (Lb, Ab, cb)]) :
    QIn (w.alloc (.cells #[.slice Aa La.length ca, .slice Ab Lb.length cb] 30)) [(La, Aa, ca), (Lb, Ab, cb)] ∧ Rd (w.alloc (.cells #[.slice Aa La.length ca, .slice Ab Lb.length cb] 30)) (w.alloc (.cells #[.slice Aa La.length ca, .slice Ab Lb.length cb] 30)).heap.size (some ⟨w.heap.size, 0, none⟩) 2 ([(La, Aa, ca), (Lb, Ab, cb)].map qv) :=
  ⟨h.later (below_alloc _ _), Rd.of_blk (xs := [.slice Aa La.length ca, .slice Ab Lb.length cb]) (Blk.new w _ _)⟩
/-- An answer that is yes or no. -/
def BolO (er : Nat) (b : Bool) (w : World) (e : Ending) (w' : World) : Prop :=
  Below w.heap.size w w' ∧ ((er ≠ 0 ∧ e = .returned (.tuple #[.bool false, .int .i64 (er : Int)])) ∨ (er = 0 ∧ e = .returned (.tuple #[.bool b, .int .i64 0])))
theorem marks_fnd {l : List Nod} (hl : Gr.Ok l) {r : Qst} (hr : ∀ s ∈ r.1, s ∈ Gr.idsOf l) {d : List UInt8} (hd : d ∈ Gr.idsOf l) : (Gr.marksOf l (numQ l r)).getD (Gr.fnd l d) false = true ↔ d ∈ Gr.aboveL Tx.less l r.1 := by
  obtain ⟨x, hx, hxe⟩ := Gr.fnd_at hd
  rw [marksOf_eq, Gr.marks_iff hl hr hx, Gr.mem_above Tx.less hl hr, hxe]
theorem within_eq {l : List Nod} (hl : Gr.Ok l) {q r : Qst} (hq : ∀ s ∈ q.1, s ∈ Gr.idsOf l) (hr : ∀ s ∈ r.1, s ∈ Gr.idsOf l) : Gr.withinB Tx.less l q.1 r.1 = (numQ l q).all fun n => (Gr.marksOf l (numQ l r)).getD n false := by
  rw [Bool.eq_iff_iff, Gr.within_iff, numQ_eq l q, List.all_map, List.all_eq_true]
  exact ⟨fun h d hd => (marks_fnd hl hr (hq d hd)).2 (h d hd), fun h d hd => (marks_fnd hl hr (hq d hd)).1 (h d hd)⟩
theorem filter_congr2 {α : Type} {p q : α → Bool} : ∀ {L : List α}, (∀ x ∈ L, p x = q x) → L.filter p = L.filter q
  | [], _ => rfl
  | x :: L, h => by rw [List.filter_cons, List.filter_cons, h x (by simp), filter_congr2 fun y hy => h y (by simp [hy])]
theorem lacks_eq {l : List Nod} (hl : Gr.Ok l) {q r : Qst} (hr : ∀ s ∈ r.1, s ∈ Gr.idsOf l) {K : List Nat} (hK : ∀ n ∈ K, n < (Gr.idsOf l).length) (hk : (K.map fun n => (Gr.idsOf l).getD n []) = Gr.orderL Tx.less l q.1) :
    ((K.filter fun n => !(Gr.marksOf l (numQ l r)).getD n false).map fun n => (Gr.idsOf l).getD n []) = Gr.lacksL Tx.less l q.1 r.1 := by
  have hp : ∀ d, (!(Gr.aboveL Tx.less l r.1).contains d) = true ↔ d ∉ Gr.aboveL Tx.less l r.1 := fun d => by simp
  rw [Gr.lacks_is Tx.less hp, ← hk, List.filter_map]
  congr 1
  refine filter_congr2 fun n hn => ?_
  have hx := List.getElem?_eq_getElem (l := l) (i := n) (by have := hK n hn; rw [Gr.ids_len] at this; exact this)
  have hm : (Gr.marksOf l (numQ l r)).getD n false = true ↔ (Gr.idsOf l).getD n [] ∈ Gr.aboveL Tx.less l r.1 := by
    rw [marksOf_eq, Gr.marks_iff hl hr hx, Gr.mem_above Tx.less hl hr, getD_id hx]
  show _ = !(Gr.aboveL Tx.less l r.1).contains ((Gr.idsOf l).getD n [])
  congr 1
  rw [Bool.eq_iff_iff, hm]
  simp
theorem turned_row {base gb db mb : Nat} {A : Option Addr} {c : Nat} {B : Option Addr} {d : Nat} {V : List Value} {l : List Nod} {w w' w'' : World} {n : Nat} {row : Option Nat} (h : Live base gb db mb A c B d V l w) (ht : Turned db n w w') (hg : w'.grownBy w'' row) (hr : ∀ r, row = some r → w.heap.size ≤ r) : Turned db n w w'' := by
  obtain ⟨h1, bs, h2, h3⟩ := ht
  have hs := h.size.2
  exact ⟨⟨hg.os.trans h1.os, hg.tape.trans h1.tape, hg.output.trans h1.output, Nat.le_trans h1.size hg.size, fun k hk hne => (hg.block k (Nat.lt_of_lt_of_le hk h1.size) (fun e => by have := hr k e.symm; omega)).trans (h1.block k hk hne)⟩, bs, h2, h3.grown hg (fun e => by have := hr db e.symm; omega)⟩
theorem Askd.at0 {base : Nat} {AQ : Option Addr} {n cQ : Nat} {W : List Value} {K : List (List Nat)} {w : World} (h : Askd base (.slice AQ n cQ) W K w) (hn : K.length = n) (h0 : 0 < n) :
    ∃ g, AQ = some ⟨g, 0, none⟩ ∧ ∀ (i : Nat) (L : List Nat), K[i]? = some L → ∃ A' c', w.cell? ⟨g, i, none⟩ = some (.slice A' L.length c') ∧ w.ownsRow base 3 1 (.slice A' L.length c') L.length (nv L) := by
  have ho := h.own
  rw [hn] at ho
  rcases ho.2 with ⟨-, h2⟩ | ⟨g, cap', cur, hv, -⟩
  · omega
  · injection hv with e1
    subst e1
    refine ⟨g, rfl, fun i L hL => ?_⟩
    obtain ⟨ad, A', c', hA, hc, hr⟩ := h.at hn hL
    obtain rfl := Option.some.inj hA
    rw [add_zero0] at hc
    exact ⟨A', c', hc, hr⟩

set_option maxRecDepth 100000 in
set_option maxHeartbeats 4000000 in
theorem api_within (ll : List (Nod × Option Addr × Nat)) (A0 : Option Addr) (c0 BB : Nat) (w : World) (hN : NIn w ll) (hR : Rd w BB A0 (ll.length * 33) (rows nC ll)) (hBB : BB ≤ w.heap.size) (hl : ll.length * 56 ≤ 140737488351232)
    (La : List (List UInt8)) (Aa : Option Addr) (ca : Nat) (Lb : List (List UInt8)) (Ab : Option Addr) (cb : Nat) (hQ : QIn w [(La, Aa, ca), (Lb, Ab, cb)]) :
    Calls Try.prog 25 #[.slice A0 ll.length c0, .slice Aa La.length ca, .slice Ab Lb.length cb] w (BolO (askE (nsOf ll) [La, Lb]) (Gr.withinB Tx.less (nsOf ll) La Lb) w) := by
  have hqa := (hQ.each _ (List.mem_cons.2 (.inl rfl))).2.2
  have hqb := (hQ.each _ (List.mem_cons.2 (.inr (List.mem_singleton.2 rfl)))).2.2
  obtain ⟨wa, hwa⟩ : ∃ y, y = w.alloc (.cells #[.slice Aa La.length ca, .slice Ab Lb.length cb] 30) := ⟨_, rfl⟩
  have hba : Below w.heap.size w wa := by rw [hwa]; exact below_alloc w _
  obtain ⟨hQ', hRL⟩ := two_in hQ
  rw [← hwa] at hQ' hRL
  have HAK := Lib.hid (pask_any ll A0 c0 BB [(La, Aa, ca), (Lb, Ab, cb)] (some ⟨w.heap.size, 0, none⟩) 2 wa.heap.size wa (hN.later hba) (hR.below (hba.mono hBB)) (Nat.le_trans hBB hba.size) hl hQ' hRL (Nat.le_refl _) (Nat.le_of_ble_eq_true rfl))
  have HBA := Lib.hid hba
  replace hwa := hwa.symm
  clear hN hR hBB hQ hQ' hRL hba
  go_enter Try.func25, Try.ntmps25
  go_wp2_with fail
  refine HAK.out.mono ?_; intro e w1 ha; obtain ⟨hb1, ⟨hne, rfl⟩ | ⟨he0, hin, gb, db, mb, A, c, B, d, V, AQ, cQ, W, rfl, hlv, hak⟩⟩ := askdO ha
  · have hb1' : (((askE (nsOf ll) [La, Lb] : Nat) : Int) != 0) = true := by rw [bne_iff_ne]; have : askE (nsOf ll) [La, Lb] ≠ 0 := hne; omega
    have HNE := Lib.hid hne
    have HBZ := Lib.hid (HBA.out.trans (hb1.mono HBA.out.size))
    clear hne hb1 ha HAK
    go_wp2_with fail
    go_ret2
    exact ⟨HBZ.out, .inl ⟨HNE.out, rfl⟩⟩
  have HBZ := Lib.hid (HBA.out.trans (hb1.mono HBA.out.size))
  have HE0 := Lib.hid he0
  have HINA := Lib.hid (hin _ (List.mem_cons.2 (.inl rfl)))
  have HINB := Lib.hid (hin _ (List.mem_cons.2 (.inr (List.mem_singleton.2 rfl))))
  have HLV := Lib.hid hlv
  have HQK := Lib.hid hak
  have HBW := Lib.hid hb1
  obtain ⟨ga, hA, hat⟩ := hak.at0 rfl (Nat.le_of_ble_eq_true rfl)
  subst hA
  obtain ⟨A1, c1, hcu, hro⟩ := hat 1 (numQ (nsOf ll) (Lb, Ab, cb)) rfl
  clear hat
  have hnl : (numQ (nsOf ll) (Lb, Ab, cb)).length ≤ 4611686018427387904 := by unfold numQ; rw [List.length_map]; show Lb.length ≤ _; omega
  obtain ⟨S, hS⟩ : ∃ S, S = numQ (nsOf ll) (Lb, Ab, cb) := ⟨_, rfl⟩
  rw [← hS] at hcu hro hnl
  have HS := Lib.hid hS
  have HU := Lib.hid (live_under hlv _ A1 c1 S hro hnl (by rw [hS]; exact numQ_lt HINB.out))
  clear hb1 ha HAK he0 hin hlv hak hro hnl hS
  go_wp2_with fail
  refine HU.out.mono ?_; rintro e w2 ⟨rfl, hmk, ht2⟩
  have HB2 := Lib.hid (HBZ.out.trans (turned_below' HLV.out HBA.out.size ht2))
  have HOK := Lib.hid HLV.out.ok
  obtain ⟨ga2, hA2, hat⟩ := (HQK.out.turned HLV.out ht2).at0 rfl (Nat.le_of_ble_eq_true rfl)
  obtain ⟨A2, c2, hcu2, hro2⟩ := hat 0 (numQ (nsOf ll) (La, Aa, ca)) rfl
  injection hA2 with hA2
  injection hA2 with hA2
  subst hA2
  clear hat
  obtain ⟨S2, hS2⟩ : ∃ S2, S2 = numQ (nsOf ll) (La, Aa, ca) := ⟨_, rfl⟩
  rw [← hS2] at hcu2 hro2
  have HS2 := Lib.hid hS2
  have hs2l : S2.length ≤ 4611686018427387904 := by rw [hS2]; unfold numQ; rw [List.length_map]; show La.length ≤ _; omega
  have HSN := Lib.hid (show ∀ n ∈ S2, n < (Gr.idsOf (nsOf ll)).length by rw [hS2]; exact numQ_lt HINA.out)
  have HN200 := Lib.hid (chk_gr HLV.out.ok).1
  have HRO := Lib.hid hro2
  have HMK := Lib.hid hmk
  have HML := Lib.hid (show (Gr.marksOf (nsOf ll) S).length = (Gr.idsOf (nsOf ll)).length by unfold Gr.marksOf; rw [Gr.mkTo_length, Gr.sets_length, List.length_replicate, Gr.ids_len])
  have HRES := Lib.hid (within_eq (chk_gr HOK.out).2.2.2.2 (q := (La, Aa, ca)) (r := (Lb, Ab, cb)) HINA.out HINB.out)
  rw [← HS.out, ← HS2.out] at HRES
  obtain ⟨N, hNN⟩ : ∃ N, N = (Gr.idsOf (nsOf ll)).length := ⟨_, rfl⟩
  obtain ⟨M, hM⟩ : ∃ M, M = Gr.marksOf (nsOf ll) S := ⟨_, rfl⟩
  rw [← hNN] at HSN HN200 HML
  rw [← hNN]
  rw [← hM] at HMK HML HRES
  clear hmk ht2 HU HLV hcu HQK hS2 hro2 HS HS2 hNN hM
  go_wp2_with fail
  go_loopw [35] (fun iv wr => ∃ i : Nat, iv = .int .i64 (i : Int) ∧ i ≤ S2.length ∧ (∀ n ∈ S2.take i, M.getD n false = true) ∧ Below w2.heap.size w2 wr) (fun iv _ => S2.length - (intOf iv).toNat)
  case atStart => exact ⟨0, rfl, Nat.zero_le _, (fun n hn => by cases hn), Below.refl _ _⟩
  case round =>
    obtain ⟨i, rfl, hi, hall, hbr⟩ := hrel
    have HBR := Lib.hid hbr
    have HALL := Lib.hid hall
    clear hbr hall
    by_cases hlt : i < S2.length
    · have hltI : (i : Int) < (S2.length : Int) := by omega
      obtain ⟨x, hx⟩ : ∃ x, S2[i]? = some x := ⟨_, List.getElem?_eq_getElem hlt⟩
      have hxn := HSN.out x (List.mem_of_getElem? hx)
      obtain ⟨ad2, z, hA', -, hz, hcz⟩ := (Rd.of_own (own_below HRO.out HBR.out)).spot hlt
      subst hA'
      have hz' := nv_at hx
      rw [hz] at hz'
      obtain rfl := Option.some.inj hz'
      have hv : wr.cell? ⟨w1.heap.size, x, none⟩ = some (.bool (M.getD x false)) := ((HMK.out.later HBR.out).cell x).trans (bl_at (by rw [HML.out]; exact hxn))
      have hxI : (x : Int) < (N : Int) := by omega
      have HX := Lib.hid hx
      clear hx hxn hz hz'
      cases hb : M.getD x false with
      | true =>
        rw [hb] at hv
        go_wp2_with fail
        go_roundw
        case rel =>
          refine ⟨i + 1, by go_num, by omega, ?_, HBR.out⟩
          intro n hn
          rw [take_snoc HX.out, List.mem_append, List.mem_singleton] at hn
          rcases hn with hn | hn
          · exact HALL.out n hn
          · rw [hn]; exact hb
        case measure => simp [intOf] <;> omega
      | false =>
        rw [hb] at hv
        go_wp2_with fail
        go_ret2
        refine ⟨HB2.out.trans (HBR.out.mono HB2.out.size), .inr ⟨HE0.out, ?_⟩⟩
        have : Gr.withinB Tx.less (nsOf ll) La Lb = false := by
          have h : Gr.withinB Tx.less (nsOf ll) La Lb = S2.all fun n => M.getD n false := HRES.out
          rw [h, List.all_eq_false]
          exact ⟨x, List.mem_of_getElem? HX.out, by rw [hb]; decide⟩
        rw [this]; rfl
    · obtain rfl : i = S2.length := by omega
      have hltI : ¬ (S2.length : Int) < (S2.length : Int) := by omega
      rw [List.take_of_length_le (Nat.le_refl _)] at HALL
      go_wp2_with fail
      go_ret2
      refine ⟨HB2.out.trans (HBR.out.mono HB2.out.size), .inr ⟨HE0.out, ?_⟩⟩
      have : Gr.withinB Tx.less (nsOf ll) La Lb = true := by
        have h : Gr.withinB Tx.less (nsOf ll) La Lb = S2.all fun n => M.getD n false := HRES.out
        rw [h, List.all_eq_true]
        exact HALL.out
      rw [this]; rfl

set_option maxRecDepth 100000 in
set_option maxHeartbeats 4000000 in
theorem api_lacks (ll : List (Nod × Option Addr × Nat)) (A0 : Option Addr) (c0 BB : Nat) (w : World) (hN : NIn w ll) (hR : Rd w BB A0 (ll.length * 33) (rows nC ll)) (hBB : BB ≤ w.heap.size) (hl : ll.length * 56 ≤ 140737488351232)
    (La : List (List UInt8)) (Aa : Option Addr) (ca : Nat) (Lb : List (List UInt8)) (Ab : Option Addr) (cb : Nat) (hQ : QIn w [(La, Aa, ca), (Lb, Ab, cb)]) :
    Calls Try.prog 29 #[.slice A0 ll.length c0, .slice Aa La.length ca, .slice Ab Lb.length cb] w (LstO (askE (nsOf ll) [La, Lb]) (Gr.lacksL Tx.less (nsOf ll) La Lb) w) := by
  have hqa := (hQ.each _ (List.mem_cons.2 (.inl rfl))).2.2
  have hqb := (hQ.each _ (List.mem_cons.2 (.inr (List.mem_singleton.2 rfl)))).2.2
  obtain ⟨wa, hwa⟩ : ∃ y, y = w.alloc (.cells #[.slice Aa La.length ca, .slice Ab Lb.length cb] 30) := ⟨_, rfl⟩
  have hba : Below w.heap.size w wa := by rw [hwa]; exact below_alloc w _
  obtain ⟨hQ', hRL⟩ := two_in hQ
  rw [← hwa] at hQ' hRL
  have HAK := Lib.hid (pask_any ll A0 c0 BB [(La, Aa, ca), (Lb, Ab, cb)] (some ⟨w.heap.size, 0, none⟩) 2 wa.heap.size wa (hN.later hba) (hR.below (hba.mono hBB)) (Nat.le_trans hBB hba.size) hl hQ' hRL (Nat.le_refl _) (Nat.le_of_ble_eq_true rfl))
  have HBA := Lib.hid hba
  replace hwa := hwa.symm
  clear hN hR hBB hQ hQ' hRL hba
  go_enter Try.func29, Try.ntmps29
  go_wp2_with fail
  refine HAK.out.mono ?_; intro e w1 ha; obtain ⟨hb1, ⟨hne, rfl⟩ | ⟨he0, hin, gb, db, mb, A, c, B, d, V, AQ, cQ, W, rfl, hlv, hak⟩⟩ := askdO ha
  · have hb1' : (((askE (nsOf ll) [La, Lb] : Nat) : Int) != 0) = true := by rw [bne_iff_ne]; have : askE (nsOf ll) [La, Lb] ≠ 0 := hne; omega
    have HNE := Lib.hid hne
    have HBZ := Lib.hid (HBA.out.trans (hb1.mono HBA.out.size))
    clear hne hb1 ha HAK
    go_wp2_with fail
    go_ret2
    exact ⟨HBZ.out, .inl ⟨HNE.out, rfl⟩⟩
  have HBZ := Lib.hid (HBA.out.trans (hb1.mono HBA.out.size))
  have HE0 := Lib.hid he0
  have HINA := Lib.hid (hin _ (List.mem_cons.2 (.inl rfl)))
  have HINB := Lib.hid (hin _ (List.mem_cons.2 (.inr (List.mem_singleton.2 rfl))))
  have HLV := Lib.hid hlv
  have HQK := Lib.hid hak
  have HBW := Lib.hid hb1
  obtain ⟨ga, hA, hat⟩ := hak.at0 rfl (Nat.le_of_ble_eq_true rfl)
  subst hA
  obtain ⟨A1, c1, hcu, hro⟩ := hat 1 (numQ (nsOf ll) (Lb, Ab, cb)) rfl
  clear hat
  have hnl : (numQ (nsOf ll) (Lb, Ab, cb)).length ≤ 4611686018427387904 := by unfold numQ; rw [List.length_map]; show Lb.length ≤ _; omega
  obtain ⟨S, hS⟩ : ∃ S, S = numQ (nsOf ll) (Lb, Ab, cb) := ⟨_, rfl⟩
  rw [← hS] at hcu hro hnl
  have HS := Lib.hid hS
  have HU := Lib.hid (live_under hlv _ A1 c1 S hro hnl (by rw [hS]; exact numQ_lt HINB.out))
  clear hb1 ha HAK he0 hin hlv hak hro hnl hS
  go_wp2_with fail
  refine HU.out.mono ?_; rintro e w2 ⟨rfl, hmk, ht2⟩
  have HLV2 := Lib.hid (HLV.out.turned ht2)
  have HB2 := Lib.hid (HBZ.out.trans (turned_below' HLV.out HBA.out.size ht2))
  have HQ2 := Lib.hid (HQK.out.turned HLV.out ht2)
  have HMK := Lib.hid hmk
  have HSZ := Lib.hid (show w1.heap.size < w2.heap.size from hmk.lt)
  have hdb1 : db < w1.heap.size := HLV.out.size.2
  clear hmk ht2 HU HLV hcu HQK
  obtain ⟨w3, hw3⟩ : ∃ y, y = w2.alloc (.cells #[.slice (some ⟨w1.heap.size, 0, none⟩) (Gr.idsOf (nsOf ll)).length (Gr.idsOf (nsOf ll)).length] 66) := ⟨_, rfl⟩
  have hb3 : Below w2.heap.size w2 w3 := by rw [hw3]; exact below_alloc w2 _
  have HB3 := Lib.hid (HB2.out.trans (hb3.mono HB2.out.size))
  have HLV3 := Lib.hid (HLV2.out.below hb3)
  have HN200 := Lib.hid (chk_gr HLV2.out.ok).1
  have HML := Lib.hid (show (Gr.marksOf (nsOf ll) S).length = (Gr.idsOf (nsOf ll)).length by unfold Gr.marksOf; rw [Gr.mkTo_length, Gr.sets_length, List.length_replicate, Gr.ids_len])
  have HLT := Lib.hid (show LateW w2.heap.size w1.heap.size (Gr.idsOf (nsOf ll)).length (Gr.marksOf (nsOf ll) S) w3 from ⟨by rw [hw3]; exact Blk.new w2 _ _, HMK.out.later hb3⟩)
  have HSZ3 := Lib.hid (show w2.heap.size < w3.heap.size by rw [hw3]; simp)
  obtain ⟨ga2, hA2, hat⟩ := (HQ2.out.later hb3).at0 rfl (Nat.le_of_ble_eq_true rfl)
  obtain ⟨A2, c2, hcu2, hro2⟩ := hat 0 (numQ (nsOf ll) (La, Aa, ca)) rfl
  injection hA2 with hA2
  injection hA2 with hA2
  subst hA2
  obtain ⟨S2, hS2⟩ : ∃ S2, S2 = numQ (nsOf ll) (La, Aa, ca) := ⟨_, rfl⟩
  rw [← hS2] at hcu2 hro2
  have HS2 := Lib.hid hS2
  have hs2l : S2.length ≤ 4611686018427387904 := by rw [hS2]; unfold numQ; rw [List.length_map]; show La.length ≤ _; omega
  have HOR := Lib.hid (live_order HLV3.out _ A2 c2 S2 hro2 hs2l (by rw [hS2]; exact numQ_lt HINA.out))
  replace hw3 := hw3.symm
  clear hat hb3 hro2 hS2 HLV2 HQ2 HMK
  go_wp2_with (rw [hw3])
  refine HOR.out.mono ?_; rintro e w4 ⟨A4, c4, R0, K, rfl, ho4, ht4, hris, hK, hKl⟩
  have HB4 := Lib.hid (HB3.out.trans (turned_below' HLV3.out HBA.out.size ht4))
  have HLV4 := Lib.hid (HLV3.out.turned ht4)
  have hok := (chk_gr HLV4.out.ok).2.2.2.2
  rw [HS2.out] at hris
  obtain ⟨hra, hlt⟩ := ris_order hok HLV4.out.dig (q := (La, Aa, ca)) HINA.out hris hK
  have HRA := Lib.hid hra
  have HLK := Lib.hid hlt
  obtain ⟨bs0, hdu⟩ := HLV3.out.due
  have HDF := Lib.hid (pdelfunc_any w2.heap.size w1.heap.size _ _ w4 ⟨HLT.out.box.grown ht4.1 (fun e => blk_ne HLT.out.box hdu (by decide) (Option.some.inj e)), HLT.out.row.grown ht4.1 (fun e => by have e2 := Option.some.inj e; omega)⟩ HML.out HN200.out _ A4 c4 K ho4 hlt hKl)
  obtain ⟨g0, g1, hlk⟩ : (K.filter fun n => !(Gr.marksOf (nsOf ll) S).getD n false).length ≤ 200 ∧ (∀ n ∈ K.filter fun n => !(Gr.marksOf (nsOf ll) S).getD n false, n < (Gr.idsOf (nsOf ll)).length) ∧ ((K.filter fun n => !(Gr.marksOf (nsOf ll) S).getD n false).map fun n => (Gr.idsOf (nsOf ll)).getD n []) = Gr.lacksL Tx.less (nsOf ll) La Lb := by
    refine ⟨Nat.le_trans (List.length_filter_le _ _) hKl, fun n hn => hlt n (List.mem_filter.1 hn).1, ?_⟩
    rw [HS.out]
    exact lacks_eq hok (q := (La, Aa, ca)) (r := (Lb, Ab, cb)) HINB.out hlt hra
  obtain ⟨F, hF⟩ : ∃ F, F = K.filter fun n => !(Gr.marksOf (nsOf ll) S).getD n false := ⟨_, rfl⟩
  rw [← hF] at HDF g0 g1 hlk
  have HLK2 := Lib.hid hlk
  have HG1 := Lib.hid g1
  have HO4 := Lib.hid ho4
  have HT4 := Lib.hid ht4
  clear hris hok hK hra hlt HRA HLK HOR HLT hdu hF g1 hlk ho4 ht4
  go_wp2_with fail
  refine HDF.out.mono ?_; rintro e w5 ⟨rfl, ho5, hg5⟩
  have HB5 := Lib.hid (HB4.out.grown hg5 HB4.out.size (fun q hq => Nat.le_trans HB3.out.size (HO4.out.lt q hq).1))
  have HLV5 := Lib.hid (HLV3.out.turned (turned_row HLV3.out HT4.out hg5 (fun q hq => (HO4.out.lt q hq).1)))
  have HRL := Lib.hid g0
  have HTE := Lib.hid (live_tell HLV5.out w5.heap.size A4 c4 F (Rd.of_own ho5) (Nat.le_refl _) g0 HG1.out)
  clear ho5 hg5 HDF HLV4
  go_wp2_with fail
  refine HTE.out.mono ?_; rintro e w6 ⟨A6, c6, rfl, ho6, hb6⟩
  have HB6 := Lib.hid (HB5.out.trans (hb6.mono HB5.out.size))
  have hlen : F.length = (Gr.lacksL Tx.less (nsOf ll) La Lb).length := by rw [← HLK2.out, List.length_map]
  rw [HLK2.out] at ho6
  rw [hlen] at ho6 HRL ⊢
  have HO6 := Lib.hid (own_base ho6 HB5.out.size)
  clear hb6 ho6 HTE hlen
  go_wp2_with fail
  go_ret2
  exact ⟨HB6.out, .inr ⟨HE0.out, HRL.out, A6, c6, rfl, HO6.out⟩⟩
end Go.Proofs.Ytebfocfeehajjaa

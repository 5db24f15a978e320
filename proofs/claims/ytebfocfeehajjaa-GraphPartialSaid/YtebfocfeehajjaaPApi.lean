/- The program's Check, Above, Heads. -/
import Derived.Test.YtebfocfeehajjaaTie
namespace Go.Proofs.Ytebfocfeehajjaa
open Go Go.RowKit

theorem Rd.of_blk {w : World} {g : Nat} {t : TypeId} {xs : List Value} (h : Blk w g t xs.toArray) : Rd w w.heap.size (some ⟨g, 0, none⟩) xs.length xs :=
  ⟨rfl, fun _ => ⟨_, rfl, h.lt, fun k v hv => by rw [add_zero0]; exact blk_at h hv⟩⟩
theorem addr0 (a : Addr) : a.add 0 = a := by unfold Addr.add; simp
def ChkO (l : List Nod) (w : World) (e : Ending) (w' : World) : Prop := Below w.heap.size w w' ∧ e = .returned (.tuple #[.int .i64 ((chk l).1 : Int), .int .i64 ((chk l).2 : Int)])

theorem chk_zero : ∀ (ah : List (List UInt8)) (l : List Nod), (chkGo ah l).2 = 0 → (chkGo ah l).1 = 0
  | _, [], _ => rfl
  | ah, x :: r, h => by
    rw [chkGo] at h ⊢
    split at h
    · rename_i h1; exact absurd h h1
    · rename_i h1; rw [if_neg h1]; exact chk_zero _ r h

set_option maxRecDepth 100000 in
set_option maxHeartbeats 4000000 in
theorem api_check (ll : List (Nod × Option Addr × Nat)) (A0 : Option Addr) (c0 BB : Nat) (w : World) (hN : NIn w ll) (hR : Rd w BB A0 (ll.length * 33) (rows nC ll)) (hBB : BB ≤ w.heap.size) (hl : ll.length * 56 ≤ 140737488351232) :
    Calls Try.prog 14 #[.slice A0 ll.length c0] w (ChkO (nsOf ll) w) := by
  have HRD := Lib.hid (pread_any ll A0 c0 BB w hN hR hBB hl)
  clear hN hR hBB
  go_enter Try.func14, Try.ntmps14
  go_wp2_with fail
  refine HRD.out.mono ?_; rintro e w1 ⟨hb1, ⟨i, er, hch, hne, rfl⟩ | ⟨h0, gb, db, mb, A, c, B, d, V, bs, hbs, rfl, hgm⟩⟩
  · go_wp2_with fail
    go_ret2
    exact ⟨hb1, by rw [hch]; rfl⟩
  · go_wp2_with fail
    go_ret2
    refine ⟨hb1, ?_⟩
    have h1 : (chk (nsOf ll)).1 = 0 := by
      unfold chk at h0 ⊢
      split at h0
      · cases h0
      · rename_i hn; rw [if_neg hn]; exact chk_zero _ _ h0
    rw [h0, h1]; rfl

theorem turned_below' {base gb db mb : Nat} {A : Option Addr} {c : Nat} {B : Option Addr} {d : Nat} {V : List Value} {l : List Nod} {w w' : World} (h : Live base gb db mb A c B d V l w) {k n : Nat} (hk : k ≤ base) (ht : Turned db n w w') : Below k w w' := (turned_below h ht).mono hk
theorem one_in {w : World} {L : List (List UInt8)} {Aq : Option Addr} {cq : Nat} (h : QIn w [(L, Aq, cq)]) : QIn (w.alloc (.cells #[.slice Aq L.length cq] 30)) [(L, Aq, cq)] ∧ Rd (w.alloc (.cells #[.slice Aq L.length cq] 30)) (w.alloc (.cells #[.slice Aq L.length cq] 30)).heap.size (some ⟨w.heap.size, 0, none⟩) 1 ([(L, Aq, cq)].map qv) :=
  ⟨h.later (below_alloc _ _), Rd.of_blk (xs := [.slice Aq L.length cq]) (Blk.new w _ _)⟩

set_option maxRecDepth 100000 in
set_option maxHeartbeats 4000000 in
theorem api_above (ll : List (Nod × Option Addr × Nat)) (A0 : Option Addr) (c0 BB : Nat) (w : World) (hN : NIn w ll) (hR : Rd w BB A0 (ll.length * 33) (rows nC ll)) (hBB : BB ≤ w.heap.size) (hl : ll.length * 56 ≤ 140737488351232)
    (L : List (List UInt8)) (Aq : Option Addr) (cq : Nat) (hQ : QIn w [(L, Aq, cq)]) :
    Calls Try.prog 18 #[.slice A0 ll.length c0, .slice Aq L.length cq] w (LstO (askE (nsOf ll) [L]) (Gr.aboveL Tx.less (nsOf ll) L) w) := by
  have hql := (hQ.each _ (List.mem_singleton.2 rfl)).2.2
  obtain ⟨wa, hwa⟩ : ∃ y, y = w.alloc (.cells #[.slice Aq L.length cq] 30) := ⟨_, rfl⟩
  have hba : Below w.heap.size w wa := by rw [hwa]; exact below_alloc w _
  obtain ⟨hQ', hRL⟩ := one_in hQ
  rw [← hwa] at hQ' hRL
  have HAK := Lib.hid (pask_any ll A0 c0 BB [(L, Aq, cq)] (some ⟨w.heap.size, 0, none⟩) 1 wa.heap.size wa (hN.later hba) (hR.below (hba.mono hBB)) (Nat.le_trans hBB hba.size) hl hQ' hRL (Nat.le_refl _) (Nat.le_of_ble_eq_true rfl))
  have HBA := Lib.hid hba
  replace hwa := hwa.symm
  clear hN hR hBB hQ hQ' hRL hba
  go_enter Try.func18, Try.ntmps18
  go_wp2_with fail
  refine HAK.out.mono ?_; intro e w1 ha; obtain ⟨hb1, ⟨hne, rfl⟩ | ⟨he0, hin, gb, db, mb, A, c, B, d, V, AQ, cQ, W, rfl, hlv, hak⟩⟩ := askdO ha
  · have hb1' : (((askE (nsOf ll) [L] : Nat) : Int) != 0) = true := by rw [bne_iff_ne]; have : askE (nsOf ll) [L] ≠ 0 := hne; omega
    have HNE := Lib.hid hne
    have HBZ := Lib.hid (HBA.out.trans (hb1.mono HBA.out.size))
    clear hne hb1 ha HAK
    go_wp2_with fail
    go_ret2
    exact ⟨HBZ.out, .inl ⟨HNE.out, rfl⟩⟩
  have HBZ := Lib.hid (HBA.out.trans (hb1.mono HBA.out.size))
  have HE0 := Lib.hid he0
  have HIN := Lib.hid (hin _ (List.mem_singleton.2 rfl))
  have HLV := Lib.hid hlv
  obtain ⟨ad, A', c', hA, hcu, hro⟩ := hak.at rfl (i := 0) (L := numQ (nsOf ll) (L, Aq, cq)) rfl
  subst hA
  rw [addr0] at hcu
  have hnl : (numQ (nsOf ll) (L, Aq, cq)).length ≤ 4611686018427387904 := by unfold numQ; rw [List.length_map]; show L.length ≤ _; omega
  obtain ⟨S, hS⟩ : ∃ S, S = numQ (nsOf ll) (L, Aq, cq) := ⟨_, rfl⟩
  rw [← hS] at hcu hro hnl
  have HS := Lib.hid hS
  have HU := Lib.hid (live_under hlv _ A' c' S hro hnl (by rw [hS]; exact numQ_lt HIN.out))
  clear hb1 ha HAK he0 hin hlv hak hro hnl hS
  go_wp2_with fail
  refine HU.out.mono ?_; rintro e w2 ⟨rfl, hmk, ht2⟩
  have HLV2 := Lib.hid (HLV.out.turned ht2)
  have HRI := Lib.hid (live_rising HLV2.out w1.heap.size _ (Gr.idsOf (nsOf ll)).length hmk (by unfold Gr.marksOf; rw [Gr.mkTo_length, Gr.sets_length, List.length_replicate, Gr.ids_len]))
  have HB2 := Lib.hid (HBZ.out.trans (turned_below' HLV.out HBA.out.size ht2))
  clear hmk ht2 HU HLV hcu
  go_wp2_with fail
  refine HRI.out.mono ?_; rintro e w3 ⟨A3, c3, R, rfl, ho3, hb3, hris⟩
  have HB3 := Lib.hid (HB2.out.trans (hb3.mono HB2.out.size))
  have HLV3 := Lib.hid (HLV2.out.below hb3)
  have hok := (chk_gr HLV3.out.ok).2.2.2.2
  rw [HS.out] at hris
  have HRA := Lib.hid (ris_above hok HLV3.out.dig (q := (L, Aq, cq)) HIN.out hris)
  have HRL := Lib.hid (Nat.le_trans hris.len (chk_gr HLV3.out.ok).1)
  have HTE := Lib.hid (live_tell HLV3.out w3.heap.size A3 c3 R (Rd.of_own ho3) (Nat.le_refl _) (HRL.out) (fun n hn => by have := marks_lt ((hris.mem n).1 hn); rwa [marksOf_eq, Gr.marks_length, ← Gr.ids_len] at this))
  clear hb3 ho3 hris hok HLV2 HRI
  go_wp2_with fail
  refine HTE.out.mono ?_; rintro e w4 ⟨A4, c4, rfl, ho4, hb4⟩
  have HB4 := Lib.hid (HB3.out.trans (hb4.mono HB3.out.size))
  have hlen : R.length = (Gr.aboveL Tx.less (nsOf ll) L).length := by rw [← HRA.out, List.length_map]
  rw [HRA.out] at ho4
  rw [hlen] at ho4 HRL ⊢
  have HO4 := Lib.hid (own_base ho4 HB3.out.size)
  clear hb4 ho4 HTE hlen
  go_wp2_with fail
  go_ret2
  exact ⟨HB4.out, .inr ⟨HE0.out, HRL.out, A4, c4, rfl, HO4.out⟩⟩
set_option maxRecDepth 100000 in
set_option maxHeartbeats 4000000 in
theorem api_heads (ll : List (Nod × Option Addr × Nat)) (A0 : Option Addr) (c0 BB : Nat) (w : World) (hN : NIn w ll) (hR : Rd w BB A0 (ll.length * 33) (rows nC ll)) (hBB : BB ≤ w.heap.size) (hl : ll.length * 56 ≤ 140737488351232)
    (L : List (List UInt8)) (Aq : Option Addr) (cq : Nat) (hQ : QIn w [(L, Aq, cq)]) :
    Calls Try.prog 22 #[.slice A0 ll.length c0, .slice Aq L.length cq] w (LstO (askE (nsOf ll) [L]) (Gr.headsL Tx.less (nsOf ll) L) w) := by
  have hql := (hQ.each _ (List.mem_singleton.2 rfl)).2.2
  obtain ⟨wa, hwa⟩ : ∃ y, y = w.alloc (.cells #[.slice Aq L.length cq] 30) := ⟨_, rfl⟩
  have hba : Below w.heap.size w wa := by rw [hwa]; exact below_alloc w _
  obtain ⟨hQ', hRL⟩ := one_in hQ
  rw [← hwa] at hQ' hRL
  have HAK := Lib.hid (pask_any ll A0 c0 BB [(L, Aq, cq)] (some ⟨w.heap.size, 0, none⟩) 1 wa.heap.size wa (hN.later hba) (hR.below (hba.mono hBB)) (Nat.le_trans hBB hba.size) hl hQ' hRL (Nat.le_refl _) (Nat.le_of_ble_eq_true rfl))
  have HBA := Lib.hid hba
  replace hwa := hwa.symm
  clear hN hR hBB hQ hQ' hRL hba
  go_enter Try.func22, Try.ntmps22
  go_wp2_with fail
  refine HAK.out.mono ?_; intro e w1 ha; obtain ⟨hb1, ⟨hne, rfl⟩ | ⟨he0, hin, gb, db, mb, A, c, B, d, V, AQ, cQ, W, rfl, hlv, hak⟩⟩ := askdO ha
  · have hb1' : (((askE (nsOf ll) [L] : Nat) : Int) != 0) = true := by rw [bne_iff_ne]; have : askE (nsOf ll) [L] ≠ 0 := hne; omega
    have HNE := Lib.hid hne
    have HBZ := Lib.hid (HBA.out.trans (hb1.mono HBA.out.size))
    clear hne hb1 ha HAK
    go_wp2_with fail
    go_ret2
    exact ⟨HBZ.out, .inl ⟨HNE.out, rfl⟩⟩
  have HBZ := Lib.hid (HBA.out.trans (hb1.mono HBA.out.size))
  have HE0 := Lib.hid he0
  have HIN := Lib.hid (hin _ (List.mem_singleton.2 rfl))
  have HLV := Lib.hid hlv
  obtain ⟨ad, A', c', hA, hcu, hro⟩ := hak.at rfl (i := 0) (L := numQ (nsOf ll) (L, Aq, cq)) rfl
  subst hA
  rw [addr0] at hcu
  have hnl : (numQ (nsOf ll) (L, Aq, cq)).length ≤ 4611686018427387904 := by unfold numQ; rw [List.length_map]; show L.length ≤ _; omega
  obtain ⟨S, hS⟩ : ∃ S, S = numQ (nsOf ll) (L, Aq, cq) := ⟨_, rfl⟩
  rw [← hS] at hcu hro hnl
  have HS := Lib.hid hS
  have HU := Lib.hid (live_heads hlv _ A' c' S hro hnl (by rw [hS]; exact numQ_lt HIN.out))
  clear hb1 ha HAK he0 hin hlv hak hro hnl hS
  go_wp2_with fail
  refine HU.out.mono ?_; rintro e w3 ⟨A3, c3, R, rfl, ho3, ht3, hris⟩
  have HB3 := Lib.hid (HBZ.out.trans (turned_below' HLV.out HBA.out.size ht3))
  have HLV3 := Lib.hid (HLV.out.turned ht3)
  have hok := (chk_gr HLV3.out.ok).2.2.2.2
  rw [HS.out] at hris
  have HRA := Lib.hid (ris_heads hok HLV3.out.dig (T := L) (numOf_q (q := (L, Aq, cq)) HIN.out) hris)
  have HRL := Lib.hid (Nat.le_trans hris.len (chk_gr HLV3.out.ok).1)
  have HTE := Lib.hid (live_tell HLV3.out w3.heap.size A3 c3 R (Rd.of_own ho3) (Nat.le_refl _) (HRL.out) (fun n hn => by have := marks_lt ((hris.mem n).1 hn); rwa [unw_length, Gr.sets_length, List.length_replicate, ← Gr.ids_len] at this))
  clear ho3 hris hok HLV HU ht3
  go_wp2_with fail
  refine HTE.out.mono ?_; rintro e w4 ⟨A4, c4, rfl, ho4, hb4⟩
  have HB4 := Lib.hid (HB3.out.trans (hb4.mono HB3.out.size))
  have hlen : R.length = (Gr.headsL Tx.less (nsOf ll) L).length := by rw [← HRA.out, List.length_map]
  rw [HRA.out] at ho4
  rw [hlen] at ho4 HRL ⊢
  have HO4 := Lib.hid (own_base ho4 HB3.out.size)
  clear hb4 ho4 HTE hlen
  go_wp2_with fail
  go_ret2
  exact ⟨HB4.out, .inr ⟨HE0.out, HRL.out, A4, c4, rfl, HO4.out⟩⟩

set_option maxRecDepth 100000 in
set_option maxHeartbeats 4000000 in
theorem api_order (ll : List (Nod × Option Addr × Nat)) (A0 : Option Addr) (c0 BB : Nat) (w : World) (hN : NIn w ll) (hR : Rd w BB A0 (ll.length * 33) (rows nC ll)) (hBB : BB ≤ w.heap.size) (hl : ll.length * 56 ≤ 140737488351232)
    (L : List (List UInt8)) (Aq : Option Addr) (cq : Nat) (hQ : QIn w [(L, Aq, cq)]) :
    Calls Try.prog 28 #[.slice A0 ll.length c0, .slice Aq L.length cq] w (LstO (askE (nsOf ll) [L]) (Gr.orderL Tx.less (nsOf ll) L) w) := by
  have hql := (hQ.each _ (List.mem_singleton.2 rfl)).2.2
  obtain ⟨wa, hwa⟩ : ∃ y, y = w.alloc (.cells #[.slice Aq L.length cq] 30) := ⟨_, rfl⟩
  have hba : Below w.heap.size w wa := by rw [hwa]; exact below_alloc w _
  obtain ⟨hQ', hRL⟩ := one_in hQ
  rw [← hwa] at hQ' hRL
  have HAK := Lib.hid (pask_any ll A0 c0 BB [(L, Aq, cq)] (some ⟨w.heap.size, 0, none⟩) 1 wa.heap.size wa (hN.later hba) (hR.below (hba.mono hBB)) (Nat.le_trans hBB hba.size) hl hQ' hRL (Nat.le_refl _) (Nat.le_of_ble_eq_true rfl))
  have HBA := Lib.hid hba
  replace hwa := hwa.symm
  clear hN hR hBB hQ hQ' hRL hba
  go_enter Try.func28, Try.ntmps28
  go_wp2_with fail
  refine HAK.out.mono ?_; intro e w1 ha; obtain ⟨hb1, ⟨hne, rfl⟩ | ⟨he0, hin, gb, db, mb, A, c, B, d, V, AQ, cQ, W, rfl, hlv, hak⟩⟩ := askdO ha
  · have hb1' : (((askE (nsOf ll) [L] : Nat) : Int) != 0) = true := by rw [bne_iff_ne]; have : askE (nsOf ll) [L] ≠ 0 := hne; omega
    have HNE := Lib.hid hne
    have HBZ := Lib.hid (HBA.out.trans (hb1.mono HBA.out.size))
    clear hne hb1 ha HAK
    go_wp2_with fail
    go_ret2
    exact ⟨HBZ.out, .inl ⟨HNE.out, rfl⟩⟩
  have HBZ := Lib.hid (HBA.out.trans (hb1.mono HBA.out.size))
  have HE0 := Lib.hid he0
  have HIN := Lib.hid (hin _ (List.mem_singleton.2 rfl))
  have HLV := Lib.hid hlv
  obtain ⟨ad, A', c', hA, hcu, hro⟩ := hak.at rfl (i := 0) (L := numQ (nsOf ll) (L, Aq, cq)) rfl
  subst hA
  rw [addr0] at hcu
  have hnl : (numQ (nsOf ll) (L, Aq, cq)).length ≤ 4611686018427387904 := by unfold numQ; rw [List.length_map]; show L.length ≤ _; omega
  obtain ⟨S, hS⟩ : ∃ S, S = numQ (nsOf ll) (L, Aq, cq) := ⟨_, rfl⟩
  rw [← hS] at hcu hro hnl
  have HS := Lib.hid hS
  have HU := Lib.hid (live_order hlv _ A' c' S hro hnl (by rw [hS]; exact numQ_lt HIN.out))
  clear hb1 ha HAK he0 hin hlv hak hro hnl hS
  go_wp2_with fail
  refine HU.out.mono ?_; rintro e w3 ⟨A3, c3, R0, K, rfl, ho3, ht3, hris, hK, hKl⟩
  have HB3 := Lib.hid (HBZ.out.trans (turned_below' HLV.out HBA.out.size ht3))
  have HLV3 := Lib.hid (HLV.out.turned ht3)
  have hok := (chk_gr HLV3.out.ok).2.2.2.2
  rw [HS.out] at hris
  obtain ⟨hra, hlt⟩ := ris_order hok HLV3.out.dig (q := (L, Aq, cq)) HIN.out hris hK
  have HRA := Lib.hid hra
  have HRL := Lib.hid hKl
  have HTE := Lib.hid (live_tell HLV3.out w3.heap.size A3 c3 K (Rd.of_own ho3) (Nat.le_refl _) hKl hlt)
  clear ho3 hris hok HLV HU ht3 hK hKl hra hlt
  go_wp2_with fail
  refine HTE.out.mono ?_; rintro e w4 ⟨A4, c4, rfl, ho4, hb4⟩
  have HB4 := Lib.hid (HB3.out.trans (hb4.mono HB3.out.size))
  have hlen : K.length = (Gr.orderL Tx.less (nsOf ll) L).length := by rw [← HRA.out, List.length_map]
  rw [HRA.out] at ho4
  rw [hlen] at ho4 HRL ⊢
  have HO4 := Lib.hid (own_base ho4 HB3.out.size)
  clear hb4 ho4 HTE hlen
  go_wp2_with fail
  go_ret2
  exact ⟨HB4.out, .inr ⟨HE0.out, HRL.out, A4, c4, rfl, HO4.out⟩⟩
end Go.Proofs.Ytebfocfeehajjaa

/- The document's wrong, Check. -/
import Derived.Test.YtebfocfeehajjaaRFind
import Derived.Test.YtebfocfeehajjaaPRise
import Derived.Test.YtebfocfeehajjaaRLess
namespace Go.Proofs.Ytebfocfeehajjaa
open Go Go.RowKit

/-- The nodes ahead of one, as the document finds among them. -/
theorem rfind_take (ll : List (Nod × Option Addr × Nat)) (A : Option Addr) (c i : Nat) (d : List UInt8) (BB : Nat) (w : World) (hid : ∀ t ∈ ll, t.1.id.length = 32) (hR : Rd w BB A (ll.length * 33) (rows nC ll)) (hB : BB ≤ w.heap.size) (hl : ll.length * 56 ≤ 140737488351232) (hd : d.length = 32) (hi : i ≤ ll.length) :
    Calls Try.prog 32 #[.slice A i c, .agg (bv d).toArray] w (Ret (.int .i64 (fndI ((Gr.idsOf (nsOf ll)).take i) d)) w) := by
  have hlen : (ll.take i).length = i := by rw [List.length_take]; omega
  have hrows : (rows nC ll).take (i * 33) = rows nC (ll.take i) := by
    have key : ∀ (L : List (Nod × Option Addr × Nat)) (i : Nat), (∀ t ∈ L, t.1.id.length = 32) → (rows nC L).take (i * 33) = rows nC (L.take i) := by
      intro L
      induction L with
      | nil => intro i _; simp [rows]
      | cons y L ih =>
        intro i hy
        cases i with
        | zero => simp [rows]
        | succ i =>
          have ih' := ih i (fun t ht => hy t (by simp [ht]))
          have hyl : (nC y).length = 33 := ndC_length (hy y (by simp))
          unfold rows at ih' ⊢
          rw [List.take_succ_cons, List.flatMap_cons, List.flatMap_cons, ← ih', List.take_append, hyl, List.take_of_length_le (by rw [hyl]; omega), show (i + 1) * 33 - 33 = i * 33 by omega]
    exact key ll i hid
  have h := rfind_any (ll.take i) A c d BB w (fun t ht => hid t (List.mem_of_mem_take ht)) (by rw [hlen, ← hrows]; exact hR.take (by omega)) hB (by rw [hlen]; omega) hd
  rw [hlen] at h
  have e : Gr.idsOf (nsOf (ll.take i)) = (Gr.idsOf (nsOf ll)).take i := by unfold Gr.idsOf nsOf; rw [List.map_take, List.map_take]
  rw [e] at h
  exact h

set_option maxRecDepth 100000 in
set_option maxHeartbeats 4000000 in
theorem rwrong_any (ll : List (Nod × Option Addr × Nat)) (A : Option Addr) (c i : Nat) (x : Nod) (Ax : Option Addr) (cx BB : Nat) (w : World) (hN : NIn w ll) (hR : Rd w BB A (ll.length * 33) (rows nC ll)) (hB : BB ≤ w.heap.size) (hl : ll.length * 56 ≤ 140737488351232) (hcp : ll.length ≤ c ∧ c ≤ 9223372036854775807) (hx : ll[i]? = some (x, Ax, cx)) :
    Calls Try.prog 36 #[.slice A ll.length c, .int .i64 (i : Int)] w (Ret (.int .i64 (wrongN ((Gr.idsOf (nsOf ll)).take i) x : Int)) w) := by
  have hlt : i < ll.length := (List.getElem?_eq_some_iff.1 hx).1
  have hltI : (i : Int) < (ll.length : Int) := by omega
  have hic : i ≤ c := by omega
  have hicI : (i : Int) ≤ (c : Int) := by omega
  have hc63 : c ≤ 9223372036854775807 := hcp.2
  have hid : ∀ t ∈ ll, t.1.id.length = 32 := fun t ht => (hN.each t ht).1
  obtain ⟨hxl, hpd, hpr, hpl⟩ := hN.each _ (List.mem_of_getElem? hx)
  obtain ⟨ad, hA, hbx, hca⟩ := hR.elem (by decide) (fun s hs => ndC_length (hid s hs)) hx
  subst hA
  have k0 : w.cell? ((ad.add (i * 33)).add 32) = some (.slice Ax x.ps.length cx) := hca 32 _ (ndC_ps hxl)
  have k1 : w.cell? ⟨(ad.add (i * 33)).block, (ad.add (i * 33)).off + 32, none⟩ = some (.slice Ax x.ps.length cx) := k0
  have HW := Lib.hid (show wrongN ((Gr.idsOf (nsOf ll)).take i) x = if 8 < x.ps.length then 4 else if Cm.rises Tx.less x.ps = false then 7 else if x.id ∈ (Gr.idsOf (nsOf ll)).take i then 6 else if ∀ p ∈ x.ps, p ∈ (Gr.idsOf (nsOf ll)).take i then 0 else 5 from rfl)
  have HN := Lib.hid hN
  have HR := Lib.hid hR
  have HB := Lib.hid hB
  have HC := Lib.hid hca
  have HXL := Lib.hid hxl
  have HPD := Lib.hid hpd
  have HPR := Lib.hid hpr
  have HID := Lib.hid hid
  have HBX := Lib.hid hbx
  clear hN hR hB hca hxl hpd hpr hid hx hbx
  by_cases h8 : 8 < x.ps.length
  · have d8 : decide ((8 : Int) < (x.ps.length : Int)) = true := decide_eq_true (by omega)
    have d8' : decide (8 < x.ps.length) = true := decide_eq_true h8
    rw [if_pos h8] at HW
    clear h8
    go_enter Try.func36, Try.ntmps36
    go_wp2_with fail
    go_ret
    exact ⟨by rw [HW.out]; rfl, Below.refl _ _⟩
  have d8 : decide ((8 : Int) < (x.ps.length : Int)) = false := decide_eq_false (by omega)
  have d8' : decide (8 < x.ps.length) = false := decide_eq_false h8
  rw [if_neg h8] at HW
  go_enter Try.func36, Try.ntmps36
  go_wp2_with fail
  go_loopw [6] (fun iv wr => ∃ k : Nat, iv = .int .i64 ((k : Int) + 1) ∧ (k = 0 ∨ k + 1 ≤ x.ps.length) ∧ Hid (∀ j a b, j < k → x.ps[j]? = some a → x.ps[j + 1]? = some b → Tx.less a b = true) ∧ Below w.heap.size w wr) (fun iv _ => x.ps.length + 1 - (intOf iv).toNat)
  case atStart => exact ⟨0, rfl, .inl rfl, (fun j a b h => absurd h (Nat.not_lt_zero _)), Below.refl _ _⟩
  case round =>
    obtain ⟨k, rfl, hk, HUP, hB⟩ := hrel
    have HBl := Lib.hid hB
    clear hB
    by_cases hlk : k + 1 < x.ps.length
    · have hltI : (k : Int) + 1 < (x.ps.length : Int) := by omega
      have hiI : (k : Int) < (x.ps.length : Int) := by omega
      have hn1 : 0 ≤ (k : Int) + 1 := by omega
      have ht1 : ((k : Int) + 1).toNat = k + 1 := by omega
      have hw1 : IntKind.i64.wrap ((k : Int) + 1 - 1) = (k : Int) := by rw [IntWalk.i64_in _ (by omega)]; omega
      have hw2 : IntKind.i64.wrap ((k : Int) + 1 + 1) = ((k + 1 : Nat) : Int) + 1 := by rw [IntWalk.i64_in _ (by omega)]; omega
      obtain ⟨pa, hpa⟩ : ∃ a, x.ps[k]? = some a := ⟨_, List.getElem?_eq_getElem (by omega)⟩
      obtain ⟨pb, hpb⟩ : ∃ a, x.ps[k + 1]? = some a := ⟨_, List.getElem?_eq_getElem hlk⟩
      have hla := HPD.out pa (List.mem_of_getElem? hpa)
      have hlb := HPD.out pb (List.mem_of_getElem? hpb)
      obtain ⟨ap, hA, hbl, hca⟩ := (HPR.out.later HBl.out).elem (by decide) (fun s hs => by rw [bv_length]; exact HPD.out s hs) hpa
      obtain ⟨ap', hA', -, hcb⟩ := (HPR.out.later HBl.out).elem (by decide) (fun s hs => by rw [bv_length]; exact HPD.out s hs) hpb
      have hAe : ap = ap' := by rw [hA] at hA'; exact Option.some.inj hA'
      subst hAe
      subst hA
      have HCA := Lib.hid (fun u : Grw wr => grw_cells u.prop (ad := ap.add (k * 32)) (by rw [block_add]; exact hbl) hca)
      have HCB := Lib.hid (fun u : Grw wr => grw_cells u.prop (ad := ap.add ((k + 1) * 32)) (by rw [block_add]; exact hbl) hcb)
      have HLA := Lib.hid (show (Try.prog.info? 47).map (·.size) = some (bv pa).length by rw [bv_length, hla]; exact infoD32)
      have HLB := Lib.hid (show (Try.prog.info? 47).map (·.size) = some (bv pb).length by rw [bv_length, hlb]; exact infoD32)
      have HLS := Lib.hid (fun w => rless_any pa pb w hla hlb)
      have HPA := Lib.hid hpa
      have HPB := Lib.hid hpb
      clear hca hcb hla hlb hpa hpb hA' hk
      go_wp2_with fail
      refine wp_region_grow (by kernel_rfl) (by kernel_rfl) ?_
      go_big_quiet_step (fail)
      go_big_quiet_step (fail)
      go_big_quiet_step (fail)
      go_big_quiet_step (fail)
      refine quiet_load_any (by rfl) 47 (.tmp 25) rfl (ap.add (k * 32)) rfl (bv pa) HCA.out _ Try.underlying47 rfl HLA.out ?_; go_simp
      go_big_quiet_step (fail)
      go_big_quiet_step (fail)
      go_big_quiet_step (fail)
      refine quiet_load_any (by rfl) 47 (.tmp 29) rfl (ap.add ((k + 1) * 32)) rfl (bv pb) HCB.out _ Try.underlying47 rfl HLB.out ?_; go_simp
      go_big_quiet_step ((go_at_call 50; exact grow_call (HLS.out _)))
      go_big_quiet_step (fail)
      refine wpQuiet_nil ?_
      first | (intro _ hw'; obtain ⟨u, hw''⟩ := hw'; subst hw'') | intro u
      have HBu := Lib.hid (HBl.out.trans (u.prop.mono HBl.out.size))
      by_cases hls : Tx.less pa pb = true
      · rw [hls]
        go_wp2_with fail
        go_roundw
        case rel =>
          refine ⟨k + 1, by go_num, .inr (by omega), Lib.hid (fun j a b hj h1 h2 => ?_), HBu.out⟩
          rcases Nat.lt_or_ge j k with h | h
          · exact HUP.out j a b h h1 h2
          · obtain rfl : j = k := by omega
            rw [HPA.out] at h1
            rw [HPB.out] at h2
            obtain rfl := Option.some.inj h1
            obtain rfl := Option.some.inj h2
            exact hls
        case measure => simp [intOf] <;> omega
      · have hlf : Tx.less pa pb = false := by simpa using hls
        have HRB := Lib.hid (rises_bad x.ps k pa pb HPA.out HPB.out hlf)
        rw [if_pos HRB.out] at HW
        rw [hlf]
        go_wp2_with fail
        go_ret
        exact ⟨by rw [HW.out]; rfl, HBu.out⟩
    · have hltI : ¬ (k : Int) + 1 < (x.ps.length : Int) := by omega
      have hra := rises_all (less := Tx.less) x.ps (fun j a b h1 h2 => HUP.out j a b (by have := (List.getElem?_eq_some_iff.1 h2).1; omega) h1 h2)
      rw [if_neg (by rw [hra]; decide)] at HW
      clear HUP hra
      obtain ⟨ah, hah⟩ : ∃ a, a = (Gr.idsOf (nsOf ll)).take i := ⟨_, rfl⟩
      have HWT := Lib.hid (show wrongN ((Gr.idsOf (nsOf ll)).take i) x = wrongN ah x by rw [hah])
      rw [← hah] at HW
      have HCN := Lib.hid (fun u : Grw wr => fun j v (hv : (bv x.id)[j]? = some v) => grw_cells (w := w) (HBl.out.trans (u.prop.mono HBl.out.size)) (ad := ad.add (i * 33)) (by rw [block_add]; have := HB.out; have := HBX.out; omega) HC.out j v (ndC_id hv))
      have HLX := Lib.hid (show (Try.prog.info? 47).map (·.size) = some (bv x.id).length by rw [bv_length, HXL.out]; exact infoD32)
      have HRl := Lib.hid (fun (u : Grw w) => HR.out.below (u.prop.mono HB.out))
      have HF := Lib.hid (fun (u : Grw w) (d : List UInt8) (hd : d.length = 32) => rfind_take ll (some ad) c i d BB u.val HID.out (HRl.out u) (Nat.le_trans HB.out u.prop.size) hl hd (by omega))
      rw [← hah] at HF
      have HFX := Lib.hid (fun u : Grw wr => HF.out ⟨u.val, HBl.out.trans (u.prop.mono HBl.out.size)⟩ x.id HXL.out)
      clear hah
      go_wp2_with fail
      refine wp_region_grow (by kernel_rfl) (by kernel_rfl) ?_
      go_big_quiet_step (fail)
      go_big_quiet_step (fail)
      go_big_quiet_step (fail)
      go_big_quiet_step (fail)
      go_big_quiet_step (fail)
      go_big_quiet_step (fail)
      go_big_quiet_step (fail)
      refine quiet_load_any (by rfl) 47 (.tmp 39) rfl (ad.add (i * 33)) rfl (bv x.id) HCN.out _ Try.underlying47 rfl HLX.out ?_; go_simp
      go_big_quiet_step ((go_at_call 32; exact grow_call (HFX.out _)))
      go_big_quiet_step (fail)
      refine wpQuiet_nil ?_
      first | (intro _ hw'; obtain ⟨u, hw''⟩ := hw'; subst hw'') | intro u
      have HBu := Lib.hid (HBl.out.trans (u.prop.mono HBl.out.size))
      by_cases hin : x.id ∈ ah
      · rw [if_pos hin] at HW
        have hge : 0 ≤ fndI ah x.id := by have := (not_congr (fndI_neg (ids := ah) (d := x.id))).2 (fun h => h hin); omega
        generalize fndI ah x.id = f at *
        clear hin
        go_wp2_with fail
        go_ret
        exact ⟨by rw [HWT.out, HW.out]; rfl, HBu.out⟩
      · rw [if_neg hin] at HW
        have hge : ¬ 0 ≤ fndI ah x.id := by have := (fndI_neg (ids := ah) (d := x.id)).2 hin; omega
        generalize fndI ah x.id = f at *
        clear hin
        go_wp2_with fail
        have HBv := Lib.hid (show Below w.heap.size w u.val from HBu.out)
        obtain ⟨w5, hw5⟩ : ∃ y, y = u.val := ⟨_, rfl⟩
        rw [← hw5] at HBv ⊢
        clear hw5 HFX HCN HBu HBl
        clear hltI
        go_loopw [7] (fun iv wr => ∃ j : Nat, iv = .int .i64 (j : Int) ∧ j ≤ x.ps.length ∧ (∀ p ∈ x.ps.take j, p ∈ ah) ∧ Below w.heap.size w wr) (fun iv _ => x.ps.length - (intOf iv).toNat)
        case atStart => exact ⟨0, rfl, Nat.zero_le _, (fun p hp => by cases hp), HBv.out⟩
        case round =>
          obtain ⟨j, rfl, hj, hall, hB⟩ := hrel
          have HBl := Lib.hid hB
          have HALL := Lib.hid hall
          clear hB hall
          by_cases hlj : j < x.ps.length
          · have hltJ : (j : Int) < (x.ps.length : Int) := by omega
            obtain ⟨p, hp⟩ : ∃ p, x.ps[j]? = some p := ⟨_, List.getElem?_eq_getElem hlj⟩
            have hlp := HPD.out p (List.mem_of_getElem? hp)
            obtain ⟨ap, hA, hbl, hca⟩ := (HPR.out.later HBl.out).elem (by decide) (fun s hs => by rw [bv_length]; exact HPD.out s hs) hp
            subst hA
            have HCP := Lib.hid (fun u : Grw wr => grw_cells u.prop (ad := ap.add (j * 32)) (by rw [block_add]; exact hbl) hca)
            have HLP := Lib.hid (show (Try.prog.info? 47).map (·.size) = some (bv p).length by rw [bv_length, hlp]; exact infoD32)
            have HFP := Lib.hid (fun u : Grw wr => HF.out ⟨u.val, HBl.out.trans (u.prop.mono HBl.out.size)⟩ p hlp)
            have HP := Lib.hid hp
            clear hca hlp hp
            go_wp2_with fail
            refine wp_region_grow (by kernel_rfl) (by kernel_rfl) ?_
            go_big_quiet_step (fail)
            go_big_quiet_step (fail)
            go_big_quiet_step (fail)
            go_big_quiet_step (fail)
            go_big_quiet_step (fail)
            go_big_quiet_step (fail)
            refine quiet_load_any (by rfl) 47 (.tmp 54) rfl (ap.add (j * 32)) rfl (bv p) HCP.out _ Try.underlying47 rfl HLP.out ?_; go_simp
            go_big_quiet_step ((go_at_call 32; exact grow_call (HFP.out _)))
            go_big_quiet_step (fail)
            refine wpQuiet_nil ?_
            first | (intro _ hw'; obtain ⟨u, hw''⟩ := hw'; subst hw'') | intro u
            have HBu := Lib.hid (HBl.out.trans (u.prop.mono HBl.out.size))
            by_cases hin : p ∈ ah
            · have HIN := Lib.hid hin
              have hge : ¬ fndI ah p < 0 := fun h => fndI_neg.1 h hin
              generalize fndI ah p = f at *
              clear hin
              go_wp2_with fail
              go_roundw
              case rel =>
                refine ⟨j + 1, by go_num, by omega, ?_, HBu.out⟩
                intro s hs
                rw [take_snoc HP.out, List.mem_append, List.mem_singleton] at hs
                rcases hs with hs | hs
                · exact HALL.out s hs
                · rw [hs]; exact HIN.out
              case measure => simp [intOf] <;> omega
            · have HIN := Lib.hid hin
              have hge : fndI ah p < 0 := fndI_neg.2 hin
              generalize fndI ah p = f at *
              clear hin
              rw [if_neg (fun h => HIN.out (h p (List.mem_of_getElem? HP.out)))] at HW
              go_wp2_with fail
              go_ret
              exact ⟨by rw [HWT.out, HW.out]; rfl, HBu.out⟩
          · have hltJ : ¬ (j : Int) < (x.ps.length : Int) := by omega
            obtain rfl : j = x.ps.length := by omega
            rw [List.take_of_length_le (Nat.le_refl _)] at HALL
            rw [if_pos HALL.out] at HW
            go_wp2_with fail
            go_ret
            exact ⟨by rw [HWT.out, HW.out]; rfl, HBl.out⟩
end Go.Proofs.Ytebfocfeehajjaa

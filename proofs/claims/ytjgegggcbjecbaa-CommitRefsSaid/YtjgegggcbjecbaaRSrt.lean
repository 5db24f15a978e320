/- The document's Sorted: digests rising, each once. -/
import Derived.Test.YtjgegggcbjecbaaLOwn
import Derived.Test.YtjgegggcbjecbaaSort
namespace Go.Proofs.Ytjgegggcbjecbaa
open Go Go.RowKit

theorem take_snoc {α : Type} {L : List α} {i : Nat} {x : α} (h : L[i]? = some x) : L.take (i + 1) = L.take i ++ [x] := by
  rw [List.take_add_one, h]; rfl
theorem sort_step {L M : List (List UInt8)} {i : Nat} {x : List UInt8} (h : L[i]? = some x) (hM : M = (L.take i).foldl (So.ins Tx.less) []) : So.ins Tx.less M x = (L.take (i + 1)).foldl (So.ins Tx.less) [] := by
  rw [take_snoc h, List.foldl_append, ← hM]; rfl
theorem rows_take {L : List (List UInt8)} (hD : ∀ s ∈ L, s.length = 32) (k : Nat) : (rows bv L).take (k * 32) = rows bv (L.take k) := by
  by_cases h : k ≤ L.length
  · have h1 : rows bv L = rows bv (L.take k) ++ rows bv (L.drop k) := by rw [← rows_append, List.take_append_drop]
    rw [h1, List.take_left']
    rw [rows_len (k := 32) (fun s hs => by rw [bv_length]; exact hD s (List.mem_of_mem_take hs)), List.length_take, Nat.min_eq_left h]
  · rw [List.take_of_length_le (l := L) (by omega), List.take_of_length_le]
    rw [rows_len (k := 32) (fun s hs => by rw [bv_length]; exact hD s hs)]
    have := Nat.mul_le_mul_right 32 (show L.length ≤ k by omega); omega
theorem rows_drop {L : List (List UInt8)} (hD : ∀ s ∈ L, s.length = 32) (k : Nat) : (rows bv L).drop (k * 32) = rows bv (L.drop k) := by
  by_cases h : k ≤ L.length
  · have h1 : rows bv L = rows bv (L.take k) ++ rows bv (L.drop k) := by rw [← rows_append, List.take_append_drop]
    rw [h1, List.drop_left']
    rw [rows_len (k := 32) (fun s hs => by rw [bv_length]; exact hD s (List.mem_of_mem_take hs)), List.length_take, Nat.min_eq_left h]
  · rw [@List.drop_eq_nil_of_le _ L k (by omega), List.drop_eq_nil_of_le]
    · rfl
    · rw [rows_len (k := 32) (fun s hs => by rw [bv_length]; exact hD s hs)]
      have := Nat.mul_le_mul_right 32 (show L.length ≤ k by omega); omega
theorem place_is {α : Type} (less : α → α → Bool) (d : α) : ∀ (M : List α) (k : Nat), k ≤ M.length → (∀ j x, j < k → M[j]? = some x → less x d = true) → (∀ x, M[k]? = some x → less x d = false) → So.place less d M = k
  | [], k, hk, _, _ => by simp at hk; subst hk; rfl
  | x :: M, 0, _, _, h2 => by
    have := h2 x rfl
    rw [So.place, if_neg (by rw [this]; decide)]
  | x :: M, k + 1, hk, h1, h2 => by
    rw [So.place, if_pos (h1 0 x (by omega) rfl), place_is less d M k (by simpa using hk) (fun j y hj hy => h1 (j + 1) y (by omega) (by simpa using hy)) (fun y hy => h2 y (by simpa using hy))]

/-- A round of Sorted. -/
structure SrG (L : List (List UInt8)) (i : Nat) (M : List (List UInt8)) (A : Option Addr) (c : Nat) (w wr : World) : Prop where
  len : i ≤ L.length
  go : M = (L.take i).foldl (So.ins Tx.less) []
  own : wr.ownsRow w.heap.size 47 32 (.slice A M.length c) M.length (rows bv M)
  dig : ∀ s ∈ M, s.length = 32
  lim : M.length ≤ i
  cap : M.length ≤ c ∧ c ≤ 9223372036854775807
  hB : Below w.heap.size w wr

set_option maxRecDepth 100000 in
set_option maxHeartbeats 8000000 in
theorem rsorted_any (A : Option Addr) (c : Nat) (L : List (List UInt8)) (B : Nat) (w : World) (h : Rd w B A (L.length * 32) (rows bv L)) (hB : B ≤ w.heap.size) (hl : L.length * 32 ≤ 140737488351232) (hD : ∀ s ∈ L, s.length = 32) :
    Calls Try.prog 48 #[.slice A L.length c] w fun e w' => ∃ A' c', e = .returned (.slice A' (So.sort Tx.less L).length c') ∧ w'.ownsRow w.heap.size 47 32 (.slice A' (So.sort Tx.less L).length c') (So.sort Tx.less L).length (rows bv (So.sort Tx.less L)) ∧ Below w.heap.size w w' := by
  have H := Lib.hid h
  have HBB := Lib.hid hB
  have HD := Lib.hid hD
  clear h hD hB
  obtain ⟨i0, hi, hz0, hz1, hz2⟩ := info_parts infoDg
  go_enter Try.func48, Try.ntmps48
  go_wp2_with fail
  go_loopw [3, 4] (fun ov iv wr => ∃ (i : Nat) (M : List (List UInt8)) (A' : Option Addr) (c' : Nat), iv = .int .i64 (i : Int) ∧ ov = .slice A' M.length c' ∧ SrG L i M A' c' w wr) (fun _ iv _ => L.length - (intOf iv).toNat)
  case atStart => exact ⟨0, [], none, 0, rfl, rfl, ⟨Nat.zero_le _, rfl, World.ownsRow_nil w _ _ _, (fun _ h => by cases h), Nat.le_refl _, ⟨Nat.le_refl _, Nat.zero_le _⟩, Below.refl _ _⟩⟩
  case round =>
    obtain ⟨i, M, A', c', rfl, rfl, hG⟩ := hrel
    obtain ⟨w0, hw0⟩ : ∃ y, y = wr := ⟨_, rfl⟩
    subst hw0
    have HGG := Lib.hid hG
    have hML := hG.lim
    have hcap := hG.cap
    have hiL := hG.len
    clear hG
    by_cases hlt : i < L.length
    · have hltI : (i : Int) < (L.length : Int) := by omega
      obtain ⟨x, hx⟩ : ∃ x, L[i]? = some x := ⟨_, List.getElem?_eq_getElem hlt⟩
      have hlx := HD.out x (List.mem_of_getElem? hx)
      have HX := Lib.hid hx
      have HXL := Lib.hid hlx
      obtain ⟨ad, hA, hbx, hca⟩ := H.out.elem (by decide) (fun s hs => by rw [bv_length]; exact HD.out s hs) hx
      subst hA
      have HLA := Lib.hid (show (Try.prog.info? 47).map (·.size) = some (bv x).length by rw [bv_length, hlx]; exact infoD32)
      have HCX := Lib.hid (fun (wq : World) (hb : Below w.heap.size w wq) (u : Grw wq) => grw_cells (hb.trans (u.prop.mono hb.size)) (ad := ad.add (i * 32)) (by rw [block_add]; have := HBB.out; omega) hca)
      clear hx hlx hbx hca
      go_wp2_with fail
      go_loopw [5] (fun kv wq => ∃ k : Nat, k ≤ M.length ∧ kv = .int .i64 (k : Int) ∧ Hid (∀ j y, j < k → M[j]? = some y → Tx.less y x = true) ∧ Below w0.heap.size w0 wq) (fun kv _ => M.length - (intOf kv).toNat)
      case atStart => exact ⟨0, Nat.zero_le _, rfl, (fun j y h => absurd h (Nat.not_lt_zero _)), Below.refl _ _⟩
      case round =>
        obtain ⟨k, hk, rfl, HLE, hbq⟩ := hrel
        have HBQ := Lib.hid hbq
        have HBW := Lib.hid (HGG.out.hB.trans (hbq.mono HGG.out.hB.size))
        clear hbq
        by_cases hkl : k < M.length
        · have hklI : (k : Int) < (M.length : Int) := by omega
          obtain ⟨y, hy⟩ : ∃ y, M[k]? = some y := ⟨_, List.getElem?_eq_getElem hkl⟩
          have hly := HGG.out.dig y (List.mem_of_getElem? hy)
          have HY := Lib.hid hy
          obtain ⟨ay, hAy, hby, hcy⟩ := (Rd.of_ownK HGG.out.own).elem (by decide) (fun s hs => by rw [bv_length]; exact HGG.out.dig s hs) hy
          subst hAy
          have HB0 := Lib.hid hby
          have HC0 := Lib.hid hcy
          have HLY := Lib.hid (show (Try.prog.info? 47).map (·.size) = some (bv y).length by rw [bv_length, hly]; exact infoD32)
          have HCY := Lib.hid (fun u : Grw wr => grw_cells (HBQ.out.trans (u.prop.mono HBQ.out.size)) (ad := ay.add (k * 32)) (by rw [block_add]; exact HB0.out) HC0.out)
          have HCA := Lib.hid (HCX.out _ HBW.out)
          have HLS := Lib.hid (fun w => rless_any y x w hly HXL.out)
          have HYL := Lib.hid hly
          clear hy hly hby hcy
          go_wp2_with fail
          refine wp_region_grow (by kernel_rfl) (by kernel_rfl) ?_
          go_big_quiet_step (fail)
          go_big_quiet_step (fail)
          go_big_quiet_step (fail)
          go_big_quiet_step (fail)
          go_big_quiet_step (fail)
          go_big_quiet_step (fail)
          go_big_quiet_step (fail)
          go_big_quiet_step (fail)
          refine quiet_load_any (by rfl) 47 (.tmp 20) rfl (ay.add (k * 32)) rfl (bv y) HCY.out _ Try.underlying47 rfl HLY.out ?_; go_simp
          go_big_quiet_step (fail)
          go_big_quiet_step (fail)
          go_big_quiet_step (fail)
          refine quiet_load_any (by rfl) 47 (.tmp 24) rfl (ad.add (i * 32)) rfl (bv x) HCA.out _ Try.underlying47 rfl HLA.out ?_; go_simp
          go_big_quiet_step ((go_at_call 36; exact grow_call (HLS.out _)))
          go_big_quiet_step (fail)
          refine wpQuiet_nil ?_
          first | (intro _ hw'; obtain ⟨u, hw''⟩ := hw'; subst hw'') | intro u
          have HBQu := Lib.hid (HBQ.out.trans (u.prop.mono HBQ.out.size))
          by_cases hls : Tx.less y x = true
          · rw [hls]
            go_wp2_with fail
            go_roundw
            case rel =>
              refine ⟨k + 1, by omega, by go_num, Lib.hid (fun j z hj hz => ?_), HBQu.out⟩
              rcases Nat.lt_or_ge j k with h | h
              · exact HLE.out j z h hz
              · obtain rfl : j = k := by omega
                rw [HY.out] at hz
                obtain rfl := Option.some.inj hz
                exact hls
            case measure => simp [intOf] <;> omega
          · have hlf : Tx.less y x = false := by simpa using hls
            have HPL := Lib.hid (place_is Tx.less x M k hk HLE.out (fun z hz => by rw [HY.out] at hz; obtain rfl := Option.some.inj hz; exact hlf))
            rw [hlf]
            go_wp2_with fail
            obtain ⟨wk, hwk⟩ : ∃ y, y = u.val := ⟨_, rfl⟩
            rw [← hwk] at HBQu ⊢
            have HBk := Lib.hid (HGG.out.hB.trans (HBQu.out.mono HGG.out.hB.size))
            have HOk := Lib.hid (own_below HGG.out.own HBQu.out)
            have HCYk := Lib.hid (fun v : Grw wk => grw_cells (HBQu.out.trans (v.prop.mono HBQu.out.size)) (ad := ay.add (k * 32)) (by rw [block_add]; exact HB0.out) HC0.out)
            have HCAk := Lib.hid (HCX.out _ HBk.out)
            have heq := fun w => run_equal_dig HYL.out HXL.out w
            have hki : ((k : Int) == (M.length : Int)) = false := by rw [beq_eq_false_iff_ne]; omega
            clear hwk hlf HBQ HBW HCY HCA HLS
            go_wp2_with fail
            refine wp_region_grow (by kernel_rfl) (by kernel_rfl) ?_
            go_big_quiet_step (fail)
            go_big_quiet_step (fail)
            go_big_quiet_step (fail)
            go_big_quiet_step (fail)
            go_big_quiet_step (fail)
            go_big_quiet_step (fail)
            go_big_quiet_step (fail)
            go_big_quiet_step (fail)
            refine quiet_load_any (by rfl) 47 (.tmp 37) rfl (ay.add (k * 32)) rfl (bv y) HCYk.out _ Try.underlying47 rfl HLY.out ?_; go_simp
            go_big_quiet_step (fail)
            go_big_quiet_step (fail)
            go_big_quiet_step (fail)
            refine quiet_load_any (by rfl) 47 (.tmp 41) rfl (ad.add (i * 32)) rfl (bv x) HCAk.out _ Try.underlying47 rfl HLA.out ?_; go_simp
            go_big_quiet_step (fail)
            go_big_quiet_step (fail)
            refine wpQuiet_nil ?_
            first | (intro _ hw'; obtain ⟨u, hw''⟩ := hw'; subst hw'') | intro u
            obtain ⟨wl, hwl⟩ : ∃ y, y = u.val := ⟨_, rfl⟩
            have HBl := Lib.hid (show Below w0.heap.size w0 wl by rw [hwl]; exact HBQu.out.trans (u.prop.mono HBQu.out.size))
            have HBL := Lib.hid (HGG.out.hB.trans (HBl.out.mono HGG.out.hB.size))
            have HOl := Lib.hid (own_below HGG.out.own HBl.out)
            rw [← hwl]
            clear hwl HCYk HCAk HBk HOk HBQu heq
            by_cases hyx : y = x
            · have hd : decide (y = x) = true := decide_eq_true hyx
              have HIN := Lib.hid (show So.ins Tx.less M x = M by unfold So.ins; rw [HPL.out, if_pos (by rw [HY.out, hyx])])
              rw [hd]
              clear hd
              go_wp2_with fail
              go_roundw
              case rel => exact ⟨i + 1, M, some ay, c', by go_num, rfl, ⟨by omega, by rw [← sort_step HX.out HGG.out.go, HIN.out], HOl.out, HGG.out.dig, by omega, hcap, HBL.out⟩⟩
              case measure => simp [intOf] <;> omega
            · have hd : decide (y = x) = false := decide_eq_false hyx
              have HIN := Lib.hid (show So.ins Tx.less M x = M.take k ++ ([x] ++ M.drop k) by unfold So.ins; rw [HPL.out, if_neg (by rw [HY.out]; exact fun e => hyx (Option.some.inj e))])
              rw [hd]
              clear hd
              have HS1 := Lib.hid (show Rd wl wl.heap.size (some ay) (k * 32) (rows bv (M.take k)) from by rw [← rows_take HGG.out.dig]; exact (Rd.of_ownK HOl.out).take (Nat.mul_le_mul_right 32 hk))
              have HS3 := Lib.hid (show ∀ w', Below wl.heap.size wl w' → Rd w' w'.heap.size (some (ay.add (k * 32))) ((M.length - k) * 32) (rows bv (M.drop k)) from fun w' hb => by
                obtain ⟨a2, ha2, hr⟩ := ((Rd.of_ownK HOl.out).later hb).drop (k := k * 32) (Nat.mul_lt_mul_of_pos_right hkl (by decide))
                obtain rfl := Option.some.inj ha2
                rw [rows_drop HGG.out.dig, ← Nat.sub_mul] at hr
                exact hr)
              have HDS := Lib.hid (show (bv x).toArray.size = 32 by rw [List.size_toArray, bv_length, HXL.out])
              go_wp2_with (first | (refine at_dst 49 rfl ?_; go_must (refine wp_appK _ 32 rfl (.tmp 45) (.tmp 48) 29 29 rfl wl.heap.size 47 i0 _ 32 Try.underlying29 hi hz0 hz1 hz2 rfl (.slice none 0 0) 0 [] rfl (World.ownsRow_nil wl _ _ _) (.slice (some ay) k c') k (rows bv (M.take k)) rfl (HS1.out.srcK (by decide) Try.underlying29 c' (rows_ones bv_one _)) (by unfold maxLen; omega) (by omega) (Nat.le_refl _) ?_); intro v1 w1 ho1 hg1 _; rw [Nat.zero_add, List.nil_append] at ho1; obtain ⟨A1, c1, hv1, -, -, -⟩ := own_form ho1; subst hv1; have HB1 := Lib.hid (show Below wl.heap.size wl w1 from (Below.refl _ _).grown hg1 (Nat.le_refl _) (fun q hq => by cases hq)); have HO1 := Lib.hid ho1; have HCA1 := Lib.hid (HCX.out w1 (HBL.out.trans (HB1.out.mono HBL.out.size)) ⟨w1, Below.refl _ _⟩); have hs1 := HB1.out.size; have HB1a := Lib.hid (HB1.out.alloc hs1 (.cells (bv x).toArray 47)); have hs1a := HB1a.out.size; have HO1a := Lib.hid (HO1.out.alloc (.cells (bv x).toArray 47)); clear ho1 hg1) | (refine at_lod 47 (.tmp 53) rfl ?_; go_must (refine wpList_load_any rfl 47 (.tmp 53) rfl (ad.add (i * 32)) rfl (bv x) _ HCA1.out Try.underlying47 rfl HLA.out ?_)) | (refine at_dst 55 rfl ?_; go_must (refine wpList_one_slice rfl 29 47 (.tmp 54) rfl i0 _ (bv x).toArray rfl Try.underlying29 hi hz0 (by rw [hz1, HDS.out]) (by rw [HDS.out]; decide) (by rw [HDS.out]; decide) ?_)) | (refine at_dst 56 rfl ?_; go_must (refine wp_appK _ 32 rfl (.tmp 50) (.tmp 55) 29 29 rfl wl.heap.size 47 i0 _ 32 Try.underlying29 hi hz0 hz1 hz2 rfl (.slice A1 k c1) k (rows bv (M.take k)) rfl HO1a.out (.slice (some ⟨w1.heap.size, 0, none⟩) 1 1) 1 (bv x) rfl (new_srcK 32 Try.underlying29 w1 (bv x) 1 1 47 (0, 0) (by rw [bv_length, HXL.out]) (bv_one x)) (by unfold maxLen; omega) (by omega) hs1a ?_); intro v2 w2 ho2 hg2 _; obtain ⟨A2, c2, hv2, -, -, -⟩ := own_form ho2; subst hv2; have HB2 := Lib.hid (show Below wl.heap.size wl w2 from HB1a.out.grown hg2 hs1a (fun q hq => (HO1a.out.lt q hq).1)); have HO2 := Lib.hid ho2; have HS3w := Lib.hid (HS3.out w2 HB2.out); have hs2 := HB2.out.size; clear ho2 hg2) | (refine at_dst 61 rfl ?_; go_must (refine wp_appK _ 32 rfl (.tmp 57) (.tmp 60) 29 29 rfl wl.heap.size 47 i0 _ 32 Try.underlying29 hi hz0 hz1 hz2 rfl (.slice A2 (k + 1) c2) (k + 1) (rows bv (M.take k) ++ bv x) rfl HO2.out (.slice (some (ay.add (k * 32))) (M.length - k) (c' - k)) (M.length - k) (rows bv (M.drop k)) rfl (HS3w.out.srcK (by decide) Try.underlying29 (c' - k) (rows_ones bv_one _)) (by unfold maxLen; omega) (by omega) hs2 ?_); intro v3 w3 ho3 hg3 _; obtain ⟨A3, c3, hv3, hc3, hm3, -⟩ := own_form ho3; subst hv3; have HB3 := Lib.hid (show Below wl.heap.size wl w3 from HB2.out.grown hg3 hs2 (fun q hq => (HO2.out.lt q hq).1)); have HO3 := Lib.hid ho3; clear ho3 hg3))
              go_roundw
              case rel =>
                obtain ⟨N, hN⟩ : ∃ N, N = So.ins Tx.less M x := ⟨_, rfl⟩
                have hNE : N = M.take k ++ ([x] ++ M.drop k) := hN.trans HIN.out
                have hlen : k + 1 + (M.length - k) = N.length := by rw [hNE]; simp; omega
                have hrow : (rows bv (M.take k) ++ bv x) ++ rows bv (M.drop k) = rows bv N := by rw [hNE, rows_append, rows_append, rows_one, List.append_assoc]
                have hO := HO3.out
                rw [hrow, hlen] at hO
                refine ⟨i + 1, N, A3, c3, by go_num, by rw [hlen], ⟨by omega, by rw [hN]; exact sort_step HX.out HGG.out.go, own_base hO HBL.out.size, fun s hs => ?_, by omega, ⟨by omega, by unfold maxLen at hm3; omega⟩, HBL.out.trans (HB3.out.mono HBL.out.size)⟩⟩
                rw [hNE, List.mem_append, List.mem_append] at hs
                rcases hs with hs | hs | hs
                · exact HGG.out.dig s (List.mem_of_mem_take hs)
                · rw [List.mem_singleton.1 hs]; exact HXL.out
                · exact HGG.out.dig s (List.mem_of_mem_drop hs)
              case measure => simp [intOf] <;> omega
        · have hklI : ¬ (k : Int) < (M.length : Int) := by omega
          obtain rfl : k = M.length := by omega
          have hki : ((M.length : Int) == (M.length : Int)) = true := beq_self_eq_true _
          have hdl : decide ((M.length : Int) < (M.length : Int)) = false := decide_eq_false (by omega)
          have HPL := Lib.hid (place_is Tx.less x M M.length hk HLE.out (fun z hz => by simp at hz))
          have HIN := Lib.hid (show So.ins Tx.less M x = M ++ [x] by unfold So.ins; rw [HPL.out, if_neg (by simp)]; simp)
          have HDS := Lib.hid (show (bv x).toArray.size = 32 by rw [List.size_toArray, bv_length, HXL.out])
          go_wp2_with fail
          refine wp_region_grow (by kernel_rfl) (by kernel_rfl) ?_
          go_big_quiet_step (fail)
          go_big_quiet_step (fail)
          go_big_quiet_step (fail)
          go_big_quiet_step (fail)
          go_big_quiet_step (fail)
          go_big_quiet_step (fail)
          go_big_quiet_step (fail)
          go_big_quiet_step (fail)
          go_big_quiet_step (fail)
          go_big_quiet_step (fail)
          go_big_quiet_step (fail)
          go_big_quiet_step (fail)
          go_big_quiet_step (fail)
          go_big_quiet_step (fail)
          go_big_quiet_step (fail)
          refine wpQuiet_nil ?_
          first | (intro _ hw'; obtain ⟨u, hw''⟩ := hw'; subst hw'') | intro u
          obtain ⟨wk, hwk⟩ : ∃ y, y = u.val := ⟨_, rfl⟩
          have HBk := Lib.hid (show Below w0.heap.size w0 wk by rw [hwk]; exact HBQ.out.trans (u.prop.mono HBQ.out.size))
          rw [← hwk]
          clear hwk HBQ HBW
          go_wp2_with fail
          refine wp_region_grow (by kernel_rfl) (by kernel_rfl) ?_
          go_big_quiet_step (fail)
          go_big_quiet_step (fail)
          go_big_quiet_step (fail)
          go_big_quiet_step (fail)
          go_big_quiet_step (fail)
          go_big_quiet_step (fail)
          go_big_quiet_step (fail)
          go_big_quiet_step (fail)
          go_big_quiet_step (fail)
          go_big_quiet_step (fail)
          go_big_quiet_step (fail)
          go_big_quiet_step (fail)
          go_big_quiet_step (fail)
          go_big_quiet_step (fail)
          go_big_quiet_step (fail)
          refine wpQuiet_nil ?_
          first | (intro _ hw'; obtain ⟨u, hw''⟩ := hw'; subst hw'') | intro u
          obtain ⟨wl, hwl⟩ : ∃ y, y = u.val := ⟨_, rfl⟩
          have HBl := Lib.hid (show Below w0.heap.size w0 wl by rw [hwl]; exact HBk.out.trans (u.prop.mono HBk.out.size))
          have HBL := Lib.hid (HGG.out.hB.trans (HBl.out.mono HGG.out.hB.size))
          have HOl := Lib.hid (own_below HGG.out.own HBl.out)
          rw [← hwl]
          clear hwl HBk hki hdl
          rcases HGG.out.own.2 with ⟨hv, hn0⟩ | ⟨g, cap, cur, hv, -⟩
          · have hA' : A' = none := by injection hv
            have hM0 : M.length = 0 := hn0
            have hc0 : c' = 0 := by injection hv
            have hM : M = [] := List.eq_nil_of_length_eq_zero hM0
            subst hM
            subst hA'
            subst hc0
            simp only [List.nil_append] at HIN
            clear hM0 hv
            have HS1 := Lib.hid (show Rd wl wl.heap.size none (0 * 32) (rows bv ([] : List (List UInt8))) from ⟨rfl, fun h => absurd h (by omega)⟩)
            have HS3 := Lib.hid (show ∀ w', Below wl.heap.size wl w' → Rd w' w'.heap.size none (0 * 32) (rows bv ([] : List (List UInt8))) from fun w' _ => ⟨rfl, fun h => absurd h (by omega)⟩)
            go_wp2_with (first | (refine at_dst 49 rfl ?_; go_must (refine wp_appK _ 32 rfl (.tmp 45) (.tmp 48) 29 29 rfl wl.heap.size 47 i0 _ 32 Try.underlying29 hi hz0 hz1 hz2 rfl (.slice none 0 0) 0 [] rfl (World.ownsRow_nil wl _ _ _) (.slice none 0 0) 0 (rows bv ([] : List (List UInt8))) rfl (HS1.out.srcK (by decide) Try.underlying29 0 (rows_ones bv_one _)) (by unfold maxLen; omega) (by omega) (Nat.le_refl _) ?_); intro v1 w1 ho1 hg1 _; rw [Nat.zero_add, List.nil_append] at ho1; obtain ⟨A1, c1, hv1, -, -, -⟩ := own_form ho1; subst hv1; have HB1 := Lib.hid (show Below wl.heap.size wl w1 from (Below.refl _ _).grown hg1 (Nat.le_refl _) (fun q hq => by cases hq)); have HO1 := Lib.hid ho1; have HCA1 := Lib.hid (HCX.out w1 (HBL.out.trans (HB1.out.mono HBL.out.size)) ⟨w1, Below.refl _ _⟩); have hs1 := HB1.out.size; have HB1a := Lib.hid (HB1.out.alloc hs1 (.cells (bv x).toArray 47)); have hs1a := HB1a.out.size; have HO1a := Lib.hid (HO1.out.alloc (.cells (bv x).toArray 47)); clear ho1 hg1) | (refine at_lod 47 (.tmp 53) rfl ?_; go_must (refine wpList_load_any rfl 47 (.tmp 53) rfl (ad.add (i * 32)) rfl (bv x) _ HCA1.out Try.underlying47 rfl HLA.out ?_)) | (refine at_dst 55 rfl ?_; go_must (refine wpList_one_slice rfl 29 47 (.tmp 54) rfl i0 _ (bv x).toArray rfl Try.underlying29 hi hz0 (by rw [hz1, HDS.out]) (by rw [HDS.out]; decide) (by rw [HDS.out]; decide) ?_)) | (refine at_dst 56 rfl ?_; go_must (refine wp_appK _ 32 rfl (.tmp 50) (.tmp 55) 29 29 rfl wl.heap.size 47 i0 _ 32 Try.underlying29 hi hz0 hz1 hz2 rfl (.slice A1 0 c1) 0 (rows bv ([] : List (List UInt8))) rfl HO1a.out (.slice (some ⟨w1.heap.size, 0, none⟩) 1 1) 1 (bv x) rfl (new_srcK 32 Try.underlying29 w1 (bv x) 1 1 47 (0, 0) (by rw [bv_length, HXL.out]) (bv_one x)) (by unfold maxLen; omega) (by omega) hs1a ?_); intro v2 w2 ho2 hg2 _; obtain ⟨A2, c2, hv2, -, -, -⟩ := own_form ho2; subst hv2; have HB2 := Lib.hid (show Below wl.heap.size wl w2 from HB1a.out.grown hg2 hs1a (fun q hq => (HO1a.out.lt q hq).1)); have HO2 := Lib.hid ho2; have HS3w := Lib.hid (HS3.out w2 HB2.out); have hs2 := HB2.out.size; clear ho2 hg2) | (refine at_dst 61 rfl ?_; go_must (refine wp_appK _ 32 rfl (.tmp 57) (.tmp 60) 29 29 rfl wl.heap.size 47 i0 _ 32 Try.underlying29 hi hz0 hz1 hz2 rfl (.slice A2 (0 + 1) c2) (0 + 1) (rows bv ([] : List (List UInt8)) ++ bv x) rfl HO2.out (.slice none 0 0) 0 (rows bv ([] : List (List UInt8))) rfl (HS3w.out.srcK (by decide) Try.underlying29 0 (rows_ones bv_one _)) (by unfold maxLen; omega) (by omega) hs2 ?_); intro v3 w3 ho3 hg3 _; obtain ⟨A3, c3, hv3, hc3, hm3, -⟩ := own_form ho3; subst hv3; have HB3 := Lib.hid (show Below wl.heap.size wl w3 from HB2.out.grown hg3 hs2 (fun q hq => (HO2.out.lt q hq).1)); have HO3 := Lib.hid ho3; clear ho3 hg3))
            go_roundw
            case rel =>
              obtain ⟨N, hN⟩ : ∃ N, N = So.ins Tx.less [] x := ⟨_, rfl⟩
              have hNE : N = [x] := hN.trans HIN.out
              have hlen : 0 + 1 + 0 = N.length := by rw [hNE]; simp
              have hrow : (rows bv ([] : List (List UInt8)) ++ bv x) ++ rows bv ([] : List (List UInt8)) = rows bv N := by rw [hNE, rows_one]; simp [rows]
              have hO := HO3.out
              rw [hrow, hlen] at hO
              refine ⟨i + 1, N, A3, c3, by go_num, by rw [← hlen], ⟨by omega, by rw [hN]; exact sort_step HX.out HGG.out.go, own_base hO HBL.out.size, fun s hs => ?_, by omega, ⟨by omega, by unfold maxLen at hm3; omega⟩, HBL.out.trans (HB3.out.mono HBL.out.size)⟩⟩
              rw [hNE] at hs
              rw [List.mem_singleton.1 hs]; exact HXL.out
            case measure => simp [intOf] <;> omega
          · have hA' : A' = some ⟨g, 0, none⟩ := by injection hv
            obtain ⟨ay, hay⟩ : ∃ a : Addr, a = ⟨g, 0, none⟩ := ⟨_, rfl⟩
            rw [← hay] at hA'
            subst hA'
            clear hay hv
            have HS1 := Lib.hid (Rd.of_ownK HOl.out)
            have HS3 := Lib.hid (show ∀ w', Below wl.heap.size wl w' → Rd w' w'.heap.size (if c' = M.length then some ay else some (ay.add (M.length * 32))) (0 * 32) (rows bv ([] : List (List UInt8))) from fun w' _ => ⟨rfl, fun h => absurd h (by omega)⟩)
            go_wp2_with (first | (refine at_dst 49 rfl ?_; go_must (refine wp_appK _ 32 rfl (.tmp 45) (.tmp 48) 29 29 rfl wl.heap.size 47 i0 _ 32 Try.underlying29 hi hz0 hz1 hz2 rfl (.slice none 0 0) 0 [] rfl (World.ownsRow_nil wl _ _ _) (.slice (some ay) M.length c') M.length (rows bv M) rfl (HS1.out.srcK (by decide) Try.underlying29 c' (rows_ones bv_one _)) (by unfold maxLen; omega) (by omega) (Nat.le_refl _) ?_); intro v1 w1 ho1 hg1 _; rw [Nat.zero_add, List.nil_append] at ho1; obtain ⟨A1, c1, hv1, -, -, -⟩ := own_form ho1; subst hv1; have HB1 := Lib.hid (show Below wl.heap.size wl w1 from (Below.refl _ _).grown hg1 (Nat.le_refl _) (fun q hq => by cases hq)); have HO1 := Lib.hid ho1; have HCA1 := Lib.hid (HCX.out w1 (HBL.out.trans (HB1.out.mono HBL.out.size)) ⟨w1, Below.refl _ _⟩); have hs1 := HB1.out.size; have HB1a := Lib.hid (HB1.out.alloc hs1 (.cells (bv x).toArray 47)); have hs1a := HB1a.out.size; have HO1a := Lib.hid (HO1.out.alloc (.cells (bv x).toArray 47)); clear ho1 hg1) | (refine at_lod 47 (.tmp 53) rfl ?_; go_must (refine wpList_load_any rfl 47 (.tmp 53) rfl (ad.add (i * 32)) rfl (bv x) _ HCA1.out Try.underlying47 rfl HLA.out ?_)) | (refine at_dst 55 rfl ?_; go_must (refine wpList_one_slice rfl 29 47 (.tmp 54) rfl i0 _ (bv x).toArray rfl Try.underlying29 hi hz0 (by rw [hz1, HDS.out]) (by rw [HDS.out]; decide) (by rw [HDS.out]; decide) ?_)) | (refine at_dst 56 rfl ?_; go_must (refine wp_appK _ 32 rfl (.tmp 50) (.tmp 55) 29 29 rfl wl.heap.size 47 i0 _ 32 Try.underlying29 hi hz0 hz1 hz2 rfl (.slice A1 M.length c1) M.length (rows bv M) rfl HO1a.out (.slice (some ⟨w1.heap.size, 0, none⟩) 1 1) 1 (bv x) rfl (new_srcK 32 Try.underlying29 w1 (bv x) 1 1 47 (0, 0) (by rw [bv_length, HXL.out]) (bv_one x)) (by unfold maxLen; omega) (by omega) hs1a ?_); intro v2 w2 ho2 hg2 _; obtain ⟨A2, c2, hv2, -, -, -⟩ := own_form ho2; subst hv2; have HB2 := Lib.hid (show Below wl.heap.size wl w2 from HB1a.out.grown hg2 hs1a (fun q hq => (HO1a.out.lt q hq).1)); have HO2 := Lib.hid ho2; have HS3w := Lib.hid (HS3.out w2 HB2.out); have hs2 := HB2.out.size; clear ho2 hg2) | (refine at_dst 61 rfl ?_; go_must (refine wp_appK _ 32 rfl (.tmp 57) (.tmp 60) 29 29 rfl wl.heap.size 47 i0 _ 32 Try.underlying29 hi hz0 hz1 hz2 rfl (.slice A2 (M.length + 1) c2) (M.length + 1) (rows bv M ++ bv x) rfl HO2.out (.slice (if c' = M.length then some ay else some (ay.add (M.length * 32))) 0 (c' - M.length)) 0 (rows bv ([] : List (List UInt8))) rfl (HS3w.out.srcK (by decide) Try.underlying29 (c' - M.length) (rows_ones bv_one _)) (by unfold maxLen; omega) (by omega) hs2 ?_); intro v3 w3 ho3 hg3 _; obtain ⟨A3, c3, hv3, hc3, hm3, -⟩ := own_form ho3; subst hv3; have HB3 := Lib.hid (show Below wl.heap.size wl w3 from HB2.out.grown hg3 hs2 (fun q hq => (HO2.out.lt q hq).1)); have HO3 := Lib.hid ho3; clear ho3 hg3))
            go_roundw
            case rel =>
              obtain ⟨N, hN⟩ : ∃ N, N = So.ins Tx.less M x := ⟨_, rfl⟩
              have hNE : N = M ++ [x] := hN.trans HIN.out
              have hlen : M.length + 1 + 0 = N.length := by rw [hNE]; simp
              have hrow : (rows bv M ++ bv x) ++ rows bv ([] : List (List UInt8)) = rows bv N := by rw [hNE, rows_append, rows_one]; simp [rows]
              have hO := HO3.out
              rw [hrow, hlen] at hO
              refine ⟨i + 1, N, A3, c3, by go_num, by rw [hlen], ⟨by omega, by rw [hN]; exact sort_step HX.out HGG.out.go, own_base hO HBL.out.size, fun s hs => ?_, by omega, ⟨by omega, by unfold maxLen at hm3; omega⟩, HBL.out.trans (HB3.out.mono HBL.out.size)⟩⟩
              rw [hNE, List.mem_append] at hs
              rcases hs with hs | hs
              · exact HGG.out.dig s hs
              · rw [List.mem_singleton.1 hs]; exact HXL.out
            case measure => simp [intOf] <;> omega
    · have hltI : ¬ (i : Int) < (L.length : Int) := by omega
      go_wp2_with fail
      go_ret
      have hSo : M = So.sort Tx.less L := by rw [HGG.out.go, List.take_of_length_le (by omega)]; rfl
      rw [← hSo]
      exact ⟨A', c', rfl, HGG.out.own, HGG.out.hB⟩
end Go.Proofs.Ytjgegggcbjecbaa

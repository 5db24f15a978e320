/- The contract of the program's Hash.Write. -/
import Derived.Test.YtkgkllpecpcgjaaDoorHCx
import Derived.Test.YtkgkllpecpcgjaaDoorZed
namespace Go.Proofs.YtkgkllpecpcgjaaDoor
open Go Go.RowKit

set_option maxRecDepth 100000 in
set_option maxHeartbeats 1000000 in
theorem write_nil (v : Value) (w : World) : Calls Tryd.prog 22 #[.pointer none, v] w fun e w' => e = .returned (.tuple #[]) ∧ w = w' := by
  have M := Lib.hid (made_nil w)
  go_enter Tryd.func22, Tryd.ntmps22
  go_wp2_with fail
  refine M.out.mono ?_; rintro e w' ⟨rfl, rfl⟩
  go_wp2_with fail
  refine bodyPost_ret (results_none rfl _ _ _) rfl ?_
  exact ⟨rfl, rfl⟩
set_option maxRecDepth 100000 in
set_option maxHeartbeats 1000000 in
theorem write_not (v : Value) (w : World) (g : Nat) (cs : Array Value) (h : Blk w g 52 cs) (hc : cs[0]? = some (.bool false)) : Calls Tryd.prog 22 #[.pointer (some ⟨g, 0, none⟩), v] w fun e w' => e = .returned (.tuple #[]) ∧ w = w' := by
  have M := Lib.hid (made_any w g false cs h hc)
  clear h hc
  go_enter Tryd.func22, Tryd.ntmps22
  go_wp2_with fail
  refine M.out.mono ?_; rintro e w' ⟨rfl, rfl⟩
  go_wp2_with fail
  refine bodyPost_ret (results_none rfl _ _ _) rfl ?_
  exact ⟨rfl, rfl⟩

theorem pad_over {x c : List UInt8} {b n : Nat} (hx : x.length = b) (hc : c.length = n) (h : b + n ≤ 64) : (Sh.pad x).take b ++ (c ++ (Sh.pad x).drop (b + n)) = Sh.pad (x ++ c) := by
  subst hx hc
  unfold Sh.pad
  rw [List.take_append_of_le_length (Nat.le_refl _), List.take_length, List.drop_append, List.drop_of_length_le (by omega), List.nil_append, List.drop_replicate, List.length_append, List.append_assoc]
  congr 3
  omega
theorem pad_self {x : List UInt8} (h : x.length = 64) : Sh.pad x = x := by unfold Sh.pad; rw [h, Nat.sub_self, List.replicate_zero, List.append_nil]
theorem infoU81 : (Tryd.prog.info? 5).map (·.size) = some 1 := by kernel_rfl

theorem only_oth {a w w' : World} {g : Nat} (h : a.grownBy w (some g)) (hk : ∀ k, k ≠ g → w'.heap[k]? = w.heap[k]?) (hs : w'.heap.size = w.heap.size) (hb : Below 0 w w') : a.grownBy w' (some g) :=
  ⟨hb.os.trans h.os, hb.tape.trans h.tape, hb.output.trans h.output, by rw [hs]; exact h.size, fun i hi hne => (hk i (fun e => hne (congrArg some e))).trans (h.block i hi hne)⟩

/-- What is left of the bytes, behind what writes into another block alone. -/
theorem rest_rd {wr w' : World} {g n c : Nat} {ad : Addr} {r : List UInt8} (hr : Rd wr wr.heap.size (some ad) r.length (bv r)) (hne : ∀ x, 0 < r.length → some ad = some x → x.block ≠ g) (hg : wr.grownBy w' (some g)) (hn : n ≤ r.length) (hc : r.length ≤ c) :
    Rd w' w'.heap.size (fromA (some ad) c n) (r.drop n).length (bv (r.drop n)) ∧ ∀ x, 0 < (r.drop n).length → (fromA (some ad) c n) = some x → x.block ≠ g := by
  have hl : (r.drop n).length = r.length - n := List.length_drop
  unfold fromA
  by_cases h0 : r.length = n
  · refine ⟨⟨bv_length _, fun h => by omega⟩, fun x h => by omega⟩
  · have hcn : ¬ c = n := by omega
    rw [if_neg hcn, Option.map_some]
    obtain ⟨x, hx, hb, hcell⟩ := hr.2 (by omega)
    cases hx
    have hbg := hne ad (by omega) rfl
    refine ⟨⟨bv_length _, fun _ => ⟨_, rfl, by rw [block_add]; exact Nat.lt_of_lt_of_le hb hg.size, fun j u hu => ?_⟩⟩, fun x _ hx => by cases hx; rw [block_add]; exact hbg⟩
    rw [add_add', World.cell?_of_block (hg.block (ad.add (n + j)).block (by rw [block_add]; exact hb) (fun e => hbg (by rw [block_add] at e; exact Option.some.inj e)))]
    exact hcell _ u (by rw [← hu, bv_drop, List.getElem?_drop])

theorem kt_ne {w : World} {g : Nat} {l : List UInt8} (hk : KT w) (hh : HashIs w g l) : 0 ≠ g := by
  rintro rfl
  have h1 := hk 0 (by decide)
  rw [Blk.cell hh 0, HC_made] at h1
  cases h1

/-- What holds at each round's head: so much is taken, and the rest is still to come. -/
def WrRel (l bs : List UInt8) (g : Nat) (w : World) (v : Value) (wr : World) : Prop :=
  ∃ (d r : List UInt8) (A : Option Addr) (c : Nat), bs = d ++ r ∧ v = .slice A r.length c ∧ r.length ≤ c ∧ c ≤ 9223372036854775807 ∧ Hid (Rd wr wr.heap.size A r.length (bv r)) ∧ Hid (∀ ad, 0 < r.length → A = some ad → ad.block ≠ g) ∧ HashIs wr g (l ++ d) ∧ w.grownBy wr (some g)

set_option maxRecDepth 100000 in
set_option maxHeartbeats 8000000 in
theorem write_any (l bs : List UInt8) (g : Nat) (A : Option Addr) (c : Nat) (w : World) (hh : HashIs w g l) (hk : KT w) (hr : Rd w w.heap.size A bs.length (bv bs)) (hne : ∀ ad, 0 < bs.length → A = some ad → ad.block ≠ g)
    (hc : bs.length ≤ c ∧ c ≤ 9223372036854775807) (hl : l.length + bs.length ≤ 1152921504606846975) :
    Calls Tryd.prog 22 #[.pointer (some ⟨g, 0, none⟩), .slice A bs.length c] w fun e w' => e = .returned (.tuple #[]) ∧ HashIs w' g (l ++ bs) ∧ w.grownBy w' (some g) := by
  have M := Lib.hid (made_any w g true _ hh (HC_made l))
  have hkn := kt_ne hk hh
  have HR := Lib.hid hr
  have HNE := Lib.hid hne
  have HH := Lib.hid hh
  obtain ⟨hc1, hc2⟩ := hc
  clear hr hne hh
  go_enter Tryd.func22, Tryd.ntmps22
  go_wp2_with fail
  refine M.out.mono ?_; rintro e w' ⟨rfl, rfl⟩
  go_wp2_with fail
  go_loopw [1] (fun v wr => WrRel l bs g w v wr) (fun v _ => match v with | .slice _ n _ => n | _ => 0)
  case atStart => exact ⟨[], bs, A, c, rfl, rfl, hc1, hc2, HR, HNE, by rw [List.append_nil]; exact HH.out, World.grownBy.refl w _⟩
  case round =>
    obtain ⟨d, r, A, c, hbs, rfl, hc1, hc2, HR, HNE, hH, hgw⟩ := hrel
    have HBS := Lib.hid hbs
    have hlen : bs.length = d.length + r.length := by rw [hbs, List.length_append]
    have HLEN := Lib.hid hlen
    have hdr : d.length + r.length ≤ bs.length := by omega
    clear hbs hlen
    by_cases h0 : r.length = 0
    · obtain rfl : r = [] := List.eq_nil_of_length_eq_zero h0
      clear hdr h0
      go_wp2_with fail
      go_end0
      exact ⟨rfl, by rw [HBS.out, List.append_nil]; exact hH, hgw⟩
    · have hpos : 0 < r.length := by omega
      obtain ⟨T, hT⟩ : ∃ T, T = l ++ d := ⟨_, rfl⟩
      have hTl : T.length = l.length + d.length := by rw [hT, List.length_append]
      have HT := Lib.hid hT
      have HTL := Lib.hid hTl
      rw [← hT] at hH
      have hTb : T.length + r.length ≤ 1152921504606846975 := by omega
      have hTc : T.length ≤ 1152921504606846975 := by omega
      clear hT hTl
      have csz := hH.size
      obtain ⟨b, hb⟩ : ∃ b, b = T.length % 64 := ⟨_, rfl⟩
      have HB := Lib.hid hb
      have hb64 : b < 64 := by omega
      have hmod : (T.length : Int) % 64 = (b : Int) := by omega
      clear hb
      have hposI : 0 < (r.length : Int) := by omega
      have hsl := run_sliceAt_from (P := Tryd.prog) Tryd.underlying50 (by kernel_rfl) g 9 b hb64
      obtain ⟨ad, hA, hblk, hcell⟩ := HR.out.2 hpos
      subst hA
      have hcut : r.length - 0 ≤ c := by omega
      obtain ⟨n, hn⟩ : ∃ n, n = Nat.min r.length (64 - b) := ⟨_, rfl⟩
      have hnr : n ≤ r.length := by rw [hn]; exact Nat.min_le_left _ _
      have hnb : b + n ≤ 64 := by have : n ≤ 64 - b := by rw [hn]; exact Nat.min_le_right _ _
                                  omega
      have hn0 : 0 < n := by rw [hn]; exact Nat.lt_min.2 ⟨hpos, by omega⟩
      have hcl : (r.take n).length = n := by rw [List.length_take]; omega
      have HN := Lib.hid hn
      obtain ⟨C, hC⟩ : ∃ C, C = r.take n := ⟨_, rfl⟩
      have hsrc : ∀ j v, (bv C)[j]? = some v → wr.cell? (ad.add j) = some v := fun j v hv => by
        rw [hC, bv_take, List.getElem?_take] at hv
        split at hv
        · exact hcell j v hv
        · cases hv
      rw [← hC] at hcl
      have HSRC := Lib.hid hsrc
      have HCC := Lib.hid hC
      have HCL := Lib.hid hcl
      have HBL := Lib.hid ((bv_length C).trans hcl)
      have hov := over_block (st := Sh.stt T) (blk := Sh.pad (Sh.rest T)) (sz := (T.length : Int)) (Sh.stt_length T) (Sh.pad_length (by rw [Sh.rest_length]; omega)) b C (by omega)
      have hrb : (Sh.rest T).length = b := by rw [Sh.rest_length, HB.out]
      rw [hcl, pad_over hrb hcl hnb] at hov
      have hpl : (Sh.pad (Sh.rest T ++ C)).length = 64 := Sh.pad_length (by rw [List.length_append]; omega)
      have HPL := Lib.hid hpl
      have HOV := Lib.hid hov
      have hslast := HCx_setLast (st := Sh.stt T) (blk := Sh.pad (Sh.rest T ++ C)) (sz := (T.length : Int)) (Sh.stt_length T) hpl ((T.length : Int) + (n : Int))
      have HSLAST := Lib.hid hslast
      have hclast := HCx_last (st := Sh.stt T) (blk := Sh.pad (Sh.rest T ++ C)) (sz := (T.length : Int)) (Sh.stt_length T) hpl
      have HCLAST := Lib.hid hclast
      have HRB := Lib.hid hrb
      unfold HashIs at hH
      rw [HC_eq] at hH
      have hcurs := HCx_size (st := Sh.stt T) (blk := Sh.pad (Sh.rest T)) (sz := (T.length : Int)) (Sh.stt_length T) (Sh.pad_length (by rw [Sh.rest_length]; omega))
      have HCURS := Lib.hid hcurs
      have hnc : (n : Int) ≤ (r.length : Int) := by omega
      have hsc := run_slice_from (P := Tryd.prog) Tryd.underlying22 infoU81 (some ad) r.length c n hnr
      clear hn hC hcl hsrc hov hrb hpl hslast hclast hcurs hcell
      generalize hX : (HCx (Sh.stt T) (Sh.pad (Sh.rest T)) (T.length : Int)).toArray = X at *
      clear hX
      have HSZ2 := Lib.hid (HCx_size (st := Sh.stt T) (blk := Sh.pad (Sh.rest T ++ C)) (sz := (T.length : Int)) (Sh.stt_length T) HPL.out)
      have HNXT := Lib.hid (fun (w' : World) (h : wr.grownBy w' (some g)) => rest_rd (n := n) HR.out HNE.out h hnr hc1)
      by_cases hf : b + n = 64
      · have hff : (((b : Int) + (n : Int)) == 64) = true := by rw [beq_iff_eq]; omega
        go_wp2_with (first
        | (refine at_dst 23 rfl ?_; go_must (refine wpList_copy_own rfl (.tmp 21) (.tmp 22) 22 22 rfl 5 Tryd.underlying22 infoU81 g (9 + b) (64 - b) (64 - b) ad r.length c rfl rfl X _ hH (bv C) (by rw [HBL.out]; exact HN.out) HSRC.out (by rw [HBL.out, HCURS.out]; omega) (bv_one C) ?_; generalize hw2 : World.setRow _ _ _ = w2; rw [HBL.out, show goInt n = .int .i64 (n : Int) from rfl]; have hH2 : Blk w2 g 52 (over X (9 + b) (bv C)) := hw2 ▸ Blk.row hH _; rw [HOV.out] at hH2; have hg2 : w.grownBy w2 (some g) := hw2 ▸ only_row hgw _; have hgr2 : wr.grownBy w2 (some g) := hw2 ▸ only_row (World.grownBy.refl wr _) _; have csz2 := (hH2.cell 73).trans HCLAST.out; clear hw2))
        | (refine at_sto 3 (.tmp 31) (.tmp 29) rfl ?_; go_must (refine wpList_store_blk rfl 3 (.tmp 31) (.tmp 29) rfl g 73 (.int .i64 ((T.length : Int) + (n : Int))) rfl rfl _ _ hH2 (by rw [HSZ2.out]; decide) rfl (by kernel_rfl) ?_; intro w3 hH3 hk3 hs3 hb3; rw [HSLAST.out] at hH3; have hg3 := only_oth hg2 hk3 hs3 (hb3 _ _ (Nat.zero_le _) (Below.refl 0 w2)); have hgr3 := only_oth hgr2 hk3 hs3 (hb3 _ _ (Nat.zero_le _) (Below.refl 0 w2)))))
        have hfull : T.length % 64 + C.length = 64 := by rw [← HB.out, HCL.out]; exact hf
        have hpl : (Sh.rest T ++ C).length = 64 := by rw [List.length_append, Sh.rest_length]; exact hfull
        rw [pad_self hpl] at hH3
        have hsf := Sh.stt_full hfull
        have hrf := Sh.rest_full hfull
        obtain ⟨D, hD⟩ : ∃ D, D = Sh.rest T ++ C := ⟨_, rfl⟩
        rw [← hD] at hH3 hpl hsf
        have hkd : KT w3.drew := (hk.only hg3 hkn).drew
        have NX := Lib.hid (next_any (Sh.stt T) D w3.drew (Sh.stt_length T) (Sh.stt_ws T) hpl hkd)
        have h8 := Sh.stt_length T
        have HRS := Lib.hid (fun (W : World) (h : Blk W g 52 (HCx (Sh.stt T) D ((T.length : Int) + (n : Int))).toArray) => And.intro (HCx_state h) (HCx_block h8 hpl h))
        have HSL := Lib.hid ((uv_length (Sh.stt T)).trans h8)
        have HDL := Lib.hid ((bv_length D).trans hpl)
        have hml : (Sh.mix (Sh.stt T) D).length = 8 := Sh.mix_length _ _
        have HO1 := Lib.hid (over_state (blk := D) (sz := (T.length : Int) + (n : Int)) h8 hml)
        have hO2 := over_block (st := Sh.mix (Sh.stt T) D) (blk := D) (sz := (T.length : Int) + (n : Int)) hml hpl 0 (List.replicate 64 0) (by simp)
        rw [List.take_zero, List.nil_append, List.length_replicate, Nat.zero_add, List.drop_of_length_le (by omega), List.append_nil] at hO2
        have HO2 := Lib.hid hO2
        have HX1 := Lib.hid (HCx_size (sz := (T.length : Int) + (n : Int)) h8 hpl)
        have HX2 := Lib.hid (HCx_size (sz := (T.length : Int) + (n : Int)) hml hpl)
        have HSF := Lib.hid hsf
        have HRF := Lib.hid hrf
        have hHd : Blk w3.drew g 52 (HCx (Sh.stt T) D ((T.length : Int) + (n : Int))).toArray := hH3
        have hgd : w.grownBy w3.drew (some g) := only_drew hg3
        have hgrd : wr.grownBy w3.drew (some g) := only_drew hgr3
        have HML := Lib.hid ((uv_length (Sh.mix (Sh.stt T) D)).trans hml)
        clear hsf hrf hD hpl h8 hml hO2 hH3 hH2 csz2 hg2 hgr2 hg3 hgr3 csz hH hsl hsc hgw hk3 hs3 hb3 hff hmod
        refine wp_region_any (by kernel_rfl) ?_
        change wpAny _ _ _ _ _ _ _ (World.drew _)
        refine wpAny_of_zed (S := fun w' => Blk w' g 52 (HCx (Sh.stt T) D ((T.length : Int) + (n : Int))).toArray) (z := 12) _ _ _ _ ?_
        refine zed_take (i := 0) (v := ?_) rfl (by kernel_rfl) (by kernel_rfl) (by kernel_rfl) (by kernel_rfl) (fun _ _ _ h => h) (Or.inl ⟨by rfl, ?_⟩) (hHd) ?_
        rotate_left
        · intro wq hS
          have hS' := hS
          try simp only [] at hS'
          go_simp; try with_reducible rfl
        change wpAnyZ _ _ _ _ _ _ _ _ (Act.put _ _ _) _
        refine zed_take (i := 1) (v := ?_) rfl (by kernel_rfl) (by kernel_rfl) (by kernel_rfl) (by kernel_rfl) (fun _ _ _ h => h) (Or.inl ⟨by rfl, ?_⟩) (hHd) ?_
        rotate_left
        · intro wq hS
          have hS' := hS
          try simp only [] at hS'
          go_simp; try with_reducible rfl
        change wpAnyZ _ _ _ _ _ _ _ _ (Act.put _ _ _) _
        refine zed_take (i := 2) (v := ?_) rfl (by kernel_rfl) (by kernel_rfl) (by kernel_rfl) (by kernel_rfl) (fun _ _ _ h => h) (Or.inl ⟨by rfl, ?_⟩) (hHd) ?_
        rotate_left
        · intro wq hS
          have hS' := hS
          try simp only [] at hS'
          go_simp; try with_reducible rfl
        change wpAnyZ _ _ _ _ _ _ _ _ (Act.put _ _ _) _
        refine zed_take (i := 3) (v := ?_) rfl (by kernel_rfl) (by kernel_rfl) (by kernel_rfl) (by kernel_rfl) (fun _ _ _ h => h) (Or.inl ⟨by rfl, ?_⟩) (hHd) ?_
        rotate_left
        · intro wq hS
          have hS' := hS
          try simp only [] at hS'
          go_simp; try with_reducible rfl
        change wpAnyZ _ _ _ _ _ _ _ _ (Act.put _ _ _) _
        refine zed_take (i := 4) (v := .agg (uv (Sh.stt T)).toArray) rfl (by kernel_rfl) (by kernel_rfl) (by kernel_rfl) (by kernel_rfl) (fun _ _ _ h => h) ?_ hHd ?_
        · exact yieldsIf_load_mid (by rfl) 48 (.tmp 42) rfl g 1 rfl (uv (Sh.stt T)) _ (fun W h => (HRS.out W h).1) Tryd.underlying48 rfl (by rw [HSL.out]; exact infoS8)
        change wpAnyZ _ _ _ _ _ _ _ _ (Act.put _ _ _) _
        go_simp
        refine zed_take (i := 5) (v := ?_) rfl (by kernel_rfl) (by kernel_rfl) (by kernel_rfl) (by kernel_rfl) (fun _ _ _ h => h) (Or.inl ⟨by rfl, ?_⟩) (hHd) ?_
        rotate_left
        · intro wq hS
          have hS' := hS
          try simp only [] at hS'
          go_simp; try with_reducible rfl
        change wpAnyZ _ _ _ _ _ _ _ _ (Act.put _ _ _) _
        refine zed_take (i := 6) (v := ?_) rfl (by kernel_rfl) (by kernel_rfl) (by kernel_rfl) (by kernel_rfl) (fun _ _ _ h => h) (Or.inl ⟨by rfl, ?_⟩) (hHd) ?_
        rotate_left
        · intro wq hS
          have hS' := hS
          try simp only [] at hS'
          go_simp; try with_reducible rfl
        change wpAnyZ _ _ _ _ _ _ _ _ (Act.put _ _ _) _
        refine zed_take (i := 7) (v := ?_) rfl (by kernel_rfl) (by kernel_rfl) (by kernel_rfl) (by kernel_rfl) (fun _ _ _ h => h) (Or.inl ⟨by rfl, ?_⟩) (hHd) ?_
        rotate_left
        · intro wq hS
          have hS' := hS
          try simp only [] at hS'
          go_simp; try with_reducible rfl
        change wpAnyZ _ _ _ _ _ _ _ _ (Act.put _ _ _) _
        refine zed_take (i := 8) (v := .agg (bv D).toArray) rfl (by kernel_rfl) (by kernel_rfl) (by kernel_rfl) (by kernel_rfl) (fun _ _ _ h => h) ?_ hHd ?_
        · exact yieldsIf_load_mid (by rfl) 50 (.tmp 46) rfl g 9 rfl (bv D) _ (fun W h => (HRS.out W h).2) Tryd.underlying50 rfl (by rw [HDL.out]; exact infoB64)
        change wpAnyZ _ _ _ _ _ _ _ _ (Act.put _ _ _) _
        go_simp
        generalize World.drew w3 = wd at *
        refine zed_op 9 (by kernel_rfl) rfl rfl (fun K hK => ?_)
        go_simp
        refine NX.out.mono ?_; rintro e' w5 ⟨rfl, hb5⟩
        have hH5 := hHd.later hb5
        refine hK _ _ (fun _ => hH5) ?_; clear hK K
        have hg5 := only_later hgd hb5
        have hgr5 := only_later hgrd hb5
        go_simp
        refine zed_op 10 (by kernel_rfl) rfl rfl (fun K hK => ?_)
        go_simp
        refine hK _ _ (fun _ => hH5) ?_; clear hK K
        refine zed_op 11 (by kernel_rfl) rfl rfl (fun K hK => ?_)
        go_simp
        refine hK _ _ (fun _ => hH5) ?_; clear hK K
        go_simp
        refine zed_op 12 (by kernel_rfl) rfl rfl (fun K hK => wp_store_over 48 (.tmp 50) (.tmp 48) rfl g 1 (uv (Sh.mix (Sh.stt T) D)).toArray rfl rfl _ _ hH5 (by rw [HX1.out, List.size_toArray, HML.out]; decide) (by rw [List.size_toArray, HML.out]; exact infoS8) (uv_all _) (hK _ _ (fun h => absurd rfl h) ?_))
        clear hK K
        have hH6 : Blk (w5.setRow g (over (HCx (Sh.stt T) D ((T.length : Int) + (n : Int))).toArray 1 (uv (Sh.mix (Sh.stt T) D)).toArray.toList)) g 52 _ := Blk.row hH5 _
        have hg6 := only_row hg5 (over (HCx (Sh.stt T) D ((T.length : Int) + (n : Int))).toArray 1 (uv (Sh.mix (Sh.stt T) D)).toArray.toList)
        have hgr6 := only_row hgr5 (over (HCx (Sh.stt T) D ((T.length : Int) + (n : Int))).toArray 1 (uv (Sh.mix (Sh.stt T) D)).toArray.toList)
        generalize w5.setRow g (over (HCx (Sh.stt T) D ((T.length : Int) + (n : Int))).toArray 1 (uv (Sh.mix (Sh.stt T) D)).toArray.toList) = w6 at *
        rw [List.toList_toArray, HO1.out] at hH6
        refine ⟨by kernel_rfl, ?_⟩
        go_wp2_with (first
          | (refine at_dst 52 rfl ?_; go_must (refine wpList_build_as rfl 50 _ rfl [] rfl (bv (List.replicate 64 0)).toArray (by kernel_rfl) ?_))
          | (refine at_sto 50 (.tmp 54) (.tmp 52) rfl ?_; go_must (refine wpList_store_over rfl 50 (.tmp 54) (.tmp 52) rfl g 9 (bv (List.replicate 64 0)).toArray rfl rfl _ _ hH6 (by rw [HX2.out, bv_size, List.length_replicate]; decide) (by rw [bv_size, List.length_replicate]; exact infoB64) (bv_all _) ?_; generalize hw7 : World.setRow _ _ _ = w7; have hH7 : Blk w7 g 52 _ := hw7 ▸ Blk.row hH6 _; have hg7 : w.grownBy w7 (some g) := hw7 ▸ only_row hg6 _; have hgr7 : wr.grownBy w7 (some g) := hw7 ▸ only_row hgr6 _; clear hw7)))
        go_roundw
        case rel =>
          obtain ⟨q1, q2⟩ := HNXT.out _ hgr7
          rw [HO2.out] at hH7
          exact ⟨d ++ C, r.drop n, _, c - n, by rw [HBS.out, List.append_assoc, HCC.out, List.take_append_drop], by rw [List.length_drop], by rw [List.length_drop]; omega, by omega, q1, q2, by
            rw [← List.append_assoc, ← HT.out]
            unfold HashIs
            rw [HC_eq, HSF.out, HRF.out, List.length_append, HCL.out, Int.natCast_add]
            exact hH7, hg7⟩
        case measure => omega
      · have hff : (((b : Int) + (n : Int)) == 64) = false := by rw [beq_eq_false_iff_ne]; omega
        go_wp2_with (first
        | (refine at_dst 23 rfl ?_; go_must (refine wpList_copy_own rfl (.tmp 21) (.tmp 22) 22 22 rfl 5 Tryd.underlying22 infoU81 g (9 + b) (64 - b) (64 - b) ad r.length c rfl rfl X _ hH (bv C) (by rw [HBL.out]; exact HN.out) HSRC.out (by rw [HBL.out, HCURS.out]; omega) (bv_one C) ?_; generalize hw2 : World.setRow _ _ _ = w2; rw [HBL.out, show goInt n = .int .i64 (n : Int) from rfl]; have hH2 : Blk w2 g 52 (over X (9 + b) (bv C)) := hw2 ▸ Blk.row hH _; rw [HOV.out] at hH2; have hg2 : w.grownBy w2 (some g) := hw2 ▸ only_row hgw _; have hgr2 : wr.grownBy w2 (some g) := hw2 ▸ only_row (World.grownBy.refl wr _) _; have csz2 := (hH2.cell 73).trans HCLAST.out; clear hw2))
        | (refine at_sto 3 (.tmp 31) (.tmp 29) rfl ?_; go_must (refine wpList_store_blk rfl 3 (.tmp 31) (.tmp 29) rfl g 73 (.int .i64 ((T.length : Int) + (n : Int))) rfl rfl _ _ hH2 (by rw [HSZ2.out]; decide) rfl (by kernel_rfl) ?_; intro w3 hH3 hk3 hs3 hb3; rw [HSLAST.out] at hH3; have hg3 := only_oth hg2 hk3 hs3 (hb3 _ _ (Nat.zero_le _) (Below.refl 0 w2)); have hgr3 := only_oth hgr2 hk3 hs3 (hb3 _ _ (Nat.zero_le _) (Below.refl 0 w2)))))
        go_roundw
        case rel =>
          obtain ⟨q1, q2⟩ := HNXT.out _ hgr3
          have hlt : T.length % 64 + C.length < 64 := by rw [← HB.out, HCL.out]; omega
          exact ⟨d ++ C, r.drop n, _, c - n, by rw [HBS.out, List.append_assoc, HCC.out, List.take_append_drop], by rw [List.length_drop], by rw [List.length_drop]; omega, by omega, q1, q2, by
            rw [← List.append_assoc, ← HT.out]
            unfold HashIs
            rw [HC_eq, Sh.stt_less hlt, Sh.rest_less hlt, List.length_append, HCL.out, Int.natCast_add]
            exact hH3, hg3⟩
        case measure => simp; omega
end Go.Proofs.YtkgkllpecpcgjaaDoor

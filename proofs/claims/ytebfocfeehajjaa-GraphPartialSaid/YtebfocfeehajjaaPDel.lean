/- The library's DeleteFunc of numbers: those that are marked go. -/
import Derived.Test.YtebfocfeehajjaaPOrder
namespace Go.Proofs.Ytebfocfeehajjaa
open Go Go.RowKit Go.Shelf Go.Sort

set_option maxRecDepth 100000 in
set_option maxHeartbeats 1000000 in
theorem clo_had (lb lr N : Nat) (LT : List Bool) (W : World) (h : LateW lb lr N LT W) (hl : LT.length = N) (hN : N ≤ 200) (x : Nat) (hx : x < N) :
    Calls Try.prog 48 #[.int .i64 (x : Int), .pointer (some ⟨lb, 0, none⟩)] W fun e w' => e = .returned (.bool (LT.getD x false)) ∧ ∃ q, w' = W.drewN q := by
  have c1 : W.cell? ⟨lb, 0, none⟩ = some (.slice (some ⟨lr, 0, none⟩) N N) := h.box.cell 0
  have c2 : W.cell? ⟨lr, x, none⟩ = some (.bool (LT.getD x false)) := (h.row.cell x).trans (bl_at (by rw [hl]; exact hx))
  have hxI : (x : Int) < (N : Int) := by omega
  generalize LT.getD x false = b at *
  go_enter Try.func48, Try.ntmps48
  go_wp2_with fail
  go_ret
  exact ⟨rfl, 0, rfl⟩
theorem LateW.grown {lb lr N : Nat} {LT : List Bool} {W W' : World} {g : Nat} {cur : Array Value} (h : LateW lb lr N LT W) (hg : W.grownBy W' (some g)) (hb : Blk W g 3 cur) : LateW lb lr N LT W' :=
  ⟨h.box.grown hg (fun e => blk_ne h.box hb (by decide) (Option.some.inj e)), h.row.grown hg (fun e => blk_ne h.row hb (by decide) (Option.some.inj e))⟩

set_option maxRecDepth 100000 in
set_option maxHeartbeats 1000000 in
theorem pdel_none (A' : Option Addr) (c' : Nat) (fv : Value) (W : World) : Calls Try.prog 47 #[.slice A' 0 c', fv] W fun e w' => e = .returned (.slice A' 0 c') ∧ w' = W := by
  have HI := Lib.hid (Try.slices_IndexFunc_empty (α := Nat) A' c' fv W)
  go_enter Try.func47, Try.ntmps47
  go_wp2_with fail
  refine HI.out.mono ?_; rintro e w1 ⟨rfl, rfl⟩
  go_wp2_with fail
  go_ret
  exact ⟨rfl, rfl⟩

theorem pdelfunc_any (lb lr N : Nat) (LT : List Bool) (W : World) (h : LateW lb lr N LT W) (hl : LT.length = N) (hN : N ≤ 200) (base2 : Nat) (A' : Option Addr) (c' : Nat) (K : List Nat) (ho : W.ownsRow base2 3 1 (.slice A' K.length c') K.length (nv K)) (hK : ∀ n ∈ K, n < N) (hl2 : K.length ≤ 200) :
    Calls Try.prog 47 #[.slice A' K.length c', .func (.func 48) #[] #[.pointer (some ⟨lb, 0, none⟩)]] W fun e w' => e = .returned (.slice A' (K.filter fun n => !LT.getD n false).length c') ∧
      w'.ownsRow base2 3 1 (.slice A' (K.filter fun n => !LT.getD n false).length c') (K.filter fun n => !LT.getD n false).length (nv (K.filter fun n => !LT.getD n false)) ∧ W.grownBy w' (Value.slice A' K.length c').ownBlock := by
  by_cases h0 : K = []
  · subst h0
    refine (pdel_none A' c' _ W).mono ?_
    rintro e w' ⟨rfl, rfl⟩
    exact ⟨rfl, ho, World.grownBy.refl _ _⟩
  · obtain ⟨D, hDm⟩ := nums_exist hK
    have hpos : 0 < K.length := List.length_pos_iff.2 h0
    have hN0 : 0 < N := Nat.lt_of_le_of_lt (Nat.zero_le _) (hK _ (List.getElem_mem hpos))
    haveI : Inhabited (Num N) := ⟨⟨0, hN0⟩⟩
    have hlen : K.length = D.toArray.size := by rw [← hDm]; simp
    obtain ⟨hl1, h2⟩ := ho
    rcases h2 with ⟨-, h2⟩ | ⟨g, cap', cur, hv, h3, h4, h5, h6, h7, h8⟩
    · omega
    · have ho' : W.ownsRow base2 3 1 (.slice A' K.length c') K.length (nv K) := ⟨hl1, .inr ⟨g, cap', cur, hv, h3, h4, h5, h6, h7, h8⟩⟩
      injection hv with e1 _ e3
      subst e1
      subst e3
      have hblk : Blk W g 3 cur := h4
      have hH : Holds encN W g 0 D.toArray := by
        intro j hj
        rw [Nat.zero_add]
        refine ⟨?_, hblk.frozen j⟩
        rw [hblk.cell j]
        have e1 : cur[j]? = (nv K)[j]? := by
          rw [← h8, List.getElem?_take, if_pos (by omega)]; simp
        rw [e1, ← hDm, ← encN_map, List.getElem?_map]
        have hj' : j < D.length := by simpa using hj
        rw [List.getElem?_eq_getElem hj', getElem!_pos D.toArray j hj]
        simp
      have hput : ∀ (m : Nat) (os : Array Obj) (dk : Array (Num N)), dk.size = D.toArray.size → (sortWorld encN W g 0 m dk os).ownsRow base2 3 1 (.slice (some ⟨g, 0, none⟩) K.length c') K.length (dk.toList.map encN) ∧ W.grownBy (sortWorld encN W g 0 m dk os) (some g) :=
        fun m os dk hk => own_put ho' dk (by rw [hk, hlen]) m os
      have hp : PredAt Try.prog 48 #[.pointer (some ⟨lb, 0, none⟩)] encN (fun y : Num N => LT.getD y.1 false) W :=
        fun W' y hb => clo_had lb lr N LT W' (h.below hb) hl hN y.1 y.2
      have hpo : PredOver Try.prog 48 #[.pointer (some ⟨lb, 0, none⟩)] encN (fun y : Num N => LT.getD y.1 false) g 0 D.toArray.size W :=
        fun m os dk y hk => clo_had lb lr N LT _ (h.grown (hput m os dk hk).2 hblk) hl hN y.1 y.2
      have hs := Try.slices_DeleteFunc encN encN_one (fun y : Num N => LT.getD y.1 false) 48 #[.pointer (some ⟨lb, 0, none⟩)] (enters_of Try.func48 (by kernel_rfl) rfl) ⟨0, hN0⟩ (fun w => zeroInt w) g 0 c' D.toArray W hp hpo hH (by rw [← hlen]; omega) (by rw [← hlen]; exact h5)
      rw [← hlen] at hs
      refine hs.mono ?_
      rintro e w' ⟨rfl, q, rfl⟩
      have hfl : (D.toArray.toList.filter fun x : Num N => !LT.getD x.1 false).map (fun x => x.1) = K.filter fun n => !LT.getD n false := by
        rw [← hDm, List.filter_map]; rfl
      have hfn : (D.toArray.toList.filter fun x : Num N => !LT.getD x.1 false).length = (K.filter fun n => !LT.getD n false).length := by rw [← hfl, List.length_map]
      have hle : (K.filter fun n => !LT.getD n false).length ≤ K.length := List.length_filter_le _ _
      have hsz : ((D.toArray.toList.filter fun x : Num N => !LT.getD x.1 false) ++ List.replicate (K.length - (D.toArray.toList.filter fun x : Num N => !LT.getD x.1 false).length) (⟨0, hN0⟩ : Num N)).toArray.size = D.toArray.size := by
        rw [List.size_toArray, List.length_append, List.length_replicate, hfn, ← hlen]; omega
      obtain ⟨o1, o2⟩ := hput q #[] _ hsz
      have e5 : ∀ dk : Array (Num N), sortWorld encN W g 0 q dk #[] = putRow encN (Sort.ahead W q) g 0 dk := fun dk => by unfold sortWorld; rw [grow_empty]
      rw [e5] at o1 o2
      rw [hfn]
      rw [hfn] at o1 o2
      refine ⟨rfl, ?_, o2⟩
      have h10 := own_cut o1 (m := (K.filter fun n => !LT.getD n false).length) hle
      have e6 : (((D.toArray.toList.filter fun x : Num N => !LT.getD x.1 false) ++ List.replicate (K.length - (K.filter fun n => !LT.getD n false).length) (⟨0, hN0⟩ : Num N)).toArray.toList.map encN).take (K.filter fun n => !LT.getD n false).length = nv (K.filter fun n => !LT.getD n false) := by
        rw [← List.map_take, List.take_append_of_le_length (by rw [hfn]; exact Nat.le_refl _), List.take_of_length_le (by rw [hfn]; exact Nat.le_refl _), encN_map, hfl]
      rw [e6] at h10
      exact h10
end Go.Proofs.Ytebfocfeehajjaa

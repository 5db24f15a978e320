/- The program's Make: its literal, which takes an edit in. -/
import Derived.Test.YtmanafhdmijfeaaPHold
import Derived.Test.YtmanafhdmijfeaaPKind
namespace Go.Proofs.Ytmanafhdmijfeaa
open Go Go.RowKit

/-- The edit of a run. -/
def newE (kd : Int) (f t : List UInt8) : Ed := if kd = 3 then ⟨3, 0, t⟩ else ⟨kd, (f.length : Int), []⟩
theorem build_kdn (k n : Int) (w : World) : (Instr.build 32 #[(0, .int .i64 k), (1, .int .i64 n)]).run Try.prog w = .ok (.agg #[.int .i64 k, .int .i64 n, .string ⟨#[]⟩]) w := run_build w 32 _ _ (by kernel_rfl)

set_option maxRecDepth 100000 in
set_option maxHeartbeats 4000000 in
theorem mk1_any (B T : Nat) (K : List Ed) (v : Value) (kd : Int) (f t : List UInt8) (w : World) (hX : Boxed B K T v w) (hK : K.length ≤ 4000) (ht : t.length ≤ 1000) :
    Calls Try.prog 24 #[.int .i64 kd, .string (sB f), .string (sB t), .pointer (some ⟨B, 0, none⟩)] w fun e w' => e = .returned (.tuple #[]) ∧ ∃ v', Held B (K ++ [newE kd f t]) T w v' w' := by
  obtain ⟨i0, hi, hz0, hz1, hz2⟩ := info_parts infoEd
  have hsz := sB_size t
  have hsf := sB_size f
  have HX := Lib.hid hX
  have hBs := hX.size
  have cB : w.cell? ⟨B, 0, none⟩ = some v := hX.blk.cell 0
  have fB := hX.blk.frozen 0
  clear hX
  by_cases hk3 : kd = 3
  · subst hk3
    have HE := Lib.hid (show newE 3 f t = ⟨3, 0, t⟩ from rfl)
    rw [HE.out]
    go_enter Try.func24, Try.ntmps24
    go_wp2_with fail
    have HXd := Lib.hid HX.out.drew
    have hBd := HXd.out.blk
    have HBd := Lib.hid (Below.refl B w).drew
    have hBs' : B < w.drew.heap.size := hBs
    have HSTd := Lib.hid (show ∀ g t cs, Blk w g t cs → Blk w.drew g t cs from fun g t cs h => h.drew)
    clear cB fB
    refine wp_region_any (by kernel_rfl) ?_
    change wpAny _ _ _ _ _ _ _ (World.drew _)
    refine wpAny_of_zed (S := fun w' => Blk w' B 22 #[v]) (z := 7) _ _ _ _ ?_
    generalize World.drew w = wd at *
    refine zed_take (i := 0) (v := v) rfl (by kernel_rfl) (by kernel_rfl) (by kernel_rfl) (by kernel_rfl) (fun _ _ _ h => h) (Or.inl ⟨by rfl, ?_⟩) hBd ?_
    · intro wq hS
      have hS' : wq.cell? ⟨B, 0, none⟩ = some v := Blk.cell hS 0
      go_simp
    change wpAnyZ _ _ _ _ _ _ _ _ (Act.put _ _ _) _
    refine zed_take (i := 1) (v := ?_) rfl (by kernel_rfl) (by kernel_rfl) (by kernel_rfl) (by kernel_rfl) (fun _ _ _ h => h) (Or.inl ⟨by rfl, ?_⟩) (hBd) ?_
    rotate_left
    · intro wq hS
      have hS' := hS
      try simp only [] at hS'
      go_simp; try with_reducible rfl
    change wpAnyZ _ _ _ _ _ _ _ _ (Act.put _ _ _) _
    refine zed_take (i := 2) (v := ?_) rfl (by kernel_rfl) (by kernel_rfl) (by kernel_rfl) (by kernel_rfl) (fun _ _ _ h => h) (Or.inl ⟨by rfl, ?_⟩) (hBd) ?_
    rotate_left
    · intro wq hS
      have hS' := hS
      try simp only [] at hS'
      go_simp; try with_reducible rfl
    change wpAnyZ _ _ _ _ _ _ _ _ (Act.put _ _ _) _
    go_simp
    have HC := Lib.hid (clone_any (sB t) wd (by omega))
    have hbp := build_put
    refine zed_op 3 (by kernel_rfl) rfl rfl (fun Kq hK => ?_)
    go_simp
    refine HC.out.mono ?_; rintro e' w5 ⟨rfl, hb5⟩
    have HX5 := Lib.hid (HXd.out.later hb5)
    refine hK _ _ (fun _ => HX5.out.blk) ?_; clear hK Kq
    go_simp
    refine zed_op 4 (by kernel_rfl) rfl rfl (fun Kq hK => ?_)
    go_simp
    refine hK _ _ (fun _ => HX5.out.blk) ?_; clear hK Kq
    go_simp
    refine zed_op 5 (by kernel_rfl) rfl rfl (fun Kq hK => ?_)
    go_simp
    have HSb : Blk (w5.alloc (Obj.cells #[Value.int IntKind.i64 3, Value.int IntKind.i64 0, Value.string (sB t)] 32)) B 22 #[v] := HX5.out.blk.alloc _
    refine hK _ _ (fun _ => HSb) ?_; clear hK Kq
    have hb5s : B ≤ w5.heap.size := Nat.le_trans (Nat.le_of_lt hBs') hb5.size
    refine zed_op 6 (by kernel_rfl) rfl rfl (fun Kq hK => op_appK _ 3 (.tmp 9) (.tmp 14) 22 22 rfl B 32 i0 _ 32 Try.underlying22 hi hz0 hz1 hz2 rfl v K.length (ev K) rfl (HX5.out.own.alloc _) (.slice (some ⟨w5.heap.size, 0, none⟩) 1 1) 1 (edCells ⟨3, 0, t⟩) rfl (new_srcK 3 Try.underlying22 w5 (edCells ⟨3, 0, t⟩) 1 1 32 (0, 0) rfl (ev_one [⟨3, 0, t⟩] · ·)) (by unfold maxLen; omega) (by omega) (by simp; omega) ?_)
    intro v2 w2 ho2 hg2 _
    rw [ev_snoc, ← len_snoc K ⟨3, 0, t⟩] at ho2
    obtain ⟨A2, k2, hv2, -, -, -⟩ := own_form ho2
    subst hv2
    have HH := Lib.hid (held_next HXd.out (hb5.trans ((below_alloc w5 _).mono hb5.size)) ho2 hg2)
    have hb2 := HSb.grown hg2 (fun e => HX5.out.ne e.symm)
    have c2 := hb2.cell 0
    have f2 := hb2.frozen 0
    simp only [List.getElem?_toArray, List.getElem?_cons_zero] at c2
    refine hK _ _ (fun _ => hb2) ?_; clear hK Kq
    go_simp
    refine zed_op 7 (by kernel_rfl) rfl rfl (fun Kq hK => ?_)
    go_simp
    refine hK _ _ (fun h => absurd rfl h) ?_; clear hK Kq
    refine ⟨by kernel_rfl, ?_⟩
    go_wp2_with fail
    go_end0
    have hh := HH.out
    simp only [len_snoc] at hh
    exact ⟨rfl, _, hh.box, HBd.out.trans hh.hb, hh.hBT, fun g t cs h1 h2 h3 => hh.stay g t cs h1 h2 (HSTd.out g t cs h3)⟩
  · have hkb : (kd == 3) = false := by simpa using hk3
    have HE := Lib.hid (show newE kd f t = ⟨kd, (f.length : Int), []⟩ by unfold newE; rw [if_neg hk3])
    rw [HE.out]
    have hbk := build_kdn
    go_enter Try.func24, Try.ntmps24
    go_wp2_with (at_builtin; go_must (refine wp_appK _ 3 rfl (.tmp 16) (.tmp 21) 22 22 rfl B 32 i0 _ 32 Try.underlying22 hi hz0 hz1 hz2 rfl v K.length (ev K) rfl (HX.out.own.alloc _) (.slice (some ⟨w.heap.size, 0, none⟩) 1 1) 1 (edCells ⟨kd, (f.length : Int), []⟩) rfl (new_srcK 3 Try.underlying22 w (edCells ⟨kd, (f.length : Int), []⟩) 1 1 32 (0, 0) rfl (ev_one [⟨kd, (f.length : Int), []⟩] · ·)) (by unfold maxLen; omega) (by omega) (by simp; omega) ?_); intro v2 w2 ho2 hg2 _; rw [ev_snoc, ← len_snoc K ⟨kd, (f.length : Int), []⟩] at ho2; obtain ⟨A2, k2, hv2, -, -, -⟩ := own_form ho2; subst hv2; have HH := Lib.hid (held_next HX.out (below_alloc w _) ho2 hg2); have hb2 := (HX.out.blk.alloc _).grown hg2 (fun e => HX.out.ne e.symm); have c2 := hb2.cell 0; have f2 := hb2.frozen 0; simp only [List.getElem?_toArray, List.getElem?_cons_zero] at c2; clear ho2 hg2 hb2 cB fB)
    go_end0
    have hh := HH.out
    simp only [len_snoc] at hh
    exact ⟨rfl, _, hh⟩
end Go.Proofs.Ytmanafhdmijfeaa

/- The program's under: the marks of what some stand above. -/
import Derived.Test.YtebfocfeehajjaaPAbove
namespace Go.Proofs.Ytebfocfeehajjaa
open Go Go.RowKit Go.Shelf
attribute [local go_sem] Oper.semAt_some

set_option maxRecDepth 100000 in
set_option maxHeartbeats 1000000 in
theorem pabove_any (gb : Nat) (As : Option Addr) (n cs : Nat) (w : World) :
    Calls Try.prog 44 #[.pointer (some ⟨gb, 0, none⟩), .slice As n cs] w fun e w' => e = .returned (.func (.func 55) #[] #[.pointer (some ⟨w.heap.size, 0, none⟩), .pointer (some ⟨w.heap.size + 1, 0, none⟩)]) ∧
      w' = (w.alloc (.cells #[.pointer (some ⟨gb, 0, none⟩)] 55)).alloc (.cells #[.slice As n cs] 64) := by
  go_enter Try.func44, Try.ntmps44
  go_wp2
  go_ret
  exact ⟨rfl, rfl⟩

/-- What a call leaves that turns the marks alone. -/
def Turned (db N : Nat) (w w' : World) : Prop := w.grownBy w' (some db) ∧ ∃ bs : List Bool, bs.length = N ∧ Blk w' db 4 (bl bs)

structure UnI (w : World) (db N : Nat) (pre : List Nat) (W : World) : Prop where
  row : Blk W w.heap.size 4 (bl (Gr.sets (List.replicate N false) pre))
  box : Blk W (w.heap.size + 1) 66 #[.slice (some ⟨w.heap.size, 0, none⟩) N N]
  gr : w.grownBy W (some db)

set_option maxRecDepth 100000 in
set_option maxHeartbeats 4000000 in
theorem punder_any (base gb db mb : Nat) (A : Option Addr) (c : Nat) (B : Option Addr) (d : Nat) (V : List Value) (ids : List (List UInt8)) (ns : List (List Nat)) (bs1 : List Bool) (w : World) (hG : GM base gb db mb A c B d V ids ns bs1 w) (hbl : bs1.length = ids.length) (hN : ids.length ≤ 200) (hns : ∀ (i : Nat) (L : List Nat), ns[i]? = some L → L.length ≤ 8 ∧ ∀ p ∈ L, p < ids.length) (hdn : Gr.Down ns)
    (b1 : Nat) (As : Option Addr) (cs : Nat) (S : List Nat) (hS : w.ownsRow b1 3 1 (.slice As S.length cs) S.length (nv S)) (hSl : S.length ≤ 4611686018427387904) (hSn : ∀ s ∈ S, s < ids.length) :
    Calls Try.prog 40 #[.pointer (some ⟨gb, 0, none⟩), .slice As S.length cs] w fun e w' => e = .returned (.slice (some ⟨w.heap.size, 0, none⟩) ids.length ids.length) ∧ Blk w' w.heap.size 4 (bl (Gr.mkTo ns ids.length (Gr.sets (List.replicate ids.length false) S))) ∧ Turned db ids.length w w' := by
  refine (callsIn_wide (n := 6)).1 ?_
  refine callsIn_of_wp_marks Try.func40 rfl trivial ?_ rfl
  simp only [Try.ntmps40, List.size_toArray, List.length_cons, List.length_nil, Nat.reduceAdd, Nat.reduceSub, Array.replicate_succ, Array.replicate_zero, List.push_toArray, List.append_toArray, List.nil_append, List.cons_append]
  have hdb : db < w.heap.size := hG.due.lt
  have c0 : w.cell? ⟨gb, 0, none⟩ = some (.slice A ids.length c) := hG.cells.cell 0
  have hmk := make_bools ids.length (by omega) w
  gi_wp2_with (first | (refine ⟨trivial, ?_⟩; gi_at_call 44; refine (callsIn_wide.2 (pabove_any gb As S.length cs _)).mono ?_; rintro e w' ⟨rfl, rfl⟩))
  obtain ⟨wc, hwc⟩ : ∃ y, y = ((((w.alloc (.cells (bl (List.replicate ids.length false)) 4)).alloc (.cells #[.slice (some ⟨w.heap.size, 0, none⟩) ids.length ids.length] 66)).alloc (.cells #[.pointer (some ⟨gb, 0, none⟩)] 55)).alloc (.cells #[.slice As S.length cs] 64)) := ⟨_, rfl⟩
  rw [← hwc]
  have hsz : wc.heap.size = w.heap.size + 4 := by rw [hwc]; simp
  have hbw : Below w.heap.size w wc := by rw [hwc]; exact ((((Below.refl _ _).alloc (Nat.le_refl _) _).alloc (by simp) _).alloc (by simp; omega) _).alloc (by simp; omega) _
  have r1 : Blk wc w.heap.size 4 (bl (List.replicate ids.length false)) := by rw [hwc]; exact (((Blk.new w _ _).alloc _).alloc _).alloc _
  have r2 : Blk wc (w.heap.size + 1) 66 #[.slice (some ⟨w.heap.size, 0, none⟩) ids.length ids.length] := by
    have h := ((Blk.new (w.alloc (.cells (bl (List.replicate ids.length false)) 4)) 66 #[.slice (some ⟨w.heap.size, 0, none⟩) ids.length ids.length]).alloc (.cells #[.pointer (some ⟨gb, 0, none⟩)] 55)).alloc (.cells #[.slice As S.length cs] 64)
    rw [World.size_alloc] at h
    rw [hwc]; exact h
  have r3 : Blk wc (w.heap.size + 1 + 1) 55 #[.pointer (some ⟨gb, 0, none⟩)] := by
    have h := (Blk.new ((w.alloc (.cells (bl (List.replicate ids.length false)) 4)).alloc (.cells #[.slice (some ⟨w.heap.size, 0, none⟩) ids.length ids.length] 66)) 55 #[.pointer (some ⟨gb, 0, none⟩)]).alloc (.cells #[.slice As S.length cs] 64)
    simp only [World.size_alloc] at h
    rw [hwc]; exact h
  have r4 : Blk wc (w.heap.size + 1 + 1 + 1) 64 #[.slice As S.length cs] := by
    have h := Blk.new (((w.alloc (.cells (bl (List.replicate ids.length false)) 4)).alloc (.cells #[.slice (some ⟨w.heap.size, 0, none⟩) ids.length ids.length] 66)).alloc (.cells #[.pointer (some ⟨gb, 0, none⟩)] 55)) 64 #[.slice As S.length cs]
    simp only [World.size_alloc] at h
    rw [hwc]; exact h
  clear hwc hmk c0
  have hvn : ∀ x ∈ Gr.vis ns ids.length (Gr.sets (List.replicate ids.length false) S), x < ids.length := fun x hx => ((Gr.mem_vis hdn _).1 hx).1
  refine wpIn_range_all (F := Fence.wide) (n := 6) (w := wc) rfl (by omega) (gf := 55) (lb := #[.pointer (some ⟨w.heap.size + 1 + 1, 0, none⟩), .pointer (some ⟨w.heap.size + 1 + 1 + 1, 0, none⟩)]) rfl trivial (enters_of Try.func55 (by kernel_rfl) rfl)
    (above1_all Fence.wide (6 - 1) trivial rfl (by omega) base gb db mb A c B d V ids ns bs1 w hG hbl hN hns b1 As cs S hS hSl hSn (w.heap.size + 1 + 1) (w.heap.size + 1 + 1 + 1) w.heap.size wc.heap.size (by omega) (Nat.le_refl _) ⟨by omega, by omega⟩ ⟨by omega, by omega⟩)
    rfl (by omega) (fun o o' => ⟨bs1, hbl, ⟨grown_of (hbw.trans (((below_alloc wc o).trans ((below_alloc _ o').mono (by simp))).mono hbw.size)) _, hG.due.below (hbw.trans (((below_alloc wc o).trans ((below_alloc _ o').mono (by simp))).mono hbw.size)) hdb, (r3.alloc o).alloc o', (r4.alloc o).alloc o'⟩⟩)
    (UnI w db ids.length) ?hI ⟨r1, r2, grown_of hbw _⟩
    (fun x => { tmps := #[.pointer (some ⟨gb, 0, none⟩), .slice As S.length cs, undef, undef, .slice none 0 0, .pointer (some ⟨w.heap.size + 1, 0, none⟩), .int .i64 (x : Int), .pointer (some ⟨gb, 0, none⟩), .pointer (some ⟨gb, 0, none⟩), .pointer (some ⟨gb, 0, none⟩), .slice A ids.length c, .int .i64 (ids.length : Int), .slice (some ⟨w.heap.size, 0, none⟩) ids.length ids.length, .pointer (some ⟨gb, 0, none⟩), .slice As S.length cs, .func (.func 55) #[] #[.pointer (some ⟨w.heap.size + 1 + 1, 0, none⟩), .pointer (some ⟨w.heap.size + 1 + 1 + 1, 0, none⟩)], .int .i64 (x : Int), undef, undef, undef, undef], defers := [] }) ?assign ?body ?done
  case hI =>
    rintro s X Y row hs hg hr
    refine ⟨hs.row.grown hg (fun e => ?_), hs.box.grown hg (fun e => ?_), ⟨hg.os.trans hs.gr.os, hg.tape.trans hs.gr.tape, hg.output.trans hs.gr.output, Nat.le_trans hs.gr.size hg.size, fun k hk hne => (hg.block k (Nat.lt_of_lt_of_le hk hs.gr.size) (fun e => ?_)).trans (hs.gr.block k hk hne)⟩⟩
    · rcases hr _ e.symm with h | ⟨h, -⟩ <;> omega
    · rcases hr _ e.symm with h | ⟨h, -⟩ <;> omega
    · rcases hr _ e.symm with h | ⟨h, -⟩
      · exact hne (by rw [h])
      · omega
  case assign =>
    intro l x W K hK
    gi_wp2
    exact hK
  case body =>
    rintro l pre x W hWs ⟨post, hpx⟩ hs
    have hx := hvn x (by rw [hpx]; simp)
    have c1 : W.cell? ⟨w.heap.size + 1, 0, none⟩ = some (.slice (some ⟨w.heap.size, 0, none⟩) ids.length ids.length) := hs.box.cell 0
    obtain ⟨v, hv⟩ : ∃ v, W.cell? ⟨w.heap.size, x, none⟩ = some v := ⟨_, (hs.row.cell x).trans (bl_at (by rw [Gr.sets_length, List.length_replicate]; exact hx))⟩
    have hf : W.frozen? ⟨w.heap.size, x, none⟩ = false := hs.row.frozen x
    have hxI : (x : Int) < (ids.length : Int) := by omega
    clear hpx
    gi_wp2
    refine ⟨(KeepsOthers.setCell _ _ _).from _, KpB.grown (grown_set W w.heap.size x (.bool true)) hWs (fun r e => by cases e; exact .inl rfl), ⟨?_, hs.box.far (p := ⟨w.heap.size, x, none⟩) (by simp) _, ?_⟩⟩
    · rw [Gr.sets_snoc, ← bl_set]
      exact hs.row.set_ x _
    · exact ⟨hs.gr.os, hs.gr.tape, hs.gr.output, by simpa [World.setCell] using hs.gr.size, fun k hk hne => (Below.heap_setCell W ⟨w.heap.size, x, none⟩ _ k (by show k ≠ w.heap.size; omega)).trans (hs.gr.block k hk hne)⟩
  case done =>
    rintro D W hD hs ⟨bs2, hl2, hd2⟩ hK
    have c1 : W.cell? ⟨w.heap.size + 1, 0, none⟩ = some (.slice (some ⟨w.heap.size, 0, none⟩) ids.length ids.length) := hs.box.cell 0
    gi_wp2
    refine ⟨by simp, .inl ⟨_, _, rfl, run_takeDeferred hK, ?_⟩⟩
    refine ⟨_, results_tmp rfl _ _ _, rfl, ?_, ⟨⟨hs.gr.os, hs.gr.tape, hs.gr.output, by simpa using hs.gr.size, fun k hk hne => (World.putObj_heap_other (by omega)).trans (hs.gr.block k hk hne)⟩, bs2, hl2, (World.putObj_heap_other (by omega)).trans hd2⟩⟩
    have hr := hs.row
    rw [Gr.sets_vis hdn (by rw [Gr.sets_length, List.length_replicate])] at hr
    exact (World.putObj_heap_other (by omega)).trans hr
end Go.Proofs.Ytebfocfeehajjaa

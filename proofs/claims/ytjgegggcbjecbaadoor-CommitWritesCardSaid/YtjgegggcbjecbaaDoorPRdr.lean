/- The program's reader: left, need, check, number, count, text. -/
import Derived.Test.YtjgegggcbjecbaaDoorByts
import Derived.Test.YtjgegggcbjecbaaDoorBase
namespace Go.Proofs.YtjgegggcbjecbaaDoor
open Go Go.RowKit

/-- An error thrown. -/
def thr (er : Nat) : Ending := .panicked [{ v := .iface 28 (.int .i64 (er : Int)), recovered := false }]
/-- A reader in block g, at place p of bytes that lie below B. -/
structure RdrB (B g : Nat) (A : Option Addr) (c : Nat) (b : List UInt8) (p : Nat) (w : World) : Prop where
  blk : Blk w g 65 #[.slice A b.length c, .int .i64 (p : Int)]
  rd : Rd w B A b.length (bv b)
  hB : B ≤ g
  hp : p ≤ b.length
theorem RdrB.c0 {B g c p : Nat} {A : Option Addr} {b : List UInt8} {w : World} (h : RdrB B g A c b p w) : w.cell? ⟨g, 0, none⟩ = some (.slice A b.length c) := h.blk.cell 0
theorem RdrB.c1 {B g c p : Nat} {A : Option Addr} {b : List UInt8} {w : World} (h : RdrB B g A c b p w) : w.cell? ⟨g, 1, none⟩ = some (.int .i64 (p : Int)) := h.blk.cell 1
theorem RdrB.later {B g c p : Nat} {A : Option Addr} {b : List UInt8} {w w' : World} (h : RdrB B g A c b p w) (hb : Below w.heap.size w w') : RdrB B g A c b p w' :=
  ⟨h.blk.later hb, h.rd.below (hb.mono (Nat.le_trans h.hB (Nat.le_of_lt h.blk.lt))), h.hB, h.hp⟩
theorem RdrB.drew {B g c p : Nat} {A : Option Addr} {b : List UInt8} {w : World} (h : RdrB B g A c b p w) : RdrB B g A c b p w.drew := ⟨h.blk, h.rd, h.hB, h.hp⟩
theorem gb_trans {w w1 w2 : World} {row : Option Nat} (h : w.grownBy w1 row) (k : w1.grownBy w2 row) : w.grownBy w2 row :=
  ⟨k.os.trans h.os, k.tape.trans h.tape, k.output.trans h.output, Nat.le_trans h.size k.size, fun i hi hn => (k.block i (Nat.lt_of_lt_of_le hi h.size) hn).trans (h.block i hi hn)⟩
theorem gb_below {w w1 : World} {row : Option Nat} (h : Below w.heap.size w w1) : w.grownBy w1 row := ⟨h.os, h.tape, h.output, h.size, fun i hi _ => h.block i hi⟩
theorem gb_set {w : World} (g i : Nat) (v : Value) : w.grownBy (w.setCell ⟨g, i, none⟩ v) (some g) :=
  ⟨rfl, rfl, rfl, by simp [World.setCell], fun k _ hk => Below.heap_setCell _ _ _ _ (fun e => hk (by simp [e]))⟩
theorem gb_drew {w : World} {row : Option Nat} : w.grownBy w.drew row := ⟨rfl, rfl, rfl, Nat.le_refl _, fun _ _ _ => rfl⟩
/-- Read on. -/
theorem RdrB.go {B g c p q : Nat} {A : Option Addr} {b : List UInt8} {w : World} (h : RdrB B g A c b p w) (hq : q ≤ b.length) : RdrB B g A c b q (w.setCell ⟨g, 1, none⟩ (.int .i64 (q : Int))) :=
  ⟨h.blk.set_ 1 _, h.rd.below ((Below.refl B w).setCell (p := ⟨g, 1, none⟩) h.hB _), h.hB, hq⟩
/-- How a part of the reading ends. -/
def RdO {α : Type} (B g : Nat) (A : Option Addr) (c : Nat) (b : List UInt8) (r : Except Nat (α × Nat)) (enc : α → Value) (w : World) (e : Ending) (w' : World) : Prop :=
  w.grownBy w' (some g) ∧ match r with
    | .ok z => e = .returned (enc z.1) ∧ RdrB B g A c b z.2 w'
    | .error er => e = thr er

set_option maxRecDepth 100000 in
set_option maxHeartbeats 1000000 in
theorem left_any (B g c p : Nat) (A : Option Addr) (b : List UInt8) (w : World) (h : RdrB B g A c b p w) (hl : b.length ≤ 9223372036854775807) :
    Calls Tryd.prog 55 #[.pointer (some ⟨g, 0, none⟩)] w (Ret (.int .i64 ((b.length - p : Nat) : Int)) w) := by
  have HB := Lib.hid (show Below w.heap.size w w.drew from (Below.refl _ _).drew)
  have c0 := h.drew.c0
  have c1 := h.drew.c1
  have hp := h.hp
  have hw : IntKind.i64.wrap ((b.length : Int) - (p : Int)) = ((b.length - p : Nat) : Int) := by rw [IntWalk.i64_in _ (by omega)]; omega
  clear h
  go_enter Tryd.func55, Tryd.ntmps55
  go_wp2_with fail
  refine still_all (by kernel_rfl) (by kernel_rfl) ?_
  generalize World.drew w = wd at *
  first | (with_reducible refine wpStill_step (fun K hK => ?_); go_simp; refine hK _ ?_; clear hK K) | (with_reducible refine still_skip ?hw (fun K hK => ?_); (case hw => simp [Region.wanted, yielded, undef]); go_simp; refine hK _ ?_; clear hK K)
  first | (with_reducible refine wpStill_step (fun K hK => ?_); go_simp; refine hK _ ?_; clear hK K) | (with_reducible refine still_skip ?hw (fun K hK => ?_); (case hw => simp [Region.wanted, yielded, undef]); go_simp; refine hK _ ?_; clear hK K)
  first | (with_reducible refine wpStill_step (fun K hK => ?_); go_simp; refine hK _ ?_; clear hK K) | (with_reducible refine still_skip ?hw (fun K hK => ?_); (case hw => simp [Region.wanted, yielded, undef]); go_simp; refine hK _ ?_; clear hK K)
  first | (with_reducible refine wpStill_step (fun K hK => ?_); go_simp; refine hK _ ?_; clear hK K) | (with_reducible refine still_skip ?hw (fun K hK => ?_); (case hw => simp [Region.wanted, yielded, undef]); go_simp; refine hK _ ?_; clear hK K)
  first | (with_reducible refine wpStill_step (fun K hK => ?_); go_simp; refine hK _ ?_; clear hK K) | (with_reducible refine still_skip ?hw (fun K hK => ?_); (case hw => simp [Region.wanted, yielded, undef]); go_simp; refine hK _ ?_; clear hK K)
  first | (with_reducible refine wpStill_step (fun K hK => ?_); go_simp; refine hK _ ?_; clear hK K) | (with_reducible refine still_skip ?hw (fun K hK => ?_); (case hw => simp [Region.wanted, yielded, undef]); go_simp; refine hK _ ?_; clear hK K)
  first | (with_reducible refine wpStill_step (fun K hK => ?_); go_simp; refine hK _ ?_; clear hK K) | (with_reducible refine still_skip ?hw (fun K hK => ?_); (case hw => simp [Region.wanted, yielded, undef]); go_simp; refine hK _ ?_; clear hK K)
  first | (with_reducible refine wpStill_step (fun K hK => ?_); go_simp; refine hK _ ?_; clear hK K) | (with_reducible refine still_skip ?hw (fun K hK => ?_); (case hw => simp [Region.wanted, yielded, undef]); go_simp; refine hK _ ?_; clear hK K)
  first | (with_reducible refine wpStill_step (fun K hK => ?_); go_simp; refine hK _ ?_; clear hK K) | (with_reducible refine still_skip ?hw (fun K hK => ?_); (case hw => simp [Region.wanted, yielded, undef]); go_simp; refine hK _ ?_; clear hK K)
  first | (with_reducible refine wpStill_step (fun K hK => ?_); go_simp; refine hK _ ?_; clear hK K) | (with_reducible refine still_skip ?hw (fun K hK => ?_); (case hw => simp [Region.wanted, yielded, undef]); go_simp; refine hK _ ?_; clear hK K)
  first | (with_reducible refine wpStill_step (fun K hK => ?_); go_simp; refine hK _ ?_; clear hK K) | (with_reducible refine still_skip ?hw (fun K hK => ?_); (case hw => simp [Region.wanted, yielded, undef]); go_simp; refine hK _ ?_; clear hK K)
  refine wpStill_nil ?_
  go_wp2_with fail
  go_ret
  exact ⟨rfl, HB.out⟩

set_option maxRecDepth 100000 in
set_option maxHeartbeats 1000000 in
theorem check_any (er : Nat) (w : World) :
    Calls Tryd.prog 31 #[.int .i64 (er : Int)] w fun e w' => w = w' ∧ if er = 0 then e = .returned (.tuple #[]) else e = thr er := by
  have hpn : ∀ (v : Value) (w : World), (Instr.panic (.iface 28 v)).run Tryd.prog w = .halt (.panic (.iface 28 v)) w := fun _ _ => rfl
  by_cases h : er = 0
  · subst h
    go_enter Tryd.func31, Tryd.ntmps31
    go_wp2_with fail
    go_end0
    exact ⟨rfl, rfl⟩
  · have hne : ((er : Int) != 0) = true := by rw [bne_iff_ne]; omega
    have hne2 : ¬ er = 0 := h
    go_enter Tryd.func31, Tryd.ntmps31
    go_wp2_with fail
    exact ⟨rfl, rfl, rfl⟩

set_option maxRecDepth 100000 in
set_option maxHeartbeats 1000000 in
theorem need_any (B g c p : Nat) (A : Option Addr) (b : List UInt8) (n : Nat) (w : World) (h : RdrB B g A c b p w) (hl : b.length ≤ 9223372036854775807) :
    Calls Tryd.prog 71 #[.pointer (some ⟨g, 0, none⟩), .int .i64 (n : Int)] w fun e w' => Below w.heap.size w w' ∧ if b.length < p + n then e = thr 8 else e = .returned (.tuple #[]) := by
  have hpn : ∀ (v : Value) (w : World), (Instr.panic (.iface 28 v)).run Tryd.prog w = .halt (.panic (.iface 28 v)) w := fun _ _ => rfl
  have C := Lib.hid (left_any B g c p A b w h hl)
  have hp := h.hp
  obtain ⟨k, hk⟩ : ∃ k, k = b.length - p := ⟨_, rfl⟩
  rw [← hk] at C
  by_cases hn : b.length < p + n
  · have hd : decide ((k : Int) < (n : Int)) = true := decide_eq_true (by omega)
    have hd2 : decide (k < n) = true := decide_eq_true (by omega)
    have HN := Lib.hid hn
    clear hk h hn
    go_enter Tryd.func71, Tryd.ntmps71
    go_wp2_with fail
    refine C.out.mono ?_; rintro e w1 ⟨rfl, hb1⟩
    have HB := Lib.hid hb1
    clear hb1
    go_wp2_with fail
    exact ⟨rfl, HB.out, rfl⟩
  · have hd : decide ((k : Int) < (n : Int)) = false := decide_eq_false (by omega)
    have hd2 : decide (k < n) = false := decide_eq_false (by omega)
    have HN := Lib.hid hn
    clear hk h hn
    go_enter Tryd.func71, Tryd.ntmps71
    go_wp2_with fail
    refine C.out.mono ?_; rintro e w1 ⟨rfl, hb1⟩
    have HB := Lib.hid hb1
    clear hb1
    go_wp2_with fail
    go_end0
    exact ⟨HB.out, rfl⟩

/-- A number, whatever it is. -/
def anyP (b : List UInt8) (p : Nat) : Except Nat (Nat × Nat) := if (Wi.getNum b p).2.2 ≠ 0 then .error (Wi.getNum b p).2.2 else .ok ((Wi.getNum b p).1, (Wi.getNum b p).2.1)

set_option maxRecDepth 100000 in
set_option maxHeartbeats 2000000 in
theorem number_any (B g c p : Nat) (A : Option Addr) (b : List UInt8) (w : World) (h : RdrB B g A c b p w) (hc : b.length ≤ c) (hm : c ≤ 9223372036854775807) :
    Calls Tryd.prog 70 #[.pointer (some ⟨g, 0, none⟩)] w (RdO B g A c b (anyP b p) (fun n => .int .i64 (n : Int)) w) := by
  have c0 := h.drew.c0
  have c1 := h.drew.c1
  have HX := Lib.hid h.drew
  have HG := Lib.hid (fun w (hr : Rd w B A b.length (bv b)) => (getNum_any A c B (p : Int) b w hr hc hm).mono (fun e w' h => (⟨h.1, h.2.symm⟩ : _ ∧ w' = w)))
  have hgb : w.grownBy w.drew (some g) := gb_drew
  have HGB := Lib.hid hgb
  have HCK := Lib.hid check_any
  obtain ⟨⟨n, q, e⟩, hg⟩ : ∃ x, x = Wi.getNum b (p : Int) := ⟨_, rfl⟩
  have hgs := hg.symm
  have HR := Lib.hid (show anyP b p = if e ≠ 0 then .error e else .ok (n, q) by unfold anyP; rw [hgs])
  obtain ⟨R, hR⟩ : ∃ R, R = anyP b p := ⟨_, rfl⟩
  rw [← hR] at HR ⊢
  rw [← hg] at HG
  unfold getV at HG
  simp only [] at HG
  clear hg hR h hgb
  by_cases he : e = 0
  · subst he
    obtain ⟨hn63, hq⟩ := getNum_lim' hgs
    rw [if_neg (by decide)] at HR
    clear hgs
    go_enter Tryd.func70, Tryd.ntmps70
    go_wp2_with fail
    refine still_all (by kernel_rfl) (by kernel_rfl) ?_
    generalize World.drew w = wd at *
    first | (with_reducible refine wpStill_step (fun K hK => ?_); go_simp; refine hK _ ?_; clear hK K) | (with_reducible refine still_skip ?hw (fun K hK => ?_); (case hw => simp [Region.wanted, yielded, undef]); go_simp; refine hK _ ?_; clear hK K)
    first | (with_reducible refine wpStill_step (fun K hK => ?_); go_simp; refine hK _ ?_; clear hK K) | (with_reducible refine still_skip ?hw (fun K hK => ?_); (case hw => simp [Region.wanted, yielded, undef]); go_simp; refine hK _ ?_; clear hK K)
    first | (with_reducible refine wpStill_step (fun K hK => ?_); go_simp; refine hK _ ?_; clear hK K) | (with_reducible refine still_skip ?hw (fun K hK => ?_); (case hw => simp [Region.wanted, yielded, undef]); go_simp; refine hK _ ?_; clear hK K)
    first | (with_reducible refine wpStill_step (fun K hK => ?_); go_simp; refine hK _ ?_; clear hK K) | (with_reducible refine still_skip ?hw (fun K hK => ?_); (case hw => simp [Region.wanted, yielded, undef]); go_simp; refine hK _ ?_; clear hK K)
    first | (with_reducible refine wpStill_step (fun K hK => ?_); go_simp; refine hK _ ?_; clear hK K) | (with_reducible refine still_skip ?hw (fun K hK => ?_); (case hw => simp [Region.wanted, yielded, undef]); go_simp; refine hK _ ?_; clear hK K)
    first | (with_reducible refine wpStill_step (fun K hK => ?_); go_simp; refine hK _ ?_; clear hK K) | (with_reducible refine still_skip ?hw (fun K hK => ?_); (case hw => simp [Region.wanted, yielded, undef]); go_simp; refine hK _ ?_; clear hK K)
    first | (with_reducible refine wpStill_step (fun K hK => ?_); go_simp; refine hK _ ?_; clear hK K) | (with_reducible refine still_skip ?hw (fun K hK => ?_); (case hw => simp [Region.wanted, yielded, undef]); go_simp; refine hK _ ?_; clear hK K)
    first | (with_reducible refine wpStill_step (fun K hK => ?_); go_simp; refine hK _ ?_; clear hK K) | (with_reducible refine still_skip ?hw (fun K hK => ?_); (case hw => simp [Region.wanted, yielded, undef]); go_simp; refine hK _ ?_; clear hK K)
    first | (with_reducible refine wpStill_step (fun K hK => ?_); go_simp; refine hK _ ?_; clear hK K) | (with_reducible refine still_skip ?hw (fun K hK => ?_); (case hw => simp [Region.wanted, yielded, undef]); go_simp; refine hK _ ?_; clear hK K)
    first | (with_reducible refine wpStill_step (fun K hK => ?_); go_simp; refine hK _ ?_; clear hK K) | (with_reducible refine still_skip ?hw (fun K hK => ?_); (case hw => simp [Region.wanted, yielded, undef]); go_simp; refine hK _ ?_; clear hK K)
    with_reducible refine wpStill_step (fun K hK => ?_); go_simp; refine ⟨_, (HG.out _ HX.out.rd), hK _ ?_⟩; clear hK K
    first | (with_reducible refine wpStill_step (fun K hK => ?_); go_simp; refine hK _ ?_; clear hK K) | (with_reducible refine still_skip ?hw (fun K hK => ?_); (case hw => simp [Region.wanted, yielded, undef]); go_simp; refine hK _ ?_; clear hK K)
    first | (with_reducible refine wpStill_step (fun K hK => ?_); go_simp; refine hK _ ?_; clear hK K) | (with_reducible refine still_skip ?hw (fun K hK => ?_); (case hw => simp [Region.wanted, yielded, undef]); go_simp; refine hK _ ?_; clear hK K)
    first | (with_reducible refine wpStill_step (fun K hK => ?_); go_simp; refine hK _ ?_; clear hK K) | (with_reducible refine still_skip ?hw (fun K hK => ?_); (case hw => simp [Region.wanted, yielded, undef]); go_simp; refine hK _ ?_; clear hK K)
    first | (with_reducible refine wpStill_step (fun K hK => ?_); go_simp; refine hK _ ?_; clear hK K) | (with_reducible refine still_skip ?hw (fun K hK => ?_); (case hw => simp [Region.wanted, yielded, undef]); go_simp; refine hK _ ?_; clear hK K)
    first | (with_reducible refine wpStill_step (fun K hK => ?_); go_simp; refine hK _ ?_; clear hK K) | (with_reducible refine still_skip ?hw (fun K hK => ?_); (case hw => simp [Region.wanted, yielded, undef]); go_simp; refine hK _ ?_; clear hK K)
    first | (with_reducible refine wpStill_step (fun K hK => ?_); go_simp; refine hK _ ?_; clear hK K) | (with_reducible refine still_skip ?hw (fun K hK => ?_); (case hw => simp [Region.wanted, yielded, undef]); go_simp; refine hK _ ?_; clear hK K)
    first | (with_reducible refine wpStill_step (fun K hK => ?_); go_simp; refine hK _ ?_; clear hK K) | (with_reducible refine still_skip ?hw (fun K hK => ?_); (case hw => simp [Region.wanted, yielded, undef]); go_simp; refine hK _ ?_; clear hK K)
    refine wpStill_nil ?_
    go_wp2_with fail
    refine (HCK.out 0 wd).mono ?_; rintro e w1 ⟨rfl, he⟩
    rw [if_pos rfl] at he
    subst he
    have HX2 := Lib.hid (HX.out.go hq)
    have HGB2 := Lib.hid (gb_trans HGB.out (gb_set g 1 (.int .i64 (q : Int))))
    have f1 := HX.out.blk.frozen 1
    clear c0
    go_wp2_with fail
    go_ret
    exact ⟨HGB2.out, by rw [HR.out]; exact ⟨rfl, HX2.out⟩⟩
  · rw [if_pos he] at HR
    clear hgs
    go_enter Tryd.func70, Tryd.ntmps70
    go_wp2_with fail
    refine still_all (by kernel_rfl) (by kernel_rfl) ?_
    generalize World.drew w = wd at *
    first | (with_reducible refine wpStill_step (fun K hK => ?_); go_simp; refine hK _ ?_; clear hK K) | (with_reducible refine still_skip ?hw (fun K hK => ?_); (case hw => simp [Region.wanted, yielded, undef]); go_simp; refine hK _ ?_; clear hK K)
    first | (with_reducible refine wpStill_step (fun K hK => ?_); go_simp; refine hK _ ?_; clear hK K) | (with_reducible refine still_skip ?hw (fun K hK => ?_); (case hw => simp [Region.wanted, yielded, undef]); go_simp; refine hK _ ?_; clear hK K)
    first | (with_reducible refine wpStill_step (fun K hK => ?_); go_simp; refine hK _ ?_; clear hK K) | (with_reducible refine still_skip ?hw (fun K hK => ?_); (case hw => simp [Region.wanted, yielded, undef]); go_simp; refine hK _ ?_; clear hK K)
    first | (with_reducible refine wpStill_step (fun K hK => ?_); go_simp; refine hK _ ?_; clear hK K) | (with_reducible refine still_skip ?hw (fun K hK => ?_); (case hw => simp [Region.wanted, yielded, undef]); go_simp; refine hK _ ?_; clear hK K)
    first | (with_reducible refine wpStill_step (fun K hK => ?_); go_simp; refine hK _ ?_; clear hK K) | (with_reducible refine still_skip ?hw (fun K hK => ?_); (case hw => simp [Region.wanted, yielded, undef]); go_simp; refine hK _ ?_; clear hK K)
    first | (with_reducible refine wpStill_step (fun K hK => ?_); go_simp; refine hK _ ?_; clear hK K) | (with_reducible refine still_skip ?hw (fun K hK => ?_); (case hw => simp [Region.wanted, yielded, undef]); go_simp; refine hK _ ?_; clear hK K)
    first | (with_reducible refine wpStill_step (fun K hK => ?_); go_simp; refine hK _ ?_; clear hK K) | (with_reducible refine still_skip ?hw (fun K hK => ?_); (case hw => simp [Region.wanted, yielded, undef]); go_simp; refine hK _ ?_; clear hK K)
    first | (with_reducible refine wpStill_step (fun K hK => ?_); go_simp; refine hK _ ?_; clear hK K) | (with_reducible refine still_skip ?hw (fun K hK => ?_); (case hw => simp [Region.wanted, yielded, undef]); go_simp; refine hK _ ?_; clear hK K)
    first | (with_reducible refine wpStill_step (fun K hK => ?_); go_simp; refine hK _ ?_; clear hK K) | (with_reducible refine still_skip ?hw (fun K hK => ?_); (case hw => simp [Region.wanted, yielded, undef]); go_simp; refine hK _ ?_; clear hK K)
    first | (with_reducible refine wpStill_step (fun K hK => ?_); go_simp; refine hK _ ?_; clear hK K) | (with_reducible refine still_skip ?hw (fun K hK => ?_); (case hw => simp [Region.wanted, yielded, undef]); go_simp; refine hK _ ?_; clear hK K)
    with_reducible refine wpStill_step (fun K hK => ?_); go_simp; refine ⟨_, (HG.out _ HX.out.rd), hK _ ?_⟩; clear hK K
    first | (with_reducible refine wpStill_step (fun K hK => ?_); go_simp; refine hK _ ?_; clear hK K) | (with_reducible refine still_skip ?hw (fun K hK => ?_); (case hw => simp [Region.wanted, yielded, undef]); go_simp; refine hK _ ?_; clear hK K)
    first | (with_reducible refine wpStill_step (fun K hK => ?_); go_simp; refine hK _ ?_; clear hK K) | (with_reducible refine still_skip ?hw (fun K hK => ?_); (case hw => simp [Region.wanted, yielded, undef]); go_simp; refine hK _ ?_; clear hK K)
    first | (with_reducible refine wpStill_step (fun K hK => ?_); go_simp; refine hK _ ?_; clear hK K) | (with_reducible refine still_skip ?hw (fun K hK => ?_); (case hw => simp [Region.wanted, yielded, undef]); go_simp; refine hK _ ?_; clear hK K)
    first | (with_reducible refine wpStill_step (fun K hK => ?_); go_simp; refine hK _ ?_; clear hK K) | (with_reducible refine still_skip ?hw (fun K hK => ?_); (case hw => simp [Region.wanted, yielded, undef]); go_simp; refine hK _ ?_; clear hK K)
    first | (with_reducible refine wpStill_step (fun K hK => ?_); go_simp; refine hK _ ?_; clear hK K) | (with_reducible refine still_skip ?hw (fun K hK => ?_); (case hw => simp [Region.wanted, yielded, undef]); go_simp; refine hK _ ?_; clear hK K)
    first | (with_reducible refine wpStill_step (fun K hK => ?_); go_simp; refine hK _ ?_; clear hK K) | (with_reducible refine still_skip ?hw (fun K hK => ?_); (case hw => simp [Region.wanted, yielded, undef]); go_simp; refine hK _ ?_; clear hK K)
    first | (with_reducible refine wpStill_step (fun K hK => ?_); go_simp; refine hK _ ?_; clear hK K) | (with_reducible refine still_skip ?hw (fun K hK => ?_); (case hw => simp [Region.wanted, yielded, undef]); go_simp; refine hK _ ?_; clear hK K)
    refine wpStill_nil ?_
    go_wp2_with fail
    refine (HCK.out e wd).mono ?_; rintro e' w1 ⟨rfl, he'⟩
    rw [if_neg he] at he'
    unfold thr at he'
    subst he'
    go_wp2_with fail
    exact ⟨rfl, HGB.out, by rw [HR.out]; rfl⟩

theorem anyP_lim {b : List UInt8} {p n q : Nat} (h : anyP b p = .ok (n, q)) : n < 9223372036854775808 ∧ q ≤ b.length := by
  obtain ⟨⟨n', q', e⟩, hg⟩ : ∃ x, x = Wi.getNum b (p : Int) := ⟨_, rfl⟩
  unfold anyP at h
  rw [← hg] at h
  simp only [] at h
  by_cases he : e = 0
  · subst he
    rw [if_neg (by decide)] at h
    simp only [Except.ok.injEq, Prod.mk.injEq] at h
    obtain ⟨rfl, rfl⟩ := h
    exact getNum_lim' hg.symm
  · rw [if_pos he] at h; cases h
theorem numP_any (b : List UInt8) (p l k : Nat) : Pa.numP l k b p = match anyP b p with
    | .error e => .error e
    | .ok z => if l < z.1 then .error k else .ok z := by
  unfold Pa.numP anyP
  split
  · rfl
  · rfl

set_option maxRecDepth 100000 in
set_option maxHeartbeats 2000000 in
theorem count_any (B g c p most : Nat) (A : Option Addr) (b : List UInt8) (w : World) (h : RdrB B g A c b p w) (hc : b.length ≤ c) (hm : c ≤ 9223372036854775807) :
    Calls Tryd.prog 51 #[.pointer (some ⟨g, 0, none⟩), .int .i64 (most : Int)] w (RdO B g A c b (Pa.numP most 4 b p) (fun n => .int .i64 (n : Int)) w) := by
  have hpn : ∀ (v : Value) (w : World), (Instr.panic (.iface 28 v)).run Tryd.prog w = .halt (.panic (.iface 28 v)) w := fun _ _ => rfl
  have C := Lib.hid (number_any B g c p A b w h hc hm)
  have HN := Lib.hid (numP_any b p most 4)
  obtain ⟨R, hR⟩ : ∃ R, R = Pa.numP most 4 b p := ⟨_, rfl⟩
  rw [← hR] at HN ⊢
  clear hR h
  cases hr : anyP b p with
  | error er =>
    rw [hr] at C HN
    simp only [] at HN
    clear hr
    go_enter Tryd.func51, Tryd.ntmps51
    go_wp2_with fail
    refine C.out.mono ?_; rintro e w1 ⟨hg, he⟩
    simp only [] at he
    unfold thr at he
    subst he
    have HG := Lib.hid hg
    clear hg
    go_wp2_with fail
    exact ⟨rfl, HG.out, by rw [HN.out]; rfl⟩
  | ok z =>
    obtain ⟨n, q⟩ := z
    rw [hr] at C HN
    simp only [] at HN
    obtain ⟨hn63, hq⟩ := anyP_lim hr
    clear hr
    by_cases hmn : most < n
    · have hd : decide ((most : Int) < (n : Int)) = true := decide_eq_true (by omega)
      have hd2 : decide (most < n) = true := decide_eq_true hmn
      rw [if_pos hmn] at HN
      clear hmn
      go_enter Tryd.func51, Tryd.ntmps51
      go_wp2_with fail
      refine C.out.mono ?_; rintro e w1 ⟨hg, rfl, hx⟩
      have HG := Lib.hid hg
      clear hg hx
      go_wp2_with fail
      exact ⟨rfl, HG.out, by rw [HN.out]; rfl⟩
    · have hd : decide ((most : Int) < (n : Int)) = false := decide_eq_false (by omega)
      have hd2 : decide (most < n) = false := decide_eq_false hmn
      rw [if_neg hmn] at HN
      clear hmn
      go_enter Tryd.func51, Tryd.ntmps51
      go_wp2_with fail
      refine C.out.mono ?_; rintro e w1 ⟨hg, rfl, hx⟩
      have HG := Lib.hid hg
      have HX := Lib.hid hx
      clear hg hx
      go_wp2_with fail
      go_ret
      exact ⟨HG.out, by rw [HN.out]; exact ⟨rfl, HX.out⟩⟩

set_option maxRecDepth 100000 in
set_option maxHeartbeats 2000000 in
theorem rtext_any (B g c p : Nat) (A : Option Addr) (b : List UInt8) (w : World) (h : RdrB B g A c b p w) (hc : b.length ≤ c) (hm : c ≤ 9223372036854775807) :
    Calls Tryd.prog 53 #[.pointer (some ⟨g, 0, none⟩)] w (RdO B g A c b (Pa.textP b p) (fun s => .string (sB s)) w) := by
  have c0 := h.drew.c0
  have c1 := h.drew.c1
  have HX := Lib.hid h.drew
  have HG := Lib.hid (fun w (hr : Rd w B A b.length (bv b)) => (getText_any A c B (p : Int) b w hr hc hm).mono (fun e w' h => (⟨h.1, h.2.symm⟩ : _ ∧ w' = w)))
  have hgb : w.grownBy w.drew (some g) := gb_drew
  have HGB := Lib.hid hgb
  have HCK := Lib.hid check_any
  obtain ⟨⟨n, q, e⟩, hg⟩ : ∃ x, x = Wi.getText b (p : Int) := ⟨_, rfl⟩
  have hgs := hg.symm
  have HR := Lib.hid (textP_is hgs)
  obtain ⟨R, hR⟩ : ∃ R, R = Pa.textP b p := ⟨_, rfl⟩
  rw [← hR] at HR ⊢
  rw [← hg] at HG
  unfold textV at HG
  simp only [] at HG
  clear hg hR h hgb
  by_cases he : e = 0
  · subst he
    obtain ⟨-, hq⟩ := text_lim hgs
    rw [if_neg (by decide)] at HR
    clear hgs
    go_enter Tryd.func53, Tryd.ntmps53
    go_wp2_with fail
    refine still_all (by kernel_rfl) (by kernel_rfl) ?_
    generalize World.drew w = wd at *
    first | (with_reducible refine wpStill_step (fun K hK => ?_); go_simp; refine hK _ ?_; clear hK K) | (with_reducible refine still_skip ?hw (fun K hK => ?_); (case hw => simp [Region.wanted, yielded, undef]); go_simp; refine hK _ ?_; clear hK K)
    first | (with_reducible refine wpStill_step (fun K hK => ?_); go_simp; refine hK _ ?_; clear hK K) | (with_reducible refine still_skip ?hw (fun K hK => ?_); (case hw => simp [Region.wanted, yielded, undef]); go_simp; refine hK _ ?_; clear hK K)
    first | (with_reducible refine wpStill_step (fun K hK => ?_); go_simp; refine hK _ ?_; clear hK K) | (with_reducible refine still_skip ?hw (fun K hK => ?_); (case hw => simp [Region.wanted, yielded, undef]); go_simp; refine hK _ ?_; clear hK K)
    first | (with_reducible refine wpStill_step (fun K hK => ?_); go_simp; refine hK _ ?_; clear hK K) | (with_reducible refine still_skip ?hw (fun K hK => ?_); (case hw => simp [Region.wanted, yielded, undef]); go_simp; refine hK _ ?_; clear hK K)
    first | (with_reducible refine wpStill_step (fun K hK => ?_); go_simp; refine hK _ ?_; clear hK K) | (with_reducible refine still_skip ?hw (fun K hK => ?_); (case hw => simp [Region.wanted, yielded, undef]); go_simp; refine hK _ ?_; clear hK K)
    first | (with_reducible refine wpStill_step (fun K hK => ?_); go_simp; refine hK _ ?_; clear hK K) | (with_reducible refine still_skip ?hw (fun K hK => ?_); (case hw => simp [Region.wanted, yielded, undef]); go_simp; refine hK _ ?_; clear hK K)
    first | (with_reducible refine wpStill_step (fun K hK => ?_); go_simp; refine hK _ ?_; clear hK K) | (with_reducible refine still_skip ?hw (fun K hK => ?_); (case hw => simp [Region.wanted, yielded, undef]); go_simp; refine hK _ ?_; clear hK K)
    first | (with_reducible refine wpStill_step (fun K hK => ?_); go_simp; refine hK _ ?_; clear hK K) | (with_reducible refine still_skip ?hw (fun K hK => ?_); (case hw => simp [Region.wanted, yielded, undef]); go_simp; refine hK _ ?_; clear hK K)
    first | (with_reducible refine wpStill_step (fun K hK => ?_); go_simp; refine hK _ ?_; clear hK K) | (with_reducible refine still_skip ?hw (fun K hK => ?_); (case hw => simp [Region.wanted, yielded, undef]); go_simp; refine hK _ ?_; clear hK K)
    first | (with_reducible refine wpStill_step (fun K hK => ?_); go_simp; refine hK _ ?_; clear hK K) | (with_reducible refine still_skip ?hw (fun K hK => ?_); (case hw => simp [Region.wanted, yielded, undef]); go_simp; refine hK _ ?_; clear hK K)
    with_reducible refine wpStill_step (fun K hK => ?_); go_simp; refine ⟨_, (HG.out _ HX.out.rd), hK _ ?_⟩; clear hK K
    first | (with_reducible refine wpStill_step (fun K hK => ?_); go_simp; refine hK _ ?_; clear hK K) | (with_reducible refine still_skip ?hw (fun K hK => ?_); (case hw => simp [Region.wanted, yielded, undef]); go_simp; refine hK _ ?_; clear hK K)
    first | (with_reducible refine wpStill_step (fun K hK => ?_); go_simp; refine hK _ ?_; clear hK K) | (with_reducible refine still_skip ?hw (fun K hK => ?_); (case hw => simp [Region.wanted, yielded, undef]); go_simp; refine hK _ ?_; clear hK K)
    first | (with_reducible refine wpStill_step (fun K hK => ?_); go_simp; refine hK _ ?_; clear hK K) | (with_reducible refine still_skip ?hw (fun K hK => ?_); (case hw => simp [Region.wanted, yielded, undef]); go_simp; refine hK _ ?_; clear hK K)
    first | (with_reducible refine wpStill_step (fun K hK => ?_); go_simp; refine hK _ ?_; clear hK K) | (with_reducible refine still_skip ?hw (fun K hK => ?_); (case hw => simp [Region.wanted, yielded, undef]); go_simp; refine hK _ ?_; clear hK K)
    first | (with_reducible refine wpStill_step (fun K hK => ?_); go_simp; refine hK _ ?_; clear hK K) | (with_reducible refine still_skip ?hw (fun K hK => ?_); (case hw => simp [Region.wanted, yielded, undef]); go_simp; refine hK _ ?_; clear hK K)
    first | (with_reducible refine wpStill_step (fun K hK => ?_); go_simp; refine hK _ ?_; clear hK K) | (with_reducible refine still_skip ?hw (fun K hK => ?_); (case hw => simp [Region.wanted, yielded, undef]); go_simp; refine hK _ ?_; clear hK K)
    first | (with_reducible refine wpStill_step (fun K hK => ?_); go_simp; refine hK _ ?_; clear hK K) | (with_reducible refine still_skip ?hw (fun K hK => ?_); (case hw => simp [Region.wanted, yielded, undef]); go_simp; refine hK _ ?_; clear hK K)
    refine wpStill_nil ?_
    go_wp2_with fail
    refine (HCK.out 0 wd).mono ?_; rintro e w1 ⟨rfl, he⟩
    rw [if_pos rfl] at he
    subst he
    have HX2 := Lib.hid (HX.out.go hq)
    have HGB2 := Lib.hid (gb_trans HGB.out (gb_set g 1 (.int .i64 (q : Int))))
    have f1 := HX.out.blk.frozen 1
    clear c0
    go_wp2_with fail
    go_ret
    exact ⟨HGB2.out, by rw [HR.out]; exact ⟨rfl, HX2.out⟩⟩
  · rw [if_pos he] at HR
    clear hgs
    go_enter Tryd.func53, Tryd.ntmps53
    go_wp2_with fail
    refine still_all (by kernel_rfl) (by kernel_rfl) ?_
    generalize World.drew w = wd at *
    first | (with_reducible refine wpStill_step (fun K hK => ?_); go_simp; refine hK _ ?_; clear hK K) | (with_reducible refine still_skip ?hw (fun K hK => ?_); (case hw => simp [Region.wanted, yielded, undef]); go_simp; refine hK _ ?_; clear hK K)
    first | (with_reducible refine wpStill_step (fun K hK => ?_); go_simp; refine hK _ ?_; clear hK K) | (with_reducible refine still_skip ?hw (fun K hK => ?_); (case hw => simp [Region.wanted, yielded, undef]); go_simp; refine hK _ ?_; clear hK K)
    first | (with_reducible refine wpStill_step (fun K hK => ?_); go_simp; refine hK _ ?_; clear hK K) | (with_reducible refine still_skip ?hw (fun K hK => ?_); (case hw => simp [Region.wanted, yielded, undef]); go_simp; refine hK _ ?_; clear hK K)
    first | (with_reducible refine wpStill_step (fun K hK => ?_); go_simp; refine hK _ ?_; clear hK K) | (with_reducible refine still_skip ?hw (fun K hK => ?_); (case hw => simp [Region.wanted, yielded, undef]); go_simp; refine hK _ ?_; clear hK K)
    first | (with_reducible refine wpStill_step (fun K hK => ?_); go_simp; refine hK _ ?_; clear hK K) | (with_reducible refine still_skip ?hw (fun K hK => ?_); (case hw => simp [Region.wanted, yielded, undef]); go_simp; refine hK _ ?_; clear hK K)
    first | (with_reducible refine wpStill_step (fun K hK => ?_); go_simp; refine hK _ ?_; clear hK K) | (with_reducible refine still_skip ?hw (fun K hK => ?_); (case hw => simp [Region.wanted, yielded, undef]); go_simp; refine hK _ ?_; clear hK K)
    first | (with_reducible refine wpStill_step (fun K hK => ?_); go_simp; refine hK _ ?_; clear hK K) | (with_reducible refine still_skip ?hw (fun K hK => ?_); (case hw => simp [Region.wanted, yielded, undef]); go_simp; refine hK _ ?_; clear hK K)
    first | (with_reducible refine wpStill_step (fun K hK => ?_); go_simp; refine hK _ ?_; clear hK K) | (with_reducible refine still_skip ?hw (fun K hK => ?_); (case hw => simp [Region.wanted, yielded, undef]); go_simp; refine hK _ ?_; clear hK K)
    first | (with_reducible refine wpStill_step (fun K hK => ?_); go_simp; refine hK _ ?_; clear hK K) | (with_reducible refine still_skip ?hw (fun K hK => ?_); (case hw => simp [Region.wanted, yielded, undef]); go_simp; refine hK _ ?_; clear hK K)
    first | (with_reducible refine wpStill_step (fun K hK => ?_); go_simp; refine hK _ ?_; clear hK K) | (with_reducible refine still_skip ?hw (fun K hK => ?_); (case hw => simp [Region.wanted, yielded, undef]); go_simp; refine hK _ ?_; clear hK K)
    with_reducible refine wpStill_step (fun K hK => ?_); go_simp; refine ⟨_, (HG.out _ HX.out.rd), hK _ ?_⟩; clear hK K
    first | (with_reducible refine wpStill_step (fun K hK => ?_); go_simp; refine hK _ ?_; clear hK K) | (with_reducible refine still_skip ?hw (fun K hK => ?_); (case hw => simp [Region.wanted, yielded, undef]); go_simp; refine hK _ ?_; clear hK K)
    first | (with_reducible refine wpStill_step (fun K hK => ?_); go_simp; refine hK _ ?_; clear hK K) | (with_reducible refine still_skip ?hw (fun K hK => ?_); (case hw => simp [Region.wanted, yielded, undef]); go_simp; refine hK _ ?_; clear hK K)
    first | (with_reducible refine wpStill_step (fun K hK => ?_); go_simp; refine hK _ ?_; clear hK K) | (with_reducible refine still_skip ?hw (fun K hK => ?_); (case hw => simp [Region.wanted, yielded, undef]); go_simp; refine hK _ ?_; clear hK K)
    first | (with_reducible refine wpStill_step (fun K hK => ?_); go_simp; refine hK _ ?_; clear hK K) | (with_reducible refine still_skip ?hw (fun K hK => ?_); (case hw => simp [Region.wanted, yielded, undef]); go_simp; refine hK _ ?_; clear hK K)
    first | (with_reducible refine wpStill_step (fun K hK => ?_); go_simp; refine hK _ ?_; clear hK K) | (with_reducible refine still_skip ?hw (fun K hK => ?_); (case hw => simp [Region.wanted, yielded, undef]); go_simp; refine hK _ ?_; clear hK K)
    first | (with_reducible refine wpStill_step (fun K hK => ?_); go_simp; refine hK _ ?_; clear hK K) | (with_reducible refine still_skip ?hw (fun K hK => ?_); (case hw => simp [Region.wanted, yielded, undef]); go_simp; refine hK _ ?_; clear hK K)
    first | (with_reducible refine wpStill_step (fun K hK => ?_); go_simp; refine hK _ ?_; clear hK K) | (with_reducible refine still_skip ?hw (fun K hK => ?_); (case hw => simp [Region.wanted, yielded, undef]); go_simp; refine hK _ ?_; clear hK K)
    refine wpStill_nil ?_
    go_wp2_with fail
    refine (HCK.out e wd).mono ?_; rintro e' w1 ⟨rfl, he'⟩
    rw [if_neg he] at he'
    unfold thr at he'
    subst he'
    go_wp2_with fail
    exact ⟨rfl, HGB.out, by rw [HR.out]; rfl⟩

set_option maxRecDepth 100000 in
set_option maxHeartbeats 2000000 in
theorem end_any (B g c p : Nat) (A : Option Addr) (b : List UInt8) (w : World) (h : RdrB B g A c b p w) (hl : b.length ≤ 9223372036854775807) :
    Calls Tryd.prog 30 #[.pointer (some ⟨g, 0, none⟩)] w fun e w' => Below w.heap.size w w' ∧ if p = b.length then e = .returned (.tuple #[]) else e = thr 7 := by
  have hpn : ∀ (v : Value) (w : World), (Instr.panic (.iface 28 v)).run Tryd.prog w = .halt (.panic (.iface 28 v)) w := fun _ _ => rfl
  have C := Lib.hid (left_any B g c p A b w h hl)
  have hp := h.hp
  have c0 : (Value.pointer (some ⟨g, 0, none⟩)) = Value.pointer (some ⟨g, 0, none⟩) := rfl
  obtain ⟨k, hk⟩ : ∃ k, k = b.length - p := ⟨_, rfl⟩
  rw [← hk] at C
  clear c0
  by_cases hn : p = b.length
  · have hd : decide ((0 : Int) < (k : Int)) = false := decide_eq_false (by omega)
    have hd2 : decide (0 < k) = false := decide_eq_false (by omega)
    have HN := Lib.hid hn
    clear hk h hn
    go_enter Tryd.func30, Tryd.ntmps30
    go_wp2_with fail
    refine C.out.mono ?_; rintro e w1 ⟨rfl, hb1⟩
    have HB := Lib.hid hb1
    clear hb1
    go_wp2_with fail
    go_end0
    exact ⟨HB.out, rfl⟩
  · have hd : decide ((0 : Int) < (k : Int)) = true := decide_eq_true (by omega)
    have hd2 : decide (0 < k) = true := decide_eq_true (by omega)
    have HN := Lib.hid hn
    clear hk h hn
    go_enter Tryd.func30, Tryd.ntmps30
    go_wp2_with fail
    refine C.out.mono ?_; rintro e w1 ⟨rfl, hb1⟩
    have HB := Lib.hid hb1
    clear hb1
    go_wp2_with fail
    exact ⟨rfl, HB.out, rfl⟩
end Go.Proofs.YtjgegggcbjecbaaDoor

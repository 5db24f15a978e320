/- The document's Invert. -/
import Derived.Test.YtmanafhdmijfeaaAppl
import Derived.Deep.DeepMust
namespace Go.Proofs.Ytmanafhdmijfeaa
open Go Go.RowKit

def inv1 (a : List UInt8) (x : Ed) : Ed := if x.kind = 2 then ⟨3, 0, a.take x.n.toNat⟩ else if x.kind = 3 then ⟨2, (x.text.length : Int), []⟩ else x
def invS : List UInt8 → List Ed → List Ed
  | _, [] => []
  | a, x :: L => inv1 a x :: invS (a.drop x.n.toNat) L
/-- The way back and the error. -/
def invR (a : List UInt8) (L : List Ed) : List Ed × Nat := match applyS a L with
  | .ok _ => (invS a L, 0)
  | .error e => ([], e)

theorem goA_ok {a out s : List UInt8} {x : Ed} {L : List Ed} (h : goA a out (x :: L) = .ok s) : mayB x = true ∧ x.n ≤ (a.length : Int) ∧ goA (a.drop x.n.toNat) (put1 a out x) L = .ok s := by
  rw [goA] at h
  split at h
  · cases h
  · split at h
    · cases h
    · split at h
      · cases h
      · rename_i h1 h2 h3
        exact ⟨by simpa using h1, by omega, h⟩

theorem goA_err : ∀ (L : List Ed) (a out : List UInt8) (e : Nat), goA a out L = .error e → e = 1 ∨ e = 3 ∨ e = 8
  | [], a, out, e, h => by
    rw [goA] at h
    split at h
    · cases h
    · cases h; exact .inr (.inr rfl)
  | x :: L, a, out, e, h => by
    rw [goA] at h
    split at h
    · cases h; exact .inl rfl
    · split at h
      · cases h; exact .inr (.inr rfl)
      · split at h
        · cases h; exact .inr (.inl rfl)
        · exact goA_err L _ _ e h
theorem applyS_err {a : List UInt8} {L : List Ed} {e : Nat} (h : applyS a L = .error e) : e = 1 ∨ e = 3 ∨ e = 8 := by
  unfold applyS at h
  split at h
  · cases h; exact .inr (.inl rfl)
  · exact goA_err L _ _ e h

theorem infoEd : (Try.prog.info? 32).map (fun i => (i.zero, i.size, i.bytes)) = some (some (.agg #[.int .i64 0, .int .i64 0, .string ⟨#[]⟩]), 3, 32) := by kernel_rfl

/-- A script in new memory, and an error's number. -/
def OwnEd (K : List Ed) (e : Nat) (w : World) (x : Ending) (w' : World) : Prop :=
  ∃ v, x = .returned (.tuple #[v, .int .i64 (e : Int)]) ∧ w'.ownsRow w.heap.size 32 3 v K.length (ev K) ∧ Below w.heap.size w w'

theorem build_put (s : ByteArray) (w : World) : (Instr.build 32 #[(0, .int .i64 3), (2, .string s)]).run Try.prog w = .ok (.agg #[.int .i64 3, .int .i64 0, .string s]) w := run_build w 32 _ _ (by kernel_rfl)
theorem build_cut (n : Int) (w : World) : (Instr.build 32 #[(0, .int .i64 2), (1, .int .i64 n)]).run Try.prog w = .ok (.agg #[.int .i64 2, .int .i64 n, .string ⟨#[]⟩]) w := run_build w 32 _ _ (by kernel_rfl)
theorem build_kind (n : Int) (w : World) : (Instr.build 32 #[(0, .int .i64 n)]).run Try.prog w = .ok (.agg #[.int .i64 n, .int .i64 0, .string ⟨#[]⟩]) w := run_build w 32 _ _ (by kernel_rfl)

theorem len_snoc {α : Type} (K : List α) (x : α) : (K ++ [x]).length = K.length + 1 := by simp
theorem inv1_cut {a : List UInt8} {m : Nat} {t : List UInt8} : inv1 a ⟨2, (m : Int), t⟩ = ⟨3, 0, a.take m⟩ := by simp [inv1]
theorem inv1_put {a : List UInt8} {m : Nat} {t : List UInt8} : inv1 a ⟨3, (m : Int), t⟩ = ⟨2, (t.length : Int), []⟩ := by simp [inv1]
theorem inv1_keep {a : List UInt8} {kd : Int} {m : Nat} {t : List UInt8} (h2 : ¬ kd = 2) (h3 : ¬ kd = 3) : inv1 a ⟨kd, (m : Int), t⟩ = ⟨kd, (m : Int), t⟩ := by simp [inv1, h2, h3]

theorem ev_snoc (L : List Ed) (x : Ed) : ev L ++ edCells x = ev (L ++ [x]) := by rw [ev_append]; simp [ev]

set_option maxRecDepth 100000 in
set_option maxHeartbeats 4000000 in
theorem refInvert_any (a : List UInt8) (A : Option Addr) (c : Nat) (L : List Ed) (w : World) (h : Rd w w.heap.size A (L.length * 3) (ev L)) (hl : L.length * 32 ≤ 140737488351232) (ht : ∀ x ∈ L, x.text.length ≤ 4611686018427387904) (hal : a.length ≤ 4611686018427387904) :
    Calls Try.prog 21 #[.string (sB a), .slice A L.length c] w (OwnEd (invR a L).1 (invR a L).2 w) := by
  obtain ⟨i0, hi, hz0, hz1, hz2⟩ := info_parts infoEd
  have hAP := refApply_any a A c L w h (by omega) ht hal
  have H := Lib.hid h
  have HTX := Lib.hid ht
  have HAP := Lib.hid hAP
  clear h ht hAP
  cases hap : applyS a L with
  | error e =>
    have hir : invR a L = ([], e) := by unfold invR; rw [hap]
    rw [hap] at HAP
    rw [hir]
    have he : e = 1 ∨ e = 3 ∨ e = 8 := applyS_err hap
    have hne : ((e : Int) != 0) = true := by rw [bne_iff_ne]; omega
    have HE := Lib.hid he
    clear hap hir he
    go_enter Try.func21, Try.ntmps21
    go_wp2_with fail
    refine HAP.out.mono ?_; rintro x w1 ⟨rfl, hb1⟩
    unfold resA
    go_wp2_with fail
    go_ret2
    exact ⟨_, rfl, World.ownsRow_nil _ _ _ _, hb1⟩
  | ok s =>
    have hir : invR a L = (invS a L, 0) := by unfold invR; rw [hap]
    rw [hap] at HAP
    rw [hir]
    have hgo : goA a [] L = .ok s := by
      unfold applyS at hap
      split at hap
      · cases hap
      · exact hap
    have HGO := Lib.hid hgo
    clear hap hir hgo
    go_enter Try.func21, Try.ntmps21
    go_wp2_with fail
    refine HAP.out.mono ?_; rintro x w1 ⟨rfl, hb1⟩
    unfold resA
    go_wp2_with fail
    go_loopw [0, 8, 9] (fun av v i wr => ∃ (k : Nat) (a' out : List UInt8) (K : List Ed), k ≤ L.length ∧ i = .int .i64 (k : Int) ∧ av = .string (sB a') ∧ K.length = k ∧ wr.ownsRow w.heap.size 32 3 v K.length (ev K) ∧ invS a L = K ++ invS a' (L.drop k) ∧ goA a' out (L.drop k) = .ok s ∧ a'.length ≤ 4611686018427387904 ∧ Below w.heap.size w wr) (fun _ _ i _ => L.length - (intOf i).toNat)
    case atStart => exact ⟨0, a, [], [], Nat.zero_le _, rfl, rfl, rfl, World.ownsRow_nil _ _ _ _, by rw [List.drop_zero]; rfl, by rw [List.drop_zero]; exact HGO.out, hal, hb1⟩
    case round =>
      obtain ⟨k, a', out, K, hk, rfl, rfl, hKk, ho, hinv, hgo, hal', hB⟩ := hrel
      obtain ⟨Av, cv, hv, -, -, -⟩ := own_form ho
      subst hv
      by_cases hlt : k < L.length
      · have hltI : (k : Int) < (L.length : Int) := by omega
        obtain ⟨x, hx⟩ : ∃ x, L[k]? = some x := ⟨_, List.getElem?_eq_getElem hlt⟩
        obtain ⟨ad, rfl, -, c0, c1, c2⟩ := (H.out.below hB).ed hx
        rw [drop_at hx] at hgo hinv
        rw [invS] at hinv
        obtain ⟨hm, hn1, hgo2⟩ := goA_ok hgo
        have htx := HTX.out x (List.mem_of_getElem? hx)
        clear hx hgo
        obtain ⟨kd, n, t⟩ := x
        have hn0 := mayB_n hm
        simp only [] at c0 c1 c2 hgo2 htx hinv hn1 hn0
        obtain ⟨m, rfl⟩ := Int.eq_ofNat_of_zero_le hn0
        rw [Int.toNat_natCast] at hgo2 hinv
        obtain ⟨wa, hwa⟩ : ∃ y, y = wr.alloc (.cells #[.int .i64 kd, .int .i64 (m : Int), .string (sB t)] 32) := ⟨_, rfl⟩
        have hS : Blk wa wr.heap.size 32 #[.int .i64 kd, .int .i64 (m : Int), .string (sB t)] := by rw [hwa]; exact Blk.new wr _ _
        have hBa : Below w.heap.size w wa := by rw [hwa]; exact hB.alloc hB.size _
        have hoa : wa.ownsRow w.heap.size 32 3 (.slice Av K.length cv) K.length (ev K) := by rw [hwa]; exact ho.alloc _
        have s0 := hS.cell 0
        have s1 := hS.cell 1
        have s2 := hS.cell 2
        simp only [List.getElem?_toArray, List.getElem?_cons_zero, List.getElem?_cons_succ] at s0 s1 s2
        have HS := Lib.hid hS
        have HI := Lib.hid hinv
        have HG := Lib.hid hgo2
        have HK := Lib.hid hKk
        have HO := Lib.hid hoa
        have HNE := Lib.hid (show (Value.slice Av K.length cv).ownBlock ≠ some wr.heap.size from fun e => by have := (ho.lt _ e).2; omega)
        have hma : m ≤ a'.length := by omega
        have hdr := fun w => run_str_drop (P := Try.prog) Try.underlying9 a' m hma w
        have hKl : K.length ≤ L.length := by omega
        replace hwa := hwa.symm
        clear hS hinv hgo2 hKk ho hoa hm hn1 hn0
        by_cases hk2 : kd = 2
        · subst hk2
          have htk := fun w => run_str_take (P := Try.prog) Try.underlying9 a' m hma w
          have hbp := build_put
          go_wp2_with (at_builtin; go_must (refine wp_appK _ 3 rfl (.tmp 33) (.tmp 39) 22 22 rfl w.heap.size 32 i0 _ 32 Try.underlying22 hi hz0 hz1 hz2 rfl (.slice Av K.length cv) K.length (ev K) rfl (HO.out.alloc _) (.slice (some ⟨wa.heap.size, 0, none⟩) 1 1) 1 (edCells ⟨3, 0, a'.take m⟩) rfl (new_srcK 3 Try.underlying22 wa (edCells ⟨3, 0, a'.take m⟩) 1 1 32 (0, 0) rfl (ev_one [⟨3, 0, a'.take m⟩] · ·)) (by unfold maxLen; omega) (by omega) (by have := hBa.size; simp; omega) ?_); intro v2 w2 ho2 hg2 _; rw [ev_snoc, ← len_snoc K ⟨3, 0, a'.take m⟩] at ho2; have hB2 : Below w.heap.size w w2 := (hBa.alloc hBa.size _).grown hg2 (by have := hBa.size; simp; omega) (fun q hq => (HO.out.lt q hq).1); have hS2 := (HS.out.alloc _).grown hg2 (fun e => HNE.out e.symm); have r1 := hS2.cell 1; simp only [List.getElem?_toArray, List.getElem?_cons_zero, List.getElem?_cons_succ] at r1; have HO2 := Lib.hid ho2; clear ho2 hg2 hS2)
          go_roundw
          case rel => exact ⟨k + 1, a'.drop m, put1 a' out ⟨2, (m : Int), t⟩, K ++ [⟨3, 0, a'.take m⟩], by omega, by go_num, rfl, by rw [len_snoc, HK.out], HO2.out, by rw [HI.out, inv1_cut, List.append_assoc]; rfl, HG.out, by rw [List.length_drop]; omega, hB2⟩
          case measure => simp [intOf]; omega
        have hkb : (kd == 2) = false := by simpa using hk2
        by_cases hk3 : kd = 3
        · subst hk3
          have hbc := build_cut
          have hsi : ((sB t).size : Int) = (t.length : Int) := by rw [sB_size]
          go_wp2_with (at_builtin; go_must (refine wp_appK _ 3 rfl (.tmp 44) (.tmp 49) 22 22 rfl w.heap.size 32 i0 _ 32 Try.underlying22 hi hz0 hz1 hz2 rfl (.slice Av K.length cv) K.length (ev K) rfl (HO.out.alloc _) (.slice (some ⟨wa.heap.size, 0, none⟩) 1 1) 1 (edCells ⟨2, (t.length : Int), []⟩) rfl (new_srcK 3 Try.underlying22 wa (edCells ⟨2, (t.length : Int), []⟩) 1 1 32 (0, 0) rfl (ev_one [⟨2, (t.length : Int), []⟩] · ·)) (by unfold maxLen; omega) (by omega) (by have := hBa.size; simp; omega) ?_); intro v2 w2 ho2 hg2 _; rw [ev_snoc, ← len_snoc K ⟨2, (t.length : Int), []⟩] at ho2; have hB2 : Below w.heap.size w w2 := (hBa.alloc hBa.size _).grown hg2 (by have := hBa.size; simp; omega) (fun q hq => (HO.out.lt q hq).1); have hS2 := (HS.out.alloc _).grown hg2 (fun e => HNE.out e.symm); have r1 := hS2.cell 1; simp only [List.getElem?_toArray, List.getElem?_cons_zero, List.getElem?_cons_succ] at r1; have HO2 := Lib.hid ho2; clear ho2 hg2 hS2)
          go_roundw
          case rel => exact ⟨k + 1, a'.drop m, put1 a' out ⟨3, (m : Int), t⟩, K ++ [⟨2, (t.length : Int), []⟩], by omega, by go_num, rfl, by rw [len_snoc, HK.out], HO2.out, by rw [HI.out, inv1_put, List.append_assoc]; rfl, HG.out, by rw [List.length_drop]; omega, hB2⟩
          case measure => simp [intOf]; omega
        have hkb3 : (kd == 3) = false := by simpa using hk3
        have HK2 := Lib.hid hk2
        have HK3 := Lib.hid hk3
        clear hk2 hk3
        go_wp2_with (at_builtin; go_must (refine wp_appK _ 3 rfl (.tmp 51) (.tmp 53) 22 22 rfl w.heap.size 32 i0 _ 32 Try.underlying22 hi hz0 hz1 hz2 rfl (.slice Av K.length cv) K.length (ev K) rfl (HO.out.alloc _) (.slice (some ⟨wa.heap.size, 0, none⟩) 1 1) 1 (edCells ⟨kd, (m : Int), t⟩) rfl (new_srcK 3 Try.underlying22 wa (edCells ⟨kd, (m : Int), t⟩) 1 1 32 (0, 0) rfl (ev_one [⟨kd, (m : Int), t⟩] · ·)) (by unfold maxLen; omega) (by omega) (by have := hBa.size; simp; omega) ?_); intro v2 w2 ho2 hg2 _; rw [ev_snoc, ← len_snoc K ⟨kd, (m : Int), t⟩] at ho2; have hB2 : Below w.heap.size w w2 := (hBa.alloc hBa.size _).grown hg2 (by have := hBa.size; simp; omega) (fun q hq => (HO.out.lt q hq).1); have hS2 := (HS.out.alloc _).grown hg2 (fun e => HNE.out e.symm); have r1 := hS2.cell 1; simp only [List.getElem?_toArray, List.getElem?_cons_zero, List.getElem?_cons_succ] at r1; have HO2 := Lib.hid ho2; clear ho2 hg2 hS2)
        go_roundw
        case rel => exact ⟨k + 1, a'.drop m, put1 a' out ⟨kd, (m : Int), t⟩, K ++ [⟨kd, (m : Int), t⟩], by omega, by go_num, rfl, by rw [len_snoc, HK.out], HO2.out, by rw [HI.out, inv1_keep HK2.out HK3.out, List.append_assoc]; rfl, HG.out, by rw [List.length_drop]; omega, hB2⟩
        case measure => simp [intOf]; omega
      · have hltI : ¬ (k : Int) < (L.length : Int) := by omega
        obtain rfl : k = L.length := by omega
        rw [List.drop_length, invS, List.append_nil] at hinv
        have HI := Lib.hid hinv
        have HO := Lib.hid ho
        clear hinv ho hgo hKk
        go_wp2_with fail
        go_ret2
        rw [HI.out]
        exact ⟨_, rfl, HO.out, hB⟩
end Go.Proofs.Ytmanafhdmijfeaa

/- The program's Common. -/
import Derived.Test.YtebfocfeehajjaaPApi2
namespace Go.Proofs.Ytebfocfeehajjaa
open Go Go.RowKit Go.Shelf
attribute [local go_sem] Oper.semAt_some

theorem vis_len (ns : List (List Nat)) : ∀ (k : Nat) (b : List Bool), (Gr.vis ns k b).length ≤ k
  | 0, _ => Nat.le_refl _
  | k + 1, b => by
    unfold Gr.vis
    split
    · have := vis_len ns k (Gr.mkStep ns k b); simp; omega
    · have := vis_len ns k (Gr.mkStep ns k b); omega
/-- What both stand above. -/
theorem common_num {l : List Nod} (hl : Gr.Ok l) {q r : Qst} (hq : ∀ s ∈ q.1, s ∈ Gr.idsOf l) (hr : ∀ s ∈ r.1, s ∈ Gr.idsOf l) {p : List UInt8 → Bool} (hp : ∀ d, p d = true ↔ d ∈ Gr.aboveL Tx.less l r.1) :
    NumOf l ((Gr.vis (Gr.nums l) (Gr.idsOf l).length (Gr.sets (List.replicate (Gr.idsOf l).length false) (numQ l r))).filter fun n => (Gr.marksOf l (numQ l q)).getD n false) ((Gr.aboveL Tx.less l q.1).filter p) := by
  refine ⟨fun s hs => ((Gr.mem_above Tx.less hl hq).1 (List.mem_filter.1 hs).1).ids hl hq, fun n => ?_⟩
  rw [List.mem_filter, Gr.mem_vis hl.down, Gr.ids_len]
  have hb : ∀ x, l[n]? = some x → ((Gr.mkTo (Gr.nums l) l.length (Gr.sets (List.replicate l.length false) (numQ l r))).getD n false = true ↔ Gr.Rch l r.1 x.id) := fun x hx => by
    have := Gr.marks_iff hl hr hx
    rw [← marksOf_eq] at this
    unfold Gr.marksOf at this
    exact this
  have ha : ∀ x, l[n]? = some x → ((Gr.marksOf l (numQ l q)).getD n false = true ↔ Gr.Rch l q.1 x.id) := fun x hx => by rw [marksOf_eq]; exact Gr.marks_iff hl hq hx
  constructor
  · rintro ⟨⟨hn, h1⟩, h2⟩
    have hx := List.getElem?_eq_getElem hn
    refine ⟨l[n].id, List.mem_filter.2 ⟨(Gr.mem_above Tx.less hl hq).2 ((ha _ hx).1 h2), (hp _).2 ((Gr.mem_above Tx.less hl hr).2 ((hb _ hx).1 h1))⟩, Gr.fnd_is hl.nodup hx⟩
  · rintro ⟨s, hs, rfl⟩
    obtain ⟨h1, h2⟩ := List.mem_filter.1 hs
    have h1' := (Gr.mem_above Tx.less hl hq).1 h1
    obtain ⟨x, hx, rfl⟩ := Gr.fnd_at (h1'.ids hl hq)
    exact ⟨⟨(List.getElem?_eq_some_iff.1 hx).1, (hb x hx).2 ((Gr.mem_above Tx.less hl hr).1 ((hp _).1 h2))⟩, (ha x hx).2 h1'⟩

/-- What stands while Common goes on. -/
structure CmI (w2 : World) (db lr N n0 : Nat) (M : List Bool) (pre : List Nat) (W : World) : Prop where
  gr : w2.grownBy W (some db)
  late : LateW w2.heap.size lr N M W
  both : ∃ A' c', Blk W (w2.heap.size + 1) 64 #[.slice A' (pre.filter fun n => M.getD n false).length c'] ∧ W.ownsRow n0 3 1 (.slice A' (pre.filter fun n => M.getD n false).length c') (pre.filter fun n => M.getD n false).length (nv (pre.filter fun n => M.getD n false))
theorem own_not {w : World} {base n g : Nat} {v : Value} {xs : List Value} {o : Obj} (h : w.ownsRow base 3 1 v n xs) (ho : w.heap[g]? = some o) (hc : o.isCells = false) : v.ownBlock ≠ some g := by
  intro e
  rcases h.2 with ⟨rfl, -⟩ | ⟨g', cap, cur, rfl, -, h2, -⟩
  · cases e
  · obtain rfl : g' = g := Option.some.inj e
    rw [h2] at ho
    obtain rfl := Option.some.inj ho
    cases hc
theorem CmI.moved {w2 A B : World} {db lr N n0 : Nat} {M : List Bool} {s : List Nat} {row : Option Nat} (h : CmI w2 db lr N n0 M s A) (hg : A.grownBy B row) (hr : ∀ r, row = some r → r = db ∨ (n0 ≤ r ∧ ∃ o : Obj, A.heap[r]? = some o ∧ o.isCells = false)) (h1 : db < n0) (h2 : w2.heap.size + 2 ≤ n0) (h3 : lr < n0) (h4 : lr ≠ db) (h5 : db < w2.heap.size) : CmI w2 db lr N n0 M s B := by
  obtain ⟨A', c', hb, ho⟩ := h.both
  have hne : ∀ k, k < n0 → k ≠ db → some k ≠ row := fun k hk hd e => by
    rcases hr k e.symm with h | ⟨h, -⟩
    · exact hd h
    · omega
  refine ⟨⟨hg.os.trans h.gr.os, hg.tape.trans h.gr.tape, hg.output.trans h.gr.output, Nat.le_trans h.gr.size hg.size, fun k hk hk2 => (hg.block k (Nat.lt_of_lt_of_le hk h.gr.size) (hne k (by omega) (fun e => hk2 (by rw [e])))).trans (h.gr.block k hk hk2)⟩,
    ⟨h.late.box.grown hg (hne _ (by omega) (by omega)), h.late.row.grown hg (hne _ h3 h4)⟩, A', c', hb.grown hg (hne _ (by omega) (by omega)), ho.kept hg ?_⟩
  cases hq : (Value.slice A' (s.filter fun n => M.getD n false).length c').ownBlock with
  | none => exact .inl rfl
  | some q =>
    refine .inr (fun e => ?_)
    have hlo := (ho.lt q hq).1
    rcases hr q e.symm with h | ⟨h, o, ho2, hc⟩
    · omega
    · exact own_not ho ho2 hc hq

set_option maxRecDepth 100000 in
set_option maxHeartbeats 4000000 in
theorem api_common (ll : List (Nod × Option Addr × Nat)) (A0 : Option Addr) (c0 BB : Nat) (w : World) (hN : NIn w ll) (hR : Rd w BB A0 (ll.length * 33) (rows nC ll)) (hBB : BB ≤ w.heap.size) (hl : ll.length * 56 ≤ 140737488351232)
    (La : List (List UInt8)) (Aa : Option Addr) (ca : Nat) (Lb : List (List UInt8)) (Ab : Option Addr) (cb : Nat) (hQ : QIn w [(La, Aa, ca), (Lb, Ab, cb)]) :
    Calls Try.prog 24 #[.slice A0 ll.length c0, .slice Aa La.length ca, .slice Ab Lb.length cb] w (LstO (askE (nsOf ll) [La, Lb]) (Gr.commonL Tx.less (nsOf ll) La Lb) w) := by
  have hqa := (hQ.each _ (List.mem_cons.2 (.inl rfl))).2.2
  have hqb := (hQ.each _ (List.mem_cons.2 (.inr (List.mem_singleton.2 rfl)))).2.2
  obtain ⟨wa, hwa⟩ : ∃ y, y = w.alloc (.cells #[.slice Aa La.length ca, .slice Ab Lb.length cb] 30) := ⟨_, rfl⟩
  have hba : Below w.heap.size w wa := by rw [hwa]; exact below_alloc w _
  obtain ⟨hQ', hRL⟩ := two_in hQ
  rw [← hwa] at hQ' hRL
  have HAK := Lib.hid (pask_any ll A0 c0 BB [(La, Aa, ca), (Lb, Ab, cb)] (some ⟨w.heap.size, 0, none⟩) 2 wa.heap.size wa (hN.later hba) (hR.below (hba.mono hBB)) (Nat.le_trans hBB hba.size) hl hQ' hRL (Nat.le_refl _) (Nat.le_of_ble_eq_true rfl))
  have HBA := Lib.hid hba
  replace hwa := hwa.symm
  clear hN hR hBB hQ hQ' hRL hba
  refine (callsIn_wide (n := 6)).1 ?_
  refine callsIn_of_wp_marks Try.func24 rfl trivial ?_ rfl
  simp only [Try.ntmps24, List.size_toArray, List.length_cons, List.length_nil, Nat.reduceAdd, Nat.reduceSub, Array.replicate_succ, Array.replicate_zero, List.push_toArray, List.append_toArray, List.nil_append, List.cons_append]
  gi_wp2
  refine ⟨trivial, ?_⟩
  gi_at_call 37
  refine (callsIn_wide.2 HAK.out).mono ?_; intro e w1 ha; obtain ⟨hb1, ⟨hne, rfl⟩ | ⟨he0, hin, gb, db, mb, A, c, B, d, V, AQ, cQ, W, rfl, hlv, hak⟩⟩ := askdO ha
  · have hb1' : (((askE (nsOf ll) [La, Lb] : Nat) : Int) != 0) = true := by rw [bne_iff_ne]; have : askE (nsOf ll) [La, Lb] ≠ 0 := hne; omega
    have HNE := Lib.hid hne
    have HBZ := Lib.hid (HBA.out.trans (hb1.mono HBA.out.size))
    clear hne hb1 ha HAK
    gi_wp2
    refine ⟨_, results_tmp2 rfl _ _ _, ?_⟩
    exact ⟨HBZ.out, .inl ⟨HNE.out, rfl⟩⟩
  have HBZ := Lib.hid (HBA.out.trans (hb1.mono HBA.out.size))
  have HE0 := Lib.hid he0
  have HINA := Lib.hid (hin _ (List.mem_cons.2 (.inl rfl)))
  have HINB := Lib.hid (hin _ (List.mem_cons.2 (.inr (List.mem_singleton.2 rfl))))
  have HLV := Lib.hid hlv
  have HQK := Lib.hid hak
  have HBW := Lib.hid hb1
  obtain ⟨ga, hA, hat⟩ := hak.at0 rfl (Nat.le_of_ble_eq_true rfl)
  subst hA
  obtain ⟨A1, c1, hcu, hro⟩ := hat 0 (numQ (nsOf ll) (La, Aa, ca)) rfl
  clear hat
  have hnl : (numQ (nsOf ll) (La, Aa, ca)).length ≤ 4611686018427387904 := by unfold numQ; rw [List.length_map]; show La.length ≤ _; omega
  obtain ⟨S, hS⟩ : ∃ S, S = numQ (nsOf ll) (La, Aa, ca) := ⟨_, rfl⟩
  rw [← hS] at hcu hro hnl
  have HS := Lib.hid hS
  have HU := Lib.hid (live_under hlv _ A1 c1 S hro hnl (by rw [hS]; exact numQ_lt HINA.out))
  clear hb1 ha HAK he0 hin hlv hak hro hnl hS
  gi_wp2
  refine ⟨trivial, ?_⟩
  gi_at_call 40
  refine (callsIn_wide.2 HU.out).mono ?_; rintro e w2 ⟨rfl, hmk, ht2⟩
  have HLV2 := Lib.hid (HLV.out.turned ht2)
  have HB2 := Lib.hid (HBZ.out.trans (turned_below' HLV.out HBA.out.size ht2))
  have HQ2 := Lib.hid (HQK.out.turned HLV.out ht2)
  have hdb1 : db < w1.heap.size := HLV.out.size.2
  have hsz12 : w1.heap.size < w2.heap.size := hmk.lt
  have hbase : wa.heap.size ≤ db := HLV.out.size.1
  have HN200 := Lib.hid (chk_gr HLV2.out.ok).1
  have HML := Lib.hid (show (Gr.marksOf (nsOf ll) S).length = (Gr.idsOf (nsOf ll)).length by unfold Gr.marksOf; rw [Gr.mkTo_length, Gr.sets_length, List.length_replicate, Gr.ids_len])
  obtain ⟨w4, hw4⟩ : ∃ y, y = (w2.alloc (.cells #[.slice (some ⟨w1.heap.size, 0, none⟩) (Gr.idsOf (nsOf ll)).length (Gr.idsOf (nsOf ll)).length] 66)).alloc (.cells #[.slice none 0 0] 64) := ⟨_, rfl⟩
  have hs4 : w4.heap.size = w2.heap.size + 2 := by rw [hw4]; simp
  have hb4 : Below w2.heap.size w2 w4 := by rw [hw4]; exact (below_alloc w2 _).trans ((below_alloc _ _).mono (by simp))
  have HLT := Lib.hid (show LateW w2.heap.size w1.heap.size (Gr.idsOf (nsOf ll)).length (Gr.marksOf (nsOf ll) S) w4 from ⟨by rw [hw4]; exact (Blk.new w2 _ _).alloc _, hmk.later hb4⟩)
  have HBX := Lib.hid (show Blk w4 (w2.heap.size + 1) 64 #[.slice none 0 0] by
    have h := Blk.new (w2.alloc (.cells #[.slice (some ⟨w1.heap.size, 0, none⟩) (Gr.idsOf (nsOf ll)).length (Gr.idsOf (nsOf ll)).length] 66)) 64 #[.slice none 0 0]
    rw [World.size_alloc] at h; rw [hw4]; exact h)
  obtain ⟨ga2, hA2, hat⟩ := HQ2.out.at0 rfl (Nat.le_of_ble_eq_true rfl)
  obtain ⟨A2, c2, hcu3, hro2⟩ := hat 1 (numQ (nsOf ll) (Lb, Ab, cb)) rfl
  injection hA2 with hA2
  injection hA2 with hA2
  subst hA2
  have hcu2 : w4.cell? ⟨ga, 1, none⟩ = some (.slice A2 (numQ (nsOf ll) (Lb, Ab, cb)).length c2) := (hb4.cell (HQ2.out.own.lt ga rfl).2).trans hcu3
  obtain ⟨S2, hS2⟩ : ∃ S2, S2 = numQ (nsOf ll) (Lb, Ab, cb) := ⟨_, rfl⟩
  rw [← hS2] at hcu2 hro2
  have HS2 := Lib.hid hS2
  have HSN := Lib.hid (show ∀ n ∈ S2, n < (Gr.idsOf (nsOf ll)).length by rw [hS2]; exact numQ_lt HINB.out)
  have hs2l : S2.length ≤ 4611686018427387904 := by rw [hS2]; unfold numQ; rw [List.length_map]; show Lb.length ≤ _; omega
  have HRO := Lib.hid hro2
  have HLV4 := Lib.hid (HLV2.out.below hb4)
  have HB4 := Lib.hid (HB2.out.trans (hb4.mono HB2.out.size))
  replace hw4 := hw4.symm
  clear hat hcu3 hro2 hS2 HQ2 hmk ht2 HU HLV hcu HQK
  gi_wp2_with (first | rw [hw4] | (refine ⟨trivial, ?_⟩; gi_at_call 44; refine (callsIn_wide.2 (pabove_any gb A2 S2.length c2 _)).mono ?_; rintro e w' ⟨rfl, rfl⟩))
  have hvl := vis_len (Gr.nums (nsOf ll)) (Gr.idsOf (nsOf ll)).length (Gr.sets (List.replicate (Gr.idsOf (nsOf ll)).length false) S2)
  obtain ⟨bs0, hbs0, hGM⟩ := HLV2.out.gm
  have HGM := Lib.hid hGM
  obtain ⟨g1, g2, g3, g4, g5⟩ := chk_gr HLV2.out.ok
  obtain ⟨w', hw'⟩ : ∃ y, y = (w4.alloc (.cells #[.pointer (some ⟨gb, 0, none⟩)] 55)).alloc (.cells #[.slice A2 S2.length c2] 64) := ⟨_, rfl⟩
  rw [← hw']
  have hsz' : w'.heap.size = w2.heap.size + 4 := by rw [hw']; simp [hs4]
  have hb' : Below w4.heap.size w4 w' := by rw [hw']; exact (below_alloc w4 _).trans ((below_alloc _ _).mono (by simp))
  have r3 : Blk w' (w2.heap.size + 2) 55 #[.pointer (some ⟨gb, 0, none⟩)] := by
    have h := (Blk.new w4 55 #[.pointer (some ⟨gb, 0, none⟩)]).alloc (.cells #[.slice A2 S2.length c2] 64)
    rw [hs4] at h; rw [hw']; exact h
  have r4 : Blk w' (w2.heap.size + 2 + 1) 64 #[.slice A2 S2.length c2] := by
    have h := Blk.new (w4.alloc (.cells #[.pointer (some ⟨gb, 0, none⟩)] 55)) 64 #[.slice A2 S2.length c2]
    rw [World.size_alloc, hs4] at h; rw [hw']; exact h
  have hbw2 : Below w2.heap.size w2 w' := hb4.trans (hb'.mono hb4.size)
  have hst : CmI w2 db w1.heap.size (Gr.idsOf (nsOf ll)).length w'.heap.size (Gr.marksOf (nsOf ll) S) [] w' := ⟨grown_of hbw2 _, HLT.out.below hb', none, 0, HBX.out.later hb', World.ownsRow_nil _ _ _ _⟩
  have HBW' := Lib.hid hbw2
  have hvn : ∀ x ∈ Gr.vis (Gr.nums (nsOf ll)) (Gr.idsOf (nsOf ll)).length (Gr.sets (List.replicate (Gr.idsOf (nsOf ll)).length false) S2), x < (Gr.idsOf (nsOf ll)).length := fun x hx => ((Gr.mem_vis g4 _).1 hx).1
  obtain ⟨iI, hiI, hzI0, hzI1, hzI2⟩ := info_parts infoI
  clear hw' hwa hw4 hcu2 hGM
  refine wpIn_range_all (F := Fence.wide) (n := 6) (w := w') rfl (by omega) (gf := 55) (lb := #[.pointer (some ⟨w2.heap.size + 2, 0, none⟩), .pointer (some ⟨w2.heap.size + 2 + 1, 0, none⟩)]) rfl trivial (enters_of Try.func55 (by kernel_rfl) rfl) (xs := Gr.vis (Gr.nums (nsOf ll)) (Gr.idsOf (nsOf ll)).length (Gr.sets (List.replicate (Gr.idsOf (nsOf ll)).length false) S2))
    (above1_all Fence.wide (6 - 1) trivial rfl (by omega) wa.heap.size gb db mb A c B d V _ _ bs0 w2 HGM.out hbs0 g1 g3 wa.heap.size A2 c2 S2 HRO.out hs2l HSN.out (w2.heap.size + 2) (w2.heap.size + 2 + 1) (w2.heap.size + 1) w'.heap.size (by omega) (by omega) ⟨by omega, by omega⟩ ⟨by omega, by omega⟩)
    rfl (by omega) (fun o o' => ⟨bs0, hbs0, ⟨grown_of (HBW'.out.trans (((below_alloc w' o).trans ((below_alloc _ o').mono (by simp))).mono HBW'.out.size)) _, ((HGM.out.due.later HBW'.out).alloc o).alloc o', (r3.alloc o).alloc o', (r4.alloc o).alloc o'⟩⟩)
    (fun pre W => CmI w2 db w1.heap.size (Gr.idsOf (nsOf ll)).length w'.heap.size (Gr.marksOf (nsOf ll) S) pre W) ?hI hst
    (fun x => { tmps := #[.slice A0 ll.length c0, .slice Aa La.length ca, .slice Ab Lb.length cb, undef, undef, undef, .slice none 0 0, .int .i64 0, .pointer (some ⟨gb, 0, none⟩), .slice (some ⟨ga, 0, none⟩) 2 cQ, .int .i64 0, .pointer (some ⟨w2.heap.size, 0, none⟩), .pointer (some ⟨w2.heap.size + 1, 0, none⟩), .int .i64 (x : Int), .tuple #[.pointer (some ⟨gb, 0, none⟩), .slice (some ⟨ga, 0, none⟩) 2 cQ, .int .i64 0], .slice A0 ll.length c0, .slice Aa La.length ca, .slice Ab Lb.length cb, .slice (some ⟨w.heap.size, 0, none⟩) 2 2, .tuple #[.pointer (some ⟨gb, 0, none⟩), .slice (some ⟨ga, 0, none⟩) 2 cQ, .int .i64 0], .pointer (some ⟨gb, 0, none⟩), .slice (some ⟨ga, 0, none⟩) 2 cQ, .int .i64 0, .int .i64 0, .bool false, undef, .pointer (some ⟨gb, 0, none⟩), .slice (some ⟨ga, 0, none⟩) 2 cQ, .pointer (some ⟨ga, 0, none⟩), .slice A1 S.length c1, .slice (some ⟨w1.heap.size, 0, none⟩) (Gr.idsOf (nsOf ll)).length (Gr.idsOf (nsOf ll)).length, .pointer (some ⟨gb, 0, none⟩), .slice (some ⟨ga, 0, none⟩) 2 cQ, .pointer (some ⟨ga, 1, none⟩), .slice A2 S2.length c2, .func (.func 55) #[] #[.pointer (some ⟨w2.heap.size + 2, 0, none⟩), .pointer (some ⟨w2.heap.size + 2 + 1, 0, none⟩)], .int .i64 (x : Int), undef, undef, undef, undef, undef, undef, undef, undef, undef, undef, undef, undef, undef], defers := [] }) ?assign ?body ?done
  case hI =>
    intro s X Y row hs hg hr
    exact hs.moved hg hr (by omega) (by omega) (by omega) (by omega) (by omega)
  case assign =>
    intro l x W K hK
    gi_wp2
    exact hK
  case body =>
    rintro l pre x W hWs ⟨post, hpx⟩ hs
    have hx := hvn x (by rw [hpx]; simp)
    have hxI : (x : Int) < ((Gr.idsOf (nsOf ll)).length : Int) := by omega
    have hpl : (pre.filter fun n => (Gr.marksOf (nsOf ll) S).getD n false).length ≤ 200 := by
      have h1 := List.length_filter_le (fun n => (Gr.marksOf (nsOf ll) S).getD n false) pre
      have h2 : pre.length ≤ (Gr.vis (Gr.nums (nsOf ll)) (Gr.idsOf (nsOf ll)).length (Gr.sets (List.replicate (Gr.idsOf (nsOf ll)).length false) S2)).length := by rw [hpx]; simp
      omega
    have ck1 : W.cell? ⟨w2.heap.size, 0, none⟩ = some (.slice (some ⟨w1.heap.size, 0, none⟩) (Gr.idsOf (nsOf ll)).length (Gr.idsOf (nsOf ll)).length) := hs.late.box.cell 0
    have hv : W.cell? ⟨w1.heap.size, x, none⟩ = some (.bool ((Gr.marksOf (nsOf ll) S).getD x false)) := (hs.late.row.cell x).trans (bl_at (by rw [HML.out]; exact hx))
    obtain ⟨A', c', hbx, hown⟩ := hs.both
    have ck2 : W.cell? ⟨w2.heap.size + 1, 0, none⟩ = some (.slice A' (pre.filter fun n => (Gr.marksOf (nsOf ll) S).getD n false).length c') := hbx.cell 0
    have HSS := Lib.hid hs
    have HOW := Lib.hid hown
    have HBXX := Lib.hid hbx
    clear hpx hs hown hbx hvn hst
    cases hm : (Gr.marksOf (nsOf ll) S).getD x false with
    | false =>
      rw [hm] at hv
      gi_wp2
      refine ⟨KeepsFrom.refl _ _, KpB.refl _ _ _, HSS.out.gr, HSS.out.late, A', c', ?_⟩
      have hfe : ((pre ++ [x]).filter fun n => (Gr.marksOf (nsOf ll) S).getD n false) = pre.filter fun n => (Gr.marksOf (nsOf ll) S).getD n false := by rw [List.filter_append, List.filter_cons, hm]; simp
      rw [hfe]
      exact ⟨HBXX.out, HOW.out⟩
    | true =>
      rw [hm] at hv
      obtain ⟨F, hF⟩ : ∃ F, F = pre.filter fun n => (Gr.marksOf (nsOf ll) S).getD n false := ⟨_, rfl⟩
      rw [← hF] at ck2 HOW HBXX hpl
      have hfe : ((pre ++ [x]).filter fun n => (Gr.marksOf (nsOf ll) S).getD n false) = F ++ [x] := by rw [List.filter_append, List.filter_cons, hm, hF]; simp
      clear hF
      gi_wp2_with (gi_at_builtin; refine wpListIn_append_own _ rfl _ _ 64 rfl w'.heap.size 3 iI (.int .i64 0) 1 8 Try.underlying64 hiI hzI0 hzI1 hzI2 rfl (by decide) _ _ _ rfl (HOW.out.alloc _) ⟨W.heap.size, 0, none⟩ 1 1 [.int .i64 (x : Int)] rfl rfl (cell_one_new _ _ _) (by simp [Value.oneCell']) (by unfold maxLen; omega) (by omega) (by simp; omega) ?_; intro v' w5 hown' hgrow _; obtain ⟨A5, c5, hv5, -, -, -⟩ := own_form hown'; subst hv5; have HO5 := Lib.hid hown'; have HG5 := Lib.hid hgrow; have HBX5 := Lib.hid ((HBXX.out.alloc (.cells #[.int .i64 (x : Int)] 3)).grown hgrow (fun e => by have := (HOW.out.lt _ e.symm).1; omega)); have hc5 : w5.cell? ⟨w2.heap.size + 1, 0, none⟩ = some (.slice A' F.length c') := HBX5.out.cell 0; have hf5 : w5.frozen? ⟨w2.heap.size + 1, 0, none⟩ = false := HBX5.out.frozen 0; clear hown' hgrow)
      have hga : (W.alloc (.cells #[.int .i64 (x : Int)] 3)).grownBy w5 (Value.slice A' F.length c').ownBlock := HG5.out
      have hcel : ∀ (j : Nat) (o : Obj), (Value.slice A' F.length c').ownBlock = some j → (W.alloc (.cells #[.int .i64 (x : Int)] 3)).heap[j]? = some o → o.isCells = true := by
        intro j o hj ho
        cases hc : o.isCells with
        | true => rfl
        | false => exact absurd hj (own_not (HOW.out.alloc _) ho hc)
      have hgW : W.grownBy (W.alloc (.cells #[.int .i64 (x : Int)] 3)) none := grown_of (below_alloc W _) none
      refine ⟨((KeepsOthers.alloc W _).trans ((KeepsOthers.of_grownBy hga hcel).trans (KeepsOthers.setCell _ _ _))).from _, (KpB.grown hgW hWs (fun r e => by cases e)).trans ((KpB.grown hga (Nat.le_trans hWs (by simp)) (fun r e => .inr (HOW.out.lt r e).1)).trans (KpB.grown (grown_set w5 (w2.heap.size + 1) 0 _) (Nat.le_trans hWs (Nat.le_trans (by simp) hga.size)) (fun r e => by cases e; exact .inl rfl))), ?_⟩
      have hs5 : CmI w2 db w1.heap.size (Gr.idsOf (nsOf ll)).length w'.heap.size (Gr.marksOf (nsOf ll) S) pre (W.alloc (.cells #[.int .i64 (x : Int)] 3)) := HSS.out.moved hgW (fun r e => by cases e) (by omega) (by omega) (by omega) (by omega) (by omega)
      have hlo : ∀ k, k < w'.heap.size → some k ≠ (Value.slice A' F.length c').ownBlock := fun k hk e => by have := (HOW.out.lt k e.symm).1; omega
      refine ⟨⟨?_, ?_, ?_, ?_, ?_⟩, ⟨(hs5.late.box.grown hga (hlo _ (by omega))).far (p := ⟨w2.heap.size + 1, 0, none⟩) (by show w2.heap.size ≠ w2.heap.size + 1; omega) _, (hs5.late.row.grown hga (hlo _ (by omega))).far (p := ⟨w2.heap.size + 1, 0, none⟩) (by show w1.heap.size ≠ w2.heap.size + 1; omega) _⟩, A5, c5, ?_, ?_⟩
      · exact hga.os.trans hs5.gr.os
      · exact hga.tape.trans hs5.gr.tape
      · exact hga.output.trans hs5.gr.output
      · have h1 := hs5.gr.size; have h2 := hga.size; simpa [World.setCell] using Nat.le_trans h1 h2
      · intro k hk hk2
        exact (Below.heap_setCell w5 ⟨w2.heap.size + 1, 0, none⟩ _ k (by show k ≠ w2.heap.size + 1; omega)).trans ((hga.block k (Nat.lt_of_lt_of_le hk hs5.gr.size) (hlo k (by omega))).trans (hs5.gr.block k hk hk2))
      · rw [hfe]
        have h := HBX5.out.set_ 0 (.slice A5 (F.length + 1) c5)
        rw [List.length_append]
        exact h
      · rw [hfe]
        have h := row_set (i := 0) (x := .slice A5 (F.length + 1) c5) HO5.out HBX5.out (by decide)
        rw [nv_append, List.length_append]
        exact h
  case done =>
    rintro D W hD hs ⟨bs3, hl3, hd3⟩ hK
    obtain ⟨A', c', hbx, hown⟩ := hs.both
    obtain ⟨F, hF⟩ : ∃ F, F = (Gr.vis (Gr.nums (nsOf ll)) (Gr.idsOf (nsOf ll)).length (Gr.sets (List.replicate (Gr.idsOf (nsOf ll)).length false) S2)).filter fun n => (Gr.marksOf (nsOf ll) S).getD n false := ⟨_, rfl⟩
    rw [← hF] at hbx hown
    have ck2 : W.cell? ⟨w2.heap.size + 1, 0, none⟩ = some (.slice A' F.length c') := hbx.cell 0
    have htW : Turned db (Gr.idsOf (nsOf ll)).length w2 W := ⟨hs.gr, bs3, hl3, hd3⟩
    have HLW := Lib.hid (HLV2.out.turned htW)
    have HBW2 := Lib.hid (HB2.out.trans (turned_below' HLV2.out HBA.out.size htW))
    obtain ⟨p, hp⟩ : ∃ p : List UInt8 → Bool, ∀ d, p d = true ↔ d ∈ Gr.aboveL Tx.less (nsOf ll) Lb := ⟨fun d => (Gr.aboveL Tx.less (nsOf ll) Lb).contains d, fun d => by simp⟩
    have hnum := common_num g5 (q := (La, Aa, ca)) (r := (Lb, Ab, cb)) HINA.out HINB.out hp
    rw [← HS.out, ← HS2.out, ← hF] at hnum
    have hfl : F.length ≤ 4611686018427387904 := by rw [hF]; have := List.length_filter_le (fun n => (Gr.marksOf (nsOf ll) S).getD n false) (Gr.vis (Gr.nums (nsOf ll)) (Gr.idsOf (nsOf ll)).length (Gr.sets (List.replicate (Gr.idsOf (nsOf ll)).length false) S2)); omega
    have HFN := Lib.hid (show ∀ n ∈ F, n < (Gr.idsOf (nsOf ll)).length by rw [hF]; exact fun n hn => hvn n (List.mem_filter.1 hn).1)
    have HHE := Lib.hid (live_heads HLW.out _ A' c' F hown hfl HFN.out)
    have HDW := Lib.hid (show w'.heap.size ≤ D ∧ D < W.heap.size from ⟨hD, (Array.getElem?_eq_some_iff.1 hK).1⟩)
    have HWS := Lib.hid (show w2.heap.size ≤ W.heap.size from hs.gr.size)
    clear hs hbx hown htW hst hvn hF hvl
    gi_wp2
    refine ⟨trivial, ?_⟩
    gi_at_call 43
    refine (callsIn_wide.2 HHE.out).mono ?_; rintro e w6 ⟨A6, c6, R, rfl, ho6, ht6, hris⟩
    have HLV6 := Lib.hid (HLW.out.turned ht6)
    have HRA := Lib.hid ((ris_heads g5 HLV6.out.dig hnum hris).trans (Gr.common_is Tx.less hp).symm)
    have HRL := Lib.hid (Nat.le_trans hris.len (chk_gr HLV6.out.ok).1)
    have HTE := Lib.hid (live_tell HLV6.out w6.heap.size A6 c6 R (Rd.of_own ho6) (Nat.le_refl _) (HRL.out) (fun n hn => by have := marks_lt ((hris.mem n).1 hn); rwa [unw_length, Gr.sets_length, List.length_replicate, ← Gr.ids_len] at this))
    have HB6 := Lib.hid (HBW2.out.trans (turned_below' HLW.out HBA.out.size ht6))
    have hK6 : w6.heap[D]? = some (.deferred (some [])) := (ht6.1.block D HDW.out.2 (fun e => by have := HDW.out.1; have := Option.some.inj e; omega)).trans hK
    clear hris ho6 HHE
    gi_wp2
    refine ⟨trivial, ?_⟩
    gi_at_call 38
    refine (callsIn_wide.2 HTE.out).mono ?_; rintro e w7 ⟨A7, c7, rfl, ho7, hb7⟩
    have HB7 := Lib.hid (HB6.out.trans (hb7.mono HB6.out.size))
    have hlen : R.length = (Gr.commonL Tx.less (nsOf ll) La Lb).length := by rw [← HRA.out, List.length_map]
    rw [HRA.out] at ho7
    rw [hlen] at ho7 HRL ⊢
    have HO7 := Lib.hid ho7
    have hK7 : w7.heap[D]? = some (.deferred (some [])) := (hb7.block D (Array.getElem?_eq_some_iff.1 hK6).1).trans hK6
    clear hb7 ho7 HTE hlen
    gi_wp2
    refine ⟨by simp, .inl ⟨_, _, rfl, run_takeDeferred hK7, ?_⟩⟩
    have ho8 := HO7.out.kept (grown_put w7 D (.deferred none)) (by
      cases hq : (Value.slice A7 (Gr.commonL Tx.less (nsOf ll) La Lb).length c7).ownBlock with
      | none => exact .inl rfl
      | some q => exact .inr (fun e => by have := (HO7.out.lt q hq).1; have := Option.some.inj e; have := (Array.getElem?_eq_some_iff.1 hK6).1; omega))
    refine ⟨_, results_tmp2 rfl _ _ _, HB7.out.grown (grown_put w7 D (.deferred none)) HB7.out.size (fun q hq => by cases hq; have := HB2.out.size; have := HDW.out.1; omega), .inr ⟨HE0.out, HRL.out, A7, c7, rfl, own_base ho8 HB6.out.size⟩⟩
end Go.Proofs.Ytebfocfeehajjaa

/- Deltas, without memory: how long they are; beginnings of deltas, and deltas with more behind them. -/
import Derived.Test.YtemcfmneokbhkaaDl
namespace Go.Proofs.Ytemcfmneokbhkaa.Dl
open Wi

theorem num_two {n : Nat} (h : n < 16384) : (num n).length ≤ 2 := num_len_le 1 n (Nat.lt_of_lt_of_le h (by decide))
theorem flush_len {own : List UInt8} (h : own.length ≤ 4096) : (flush own).length ≤ own.length + 2 := by
  unfold flush
  split
  · simp
  · have := num_two (n := 2 * own.length) (by omega)
    rw [List.length_append]; omega
theorem mkGo_len {base : List UInt8} (hb : base.length ≤ 4096) : ∀ (n : Nat) (own t : List UInt8), t.length ≤ n → own.length + t.length ≤ 4096 → (mkGo base own t).length ≤ own.length + t.length + 2
  | n, own, [], _, h => by rw [mkGo_nil]; have := flush_len (own := own) (by simpa using h); simpa using this
  | n + 1, own, x :: r, hn, h4 => by
    by_cases h : (bestOf base (x :: r)).2 < 8
    · rw [mkGo_own h]
      have := mkGo_len hb n (own ++ [x]) r (by simpa using hn) (by simp at h4 ⊢; omega)
      simp at this ⊢; omega
    · rw [mkGo_copy h]
      obtain ⟨h1, h2⟩ := bestOf_spec base (x :: r)
      have ih := mkGo_len hb n [] ((x :: r).drop (bestOf base (x :: r)).2) (by rw [List.length_drop]; simp at hn ⊢; omega) (by rw [List.length_drop]; simp at h4 ⊢; omega)
      have e1 := flush_len (own := own) (by omega)
      have e2 := num_two (n := 2 * (bestOf base (x :: r)).2 + 1) (by omega)
      have e3 := num_two (n := (bestOf base (x :: r)).1) (by omega)
      rw [List.length_drop] at ih
      simp only [List.length_append, List.length_nil] at ih ⊢
      omega
theorem makeD_len {base t : List UInt8} (hb : base.length ≤ 4096) (ht : t.length ≤ 4096) : (makeD base t).1.length ≤ t.length + 6 := by
  unfold makeD
  rw [if_neg (by omega)]
  have e1 := num_two (n := base.length) (by omega)
  have e2 := num_two (n := t.length) (by omega)
  have e3 := mkGo_len hb _ [] t (Nat.le_refl _) (by simpa using ht)
  simp only [List.length_append, List.length_nil] at e3 ⊢
  omega
theorem makeD_part {base : List UInt8} (hb : base.length ≤ 4096) {a b : Nat} (hab : a + 8 ≤ b) (hbl : b ≤ base.length) : (makeD base ((base.take b).drop a)).1.length ≤ 8 := by
  obtain ⟨t, ht⟩ : ∃ t, t = (base.take b).drop a := ⟨_, rfl⟩
  have hl : t.length = b - a := by rw [ht, List.length_drop, List.length_take]; omega
  have hd : base.drop a = t ++ base.drop b := by
    rw [ht]
    conv => lhs; rw [← List.take_append_drop b base]
    rw [List.drop_append_of_le_length (by rw [List.length_take]; omega)]
  rw [← ht]
  have hs : (bestOf base t).2 = t.length := by
    have h1 := (bestOf_spec base t).1
    have h2 := best_ge (fun k => lcp (base.drop k) t) base.length a (by omega)
    have h3 : lcp (base.drop a) t ≤ (bestOf base t).2 := h2
    rw [hd, lcp_prefix] at h3
    omega
  unfold makeD
  rw [if_neg (by omega)]
  cases t with
  | nil => simp at hl; omega
  | cons x r =>
    rw [mkGo_copy (by omega), hs, List.drop_length, mkGo_nil]
    obtain ⟨h1, h2⟩ := bestOf_spec base (x :: r)
    have e1 := num_two (n := base.length) (by omega)
    have e2 := num_two (n := (x :: r).length) (by omega)
    have e3 := num_two (n := 2 * (x :: r).length + 1) (by omega)
    have e4 := num_two (n := (bestOf base (x :: r)).1) (by omega)
    simp only [flush, if_pos, List.length_append, List.length_nil]
    omega

/-! ### Beginnings, and more behind -/
theorem getNum_more {d : List UInt8} {p n q : Nat} (r : List UInt8) (h : getNum d p = (n, q, 0)) : getNum (d ++ r) p = (n, q, 0) := by
  obtain ⟨k, hk, hn, hq, hql, r', h1, -⟩ := getNum_just h
  obtain rfl : p = k := by omega
  have hpl : p ≤ d.length := by omega
  have e : d ++ r = d.take p ++ (num n ++ (r' ++ r)) := by
    conv => lhs; rw [← List.take_append_drop p d, h1]
    simp
  have ht : (d.take p).length = p := by rw [List.length_take]; omega
  have := getNum_put (d.take p) (r' ++ r) hn
  rw [ht, ← e] at this
  rw [this, hq]
theorem getNum_take {d : List UInt8} {p n q c : Nat} (h : getNum d p = (n, q, 0)) (hp : p ≤ c) : (q ≤ c ∧ getNum (d.take c) p = (n, q, 0)) ∨ (c < q ∧ getNum (d.take c) p = (0, 0, 8)) := by
  obtain ⟨k, hk, hn, hq, hql, r', h1, -⟩ := getNum_just h
  obtain rfl : p = k := by omega
  have hpl : p ≤ d.length := by omega
  have ht : (d.take p).length = p := by rw [List.length_take]; omega
  have e0 : d.take c = d.take p ++ (num n ++ r').take (c - p) := by
    have : d.take c = (d.take p ++ (num n ++ r')).take c := by rw [← h1, List.take_append_drop]
    rw [this, List.take_append, ht, List.take_of_length_le (by omega)]
  by_cases hc : q ≤ c
  · refine .inl ⟨hc, ?_⟩
    have e : d.take c = d.take p ++ (num n ++ r'.take (c - q)) := by
      rw [e0, List.take_append, List.take_of_length_le (l := num n) (by omega), show c - p - (num n).length = c - q by omega]
    have := getNum_put (d.take p) (r'.take (c - q)) hn
    rw [ht, ← e] at this
    rw [this, hq]
  · refine .inr ⟨by omega, ?_⟩
    have e : d.take c = d.take p ++ (num n).take (c - p) := by
      rw [e0, List.take_append_of_le_length (by omega)]
    have := getNum_cut (d.take p) (n := n) (k := c - p) hn (by omega)
    rw [ht, ← e] at this
    exact this
theorem getNum_next {d : List UInt8} {p n q : Nat} (h : getNum d p = (n, q, 0)) : p < q ∧ q ≤ d.length := by
  obtain ⟨k, hk, hn, hq, hql, -⟩ := getNum_just h
  have := num_pos n
  omega

theorem piece_ok {base d s : List UInt8} {p lack q : Nat} (h : piece base d p lack = .ok (s, q)) :
    ∃ m p1, getNum d p = (m, p1, 0) ∧ 0 < m / 2 ∧ m / 2 ≤ lack ∧ ((m % 2 = 0 ∧ p1 + m / 2 ≤ d.length ∧ s = (d.drop p1).take (m / 2) ∧ q = p1 + m / 2) ∨ (m % 2 ≠ 0 ∧ ∃ k, getNum d p1 = (k, q, 0) ∧ k + m / 2 ≤ base.length ∧ s = (base.drop k).take (m / 2))) := by
  obtain ⟨⟨m, p1, e⟩, hg⟩ : ∃ x, x = getNum d p := ⟨_, rfl⟩
  unfold piece at h
  rw [← hg] at h
  simp only [] at h
  split at h
  · cases h
  · rename_i he
    obtain rfl : e = 0 := by omega
    split at h
    · cases h
    · rename_i h1
      refine ⟨m, p1, hg.symm, by omega, by omega, ?_⟩
      split at h
      · rename_i h2
        split at h
        · cases h
        · rename_i h3
          simp only [Except.ok.injEq, Prod.mk.injEq] at h
          exact .inl ⟨h2, by omega, h.1.symm, h.2.symm⟩
      · rename_i h2
        obtain ⟨⟨k, p2, e2⟩, hg2⟩ : ∃ x, x = getNum d p1 := ⟨_, rfl⟩
        rw [← hg2] at h
        simp only [] at h
        split at h
        · cases h
        · rename_i he2
          obtain rfl : e2 = 0 := by omega
          split at h
          · cases h
          · rename_i h3
            simp only [Except.ok.injEq, Prod.mk.injEq] at h
            obtain ⟨h5, rfl⟩ := h
            exact .inr ⟨h2, k, hg2.symm, by omega, h5.symm⟩
theorem piece_err {base d : List UInt8} {p lack m p1 e : Nat} (h : getNum d p = (m, p1, e)) (he : e ≠ 0) : piece base d p lack = .error e := by unfold piece; rw [h, if_pos he]
theorem piece_is_own {base d : List UInt8} {p lack m p1 : Nat} (h : getNum d p = (m, p1, 0)) (h1 : 0 < m / 2) (h2 : m / 2 ≤ lack) (h3 : m % 2 = 0) : piece base d p lack = if d.length < p1 + m / 2 then .error 8 else .ok ((d.drop p1).take (m / 2), p1 + m / 2) := by
  unfold piece; rw [h]; simp only []; rw [if_neg (by omega), if_neg (by omega), if_pos h3]
theorem piece_is_copy {base d : List UInt8} {p lack m p1 k p2 e : Nat} (h : getNum d p = (m, p1, 0)) (h1 : 0 < m / 2) (h2 : m / 2 ≤ lack) (h3 : m % 2 ≠ 0) (h4 : getNum d p1 = (k, p2, e)) : piece base d p lack = if e ≠ 0 then .error e else if base.length < k + m / 2 then .error 9 else .ok ((base.drop k).take (m / 2), p2) := by
  unfold piece; rw [h]; simp only []; rw [if_neg (by omega), if_neg (by omega), if_neg h3, h4]

theorem piece_more {base d s : List UInt8} {p lack q : Nat} (r : List UInt8) (h : piece base d p lack = .ok (s, q)) : piece base (d ++ r) p lack = .ok (s, q) := by
  obtain ⟨m, p1, hg, h1, h2, h3⟩ := piece_ok h
  rcases h3 with ⟨h3, h4, rfl, rfl⟩ | ⟨h3, k, h4, h5, rfl⟩
  · rw [piece_is_own (getNum_more r hg) h1 h2 h3, if_neg (by rw [List.length_append]; omega), List.drop_append_of_le_length (by omega), List.take_append_of_le_length (by rw [List.length_drop]; omega)]
  · rw [piece_is_copy (getNum_more r hg) h1 h2 h3 (getNum_more r h4), if_neg (by omega), if_neg (by omega)]
theorem piece_next {base d s : List UInt8} {p lack q : Nat} (h : piece base d p lack = .ok (s, q)) : p < q ∧ q ≤ d.length := by
  obtain ⟨m, p1, hg, h1, h2, h3⟩ := piece_ok h
  have := getNum_next hg
  rcases h3 with ⟨h3, h4, rfl, rfl⟩ | ⟨h3, k, h4, h5, rfl⟩
  · omega
  · have := getNum_next h4
    omega
theorem piece_take {base d s : List UInt8} {p lack q c : Nat} (h : piece base d p lack = .ok (s, q)) (hp : p ≤ c) (hc : c ≤ d.length) : (q ≤ c ∧ piece base (d.take c) p lack = .ok (s, q)) ∨ (∃ e, e ≠ 0 ∧ piece base (d.take c) p lack = .error e) := by
  obtain ⟨m, p1, hg, h1, h2, h3⟩ := piece_ok h
  have hlen : (d.take c).length = c := by rw [List.length_take]; omega
  rcases getNum_take hg hp with ⟨hc1, hg1⟩ | ⟨hc1, hg1⟩
  · rcases h3 with ⟨h3, h4, rfl, rfl⟩ | ⟨h3, k, h4, h5, rfl⟩
    · rw [piece_is_own hg1 h1 h2 h3, hlen]
      by_cases hq : c < p1 + m / 2
      · exact .inr ⟨8, by decide, by rw [if_pos hq]⟩
      · refine .inl ⟨by omega, ?_⟩
        rw [if_neg hq, List.drop_take, List.take_take, Nat.min_eq_left (by omega)]
    · rcases getNum_take h4 hc1 with ⟨hc2, hg2⟩ | ⟨hc2, hg2⟩
      · exact .inl ⟨hc2, by rw [piece_is_copy hg1 h1 h2 h3 hg2, if_neg (by omega), if_neg (by omega)]⟩
      · exact .inr ⟨8, by decide, by rw [piece_is_copy hg1 h1 h2 h3 hg2, if_pos (by omega)]⟩
  · exact .inr ⟨8, by decide, piece_err hg1 (by omega)⟩

theorem goD_more {base d : List UInt8} {c : UInt8} {size : Nat} : ∀ (n : Nat) (out t : List UInt8) (p : Nat), size - out.length ≤ n → goD base d size out p = .ok t → goD base (d ++ [c]) size out p = .error 7 := by
  intro n
  induction n with
  | zero =>
    intro out t p hn h
    have hl : ¬ out.length < size := by omega
    rw [goD, if_neg hl] at h
    split at h
    · rename_i hp
      exact goD_form hl (by rw [List.length_append]; simp; omega)
    · cases h
  | succ n ih =>
    intro out t p hn h
    by_cases hl : out.length < size
    · cases hpc : piece base d p (size - out.length) with
      | error e => rw [goD_err hl hpc] at h; cases h
      | ok x =>
        obtain ⟨s, q⟩ := x
        rw [goD_ok hl hpc] at h
        rw [goD_ok hl (piece_more [c] hpc)]
        have := piece_len hpc
        exact ih _ _ _ (by rw [List.length_append]; omega) h
    · rw [goD, if_neg hl] at h
      split at h
      · rename_i hp
        exact goD_form hl (by rw [List.length_append]; simp; omega)
      · cases h
theorem goD_take {base d : List UInt8} {c size : Nat} (hc : c < d.length) : ∀ (n : Nat) (out t : List UInt8) (p : Nat), size - out.length ≤ n → p ≤ c → goD base d size out p = .ok t → ∃ e, e ≠ 0 ∧ goD base (d.take c) size out p = .error e := by
  intro n
  induction n with
  | zero =>
    intro out t p hn hp h
    have hl : ¬ out.length < size := by omega
    rw [goD, if_neg hl] at h
    split at h
    · omega
    · cases h
  | succ n ih =>
    intro out t p hn hp h
    by_cases hl : out.length < size
    · cases hpc : piece base d p (size - out.length) with
      | error e => rw [goD_err hl hpc] at h; cases h
      | ok x =>
        obtain ⟨s, q⟩ := x
        rw [goD_ok hl hpc] at h
        have := piece_len hpc
        rcases piece_take hpc hp (by omega) with ⟨h1, h2⟩ | ⟨e, h1, h2⟩
        · rw [goD_ok hl h2]
          exact ih _ _ _ (by rw [List.length_append]; omega) h1 h
        · exact ⟨e, h1, goD_err hl h2⟩
    · rw [goD, if_neg hl] at h
      split at h
      · omega
      · cases h

theorem applyD_ok {base d t : List UInt8} (h : applyD base d = .ok t) : base.length ≤ 4096 ∧ ∃ p1 size p2, getNum d ((0 : Nat) : Int) = (base.length, p1, 0) ∧ getNum d p1 = (size, p2, 0) ∧ size ≤ 4096 ∧ goD base d size [] p2 = .ok t := by
  obtain ⟨⟨n, p1, e⟩, hg⟩ : ∃ x, x = getNum d ((0 : Nat) : Int) := ⟨_, rfl⟩
  have hz : (((0 : Nat) : Int)) = (0 : Int) := rfl
  unfold applyD at h
  rw [← hz, ← hg] at h
  simp only [] at h
  split at h
  · cases h
  · rename_i h0
    split at h
    · cases h
    · rename_i he
      obtain rfl : e = 0 := by omega
      split at h
      · cases h
      · rename_i hn
        obtain rfl : n = base.length := by omega
        obtain ⟨⟨size, p2, e2⟩, hg2⟩ : ∃ x, x = getNum d p1 := ⟨_, rfl⟩
        rw [← hg2] at h
        simp only [] at h
        split at h
        · cases h
        · rename_i he2
          obtain rfl : e2 = 0 := by omega
          split at h
          · cases h
          · rename_i h4
            exact ⟨by omega, p1, size, p2, hg.symm, hg2.symm, by omega, h⟩
theorem applyD_is {base d : List UInt8} {p1 size p2 : Nat} (hb : base.length ≤ 4096) (h1 : getNum d ((0 : Nat) : Int) = (base.length, p1, 0)) (h2 : getNum d p1 = (size, p2, 0)) (h3 : size ≤ 4096) : applyD base d = goD base d size [] p2 := by
  have hz : (((0 : Nat) : Int)) = (0 : Int) := rfl
  unfold applyD
  rw [← hz, h1]
  simp only []
  rw [h2]
  simp only []
  rw [if_neg (by omega), if_neg (by omega), if_neg (by omega), if_neg (by omega), if_neg (by omega)]
theorem applyD_more {base d t : List UInt8} (c : UInt8) (h : applyD base d = .ok t) : applyD base (d ++ [c]) = .error 7 := by
  obtain ⟨hb, p1, size, p2, h1, h2, h3, h4⟩ := applyD_ok h
  rw [applyD_is hb (getNum_more [c] h1) (getNum_more [c] h2) h3]
  exact goD_more _ _ _ _ (Nat.le_refl _) h4
theorem applyD_take {base d t : List UInt8} {c : Nat} (hc : c < d.length) (h : applyD base d = .ok t) : ∃ e, e ≠ 0 ∧ applyD base (d.take c) = .error e := by
  obtain ⟨hb, p1, size, p2, h1, h2, h3, h4⟩ := applyD_ok h
  have hz : (((0 : Nat) : Int)) = (0 : Int) := rfl
  rcases getNum_take h1 (Nat.zero_le c) with ⟨hc1, g1⟩ | ⟨-, g1⟩
  · rcases getNum_take h2 hc1 with ⟨hc2, g2⟩ | ⟨-, g2⟩
    · rw [applyD_is hb g1 g2 h3]
      exact goD_take hc _ _ _ _ (Nat.le_refl _) hc2 h4
    · refine ⟨8, by decide, ?_⟩
      unfold applyD
      rw [← hz, g1]
      simp only []
      rw [g2]
      simp only []
      rw [if_neg (by omega), if_neg (by omega), if_neg (by omega), if_pos (by omega)]
  · refine ⟨8, by decide, ?_⟩
    unfold applyD
    rw [← hz, g1]
    simp only []
    rw [if_neg (by omega), if_pos (by omega)]
theorem applyD_other {base other t : List UInt8} (hb : base.length ≤ 4096) (ht : t.length ≤ 4096) (hne : base.length ≠ other.length) : applyD other (makeD base t).1 = .error (if 4096 < other.length then 3 else 1) := by
  have hg := getNum_put [] (num t.length ++ mkGo base [] t) (n := base.length) (by omega)
  simp only [List.nil_append, List.length_nil, Nat.zero_add] at hg
  have hz : (((0 : Nat) : Int)) = (0 : Int) := rfl
  unfold makeD
  rw [if_neg (by omega)]
  unfold applyD
  rw [← hz, hg]
  split
  · rfl
  · simp only []
    first | (rw [if_neg (by omega), if_pos hne]; done) | (rw [if_neg (by omega), if_pos hne]) | rfl
/-- The errors of Apply are of these numbers. -/
theorem goD_codes {base d : List UInt8} {size : Nat} : ∀ (n : Nat) (out : List UInt8) (p e : Nat), size - out.length ≤ n → goD base d size out p = .error e → 0 < e ∧ e < 16 := by
  have gn : ∀ (l : List UInt8) (p : Int), (getNum l p).2.2 < 16 := by
    intro l p
    unfold getNum
    split
    · decide
    · show (get 0 0 (l.drop p.toNat)).2.2 < 16
      have key : ∀ (r : List UInt8) (i acc : Nat), (get i acc r).2.2 < 16 := by
        intro r
        induction r with
        | nil => intro i acc; rw [get_nil]; decide
        | cons x r ih =>
          intro i acc
          by_cases h1 : 128 ≤ x.toNat
          · by_cases h8 : i = 8
            · rw [get_range r h1 h8]; decide
            · rw [get_more r h1 h8]; exact ih _ _
          · by_cases h2 : x.toNat = 0 ∧ 0 < i
            · rw [get_form r h2.1 h2.2]; decide
            · rw [get_last r h1 h2]; show (0 : Nat) < 16; decide
      exact key _ _ _
  have pc : ∀ p lack e, piece base d p lack = .error e → 0 < e ∧ e < 16 := by
    intro p lack e h
    have g1 := gn d p
    have g2 := gn d (getNum d p).2.1
    unfold piece at h
    split at h
    · simp only [Except.error.injEq] at h; omega
    · split at h
      · simp only [Except.error.injEq] at h; omega
      · split at h
        · split at h
          · simp only [Except.error.injEq] at h; omega
          · cases h
        · split at h
          · simp only [Except.error.injEq] at h; omega
          · split at h
            · simp only [Except.error.injEq] at h; omega
            · cases h
  intro n
  induction n with
  | zero =>
    intro out p e hn h
    rw [goD, if_neg (by omega)] at h
    split at h
    · cases h
    · simp only [Except.error.injEq] at h; omega
  | succ n ih =>
    intro out p e hn h
    by_cases hl : out.length < size
    · cases hpc : piece base d p (size - out.length) with
      | error e' => rw [goD_err hl hpc] at h; simp only [Except.error.injEq] at h; subst h; exact pc _ _ _ hpc
      | ok x =>
        obtain ⟨s, q⟩ := x
        rw [goD_ok hl hpc] at h
        have := piece_len hpc
        exact ih _ _ _ (by rw [List.length_append]; omega) h
    · rw [goD, if_neg hl] at h
      split at h
      · cases h
      · simp only [Except.error.injEq] at h; omega
end Go.Proofs.Ytemcfmneokbhkaa.Dl

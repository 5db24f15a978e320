/- Edits as cells; '==' of them; slices of them that read as lists. -/
import Derived.Test.YtmanafhdmijfeaaApK
import Derived.Laws.StructEq
import Derived.Laws.Tables
import Derived.Lib.Hide
namespace Go.Proofs.Ytmanafhdmijfeaa
open Go Go.RowKit

/-- An edit: its kind, how many bytes stay or go, what comes. -/
structure Ed where
  kind : Int
  n : Int
  text : List UInt8
deriving DecidableEq
instance : Inhabited Ed := ⟨⟨0, 0, []⟩⟩

def edCells (e : Ed) : List Value := [.int .i64 e.kind, .int .i64 e.n, .string (sB e.text)]
def edV (e : Ed) : Value := .agg #[.int .i64 e.kind, .int .i64 e.n, .string (sB e.text)]
def ev (L : List Ed) : List Value := L.flatMap edCells

theorem edCells_length (e : Ed) : (edCells e).length = 3 := rfl
theorem ev_nil : ev [] = [] := rfl
theorem ev_cons (e : Ed) (L : List Ed) : ev (e :: L) = edCells e ++ ev L := rfl
theorem ev_length : ∀ L : List Ed, (ev L).length = L.length * 3
  | [] => rfl
  | e :: L => by rw [ev_cons, List.length_append, ev_length L, edCells_length, List.length_cons]; omega
theorem ev_append (L R : List Ed) : ev (L ++ R) = ev L ++ ev R := List.flatMap_append
theorem ev_one (L : List Ed) : ∀ u ∈ ev L, u.oneCell' = true := by
  intro u hu
  obtain ⟨e, -, he⟩ := List.mem_flatMap.1 hu
  simp only [edCells, List.mem_cons, List.not_mem_nil, or_false] at he
  rcases he with rfl | rfl | rfl <;> rfl
theorem ev_at : ∀ (L : List Ed) (i j : Nat) (e : Ed), L[i]? = some e → j < 3 → (ev L)[i * 3 + j]? = (edCells e)[j]?
  | [], i, j, e, h, _ => by cases h
  | x :: L, 0, j, e, h, hj => by
    obtain rfl : x = e := by simpa using h
    rw [ev_cons, Nat.zero_mul, Nat.zero_add, List.getElem?_append_left (by rw [edCells_length]; exact hj)]
  | x :: L, i + 1, j, e, h, hj => by
    rw [ev_cons, List.getElem?_append_right (by rw [edCells_length]; omega), edCells_length, show (i + 1) * 3 + j - 3 = i * 3 + j by omega]
    exact ev_at L i j e (by simpa using h) hj

theorem sB_toList (l : List UInt8) : (sB l).toList = l := by
  have h : (sB l).toList = (sB l).data.toList := ByteArray.toList_eq ..
  rw [h]; rfl

/-- A list of edits that reads: an element and its three cells. -/
theorem Rd.ed {w : World} {B : Nat} {A : Option Addr} {L : List Ed} (h : Rd w B A (L.length * 3) (ev L)) {i : Nat} {e : Ed} (he : L[i]? = some e) :
    ∃ ad, A = some ad ∧ ad.block < B ∧ w.cell? (ad.add (i * 3)) = some (.int .i64 e.kind) ∧ w.cell? ⟨(ad.add (i * 3)).block, (ad.add (i * 3)).off + 1, none⟩ = some (.int .i64 e.n) ∧ w.cell? ⟨(ad.add (i * 3)).block, (ad.add (i * 3)).off + 2, none⟩ = some (.string (sB e.text)) := by
  have hi : i < L.length := (List.getElem?_eq_some_iff.1 he).1
  obtain ⟨ad, hA, hB, hc⟩ := h.2 (by omega)
  have q1 : ad.add (i * 3 + 1) = ⟨(ad.add (i * 3)).block, (ad.add (i * 3)).off + 1, none⟩ := by rw [← add_add']; simp [Addr.add]
  have q2 : ad.add (i * 3 + 2) = ⟨(ad.add (i * 3)).block, (ad.add (i * 3)).off + 2, none⟩ := by rw [← add_add']; simp [Addr.add]
  exact ⟨ad, hA, hB, hc _ _ (ev_at L i 0 e he (by omega)), by rw [← q1]; exact hc _ _ (ev_at L i 1 e he (by omega)), by rw [← q2]; exact hc _ _ (ev_at L i 2 e he (by omega))⟩

theorem Rd.ed_at {w : World} {B : Nat} {ad : Addr} {L : List Ed} (h : Rd w B (some ad) (L.length * 3) (ev L)) {i : Nat} {e : Ed} (he : L[i]? = some e) :
    w.cell? (ad.add (i * 3)) = some (.int .i64 e.kind) ∧ w.cell? ⟨(ad.add (i * 3)).block, (ad.add (i * 3)).off + 1, none⟩ = some (.int .i64 e.n) ∧ w.cell? ⟨(ad.add (i * 3)).block, (ad.add (i * 3)).off + 2, none⟩ = some (.string (sB e.text)) := by
  obtain ⟨ad', hA, -, h0, h1, h2⟩ := h.ed he
  cases hA
  exact ⟨h0, h1, h2⟩

/-- '==' of two edits. -/
theorem run_equal_ed (a b : Ed) (w : World) : (Op.equalIn 10000 32 (edV a) (edV b)).run Try.prog w = .ok (decide (a = b)) w := by
  have hS : Try.prog.underlying 32 = some (.struct (Try.prog.fieldsOf 32)) := by kernel_rfl
  have u3 := Try.underlying3
  have u9 := Try.underlying9
  have a3 := Try.isAgg3
  have a9 := Try.isAgg9
  obtain ⟨k1, n1, t1⟩ := a
  obtain ⟨k2, n2, t2⟩ := b
  unfold edV
  rw [show (10000 : Nat) = 9999 + 1 from rfl, run_equalIn_agg w 9999 32 _ _ hS Try.stoodInHeld32]
  simp only [Program.fieldsOf, Try.underlying32]
  go_simp
  rw [sB_toList, sB_toList]
  by_cases h1 : k1 = k2 <;> by_cases h2 : n1 = n2 <;> by_cases h3 : t1 = t2 <;> simp [h1, h2, h3]
theorem run_neq_ed (a b : Ed) (w : World) : (binOp .neq 32 (edV a) (edV b)).run Try.prog w = .ok (.bool (!decide (a = b))) w := by
  have h := run_equal_ed a b w
  unfold edV at h ⊢
  rw [run_neq_struct, h]; rfl
theorem run_eql_ed (a b : Ed) (w : World) : (binOp .eql 32 (edV a) (edV b)).run Try.prog w = .ok (.bool (decide (a = b))) w := by
  have h := run_equal_ed a b w
  unfold edV at h ⊢
  rw [run_eql_struct, h]; rfl
end Go.Proofs.Ytmanafhdmijfeaa

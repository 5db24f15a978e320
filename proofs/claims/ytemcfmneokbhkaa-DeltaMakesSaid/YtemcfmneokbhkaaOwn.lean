/- Of every layer: what a call hands back in new memory, and the bytes' type. -/
import Derived.Test.YtemcfmneokbhkaaRd
import Derived.OwnWalk
import Derived.ShutString
import Derived.Deep.DeepMust
import Derived.Deep.RegionWith
namespace Go.Proofs.Ytemcfmneokbhkaa
open Go Go.RowKit

theorem infoU8 : (Try.prog.info? 5).map (fun i => (i.zero, i.size, i.bytes)) = some (some (.int .u8 0), 1, 1) := by kernel_rfl

/-- Bytes in new memory, of a capacity that an int can say. -/
def Got (l : List UInt8) (w : World) (e : Ending) (w' : World) : Prop :=
  ∃ A c, e = .returned (.slice A l.length c) ∧ (l.length ≤ c ∧ c ≤ 9223372036854775807) ∧ Rd w' w'.heap.size A l.length (bv l) ∧ Below w.heap.size w w'

/-- One value, and all that there was as it was. -/
def Ret (v : Value) (w : World) (e : Ending) (w' : World) : Prop := e = .returned v ∧ Below w.heap.size w w'

/-- The string of such bytes. -/
def sB (l : List UInt8) : ByteArray := ⟨l.toArray⟩
theorem sB_size (l : List UInt8) : (sB l).size = l.length := size_of_list l
theorem sB_append (l r : List UInt8) : sB (l ++ r) = sB l ++ sB r := by unfold sB; rw [ByteArray.mk_append_mk]
theorem sB_self (s : ByteArray) : sB s.data.toList = s := rfl
theorem sB_data (l : List UInt8) : (sB l).data.toList = l := rfl

theorem own_below {B : Nat} {e : TypeId} {k : Nat} {v : Value} {n : Nat} {xs : List Value} {w w' : World} (h : w.ownsRow B e k v n xs) (hb : Below w.heap.size w w') : w'.ownsRow B e k v n xs :=
  h.kept (row := none) ⟨hb.os, hb.tape, hb.output, hb.size, fun j hj _ => hb.block j hj⟩ (by cases hv : v.ownBlock <;> simp)
end Go.Proofs.Ytemcfmneokbhkaa

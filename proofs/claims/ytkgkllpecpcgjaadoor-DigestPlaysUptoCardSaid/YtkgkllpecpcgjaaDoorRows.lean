/-
  NARROWER THAN 'FOR EVERY INPUT', by the rows' own cells (each row's printed sentence says how): DigestSums: laid · DigestKnown: laid · DigestHexes: laid · DigestOrders: laid · DigestPlays: laid · DigestBack: laid · DigestSorts: laid · DigestPieces: laid · DigestNobody: laid.
  DERIVED. THE GIVEN ROWS OF THIS SEAT. 9 by the template 'for every input the law returns true; each argument reads behind the call as it read before'; 0 by the template 'total and deterministic' (their statements: YtkgkllpecpcgjaaDoorTotals.lean).
  GIVEN WITH THE SEED: the statements are not yours to turn. If you find one false, say at which input.
  Laid BY PROGRAM, IN A SANDBOX (cutbox-rows.mjs): the forced cells as the released guide's own fill.sh prints them over the translation 56f04ad17c3e651c… (all of the seat's roots in one cut). By AI agents, Wed Nov 11 2026. No macro, syntax, notation, axiom, sorry.
-/
import Derived.Test.YtkgkllpecpcgjaaDoorChecked
import GoSem.Claim
import GoSem.ClaimJoined
import GoSem.ClaimMapViews
import Derived.JoinedTies
import Derived.KernelRfl
namespace Go.Proofs.YtkgkllpecpcgjaaDoor
/- THE CELL 'sum', in the pinned program and in every row, IS THE sha256 OF THE DUMP (.gsa) THAT YtkgkllpecpcgjaaDoorProg.lean LOADS. Nothing in Lean hashes anything: it is a label: what it is worth is what the hold of that sum in a sandbox is worth. -/
noncomputable def Tryd.pinned : Pinned := { name := "ytkgkllpecpcgjaadoor", sum := "56f04ad17c3e651cd50fb59fcba12f2bd796d223ecee2a216302b6fb1d24008b", checked := Tryd.checked }
namespace Rows
def none {H : Type} : Left H := { results := [], args := [] }

/- WHAT THE LISTED PACKAGE-LEVEL VARIABLES READ AS WHEN THE CALL BEGINS. Each datum BY PROGRAM (the guide's laid-datum.mjs) off the statement by which the dump's own 'gosem.cut.vars' lays the variable. In a bare row this is a premise. The card (YtkgkllpecpcgjaaDoorCards.lean) ties it to the program's text. -/
def laid_recension_digest_k {H : Type} : DataW H := .agg [.lit (.int .u32 1116352408), .lit (.int .u32 1899447441), .lit (.int .u32 3049323471), .lit (.int .u32 3921009573), .lit (.int .u32 961987163), .lit (.int .u32 1508970993), .lit (.int .u32 2453635748), .lit (.int .u32 2870763221), .lit (.int .u32 3624381080), .lit (.int .u32 310598401), .lit (.int .u32 607225278), .lit (.int .u32 1426881987), .lit (.int .u32 1925078388), .lit (.int .u32 2162078206), .lit (.int .u32 2614888103), .lit (.int .u32 3248222580), .lit (.int .u32 3835390401), .lit (.int .u32 4022224774), .lit (.int .u32 264347078), .lit (.int .u32 604807628), .lit (.int .u32 770255983), .lit (.int .u32 1249150122), .lit (.int .u32 1555081692), .lit (.int .u32 1996064986), .lit (.int .u32 2554220882), .lit (.int .u32 2821834349), .lit (.int .u32 2952996808), .lit (.int .u32 3210313671), .lit (.int .u32 3336571891), .lit (.int .u32 3584528711), .lit (.int .u32 113926993), .lit (.int .u32 338241895), .lit (.int .u32 666307205), .lit (.int .u32 773529912), .lit (.int .u32 1294757372), .lit (.int .u32 1396182291), .lit (.int .u32 1695183700), .lit (.int .u32 1986661051), .lit (.int .u32 2177026350), .lit (.int .u32 2456956037), .lit (.int .u32 2730485921), .lit (.int .u32 2820302411), .lit (.int .u32 3259730800), .lit (.int .u32 3345764771), .lit (.int .u32 3516065817), .lit (.int .u32 3600352804), .lit (.int .u32 4094571909), .lit (.int .u32 275423344), .lit (.int .u32 430227734), .lit (.int .u32 506948616), .lit (.int .u32 659060556), .lit (.int .u32 883997877), .lit (.int .u32 958139571), .lit (.int .u32 1322822218), .lit (.int .u32 1537002063), .lit (.int .u32 1747873779), .lit (.int .u32 1955562222), .lit (.int .u32 2024104815), .lit (.int .u32 2227730452), .lit (.int .u32 2361852424), .lit (.int .u32 2428436474), .lit (.int .u32 2756734187), .lit (.int .u32 3204031479), .lit (.int .u32 3329325298)]

/-- 'recensionlaw03.DigestSums': WHATEVER THE INPUT: true; the input reads as it did. -/
def digestSumsSpec : ChangeSpec := { name := "digestSums", fn := fun _ => fun
  | [d] => { results := [.lit (.bool true)], args := [d] }
  | _ => none }
def digestSumsRow : OpenClaim := { program := "ytkgkllpecpcgjaadoor", sum := "56f04ad17c3e651cd50fb59fcba12f2bd796d223ecee2a216302b6fb1d24008b", func := "recension/recensionlaw03.DigestSums", spec := "digestSums", named := ["recension/digest.k"], apart := false, laid := [("recension/digest.k", laid_recension_digest_k)] }
def DigestSumsSaid : Prop := digestSumsRow.holds Tryd.pinned (OpenSpec.ofChange digestSumsSpec)

/-- ITS FALSE NEIGHBOUR: 'it returns false'. Refute it at one input. -/
def digestSumsWrong : ChangeSpec := { name := "digestSums", fn := fun _ => fun
  | [d] => { results := [.lit (.bool false)], args := [d] }
  | _ => none }
def DigestSumsWrongFalsely : Prop := digestSumsRow.holds Tryd.pinned (OpenSpec.ofChange digestSumsWrong)

/-- 'recensionlaw03.DigestKnown': WHATEVER THE INPUT: true; the input reads as it did. -/
def digestKnownSpec : ChangeSpec := { name := "digestKnown", fn := fun _ => fun
  | [] => { results := [.lit (.bool true)], args := [] }
  | _ => none }
def digestKnownRow : OpenClaim := { program := "ytkgkllpecpcgjaadoor", sum := "56f04ad17c3e651cd50fb59fcba12f2bd796d223ecee2a216302b6fb1d24008b", func := "recension/recensionlaw03.DigestKnown", spec := "digestKnown", named := ["recension/digest.k"], apart := false, laid := [("recension/digest.k", laid_recension_digest_k)] }
def DigestKnownSaid : Prop := digestKnownRow.holds Tryd.pinned (OpenSpec.ofChange digestKnownSpec)

/-- ITS FALSE NEIGHBOUR: 'it returns false'. Refute it at one input. -/
def digestKnownWrong : ChangeSpec := { name := "digestKnown", fn := fun _ => fun
  | [] => { results := [.lit (.bool false)], args := [] }
  | _ => none }
def DigestKnownWrongFalsely : Prop := digestKnownRow.holds Tryd.pinned (OpenSpec.ofChange digestKnownWrong)

/-- 'recensionlaw03.DigestHexes': WHATEVER THE INPUT: true; the input reads as it did. -/
def digestHexesSpec : ChangeSpec := { name := "digestHexes", fn := fun _ => fun
  | [d1, d2] => { results := [.lit (.bool true)], args := [d1, d2] }
  | _ => none }
def digestHexesRow : OpenClaim := { program := "ytkgkllpecpcgjaadoor", sum := "56f04ad17c3e651cd50fb59fcba12f2bd796d223ecee2a216302b6fb1d24008b", func := "recension/recensionlaw03.DigestHexes", spec := "digestHexes", inPlace := ["internal/bytealg.IndexByteString"], named := ["recension/digest.k"], apart := false, laid := [("recension/digest.k", laid_recension_digest_k)] }
def DigestHexesSaid : Prop := digestHexesRow.holds Tryd.pinned (OpenSpec.ofChange digestHexesSpec)

/-- ITS FALSE NEIGHBOUR: 'it returns false'. Refute it at one input. -/
def digestHexesWrong : ChangeSpec := { name := "digestHexes", fn := fun _ => fun
  | [d1, d2] => { results := [.lit (.bool false)], args := [d1, d2] }
  | _ => none }
def DigestHexesWrongFalsely : Prop := digestHexesRow.holds Tryd.pinned (OpenSpec.ofChange digestHexesWrong)

/-- 'recensionlaw03.DigestOrders': WHATEVER THE INPUT: true; the input reads as it did. -/
def digestOrdersSpec : ChangeSpec := { name := "digestOrders", fn := fun _ => fun
  | [d1, d2] => { results := [.lit (.bool true)], args := [d1, d2] }
  | _ => none }
def digestOrdersRow : OpenClaim := { program := "ytkgkllpecpcgjaadoor", sum := "56f04ad17c3e651cd50fb59fcba12f2bd796d223ecee2a216302b6fb1d24008b", func := "recension/recensionlaw03.DigestOrders", spec := "digestOrders", named := ["recension/digest.k"], apart := false, laid := [("recension/digest.k", laid_recension_digest_k)] }
def DigestOrdersSaid : Prop := digestOrdersRow.holds Tryd.pinned (OpenSpec.ofChange digestOrdersSpec)

/-- ITS FALSE NEIGHBOUR: 'it returns false'. Refute it at one input. -/
def digestOrdersWrong : ChangeSpec := { name := "digestOrders", fn := fun _ => fun
  | [d1, d2] => { results := [.lit (.bool false)], args := [d1, d2] }
  | _ => none }
def DigestOrdersWrongFalsely : Prop := digestOrdersRow.holds Tryd.pinned (OpenSpec.ofChange digestOrdersWrong)

/-- 'recensionlaw03.DigestPlays': WHATEVER THE INPUT: true; the input reads as it did. -/
def digestPlaysSpec : ChangeSpec := { name := "digestPlays", fn := fun _ => fun
  | [d] => { results := [.lit (.bool true)], args := [d] }
  | _ => none }
def digestPlaysRow : OpenClaim := { program := "ytkgkllpecpcgjaadoor", sum := "56f04ad17c3e651cd50fb59fcba12f2bd796d223ecee2a216302b6fb1d24008b", func := "recension/recensionlaw03.DigestPlays", spec := "digestPlays", named := ["recension/digest.k"], apart := false, laid := [("recension/digest.k", laid_recension_digest_k)] }
def DigestPlaysSaid : Prop := digestPlaysRow.holds Tryd.pinned (OpenSpec.ofChange digestPlaysSpec)

/-- ITS FALSE NEIGHBOUR: 'it returns false'. Refute it at one input. -/
def digestPlaysWrong : ChangeSpec := { name := "digestPlays", fn := fun _ => fun
  | [d] => { results := [.lit (.bool false)], args := [d] }
  | _ => none }
def DigestPlaysWrongFalsely : Prop := digestPlaysRow.holds Tryd.pinned (OpenSpec.ofChange digestPlaysWrong)

/-- 'recensionlaw03.DigestBack': WHATEVER THE INPUT: true; the input reads as it did. -/
def digestBackSpec : ChangeSpec := { name := "digestBack", fn := fun _ => fun
  | [d1, d2] => { results := [.lit (.bool true)], args := [d1, d2] }
  | _ => none }
def digestBackRow : OpenClaim := { program := "ytkgkllpecpcgjaadoor", sum := "56f04ad17c3e651cd50fb59fcba12f2bd796d223ecee2a216302b6fb1d24008b", func := "recension/recensionlaw03.DigestBack", spec := "digestBack", inPlace := ["internal/bytealg.IndexByteString"], named := ["recension/digest.k"], apart := false, laid := [("recension/digest.k", laid_recension_digest_k)] }
def DigestBackSaid : Prop := digestBackRow.holds Tryd.pinned (OpenSpec.ofChange digestBackSpec)

/-- ITS FALSE NEIGHBOUR: 'it returns false'. Refute it at one input. -/
def digestBackWrong : ChangeSpec := { name := "digestBack", fn := fun _ => fun
  | [d1, d2] => { results := [.lit (.bool false)], args := [d1, d2] }
  | _ => none }
def DigestBackWrongFalsely : Prop := digestBackRow.holds Tryd.pinned (OpenSpec.ofChange digestBackWrong)

/-- 'recensionlaw03.DigestSorts': WHATEVER THE INPUT: true; the input reads as it did. -/
def digestSortsSpec : ChangeSpec := { name := "digestSorts", fn := fun _ => fun
  | [d1, d2, d3] => { results := [.lit (.bool true)], args := [d1, d2, d3] }
  | _ => none }
def digestSortsRow : OpenClaim := { program := "ytkgkllpecpcgjaadoor", sum := "56f04ad17c3e651cd50fb59fcba12f2bd796d223ecee2a216302b6fb1d24008b", func := "recension/recensionlaw03.DigestSorts", spec := "digestSorts", named := ["recension/digest.k"], apart := false, laid := [("recension/digest.k", laid_recension_digest_k)] }
def DigestSortsSaid : Prop := digestSortsRow.holds Tryd.pinned (OpenSpec.ofChange digestSortsSpec)

/-- ITS FALSE NEIGHBOUR: 'it returns false'. Refute it at one input. -/
def digestSortsWrong : ChangeSpec := { name := "digestSorts", fn := fun _ => fun
  | [d1, d2, d3] => { results := [.lit (.bool false)], args := [d1, d2, d3] }
  | _ => none }
def DigestSortsWrongFalsely : Prop := digestSortsRow.holds Tryd.pinned (OpenSpec.ofChange digestSortsWrong)

/-- 'recensionlaw03.DigestPieces': WHATEVER THE INPUT: true; the input reads as it did. -/
def digestPiecesSpec : ChangeSpec := { name := "digestPieces", fn := fun _ => fun
  | [d] => { results := [.lit (.bool true)], args := [d] }
  | _ => none }
def digestPiecesRow : OpenClaim := { program := "ytkgkllpecpcgjaadoor", sum := "56f04ad17c3e651cd50fb59fcba12f2bd796d223ecee2a216302b6fb1d24008b", func := "recension/recensionlaw03.DigestPieces", spec := "digestPieces", named := ["recension/digest.k"], apart := false, laid := [("recension/digest.k", laid_recension_digest_k)] }
def DigestPiecesSaid : Prop := digestPiecesRow.holds Tryd.pinned (OpenSpec.ofChange digestPiecesSpec)

/-- ITS FALSE NEIGHBOUR: 'it returns false'. Refute it at one input. -/
def digestPiecesWrong : ChangeSpec := { name := "digestPieces", fn := fun _ => fun
  | [d] => { results := [.lit (.bool false)], args := [d] }
  | _ => none }
def DigestPiecesWrongFalsely : Prop := digestPiecesRow.holds Tryd.pinned (OpenSpec.ofChange digestPiecesWrong)

/-- 'recensionlaw03.DigestNobody': WHATEVER THE INPUT: true; the input reads as it did. -/
def digestNobodySpec : ChangeSpec := { name := "digestNobody", fn := fun _ => fun
  | [d] => { results := [.lit (.bool true)], args := [d] }
  | _ => none }
def digestNobodyRow : OpenClaim := { program := "ytkgkllpecpcgjaadoor", sum := "56f04ad17c3e651cd50fb59fcba12f2bd796d223ecee2a216302b6fb1d24008b", func := "recension/recensionlaw03.DigestNobody", spec := "digestNobody", named := ["recension/digest.k"], apart := false, laid := [("recension/digest.k", laid_recension_digest_k)] }
def DigestNobodySaid : Prop := digestNobodyRow.holds Tryd.pinned (OpenSpec.ofChange digestNobodySpec)

/-- ITS FALSE NEIGHBOUR: 'it returns false'. Refute it at one input. -/
def digestNobodyWrong : ChangeSpec := { name := "digestNobody", fn := fun _ => fun
  | [d] => { results := [.lit (.bool false)], args := [d] }
  | _ => none }
def DigestNobodyWrongFalsely : Prop := digestNobodyRow.holds Tryd.pinned (OpenSpec.ofChange digestNobodyWrong)

/- THE SECOND FORM. 'bulk': how many values and letters a reading holds, each counted each time it is reached (what is shared counts as often as it is met; a slice's spare places count too). A statement '..UptoSaid' is the law's where the arguments, and the package variables that the reading takes, are together of bulk at most 1048576: NARROWER than '..Said'. Prove '..Said' where nothing that the law and all that it calls make is longer than what came in: it says more and counts as full. Else prove '..UptoSaid'. A law counts once. -/
mutual
def uptoBulk {H : Type} : DataW H → Nat
  | .lit (.string bytes) => bytes.length + 1
  | .lit _ => 1
  | .nil => 1
  | .ptr d => uptoBulk d + 1
  | .slice elems spare => uptoBulkAll elems + uptoBulkAll spare + 1
  | .agg parts => uptoBulkAll parts + 1
  | .iface _ d => uptoBulk d + 1
  | .map entries => uptoBulkEntries entries + 1
  | .held _ => 1
def uptoBulkAll {H : Type} : List (DataW H) → Nat
  | [] => 0
  | d :: r => uptoBulk d + uptoBulkAll r
def uptoBulkEntries {H : Type} : List (Lit × DataW H) → Nat
  | [] => 0
  | x :: r => uptoBulkEntry x + uptoBulkEntries r
def uptoBulkEntry {H : Type} : Lit × DataW H → Nat
  | (.string bytes, d) => bytes.length + uptoBulk d + 1
  | (_, d) => uptoBulk d + 1
 end
def uptoSmall : (H : Type) → List (DataW H) → Bool := fun _ ds => decide (uptoBulkAll ds ≤ 1048576)
def OpenSpec.upto (s : _root_.Go.ChangeSpec) : _root_.Go.OpenSpec := { _root_.Go.OpenSpec.ofChange s with cond := some uptoSmall }

/-- 'recensionlaw03.DigestSums', WHERE WHAT IT READS IS OF BULK AT MOST 1048576: true; the input reads as it did. -/
def digestSumsUptoRow : OpenClaim := { program := "ytkgkllpecpcgjaadoor", sum := "56f04ad17c3e651cd50fb59fcba12f2bd796d223ecee2a216302b6fb1d24008b", func := "recension/recensionlaw03.DigestSums", spec := "digestSums", named := ["recension/digest.k"], apart := false, laid := [("recension/digest.k", laid_recension_digest_k)], narrowed := true }
def DigestSumsUptoSaid : Prop := digestSumsUptoRow.holds Tryd.pinned (OpenSpec.upto digestSumsSpec)

/-- 'recensionlaw03.DigestKnown', WHERE WHAT IT READS IS OF BULK AT MOST 1048576: true; the input reads as it did. -/
def digestKnownUptoRow : OpenClaim := { program := "ytkgkllpecpcgjaadoor", sum := "56f04ad17c3e651cd50fb59fcba12f2bd796d223ecee2a216302b6fb1d24008b", func := "recension/recensionlaw03.DigestKnown", spec := "digestKnown", named := ["recension/digest.k"], apart := false, laid := [("recension/digest.k", laid_recension_digest_k)], narrowed := true }
def DigestKnownUptoSaid : Prop := digestKnownUptoRow.holds Tryd.pinned (OpenSpec.upto digestKnownSpec)

/-- 'recensionlaw03.DigestHexes', WHERE WHAT IT READS IS OF BULK AT MOST 1048576: true; the input reads as it did. -/
def digestHexesUptoRow : OpenClaim := { program := "ytkgkllpecpcgjaadoor", sum := "56f04ad17c3e651cd50fb59fcba12f2bd796d223ecee2a216302b6fb1d24008b", func := "recension/recensionlaw03.DigestHexes", spec := "digestHexes", inPlace := ["internal/bytealg.IndexByteString"], named := ["recension/digest.k"], apart := false, laid := [("recension/digest.k", laid_recension_digest_k)], narrowed := true }
def DigestHexesUptoSaid : Prop := digestHexesUptoRow.holds Tryd.pinned (OpenSpec.upto digestHexesSpec)

/-- 'recensionlaw03.DigestOrders', WHERE WHAT IT READS IS OF BULK AT MOST 1048576: true; the input reads as it did. -/
def digestOrdersUptoRow : OpenClaim := { program := "ytkgkllpecpcgjaadoor", sum := "56f04ad17c3e651cd50fb59fcba12f2bd796d223ecee2a216302b6fb1d24008b", func := "recension/recensionlaw03.DigestOrders", spec := "digestOrders", named := ["recension/digest.k"], apart := false, laid := [("recension/digest.k", laid_recension_digest_k)], narrowed := true }
def DigestOrdersUptoSaid : Prop := digestOrdersUptoRow.holds Tryd.pinned (OpenSpec.upto digestOrdersSpec)

/-- 'recensionlaw03.DigestPlays', WHERE WHAT IT READS IS OF BULK AT MOST 1048576: true; the input reads as it did. -/
def digestPlaysUptoRow : OpenClaim := { program := "ytkgkllpecpcgjaadoor", sum := "56f04ad17c3e651cd50fb59fcba12f2bd796d223ecee2a216302b6fb1d24008b", func := "recension/recensionlaw03.DigestPlays", spec := "digestPlays", named := ["recension/digest.k"], apart := false, laid := [("recension/digest.k", laid_recension_digest_k)], narrowed := true }
def DigestPlaysUptoSaid : Prop := digestPlaysUptoRow.holds Tryd.pinned (OpenSpec.upto digestPlaysSpec)

/-- 'recensionlaw03.DigestBack', WHERE WHAT IT READS IS OF BULK AT MOST 1048576: true; the input reads as it did. -/
def digestBackUptoRow : OpenClaim := { program := "ytkgkllpecpcgjaadoor", sum := "56f04ad17c3e651cd50fb59fcba12f2bd796d223ecee2a216302b6fb1d24008b", func := "recension/recensionlaw03.DigestBack", spec := "digestBack", inPlace := ["internal/bytealg.IndexByteString"], named := ["recension/digest.k"], apart := false, laid := [("recension/digest.k", laid_recension_digest_k)], narrowed := true }
def DigestBackUptoSaid : Prop := digestBackUptoRow.holds Tryd.pinned (OpenSpec.upto digestBackSpec)

/-- 'recensionlaw03.DigestSorts', WHERE WHAT IT READS IS OF BULK AT MOST 1048576: true; the input reads as it did. -/
def digestSortsUptoRow : OpenClaim := { program := "ytkgkllpecpcgjaadoor", sum := "56f04ad17c3e651cd50fb59fcba12f2bd796d223ecee2a216302b6fb1d24008b", func := "recension/recensionlaw03.DigestSorts", spec := "digestSorts", named := ["recension/digest.k"], apart := false, laid := [("recension/digest.k", laid_recension_digest_k)], narrowed := true }
def DigestSortsUptoSaid : Prop := digestSortsUptoRow.holds Tryd.pinned (OpenSpec.upto digestSortsSpec)

/-- 'recensionlaw03.DigestPieces', WHERE WHAT IT READS IS OF BULK AT MOST 1048576: true; the input reads as it did. -/
def digestPiecesUptoRow : OpenClaim := { program := "ytkgkllpecpcgjaadoor", sum := "56f04ad17c3e651cd50fb59fcba12f2bd796d223ecee2a216302b6fb1d24008b", func := "recension/recensionlaw03.DigestPieces", spec := "digestPieces", named := ["recension/digest.k"], apart := false, laid := [("recension/digest.k", laid_recension_digest_k)], narrowed := true }
def DigestPiecesUptoSaid : Prop := digestPiecesUptoRow.holds Tryd.pinned (OpenSpec.upto digestPiecesSpec)

/-- 'recensionlaw03.DigestNobody', WHERE WHAT IT READS IS OF BULK AT MOST 1048576: true; the input reads as it did. -/
def digestNobodyUptoRow : OpenClaim := { program := "ytkgkllpecpcgjaadoor", sum := "56f04ad17c3e651cd50fb59fcba12f2bd796d223ecee2a216302b6fb1d24008b", func := "recension/recensionlaw03.DigestNobody", spec := "digestNobody", named := ["recension/digest.k"], apart := false, laid := [("recension/digest.k", laid_recension_digest_k)], narrowed := true }
def DigestNobodyUptoSaid : Prop := digestNobodyUptoRow.holds Tryd.pinned (OpenSpec.upto digestNobodySpec)

end Rows
end Go.Proofs.YtkgkllpecpcgjaaDoor

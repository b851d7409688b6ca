/-
  NARROWER THAN 'FOR EVERY INPUT', by the rows' own cells (each row's printed sentence says how): FormsChecks: laid · FormsNames: laid · FormsUses: laid · FormsBack: laid · FormsUnlike: laid · FormsStrict: laid.
  DERIVED. THE GIVEN ROWS OF THIS SEAT. 6 by the template 'for every input the law returns true; each argument reads behind the call as it read before'; 0 by the template 'total and deterministic' (their statements: YtdgejingoamfeaaDoorTotals.lean).
  GIVEN WITH THE SEED: the statements are not yours to turn. If you find one false, say at which input.
  Laid BY PROGRAM, IN A SANDBOX (cutbox-rows.mjs): the forced cells as the released guide's own fill.sh prints them over the translation 1bd9ddc85b8e2582… (all of the seat's roots in one cut). By AI agents, Wed Nov 11 2026. No macro, syntax, notation, axiom, sorry.
-/
import Derived.Test.YtdgejingoamfeaaDoorChecked
import GoSem.Claim
import GoSem.ClaimJoined
import GoSem.ClaimMapViews
import Derived.JoinedTies
import Derived.KernelRfl
namespace Go.Proofs.YtdgejingoamfeaaDoor
/- THE CELL 'sum', in the pinned program and in every row, IS THE sha256 OF THE DUMP (.gsa) THAT YtdgejingoamfeaaDoorProg.lean LOADS. Nothing in Lean hashes anything: it is a label: what it is worth is what the hold of that sum in a sandbox is worth. -/
noncomputable def Tryd.pinned : Pinned := { name := "ytdgejingoamfeaadoor", sum := "1bd9ddc85b8e25827229af7377dc2d563041b18bb125a03862b6d570694f4702", checked := Tryd.checked }
namespace Rows
def none {H : Type} : Left H := { results := [], args := [] }

/- WHAT THE LISTED PACKAGE-LEVEL VARIABLES READ AS WHEN THE CALL BEGINS. Each datum BY PROGRAM (the guide's laid-datum.mjs) off the statement by which the dump's own 'gosem.cut.vars' lays the variable. In a bare row this is a premise. The card (YtdgejingoamfeaaDoorCards.lean) ties it to the program's text. -/
def laid_math_bits_deBruijn32tab {H : Type} : DataW H := .agg [.lit (.int .u8 0), .lit (.int .u8 1), .lit (.int .u8 28), .lit (.int .u8 2), .lit (.int .u8 29), .lit (.int .u8 14), .lit (.int .u8 24), .lit (.int .u8 3), .lit (.int .u8 30), .lit (.int .u8 22), .lit (.int .u8 20), .lit (.int .u8 15), .lit (.int .u8 25), .lit (.int .u8 17), .lit (.int .u8 4), .lit (.int .u8 8), .lit (.int .u8 31), .lit (.int .u8 27), .lit (.int .u8 13), .lit (.int .u8 23), .lit (.int .u8 21), .lit (.int .u8 19), .lit (.int .u8 16), .lit (.int .u8 7), .lit (.int .u8 26), .lit (.int .u8 12), .lit (.int .u8 18), .lit (.int .u8 6), .lit (.int .u8 11), .lit (.int .u8 5), .lit (.int .u8 10), .lit (.int .u8 9)]
def laid_math_bits_deBruijn64tab {H : Type} : DataW H := .agg [.lit (.int .u8 0), .lit (.int .u8 1), .lit (.int .u8 56), .lit (.int .u8 2), .lit (.int .u8 57), .lit (.int .u8 49), .lit (.int .u8 28), .lit (.int .u8 3), .lit (.int .u8 61), .lit (.int .u8 58), .lit (.int .u8 42), .lit (.int .u8 50), .lit (.int .u8 38), .lit (.int .u8 29), .lit (.int .u8 17), .lit (.int .u8 4), .lit (.int .u8 62), .lit (.int .u8 47), .lit (.int .u8 59), .lit (.int .u8 36), .lit (.int .u8 45), .lit (.int .u8 43), .lit (.int .u8 51), .lit (.int .u8 22), .lit (.int .u8 53), .lit (.int .u8 39), .lit (.int .u8 33), .lit (.int .u8 30), .lit (.int .u8 24), .lit (.int .u8 18), .lit (.int .u8 12), .lit (.int .u8 5), .lit (.int .u8 63), .lit (.int .u8 55), .lit (.int .u8 48), .lit (.int .u8 27), .lit (.int .u8 60), .lit (.int .u8 41), .lit (.int .u8 37), .lit (.int .u8 16), .lit (.int .u8 46), .lit (.int .u8 35), .lit (.int .u8 44), .lit (.int .u8 21), .lit (.int .u8 52), .lit (.int .u8 32), .lit (.int .u8 23), .lit (.int .u8 11), .lit (.int .u8 54), .lit (.int .u8 26), .lit (.int .u8 40), .lit (.int .u8 15), .lit (.int .u8 34), .lit (.int .u8 20), .lit (.int .u8 31), .lit (.int .u8 10), .lit (.int .u8 25), .lit (.int .u8 14), .lit (.int .u8 19), .lit (.int .u8 9), .lit (.int .u8 13), .lit (.int .u8 8), .lit (.int .u8 7), .lit (.int .u8 6)]
def laid_internal_strconv_uint64pow10 {H : Type} : DataW H := .agg [.lit (.int .u64 1), .lit (.int .u64 10), .lit (.int .u64 100), .lit (.int .u64 1000), .lit (.int .u64 10000), .lit (.int .u64 100000), .lit (.int .u64 1000000), .lit (.int .u64 10000000), .lit (.int .u64 100000000), .lit (.int .u64 1000000000), .lit (.int .u64 10000000000), .lit (.int .u64 100000000000), .lit (.int .u64 1000000000000), .lit (.int .u64 10000000000000), .lit (.int .u64 100000000000000), .lit (.int .u64 1000000000000000), .lit (.int .u64 10000000000000000), .lit (.int .u64 100000000000000000), .lit (.int .u64 1000000000000000000), .lit (.int .u64 10000000000000000000)]
def laid_gangway_forms_widths {H : Type} : DataW H := .agg [.agg [.lit (.int .i64 8), .lit (.string [113])], .agg [.lit (.int .i64 4), .lit (.string [108])], .agg [.lit (.int .i64 1), .lit (.string [98])]]
def laid_gangway_forms_registers {H : Type} : DataW H := .agg [.agg [.lit (.string [114, 97, 120]), .lit (.string [101, 97, 120]), .lit (.string [97, 108])], .agg [.lit (.string [114, 99, 120]), .lit (.string [101, 99, 120]), .lit (.string [99, 108])], .agg [.lit (.string [114, 100, 120]), .lit (.string [101, 100, 120]), .lit (.string [100, 108])], .agg [.lit (.string [114, 98, 120]), .lit (.string [101, 98, 120]), .lit (.string [98, 108])], .agg [.lit (.string [114, 115, 112]), .lit (.string [101, 115, 112]), .lit (.string [115, 112, 108])], .agg [.lit (.string [114, 98, 112]), .lit (.string [101, 98, 112]), .lit (.string [98, 112, 108])], .agg [.lit (.string [114, 115, 105]), .lit (.string [101, 115, 105]), .lit (.string [115, 105, 108])], .agg [.lit (.string [114, 100, 105]), .lit (.string [101, 100, 105]), .lit (.string [100, 105, 108])], .agg [.lit (.string [114, 56]), .lit (.string [114, 56, 100]), .lit (.string [114, 56, 98])], .agg [.lit (.string [114, 57]), .lit (.string [114, 57, 100]), .lit (.string [114, 57, 98])], .agg [.lit (.string [114, 49, 48]), .lit (.string [114, 49, 48, 100]), .lit (.string [114, 49, 48, 98])], .agg [.lit (.string [114, 49, 49]), .lit (.string [114, 49, 49, 100]), .lit (.string [114, 49, 49, 98])], .agg [.lit (.string [114, 49, 50]), .lit (.string [114, 49, 50, 100]), .lit (.string [114, 49, 50, 98])], .agg [.lit (.string [114, 49, 51]), .lit (.string [114, 49, 51, 100]), .lit (.string [114, 49, 51, 98])], .agg [.lit (.string [114, 49, 52]), .lit (.string [114, 49, 52, 100]), .lit (.string [114, 49, 52, 98])], .agg [.lit (.string [114, 49, 53]), .lit (.string [114, 49, 53, 100]), .lit (.string [114, 49, 53, 98])]]
def laid_gangway_forms_conditions {H : Type} : DataW H := .agg [.lit (.string [111]), .lit (.string [110, 111]), .lit (.string [98]), .lit (.string [97, 101]), .lit (.string [101]), .lit (.string [110, 101]), .lit (.string [98, 101]), .lit (.string [97]), .lit (.string [115]), .lit (.string [110, 115]), .lit (.string [112]), .lit (.string [110, 112]), .lit (.string [108]), .lit (.string [103, 101]), .lit (.string [108, 101]), .lit (.string [103])]
def laid_gangway_forms_modTexts {H : Type} : DataW H := .agg [.lit (.string []), .lit (.string [64, 112, 108, 116]), .lit (.string [64, 103, 111, 116, 112, 99, 114, 101, 108]), .lit (.string [64, 103, 111, 116, 116, 112, 111, 102, 102]), .lit (.string [64, 116, 112, 111, 102, 102]), .lit (.string [64, 100, 116, 112, 111, 102, 102])]

/-- 'gangwaylaw03.FormsChecks': WHATEVER THE INPUT: true; the input reads as it did. -/
def formsChecksSpec : ChangeSpec := { name := "formsChecks", fn := fun _ => fun
  | [d] => { results := [.lit (.bool true)], args := [d] }
  | _ => none }
def formsChecksRow : OpenClaim := { program := "ytdgejingoamfeaadoor", sum := "1bd9ddc85b8e25827229af7377dc2d563041b18bb125a03862b6d570694f4702", func := "gangway/gangwaylaw03.FormsChecks", spec := "formsChecks", inPlace := ["internal/bytealg.IndexByteString"], unfollowed := true, recurses := true, named := ["gangway/forms.widths", "gangway/forms.conditions", "gangway/forms.registers", "internal/strconv.uint64pow10", "math/bits.deBruijn32tab", "math/bits.deBruijn64tab", "gangway/forms.modTexts"], apart := false, laid := [("math/bits.deBruijn32tab", laid_math_bits_deBruijn32tab), ("math/bits.deBruijn64tab", laid_math_bits_deBruijn64tab), ("internal/strconv.uint64pow10", laid_internal_strconv_uint64pow10), ("gangway/forms.widths", laid_gangway_forms_widths), ("gangway/forms.registers", laid_gangway_forms_registers), ("gangway/forms.conditions", laid_gangway_forms_conditions), ("gangway/forms.modTexts", laid_gangway_forms_modTexts)] }
def FormsChecksSaid : Prop := formsChecksRow.holds Tryd.pinned (OpenSpec.ofChange formsChecksSpec)

/-- ITS FALSE NEIGHBOUR: 'it returns false'. Refute it at one input. -/
def formsChecksWrong : ChangeSpec := { name := "formsChecks", fn := fun _ => fun
  | [d] => { results := [.lit (.bool false)], args := [d] }
  | _ => none }
def FormsChecksWrongFalsely : Prop := formsChecksRow.holds Tryd.pinned (OpenSpec.ofChange formsChecksWrong)

/-- 'gangwaylaw03.FormsNames': WHATEVER THE INPUT: true; the input reads as it did. -/
def formsNamesSpec : ChangeSpec := { name := "formsNames", fn := fun _ => fun
  | [d1, d2, d3, d4] => { results := [.lit (.bool true)], args := [d1, d2, d3, d4] }
  | _ => none }
def formsNamesRow : OpenClaim := { program := "ytdgejingoamfeaadoor", sum := "1bd9ddc85b8e25827229af7377dc2d563041b18bb125a03862b6d570694f4702", func := "gangway/gangwaylaw03.FormsNames", spec := "formsNames", inPlace := ["internal/bytealg.IndexByteString"], unfollowed := true, recurses := true, named := ["gangway/forms.widths", "gangway/forms.conditions", "gangway/forms.registers", "internal/strconv.uint64pow10", "math/bits.deBruijn32tab", "math/bits.deBruijn64tab", "gangway/forms.modTexts"], apart := false, laid := [("math/bits.deBruijn32tab", laid_math_bits_deBruijn32tab), ("math/bits.deBruijn64tab", laid_math_bits_deBruijn64tab), ("internal/strconv.uint64pow10", laid_internal_strconv_uint64pow10), ("gangway/forms.widths", laid_gangway_forms_widths), ("gangway/forms.registers", laid_gangway_forms_registers), ("gangway/forms.conditions", laid_gangway_forms_conditions), ("gangway/forms.modTexts", laid_gangway_forms_modTexts)] }
def FormsNamesSaid : Prop := formsNamesRow.holds Tryd.pinned (OpenSpec.ofChange formsNamesSpec)

/-- ITS FALSE NEIGHBOUR: 'it returns false'. Refute it at one input. -/
def formsNamesWrong : ChangeSpec := { name := "formsNames", fn := fun _ => fun
  | [d1, d2, d3, d4] => { results := [.lit (.bool false)], args := [d1, d2, d3, d4] }
  | _ => none }
def FormsNamesWrongFalsely : Prop := formsNamesRow.holds Tryd.pinned (OpenSpec.ofChange formsNamesWrong)

/-- 'gangwaylaw03.FormsUses': WHATEVER THE INPUT: true; the input reads as it did. -/
def formsUsesSpec : ChangeSpec := { name := "formsUses", fn := fun _ => fun
  | [d] => { results := [.lit (.bool true)], args := [d] }
  | _ => none }
def formsUsesRow : OpenClaim := { program := "ytdgejingoamfeaadoor", sum := "1bd9ddc85b8e25827229af7377dc2d563041b18bb125a03862b6d570694f4702", func := "gangway/gangwaylaw03.FormsUses", spec := "formsUses", inPlace := ["internal/bytealg.IndexByteString"], unfollowed := true, recurses := true, named := ["gangway/forms.widths", "gangway/forms.conditions", "gangway/forms.registers", "internal/strconv.uint64pow10", "math/bits.deBruijn32tab", "math/bits.deBruijn64tab", "gangway/forms.modTexts"], apart := false, laid := [("math/bits.deBruijn32tab", laid_math_bits_deBruijn32tab), ("math/bits.deBruijn64tab", laid_math_bits_deBruijn64tab), ("internal/strconv.uint64pow10", laid_internal_strconv_uint64pow10), ("gangway/forms.widths", laid_gangway_forms_widths), ("gangway/forms.registers", laid_gangway_forms_registers), ("gangway/forms.conditions", laid_gangway_forms_conditions), ("gangway/forms.modTexts", laid_gangway_forms_modTexts)] }
def FormsUsesSaid : Prop := formsUsesRow.holds Tryd.pinned (OpenSpec.ofChange formsUsesSpec)

/-- ITS FALSE NEIGHBOUR: 'it returns false'. Refute it at one input. -/
def formsUsesWrong : ChangeSpec := { name := "formsUses", fn := fun _ => fun
  | [d] => { results := [.lit (.bool false)], args := [d] }
  | _ => none }
def FormsUsesWrongFalsely : Prop := formsUsesRow.holds Tryd.pinned (OpenSpec.ofChange formsUsesWrong)

/-- 'gangwaylaw03.FormsBack': WHATEVER THE INPUT: true; the input reads as it did. -/
def formsBackSpec : ChangeSpec := { name := "formsBack", fn := fun _ => fun
  | [d1, d2, d3, d4] => { results := [.lit (.bool true)], args := [d1, d2, d3, d4] }
  | _ => none }
def formsBackRow : OpenClaim := { program := "ytdgejingoamfeaadoor", sum := "1bd9ddc85b8e25827229af7377dc2d563041b18bb125a03862b6d570694f4702", func := "gangway/gangwaylaw03.FormsBack", spec := "formsBack", inPlace := ["internal/bytealg.IndexByteString"], unfollowed := true, recurses := true, named := ["gangway/forms.widths", "gangway/forms.conditions", "gangway/forms.registers", "internal/strconv.uint64pow10", "math/bits.deBruijn32tab", "math/bits.deBruijn64tab", "gangway/forms.modTexts"], apart := false, laid := [("math/bits.deBruijn32tab", laid_math_bits_deBruijn32tab), ("math/bits.deBruijn64tab", laid_math_bits_deBruijn64tab), ("internal/strconv.uint64pow10", laid_internal_strconv_uint64pow10), ("gangway/forms.widths", laid_gangway_forms_widths), ("gangway/forms.registers", laid_gangway_forms_registers), ("gangway/forms.conditions", laid_gangway_forms_conditions), ("gangway/forms.modTexts", laid_gangway_forms_modTexts)] }
def FormsBackSaid : Prop := formsBackRow.holds Tryd.pinned (OpenSpec.ofChange formsBackSpec)

/-- ITS FALSE NEIGHBOUR: 'it returns false'. Refute it at one input. -/
def formsBackWrong : ChangeSpec := { name := "formsBack", fn := fun _ => fun
  | [d1, d2, d3, d4] => { results := [.lit (.bool false)], args := [d1, d2, d3, d4] }
  | _ => none }
def FormsBackWrongFalsely : Prop := formsBackRow.holds Tryd.pinned (OpenSpec.ofChange formsBackWrong)

/-- 'gangwaylaw03.FormsUnlike': WHATEVER THE INPUT: true; the input reads as it did. -/
def formsUnlikeSpec : ChangeSpec := { name := "formsUnlike", fn := fun _ => fun
  | [d1, d2] => { results := [.lit (.bool true)], args := [d1, d2] }
  | _ => none }
def formsUnlikeRow : OpenClaim := { program := "ytdgejingoamfeaadoor", sum := "1bd9ddc85b8e25827229af7377dc2d563041b18bb125a03862b6d570694f4702", func := "gangway/gangwaylaw03.FormsUnlike", spec := "formsUnlike", inPlace := ["internal/bytealg.IndexByteString"], unfollowed := true, recurses := true, named := ["gangway/forms.widths", "gangway/forms.conditions", "gangway/forms.registers", "internal/strconv.uint64pow10", "math/bits.deBruijn32tab", "math/bits.deBruijn64tab", "gangway/forms.modTexts"], apart := false, laid := [("math/bits.deBruijn32tab", laid_math_bits_deBruijn32tab), ("math/bits.deBruijn64tab", laid_math_bits_deBruijn64tab), ("internal/strconv.uint64pow10", laid_internal_strconv_uint64pow10), ("gangway/forms.widths", laid_gangway_forms_widths), ("gangway/forms.registers", laid_gangway_forms_registers), ("gangway/forms.conditions", laid_gangway_forms_conditions), ("gangway/forms.modTexts", laid_gangway_forms_modTexts)] }
def FormsUnlikeSaid : Prop := formsUnlikeRow.holds Tryd.pinned (OpenSpec.ofChange formsUnlikeSpec)

/-- ITS FALSE NEIGHBOUR: 'it returns false'. Refute it at one input. -/
def formsUnlikeWrong : ChangeSpec := { name := "formsUnlike", fn := fun _ => fun
  | [d1, d2] => { results := [.lit (.bool false)], args := [d1, d2] }
  | _ => none }
def FormsUnlikeWrongFalsely : Prop := formsUnlikeRow.holds Tryd.pinned (OpenSpec.ofChange formsUnlikeWrong)

/-- 'gangwaylaw03.FormsStrict': WHATEVER THE INPUT: true; the input reads as it did. -/
def formsStrictSpec : ChangeSpec := { name := "formsStrict", fn := fun _ => fun
  | [d1, d2, d3] => { results := [.lit (.bool true)], args := [d1, d2, d3] }
  | _ => none }
def formsStrictRow : OpenClaim := { program := "ytdgejingoamfeaadoor", sum := "1bd9ddc85b8e25827229af7377dc2d563041b18bb125a03862b6d570694f4702", func := "gangway/gangwaylaw03.FormsStrict", spec := "formsStrict", inPlace := ["internal/bytealg.IndexByteString"], unfollowed := true, recurses := true, named := ["gangway/forms.widths", "gangway/forms.conditions", "gangway/forms.registers", "internal/strconv.uint64pow10", "math/bits.deBruijn32tab", "math/bits.deBruijn64tab", "gangway/forms.modTexts"], apart := false, laid := [("math/bits.deBruijn32tab", laid_math_bits_deBruijn32tab), ("math/bits.deBruijn64tab", laid_math_bits_deBruijn64tab), ("internal/strconv.uint64pow10", laid_internal_strconv_uint64pow10), ("gangway/forms.widths", laid_gangway_forms_widths), ("gangway/forms.registers", laid_gangway_forms_registers), ("gangway/forms.conditions", laid_gangway_forms_conditions), ("gangway/forms.modTexts", laid_gangway_forms_modTexts)] }
def FormsStrictSaid : Prop := formsStrictRow.holds Tryd.pinned (OpenSpec.ofChange formsStrictSpec)

/-- ITS FALSE NEIGHBOUR: 'it returns false'. Refute it at one input. -/
def formsStrictWrong : ChangeSpec := { name := "formsStrict", fn := fun _ => fun
  | [d1, d2, d3] => { results := [.lit (.bool false)], args := [d1, d2, d3] }
  | _ => none }
def FormsStrictWrongFalsely : Prop := formsStrictRow.holds Tryd.pinned (OpenSpec.ofChange formsStrictWrong)

/- THE SECOND FORM. 'bulk': how many values and letters a reading holds, each counted each time it is reached (what is shared counts as often as it is met; a slice's spare places count too). A statement '..UptoSaid' is the law's where the arguments, and the package variables that the reading takes, are together of bulk at most 1048576: NARROWER than '..Said'. Prove '..Said' where nothing that the law and all that it calls make is longer than what came in: it says more and counts as full. Else prove '..UptoSaid'. A law counts once. -/
mutual
def uptoBulk {H : Type} : DataW H → Nat
  | .lit (.string bytes) => bytes.length + 1
  | .lit _ => 1
  | .nil => 1
  | .ptr d => uptoBulk d + 1
  | .slice elems spare => uptoBulkAll elems + uptoBulkAll spare + 1
  | .agg parts => uptoBulkAll parts + 1
  | .iface _ d => uptoBulk d + 1
  | .map entries => uptoBulkEntries entries + 1
  | .held _ => 1
def uptoBulkAll {H : Type} : List (DataW H) → Nat
  | [] => 0
  | d :: r => uptoBulk d + uptoBulkAll r
def uptoBulkEntries {H : Type} : List (Lit × DataW H) → Nat
  | [] => 0
  | x :: r => uptoBulkEntry x + uptoBulkEntries r
def uptoBulkEntry {H : Type} : Lit × DataW H → Nat
  | (.string bytes, d) => bytes.length + uptoBulk d + 1
  | (_, d) => uptoBulk d + 1
 end
def uptoSmall : (H : Type) → List (DataW H) → Bool := fun _ ds => decide (uptoBulkAll ds ≤ 1048576)
def OpenSpec.upto (s : _root_.Go.ChangeSpec) : _root_.Go.OpenSpec := { _root_.Go.OpenSpec.ofChange s with cond := some uptoSmall }

/-- 'gangwaylaw03.FormsChecks', WHERE WHAT IT READS IS OF BULK AT MOST 1048576: true; the input reads as it did. -/
def formsChecksUptoRow : OpenClaim := { program := "ytdgejingoamfeaadoor", sum := "1bd9ddc85b8e25827229af7377dc2d563041b18bb125a03862b6d570694f4702", func := "gangway/gangwaylaw03.FormsChecks", spec := "formsChecks", inPlace := ["internal/bytealg.IndexByteString"], unfollowed := true, recurses := true, named := ["gangway/forms.widths", "gangway/forms.conditions", "gangway/forms.registers", "internal/strconv.uint64pow10", "math/bits.deBruijn32tab", "math/bits.deBruijn64tab", "gangway/forms.modTexts"], apart := false, laid := [("math/bits.deBruijn32tab", laid_math_bits_deBruijn32tab), ("math/bits.deBruijn64tab", laid_math_bits_deBruijn64tab), ("internal/strconv.uint64pow10", laid_internal_strconv_uint64pow10), ("gangway/forms.widths", laid_gangway_forms_widths), ("gangway/forms.registers", laid_gangway_forms_registers), ("gangway/forms.conditions", laid_gangway_forms_conditions), ("gangway/forms.modTexts", laid_gangway_forms_modTexts)], narrowed := true }
def FormsChecksUptoSaid : Prop := formsChecksUptoRow.holds Tryd.pinned (OpenSpec.upto formsChecksSpec)

/-- 'gangwaylaw03.FormsNames', WHERE WHAT IT READS IS OF BULK AT MOST 1048576: true; the input reads as it did. -/
def formsNamesUptoRow : OpenClaim := { program := "ytdgejingoamfeaadoor", sum := "1bd9ddc85b8e25827229af7377dc2d563041b18bb125a03862b6d570694f4702", func := "gangway/gangwaylaw03.FormsNames", spec := "formsNames", inPlace := ["internal/bytealg.IndexByteString"], unfollowed := true, recurses := true, named := ["gangway/forms.widths", "gangway/forms.conditions", "gangway/forms.registers", "internal/strconv.uint64pow10", "math/bits.deBruijn32tab", "math/bits.deBruijn64tab", "gangway/forms.modTexts"], apart := false, laid := [("math/bits.deBruijn32tab", laid_math_bits_deBruijn32tab), ("math/bits.deBruijn64tab", laid_math_bits_deBruijn64tab), ("internal/strconv.uint64pow10", laid_internal_strconv_uint64pow10), ("gangway/forms.widths", laid_gangway_forms_widths), ("gangway/forms.registers", laid_gangway_forms_registers), ("gangway/forms.conditions", laid_gangway_forms_conditions), ("gangway/forms.modTexts", laid_gangway_forms_modTexts)], narrowed := true }
def FormsNamesUptoSaid : Prop := formsNamesUptoRow.holds Tryd.pinned (OpenSpec.upto formsNamesSpec)

/-- 'gangwaylaw03.FormsUses', WHERE WHAT IT READS IS OF BULK AT MOST 1048576: true; the input reads as it did. -/
def formsUsesUptoRow : OpenClaim := { program := "ytdgejingoamfeaadoor", sum := "1bd9ddc85b8e25827229af7377dc2d563041b18bb125a03862b6d570694f4702", func := "gangway/gangwaylaw03.FormsUses", spec := "formsUses", inPlace := ["internal/bytealg.IndexByteString"], unfollowed := true, recurses := true, named := ["gangway/forms.widths", "gangway/forms.conditions", "gangway/forms.registers", "internal/strconv.uint64pow10", "math/bits.deBruijn32tab", "math/bits.deBruijn64tab", "gangway/forms.modTexts"], apart := false, laid := [("math/bits.deBruijn32tab", laid_math_bits_deBruijn32tab), ("math/bits.deBruijn64tab", laid_math_bits_deBruijn64tab), ("internal/strconv.uint64pow10", laid_internal_strconv_uint64pow10), ("gangway/forms.widths", laid_gangway_forms_widths), ("gangway/forms.registers", laid_gangway_forms_registers), ("gangway/forms.conditions", laid_gangway_forms_conditions), ("gangway/forms.modTexts", laid_gangway_forms_modTexts)], narrowed := true }
def FormsUsesUptoSaid : Prop := formsUsesUptoRow.holds Tryd.pinned (OpenSpec.upto formsUsesSpec)

/-- 'gangwaylaw03.FormsBack', WHERE WHAT IT READS IS OF BULK AT MOST 1048576: true; the input reads as it did. -/
def formsBackUptoRow : OpenClaim := { program := "ytdgejingoamfeaadoor", sum := "1bd9ddc85b8e25827229af7377dc2d563041b18bb125a03862b6d570694f4702", func := "gangway/gangwaylaw03.FormsBack", spec := "formsBack", inPlace := ["internal/bytealg.IndexByteString"], unfollowed := true, recurses := true, named := ["gangway/forms.widths", "gangway/forms.conditions", "gangway/forms.registers", "internal/strconv.uint64pow10", "math/bits.deBruijn32tab", "math/bits.deBruijn64tab", "gangway/forms.modTexts"], apart := false, laid := [("math/bits.deBruijn32tab", laid_math_bits_deBruijn32tab), ("math/bits.deBruijn64tab", laid_math_bits_deBruijn64tab), ("internal/strconv.uint64pow10", laid_internal_strconv_uint64pow10), ("gangway/forms.widths", laid_gangway_forms_widths), ("gangway/forms.registers", laid_gangway_forms_registers), ("gangway/forms.conditions", laid_gangway_forms_conditions), ("gangway/forms.modTexts", laid_gangway_forms_modTexts)], narrowed := true }
def FormsBackUptoSaid : Prop := formsBackUptoRow.holds Tryd.pinned (OpenSpec.upto formsBackSpec)

/-- 'gangwaylaw03.FormsUnlike', WHERE WHAT IT READS IS OF BULK AT MOST 1048576: true; the input reads as it did. -/
def formsUnlikeUptoRow : OpenClaim := { program := "ytdgejingoamfeaadoor", sum := "1bd9ddc85b8e25827229af7377dc2d563041b18bb125a03862b6d570694f4702", func := "gangway/gangwaylaw03.FormsUnlike", spec := "formsUnlike", inPlace := ["internal/bytealg.IndexByteString"], unfollowed := true, recurses := true, named := ["gangway/forms.widths", "gangway/forms.conditions", "gangway/forms.registers", "internal/strconv.uint64pow10", "math/bits.deBruijn32tab", "math/bits.deBruijn64tab", "gangway/forms.modTexts"], apart := false, laid := [("math/bits.deBruijn32tab", laid_math_bits_deBruijn32tab), ("math/bits.deBruijn64tab", laid_math_bits_deBruijn64tab), ("internal/strconv.uint64pow10", laid_internal_strconv_uint64pow10), ("gangway/forms.widths", laid_gangway_forms_widths), ("gangway/forms.registers", laid_gangway_forms_registers), ("gangway/forms.conditions", laid_gangway_forms_conditions), ("gangway/forms.modTexts", laid_gangway_forms_modTexts)], narrowed := true }
def FormsUnlikeUptoSaid : Prop := formsUnlikeUptoRow.holds Tryd.pinned (OpenSpec.upto formsUnlikeSpec)

/-- 'gangwaylaw03.FormsStrict', WHERE WHAT IT READS IS OF BULK AT MOST 1048576: true; the input reads as it did. -/
def formsStrictUptoRow : OpenClaim := { program := "ytdgejingoamfeaadoor", sum := "1bd9ddc85b8e25827229af7377dc2d563041b18bb125a03862b6d570694f4702", func := "gangway/gangwaylaw03.FormsStrict", spec := "formsStrict", inPlace := ["internal/bytealg.IndexByteString"], unfollowed := true, recurses := true, named := ["gangway/forms.widths", "gangway/forms.conditions", "gangway/forms.registers", "internal/strconv.uint64pow10", "math/bits.deBruijn32tab", "math/bits.deBruijn64tab", "gangway/forms.modTexts"], apart := false, laid := [("math/bits.deBruijn32tab", laid_math_bits_deBruijn32tab), ("math/bits.deBruijn64tab", laid_math_bits_deBruijn64tab), ("internal/strconv.uint64pow10", laid_internal_strconv_uint64pow10), ("gangway/forms.widths", laid_gangway_forms_widths), ("gangway/forms.registers", laid_gangway_forms_registers), ("gangway/forms.conditions", laid_gangway_forms_conditions), ("gangway/forms.modTexts", laid_gangway_forms_modTexts)], narrowed := true }
def FormsStrictUptoSaid : Prop := formsStrictUptoRow.holds Tryd.pinned (OpenSpec.upto formsStrictSpec)

end Rows
end Go.Proofs.YtdgejingoamfeaaDoor

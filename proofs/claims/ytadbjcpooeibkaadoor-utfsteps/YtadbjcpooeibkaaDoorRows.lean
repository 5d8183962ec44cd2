/-
  NARROWER THAN 'FOR EVERY INPUT', by the rows' own cells (each row's printed sentence says how): UtfNext: laid · UtfFault: laid · UtfLetter: laid · UtfSteps: laid · UtfJoins: laid · UtfSmall: laid.
  DERIVED. THE GIVEN ROWS OF THIS SEAT. 6 by the template 'for every input the law returns true; each argument reads behind the call as it read before'; 0 by the template 'total and deterministic' (their statements: YtadbjcpooeibkaaDoorTotals.lean).
  GIVEN WITH THE SEED: the statements are not yours to turn. If you find one false, say at which input.
  Laid BY PROGRAM, IN A SANDBOX (cutbox-rows.mjs): the forced cells as the released guide's own fill.sh prints them over the translation fa65d2441d147aa0… (all of the seat's roots in one cut). By AI agents, Wed Nov 11 2026. No macro, syntax, notation, axiom, sorry.
-/
import Derived.Test.YtadbjcpooeibkaaDoorChecked
import GoSem.PinnedTables
import GoSem.Claim
import GoSem.ClaimJoined
import GoSem.ClaimMapViews
import Derived.JoinedTies
import Derived.KernelRfl
namespace Go.Proofs.YtadbjcpooeibkaaDoor
/- THE CELL 'sum', in the pinned program and in every row, IS THE sha256 OF THE DUMP (.gsa) THAT YtadbjcpooeibkaaDoorProg.lean LOADS. Nothing in Lean hashes anything: it is a label: what it is worth is what the hold of that sum in a sandbox is worth. -/
noncomputable def Tryd.pinned : Pinned := { name := "ytadbjcpooeibkaadoor", sum := "fa65d2441d147aa0f22a9a540119f5366aa9f78d394e93835e7aaa38a36f6923", checked := Tryd.checked }
namespace Rows
def none {H : Type} : Left H := { results := [], args := [] }

/- WHAT THE LISTED PACKAGE-LEVEL VARIABLES READ AS WHEN THE CALL BEGINS. Each datum BY PROGRAM (the guide's laid-datum.mjs) off the statement by which the dump's own 'gosem.cut.vars' lays the variable. In a bare row this is a premise. The card (YtadbjcpooeibkaaDoorCards.lean) ties it to the program's text. -/
def laid_unicode_utf8_acceptRanges {H : Type} : DataW H := .agg [.agg [.lit (.int .u8 128), .lit (.int .u8 191)], .agg [.lit (.int .u8 160), .lit (.int .u8 191)], .agg [.lit (.int .u8 128), .lit (.int .u8 159)], .agg [.lit (.int .u8 144), .lit (.int .u8 191)], .agg [.lit (.int .u8 128), .lit (.int .u8 143)], .agg [.lit (.int .u8 0), .lit (.int .u8 0)], .agg [.lit (.int .u8 0), .lit (.int .u8 0)], .agg [.lit (.int .u8 0), .lit (.int .u8 0)], .agg [.lit (.int .u8 0), .lit (.int .u8 0)], .agg [.lit (.int .u8 0), .lit (.int .u8 0)], .agg [.lit (.int .u8 0), .lit (.int .u8 0)], .agg [.lit (.int .u8 0), .lit (.int .u8 0)], .agg [.lit (.int .u8 0), .lit (.int .u8 0)], .agg [.lit (.int .u8 0), .lit (.int .u8 0)], .agg [.lit (.int .u8 0), .lit (.int .u8 0)], .agg [.lit (.int .u8 0), .lit (.int .u8 0)]]
def laid_incipit_utf_letters {H : Type} : DataW H := .agg [.agg [.lit (.int .i64 48), .lit (.int .i64 57)], .agg [.lit (.int .i64 65), .lit (.int .i64 90)], .agg [.lit (.int .i64 97), .lit (.int .i64 122)], .agg [.lit (.int .i64 170), .lit (.int .i64 170)], .agg [.lit (.int .i64 181), .lit (.int .i64 181)], .agg [.lit (.int .i64 186), .lit (.int .i64 186)], .agg [.lit (.int .i64 192), .lit (.int .i64 214)], .agg [.lit (.int .i64 216), .lit (.int .i64 246)], .agg [.lit (.int .i64 248), .lit (.int .i64 687)], .agg [.lit (.int .i64 768), .lit (.int .i64 879)], .agg [.lit (.int .i64 880), .lit (.int .i64 883)], .agg [.lit (.int .i64 886), .lit (.int .i64 887)], .agg [.lit (.int .i64 891), .lit (.int .i64 893)], .agg [.lit (.int .i64 895), .lit (.int .i64 895)], .agg [.lit (.int .i64 902), .lit (.int .i64 902)], .agg [.lit (.int .i64 904), .lit (.int .i64 906)], .agg [.lit (.int .i64 908), .lit (.int .i64 908)], .agg [.lit (.int .i64 910), .lit (.int .i64 929)], .agg [.lit (.int .i64 931), .lit (.int .i64 1153)], .agg [.lit (.int .i64 1162), .lit (.int .i64 1327)], .agg [.lit (.int .i64 1329), .lit (.int .i64 1366)], .agg [.lit (.int .i64 1377), .lit (.int .i64 1414)], .agg [.lit (.int .i64 1488), .lit (.int .i64 1514)], .agg [.lit (.int .i64 1568), .lit (.int .i64 1610)], .agg [.lit (.int .i64 1632), .lit (.int .i64 1641)], .agg [.lit (.int .i64 1646), .lit (.int .i64 1747)], .agg [.lit (.int .i64 1776), .lit (.int .i64 1785)], .agg [.lit (.int .i64 2308), .lit (.int .i64 2361)], .agg [.lit (.int .i64 2406), .lit (.int .i64 2415)], .agg [.lit (.int .i64 3585), .lit (.int .i64 3632)], .agg [.lit (.int .i64 3648), .lit (.int .i64 3654)], .agg [.lit (.int .i64 4256), .lit (.int .i64 4293)], .agg [.lit (.int .i64 4304), .lit (.int .i64 4346)], .agg [.lit (.int .i64 7680), .lit (.int .i64 8124)], .agg [.lit (.int .i64 12353), .lit (.int .i64 12438)], .agg [.lit (.int .i64 12449), .lit (.int .i64 12538)], .agg [.lit (.int .i64 13312), .lit (.int .i64 19903)], .agg [.lit (.int .i64 19968), .lit (.int .i64 40959)], .agg [.lit (.int .i64 44032), .lit (.int .i64 55203)], .agg [.lit (.int .i64 65296), .lit (.int .i64 65305)], .agg [.lit (.int .i64 65313), .lit (.int .i64 65338)], .agg [.lit (.int .i64 65345), .lit (.int .i64 65370)], .agg [.lit (.int .i64 131072), .lit (.int .i64 173791)]]
/-- One of Go's own tables, pinned by name: the form's constant. -/
def laid_unicode_utf8_first : DataW Unit := Go.Pinned.utf8First

/-- 'incipitlaw08.UtfNext': WHATEVER THE INPUT: true; the input reads as it did. -/
def utfNextSpec : ChangeSpec := { name := "utfNext", fn := fun _ => fun
  | [d1, d2] => { results := [.lit (.bool true)], args := [d1, d2] }
  | _ => none }
def utfNextRow : OpenClaim := { program := "ytadbjcpooeibkaadoor", sum := "fa65d2441d147aa0f22a9a540119f5366aa9f78d394e93835e7aaa38a36f6923", func := "incipit/incipitlaw08.UtfNext", spec := "utfNext", unfollowed := true, recurses := true, named := ["unicode/utf8.first", "unicode/utf8.acceptRanges", "incipit/utf.letters"], apart := false, laid := [("unicode/utf8.acceptRanges", laid_unicode_utf8_acceptRanges), ("incipit/utf.letters", laid_incipit_utf_letters), ("unicode/utf8.first", laid_unicode_utf8_first)] }
def UtfNextSaid : Prop := utfNextRow.holds Tryd.pinned (OpenSpec.ofChange utfNextSpec)

/-- ITS FALSE NEIGHBOUR: 'it returns false'. Refute it at one input. -/
def utfNextWrong : ChangeSpec := { name := "utfNext", fn := fun _ => fun
  | [d1, d2] => { results := [.lit (.bool false)], args := [d1, d2] }
  | _ => none }
def UtfNextWrongFalsely : Prop := utfNextRow.holds Tryd.pinned (OpenSpec.ofChange utfNextWrong)

/-- 'incipitlaw08.UtfFault': WHATEVER THE INPUT: true; the input reads as it did. -/
def utfFaultSpec : ChangeSpec := { name := "utfFault", fn := fun _ => fun
  | [d] => { results := [.lit (.bool true)], args := [d] }
  | _ => none }
def utfFaultRow : OpenClaim := { program := "ytadbjcpooeibkaadoor", sum := "fa65d2441d147aa0f22a9a540119f5366aa9f78d394e93835e7aaa38a36f6923", func := "incipit/incipitlaw08.UtfFault", spec := "utfFault", unfollowed := true, recurses := true, named := ["unicode/utf8.first", "unicode/utf8.acceptRanges", "incipit/utf.letters"], apart := false, laid := [("unicode/utf8.acceptRanges", laid_unicode_utf8_acceptRanges), ("incipit/utf.letters", laid_incipit_utf_letters), ("unicode/utf8.first", laid_unicode_utf8_first)] }
def UtfFaultSaid : Prop := utfFaultRow.holds Tryd.pinned (OpenSpec.ofChange utfFaultSpec)

/-- ITS FALSE NEIGHBOUR: 'it returns false'. Refute it at one input. -/
def utfFaultWrong : ChangeSpec := { name := "utfFault", fn := fun _ => fun
  | [d] => { results := [.lit (.bool false)], args := [d] }
  | _ => none }
def UtfFaultWrongFalsely : Prop := utfFaultRow.holds Tryd.pinned (OpenSpec.ofChange utfFaultWrong)

/-- 'incipitlaw08.UtfLetter': WHATEVER THE INPUT: true; the input reads as it did. -/
def utfLetterSpec : ChangeSpec := { name := "utfLetter", fn := fun _ => fun
  | [d] => { results := [.lit (.bool true)], args := [d] }
  | _ => none }
def utfLetterRow : OpenClaim := { program := "ytadbjcpooeibkaadoor", sum := "fa65d2441d147aa0f22a9a540119f5366aa9f78d394e93835e7aaa38a36f6923", func := "incipit/incipitlaw08.UtfLetter", spec := "utfLetter", unfollowed := true, recurses := true, named := ["incipit/utf.letters", "unicode/utf8.first", "unicode/utf8.acceptRanges"], apart := false, laid := [("unicode/utf8.acceptRanges", laid_unicode_utf8_acceptRanges), ("incipit/utf.letters", laid_incipit_utf_letters), ("unicode/utf8.first", laid_unicode_utf8_first)] }
def UtfLetterSaid : Prop := utfLetterRow.holds Tryd.pinned (OpenSpec.ofChange utfLetterSpec)

/-- ITS FALSE NEIGHBOUR: 'it returns false'. Refute it at one input. -/
def utfLetterWrong : ChangeSpec := { name := "utfLetter", fn := fun _ => fun
  | [d] => { results := [.lit (.bool false)], args := [d] }
  | _ => none }
def UtfLetterWrongFalsely : Prop := utfLetterRow.holds Tryd.pinned (OpenSpec.ofChange utfLetterWrong)

/-- 'incipitlaw08.UtfSteps': WHATEVER THE INPUT: true; the input reads as it did. -/
def utfStepsSpec : ChangeSpec := { name := "utfSteps", fn := fun _ => fun
  | [d1, d2] => { results := [.lit (.bool true)], args := [d1, d2] }
  | _ => none }
def utfStepsRow : OpenClaim := { program := "ytadbjcpooeibkaadoor", sum := "fa65d2441d147aa0f22a9a540119f5366aa9f78d394e93835e7aaa38a36f6923", func := "incipit/incipitlaw08.UtfSteps", spec := "utfSteps", unfollowed := true, recurses := true, named := ["unicode/utf8.first", "unicode/utf8.acceptRanges", "incipit/utf.letters"], apart := false, laid := [("unicode/utf8.acceptRanges", laid_unicode_utf8_acceptRanges), ("incipit/utf.letters", laid_incipit_utf_letters), ("unicode/utf8.first", laid_unicode_utf8_first)] }
def UtfStepsSaid : Prop := utfStepsRow.holds Tryd.pinned (OpenSpec.ofChange utfStepsSpec)

/-- ITS FALSE NEIGHBOUR: 'it returns false'. Refute it at one input. -/
def utfStepsWrong : ChangeSpec := { name := "utfSteps", fn := fun _ => fun
  | [d1, d2] => { results := [.lit (.bool false)], args := [d1, d2] }
  | _ => none }
def UtfStepsWrongFalsely : Prop := utfStepsRow.holds Tryd.pinned (OpenSpec.ofChange utfStepsWrong)

/-- 'incipitlaw08.UtfJoins': WHATEVER THE INPUT: true; the input reads as it did. -/
def utfJoinsSpec : ChangeSpec := { name := "utfJoins", fn := fun _ => fun
  | [d1, d2] => { results := [.lit (.bool true)], args := [d1, d2] }
  | _ => none }
def utfJoinsRow : OpenClaim := { program := "ytadbjcpooeibkaadoor", sum := "fa65d2441d147aa0f22a9a540119f5366aa9f78d394e93835e7aaa38a36f6923", func := "incipit/incipitlaw08.UtfJoins", spec := "utfJoins", unfollowed := true, recurses := true, named := ["unicode/utf8.first", "unicode/utf8.acceptRanges", "incipit/utf.letters"], apart := false, laid := [("unicode/utf8.acceptRanges", laid_unicode_utf8_acceptRanges), ("incipit/utf.letters", laid_incipit_utf_letters), ("unicode/utf8.first", laid_unicode_utf8_first)] }
def UtfJoinsSaid : Prop := utfJoinsRow.holds Tryd.pinned (OpenSpec.ofChange utfJoinsSpec)

/-- ITS FALSE NEIGHBOUR: 'it returns false'. Refute it at one input. -/
def utfJoinsWrong : ChangeSpec := { name := "utfJoins", fn := fun _ => fun
  | [d1, d2] => { results := [.lit (.bool false)], args := [d1, d2] }
  | _ => none }
def UtfJoinsWrongFalsely : Prop := utfJoinsRow.holds Tryd.pinned (OpenSpec.ofChange utfJoinsWrong)

/-- 'incipitlaw08.UtfSmall': WHATEVER THE INPUT: true; the input reads as it did. -/
def utfSmallSpec : ChangeSpec := { name := "utfSmall", fn := fun _ => fun
  | [d] => { results := [.lit (.bool true)], args := [d] }
  | _ => none }
def utfSmallRow : OpenClaim := { program := "ytadbjcpooeibkaadoor", sum := "fa65d2441d147aa0f22a9a540119f5366aa9f78d394e93835e7aaa38a36f6923", func := "incipit/incipitlaw08.UtfSmall", spec := "utfSmall", unfollowed := true, recurses := true, named := ["unicode/utf8.first", "unicode/utf8.acceptRanges", "incipit/utf.letters"], apart := false, laid := [("unicode/utf8.acceptRanges", laid_unicode_utf8_acceptRanges), ("incipit/utf.letters", laid_incipit_utf_letters), ("unicode/utf8.first", laid_unicode_utf8_first)] }
def UtfSmallSaid : Prop := utfSmallRow.holds Tryd.pinned (OpenSpec.ofChange utfSmallSpec)

/-- ITS FALSE NEIGHBOUR: 'it returns false'. Refute it at one input. -/
def utfSmallWrong : ChangeSpec := { name := "utfSmall", fn := fun _ => fun
  | [d] => { results := [.lit (.bool false)], args := [d] }
  | _ => none }
def UtfSmallWrongFalsely : Prop := utfSmallRow.holds Tryd.pinned (OpenSpec.ofChange utfSmallWrong)

/- THE SECOND FORM. 'bulk': how many values and letters a reading holds, each counted each time it is reached (what is shared counts as often as it is met; a slice's spare places count too). A statement '..UptoSaid' is the law's where the arguments, and the package variables that the reading takes, are together of bulk at most 1048576: NARROWER than '..Said'. Prove '..Said' where nothing that the law and all that it calls make is longer than what came in: it says more and counts as full. Else prove '..UptoSaid'. A law counts once. -/
mutual
def uptoBulk {H : Type} : DataW H → Nat
  | .lit (.string bytes) => bytes.length + 1
  | .lit _ => 1
  | .nil => 1
  | .ptr d => uptoBulk d + 1
  | .slice elems spare => uptoBulkAll elems + uptoBulkAll spare + 1
  | .agg parts => uptoBulkAll parts + 1
  | .iface _ d => uptoBulk d + 1
  | .map entries => uptoBulkEntries entries + 1
  | .held _ => 1
def uptoBulkAll {H : Type} : List (DataW H) → Nat
  | [] => 0
  | d :: r => uptoBulk d + uptoBulkAll r
def uptoBulkEntries {H : Type} : List (Lit × DataW H) → Nat
  | [] => 0
  | x :: r => uptoBulkEntry x + uptoBulkEntries r
def uptoBulkEntry {H : Type} : Lit × DataW H → Nat
  | (.string bytes, d) => bytes.length + uptoBulk d + 1
  | (_, d) => uptoBulk d + 1
 end
def uptoSmall : (H : Type) → List (DataW H) → Bool := fun _ ds => decide (uptoBulkAll ds ≤ 1048576)
def OpenSpec.upto (s : _root_.Go.ChangeSpec) : _root_.Go.OpenSpec := { _root_.Go.OpenSpec.ofChange s with cond := some uptoSmall }

/-- 'incipitlaw08.UtfNext', WHERE WHAT IT READS IS OF BULK AT MOST 1048576: true; the input reads as it did. -/
def utfNextUptoRow : OpenClaim := { program := "ytadbjcpooeibkaadoor", sum := "fa65d2441d147aa0f22a9a540119f5366aa9f78d394e93835e7aaa38a36f6923", func := "incipit/incipitlaw08.UtfNext", spec := "utfNext", unfollowed := true, recurses := true, named := ["unicode/utf8.first", "unicode/utf8.acceptRanges", "incipit/utf.letters"], apart := false, laid := [("unicode/utf8.acceptRanges", laid_unicode_utf8_acceptRanges), ("incipit/utf.letters", laid_incipit_utf_letters), ("unicode/utf8.first", laid_unicode_utf8_first)], narrowed := true }
def UtfNextUptoSaid : Prop := utfNextUptoRow.holds Tryd.pinned (OpenSpec.upto utfNextSpec)

/-- 'incipitlaw08.UtfFault', WHERE WHAT IT READS IS OF BULK AT MOST 1048576: true; the input reads as it did. -/
def utfFaultUptoRow : OpenClaim := { program := "ytadbjcpooeibkaadoor", sum := "fa65d2441d147aa0f22a9a540119f5366aa9f78d394e93835e7aaa38a36f6923", func := "incipit/incipitlaw08.UtfFault", spec := "utfFault", unfollowed := true, recurses := true, named := ["unicode/utf8.first", "unicode/utf8.acceptRanges", "incipit/utf.letters"], apart := false, laid := [("unicode/utf8.acceptRanges", laid_unicode_utf8_acceptRanges), ("incipit/utf.letters", laid_incipit_utf_letters), ("unicode/utf8.first", laid_unicode_utf8_first)], narrowed := true }
def UtfFaultUptoSaid : Prop := utfFaultUptoRow.holds Tryd.pinned (OpenSpec.upto utfFaultSpec)

/-- 'incipitlaw08.UtfLetter', WHERE WHAT IT READS IS OF BULK AT MOST 1048576: true; the input reads as it did. -/
def utfLetterUptoRow : OpenClaim := { program := "ytadbjcpooeibkaadoor", sum := "fa65d2441d147aa0f22a9a540119f5366aa9f78d394e93835e7aaa38a36f6923", func := "incipit/incipitlaw08.UtfLetter", spec := "utfLetter", unfollowed := true, recurses := true, named := ["incipit/utf.letters", "unicode/utf8.first", "unicode/utf8.acceptRanges"], apart := false, laid := [("unicode/utf8.acceptRanges", laid_unicode_utf8_acceptRanges), ("incipit/utf.letters", laid_incipit_utf_letters), ("unicode/utf8.first", laid_unicode_utf8_first)], narrowed := true }
def UtfLetterUptoSaid : Prop := utfLetterUptoRow.holds Tryd.pinned (OpenSpec.upto utfLetterSpec)

/-- 'incipitlaw08.UtfSteps', WHERE WHAT IT READS IS OF BULK AT MOST 1048576: true; the input reads as it did. -/
def utfStepsUptoRow : OpenClaim := { program := "ytadbjcpooeibkaadoor", sum := "fa65d2441d147aa0f22a9a540119f5366aa9f78d394e93835e7aaa38a36f6923", func := "incipit/incipitlaw08.UtfSteps", spec := "utfSteps", unfollowed := true, recurses := true, named := ["unicode/utf8.first", "unicode/utf8.acceptRanges", "incipit/utf.letters"], apart := false, laid := [("unicode/utf8.acceptRanges", laid_unicode_utf8_acceptRanges), ("incipit/utf.letters", laid_incipit_utf_letters), ("unicode/utf8.first", laid_unicode_utf8_first)], narrowed := true }
def UtfStepsUptoSaid : Prop := utfStepsUptoRow.holds Tryd.pinned (OpenSpec.upto utfStepsSpec)

/-- 'incipitlaw08.UtfJoins', WHERE WHAT IT READS IS OF BULK AT MOST 1048576: true; the input reads as it did. -/
def utfJoinsUptoRow : OpenClaim := { program := "ytadbjcpooeibkaadoor", sum := "fa65d2441d147aa0f22a9a540119f5366aa9f78d394e93835e7aaa38a36f6923", func := "incipit/incipitlaw08.UtfJoins", spec := "utfJoins", unfollowed := true, recurses := true, named := ["unicode/utf8.first", "unicode/utf8.acceptRanges", "incipit/utf.letters"], apart := false, laid := [("unicode/utf8.acceptRanges", laid_unicode_utf8_acceptRanges), ("incipit/utf.letters", laid_incipit_utf_letters), ("unicode/utf8.first", laid_unicode_utf8_first)], narrowed := true }
def UtfJoinsUptoSaid : Prop := utfJoinsUptoRow.holds Tryd.pinned (OpenSpec.upto utfJoinsSpec)

/-- 'incipitlaw08.UtfSmall', WHERE WHAT IT READS IS OF BULK AT MOST 1048576: true; the input reads as it did. -/
def utfSmallUptoRow : OpenClaim := { program := "ytadbjcpooeibkaadoor", sum := "fa65d2441d147aa0f22a9a540119f5366aa9f78d394e93835e7aaa38a36f6923", func := "incipit/incipitlaw08.UtfSmall", spec := "utfSmall", unfollowed := true, recurses := true, named := ["unicode/utf8.first", "unicode/utf8.acceptRanges", "incipit/utf.letters"], apart := false, laid := [("unicode/utf8.acceptRanges", laid_unicode_utf8_acceptRanges), ("incipit/utf.letters", laid_incipit_utf_letters), ("unicode/utf8.first", laid_unicode_utf8_first)], narrowed := true }
def UtfSmallUptoSaid : Prop := utfSmallUptoRow.holds Tryd.pinned (OpenSpec.upto utfSmallSpec)

end Rows
end Go.Proofs.YtadbjcpooeibkaaDoor

/-
  NARROWER THAN 'FOR EVERY INPUT', by the rows' own cells (each row's printed sentence says how): WordsTells: laid · WordsOne: laid · WordsStops: laid · WordsParted: laid · WordsLeft: laid · WordsJoins: laid.
  DERIVED. THE GIVEN ROWS OF THIS SEAT. 6 by the template 'for every input the law returns true; each argument reads behind the call as it read before'; 0 by the template 'total and deterministic' (their statements: YthjfalbchkbdfaaDoorTotals.lean).
  GIVEN WITH THE SEED: the statements are not yours to turn. If you find one false, say at which input.
  Laid BY PROGRAM, IN A SANDBOX (cutbox-rows.mjs): the forced cells as the released guide's own fill.sh prints them over the translation 41e6972bf97b4325… (all of the seat's roots in one cut). By AI agents, Wed Nov 11 2026. No macro, syntax, notation, axiom, sorry.
-/
import Derived.Test.YthjfalbchkbdfaaDoorChecked
import GoSem.PinnedTables
import GoSem.Claim
import GoSem.ClaimJoined
import GoSem.ClaimMapViews
import Derived.JoinedTies
import Derived.KernelRfl
namespace Go.Proofs.YthjfalbchkbdfaaDoor
/- THE CELL 'sum', in the pinned program and in every row, IS THE sha256 OF THE DUMP (.gsa) THAT YthjfalbchkbdfaaDoorProg.lean LOADS. Nothing in Lean hashes anything: it is a label: what it is worth is what the hold of that sum in a sandbox is worth. -/
noncomputable def Tryd.pinned : Pinned := { name := "ythjfalbchkbdfaadoor", sum := "41e6972bf97b4325089dc80a31836421e6e8bdc601aa62480a65ea08e90eb905", checked := Tryd.checked }
namespace Rows
def none {H : Type} : Left H := { results := [], args := [] }

/- WHAT THE LISTED PACKAGE-LEVEL VARIABLES READ AS WHEN THE CALL BEGINS. Each datum BY PROGRAM (the guide's laid-datum.mjs) off the statement by which the dump's own 'gosem.cut.vars' lays the variable. In a bare row this is a premise. The card (YthjfalbchkbdfaaDoorCards.lean) ties it to the program's text. -/
def laid_unicode_utf8_acceptRanges {H : Type} : DataW H := .agg [.agg [.lit (.int .u8 128), .lit (.int .u8 191)], .agg [.lit (.int .u8 160), .lit (.int .u8 191)], .agg [.lit (.int .u8 128), .lit (.int .u8 159)], .agg [.lit (.int .u8 144), .lit (.int .u8 191)], .agg [.lit (.int .u8 128), .lit (.int .u8 143)], .agg [.lit (.int .u8 0), .lit (.int .u8 0)], .agg [.lit (.int .u8 0), .lit (.int .u8 0)], .agg [.lit (.int .u8 0), .lit (.int .u8 0)], .agg [.lit (.int .u8 0), .lit (.int .u8 0)], .agg [.lit (.int .u8 0), .lit (.int .u8 0)], .agg [.lit (.int .u8 0), .lit (.int .u8 0)], .agg [.lit (.int .u8 0), .lit (.int .u8 0)], .agg [.lit (.int .u8 0), .lit (.int .u8 0)], .agg [.lit (.int .u8 0), .lit (.int .u8 0)], .agg [.lit (.int .u8 0), .lit (.int .u8 0)], .agg [.lit (.int .u8 0), .lit (.int .u8 0)]]
def laid_incipit_utf_letters {H : Type} : DataW H := .agg [.agg [.lit (.int .i64 48), .lit (.int .i64 57)], .agg [.lit (.int .i64 65), .lit (.int .i64 90)], .agg [.lit (.int .i64 97), .lit (.int .i64 122)], .agg [.lit (.int .i64 170), .lit (.int .i64 170)], .agg [.lit (.int .i64 181), .lit (.int .i64 181)], .agg [.lit (.int .i64 186), .lit (.int .i64 186)], .agg [.lit (.int .i64 192), .lit (.int .i64 214)], .agg [.lit (.int .i64 216), .lit (.int .i64 246)], .agg [.lit (.int .i64 248), .lit (.int .i64 687)], .agg [.lit (.int .i64 768), .lit (.int .i64 879)], .agg [.lit (.int .i64 880), .lit (.int .i64 883)], .agg [.lit (.int .i64 886), .lit (.int .i64 887)], .agg [.lit (.int .i64 891), .lit (.int .i64 893)], .agg [.lit (.int .i64 895), .lit (.int .i64 895)], .agg [.lit (.int .i64 902), .lit (.int .i64 902)], .agg [.lit (.int .i64 904), .lit (.int .i64 906)], .agg [.lit (.int .i64 908), .lit (.int .i64 908)], .agg [.lit (.int .i64 910), .lit (.int .i64 929)], .agg [.lit (.int .i64 931), .lit (.int .i64 1153)], .agg [.lit (.int .i64 1162), .lit (.int .i64 1327)], .agg [.lit (.int .i64 1329), .lit (.int .i64 1366)], .agg [.lit (.int .i64 1377), .lit (.int .i64 1414)], .agg [.lit (.int .i64 1488), .lit (.int .i64 1514)], .agg [.lit (.int .i64 1568), .lit (.int .i64 1610)], .agg [.lit (.int .i64 1632), .lit (.int .i64 1641)], .agg [.lit (.int .i64 1646), .lit (.int .i64 1747)], .agg [.lit (.int .i64 1776), .lit (.int .i64 1785)], .agg [.lit (.int .i64 2308), .lit (.int .i64 2361)], .agg [.lit (.int .i64 2406), .lit (.int .i64 2415)], .agg [.lit (.int .i64 3585), .lit (.int .i64 3632)], .agg [.lit (.int .i64 3648), .lit (.int .i64 3654)], .agg [.lit (.int .i64 4256), .lit (.int .i64 4293)], .agg [.lit (.int .i64 4304), .lit (.int .i64 4346)], .agg [.lit (.int .i64 7680), .lit (.int .i64 8124)], .agg [.lit (.int .i64 12353), .lit (.int .i64 12438)], .agg [.lit (.int .i64 12449), .lit (.int .i64 12538)], .agg [.lit (.int .i64 13312), .lit (.int .i64 19903)], .agg [.lit (.int .i64 19968), .lit (.int .i64 40959)], .agg [.lit (.int .i64 44032), .lit (.int .i64 55203)], .agg [.lit (.int .i64 65296), .lit (.int .i64 65305)], .agg [.lit (.int .i64 65313), .lit (.int .i64 65338)], .agg [.lit (.int .i64 65345), .lit (.int .i64 65370)], .agg [.lit (.int .i64 131072), .lit (.int .i64 173791)]]
/-- One of Go's own tables, pinned by name: the form's constant. -/
def laid_unicode_utf8_first : DataW Unit := Go.Pinned.utf8First
def laid_incipit_sha_roundConstants {H : Type} : DataW H := .agg [.lit (.int .u32 1116352408), .lit (.int .u32 1899447441), .lit (.int .u32 3049323471), .lit (.int .u32 3921009573), .lit (.int .u32 961987163), .lit (.int .u32 1508970993), .lit (.int .u32 2453635748), .lit (.int .u32 2870763221), .lit (.int .u32 3624381080), .lit (.int .u32 310598401), .lit (.int .u32 607225278), .lit (.int .u32 1426881987), .lit (.int .u32 1925078388), .lit (.int .u32 2162078206), .lit (.int .u32 2614888103), .lit (.int .u32 3248222580), .lit (.int .u32 3835390401), .lit (.int .u32 4022224774), .lit (.int .u32 264347078), .lit (.int .u32 604807628), .lit (.int .u32 770255983), .lit (.int .u32 1249150122), .lit (.int .u32 1555081692), .lit (.int .u32 1996064986), .lit (.int .u32 2554220882), .lit (.int .u32 2821834349), .lit (.int .u32 2952996808), .lit (.int .u32 3210313671), .lit (.int .u32 3336571891), .lit (.int .u32 3584528711), .lit (.int .u32 113926993), .lit (.int .u32 338241895), .lit (.int .u32 666307205), .lit (.int .u32 773529912), .lit (.int .u32 1294757372), .lit (.int .u32 1396182291), .lit (.int .u32 1695183700), .lit (.int .u32 1986661051), .lit (.int .u32 2177026350), .lit (.int .u32 2456956037), .lit (.int .u32 2730485921), .lit (.int .u32 2820302411), .lit (.int .u32 3259730800), .lit (.int .u32 3345764771), .lit (.int .u32 3516065817), .lit (.int .u32 3600352804), .lit (.int .u32 4094571909), .lit (.int .u32 275423344), .lit (.int .u32 430227734), .lit (.int .u32 506948616), .lit (.int .u32 659060556), .lit (.int .u32 883997877), .lit (.int .u32 958139571), .lit (.int .u32 1322822218), .lit (.int .u32 1537002063), .lit (.int .u32 1747873779), .lit (.int .u32 1955562222), .lit (.int .u32 2024104815), .lit (.int .u32 2227730452), .lit (.int .u32 2361852424), .lit (.int .u32 2428436474), .lit (.int .u32 2756734187), .lit (.int .u32 3204031479), .lit (.int .u32 3329325298)]

/-- 'incipitlaw09.WordsTells': WHATEVER THE INPUT: true; the input reads as it did. -/
def wordsTellsSpec : ChangeSpec := { name := "wordsTells", fn := fun _ => fun
  | [d1, d2] => { results := [.lit (.bool true)], args := [d1, d2] }
  | _ => none }
def wordsTellsRow : OpenClaim := { program := "ythjfalbchkbdfaadoor", sum := "41e6972bf97b4325089dc80a31836421e6e8bdc601aa62480a65ea08e90eb905", func := "incipit/incipitlaw09.WordsTells", spec := "wordsTells", unfollowed := true, recurses := true, named := ["unicode/utf8.first", "unicode/utf8.acceptRanges", "incipit/utf.letters"], plainKeys := false, apart := false, laid := [("unicode/utf8.acceptRanges", laid_unicode_utf8_acceptRanges), ("incipit/utf.letters", laid_incipit_utf_letters), ("unicode/utf8.first", laid_unicode_utf8_first)] }
def WordsTellsSaid : Prop := wordsTellsRow.holds Tryd.pinned (OpenSpec.ofChange wordsTellsSpec)

/-- ITS FALSE NEIGHBOUR: 'it returns false'. Refute it at one input. -/
def wordsTellsWrong : ChangeSpec := { name := "wordsTells", fn := fun _ => fun
  | [d1, d2] => { results := [.lit (.bool false)], args := [d1, d2] }
  | _ => none }
def WordsTellsWrongFalsely : Prop := wordsTellsRow.holds Tryd.pinned (OpenSpec.ofChange wordsTellsWrong)

/-- 'incipitlaw09.WordsOne': WHATEVER THE INPUT: true; the input reads as it did. -/
def wordsOneSpec : ChangeSpec := { name := "wordsOne", fn := fun _ => fun
  | [d1, d2] => { results := [.lit (.bool true)], args := [d1, d2] }
  | _ => none }
def wordsOneRow : OpenClaim := { program := "ythjfalbchkbdfaadoor", sum := "41e6972bf97b4325089dc80a31836421e6e8bdc601aa62480a65ea08e90eb905", func := "incipit/incipitlaw09.WordsOne", spec := "wordsOne", unfollowed := true, recurses := true, named := ["unicode/utf8.first", "unicode/utf8.acceptRanges", "incipit/utf.letters"], plainKeys := false, apart := false, laid := [("unicode/utf8.acceptRanges", laid_unicode_utf8_acceptRanges), ("incipit/utf.letters", laid_incipit_utf_letters), ("unicode/utf8.first", laid_unicode_utf8_first)] }
def WordsOneSaid : Prop := wordsOneRow.holds Tryd.pinned (OpenSpec.ofChange wordsOneSpec)

/-- ITS FALSE NEIGHBOUR: 'it returns false'. Refute it at one input. -/
def wordsOneWrong : ChangeSpec := { name := "wordsOne", fn := fun _ => fun
  | [d1, d2] => { results := [.lit (.bool false)], args := [d1, d2] }
  | _ => none }
def WordsOneWrongFalsely : Prop := wordsOneRow.holds Tryd.pinned (OpenSpec.ofChange wordsOneWrong)

/-- 'incipitlaw09.WordsStops': WHATEVER THE INPUT: true; the input reads as it did. -/
def wordsStopsSpec : ChangeSpec := { name := "wordsStops", fn := fun _ => fun
  | [d] => { results := [.lit (.bool true)], args := [d] }
  | _ => none }
def wordsStopsRow : OpenClaim := { program := "ythjfalbchkbdfaadoor", sum := "41e6972bf97b4325089dc80a31836421e6e8bdc601aa62480a65ea08e90eb905", func := "incipit/incipitlaw09.WordsStops", spec := "wordsStops", unfollowed := true, recurses := true, named := ["unicode/utf8.first", "unicode/utf8.acceptRanges", "incipit/utf.letters", "incipit/sha.roundConstants"], plainKeys := false, apart := false, laid := [("unicode/utf8.acceptRanges", laid_unicode_utf8_acceptRanges), ("incipit/utf.letters", laid_incipit_utf_letters), ("incipit/sha.roundConstants", laid_incipit_sha_roundConstants), ("unicode/utf8.first", laid_unicode_utf8_first)] }
def WordsStopsSaid : Prop := wordsStopsRow.holds Tryd.pinned (OpenSpec.ofChange wordsStopsSpec)

/-- ITS FALSE NEIGHBOUR: 'it returns false'. Refute it at one input. -/
def wordsStopsWrong : ChangeSpec := { name := "wordsStops", fn := fun _ => fun
  | [d] => { results := [.lit (.bool false)], args := [d] }
  | _ => none }
def WordsStopsWrongFalsely : Prop := wordsStopsRow.holds Tryd.pinned (OpenSpec.ofChange wordsStopsWrong)

/-- 'incipitlaw09.WordsParted': WHATEVER THE INPUT: true; the input reads as it did. -/
def wordsPartedSpec : ChangeSpec := { name := "wordsParted", fn := fun _ => fun
  | [d1, d2] => { results := [.lit (.bool true)], args := [d1, d2] }
  | _ => none }
def wordsPartedRow : OpenClaim := { program := "ythjfalbchkbdfaadoor", sum := "41e6972bf97b4325089dc80a31836421e6e8bdc601aa62480a65ea08e90eb905", func := "incipit/incipitlaw09.WordsParted", spec := "wordsParted", unfollowed := true, recurses := true, named := ["unicode/utf8.first", "unicode/utf8.acceptRanges", "incipit/utf.letters"], plainKeys := false, apart := false, laid := [("unicode/utf8.acceptRanges", laid_unicode_utf8_acceptRanges), ("incipit/utf.letters", laid_incipit_utf_letters), ("unicode/utf8.first", laid_unicode_utf8_first)] }
def WordsPartedSaid : Prop := wordsPartedRow.holds Tryd.pinned (OpenSpec.ofChange wordsPartedSpec)

/-- ITS FALSE NEIGHBOUR: 'it returns false'. Refute it at one input. -/
def wordsPartedWrong : ChangeSpec := { name := "wordsParted", fn := fun _ => fun
  | [d1, d2] => { results := [.lit (.bool false)], args := [d1, d2] }
  | _ => none }
def WordsPartedWrongFalsely : Prop := wordsPartedRow.holds Tryd.pinned (OpenSpec.ofChange wordsPartedWrong)

/-- 'incipitlaw09.WordsLeft': WHATEVER THE INPUT: true; the input reads as it did. -/
def wordsLeftSpec : ChangeSpec := { name := "wordsLeft", fn := fun _ => fun
  | [d1, d2] => { results := [.lit (.bool true)], args := [d1, d2] }
  | _ => none }
def wordsLeftRow : OpenClaim := { program := "ythjfalbchkbdfaadoor", sum := "41e6972bf97b4325089dc80a31836421e6e8bdc601aa62480a65ea08e90eb905", func := "incipit/incipitlaw09.WordsLeft", spec := "wordsLeft", unfollowed := true, recurses := true, named := ["unicode/utf8.first", "unicode/utf8.acceptRanges", "incipit/utf.letters"], plainKeys := false, apart := false, laid := [("unicode/utf8.acceptRanges", laid_unicode_utf8_acceptRanges), ("incipit/utf.letters", laid_incipit_utf_letters), ("unicode/utf8.first", laid_unicode_utf8_first)] }
def WordsLeftSaid : Prop := wordsLeftRow.holds Tryd.pinned (OpenSpec.ofChange wordsLeftSpec)

/-- ITS FALSE NEIGHBOUR: 'it returns false'. Refute it at one input. -/
def wordsLeftWrong : ChangeSpec := { name := "wordsLeft", fn := fun _ => fun
  | [d1, d2] => { results := [.lit (.bool false)], args := [d1, d2] }
  | _ => none }
def WordsLeftWrongFalsely : Prop := wordsLeftRow.holds Tryd.pinned (OpenSpec.ofChange wordsLeftWrong)

/-- 'incipitlaw09.WordsJoins': WHATEVER THE INPUT: true; the input reads as it did. -/
def wordsJoinsSpec : ChangeSpec := { name := "wordsJoins", fn := fun _ => fun
  | [d1, d2] => { results := [.lit (.bool true)], args := [d1, d2] }
  | _ => none }
def wordsJoinsRow : OpenClaim := { program := "ythjfalbchkbdfaadoor", sum := "41e6972bf97b4325089dc80a31836421e6e8bdc601aa62480a65ea08e90eb905", func := "incipit/incipitlaw09.WordsJoins", spec := "wordsJoins", unfollowed := true, recurses := true, named := ["unicode/utf8.first", "unicode/utf8.acceptRanges", "incipit/utf.letters"], plainKeys := false, apart := false, laid := [("unicode/utf8.acceptRanges", laid_unicode_utf8_acceptRanges), ("incipit/utf.letters", laid_incipit_utf_letters), ("unicode/utf8.first", laid_unicode_utf8_first)] }
def WordsJoinsSaid : Prop := wordsJoinsRow.holds Tryd.pinned (OpenSpec.ofChange wordsJoinsSpec)

/-- ITS FALSE NEIGHBOUR: 'it returns false'. Refute it at one input. -/
def wordsJoinsWrong : ChangeSpec := { name := "wordsJoins", fn := fun _ => fun
  | [d1, d2] => { results := [.lit (.bool false)], args := [d1, d2] }
  | _ => none }
def WordsJoinsWrongFalsely : Prop := wordsJoinsRow.holds Tryd.pinned (OpenSpec.ofChange wordsJoinsWrong)

/- THE SECOND FORM. 'bulk': how many values and letters a reading holds, each counted each time it is reached (what is shared counts as often as it is met; a slice's spare places count too). A statement '..UptoSaid' is the law's where the arguments, and the package variables that the reading takes, are together of bulk at most 1048576: NARROWER than '..Said'. Prove '..Said' where nothing that the law and all that it calls make is longer than what came in: it says more and counts as full. Else prove '..UptoSaid'. A law counts once. -/
mutual
def uptoBulk {H : Type} : DataW H → Nat
  | .lit (.string bytes) => bytes.length + 1
  | .lit _ => 1
  | .nil => 1
  | .ptr d => uptoBulk d + 1
  | .slice elems spare => uptoBulkAll elems + uptoBulkAll spare + 1
  | .agg parts => uptoBulkAll parts + 1
  | .iface _ d => uptoBulk d + 1
  | .map entries => uptoBulkEntries entries + 1
  | .held _ => 1
def uptoBulkAll {H : Type} : List (DataW H) → Nat
  | [] => 0
  | d :: r => uptoBulk d + uptoBulkAll r
def uptoBulkEntries {H : Type} : List (Lit × DataW H) → Nat
  | [] => 0
  | x :: r => uptoBulkEntry x + uptoBulkEntries r
def uptoBulkEntry {H : Type} : Lit × DataW H → Nat
  | (.string bytes, d) => bytes.length + uptoBulk d + 1
  | (_, d) => uptoBulk d + 1
 end
def uptoSmall : (H : Type) → List (DataW H) → Bool := fun _ ds => decide (uptoBulkAll ds ≤ 1048576)
def OpenSpec.upto (s : _root_.Go.ChangeSpec) : _root_.Go.OpenSpec := { _root_.Go.OpenSpec.ofChange s with cond := some uptoSmall }

/-- 'incipitlaw09.WordsTells', WHERE WHAT IT READS IS OF BULK AT MOST 1048576: true; the input reads as it did. -/
def wordsTellsUptoRow : OpenClaim := { program := "ythjfalbchkbdfaadoor", sum := "41e6972bf97b4325089dc80a31836421e6e8bdc601aa62480a65ea08e90eb905", func := "incipit/incipitlaw09.WordsTells", spec := "wordsTells", unfollowed := true, recurses := true, named := ["unicode/utf8.first", "unicode/utf8.acceptRanges", "incipit/utf.letters"], plainKeys := false, apart := false, laid := [("unicode/utf8.acceptRanges", laid_unicode_utf8_acceptRanges), ("incipit/utf.letters", laid_incipit_utf_letters), ("unicode/utf8.first", laid_unicode_utf8_first)], narrowed := true }
def WordsTellsUptoSaid : Prop := wordsTellsUptoRow.holds Tryd.pinned (OpenSpec.upto wordsTellsSpec)

/-- 'incipitlaw09.WordsOne', WHERE WHAT IT READS IS OF BULK AT MOST 1048576: true; the input reads as it did. -/
def wordsOneUptoRow : OpenClaim := { program := "ythjfalbchkbdfaadoor", sum := "41e6972bf97b4325089dc80a31836421e6e8bdc601aa62480a65ea08e90eb905", func := "incipit/incipitlaw09.WordsOne", spec := "wordsOne", unfollowed := true, recurses := true, named := ["unicode/utf8.first", "unicode/utf8.acceptRanges", "incipit/utf.letters"], plainKeys := false, apart := false, laid := [("unicode/utf8.acceptRanges", laid_unicode_utf8_acceptRanges), ("incipit/utf.letters", laid_incipit_utf_letters), ("unicode/utf8.first", laid_unicode_utf8_first)], narrowed := true }
def WordsOneUptoSaid : Prop := wordsOneUptoRow.holds Tryd.pinned (OpenSpec.upto wordsOneSpec)

/-- 'incipitlaw09.WordsStops', WHERE WHAT IT READS IS OF BULK AT MOST 1048576: true; the input reads as it did. -/
def wordsStopsUptoRow : OpenClaim := { program := "ythjfalbchkbdfaadoor", sum := "41e6972bf97b4325089dc80a31836421e6e8bdc601aa62480a65ea08e90eb905", func := "incipit/incipitlaw09.WordsStops", spec := "wordsStops", unfollowed := true, recurses := true, named := ["unicode/utf8.first", "unicode/utf8.acceptRanges", "incipit/utf.letters", "incipit/sha.roundConstants"], plainKeys := false, apart := false, laid := [("unicode/utf8.acceptRanges", laid_unicode_utf8_acceptRanges), ("incipit/utf.letters", laid_incipit_utf_letters), ("incipit/sha.roundConstants", laid_incipit_sha_roundConstants), ("unicode/utf8.first", laid_unicode_utf8_first)], narrowed := true }
def WordsStopsUptoSaid : Prop := wordsStopsUptoRow.holds Tryd.pinned (OpenSpec.upto wordsStopsSpec)

/-- 'incipitlaw09.WordsParted', WHERE WHAT IT READS IS OF BULK AT MOST 1048576: true; the input reads as it did. -/
def wordsPartedUptoRow : OpenClaim := { program := "ythjfalbchkbdfaadoor", sum := "41e6972bf97b4325089dc80a31836421e6e8bdc601aa62480a65ea08e90eb905", func := "incipit/incipitlaw09.WordsParted", spec := "wordsParted", unfollowed := true, recurses := true, named := ["unicode/utf8.first", "unicode/utf8.acceptRanges", "incipit/utf.letters"], plainKeys := false, apart := false, laid := [("unicode/utf8.acceptRanges", laid_unicode_utf8_acceptRanges), ("incipit/utf.letters", laid_incipit_utf_letters), ("unicode/utf8.first", laid_unicode_utf8_first)], narrowed := true }
def WordsPartedUptoSaid : Prop := wordsPartedUptoRow.holds Tryd.pinned (OpenSpec.upto wordsPartedSpec)

/-- 'incipitlaw09.WordsLeft', WHERE WHAT IT READS IS OF BULK AT MOST 1048576: true; the input reads as it did. -/
def wordsLeftUptoRow : OpenClaim := { program := "ythjfalbchkbdfaadoor", sum := "41e6972bf97b4325089dc80a31836421e6e8bdc601aa62480a65ea08e90eb905", func := "incipit/incipitlaw09.WordsLeft", spec := "wordsLeft", unfollowed := true, recurses := true, named := ["unicode/utf8.first", "unicode/utf8.acceptRanges", "incipit/utf.letters"], plainKeys := false, apart := false, laid := [("unicode/utf8.acceptRanges", laid_unicode_utf8_acceptRanges), ("incipit/utf.letters", laid_incipit_utf_letters), ("unicode/utf8.first", laid_unicode_utf8_first)], narrowed := true }
def WordsLeftUptoSaid : Prop := wordsLeftUptoRow.holds Tryd.pinned (OpenSpec.upto wordsLeftSpec)

/-- 'incipitlaw09.WordsJoins', WHERE WHAT IT READS IS OF BULK AT MOST 1048576: true; the input reads as it did. -/
def wordsJoinsUptoRow : OpenClaim := { program := "ythjfalbchkbdfaadoor", sum := "41e6972bf97b4325089dc80a31836421e6e8bdc601aa62480a65ea08e90eb905", func := "incipit/incipitlaw09.WordsJoins", spec := "wordsJoins", unfollowed := true, recurses := true, named := ["unicode/utf8.first", "unicode/utf8.acceptRanges", "incipit/utf.letters"], plainKeys := false, apart := false, laid := [("unicode/utf8.acceptRanges", laid_unicode_utf8_acceptRanges), ("incipit/utf.letters", laid_incipit_utf_letters), ("unicode/utf8.first", laid_unicode_utf8_first)], narrowed := true }
def WordsJoinsUptoSaid : Prop := wordsJoinsUptoRow.holds Tryd.pinned (OpenSpec.upto wordsJoinsSpec)

end Rows
end Go.Proofs.YthjfalbchkbdfaaDoor

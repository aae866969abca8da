import PyProof.Rows.All
import Wide.All
import OpenK.AllK
import Wide.FinOn
import HandS.ForMost
import HandS.Zip
import HandS.Walk
import HandS.Deep
import HandS.Conv
import HandS.Style
import HandS.SortInts
import HandS.Codes
import KE.KEqDeep
import HandS.SortKw
import KE.SortKeyHeap
import KE.SortData
import KE.LtData
import HandS.TupSets
import KE.KTupSum
import HandS.StrMore
import HandS.WordsExc
import HandS.Strs
import KE.IntTextText
import HandS.Rev
import HandS.DictTup
import HandS.Words
import KE.DataCmp
import HandS.CallLocal
import HandS.ExcInit
import HandS.ExcField
import HandS.ExcIs
import HandS.ExcOwn
import HandS.ExcCtx
import HandS.HotCalls
import HandS.ExcInitHot
import KE.KExcIs
import HandS.List
import KE.GoesComp
import KE.KAsSuite
import HandS.Evl
import PyProof.NeKinds
import PySem.Challenge.RW_tablemates_k34_places_of_faults
set_option Elab.async false
set_option linter.all false
set_option maxRecDepth 100000
namespace My
open PySem PySem.Spec PyProof.Rows L2 RZ
def topS (i : Nat) : Stmt := PySem.Challenge.pw_tablemates_k34_places_of_faults.main.body.getD i (.Pass ⟨0, 0, 0, 0⟩)
abbrev sStamp : Stmt := topS 1
abbrev sPlace : Stmt := topS 2
abbrev sReadString : Stmt := topS 22
abbrev sReadCharacter : Stmt := topS 23
abbrev sReadWord : Stmt := topS 24
abbrev sReadFraction : Stmt := topS 25
abbrev sReadLine : Stmt := topS 26
abbrev sReadLines : Stmt := topS 27
abbrev sReadNeighbour : Stmt := topS 28
abbrev sReadArea : Stmt := topS 29
abbrev sReadCall : Stmt := topS 30
abbrev sReadOp : Stmt := topS 31
abbrev sReadTree : Stmt := topS 32
abbrev sReadContent : Stmt := topS 33
abbrev sReadCell : Stmt := topS 34
abbrev sReadInsert : Stmt := topS 35
abbrev sReadDelete : Stmt := topS 36
abbrev sReadWrite : Stmt := topS 37
abbrev sReadName : Stmt := topS 38
abbrev sReadUndo : Stmt := topS 39
abbrev sReadHead : Stmt := topS 41
abbrev sReadEdits : Stmt := topS 42
abbrev sReadUpdate : Stmt := topS 43
abbrev sLawCell : Stmt := topS 45
abbrev sLawDigits : Stmt := topS 46
abbrev sLawPadded : Stmt := topS 47
abbrev sLawNumber : Stmt := topS 48
abbrev sLawLine : Stmt := topS 49
abbrev sLawBlock : Stmt := topS 50
abbrev sLawArea : Stmt := topS 51
abbrev sLawLowest : Stmt := topS 52
abbrev sLawLeaf : Stmt := topS 53
abbrev sLawTree : Stmt := topS 54
abbrev sLawContent : Stmt := topS 55
abbrev sLawSide : Stmt := topS 56
abbrev sLawAction : Stmt := topS 57
abbrev sLawEdits : Stmt := topS 58
abbrev sLawBegin : Stmt := topS 59
abbrev sLawKey : Stmt := topS 60
abbrev sLawSorted : Stmt := topS 61
abbrev sLawNumbers : Stmt := topS 62
abbrev sLawLines : Stmt := topS 63
abbrev sLawString : Stmt := topS 64
abbrev sLawFraction : Stmt := topS 65
abbrev sLawAreaNumbers : Stmt := topS 66
abbrev sLawTreeNumbers : Stmt := topS 67
abbrev sLawContentNumbers : Stmt := topS 68
abbrev sLawSideNumbers : Stmt := topS 69
abbrev sLawActionNumbers : Stmt := topS 70
abbrev sLawEditNumbers : Stmt := topS 71
abbrev sLawUpdateNumbers : Stmt := topS 72
abbrev sLawPlace : Stmt := topS 73
abbrev sLawStarts : Stmt := topS 74
abbrev sLawCut : Stmt := topS 75
abbrev sLawLonger : Stmt := topS 76
abbrev sLawOrder : Stmt := topS 77
abbrev sLawDouble : Stmt := topS 78
abbrev sLaw : Stmt := topS 79
abbrev sInvalidBytes_Init : Stmt := inClass (topS 5) 0
theorem scInvalidBytes_Init : FnScope ["self", "at"] ["self", "at"] (defScope sInvalidBytes_Init) := ⟨rfl, rfl, rfl, by decide +kernel, rfl, by decide +kernel, by decide +kernel⟩
abbrev sReader_Init : Stmt := inClass (topS 21) 0
theorem scReader_Init : FnScope ["self", "data"] ["self", "data"] (defScope sReader_Init) := ⟨rfl, rfl, rfl, by decide +kernel, rfl, by decide +kernel, by decide +kernel⟩
abbrev sReader_Integer : Stmt := inClass (topS 21) 1
theorem scReader_Integer : FnScope ["self", "end", "n", "byte"] ["self"] (defScope sReader_Integer) := ⟨rfl, rfl, rfl, by decide +kernel, rfl, by decide +kernel, by decide +kernel⟩
abbrev sReader_Number : Stmt := inClass (topS 21) 2
theorem scReader_Number : FnScope ["self", "least", "most", "start", "n"] ["self", "least", "most"] (defScope sReader_Number) := ⟨rfl, rfl, rfl, by decide +kernel, rfl, by decide +kernel, by decide +kernel⟩
abbrev sReader_Choice : Stmt := inClass (topS 21) 3
theorem scReader_Choice : FnScope ["self", "words"] ["self", "words"] (defScope sReader_Choice) := ⟨rfl, rfl, rfl, by decide +kernel, rfl, by decide +kernel, by decide +kernel⟩
abbrev sReader_Part : Stmt := inClass (topS 21) 4
theorem scReader_Part : FnScope ["self", "most"] ["self", "most"] (defScope sReader_Part) := ⟨rfl, rfl, rfl, by decide +kernel, rfl, by decide +kernel, by decide +kernel⟩
/-! ### error classes with fields -/
structure ExK (K : PySem.W.Frag) (C : Addr) : Prop where
  cl : PySem.W.isClsIn K C = true
  x : XfC K C
  cc : PySem.W.findIn K (.ref C) "__class__" = some (some (.builtin "object.__class__"))
  cn : PySem.W.specialIn K (.builtin "object.__class__") "__get__" = some (some (.builtin "getset_descriptor.__get__"))
  ct : PySem.W.takesIn K (.builtin "object.__class__") = some true
  cm : PySem.W.mroIn K C (.type "object") = some true
theorem kit_self {K : PySem.W.Frag} {t : Value} : PySem.W.kitOne K t t = some true := if_pos (beq_self_eq_true t)
theorem scStamp : FnScope ["edit"] ["edit"] (defScope sStamp) := ⟨rfl, rfl, rfl, by decide +kernel, rfl, by decide +kernel, by decide +kernel⟩
theorem scPlace : FnScope ["edit"] ["edit"] (defScope sPlace) := ⟨rfl, rfl, rfl, by decide +kernel, rfl, by decide +kernel, by decide +kernel⟩
theorem scReadString : FnScope ["reader", "least", "most", "characters", "many", "_"] ["reader", "least", "most", "characters"] (defScope sReadString) := ⟨rfl, rfl, rfl, by decide +kernel, rfl, by decide +kernel, by decide +kernel⟩
theorem scReadCharacter : FnScope ["reader", "characters", "start", "code", "character"] ["reader", "characters"] (defScope sReadCharacter) := ⟨rfl, rfl, rfl, by decide +kernel, rfl, by decide +kernel, by decide +kernel⟩
theorem scReadWord : FnScope ["reader"] ["reader"] (defScope sReadWord) := ⟨rfl, rfl, rfl, by decide +kernel, rfl, by decide +kernel, by decide +kernel⟩
theorem scReadFraction : FnScope ["reader", "sign_and_size", "d", "half"] ["reader"] (defScope sReadFraction) := ⟨rfl, rfl, rfl, by decide +kernel, rfl, by decide +kernel, by decide +kernel⟩
theorem scReadLine : FnScope ["reader", "person"] ["reader"] (defScope sReadLine) := ⟨rfl, rfl, rfl, by decide +kernel, rfl, by decide +kernel, by decide +kernel⟩
theorem scReadLines : FnScope ["reader", "many", "_"] ["reader", "many"] (defScope sReadLines) := ⟨rfl, rfl, rfl, by decide +kernel, rfl, by decide +kernel, by decide +kernel⟩
theorem scReadNeighbour : FnScope ["reader"] ["reader"] (defScope sReadNeighbour) := ⟨rfl, rfl, rfl, by decide +kernel, rfl, by decide +kernel, by decide +kernel⟩
theorem scReadArea : FnScope ["reader", "kind"] ["reader"] (defScope sReadArea) := ⟨rfl, rfl, rfl, by decide +kernel, rfl, by decide +kernel, by decide +kernel⟩
theorem scReadCall : FnScope ["reader", "name", "many", "_"] ["reader"] (defScope sReadCall) := ⟨rfl, rfl, rfl, by decide +kernel, rfl, by decide +kernel, by decide +kernel⟩
theorem scReadOp : FnScope ["reader", "sign", "left"] ["reader"] (defScope sReadOp) := ⟨rfl, rfl, rfl, by decide +kernel, rfl, by decide +kernel, by decide +kernel⟩
theorem scReadTree : FnScope ["reader", "kind"] ["reader"] (defScope sReadTree) := ⟨rfl, rfl, rfl, by decide +kernel, rfl, by decide +kernel, by decide +kernel⟩
theorem scReadContent : FnScope ["reader", "kind"] ["reader"] (defScope sReadContent) := ⟨rfl, rfl, rfl, by decide +kernel, rfl, by decide +kernel, by decide +kernel⟩
theorem scReadCell : FnScope ["reader", "row", "column"] ["reader"] (defScope sReadCell) := ⟨rfl, rfl, rfl, by decide +kernel, rfl, by decide +kernel, by decide +kernel⟩
theorem scReadInsert : FnScope ["reader", "axis", "left"] ["reader"] (defScope sReadInsert) := ⟨rfl, rfl, rfl, by decide +kernel, rfl, by decide +kernel, by decide +kernel⟩
theorem scReadDelete : FnScope ["reader", "axis"] ["reader"] (defScope sReadDelete) := ⟨rfl, rfl, rfl, by decide +kernel, rfl, by decide +kernel, by decide +kernel⟩
theorem scReadWrite : FnScope ["reader", "many", "_"] ["reader"] (defScope sReadWrite) := ⟨rfl, rfl, rfl, by decide +kernel, rfl, by decide +kernel, by decide +kernel⟩
theorem scReadName : FnScope ["reader", "word", "many", "_"] ["reader"] (defScope sReadName) := ⟨rfl, rfl, rfl, by decide +kernel, rfl, by decide +kernel, by decide +kernel⟩
theorem scReadUndo : FnScope ["reader"] ["reader"] (defScope sReadUndo) := ⟨rfl, rfl, rfl, by decide +kernel, rfl, by decide +kernel, by decide +kernel⟩
theorem scReadHead : FnScope ["reader", "person", "number", "_"] ["reader"] (defScope sReadHead) := ⟨rfl, rfl, rfl, by decide +kernel, rfl, by decide +kernel, by decide +kernel⟩
theorem scReadEdits : FnScope ["reader", "many", "edits", "told", "_", "start", "head", "edit_id", "seen", "read_action"] ["reader", "many"] (defScope sReadEdits) := ⟨rfl, rfl, rfl, by decide +kernel, rfl, by decide +kernel, by decide +kernel⟩
theorem scReadUpdate : FnScope ["data", "reader", "rows", "columns", "edits"] ["data"] (defScope sReadUpdate) := ⟨rfl, rfl, rfl, by decide +kernel, rfl, by decide +kernel, by decide +kernel⟩
theorem scLawCell : FnScope ["_law_script", "_law_k"] ["_law_script", "_law_k"] (defScope sLawCell) := ⟨rfl, rfl, rfl, by decide +kernel, rfl, by decide +kernel, by decide +kernel⟩
theorem scLawDigits : FnScope ["_law_cell_here", "_law_k", "_law_most", "_law_digits_here", "_law_turn", "_law_seed"] ["_law_cell_here", "_law_k", "_law_most"] (defScope sLawDigits) := ⟨rfl, rfl, rfl, by decide +kernel, rfl, by decide +kernel, by decide +kernel⟩
theorem scLawPadded : FnScope ["_law_cell_here", "_law_k", "_law_d", "_law_turn"] ["_law_cell_here", "_law_k"] (defScope sLawPadded) := ⟨rfl, rfl, rfl, by decide +kernel, rfl, by decide +kernel, by decide +kernel⟩
theorem scLawNumber : FnScope ["_law_n", "_law_data", "_law_turn"] ["_law_n"] (defScope sLawNumber) := ⟨rfl, rfl, rfl, by decide +kernel, rfl, by decide +kernel, by decide +kernel⟩
theorem scLawLine : FnScope ["_law_digit"] ["_law_digit"] (defScope sLawLine) := ⟨rfl, rfl, rfl, by decide +kernel, rfl, by decide +kernel, by decide +kernel⟩
theorem scLawBlock : FnScope ["_law_d"] ["_law_d"] (defScope sLawBlock) := ⟨rfl, rfl, rfl, by decide +kernel, rfl, by decide +kernel, by decide +kernel⟩
theorem scLawArea : FnScope ["_law_d", "_law_kind"] ["_law_d"] (defScope sLawArea) := ⟨rfl, rfl, rfl, by decide +kernel, rfl, by decide +kernel, by decide +kernel⟩
theorem scLawLowest : FnScope ["_law_n", "_law_digit"] ["_law_n", "_law_digit"] (defScope sLawLowest) := ⟨rfl, rfl, rfl, by decide +kernel, rfl, by decide +kernel, by decide +kernel⟩
theorem scLawLeaf : FnScope ["_law_d", "_law_kind", "_law_areas", "_law_j"] ["_law_d"] (defScope sLawLeaf) := ⟨rfl, rfl, rfl, by decide +kernel, rfl, by decide +kernel, by decide +kernel⟩
theorem scLawTree : FnScope ["_law_d", "_law_tree_here", "_law_j"] ["_law_d"] (defScope sLawTree) := ⟨rfl, rfl, rfl, by decide +kernel, rfl, by decide +kernel, by decide +kernel⟩
theorem scLawContent : FnScope ["_law_d", "_law_kind"] ["_law_d"] (defScope sLawContent) := ⟨rfl, rfl, rfl, by decide +kernel, rfl, by decide +kernel, by decide +kernel⟩
theorem scLawSide : FnScope ["_law_d"] ["_law_d"] (defScope sLawSide) := ⟨rfl, rfl, rfl, by decide +kernel, rfl, by decide +kernel, by decide +kernel⟩
theorem scLawAction : FnScope ["_law_d", "_law_kind", "_law_axis", "_law_j", "_law_blocks", "_law_cells"] ["_law_d"] (defScope sLawAction) := ⟨rfl, rfl, rfl, by decide +kernel, rfl, by decide +kernel, by decide +kernel⟩
theorem scLawEdits : FnScope ["_law_script", "_law_edits_here", "_law_k", "_law_d", "_law_edit_id", "_law_seen", "_law_stamps", "_law_j", "_law_edit"] ["_law_script"] (defScope sLawEdits) := ⟨rfl, rfl, rfl, by decide +kernel, rfl, by decide +kernel, by decide +kernel⟩
theorem scLawBegin : FnScope ["_law_script"] ["_law_script"] (defScope sLawBegin) := ⟨rfl, rfl, rfl, by decide +kernel, rfl, by decide +kernel, by decide +kernel⟩
theorem scLawKey : FnScope ["_law_edit"] ["_law_edit"] (defScope sLawKey) := ⟨rfl, rfl, rfl, by decide +kernel, rfl, by decide +kernel, by decide +kernel⟩
theorem scLawSorted : FnScope ["_law_edits_here", "_law_found", "_law_edit", "_law_key_here"] ["_law_edits_here"] (defScope sLawSorted) := ⟨rfl, rfl, rfl, by decide +kernel, rfl, by decide +kernel, by decide +kernel⟩
theorem scLawNumbers : FnScope ["_law_numbers_here", "_law_data", "_law_n"] ["_law_numbers_here"] (defScope sLawNumbers) := ⟨rfl, rfl, rfl, by decide +kernel, rfl, by decide +kernel, by decide +kernel⟩
theorem scLawLines : FnScope ["_law_lines_here", "_law_numbers_here", "_law_line_here"] ["_law_lines_here"] (defScope sLawLines) := ⟨rfl, rfl, rfl, by decide +kernel, rfl, by decide +kernel, by decide +kernel⟩
theorem scLawString : FnScope ["_law_text", "_law_char"] ["_law_text"] (defScope sLawString) := ⟨rfl, rfl, rfl, by decide +kernel, rfl, by decide +kernel, by decide +kernel⟩
theorem scLawFraction : FnScope ["_law_x"] ["_law_x"] (defScope sLawFraction) := ⟨rfl, rfl, rfl, by decide +kernel, rfl, by decide +kernel, by decide +kernel⟩
theorem scLawAreaNumbers : FnScope ["_law_area_here"] ["_law_area_here"] (defScope sLawAreaNumbers) := ⟨rfl, rfl, rfl, by decide +kernel, rfl, by decide +kernel, by decide +kernel⟩
theorem scLawTreeNumbers : FnScope ["_law_tree_here", "_law_numbers_here", "_law_area_here"] ["_law_tree_here"] (defScope sLawTreeNumbers) := ⟨rfl, rfl, rfl, by decide +kernel, rfl, by decide +kernel, by decide +kernel⟩
theorem scLawContentNumbers : FnScope ["_law_content_here"] ["_law_content_here"] (defScope sLawContentNumbers) := ⟨rfl, rfl, rfl, by decide +kernel, rfl, by decide +kernel, by decide +kernel⟩
theorem scLawSideNumbers : FnScope ["_law_line_here"] ["_law_line_here"] (defScope sLawSideNumbers) := ⟨rfl, rfl, rfl, by decide +kernel, rfl, by decide +kernel, by decide +kernel⟩
theorem scLawActionNumbers : FnScope ["_law_action_here", "_law_side_here", "_law_numbers_here", "_law_block_here", "_law_cell_here"] ["_law_action_here"] (defScope sLawActionNumbers) := ⟨rfl, rfl, rfl, by decide +kernel, rfl, by decide +kernel, by decide +kernel⟩
theorem scLawEditNumbers : FnScope ["_law_edit"] ["_law_edit"] (defScope sLawEditNumbers) := ⟨rfl, rfl, rfl, by decide +kernel, rfl, by decide +kernel, by decide +kernel⟩
theorem scLawUpdateNumbers : FnScope ["_law_begin_here", "_law_edits_here", "_law_numbers_here", "_law_edit"] ["_law_begin_here", "_law_edits_here"] (defScope sLawUpdateNumbers) := ⟨rfl, rfl, rfl, by decide +kernel, rfl, by decide +kernel, by decide +kernel⟩
theorem scLawPlace : FnScope ["_law_data", "e"] ["_law_data"] (defScope sLawPlace) := ⟨rfl, rfl, rfl, by decide +kernel, rfl, by decide +kernel, by decide +kernel⟩
theorem scLawStarts : FnScope ["_law_numbers_here", "_law_starts_here", "_law_at", "_law_n"] ["_law_numbers_here"] (defScope sLawStarts) := ⟨rfl, rfl, rfl, by decide +kernel, rfl, by decide +kernel, by decide +kernel⟩
theorem scLawCut : FnScope ["_law_numbers_here", "_law_data", "_law_cell_here", "_law_at", "_law_place_here", "_law_start"] ["_law_numbers_here", "_law_data", "_law_cell_here"] (defScope sLawCut) := ⟨rfl, rfl, rfl, by decide +kernel, rfl, by decide +kernel, by decide +kernel⟩
theorem scLawLonger : FnScope ["_law_numbers_here", "_law_data", "_law_cell_here", "_law_k", "_law_start", "_law_size", "_law_last", "_law_changed"] ["_law_numbers_here", "_law_data", "_law_cell_here"] (defScope sLawLonger) := ⟨rfl, rfl, rfl, by decide +kernel, rfl, by decide +kernel, by decide +kernel⟩
theorem scLawOrder : FnScope ["_law_begin_here", "_law_edits_here", "_law_cell_here", "_law_told", "_law_k", "_law_numbers_here", "_law_edit", "_law_place_here"] ["_law_begin_here", "_law_edits_here", "_law_cell_here"] (defScope sLawOrder) := ⟨rfl, rfl, rfl, by decide +kernel, rfl, by decide +kernel, by decide +kernel⟩
theorem scLawDouble : FnScope ["_law_begin_here", "_law_edits_here", "_law_told", "_law_numbers_here", "_law_edit", "_law_place_here", "_law_seen", "_law_again"] ["_law_begin_here", "_law_edits_here"] (defScope sLawDouble) := ⟨rfl, rfl, rfl, by decide +kernel, rfl, by decide +kernel, by decide +kernel⟩
theorem scLaw : FnScope ["_law_script", "_law_edits_here", "_law_begin_here", "_law_numbers_here", "_law_data"] ["_law_script"] (defScope sLaw) := ⟨rfl, rfl, rfl, by decide +kernel, rfl, by decide +kernel, by decide +kernel⟩
set_option maxHeartbeats 0 in
structure Txt (K : PySem.W.Frag) (mg : Str → Option Value) where
  fStamp : Addr
  fdStamp : FuncData
  FStamp : Fun K "stamp" "stamp" sStamp fStamp fdStamp
  bStamp : Binds K fdStamp ["edit"] []
  gStamp : mg "stamp" = some (.ref fStamp)
  fPlace : Addr
  fdPlace : FuncData
  FPlace : Fun K "place" "place" sPlace fPlace fdPlace
  bPlace : Binds K fdPlace ["edit"] []
  gPlace : mg "place" = some (.ref fPlace)
  fReadString : Addr
  fdReadString : FuncData
  FReadString : Fun K "_read_string" "_read_string" sReadString fReadString fdReadString
  bReadString : Binds K fdReadString ["reader", "least", "most", "characters"] []
  gReadString : mg "_read_string" = some (.ref fReadString)
  fReadCharacter : Addr
  fdReadCharacter : FuncData
  FReadCharacter : Fun K "_read_character" "_read_character" sReadCharacter fReadCharacter fdReadCharacter
  bReadCharacter : Binds K fdReadCharacter ["reader", "characters"] []
  gReadCharacter : mg "_read_character" = some (.ref fReadCharacter)
  fReadWord : Addr
  fdReadWord : FuncData
  FReadWord : Fun K "_read_word" "_read_word" sReadWord fReadWord fdReadWord
  bReadWord : Binds K fdReadWord ["reader"] []
  gReadWord : mg "_read_word" = some (.ref fReadWord)
  fReadFraction : Addr
  fdReadFraction : FuncData
  FReadFraction : Fun K "_read_fraction" "_read_fraction" sReadFraction fReadFraction fdReadFraction
  bReadFraction : Binds K fdReadFraction ["reader"] []
  gReadFraction : mg "_read_fraction" = some (.ref fReadFraction)
  fReadLine : Addr
  fdReadLine : FuncData
  FReadLine : Fun K "_read_line" "_read_line" sReadLine fReadLine fdReadLine
  bReadLine : Binds K fdReadLine ["reader"] []
  gReadLine : mg "_read_line" = some (.ref fReadLine)
  fReadLines : Addr
  fdReadLines : FuncData
  FReadLines : Fun K "_read_lines" "_read_lines" sReadLines fReadLines fdReadLines
  bReadLines : Binds K fdReadLines ["reader", "many"] []
  gReadLines : mg "_read_lines" = some (.ref fReadLines)
  fReadNeighbour : Addr
  fdReadNeighbour : FuncData
  FReadNeighbour : Fun K "_read_neighbour" "_read_neighbour" sReadNeighbour fReadNeighbour fdReadNeighbour
  bReadNeighbour : Binds K fdReadNeighbour ["reader"] []
  gReadNeighbour : mg "_read_neighbour" = some (.ref fReadNeighbour)
  fReadArea : Addr
  fdReadArea : FuncData
  FReadArea : Fun K "_read_area" "_read_area" sReadArea fReadArea fdReadArea
  bReadArea : Binds K fdReadArea ["reader"] []
  gReadArea : mg "_read_area" = some (.ref fReadArea)
  fReadCall : Addr
  fdReadCall : FuncData
  FReadCall : Fun K "_read_call" "_read_call" sReadCall fReadCall fdReadCall
  bReadCall : Binds K fdReadCall ["reader"] []
  gReadCall : mg "_read_call" = some (.ref fReadCall)
  fReadOp : Addr
  fdReadOp : FuncData
  FReadOp : Fun K "_read_op" "_read_op" sReadOp fReadOp fdReadOp
  bReadOp : Binds K fdReadOp ["reader"] []
  gReadOp : mg "_read_op" = some (.ref fReadOp)
  fReadTree : Addr
  fdReadTree : FuncData
  FReadTree : Fun K "_read_tree" "_read_tree" sReadTree fReadTree fdReadTree
  bReadTree : Binds K fdReadTree ["reader"] []
  gReadTree : mg "_read_tree" = some (.ref fReadTree)
  fReadContent : Addr
  fdReadContent : FuncData
  FReadContent : Fun K "_read_content" "_read_content" sReadContent fReadContent fdReadContent
  bReadContent : Binds K fdReadContent ["reader"] []
  gReadContent : mg "_read_content" = some (.ref fReadContent)
  fReadCell : Addr
  fdReadCell : FuncData
  FReadCell : Fun K "_read_cell" "_read_cell" sReadCell fReadCell fdReadCell
  bReadCell : Binds K fdReadCell ["reader"] []
  gReadCell : mg "_read_cell" = some (.ref fReadCell)
  fReadInsert : Addr
  fdReadInsert : FuncData
  FReadInsert : Fun K "_read_insert" "_read_insert" sReadInsert fReadInsert fdReadInsert
  bReadInsert : Binds K fdReadInsert ["reader"] []
  gReadInsert : mg "_read_insert" = some (.ref fReadInsert)
  fReadDelete : Addr
  fdReadDelete : FuncData
  FReadDelete : Fun K "_read_delete" "_read_delete" sReadDelete fReadDelete fdReadDelete
  bReadDelete : Binds K fdReadDelete ["reader"] []
  gReadDelete : mg "_read_delete" = some (.ref fReadDelete)
  fReadWrite : Addr
  fdReadWrite : FuncData
  FReadWrite : Fun K "_read_write" "_read_write" sReadWrite fReadWrite fdReadWrite
  bReadWrite : Binds K fdReadWrite ["reader"] []
  gReadWrite : mg "_read_write" = some (.ref fReadWrite)
  fReadName : Addr
  fdReadName : FuncData
  FReadName : Fun K "_read_name" "_read_name" sReadName fReadName fdReadName
  bReadName : Binds K fdReadName ["reader"] []
  gReadName : mg "_read_name" = some (.ref fReadName)
  fReadUndo : Addr
  fdReadUndo : FuncData
  FReadUndo : Fun K "_read_undo" "_read_undo" sReadUndo fReadUndo fdReadUndo
  bReadUndo : Binds K fdReadUndo ["reader"] []
  gReadUndo : mg "_read_undo" = some (.ref fReadUndo)
  fReadHead : Addr
  fdReadHead : FuncData
  FReadHead : Fun K "_read_head" "_read_head" sReadHead fReadHead fdReadHead
  bReadHead : Binds K fdReadHead ["reader"] []
  gReadHead : mg "_read_head" = some (.ref fReadHead)
  fReadEdits : Addr
  fdReadEdits : FuncData
  FReadEdits : Fun K "_read_edits" "_read_edits" sReadEdits fReadEdits fdReadEdits
  bReadEdits : Binds K fdReadEdits ["reader", "many"] []
  gReadEdits : mg "_read_edits" = some (.ref fReadEdits)
  fReadUpdate : Addr
  fdReadUpdate : FuncData
  FReadUpdate : Fun K "read_update" "read_update" sReadUpdate fReadUpdate fdReadUpdate
  bReadUpdate : Binds K fdReadUpdate ["data"] []
  gReadUpdate : mg "read_update" = some (.ref fReadUpdate)
  fLawCell : Addr
  fdLawCell : FuncData
  FLawCell : Fun K "_law_cell" "_law_cell" sLawCell fLawCell fdLawCell
  bLawCell : Binds K fdLawCell ["_law_script", "_law_k"] []
  gLawCell : mg "_law_cell" = some (.ref fLawCell)
  fLawDigits : Addr
  fdLawDigits : FuncData
  FLawDigits : Fun K "_law_digits" "_law_digits" sLawDigits fLawDigits fdLawDigits
  bLawDigits : Binds K fdLawDigits ["_law_cell_here", "_law_k", "_law_most"] []
  gLawDigits : mg "_law_digits" = some (.ref fLawDigits)
  fLawPadded : Addr
  fdLawPadded : FuncData
  FLawPadded : Fun K "_law_padded" "_law_padded" sLawPadded fLawPadded fdLawPadded
  bLawPadded : Binds K fdLawPadded ["_law_cell_here", "_law_k"] []
  gLawPadded : mg "_law_padded" = some (.ref fLawPadded)
  fLawNumber : Addr
  fdLawNumber : FuncData
  FLawNumber : Fun K "_law_number" "_law_number" sLawNumber fLawNumber fdLawNumber
  bLawNumber : Binds K fdLawNumber ["_law_n"] []
  gLawNumber : mg "_law_number" = some (.ref fLawNumber)
  fLawLine : Addr
  fdLawLine : FuncData
  FLawLine : Fun K "_law_line" "_law_line" sLawLine fLawLine fdLawLine
  bLawLine : Binds K fdLawLine ["_law_digit"] []
  gLawLine : mg "_law_line" = some (.ref fLawLine)
  fLawBlock : Addr
  fdLawBlock : FuncData
  FLawBlock : Fun K "_law_block" "_law_block" sLawBlock fLawBlock fdLawBlock
  bLawBlock : Binds K fdLawBlock ["_law_d"] []
  gLawBlock : mg "_law_block" = some (.ref fLawBlock)
  fLawArea : Addr
  fdLawArea : FuncData
  FLawArea : Fun K "_law_area" "_law_area" sLawArea fLawArea fdLawArea
  bLawArea : Binds K fdLawArea ["_law_d"] []
  gLawArea : mg "_law_area" = some (.ref fLawArea)
  fLawLowest : Addr
  fdLawLowest : FuncData
  FLawLowest : Fun K "_law_lowest" "_law_lowest" sLawLowest fLawLowest fdLawLowest
  bLawLowest : Binds K fdLawLowest ["_law_n", "_law_digit"] []
  gLawLowest : mg "_law_lowest" = some (.ref fLawLowest)
  fLawLeaf : Addr
  fdLawLeaf : FuncData
  FLawLeaf : Fun K "_law_leaf" "_law_leaf" sLawLeaf fLawLeaf fdLawLeaf
  bLawLeaf : Binds K fdLawLeaf ["_law_d"] []
  gLawLeaf : mg "_law_leaf" = some (.ref fLawLeaf)
  fLawTree : Addr
  fdLawTree : FuncData
  FLawTree : Fun K "_law_tree" "_law_tree" sLawTree fLawTree fdLawTree
  bLawTree : Binds K fdLawTree ["_law_d"] []
  gLawTree : mg "_law_tree" = some (.ref fLawTree)
  fLawContent : Addr
  fdLawContent : FuncData
  FLawContent : Fun K "_law_content" "_law_content" sLawContent fLawContent fdLawContent
  bLawContent : Binds K fdLawContent ["_law_d"] []
  gLawContent : mg "_law_content" = some (.ref fLawContent)
  fLawSide : Addr
  fdLawSide : FuncData
  FLawSide : Fun K "_law_side" "_law_side" sLawSide fLawSide fdLawSide
  bLawSide : Binds K fdLawSide ["_law_d"] []
  gLawSide : mg "_law_side" = some (.ref fLawSide)
  fLawAction : Addr
  fdLawAction : FuncData
  FLawAction : Fun K "_law_action" "_law_action" sLawAction fLawAction fdLawAction
  bLawAction : Binds K fdLawAction ["_law_d"] []
  gLawAction : mg "_law_action" = some (.ref fLawAction)
  fLawEdits : Addr
  fdLawEdits : FuncData
  FLawEdits : Fun K "_law_edits" "_law_edits" sLawEdits fLawEdits fdLawEdits
  bLawEdits : Binds K fdLawEdits ["_law_script"] []
  gLawEdits : mg "_law_edits" = some (.ref fLawEdits)
  fLawBegin : Addr
  fdLawBegin : FuncData
  FLawBegin : Fun K "_law_begin" "_law_begin" sLawBegin fLawBegin fdLawBegin
  bLawBegin : Binds K fdLawBegin ["_law_script"] []
  gLawBegin : mg "_law_begin" = some (.ref fLawBegin)
  fLawKey : Addr
  fdLawKey : FuncData
  FLawKey : Fun K "_law_key" "_law_key" sLawKey fLawKey fdLawKey
  bLawKey : Binds K fdLawKey ["_law_edit"] []
  gLawKey : mg "_law_key" = some (.ref fLawKey)
  fLawSorted : Addr
  fdLawSorted : FuncData
  FLawSorted : Fun K "_law_sorted" "_law_sorted" sLawSorted fLawSorted fdLawSorted
  bLawSorted : Binds K fdLawSorted ["_law_edits_here"] []
  gLawSorted : mg "_law_sorted" = some (.ref fLawSorted)
  fLawNumbers : Addr
  fdLawNumbers : FuncData
  FLawNumbers : Fun K "_law_numbers" "_law_numbers" sLawNumbers fLawNumbers fdLawNumbers
  bLawNumbers : Binds K fdLawNumbers ["_law_numbers_here"] []
  gLawNumbers : mg "_law_numbers" = some (.ref fLawNumbers)
  fLawLines : Addr
  fdLawLines : FuncData
  FLawLines : Fun K "_law_lines" "_law_lines" sLawLines fLawLines fdLawLines
  bLawLines : Binds K fdLawLines ["_law_lines_here"] []
  gLawLines : mg "_law_lines" = some (.ref fLawLines)
  fLawString : Addr
  fdLawString : FuncData
  FLawString : Fun K "_law_string" "_law_string" sLawString fLawString fdLawString
  bLawString : Binds K fdLawString ["_law_text"] []
  gLawString : mg "_law_string" = some (.ref fLawString)
  fLawFraction : Addr
  fdLawFraction : FuncData
  FLawFraction : Fun K "_law_fraction" "_law_fraction" sLawFraction fLawFraction fdLawFraction
  bLawFraction : Binds K fdLawFraction ["_law_x"] []
  gLawFraction : mg "_law_fraction" = some (.ref fLawFraction)
  fLawAreaNumbers : Addr
  fdLawAreaNumbers : FuncData
  FLawAreaNumbers : Fun K "_law_area_numbers" "_law_area_numbers" sLawAreaNumbers fLawAreaNumbers fdLawAreaNumbers
  bLawAreaNumbers : Binds K fdLawAreaNumbers ["_law_area_here"] []
  gLawAreaNumbers : mg "_law_area_numbers" = some (.ref fLawAreaNumbers)
  fLawTreeNumbers : Addr
  fdLawTreeNumbers : FuncData
  FLawTreeNumbers : Fun K "_law_tree_numbers" "_law_tree_numbers" sLawTreeNumbers fLawTreeNumbers fdLawTreeNumbers
  bLawTreeNumbers : Binds K fdLawTreeNumbers ["_law_tree_here"] []
  gLawTreeNumbers : mg "_law_tree_numbers" = some (.ref fLawTreeNumbers)
  fLawContentNumbers : Addr
  fdLawContentNumbers : FuncData
  FLawContentNumbers : Fun K "_law_content_numbers" "_law_content_numbers" sLawContentNumbers fLawContentNumbers fdLawContentNumbers
  bLawContentNumbers : Binds K fdLawContentNumbers ["_law_content_here"] []
  gLawContentNumbers : mg "_law_content_numbers" = some (.ref fLawContentNumbers)
  fLawSideNumbers : Addr
  fdLawSideNumbers : FuncData
  FLawSideNumbers : Fun K "_law_side_numbers" "_law_side_numbers" sLawSideNumbers fLawSideNumbers fdLawSideNumbers
  bLawSideNumbers : Binds K fdLawSideNumbers ["_law_line_here"] []
  gLawSideNumbers : mg "_law_side_numbers" = some (.ref fLawSideNumbers)
  fLawActionNumbers : Addr
  fdLawActionNumbers : FuncData
  FLawActionNumbers : Fun K "_law_action_numbers" "_law_action_numbers" sLawActionNumbers fLawActionNumbers fdLawActionNumbers
  bLawActionNumbers : Binds K fdLawActionNumbers ["_law_action_here"] []
  gLawActionNumbers : mg "_law_action_numbers" = some (.ref fLawActionNumbers)
  fLawEditNumbers : Addr
  fdLawEditNumbers : FuncData
  FLawEditNumbers : Fun K "_law_edit_numbers" "_law_edit_numbers" sLawEditNumbers fLawEditNumbers fdLawEditNumbers
  bLawEditNumbers : Binds K fdLawEditNumbers ["_law_edit"] []
  gLawEditNumbers : mg "_law_edit_numbers" = some (.ref fLawEditNumbers)
  fLawUpdateNumbers : Addr
  fdLawUpdateNumbers : FuncData
  FLawUpdateNumbers : Fun K "_law_update_numbers" "_law_update_numbers" sLawUpdateNumbers fLawUpdateNumbers fdLawUpdateNumbers
  bLawUpdateNumbers : Binds K fdLawUpdateNumbers ["_law_begin_here", "_law_edits_here"] []
  gLawUpdateNumbers : mg "_law_update_numbers" = some (.ref fLawUpdateNumbers)
  fLawPlace : Addr
  fdLawPlace : FuncData
  FLawPlace : Fun K "_law_place" "_law_place" sLawPlace fLawPlace fdLawPlace
  bLawPlace : Binds K fdLawPlace ["_law_data"] []
  gLawPlace : mg "_law_place" = some (.ref fLawPlace)
  fLawStarts : Addr
  fdLawStarts : FuncData
  FLawStarts : Fun K "_law_starts" "_law_starts" sLawStarts fLawStarts fdLawStarts
  bLawStarts : Binds K fdLawStarts ["_law_numbers_here"] []
  gLawStarts : mg "_law_starts" = some (.ref fLawStarts)
  fLawCut : Addr
  fdLawCut : FuncData
  FLawCut : Fun K "_law_cut" "_law_cut" sLawCut fLawCut fdLawCut
  bLawCut : Binds K fdLawCut ["_law_numbers_here", "_law_data", "_law_cell_here"] []
  gLawCut : mg "_law_cut" = some (.ref fLawCut)
  fLawLonger : Addr
  fdLawLonger : FuncData
  FLawLonger : Fun K "_law_longer" "_law_longer" sLawLonger fLawLonger fdLawLonger
  bLawLonger : Binds K fdLawLonger ["_law_numbers_here", "_law_data", "_law_cell_here"] []
  gLawLonger : mg "_law_longer" = some (.ref fLawLonger)
  fLawOrder : Addr
  fdLawOrder : FuncData
  FLawOrder : Fun K "_law_order" "_law_order" sLawOrder fLawOrder fdLawOrder
  bLawOrder : Binds K fdLawOrder ["_law_begin_here", "_law_edits_here", "_law_cell_here"] []
  gLawOrder : mg "_law_order" = some (.ref fLawOrder)
  fLawDouble : Addr
  fdLawDouble : FuncData
  FLawDouble : Fun K "_law_double" "_law_double" sLawDouble fLawDouble fdLawDouble
  bLawDouble : Binds K fdLawDouble ["_law_begin_here", "_law_edits_here"] []
  gLawDouble : mg "_law_double" = some (.ref fLawDouble)
  fLaw : Addr
  fdLaw : FuncData
  FLaw : Fun K "law" "law" sLaw fLaw fdLaw
  bLaw : Binds K fdLaw ["_law_script"] []
  gLaw : mg "law" = some (.ref fLaw)
  z_tuple : mg "tuple" = none
  z_range : mg "range" = none
  z_sorted : mg "sorted" = none
  z_len : mg "len" = none
  z_sum : mg "sum" = none
  z_reversed : mg "reversed" = none
  z_int : mg "int" = none
  z_ord : mg "ord" = none
  z_list : mg "list" = none
  z_isinstance : mg "isinstance" = none
  t_MOST : Nat
  g_MOST : mg "MOST" = some (.int 100000 t_MOST)
  t_MOST_OF_FRACTION : Nat
  g_MOST_OF_FRACTION : mg "MOST_OF_FRACTION" = some (.int 100000000000000000000 t_MOST_OF_FRACTION)
  t_MOST_ROWS : Nat
  g_MOST_ROWS : mg "MOST_ROWS" = some (.int 8 t_MOST_ROWS)
  t_MOST_COLUMNS : Nat
  g_MOST_COLUMNS : mg "MOST_COLUMNS" = some (.int 6 t_MOST_COLUMNS)
  t_LONGEST_TEXT : Nat
  g_LONGEST_TEXT : mg "LONGEST_TEXT" = some (.int 60 t_LONGEST_TEXT)
  t_MOST_BLOCKS : Nat
  g_MOST_BLOCKS : mg "MOST_BLOCKS" = some (.int 4 t_MOST_BLOCKS)
  t_LARGEST_TREE : Nat
  g_LARGEST_TREE : mg "LARGEST_TREE" = some (.int 60 t_LARGEST_TREE)
  t_SHORTEST_NAME : Nat
  g_SHORTEST_NAME : mg "SHORTEST_NAME" = some (.int 2 t_SHORTEST_NAME)
  t_LONGEST_WORD : Nat
  g_LONGEST_WORD : mg "LONGEST_WORD" = some (.int 8 t_LONGEST_WORD)
  t_SMALL : Nat
  g_SMALL : mg "SMALL" = some (.str "abcdefghijklmnopqrstuvwxyz" t_SMALL)
  t_CHARACTERS : Nat
  g_CHARACTERS : mg "CHARACTERS" = some (.str " !\"#$&'()*+,-./0123456789:;<=>?@ABCDEFGHIJKLMNOPQRSTUVWXYZ[\\]^_`abcdefghijklmnopqrstuvwxyz{|}~" t_CHARACTERS)
  p_CALLS : Addr
  g_CALLS : mg "CALLS" = some (.ref p_CALLS)
  k_CALLS : ∀ H, SqT K H p_CALLS [.str "sum", .str "count", .str "min", .str "max"]
  w_CALLS : ∃ o, K.lookup p_CALLS = some o ∧ o.cls = .type "tuple" ∧ o.dict = none
  p_OPERATORS : Addr
  g_OPERATORS : mg "OPERATORS" = some (.ref p_OPERATORS)
  k_OPERATORS : ∀ H, SqT K H p_OPERATORS [.str "+", .str "-", .str "*", .str "/"]
  w_OPERATORS : ∃ o, K.lookup p_OPERATORS = some o ∧ o.cls = .type "tuple" ∧ o.dict = none
  p_AXES : Addr
  g_AXES : mg "AXES" = some (.ref p_AXES)
  k_AXES : ∀ H, SqT K H p_AXES [.str "row", .str "column"]
  w_AXES : ∃ o, K.lookup p_AXES = some o ∧ o.cls = .type "tuple" ∧ o.dict = none
  p_READERS : Addr
  g_READERS : mg "READERS" = some (.ref p_READERS)
  k_READERS : ∀ H, SqT K H p_READERS [.ref fReadInsert, .ref fReadDelete, .ref fReadWrite, .ref fReadName, .ref fReadUndo]
  w_READERS : ∃ o, K.lookup p_READERS = some o ∧ o.cls = .type "tuple" ∧ o.dict = none
  cReader : Addr
  gKReader : mg "Reader" = some (.ref cReader)
  clReader : Cls K cReader
  fReader_Init : Addr
  fdReader_Init : FuncData
  FReader_Init : Fun K "__init__" "Reader.__init__" sReader_Init fReader_Init fdReader_Init
  bReader_Init : Binds K fdReader_Init ["self", "data"] []
  meReader_Init : Meth K cReader "__init__" fReader_Init
  fReader_Integer : Addr
  fdReader_Integer : FuncData
  FReader_Integer : Fun K "integer" "Reader.integer" sReader_Integer fReader_Integer fdReader_Integer
  bReader_Integer : Binds K fdReader_Integer ["self"] []
  meReader_Integer : Meth K cReader "integer" fReader_Integer
  fReader_Number : Addr
  fdReader_Number : FuncData
  FReader_Number : Fun K "number" "Reader.number" sReader_Number fReader_Number fdReader_Number
  bReader_Number : Binds K fdReader_Number ["self", "least", "most"] []
  meReader_Number : Meth K cReader "number" fReader_Number
  fReader_Choice : Addr
  fdReader_Choice : FuncData
  FReader_Choice : Fun K "choice" "Reader.choice" sReader_Choice fReader_Choice fdReader_Choice
  bReader_Choice : Binds K fdReader_Choice ["self", "words"] []
  meReader_Choice : Meth K cReader "choice" fReader_Choice
  fReader_Part : Addr
  fdReader_Part : FuncData
  FReader_Part : Fun K "part" "Reader.part" sReader_Part fReader_Part fdReader_Part
  bReader_Part : Binds K fdReader_Part ["self", "most"] []
  meReader_Part : Meth K cReader "part" fReader_Part
  mkReader : Mk K cReader fReader_Init
  naReader_source : NoAttr K cReader "source"
  naReader_at : NoAttr K cReader "at"
  naReader_room : NoAttr K cReader "room"
  cTableError : Addr
  gKTableError : mg "TableError" = some (.ref cTableError)
  cInvalidBytes : Addr
  gKInvalidBytes : mg "InvalidBytes" = some (.ref cInvalidBytes)
  oKInvalidBytes : OexC K cInvalidBytes
  xKInvalidBytes : XfC K cInvalidBytes
  eKInvalidBytes : ExK K cInvalidBytes
  fInvalidBytes_Init : Addr
  fdInvalidBytes_Init : FuncData
  FInvalidBytes_Init : Fun K "__init__" "InvalidBytes.__init__" sInvalidBytes_Init fInvalidBytes_Init fdInvalidBytes_Init
  bInvalidBytes_Init : Binds K fdInvalidBytes_Init ["self", "at"] []
  iKInvalidBytes : PySem.W.findIn K (.ref cInvalidBytes) "__init__" = some (some (.ref fInvalidBytes_Init))
  tKInvalidBytes : PySem.W.typeIn K (.ref fInvalidBytes_Init) = some (.type "function")
  nKInvalidBytes_at : PySem.W.findIn K (.ref cInvalidBytes) "at" = some none
  mKInvalidBytes_TableError : PySem.W.exmOne K (.ref cInvalidBytes) (.ref cTableError) = some true
  mKInvalidBytes_InvalidBytes : PySem.W.exmOne K (.ref cInvalidBytes) (.ref cInvalidBytes) = some true
  kKInvalidBytes_InvalidBytes : PySem.W.kitOne K (.ref cInvalidBytes) (.ref cInvalidBytes) = some true
section
variable {P : Program} {w : World} {K : PySem.W.Frag} {mg : Str → Option Value} {base : Heap}
/-! ### heaps -/
theorem _root_.L2.Same.tup {K : PySem.W.Frag} {H H' : Hp} {a : Addr} {xs : List V} (e : Same H H') (h : SqT K H a xs) : SqT K H' a xs := by
  rcases h with (h | ⟨o, h⟩) | h
  · exact .inl (.inl (e _ _ h))
  · exact .inl (.inr ⟨o, e _ _ h⟩)
  · exact .inr h
theorem same_new {H : Hp} {p : Addr} {o : HO} (h : H p = none) : Same H (upd H p o) := fun b x e => by
  rw [upd_ne (ne_of_none e h)]
  exact e
theorem same_mut {H H' : Hp} {p : Addr} {o : HO} (e : Same H H') (h : H p = none) : Same H (upd H' p o) := fun b x ha => by
  rw [upd_ne (ne_of_none ha h)]
  exact e b x ha
theorem walk_zipT {K : PySem.W.Frag} {a b : Addr} {xs ys : List V} {n : Nat} (hn : n = min xs.length ys.length) : Walk (ItzT K a b) n (fun H => SqT K H a xs ∧ SqT K H b ys) (YPair (fun i => xs[i]?) (fun i => ys[i]?)) := by
  subst hn
  refine ⟨fun i _ hi q => ?_, fun _ q => ⟨xs, ys, q.1, q.2, by omega⟩, fun i H v H' _ q y => ?_⟩
  · have h1 : i < xs.length := by omega
    have h2 : i < ys.length := by omega
    exact ⟨xs, ys, xs[i], ys[i], q.1, q.2, by simp [h1], by simp [h2]⟩
  · obtain ⟨T, x, z, h1, h2, h3, h4, h5⟩ := y
    exact ⟨T, x, z, h1, h2, h3, h4 xs q.1, h5 ys q.2⟩
/-- a function that hands back a bool or an int and changes nothing -/
theorem getD_at {ns : List Int} {i : Nat} (h : i < ns.length) : (ns.map V.int)[i]? = some (.int (ns.getD i 0)) := by
  rw [List.getElem?_map, List.getElem?_eq_getElem h, List.getD_eq_getElem?_getD, List.getElem?_eq_getElem h]
  rfl
theorem dp_ints {K : PySem.W.Frag} {H : Hp} : ∀ ns : List Int, DpAll K H (ns.map V.int) (ns.map PyData.int)
  | [] => .nil
  | n :: r => .cons (.int n) (dp_ints r)
theorem shaped_tup (ns : List Int) : SeqAt.shaped (.tuple (ns.map PyData.int)) = true := by
  simp [SeqAt.shaped, PyData.canLay0, PyData.depth, PySem.W.ke_canLayAll0, PySem.W.ke_depthAll]
theorem shaped_lst (ns : List Int) : SeqAt.shaped (.list (ns.map PyData.int)) = true := PySem.W.ke_shaped_ints ns
theorem eqv_same {d : PyData} (h : SeqAt.shaped d = true) : PyData.eqv d d = true := by
  refine SeqAt.eqv_refl d ?_
  unfold SeqAt.shaped at h
  exact (Bool.and_eq_true _ _ ▸ h).1
theorem yesT {σ : L2.St} {H : Hp} {A B : Hp → Prop} (h : A H) : tYes σ H (fun b H3 => if b = true then A H3 else B H3) := iteT (A := A H) (B := B H) h
open L2H
open TL (numL)
/-! ### errors: made, raised, caught -/
theorem takesN {X : Cx} : L2N.Takes X (fun _ _ _ _ => False) := fun _ _ z => by
  obtain ⟨_, _, _, _, _, _, _, _, _, _, _, _, _, _, _, _, no⟩ := z
  exact no.elim
theorem hot_of {X : Cx} {a : Addr} {oe : Obj} {cls : Value} {d : Option Addr} {pn : List (Addr × Obj)} (hz : L2N.Zn cls d oe) (hf : ∃ vs, oe.data = .fields vs) : HotC (X.suite a ((a, oe) :: pn)) := by
  obtain ⟨vs, hv⟩ := hf
  exact ⟨(a, oe), ⟨rfl, vs, hv, hz.2.2 vs hv⟩, List.mem_cons_self ..⟩
theorem okN {x qual : Str} {st : Stmt} {f : Addr} {fd : FuncData} {N ps : List Str} {k : Nat} {sp : Sp} (F : Fun K x qual st f fd) (S : FnScope N ps (defScope st)) (len : ∀ vs H Q E, sp vs H Q E → vs.length = ps.length)
    (go : ∀ (cdv : Value) (A : Around) (outer : List Env) (s : Shared) (H : Hp) (vs : List V) (Q : VK) (E : XK), Room k (A.deeper (envOfC qual (defScope st) s.heap.objs.size f cdv)) → sp vs H Q E →
      ∃ t, PSs (cxOf (L2N.CX P w) P w K mg base N qual (defScope st) f cdv A outer s H E) (defBody st) t ∧ t { nx := fun _ G => Q .non G, rt := Q } (start N vs) H) : FnOk P w K mg base (L2N.CX P w) (k + 1) f fd ps sp := by
  obtain ⟨oc, od, kV, doc, pm, an, cdv, ct, osl, rfl, look, code⟩ := F.ex
  exact fn_of look code S len fun A outer s H vs Q E room h => go cdv A outer s H vs Q E room h
theorem okHot {x qual : Str} {st : Stmt} {f : Addr} {fd : FuncData} {N ps : List Str} {k : Nat} {sp : Sp} (F : Fun K x qual st f fd) (S : FnScope N ps (defScope st)) (len : ∀ vs H Q E, sp vs H Q E → vs.length = ps.length)
    (go : ∀ (cdv : Value) (A : Around) (outer : List Env) (s : Shared) (H : Hp) (vs : List V) (Q : VK) (E : XK) (p : Addr × Obj), Hot1 A p → RoomH k (A.deeper (envOfC qual (defScope st) s.heap.objs.size f cdv)) → sp vs H Q E →
      ∃ t, PSs (cxH CX0 P w K mg base N qual (defScope st) f cdv A outer s H E p) (defBody st) t ∧ t { nx := fun _ G => Q .non G, rt := Q } (start N vs) H) : FnH P w K mg base CX0 (k + 1) f fd ps sp := by
  obtain ⟨oc, od, kV, doc, pm, an, cdv, ct, osl, rfl, look, code⟩ := F.ex
  exact fn_ofH look code S len fun A outer s H vs Q E p hot room h => go cdv A outer s H vs Q E p hot room h
/-- isinstance(e, D) of the error that the suite holds -/
def rIsX (K : PySem.W.Frag) (a C : Addr) (cls : Value) (d : Option Addr) : List V → Hp → VK → Prop := fun xs H Q => ∃ (D dd : Addr) (fs : List (Str × V)) (b : Bool), xs = [.ref a, .ref D] ∧ cls = .ref C ∧ d = some dd ∧ H dd = some (.xd fs) ∧ PySem.W.kitOne K (.ref C) (.ref D) = some b ∧ Q (.bl b) H
theorem cr_isX {X : Cx} {a C : Addr} {cls : Value} {d : Option Addr} {oe : Obj} {pn : List (Addr × Obj)} (Z : ExK X.K C) (hz : Zc cls d oe) (hf : ∃ vs, oe.data = .fields vs) : CallR (X.suite a ((a, oe) :: pn)) (.builtin "isinstance") (rIsX X.K a C cls d) := by
  intro pins s σ H xs us Q I r h
  obtain ⟨D, dd, fs, b, rfl, rfl, rfl, hd, e, q⟩ := h
  cases r with
  | cons r1 rr =>
    cases rr with
    | cons r2 rr =>
      cases rr
      cases r1
      cases r2
      have there := (I.pin (a, oe) (List.mem_append_left _ (List.mem_cons_self ..))).1
      obtain ⟨vs, hv⟩ := hf
      have ox : ObjOk X.prog X.w H s.heap dd (.xd fs) := I.hok dd _ hd
      obtain ⟨m, hn, _⟩ := ox
      obtain ⟨od, ho, _⟩ := lookIn_ns hn
      have J : PySem.W.InstAt s.heap a oe C (some od) := ⟨there, hz.1, by unfold PySem.W.notCls; rw [hv] <;> rfl, by rw [hz.2]; exact ho⟩
      exact PySem.W.kia_one (PySem.W.kitx_exc Z.cl Z.x.ga Z.x.gg Z.x.exC Z.cc Z.cn Z.ct Z.cm) I.kIn J e (fun z => nomatch z) fun tk => ⟨.bl b, H, I.tok tk, rfl, q⟩
/-- C(e, ..), made where nothing is handled -/
theorem mkN {X : Cx} {CX : CXT} {nm : Str} {C g : Addr} {j : Nat} {fd : FuncData} {pz : List Str} {sp : Sp} {e0 : Expr} {er : List Expr} {tg : TA} {p1 p2 : Pos} (O : OexC X.K C) (hI : PySem.W.findIn X.K (.ref C) "__init__" = some (some (.ref g)))
    (hT : PySem.W.typeIn X.K (.ref g) = some (.type "function")) (G : FnOk X.prog X.w X.K X.mg X.base CX j g fd pz sp) (rm : Room (j + 1) X.A) (bn : Binds X.K fd pz []) (no : Passes CX X (fun _ _ _ => False)) (gl : Gl X nm) (at_ : X.mg nm = some (.ref C)) (as : PA X (e0 :: er) tg)
    (nd : (nm == ("__debug__" : Str)) = false := by decide) (st : starEach (e0 :: er) X.env = (false, eval e0 X.env) :: starEach er X.env := by rfl) (pl : (backTo p2 (starEach er X.env)).any (·.1) = false := by rfl) :
    L2N.PMk X (.Call (.Name nm p1) (e0 :: er) [] p2) (tMkO C sp [] tg) := by
  intro pins s σ H Q I h
  obtain ⟨n1, n2, n3, n4, bm, n5, n6, n7, n8, n9, m0, m1, m2, m3, m5, hC, hbm⟩ := O.cls
  refine wpAny_Call_Name_kw (ld_glob I gl at_ ?_ nd)
  refine PySem.W.callWith_K (h₀ := X.base) I.ok.mod.kin O.kC (thn (as.run p2 pins s σ H _ I h) fun us s1 ⟨vs, H1, J1, r1, hz, q1⟩ => ⟨J1.kIn, ?_⟩) st pl
  show wpAny _ _ (call (.ref C) us) _ _ _
  obtain ⟨hp, gs, dr, tok, os⟩ := s1
  have up1 : hp.objs.size ≤ hp.objs.size + 1 := Nat.le_succ _
  have hq := q1 (hp.objs.size + 1) (J1.hok.fresh up1)
  have old : ∀ b o, hp.get? b = some o → ((hp.push (PySem.W.kdv_tup us)).push (PySem.HandSPX.excO C hp.objs.size)).get? b = some o := fun b o z => Heap.get?_push_of_some _ (Heap.get?_push_of_some _ z)
  have new : ((hp.push (PySem.W.kdv_tup us)).push (PySem.HandSPX.excO C hp.objs.size)).get? (hp.objs.size + 1) = some (PySem.HandSPX.excO C hp.objs.size) := by heap_get
  have J2 : Inv X pins σ (upd H1 (hp.objs.size + 1) (exo (hp.objs.size + 1) C none)) ⟨(hp.push (PySem.W.kdv_tup us)).push (PySem.HandSPX.excO C hp.objs.size), gs, dr, tok, os⟩ := J1.laid (t' := tok) old up1 (exo_ok new)
  rw [List.append_nil] at hq
  have r2 : Vals (V.ref (hp.objs.size + 1) :: vs) (Value.ref (hp.objs.size + 1) :: us) := .cons rfl r1
  have nl : (Value.ref (hp.objs.size + 1) :: us).length = pz.length := r2.length.symm.trans (G.len _ _ _ _ hq)
  have bd := bn ⟨(hp.push (PySem.W.kdv_tup us)).push (PySem.HandSPX.excO C hp.objs.size), gs, dr, tok, os⟩ (Value.ref (hp.objs.size + 1) :: us) J2.kIn (by rw [List.append_nil]; exact nl)
  rw [List.append_nil] at bd
  have sz : us.length ≤ sizeLine := by
    rw [← r1.length, sizeLine_eq]
    omega
  refine wpAny_call (PySem.HandSPX.call_own F.excBase_ValueError (fun z => PySem.HandSPX.refsVE_contains z bm hbm) (J1.kIn _ _ hC) (PySem.W.looks_findIn J1.kIn hI) (fun z => PySem.W.bind_fn J1.kIn z hT) sz (codeAny_mono (G.run _ X.stack _ _ ⟨Value.ref (hp.objs.size + 1) :: us, []⟩ _ _ _ (fun _ _ _ => False) (rm.make C us []) (J2.env0.make C us []) bd r2 hq) fun r s2 w => ?_))
  cases r with
  | error er => exact no pins σ _ _ er s2 J2 w
  | ok fl =>
    cases fl with
    | ret u =>
      obtain ⟨v, H2, os2, bare2, un2, hok2, rv, ev, d, fs, ea, ed, hd1, q2⟩ := w
      subst ev
      obtain ⟨h2, gs2, dr2, tok2, os3⟩ := s2
      obtain ⟨t0, G2, J, _, ge, hoe, na⟩ := mk_end0 (d2 := dr2) (t2 := tok2) J1 up1 old un2 hok2 os2 bare2 ea ed hd1
      have kG : ∀ b o, G2.get? b = some o → h2.get? b = some o := by assumption
      exact ⟨rv, hp.objs.size + 1, _, _, ⟨G2, gs2, dr2, tok2, os3⟩, _, .ref C, some d, rfl, J, kG, ge, hoe, ⟨rfl, rfl, fun vs hv => by cases hv; rfl⟩, rfl, rfl, na, rfl, bare2, raises_own O.exC O.tyC, q2⟩
    | next => exact w.elim
    | brk => exact w.elim
    | cont => exact w.elim
/-- the promise of an __init__ that keeps its one argument -/
def spIni (K : PySem.W.Frag) (C : Addr) (f : Str) : Sp := fun vs H Q _ => ∃ (a : Addr) (y : V), vs = [.ref a, y] ∧ H a = some (exo a C none) ∧ ∀ d, H d = none → d ≠ a → Q .non (upd (upd H d (exd d [(f, y)])) a (exo a C (some d)))
theorem mk_heap {H : Hp} {a d : Addr} {o1 o2 o3 o4 : HO} (ha : H a = none) (hd : d ≠ a) : upd (del (upd (upd (upd H a o1) d o2) a o3) a) d o4 = upd H d o4 := by
  funext b
  by_cases h1 : b = d
  · rw [h1, upd_same, upd_same]
  · rw [upd_ne h1, upd_ne h1]
    by_cases h2 : b = a
    · rw [h2, del_same, ha]
    · rw [del_ne h2, upd_ne h2, upd_ne h1, upd_ne h2]
/-- what raising such an error asks -/
theorem ini_of {K : PySem.W.Frag} {C : Addr} {f : Str} {y : V} {H : Hp} {Q : XK} (q : ∀ d, H d = none → Q (.ref C) (some d) (upd H d (.xd [(f, y)]))) : ∀ a, H a = none → spIni K C f (.ref a :: ([y] ++ [])) (upd H a (exo a C none))
    (fun v H2 => v = .non ∧ ∃ (d : Addr) (fs : List (Str × V)), H2 a = some (exo a C (some d)) ∧ H2 d = some (exd d fs) ∧ H d = none ∧ Q (.ref C) (some d) (upd (del H2 a) d (.xd fs))) (fun _ _ _ => False) := fun a ha =>
  ⟨a, y, rfl, upd_same, fun d hd hne => by
    have hd0 : H d = none := by
      rw [upd_ne hne] at hd
      exact hd
    refine ⟨rfl, d, [(f, y)], upd_same, by rw [upd_ne hne, upd_same], hd0, ?_⟩
    rw [mk_heap ha hne]
    exact q d hd0⟩
/-! ### methods that may raise -/
def tMethE (C : Addr) (m : Str) (sp : Sp) (E : L2.St → XK) (ta : TE) (t : TA) : TE := fun σ H Q => ta σ H fun x H1 => ∃ a dx fs, x = .ref a ∧ H1 a = some (.ins C dx fs) ∧ fs.lookup m = none ∧ t σ H1 fun vs H2 => sp (x :: vs) H2 Q (E σ)
theorem pe_methE {X : Cx} {CX : CXT} {k : Nat} {C f : Addr} {fd : FuncData} {ps : List Str} {m : Str} {sp : Sp} {E : L2.St → XK} {o e : Expr} {es : List Expr} {ta : TE} {t : TA} {apos pos : Pos} {pl : Sem Bool} (he : PE X o ta) (c : Cls X.K C) (hm : Meth X.K C m f)
    (F : FnOk X.prog X.w X.K X.mg X.base CX k f fd ps sp) (hr : Room k X.A) (hb : Binds X.K fd ps []) (hx : ∀ σ, PassesAt CX X σ (E σ)) (ha : PA X (e :: es) t)
    (hst : starEach (e :: es) X.env = (false, eval e X.env) :: starEach es X.env := by rfl) (hpl : (backTo pos (starEach es X.env)).any (·.1) = false := by rfl)
    (ht : eval (.Call (.Attribute o m apos) (e :: es) [] pos) X.env = (do
      let ov ← eval o X.env
      standAt apos.atName
      let (f, first) ← holding [ov] (getMethod ov m pl)
      callWith pos f first (backTo pos (starEach (e :: es) X.env)) (backToKw pos (keywordEach [] X.env))) := by rfl) :
    PE X (.Call (.Attribute o m apos) (e :: es) [] pos) (tMethE C m sp E ta t) := by
  refine ⟨fun pins s σ H Q I h => ?_⟩
  refine PySem.W.methodCall_KW (pl := pl) (thn (he.run pins s σ H _ I h) fun u s1 ⟨x, H1, I1, rx, a, dx, fs, ex, ea, l, q⟩ => ?_) ht
  subst ex
  obtain rfl : u = Value.ref a := rx
  refine getmeth_ok I1 ea c hm l ?_
  refine PySem.W.callWith_K (first := [.ref a]) (h₀ := X.base) I.ok.mod.kin hm.kp (thn (ha.run pos pins s1 σ H1 _ I1 q) fun us s2 ⟨vs, H2, I2, r, q2⟩ => ⟨I2.kIn, ?_⟩) hst hpl
  exact run_fnS (us := .ref a :: us) (vs := .ref a :: vs) F hr hb (hx σ) I2 (.cons rfl r) q2
theorem pe_methE0 {X : Cx} {CX : CXT} {k : Nat} {C f : Addr} {fd : FuncData} {ps : List Str} {m : Str} {sp : Sp} {E : L2.St → XK} {o : Expr} {ta : TE} {apos pos : Pos} {pl : Sem Bool} (he : PE X o ta) (c : Cls X.K C) (hm : Meth X.K C m f)
    (F : FnOk X.prog X.w X.K X.mg X.base CX k f fd ps sp) (hr : Room k X.A) (hb : Binds X.K fd ps []) (hx : ∀ σ, PassesAt CX X σ (E σ))
    (ht : eval (.Call (.Attribute o m apos) [] [] pos) X.env = (do
      let ov ← eval o X.env
      standAt apos.atName
      let (f, first) ← holding [ov] (getMethod ov m pl)
      callWith pos f first (backTo pos (starEach [] X.env)) (backToKw pos (keywordEach [] X.env))) := by rfl) :
    PE X (.Call (.Attribute o m apos) [] [] pos) (tMethE C m sp E ta tNil) := by
  refine ⟨fun pins s σ H Q I h => ?_⟩
  refine PySem.W.methodCall_KW (pl := pl) (thn (he.run pins s σ H _ I h) fun u s1 ⟨x, H1, I1, rx, a, dx, fs, ex, ea, l, q⟩ => ?_) ht
  subst ex
  obtain rfl : u = Value.ref a := rx
  refine getmeth_ok I1 ea c hm l ?_
  exact PySem.W.callWith_K0 (first := [.ref a]) I1.kIn hm.kp (run_fnS (us := [.ref a]) (vs := [.ref a]) F hr hb (hx σ) I1 (.cons rfl .nil) q)
theorem pe_fldK {X : Cx} {K : PySem.W.Frag} {e : Expr} {f : Str} {pos : Pos} {ta : TE} (h : X.K = K) (he : PE X e ta) (hb : attributeBase e f X.env (eval e X.env) = eval e X.env) : PE X (.Attribute e f pos) (tFld K ta f) := by
  subst h
  exact pe_fld he hb
theorem ps_fldK {X : Cx} {K : PySem.W.Frag} {o value : Expr} {f : Str} {pos pos' : Pos} {ta tv : TE} (h : X.K = K) (ha : PE X o ta) (hv : PE X value tv) (hs : swapsWith value (some (.Attribute o f pos')) pos.line X.env = pure false) : PS X (.Assign [.Attribute o f pos'] value pos) (sFld K ta tv f) := by
  subst h
  exact ps_fld ha hv hs
/-! ### texts -/
open SX (S S_len S_cat slice_to slice_from num_S int_S)
open PySem.NumText (digitsVal AllDigits)
open TL (numL)
def cap (c : Nat) : Bool := decide (65 ≤ c ∧ c ≤ 90)
def dig (c : Nat) : Bool := decide (48 ≤ c ∧ c ≤ 57)
theorem dig_mem (c : Nat) : decide (c ∈ ("0123456789" : Str).cps.toList) = dig c := by
  have e : ("0123456789" : Str).cps.toList = [48, 49, 50, 51, 52, 53, 54, 55, 56, 57] := by decide +kernel
  rw [e]
  unfold dig
  refine decide_eq_decide.mpr ?_
  simp only [List.mem_cons, List.not_mem_nil, or_false]
  omega
theorem cap_mem (c : Nat) : decide (c ∈ ("ABCDEFGHIJKLMNOPQRSTUVWXYZ" : Str).cps.toList) = cap c := by
  have e : ("ABCDEFGHIJKLMNOPQRSTUVWXYZ" : Str).cps.toList = [65, 66, 67, 68, 69, 70, 71, 72, 73, 74, 75, 76, 77, 78, 79, 80, 81, 82, 83, 84, 85, 86, 87, 88, 89, 90] := by decide +kernel
  rw [e]
  unfold cap
  refine decide_eq_decide.mpr ?_
  simp only [List.mem_cons, List.not_mem_nil, or_false]
  omega
theorem walk_S {a : List Nat} : Walk (Its (S a)) a.length (fun _ => True) (fun i H v H' => H' = H ∧ ∃ c, a[i]? = some c ∧ v = .str (S [c])) :=
  ⟨fun i _ hi _ => by show i < a.toArray.size; simpa using hi, fun _ _ => by show a.toArray.size ≤ a.length; simp, fun i H v H' _ _ y => by
    obtain ⟨e, c, h1, h2⟩ := y
    exact ⟨e, c, by simpa using h1, h2⟩⟩
theorem tw_len {p : Nat → Bool} : ∀ {a : List Nat} {i c : Nat}, (∀ x ∈ a.take i, p x = true) → a[i]? = some c → p c = false → (a.takeWhile p).length = i
  | [], i, c, _, e, _ => by simp at e
  | x :: r, 0, c, _, e, hc => by
    have e2 := Option.some.inj e
    rw [List.takeWhile_cons, e2, hc]
    rfl
  | x :: r, i + 1, c, h, e, hc => by
    have hx : p x = true := h x (by simp)
    rw [List.takeWhile_cons, hx]
    show ((r.takeWhile p).length + 1) = i + 1
    rw [tw_len (fun y hy => h y (by rw [List.take_succ_cons]; exact List.mem_cons_of_mem _ hy)) (by simpa using e) hc]
theorem tw_all {p : Nat → Bool} {a : List Nat} (h : ∀ x ∈ a, p x = true) : (a.takeWhile p).length = a.length := by
  induction a with
  | nil => rfl
  | cons x r ih =>
    rw [List.takeWhile_cons, h x List.mem_cons_self]
    show (r.takeWhile p).length + 1 = r.length + 1
    rw [ih fun y hy => h y (List.mem_cons_of_mem _ hy)]
theorem tw_self {p : Nat → Bool} : ∀ {a : List Nat}, (∀ x ∈ a, p x = true) → a.takeWhile p = a
  | [], _ => rfl
  | x :: r, h => by rw [List.takeWhile_cons, h x List.mem_cons_self, if_pos rfl, tw_self fun y hy => h y (List.mem_cons_of_mem _ hy)]
theorem tw_le {p : Nat → Bool} (a : List Nat) : (a.takeWhile p).length ≤ a.length := by
  induction a with
  | nil => exact Nat.le_refl _
  | cons x r ih =>
    rw [List.takeWhile_cons]
    split
    · exact Nat.succ_le_succ ih
    · exact Nat.zero_le _
theorem tw_take {p : Nat → Bool} : ∀ (a : List Nat), ∀ x ∈ a.take (a.takeWhile p).length, p x = true
  | [], x, h => by simp at h
  | y :: r, x, h => by
    rw [List.takeWhile_cons] at h
    split at h
    · rename_i hy
      rw [List.length_cons, List.take_succ_cons] at h
      rcases List.mem_cons.mp h with e | e
      · rw [e]
        exact hy
      · exact tw_take r x e
    · simp at h
theorem tw_full {p : Nat → Bool} {a : List Nat} (h : (a.takeWhile p).length = a.length) : ∀ x ∈ a, p x = true := fun x hx => tw_take a x (by rw [h, List.take_length]; exact hx)
theorem tw_congr {p q : Nat → Bool} (h : ∀ c, p c = q c) (a : List Nat) : a.takeWhile p = a.takeWhile q := by
  rw [show p = q from funext h]
theorem in12 (n : Int) : inV (.int n) [.int 1, .int 2] = decide (n = 1 ∨ n = 2) := by
  show ((1 : Int) == n || ((2 : Int) == n || false)) = _
  rw [Bool.eq_iff_iff]
  simp only [Bool.or_false, Bool.or_eq_true, beq_iff_eq, decide_eq_true_eq]
  omega
theorem small9000 {n : Nat} (h : n ≤ 9000) : n < sizeLine := Nat.lt_of_le_of_lt h (by decide)
theorem sz100 {n : Nat} (h : n ≤ 100000) : n ≤ sizeLine := Nat.le_trans h (by decide)
theorem item_by {α : Type} (f : α → V) {xs : List α} {k : Int} (h0 : 0 ≤ k) (h1 : k < xs.length) : ∃ v ∈ xs, atI (xs.map f) k = some (f v) := by
  obtain ⟨j, rfl⟩ := Int.eq_ofNat_of_zero_le h0
  have hj : j < xs.length := by omega
  exact ⟨xs[j], List.getElem_mem hj, atI_nat (by rw [List.getElem?_map, List.getElem?_eq_getElem hj]; rfl)⟩
theorem dig_all {a : List Nat} (h : a.all dig = true) : AllDigits a := fun c hc => of_decide_eq_true (List.all_eq_true.mp h c hc)
theorem int_dig {a : List Nat} (h : a.all dig = true) (hne : a ≠ []) (hl : a.length ≤ 640) : intText? (S a) = some ((digitsVal a : Nat) : Int) := intText_digits (x := S a) (dig_all h) hne (by rw [S_len]; omega)
/-! ### a run of signs -/
def rn (z : Str) (a : List Nat) : Nat := (a.takeWhile fun c => decide (c ∈ z.cps.toList)).length
theorem ext_tup (l : Addr) (items : Array Value) (n : Nat) (b : Addr) (items2 : Array Value) (n2 : Nat) (dd : Option Addr) (sl : Array (Option Value)) (hs0 : ¬(!items.isEmpty && Builtin.List.listTooLong (items.size + items2.size)) = true) (hs1 : items.size ≤ sizeLine) (hs2 : items.size + items2.size ≤ sizeLine + 1) :
    Meets (Builtin.«list.extend» ⟨[.ref l, .ref b], []⟩) (fun _ R s => s.heap.get? l = some { cls := .type "list", dict := none, data := .seq items n, slots := #[] } ∧ s.heap.get? b = some { cls := .type "tuple", dict := dd, data := .seq items2 n2, slots := sl } ∧ R (.ok (.ret Value.none)) { s with heap := s.heap.update l (Obj.mapSeq fun x => x ++ items2), toks := s.toks }) :=
  .of_wp fun prog w A R s h => by
    obtain ⟨hp, g, d, tk, os⟩ := s
    obtain ⟨hl, hb, h⟩ := h
    have f1 := AutoSeq1.idx_int
    have f2 := AutoSeq1.sub_tuple_tuple
    have f3 := AutoSeq1.sub_list_list
    have f4 := AutoSeq1.sub_tuple_list
    have f5 := AutoSeq1.sub_list_tuple
    have hz' : (items ++ items2).size ≤ sizeLine + 1 := by
      rw [Array.size_append]
      exact hs2
    wp_walk using (wpAny_updateSeq hl rfl (hz := hs1) (_hz' := hz')), AutoSeq1.wpAny_loadPart' hl, AutoSeq1.wpAny_loadPart' hb
    exact ⟨_, rfl, h⟩
def rExtT (K : PySem.W.Frag) : V → List V → Hp → VK → Prop := fun x vs H Q => ∃ l b xs zs, x = .ref l ∧ vs = [.ref b] ∧ H l = some (.lst xs) ∧ SqT K H b zs ∧ xs.length + zs.length ≤ sizeLine ∧ Q .non (upd H l (.lst (xs ++ zs)))
theorem mt_extT {X : Cx} : MtM X "list.extend" (rExtT X.K) := by
  intro pins s σ H x vs v us Q I rx rv h
  obtain ⟨l, b, xs, zs, rfl, rfl, hH, hB, hz, q⟩ := h
  cases rx
  obtain ⟨u, rfl, ru⟩ := rv.one
  cases ru
  obtain ⟨z, its, n, r, hl, e⟩ := I.lstM hH
  obtain ⟨its2, r2, ⟨⟨cls, dd, data, sl⟩, e2, hc, n2, hd⟩, hl2⟩ := I.tuple hB
  simp only at hc hd
  subst hc hd
  have ll2 := r2.length
  have hsz : its.toArray.size + its2.toArray.size ≤ sizeLine := by rw [List.size_toArray, List.size_toArray]; omega
  have hlong : ¬ (!its.toArray.isEmpty && Builtin.List.listTooLong (its.toArray.size + its2.toArray.size)) = true := by
    rw [notLongL hsz, Bool.and_false]
    exact Bool.false_ne_true
  refine call_meets PySem.F.slot_list_extend ⟨_, e, rfl⟩ PySem.F.entry_list_extend (PySem.F.args_list_extend_2 _ _)
    (ext_tup l its.toArray n b its2.toArray n2 dd sl hlong (by rw [List.size_toArray]; omega) (by omega)) ⟨e, e2, ?_⟩
  refine ⟨.non, _, I.lset (its' := its ++ its2) hH e (by simp) (r.append r2) ?_, rfl, q⟩
  rw [List.length_append]
  omega
end
end My
namespace My
open PySem PySem.Spec PyProof.Rows L2 RZ
section
variable {P : Program} {w : World} {K : PySem.W.Frag} {mg : Str → Option Value} {base : Heap}
open L2H
open SX (S S_len S_cat slice_to slice_from num_S int_S)
open PySem.NumText (digitsVal AllDigits)
open TL (numL)
def spCell (K : PySem.W.Frag) : Sp := fun vs H Q _ => ∃ (a : Addr) (ns : List Int) (k : Int), vs = [.ref a, .int k] ∧ 0 ≤ k ∧ SqL K H a (ns.map V.int) ∧ ∀ v : Int, Q (.int v) H
theorem okLawCell (T : Txt K mg) : FnOk P w K mg base CX0 1 T.fLawCell T.fdLawCell ["_law_script", "_law_k"] (spCell K) := by
  refine T.FLawCell.ok scLawCell (fun vs H Q E h => ?_) (fun cdv A outer s H vs Q E hr h => ?_)
  · obtain ⟨a, ns, k, rfl, _⟩ := h
    rfl
  · obtain ⟨a, ns, k, rfl, h0, hS, q⟩ := h
    obtain ⟨k, rfl⟩ := Int.eq_ofNat_of_zero_le h0
    -- slots _law_script=0 _law_k=1
    refine ⟨_, (pss_cons (ps_if (pt_cmpR op_lt (pv 1) (pe_callB call_len_seq (by rfl) T.z_len PySem.boot_len (pa_cons (pv 0) pa_nil)) (nomark _))
          (pss_one (ps_ret (pe_ix ix_list (pv 0) (pv 1) (fun _ _ => rfl))))
          pss_nil)
        (pss_one (ps_ret pe_int))), ?_⟩
    refine ⟨_, rfl, _, rfl, a, _, rfl, .inl hS, _, _, rfl, rfl, _, rfl, ite2 (fun c => ?_) (fun c => ?_)⟩
    · have hk : k < ns.length := by
        have c2 := of_decide_eq_true c
        rw [List.length_map] at c2
        omega
      exact ⟨_, rfl, _, rfl, a, _, _, _, rfl, rfl, hS, atI_nat (getD_at hk), q _⟩
    · exact q 0
/-! ### a comprehension whose element may raise -/
theorem noteFrame_of {x : Value} {c e : Env} (h : c.frame = e.frame) : noteFrame x c = noteFrame x e := by
  unfold noteFrame PySem.frameOf
  rw [h]
theorem ns_up {h h' : Heap} {a : Addr} {m : Str → Option Value} (hn : h.Ns a m) (up : h.UpToSlots h') : h'.Ns a m := by
  obtain ⟨o, es, ep, ho, hd, r⟩ := hn
  obtain ⟨sl, e⟩ := up a o ho fun vs z => by
    rw [hd] at z
    cases z
  exact ⟨_, es, ep, e, hd, r⟩
theorem ff_base {h B B' : Heap} (k : ∀ b, B.get? b = none → B'.get? b = none) : ∀ {l : List Env}, h.FunFrames B l → h.FunFrames B' l
  | [], _ => trivial
  | _ :: _, ⟨hk, ⟨L, o, hf, hn, ho, hd⟩, hr⟩ => ⟨hk, ⟨L, o, hf, k L hn, ho, hd⟩, ff_base k hr⟩
theorem hid_none {B : Heap} {C b : Addr} (z : B.get? b = none) : (PySem.W.hideAll B [C]).get? b = none := by
  cases q : (PySem.W.hideAll B [C]).get? b with
  | none => rfl
  | some o =>
    have y := PySem.W.of_hideAll _ q
    rw [z] at y
    cases y
theorem hid_ne {B : Heap} {C b : Addr} {o : Obj} (q : (PySem.W.hideAll B [C]).get? b = some o) : b ≠ C := fun z => by
  rw [z, PySem.W.hideAll_none _ (List.mem_cons_self ..)] at q
  cases q
theorem held_but {B h h' : Heap} {l : List Env} {a : Addr} {Z : Obj → Prop} {L C : Addr} {m m' : Str → Option Value} (x : HandSPX.HeldZ B l a Z L h) (hn : h.Ns C m) (hn' : h'.Ns C m') (sb : Heap.SameBut C h h') :
    HandSPX.HeldZ (PySem.W.hideAll B [C]) l a Z L h' := by
  obtain ⟨k, e, f, oe, vs, T, oT, ts, he, hz, hd, h1, hnT, hTe, hT, hdT, h3⟩ := x
  obtain ⟨oC, es, ep, hoC, hdC, _⟩ := hn
  have rec_ne : ∀ b o ws, h.get? b = some o → o.data = .fields ws → b ≠ C := fun b o ws e1 e2 z => by
    rw [z, hoC] at e1
    have z2 := Option.some.inj e1
    rw [← z2, hdC] at e2
    cases e2
  refine ⟨fun b o q => ?_, hid_none e, ff_base (fun _ => hid_none) (Heap.FunFrames.sameBut sb hn' f), oe, vs, T, oT, ts, ?_, hz, hd, h1, hid_none hnT, hTe, ?_, hdT, h3⟩
  · exact (sb.2 b (hid_ne q)).trans (k b o (PySem.W.of_hideAll _ q))
  · exact (sb.2 a (rec_ne a oe vs he hd)).trans he
  · exact (sb.2 T (rec_ne T oT ts hT hdT)).trans hT
/-- what a callee lets out of the block passes on in the def -/
theorem comp_out {X : Cx} {W : XK} {pins : List (Addr × Obj)} {σ : L2.St} {H' : Hp} {s1 s' : Shared} {u : Value} {C : Addr} {ce : Env} {m : Str → Option Value} (tk : L2N.Takes X (fun c d _ H => W c d H)) (hs : X.stack = X.env :: X.outer) (hf : X.env.frame = some X.env.locals)
    (I7 : Inv X pins σ H' s1) (fC : FpOk X pins H' C) (hC : s1.heap.Ns C m) (cL : ce.locals = C) (cF : ce.frame = X.env.frame) (c : L2N.CX X.prog X.w X.stack H' s1 W u s') :
    notedBy (model X.prog X.w) X.A ce (CompFails (model X.prog X.w) X.A X.xe ce) u s' := by
  obtain ⟨f0, f1, f2, f3, f4, f5⟩ := fC
  have nS : C ∉ frs X.stack := fun z => by
    rcases List.mem_cons.mp (I7.stkSub C z) with y | y
    · exact f1 y
    · exact f2 y
  have hC' : s'.heap.Ns C m := by
    obtain ⟨oC, es, ep, hoC, r⟩ := hC
    obtain ⟨a, B, H2, cls, d, _, fl, _, ub, _⟩ := id c
    exact ⟨oC, es, ep, fl.1 _ _ (ub.keep C oC hoC f0 nS), r⟩
  have c2 : L2N.CX X.prog X.w X.stack H' s1 (fun c d H => W c d H ∧ H C = none) u s' := by
    obtain ⟨oC, es, ep, hoC, r⟩ := hC
    obtain ⟨a, B, H2, cls, d, e, fl, hok, ub, na, os, ag, w⟩ := c
    exact ⟨a, B, H2, cls, d, e, fl, hok, ub, na, os, ag, w, ub.free C oC hoC f0⟩
  obtain ⟨a, B, sI, pins2, σ2, H2, cls, d, rfl, I2, nb, up, sky, na, os, ag, w, h2C⟩ := L2N.XE.of_call (W := fun c d _ H => W c d H ∧ H C = none) I7 (fun _ _ _ h => h) c2
  have J := I2.unpinned (pins := [])
  have hfr : X.A.frames = some (X.env :: X.outer) := by rw [I7.ok.frames, hs]
  unfold notedBy
  rw [noteFrame_of cF]
  have fin : ∀ h1, HandSPX.HeldZ B (X.env :: X.outer) a (L2N.Zn cls d) X.env.locals h1 → s'.heap.UpToSlots h1 → CompFails (model X.prog X.w) X.A X.xe ce (.ref a) { s' with heap := h1 } := fun h1 hh up1 => by
    refine ⟨m, by rw [cL]; exact ns_up hC' up1, fun h' m' hn' sb => ?_⟩
    rw [cL] at hn' sb
    have hh2 := held_but hh (ns_up hC' up1) hn' sb
    obtain ⟨_, _, _, oe, vs, T, oT, ts, he, hz, hd, hv1, _⟩ := id hh2
    unfold PySem.passOn
    refine wpAny_bind (wpAny_field he hd hv1 ?_)
    rw [if_neg (show ¬ ((Value.ref T == Value.none) = true) from by simp), cF, hf]
    refine wpAny_bind (HandSPX.setFlight_onZ (l := X.env :: X.outer) (L := X.env.locals) hh2 fun h3 hh3 up3 => wpAny_throw ?_)
    have hid_get : ∀ b o, (PySem.W.hideAll sI.heap [C]).get? b = some o → sI.heap.get? b = some o := fun b o q => PySem.W.of_hideAll _ q
    refine tk _ _ ⟨a, PySem.W.hideAll B [C], { sI with heap := PySem.W.hideAll sI.heap [C] }, [], σ2, H2, cls, d, rfl, ?_, fun b o q hb => ?_, fun b o q hnf => ?_, ?_, na, os, ag, w⟩
    · exact J.turned (t' := sI.toks) (fun b o hb e => PySem.W.hideAll_get _ e (by simpa using hb)) h2C f1 f3 f4 fun p hp => f5 p (by rw [List.append_nil] at hp; exact List.mem_append_left _ hp)
    · exact PySem.W.hideAll_get _ (nb b o (hid_get b o q) hb) (by simpa using hid_ne q)
    · obtain ⟨sl, e1⟩ := up b o (hid_get b o q) hnf
      obtain ⟨sl2, e2⟩ := up1 b _ e1 hnf
      obtain ⟨sl3, e3⟩ := up3 b _ ((sb.2 b (hid_ne q)).trans e2) hnf
      exact ⟨sl3, e3⟩
    · rw [hs]
      exact .inr (.inr hh3)
  rw [hs] at sky
  rcases sky with ⟨hB, hn, hl, oe, vs, he, hz, hd, h1⟩ | fl | hd
  · exact PXN.look_newZ L2N.Zn.steady hfr hl hf he hB hn hd h1 hz fin
  · exact PXN.looks_onZ L2N.Zn.steady hfr hf fl fin
  · exact HandSPX.againZ hf hd.2.2.2 (fin s'.heap hd (Heap.UpToSlots.refl _))
end
end My
namespace My
open PySem PySem.Spec PyProof.Rows L2 RZ
section
variable {P : Program} {w : World} {K : PySem.W.Frag} {mg : Str → Option Value} {base : Heap}
open L2H
open SX (S S_len S_cat slice_to slice_from num_S int_S)
open PySem.NumText (digitsVal AllDigits)
open TL (numL)
/-- the context of a block in which exceptions are awaited -/
abbrev blkE (X : Cx) (s : Shared) (H : Hp) (scope : Scope) (ce : Env) (fp : List Addr) (xe : Value → Shared → Prop) : Cx := { X.blk s H scope ce fp with xe := xe }
theorem inv_blk {X : Cx} {s : Shared} {H : Hp} {scope : Scope} {ce : Env} {fp : List Addr} {xe : Value → Shared → Prop} {pins : List (Addr × Obj)} {σ : L2.St} {H' : Hp} {s' : Shared} (I : Inv (X.blk s H scope ce fp) pins σ H' s') : Inv (blkE X s H scope ce fp xe) pins σ H' s' :=
  ⟨⟨I.ok.mod, I.ok.kind, I.ok.glob, I.ok.blt, I.ok.above, I.ok.inj, I.ok.has, I.ok.cab, I.ok.hd, I.ok.frames, I.ok.stk, I.ok.exf, I.ok.bs, I.ok.bsz, I.ok.noex, I.ok.exfs, I.ok.funs, I.ok.frf⟩, I.os, I.bare, I.base, I.loc, I.cell, I.free, I.freeC, I.pin, I.hok, I.len⟩
theorem pe_lcE {X : Cx} {W : XK} {elt tg iter : Expr} {ifs : List Expr} {scope : Scope} {own : List (Str × Nat)} {pos : Pos} {wi : TI} {g : TG} {tt : TT} {te : TE} (tk : L2N.Takes X (fun c d _ H => W c d H)) (hst : X.stack = X.env :: X.outer) (hfr : X.env.frame = some X.env.locals)
    (calm : X.calm = true) (nd : X.N.Nodup) (pi : PI X tg iter wi) (bo : BlkOk X.N X.env.scope scope own)
    (pgs : ∀ (s : Shared) (H : Hp) (C : Addr) (cl : List (Str × Addr)) (fp : List Addr) (xe : Value → Shared → Prop), PG (blkE X s H scope (compEnvC scope cl C X.env) fp xe) tg g)
    (pts : ∀ (s : Shared) (H : Hp) (C : Addr) (cl : List (Str × Addr)) (fp : List Addr) (xe : Value → Shared → Prop), PTs (blkE X s H scope (compEnvC scope cl C X.env) fp xe) ifs tt)
    (pes : ∀ (s : Shared) (H : Hp) (C : Addr) (cl : List (Str × Addr)) (fp : List Addr) (xe : Value → Shared → Prop), (∀ σ, PassesAt (L2N.CX X.prog X.w) (blkE X s H scope (compEnvC scope cl C X.env) fp xe) σ W) → PE (blkE X s H scope (compEnvC scope cl C X.env) fp xe) elt te)
    (same : ∀ x, foldedSetIterable iter X.env x = pure x := by intro _; rfl) :
    PE X (.ListComp elt [⟨tg, iter, ifs, 0⟩] scope pos) (tLc wi g tt te (own.map (·.2))) := by
  refine ⟨fun pins s σ H Q I0 h => ?_⟩
  have caught : ∀ y ∈ scope.names, y.2 = .free → ∃ c, X.env.cells.lookup y.1 = some c := fun y hy e =>
    (bo.free y hy e).elim (fun k => I0.ok.has _ (.inl k)) fun k => I0.ok.has _ (.inr k)
  rw [eval_ListComp]
  refine comprehension_at (use := none) rfl same (closure_ok caught) bo.kind (fun y hy e => (bo.uniq y hy).trans (congrArg some e)) ?_
  refine thn (pi.run pins s σ H _ I0 h) fun xv s1 hx => thn hx fun itv s2 ⟨it, fp, tn, J, H2, eit, I2, T, st2, f2, q⟩ => ?_
  subst eit
  refine wpAny_newObj_type (newEnv_comp ?_) (show 0 ≤ sizeLine by decide)
  obtain ⟨D, hD⟩ : ∃ D, s2.heap.objs.size = D := ⟨_, rfl⟩
  rw [hD]
  have freeD : H2 D = none := I2.hok.fresh (Nat.le_of_eq hD)
  obtain ⟨W1, ⟨m0, w0⟩, turn⟩ := q D freeD
  obtain ⟨s3, e3⟩ : ∃ s3 : Shared, { s2 with heap := s2.heap.push { cls := .type "list", data := .seq ([] : List Value).toArray } } = s3 := ⟨_, rfl⟩
  rw [e3]
  have hp3 : s3.heap = s2.heap.push { cls := .type "list", data := .seq ([] : List Value).toArray } := by rw [← e3]
  have I3 : Inv X pins σ (upd H2 D (.lst [])) s3 := by
    have z := I2.laid (t' := s2.toks) (a := D) (o := .lst []) (h' := s2.heap.push { cls := .type "list", data := .seq ([] : List Value).toArray }) (fun b o e => Heap.get?_push_of_some _ e) (Nat.le_of_eq hD) ⟨Nat.zero_le _, [], 0, .nil, by rw [← hD]; exact Heap.get?_push_size _ rfl⟩
    rw [← e3]
    exact z
  have bound : ∀ b ∈ fp, b < s2.heap.objs.size := fun b hb => (T.obj _ _ st2 b hb).elim fun o e => Heap.lt_size e.1
  have f3 : ∀ b ∈ fp, FpOk X pins (upd H2 D (.lst [])) b ∧ b < s3.heap.objs.size := fun b hb =>
    ⟨⟨(upd_ne (by rw [← hD]; exact Nat.ne_of_lt (bound b hb))).trans (f2 b hb).1, (f2 b hb).2⟩, by rw [hp3, Heap.size_push]; exact Nat.lt_succ_of_lt (bound b hb)⟩
  have st3 : tn 0 s3.heap := T.keep _ _ _ st2 fun b _ o e => by
    rw [hp3]
    exact Heap.get?_push_of_some _ e
  have I4 := block_start I3 bo nd f3
  have PGs := pgs s3 (upd H2 D (.lst [])) s3.heap.objs.size (cellsFrom (s3.heap.objs.size + 1) scope.names (cloFrom X.env.cells scope.names [])) fp
  have PTs' := pts s3 (upd H2 D (.lst [])) s3.heap.objs.size (cellsFrom (s3.heap.objs.size + 1) scope.names (cloFrom X.env.cells scope.names [])) fp
  have PEs := pes s3 (upd H2 D (.lst [])) s3.heap.objs.size (cellsFrom (s3.heap.objs.size + 1) scope.names (cloFrom X.env.cells scope.names [])) fp
  show codeAny _ _ (.compStart (.ListComp elt [⟨tg, iter, ifs, 0⟩] scope pos) 0 (.ref it) (.ref D) (compEnvC scope (cellsFrom (s3.heap.objs.size + 1) scope.names (cloFrom X.env.cells scope.names [])) s3.heap.objs.size X.env))
    (compEnds (model X.prog X.w) X.A X.xe none (EP X pins σ Q) (.ref D) (compEnvC scope (cellsFrom (s3.heap.objs.size + 1) scope.names (cloFrom X.env.cells scope.names [])) s3.heap.objs.size X.env)) _
  have nfp : ∀ b ∈ fp, (upd H2 D (.lst [])) b = none := fun b hb => (f3 b hb).1.1
  obtain ⟨ce, hce⟩ : ∃ ce, compEnvC scope (cellsFrom (s3.heap.objs.size + 1) scope.names (cloFrom X.env.cells scope.names [])) s3.heap.objs.size X.env = ce := ⟨_, rfl⟩
  have cL : ce.locals = s3.heap.objs.size := by rw [← hce]; rfl
  have cF : ce.frame = X.env.frame := by rw [← hce]; rfl
  rw [hce] at I4 PGs PTs' PEs ⊢
  obtain ⟨H3, hH3⟩ : ∃ H3, upd H2 D (.lst []) = H3 := ⟨_, rfl⟩
  rw [hH3] at I3 I4 PGs PTs' PEs w0 nfp f3
  obtain ⟨s4, hs4⟩ : ∃ s4 : Shared, { s3 with heap := pushCells (s3.heap.push { cls := .type "dict", data := .dict #[] }) scope.names } = s4 := ⟨_, rfl⟩
  rw [hs4] at I4 ⊢
  have st4 : tn 0 s4.heap := T.keep _ _ _ st3 fun b _ o e => by
    rw [← hs4]
    exact pushCells_keeps _ _ _ _ (Heap.get?_push_of_some _ e)
  -- what the block awaits of exceptions
  obtain ⟨xe, hxe⟩ : ∃ xe : Value → Shared → Prop, notedBy (model X.prog X.w) X.A ce (CompFails (model X.prog X.w) X.A X.xe ce) = xe := ⟨_, rfl⟩
  have back : ∀ {pins' : List (Addr × Obj)} {σ' : L2.St} {H' : Hp} {s' : Shared}, Inv (blkE X s3 H3 scope ce fp xe) pins' σ' H' s' → Inv X pins σ H' s' := fun I' => I3.call' (ch := fp) I'.os I'.base I'.hok I'.bare fun b hb =>
    ⟨(f3 b hb).1.2.2.2.1, (f3 b hb).1.2.1, (f3 b hb).1.2.2.2.2.1, (f3 b hb).1.2.2.2.2.2⟩
  have blkC : ∀ {pins' : List (Addr × Obj)} {σ' : L2.St} {H' : Hp} {s' : Shared}, Inv (blkE X s3 H3 scope ce fp xe) pins' σ' H' s' → FpOk X pins H' s3.heap.objs.size ∧ ∃ m, s'.heap.Ns s3.heap.objs.size m := fun {pins' σ' H' s'} I' => by
    have z : H' ce.locals = none := I'.free
    obtain ⟨m, hm, _⟩ := I'.loc
    have hm : s'.heap.Ns ce.locals m := hm
    rw [cL] at z hm
    exact ⟨I3.fpOk (Nat.le_refl _) z, m, hm⟩
  have passes : ∀ σ', PassesAt (L2N.CX X.prog X.w) (blkE X s3 H3 scope ce fp xe) σ' W := fun σ' pins' H' s' e s'' I' c => by
    obtain ⟨fC, m, hm⟩ := blkC I'
    have z := comp_out tk hst hfr (back I') fC hm cL cF c
    rw [hxe] at z
    exact z
  have PGs := PGs xe
  have PTs' := PTs' xe
  have PEs := PEs xe passes
  have fps : ∀ {σ' : L2.St} {H' : Hp} {s' : Shared}, Inv (blkE X s3 H3 scope ce fp xe) [] σ' H' s' → (∀ b ∈ fp, H' b = none) → ∀ b ∈ fp, FpOk (blkE X s3 H3 scope ce fp xe) [] H' b := fun {σ' H' s'} I' hn b hb =>
    ⟨hn b hb, (I'.ok.exf b hb).1, I'.ok.exfs b hb, .inl hb, (I'.ok.exf b hb).2, fun p hp => nomatch (show p ∈ ([] : List (Addr × Obj)) from hp)⟩
  have looped : codeAny (model X.prog X.w) X.A (.compLoop (.ListComp elt [⟨tg, iter, ifs, 0⟩] scope pos) 0 (.ref it) (.ref D) ce) (compEnds (model X.prog X.w) X.A X.xe none (EP X pins σ Q) (.ref D) ce) s4 := by
    refine compLoop_any (fun n s' => ∃ i H', Inv (blkE X s3 H3 scope ce fp xe) [] (wipe σ (own.map (·.2))) H' s' ∧ tn i s'.heap ∧ (∀ b ∈ fp, H' b = none) ∧ W1 i n H') (fun n s5 => ?_) m0 ⟨0, H3, inv_blk I4, st4, nfp, w0⟩
    rintro ⟨i, H5, I5, st5, n5, w5⟩
    rcases turn i n H5 w5 with ⟨stop, qq⟩ | ⟨go, Nx, hNx, step⟩
    · refine thnF (T.done (blkE X s3 H3 scope ce fp xe) rfl rfl rfl calm i [] s5 _ H5 (fun _ _ => False) I5 (fps I5 n5) st5 stop) fun r s6 ⟨hr, I6⟩ => ?_
      subst hr
      obtain ⟨⟨g0, g1, g2, g3, g4, g5⟩, m, hm⟩ := blkC I6
      refine ⟨m, by rw [cL]; exact hm, fun h'' sb => ?_⟩
      rw [cL] at sb
      exact ⟨.ref D, H5, (back I6).turned (t' := s6.toks) (fun b o hb e => (sb.2 b hb).trans e) g0 g1 g3 g4 g5, rfl, qq⟩
    · have xeE : (notedBy (model X.prog X.w) X.A ce fun e s' => compEnds (model X.prog X.w) X.A X.xe none (EP X pins σ Q) (.ref D) ce (.error e) s') = xe := hxe
      rw [xeE]
      refine thnF (T.item (blkE X s3 H3 scope ce fp xe) rfl rfl rfl calm i [] s5 _ H5 (fun _ _ => False) I5 (fps I5 n5) st5 go) fun r s6 ⟨u, hr, h6⟩ => ?_
      subst hr
      refine thnF h6 fun _ s7 ⟨x, H7, I7, r7, y7, st7, n7⟩ => ?_
      refine thn (PGs.run _ s7 _ H7 x u _ (I7.pinned (fps I7 n7) (T.obj _ _ st7)) r7 (step x H7 y7)) fun _ s8 ⟨σ8, H8, I8, hw8, q8⟩ => ?_
      refine thn (PTs'.run _ s8 σ8 H8 _ I8 q8) fun b s9 ⟨H9, I9, q9⟩ => ?_
      have ends : ∀ {s' : Shared} {H' : Hp}, Inv (blkE X s3 H3 scope ce fp xe) ([] ++ pinsAt fp s7.heap) σ8 H' s' → Nx H' →
          ∃ m, m < n ∧ ∃ i H', Inv (blkE X s3 H3 scope ce fp xe) [] (wipe σ (own.map (·.2))) H' s' ∧ tn i s'.heap ∧ (∀ b ∈ fp, H' b = none) ∧ W1 i m H' := fun {s' H'} I' nx => by
        obtain ⟨m', hm, w'⟩ := hNx H' nx
        have pinned : ∀ b ∈ fp, ∀ o, s7.heap.get? b = some o → s'.heap.get? b = some o ∧ H' b = none := fun b hb o e =>
          (I'.pin (b, o) (List.mem_append_right _ (List.mem_append_right _ (mem_pinsAt hb e)))).imp id And.left
        refine ⟨m', hm, i + 1, H', (I'.unpinned (pins := [])).weak ((congrArg List.length hw8).symm.trans (wipe_length _ _)) (fun j v e => (wipe_some (hw8.symm ▸ e)).1), ?_, ?_, w'⟩
        · exact T.keep _ _ _ st7 fun b hb o e => (pinned b hb o e).1
        · exact fun b hb => (T.obj _ _ st7 b hb).elim fun o e => (pinned b hb o e.1).2
      cases b with
      | false =>
        simp only [Bool.false_eq_true, if_false] at q9 ⊢
        exact ends I9 q9
      | true =>
        simp only [if_true] at q9 ⊢
        refine thn (PEs.run _ s9 σ8 H9 _ I9 q9) fun z s10 ⟨yv, H10, I10, r10, acc, hD10, hz10, nx⟩ => ?_
        exact app_ok (X := blkE X s3 H3 scope ce fp xe) I10 hD10 hz10 r10 fun s11 I11 => ends I11 nx
  exact codeAny_compStart_list looped (T.self X.A 0 _ _ _ st4 looped)
end
end My
namespace My
open PySem PySem.Spec PyProof.Rows L2 RZ
section
variable {P : Program} {w : World} {K : PySem.W.Frag} {mg : Str → Option Value} {base : Heap}
open L2H
open SX (S S_len S_cat slice_to slice_from num_S int_S)
open PySem.NumText (digitsVal AllDigits)
open TL (numL)
theorem ix_tupK {X : Cx} {K : PySem.W.Frag} (h : X.K = K) : IxR X (rIxT K) := by
  subst h
  exact ix_tup
theorem ix_listK {X : Cx} {K : PySem.W.Frag} (h : X.K = K) : IxR X (rIxL K) := by
  subst h
  exact ix_list
theorem call_len_seqK {X : Cx} {K : PySem.W.Frag} (h : X.K = K) : CallR X (.builtin "len") (fun xs H Q => ∃ p ys, xs = [.ref p] ∧ (SqL K H p ys ∨ SqT K H p ys) ∧ Q (.int ys.length) H) := by
  subst h
  exact call_len_seq
structure Dig (ds : List Int) (n : Nat) : Prop where
  all : ∀ x ∈ ds, 0 ≤ x ∧ x < 1000
  len : ds.length ≤ n
theorem Dig.nil : Dig [] 0 := ⟨fun _ h => (nomatch h), Nat.le_refl _⟩
theorem Dig.more {ds : List Int} {n m : Nat} (h : Dig ds n) (hm : n ≤ m) : Dig ds m := ⟨h.all, Nat.le_trans h.len hm⟩
theorem Dig.add {ds : List Int} {n : Nat} (h : Dig ds n) (x : Int) : Dig (ds ++ [x % 1000]) (n + 1) := by
  refine ⟨fun y hy => ?_, ?_⟩
  · rcases List.mem_append.mp hy with q | q
    · exact h.all y q
    · obtain rfl : y = x % 1000 := by simpa using q
      omega
  · rw [List.length_append]
    have := h.len
    simp only [List.length_singleton]
    omega
def spDigits (K : PySem.W.Frag) : Sp := fun vs H Q _ => ∃ (c k : Int) (m : Nat), vs = [.int c, .int k, .int (m : Int)] ∧ m ≤ 1000 ∧ ∀ H' d ds, Same H H' → H d = none → H' d = some (.lst (ds.map V.int)) → Dig ds m → Q (.ref d) H'
theorem okLawDigits (T : Txt K mg) : FnOk P w K mg base CX0 1 T.fLawDigits T.fdLawDigits ["_law_cell_here", "_law_k", "_law_most"] (spDigits K) := by
  refine T.FLawDigits.ok scLawDigits (fun vs H Q E h => ?_) (fun cdv A outer s H vs Q E hr h => ?_)
  · obtain ⟨c, k, m, rfl, _⟩ := h
    rfl
  · obtain ⟨c, k, m, rfl, hm, q⟩ := h
    -- slots _law_cell_here=0 _law_k=1 _law_most=2 _law_digits_here=3 _law_turn=4 _law_seed=5
    refine ⟨_, (pss_cons (ps_set (i := 3) scLawDigits.nd rfl (Or.inl rfl) (pe_lst pa_nil))
        (C8.pss_cut (ps_if (pt_cmpR op_lt (pv 0) pe_int (nomark _))
          (pss_one (ps_set (i := 0) scLawDigits.nd rfl (Or.inl rfl) (pe_op op_sub (pe_un un_neg pe_int) (pv 0))))
          pss_nil)
        (C8.pss_cut (ps_if (pt_cmpR op_ge (pv 0) (pe_op op_pow pe_int pe_int) (nomark _))
          (pss_one (ps_for PassesOwn.never rfl (pi_range1 rfl T.z_range (pa_cons pe_int pa_nil)) (pg_name (i := 4) scLawDigits.nd rfl (Or.inl rfl))
            (pss_one (ps_if (PW.pt (pw_and (pt_cmpR op_gt (pv 0) pe_int (nomark _)) (pw_and1 (pt_cmpR op_lt (pe_callB call_len_seq (by rfl) T.z_len PySem.boot_len (pa_cons (pv 3) pa_nil)) (pv 2) (nomark _)))))
              (pss_cons (ps_expr (pe_bm PySem.F.plainAttrs_list PySem.F.slot_list_append PySem.F.type_list_append mt_append (pv 3) (pa_cons (pe_op op_mod (pe_callTy call_int1 (by rfl) T.z_int (by decide +kernel) (pa_cons (pv 0) pa_nil)) pe_int) pa_nil)))
              (pss_one (ps_set (i := 0) scLawDigits.nd rfl (Or.inl rfl) (pe_op op_fdiv (pv 0) pe_int))))
              pss_nil))))
          (pss_cons (ps_set (i := 5) scLawDigits.nd rfl (Or.inl rfl) (pe_op op_mod (pe_callTy call_int1 (by rfl) T.z_int (by decide +kernel) (pa_cons (pe_op op_add (pe_op op_add (pe_op op_mul (pv 0) pe_int) (pe_op op_mul (pv 1) pe_int)) pe_int) pa_nil)) pe_int))
          (pss_one (ps_for PassesOwn.never rfl (pi_range1 rfl T.z_range (pa_cons (pv 2) pa_nil)) (pg_name (i := 4) scLawDigits.nd rfl (Or.inl rfl))
            (pss_cons (ps_set (i := 5) scLawDigits.nd rfl (Or.inl rfl) (pe_op op_mod (pe_callTy call_int1 (by rfl) T.z_int (by decide +kernel) (pa_cons (pe_op op_add (pe_op op_add (pe_op op_mul (pv 5) pe_int) (pe_op op_mul pe_int (pv 4))) pe_int) pa_nil)) pe_int))
            (pss_one (ps_expr (pe_bm PySem.F.plainAttrs_list PySem.F.slot_list_append PySem.F.type_list_append mt_append (pv 3) (pa_cons (pe_op op_mod (pe_callTy call_int1 (by rfl) T.z_int (by decide +kernel) (pa_cons (pe_op op_fdiv (pv 5) pe_int) pa_nil)) pe_int) pa_nil)))))))))
        (pss_one (ps_ret (pv 3)))))), ?_⟩
    refine ⟨Nat.zero_le _, fun d hd => ?_⟩
    refine ⟨fun σ H' => H' = upd H d (.lst []) ∧ ∃ c : Int, σ = [some (.int c), some (.int k), some (.int (m : Int)), some (.ref d), none, none], ?_, ?_⟩
    · refine ⟨_, rfl, _, _, rfl, rfl, _, rfl, ite2 (fun _ => ?_) (fun _ => ?_)⟩
      · exact ⟨_, rfl, _, rfl, _, _, rfl, rfl, rfl, _, rfl⟩
      · exact ⟨rfl, _, rfl⟩
    rintro σ H1 ⟨rfl, c, rfl⟩
    have h1 : (upd H d (.lst [])) d = some (.lst (([] : List Int).map V.int)) := upd_same
    refine ⟨fun σ H' => ∃ ds c0 c4 c5, σ = [c0, some (.int k), some (.int (m : Int)), some (.ref d), c4, c5] ∧ Same H H' ∧ H' d = some (.lst (ds.map V.int)) ∧ Dig ds m, ?_, ?_⟩
    · refine ⟨_, rfl, _, _, rfl, rfl, ⟨by decide, by decide, by decide⟩, _, _, rfl, rfl, _, rfl, ite2 (fun _ => ?_) (fun _ => ?_)⟩
      · refine ⟨60, rfl, by decide, by decide, for_range (lo := 0) (n := 60) (fun t σ H' => ∃ ds c c1, σ = [some (.int c), some (.int k), some (.int (m : Int)), some (.ref d), c1, none] ∧ Same H H' ∧ H' d = some (.lst (ds.map V.int)) ∧ Dig ds m) ⟨[], _, _, rfl, same_new hd, h1, Dig.nil.more (Nat.zero_le _)⟩ ?_ ?_⟩
        · rintro t σ H2 ht ⟨ds, c, c1, rfl, s2, hd2, D2⟩
          refine ⟨_, rfl, _, _, rfl, rfl, _, rfl, ite2 (fun _ => ?_) (fun _ => iteF ⟨ds, _, _, rfl, s2, hd2, D2⟩)⟩
          refine ⟨_, rfl, d, _, rfl, .inl (SqL.of hd2), _, rfl, _, _, rfl, rfl, _, rfl, ite2 (fun e => ?_) (fun _ => ⟨ds, _, _, rfl, s2, hd2, D2⟩)⟩
          have e2 := of_decide_eq_true e
          rw [List.length_map] at e2
          refine ⟨_, rfl, .inl ⟨rfl, _, SqL.of hd2⟩, _, rfl, .inl ⟨_, rfl, _, _, rfl, rfl, (by show (0 : Int) < _; decide), d, _, _, rfl, rfl, hd2, ?_, _, rfl, _, _, rfl, rfl, ⟨by decide, by decide⟩, ?_⟩⟩
          · rw [List.length_map]
            exact small1000 (by have := D2.len; omega)
          · refine ⟨ds ++ [c % 1000], _, _, rfl, same_mut s2 hd, by rw [upd_same, List.map_append]; rfl, ?_⟩
            have D3 : Dig ds (m - 1) := ⟨D2.all, by omega⟩
            exact (D3.add c).more (by omega)
        · rintro σ H2 ⟨ds, c, c1, rfl, s2, hd2, D2⟩
          exact ⟨ds, _, _, _, rfl, s2, hd2, D2⟩
      · refine ⟨_, rfl, _, _, rfl, rfl, .inr ⟨by decide, by decide⟩, _, rfl, _, _, rfl, rfl, .inr ⟨by decide, by decide⟩, _, _, rfl, rfl, _, _, rfl, rfl, .inl ⟨_, rfl, _, _, rfl, rfl, (by show (0 : Int) < _; decide), ?_⟩⟩
        refine ⟨_, rfl, _, rfl, by omega, by omega, for_range (lo := 0) (n := m) (fun t σ H' => ∃ ds c c1 sd, σ = [some (.int c), some (.int k), some (.int (m : Int)), some (.ref d), c1, some (.int sd)] ∧ Same H H' ∧ H' d = some (.lst (ds.map V.int)) ∧ Dig ds t) ⟨[], _, _, _, rfl, same_new hd, h1, Dig.nil⟩ ?_ ?_⟩
        · rintro t σ H2 ht ⟨ds, c, c1, sd, rfl, s2, hd2, D2⟩
          refine ⟨_, rfl, _, _, rfl, rfl, .inr ⟨by decide, by decide⟩, _, rfl, _, _, rfl, rfl, .inl ⟨by decide, by decide⟩, _, _, rfl, rfl, _, _, rfl, rfl, .inl ⟨_, rfl, _, _, rfl, rfl, (by show (0 : Int) < _; decide), ?_⟩⟩
          refine ⟨_, rfl, .inl ⟨rfl, _, SqL.of hd2⟩, _, rfl, _, _, rfl, rfl, ⟨by decide, by decide⟩, .inl ⟨_, rfl, _, _, rfl, rfl, (by show (0 : Int) < _; decide), d, _, _, rfl, rfl, hd2, ?_, ?_⟩⟩
          · rw [List.length_map]
            exact small1000 (by have := D2.len; omega)
          · exact ⟨ds ++ [_ % 1000], _, _, _, rfl, same_mut s2 hd, by rw [upd_same, List.map_append]; rfl, D2.add _⟩
        · rintro σ H2 ⟨ds, c, c1, sd, rfl, s2, hd2, D2⟩
          exact ⟨ds, _, _, _, rfl, s2, hd2, D2⟩
    rintro σ H1 ⟨ds, c0, c4, c5, rfl, s1, hd1, D⟩
    exact ⟨_, rfl, q _ d ds s1 hd hd1 D⟩
theorem units65 {k : Nat} {A : Around} (r : Room k A) : A.units + 65 < cLine := by
  have := r.un
  omega
def rCountD (K : PySem.W.Frag) : V → List V → Hp → VK → Prop := fun x xs H Q => ∃ (a : Addr) (y : V) (d : PyData) (ds : List PyData), x = V.ref a ∧ xs = [y] ∧ Dp K H (V.ref a) (.list ds) ∧ Dp K H y d ∧
  SeqAt.shaped (.list ds) = true ∧ SeqAt.shaped d = true ∧ Q (.int ((ds.countP fun z => PyData.eqv z d : Nat) : Int)) H
theorem mt_countD {X : Cx} (hu : X.A.units + 65 < cLine) : MtR X "list.count" (rCountD X.K) := by
  intro pins s σ H x xs v us Q I rx rxs h
  obtain ⟨a, y, d, ds, rfl, rfl, hl, hy, sl, sd, q⟩ := h
  cases rx
  cases rxs with
  | cons ry rt =>
    rename_i uy ut
    cases rt
    obtain ⟨bs, r1⟩ := Dp.reads I d y uy hy ry
    have hxs : PyData.canLayAll0 ds = true := SeqAt.canLay_of_shaped sl
    have hroom : X.A.units + 1 + min (PyData.depthAll ds) d.depth < cLine := room_in_shaped sd hu
    cases hl with
    | lst hs ha =>
      obtain ⟨its, rv, ⟨⟨cls, dd, data, sls⟩, n, ho, hc, hdn, hdt⟩, hlen⟩ := I.list hs
      simp only at hc hdt
      subst hc hdt
      obtain ⟨as, h4⟩ := Dp.readsAll I ds _ its ha rv
      have hmap : its.map (SeqAt.readOf s.heap) = ds := SeqAt.readsAll_map ds its as hxs h4
      have hc : its.countP (fun u => PyData.eqv (SeqAt.readOf s.heap u) d) = ds.countP fun z => PyData.eqv z d := by
        conv => rhs; rw [← hmap, List.countP_map]
        rfl
      refine call_meets PySem.F.slot_list_count ⟨_, ho, rfl⟩ PySem.F.entry_list_count (PySem.F.args_list_count_2 _ _)
        (SeqAt.list_countAt a its.toArray n dd sls uy (fun u => PyData.eqv (SeqAt.readOf s.heap u) d)) ⟨ho, SeqAt.items_eqAt (vs := its.toArray) (show ReadsAll s.heap its.toArray.toList ds as from h4) r1 hxs (SeqAt.canLay_of_shaped sd) hroom, ?_⟩
      refine ⟨.int _, H, I.tok _, ⟨_, rfl⟩, ?_⟩
      rw [List.toList_toArray, hc]
      exact q
/-! ### ids -/
def idD (z : Int × Int) : PyData := .tuple [.int z.1, .int z.2]
theorem idD_lay (z : Int × Int) : (idD z).canLay0 = true := by simp [idD, PyData.canLay0, PyData.canLayAll0]
theorem idD_depth (z : Int × Int) : (idD z).depth = 1 := by simp [idD, PyData.depth, PyData.depthAll]
theorem idDs_lay : ∀ zs : List (Int × Int), PyData.canLayAll0 (zs.map idD) = true
  | [] => by simp [PyData.canLayAll0]
  | z :: zs => by simp [PyData.canLayAll0, idD_lay z, idDs_lay zs]
theorem idDs_depth : ∀ zs : List (Int × Int), PyData.depthAll (zs.map idD) ≤ 1
  | [] => by simp [PyData.depthAll]
  | z :: zs => by
    have h1 := idDs_depth zs
    have h2 := idD_depth z
    simp only [List.map_cons, PyData.depthAll]
    omega
theorem idD_shaped (z : Int × Int) : SeqAt.shaped (idD z) = true := by
  have h := idD_depth z
  show ((idD z).canLay0 && decide ((idD z).depth ≤ 64)) = true
  rw [Bool.and_eq_true]
  exact ⟨idD_lay z, decide_eq_true (by omega)⟩
theorem idDs_shaped (zs : List (Int × Int)) : SeqAt.shaped (.list (zs.map idD)) = true := by
  have h1 := idDs_depth zs
  have h2 : PyData.depth (.list (zs.map idD)) ≤ 64 := by
    simp only [PyData.depth]
    omega
  show (PyData.canLay0 (.list (zs.map idD)) && decide (PyData.depth (.list (zs.map idD)) ≤ 64)) = true
  rw [Bool.and_eq_true]
  exact ⟨by simp only [PyData.canLay0]; exact idDs_lay zs, decide_eq_true h2⟩
theorem idD_eqv (z w : Int × Int) : PyData.eqv (idD z) (idD w) = decide (z = w) := by
  obtain ⟨a, b⟩ := z
  obtain ⟨a', b'⟩ := w
  have e : PyData.eqv (idD (a, b)) (idD (a', b')) = ((a == a') && ((b == b') && true)) := by simp only [idD, PyData.eqv, PyData.eqvAll]
  rw [e, Bool.eq_iff_iff]
  simp
theorem idDs_any (zs : List (Int × Int)) (w : Int × Int) : ((zs.map idD).any fun z => PyData.eqv z (idD w)) = decide (w ∈ zs) := by
  rw [Bool.eq_iff_iff, List.any_eq_true]
  constructor
  · rintro ⟨x, hx, hw⟩
    obtain ⟨z, hz, rfl⟩ := List.mem_map.mp hx
    rw [idD_eqv] at hw
    rw [← of_decide_eq_true hw]
    exact decide_eq_true hz
  · intro h
    exact ⟨idD w, List.mem_map.mpr ⟨w, of_decide_eq_true h, rfl⟩, by rw [idD_eqv]; exact decide_eq_true rfl⟩
theorem idDs_count (zs : List (Int × Int)) (w : Int × Int) : ((zs.map idD).countP fun z => PyData.eqv z (idD w)) = zs.countP fun z => decide (z = w) := by
  rw [List.countP_map]
  refine List.countP_congr fun z _ => ?_
  show PyData.eqv (idD z) (idD w) = true ↔ _
  rw [idD_eqv]
/-! ### edits -/
structure Ed where
  p : Nat
  n : Int
  v : List Int
def Ed.id (e : Ed) : Int × Int := (1 + (e.p : Int), e.n)
structure OkE (e : Ed) : Prop where
  p : e.p < 4
  n : 1 ≤ e.n
  v : e.v.length = 4
  nh : e.n ≤ 20
  vh : ∀ z ∈ e.v, 0 ≤ z ∧ z ≤ 20
theorem OkE.at_ {e : Ed} (h : OkE e) {j : Nat} (hj : j < 4) : 0 ≤ e.v.getD j 0 ∧ e.v.getD j 0 ≤ 20 := by
  have : j < e.v.length := by rw [h.v]; exact hj
  rw [List.getD_eq_getElem?_getD, List.getElem?_eq_getElem this]
  exact h.vh _ (List.getElem_mem this)
inductive RepI (H : Hp) : List V → List Ed → Prop where
  | nil : RepI H [] []
  | cons {a : Addr} {e : Ed} {vs : List V} {ds : List Ed} : H a = some (.tup [.int (1 + (e.p : Int)), .int e.n]) → RepI H vs ds → RepI H (.ref a :: vs) (e :: ds)
def TK (H H' : Hp) : Prop := ∀ q xs, H q = some (.tup xs) → H' q = some (.tup xs)
theorem TK.of {H H' : Hp} (s : Same H H') : TK H H' := fun q xs h => s q _ h
theorem TK.trans {H H1 H2 : Hp} (a : TK H H1) (b : TK H1 H2) : TK H H2 := fun q xs h => b q xs (a q xs h)
theorem TK.mut {H : Hp} {d : Addr} {xs : List V} {o : HO} (h : H d = some (.lst xs)) : TK H (upd H d o) := fun q ys hq => by
  have : q ≠ d := fun z => by
    rw [z, h] at hq
    cases hq
  rw [upd_ne this]
  exact hq
theorem RepI.mono {H H' : Hp} (s : TK H H') : ∀ {vs ds}, RepI H vs ds → RepI H' vs ds
  | _, _, .nil => .nil
  | _, _, .cons h r => .cons (s _ _ h) (r.mono s)
theorem RepI.snoc {H : Hp} {a : Addr} {e : Ed} (h : H a = some (.tup [.int (1 + (e.p : Int)), .int e.n])) : ∀ {vs ds}, RepI H vs ds → RepI H (vs ++ [.ref a]) (ds ++ [e])
  | _, _, .nil => .cons h .nil
  | _, _, .cons h2 r => .cons h2 (r.snoc h)
theorem dp_id {K : PySem.W.Frag} {H : Hp} {a : Addr} {x y : Int} (h : H a = some (.tup [.int x, .int y])) : Dp K H (.ref a) (idD (x, y)) := .tup (SqT.of h) (.cons (.int _) (.cons (.int _) .nil))
theorem RepI.dp {K : PySem.W.Frag} {H : Hp} : ∀ {vs ds}, RepI H vs ds → DpAll K H vs ((ds.map Ed.id).map idD)
  | _, _, .nil => .nil
  | _, _, .cons h r => .cons (dp_id h) r.dp
def EdAt (H : Hp) (x : V) (e : Ed) : Prop := ∃ (q a b : Addr) (c : V), x = .ref q ∧ H q = some (.tup [.ref a, .ref b, c]) ∧ H a = some (.tup [.int (1 + (e.p : Int)), .int e.n]) ∧ H b = some (.tup (e.v.map V.int))
theorem EdAt.mono {H H' : Hp} {x : V} {e : Ed} (s : TK H H') (h : EdAt H x e) : EdAt H' x e := by
  obtain ⟨q, a, b, c, h0, h1, h2, h3⟩ := h
  exact ⟨q, a, b, c, h0, s _ _ h1, s _ _ h2, s _ _ h3⟩
structure Rep (H : Hp) (rs : List V) (D : List Ed) : Prop where
  len : rs.length = D.length
  at_ : ∀ (i : Nat) (x : V) (e : Ed), rs[i]? = some x → D[i]? = some e → EdAt H x e
theorem Rep.mono {H H' : Hp} {rs : List V} {D : List Ed} (s : TK H H') (h : Rep H rs D) : Rep H' rs D := ⟨h.len, fun i x e h1 h2 => (h.at_ i x e h1 h2).mono s⟩
theorem Rep.nil {H : Hp} : Rep H [] [] := ⟨rfl, fun i x e h => by simp at h⟩
theorem Rep.snoc {H : Hp} {rs : List V} {D : List Ed} {x : V} {e : Ed} (h : Rep H rs D) (E : EdAt H x e) : Rep H (rs ++ [x]) (D ++ [e]) := by
  refine ⟨by rw [List.length_append, List.length_append, h.len]; rfl, fun i y f h1 h2 => ?_⟩
  rcases Nat.lt_or_ge i rs.length with z | z
  · rw [List.getElem?_append_left z] at h1
    rw [List.getElem?_append_left (by rw [← h.len]; exact z)] at h2
    exact h.at_ i y f h1 h2
  · rw [List.getElem?_append_right z] at h1
    rw [List.getElem?_append_right (by rw [← h.len]; exact z), ← h.len] at h2
    generalize i - rs.length = j at h1 h2
    rcases j with _ | j
    · simp at h1 h2
      rw [← h1, ← h2]
      exact E
    · simp at h1
theorem Rep.rev {H : Hp} {rs : List V} {D : List Ed} (h : Rep H rs D) : Rep H rs.reverse D.reverse := by
  refine ⟨by rw [List.length_reverse, List.length_reverse, h.len], fun i x e h1 h2 => ?_⟩
  have hi : i < rs.length := by
    have := (List.getElem?_eq_some_iff.mp h1).1
    rwa [List.length_reverse] at this
  rw [List.getElem?_reverse hi] at h1
  rw [List.getElem?_reverse (by rw [← h.len]; exact hi), ← h.len] at h2
  exact h.at_ _ x e h1 h2
theorem Rep.get {H : Hp} {rs : List V} {D : List Ed} (h : Rep H rs D) {i : Nat} {x : V} (hx : rs[i]? = some x) : ∃ e, D[i]? = some e ∧ EdAt H x e := by
  have hi := (List.getElem?_eq_some_iff.mp hx).1
  have hi2 : i < D.length := by rw [← h.len]; exact hi
  have hd : D[i]? = some D[i] := List.getElem?_eq_getElem hi2
  exact ⟨_, hd, h.at_ i x _ hx hd⟩
def nums (D : List Ed) (p : Nat) : List Int := (D.filter fun e => decide (e.p = p)).map Ed.n
theorem nums_step {D : List Ed} {i p : Nat} {e : Ed} (h : D[i]? = some e) : nums (D.take (i + 1)) p = nums (D.take i) p ++ if e.p = p then [e.n] else [] := by
  unfold nums
  rw [List.take_add_one, h, List.filter_append, List.map_append]
  congr 1
  by_cases z : e.p = p
  · simp [z]
  · simp [z]
theorem nums_len (D : List Ed) (p : Nat) : (nums D p).length ≤ D.length := by
  unfold nums
  rw [List.length_map]
  exact List.length_filter_le _ _
theorem mem_nums {D : List Ed} {p : Nat} {k : Int} : k ∈ nums D p ↔ ∃ e ∈ D, e.p = p ∧ e.n = k := by
  unfold nums
  rw [List.mem_map]
  constructor
  · rintro ⟨e, he, rfl⟩
    have := List.mem_filter.mp he
    exact ⟨e, this.1, of_decide_eq_true this.2, rfl⟩
  · rintro ⟨e, he, hp, rfl⟩
    exact ⟨e, List.mem_filter.mpr ⟨he, decide_eq_true hp⟩, rfl⟩
/-! ### sorted(xs), xs of data -/
theorem each_of_vals : ∀ {bs : List (V × PyData)} {vs : List Value}, Vals (bs.map Prod.fst) vs → PySem.W.EachIs (fun (v : Value) (b : V × PyData) => RelV b.1 v) vs bs
  | [], _, h => by
    cases h
    exact .nil
  | _ :: _, _, h => by
    cases h with
    | cons h r => exact .cons h (each_of_vals r)
theorem vals_of_each : ∀ {vs : List Value} {bs : List (V × PyData)}, PySem.W.EachIs (fun (v : Value) (b : V × PyData) => RelV b.1 v) vs bs → Vals (bs.map Prod.fst) vs
  | _, _, .nil => .nil
  | _, _, .cons h r => .cons h (vals_of_each r)
theorem reads_of_each {X : Cx} {pins : List (Addr × Obj)} {σ : L2.St} {H : Hp} {s : Shared} (I : Inv X pins σ H s) : ∀ {vs : List Value} {bs : List (V × PyData)}, PySem.W.EachIs (fun (v : Value) (b : V × PyData) => RelV b.1 v) vs bs → (∀ b ∈ bs, Dp X.K H b.1 b.2) → PySem.W.EachIs (fun (v : Value) (b : V × PyData) => ∃ as, Reads s.heap v b.2 as) vs bs
  | _, _, .nil, _ => .nil
  | _, _, .cons h r, d => .cons (Dp.reads I _ _ _ (d _ (List.mem_cons_self ..)) h) (reads_of_each I r fun b hb => d b (List.mem_cons_of_mem _ hb))
def rSortedD (K : PySem.W.Frag) : List V → Hp → VK → Prop := fun vs H Q => ∃ (a : Addr) (bs : List (V × PyData)), vs = [V.ref a] ∧ SqL K H a (bs.map Prod.fst) ∧ (∀ b ∈ bs, Dp K H b.1 b.2) ∧ PySem.W.AllAlike (bs.map Prod.snd) ∧ PySem.W.Sortable (bs.map Prod.snd) ∧ (∀ b ∈ bs, b.2.depth ≤ 50) ∧
  ∀ p, H p = none → Q (.ref p) (upd H p (.lst ((bs.mergeSort (PySem.W.dataLe false Prod.snd)).map Prod.fst)))
theorem cr_sortedD {X : Cx} (hu : X.A.units + 64 < cLine) : CallR X (.builtin "sorted") (rSortedD X.K) := by
  intro pins s σ H vs us Q I r h
  obtain ⟨a, bs, rfl, hs, hd, hal, hso, hdp, q⟩ := h
  obtain ⟨its, rv, hl, hz⟩ := I.list hs
  rw [Vals.ref1 r]
  have e := each_of_vals rv
  refine PySem.W.sorted_data (enc := Prod.snd) hl.isList e (reads_of_each I e hd) hal hso (by rw [List.length_map] at hz; exact hz) (fun b hb => ?_) fun out h1 h2 => ?_
  · have := hdp b hb
    omega
  obtain ⟨ep, he'⟩ := PyProof.Rows.sortedAll_at s.heap its out.toArray
  have hlen : ((bs.mergeSort (PySem.W.dataLe false Prod.snd)).map Prod.fst).length ≤ sizeLine := by
    rw [List.length_map, List.length_mergeSort]
    rw [List.length_map] at hz
    exact hz
  exact ⟨.ref _, upd H (s.heap.objs.size + 1) (.lst ((bs.mergeSort (PySem.W.dataLe false Prod.snd)).map Prod.fst)), I.laid (t' := s.toks) (fun _ _ => PyProof.Rows.sortedAll_old) (Nat.le_succ _) ⟨hlen, out, ep, vals_of_each h2, he'⟩, rfl, q _ (I.hok.fresh (Nat.le_succ _))⟩
/-! ### sorted(xs, key=f), f a def -/
mutual
theorem dp_same {K : PySem.W.Frag} {H H' : Hp} (e : Same H H') : ∀ {v : V} {d : PyData}, Dp K H v d → Dp K H' v d
  | _, _, .non => .non
  | _, _, .bl b => .bl b
  | _, _, .int i => .int i
  | _, _, .str x => .str x
  | _, _, .lst h r => .lst (e.seq h) (dpAll_same e r)
  | _, _, .tup h r => .tup (Same.tup e h) (dpAll_same e r)
theorem dpAll_same {K : PySem.W.Frag} {H H' : Hp} (e : Same H H') : ∀ {vs : List V} {ds : List PyData}, DpAll K H vs ds → DpAll K H' vs ds
  | _, _, .nil => .nil
  | _, _, .cons h r => .cons (dp_same e h) (dpAll_same e r)
end
structure NewA (X : Cx) (pins : List (Addr × Obj)) (a : Addr) : Prop where
  big : X.s_0.heap.objs.size ≤ a
  loc : a ≠ X.env.locals
  fs : a ∉ X.fs
  cell : ∀ x c, X.env.cells.lookup x = some c → c ≠ a
  pin : ∀ p ∈ X.pn ++ pins, p.1 ≠ a
section
variable {X : Cx} {pins : List (Addr × Obj)} {σ : L2.St} {H : Hp} {s : Shared}
theorem NewA.of (I : Inv X pins σ H s) {a : Addr} (h : s.heap.objs.size ≤ a) : NewA X pins a := by
  refine ⟨Nat.le_trans I.sz h, fun z => ?_, I.nofs h, fun x c e z => ?_, fun p hp z => ?_⟩
  · have := I.lt
    rw [← z] at this
    exact Nat.lt_irrefl _ (Nat.lt_of_lt_of_le this h)
  · obtain ⟨v, o, ho, _⟩ := I.cell x c e
    rw [z] at ho
    exact Nat.lt_irrefl _ (Nat.lt_of_lt_of_le (Heap.lt_size ho) h)
  · obtain ⟨ho, _⟩ := I.pin p hp
    rw [z] at ho
    exact Nat.lt_irrefl _ (Nat.lt_of_lt_of_le (Heap.lt_size ho) h)
theorem NewA.cons {a b : Addr} {o : Obj} (N : NewA X pins a) (h : b ≠ a) : NewA X ((b, o) :: pins) a :=
  ⟨N.big, N.loc, N.fs, N.cell, fun p hp => by
    rcases List.mem_append.mp hp with z | z
    · exact N.pin p (List.mem_append_left _ z)
    · rcases List.mem_cons.mp z with z | z
      · rw [z]
        exact h
      · exact N.pin p (List.mem_append_right _ z)⟩
theorem pin_add {a : Addr} {o : Obj} (I : Inv X pins σ H s) (N : NewA X pins a) (ho : s.heap.get? a = some o) (hn : H a = none) (hd : ∀ v, o.data ≠ .cell v) : Inv X ((a, o) :: pins) σ H s :=
  I.pins_of fun p hp => by
    rcases List.mem_cons.mp hp with z | z
    · rw [z]
      exact ⟨ho, hn, N.loc, N.fs, hd⟩
    · exact I.pin p (List.mem_append_right _ z)
theorem pin_rest {q : Addr × Obj} (I : Inv X (q :: pins) σ H s) : Inv X pins σ H s := I.pins_of fun p hp => I.pin p (List.mem_append_right _ (List.mem_cons_of_mem _ hp))
theorem pin_set {a : Addr} {o o' : Obj} {h' : Heap} {t : Nat} (I : Inv X ((a, o) :: pins) σ H s) (N : NewA X pins a) (hs : Heap.SameBut a s.heap h') (ho : h'.get? a = some o') (hd : ∀ v, o'.data ≠ .cell v) : Inv X ((a, o') :: pins) σ H { s with heap := h', toks := t } := by
  have hn : H a = none := (I.pin (a, o) (List.mem_append_right _ (List.mem_cons_self ..))).2.1
  exact pin_add ((pin_rest I).turned (it := a) (fun b o hb e => (hs.2 b hb).trans e) hn N.loc (.inr N.big) N.cell N.pin) N ho hn hd
theorem ks_done {kS a : Addr} {h' : Heap} {tk c : Nat} {out : List Value} {xs : List V} (I : Inv X pins σ H s) (Nk : NewA X pins kS) (Na : NewA X pins a) (han : H a = none)
    (kp : ∀ b o, b ≠ kS → b ≠ a → s.heap.get? b = some o → h'.get? b = some o) (ha : h'.get? a = some (PyProof.Rows.seqObj "list" out.toArray c)) (hkn : H kS = none) (rv : Vals xs out) (hz : xs.length ≤ sizeLine) :
    Inv X pins σ (upd H a (.lst xs)) { s with heap := h', toks := tk } := by
  have n1 : ∀ {b : Addr}, b ∉ [kS, a] → b ≠ kS := fun h z => h (by rw [z]; exact List.mem_cons_self ..)
  have n2 : ∀ {b : Addr}, b ∉ [kS, a] → b ≠ a := fun h z => h (by rw [z]; exact List.mem_cons_of_mem _ (List.mem_cons_self ..))
  have na : ∀ {b : Addr} {u : HO}, H b = some u → b ≠ a := fun e z => by
    rw [z, han] at e
    cases e
  have nk : ∀ {b : Addr} {u : HO}, H b = some u → b ≠ kS := fun e z => by
    rw [z, hkn] at e
    cases e
  refine I.step (g' := s.gens) (d' := s.drawn) (ch := [kS, a]) (fun b hb => ?_) (fun b o _ _ hc e _ => kp b o (n1 hc) (n2 hc) e) (fun b o _ _ hc e _ => ⟨o.slots, kp b o (n1 hc) (n2 hc) e⟩) (fun b o hc _ n => by rw [upd_ne (n2 hc)]; exact n)
    (fun b o hc e => ⟨o, kp b o (n1 hc) (n2 hc) e⟩) (fun b xs e => by rw [upd_ne (na e)]; exact e) (fun b o u e => by rw [upd_ne (na e)]; exact e) (fun b ps e => ⟨#[], by rw [upd_ne (na e), e, Array.append_empty]⟩) (fun m hm => ?_) (fun b u e => ?_) I.bare
  · rcases List.mem_cons.mp hb with z | z
    · rw [z]
      exact ⟨.inr Nk.big, Nk.loc, Nk.cell, Nk.pin⟩
    · rw [List.mem_singleton.mp z]
      exact ⟨.inr Na.big, Na.loc, Na.cell, Na.pin⟩
  · obtain ⟨o, es, ep, ho, r⟩ := hm
    exact ⟨o, es, ep, kp _ o (fun z => Nk.loc z.symm) (fun z => Na.loc z.symm) ho, r⟩
  · by_cases hb : b = a
    · rw [hb, upd_same] at e
      cases e
      rw [hb]
      exact ⟨hz, out, c, rv, ha⟩
    · rw [upd_ne hb] at e
      refine (I.hok b u e).stay (fun d v hd q => ?_) (fun d q => by rw [upd_ne (na q)]; exact q) fun d xs q => by rw [upd_ne (na q)]; exact q
      rcases hd with z | z
      · rw [z] at q ⊢
        exact kp b v (nk e) hb q
      · exact kp d v (nk z) (na z) q
end
def dead : Obj → Obj := fun o => { o with data := .freed }
theorem dead_none {h : Heap} {a : Addr} {o : Obj} (e : h.get? a = some o) : (h.update a dead).get? a = none := by
  have hlt := Heap.lt_size e
  obtain ⟨os, lf⟩ := h
  have hlt2 : a < os.size := hlt
  show Heap.get? ⟨os.modify a dead, lf⟩ a = none
  unfold Heap.get?
  rw [Array.getElem?_modify, if_pos rfl, Array.getElem?_eq_getElem hlt2]
  rfl
def KeyTurn (X : Cx) (A : Around) (f : Value) (vs : List Value) (kz : List PyData) (H : Hp) : Prop :=
  ∀ (i : Nat) (u : Value) (k : PyData), vs[i]? = some u → kz[i]? = some k → ∀ (pins : List (Addr × Obj)) (σ : L2.St) (H1 : Hp) (s1 : Shared), Inv X pins σ H1 s1 → Same H H1 →
    wpAny (model X.prog X.w) A (call f [u]) (fun w s2 => ∃ y H2, Inv X pins σ H2 s2 ∧ Same H1 H2 ∧ RelV y w ∧ Dp X.K H2 y k) (fun _ _ => False) s1
theorem lst_nc {xs : Array Value} {n : Nat} : ∀ v, (PyProof.Rows.seqObj "list" xs n).data ≠ .cell v := fun v z => by cases z
theorem ks_snoc {R : Value → PyData → Prop} {u : Value} {k : PyData} (h : R u k) : ∀ {us : List Value} {ks : List PyData}, PySem.W.EachIs R us ks → PySem.W.EachIs R (us ++ [u]) (ks ++ [k])
  | _, _, .nil => .cons h .nil
  | _, _, .cons h1 r => .cons h1 (ks_snoc h r)
def KeysAt (K : PySem.W.Frag) (H : Hp) (us : List Value) (ks : List PyData) : Prop := PySem.W.EachIs (fun u k => ∃ y, RelV y u ∧ Dp K H y k) us ks
theorem ks_rest {X : Cx} {pins : List (Addr × Obj)} {σ : L2.St} {H : Hp} {s : Shared} {A : Around} {f : Value} {a kS : Addr} {e1 : Nat} {b : Bool} {vs : List Value} {kz : List PyData} {P : PySem.Fin → Shared → Prop} {E : Value → Shared → Prop}
    (I : Inv X ((kS, PyProof.Rows.seqObj "list" #[] 0) :: (a, PyProof.Rows.seqObj "list" #[] e1) :: pins) σ H s) (Nk : NewA X pins kS) (Na : NewA X pins a) (hka : kS ≠ a)
    (hlen : kz.length = vs.length) (hZ : vs.length ≤ sizeLine) (hal : PySem.W.AllAlike kz) (hsk : PySem.W.Sortable kz) (hu : ∀ d, d ∈ kz → A.units + d.depth < cLine) (turn : KeyTurn X A f vs kz H)
    (h : ∀ s' H' h' tk out c, Inv X pins σ H' s' → Same H H' → H' kS = none → H' a = none → (∀ b o, b ≠ kS → b ≠ a → s'.heap.get? b = some o → h'.get? b = some o) → h'.get? a = some (PyProof.Rows.seqObj "list" (List.toArray out) c) →
      PySem.W.KeyedOut b kz vs out → P (.done (.ret .none)) { s' with heap := h', toks := tk }) :
    wpAny (model X.prog X.w) A (PyProof.Rows.ksk_rest a f b vs.toArray e1 (.ref kS)) P E s := by
  unfold PyProof.Rows.ksk_rest
  apply wpAny_bind
  apply wpAny_rule
  try first
    | rw [List.forIn_toArray]
    | (rw [← Array.forIn_toList]; simp only [List.toList_toArray])
  apply wpAny_bind
  refine PyProof.Rows.ksk_fold (fun i t => ∃ H' ks ep, Inv X ((kS, PyProof.Rows.seqObj "list" ks ep) :: (a, PyProof.Rows.seqObj "list" #[] e1) :: pins) σ H' t ∧ Same H H' ∧ KeysAt X.K H' ks.toList (kz.take i)) vs 0 s
    ⟨H, #[], 0, I, Same.refl _, by rw [List.take_zero]; exact PySem.W.EachIs.nil⟩ (fun j u t hj hJ => ?_) fun t hJ => ?_
  · obtain ⟨H1, ks, ep, I1, S1, R1⟩ := hJ
    rw [Nat.zero_add] at R1 ⊢
    have hj2 : j < kz.length := by
      rw [hlen]
      exact (List.getElem?_eq_some_iff.mp hj).1
    have hk : kz[j]? = some kz[j] := List.getElem?_eq_getElem hj2
    have hn : ks.size ≤ vs.length := by
      have q := R1.length
      rw [Array.length_toList, List.length_take] at q
      omega
    apply wpAny_bind
    apply wpAny_attempt
    refine wpAny_mono (turn j u _ hj hk _ σ H1 t I1 S1) (fun w t2 hw => ?_) fun _ _ hF => hF.elim
    obtain ⟨y, H2, I2, S2, ry, dy⟩ := hw
    have pk := (I2.pin (kS, PyProof.Rows.seqObj "list" ks ep) (List.mem_append_right _ (List.mem_cons_self ..))).1
    have sb := Heap.SameBut.update t2.heap kS (Obj.mapSeq (·.push w))
    obtain ⟨c2, hc2⟩ : ∃ c2, (t2.heap.update kS (Obj.mapSeq (·.push w))).get? kS = some (PyProof.Rows.seqObj "list" (ks.push w) c2) := ⟨_, PyProof.Rows.get?_update_seq pk (·.push w)⟩
    have i3 := pin_set (t := t2.toks) I2 (Nk.cons fun z => hka z.symm) sb hc2 lst_nc
    apply wpAny_bind
    refine PyProof.Rows.listUpdate_at pk rfl ?_ (Nat.le_trans hn hZ) (Nat.le_trans (Nat.le_of_eq (Array.size_push ..)) (Nat.succ_le_succ (Nat.le_trans hn hZ)))
    refine wpAny_pure ⟨rfl, H2, ks.push w, c2, i3, S1.trans S2, ?_⟩
    have et : kz.take (j + 1) = kz.take j ++ [kz[j]] := by rw [List.take_add_one, hk]; rfl
    rw [et, Array.toList_push]
    exact ks_snoc ⟨y, ry, dy⟩ (R1.mono fun u k ⟨y, r, d⟩ => ⟨y, r, dp_same S2 d⟩)
  · obtain ⟨H1, ks, ep, I1, S1, R1⟩ := hJ
    rw [Nat.zero_add, ← hlen, List.take_length] at R1
    have pk := I1.pin (kS, PyProof.Rows.seqObj "list" ks ep) (List.mem_append_right _ (List.mem_cons_self ..))
    have pa := I1.pin (a, PyProof.Rows.seqObj "list" #[] e1) (List.mem_append_right _ (List.mem_cons_of_mem _ (List.mem_cons_self ..)))
    have hsz : ks.size = vs.length := by
      have q := R1.length
      rw [Array.length_toList] at q
      omega
    have er : PySem.W.EachIs (fun v k => ∃ as, Reads t.heap v k as) ks.toList kz := R1.mono fun u k ⟨y, r, d⟩ => Dp.reads I1 _ _ _ d r
    apply wpAny_bind
    refine PyProof.Rows.listItems_at pk.1 rfl ?_
    refine PySem.W.keyH_end (h₁ := t.heap.update kS dead) (κ := PySem.W.dataKind t.heap kz) (s := t) (a := a) (fun b o _ e => ?_) (dead_none pk.1) pk.1 pa.1 hka (PySem.W.SortsAt.data (s := t) er hal hsk hu) hsz hZ fun h3 tk3 c K3 hA => ?_
    · by_cases hb : b = kS
      · rw [hb, dead_none pk.1] at e
        cases e
      · rw [← (Heap.SameBut.update t.heap kS dead).2 b hb]
        exact e
    · refine h t H1 h3 tk3 _ c (pin_rest (pin_rest I1)) S1 pk.2.1 pa.2.1 (fun b o h1 h2 e => K3 b o h2 ?_) hA ⟨t.heap, ks.toList, hal, rfl, er⟩
      rw [(Heap.SameBut.update t.heap kS dead).2 b h1]
      exact e
theorem ks_sorted {X : Cx} {pins : List (Addr × Obj)} {σ : L2.St} {H : Hp} {s : Shared} {f : Value} {l : Addr} {kw : List (Str × Value)} {rev : Bool} {bs : List (V × PyData)} {Q : VK} (I : Inv X pins σ H s)
    (ha1 : argsOk "sorted" ⟨[.ref l], kw⟩) (ha2 : ∀ x, argsOk "list.sort" ⟨[.ref x], kw⟩) (ht : ∀ x, Builtin.«list.sort» ⟨[.ref x], kw⟩ = PyProof.Rows.ksk_tree x f rev)
    (hl : SqL X.K H l (bs.map Prod.fst)) (hal : PySem.W.AllAlike (bs.map Prod.snd)) (hsk : PySem.W.Sortable (bs.map Prod.snd)) (hd : ∀ b ∈ bs, X.A.units + 2 + b.2.depth < cLine)
    (turn : ∀ b ∈ bs, ∀ (u : Value), RelV b.1 u → ∀ (pins : List (Addr × Obj)) (σ : L2.St) (H1 : Hp) (s1 : Shared), Inv X pins σ H1 s1 → Same H H1 →
      wpAny (model X.prog X.w) X.A.in1.in1 (call f [u]) (fun w s2 => ∃ y H2, Inv X pins σ H2 s2 ∧ Same H1 H2 ∧ RelV y w ∧ Dp X.K H2 y b.2) (fun _ _ => False) s1)
    (q : ∀ p H', Same H H' → H' p = none → Q (.ref p) (upd H' p (.lst ((bs.mergeSort (PySem.W.dataLe rev Prod.snd)).map Prod.fst)))) :
    wpAny (model X.prog X.w) X.A (call (.builtin "sorted") [.ref l] kw) (EP X pins σ Q) X.xe s := by
  obtain ⟨its, rv, hi, hz⟩ := I.list hl
  have ea := each_of_vals rv
  have hlen : its.length = bs.length := by rw [← rv.length, List.length_map]
  have hz2 : its.length ≤ sizeLine := by rw [← rv.length]; exact hz
  refine PySem.W.sorted_of_sort hi.isList hz2 ha1 ha2 fun E' => ?_
  rw [ht]
  have nA : H (s.heap.objs.size + 1) = none := I.hok.fresh (Nat.le_succ _)
  have NA : NewA X pins (s.heap.objs.size + 1) := NewA.of I (Nat.le_succ _)
  have I0 : Inv X pins σ H { s with heap := PySem.W.copyHeap s.heap its, toks := s.toks } := I.kept fun _ _ => PySem.W.copyHeap_old
  have ho := PySem.W.copyHeap_at s.heap its
  have I0' := pin_add I0 NA ho nA lst_nc
  revert I0 I0' ho
  generalize PySem.W.copyHeap s.heap its = hc
  generalize hA : s.heap.objs.size + 1 = a at nA NA
  intro I0 ho I0'
  obtain ⟨e1, ho1⟩ : ∃ e1, (hc.update a (Obj.mapSeq fun _ => (#[] : Array Value))).get? a = some (PyProof.Rows.seqObj "list" #[] e1) := ⟨_, PyProof.Rows.get?_update_seq ho fun _ => #[]⟩
  have I1 := pin_set (t := s.toks) I0' NA (Heap.SameBut.update hc a (Obj.mapSeq fun _ => (#[] : Array Value))) ho1 lst_nc
  have I2 : Inv X ((a, PyProof.Rows.seqObj "list" #[] e1) :: pins) σ H { s with heap := (hc.update a (Obj.mapSeq fun _ => (#[] : Array Value))).push (PyProof.Rows.seqObj "tuple" its.toArray 0), toks := s.toks } := I1.kept fun _ _ e => Heap.get?_push_of_some _ e
  have I3 : Inv X ((a, PyProof.Rows.seqObj "list" #[] e1) :: pins) σ H { s with heap := ((hc.update a (Obj.mapSeq fun _ => (#[] : Array Value))).push (PyProof.Rows.seqObj "tuple" its.toArray 0)).push (PyProof.Rows.seqObj "list" #[] 0), toks := s.toks } := I2.kept fun _ _ e => Heap.get?_push_of_some _ e
  have NK := NewA.of I2 (Nat.le_refl _)
  have nK : H ((hc.update a (Obj.mapSeq fun _ => (#[] : Array Value))).push (PyProof.Rows.seqObj "tuple" its.toArray 0)).objs.size = none := I2.hok.fresh (Nat.le_refl _)
  have hk : (((hc.update a (Obj.mapSeq fun _ => (#[] : Array Value))).push (PyProof.Rows.seqObj "tuple" its.toArray 0)).push (PyProof.Rows.seqObj "list" #[] 0)).get? ((hc.update a (Obj.mapSeq fun _ => (#[] : Array Value))).push (PyProof.Rows.seqObj "tuple" its.toArray 0)).objs.size = some (PyProof.Rows.seqObj "list" #[] 0) := Heap.get?_push_size _ rfl
  have I4 := pin_add I3 NK hk nK lst_nc
  have hka : ((hc.update a (Obj.mapSeq fun _ => (#[] : Array Value))).push (PyProof.Rows.seqObj "tuple" its.toArray 0)).objs.size ≠ a := fun z => NK.pin (a, PyProof.Rows.seqObj "list" #[] e1) (List.mem_append_right _ (List.mem_cons_self ..)) z.symm
  have NK2 : NewA X pins ((hc.update a (Obj.mapSeq fun _ => (#[] : Array Value))).push (PyProof.Rows.seqObj "tuple" its.toArray 0)).objs.size := NewA.of (pin_rest I2) (Nat.le_refl _)
  unfold PyProof.Rows.ksk_tree
  apply wpAny_bind
  refine PyProof.Rows.listItems_at ho rfl ?_
  apply wpAny_bind
  refine PyProof.Rows.listUpdate_at ho rfl ?_ (by rw [List.size_toArray]; exact hz2) (Nat.zero_le _)
  apply wpAny_bind
  refine PyProof.Rows.seqEpoch_at ho1 rfl ?_
  apply wpAny_bind
  refine wpAny_newTuple ?_ (by show its.length ≤ _; exact hz2)
  apply wpAny_bind
  refine wpAny_newList ?_ (Nat.zero_le _)
  refine wpAny_holding ?_
  refine ks_rest (kz := bs.map Prod.snd) (vs := its) I4 NK2 NA hka (by rw [List.length_map, hlen]) hz2 hal hsk (fun d hd' => ?_) (fun i u k hu hk pins σ H1 s1 J S => ?_) fun s' H' h' tk out c J S n1 n2 kp hA' ko => ?_
  · obtain ⟨b, hb, rfl⟩ := List.mem_map.mp hd'
    exact hd b hb
  · rw [List.getElem?_map] at hk
    cases hb : bs[i]? with
    | none =>
      rw [hb] at hk
      cases hk
    | some b =>
      rw [hb] at hk
      cases hk
      refine turn b (List.mem_of_getElem? hb) u ?_ pins σ H1 s1 J S
      have hz' : (u, b) ∈ its.zip bs := List.mem_of_getElem? (i := i) (by rw [List.getElem?_zip_eq_some]; exact ⟨hu, hb⟩)
      exact ea.zip _ hz'
  · have eo := PySem.W.keyedOut_each (R := fun v b => RelV b.1 v) Prod.snd ko ea
    have ro := vals_of_each eo
    refine ⟨rfl, .ref a, upd H' a (.lst ((bs.mergeSort (PySem.W.dataLe rev Prod.snd)).map Prod.fst)), ks_done J NK2 NA n2 kp hA' n1 ro (by rw [ro.length, ko.length (by rw [List.length_map, hlen])]; exact hz2), rfl, q a H' S n2⟩
/-- a def as the key -/
theorem ks_turn {X : Cx} {CX : CXT} {k : Nat} {f : Addr} {fd : FuncData} {p : Str} {sp : Sp} {E : XK} {H : Hp} {b : V × PyData} (F : FnOk X.prog X.w X.K X.mg X.base CX k f fd [p] sp) (hr : Room k X.A.in1.in1) (hb : Binds X.K fd [p] [])
    (hx : ∀ H1 s1 e s2, CX X.stack H1 s1 E e s2 → False) (h : ∀ H1, Same H H1 → sp [b.1] H1 (fun y H2 => Same H1 H2 ∧ Dp X.K H2 y b.2) E) :
    ∀ (u : Value), RelV b.1 u → ∀ (pins : List (Addr × Obj)) (σ : L2.St) (H1 : Hp) (s1 : Shared), Inv X pins σ H1 s1 → Same H H1 →
      wpAny (model X.prog X.w) X.A.in1.in1 (call (.ref f) [u]) (fun w s2 => ∃ y H2, Inv X pins σ H2 s2 ∧ Same H1 H2 ∧ RelV y w ∧ Dp X.K H2 y b.2) (fun _ _ => False) s1 := by
  intro u ru pins σ H1 s1 I S
  refine wpAny_call (codeAny_mono (F.run X.A.in1.in1 X.stack s1 H1 ⟨[u], []⟩ [u] [b.1] _ E hr I.env0.in1.in1 (hb s1 [u] I.kIn rfl) (.cons ru .nil) (h H1 S)) fun r s' hq => ?_)
  cases r with
  | error e => exact hx _ _ _ _ hq
  | ok fl =>
    cases fl with
    | ret w =>
      obtain ⟨y, H2, I2, ry, S2, d⟩ := I.after hq
      exact ⟨y, H2, I2, S2, ry, d⟩
    | next => exact False.elim hq
    | brk => exact False.elim hq
    | cont => exact False.elim hq
def rSortedKf (K : PySem.W.Frag) (f : Addr) (sp : Sp) (E : XK) : List V → List V → Hp → VK → Prop := fun vs zs H Q => ∃ (a : Addr) (bs : List (V × PyData)), vs = [V.ref a] ∧ zs = [V.ref f] ∧ SqL K H a (bs.map Prod.fst) ∧ PySem.W.AllAlike (bs.map Prod.snd) ∧ PySem.W.Sortable (bs.map Prod.snd) ∧
  (∀ b ∈ bs, b.2.depth ≤ 50) ∧ (∀ b ∈ bs, ∀ H1, Same H H1 → sp [b.1] H1 (fun y H2 => Same H1 H2 ∧ Dp K H2 y b.2) E) ∧ ∀ p H', Same H H' → H' p = none → Q (.ref p) (upd H' p (.lst ((bs.mergeSort (PySem.W.dataLe false Prod.snd)).map Prod.fst)))
theorem cr_sortedKf {X : Cx} {CX : CXT} {k : Nat} {f : Addr} {fd : FuncData} {p : Str} {sp : Sp} {E : XK} (F : FnOk X.prog X.w X.K X.mg X.base CX k f fd [p] sp) (hr : Room (k + 2) X.A) (hb : Binds X.K fd [p] []) (hx : ∀ H1 s1 e s2, CX X.stack H1 s1 E e s2 → False) :
    CallRK X (.builtin "sorted") [Str.ofString "key"] (rSortedKf X.K f sp E) := by
  intro pins s σ H xs zs us ws Q I rx rz h
  obtain ⟨a, bs, rfl, rfl, hl, hal, hsk, hd, hf, q⟩ := h
  rw [Vals.ref1 rx, Vals.ref1 rz]
  have hu := hr.un
  exact ks_sorted (f := .ref f) (rev := false) I (PyProof.Rows.ksk_s1 _ _) (fun _ => PyProof.Rows.ksk_l1 _ _) (fun _ => PyProof.Rows.ksk_t1 _ _) hl hal hsk (fun b hb => by have := hd b hb; omega)
    (fun b hbm => ks_turn F hr.in1.in1 hb hx (hf b hbm)) q
/-! ### len(set(xs)), xs tuples of ints; sum(t) -/
def rLenT (K : PySem.W.Frag) (P : Program) (w : World) : List V → Hp → VK → Prop := fun xs H Q => ∃ (a : Addr) (L : List (Addr × List Int)), xs = [V.ref a] ∧ H a = some (SetTO P w a L) ∧ (∀ p ∈ L, SqT K H p.1 (p.2.map V.int)) ∧ ((L.map (·.2)).Nodup → Q (.int L.length) H)
theorem call_lenT {X : Cx} : CallR X (.builtin "len") (rLenT X.K X.prog X.w) := by
  intro pins s σ H xs us Q I r h
  obtain ⟨a, L, rfl, ha, ht, q⟩ := h
  rw [Vals.ref1 r]
  obtain ⟨R0, _, _⟩ := I.hok a _ ha
  obtain ⟨es, ep, t, R⟩ := SetT0.full R0 fun p hp => I.isT (ht p hp)
  obtain ⟨o, ho, hex, hd⟩ := R.ob
  have hl : es.size = L.length := by
    rw [← Array.length_toList, R.rows]
    unfold rowsOf
    rw [List.length_map]
  have hf := R.few
  exact call_len_set ho hex hd R.fits (by rw [hl]; omega) ⟨.int L.length, H, I.tok _, ⟨_, by rw [hl]⟩, q R.nd⟩
def rSumT (K : PySem.W.Frag) : List V → Hp → VK → Prop := fun vs H Q => ∃ (a : Addr) (ns : List Int), vs = [V.ref a] ∧ SqT K H a (ns.map V.int) ∧ Q (.int ns.sum) H
theorem cr_sumT {X : Cx} (hc : X.calm = true) : CallR X (.builtin "sum") (rSumT X.K) := by
  intro pins s σ H vs us Q I r h
  obtain ⟨a, ns, rfl, ha, q⟩ := h
  rw [Vals.ref1 r]
  obtain ⟨its, rv, ht, hz⟩ := I.tuple ha
  have hi : IntsAre its ns := by simpa using rv.ints
  obtain ⟨xs, hx⟩ := hi.allInts.items
  have hn : numsOf its = ns := hi.numsOf
  have hn2 : numsOf (intItems xs).toList = ns := by rw [← hx]; exact hn
  rw [hx] at ht
  rw [nums_intItems] at hn2
  refine PySem.W.ktm_sumG (I.ok.hd hc) ht fun h' tk t' hk => ?_
  rw [preSum_eq, List.take_of_length_le (by simp), hn2]
  exact ⟨.int ns.sum, H, I.kept hk, ⟨_, rfl⟩, q⟩
theorem cr_sumTK {X : Cx} {K : PySem.W.Frag} (h : X.K = K) (hc : X.calm = true) : CallR X (.builtin "sum") (rSumT K) := by
  subst h
  exact cr_sumT hc
/-! ### rows of objects that stand for data -/
structure RepG {β : Type} (At : V → β → Prop) (rs : List V) (D : List β) : Prop where
  len : rs.length = D.length
  at_ : ∀ (i : Nat) (x : V) (e : β), rs[i]? = some x → D[i]? = some e → At x e
theorem RepG.nil {β : Type} {At : V → β → Prop} : RepG At [] [] := ⟨rfl, fun i x e h => by simp at h⟩
theorem RepG.imp {β : Type} {At At' : V → β → Prop} {rs : List V} {D : List β} (h : RepG At rs D) (f : ∀ x e, At x e → At' x e) : RepG At' rs D := ⟨h.len, fun i x e h1 h2 => f x e (h.at_ i x e h1 h2)⟩
theorem RepG.snoc {β : Type} {At : V → β → Prop} {rs : List V} {D : List β} {x : V} {e : β} (h : RepG At rs D) (E : At x e) : RepG At (rs ++ [x]) (D ++ [e]) := by
  refine ⟨by rw [List.length_append, List.length_append, h.len]; rfl, fun i y f h1 h2 => ?_⟩
  rcases Nat.lt_or_ge i rs.length with z | z
  · rw [List.getElem?_append_left z] at h1
    rw [List.getElem?_append_left (by rw [← h.len]; exact z)] at h2
    exact h.at_ i y f h1 h2
  · rw [List.getElem?_append_right z] at h1
    rw [List.getElem?_append_right (by rw [← h.len]; exact z), ← h.len] at h2
    generalize i - rs.length = j at h1 h2
    rcases j with _ | j
    · simp at h1 h2
      rw [← h1, ← h2]
      exact E
    · simp at h1
theorem RepG.get {β : Type} {At : V → β → Prop} {rs : List V} {D : List β} (h : RepG At rs D) {i : Nat} {x : V} (hx : rs[i]? = some x) : ∃ e, D[i]? = some e ∧ At x e := by
  have hi := (List.getElem?_eq_some_iff.mp hx).1
  have hi2 : i < D.length := by rw [← h.len]; exact hi
  have hd : D[i]? = some D[i] := List.getElem?_eq_getElem hi2
  exact ⟨_, hd, h.at_ i x _ hx hd⟩
theorem RepG.fst {β : Type} {At : V → β → Prop} {rs : List V} {D : List β} (h : RepG At rs D) : (rs.zip D).map Prod.fst = rs := List.map_fst_zip (Nat.le_of_eq h.len)
theorem RepG.snd {β : Type} {At : V → β → Prop} {rs : List V} {D : List β} (h : RepG At rs D) : (rs.zip D).map Prod.snd = D := List.map_snd_zip (Nat.le_of_eq h.len.symm)
theorem RepG.mem {β : Type} {At : V → β → Prop} {rs : List V} {D : List β} (h : RepG At rs D) : ∀ z ∈ rs.zip D, At z.1 z.2 := fun z hz => by
  obtain ⟨i, hi⟩ := List.mem_iff_getElem?.mp hz
  obtain ⟨h1, h2⟩ := List.getElem?_zip_eq_some.mp hi
  exact h.at_ i _ _ h1 h2
theorem RepG.of_zs {β : Type} {At : V → β → Prop} {zs : List (V × β)} (h : ∀ z ∈ zs, At z.1 z.2) : RepG At (zs.map Prod.fst) (zs.map Prod.snd) := by
  refine ⟨by rw [List.length_map, List.length_map], fun i x e h1 h2 => ?_⟩
  rw [List.getElem?_map] at h1 h2
  cases hz : zs[i]? with
  | none =>
    rw [hz] at h1
    cases h1
  | some z =>
    rw [hz] at h1 h2
    cases h1
    cases h2
    exact h z (List.mem_of_getElem? hz)
theorem RepG.dps {β : Type} {K : PySem.W.Frag} {H : Hp} {At : V → β → Prop} {k : β → PyData} (h2 : ∀ x e, At x e → Dp K H x (k e)) : ∀ {zs : List (V × β)}, (∀ z ∈ zs, At z.1 z.2) → DpAll K H (zs.map Prod.fst) ((zs.map Prod.snd).map k)
  | [], _ => .nil
  | z :: zs, h => .cons (h2 _ _ (h z (List.mem_cons_self ..))) (RepG.dps h2 fun y hy => h y (List.mem_cons_of_mem _ hy))
/-! ### the order of edits -/
def stampE (e : Ed) : Int := 1 + e.v.sum
def ltE (e f : Ed) : Prop := stampE e < stampE f ∨ (stampE e = stampE f ∧ (e.p < f.p ∨ (e.p = f.p ∧ e.n < f.n)))
instance (e f : Ed) : Decidable (ltE e f) := by unfold ltE; infer_instance
def keyE (e : Ed) : PyData := .tuple [.int (stampE e), idD e.id]
theorem alike_id (z w : Int × Int) : PySem.W.alike (idD z) (idD w) = true := by simp [idD, PySem.W.alike, PySem.W.alikeAll]
theorem lt_idD (e f : Ed) : PySem.W.dataLt (idD e.id) (idD f.id) = decide (e.p < f.p ∨ (e.p = f.p ∧ e.n < f.n)) := by
  unfold idD
  rw [PySem.W.dataLt_ii]
  refine decide_eq_decide.mpr ?_
  show (1 + (e.p : Int) < 1 + (f.p : Int) ∨ (1 + (e.p : Int) = 1 + (f.p : Int) ∧ e.n < f.n)) ↔ _
  omega
theorem id_iff (e f : Ed) : e.id = f.id ↔ e.p = f.p ∧ e.n = f.n := by
  constructor
  · intro h
    have h1 : 1 + (e.p : Int) = 1 + f.p := congrArg Prod.fst h
    exact ⟨by omega, congrArg Prod.snd h⟩
  · rintro ⟨h1, h2⟩
    unfold Ed.id
    rw [h1, h2]
theorem lt_keyE (e f : Ed) : PySem.W.dataLt (keyE e) (keyE f) = decide (ltE e f) := by
  unfold keyE
  rw [PySem.W.dataLt_pair (by simp [PySem.W.alike]) (alike_id _ _), idD_eqv, PySem.W.dataLt_int, lt_idD]
  simp only [PyData.eqv, beq_iff_eq, decide_eq_true_iff]
  have hi := id_iff e f
  by_cases h1 : stampE e = stampE f
  · rw [if_pos h1]
    by_cases h2 : e.id = f.id
    · rw [if_pos h2]
      have h3 := hi.mp h2
      refine (decide_eq_false ?_).symm
      unfold ltE
      omega
    · rw [if_neg h2]
      refine decide_eq_decide.mpr ?_
      unfold ltE
      omega
  · rw [if_neg h1]
    refine decide_eq_decide.mpr ?_
    unfold ltE
    omega
theorem keyE_alike (e f : Ed) : PySem.W.alike (keyE e) (keyE f) = true := by
  have := alike_id e.id f.id
  simp [keyE, PySem.W.alike, PySem.W.alikeAll, this]
theorem keyE_depth (e : Ed) : (keyE e).depth ≤ 50 := by
  have := idD_depth e.id
  simp only [keyE, PyData.depth, PyData.depthAll]
  omega
/-! ### integers as bytes -/
def nb (n : Nat) : List Int := if h : 128 ≤ n then (128 + ((n % 128 : Nat) : Int)) :: nb (n / 128) else [(n : Int)]
termination_by n
decreasing_by omega
theorem nb_small {n : Nat} (h : n < 128) : nb n = [(n : Int)] := by
  rw [nb, dif_neg (by omega)]
theorem nb_big {n : Nat} (h : 128 ≤ n) : nb n = (128 + ((n % 128 : Nat) : Int)) :: nb (n / 128) := by
  rw [nb, dif_pos h]
theorem nb_pos (n : Nat) : 0 < (nb n).length := by
  by_cases h : 128 ≤ n
  · rw [nb_big h]
    exact Nat.succ_pos _
  · rw [nb_small (by omega)]
    exact Nat.succ_pos _
theorem nb_len : ∀ (k n : Nat), n < 128 ^ (k + 1) → (nb n).length ≤ k + 1
  | 0, n, h => by
    rw [nb_small (by simpa using h)]
    exact Nat.le_refl _
  | k + 1, n, h => by
    by_cases h1 : 128 ≤ n
    · rw [nb_big h1, List.length_cons]
      have h2 : n / 128 < 128 ^ (k + 1) := by
        rw [Nat.div_lt_iff_lt_mul (by decide), ← Nat.pow_succ]
        exact h
      have := nb_len k (n / 128) h2
      omega
    · rw [nb_small (by omega)]
      show 1 ≤ k + 1 + 1
      omega
def val : List Int → Int
  | [] => 0
  | b :: r => b % 128 + 128 * val r
theorem val_nb (n : Nat) : val (nb n) = n := by
  induction n using Nat.strongRecOn with
  | _ n ih =>
    by_cases h : 128 ≤ n
    · rw [nb_big h]
      show (128 + ((n % 128 : Nat) : Int)) % 128 + 128 * val (nb (n / 128)) = n
      rw [ih (n / 128) (by omega)]
      omega
    · rw [nb_small (by omega)]
      show (n : Int) % 128 + 128 * 0 = n
      omega
theorem val_app (xs : List Int) (b : Int) : val (xs ++ [b]) = val xs + b % 128 * 128 ^ xs.length := by
  induction xs with
  | nil =>
    show b % 128 + 128 * 0 = 0 + b % 128 * 128 ^ 0
    omega
  | cons x r ih =>
    show x % 128 + 128 * val (r ++ [b]) = x % 128 + 128 * val r + b % 128 * 128 ^ (r.length + 1)
    rw [ih, Int.mul_add, Int.pow_succ, ← Int.mul_assoc (b % 128), Int.mul_comm (b % 128 * 128 ^ r.length) 128]
    omega
theorem nb_item (n : Nat) : ∀ (j : Nat) (b : Int), (nb n)[j]? = some b → (j + 1 < (nb n).length → 128 ≤ b ∧ b ≤ 255) ∧ (j + 1 = (nb n).length → 0 ≤ b ∧ b < 128 ∧ (b = 0 → n = 0)) := by
  induction n using Nat.strongRecOn with
  | _ n ih =>
    intro j b e
    by_cases h : 128 ≤ n
    · rw [nb_big h] at e ⊢
      rcases j with _ | j
      · have e2 := Option.some.inj e
        have := nb_pos (n / 128)
        rw [List.length_cons]
        refine ⟨fun _ => by omega, fun z => by omega⟩
      · rw [List.getElem?_cons_succ] at e
        obtain ⟨h1, h2⟩ := ih (n / 128) (by omega) j b e
        rw [List.length_cons]
        refine ⟨fun z => h1 (by omega), fun z => ?_⟩
        obtain ⟨a1, a2, a3⟩ := h2 (by omega)
        exact ⟨a1, a2, fun z => by have := a3 z; omega⟩
    · rw [nb_small (by omega)] at e ⊢
      rcases j with _ | j
      · have e2 := Option.some.inj e
        refine ⟨fun z => by simp at z, fun _ => by omega⟩
      · simp at e
def spNumberBytes (K : PySem.W.Frag) : Sp := fun vs H Q _ => ∃ (n : Nat), vs = [.int (n : Int)] ∧ (nb n).length ≤ 1000 ∧ ∀ d H', H d = none → Same H H' → H' d = some (.lst ((nb n).map V.int)) → Q (.ref d) H'
/-! ### numbers and records in bytes -/
def hdB : List Int → Option (List Int)
  | [] => none
  | b :: r => if b < 128 then some [b] else (hdB r).map (b :: ·)
theorem hdB_none : ∀ (l : List Int), (∀ b ∈ l, 128 ≤ b) → hdB l = none
  | [], _ => rfl
  | b :: r, h => by
    have h1 := h b (List.mem_cons_self ..)
    unfold hdB
    rw [if_neg (by omega), hdB_none r fun x hx => h x (List.mem_cons_of_mem _ hx)]
    rfl
theorem hdB_at : ∀ (k : Nat) (l : List Int) (b : Int), (∀ j x, j < k → l[j]? = some x → 128 ≤ x) → l[k]? = some b → b < 128 → hdB l = some (l.take (k + 1))
  | _, [], _, _, e, _ => by simp at e
  | 0, c :: r, b, _, e, h => by
    have : c = b := by simpa using e
    unfold hdB
    rw [if_pos (by omega)]
    rfl
  | k + 1, c :: r, b, h0, e, h => by
    have h1 := h0 0 c (Nat.succ_pos _) rfl
    unfold hdB
    rw [if_neg (by omega), hdB_at k r b (fun j x hj hx => h0 (j + 1) x (by omega) (by simpa using hx)) (by simpa using e) h]
    rfl
/-- the integer at a place: its value and the place behind it -/
def rdI (bs : List Int) (pos : Nat) : Option (Int × Nat) :=
  match hdB (bs.drop pos) with
  | none => none
  | some w => if 1 < w.length ∧ w.getLast? = some 0 then none else some (val w, pos + w.length)
theorem val_nn : ∀ l : List Int, 0 ≤ val l
  | [] => Int.le_refl _
  | b :: r => by
    have := val_nn r
    have h : val (b :: r) = b % 128 + 128 * val r := rfl
    omega
theorem rdI_nn {bs : List Int} {pos e : Nat} {z : Int} (h : rdI bs pos = some (z, e)) : 0 ≤ z := by
  unfold rdI at h
  split at h
  · cases h
  · split at h
    · cases h
    · have := Option.some.inj h
      have h2 : val _ = z := congrArg Prod.fst this
      rw [← h2]
      exact val_nn _
theorem getLast_nb (n : Nat) (h : 1 < (nb n).length) : (nb n).getLast? ≠ some 0 := by
  intro e
  rw [List.getLast?_eq_getElem?] at e
  have := (nb_item n ((nb n).length - 1) 0 e).2 (by omega)
  have h0 := this.2.2 rfl
  rw [h0, nb_small (by decide)] at h
  simp at h
theorem hdB_nb (n : Nat) (r : List Int) : hdB (nb n ++ r) = some (nb n) := by
  have hp := nb_pos n
  obtain ⟨b, hb⟩ : ∃ b, (nb n)[(nb n).length - 1]? = some b := ⟨_, List.getElem?_eq_getElem (by omega)⟩
  have h1 : ∀ j x, j < (nb n).length - 1 → (nb n ++ r)[j]? = some x → 128 ≤ x := fun j x hj hx => by
    rw [List.getElem?_append_left (by omega)] at hx
    exact ((nb_item n j x hx).1 (by omega)).1
  have h2 : (nb n ++ r)[(nb n).length - 1]? = some b := by
    rw [List.getElem?_append_left (by omega)]
    exact hb
  rw [hdB_at ((nb n).length - 1) _ b h1 h2 ((nb_item n _ b hb).2 (by omega)).2.1, Nat.sub_add_cancel hp, List.take_left]
theorem rdI_nb {bs : List Int} {pos : Nat} (n : Nat) {r : List Int} (h : bs.drop pos = nb n ++ r) : rdI bs pos = some ((n : Int), pos + (nb n).length) := by
  unfold rdI
  rw [h, hdB_nb]
  show (if 1 < (nb n).length ∧ (nb n).getLast? = some 0 then none else some (val (nb n), pos + (nb n).length)) = _
  rw [if_neg (fun z => getLast_nb n z.1 z.2), val_nb]
theorem rdI_part {bs : List Int} {pos : Nat} (n k : Nat) (hk : k < (nb n).length) (h : bs.drop pos = (nb n).take k) : rdI bs pos = none := by
  unfold rdI
  rw [h, hdB_none _ fun b hb => ?_]
  obtain ⟨j, hj⟩ := List.mem_iff_getElem?.mp hb
  have hjk : j < k := by
    have := (List.getElem?_eq_some_iff.mp hj).1
    rw [List.length_take] at this
    omega
  rw [List.getElem?_take_of_lt hjk] at hj
  exact ((nb_item n j b hj).1 (by omega)).1
theorem rdI_end {bs : List Int} {pos : Nat} (h : bs.length ≤ pos) : rdI bs pos = none := by
  unfold rdI
  rw [List.drop_eq_nil_of_le h]
  rfl
/-- the sum of bytes -/
def sumB (l : List Int) : Int := l.foldl (fun t b => (31 * t + b + 1) % 65521) 1
theorem sumB_snoc (l : List Int) (b : Int) : sumB (l ++ [b]) = (31 * sumB l + b + 1) % 65521 := by
  unfold sumB
  rw [List.foldl_append]
  rfl
theorem sumB_nn (l : List Int) : 0 ≤ sumB l ∧ sumB l < 65521 := by
  rcases List.eq_nil_or_concat l with h | ⟨r, b, h⟩
  · rw [h]
    exact ⟨by decide, by decide⟩
  · rw [h, List.concat_eq_append, sumB_snoc]
    omega
def recB (w : List Int) : List Int := nb w.length ++ w ++ nb (sumB w).toNat
/-- the record at a place -/
def rrB (bs : List Int) (pos : Nat) : Option (List Int × Nat) :=
  match rdI bs pos with
  | none => none
  | some (many, p) =>
    match rdI bs (p + many.toNat) with
    | none => none
    | some (told, e) => if told = sumB ((bs.drop p).take many.toNat) then some ((bs.drop p).take many.toNat, e) else none
theorem drop_app {bs a b : List Int} {pos : Nat} (h : bs.drop pos = a ++ b) : bs.drop (pos + a.length) = b := by
  rw [← List.drop_drop, h, List.drop_left]
theorem rrB_any {bs : List Int} {pos : Nat} {w r : List Int} {s : Nat} (h : bs.drop pos = nb w.length ++ (w ++ (nb s ++ r))) : rrB bs pos = if (s : Int) = sumB w then some (w, pos + (nb w.length ++ (w ++ nb s)).length) else none := by
  have h1 := rdI_nb w.length h
  have d1 := drop_app h
  have d2 := drop_app d1
  have h2 := rdI_nb s d2
  have tk : (bs.drop (pos + (nb w.length).length)).take w.length = w := by rw [d1, List.take_left]
  unfold rrB
  rw [h1]
  show (match rdI bs (pos + (nb w.length).length + ((w.length : Nat) : Int).toNat) with
    | none => none
    | some (told, e) => if told = sumB ((bs.drop (pos + (nb w.length).length)).take ((w.length : Nat) : Int).toNat) then some ((bs.drop (pos + (nb w.length).length)).take ((w.length : Nat) : Int).toNat, e) else none) = _
  rw [Int.toNat_natCast, h2, tk]
  show (if (s : Int) = sumB w then some (w, pos + (nb w.length).length + w.length + (nb s).length) else none) = _
  have el : pos + (nb w.length).length + w.length + (nb s).length = pos + (nb w.length ++ (w ++ nb s)).length := by
    rw [List.length_append, List.length_append]
    omega
  rw [el]
theorem recB_eq (w r : List Int) : recB w ++ r = nb w.length ++ (w ++ (nb (sumB w).toNat ++ r)) := by
  unfold recB
  rw [List.append_assoc, List.append_assoc]
theorem rrB_rec {bs : List Int} {pos : Nat} {w r : List Int} (h : bs.drop pos = recB w ++ r) : rrB bs pos = some (w, pos + (recB w).length) := by
  rw [recB_eq] at h
  have hs := sumB_nn w
  rw [rrB_any h, if_pos (Int.toNat_of_nonneg hs.1)]
  unfold recB
  rw [List.append_assoc]
theorem rrB_changed {bs : List Int} {pos : Nat} {w r : List Int} {s : Int} (hs0 : 0 ≤ s) (h : bs.drop pos = nb w.length ++ (w ++ (nb s.toNat ++ r))) (n : sumB w ≠ s) : rrB bs pos = none := by
  rw [rrB_any h, if_neg]
  rw [Int.toNat_of_nonneg hs0]
  exact fun z => n z.symm
theorem rrB_end {bs : List Int} {pos : Nat} (h : bs.length ≤ pos) : rrB bs pos = none := by
  unfold rrB
  rw [rdI_end h]
theorem rrB_cut {bs : List Int} {w r : List Int} {cut : Nat} (hc : cut < (recB w).length) (h : bs = (recB w ++ r).take cut) : rrB bs 0 = none := by
  have h0 : bs = (recB w).take cut := by rw [h, List.take_append_of_le_length (Nat.le_of_lt hc)]
  have hl : (recB w).length = (nb w.length).length + w.length + (nb (sumB w).toNat).length := by
    unfold recB
    rw [List.length_append, List.length_append]
  rcases Nat.lt_or_ge cut (nb w.length).length with c | c
  · have h1 : bs.drop 0 = (nb w.length).take cut := by
      rw [h0, List.drop_zero]
      unfold recB
      rw [List.append_assoc, List.take_append_of_le_length (Nat.le_of_lt c)]
    unfold rrB
    rw [rdI_part _ _ c h1]
  have h1 : bs.drop 0 = nb w.length ++ (w ++ nb (sumB w).toNat).take (cut - (nb w.length).length) := by
    rw [h0, List.drop_zero]
    unfold recB
    rw [List.append_assoc, List.take_append, List.take_of_length_le c]
  have e1 := rdI_nb _ h1
  have e2 : rdI bs (0 + (nb w.length).length + w.length) = none := by
    have d1 := drop_app h1
    have lp := nb_pos (sumB w).toNat
    have d2 : bs.drop (0 + (nb w.length).length + w.length) = (nb (sumB w).toNat).take (cut - (nb w.length).length - w.length) := by
      rw [← List.drop_drop, d1, List.drop_take, List.drop_left]
    exact rdI_part _ _ (by omega) d2
  unfold rrB
  rw [e1]
  show (match rdI bs (0 + (nb w.length).length + ((w.length : Nat) : Int).toNat) with
    | none => none
    | some (told, e) => _) = none
  rw [Int.toNat_natCast, e2]
theorem recB_pos (w : List Int) : 0 < (recB w).length := by
  unfold recB
  rw [List.length_append, List.length_append]
  have := nb_pos w.length
  omega
/-! ### the reader -/
def insR (C dx src : Addr) (pos room : Int) : HO := .ins C dx [("source", .ref src), ("at", .int pos), ("room", .int room)]
def rm (H : Hp) (F : Addr) : Hp := fun a => if a = F then none else H a
theorem rm_at {H : Hp} {F a : Addr} (h : a ≠ F) : rm H F a = H a := if_neg h
theorem rm_F {H : Hp} {F : Addr} : rm H F F = none := if_pos rfl
theorem rm_le {H : Hp} {F : Addr} : Same (rm H F) H := fun a x e => by
  by_cases z : a = F
  · rw [z, rm_F] at e
    cases e
  · rwa [rm_at z] at e
def KR (R : Addr) (H H' : Hp) : Prop := Same (rm H R) H'
theorem KR.of {R : Addr} {H H' : Hp} (s : Same H H') : KR R H H' := rm_le.trans s
theorem KR.trans {R : Addr} {H H1 H2 : Hp} (a : KR R H H1) (b : KR R H1 H2) : KR R H H2 := fun x o e => by
  have n : x ≠ R := fun z => by
    rw [z, rm_F] at e
    cases e
  exact b x o (by rw [rm_at n]; exact a x o e)
theorem KR.at_ {R a : Addr} {H H' : Hp} {o : HO} (k : KR R H H') (n : a ≠ R) (h : H a = some o) : H' a = some o := k a o (by rw [rm_at n]; exact h)
theorem KR.put {R : Addr} {H H' : Hp} {o : HO} (k : KR R H H') : KR R H (upd H' R o) := same_mut k rm_F
theorem rm_none {H : Hp} {R N : Addr} (h : H N = none) : rm H R N = none := by
  by_cases z : N = R
  · rw [z]
    exact rm_F
  · rw [rm_at z]
    exact h
theorem cut_mid {bs : List Int} {pos len : Nat} (h : pos + len ≤ bs.length) : cutV (bs.map V.int) (some (pos : Int)) (some ((pos + len : Nat) : Int)) = ((bs.drop pos).take len).map V.int := by
  unfold cutV
  rw [HT.sIx_nat, HT.sIx_nat, List.length_map, Nat.min_eq_left h, Nat.min_eq_left (by omega), show pos + len - pos = len by omega, List.map_take, List.map_drop]
def spRInit (C : Addr) : Sp := fun vs H Q _ => ∃ (R dx src : Addr), vs = [.ref R, .ref src] ∧ H R = some (.ins C dx []) ∧ ∀ H', KR R H H' → H' R = some (insR C dx src 0 0) → Q .non H'
theorem okReader_Init (T : Txt K mg) : FnOk P w K mg base CX0 1 T.fReader_Init T.fdReader_Init ["self", "data"] (spRInit T.cReader) := by
  refine T.FReader_Init.ok scReader_Init (fun vs H Q E h => ?_) (fun cdv A outer s H vs Q E hr h => ?_)
  · obtain ⟨R, dx, src, rfl, _⟩ := h
    rfl
  · obtain ⟨R, dx, src, rfl, hR, q⟩ := h
    -- slots self=0 data=1
    refine ⟨_, (pss_cons (ps_fld (pv 0) (pv 1) rfl)
        (pss_cons (ps_fld (pv 0) pe_int rfl)
        (pss_one (ps_fld (pv 0) pe_int rfl)))), ?_⟩
    refine ⟨_, rfl, _, rfl, R, T.cReader, dx, _, rfl, hR, T.clReader, T.naReader_source, (by show 0 < 1000; decide), ?_⟩
    refine ⟨_, rfl, R, T.cReader, dx, _, rfl, upd_same, T.clReader, T.naReader_at, (by show 1 < 1000; decide), _, rfl, R, T.cReader, dx, _, rfl, upd_same, T.clReader, T.naReader_room, (by show 2 < 1000; decide), ?_⟩
    exact q _ (((KR.of (Same.refl _)).put.put.put)) (by rw [upd_same]; rfl)
theorem okInvalidBytes_Init (T : Txt K mg) : FnOk P w K mg base CX0 1 T.fInvalidBytes_Init T.fdInvalidBytes_Init ["self", "at"] (spIni K T.cInvalidBytes "at") := by
  refine T.FInvalidBytes_Init.ok scInvalidBytes_Init (fun vs H Q E h => ?_) (fun cdv A outer s H vs Q E hr h => ?_)
  · obtain ⟨a, y, rfl, _⟩ := h
    rfl
  · obtain ⟨a, y, rfl, ha, q⟩ := h
    -- slots self=0 at=1
    refine ⟨_, (pss_one (ps_ost (pv 0) (pv 1))), ?_⟩
    exact ⟨_, rfl, _, rfl, a, T.cInvalidBytes, rfl, T.oKInvalidBytes, T.nKInvalidBytes_at, .inl ⟨ha, q⟩⟩
/-! ### the next integer -/
def spIntE (C CE : Addr) : Sp := fun vs H Q E => ∃ (R s dx : Addr) (bs : List Int) (pos : Nat) (room : Int), vs = [.ref R] ∧ H R = some (insR C dx s pos room) ∧ H s = some (.lst (bs.map V.int)) ∧ bs.length ≤ 2000000 ∧
  (rdI bs pos = none → ∀ d, H d = none → E (.ref CE) (some d) (upd H d (.xd [("at", .int pos)]))) ∧
  ∀ z e, rdI bs pos = some (z, e) → ∀ H', KR R H H' → H' R = some (insR C dx s e room) → Q (.int z) H'
theorem okReader_Integer (T : Txt K mg) : FnOk P w K mg base (L2N.CX P w) 3 T.fReader_Integer T.fdReader_Integer ["self"] (spIntE T.cReader T.cInvalidBytes) := by
  refine okN T.FReader_Integer scReader_Integer (fun vs H Q E h => ?_) (fun cdv A outer s H vs Q E hr h => ?_)
  · obtain ⟨R, s, dx, bs, pos, room, rfl, _⟩ := h
    rfl
  · obtain ⟨R, src, dx, bs, pos, room, rfl, hR, hS, hl, qe, q⟩ := h
    -- slots self=0 end=1 n=2 byte=3
    refine ⟨_, (pss_cons (ps_set (i := 1) scReader_Integer.nd rfl (Or.inl rfl) (pe_fld (pv 0) rfl))
        (C8.pss_cut (ps_while (passes_of rfl) (PW.pt (pw_and (pt_cmpR op_lt (pv 1) (pe_callB call_len_seq (by rfl) T.z_len PySem.boot_len (pa_cons (pe_fld (pv 0) rfl) pa_nil)) (nomark _)) (pw_and1 (pt_cmpR op_ge (pe_ix ix_list (pe_fld (pv 0) rfl) (pv 1) (fun _ _ => rfl)) pe_int (nomark _)))))
          (pss_one (ps_set (i := 1) scReader_Integer.nd rfl (Or.inl rfl) (pe_op op_add (pv 1) pe_int))))
        (C8.pss_cut (ps_if (PW.pt (pw_or (pt_cmpR op_ge (pv 1) (pe_callB call_len_seq (by rfl) T.z_len PySem.boot_len (pa_cons (pe_fld (pv 0) rfl) pa_nil)) (nomark _)) (pw_or1 (PW.pt (pw_and (pt_cmpR op_gt (pv 1) (pe_fld (pv 0) rfl) (nomark _)) (pw_and1 (pt_cmpR op_eq (pe_ix ix_list (pe_fld (pv 0) rfl) (pv 1) (fun _ _ => rfl)) pe_int (nomark _))))))))
          (pss_one (L2N.ps_raise rfl (L2N.takes_of rfl rfl rfl rfl) (mkN T.oKInvalidBytes T.iKInvalidBytes T.tKInvalidBytes (okInvalidBytes_Init T) (hr.mono (by decide)) T.bInvalidBytes_Init pass0 (by rfl) T.gKInvalidBytes (pa_cons (pe_fld (pv 0) rfl) pa_nil))))
          pss_nil)
        (pss_cons (ps_set (i := 2) scReader_Integer.nd rfl (Or.inl rfl) pe_int)
        (C8.pss_cut (ps_for (passes_of rfl) rfl (RT.pi_revA (by rfl) T.z_reversed (pe_slice sl_list (pe_fld (pv 0) rfl) (po_some (pe_fld (pv 0) rfl)) (po_some (pe_op op_add (pv 1) pe_int)))) (pg_name (i := 3) scReader_Integer.nd rfl (Or.inl rfl))
          (pss_one (ps_set (i := 2) scReader_Integer.nd rfl (Or.inl rfl) (pe_op op_add (pe_op op_mul (pv 2) pe_int) (pe_op op_mod (pv 3) pe_int)))))
        (pss_cons (ps_fld (pv 0) (pe_op op_add (pv 1) pe_int) rfl)
        (pss_one (ps_ret (pv 2))))))))), ?_⟩
    have hz : bs.length ≤ sizeLine := Nat.le_trans hl (by decide)
    have dl : (bs.drop pos).length = bs.length - pos := List.length_drop
    have dg : ∀ j, (bs.drop pos)[j]? = bs[pos + j]? := fun j => List.getElem?_drop
    have atB : ∀ (k : Nat) (b : Int), bs[pos + k]? = some b → atI (bs.map V.int) ((pos + k : Nat) : Int) = some (.int b) := fun k b hb => atI_nat (by rw [List.getElem?_map, hb]; rfl)
    refine ⟨_, rfl, R, T.cReader, dx, _, _, rfl, hR, T.clReader, T.naReader_at, rfl, ?_⟩
    refine ⟨fun σ H' => H' = H ∧ ∃ k, σ = [some (.ref R), some (.int ((pos + k : Nat) : Int)), none, none] ∧ (∀ j x, j < k → (bs.drop pos)[j]? = some x → 128 ≤ x) ∧ (bs.length ≤ pos + k ∨ ∃ b, bs[pos + k]? = some b ∧ b < 128), ?_, ?_⟩
    · refine while_by (fun σ H' => H' = H ∧ ∃ k, σ = [some (.ref R), some (.int ((pos + k : Nat) : Int)), none, none] ∧ ∀ j x, j < k → (bs.drop pos)[j]? = some x → 128 ≤ x) (fun σ _ => match σ with | [_, some (.int n), _, _] => bs.length - n.toNat | _ => 0) ⟨rfl, 0, rfl, fun j x hj => absurd hj (Nat.not_lt_zero _)⟩ ?_ (fun σ H Q Q' m h => ?_)
      · rintro σ H1 ⟨rfl, k, rfl, hk⟩
        refine ⟨_, rfl, _, rfl, R, T.cReader, dx, _, _, rfl, hR, T.clReader, T.naReader_source, rfl, src, bs.map V.int, rfl, .inl (SqL.of hS), _, _, rfl, rfl, _, rfl, ite2 (fun c => ?_) (fun c => ?_)⟩
        · have c := of_decide_eq_true c
          rw [List.length_map] at c
          have hk2 : pos + k < bs.length := by omega
          obtain ⟨b, hb⟩ : ∃ b, bs[pos + k]? = some b := ⟨_, List.getElem?_eq_getElem hk2⟩
          refine ⟨_, rfl, R, T.cReader, dx, _, _, rfl, hR, T.clReader, T.naReader_source, rfl, _, rfl, src, _, _, _, rfl, rfl, SqL.of hS, atB k b hb, _, _, rfl, rfl, _, rfl, ite2 (fun c => ?_) (fun c => ?_)⟩
          · have c := of_decide_eq_true c
            refine ⟨_, rfl, _, _, rfl, rfl, ⟨rfl, k + 1, rfl, fun j x hj hx => ?_⟩, ?_⟩
            · rcases Nat.lt_or_ge j k with z | z
              · exact hk j x z hx
              · obtain rfl : j = k := by omega
                rw [dg, hb] at hx
                have := Option.some.inj hx
                omega
            · show bs.length - (((pos + k : Nat) : Int) + 1).toNat < bs.length - (((pos + k : Nat) : Int)).toNat
              omega
          · refine ⟨rfl, k, rfl, hk, .inr ⟨b, hb, ?_⟩⟩
            have : ¬ (128 : Int) ≤ b := fun z => c (decide_eq_true z)
            omega
        · refine ⟨rfl, k, rfl, hk, .inl ?_⟩
          rcases Nat.lt_or_ge (pos + k) bs.length with z | z
          · exact absurd (decide_eq_true (by rw [List.length_map]; omega)) c
          · exact z
      · obtain ⟨v, hv, v2, hv2, a, C, d, fs, v3, e1, e2, e3, e4, e5, p, ys, e6, e7, i, j, e8, e9, k, e10, q⟩ := h
        refine ⟨v, hv, v2, hv2, a, C, d, fs, v3, e1, e2, e3, e4, e5, p, ys, e6, e7, i, j, e8, e9, k, e10, ?_⟩
        cases k with
        | false => exact m _ _ q
        | true =>
          obtain ⟨v, hv, a, C, d, fs, v3, e1, e2, e3, e4, e5, v2, hv2, p, ys, i, z, e6, e7, e8, e9, i2, j2, e11, e12, k, e10, q⟩ := q
          exact ⟨v, hv, a, C, d, fs, v3, e1, e2, e3, e4, e5, v2, hv2, p, ys, i, z, e6, e7, e8, e9, i2, j2, e11, e12, k, e10, m _ _ q⟩
    rintro σ H1 ⟨rfl, k, rfl, hk, hend⟩
    refine ⟨fun σ H' => H' = H1 ∧ σ = [some (.ref R), some (.int ((pos + k : Nat) : Int)), none, none] ∧ rdI bs pos = some (val ((bs.drop pos).take (k + 1)), pos + (k + 1)) ∧ pos + (k + 1) ≤ bs.length, ?_, ?_⟩
    · have rs : rdI bs pos = none → ∀ a, H1 a = none → spIni K T.cInvalidBytes "at" (.ref a :: ([V.int (pos : Int)] ++ [])) (upd H1 a (exo a T.cInvalidBytes none)) _ _ := fun e => ini_of (qe e)
      refine ⟨_, rfl, _, rfl, R, T.cReader, dx, _, _, rfl, hR, T.clReader, T.naReader_source, rfl, src, bs.map V.int, rfl, .inl (SqL.of hS), _, _, rfl, rfl, _, rfl, ite2 (fun c => ?_) (fun c => ?_)⟩
      · have c := of_decide_eq_true c
        rw [List.length_map] at c
        have en : rdI bs pos = none := by
          unfold rdI
          rw [hdB_none _ fun b hb => ?_]
          obtain ⟨j, hj⟩ := List.mem_iff_getElem?.mp hb
          have := (List.getElem?_eq_some_iff.mp hj).1
          exact hk j b (by omega) hj
        exact ⟨_, rfl, R, T.cReader, dx, _, _, rfl, hR, T.clReader, T.naReader_at, rfl, (by show 1 ≤ 1000; decide), rs en⟩
      · have hk2 : ¬ bs.length ≤ pos + k := fun z => c (decide_eq_true (by rw [List.length_map]; omega))
        obtain ⟨b, hb, hb2⟩ := hend.resolve_left hk2
        have ew := hdB_at k (bs.drop pos) b hk (by rw [dg]; exact hb) hb2
        have wl : ((bs.drop pos).take (k + 1)).length = k + 1 := by rw [List.length_take]; omega
        have lst : ((bs.drop pos).take (k + 1)).getLast? = some b := by
          rw [List.getLast?_eq_getElem?, wl, Nat.add_sub_cancel, List.getElem?_take_of_lt (Nat.lt_succ_self k), dg]
          exact hb
        have er : rdI bs pos = if 0 < k ∧ b = 0 then none else some (val ((bs.drop pos).take (k + 1)), pos + (k + 1)) := by
          unfold rdI
          rw [ew]
          show (if 1 < ((bs.drop pos).take (k + 1)).length ∧ ((bs.drop pos).take (k + 1)).getLast? = some 0 then none else some (val ((bs.drop pos).take (k + 1)), pos + ((bs.drop pos).take (k + 1)).length)) = _
          rw [wl, lst]
          by_cases z : 0 < k ∧ b = 0
          · rw [if_pos z, if_pos ⟨by omega, by rw [z.2]⟩]
          · rw [if_neg z, if_neg fun y => z ⟨by omega, Option.some.inj y.2⟩]
        refine ⟨_, rfl, _, rfl, R, T.cReader, dx, _, _, rfl, hR, T.clReader, T.naReader_at, rfl, _, _, rfl, rfl, _, rfl, ite2 (fun c1 => ?_) (fun c1 => ?_)⟩
        · have c1 := of_decide_eq_true c1
          refine ⟨_, rfl, R, T.cReader, dx, _, _, rfl, hR, T.clReader, T.naReader_source, rfl, _, rfl, src, _, _, _, rfl, rfl, SqL.of hS, atB k b hb, rfl, _, rfl, ite2 (fun c2 => ?_) (fun c2 => ?_)⟩
          · have c2 := V.int.inj (of_decide_eq_true c2)
            rw [if_pos ⟨by omega, c2⟩] at er
            exact ⟨_, rfl, R, T.cReader, dx, _, _, rfl, hR, T.clReader, T.naReader_at, rfl, (by show 1 ≤ 1000; decide), rs er⟩
          · rw [if_neg fun z => c2 (decide_eq_true (by rw [z.2]))] at er
            exact ⟨rfl, rfl, er, by omega⟩
        · rw [if_neg fun z => c1 (decide_eq_true (by omega))] at er
          exact ⟨rfl, rfl, er, by omega⟩
    rintro σ H1 ⟨rfl, rfl, er, hle⟩
    have wl : ((bs.drop pos).take (k + 1)).length = k + 1 := by rw [List.length_take]; omega
    have ek : ((pos + k : Nat) : Int) + 1 = ((pos + (k + 1) : Nat) : Int) := by omega
    generalize hw : (bs.drop pos).take (k + 1) = ws at er wl
    refine ⟨fun σ H' => Same H1 H' ∧ ∃ c5 : Option V, σ = [some (.ref R), some (.int ((pos + k : Nat) : Int)), some (.int (val ws)), c5], ?_, ?_⟩
    · refine ⟨_, rfl, R, T.cReader, dx, _, _, rfl, hR, T.clReader, T.naReader_source, rfl, _, rfl, R, T.cReader, dx, _, _, rfl, hR, T.clReader, T.naReader_at, rfl, (pos : Int), rfl, _, rfl, _, _, rfl, rfl, ((pos + k : Nat) : Int) + 1, rfl, src, bs.map V.int, rfl, SqL.of hS, fun p hp => ?_⟩
      rw [ek, cut_mid hle, hw]
      refine ⟨p, ws.map V.int, rfl, .inl ⟨SqL.of upd_same, for_it walk_rev (fun i σ H' => H' = upd H1 p (.lst (ws.map V.int)) ∧ ∃ c5 : Option V, σ = [some (.ref R), some (.int ((pos + k : Nat) : Int)), some (.int (val (ws.drop (ws.length - i)))), c5]) ⟨rfl, _, by rw [Nat.sub_zero, List.drop_length]; rfl⟩ (fun i σ H' _ ⟨e, _⟩ => by rw [e]; exact SqL.of upd_same) ?_ ?_⟩⟩
      · rintro i x σ H2 H3 hi2 ⟨rfl, c5, rfl⟩ ⟨rfl, hx⟩
        rw [List.length_map] at hi2 hx
        rw [List.getElem?_map] at hx
        obtain ⟨y, hy, rfl⟩ : ∃ y, ws[ws.length - 1 - i]? = some y ∧ V.int y = x := by
          cases e : ws[ws.length - 1 - i]? with
          | none =>
            rw [e] at hx
            cases hx
          | some y =>
            rw [e] at hx
            exact ⟨y, rfl, Option.some.inj hx⟩
        refine ⟨_, rfl, _, _, rfl, rfl, .inr ⟨by decide, by decide⟩, _, rfl, _, _, rfl, rfl, (by show (0 : Int) < _; decide), _, _, rfl, rfl, rfl, some (.int y), ?_⟩
        have ed : ws.drop (ws.length - (i + 1)) = y :: ws.drop (ws.length - i) := by
          have e1 : ws.length - (i + 1) = ws.length - 1 - i := by omega
          have e2 : ws.length - i = ws.length - 1 - i + 1 := by omega
          rw [e1, e2]
          obtain ⟨hlt, hy2⟩ := List.getElem?_eq_some_iff.mp hy
          rw [List.drop_eq_getElem_cons hlt, hy2]
        have ev : val (ws.drop (ws.length - (i + 1))) = val (ws.drop (ws.length - i)) * 128 + y % 128 := by
          rw [ed]
          show y % 128 + 128 * val _ = _
          omega
        rw [ev]
        rfl
      · rintro σ H2 ⟨rfl, c5, rfl⟩
        refine ⟨same_new hp, c5, ?_⟩
        rw [List.length_map, Nat.sub_self, List.drop_zero]
    rintro σ H2 ⟨s2, c5, rfl⟩
    have hR2 := s2 _ _ hR
    refine ⟨_, rfl, _, _, rfl, rfl, _, rfl, R, T.cReader, dx, _, rfl, hR2, T.clReader, T.naReader_at, (by show 3 < 1000; decide), _, rfl, ?_⟩
    refine q _ _ er _ ((KR.of s2).put) ?_
    rw [upd_same, ← ek]
    rfl
end
end My
namespace My
open PySem PySem.Spec PyProof.Rows L2 RZ
section
variable {P : Program} {w : World} {K : PySem.W.Frag} {mg : Str → Option Value} {base : Heap}
open L2H
open SX (S S_len S_cat slice_to slice_from num_S int_S)
open PySem.NumText (digitsVal AllDigits)
open TL (numL)
/-! ### what is read, place by place -/
inductive Rp (α : Type) : Type where
  | ret (a : α)
  | bad (p : Nat)
  | int (k : Int → Rp α)
  | get (k : Nat → Int → Rp α)
  | put (r : Int) (k : Rp α)
inductive Ans (α : Type) : Type where
  | ok (a : α) (pos : Nat) (room : Int)
  | err (p : Nat)
deriving DecidableEq
def Rp.bind {α β : Type} : Rp α → (α → Rp β) → Rp β
  | .ret a, f => f a
  | .bad p, _ => .bad p
  | .int k, f => .int fun n => (k n).bind f
  | .get k, f => .get fun p r => (k p r).bind f
  | .put r k, f => .put r (k.bind f)
def Rp.run {α : Type} (bs : List Int) : Rp α → Nat → Int → Ans α
  | .ret a, p, r => .ok a p r
  | .bad q, _, _ => .err q
  | .int k, p, r => (rdI bs p).elim (.err p) fun x => (k x.1).run bs x.2 r
  | .get k, p, r => (k p r).run bs p r
  | .put r k, p, _ => k.run bs p r
def Ans.then {α β : Type} (a : Ans α) (f : α → Nat → Int → Ans β) : Ans β :=
  match a with
  | .ok a p r => f a p r
  | .err p => .err p
theorem run_bind {α β : Type} {bs : List Int} : ∀ (m : Rp α) (f : α → Rp β) (p : Nat) (r : Int), (m.bind f).run bs p r = (m.run bs p r).then fun a p r => (f a).run bs p r
  | .ret _, _, _, _ => rfl
  | .bad _, _, _, _ => rfl
  | .int k, f, p, r => by
    show (rdI bs p).elim (Ans.err p) (fun x => ((k x.1).bind f).run bs x.2 r) = ((rdI bs p).elim (Ans.err p) fun x => (k x.1).run bs x.2 r).then _
    cases rdI bs p with
    | none => rfl
    | some x => exact run_bind (k x.1) f x.2 r
  | .get k, f, p, r => run_bind (k p r) f p r
  | .put q k, f, p, _ => run_bind k f p q
theorem bind_assoc {α β γ : Type} : ∀ (m : Rp α) (f : α → Rp β) (g : β → Rp γ), (m.bind f).bind g = m.bind fun a => (f a).bind g
  | .ret _, _, _ => rfl
  | .bad _, _, _ => rfl
  | .int k, f, g => congrArg Rp.int (funext fun n => bind_assoc (k n) f g)
  | .get k, f, g => congrArg Rp.get (funext fun p => funext fun r => bind_assoc (k p r) f g)
  | .put q k, f, g => congrArg (Rp.put q) (bind_assoc k f g)
theorem bind_ret {α : Type} : ∀ m : Rp α, m.bind Rp.ret = m
  | .ret _ => rfl
  | .bad _ => rfl
  | .int k => congrArg Rp.int (funext fun n => bind_ret (k n))
  | .get k => congrArg Rp.get (funext fun p => funext fun r => bind_ret (k p r))
  | .put q k => congrArg (Rp.put q) (bind_ret k)
/-! the reader's own steps -/
def rNum (lo hi : Int) : Rp Int := .get fun p _ => .int fun n => if lo ≤ n ∧ n ≤ hi then .ret n else .bad p
def rPart (most : Int) : Rp Int := .get fun p r => if r = 0 then .bad p else .put (r - 1) (rNum 0 most)
def rRep : Nat → Rp Unit → Rp Unit
  | 0, _ => .ret ()
  | n + 1, m => m.bind fun _ => rRep n m
def rChar (cs : List Int) : Rp Unit := .get fun p _ => (rNum 0 100000).bind fun c => if c ∈ cs then .ret () else .bad p
def rStr (lo hi : Int) (cs : List Int) : Rp Unit := (rNum lo hi).bind fun n => rRep n.toNat (rChar cs)
def codesS (w : Str) : List Int := w.cps.toList.map fun c : Nat => (c : Int)
def smallL : List Int := codesS "abcdefghijklmnopqrstuvwxyz"
def charsL : List Int := codesS " !\"#$&'()*+,-./0123456789:;<=>?@ABCDEFGHIJKLMNOPQRSTUVWXYZ[\\]^_`abcdefghijklmnopqrstuvwxyz{|}~"
def rWord : Rp Unit := rStr 2 8 smallL
def rFrac : Rp Unit := (rNum 0 100000000000000000000).bind fun _ => (rNum 1 100000000000000000000).bind fun _ => .ret ()
def rLine : Rp Unit := (rNum 0 4).bind fun _ => (rNum 0 100000).bind fun _ => .ret ()
def rLines (k : Nat) : Rp Unit := rRep k rLine
def rNb : Rp Unit := (rNum 0 1).bind fun n => if n = 0 then .ret () else rLine
def rArea : Rp Unit := (rPart 2).bind fun k => if k = 0 then .ret () else if k = 1 then rLines 4 else rWord
def rCall : Rp Unit := (rNum 0 3).bind fun _ => (rNum 0 100000).bind fun n => rRep n.toNat rArea
def rTree : Nat → Rp Unit
  | 0 => .bad 0
  | f + 1 => (rPart 5).bind fun k => if k = 0 then rFrac else if k = 1 then rLines 2 else if k = 2 then .ret () else if k = 3 then rCall else if k = 4 then rTree f else (rNum 0 3).bind fun _ => (rTree f).bind fun _ => rTree f
def rCont : Rp Unit := (rNum 0 3).bind fun k => if k = 0 then .ret () else if k = 1 then rStr 1 60 charsL else if k = 2 then rFrac else .put 60 (rTree 61)
def rCell : Rp Unit := (rLines 2).bind fun _ => rCont
def rIns : Rp Unit := (rNum 0 1).bind fun _ => rNb.bind fun _ => rNb
def rDel : Rp Unit := (rNum 0 1).bind fun _ => rLine
def rWrite : Rp Unit := (rNum 0 100000).bind fun n => rRep n.toNat rCell
def rName : Rp Unit := rWord.bind fun _ => (rNum 0 4).bind fun n => rRep n.toNat (rLines 4)
def rUndo : Rp Unit := (rNum 1 100000).bind fun _ => .ret ()
def rAct (k : Int) : Rp Unit := if k = 0 then rIns else if k = 1 then rDel else if k = 2 then rWrite else if k = 3 then rName else rUndo
def rRepL : Nat → Rp Int → Rp (List Int)
  | 0, _ => .ret []
  | n + 1, m => m.bind fun a => (rRepL n m).bind fun l => .ret (a :: l)
def rHead : Rp Ed := (rNum 1 4).bind fun p => (rNum 1 100000).bind fun n => (rRepL 4 (rNum 0 100000)).bind fun s => .ret ⟨(p - 1).toNat, n, s⟩
/-- what is against an edit behind these -/
def wrongE (h : Ed) (told : List Ed) : Bool := told.any (fun x => decide (x.id = h.id)) || (match told with | [] => false | l :: _ => decide (ltE h l))
def rEdits : Nat → List Ed → Rp Unit
  | 0, _ => .ret ()
  | n + 1, told => .get fun start _ => rHead.bind fun h => if wrongE h told = true then .bad start else (rNum 0 4).bind fun k => (rAct k).bind fun _ => rEdits n (h :: told)
def rUpd (len : Nat) : Rp Unit := (rNum 0 8).bind fun _ => (rNum 0 6).bind fun _ => (rNum 0 100000).bind fun n => (rEdits n.toNat []).bind fun _ => .get fun p _ => if p < len then .bad p else .ret ()
def placeOf (bs : List Int) : Int := match (rUpd bs.length).run bs 0 0 with
  | .ok _ _ _ => -1
  | .err p => p
/-! how far a tree goes -/
def Low (m : Rp α) : Prop := ∀ (bs : List Int) (p : Nat) (r : Int) (a : α) (p' : Nat) (r' : Int), m.run bs p r = .ok a p' r' → 0 ≤ r → 0 ≤ r' ∧ r' ≤ r
theorem low_ret {α : Type} {a : α} : Low (Rp.ret a) := fun bs p r a p' r' e h => by
  cases e
  exact ⟨h, Int.le_refl _⟩
theorem low_bad {α : Type} {q : Nat} : Low (Rp.bad q : Rp α) := fun bs p r a p' r' e h => nomatch e
theorem low_bind {α β : Type} {m : Rp α} {f : α → Rp β} (h1 : Low m) (h2 : ∀ a, Low (f a)) : Low (m.bind f) := fun bs p r b p' r' e h => by
  rw [run_bind] at e
  cases q : m.run bs p r with
  | err x =>
    rw [q] at e
    cases e
  | ok a p1 r1 =>
    rw [q] at e
    obtain ⟨a1, a2⟩ := h1 _ _ _ _ _ _ q h
    obtain ⟨b1, b2⟩ := h2 a _ _ _ _ _ _ e a1
    exact ⟨b1, by omega⟩
theorem low_num {lo hi : Int} : Low (rNum lo hi) := fun bs p r a p' r' e h => by
  have e : (rdI bs p).elim (Ans.err p) (fun x => (if lo ≤ x.1 ∧ x.1 ≤ hi then Rp.ret x.1 else Rp.bad p : Rp Int).run bs x.2 r) = Ans.ok a p' r' := e
  cases q : rdI bs p with
  | none =>
    rw [q] at e
    cases e
  | some x =>
    rw [q] at e
    have e : (if lo ≤ x.1 ∧ x.1 ≤ hi then Rp.ret x.1 else Rp.bad p : Rp Int).run bs x.2 r = Ans.ok a p' r' := e
    split at e
    · cases e
      exact ⟨h, Int.le_refl _⟩
    · cases e
theorem low_part {most : Int} {bs : List Int} {p : Nat} {r : Int} {a : Int} {p' : Nat} {r' : Int} (e : (rPart most).run bs p r = .ok a p' r') (h : 0 ≤ r) : 0 ≤ r' ∧ r' < r := by
  have e : (if r = 0 then Rp.bad p else Rp.put (r - 1) (rNum 0 most) : Rp Int).run bs p r = Ans.ok a p' r' := e
  split at e
  · cases e
  · have e : (rNum 0 most).run bs p (r - 1) = Ans.ok a p' r' := e
    have := low_num bs p (r - 1) a p' r' e (by omega)
    omega
theorem low_partL {most : Int} : Low (rPart most) := fun bs p r a p' r' e h => by
  have := low_part e h
  omega
theorem low_rep {m : Rp Unit} (h : Low m) : ∀ n, Low (rRep n m)
  | 0 => low_ret
  | n + 1 => low_bind h fun _ => low_rep h n
theorem low_get {α : Type} {k : Nat → Int → Rp α} (h : ∀ p r, Low (k p r)) : Low (Rp.get k) := fun bs p r a p' r' e => h p r bs p r a p' r' e
theorem low_ite {α : Type} {c : Prop} [Decidable c] {a b : Rp α} (h1 : Low a) (h2 : Low b) : Low (if c then a else b) := by
  split
  · exact h1
  · exact h2
theorem low_char {cs : List Int} : Low (rChar cs) := low_get fun p _ => low_bind low_num fun c => low_ite low_ret low_bad
theorem low_str {lo hi : Int} {cs : List Int} : Low (rStr lo hi cs) := low_bind low_num fun n => low_rep low_char _
theorem low_frac : Low rFrac := low_bind low_num fun _ => low_bind low_num fun _ => low_ret
theorem low_line : Low rLine := low_bind low_num fun _ => low_bind low_num fun _ => low_ret
theorem low_area : Low rArea := low_bind low_partL fun k => low_ite low_ret (low_ite (low_rep low_line _) low_str)
theorem low_call : Low rCall := low_bind low_num fun _ => low_bind low_num fun n => low_rep low_area _
theorem low_tree : ∀ f, Low (rTree f)
  | 0 => low_bad
  | f + 1 => low_bind low_partL fun k => low_ite low_frac (low_ite (low_rep low_line _) (low_ite low_ret (low_ite low_call (low_ite (low_tree f) (low_bind low_num fun _ => low_bind (low_tree f) fun _ => low_tree f)))))
/-! ### what a reading def promises -/
structure Rdr where
  R : Addr
  d : Addr
  s : Addr
  bs : List Int
structure RD (C : Addr) (H : Hp) (x : Rdr) (pos : Nat) (room : Int) : Prop where
  o : H x.R = some (insR C x.d x.s pos room)
  b : H x.s = some (.lst (x.bs.map V.int))
  l : x.bs.length ≤ 2000000
  r : 0 ≤ room
theorem RD.same {C : Addr} {H H' : Hp} {x : Rdr} {pos : Nat} {room : Int} (r : RD C H x pos room) (s : Same H H') : RD C H' x pos room := ⟨s _ _ r.o, s _ _ r.b, r.l, r.r⟩
theorem RD.ne {C : Addr} {H : Hp} {x : Rdr} {pos : Nat} {room : Int} (r : RD C H x pos room) : x.s ≠ x.R := fun z => by
  have h1 := r.b
  rw [z, r.o] at h1
  cases h1
theorem RD.nn {C N : Addr} {H : Hp} {x : Rdr} {pos : Nat} {room : Int} (r : RD C H x pos room) (h : H N = none) : N ≠ x.R ∧ N ≠ x.s := by
  constructor <;> intro z
  · rw [z, r.o] at h
    cases h
  · rw [z, r.b] at h
    cases h
/-- another object changes -/
theorem RD.mut {C N : Addr} {H0 H : Hp} {x : Rdr} {pos pos0 : Nat} {room room0 : Int} {o : HO} (r0 : RD C H0 x pos0 room0) (hN : H0 N = none) (r : RD C H x pos room) : RD C (upd H N o) x pos room :=
  ⟨by rw [upd_ne (Ne.symm (r0.nn hN).1)]; exact r.o, by rw [upd_ne (Ne.symm (r0.nn hN).2)]; exact r.b, r.l, r.r⟩
theorem RD.kr {C : Addr} {H H' : Hp} {x : Rdr} {pos pos' : Nat} {room room' : Int} (r : RD C H x pos room) (k : KR x.R H H') (h : H' x.R = some (insR C x.d x.s pos' room')) (hr : 0 ≤ room') : RD C H' x pos' room' :=
  ⟨h, k.at_ r.ne r.b, r.l, hr⟩
/-- how a def ends where the mirror ends so -/
def Out {α : Type} (C CE : Addr) (x : Rdr) (H : Hp) (Val : α → V → Hp → Prop) (Q : VK) (E : XK) : Ans α → Prop
  | .err p => ∀ H1 d, KR x.R H H1 → H1 d = none → E (.ref CE) (some d) (upd H1 d (.xd [("at", .int p)]))
  | .ok a pos room => ∀ v H1, KR x.R H H1 → RD C H1 x pos room → Val a v H1 → Q v H1
theorem out_seq {α β : Type} {C CE : Addr} {x : Rdr} {H : Hp} {Val : β → V → Hp → Prop} {Val' : α → V → Hp → Prop} {Q Q' : VK} {E : XK} {m : Rp α} {f : α → Rp β} {pos : Nat} {room : Int} (q : Out C CE x H Val Q E ((m.bind f).run x.bs pos room))
    (k : ∀ a pos' room' v H1, m.run x.bs pos room = .ok a pos' room' → KR x.R H H1 → RD C H1 x pos' room' → Val' a v H1 → Out C CE x H1 Val Q E ((f a).run x.bs pos' room') → Q' v H1) : Out C CE x H Val' Q' E (m.run x.bs pos room) := by
  rw [run_bind] at q
  cases e : m.run x.bs pos room with
  | err p =>
    rw [e] at q
    exact q
  | ok a p1 r1 =>
    rw [e] at q
    refine fun v H1 k1 r hv => k a p1 r1 v H1 e k1 r hv ?_
    have q : Out C CE x H Val Q E ((f a).run x.bs p1 r1) := q
    cases e2 : (f a).run x.bs p1 r1 with
    | err p =>
      rw [e2] at q
      exact fun H2 d k2 hd => q H2 d (k1.trans k2) hd
    | ok b p2 r2 =>
      rw [e2] at q
      exact fun v2 H2 k2 r2 hv2 => q v2 H2 (k1.trans k2) r2 hv2
theorem Out.mv {α : Type} {C CE : Addr} {x : Rdr} {H H1 : Hp} {Val : α → V → Hp → Prop} {Q : VK} {E : XK} {a : Ans α} (q : Out C CE x H Val Q E a) (k1 : KR x.R H H1) : Out C CE x H1 Val Q E a := by
  cases a with
  | err p => exact fun H2 d k2 hd => q H2 d (k1.trans k2) hd
  | ok b p2 r2 => exact fun v2 H2 k2 r2 hv2 => q v2 H2 (k1.trans k2) r2 hv2
theorem Out.to {α : Type} {C CE : Addr} {x : Rdr} {H : Hp} {Val : α → V → Hp → Prop} {Q : VK} {E : XK} {a b : Ans α} (q : Out C CE x H Val Q E a) (e : a = b) : Out C CE x H Val Q E b := e ▸ q
/-- the last step of a def -/
theorem out_last {α : Type} {C CE : Addr} {x : Rdr} {H : Hp} {Val Val' : α → V → Hp → Prop} {Q Q' : VK} {E : XK} {a : Ans α} (q : Out C CE x H Val Q E a)
    (k : ∀ b pos' room' v H1, a = .ok b pos' room' → KR x.R H H1 → RD C H1 x pos' room' → Val' b v H1 → (∀ v H2, KR x.R H1 H2 → RD C H2 x pos' room' → Val b v H2 → Q v H2) → Q' v H1) : Out C CE x H Val' Q' E a := by
  cases a with
  | err p => exact q
  | ok b p1 r1 => exact fun v H1 k1 r hv => k b p1 r1 v H1 rfl k1 r hv fun v2 H2 k2 r2 hv2 => q v2 H2 (k1.trans k2) r2 hv2
theorem out_ok {α : Type} {C CE : Addr} {x : Rdr} {H : Hp} {Val : α → V → Hp → Prop} {Q : VK} {E : XK} {b : α} {pos : Nat} {room : Int} (q : Out C CE x H Val Q E ((Rp.ret b).run x.bs pos room)) : ∀ v H2, KR x.R H H2 → RD C H2 x pos room → Val b v H2 → Q v H2 := q
/-- a reading def's promise: it does what the mirror does -/
def spRd {α : Type} (C CE : Addr) (m : Rp α) (Val : α → V → Hp → Prop) : Sp := fun vs H Q E => ∃ (x : Rdr) (pos : Nat) (room : Int), vs = [.ref x.R] ∧ RD C H x pos room ∧ Out C CE x H Val Q E (m.run x.bs pos room)
def VAny {α : Type} : α → V → Hp → Prop := fun _ _ _ => True
def VInt : Int → V → Hp → Prop := fun a v _ => v = .int a
end
end My
namespace My
open PySem PySem.Spec PyProof.Rows L2 RZ
section
variable {P : Program} {w : World} {K : PySem.W.Frag} {mg : Str → Option Value} {base : Heap}
open L2H
open SX (S S_len S_cat slice_to slice_from num_S int_S)
open PySem.NumText (digitsVal AllDigits)
open TL (numL)
def spNum (C CE : Addr) : Sp := fun vs H Q E => ∃ (x : Rdr) (lo hi : Int) (pos : Nat) (room : Int), vs = [.ref x.R, .int lo, .int hi] ∧ RD C H x pos room ∧ Out C CE x H VInt Q E ((rNum lo hi).run x.bs pos room)
theorem okReader_Number (T : Txt K mg) : FnOk P w K mg base (L2N.CX P w) 4 T.fReader_Number T.fdReader_Number ["self", "least", "most"] (spNum T.cReader T.cInvalidBytes) := by
  refine okN T.FReader_Number scReader_Number (fun vs H Q E h => ?_) (fun cdv A outer s H vs Q E hr h => ?_)
  · obtain ⟨x, lo, hi, pos, room, rfl, _⟩ := h
    rfl
  · obtain ⟨x, lo, hi, pos, room, rfl, r, q⟩ := h
    -- slots self=0 least=1 most=2 start=3 n=4
    refine ⟨_, (pss_cons (ps_set (i := 3) scReader_Number.nd rfl (Or.inl rfl) (pe_fld (pv 0) rfl))
        (pss_cons (ps_set (i := 4) scReader_Number.nd rfl (Or.inl rfl) (pe_methE0 (pv 0) T.clReader T.meReader_Integer (okReader_Integer T) (hr.mono (by decide)) T.bReader_Integer (fun σ => L2N.passAt (L2N.takes_of rfl rfl rfl rfl) σ)))
        (pss_cons (ps_if (pt_not (pt_chain op_le op_le (pv 1) (pv 4) (pv 2)))
          (pss_one (L2N.ps_raise rfl (L2N.takes_of rfl rfl rfl rfl) (mkN T.oKInvalidBytes T.iKInvalidBytes T.tKInvalidBytes (okInvalidBytes_Init T) (hr.mono (by decide)) T.bInvalidBytes_Init pass0 (by rfl) T.gKInvalidBytes (pa_cons (pv 3) pa_nil))))
          pss_nil)
        (pss_one (ps_ret (pv 4)))))), ?_⟩
    have q : Out T.cReader T.cInvalidBytes x H VInt Q E ((rdI x.bs pos).elim (.err pos) fun y => (if lo ≤ y.1 ∧ y.1 ≤ hi then Rp.ret y.1 else Rp.bad pos : Rp Int).run x.bs y.2 room) := q
    refine ⟨_, rfl, x.R, T.cReader, x.d, _, _, rfl, r.o, T.clReader, T.naReader_at, rfl, ?_⟩
    refine ⟨_, rfl, x.R, x.d, _, rfl, r.o, rfl, x.R, x.s, x.d, x.bs, pos, room, rfl, r.o, r.b, r.l, fun e d hd => ?_, fun z e he H1 k1 h1 => ?_⟩
    · rw [e] at q
      exact q H d (KR.of (Same.refl _)) hd
    rw [he] at q
    have q : Out T.cReader T.cInvalidBytes x H VInt Q E ((if lo ≤ z ∧ z ≤ hi then Rp.ret z else Rp.bad pos : Rp Int).run x.bs e room) := q
    have r1 := r.kr k1 h1 r.r
    refine ⟨_, rfl, _, rfl, _, _, rfl, rfl, _, rfl, ite2 (fun c1 => ?_) (fun c1 => ?_)⟩
    · have c1 := of_decide_eq_true c1
      refine ⟨_, rfl, _, _, rfl, rfl, _, rfl, ite2 (fun c2 => ?_) (fun c2 => ?_)⟩
      · rw [if_neg fun z => by rw [decide_eq_true z.2] at c2; cases c2] at q
        exact ⟨_, rfl, (by show 1 ≤ 1000; decide), ini_of fun d hd => q _ d k1 hd⟩
      · have c2 : z ≤ hi := Decidable.byContradiction fun n => c2 (by rw [decide_eq_false n]; rfl)
        rw [if_pos ⟨c1, c2⟩] at q
        exact ⟨_, rfl, q _ _ k1 r1 rfl⟩
    · rw [if_neg fun z => c1 (decide_eq_true z.1)] at q
      refine ⟨_, rfl, iteT ⟨_, rfl, (by show 1 ≤ 1000; decide), ini_of fun d hd => q _ d k1 hd⟩⟩
theorem RD.obj {C : Addr} {H : Hp} {x : Rdr} {pos : Nat} {room : Int} (r : RD C H x pos room) : ∃ dx fs, H x.R = some (.ins C dx fs) ∧ fs.lookup ("number" : Str) = none ∧ fs.lookup ("part" : Str) = none ∧ fs.lookup ("choice" : Str) = none := ⟨_, _, r.o, rfl, rfl, rfl⟩
/-- one of the words -/
def spChoice (K : PySem.W.Frag) (C CE : Addr) : Sp := fun vs H Q E => ∃ (x : Rdr) (ws : Addr) (us : List V) (pos : Nat) (room : Int), vs = [.ref x.R, .ref ws] ∧ (∀ H, SqT K H ws us) ∧ RD C H x pos room ∧ Out C CE x H VAny Q E ((rNum 0 ((us.length : Int) - 1)).run x.bs pos room)
theorem num_in {lo hi : Int} {bs : List Int} {p : Nat} {r a : Int} {p' : Nat} {r' : Int} (e : (rNum lo hi).run bs p r = .ok a p' r') : lo ≤ a ∧ a ≤ hi ∧ r' = r := by
  have e : (rdI bs p).elim (Ans.err p) (fun x => (if lo ≤ x.1 ∧ x.1 ≤ hi then Rp.ret x.1 else Rp.bad p : Rp Int).run bs x.2 r) = Ans.ok a p' r' := e
  cases q : rdI bs p with
  | none =>
    rw [q] at e
    cases e
  | some x =>
    rw [q] at e
    have e : (if lo ≤ x.1 ∧ x.1 ≤ hi then Rp.ret x.1 else Rp.bad p : Rp Int).run bs x.2 r = Ans.ok a p' r' := e
    split at e
    · rename_i hc
      cases e
      exact ⟨hc.1, hc.2, rfl⟩
    · cases e
theorem okReader_Choice (T : Txt K mg) : FnOk P w K mg base (L2N.CX P w) 5 T.fReader_Choice T.fdReader_Choice ["self", "words"] (spChoice K T.cReader T.cInvalidBytes) := by
  refine okN T.FReader_Choice scReader_Choice (fun vs H Q E h => ?_) (fun cdv A outer s H vs Q E hr h => ?_)
  · obtain ⟨x, ws, us, pos, room, rfl, _⟩ := h
    rfl
  · obtain ⟨x, ws, us, pos, room, rfl, hs, r, q⟩ := h
    -- slots self=0 words=1
    refine ⟨_, (pss_one (ps_ret (pe_ix ix_tup (pv 1) (pe_methE (pv 0) T.clReader T.meReader_Number (okReader_Number T) (hr.mono (by decide)) T.bReader_Number (fun σ => L2N.passAt (L2N.takes_of rfl rfl rfl rfl) σ) (pa_cons pe_int (pa_cons (pe_op op_sub (pe_callB call_len_seq (by rfl) T.z_len PySem.boot_len (pa_cons (pv 1) pa_nil)) pe_int) pa_nil))) (fun _ _ => rfl)))), ?_⟩
    obtain ⟨dx, fs, o1, o2, o3, o4⟩ := r.obj
    refine ⟨_, rfl, _, rfl, x.R, dx, _, rfl, o1, o2, _, rfl, ws, us, rfl, .inr (hs _), _, _, rfl, rfl, x, 0, (us.length : Int) - 1, pos, room, rfl, r, ?_⟩
    refine out_last q fun a p' r' v H1 e k1 r1 hv k => ?_
    have hv : v = .int a := hv
    subst hv
    obtain ⟨a0, a1, _⟩ := num_in e
    obtain ⟨n, rfl⟩ : ∃ n : Nat, a = (n : Int) := ⟨a.toNat, by omega⟩
    obtain ⟨u, hu⟩ : ∃ u, us[n]? = some u := ⟨_, List.getElem?_eq_getElem (by omega)⟩
    exact ⟨_, _, _, _, rfl, rfl, hs _, atI_nat hu, k _ _ (KR.of (Same.refl _)) r1 True.intro⟩
def spPart (C CE : Addr) : Sp := fun vs H Q E => ∃ (x : Rdr) (most : Int) (pos : Nat) (room : Int), vs = [.ref x.R, .int most] ∧ RD C H x pos room ∧ Out C CE x H VInt Q E ((rPart most).run x.bs pos room)
theorem okReader_Part (T : Txt K mg) : FnOk P w K mg base (L2N.CX P w) 5 T.fReader_Part T.fdReader_Part ["self", "most"] (spPart T.cReader T.cInvalidBytes) := by
  refine okN T.FReader_Part scReader_Part (fun vs H Q E h => ?_) (fun cdv A outer s H vs Q E hr h => ?_)
  · obtain ⟨x, most, pos, room, rfl, _⟩ := h
    rfl
  · obtain ⟨x, most, pos, room, rfl, r, q⟩ := h
    -- slots self=0 most=1
    refine ⟨_, (pss_cons (ps_if (pt_cmpR op_eq (pe_fld (pv 0) rfl) pe_int (nomark _))
          (pss_one (L2N.ps_raise rfl (L2N.takes_of rfl rfl rfl rfl) (mkN T.oKInvalidBytes T.iKInvalidBytes T.tKInvalidBytes (okInvalidBytes_Init T) (hr.mono (by decide)) T.bInvalidBytes_Init pass0 (by rfl) T.gKInvalidBytes (pa_cons (pe_fld (pv 0) rfl) pa_nil))))
          pss_nil)
        (pss_cons (ps_fld (pv 0) (pe_op op_sub (pe_fld (pv 0) rfl) pe_int) rfl)
        (pss_one (ps_ret (pe_methE (pv 0) T.clReader T.meReader_Number (okReader_Number T) (hr.mono (by decide)) T.bReader_Number (fun σ => L2N.passAt (L2N.takes_of rfl rfl rfl rfl) σ) (pa_cons pe_int (pa_cons (pv 1) pa_nil))))))), ?_⟩
    have q : Out T.cReader T.cInvalidBytes x H VInt Q E ((if room = 0 then Rp.bad pos else Rp.put (room - 1) (rNum 0 most) : Rp Int).run x.bs pos room) := q
    refine ⟨_, rfl, x.R, T.cReader, x.d, _, _, rfl, r.o, T.clReader, T.naReader_room, rfl, rfl, _, rfl, ite2 (fun c => ?_) (fun c => ?_)⟩
    · have c : room = 0 := V.int.inj (of_decide_eq_true c)
      rw [if_pos c] at q
      exact ⟨_, rfl, x.R, T.cReader, x.d, _, _, rfl, r.o, T.clReader, T.naReader_at, rfl, (by show 1 ≤ 1000; decide), ini_of fun d hd => q _ d (KR.of (Same.refl _)) hd⟩
    · have c : room ≠ 0 := fun z => c (decide_eq_true (congrArg V.int z))
      rw [if_neg c] at q
      have hr := r.r
      refine ⟨_, rfl, x.R, T.cReader, x.d, _, _, rfl, r.o, T.clReader, T.naReader_room, rfl, _, _, rfl, rfl, _, rfl, x.R, T.cReader, x.d, _, rfl, r.o, T.clReader, T.naReader_room, (by show 3 < 1000; decide), ?_⟩
      have k0 : KR x.R H (upd H x.R (insR T.cReader x.d x.s pos (room - 1))) := (KR.of (Same.refl _)).put
      have r1 := r.kr k0 upd_same (by omega)
      exact ⟨_, rfl, x.R, x.d, _, rfl, upd_same, rfl, _, rfl, x, 0, most, pos, room - 1, rfl, r1, (q.mv k0)⟩
end
end My
namespace My
open PySem PySem.Spec PyProof.Rows L2 RZ
section
variable {P : Program} {w : World} {K : PySem.W.Frag} {mg : Str → Option Value} {base : Heap}
open L2H
open SX (S S_len S_cat slice_to slice_from num_S int_S)
open PySem.NumText (digitsVal AllDigits)
open TL (numL)
theorem sum_ones (a : List Nat) : ((a.map fun c => S [c]).map (·.length)).sum = a.length := by
  induction a with
  | nil => rfl
  | cons c a ih =>
    rw [List.map_cons, List.map_cons, List.sum_cons, ih, S_len]
    show 1 + a.length = a.length + 1
    omega
def VStr {α : Type} : α → V → Hp → Prop := fun _ v _ => ∃ c : Nat, v = .str (S [c])
theorem strs_of : ∀ {us : List V}, (∀ u ∈ us, ∃ c : Nat, u = .str (S [c])) → ∃ cs : List Nat, cs.length = us.length ∧ us = (cs.map fun c => S [c]).map V.str
  | [], _ => ⟨[], rfl, rfl⟩
  | u :: us, h => by
    obtain ⟨c, rfl⟩ := h u (List.mem_cons_self ..)
    obtain ⟨cs, e1, e2⟩ := strs_of fun v hv => h v (List.mem_cons_of_mem _ hv)
    exact ⟨c :: cs, by rw [List.length_cons, e1, List.length_cons], by rw [e2]; rfl⟩
def spChar (C CE : Addr) : Sp := fun vs H Q E => ∃ (x : Rdr) (w : Str) (pos : Nat) (room : Int), vs = [.ref x.R, .str w] ∧ RD C H x pos room ∧ Out C CE x H VStr Q E ((rChar (codesS w)).run x.bs pos room)
theorem okReadCharacter (T : Txt K mg) : FnOk P w K mg base (L2N.CX P w) 5 T.fReadCharacter T.fdReadCharacter ["reader", "characters"] (spChar T.cReader T.cInvalidBytes) := by
  refine okN T.FReadCharacter scReadCharacter (fun vs H Q E h => ?_) (fun cdv A outer s H vs Q E hr h => ?_)
  · obtain ⟨x, w, pos, room, rfl, _⟩ := h
    rfl
  · obtain ⟨x, w, pos, room, rfl, r, q⟩ := h
    -- slots reader=0 characters=1 start=2 code=3 character=4
    refine ⟨_, (pss_cons (ps_set (i := 2) scReadCharacter.nd rfl (Or.inl rfl) (pe_fld (pv 0) rfl))
        (pss_cons (ps_set (i := 3) scReadCharacter.nd rfl (Or.inl rfl) (pe_methE (pv 0) T.clReader T.meReader_Number (okReader_Number T) (hr.mono (by decide)) T.bReader_Number (fun σ => L2N.passAt (L2N.takes_of rfl rfl rfl rfl) σ) (pa_cons pe_int (pa_cons (pe_glob (v := (.int 100000)) rfl T.g_MOST ⟨_, rfl⟩) pa_nil))))
        (pss_cons (ps_for (passes_of rfl) rfl (pi_str (pv 1)) (pg_name (i := 4) scReadCharacter.nd rfl (Or.inl rfl))
          (pss_one (ps_if (pt_cmpR op_eq (pe_callB call_ord (by rfl) T.z_ord (by decide +kernel) (pa_cons (pv 4) pa_nil)) (pv 3) (nomark _))
            (pss_one (ps_ret (pv 4)))
            pss_nil)))
        (pss_one (L2N.ps_raise rfl (L2N.takes_of rfl rfl rfl rfl) (mkN T.oKInvalidBytes T.iKInvalidBytes T.tKInvalidBytes (okInvalidBytes_Init T) (hr.mono (by decide)) T.bInvalidBytes_Init pass0 (by rfl) T.gKInvalidBytes (pa_cons (pv 2) pa_nil))))))), ?_⟩
    obtain ⟨dx, fs, o1, o2, o3, o4⟩ := r.obj
    refine ⟨_, rfl, x.R, T.cReader, x.d, _, _, rfl, r.o, T.clReader, T.naReader_at, rfl, ?_⟩
    refine ⟨_, rfl, x.R, dx, _, rfl, o1, o2, x, 0, 100000, pos, room, rfl, r, out_seq (f := fun c => if c ∈ codesS w then Rp.ret () else Rp.bad pos) q fun a p' r' v H1 e k1 r1 hv q1 => ?_⟩
    have hv : v = .int a := hv
    subst hv
    refine ⟨_, rfl, w, rfl, for_it walk_str (fun i σ H' => H' = H1 ∧ (∃ c4 : Option V, σ = [some (.ref x.R), some (.str w), some (.int (pos : Int)), some (.int a), c4]) ∧ ∀ j, j < i → ∀ c, w.cps[j]? = some c → (c : Int) ≠ a) ⟨rfl, ⟨_, rfl⟩, fun j hj => absurd hj (Nat.not_lt_zero _)⟩ (fun _ _ _ _ _ => True.intro) ?_ ?_⟩
    · rintro i v σ H2 H3 hi ⟨rfl, ⟨c4, rfl⟩, no⟩ ⟨rfl, d, hd, rfl⟩
      refine ⟨_, rfl, S [d], rfl, by rw [S_len]; rfl, _, rfl, rfl, _, rfl, ite2 (fun e => ?_) (fun e => ?_)⟩
      · have e2 : (d : Int) = a := V.int.inj (of_decide_eq_true e)
        have inn : a ∈ codesS w := List.mem_map.mpr ⟨d, by rw [Array.mem_toList_iff]; exact Array.mem_of_getElem? hd, e2⟩
        rw [if_pos inn] at q1
        exact ⟨_, rfl, q1 _ _ (KR.of (Same.refl _)) r1 ⟨_, rfl⟩⟩
      · refine ⟨rfl, ⟨_, rfl⟩, fun j hj c hjc => ?_⟩
        rcases Nat.lt_or_ge j i with z | z
        · exact no j z c hjc
        · have : j = i := by omega
          subst this
          rw [hd] at hjc
          have e3 := Option.some.inj hjc
          intro z2
          exact e (decide_eq_true (by rw [← z2, ← e3]; rfl))
    · rintro σ H2 ⟨rfl, ⟨c4, rfl⟩, no⟩
      have out : a ∉ codesS w := fun z => by
        obtain ⟨c, hc, e1⟩ := List.mem_map.mp z
        rw [Array.mem_toList_iff] at hc
        obtain ⟨j, hj, e2⟩ := Array.mem_iff_getElem.mp hc
        exact no j hj c (by rw [Array.getElem?_eq_getElem hj, e2]) e1
      rw [if_neg out] at q1
      exact ⟨_, rfl, (by show 1 ≤ 1000; decide), ini_of fun d hd => q1 _ d (KR.of (Same.refl _)) hd⟩
/-- one turn of a row -/
theorem rep_bind {β : Type} {n : Nat} {m : Rp Unit} {f : Unit → Rp β} : (rRep (n + 1) m).bind f = m.bind fun _ => (rRep n m).bind f := bind_assoc _ _ _
theorem out_seq0 {α β : Type} {C CE : Addr} {x : Rdr} {H H1 : Hp} {Val : β → V → Hp → Prop} {Val' : α → V → Hp → Prop} {Q Q' : VK} {E : XK} {m : Rp α} {f : α → Rp β} {pos : Nat} {room : Int} (q : Out C CE x H Val Q E ((m.bind f).run x.bs pos room)) (k0 : KR x.R H H1)
    (k : ∀ a pos' room' v H2, m.run x.bs pos room = .ok a pos' room' → KR x.R H1 H2 → RD C H2 x pos' room' → Val' a v H2 → Out C CE x H Val Q E ((f a).run x.bs pos' room') → Q' v H2) : Out C CE x H1 Val' Q' E (m.run x.bs pos room) := by
  rw [run_bind] at q
  cases e : m.run x.bs pos room with
  | err p =>
    rw [e] at q
    exact fun H2 d k2 hd => q H2 d (k0.trans k2) hd
  | ok a p1 r1 =>
    rw [e] at q
    exact fun v H2 k1 r hv => k a p1 r1 v H2 e k1 r hv q
/-- what stands in the course of a comprehension over a row -/
structure Row {β : Type} (C CE : Addr) (x : Rdr) (H0 : Hp) (N : Addr) (P : V → Prop) (m : Rp Unit) (f : Unit → Rp β) (Val : β → V → Hp → Prop) (Q : VK) (E : XK) (n j : Nat) (H : Hp) : Prop where
  k : KR x.R H0 H
  ex : ∃ us : List V, H N = some (.lst us) ∧ us.length = j ∧ ∀ u ∈ us, P u
  rd : ∃ pos room, RD C H x pos room ∧ Out C CE x H0 Val Q E (((rRep (n - j) m).bind f).run x.bs pos room)
theorem Row.start {β : Type} {C CE : Addr} {x : Rdr} {H0 : Hp} {N : Addr} {P : V → Prop} {m : Rp Unit} {f : Unit → Rp β} {Val : β → V → Hp → Prop} {Q : VK} {E : XK} {n pos : Nat} {room : Int} (hN : H0 N = none) (r : RD C H0 x pos room)
    (q : Out C CE x H0 Val Q E (((rRep n m).bind f).run x.bs pos room)) : Row C CE x H0 N P m f Val Q E n 0 (upd H0 N (.lst [])) :=
  ⟨KR.of (same_new hN), ⟨[], upd_same, rfl, fun u hu => nomatch hu⟩, pos, room, r.mut hN r, q⟩
/-- a turn: the element is read, its value is put behind -/
theorem Row.turn {β : Type} {C CE : Addr} {x : Rdr} {H0 H : Hp} {N : Addr} {P : V → Prop} {m : Rp Unit} {f : Unit → Rp β} {Val : β → V → Hp → Prop} {Val' : Unit → V → Hp → Prop} {Q Q' : VK} {E : XK} {n j pos0 : Nat} {room0 : Int} (hN : H0 N = none) (r0 : RD C H0 x pos0 room0) (hj : j < n)
    (w : Row C CE x H0 N P m f Val Q E n j H) {pos : Nat} {room : Int} (q : Out C CE x H0 Val Q E (((rRep (n - j) m).bind f).run x.bs pos room)) (hP : ∀ v H1, Val' () v H1 → P v) (sz : n ≤ 100000)
    (k : ∀ v H1 us, H1 N = some (.lst us) → us.length < sizeLine → Row C CE x H0 N P m f Val Q E n (j + 1) (upd H1 N (.lst (us ++ [v]))) → Q' v H1) : Out C CE x H Val' Q' E (m.run x.bs pos room) := by
  obtain ⟨k0, ⟨us, h1, hl, ha⟩, _⟩ := w
  have e1 : n - j = (n - (j + 1)) + 1 := by omega
  rw [e1, rep_bind] at q
  refine out_seq0 q k0 fun a p1 q1 v H1 e k1 r1 hv q2 => ?_
  have h2 := k1.at_ (r0.nn hN).1 h1
  have big : (100000 : Nat) < sizeLine := by rw [sizeLine_eq]; omega
  refine k v H1 us h2 (by omega) ⟨same_mut (k0.trans k1) (rm_none hN), ⟨us ++ [v], upd_same, by rw [List.length_append, hl]; rfl, fun u hu => ?_⟩, p1, q1, r0.mut hN r1, q2⟩
  rcases List.mem_append.mp hu with z | z
  · exact ha u z
  · rw [List.mem_singleton.mp z]
    exact hP v H1 hv
theorem Row.done {β : Type} {C CE : Addr} {x : Rdr} {H0 H : Hp} {N : Addr} {P : V → Prop} {m : Rp Unit} {f : Unit → Rp β} {Val : β → V → Hp → Prop} {Q : VK} {E : XK} {n : Nat} (w : Row C CE x H0 N P m f Val Q E n n H) :
    KR x.R H0 H ∧ (∃ us : List V, H N = some (.lst us) ∧ us.length = n ∧ ∀ u ∈ us, P u) ∧ ∃ pos room, RD C H x pos room ∧ Out C CE x H0 Val Q E ((f ()).run x.bs pos room) := by
  obtain ⟨k0, e, pos, room, r, q⟩ := w
  rw [Nat.sub_self] at q
  exact ⟨k0, e, pos, room, r, q⟩
def spStr (C CE : Addr) : Sp := fun vs H Q E => ∃ (x : Rdr) (lo hi : Int) (w : Str) (pos : Nat) (room : Int), vs = [.ref x.R, .int lo, .int hi, .str w] ∧ RD C H x pos room ∧ 0 ≤ lo ∧ hi ≤ 60 ∧ Out C CE x H VAny Q E ((rStr lo hi (codesS w)).run x.bs pos room)
theorem okReadString (T : Txt K mg) : FnOk P w K mg base (L2N.CX P w) 6 T.fReadString T.fdReadString ["reader", "least", "most", "characters"] (spStr T.cReader T.cInvalidBytes) := by
  refine okN T.FReadString scReadString (fun vs H Q E h => ?_) (fun cdv A outer s H vs Q E hr h => ?_)
  · obtain ⟨x, lo, hi, w, pos, room, rfl, _⟩ := h
    rfl
  · obtain ⟨x, lo, hi, w, pos, room, rfl, r, hlo, hhi, q⟩ := h
    -- slots reader=0 least=1 most=2 characters=3 many=4 _=5
    refine ⟨_, (pss_cons (ps_set (i := 4) scReadString.nd rfl (Or.inl rfl) (pe_methE (pv 0) T.clReader T.meReader_Number (okReader_Number T) (hr.mono (by decide)) T.bReader_Number (fun σ => L2N.passAt (L2N.takes_of rfl rfl rfl rfl) σ) (pa_cons (pv 1) (pa_cons (pv 2) pa_nil))))
        (pss_one (ps_ret (pe_bm PySem.F.plainAttrs_str PySem.F.slot_str_join PySem.F.type_str_join mt_join pe_str (pa_cons (pe_lcE (own := [("_", 5)]) (g := gName 5) (tt := tYes) (L2N.takes_of rfl rfl rfl rfl) rfl rfl rfl scReadString.nd (pi_range1 rfl T.z_range (pa_cons (pv 4) pa_nil)) (blkOk_by (own := [("_", 5)]) (N := ["reader", "least", "most", "characters", "many", "_"]) (sc := defScope sReadString) (by decide +kernel)) (fun _ _ _ _ _ _ => (pg_name (i := 5) scReadString.nd rfl (Or.inl rfl))) (fun _ _ _ _ _ _ => pts_nil) (fun _ _ _ _ _ _ px => (pe_callS (okReadCharacter T) (hr.mono (by decide)) (by rfl) T.gReadCharacter T.FReadCharacter.kp T.bReadCharacter px (pa_cons (pv 0) (pa_cons (pv 3) pa_nil))))) pa_nil))))), ?_⟩
    obtain ⟨dx, fs, o1, o2, o3, o4⟩ := r.obj
    refine ⟨_, rfl, x.R, dx, _, rfl, o1, o2, _, rfl, _, rfl, x, lo, hi, pos, room, rfl, r, out_seq (f := fun n => rRep n.toNat (rChar (codesS w))) q fun a p' r' v H1 e k1 r1 hv q1 => ?_⟩
    have hv : v = .int a := hv
    subst hv
    obtain ⟨a0, a1, _⟩ := num_in e
    refine ⟨rfl, _, rfl, a, rfl, by omega, by omega, fun N hN => ?_⟩
    have q2 : Out T.cReader T.cInvalidBytes x H1 VAny Q E (((rRep a.toNat (rChar (codesS w))).bind fun u => Rp.ret u).run x.bs p' r') := by
      rw [bind_ret]
      exact q1
    refine lc_it (walk_range (lo := 0) (n := a.toNat)) (fun j H' => Row T.cReader T.cInvalidBytes x H1 N (fun v => ∃ c : Nat, v = .str (S [c])) (rChar (codesS w)) (fun u => Rp.ret u) VAny Q E a.toNat j H') (Row.start hN r1 q2) (fun _ _ _ _ => True.intro) ?_ ?_
    · rintro j y H9 H3 hj row ⟨rfl, rfl⟩
      obtain ⟨p3, r3, rr, q3⟩ := row.rd
      exact ⟨rfl, yesT ⟨_, rfl, _, rfl, x, w, p3, r3, rfl, rr, row.turn (Val' := VStr) hN r1 hj q3 (fun v H1 h => h) (by omega) fun v H2 us h1 h2 h3 => ⟨us, h1, h2, h3⟩⟩⟩
    rintro H3 row
    obtain ⟨k3, ⟨us, hN3, ul, ua⟩, p3, r3, rr, q3⟩ := row.done
    obtain ⟨cs, e1, rfl⟩ := strs_of ua
    refine ⟨"", N, cs.map fun c => S [c], rfl, rfl, .inl (SqL.of hN3), ?_, ?_⟩
    · rw [sum_ones]
      show cs.length + _ * 0 ≤ _
      omega
    · exact q3 _ _ k3 rr True.intro
end
end My
namespace My
open PySem PySem.Spec PyProof.Rows L2 RZ
section
variable {P : Program} {w : World} {K : PySem.W.Frag} {mg : Str → Option Value} {base : Heap}
open L2H
open SX (S S_len S_cat slice_to slice_from num_S int_S)
open PySem.NumText (digitsVal AllDigits)
open TL (numL)
theorem eqI {a b : Int} (c : decide (V.int a = V.int b) = true) : a = b := V.int.inj (of_decide_eq_true c)
theorem neI {a b : Int} (c : ¬ decide (V.int a = V.int b) = true) : a ≠ b := fun z => c (decide_eq_true (congrArg V.int z))
def VTup {α : Type} (n : Nat) : α → V → Hp → Prop := fun _ v H => ∃ (p : Addr) (us : List V), v = .ref p ∧ H p = some (.tup us) ∧ us.length = n
theorem okReadWord (T : Txt K mg) : FnOk P w K mg base (L2N.CX P w) 7 T.fReadWord T.fdReadWord ["reader"] (spRd T.cReader T.cInvalidBytes rWord VAny) := by
  refine okN T.FReadWord scReadWord (fun vs H Q E h => ?_) (fun cdv A outer s H vs Q E hr h => ?_)
  · obtain ⟨x, pos, room, rfl, _⟩ := h
    rfl
  · obtain ⟨x, pos, room, rfl, r, q⟩ := h
    -- slots reader=0
    refine ⟨_, (pss_one (ps_ret (pe_callS (okReadString T) (hr.mono (by decide)) (by rfl) T.gReadString T.FReadString.kp T.bReadString (fun σ => L2N.passAt (L2N.takes_of rfl rfl rfl rfl) σ) (pa_cons (pv 0) (pa_cons (pe_glob (v := (.int 2)) rfl T.g_SHORTEST_NAME ⟨_, rfl⟩) (pa_cons (pe_glob (v := (.int 8)) rfl T.g_LONGEST_WORD ⟨_, rfl⟩) (pa_cons (pe_glob (v := (.str "abcdefghijklmnopqrstuvwxyz")) rfl T.g_SMALL ⟨_, rfl⟩) pa_nil))))))), ?_⟩
    exact ⟨_, rfl, x, 2, 8, "abcdefghijklmnopqrstuvwxyz", pos, room, rfl, r, by omega, by omega, q⟩
theorem okReadFraction (T : Txt K mg) : FnOk P w K mg base (L2N.CX P w) 5 T.fReadFraction T.fdReadFraction ["reader"] (spRd T.cReader T.cInvalidBytes rFrac VAny) := by
  refine okN T.FReadFraction scReadFraction (fun vs H Q E h => ?_) (fun cdv A outer s H vs Q E hr h => ?_)
  · obtain ⟨x, pos, room, rfl, _⟩ := h
    rfl
  · obtain ⟨x, pos, room, rfl, r, q⟩ := h
    -- slots reader=0 sign_and_size=1 d=2 half=3
    refine ⟨_, (pss_cons (ps_set (i := 1) scReadFraction.nd rfl (Or.inl rfl) (pe_methE (pv 0) T.clReader T.meReader_Number (okReader_Number T) (hr.mono (by decide)) T.bReader_Number (fun σ => L2N.passAt (L2N.takes_of rfl rfl rfl rfl) σ) (pa_cons pe_int (pa_cons (pe_glob (v := (.int 100000000000000000000)) rfl T.g_MOST_OF_FRACTION ⟨_, rfl⟩) pa_nil))))
        (pss_cons (ps_set (i := 2) scReadFraction.nd rfl (Or.inl rfl) (pe_methE (pv 0) T.clReader T.meReader_Number (okReader_Number T) (hr.mono (by decide)) T.bReader_Number (fun σ => L2N.passAt (L2N.takes_of rfl rfl rfl rfl) σ) (pa_cons pe_int (pa_cons (pe_glob (v := (.int 100000000000000000000)) rfl T.g_MOST_OF_FRACTION ⟨_, rfl⟩) pa_nil))))
        (pss_cons (ps_set (i := 3) scReadFraction.nd rfl (Or.inl rfl) (pe_op op_fdiv (pv 1) pe_int))
        (pss_one (ps_ret (pe_tup (pa_cons (pe_ifExp (pt_cmpR op_eq (pe_op op_mod (pv 1) pe_int) pe_int (nomark _)) (pv 3) (pe_op op_sub (pe_un un_neg (pv 3)) pe_int)) (pa_cons (pv 2) pa_nil)))))))), ?_⟩
    obtain ⟨dx, fs, o1, o2, o3, o4⟩ := r.obj
    refine ⟨_, rfl, x.R, dx, _, rfl, o1, o2, x, 0, 100000000000000000000, pos, room, rfl, r, out_seq q fun a p1 t1 v H1 e k1 r1 hv q1 => ?_⟩
    obtain rfl : v = .int a := hv
    obtain ⟨dx, fs, o1, o2, o3, o4⟩ := r1.obj
    refine ⟨_, rfl, x.R, dx, _, rfl, o1, o2, x, 1, 100000000000000000000, p1, t1, rfl, r1, out_seq q1 fun b p2 t2 v H2 e2 k2 r2 hv q2 => ?_⟩
    obtain rfl : v = .int b := hv
    refine ⟨_, rfl, _, _, rfl, rfl, ⟨by decide, by decide⟩, _, rfl, _, _, rfl, rfl, (by show (0 : Int) < _; decide), rfl, _, rfl, ite2 (fun c => ?_) (fun c => ?_)⟩
    · refine ⟨_, rfl, _, rfl, (by show 2 ≤ sizeLine; decide), fun p hp => ?_⟩
      have s3 := same_new (o := .tup [.int (a / 2), .int b]) hp
      exact q2 _ _ (KR.of s3) (r2.same s3) True.intro
    · refine ⟨_, rfl, _, rfl, _, _, rfl, rfl, _, rfl, (by show 2 ≤ sizeLine; decide), fun p hp => ?_⟩
      exact q2 _ _ (KR.of (same_new hp)) (r2.same (same_new hp)) True.intro
theorem okReadLine (T : Txt K mg) : FnOk P w K mg base (L2N.CX P w) 5 T.fReadLine T.fdReadLine ["reader"] (spRd T.cReader T.cInvalidBytes rLine (VTup 2)) := by
  refine okN T.FReadLine scReadLine (fun vs H Q E h => ?_) (fun cdv A outer s H vs Q E hr h => ?_)
  · obtain ⟨x, pos, room, rfl, _⟩ := h
    rfl
  · obtain ⟨x, pos, room, rfl, r, q⟩ := h
    -- slots reader=0 person=1
    refine ⟨_, (pss_cons (ps_set (i := 1) scReadLine.nd rfl (Or.inl rfl) (pe_methE (pv 0) T.clReader T.meReader_Number (okReader_Number T) (hr.mono (by decide)) T.bReader_Number (fun σ => L2N.passAt (L2N.takes_of rfl rfl rfl rfl) σ) (pa_cons pe_int (pa_cons pe_int pa_nil))))
        (pss_one (ps_ret (pe_tup (pa_cons (pv 1) (pa_cons (pe_methE (pv 0) T.clReader T.meReader_Number (okReader_Number T) (hr.mono (by decide)) T.bReader_Number (fun σ => L2N.passAt (L2N.takes_of rfl rfl rfl rfl) σ) (pa_cons pe_int (pa_cons (pe_glob (v := (.int 100000)) rfl T.g_MOST ⟨_, rfl⟩) pa_nil))) pa_nil)))))), ?_⟩
    obtain ⟨dx, fs, o1, o2, o3, o4⟩ := r.obj
    refine ⟨_, rfl, x.R, dx, _, rfl, o1, o2, x, 0, 4, pos, room, rfl, r, out_seq q fun a p1 t1 v H1 e k1 r1 hv q1 => ?_⟩
    obtain rfl : v = .int a := hv
    obtain ⟨dx, fs, o1, o2, o3, o4⟩ := r1.obj
    refine ⟨_, rfl, _, rfl, x.R, dx, _, rfl, o1, o2, x, 0, 100000, p1, t1, rfl, r1, out_seq q1 fun b p2 t2 v H2 e2 k2 r2 hv q2 => ⟨(by show 2 ≤ sizeLine; decide), fun p hp => ?_⟩⟩
    exact q2 _ _ (KR.of (same_new hp)) (r2.same (same_new hp)) ⟨p, _, rfl, upd_same, rfl⟩
def spLines (C CE : Addr) : Sp := fun vs H Q E => ∃ (x : Rdr) (k : Nat) (pos : Nat) (room : Int), vs = [.ref x.R, .int k] ∧ k ≤ 4 ∧ RD C H x pos room ∧ Out C CE x H (VTup k) Q E ((rLines k).run x.bs pos room)
theorem okReadLines (T : Txt K mg) : FnOk P w K mg base (L2N.CX P w) 6 T.fReadLines T.fdReadLines ["reader", "many"] (spLines T.cReader T.cInvalidBytes) := by
  refine okN T.FReadLines scReadLines (fun vs H Q E h => ?_) (fun cdv A outer s H vs Q E hr h => ?_)
  · obtain ⟨x, k, pos, room, rfl, _⟩ := h
    rfl
  · obtain ⟨x, k, pos, room, rfl, hk, r, q⟩ := h
    -- slots reader=0 many=1 _=2
    refine ⟨_, (pss_one (ps_ret (pe_callTy call_tuple_of (by rfl) T.z_tuple (by decide +kernel) (pa_cons (pe_lcE (own := [("_", 2)]) (g := gName 2) (tt := tYes) (L2N.takes_of rfl rfl rfl rfl) rfl rfl rfl scReadLines.nd (pi_range1 rfl T.z_range (pa_cons (pv 1) pa_nil)) (blkOk_by (own := [("_", 2)]) (N := ["reader", "many", "_"]) (sc := defScope sReadLines) (by decide +kernel)) (fun _ _ _ _ _ _ => (pg_name (i := 2) scReadLines.nd rfl (Or.inl rfl))) (fun _ _ _ _ _ _ => pts_nil) (fun _ _ _ _ _ _ px => (pe_callS (okReadLine T) (hr.mono (by decide)) (by rfl) T.gReadLine T.FReadLine.kp T.bReadLine px (pa_cons (pv 0) pa_nil)))) pa_nil)))), ?_⟩
    have q2 : Out T.cReader T.cInvalidBytes x H (VTup k) Q E (((rRep k rLine).bind fun u => Rp.ret u).run x.bs pos room) := by
      rw [bind_ret]
      exact q
    refine ⟨_, rfl, (k : Int), rfl, by omega, by omega, fun N hN => ?_⟩
    rw [Int.toNat_natCast]
    refine lc_it (walk_range (lo := 0) (n := k)) (fun j H' => Row T.cReader T.cInvalidBytes x H N (fun _ => True) rLine (fun u => Rp.ret u) (VTup k) Q E k j H') (Row.start hN r q2) (fun _ _ _ _ => True.intro) ?_ ?_
    · rintro j y H9 H3 hj row ⟨rfl, rfl⟩
      obtain ⟨p3, r3, rr, q3⟩ := row.rd
      exact ⟨rfl, yesT ⟨_, rfl, x, p3, r3, rfl, rr, row.turn (Val' := VTup 2) hN r hj q3 (fun v H1 h => True.intro) (by omega) fun v H2 us h1 h2 h3 => ⟨us, h1, h2, h3⟩⟩⟩
    rintro H3 row
    obtain ⟨k3, ⟨us, hN3, ul, ua⟩, p3, r3, rr, q3⟩ := row.done
    refine ⟨N, us, rfl, .inl ⟨SqL.of hN3, fun b hb => ?_⟩⟩
    exact q3 _ _ (k3.trans (KR.of (same_new hb))) (rr.same (same_new hb)) ⟨b, us, rfl, upd_same, ul⟩
theorem okReadNeighbour (T : Txt K mg) : FnOk P w K mg base (L2N.CX P w) 6 T.fReadNeighbour T.fdReadNeighbour ["reader"] (spRd T.cReader T.cInvalidBytes rNb VAny) := by
  refine okN T.FReadNeighbour scReadNeighbour (fun vs H Q E h => ?_) (fun cdv A outer s H vs Q E hr h => ?_)
  · obtain ⟨x, pos, room, rfl, _⟩ := h
    rfl
  · obtain ⟨x, pos, room, rfl, r, q⟩ := h
    -- slots reader=0
    refine ⟨_, (pss_one (ps_ret (pe_ifExp (pt_cmpR op_eq (pe_methE (pv 0) T.clReader T.meReader_Number (okReader_Number T) (hr.mono (by decide)) T.bReader_Number (fun σ => L2N.passAt (L2N.takes_of rfl rfl rfl rfl) σ) (pa_cons pe_int (pa_cons pe_int pa_nil))) pe_int (nomark _)) pe_non (pe_callS (okReadLine T) (hr.mono (by decide)) (by rfl) T.gReadLine T.FReadLine.kp T.bReadLine (fun σ => L2N.passAt (L2N.takes_of rfl rfl rfl rfl) σ) (pa_cons (pv 0) pa_nil))))), ?_⟩
    obtain ⟨dx, fs, o1, o2, o3, o4⟩ := r.obj
    refine ⟨_, rfl, x.R, dx, _, rfl, o1, o2, x, 0, 1, pos, room, rfl, r, out_seq q fun a p1 t1 v H1 e k1 r1 hv q1 => ?_⟩
    obtain rfl : v = .int a := hv
    refine ⟨rfl, _, rfl, ite2 (fun c => ?_) (fun c => ?_)⟩
    · rw [if_pos (eqI c)] at q1
      exact q1 _ _ (KR.of (Same.refl _)) r1 True.intro
    · rw [if_neg (neI c)] at q1
      exact ⟨_, rfl, x, p1, t1, rfl, r1, out_last q1 fun b p2 t2 v H2 e2 k2 r2 hv q2 => q2 _ _ (KR.of (Same.refl _)) r2 True.intro⟩
theorem okReadArea (T : Txt K mg) : FnOk P w K mg base (L2N.CX P w) 8 T.fReadArea T.fdReadArea ["reader"] (spRd T.cReader T.cInvalidBytes rArea VAny) := by
  refine okN T.FReadArea scReadArea (fun vs H Q E h => ?_) (fun cdv A outer s H vs Q E hr h => ?_)
  · obtain ⟨x, pos, room, rfl, _⟩ := h
    rfl
  · obtain ⟨x, pos, room, rfl, r, q⟩ := h
    -- slots reader=0 kind=1
    refine ⟨_, (pss_cons (ps_set (i := 1) scReadArea.nd rfl (Or.inl rfl) (pe_methE (pv 0) T.clReader T.meReader_Part (okReader_Part T) (hr.mono (by decide)) T.bReader_Part (fun σ => L2N.passAt (L2N.takes_of rfl rfl rfl rfl) σ) (pa_cons pe_int pa_nil)))
        (pss_cons (ps_if (pt_cmpR op_eq (pv 1) pe_int (nomark _))
          (pss_one (ps_ret (pe_tup (pa_cons pe_str pa_nil))))
          pss_nil)
        (pss_cons (ps_if (pt_cmpR op_eq (pv 1) pe_int (nomark _))
          (pss_one (ps_ret (pe_op op_catT (pe_tup (pa_cons pe_str pa_nil)) (pe_callS (okReadLines T) (hr.mono (by decide)) (by rfl) T.gReadLines T.FReadLines.kp T.bReadLines (fun σ => L2N.passAt (L2N.takes_of rfl rfl rfl rfl) σ) (pa_cons (pv 0) (pa_cons pe_int pa_nil))))))
          pss_nil)
        (pss_one (ps_ret (pe_tup (pa_cons pe_str (pa_cons (pe_callS (okReadWord T) (hr.mono (by decide)) (by rfl) T.gReadWord T.FReadWord.kp T.bReadWord (fun σ => L2N.passAt (L2N.takes_of rfl rfl rfl rfl) σ) (pa_cons (pv 0) pa_nil)) pa_nil)))))))), ?_⟩
    obtain ⟨dx, fs, o1, o2, o3, o4⟩ := r.obj
    refine ⟨_, rfl, x.R, dx, _, rfl, o1, o3, x, 2, pos, room, rfl, r, out_seq q fun a p1 t1 v H1 e k1 r1 hv q1 => ?_⟩
    obtain rfl : v = .int a := hv
    refine ⟨_, rfl, rfl, _, rfl, ite2 (fun c => ?_) (fun c => ?_)⟩
    · rw [if_pos (eqI c)] at q1
      exact ⟨(by show 1 ≤ sizeLine; decide), fun p hp => q1 _ _ (KR.of (same_new hp)) (r1.same (same_new hp)) True.intro⟩
    rw [if_neg (neI c)] at q1
    refine ⟨_, rfl, rfl, _, rfl, ite2 (fun c => ?_) (fun c => ?_)⟩
    · rw [if_pos (eqI c)] at q1
      refine ⟨(by show 1 ≤ sizeLine; decide), fun p hp => ?_⟩
      have s1 := same_new (o := .tup [.str "block"]) hp
      refine ⟨_, rfl, x, 4, p1, t1, rfl, by decide, r1.same s1, out_last (q1.mv (KR.of s1)) fun b p2 t2 v H2 e2 k2 r2 hv q2 => ?_⟩
      obtain ⟨p', us, rfl, hp', ul⟩ := hv
      have hp2 : H2 p = some (.tup [.str "block"]) := k2.at_ (r1.nn hp).1 upd_same
      have une : us ≠ [] := fun e => by
        rw [e] at ul
        cases ul
      refine ⟨p, p', _, us, rfl, rfl, SqT.of hp2, SqT.of hp', by simp, (by rw [ul]; show 1 + 4 ≤ sizeLine; decide), fun e => absurd e une, fun _ p3 hp3 => ?_⟩
      exact q2 _ _ (KR.of (same_new hp3)) (r2.same (same_new hp3)) True.intro
    · rw [if_neg (neI c)] at q1
      refine ⟨_, rfl, x, p1, t1, rfl, r1, out_last q1 fun b p2 t2 v H2 e2 k2 r2 hv q2 => ⟨(by show 2 ≤ sizeLine; decide), fun p hp => ?_⟩⟩
      exact q2 _ _ (KR.of (same_new hp)) (r2.same (same_new hp)) True.intro
theorem okReadCall (T : Txt K mg) : FnOk P w K mg base (L2N.CX P w) 9 T.fReadCall T.fdReadCall ["reader"] (spRd T.cReader T.cInvalidBytes rCall VAny) := by
  refine okN T.FReadCall scReadCall (fun vs H Q E h => ?_) (fun cdv A outer s H vs Q E hr h => ?_)
  · obtain ⟨x, pos, room, rfl, _⟩ := h
    rfl
  · obtain ⟨x, pos, room, rfl, r, q⟩ := h
    -- slots reader=0 name=1 many=2 _=3
    refine ⟨_, (pss_cons (ps_set (i := 1) scReadCall.nd rfl (Or.inl rfl) (pe_methE (pv 0) T.clReader T.meReader_Choice (okReader_Choice T) (hr.mono (by decide)) T.bReader_Choice (fun σ => L2N.passAt (L2N.takes_of rfl rfl rfl rfl) σ) (pa_cons (pe_glob (v := (.ref T.p_CALLS)) rfl T.g_CALLS rfl) pa_nil)))
        (pss_cons (ps_set (i := 2) scReadCall.nd rfl (Or.inl rfl) (pe_methE (pv 0) T.clReader T.meReader_Number (okReader_Number T) (hr.mono (by decide)) T.bReader_Number (fun σ => L2N.passAt (L2N.takes_of rfl rfl rfl rfl) σ) (pa_cons pe_int (pa_cons (pe_glob (v := (.int 100000)) rfl T.g_MOST ⟨_, rfl⟩) pa_nil))))
        (pss_one (ps_ret (pe_tup (pa_cons pe_str (pa_cons (pv 1) (pa_cons (pe_callTy call_tuple_of (by rfl) T.z_tuple (by decide +kernel) (pa_cons (pe_lcE (own := [("_", 3)]) (g := gName 3) (tt := tYes) (L2N.takes_of rfl rfl rfl rfl) rfl rfl rfl scReadCall.nd (pi_range1 rfl T.z_range (pa_cons (pv 2) pa_nil)) (blkOk_by (own := [("_", 3)]) (N := ["reader", "name", "many", "_"]) (sc := defScope sReadCall) (by decide +kernel)) (fun _ _ _ _ _ _ => (pg_name (i := 3) scReadCall.nd rfl (Or.inl rfl))) (fun _ _ _ _ _ _ => pts_nil) (fun _ _ _ _ _ _ px => (pe_callS (okReadArea T) (hr.mono (by decide)) (by rfl) T.gReadArea T.FReadArea.kp T.bReadArea px (pa_cons (pv 0) pa_nil)))) pa_nil)) pa_nil)))))))), ?_⟩
    obtain ⟨dx, fs, o1, o2, o3, o4⟩ := r.obj
    refine ⟨_, rfl, x.R, dx, _, rfl, o1, o4, x, T.p_CALLS, _, pos, room, rfl, T.k_CALLS, r, out_seq q fun a p1 t1 v0 H1 e k1 r1 hv q1 => ?_⟩
    obtain ⟨dx, fs, o1, o2, o3, o4⟩ := r1.obj
    refine ⟨_, rfl, x.R, dx, _, rfl, o1, o2, x, 0, 100000, p1, t1, rfl, r1, out_seq q1 fun b p2 t2 v H2 e2 k2 r2 hv q2 => ?_⟩
    obtain rfl : v = .int b := hv
    obtain ⟨b0, b1, _⟩ := num_in e2
    have q3 : Out T.cReader T.cInvalidBytes x H2 VAny Q E (((rRep b.toNat rArea).bind fun u => Rp.ret u).run x.bs p2 t2) := by
      rw [bind_ret]
      exact q2
    refine ⟨_, rfl, _, rfl, b, rfl, by omega, by omega, fun N hN => ?_⟩
    refine lc_it (walk_range (lo := 0) (n := b.toNat)) (fun j H' => Row T.cReader T.cInvalidBytes x H2 N (fun _ => True) rArea (fun u => Rp.ret u) VAny Q E b.toNat j H') (Row.start hN r2 q3) (fun _ _ _ _ => True.intro) ?_ ?_
    · rintro j y H9 H3 hj row ⟨rfl, rfl⟩
      obtain ⟨p3, r3, rr, q3⟩ := row.rd
      exact ⟨rfl, yesT ⟨_, rfl, x, p3, r3, rfl, rr, row.turn (Val' := VAny) hN r2 hj q3 (fun v H1 h => True.intro) (by omega) fun v H2 us h1 h2 h3 => ⟨us, h1, h2, h3⟩⟩⟩
    rintro H3 row
    obtain ⟨k3, ⟨us, hN3, ul, ua⟩, p3, r3, rr, q3⟩ := row.done
    refine ⟨N, us, rfl, .inl ⟨SqL.of hN3, fun b hb => ⟨(by show 3 ≤ sizeLine; decide), fun p hp => ?_⟩⟩⟩
    have s4 := (same_new (o := .tup us) hb).trans (same_new (o := .tup [.str "call", v0, .ref b]) hp)
    exact q3 _ _ (k3.trans (KR.of s4)) (rr.same s4) True.intro
end
end My
namespace My
open PySem PySem.Spec PyProof.Rows L2 RZ
section
variable {P : Program} {w : World} {K : PySem.W.Frag} {mg : Str → Option Value} {base : Heap}
open L2H
open SX (S S_len S_cat slice_to slice_from num_S int_S)
open PySem.NumText (digitsVal AllDigits)
open TL (numL)
def spTr (C CE : Addr) (n : Nat) : Sp := fun vs H Q E => ∃ (x : Rdr) (pos : Nat) (room : Int), vs = [.ref x.R] ∧ RD C H x pos room ∧ room < n ∧ Out C CE x H VAny Q E ((rTree n).run x.bs pos room)
def rOp (n : Nat) : Rp Unit := (rNum 0 3).bind fun _ => (rTree n).bind fun _ => rTree n
def spOpR (C CE : Addr) (n : Nat) : Sp := fun vs H Q E => ∃ (x : Rdr) (pos : Nat) (room : Int), vs = [.ref x.R] ∧ RD C H x pos room ∧ room < n ∧ Out C CE x H VAny Q E ((rOp n).run x.bs pos room)
theorem okReadOp (T : Txt K mg) (n : Nat) (IH : FnOk P w K mg base (L2N.CX P w) (2 * n + 8) T.fReadTree T.fdReadTree ["reader"] (spTr T.cReader T.cInvalidBytes n)) : FnOk P w K mg base (L2N.CX P w) (2 * n + 9) T.fReadOp T.fdReadOp ["reader"] (spOpR T.cReader T.cInvalidBytes n) := by
  refine okN T.FReadOp scReadOp (fun vs H Q E h => ?_) (fun cdv A outer s H vs Q E hr h => ?_)
  · obtain ⟨x, pos, room, rfl, _⟩ := h
    rfl
  · obtain ⟨x, pos, room, rfl, r, hrn, q⟩ := h
    -- slots reader=0 sign=1 left=2
    refine ⟨_, (pss_cons (ps_set (i := 1) scReadOp.nd rfl (Or.inl rfl) (pe_methE (pv 0) T.clReader T.meReader_Choice (okReader_Choice T) (hr.mono (by omega)) T.bReader_Choice (fun σ => L2N.passAt (L2N.takes_of rfl rfl rfl rfl) σ) (pa_cons (pe_glob (v := (.ref T.p_OPERATORS)) rfl T.g_OPERATORS rfl) pa_nil)))
        (pss_cons (ps_set (i := 2) scReadOp.nd rfl (Or.inl rfl) (pe_callS (IH) (hr.mono (by omega)) (by rfl) T.gReadTree T.FReadTree.kp T.bReadTree (fun σ => L2N.passAt (L2N.takes_of rfl rfl rfl rfl) σ) (pa_cons (pv 0) pa_nil)))
        (pss_one (ps_ret (pe_tup (pa_cons pe_str (pa_cons (pv 1) (pa_cons (pv 2) (pa_cons (pe_callS (IH) (hr.mono (by omega)) (by rfl) T.gReadTree T.FReadTree.kp T.bReadTree (fun σ => L2N.passAt (L2N.takes_of rfl rfl rfl rfl) σ) (pa_cons (pv 0) pa_nil)) pa_nil))))))))), ?_⟩
    obtain ⟨dx, fs, o1, o2, o3, o4⟩ := r.obj
    refine ⟨_, rfl, x.R, dx, _, rfl, o1, o4, x, T.p_OPERATORS, _, pos, room, rfl, T.k_OPERATORS, r, out_seq q fun a p1 t1 v0 H1 e k1 r1 hv q1 => ?_⟩
    obtain ⟨_, _, rfl⟩ := num_in e
    refine ⟨_, rfl, x, p1, t1, rfl, r1, hrn, out_seq q1 fun b p2 t2 v1 H2 e2 k2 r2 hv q2 => ?_⟩
    have l2 := low_tree n _ _ _ _ _ _ e2 r1.r
    refine ⟨_, rfl, _, rfl, _, rfl, x, p2, t2, rfl, r2, by omega, out_last q2 fun b p3 t3 v2 H3 e3 k3 r3 hv q3 => ⟨(by show 4 ≤ sizeLine; decide), fun p hp => ?_⟩⟩
    exact q3 _ _ (KR.of (same_new hp)) (r3.same (same_new hp)) True.intro
theorem okReadTree (T : Txt K mg) : ∀ n : Nat, FnOk P w K mg base (L2N.CX P w) (2 * n + 8) T.fReadTree T.fdReadTree ["reader"] (spTr T.cReader T.cInvalidBytes n)
  | 0 => by
    refine okN T.FReadTree scReadTree (fun vs H Q E h => ?_) (fun cdv A outer s H vs Q E hr h => ?_)
    · obtain ⟨x, pos, room, rfl, _⟩ := h
      rfl
    · obtain ⟨x, pos, room, rfl, r, hrn, q⟩ := h
      have := r.r
      omega
  | n + 1 => by
    have IH := okReadTree T n
    refine okN T.FReadTree scReadTree (fun vs H Q E h => ?_) (fun cdv A outer s H vs Q E hr h => ?_)
    · obtain ⟨x, pos, room, rfl, _⟩ := h
      rfl
    · obtain ⟨x, pos, room, rfl, r, hrn, q⟩ := h
      -- slots reader=0 kind=1
      refine ⟨_, (pss_cons (ps_set (i := 1) scReadTree.nd rfl (Or.inl rfl) (pe_methE (pv 0) T.clReader T.meReader_Part (okReader_Part T) (hr.mono (by omega)) T.bReader_Part (fun σ => L2N.passAt (L2N.takes_of rfl rfl rfl rfl) σ) (pa_cons pe_int pa_nil)))
          (pss_cons (ps_if (pt_cmpR op_eq (pv 1) pe_int (nomark _))
            (pss_one (ps_ret (pe_tup (pa_cons pe_str (pa_cons (pe_callS (okReadFraction T) (hr.mono (by omega)) (by rfl) T.gReadFraction T.FReadFraction.kp T.bReadFraction (fun σ => L2N.passAt (L2N.takes_of rfl rfl rfl rfl) σ) (pa_cons (pv 0) pa_nil)) pa_nil)))))
            pss_nil)
          (pss_cons (ps_if (pt_cmpR op_eq (pv 1) pe_int (nomark _))
            (pss_one (ps_ret (pe_op op_catT (pe_tup (pa_cons pe_str pa_nil)) (pe_callS (okReadLines T) (hr.mono (by omega)) (by rfl) T.gReadLines T.FReadLines.kp T.bReadLines (fun σ => L2N.passAt (L2N.takes_of rfl rfl rfl rfl) σ) (pa_cons (pv 0) (pa_cons pe_int pa_nil))))))
            pss_nil)
          (pss_cons (ps_if (pt_cmpR op_eq (pv 1) pe_int (nomark _))
            (pss_one (ps_ret (pe_tup (pa_cons pe_str pa_nil))))
            pss_nil)
          (pss_cons (ps_if (pt_cmpR op_eq (pv 1) pe_int (nomark _))
            (pss_one (ps_ret (pe_callS (okReadCall T) (hr.mono (by omega)) (by rfl) T.gReadCall T.FReadCall.kp T.bReadCall (fun σ => L2N.passAt (L2N.takes_of rfl rfl rfl rfl) σ) (pa_cons (pv 0) pa_nil))))
            pss_nil)
          (pss_cons (ps_if (pt_cmpR op_eq (pv 1) pe_int (nomark _))
            (pss_one (ps_ret (pe_tup (pa_cons pe_str (pa_cons (pe_callS (IH) (hr.mono (by omega)) (by rfl) T.gReadTree T.FReadTree.kp T.bReadTree (fun σ => L2N.passAt (L2N.takes_of rfl rfl rfl rfl) σ) (pa_cons (pv 0) pa_nil)) pa_nil)))))
            pss_nil)
          (pss_one (ps_ret (pe_callS (okReadOp T n IH) (hr.mono (by omega)) (by rfl) T.gReadOp T.FReadOp.kp T.bReadOp (fun σ => L2N.passAt (L2N.takes_of rfl rfl rfl rfl) σ) (pa_cons (pv 0) pa_nil)))))))))), ?_⟩
      obtain ⟨dx, fs, o1, o2, o3, o4⟩ := r.obj
      refine ⟨_, rfl, x.R, dx, _, rfl, o1, o3, x, 5, pos, room, rfl, r, out_seq q fun a p1 t1 v H1 e k1 r1 hv q1 => ?_⟩
      obtain rfl : v = .int a := hv
      have l1 := low_part e r.r
      have hn : t1 < n := by omega
      refine ⟨_, rfl, rfl, _, rfl, ite2 (fun c => ?_) (fun c => ?_)⟩
      · rw [if_pos (eqI c)] at q1
        refine ⟨_, rfl, x, p1, t1, rfl, r1, out_last q1 fun b p2 t2 v H2 e2 k2 r2 hv q2 => ⟨(by show 2 ≤ sizeLine; decide), fun p hp => ?_⟩⟩
        exact q2 _ _ (KR.of (same_new hp)) (r2.same (same_new hp)) True.intro
      rw [if_neg (neI c)] at q1
      refine ⟨_, rfl, rfl, _, rfl, ite2 (fun c => ?_) (fun c => ?_)⟩
      · rw [if_pos (eqI c)] at q1
        refine ⟨(by show 1 ≤ sizeLine; decide), fun p hp => ?_⟩
        have s1 := same_new (o := .tup [.str "cell"]) hp
        refine ⟨_, rfl, x, 2, p1, t1, rfl, by decide, r1.same s1, out_last (q1.mv (KR.of s1)) fun b p2 t2 v H2 e2 k2 r2 hv q2 => ?_⟩
        obtain ⟨p', us, rfl, hp', ul⟩ := hv
        have hp2 : H2 p = some (.tup [.str "cell"]) := k2.at_ (r1.nn hp).1 upd_same
        have une : us ≠ [] := fun e => by
          rw [e] at ul
          cases ul
        refine ⟨p, p', _, us, rfl, rfl, SqT.of hp2, SqT.of hp', by simp, (by rw [ul]; show 1 + 2 ≤ sizeLine; decide), fun e => absurd e une, fun _ p3 hp3 => ?_⟩
        exact q2 _ _ (KR.of (same_new hp3)) (r2.same (same_new hp3)) True.intro
      rw [if_neg (neI c)] at q1
      refine ⟨_, rfl, rfl, _, rfl, ite2 (fun c => ?_) (fun c => ?_)⟩
      · rw [if_pos (eqI c)] at q1
        exact ⟨(by show 1 ≤ sizeLine; decide), fun p hp => q1 _ _ (KR.of (same_new hp)) (r1.same (same_new hp)) True.intro⟩
      rw [if_neg (neI c)] at q1
      refine ⟨_, rfl, rfl, _, rfl, ite2 (fun c => ?_) (fun c => ?_)⟩
      · rw [if_pos (eqI c)] at q1
        exact ⟨_, rfl, x, p1, t1, rfl, r1, out_last q1 fun b p2 t2 v H2 e2 k2 r2 hv q2 => q2 _ _ (KR.of (Same.refl _)) r2 True.intro⟩
      rw [if_neg (neI c)] at q1
      refine ⟨_, rfl, rfl, _, rfl, ite2 (fun c => ?_) (fun c => ?_)⟩
      · rw [if_pos (eqI c)] at q1
        refine ⟨_, rfl, x, p1, t1, rfl, r1, hn, out_last q1 fun b p2 t2 v H2 e2 k2 r2 hv q2 => ⟨(by show 2 ≤ sizeLine; decide), fun p hp => ?_⟩⟩
        exact q2 _ _ (KR.of (same_new hp)) (r2.same (same_new hp)) True.intro
      rw [if_neg (neI c)] at q1
      exact ⟨_, rfl, x, p1, t1, rfl, r1, hn, out_last q1 fun b p2 t2 v H2 e2 k2 r2 hv q2 => q2 _ _ (KR.of (Same.refl _)) r2 True.intro⟩
theorem okReadContent (T : Txt K mg) : FnOk P w K mg base (L2N.CX P w) 131 T.fReadContent T.fdReadContent ["reader"] (spRd T.cReader T.cInvalidBytes rCont VAny) := by
  refine okN T.FReadContent scReadContent (fun vs H Q E h => ?_) (fun cdv A outer s H vs Q E hr h => ?_)
  · obtain ⟨x, pos, room, rfl, _⟩ := h
    rfl
  · obtain ⟨x, pos, room, rfl, r, q⟩ := h
    -- slots reader=0 kind=1
    refine ⟨_, (pss_cons (ps_set (i := 1) scReadContent.nd rfl (Or.inl rfl) (pe_methE (pv 0) T.clReader T.meReader_Number (okReader_Number T) (hr.mono (by decide)) T.bReader_Number (fun σ => L2N.passAt (L2N.takes_of rfl rfl rfl rfl) σ) (pa_cons pe_int (pa_cons pe_int pa_nil))))
        (pss_cons (ps_if (pt_cmpR op_eq (pv 1) pe_int (nomark _))
          (pss_one (ps_ret (pe_tup (pa_cons pe_str pa_nil))))
          pss_nil)
        (pss_cons (ps_if (pt_cmpR op_eq (pv 1) pe_int (nomark _))
          (pss_one (ps_ret (pe_tup (pa_cons pe_str (pa_cons (pe_callS (okReadString T) (hr.mono (by decide)) (by rfl) T.gReadString T.FReadString.kp T.bReadString (fun σ => L2N.passAt (L2N.takes_of rfl rfl rfl rfl) σ) (pa_cons (pv 0) (pa_cons pe_int (pa_cons (pe_glob (v := (.int 60)) rfl T.g_LONGEST_TEXT ⟨_, rfl⟩) (pa_cons (pe_glob (v := (.str " !\"#$&'()*+,-./0123456789:;<=>?@ABCDEFGHIJKLMNOPQRSTUVWXYZ[\\]^_`abcdefghijklmnopqrstuvwxyz{|}~")) rfl T.g_CHARACTERS ⟨_, rfl⟩) pa_nil))))) pa_nil)))))
          pss_nil)
        (pss_cons (ps_if (pt_cmpR op_eq (pv 1) pe_int (nomark _))
          (pss_one (ps_ret (pe_tup (pa_cons pe_str (pa_cons (pe_callS (okReadFraction T) (hr.mono (by decide)) (by rfl) T.gReadFraction T.FReadFraction.kp T.bReadFraction (fun σ => L2N.passAt (L2N.takes_of rfl rfl rfl rfl) σ) (pa_cons (pv 0) pa_nil)) pa_nil)))))
          pss_nil)
        (pss_cons (ps_fld (pv 0) (pe_glob (v := (.int 60)) rfl T.g_LARGEST_TREE ⟨_, rfl⟩) rfl)
        (pss_one (ps_ret (pe_tup (pa_cons pe_str (pa_cons (pe_callS (okReadTree T 61) (hr.mono (by omega)) (by rfl) T.gReadTree T.FReadTree.kp T.bReadTree (fun σ => L2N.passAt (L2N.takes_of rfl rfl rfl rfl) σ) (pa_cons (pv 0) pa_nil)) pa_nil)))))))))), ?_⟩
    obtain ⟨dx, fs, o1, o2, o3, o4⟩ := r.obj
    refine ⟨_, rfl, x.R, dx, _, rfl, o1, o2, x, 0, 3, pos, room, rfl, r, out_seq q fun a p1 t1 v H1 e k1 r1 hv q1 => ?_⟩
    obtain rfl : v = .int a := hv
    refine ⟨_, rfl, rfl, _, rfl, ite2 (fun c => ?_) (fun c => ?_)⟩
    · rw [if_pos (eqI c)] at q1
      exact ⟨(by show 1 ≤ sizeLine; decide), fun p hp => q1 _ _ (KR.of (same_new hp)) (r1.same (same_new hp)) True.intro⟩
    rw [if_neg (neI c)] at q1
    refine ⟨_, rfl, rfl, _, rfl, ite2 (fun c => ?_) (fun c => ?_)⟩
    · rw [if_pos (eqI c)] at q1
      refine ⟨_, rfl, x, 1, 60, _, p1, t1, rfl, r1, by omega, by omega, out_last q1 fun b p2 t2 v H2 e2 k2 r2 hv q2 => ⟨(by show 2 ≤ sizeLine; decide), fun p hp => ?_⟩⟩
      exact q2 _ _ (KR.of (same_new hp)) (r2.same (same_new hp)) True.intro
    rw [if_neg (neI c)] at q1
    refine ⟨_, rfl, rfl, _, rfl, ite2 (fun c => ?_) (fun c => ?_)⟩
    · rw [if_pos (eqI c)] at q1
      refine ⟨_, rfl, x, p1, t1, rfl, r1, out_last q1 fun b p2 t2 v H2 e2 k2 r2 hv q2 => ⟨(by show 2 ≤ sizeLine; decide), fun p hp => ?_⟩⟩
      exact q2 _ _ (KR.of (same_new hp)) (r2.same (same_new hp)) True.intro
    rw [if_neg (neI c)] at q1
    refine ⟨_, rfl, x.R, T.cReader, x.d, _, rfl, r1.o, T.clReader, T.naReader_room, (by show 3 < 1000; decide), ?_⟩
    have k0 : KR x.R H1 (upd H1 x.R (insR T.cReader x.d x.s p1 60)) := (KR.of (Same.refl _)).put
    have r2 := r1.kr k0 upd_same (by omega : (0 : Int) ≤ 60)
    refine ⟨_, rfl, x, p1, 60, rfl, r2, by omega, out_last ((Out.to q1 rfl).mv k0) fun b p2 t2 v H2 e2 k2 r3 hv q2 => ⟨(by show 2 ≤ sizeLine; decide), fun p hp => ?_⟩⟩
    exact q2 _ _ (KR.of (same_new hp)) (r3.same (same_new hp)) True.intro
theorem okReadCell (T : Txt K mg) : FnOk P w K mg base (L2N.CX P w) 132 T.fReadCell T.fdReadCell ["reader"] (spRd T.cReader T.cInvalidBytes rCell VAny) := by
  refine okN T.FReadCell scReadCell (fun vs H Q E h => ?_) (fun cdv A outer s H vs Q E hr h => ?_)
  · obtain ⟨x, pos, room, rfl, _⟩ := h
    rfl
  · obtain ⟨x, pos, room, rfl, r, q⟩ := h
    -- slots reader=0 row=1 column=2
    refine ⟨_, (pss_cons (ps_asg (pe_callS (okReadLines T) (hr.mono (by decide)) (by rfl) T.gReadLines T.FReadLines.kp T.bReadLines (fun σ => L2N.passAt (L2N.takes_of rfl rfl rfl rfl) σ) (pa_cons (pv 0) (pa_cons pe_int pa_nil))) (pg_tup rfl (pgs_cons (pg_name (i := 1) scReadCell.nd rfl (Or.inl rfl)) (pgs_cons (pg_name (i := 2) scReadCell.nd rfl (Or.inl rfl)) pgs_nil))))
        (pss_one (ps_ret (pe_tup (pa_cons (pv 1) (pa_cons (pv 2) (pa_cons (pe_callS (okReadContent T) (hr.mono (by decide)) (by rfl) T.gReadContent T.FReadContent.kp T.bReadContent (fun σ => L2N.passAt (L2N.takes_of rfl rfl rfl rfl) σ) (pa_cons (pv 0) pa_nil)) pa_nil))))))), ?_⟩
    refine ⟨_, rfl, x, 2, pos, room, rfl, by decide, r, out_seq q fun a p1 t1 v H1 e k1 r1 hv q1 => ?_⟩
    obtain ⟨p, us, rfl, hp, ul⟩ := hv
    obtain ⟨u1, u2, rfl⟩ : ∃ u1 u2, us = [u1, u2] := match us, ul with | [a, b], _ => ⟨a, b, rfl⟩
    refine ⟨p, _, rfl, SqT.of hp, rfl, _, _, rfl, _, _, rfl, rfl, ?_⟩
    refine ⟨_, rfl, _, rfl, _, rfl, x, p1, t1, rfl, r1, out_last q1 fun b p2 t2 v H2 e2 k2 r2 hv q2 => ⟨(by show 3 ≤ sizeLine; decide), fun p hp => ?_⟩⟩
    exact q2 _ _ (KR.of (same_new hp)) (r2.same (same_new hp)) True.intro
theorem okReadInsert (T : Txt K mg) : FnOk P w K mg base (L2N.CX P w) 7 T.fReadInsert T.fdReadInsert ["reader"] (spRd T.cReader T.cInvalidBytes rIns VAny) := by
  refine okN T.FReadInsert scReadInsert (fun vs H Q E h => ?_) (fun cdv A outer s H vs Q E hr h => ?_)
  · obtain ⟨x, pos, room, rfl, _⟩ := h
    rfl
  · obtain ⟨x, pos, room, rfl, r, q⟩ := h
    -- slots reader=0 axis=1 left=2
    refine ⟨_, (pss_cons (ps_set (i := 1) scReadInsert.nd rfl (Or.inl rfl) (pe_methE (pv 0) T.clReader T.meReader_Choice (okReader_Choice T) (hr.mono (by decide)) T.bReader_Choice (fun σ => L2N.passAt (L2N.takes_of rfl rfl rfl rfl) σ) (pa_cons (pe_glob (v := (.ref T.p_AXES)) rfl T.g_AXES rfl) pa_nil)))
        (pss_cons (ps_set (i := 2) scReadInsert.nd rfl (Or.inl rfl) (pe_callS (okReadNeighbour T) (hr.mono (by decide)) (by rfl) T.gReadNeighbour T.FReadNeighbour.kp T.bReadNeighbour (fun σ => L2N.passAt (L2N.takes_of rfl rfl rfl rfl) σ) (pa_cons (pv 0) pa_nil)))
        (pss_one (ps_ret (pe_tup (pa_cons pe_str (pa_cons (pv 1) (pa_cons (pv 2) (pa_cons (pe_callS (okReadNeighbour T) (hr.mono (by decide)) (by rfl) T.gReadNeighbour T.FReadNeighbour.kp T.bReadNeighbour (fun σ => L2N.passAt (L2N.takes_of rfl rfl rfl rfl) σ) (pa_cons (pv 0) pa_nil)) pa_nil))))))))), ?_⟩
    obtain ⟨dx, fs, o1, o2, o3, o4⟩ := r.obj
    refine ⟨_, rfl, x.R, dx, _, rfl, o1, o4, x, T.p_AXES, _, pos, room, rfl, T.k_AXES, r, out_seq q fun a p1 t1 v0 H1 e k1 r1 hv q1 => ?_⟩
    refine ⟨_, rfl, x, p1, t1, rfl, r1, out_seq q1 fun b p2 t2 v1 H2 e2 k2 r2 hv q2 => ?_⟩
    refine ⟨_, rfl, _, rfl, _, rfl, x, p2, t2, rfl, r2, out_last q2 fun b p3 t3 v2 H3 e3 k3 r3 hv q3 => ⟨(by show 4 ≤ sizeLine; decide), fun p hp => ?_⟩⟩
    exact q3 _ _ (KR.of (same_new hp)) (r3.same (same_new hp)) True.intro
theorem okReadDelete (T : Txt K mg) : FnOk P w K mg base (L2N.CX P w) 6 T.fReadDelete T.fdReadDelete ["reader"] (spRd T.cReader T.cInvalidBytes rDel VAny) := by
  refine okN T.FReadDelete scReadDelete (fun vs H Q E h => ?_) (fun cdv A outer s H vs Q E hr h => ?_)
  · obtain ⟨x, pos, room, rfl, _⟩ := h
    rfl
  · obtain ⟨x, pos, room, rfl, r, q⟩ := h
    -- slots reader=0 axis=1
    refine ⟨_, (pss_cons (ps_set (i := 1) scReadDelete.nd rfl (Or.inl rfl) (pe_methE (pv 0) T.clReader T.meReader_Choice (okReader_Choice T) (hr.mono (by decide)) T.bReader_Choice (fun σ => L2N.passAt (L2N.takes_of rfl rfl rfl rfl) σ) (pa_cons (pe_glob (v := (.ref T.p_AXES)) rfl T.g_AXES rfl) pa_nil)))
        (pss_one (ps_ret (pe_tup (pa_cons pe_str (pa_cons (pv 1) (pa_cons (pe_callS (okReadLine T) (hr.mono (by decide)) (by rfl) T.gReadLine T.FReadLine.kp T.bReadLine (fun σ => L2N.passAt (L2N.takes_of rfl rfl rfl rfl) σ) (pa_cons (pv 0) pa_nil)) pa_nil))))))), ?_⟩
    obtain ⟨dx, fs, o1, o2, o3, o4⟩ := r.obj
    refine ⟨_, rfl, x.R, dx, _, rfl, o1, o4, x, T.p_AXES, _, pos, room, rfl, T.k_AXES, r, out_seq q fun a p1 t1 v0 H1 e k1 r1 hv q1 => ?_⟩
    refine ⟨_, rfl, _, rfl, x, p1, t1, rfl, r1, out_last q1 fun b p3 t3 v2 H3 e3 k3 r3 hv q3 => ⟨(by show 3 ≤ sizeLine; decide), fun p hp => ?_⟩⟩
    exact q3 _ _ (KR.of (same_new hp)) (r3.same (same_new hp)) True.intro
theorem okReadWrite (T : Txt K mg) : FnOk P w K mg base (L2N.CX P w) 133 T.fReadWrite T.fdReadWrite ["reader"] (spRd T.cReader T.cInvalidBytes rWrite VAny) := by
  refine okN T.FReadWrite scReadWrite (fun vs H Q E h => ?_) (fun cdv A outer s H vs Q E hr h => ?_)
  · obtain ⟨x, pos, room, rfl, _⟩ := h
    rfl
  · obtain ⟨x, pos, room, rfl, r, q⟩ := h
    -- slots reader=0 many=1 _=2
    refine ⟨_, (pss_cons (ps_set (i := 1) scReadWrite.nd rfl (Or.inl rfl) (pe_methE (pv 0) T.clReader T.meReader_Number (okReader_Number T) (hr.mono (by decide)) T.bReader_Number (fun σ => L2N.passAt (L2N.takes_of rfl rfl rfl rfl) σ) (pa_cons pe_int (pa_cons (pe_glob (v := (.int 100000)) rfl T.g_MOST ⟨_, rfl⟩) pa_nil))))
        (pss_one (ps_ret (pe_tup (pa_cons pe_str (pa_cons (pe_callTy call_tuple_of (by rfl) T.z_tuple (by decide +kernel) (pa_cons (pe_lcE (own := [("_", 2)]) (g := gName 2) (tt := tYes) (L2N.takes_of rfl rfl rfl rfl) rfl rfl rfl scReadWrite.nd (pi_range1 rfl T.z_range (pa_cons (pv 1) pa_nil)) (blkOk_by (own := [("_", 2)]) (N := ["reader", "many", "_"]) (sc := defScope sReadWrite) (by decide +kernel)) (fun _ _ _ _ _ _ => (pg_name (i := 2) scReadWrite.nd rfl (Or.inl rfl))) (fun _ _ _ _ _ _ => pts_nil) (fun _ _ _ _ _ _ px => (pe_callS (okReadCell T) (hr.mono (by decide)) (by rfl) T.gReadCell T.FReadCell.kp T.bReadCell px (pa_cons (pv 0) pa_nil)))) pa_nil)) pa_nil)))))), ?_⟩
    obtain ⟨dx, fs, o1, o2, o3, o4⟩ := r.obj
    refine ⟨_, rfl, x.R, dx, _, rfl, o1, o2, x, 0, 100000, pos, room, rfl, r, out_seq q fun b p2 t2 v H2 e2 k2 r2 hv q2 => ?_⟩
    obtain rfl : v = .int b := hv
    obtain ⟨b0, b1, _⟩ := num_in e2
    have q3 : Out T.cReader T.cInvalidBytes x H2 VAny Q E (((rRep b.toNat rCell).bind fun u => Rp.ret u).run x.bs p2 t2) := by
      rw [bind_ret]
      exact q2
    refine ⟨_, rfl, b, rfl, by omega, by omega, fun N hN => ?_⟩
    refine lc_it (walk_range (lo := 0) (n := b.toNat)) (fun j H' => Row T.cReader T.cInvalidBytes x H2 N (fun _ => True) rCell (fun u => Rp.ret u) VAny Q E b.toNat j H') (Row.start hN r2 q3) (fun _ _ _ _ => True.intro) ?_ ?_
    · rintro j y H9 H3 hj row ⟨rfl, rfl⟩
      obtain ⟨p3, r3, rr, q3⟩ := row.rd
      exact ⟨rfl, yesT ⟨_, rfl, x, p3, r3, rfl, rr, row.turn (Val' := VAny) hN r2 hj q3 (fun v H1 h => True.intro) (by omega) fun v H2 us h1 h2 h3 => ⟨us, h1, h2, h3⟩⟩⟩
    rintro H3 row
    obtain ⟨k3, ⟨us, hN3, ul, ua⟩, p3, r3, rr, q3⟩ := row.done
    refine ⟨N, us, rfl, .inl ⟨SqL.of hN3, fun b hb => ⟨(by show 2 ≤ sizeLine; decide), fun p hp => ?_⟩⟩⟩
    have s4 := (same_new (o := .tup us) hb).trans (same_new (o := .tup [.str "write", .ref b]) hp)
    exact q3 _ _ (k3.trans (KR.of s4)) (rr.same s4) True.intro
theorem okReadName (T : Txt K mg) : FnOk P w K mg base (L2N.CX P w) 8 T.fReadName T.fdReadName ["reader"] (spRd T.cReader T.cInvalidBytes rName VAny) := by
  refine okN T.FReadName scReadName (fun vs H Q E h => ?_) (fun cdv A outer s H vs Q E hr h => ?_)
  · obtain ⟨x, pos, room, rfl, _⟩ := h
    rfl
  · obtain ⟨x, pos, room, rfl, r, q⟩ := h
    -- slots reader=0 word=1 many=2 _=3
    refine ⟨_, (pss_cons (ps_set (i := 1) scReadName.nd rfl (Or.inl rfl) (pe_callS (okReadWord T) (hr.mono (by decide)) (by rfl) T.gReadWord T.FReadWord.kp T.bReadWord (fun σ => L2N.passAt (L2N.takes_of rfl rfl rfl rfl) σ) (pa_cons (pv 0) pa_nil)))
        (pss_cons (ps_set (i := 2) scReadName.nd rfl (Or.inl rfl) (pe_methE (pv 0) T.clReader T.meReader_Number (okReader_Number T) (hr.mono (by decide)) T.bReader_Number (fun σ => L2N.passAt (L2N.takes_of rfl rfl rfl rfl) σ) (pa_cons pe_int (pa_cons (pe_glob (v := (.int 4)) rfl T.g_MOST_BLOCKS ⟨_, rfl⟩) pa_nil))))
        (pss_one (ps_ret (pe_tup (pa_cons pe_str (pa_cons (pv 1) (pa_cons (pe_callTy call_tuple_of (by rfl) T.z_tuple (by decide +kernel) (pa_cons (pe_lcE (own := [("_", 3)]) (g := gName 3) (tt := tYes) (L2N.takes_of rfl rfl rfl rfl) rfl rfl rfl scReadName.nd (pi_range1 rfl T.z_range (pa_cons (pv 2) pa_nil)) (blkOk_by (own := [("_", 3)]) (N := ["reader", "word", "many", "_"]) (sc := defScope sReadName) (by decide +kernel)) (fun _ _ _ _ _ _ => (pg_name (i := 3) scReadName.nd rfl (Or.inl rfl))) (fun _ _ _ _ _ _ => pts_nil) (fun _ _ _ _ _ _ px => (pe_callS (okReadLines T) (hr.mono (by decide)) (by rfl) T.gReadLines T.FReadLines.kp T.bReadLines px (pa_cons (pv 0) (pa_cons pe_int pa_nil))))) pa_nil)) pa_nil)))))))), ?_⟩
    refine ⟨_, rfl, x, pos, room, rfl, r, out_seq q fun a p1 t1 v0 H1 e k1 r1 hv q1 => ?_⟩
    obtain ⟨dx, fs, o1, o2, o3, o4⟩ := r1.obj
    refine ⟨_, rfl, x.R, dx, _, rfl, o1, o2, x, 0, 4, p1, t1, rfl, r1, out_seq q1 fun b p2 t2 v H2 e2 k2 r2 hv q2 => ?_⟩
    obtain rfl : v = .int b := hv
    obtain ⟨b0, b1, _⟩ := num_in e2
    have q3 : Out T.cReader T.cInvalidBytes x H2 VAny Q E (((rRep b.toNat (rLines 4)).bind fun u => Rp.ret u).run x.bs p2 t2) := by
      rw [bind_ret]
      exact q2
    refine ⟨_, rfl, _, rfl, b, rfl, by omega, by omega, fun N hN => ?_⟩
    refine lc_it (walk_range (lo := 0) (n := b.toNat)) (fun j H' => Row T.cReader T.cInvalidBytes x H2 N (fun _ => True) (rLines 4) (fun u => Rp.ret u) VAny Q E b.toNat j H') (Row.start hN r2 q3) (fun _ _ _ _ => True.intro) ?_ ?_
    · rintro j y H9 H3 hj row ⟨rfl, rfl⟩
      obtain ⟨p3, r3, rr, q3⟩ := row.rd
      exact ⟨rfl, yesT ⟨_, rfl, x, 4, p3, r3, rfl, by decide, rr, row.turn (Val' := VTup 4) hN r2 hj q3 (fun v H1 h => True.intro) (by omega) fun v H2 us h1 h2 h3 => ⟨us, h1, h2, h3⟩⟩⟩
    rintro H3 row
    obtain ⟨k3, ⟨us, hN3, ul, ua⟩, p3, r3, rr, q3⟩ := row.done
    refine ⟨N, us, rfl, .inl ⟨SqL.of hN3, fun b hb => ⟨(by show 3 ≤ sizeLine; decide), fun p hp => ?_⟩⟩⟩
    have s4 := (same_new (o := .tup us) hb).trans (same_new (o := .tup [.str "name", v0, .ref b]) hp)
    exact q3 _ _ (k3.trans (KR.of s4)) (rr.same s4) True.intro
theorem okReadUndo (T : Txt K mg) : FnOk P w K mg base (L2N.CX P w) 5 T.fReadUndo T.fdReadUndo ["reader"] (spRd T.cReader T.cInvalidBytes rUndo VAny) := by
  refine okN T.FReadUndo scReadUndo (fun vs H Q E h => ?_) (fun cdv A outer s H vs Q E hr h => ?_)
  · obtain ⟨x, pos, room, rfl, _⟩ := h
    rfl
  · obtain ⟨x, pos, room, rfl, r, q⟩ := h
    -- slots reader=0
    refine ⟨_, (pss_one (ps_ret (pe_tup (pa_cons pe_str (pa_cons (pe_methE (pv 0) T.clReader T.meReader_Number (okReader_Number T) (hr.mono (by decide)) T.bReader_Number (fun σ => L2N.passAt (L2N.takes_of rfl rfl rfl rfl) σ) (pa_cons pe_int (pa_cons (pe_glob (v := (.int 100000)) rfl T.g_MOST ⟨_, rfl⟩) pa_nil))) pa_nil))))), ?_⟩
    obtain ⟨dx, fs, o1, o2, o3, o4⟩ := r.obj
    refine ⟨_, rfl, x.R, dx, _, rfl, o1, o2, x, 1, 100000, pos, room, rfl, r, out_seq q fun a p1 t1 v0 H1 e k1 r1 hv q1 => ⟨(by show 2 ≤ sizeLine; decide), fun p hp => ?_⟩⟩
    exact q1 _ _ (KR.of (same_new hp)) (r1.same (same_new hp)) True.intro
end
end My
namespace My
open PySem PySem.Spec PyProof.Rows L2 RZ
section
variable {P : Program} {w : World} {K : PySem.W.Frag} {mg : Str → Option Value} {base : Heap}
open L2H
open SX (S S_len S_cat slice_to slice_from num_S int_S)
open PySem.NumText (digitsVal AllDigits)
open TL (numL)
section
variable {X : Cx}
/-- a list against an empty one -/
def rNeL : R2 := fun x y H Q => ∃ (a b : Addr) (xs : List V), x = .ref a ∧ y = .ref b ∧ H a = some (.lst xs) ∧ H b = some (.lst []) ∧ Q (.bl (!xs.isEmpty)) H
theorem op_neL (hu : X.A.units + 64 < cLine) : OpR X (compareOp .NotEq) rNeL := by
  intro pins s σ H x y v u Q I rx ry h
  obtain ⟨a, b, xs, rfl, rfl, ea, eb, q⟩ := h
  obtain rfl : v = Value.ref a := rx
  obtain rfl : u = Value.ref b := ry
  obtain ⟨_, ia, na, ra, da⟩ := (show ObjOk X.prog X.w H s.heap a (.lst xs) from I.hok a _ ea)
  obtain ⟨_, ib, nb, rb, db⟩ := (show ObjOk X.prog X.w H s.heap b (.lst []) from I.hok b _ eb)
  have eib : ib = [] := by cases rb; rfl
  subst eib
  have la := ra.length
  cases xs with
  | nil =>
    have eia : ia = [] := by cases ra; rfl
    subst eia
    exact SeqAt.RcNeAt.lists (e := fun _ => true) ⟨_, da, rfl, na, rfl⟩ ⟨_, db, rfl, nb, rfl⟩ rfl (by omega) (fun j h1 => absurd h1 (Nat.not_lt_zero _)) X.prog X.w _ _ ⟨.bl _, H, I, rfl, q⟩
  | cons y ys =>
    refine SeqAt.RcNeAt.lists_lengths ⟨_, da, rfl, na, rfl⟩ ⟨_, db, rfl, nb, rfl⟩ ?_ (by omega) X.prog X.w _ _ ⟨.bl _, H, I, rfl, q⟩
    rw [List.length_cons] at la
    simp
    intro z
    rw [z] at la
    cases la
end
end
end My
namespace My
open PySem PySem.Spec PyProof.Rows L2 RZ
section
variable {P : Program} {w : World} {K : PySem.W.Frag} {mg : Str → Option Value} {base : Heap}
open L2H
open SX (S S_len S_cat slice_to slice_from num_S int_S)
open PySem.NumText (digitsVal AllDigits)
open TL (numL)
theorem units2 {k : Nat} {A : Around} (r : Room k A) : A.units + 1 < cLine := by
  have := units65 r
  omega
def rLtD (K : PySem.W.Frag) : R2 := fun x y H Q => ∃ d e, Dp K H x d ∧ Dp K H y e ∧ PySem.W.alike d e = true ∧ d ≠ .none ∧ d.depth ≤ 50 ∧ Q (.bl (PySem.W.dataLt d e)) H
theorem op_ltD {X : Cx} (hu : X.A.units + 65 < cLine) : OpR X (compareOp .Lt) (rLtD X.K) := by
  intro pins s σ H x y v u Q I rx ry h
  obtain ⟨d, e, hd, he, al, nn, dp, q⟩ := h
  obtain ⟨as, r1⟩ := Dp.reads I d x v hd rx
  obtain ⟨bs, r2⟩ := Dp.reads I e y u he ry
  exact PySem.W.lt_data r1 r2 al nn (by have := Nat.min_le_left d.depth e.depth; omega) ⟨.bl _, H, I, rfl, q⟩
def EdG (H : Hp) (q : Addr) (e : Ed) : Prop := ∃ (a b : Addr) (rest : List V), H q = some (.tup (.ref a :: .ref b :: rest)) ∧ H a = some (.tup [.int (1 + (e.p : Int)), .int e.n]) ∧ H b = some (.tup (e.v.map V.int))
def spStampG (K : PySem.W.Frag) : Sp := fun vs H Q _ => ∃ (q : Addr) (e : Ed), vs = [.ref q] ∧ EdG H q e ∧ Q (.int (stampE e)) H
theorem okStamp (T : Txt K mg) : FnOk P w K mg base CX0 1 T.fStamp T.fdStamp ["edit"] (spStampG K) := by
  refine T.FStamp.ok scStamp (fun vs H Q E h => ?_) (fun cdv A outer s H vs Q E hr h => ?_)
  · obtain ⟨x, e, rfl, _⟩ := h
    rfl
  · obtain ⟨q0, e, rfl, ⟨a0, b0, rest, h1, h2, h3⟩, q⟩ := h
    -- slots edit=0
    refine ⟨_, (pss_one (ps_ret (pe_op op_add pe_int (pe_callB (cr_sumT rfl) (by rfl) T.z_sum (by decide +kernel) (pa_cons (pe_ix ix_tup (pv 0) pe_int (fun _ _ => rfl)) pa_nil))))), ?_⟩
    exact ⟨_, rfl, q0, _, _, _, rfl, rfl, SqT.of h1, atI_nat (j := 1) rfl, b0, e.v, rfl, SqT.of h3, _, _, rfl, rfl, q⟩
def spPlaceG (K : PySem.W.Frag) : Sp := fun vs H Q _ => ∃ (q : Addr) (e : Ed), vs = [.ref q] ∧ EdG H q e ∧ ∀ (p : Addr) (H' : Hp), Same H H' → Dp K H' (.ref p) (keyE e) → Q (.ref p) H'
theorem okPlace (T : Txt K mg) : FnOk P w K mg base CX0 2 T.fPlace T.fdPlace ["edit"] (spPlaceG K) := by
  refine T.FPlace.ok scPlace (fun vs H Q E h => ?_) (fun cdv A outer s H vs Q E hr h => ?_)
  · obtain ⟨x, e, rfl, _⟩ := h
    rfl
  · obtain ⟨q0, e, rfl, E0, q⟩ := h
    obtain ⟨a0, b0, rest, h1, h2, h3⟩ := id E0
    -- slots edit=0
    refine ⟨_, (pss_one (ps_ret (pe_tup (pa_cons (pe_call (okStamp T) (hr.mono (by decide)) (by rfl) T.gStamp T.FStamp.kp T.bStamp .nil pass0 (pa_cons (pv 0) pa_nil)) (pa_cons (pe_ix ix_tup (pv 0) pe_int (fun _ _ => rfl)) pa_nil))))), ?_⟩
    refine ⟨_, rfl, q0, e, rfl, E0, _, rfl, q0, _, _, _, rfl, rfl, SqT.of h1, atI_nat (j := 0) rfl, (by show 2 ≤ sizeLine; decide), fun p hp => ?_⟩
    have s1 := same_new (o := .tup [.int (stampE e), .ref a0]) hp
    exact q p _ s1 (.tup (SqT.of upd_same) (.cons (.int _) (.cons (dp_id (s1 _ _ h2)) .nil)))
def VHead : Ed → V → Hp → Prop := fun e v H => ∃ (q a b : Addr), v = .ref q ∧ H q = some (.tup [.ref a, .ref b]) ∧ H a = some (.tup [.int (1 + (e.p : Int)), .int e.n]) ∧ H b = some (.tup (e.v.map V.int))
theorem repL_bind {β : Type} {n : Nat} {m : Rp Int} {f : List Int → Rp β} {acc : List Int} : ((rRepL (n + 1) m).bind fun l => f (acc ++ l)) = m.bind fun a => (rRepL n m).bind fun l => f ((acc ++ [a]) ++ l) := by
  show (m.bind fun a => (rRepL n m).bind fun l => Rp.ret (a :: l)).bind _ = _
  rw [bind_assoc]
  refine congrArg (Rp.bind m) (funext fun a => ?_)
  rw [bind_assoc]
  refine congrArg (Rp.bind _) (funext fun l => ?_)
  show f (acc ++ a :: l) = _
  rw [List.append_assoc]
  rfl
theorem okReadHead (T : Txt K mg) : FnOk P w K mg base (L2N.CX P w) 5 T.fReadHead T.fdReadHead ["reader"] (spRd T.cReader T.cInvalidBytes rHead VHead) := by
  refine okN T.FReadHead scReadHead (fun vs H Q E h => ?_) (fun cdv A outer s H vs Q E hr h => ?_)
  · obtain ⟨x, pos, room, rfl, _⟩ := h
    rfl
  · obtain ⟨x, pos, room, rfl, r, q⟩ := h
    -- slots reader=0 person=1 number=2 _=3
    refine ⟨_, (pss_cons (ps_set (i := 1) scReadHead.nd rfl (Or.inl rfl) (pe_methE (pv 0) T.clReader T.meReader_Number (okReader_Number T) (hr.mono (by decide)) T.bReader_Number (fun σ => L2N.passAt (L2N.takes_of rfl rfl rfl rfl) σ) (pa_cons pe_int (pa_cons pe_int pa_nil))))
        (pss_cons (ps_set (i := 2) scReadHead.nd rfl (Or.inl rfl) (pe_methE (pv 0) T.clReader T.meReader_Number (okReader_Number T) (hr.mono (by decide)) T.bReader_Number (fun σ => L2N.passAt (L2N.takes_of rfl rfl rfl rfl) σ) (pa_cons pe_int (pa_cons (pe_glob (v := (.int 100000)) rfl T.g_MOST ⟨_, rfl⟩) pa_nil))))
        (pss_one (ps_ret (pe_tup (pa_cons (pe_tup (pa_cons (pv 1) (pa_cons (pv 2) pa_nil))) (pa_cons (pe_callTy call_tuple_of (by rfl) T.z_tuple (by decide +kernel) (pa_cons (pe_lcE (own := [("_", 3)]) (g := gName 3) (tt := tYes) (L2N.takes_of rfl rfl rfl rfl) rfl rfl rfl scReadHead.nd (pi_range1 rfl T.z_range (pa_cons pe_int pa_nil)) (blkOk_by (own := [("_", 3)]) (N := ["reader", "person", "number", "_"]) (sc := defScope sReadHead) (by decide +kernel)) (fun _ _ _ _ _ _ => (pg_name (i := 3) scReadHead.nd rfl (Or.inl rfl))) (fun _ _ _ _ _ _ => pts_nil) (fun _ _ _ _ _ _ px => (pe_methE (pv 0) T.clReader T.meReader_Number (okReader_Number T) (hr.mono (by decide)) T.bReader_Number px (pa_cons pe_int (pa_cons (pe_glob (v := (.int 100000)) rfl T.g_MOST ⟨_, rfl⟩) pa_nil))))) pa_nil)) pa_nil))))))), ?_⟩
    obtain ⟨dx, fs, o1, o2, o3, o4⟩ := r.obj
    refine ⟨_, rfl, x.R, dx, _, rfl, o1, o2, x, 1, 4, pos, room, rfl, r, out_seq q fun p p1 t1 v H1 e k1 r1 hv q1 => ?_⟩
    obtain rfl : v = .int p := hv
    obtain ⟨b0, b1, _⟩ := num_in e
    obtain ⟨dx, fs, o1, o2, o3, o4⟩ := r1.obj
    refine ⟨_, rfl, x.R, dx, _, rfl, o1, o2, x, 1, 100000, p1, t1, rfl, r1, out_seq q1 fun n p2 t2 v H2 e2 k2 r2 hv q2 => ?_⟩
    obtain rfl : v = .int n := hv
    refine ⟨_, rfl, _, rfl, (by show 2 ≤ sizeLine; decide), fun a ha => ?_⟩
    have s3 := same_new (o := .tup [.int p, .int n]) ha
    have ha3 : (upd H2 a (.tup [.int p, .int n])) a = some (.tup [.int p, .int n]) := upd_same
    have r3 := r2.same s3
    have q3 := q2.mv (KR.of s3)
    generalize upd H2 a (.tup [.int p, .int n]) = H3 at s3 ha3 r3 q3
    refine ⟨_, rfl, by decide, by decide, fun N hN => ?_⟩
    have nR := r3.nn hN
    refine lc_it (walk_range (lo := 0) (n := 4)) (fun j H' => KR x.R H3 H' ∧ (∃ acc : List Int, H' N = some (.lst (acc.map V.int)) ∧ acc.length = j ∧ ∃ pos room, RD T.cReader H' x pos room ∧ Out T.cReader T.cInvalidBytes x H3 VHead Q E (((rRepL (4 - j) (rNum 0 100000)).bind fun l => Rp.ret (⟨(p - 1).toNat, n, acc ++ l⟩ : Ed)).run x.bs pos room)) ) ⟨KR.of (same_new hN), [], upd_same, rfl, p2, t2, r3.same (same_new hN), q3⟩ (fun _ _ _ _ => True.intro) ?_ ?_
    · rintro j y H9 H4 hj ⟨k4, acc, hN4, al, pos4, room4, r4, q4⟩ ⟨rfl, rfl⟩
      obtain ⟨dx, fs, o1, o2, o3, o4⟩ := r4.obj
      rw [show 4 - j = (4 - (j + 1)) + 1 by omega, repL_bind (f := fun l => Rp.ret (⟨(p - 1).toNat, n, l⟩ : Ed))] at q4
      refine ⟨rfl, yesT ⟨_, rfl, x.R, dx, _, rfl, o1, o2, x, 0, 100000, pos4, room4, rfl, r4, out_seq0 q4 k4 fun z p5 t5 v H5 e5 k5 r5 hv q5 => ?_⟩⟩
      obtain rfl : v = .int z := hv
      have hN5 := k5.at_ nR.1 hN4
      refine ⟨_, hN5, small1000 (by rw [List.length_map]; omega), same_mut (k4.trans k5) (rm_none hN), acc ++ [z], ?_, by rw [List.length_append, al]; rfl, p5, t5, r3.mut hN r5, q5⟩
      rw [upd_same, List.map_append]
      rfl
    rintro H4 ⟨k4, acc, hN4, al, pos4, room4, r4, q4⟩
    refine ⟨N, _, rfl, .inl ⟨SqL.of hN4, fun b hb => ⟨(by show 2 ≤ sizeLine; decide), fun q0 hq => ?_⟩⟩⟩
    have s5 := same_new (o := .tup (acc.map V.int)) hb
    have s6 := same_new (o := .tup [.ref a, .ref b]) hq
    have na : a ≠ x.R := fun z => by
      rw [z, r3.o] at ha3
      cases ha3
    have ha4 := k4.at_ na ha3
    have q4 : Out T.cReader T.cInvalidBytes x H3 VHead Q E (Ans.ok (⟨(p - 1).toNat, n, acc ++ []⟩ : Ed) pos4 room4) := q4
    rw [List.append_nil] at q4
    refine q4 _ _ (k4.trans (KR.of (s5.trans s6))) (r4.same (s5.trans s6)) ⟨q0, a, b, rfl, upd_same, ?_, s6 _ _ upd_same⟩
    have ep : 1 + (((p - 1).toNat : Nat) : Int) = p := by omega
    show _ = some (HO.tup [V.int (1 + (((p - 1).toNat : Nat) : Int)), V.int n])
    rw [ep]
    exact (s5.trans s6) _ _ ha4
end
end My
namespace My
open PySem PySem.Spec PyProof.Rows L2 RZ
section
variable {P : Program} {w : World} {K : PySem.W.Frag} {mg : Str → Option Value} {base : Heap}
open L2H
open SX (S S_len S_cat slice_to slice_from num_S int_S)
open PySem.NumText (digitsVal AllDigits)
open TL (numL)
def idK (z : Int × Int) : List Key := [.inl z.1, .inl z.2]
theorem idK_inj {z w : Int × Int} (h : idK z = idK w) : z = w := by
  have z1 := (List.cons.inj h).1
  have z2 := (List.cons.inj (List.cons.inj h).2).1
  exact Prod.ext (Sum.inl.inj z1) (Sum.inl.inj z2)
theorem valV_no {kvs : List (List Key × V)} {k : List Key} (h : ∀ kv ∈ kvs, kv.1 ≠ k) : valV kvs k = none := by
  unfold valV
  rw [List.find?_eq_none.mpr fun kv hkv => by simpa using h kv hkv]
  rfl
theorem valV_has {kvs : List (List Key × V)} {k : List Key} {kv : List Key × V} (h : kv ∈ kvs) (e : kv.1 = k) : ∃ v, valV kvs k = some v := by
  unfold valV
  cases q : kvs.find? (fun kv => decide (kv.1 = k)) with
  | none =>
    have := List.find?_eq_none.mp q kv h
    exact absurd (decide_eq_true e) (by simpa using this)
  | some y => exact ⟨y.2, rfl⟩
theorem mem_putK {kvs : List (List Key × V)} {k : List Key} {v : V} (h : ∀ kv ∈ kvs, kv.1 ≠ k) : putK kvs k v = kvs ++ [(k, v)] := by
  unfold putK
  rw [if_neg]
  rw [List.any_eq_true]
  rintro ⟨kv, hkv, e⟩
  exact h kv hkv (of_decide_eq_true e)
theorem EdG.same {H H' : Hp} {q : Addr} {e : Ed} (h : EdG H q e) (s : Same H H') : EdG H' q e := by
  obtain ⟨a, b, r, h1, h2, h3⟩ := h
  exact ⟨a, b, r, s _ _ h1, s _ _ h2, s _ _ h3⟩
/-- tuples stay, whatever else is changed -/
theorem EdG.mut {H : Hp} {L q : Addr} {e : Ed} {o o' : HO} (hL : H L = some o') (no : ∀ us, o' ≠ .tup us) (h : EdG H q e) : EdG (upd H L o) q e := by
  have n : ∀ {p us}, H p = some (.tup us) → p ≠ L := fun h z => by
    rw [z, hL] at h
    exact no _ (Option.some.inj h)
  obtain ⟨a, b, r, h1, h2, h3⟩ := h
  exact ⟨a, b, r, by rw [upd_ne (n h1)]; exact h1, by rw [upd_ne (n h2)]; exact h2, by rw [upd_ne (n h3)]; exact h3⟩
theorem EdG.kr {C : Addr} {H H' : Hp} {x : Rdr} {pos : Nat} {room : Int} (r : RD C H x pos room) (k : KR x.R H H') {q : Addr} {e : Ed} (h : EdG H q e) : EdG H' q e := by
  have n : ∀ {p us}, H p = some (.tup us) → p ≠ x.R := fun h z => by
    rw [z, r.o] at h
    cases h
  obtain ⟨a, b, rest, h1, h2, h3⟩ := h
  exact ⟨a, b, rest, k.at_ (n h1) h1, k.at_ (n h2) h2, k.at_ (n h3) h3⟩
section
variable (T : Txt K mg)
theorem act_rd {σ : L2.St} {H : Hp} {Q Q' : VK} {E : XK} {x : Rdr} {k : Int} {pos : Nat} {room : Int} {β : Type} {f : Unit → Rp β} {Val : β → V → Hp → Prop} {H0 : Hp} (h0 : σ[0]? = some (some (.ref x.R))) (k4 : 0 ≤ k ∧ k ≤ 4) (u : V) (hu : atI [V.ref T.fReadInsert, V.ref T.fReadDelete, V.ref T.fReadWrite, V.ref T.fReadName, V.ref T.fReadUndo] k = some u) (h9 : σ[9]? = some (some u))
    (r : RD T.cReader H x pos room) (k0 : KR x.R H0 H) (q : Out T.cReader T.cInvalidBytes x H0 Val Q E (((rAct k).bind f).run x.bs pos room))
    (c : ∀ v H2 pos' room', KR x.R H H2 → RD T.cReader H2 x pos' room' → Out T.cReader T.cInvalidBytes x H0 Val Q E ((f ()).run x.bs pos' room') → Q' v H2) :
    tCallL 9 T.fReadInsert (spRd T.cReader T.cInvalidBytes rIns VAny) [] E (tCons (tVar 0) tNil) σ H Q' ∨ tCallL 9 T.fReadDelete (spRd T.cReader T.cInvalidBytes rDel VAny) [] E (tCons (tVar 0) tNil) σ H Q' ∨ tCallL 9 T.fReadWrite (spRd T.cReader T.cInvalidBytes rWrite VAny) [] E (tCons (tVar 0) tNil) σ H Q' ∨ tCallL 9 T.fReadName (spRd T.cReader T.cInvalidBytes rName VAny) [] E (tCons (tVar 0) tNil) σ H Q' ∨ tCallL 9 T.fReadUndo (spRd T.cReader T.cInvalidBytes rUndo VAny) [] E (tCons (tVar 0) tNil) σ H Q' := by
  have go : ∀ {m : Rp Unit} {g : Addr}, u = .ref g → rAct k = m → tCallL 9 g (spRd T.cReader T.cInvalidBytes m VAny) [] E (tCons (tVar 0) tNil) σ H Q' := fun {m g} e1 e2 => by
    subst e1 e2
    exact ⟨h9, _, h0, x, pos, room, rfl, r, out_seq0 q k0 fun a p1 t1 v H2 e k1 r1 hv q1 => c v H2 p1 t1 k1 r1 q1⟩
  have split : k = 0 ∨ k = 1 ∨ k = 2 ∨ k = 3 ∨ k = 4 := by omega
  rcases split with rfl | rfl | rfl | rfl | rfl
  · exact .inl (go (Option.some.inj hu).symm rfl)
  · exact .inr (.inl (go (Option.some.inj hu).symm rfl))
  · exact .inr (.inr (.inl (go (Option.some.inj hu).symm rfl)))
  · exact .inr (.inr (.inr (.inl (go (Option.some.inj hu).symm rfl))))
  · exact .inr (.inr (.inr (.inr (go (Option.some.inj hu).symm rfl))))
end
end
end My
namespace My
open PySem PySem.Spec PyProof.Rows L2 RZ
section
variable {P : Program} {w : World} {K : PySem.W.Frag} {mg : Str → Option Value} {base : Heap}
open L2H
open SX (S S_len S_cat slice_to slice_from num_S int_S)
open PySem.NumText (digitsVal AllDigits)
open TL (numL)
theorem pe_or2 {X : Cx} {e : Expr} {t1 t2 : TE} (h1 : PE X e t1) (h2 : PE X e t2) : PE X e (fun σ H Q => t1 σ H Q ∨ t2 σ H Q) :=
  ⟨fun pins s σ H Q I h => h.elim (h1.run pins s σ H Q I) (h2.run pins s σ H Q I)⟩
structure Told (H : Hp) (L M : Addr) (told : List Ed) (rs : List V) (kvs : List (List Key × V)) : Prop where
  hL : H L = some (.lst rs)
  hM : H M = some (.dT kvs)
  rl : rs.length = told.length
  kl : kvs.length ≤ told.length
  last : ∀ l r, told = l :: r → ∃ r0 ql, rs = r0 ++ [V.ref ql] ∧ EdG H ql l
  k1 : ∀ kv ∈ kvs, ∃ e ∈ told, kv.1 = idK e.id
  k2 : ∀ e ∈ told, ∃ kv ∈ kvs, kv.1 = idK e.id
def spREdits (C CE : Addr) : Sp := fun vs H Q E => ∃ (x : Rdr) (n : Int) (pos : Nat) (room : Int), vs = [.ref x.R, .int n] ∧ (0 ≤ n ∧ n ≤ 100000) ∧ RD C H x pos room ∧ Out C CE x H VAny Q E ((rEdits n.toNat []).run x.bs pos room)
theorem okReadEdits (T : Txt K mg) : FnOk P w K mg base (L2N.CX P w) 134 T.fReadEdits T.fdReadEdits ["reader", "many"] (spREdits T.cReader T.cInvalidBytes) := by
  refine okN T.FReadEdits scReadEdits (fun vs H Q E h => ?_) (fun cdv A outer s H vs Q E hr h => ?_)
  · obtain ⟨x, n, pos, room, rfl, _⟩ := h
    rfl
  · obtain ⟨x, n, pos, room, rfl, hn, r, q⟩ := h
    -- slots reader=0 many=1 edits=2 told=3 _=4 start=5 head=6 edit_id=7 seen=8 read_action=9
    refine ⟨_, (pss_cons (ps_set (i := 2) scReadEdits.nd rfl (Or.inl rfl) (pe_lst pa_nil))
        (pss_cons (ps_set (i := 3) scReadEdits.nd rfl (Or.inl rfl) pe_dnewT)
        (pss_cons (ps_for (passes_of rfl) rfl (pi_range1 rfl T.z_range (pa_cons (pv 1) pa_nil)) (pg_name (i := 4) scReadEdits.nd rfl (Or.inl rfl))
          (pss_cons (ps_set (i := 5) scReadEdits.nd rfl (Or.inl rfl) (pe_fld (pv 0) rfl))
          (pss_cons (ps_set (i := 6) scReadEdits.nd rfl (Or.inl rfl) (pe_callS (okReadHead T) (hr.mono (by decide)) (by rfl) T.gReadHead T.FReadHead.kp T.bReadHead (fun σ => L2N.passAt (L2N.takes_of rfl rfl rfl rfl) σ) (pa_cons (pv 0) pa_nil)))
          (pss_cons (ps_asg (pv 6) (pg_tup rfl (pgs_cons (pg_name (i := 7) scReadEdits.nd rfl (Or.inl rfl)) (pgs_cons (pg_name (i := 8) scReadEdits.nd rfl (Or.inl rfl)) pgs_nil))))
          (C8.pss_cut (ps_if (PW.pt (pw_or (pt_cmp (pc_din (units2 hr) (pv 7) (pv 3))) (pw_or1 (PW.pt (pw_and (pt_cmpR (op_neL hr.units) (pv 2) (pe_lst pa_nil) (nomark _)) (pw_and1 (pt_cmpR (op_ltD (units65 hr)) (pe_call (okPlace T) (hr.mono (by decide)) (by rfl) T.gPlace T.FPlace.kp T.bPlace .nil pass0 (pa_cons (pv 6) pa_nil)) (pe_call (okPlace T) (hr.mono (by decide)) (by rfl) T.gPlace T.FPlace.kp T.bPlace .nil pass0 (pa_cons (pe_ix ix_list (pv 2) (pe_un un_neg pe_int) (fun _ _ => rfl)) pa_nil)) (nomark _))))))))
            (pss_one (L2N.ps_raise rfl (L2N.takes_of rfl rfl rfl rfl) (mkN T.oKInvalidBytes T.iKInvalidBytes T.tKInvalidBytes (okInvalidBytes_Init T) (hr.mono (by decide)) T.bInvalidBytes_Init pass0 (by rfl) T.gKInvalidBytes (pa_cons (pv 5) pa_nil))))
            pss_nil)
          (pss_cons (ps_dput (units2 hr) (pv 3) (pv 7) pe_bl rfl)
          (pss_cons (ps_set (i := 9) scReadEdits.nd rfl (Or.inl rfl) (pe_ix ix_tup (pe_glob (v := (.ref T.p_READERS)) rfl T.g_READERS rfl) (pe_methE (pv 0) T.clReader T.meReader_Number (okReader_Number T) (hr.mono (by decide)) T.bReader_Number (fun σ => L2N.passAt (L2N.takes_of rfl rfl rfl rfl) σ) (pa_cons pe_int (pa_cons (pe_op op_sub (pe_callB call_len_seq (by rfl) T.z_len PySem.boot_len (pa_cons (pe_glob (v := (.ref T.p_READERS)) rfl T.g_READERS rfl) pa_nil)) pe_int) pa_nil))) (fun _ _ => rfl)))
          (pss_one (ps_expr (pe_bm PySem.F.plainAttrs_list PySem.F.slot_list_append PySem.F.type_list_append mt_append (pv 2) (pa_cons (pe_tup (pa_cons (pv 7) (pa_cons (pv 8) (pa_cons (pe_or2 (pe_callL (i := 9) (okReadInsert T) (hr.mono (by decide)) rfl (Or.inl rfl) T.FReadInsert.kp T.bReadInsert .nil (L2N.passes_call (L2N.takes_of rfl rfl rfl rfl) (fun _ _ _ _ h => h)) (pa_cons (pv 0) pa_nil)) (pe_or2 (pe_callL (i := 9) (okReadDelete T) (hr.mono (by decide)) rfl (Or.inl rfl) T.FReadDelete.kp T.bReadDelete .nil (L2N.passes_call (L2N.takes_of rfl rfl rfl rfl) (fun _ _ _ _ h => h)) (pa_cons (pv 0) pa_nil)) (pe_or2 (pe_callL (i := 9) (okReadWrite T) (hr.mono (by decide)) rfl (Or.inl rfl) T.FReadWrite.kp T.bReadWrite .nil (L2N.passes_call (L2N.takes_of rfl rfl rfl rfl) (fun _ _ _ _ h => h)) (pa_cons (pv 0) pa_nil)) (pe_or2 (pe_callL (i := 9) (okReadName T) (hr.mono (by decide)) rfl (Or.inl rfl) T.FReadName.kp T.bReadName .nil (L2N.passes_call (L2N.takes_of rfl rfl rfl rfl) (fun _ _ _ _ h => h)) (pa_cons (pv 0) pa_nil)) (pe_callL (i := 9) (okReadUndo T) (hr.mono (by decide)) rfl (Or.inl rfl) T.FReadUndo.kp T.bReadUndo .nil (L2N.passes_call (L2N.takes_of rfl rfl rfl rfl) (fun _ _ _ _ h => h)) (pa_cons (pv 0) pa_nil)))))) pa_nil)))) pa_nil)))))))))))
        (pss_one (ps_ret (pv 2)))))), ?_⟩
    refine ⟨Nat.zero_le _, fun L hL0 => ?_⟩
    have s0 := same_new (o := .lst []) hL0
    have hL1 : (upd H L (.lst [])) L = some (.lst []) := upd_same
    have r1 := r.same s0
    generalize upd H L (.lst []) = H1 at s0 hL1 r1
    refine fun M hM0 => ?_
    have s2 := same_new (o := .dT []) hM0
    have hM2 : (upd H1 M (.dT [])) M = some (.dT []) := upd_same
    have hL2 := s2 _ _ hL1
    have r2 := r1.same s2
    have hMH : H M = none := s0.free hM0
    have nLM : L ≠ M := fun z => by
      rw [z, hM0] at hL1
      cases hL1
    have k2 : KR x.R H (upd H1 M (.dT [])) := KR.of (s0.trans s2)
    generalize upd H1 M (.dT []) = H2 at s2 hM2 hL2 r2 k2
    have nL : L ≠ x.R := (r.nn hL0).1
    have nM : M ≠ x.R := (r.nn hMH).1
    refine ⟨_, rfl, n, rfl, by omega, by omega, for_range (lo := 0) (n := n.toNat) (fun j σ H' => ∃ (told : List Ed) (rs : List V) (kvs : List (List Key × V)) (c4 c5 c6 c7 c8 c9 : Option V), σ = [some (.ref x.R), some (.int n), some (.ref L), some (.ref M), c4, c5, c6, c7, c8, c9] ∧ KR x.R H H' ∧ told.length = j ∧ Told H' L M told rs kvs ∧ ∃ pos room, RD T.cReader H' x pos room ∧ Out T.cReader T.cInvalidBytes x H VAny Q E ((rEdits (n.toNat - j) told).run x.bs pos room)) ⟨[], [], [], _, _, _, _, _, _, rfl, k2, rfl, ⟨hL2, hM2, rfl, Nat.le_refl _, (fun l r z => nomatch z), (fun kv z => nomatch z), fun e z => nomatch z⟩, pos, room, r2, q⟩ ?_ ?_⟩
    · rintro j σ H3 hj ⟨told, rs, kvs, c4, c5, c6, c7, c8, c9, rfl, k3, tl, TL, pos3, room3, r3, q3⟩
      rw [show n.toNat - j = (n.toNat - (j + 1)) + 1 by omega] at q3
      have q3 : Out T.cReader T.cInvalidBytes x H VAny Q E ((rHead.bind fun h => if wrongE h told = true then Rp.bad pos3 else (rNum 0 4).bind fun k => (rAct k).bind fun _ => rEdits (n.toNat - (j + 1)) (h :: told)).run x.bs pos3 room3) := q3
      refine ⟨_, rfl, x.R, T.cReader, x.d, _, _, rfl, r3.o, T.clReader, T.naReader_at, rfl, ?_⟩
      refine ⟨_, rfl, x, pos3, room3, rfl, r3, out_seq0 q3 k3 fun h pos4 room4 v H4 e4 k4 r4 hv q4 => ?_⟩
      obtain ⟨q0, a, b, rfl, hq4, ha4, hb4⟩ := hv
      refine ⟨_, rfl, q0, _, rfl, SqT.of hq4, rfl, _, _, rfl, _, _, rfl, rfl, ?_⟩
      have k34 := k3.trans k4
      have TL4 : Told H4 L M told rs kvs := ⟨k4.at_ nL TL.hL, k4.at_ nM TL.hM, TL.rl, TL.kl, fun l r z => by
        obtain ⟨r0, ql, h1, h2⟩ := TL.last l r z
        exact ⟨r0, ql, h1, h2.kr r3 k4⟩, TL.k1, TL.k2⟩
      have raise : wrongE h told = true → ∀ H', KR x.R H H' → ∀ d, H' d = none → E (.ref T.cInvalidBytes) (some d) (upd H' d (.xd [("at", .int pos3)])) := fun z H' kk d hd => by
        rw [if_pos z] at q4
        exact q4 H' d kk hd
      refine ⟨fun σ H' => Same H4 H' ∧ wrongE h told = false ∧ ∃ c5, σ = [some (.ref x.R), some (.int n), some (.ref L), some (.ref M), some (.int (0 + (j : Int))), c5, some (.ref q0), some (.ref a), some (.ref b), c9], ?_, ?_⟩
      · by_cases hin : ∃ e ∈ told, e.id = h.id
        · obtain ⟨e, he, ei⟩ := hin
          obtain ⟨kv, hkv, ek⟩ := TL.k2 e he
          obtain ⟨y, hy⟩ := valV_has hkv (ek.trans (congrArg idK ei))
          have dg : DGet H4 M (.ref a) (some y) := by
            rw [← hy]
            exact DGet.t TL4.hM ha4
          have w : wrongE h told = true := by
            unfold wrongE
            rw [List.any_eq_true.mpr ⟨e, he, decide_eq_true ei⟩]
            rfl
          exact ⟨_, rfl, _, rfl, M, some y, rfl, dg, _, rfl, ite2 (fun _ => ⟨_, rfl, (by show 1 ≤ 1000; decide), ini_of fun d hd => raise w H4 k34 d hd⟩) (fun c => absurd rfl c)⟩
        have nin : ∀ kv ∈ kvs, kv.1 ≠ idK h.id := fun kv hkv z => by
          obtain ⟨e, he, ek⟩ := TL.k1 kv hkv
          exact hin ⟨e, he, idK_inj (ek.symm.trans z)⟩
        have any0 : told.any (fun x => decide (x.id = h.id)) = false := by
          rw [List.any_eq_false]
          intro e he z
          exact hin ⟨e, he, of_decide_eq_true z⟩
        have dg : DGet H4 M (.ref a) none := by
          rw [← valV_no (k := idK h.id) nin]
          exact DGet.t TL4.hM ha4
        refine ⟨_, rfl, _, rfl, M, none, rfl, dg, _, rfl, ite2 (fun c => (by cases c)) (fun _ => ?_)⟩
        refine ⟨_, rfl, Nat.zero_le _, fun l0 hl0 => ?_⟩
        have s5 := same_new (o := .lst []) hl0
        refine ⟨L, l0, rs, rfl, rfl, s5 _ _ TL4.hL, upd_same, _, rfl, ite2 (fun c => ?_) (fun c => ?_)⟩
        · cases ht : told with
          | nil =>
            have := TL.rl
            rw [ht] at this
            rw [List.length_eq_zero_iff.mp this] at c
            cases c
          | cons l rest =>
            obtain ⟨r0, ql, ers, g⟩ := TL4.last l rest ht
            refine ⟨_, rfl, q0, h, rfl, ⟨a, b, [], s5 _ _ hq4, s5 _ _ ha4, s5 _ _ hb4⟩, fun p1 H6 s6 d1 => ?_⟩
            refine ⟨_, rfl, 1, rfl, L, rs, -1, .ref ql, rfl, rfl, SqL.of (s6 _ _ (s5 _ _ TL4.hL)), by rw [ers]; exact atI_last _ _, ql, l, rfl, (g.same s5).same s6, fun p2 H7 s7 d2 => ?_⟩
            have wl : wrongE h told = decide (ltE h l) := by
              unfold wrongE
              rw [any0, ht]
              rfl
            refine ⟨keyE h, keyE l, dp_same s7 d1, d2, keyE_alike _ _, (by intro z; unfold keyE at z; cases z), keyE_depth _, _, rfl, ite2 (fun c2 => ?_) (fun c2 => ?_)⟩
            · have c2 : PySem.W.dataLt (keyE h) (keyE l) = true := c2
              rw [lt_keyE] at c2
              exact ⟨_, rfl, (by show 1 ≤ 1000; decide), ini_of fun d hd => raise (by rw [wl]; exact c2) H7 (((k34.trans (KR.of s5)).trans (KR.of s6)).trans (KR.of s7)) d hd⟩
            · have c2 : ¬ PySem.W.dataLt (keyE h) (keyE l) = true := c2
              rw [lt_keyE] at c2
              rw [← ht]
              exact ⟨(s5.trans s6).trans s7, by rw [wl]; simpa using c2, _, rfl⟩
        · have rs0 : rs = [] := by
            cases rs with
            | nil => rfl
            | cons y ys => exact absurd rfl c
          have t0 : told = [] := List.length_eq_zero_iff.mp (by rw [← TL.rl, rs0]; rfl)
          refine ⟨s5, ?_, _, rfl⟩
          unfold wrongE
          rw [any0, t0]
          rfl
      rintro σ H5 ⟨s5, wf, c5, rfl⟩
      rw [wf] at q4
      have q4 : Out T.cReader T.cInvalidBytes x H VAny Q E (((rNum 0 4).bind fun k => (rAct k).bind fun _ => rEdits (n.toNat - (j + 1)) (h :: told)).run x.bs pos4 room4) := q4
      have hM5 := s5 _ _ TL4.hM
      have ha5 := s5 _ _ ha4
      have hb5 := s5 _ _ hb4
      have hL5 := s5 _ _ TL4.hL
      have r5 := r4.same s5
      have nin : ∀ kv ∈ kvs, kv.1 ≠ idK h.id := fun kv hkv z => by
        obtain ⟨e, he, ek⟩ := TL.k1 kv hkv
        have : wrongE h told = true := by
          unfold wrongE
          rw [List.any_eq_true.mpr ⟨e, he, decide_eq_true (idK_inj (ek.symm.trans z))⟩]
          rfl
        rw [wf] at this
        cases this
      have kl := TL.kl
      have rl := TL.rl
      have big : (100000 : Nat) < sizeLine := by rw [sizeLine_eq]; omega
      refine ⟨_, rfl, _, rfl, M, _, rfl, DPut.t (k := idK h.id) hM5 ha5 (by omega), ?_⟩
      rw [mem_putK nin]
      have k5 : KR x.R H (upd H5 M (.dT (kvs ++ [(idK h.id, .bl true)]))) := same_mut (k34.trans (KR.of s5)) (rm_none hMH)
      have r6 := RD.mut (o := .dT (kvs ++ [(idK h.id, .bl true)])) r hMH r5
      have hM6 := upd_same (H := H5) (a := M) (o := .dT (kvs ++ [(idK h.id, .bl true)]))
      have hL6 : (upd H5 M (.dT (kvs ++ [(idK h.id, .bl true)]))) L = some (.lst rs) := by rw [upd_ne nLM]; exact hL5
      have na : a ≠ M := fun z => by
        rw [z, hM5] at ha5
        cases ha5
      have nb : b ≠ M := fun z => by
        rw [z, hM5] at hb5
        cases hb5
      have ha6 : (upd H5 M (.dT (kvs ++ [(idK h.id, .bl true)]))) a = some (.tup [.int (1 + (h.p : Int)), .int h.n]) := by rw [upd_ne na]; exact ha5
      have hb6 : (upd H5 M (.dT (kvs ++ [(idK h.id, .bl true)]))) b = some (.tup (h.v.map V.int)) := by rw [upd_ne nb]; exact hb5
      have eaR : a ≠ x.R := fun z => by
        rw [z, r4.o] at ha4
        cases ha4
      have ebR : b ≠ x.R := fun z => by
        rw [z, r4.o] at hb4
        cases hb4
      generalize upd H5 M (.dT (kvs ++ [(idK h.id, .bl true)])) = H6 at k5 r6 hM6 hL6 ha6 hb6 ⊢
      obtain ⟨dx, fs, o1, o2, o3, o4⟩ := r6.obj
      refine ⟨_, rfl, x.R, dx, _, rfl, o1, o2, T.p_READERS, _, rfl, .inr (T.k_READERS _), _, _, rfl, rfl, x, 0, 4, pos4, room4, rfl, r6, out_seq0 q4 k5 fun k pos7 room7 v H7 e7 k7 r7 hv q7 => ?_⟩
      obtain rfl : v = .int k := hv
      obtain ⟨kb0, kb1, _⟩ := num_in e7
      obtain ⟨u, hu⟩ : ∃ u, atI [V.ref T.fReadInsert, V.ref T.fReadDelete, V.ref T.fReadWrite, V.ref T.fReadName, V.ref T.fReadUndo] k = some u := by
        have split : k = 0 ∨ k = 1 ∨ k = 2 ∨ k = 3 ∨ k = 4 := by omega
        rcases split with rfl | rfl | rfl | rfl | rfl <;> exact ⟨_, rfl⟩
      refine ⟨T.p_READERS, _, _, u, rfl, rfl, T.k_READERS _, hu, ?_⟩
      have hL7 := k7.at_ nL hL6
      refine ⟨_, rfl, .inl ⟨rfl, _, SqL.of hL7⟩, _, rfl, _, rfl, act_rd T rfl ⟨kb0, kb1⟩ u hu rfl r7 (k5.trans k7) q7 fun v H8 pos8 room8 k8 r8 q8 => ⟨(by show 3 ≤ sizeLine; decide), fun q1 hq1 => ?_⟩⟩
      have s9 := same_new (o := .tup [.ref a, .ref b, v]) hq1
      have k79 := (k7.trans k8).trans (KR.of s9)
      have hL9 := k79.at_ nL hL6
      have hM9 := k79.at_ nM hM6
      have ha9 := k79.at_ eaR ha6
      have hb9 := k79.at_ ebR hb6
      have E9 : EdG (upd H8 q1 (.tup [.ref a, .ref b, v])) q1 h := ⟨a, b, [v], upd_same, ha9, hb9⟩
      refine ⟨L, _, _, rfl, rfl, hL9, by omega, h :: told, rs ++ [.ref q1], kvs ++ [(idK h.id, .bl true)], _, _, _, _, _, _, rfl, same_mut (k5.trans k79) (rm_none hL0), by rw [List.length_cons, tl], ⟨upd_same, by rw [upd_ne nLM.symm]; exact hM9, by rw [List.length_append, List.length_cons, rl]; rfl, by rw [List.length_append, List.length_cons]; exact Nat.succ_le_succ kl, fun l rest z => ?_, fun kv hkv => ?_, fun e he => ?_⟩, pos8, room8, r.mut hL0 (r8.same s9), q8⟩
      · obtain ⟨rfl, rfl⟩ := List.cons.inj z
        exact ⟨rs, q1, rfl, E9.mut hL9 (fun us z => nomatch z)⟩
      · rcases List.mem_append.mp hkv with z | z
        · obtain ⟨e, he, ek⟩ := TL.k1 kv z
          exact ⟨e, List.mem_cons_of_mem _ he, ek⟩
        · rw [List.mem_singleton.mp z]
          exact ⟨h, List.mem_cons_self .., rfl⟩
      · rcases List.mem_cons.mp he with rfl | z
        · exact ⟨_, List.mem_append_right _ (List.mem_singleton.mpr rfl), rfl⟩
        · obtain ⟨kv, hkv, ek⟩ := TL.k2 e z
          exact ⟨kv, List.mem_append_left _ hkv, ek⟩
    · rintro σ H3 ⟨told, rs, kvs, c4, c5, c6, c7, c8, c9, rfl, k3, tl, TL, pos3, room3, r3, q3⟩
      rw [Nat.sub_self] at q3
      exact ⟨_, rfl, q3 _ _ k3 r3 True.intro⟩
end
end My
namespace My
open PySem PySem.Spec PyProof.Rows L2 RZ
section
variable {P : Program} {w : World} {K : PySem.W.Frag} {mg : Str → Option Value} {base : Heap}
open L2H
open SX (S S_len S_cat slice_to slice_from num_S int_S)
open PySem.NumText (digitsVal AllDigits)
open TL (numL)
/-- the update's promise: it ends as the mirror does -/
def spRUpd (CE : Addr) : Sp := fun vs H Q E => ∃ (a : Addr) (bs : List Int), vs = [.ref a] ∧ H a = some (.lst (bs.map V.int)) ∧ bs.length ≤ 2000000 ∧ (match (rUpd bs.length).run bs 0 0 with
  | .ok _ _ _ => ∀ v H', Same H H' → Q v H'
  | .err p => ∀ H' d, Same H H' → H' d = none → E (.ref CE) (some d) (upd H' d (.xd [("at", .int p)])))
theorem okReadUpdate (T : Txt K mg) : FnOk P w K mg base (L2N.CX P w) 135 T.fReadUpdate T.fdReadUpdate ["data"] (spRUpd T.cInvalidBytes) := by
  refine okN T.FReadUpdate scReadUpdate (fun vs H Q E h => ?_) (fun cdv A outer s H vs Q E hr h => ?_)
  · obtain ⟨a, bs, rfl, _⟩ := h
    rfl
  · obtain ⟨a, bs, rfl, ha, hl, q⟩ := h
    -- slots data=0 reader=1 rows=2 columns=3 edits=4
    refine ⟨_, (pss_cons (ps_set (i := 1) scReadUpdate.nd rfl (Or.inl rfl) (pe_make T.mkReader (okReader_Init T) (hr.mono (by decide)) (by rfl) T.gKReader T.bReader_Init .nil pass0 (pa_cons (pv 0) pa_nil)))
        (pss_cons (ps_set (i := 2) scReadUpdate.nd rfl (Or.inl rfl) (pe_methE (pv 1) T.clReader T.meReader_Number (okReader_Number T) (hr.mono (by decide)) T.bReader_Number (fun σ => L2N.passAt (L2N.takes_of rfl rfl rfl rfl) σ) (pa_cons pe_int (pa_cons (pe_glob (v := (.int 8)) rfl T.g_MOST_ROWS ⟨_, rfl⟩) pa_nil))))
        (pss_cons (ps_set (i := 3) scReadUpdate.nd rfl (Or.inl rfl) (pe_methE (pv 1) T.clReader T.meReader_Number (okReader_Number T) (hr.mono (by decide)) T.bReader_Number (fun σ => L2N.passAt (L2N.takes_of rfl rfl rfl rfl) σ) (pa_cons pe_int (pa_cons (pe_glob (v := (.int 6)) rfl T.g_MOST_COLUMNS ⟨_, rfl⟩) pa_nil))))
        (pss_cons (ps_set (i := 4) scReadUpdate.nd rfl (Or.inl rfl) (pe_callS (okReadEdits T) (hr.mono (by decide)) (by rfl) T.gReadEdits T.FReadEdits.kp T.bReadEdits (fun σ => L2N.passAt (L2N.takes_of rfl rfl rfl rfl) σ) (pa_cons (pv 1) (pa_cons (pe_methE (pv 1) T.clReader T.meReader_Number (okReader_Number T) (hr.mono (by decide)) T.bReader_Number (fun σ => L2N.passAt (L2N.takes_of rfl rfl rfl rfl) σ) (pa_cons pe_int (pa_cons (pe_glob (v := (.int 100000)) rfl T.g_MOST ⟨_, rfl⟩) pa_nil))) pa_nil))))
        (pss_cons (ps_if (pt_cmpR op_lt (pe_fld (pv 1) rfl) (pe_callB call_len_seq (by rfl) T.z_len PySem.boot_len (pa_cons (pv 0) pa_nil)) (nomark _))
          (pss_one (L2N.ps_raise rfl (L2N.takes_of rfl rfl rfl rfl) (mkN T.oKInvalidBytes T.iKInvalidBytes T.tKInvalidBytes (okInvalidBytes_Init T) (hr.mono (by decide)) T.bInvalidBytes_Init pass0 (by rfl) T.gKInvalidBytes (pa_cons (pe_fld (pv 1) rfl) pa_nil))))
          pss_nil)
        (pss_one (ps_ret (pe_tup (pa_cons (pe_tup (pa_cons (pv 2) (pa_cons (pv 3) pa_nil))) (pa_cons (pv 4) pa_nil)))))))))), ?_⟩
    refine ⟨_, rfl, fun R dx hR hdx ne => ⟨R, dx, a, rfl, upd_same, fun H1 k1 hR1 => ⟨rfl, ?_⟩⟩⟩
    have s1 : Same H H1 := fun b o e => by
      have n1 : b ≠ R := fun z => by
        rw [z, hR] at e
        cases e
      have n2 : b ≠ dx := fun z => by
        rw [z, hdx] at e
        cases e
      exact k1.at_ n1 (by rw [upd_ne n1, upd_ne n2]; exact e)
    have sK : ∀ {H2 : Hp}, KR R H1 H2 → Same H H2 := fun {H2} k b o e => by
      have n1 : b ≠ R := fun z => by
        rw [z, hR] at e
        cases e
      exact k.at_ n1 (s1 _ _ e)
    have r1 : RD T.cReader H1 ⟨R, dx, a, bs⟩ 0 0 := ⟨hR1, s1 _ _ ha, hl, Int.le_refl _⟩
    have q1 : Out T.cReader T.cInvalidBytes ⟨R, dx, a, bs⟩ H1 VAny Q E ((rUpd bs.length).run bs 0 0) := by
      cases e : (rUpd bs.length).run bs 0 0 with
      | ok u p t =>
        rw [e] at q
        exact fun v H2 k2 _ _ => q v H2 (sK k2)
      | err p =>
        rw [e] at q
        exact fun H2 d k2 hd => q H2 d (sK k2) hd
    obtain ⟨dx1, fs, o1, o2, o3, o4⟩ := r1.obj
    refine ⟨_, rfl, R, dx1, _, rfl, o1, o2, ⟨R, dx, a, bs⟩, 0, 8, 0, 0, rfl, r1, out_seq (f := fun _ => (rNum 0 6).bind fun _ => (rNum 0 100000).bind fun n => (rEdits n.toNat []).bind fun _ => .get fun p _ => if p < bs.length then .bad p else .ret ()) q1 fun z1 p1 t1 v H2 e1 k2 r2 hv q2 => ?_⟩
    obtain rfl : v = .int z1 := hv
    obtain ⟨dx1, fs, o1, o2, o3, o4⟩ := r2.obj
    refine ⟨_, rfl, R, dx1, _, rfl, o1, o2, ⟨R, dx, a, bs⟩, 0, 6, p1, t1, rfl, r2, out_seq q2 fun z2 p2 t2 v H3 e2 k3 r3 hv q3 => ?_⟩
    obtain rfl : v = .int z2 := hv
    obtain ⟨dx1, fs, o1, o2, o3, o4⟩ := r3.obj
    refine ⟨_, rfl, _, rfl, R, dx1, _, rfl, o1, o2, ⟨R, dx, a, bs⟩, 0, 100000, p2, t2, rfl, r3, out_seq q3 fun n p3 t3 v H4 e3 k4 r4 hv q4 => ?_⟩
    obtain rfl : v = .int n := hv
    obtain ⟨n0, n1, _⟩ := num_in e3
    refine ⟨⟨R, dx, a, bs⟩, n, p3, t3, rfl, ⟨n0, n1⟩, r4, out_seq q4 fun u p4 t4 v H5 e4 k5 r5 hv q5 => ?_⟩
    have q5 : Out T.cReader T.cInvalidBytes ⟨R, dx, a, bs⟩ H5 VAny Q E ((if p4 < bs.length then Rp.bad p4 else Rp.ret () : Rp Unit).run bs p4 t4) := q5
    refine ⟨_, rfl, R, T.cReader, dx, _, _, rfl, r5.o, T.clReader, T.naReader_at, rfl, _, rfl, a, bs.map V.int, rfl, .inl (SqL.of r5.b), _, _, rfl, rfl, _, rfl, ite2 (fun e => ?_) (fun e => ?_)⟩
    · have e := of_decide_eq_true e
      rw [List.length_map] at e
      rw [if_pos (by omega)] at q5
      exact ⟨_, rfl, R, T.cReader, dx, _, _, rfl, r5.o, T.clReader, T.naReader_at, rfl, (by show 1 ≤ 1000; decide), ini_of fun d hd => q5 _ d (KR.of (Same.refl _)) hd⟩
    · have e : ¬ p4 < bs.length := fun z => e (decide_eq_true (by rw [List.length_map]; omega))
      rw [if_neg e] at q5
      refine ⟨_, rfl, _, rfl, (by show 2 ≤ sizeLine; decide), fun p hp => ⟨_, rfl, (by show 2 ≤ sizeLine; decide), fun q0 hq => ?_⟩⟩
      have s6 := (same_new (o := .tup [.int z1, .int z2]) hp).trans (same_new (o := .tup [.ref p, v]) hq)
      exact q5 _ _ (KR.of s6) (r5.same s6) True.intro
end
end My
namespace My
open PySem PySem.Spec PyProof.Rows L2 RZ
section
variable {P : Program} {w : World} {K : PySem.W.Frag} {mg : Str → Option Value} {base : Heap}
open L2H
open SX (S S_len S_cat slice_to slice_from num_S int_S)
open PySem.NumText (digitsVal AllDigits)
open TL (numL)
/-! ### what an update tells, as numbers -/
open SX (S S_len S_cat slice_to slice_from)
abbrev Ln : Type := Int × Int
inductive KA where
  | gone
  | name (w : List Nat)
  | block (a b c d : Ln)
inductive KT where
  | gone
  | num (x y : Int)
  | cell (r c : Ln)
  | neg (t : KT)
  | op (i : Nat) (l r : KT)
  | call (i : Nat) (as : List KA)
inductive CT where
  | blank
  | text (w : List Nat)
  | number (x y : Int)
  | formula (t : KT)
inductive Ac where
  | insert (i : Nat) (l r : Option Ln)
  | delete (i : Nat) (z : Ln)
  | write (cs : List (Ln × Ln × CT))
  | name (w : List Nat) (bs : List (Ln × Ln × Ln × Ln))
  | undo (n : Int)
def opsL : List Str := ["+", "-", "*", "/"]
def callsL : List Str := ["sum", "count", "min", "max"]
def axesL : List Str := ["row", "column"]
def blkD (b : Ln × Ln × Ln × Ln) : PyData := .tuple [idD b.1, idD b.2.1, idD b.2.2.1, idD b.2.2.2]
def KA.d : KA → PyData
  | .gone => .tuple [.str "gone"]
  | .name w => .tuple [.str "name", .str (S w)]
  | .block a b c d => .tuple [.str "block", idD a, idD b, idD c, idD d]
def KT.d : KT → PyData
  | .gone => .tuple [.str "gone"]
  | .num x y => .tuple [.str "num", .tuple [.int x, .int y]]
  | .cell r c => .tuple [.str "cell", idD r, idD c]
  | .neg t => .tuple [.str "neg", t.d]
  | .op i l r => .tuple [.str "op", .str (opsL.getD i ""), l.d, r.d]
  | .call i as => .tuple [.str "call", .str (callsL.getD i ""), .tuple (as.map KA.d)]
def CT.d : CT → PyData
  | .blank => .tuple [.str "blank"]
  | .text w => .tuple [.str "text", .str (S w)]
  | .number x y => .tuple [.str "number", .tuple [.int x, .int y]]
  | .formula t => .tuple [.str "formula", t.d]
def sideD : Option Ln → PyData
  | none => .none
  | some z => idD z
def celD (c : Ln × Ln × CT) : PyData := .tuple [idD c.1, idD c.2.1, c.2.2.d]
def Ac.d : Ac → PyData
  | .insert i l r => .tuple [.str "insert", .str (axesL.getD i ""), sideD l, sideD r]
  | .delete i z => .tuple [.str "delete", .str (axesL.getD i ""), idD z]
  | .write cs => .tuple [.str "write", .tuple (cs.map celD)]
  | .name w bs => .tuple [.str "name", .str (S w), .tuple (bs.map blkD)]
  | .undo n => .tuple [.str "undo", .int n]
def strN (a : List Nat) : List Int := (a.length : Int) :: a.map fun (c : Nat) => (c : Int)
def frN (x y : Int) : List Int := [if 0 ≤ x then 2 * x else -2 * x - 1, y]
def lnN (z : Ln) : List Int := [z.1, z.2]
def lnsN (zs : List Ln) : List Int := zs.flatMap lnN
def blkL (b : Ln × Ln × Ln × Ln) : List Ln := [b.1, b.2.1, b.2.2.1, b.2.2.2]
def KA.n : KA → List Int
  | .gone => [0]
  | .name w => 2 :: strN w
  | .block a b c d => 1 :: lnsN [a, b, c, d]
def KT.n : KT → List Int
  | .gone => [2]
  | .num x y => 0 :: frN x y
  | .cell r c => 1 :: lnsN [r, c]
  | .neg t => 4 :: t.n
  | .op i l r => [5, (i : Int)] ++ l.n ++ r.n
  | .call i as => [3, (i : Int), (as.length : Int)] ++ as.flatMap KA.n
def CT.n : CT → List Int
  | .blank => [0]
  | .text w => 1 :: strN w
  | .number x y => 2 :: frN x y
  | .formula t => 3 :: t.n
def sideN : Option Ln → List Int
  | none => [0]
  | some z => [1, z.1, z.2]
def celN (c : Ln × Ln × CT) : List Int := lnsN [c.1, c.2.1] ++ c.2.2.n
def Ac.n : Ac → List Int
  | .insert i l r => [0, (i : Int)] ++ sideN l ++ sideN r
  | .delete i z => [1, (i : Int)] ++ lnN z
  | .write cs => [2, (cs.length : Int)] ++ cs.flatMap celN
  | .name w bs => 3 :: strN w ++ [(bs.length : Int)] ++ bs.flatMap fun b => lnsN (blkL b)
  | .undo n => [4, n]
def KT.h : KT → Nat
  | .neg t => t.h + 1
  | .op _ l r => max l.h r.h + 1
  | _ => 0
def KT.ok : KT → Prop
  | .neg t => t.ok
  | .op i l r => i < 4 ∧ l.ok ∧ r.ok
  | .call i _ => i < 4
  | _ => True
def CT.ok (h : Nat) : CT → Prop
  | .formula t => t.ok ∧ t.h < h
  | _ => True
def Ac.ok (h : Nat) : Ac → Prop
  | .insert i _ _ => i < 2
  | .delete i _ => i < 2
  | .write cs => ∀ c ∈ cs, c.2.2.ok h
  | _ => True
theorem dpT {K : PySem.W.Frag} {H : Hp} {v : V} {ds : List PyData} (h : Dp K H v (.tuple ds)) : ∃ q us, v = .ref q ∧ SqT K H q us ∧ DpAll K H us ds := by
  cases h with
  | tup h r => exact ⟨_, _, rfl, h, r⟩
theorem dp_str {K : PySem.W.Frag} {H : Hp} {v : V} {s : Str} (h : Dp K H v (.str s)) : v = .str s := by
  cases h
  rfl
theorem dp_int {K : PySem.W.Frag} {H : Hp} {v : V} {i : Int} (h : Dp K H v (.int i)) : v = .int i := by
  cases h
  rfl
theorem dp_none {K : PySem.W.Frag} {H : Hp} {v : V} (h : Dp K H v .none) : v = .non := by
  cases h
  rfl
theorem dpA0 {K : PySem.W.Frag} {H : Hp} {vs : List V} (h : DpAll K H vs []) : vs = [] := by
  cases h
  rfl
theorem dpA {K : PySem.W.Frag} {H : Hp} {vs : List V} {d : PyData} {ds : List PyData} (h : DpAll K H vs (d :: ds)) : ∃ v us, vs = v :: us ∧ Dp K H v d ∧ DpAll K H us ds := by
  cases h with
  | cons h r => exact ⟨_, _, rfl, h, r⟩
theorem dp_t1 {K : PySem.W.Frag} {H : Hp} {v : V} {a : PyData} (h : Dp K H v (.tuple [a])) : ∃ q x, v = .ref q ∧ SqT K H q [x] ∧ Dp K H x a := by
  obtain ⟨q, us, rfl, h1, r⟩ := dpT h
  obtain ⟨x, us, rfl, hx, r⟩ := dpA r
  obtain rfl := dpA0 r
  exact ⟨q, x, rfl, h1, hx⟩
theorem dp_t2 {K : PySem.W.Frag} {H : Hp} {v : V} {a b : PyData} (h : Dp K H v (.tuple [a, b])) : ∃ q x y, v = .ref q ∧ SqT K H q [x, y] ∧ Dp K H x a ∧ Dp K H y b := by
  obtain ⟨q, us, rfl, h1, r⟩ := dpT h
  obtain ⟨x, us, rfl, hx, r⟩ := dpA r
  obtain ⟨y, us, rfl, hy, r⟩ := dpA r
  obtain rfl := dpA0 r
  exact ⟨q, x, y, rfl, h1, hx, hy⟩
theorem dp_t3 {K : PySem.W.Frag} {H : Hp} {v : V} {a b c : PyData} (h : Dp K H v (.tuple [a, b, c])) : ∃ q x y z, v = .ref q ∧ SqT K H q [x, y, z] ∧ Dp K H x a ∧ Dp K H y b ∧ Dp K H z c := by
  obtain ⟨q, us, rfl, h1, r⟩ := dpT h
  obtain ⟨x, us, rfl, hx, r⟩ := dpA r
  obtain ⟨y, us, rfl, hy, r⟩ := dpA r
  obtain ⟨z, us, rfl, hz, r⟩ := dpA r
  obtain rfl := dpA0 r
  exact ⟨q, x, y, z, rfl, h1, hx, hy, hz⟩
theorem dp_t4 {K : PySem.W.Frag} {H : Hp} {v : V} {a b c d : PyData} (h : Dp K H v (.tuple [a, b, c, d])) : ∃ q x y z u, v = .ref q ∧ SqT K H q [x, y, z, u] ∧ Dp K H x a ∧ Dp K H y b ∧ Dp K H z c ∧ Dp K H u d := by
  obtain ⟨q, us, rfl, h1, r⟩ := dpT h
  obtain ⟨x, us, rfl, hx, r⟩ := dpA r
  obtain ⟨y, us, rfl, hy, r⟩ := dpA r
  obtain ⟨z, us, rfl, hz, r⟩ := dpA r
  obtain ⟨u, us, rfl, hu, r⟩ := dpA r
  obtain rfl := dpA0 r
  exact ⟨q, x, y, z, u, rfl, h1, hx, hy, hz, hu⟩
theorem dp_ln {K : PySem.W.Frag} {H : Hp} {v : V} {z : Ln} (h : Dp K H v (idD z)) : ∃ q, v = .ref q ∧ SqT K H q [.int z.1, .int z.2] := by
  obtain ⟨q, x, y, rfl, h1, hx, hy⟩ := dp_t2 h
  rw [dp_int hx, dp_int hy] at h1
  exact ⟨q, rfl, h1⟩
theorem dpA_len {K : PySem.W.Frag} {H : Hp} : ∀ {vs : List V} {ds : List PyData}, DpAll K H vs ds → vs.length = ds.length
  | _, _, .nil => rfl
  | _, _, .cons _ r => congrArg (· + 1) (dpA_len r)
theorem dpA_get {K : PySem.W.Frag} {H : Hp} {β : Type} {k : β → PyData} : ∀ {vs : List V} {D : List β}, DpAll K H vs (D.map k) → ∀ (i : Nat) (x : V), vs[i]? = some x → ∃ e, D[i]? = some e ∧ Dp K H x (k e)
  | vs, [], h, i, x, hx => by
    have : vs = [] := by
      cases h
      rfl
    rw [this] at hx
    cases hx
  | vs, e :: D, h, i, x, hx => by
    obtain ⟨v, us, rfl, hv, r⟩ := dpA (d := k e) (ds := D.map k) h
    rcases i with _ | i
    · cases hx
      exact ⟨e, rfl, hv⟩
    · exact dpA_get r i x hx
/-- a list of these ints is handed back -/
def NR (H : Hp) (ns : List Int) (Q : VK) : Prop := ∀ (p : Addr) (H' : Hp), Same H H' → H' p = some (.lst (ns.map V.int)) → Q (.ref p) H'
theorem lt4 {i : Nat} (h : i < 4) : i = 0 ∨ i = 1 ∨ i = 2 ∨ i = 3 := by omega
theorem lt2 {i : Nat} (h : i < 2) : i = 0 ∨ i = 1 := by omega
theorem ops_at {i : Nat} (h : i < 4) : opsL[i]? = some (opsL.getD i "") ∧ ∀ m, m < i → opsL[m]? ≠ some (opsL.getD i "") := by
  rcases lt4 h with rfl | rfl | rfl | rfl <;> decide +kernel
theorem calls_at {i : Nat} (h : i < 4) : callsL[i]? = some (callsL.getD i "") ∧ ∀ m, m < i → callsL[m]? ≠ some (callsL.getD i "") := by
  rcases lt4 h with rfl | rfl | rfl | rfl <;> decide +kernel
theorem axes_at {i : Nat} (h : i < 2) : axesL[i]? = some (axesL.getD i "") ∧ ∀ m, m < i → axesL[m]? ≠ some (axesL.getD i "") := by
  rcases lt2 h with rfl | rfl <;> decide +kernel
theorem flat_take {β : Type} {f : β → List Int} {D : List β} {i : Nat} {e : β} (h : D[i]? = some e) : (D.take (i + 1)).flatMap f = (D.take i).flatMap f ++ f e := by
  rw [List.take_add_one, h, List.flatMap_append]
  simp
theorem flat_le {β : Type} {f : β → List Int} {D : List β} (i : Nat) : ((D.take i).flatMap f).length ≤ (D.flatMap f).length := by
  conv => rhs; rw [← List.take_append_drop i D, List.flatMap_append, List.length_append]
  omega
theorem flat_le1 {β : Type} {f : β → List Int} {D : List β} {i : Nat} {e : β} (h : D[i]? = some e) : ((D.take i).flatMap f).length + (f e).length ≤ (D.flatMap f).length := by
  rw [← List.length_append, ← flat_take h]
  exact flat_le _
theorem sz5' {n : Nat} (h : n ≤ 1000000) : n ≤ sizeLine := Nat.le_trans h (by decide)
theorem sz5 {n : Nat} (h : n ≤ 100000) : n ≤ sizeLine := Nat.le_trans h (by decide)
def spStrN (K : PySem.W.Frag) : Sp := fun vs H Q _ => ∃ (a : List Nat), vs = [.str (S a)] ∧ a.length ≤ 1000 ∧ NR H (strN a) Q
theorem ord_one (c : Nat) : (S [c]).length = 1 ∧ (S [c]).cps.getD 0 0 = c := ⟨by rw [S_len]; rfl, rfl⟩
def spFrN (K : PySem.W.Frag) : Sp := fun vs H Q _ => ∃ (a : Addr) (x y : Int), vs = [.ref a] ∧ SqT K H a [.int x, .int y] ∧ NR H (frN x y) Q
def spLnsN (K : PySem.W.Frag) : Sp := fun vs H Q _ => ∃ (a : Addr) (us : List V) (zs : List Ln), vs = [.ref a] ∧ SqT K H a us ∧ DpAll K H us (zs.map idD) ∧ zs.length ≤ 1000 ∧ NR H (lnsN zs) Q
theorem lns_len (zs : List Ln) : (lnsN zs).length = 2 * zs.length := by
  induction zs with
  | nil => rfl
  | cons z zs ih =>
    unfold lnsN at ih ⊢
    rw [List.flatMap_cons, List.length_append, ih, List.length_cons]
    show 2 + _ = _
    omega
def spSideN (K : PySem.W.Frag) : Sp := fun vs H Q _ => ∃ (v : V) (z : Option Ln), vs = [v] ∧ Dp K H v (sideD z) ∧ NR H (sideN z) Q
theorem kw1 : ("gone" : Str) ≠ "block" ∧ ("gone" : Str) ≠ "name" ∧ ("name" : Str) ≠ "block" ∧ ("gone" : Str) ≠ "num" ∧ ("gone" : Str) ≠ "cell" ∧ ("gone" : Str) ≠ "call" ∧ ("gone" : Str) ≠ "neg" ∧ ("gone" : Str) ≠ "op" := by decide +kernel
theorem kw2 : ("cell" : Str) ≠ "num" ∧ ("call" : Str) ≠ "num" ∧ ("call" : Str) ≠ "cell" ∧ ("neg" : Str) ≠ "num" ∧ ("neg" : Str) ≠ "cell" ∧ ("neg" : Str) ≠ "call" ∧ ("op" : Str) ≠ "num" ∧ ("op" : Str) ≠ "cell" ∧ ("op" : Str) ≠ "call" ∧ ("op" : Str) ≠ "neg" := by decide +kernel
theorem kw3 : ("blank" : Str) ≠ "text" ∧ ("blank" : Str) ≠ "number" ∧ ("blank" : Str) ≠ "formula" ∧ ("number" : Str) ≠ "text" ∧ ("formula" : Str) ≠ "text" ∧ ("formula" : Str) ≠ "number" := by decide +kernel
theorem kw4 : ("delete" : Str) ≠ "insert" ∧ ("write" : Str) ≠ "insert" ∧ ("write" : Str) ≠ "delete" ∧ ("name" : Str) ≠ "insert" ∧ ("name" : Str) ≠ "delete" ∧ ("name" : Str) ≠ "write" ∧ ("undo" : Str) ≠ "insert" ∧ ("undo" : Str) ≠ "delete" ∧ ("undo" : Str) ≠ "write" ∧ ("undo" : Str) ≠ "name" := by decide +kernel
theorem ifN {a b : Str} {A B : Prop} (h : a ≠ b) (q : B) : if decide (V.str a = V.str b) = true then A else B := by
  rw [if_neg fun z => h (V.str.inj (of_decide_eq_true z))]
  exact q
theorem ifY {a : Str} {A B : Prop} (q : A) : if decide (V.str a = V.str a) = true then A else B := by
  rw [if_pos (decide_eq_true rfl)]
  exact q
/-- one or more numbers ahead of a list -/
theorem cat_NR {H H1 H2 : Hp} {l p : Addr} {xs ys : List Int} {Q : VK} (s1 : Same H H1) (hl : H1 l = some (.lst (xs.map V.int))) (s2 : Same H1 H2) (hp : H2 p = some (.lst (ys.map V.int))) (z : xs.length + ys.length ≤ 100000) (q : NR H (xs ++ ys) Q) : rCat (.ref l) (.ref p) H2 Q := by
  refine ⟨l, p, _, _, rfl, rfl, s2 _ _ hl, hp, sz5 (by rw [List.length_map, List.length_map]; exact z), fun y hy => q y _ ((s1.trans s2).trans (same_new hy)) ?_⟩
  rw [upd_same, List.map_append]
theorem cut1_no (x : V) (us : List V) : ¬ (HT.sIx (x :: us).length 0 (some 1) = 0 ∧ HT.sIx (x :: us).length (x :: us).length none = (x :: us).length) := by
  rintro ⟨h, _⟩
  simp [HT.sIx] at h
theorem cut1 (x : V) (us : List V) : cutV (x :: us) (some 1) none = us := by
  unfold cutV
  have h : HT.sIx (x :: us).length 0 (some 1) = 1 := by
    simp [HT.sIx]
  rw [h]
  show (us.take ((us.length + 1) - 1)) = us
  rw [Nat.add_sub_cancel, List.take_length]
def spKA (K : PySem.W.Frag) : Sp := fun vs H Q _ => ∃ (v : V) (a : KA), vs = [v] ∧ Dp K H v a.d ∧ a.n.length ≤ 1000 ∧ NR H a.n Q
def spCallN (K : PySem.W.Frag) : Sp := fun vs H Q _ => ∃ (i : Nat) (a : Addr) (us : List V) (as : List KA), vs = [.str (callsL.getD i ""), .ref a] ∧ i < 4 ∧ SqT K H a us ∧ DpAll K H us (as.map KA.d) ∧ (KT.call i as).n.length ≤ 1000 ∧ NR H (KT.call i as).n Q
theorem call_len (i : Nat) (as : List KA) : (KT.call i as).n.length = 3 + (as.flatMap KA.n).length := by
  show ([3, (i : Int), (as.length : Int)] ++ as.flatMap KA.n).length = _
  rw [List.length_append]
  rfl
theorem ka_pos (a : KA) : 1 ≤ a.n.length := by cases a <;> simp [KA.n]
theorem kas_len (as : List KA) : as.length ≤ (as.flatMap KA.n).length := by
  induction as with
  | nil => exact Nat.le_refl _
  | cons a as ih =>
    have := ka_pos a
    rw [List.flatMap_cons, List.length_append, List.length_cons]
    omega
def spKT (K : PySem.W.Frag) (n : Nat) : Sp := fun vs H Q _ => ∃ (v : V) (t : KT), vs = [v] ∧ t.h < n ∧ t.ok ∧ Dp K H v t.d ∧ t.n.length ≤ 1000 ∧ NR H t.n Q
theorem hop {i : Nat} {l r : KT} {n : Nat} (h : (KT.op i l r).h < n + 1) : l.h < n ∧ r.h < n := by
  have : max l.h r.h + 1 < n + 1 := h
  omega
theorem hneg {t : KT} {n : Nat} (h : (KT.neg t).h < n + 1) : t.h < n := by
  have : t.h + 1 < n + 1 := h
  omega
theorem op_len (i : Nat) (l r : KT) : (KT.op i l r).n.length = 2 + l.n.length + r.n.length := by
  show ([5, (i : Int)] ++ l.n ++ r.n).length = _
  rw [List.length_append, List.length_append]
  rfl
def spCT (K : PySem.W.Frag) : Sp := fun vs H Q _ => ∃ (v : V) (c : CT), vs = [v] ∧ c.ok 5 ∧ Dp K H v c.d ∧ c.n.length ≤ 1000 ∧ NR H c.n Q
def spCels (K : PySem.W.Frag) : Sp := fun vs H Q _ => ∃ (a : Addr) (us : List V) (cs : List (Ln × Ln × CT)), vs = [.ref a] ∧ SqT K H a us ∧ DpAll K H us (cs.map celD) ∧ (∀ c ∈ cs, c.2.2.ok 5) ∧ cs.length ≤ 100 ∧ (∀ c ∈ cs, c.2.2.n.length ≤ 1000) ∧ NR H ([2, (cs.length : Int)] ++ cs.flatMap celN) Q
theorem cel_len (c : Ln × Ln × CT) : (celN c).length = 4 + c.2.2.n.length := by
  unfold celN
  rw [List.length_append, lns_len]
  rfl
theorem flat_bd {β : Type} {f : β → List Int} {b : Nat} : ∀ {D : List β}, (∀ e ∈ D, (f e).length ≤ b) → (D.flatMap f).length ≤ D.length * b
  | [], _ => Nat.zero_le _
  | e :: D, h => by
    have h1 := h e (List.mem_cons_self ..)
    have h2 := flat_bd (D := D) fun x hx => h x (List.mem_cons_of_mem _ hx)
    rw [List.flatMap_cons, List.length_append, List.length_cons, Nat.add_mul, Nat.one_mul]
    omega
theorem cels_len {cs : List (Ln × Ln × CT)} (h1 : cs.length ≤ 100) (h2 : ∀ c ∈ cs, c.2.2.n.length ≤ 1000) : (cs.flatMap celN).length ≤ 100400 := by
  have h3 := flat_bd (f := celN) (b := 1004) (D := cs) fun c hc => by
    rw [cel_len]
    have := h2 c hc
    omega
  have h4 := Nat.mul_le_mul_right 1004 h1
  omega
def spNameN (K : PySem.W.Frag) : Sp := fun vs H Q _ => ∃ (w : List Nat) (a : Addr) (us : List V) (bs : List (Ln × Ln × Ln × Ln)), vs = [.str (S w), .ref a] ∧ SqT K H a us ∧ DpAll K H us (bs.map blkD) ∧ w.length ≤ 900 ∧ bs.length ≤ 100 ∧ NR H (Ac.name w bs).n Q
theorem blk_len (b : Ln × Ln × Ln × Ln) : (lnsN (blkL b)).length = 8 := lns_len _
theorem blks_len (bs : List (Ln × Ln × Ln × Ln)) : (bs.flatMap fun b => lnsN (blkL b)).length ≤ bs.length * 8 := flat_bd fun b _ => Nat.le_of_eq (blk_len b)
theorem strN_len (w : List Nat) : (strN w).length = w.length + 1 := by
  unfold strN
  rw [List.length_cons, List.length_map]
def Ac.sm : Ac → Prop
  | .write cs => cs.length ≤ 100 ∧ ∀ c ∈ cs, c.2.2.n.length ≤ 1000
  | .name w bs => w.length ≤ 900 ∧ bs.length ≤ 100
  | _ => True
def spAc (K : PySem.W.Frag) : Sp := fun vs H Q _ => ∃ (v : V) (a : Ac), vs = [v] ∧ a.ok 5 ∧ a.sm ∧ Dp K H v a.d ∧ NR H a.n Q
theorem side_len (z : Option Ln) : (sideN z).length ≤ 3 := by cases z <;> simp [sideN]
/-! ### write_update -/
def EAt (K : PySem.W.Frag) (H : Hp) (x : V) (u : Ed × Ac) : Prop := ∃ (q a b : Addr) (c : V), x = .ref q ∧ H q = some (.tup [.ref a, .ref b, c]) ∧ H a = some (.tup [.int (1 + (u.1.p : Int)), .int u.1.n]) ∧ H b = some (.tup (u.1.v.map V.int)) ∧ Dp K H c u.2.d
theorem EAt.same {K : PySem.W.Frag} {H H' : Hp} {x : V} {u : Ed × Ac} (s : Same H H') (h : EAt K H x u) : EAt K H' x u := by
  obtain ⟨q, a, b, c, h0, h1, h2, h3, h4⟩ := h
  exact ⟨q, a, b, c, h0, s _ _ h1, s _ _ h2, s _ _ h3, dp_same s h4⟩
theorem EAt.ed {K : PySem.W.Frag} {H : Hp} {x : V} {u : Ed × Ac} (h : EAt K H x u) : EdAt H x u.1 := by
  obtain ⟨q, a, b, c, h0, h1, h2, h3, h4⟩ := h
  exact ⟨q, a, b, c, h0, h1, h2, h3⟩
def edN (u : Ed × Ac) : List Int := [1 + (u.1.p : Int), u.1.n] ++ u.1.v ++ u.2.n
def bytesN (ns : List Int) : List Int := ns.flatMap fun z => nb z.toNat
structure OkA (u : Ed × Ac) : Prop where
  ok : u.2.ok 5
  sm : u.2.sm
  v : u.1.v.length = 4
  len : (edN u).length ≤ 9000
  num : ∀ z ∈ edN u, 0 ≤ z ∧ z < 10 ^ 30
theorem nb_bd {z : Int} (h : 0 ≤ z ∧ z < 10 ^ 30) : (nb z.toNat).length ≤ 20 := by
  refine Nat.le_trans (nb_len 19 z.toNat ?_) (Nat.le_refl _)
  have : z.toNat < 10 ^ 30 := by omega
  exact Nat.lt_of_lt_of_le this (by decide)
def Srt (D E : List (Ed × Ac)) : Prop := E.Perm D ∧ E.Pairwise fun a b => ¬ ltE b.1 a.1
def spUpd (K : PySem.W.Frag) : Sp := fun vs H Q _ => ∃ (b L : Addr) (r c : Int) (rs : List V) (D : List (Ed × Ac)), vs = [.ref b, .ref L] ∧ SqT K H b [.int r, .int c] ∧ (0 ≤ r ∧ r < 10 ^ 30) ∧ (0 ≤ c ∧ c < 10 ^ 30) ∧ SqL K H L rs ∧ RepG (EAt K H) rs D ∧ D.length ≤ 9 ∧ (D.map fun u => u.1.id).Nodup ∧ (∀ u ∈ D, OkA u) ∧
  ∀ E, Srt D E → NR H (bytesN ([r, c, (D.length : Int)] ++ E.flatMap edN)) Q
theorem app_len3 (r c n : Int) (xs : List Int) : ([r, c, n] ++ xs).length = 3 + xs.length := by
  rw [List.length_append]
  rfl
theorem sz6 {n : Nat} (h : n ≤ 10000000) : n ≤ sizeLine := Nat.le_trans h (by decide)
theorem ext_keep {H H4 : Hp} {N l : Addr} {es : List V} {xs ys : List Int} (s4 : Same H H4) (hN : H N = none) (nl : l ≠ N) (hl : H4 l = some (.lst es)) (hx : H4 N = some (.lst (xs.map V.int))) :
    Same H (upd H4 N (.lst (xs.map V.int ++ ys.map V.int))) ∧ (upd H4 N (.lst (xs.map V.int ++ ys.map V.int))) l = some (.lst es) ∧ (upd H4 N (.lst (xs.map V.int ++ ys.map V.int))) N = some (.lst ((xs ++ ys).map V.int)) :=
  ⟨same_mut s4 hN, by rw [upd_ne nl]; exact hl, by rw [upd_same, List.map_append]⟩
mutual
def nlD : PyData → Bool
  | .list _ => false
  | .dict _ => false
  | .tuple xs => nlA xs
  | _ => true
def nlA : List PyData → Bool
  | [] => true
  | x :: xs => nlD x && nlA xs
end
def TR (H H' : Hp) : Prop := ∀ q xs, Rd H q (.tup xs) → Rd H' q (.tup xs)
theorem TR.of {H H' : Hp} (s : Same H H') : TR H H' := fun q xs h => h.imp (fun z => s _ _ z) (fun ⟨o, z⟩ => ⟨o, s _ _ z⟩)
theorem TR.trans {H H1 H2 : Hp} (a : TR H H1) (b : TR H1 H2) : TR H H2 := fun q xs h => b q xs (a q xs h)
theorem TR.mut {H : Hp} {d : Addr} {xs : List V} {o : HO} (h : H d = some (.lst xs)) : TR H (upd H d o) := fun q ys hq => by
  have : q ≠ d := fun z => by
    rw [z] at hq
    rcases hq with e | ⟨u, e⟩ <;> rw [h] at e <;> cases e
  rcases hq with e | ⟨u, e⟩
  · exact .inl (by rw [upd_ne this]; exact e)
  · exact .inr ⟨u, by rw [upd_ne this]; exact e⟩
mutual
theorem dp_tk {K : PySem.W.Frag} {H H' : Hp} (e : TR H H') : ∀ {v : V} {d : PyData}, nlD d = true → Dp K H v d → Dp K H' v d
  | _, _, _, .non => .non
  | _, _, _, .bl b => .bl b
  | _, _, _, .int i => .int i
  | _, _, _, .str x => .str x
  | _, _, n, .lst h r => by simp [nlD] at n
  | _, _, n, .tup h r => .tup (h.imp (fun z => e _ _ z) id) (dpA_tk e (by simpa [nlD] using n) r)
theorem dpA_tk {K : PySem.W.Frag} {H H' : Hp} (e : TR H H') : ∀ {vs : List V} {ds : List PyData}, nlA ds = true → DpAll K H vs ds → DpAll K H' vs ds
  | _, _, _, .nil => .nil
  | _, _, n, .cons h r => .cons (dp_tk e (by simp only [nlA, Bool.and_eq_true] at n; exact n.1) h) (dpA_tk e (by simp only [nlA, Bool.and_eq_true] at n; exact n.2) r)
end
theorem nlA_map {β : Type} {f : β → PyData} (h : ∀ b, nlD (f b) = true) : ∀ D : List β, nlA (D.map f) = true
  | [] => rfl
  | b :: D => by simp [nlA, h b, nlA_map h D]
theorem nl_id (z : Ln) : nlD (idD z) = true := rfl
theorem nl_KA (a : KA) : nlD a.d = true := by cases a <;> rfl
theorem nl_KT : ∀ t : KT, nlD t.d = true
  | .gone => rfl
  | .num _ _ => rfl
  | .cell _ _ => rfl
  | .neg t => by simp [KT.d, nlD, nlA, nl_KT t]
  | .op i l r => by simp [KT.d, nlD, nlA, nl_KT l, nl_KT r]
  | .call i as => by simp [KT.d, nlD, nlA, nlA_map nl_KA as]
theorem nl_CT (t : CT) : nlD t.d = true := by cases t <;> simp [CT.d, nlD, nlA, nl_KT]
theorem nl_side (z : Option Ln) : nlD (sideD z) = true := by cases z <;> rfl
theorem nl_cel (c : Ln × Ln × CT) : nlD (celD c) = true := by simp [celD, nlD, nlA, nl_CT, nl_id]
theorem nl_blk (b : Ln × Ln × Ln × Ln) : nlD (blkD b) = true := rfl
theorem nl_Ac (a : Ac) : nlD a.d = true := by cases a <;> simp [Ac.d, nlD, nlA, nl_side, nl_id, nlA_map nl_cel, nlA_map nl_blk]
theorem dpA_snoc {K : PySem.W.Frag} {H : Hp} {v : V} {d : PyData} (h : Dp K H v d) : ∀ {vs : List V} {ds : List PyData}, DpAll K H vs ds → DpAll K H (vs ++ [v]) (ds ++ [d])
  | _, _, .nil => .cons h .nil
  | _, _, .cons h1 r => .cons h1 (dpA_snoc h r)
def LnOk (z : Ln) : Prop := (0 ≤ z.1 ∧ z.1 ≤ 4) ∧ (0 ≤ z.2 ∧ z.2 ≤ 100000)
def FrOk (x y : Int) : Prop := (-10000 ≤ x ∧ x ≤ 10000) ∧ (1 ≤ y ∧ y ≤ 10000)
def WdOk (w : List Nat) : Prop := 2 ≤ w.length ∧ w.length ≤ 8 ∧ ∀ c ∈ w, c ∈ ("abcdefghijklmnopqrstuvwxyz" : Str).cps.toList ∧ c ≤ 1000
def KA.val : KA → Prop
  | .gone => True
  | .name w => WdOk w
  | .block a b c d => LnOk a ∧ LnOk b ∧ LnOk c ∧ LnOk d
def KT.val : KT → Prop
  | .gone => True
  | .num x y => FrOk x y
  | .cell a b => LnOk a ∧ LnOk b
  | .neg t => t.val
  | .op _ l r => l.val ∧ r.val
  | .call _ as => as.length ≤ 900 ∧ ∀ a ∈ as, a.val
def KT.parts : KT → Nat
  | .neg t => t.parts + 1
  | .op _ l r => l.parts + r.parts + 1
  | .call _ as => as.length + 1
  | _ => 1
theorem call_at : ∀ {i : Nat}, i < 4 → ([V.str "sum", V.str "count", V.str "min", V.str "max"])[i]? = some (V.str (callsL.getD i ""))
  | 0, _ => rfl
  | 1, _ => rfl
  | 2, _ => rfl
  | 3, _ => rfl
  | n + 4, h => absurd h (by omega)
theorem op_at : ∀ {i : Nat}, i < 4 → ([V.str "+", V.str "-", V.str "*", V.str "/"])[i]? = some (V.str (opsL.getD i ""))
  | 0, _ => rfl
  | 1, _ => rfl
  | 2, _ => rfl
  | 3, _ => rfl
  | n + 4, h => absurd h (by omega)
theorem axis_at : ∀ {i : Nat}, i < 2 → ([V.str "row", V.str "column"])[i]? = some (V.str (axesL.getD i ""))
  | 0, _ => rfl
  | 1, _ => rfl
  | n + 2, h => absurd h (by omega)
def charsS : Str := " !\"#$&'()*+,-./0123456789:;<=>?@ABCDEFGHIJKLMNOPQRSTUVWXYZ[\\]^_`abcdefghijklmnopqrstuvwxyz{|}~"
def CT.val : CT → Prop
  | .blank => True
  | .text w => 1 ≤ w.length ∧ w.length ≤ 60 ∧ ∀ c ∈ w, c ∈ charsS.cps.toList ∧ c ≤ 1000
  | .number x y => FrOk x y
  | .formula t => t.val ∧ t.parts ≤ 60
def CelOk (c : Ln × Ln × CT) : Prop := LnOk c.1 ∧ LnOk c.2.1 ∧ c.2.2.ok 5 ∧ c.2.2.val
def BlkOk (b : Ln × Ln × Ln × Ln) : Prop := ∀ z ∈ blkL b, LnOk z
def Ac.val : Ac → Prop
  | .insert _ l r => (∀ w, l = some w → LnOk w) ∧ ∀ w, r = some w → LnOk w
  | .delete _ z => LnOk z
  | .write cs => cs.length ≤ 900 ∧ ∀ c ∈ cs, CelOk c
  | .name w bs => WdOk w ∧ bs.length ≤ 4 ∧ ∀ b ∈ bs, BlkOk b
  | .undo n => 1 ≤ n ∧ n ≤ 100000
structure ValE (u : Ed × Ac) : Prop where
  p : u.1.p < 4
  n : 1 ≤ u.1.n ∧ u.1.n ≤ 100000
  vl : u.1.v.length = 4
  v : ∀ z ∈ u.1.v, 0 ≤ z ∧ z ≤ 99999
  ok : u.2.ok 5
  a : u.2.val
def edD (u : Ed × Ac) : PyData := .tuple [idD u.1.id, .tuple (u.1.v.map PyData.int), u.2.d]
theorem S_self (s : Str) : S s.cps.toList = s := by
  show (⟨s.cps.toList.toArray⟩ : Str) = s
  rw [Array.toArray_toList]
end
end My
namespace My
open PySem PySem.Spec PyProof.Rows L2 RZ
section
variable {P : Program} {w : World} {K : PySem.W.Frag} {mg : Str → Option Value} {base : Heap}
open L2H
open SX (S S_len S_cat slice_to slice_from num_S int_S)
open PySem.NumText (digitsVal AllDigits)
open TL (numL)
def spPadded (K : PySem.W.Frag) : Sp := fun vs H Q _ => ∃ (c k : Int), vs = [.int c, .int k] ∧ ∀ (H' : Hp) (d : Addr) (ds : List Int), Same H H' → H' d = some (.lst (ds.map V.int)) → 20 ≤ ds.length → (∀ x ∈ ds, 0 ≤ x ∧ x < 1000) → Q (.ref d) H'
theorem okLawPadded (T : Txt K mg) : FnOk P w K mg base CX0 2 T.fLawPadded T.fdLawPadded ["_law_cell_here", "_law_k"] (spPadded K) := by
  refine T.FLawPadded.ok scLawPadded (fun vs H Q E h => ?_) (fun cdv A outer s H vs Q E hr h => ?_)
  · obtain ⟨c, k, rfl, _⟩ := h
    rfl
  · obtain ⟨c, k, rfl, q⟩ := h
    -- slots _law_cell_here=0 _law_k=1 _law_d=2 _law_turn=3
    refine ⟨_, (pss_cons (ps_set (i := 2) scLawPadded.nd rfl (Or.inl rfl) (pe_call (okLawDigits T) (hr.mono (by decide)) (by rfl) T.gLawDigits T.FLawDigits.kp T.bLawDigits .nil pass0 (pa_cons (pv 0) (pa_cons (pv 1) (pa_cons pe_int pa_nil)))))
        (pss_cons (ps_for PassesOwn.never rfl (pi_range1 rfl T.z_range (pa_cons pe_int pa_nil)) (pg_name (i := 3) scLawPadded.nd rfl (Or.inl rfl))
          (pss_one (ps_expr (pe_bm PySem.F.plainAttrs_list PySem.F.slot_list_append PySem.F.type_list_append mt_append (pv 2) (pa_cons (pv 3) pa_nil)))))
        (pss_one (ps_ret (pv 2))))), ?_⟩
    refine ⟨_, rfl, _, rfl, c, k, 20, rfl, by decide, fun H1 d ds s1 hdn hd1 D => ?_⟩
    have dl := D.len
    refine ⟨20, rfl, by decide, by decide, for_range (lo := 0) (n := 20) (fun i σ H' => ∃ (es : List Int) (c3 : Option V), σ = [some (.int c), some (.int k), some (.ref d), c3] ∧ Same H H' ∧ H' d = some (.lst (es.map V.int)) ∧ i ≤ es.length ∧ es.length ≤ 20 + i ∧ ∀ x ∈ es, 0 ≤ x ∧ x < 1000) ⟨ds, _, rfl, s1, hd1, Nat.zero_le _, by omega, D.all⟩ ?_ ?_⟩
    · rintro i σ H2 hi ⟨es, c3, rfl, s2, hd2, l1, l2, al⟩
      refine ⟨_, rfl, .inl ⟨rfl, _, SqL.of hd2⟩, _, rfl, d, _, _, rfl, rfl, hd2, ?_, es ++ [0 + (i : Int)], _, rfl, same_mut s2 hdn, ?_, ?_, ?_, ?_⟩
      · rw [List.length_map]
        exact small1000 (by omega)
      · rw [upd_same, List.map_append]
        rfl
      · rw [List.length_append]
        exact Nat.add_le_add_right l1 1
      · rw [List.length_append]
        show es.length + 1 ≤ _
        omega
      · intro x hx
        rcases List.mem_append.mp hx with z | z
        · exact al x z
        · rw [List.mem_singleton.mp z]
          omega
    · rintro σ H2 ⟨es, c3, rfl, s2, hd2, l1, l2, al⟩
      exact ⟨_, rfl, q _ d es s2 hd2 l1 al⟩
/-! ### the drawn edits -/
theorem sl_listK {X : Cx} {K : PySem.W.Frag} (h : X.K = K) : SlR X (rSlL K) := by
  subst h
  exact sl_list
theorem gd {ds : List Int} {j : Nat} (h : j < ds.length) : atI (ds.map V.int) ((j : Nat) : Int) = some (.int (ds.getD j 0)) := atI_nat (getD_at h)
theorem gb {ds : List Int} (al : ∀ x ∈ ds, 0 ≤ x ∧ x < 1000) {j : Nat} (h : j < ds.length) : 0 ≤ ds.getD j 0 ∧ ds.getD j 0 < 1000 := by
  rw [List.getD_eq_getElem?_getD, List.getElem?_eq_getElem h]
  exact al _ (List.getElem_mem h)
theorem cut_from (ds : List Int) (k : Nat) : cutV (ds.map V.int) (some (k : Int)) none = (ds.drop k).map V.int := by
  unfold cutV
  rw [HT.sIx_nat, HT.sIx_none, List.length_map]
  rcases Nat.le_total k ds.length with h | h
  · rw [Nat.min_eq_left h, List.take_of_length_le (by rw [List.length_drop, List.length_map]; exact Nat.le_refl _), List.map_drop]
  · rw [Nat.min_eq_right h, List.drop_eq_nil_of_le h]
    simp
theorem drop_all {ds : List Int} (al : ∀ x ∈ ds, 0 ≤ x ∧ x < 1000) (k : Nat) : ∀ x ∈ ds.drop k, 0 ≤ x ∧ x < 1000 := fun x hx => al x (List.mem_of_mem_drop hx)
def NB (xs : List Int) : Prop := ∀ z ∈ xs, 0 ≤ z ∧ z ≤ 100000
theorem NB.app {xs ys : List Int} (h1 : NB xs) (h2 : NB ys) : NB (xs ++ ys) := fun z hz => (List.mem_append.mp hz).elim (h1 z) (h2 z)
theorem NB.cons {x : Int} {xs : List Int} (h1 : 0 ≤ x ∧ x ≤ 100000) (h2 : NB xs) : NB (x :: xs) := fun z hz => by
  rcases List.mem_cons.mp hz with e | e
  · rw [e]
    exact h1
  · exact h2 z e
theorem NB.nil : NB [] := fun z hz => by cases hz
theorem NB.flat {β : Type} {f : β → List Int} {D : List β} (h : ∀ e ∈ D, NB (f e)) : NB (D.flatMap f) := fun z hz => by
  obtain ⟨e, he, hz2⟩ := List.mem_flatMap.mp hz
  exact h e he z hz2
def Lb (z : Ln) : Prop := NB [z.1, z.2] ∧ LnOk z
theorem lns_nb {zs : List Ln} (h : ∀ z ∈ zs, Lb z) : NB (lnsN zs) := NB.flat fun z hz => (h z hz).1
def DL (H : Hp) (d : Addr) (ds : List Int) (n : Nat) : Prop := H d = some (.lst (ds.map V.int)) ∧ n ≤ ds.length ∧ ∀ x ∈ ds, 0 ≤ x ∧ x < 1000
theorem DL.same {H H' : Hp} {d : Addr} {ds : List Int} {n : Nat} (h : DL H d ds n) (s : Same H H') : DL H' d ds n := ⟨s _ _ h.1, h.2⟩
theorem DL.le {H : Hp} {d : Addr} {ds : List Int} {n m : Nat} (h : DL H d ds n) (l : m ≤ n) : DL H d ds m := ⟨h.1, by have := h.2.1; omega, h.2.2⟩
theorem DL.at_ {H : Hp} {d : Addr} {ds : List Int} {n j : Nat} (h : DL H d ds n) (hj : j < n) : atI (ds.map V.int) ((j : Nat) : Int) = some (.int (ds.getD j 0)) := gd (by have := h.2.1; omega)
theorem DL.bd {H : Hp} {d : Addr} {ds : List Int} {n j : Nat} (h : DL H d ds n) (hj : j < n) : 0 ≤ ds.getD j 0 ∧ ds.getD j 0 < 1000 := gb h.2.2 (by have := h.2.1; omega)
theorem DL.cut {H : Hp} {d : Addr} {ds : List Int} {n k : Nat} (h : DL H d ds (n + k)) {p : Addr} (hp : H p = none) : DL (upd H p (.lst ((ds.drop k).map V.int))) p (ds.drop k) n :=
  ⟨upd_same, by rw [List.length_drop]; have := h.2.1; omega, drop_all h.2.2 k⟩
def wdB (w : List Nat) : Bool := decide (2 ≤ w.length) && decide (w.length ≤ 8) && w.all fun c => ("abcdefghijklmnopqrstuvwxyz" : Str).cps.toList.contains c && decide (c ≤ 1000)
theorem wdB_ok {w : List Nat} (h : wdB w = true) : WdOk w := by
  unfold wdB at h
  rw [Bool.and_eq_true, Bool.and_eq_true] at h
  refine ⟨of_decide_eq_true h.1.1, of_decide_eq_true h.1.2, fun c hc => ?_⟩
  have := List.all_eq_true.mp h.2 c hc
  rw [Bool.and_eq_true] at this
  exact ⟨List.contains_iff_mem.mp this.1, of_decide_eq_true this.2⟩
def spLine (K : PySem.W.Frag) : Sp := fun vs H Q _ => ∃ (x : Int), vs = [.int x] ∧ 0 ≤ x ∧ ∀ (p : Addr) (H' : Hp) (z : Ln), Same H H' → H' p = some (.tup [.int z.1, .int z.2]) → Lb z → Q (.ref p) H'
theorem okLawLine (T : Txt K mg) : FnOk P w K mg base CX0 1 T.fLawLine T.fdLawLine ["_law_digit"] (spLine K) := by
  refine T.FLawLine.ok scLawLine (fun vs H Q E h => ?_) (fun cdv A outer s H vs Q E hr h => ?_)
  · obtain ⟨x, rfl, _⟩ := h
    rfl
  · obtain ⟨x, rfl, hx, q⟩ := h
    -- slots _law_digit=0
    refine ⟨_, (pss_cons (ps_if (pt_cmpR op_eq (pe_op op_mod (pe_callTy call_int1 (by rfl) T.z_int (by decide +kernel) (pa_cons (pv 0) pa_nil)) pe_int) pe_int (nomark _))
          (pss_one (ps_ret (pe_tup (pa_cons (pe_op op_add pe_int (pe_op op_mod (pe_callTy call_int1 (by rfl) T.z_int (by decide +kernel) (pa_cons (pe_op op_fdiv (pv 0) pe_int) pa_nil)) pe_int)) (pa_cons (pe_op op_add pe_int (pe_op op_mod (pe_callTy call_int1 (by rfl) T.z_int (by decide +kernel) (pa_cons (pe_op op_fdiv (pv 0) pe_int) pa_nil)) pe_int)) pa_nil)))))
          pss_nil)
        (pss_one (ps_ret (pe_tup (pa_cons pe_int (pa_cons (pe_op op_add pe_int (pe_op op_mod (pe_callTy call_int1 (by rfl) T.z_int (by decide +kernel) (pa_cons (pe_op op_fdiv (pv 0) pe_int) pa_nil)) pe_int)) pa_nil)))))), ?_⟩
    refine ⟨_, rfl, .inl ⟨_, rfl, _, _, rfl, rfl, (by show (0 : Int) < _; decide), rfl, _, rfl, ite2 (fun _ => ?_) (fun _ => ?_)⟩⟩
    · refine ⟨_, rfl, _, _, rfl, rfl, ⟨by decide, by decide⟩, .inl ⟨_, rfl, _, _, rfl, rfl, (by show (0 : Int) < _; decide), _, _, rfl, rfl, _, rfl, _, _, rfl, rfl, ⟨by decide, by decide⟩, .inl ⟨_, rfl, _, _, rfl, rfl, (by show (0 : Int) < _; decide), _, _, rfl, rfl, (by show 2 ≤ sizeLine; decide), fun p hp => ?_⟩⟩⟩
      exact q p _ (1 + x / 3 % 4, 1 + x / 12 % 9) (same_new hp) upd_same ⟨.cons (by omega) (.cons (by omega) .nil), (by show (0 ≤ 1 + x / 3 % 4 ∧ 1 + x / 3 % 4 ≤ 4) ∧ (0 ≤ 1 + x / 12 % 9 ∧ 1 + x / 12 % 9 ≤ 100000); omega)⟩
    · refine ⟨_, rfl, _, _, rfl, rfl, ⟨by decide, by decide⟩, .inl ⟨_, rfl, _, _, rfl, rfl, (by show (0 : Int) < _; decide), _, _, rfl, rfl, (by show 2 ≤ sizeLine; decide), fun p hp => ?_⟩⟩
      exact q p _ (0, 1 + x / 3 % 6) (same_new hp) upd_same ⟨.cons (by show (0 : Int) ≤ 0 ∧ (0 : Int) ≤ 100000; decide) (.cons (by omega) .nil), (by show ((0 : Int) ≤ 0 ∧ (0 : Int) ≤ 4) ∧ (0 ≤ 1 + x / 3 % 6 ∧ 1 + x / 3 % 6 ≤ 100000); omega)⟩
def spBlk (K : PySem.W.Frag) : Sp := fun vs H Q _ => ∃ (d : Addr) (ds : List Int), vs = [.ref d] ∧ DL H d ds 4 ∧ ∀ (v : V) (H' : Hp) (b : Ln × Ln × Ln × Ln), Same H H' → Dp K H' v (blkD b) → (∀ z ∈ blkL b, Lb z) → Q v H'
theorem dpl {K : PySem.W.Frag} {H : Hp} {p : Addr} {z : Ln} (h : H p = some (.tup [.int z.1, .int z.2])) : Dp K H (.ref p) (idD z) := dp_id h
theorem okLawBlock (T : Txt K mg) : FnOk P w K mg base CX0 2 T.fLawBlock T.fdLawBlock ["_law_d"] (spBlk K) := by
  refine T.FLawBlock.ok scLawBlock (fun vs H Q E h => ?_) (fun cdv A outer s H vs Q E hr h => ?_)
  · obtain ⟨d, ds, rfl, _⟩ := h
    rfl
  · obtain ⟨d, ds, rfl, D, q⟩ := h
    -- slots _law_d=0
    refine ⟨_, (pss_one (ps_ret (pe_tup (pa_cons (pe_call (okLawLine T) (hr.mono (by decide)) (by rfl) T.gLawLine T.FLawLine.kp T.bLawLine .nil pass0 (pa_cons (pe_ix ix_list (pv 0) pe_int (fun _ _ => rfl)) pa_nil)) (pa_cons (pe_call (okLawLine T) (hr.mono (by decide)) (by rfl) T.gLawLine T.FLawLine.kp T.bLawLine .nil pass0 (pa_cons (pe_ix ix_list (pv 0) pe_int (fun _ _ => rfl)) pa_nil)) (pa_cons (pe_call (okLawLine T) (hr.mono (by decide)) (by rfl) T.gLawLine T.FLawLine.kp T.bLawLine .nil pass0 (pa_cons (pe_ix ix_list (pv 0) pe_int (fun _ _ => rfl)) pa_nil)) (pa_cons (pe_call (okLawLine T) (hr.mono (by decide)) (by rfl) T.gLawLine T.FLawLine.kp T.bLawLine .nil pass0 (pa_cons (pe_ix ix_list (pv 0) pe_int (fun _ _ => rfl)) pa_nil)) pa_nil))))))), ?_⟩
    refine ⟨_, rfl, d, _, _, _, rfl, rfl, SqL.of D.1, D.at_ (j := 0) (by decide), _, rfl, (D.bd (j := 0) (by decide)).1, fun p1 H1 z1 s1 h1 b1 => ?_⟩
    have D1 := D.same s1
    refine ⟨_, rfl, d, _, _, _, rfl, rfl, SqL.of D1.1, D1.at_ (j := 1) (by decide), _, rfl, (D.bd (j := 1) (by decide)).1, fun p2 H2 z2 s2 h2 b2 => ?_⟩
    have D2 := D1.same s2
    refine ⟨_, rfl, d, _, _, _, rfl, rfl, SqL.of D2.1, D2.at_ (j := 2) (by decide), _, rfl, (D.bd (j := 2) (by decide)).1, fun p3 H3 z3 s3 h3 b3 => ?_⟩
    have D3 := D2.same s3
    refine ⟨_, rfl, d, _, _, _, rfl, rfl, SqL.of D3.1, D3.at_ (j := 3) (by decide), _, rfl, (D.bd (j := 3) (by decide)).1, fun p4 H4 z4 s4 h4 b4 => ⟨(by show 4 ≤ sizeLine; decide), fun p hp => ?_⟩⟩
    have s5 := same_new (o := .tup [.ref p1, .ref p2, .ref p3, .ref p4]) hp
    have s45 := s4.trans s5
    have s35 := s3.trans s45
    refine q (.ref p) _ (z1, z2, z3, z4) (s1.trans (s2.trans s35)) (.tup (SqT.of upd_same) (.cons (dpl ((s2.trans s35) _ _ h1)) (.cons (dpl (s35 _ _ h2)) (.cons (dpl (s45 _ _ h3)) (.cons (dpl (s5 _ _ h4)) .nil))))) fun z hz => ?_
    simp only [blkL, List.mem_cons, List.not_mem_nil, or_false] at hz
    rcases hz with rfl | rfl | rfl | rfl
    · exact b1
    · exact b2
    · exact b3
    · exact b4
structure WfA (a : KA) : Prop where
  len : a.n.length ≤ 20
  nb : NB a.n
  val : a.val
def spArea (K : PySem.W.Frag) : Sp := fun vs H Q _ => ∃ (d : Addr) (ds : List Int), vs = [.ref d] ∧ DL H d ds 5 ∧ ∀ (v : V) (H' : Hp) (a : KA), Same H H' → Dp K H' v a.d → WfA a → Q v H'
theorem str_nb {s : Str} (h : s.cps.toList.all (fun c => decide (c ≤ 1000)) = true) (hl : s.cps.toList.length ≤ 1000) : NB (strN s.cps.toList) := by
  refine .cons (by omega) fun z hz => ?_
  obtain ⟨c, hc, rfl⟩ := List.mem_map.mp hz
  have := of_decide_eq_true (List.all_eq_true.mp h c hc)
  omega
theorem okLawArea (T : Txt K mg) : FnOk P w K mg base CX0 2 T.fLawArea T.fdLawArea ["_law_d"] (spArea K) := by
  refine T.FLawArea.ok scLawArea (fun vs H Q E h => ?_) (fun cdv A outer s H vs Q E hr h => ?_)
  · obtain ⟨d, ds, rfl, _⟩ := h
    rfl
  · obtain ⟨d, ds, rfl, D, q⟩ := h
    -- slots _law_d=0 _law_kind=1
    refine ⟨_, (pss_cons (ps_set (i := 1) scLawArea.nd rfl (Or.inl rfl) (pe_op op_mod (pe_callTy call_int1 (by rfl) T.z_int (by decide +kernel) (pa_cons (pe_ix ix_list (pv 0) pe_int (fun _ _ => rfl)) pa_nil)) pe_int))
        (pss_cons (ps_if (pt_cmpR op_eq (pv 1) pe_int (nomark _))
          (pss_one (ps_ret (pe_tup (pa_cons pe_str pa_nil))))
          pss_nil)
        (pss_cons (ps_if (pt_cmpR op_eq (pv 1) pe_int (nomark _))
          (pss_one (ps_ret (pe_tup (pa_cons pe_str (pa_cons (pe_ix ix_list (pe_lst (pa_cons pe_str (pa_cons pe_str (pa_cons pe_str pa_nil)))) (pe_op op_mod (pe_callTy call_int1 (by rfl) T.z_int (by decide +kernel) (pa_cons (pe_ix ix_list (pv 0) pe_int (fun _ _ => rfl)) pa_nil)) pe_int) (fun _ _ => rfl)) pa_nil)))))
          pss_nil)
        (pss_one (ps_ret (pe_tup (pa_cons pe_str (pa_cons (pe_call (okLawLine T) (hr.mono (by decide)) (by rfl) T.gLawLine T.FLawLine.kp T.bLawLine .nil pass0 (pa_cons (pe_ix ix_list (pv 0) pe_int (fun _ _ => rfl)) pa_nil)) (pa_cons (pe_call (okLawLine T) (hr.mono (by decide)) (by rfl) T.gLawLine T.FLawLine.kp T.bLawLine .nil pass0 (pa_cons (pe_ix ix_list (pv 0) pe_int (fun _ _ => rfl)) pa_nil)) (pa_cons (pe_call (okLawLine T) (hr.mono (by decide)) (by rfl) T.gLawLine T.FLawLine.kp T.bLawLine .nil pass0 (pa_cons (pe_ix ix_list (pv 0) pe_int (fun _ _ => rfl)) pa_nil)) (pa_cons (pe_call (okLawLine T) (hr.mono (by decide)) (by rfl) T.gLawLine T.FLawLine.kp T.bLawLine .nil pass0 (pa_cons (pe_ix ix_list (pv 0) pe_int (fun _ _ => rfl)) pa_nil)) pa_nil))))))))))), ?_⟩
    refine ⟨_, rfl, d, _, _, _, rfl, rfl, SqL.of D.1, D.at_ (j := 4) (by decide), .inl ⟨_, rfl, _, _, rfl, rfl, (by show (0 : Int) < _; decide), ?_⟩⟩
    refine ⟨_, rfl, rfl, _, rfl, ite2 (fun _ => ?_) (fun _ => ?_)⟩
    · exact ⟨(by show 1 ≤ sizeLine; decide), fun p hp => q _ _ .gone (same_new hp) (.tup (SqT.of upd_same) (.cons (.str _) .nil)) ⟨by decide, .cons (by decide) .nil, trivial⟩⟩
    refine ⟨_, rfl, rfl, _, rfl, ite2 (fun _ => ?_) (fun _ => ?_)⟩
    · refine ⟨(by show 3 ≤ sizeLine; decide), fun l hl => ?_⟩
      have s1 := same_new (o := .lst [.str "total", .str "best", .str "ab"]) hl
      have D1 := D.same s1
      have b0 := D.bd (j := 0) (by decide)
      obtain ⟨w, hw, ew⟩ := item_by V.str (xs := ["total", "best", "ab"]) (k := ds.getD 0 0 % 3) (by omega) (by show _ < (3 : Int); omega)
      have all : ∀ v ∈ (["total", "best", "ab"] : List Str), v.cps.toList.length ≤ 9 ∧ v.cps.toList.all (fun c => decide (c ≤ 1000)) = true ∧ wdB v.cps.toList = true := by decide +kernel
      obtain ⟨w1, w2, w3⟩ := all w hw
      refine ⟨_, rfl, d, _, _, _, rfl, rfl, SqL.of D1.1, D1.at_ (j := 0) (by decide), .inl ⟨_, rfl, _, _, rfl, rfl, (by show (0 : Int) < _; decide), l, _, _, .str w, rfl, rfl, SqL.of upd_same, ew, (by show 2 ≤ sizeLine; decide), fun p hp => ?_⟩⟩
      refine q _ _ (.name w.cps.toList) (s1.trans (same_new hp)) (.tup (SqT.of upd_same) (.cons (.str _) (.cons (by rw [S_self]; exact .str _) .nil))) ⟨?_, .cons (by decide) (str_nb w2 (by omega)), wdB_ok w3⟩
      show (strN w.cps.toList).length + 1 ≤ 20
      rw [strN_len]
      omega
    refine ⟨_, rfl, d, _, _, _, rfl, rfl, SqL.of D.1, D.at_ (j := 0) (by decide), _, rfl, (D.bd (j := 0) (by decide)).1, fun p1 H1 z1 s1 h1 b1 => ?_⟩
    have D1 := D.same s1
    refine ⟨_, rfl, d, _, _, _, rfl, rfl, SqL.of D1.1, D1.at_ (j := 1) (by decide), _, rfl, (D.bd (j := 1) (by decide)).1, fun p2 H2 z2 s2 h2 b2 => ?_⟩
    have D2 := D1.same s2
    refine ⟨_, rfl, d, _, _, _, rfl, rfl, SqL.of D2.1, D2.at_ (j := 2) (by decide), _, rfl, (D.bd (j := 2) (by decide)).1, fun p3 H3 z3 s3 h3 b3 => ?_⟩
    have D3 := D2.same s3
    refine ⟨_, rfl, d, _, _, _, rfl, rfl, SqL.of D3.1, D3.at_ (j := 3) (by decide), _, rfl, (D.bd (j := 3) (by decide)).1, fun p4 H4 z4 s4 h4 b4 => ⟨(by show 5 ≤ sizeLine; decide), fun p hp => ?_⟩⟩
    have s5 := same_new (o := .tup [.str "block", .ref p1, .ref p2, .ref p3, .ref p4]) hp
    have s45 := s4.trans s5
    have s35 := s3.trans s45
    refine q (.ref p) _ (.block z1 z2 z3 z4) (s1.trans (s2.trans s35)) (.tup (SqT.of upd_same) (.cons (.str _) (.cons (dpl ((s2.trans s35) _ _ h1)) (.cons (dpl (s35 _ _ h2)) (.cons (dpl (s45 _ _ h3)) (.cons (dpl (s5 _ _ h4)) .nil)))))) ⟨?_, .cons (by decide) (lns_nb fun z hz => ?_), b1.2, b2.2, b3.2, b4.2⟩
    · show (lnsN [z1, z2, z3, z4]).length + 1 ≤ 20
      rw [lns_len]
      show 2 * 4 + 1 ≤ 20
      decide
    simp only [List.mem_cons, List.not_mem_nil, or_false] at hz
    rcases hz with rfl | rfl | rfl | rfl
    · exact b1
    · exact b2
    · exact b3
    · exact b4
end
end My
namespace My
open PySem PySem.Spec PyProof.Rows L2 RZ
section
variable {P : Program} {w : World} {K : PySem.W.Frag} {mg : Str → Option Value} {base : Heap}
open L2H
open SX (S S_len S_cat slice_to slice_from num_S int_S)
open PySem.NumText (digitsVal AllDigits)
open TL (numL)
def spLow (K : PySem.W.Frag) : Sp := fun vs H Q _ => ∃ (n g : Int), vs = [.int n, .int g] ∧ ∀ (p : Addr) (H' : Hp) (x y : Int), Same H H' → H' p = some (.tup [.int x, .int y]) → (x = n ∨ x = 2 * n + 1) → (1 ≤ y ∧ y ≤ 2) → Q (.ref p) H'
theorem okLawLowest (T : Txt K mg) : FnOk P w K mg base CX0 1 T.fLawLowest T.fdLawLowest ["_law_n", "_law_digit"] (spLow K) := by
  refine T.FLawLowest.ok scLawLowest (fun vs H Q E h => ?_) (fun cdv A outer s H vs Q E hr h => ?_)
  · obtain ⟨n, g, rfl, _⟩ := h
    rfl
  · obtain ⟨n, g, rfl, q⟩ := h
    -- slots _law_n=0 _law_digit=1
    refine ⟨_, (pss_cons (ps_if (pt_cmpR op_eq (pe_op op_mod (pe_callTy call_int1 (by rfl) T.z_int (by decide +kernel) (pa_cons (pv 1) pa_nil)) pe_int) pe_int (nomark _))
          (pss_one (ps_ret (pe_tup (pa_cons (pv 0) (pa_cons pe_int pa_nil)))))
          pss_nil)
        (pss_one (ps_ret (pe_tup (pa_cons (pe_op op_add (pe_op op_mul pe_int (pv 0)) pe_int) (pa_cons pe_int pa_nil)))))), ?_⟩
    refine ⟨_, rfl, .inl ⟨_, rfl, _, _, rfl, rfl, (by show (0 : Int) < _; decide), rfl, _, rfl, ite2 (fun _ => ?_) (fun _ => ?_)⟩⟩
    · exact ⟨_, rfl, (by show 2 ≤ sizeLine; decide), fun p hp => q p _ n 1 (same_new hp) upd_same (.inl rfl) (by decide)⟩
    · exact ⟨_, rfl, _, _, rfl, rfl, .inl ⟨by decide, by decide⟩, _, _, rfl, rfl, (by show 2 ≤ sizeLine; decide), fun p hp => q p _ (2 * n + 1) 2 (same_new hp) upd_same (.inr rfl) (by decide)⟩
structure WfT (m k : Nat) (t : KT) : Prop where
  len : t.n.length ≤ m
  nb : NB t.n
  ok : t.ok
  h : t.h ≤ k
  val : t.val
  pt : t.parts ≤ 4 + 5 * k
theorem frN_nb {x y : Int} (hx : -5000 ≤ x ∧ x ≤ 5000) (hy : 0 ≤ y ∧ y ≤ 5000) : NB (frN x y) := by
  refine .cons ?_ (.cons (by omega) .nil)
  split <;> omega
def spLeaf (K : PySem.W.Frag) : Sp := fun vs H Q _ => ∃ (d : Addr) (ds : List Int), vs = [.ref d] ∧ DL H d ds 9 ∧ ∀ (v : V) (H' : Hp) (t : KT), Same H H' → Dp K H' v t.d → WfT 70 0 t → Q v H'
theorem flat_nb {β : Type} {f : β → List Int} {b : Nat} {D : List β} (h : ∀ e ∈ D, (f e).length ≤ b) : (D.flatMap f).length ≤ D.length * b := flat_bd h
theorem wf_call {i : Nat} {as : List KA} (hi : i < 4) (hl : as.length ≤ 3) (wf : ∀ a ∈ as, WfA a) : WfT 70 0 (.call i as) := by
  have h1 := flat_bd (f := KA.n) (b := 20) fun a ha => (wf a ha).len
  have h2 := Nat.mul_le_mul_right 20 hl
  refine ⟨?_, .cons (by decide) (.cons (by omega) (.cons (by omega) (.flat fun a ha => (wf a ha).nb))), hi, Nat.le_refl _, ⟨by omega, fun a ha => (wf a ha).val⟩, by show as.length + 1 ≤ 4; omega⟩
  rw [call_len]
  omega
theorem okLawLeaf (T : Txt K mg) : FnOk P w K mg base CX0 3 T.fLawLeaf T.fdLawLeaf ["_law_d"] (spLeaf K) := by
  refine T.FLawLeaf.ok scLawLeaf (fun vs H Q E h => ?_) (fun cdv A outer s H vs Q E hr h => ?_)
  · obtain ⟨d, ds, rfl, _⟩ := h
    rfl
  · obtain ⟨d, ds, rfl, D, q⟩ := h
    -- slots _law_d=0 _law_kind=1 _law_areas=2 _law_j=3
    refine ⟨_, (pss_cons (ps_set (i := 1) scLawLeaf.nd rfl (Or.inl rfl) (pe_op op_mod (pe_callTy call_int1 (by rfl) T.z_int (by decide +kernel) (pa_cons (pe_ix ix_list (pv 0) pe_int (fun _ _ => rfl)) pa_nil)) pe_int))
        (pss_cons (ps_if (pt_cmpR op_eq (pv 1) pe_int (nomark _))
          (pss_one (ps_ret (pe_tup (pa_cons pe_str (pa_cons (pe_call (okLawLowest T) (hr.mono (by decide)) (by rfl) T.gLawLowest T.FLawLowest.kp T.bLawLowest .nil pass0 (pa_cons (pe_callTy call_int1 (by rfl) T.z_int (by decide +kernel) (pa_cons (pe_ix ix_list (pv 0) pe_int (fun _ _ => rfl)) pa_nil)) (pa_cons (pe_ix ix_list (pv 0) pe_int (fun _ _ => rfl)) pa_nil))) pa_nil)))))
          pss_nil)
        (pss_cons (ps_if (pt_cmpR op_eq (pv 1) pe_int (nomark _))
          (pss_one (ps_ret (pe_tup (pa_cons pe_str (pa_cons (pe_call (okLawLine T) (hr.mono (by decide)) (by rfl) T.gLawLine T.FLawLine.kp T.bLawLine .nil pass0 (pa_cons (pe_ix ix_list (pv 0) pe_int (fun _ _ => rfl)) pa_nil)) (pa_cons (pe_call (okLawLine T) (hr.mono (by decide)) (by rfl) T.gLawLine T.FLawLine.kp T.bLawLine .nil pass0 (pa_cons (pe_ix ix_list (pv 0) pe_int (fun _ _ => rfl)) pa_nil)) pa_nil))))))
          pss_nil)
        (pss_cons (ps_if (pt_cmpR op_eq (pv 1) pe_int (nomark _))
          (pss_one (ps_ret (pe_tup (pa_cons pe_str pa_nil))))
          pss_nil)
        (pss_cons (ps_setLc (i := 2) (own := [("_law_j", 3)]) (g := gName 3) (tt := tYes) rfl scLawLeaf.nd rfl rfl (sw_true rfl rfl rfl (by decide +kernel)) (pi_range1 rfl T.z_range (pa_cons (pe_op op_add pe_int (pe_op op_mod (pe_callTy call_int1 (by rfl) T.z_int (by decide +kernel) (pa_cons (pe_ix (ix_listK (K := K) rfl) (pv 0) pe_int (fun _ _ => rfl)) pa_nil)) pe_int)) pa_nil)) (blkOk_by (own := [("_law_j", 3)]) (N := ["_law_d", "_law_kind", "_law_areas", "_law_j"]) (sc := defScope sLawLeaf) (by decide +kernel)) (fun _ _ _ _ _ => (pg_name (i := 3) scLawLeaf.nd rfl (Or.inl rfl))) (fun _ _ _ _ _ => pts_nil) (fun _ _ _ _ _ => (pe_call (okLawArea T) (hr.mono (by decide)) (by rfl) T.gLawArea T.FLawArea.kp T.bLawArea .nil pass0 (pa_cons (pe_slice (sl_listK (K := K) rfl) (pv 0) (po_some (pe_op op_add pe_int (pv 3))) po_none) pa_nil))))
        (pss_one (ps_ret (pe_tup (pa_cons pe_str (pa_cons (pe_ix ix_list (pe_lst (pa_cons pe_str (pa_cons pe_str (pa_cons pe_str (pa_cons pe_str pa_nil))))) (pe_op op_mod (pe_callTy call_int1 (by rfl) T.z_int (by decide +kernel) (pa_cons (pe_ix ix_list (pv 0) pe_int (fun _ _ => rfl)) pa_nil)) pe_int) (fun _ _ => rfl)) (pa_cons (pe_callTy call_tuple_of (by rfl) T.z_tuple (by decide +kernel) (pa_cons (pv 2) pa_nil)) pa_nil))))))))))), ?_⟩
    refine ⟨_, rfl, d, _, _, _, rfl, rfl, SqL.of D.1, D.at_ (j := 0) (by decide), .inl ⟨_, rfl, _, _, rfl, rfl, (by show (0 : Int) < _; decide), ?_⟩⟩
    have b1 := D.bd (j := 1) (by decide)
    have b2 := D.bd (j := 2) (by decide)
    refine ⟨_, rfl, rfl, _, rfl, ite2 (fun _ => ?_) (fun _ => ?_)⟩
    · refine ⟨_, rfl, d, _, _, _, rfl, rfl, SqL.of D.1, D.at_ (j := 1) (by decide), .inl ⟨_, rfl, _, rfl, d, _, _, _, rfl, rfl, SqL.of D.1, D.at_ (j := 2) (by decide), _, _, rfl, fun p H1 x y s1 hp hx hy => ⟨(by show 2 ≤ sizeLine; decide), fun u hu => ?_⟩⟩⟩
      have s2 := same_new (o := .tup [.str "num", .ref p]) hu
      refine q _ _ (.num x y) (s1.trans s2) (.tup (SqT.of upd_same) (.cons (.str _) (.cons (.tup (SqT.of (s2 _ _ hp)) (.cons (.int _) (.cons (.int _) .nil))) .nil))) ⟨(by show 1 + 2 ≤ 70; decide), .cons (by decide) (frN_nb (by omega) (by omega)), trivial, Nat.le_refl _, ⟨by omega, by omega⟩, (by show 1 ≤ 4; decide)⟩
    refine ⟨_, rfl, rfl, _, rfl, ite2 (fun _ => ?_) (fun _ => ?_)⟩
    · refine ⟨_, rfl, d, _, _, _, rfl, rfl, SqL.of D.1, D.at_ (j := 1) (by decide), _, rfl, b1.1, fun p1 H1 z1 s1 h1 c1 => ?_⟩
      have D1 := D.same s1
      refine ⟨_, rfl, d, _, _, _, rfl, rfl, SqL.of D1.1, D1.at_ (j := 2) (by decide), _, rfl, b2.1, fun p2 H2 z2 s2 h2 c2 => ⟨(by show 3 ≤ sizeLine; decide), fun p hp => ?_⟩⟩
      have s3 := same_new (o := .tup [.str "cell", .ref p1, .ref p2]) hp
      refine q _ _ (.cell z1 z2) (s1.trans (s2.trans s3)) (.tup (SqT.of upd_same) (.cons (.str _) (.cons (dpl ((s2.trans s3) _ _ h1)) (.cons (dpl (s3 _ _ h2)) .nil)))) ⟨?_, .cons (by decide) (lns_nb fun z hz => ?_), trivial, Nat.le_refl _, ⟨c1.2, c2.2⟩, (by show 1 ≤ 4; decide)⟩
      · show (lnsN [z1, z2]).length + 1 ≤ 70
        rw [lns_len]
        show 2 * 2 + 1 ≤ 70
        decide
      · simp only [List.mem_cons, List.not_mem_nil, or_false] at hz
        rcases hz with rfl | rfl
        · exact c1
        · exact c2
    refine ⟨_, rfl, rfl, _, rfl, ite2 (fun _ => ?_) (fun _ => ?_)⟩
    · exact ⟨(by show 1 ≤ sizeLine; decide), fun p hp => q _ _ .gone (same_new hp) (.tup (SqT.of upd_same) (.cons (.str _) .nil)) ⟨(by show 1 ≤ 70; decide), .cons (by decide) .nil, trivial, Nat.le_refl _, trivial, (by show 1 ≤ 4; decide)⟩⟩
    refine ⟨_, rfl, d, _, _, _, rfl, rfl, SqL.of D.1, D.at_ (j := 1) (by decide), .inl ⟨_, rfl, _, _, rfl, rfl, (by show (0 : Int) < _; decide), _, _, rfl, rfl, 1 + ds.getD 1 0 % 3, rfl, by omega, by omega, fun N hN => ?_⟩⟩
    refine lc_it (walk_range (lo := 0) (n := (1 + ds.getD 1 0 % 3).toNat)) (fun j H' => Same H H' ∧ ∃ (us : List V) (as : List KA), H' N = some (.lst us) ∧ DpAll K H' us (as.map KA.d) ∧ as.length = j ∧ ∀ a ∈ as, WfA a) ⟨same_new hN, [], [], upd_same, .nil, rfl, fun a ha => by cases ha⟩ (fun _ _ _ _ => True.intro) ?_ ?_
    · rintro j x H9 H1 hj ⟨s1, us, as, hN1, dp, al, wf⟩ ⟨rfl, rfl⟩
      refine ⟨rfl, yesT ⟨_, rfl, _, rfl, _, _, rfl, rfl, 1 + (0 + (j : Int)), rfl, d, ds.map V.int, rfl, SqL.of (s1 _ _ D.1), fun p hp => ?_⟩⟩
      have ej : (1 : Int) + (0 + (j : Int)) = ((1 + j : Nat) : Int) := by omega
      rw [ej, cut_from]
      have s2 := same_new (o := .lst ((ds.drop (1 + j)).map V.int)) hp
      refine ⟨p, _, rfl, DL.cut (n := 5) (k := 1 + j) ((D.same s1).le (by omega)) hp, fun v H2 a s3 da wa => ?_⟩
      have s23 := s2.trans s3
      have hN2 := s23 _ _ hN1
      have dp2 := dpA_snoc da (dpAll_same s23 dp)
      refine ⟨us, hN2, ?_, same_mut (s1.trans s23) hN, us ++ [v], as ++ [a], upd_same, ?_, ?_, ?_⟩
      · rw [dpA_len dp, List.length_map]
        exact small1000 (by omega)
      · rw [List.map_append]
        exact dpA_tk (TR.mut hN2) (by have := nlA_map nl_KA (as ++ [a]); rwa [List.map_append] at this) dp2
      · rw [List.length_append, al]
        rfl
      · intro b hb
        rcases List.mem_append.mp hb with z | z
        · exact wf b z
        · rw [List.mem_singleton.mp z]
          exact wa
    rintro H1 ⟨s1, us, as, hN1, dp, al, wf⟩
    have D1 := D.same s1
    obtain ⟨i, ei, hi⟩ : ∃ i : Nat, ds.getD 2 0 % 4 = (i : Int) ∧ i < 4 := ⟨(ds.getD 2 0 % 4).toNat, by omega, by omega⟩
    refine ⟨(by show 4 ≤ sizeLine; decide), fun l hl => ?_⟩
    have s2 := same_new (o := .lst [.str "sum", .str "count", .str "min", .str "max"]) hl
    have D2 := D1.same s2
    refine ⟨_, rfl, d, _, _, _, rfl, rfl, SqL.of D2.1, D2.at_ (j := 2) (by decide), .inl ⟨_, rfl, _, _, rfl, rfl, (by show (0 : Int) < _; decide), l, _, _, _, rfl, rfl, SqL.of upd_same, by rw [ei]; exact atI_nat (call_at hi), _, rfl, N, us, rfl, .inl ⟨SqL.of (s2 _ _ hN1), fun b hb => ⟨(by show 3 ≤ sizeLine; decide), fun p hp => ?_⟩⟩⟩⟩
    have s3 := same_new (o := .tup us) hb
    have s4 := same_new (o := .tup [.str "call", .str (callsL.getD i ""), .ref b]) hp
    exact q _ _ (.call i as) (s1.trans (s2.trans (s3.trans s4))) (.tup (SqT.of upd_same) (.cons (.str _) (.cons (.str _) (.cons (.tup (SqT.of (s4 _ _ upd_same)) (dpAll_same (s2.trans (s3.trans s4)) dp)) .nil)))) (wf_call hi (by omega) wf)
def spTree (K : PySem.W.Frag) : Sp := fun vs H Q _ => ∃ (d : Addr) (ds : List Int), vs = [.ref d] ∧ DL H d ds 14 ∧ ∀ (v : V) (H' : Hp) (t : KT), Same H H' → Dp K H' v t.d → WfT 300 3 t → Q v H'
theorem sgn_at {i : Nat} (h : i < 4) : ∃ c : Nat, atI ("+-*/" : Str).cps.toList ((i : Nat) : Int) = some c ∧ (⟨#[c]⟩ : Str) = opsL.getD i "" := by
  refine ⟨[43, 45, 42, 47].getD i 0, ?_, ?_⟩ <;> rcases lt4 h with rfl | rfl | rfl | rfl <;> decide +kernel
theorem wf_neg {m h : Nat} {t : KT} (w : WfT m h t) : WfT (m + 72) (h + 1) (.neg t) :=
  ⟨by have := w.len; show t.n.length + 1 ≤ _; omega, .cons (by decide) w.nb, w.ok, Nat.succ_le_succ w.h, w.val, (by have := w.pt; show t.parts + 1 ≤ _; omega)⟩
theorem wf_op {m h i : Nat} {l r : KT} (hi : i < 4) (len : l.n.length + r.n.length ≤ m + 70) (nl : NB l.n) (nr : NB r.n) (ol : l.ok) (or : r.ok) (hl : l.h ≤ h) (hr : r.h ≤ h) (vl : l.val) (vr : r.val) (pt : l.parts + r.parts ≤ 4 + 5 * h + 4) : WfT (m + 72) (h + 1) (.op i l r) := by
  refine ⟨?_, .app (.app (.cons (by decide) (.cons (by omega) .nil)) nl) nr, ⟨hi, ol, or⟩, ?_, ⟨vl, vr⟩, by show l.parts + r.parts + 1 ≤ _; omega⟩
  · rw [op_len]
    omega
  · show max l.h r.h + 1 ≤ h + 1
    omega
theorem wf_op1 {m h i : Nat} {l r : KT} (hi : i < 4) (wl : WfT m h l) (wr : WfT 70 0 r) : WfT (m + 72) (h + 1) (.op i l r) :=
  wf_op hi (Nat.add_le_add wl.len wr.len) wl.nb wr.nb wl.ok wr.ok wl.h (Nat.le_trans wr.h (Nat.zero_le _)) wl.val wr.val (by have := wl.pt; have := wr.pt; omega)
theorem wf_op2 {m h i : Nat} {l r : KT} (hi : i < 4) (wl : WfT 70 0 l) (wr : WfT m h r) : WfT (m + 72) (h + 1) (.op i l r) :=
  wf_op hi (by have := wl.len; have := wr.len; omega) wl.nb wr.nb wl.ok wr.ok (Nat.le_trans wl.h (Nat.zero_le _)) wr.h wl.val wr.val (by have := wl.pt; have := wr.pt; omega)
theorem WfT.eq {m m' h h' : Nat} {t : KT} (w : WfT m h t) (e : m = m') (e2 : h = h') : WfT m' h' t := by
  subst e e2
  exact w
theorem WfT.le {m m' h h' : Nat} {t : KT} (w : WfT m h t) (e : m ≤ m') (e2 : h ≤ h') : WfT m' h' t := ⟨Nat.le_trans w.len e, w.nb, w.ok, Nat.le_trans w.h e2, w.val, by have := w.pt; omega⟩
theorem okLawTree (T : Txt K mg) : FnOk P w K mg base CX0 4 T.fLawTree T.fdLawTree ["_law_d"] (spTree K) := by
  refine T.FLawTree.ok scLawTree (fun vs H Q E h => ?_) (fun cdv A outer s H vs Q E hr h => ?_)
  · obtain ⟨d, ds, rfl, _⟩ := h
    rfl
  · obtain ⟨d, ds, rfl, D, q⟩ := h
    -- slots _law_d=0 _law_tree_here=1 _law_j=2
    refine ⟨_, (pss_cons (ps_set (i := 1) scLawTree.nd rfl (Or.inl rfl) (pe_call (okLawLeaf T) (hr.mono (by decide)) (by rfl) T.gLawLeaf T.FLawLeaf.kp T.bLawLeaf .nil pass0 (pa_cons (pv 0) pa_nil)))
        (pss_cons (ps_for PassesOwn.never rfl (pi_range1 rfl T.z_range (pa_cons (pe_op op_mod (pe_callTy call_int1 (by rfl) T.z_int (by decide +kernel) (pa_cons (pe_ix ix_list (pv 0) pe_int (fun _ _ => rfl)) pa_nil)) pe_int) pa_nil)) (pg_name (i := 2) scLawTree.nd rfl (Or.inl rfl))
          (pss_one (ps_if (pt_cmpR op_eq (pe_op op_mod (pe_callTy call_int1 (by rfl) T.z_int (by decide +kernel) (pa_cons (pe_ix ix_list (pv 0) (pe_op op_add pe_int (pv 2)) (fun _ _ => rfl)) pa_nil)) pe_int) pe_int (nomark _))
            (pss_one (ps_set (i := 1) scLawTree.nd rfl (Or.inl rfl) (pe_tup (pa_cons pe_str (pa_cons (pv 1) pa_nil)))))
            (pss_one (ps_if (pt_cmpR op_eq (pe_op op_mod (pe_callTy call_int1 (by rfl) T.z_int (by decide +kernel) (pa_cons (pe_ix ix_list (pv 0) (pe_op op_add pe_int (pv 2)) (fun _ _ => rfl)) pa_nil)) pe_int) pe_int (nomark _))
              (pss_one (ps_set (i := 1) scLawTree.nd rfl (Or.inl rfl) (pe_tup (pa_cons pe_str (pa_cons (pe_ix ix_str pe_str (pe_op op_mod (pe_callTy call_int1 (by rfl) T.z_int (by decide +kernel) (pa_cons (pe_ix ix_list (pv 0) (pe_op op_add pe_int (pv 2)) (fun _ _ => rfl)) pa_nil)) pe_int) (fun _ _ => rfl)) (pa_cons (pv 1) (pa_cons (pe_call (okLawLeaf T) (hr.mono (by decide)) (by rfl) T.gLawLeaf T.FLawLeaf.kp T.bLawLeaf .nil pass0 (pa_cons (pe_slice sl_list (pv 0) (po_some (pe_op op_add pe_int (pv 2))) po_none) pa_nil)) pa_nil)))))))
              (pss_one (ps_set (i := 1) scLawTree.nd rfl (Or.inl rfl) (pe_tup (pa_cons pe_str (pa_cons (pe_ix ix_str pe_str (pe_op op_mod (pe_callTy call_int1 (by rfl) T.z_int (by decide +kernel) (pa_cons (pe_ix ix_list (pv 0) (pe_op op_add pe_int (pv 2)) (fun _ _ => rfl)) pa_nil)) pe_int) (fun _ _ => rfl)) (pa_cons (pe_call (okLawLeaf T) (hr.mono (by decide)) (by rfl) T.gLawLeaf T.FLawLeaf.kp T.bLawLeaf .nil pass0 (pa_cons (pe_slice sl_list (pv 0) (po_some (pe_op op_add pe_int (pv 2))) po_none) pa_nil)) (pa_cons (pv 1) pa_nil))))))))))))
        (pss_one (ps_ret (pv 1))))), ?_⟩
    refine ⟨_, rfl, d, ds, rfl, D.le (by decide), fun v H1 t s1 dt wt => ?_⟩
    have D1 := D.same s1
    refine ⟨_, rfl, d, _, _, _, rfl, rfl, SqL.of D1.1, D1.at_ (j := 9) (by decide), .inl ⟨_, rfl, _, _, rfl, rfl, (by show (0 : Int) < _; decide), ?_⟩⟩
    refine ⟨ds.getD 9 0 % 4, rfl, by omega, by omega, for_range (lo := 0) (n := (ds.getD 9 0 % 4).toNat) (fun j σ H' => ∃ (v : V) (t : KT) (c2 : Option V), σ = [some (.ref d), some v, c2] ∧ Same H H' ∧ Dp K H' v t.d ∧ WfT (70 + j * 72) j t) ⟨_, _, _, rfl, s1, dt, wt⟩ ?_ ?_⟩
    · rintro j σ H2 hj ⟨v, t, c2, rfl, s2, dt, wt⟩
      have D2 := D.same s2
      have e10 : (10 : Int) + (0 + (j : Int)) = ((10 + j : Nat) : Int) := by omega
      have e11 : (11 : Int) + (0 + (j : Int)) = ((11 + j : Nat) : Int) := by omega
      have a10 : ∀ {H'}, Same H2 H' → atI (ds.map V.int) ((10 : Int) + (0 + (j : Int))) = some (.int (ds.getD (10 + j) 0)) := fun _ => by rw [e10]; exact D2.at_ (by omega)
      have a11 : atI (ds.map V.int) ((11 : Int) + (0 + (j : Int))) = some (.int (ds.getD (11 + j) 0)) := by rw [e11]; exact D2.at_ (by omega)
      obtain ⟨i, ei, hi⟩ : ∃ i : Nat, ds.getD (11 + j) 0 % 4 = (i : Int) ∧ i < 4 := ⟨(ds.getD (11 + j) 0 % 4).toNat, by omega, by omega⟩
      obtain ⟨c, hc, ec⟩ := sgn_at hi
      have em : 70 + j * 72 + 72 = 70 + (j + 1) * 72 := by omega
      refine ⟨_, rfl, _, rfl, _, _, rfl, rfl, d, _, _, _, rfl, rfl, SqL.of D2.1, a10 (Same.refl _), .inl ⟨_, rfl, _, _, rfl, rfl, (by show (0 : Int) < _; decide), rfl, _, rfl, ite2 (fun _ => ?_) (fun _ => ?_)⟩⟩
      · refine ⟨_, rfl, (by show 2 ≤ sizeLine; decide), fun p hp => ?_⟩
        have s3 := same_new (o := .tup [.str "neg", v]) hp
        exact ⟨_, .neg t, _, rfl, s2.trans s3, .tup (SqT.of upd_same) (.cons (.str _) (.cons (dp_same s3 dt) .nil)), (wf_neg wt).eq em rfl⟩
      refine ⟨_, rfl, _, rfl, _, _, rfl, rfl, d, _, _, _, rfl, rfl, SqL.of D2.1, a10 (Same.refl _), .inl ⟨_, rfl, _, _, rfl, rfl, (by show (0 : Int) < _; decide), rfl, _, rfl, ite2 (fun _ => ?_) (fun _ => ?_)⟩⟩
      · refine ⟨_, rfl, _, rfl, _, _, rfl, rfl, d, _, _, _, rfl, rfl, SqL.of D2.1, a11, .inl ⟨_, rfl, _, _, rfl, rfl, (by show (0 : Int) < _; decide), _, _, c, rfl, rfl, by decide +kernel, by rw [ei]; exact hc, ?_⟩⟩
        rw [ec]
        refine ⟨_, rfl, _, rfl, _, rfl, _, _, rfl, rfl, 2 + (0 + (j : Int)), rfl, d, ds.map V.int, rfl, SqL.of D2.1, fun p hp => ?_⟩
        have ej : (2 : Int) + (0 + (j : Int)) = ((2 + j : Nat) : Int) := by omega
        rw [ej, cut_from]
        have s3 := same_new (o := .lst ((ds.drop (2 + j)).map V.int)) hp
        refine ⟨p, _, rfl, DL.cut (n := 9) (k := 2 + j) (D2.le (by omega)) hp, fun v2 H3 t2 s4 dt2 wt2 => ⟨(by show 4 ≤ sizeLine; decide), fun r hr => ?_⟩⟩
        have s5 := same_new (o := .tup [.str "op", .str (opsL.getD i ""), v, v2]) hr
        exact ⟨_, .op i t t2, _, rfl, s2.trans (s3.trans (s4.trans s5)), .tup (SqT.of upd_same) (.cons (.str _) (.cons (.str _) (.cons (dp_same (s3.trans (s4.trans s5)) dt) (.cons (dp_same s5 dt2) .nil)))), (wf_op1 hi wt wt2).eq em rfl⟩
      · refine ⟨_, rfl, _, rfl, _, _, rfl, rfl, d, _, _, _, rfl, rfl, SqL.of D2.1, a11, .inl ⟨_, rfl, _, _, rfl, rfl, (by show (0 : Int) < _; decide), _, _, c, rfl, rfl, by decide +kernel, by rw [ei]; exact hc, ?_⟩⟩
        rw [ec]
        refine ⟨_, rfl, _, rfl, _, _, rfl, rfl, 1 + (0 + (j : Int)), rfl, d, ds.map V.int, rfl, SqL.of D2.1, fun p hp => ?_⟩
        have ej : (1 : Int) + (0 + (j : Int)) = ((1 + j : Nat) : Int) := by omega
        rw [ej, cut_from]
        have s3 := same_new (o := .lst ((ds.drop (1 + j)).map V.int)) hp
        refine ⟨p, _, rfl, DL.cut (n := 9) (k := 1 + j) (D2.le (by omega)) hp, fun v2 H3 t2 s4 dt2 wt2 => ⟨_, rfl, (by show 4 ≤ sizeLine; decide), fun r hr => ?_⟩⟩
        have s5 := same_new (o := .tup [.str "op", .str (opsL.getD i ""), v2, v]) hr
        exact ⟨_, .op i t2 t, _, rfl, s2.trans (s3.trans (s4.trans s5)), .tup (SqT.of upd_same) (.cons (.str _) (.cons (.str _) (.cons (dp_same s5 dt2) (.cons (dp_same (s3.trans (s4.trans s5)) dt) .nil)))), (wf_op2 hi wt2 wt).eq em rfl⟩
    · rintro σ H2 ⟨v, t, c2, rfl, s2, dt, wt⟩
      exact ⟨_, rfl, q _ _ t s2 dt (wt.le (by omega) (by omega))⟩
end
end My
namespace My
open PySem PySem.Spec PyProof.Rows L2 RZ
section
variable {P : Program} {w : World} {K : PySem.W.Frag} {mg : Str → Option Value} {base : Heap}
open L2H
open SX (S S_len S_cat slice_to slice_from num_S int_S)
open PySem.NumText (digitsVal AllDigits)
open TL (numL)
structure WfC (c : CT) : Prop where
  len : c.n.length ≤ 310
  nb : NB c.n
  ok : c.ok 5
  val : c.val
def txB (w : List Nat) : Bool := decide (1 ≤ w.length) && decide (w.length ≤ 60) && w.all fun c => charsS.cps.toList.contains c && decide (c ≤ 1000)
theorem txB_ok {w : List Nat} (h : txB w = true) : (CT.text w).val := by
  unfold txB at h
  rw [Bool.and_eq_true, Bool.and_eq_true] at h
  refine ⟨of_decide_eq_true h.1.1, of_decide_eq_true h.1.2, fun c hc => ?_⟩
  have := List.all_eq_true.mp h.2 c hc
  rw [Bool.and_eq_true] at this
  exact ⟨List.contains_iff_mem.mp this.1, of_decide_eq_true this.2⟩
theorem te_sl : ∀ {k : Nat}, k < 7 → (Txt.slice "te~ =A1" none (some (1 + (k : Int)))).cps.toList.length ≤ 300 ∧ (Txt.slice "te~ =A1" none (some (1 + (k : Int)))).cps.toList.all (fun c => decide (c ≤ 1000)) = true ∧ txB (Txt.slice "te~ =A1" none (some (1 + (k : Int)))).cps.toList = true := by
  have h : ∀ k : Fin 7, (Txt.slice "te~ =A1" none (some (1 + ((k.val : Nat) : Int)))).cps.toList.length ≤ 300 ∧ (Txt.slice "te~ =A1" none (some (1 + ((k.val : Nat) : Int)))).cps.toList.all (fun c => decide (c ≤ 1000)) = true ∧ txB (Txt.slice "te~ =A1" none (some (1 + ((k.val : Nat) : Int)))).cps.toList = true := by decide +kernel
  exact fun {k} hk => h ⟨k, hk⟩
def spCon (K : PySem.W.Frag) : Sp := fun vs H Q _ => ∃ (d : Addr) (ds : List Int), vs = [.ref d] ∧ DL H d ds 14 ∧ ∀ (v : V) (H' : Hp) (t : CT), Same H H' → Dp K H' v t.d → WfC t → Q v H'
theorem okLawContent (T : Txt K mg) : FnOk P w K mg base CX0 5 T.fLawContent T.fdLawContent ["_law_d"] (spCon K) := by
  refine T.FLawContent.ok scLawContent (fun vs H Q E h => ?_) (fun cdv A outer s H vs Q E hr h => ?_)
  · obtain ⟨d, ds, rfl, _⟩ := h
    rfl
  · obtain ⟨d, ds, rfl, D, q⟩ := h
    -- slots _law_d=0 _law_kind=1
    refine ⟨_, (pss_cons (ps_set (i := 1) scLawContent.nd rfl (Or.inl rfl) (pe_op op_mod (pe_callTy call_int1 (by rfl) T.z_int (by decide +kernel) (pa_cons (pe_ix ix_list (pv 0) pe_int (fun _ _ => rfl)) pa_nil)) pe_int))
        (pss_cons (ps_if (pt_cmpR op_eq (pv 1) pe_int (nomark _))
          (pss_one (ps_ret (pe_tup (pa_cons pe_str pa_nil))))
          pss_nil)
        (pss_cons (ps_if (pt_cmpR op_eq (pv 1) pe_int (nomark _))
          (pss_one (ps_ret (pe_tup (pa_cons pe_str (pa_cons (pe_slice C8.sl_txt pe_str po_none (po_some (pe_op op_add pe_int (pe_op op_mod (pe_callTy call_int1 (by rfl) T.z_int (by decide +kernel) (pa_cons (pe_ix ix_list (pv 0) pe_int (fun _ _ => rfl)) pa_nil)) pe_int)))) pa_nil)))))
          pss_nil)
        (pss_cons (ps_if (pt_cmpR op_eq (pv 1) pe_int (nomark _))
          (pss_one (ps_ret (pe_tup (pa_cons pe_str (pa_cons (pe_call (okLawLowest T) (hr.mono (by decide)) (by rfl) T.gLawLowest T.FLawLowest.kp T.bLawLowest .nil pass0 (pa_cons (pe_op op_sub (pe_callTy call_int1 (by rfl) T.z_int (by decide +kernel) (pa_cons (pe_ix ix_list (pv 0) pe_int (fun _ _ => rfl)) pa_nil)) pe_int) (pa_cons (pe_ix ix_list (pv 0) pe_int (fun _ _ => rfl)) pa_nil))) pa_nil)))))
          pss_nil)
        (pss_one (ps_ret (pe_tup (pa_cons pe_str (pa_cons (pe_call (okLawTree T) (hr.mono (by decide)) (by rfl) T.gLawTree T.FLawTree.kp T.bLawTree .nil pass0 (pa_cons (pv 0) pa_nil)) pa_nil))))))))), ?_⟩
    have b0 := D.bd (j := 0) (by decide)
    refine ⟨_, rfl, d, _, _, _, rfl, rfl, SqL.of D.1, D.at_ (j := 8) (by decide), .inl ⟨_, rfl, _, _, rfl, rfl, (by show (0 : Int) < _; decide), ?_⟩⟩
    refine ⟨_, rfl, rfl, _, rfl, ite2 (fun _ => ?_) (fun _ => ?_)⟩
    · exact ⟨(by show 1 ≤ sizeLine; decide), fun p hp => q _ _ .blank (same_new hp) (.tup (SqT.of upd_same) (.cons (.str _) .nil)) ⟨(by show 1 ≤ 310; decide), .cons (by decide) .nil, trivial, trivial⟩⟩
    refine ⟨_, rfl, rfl, _, rfl, ite2 (fun _ => ?_) (fun _ => ?_)⟩
    · refine ⟨_, rfl, d, _, _, _, rfl, rfl, SqL.of D.1, D.at_ (j := 0) (by decide), .inl ⟨_, rfl, _, _, rfl, rfl, (by show (0 : Int) < _; decide), _, _, rfl, rfl, 1 + ds.getD 0 0 % 7, rfl, "te~ =A1", rfl, by decide +kernel, (by show 2 ≤ sizeLine; decide), fun p hp => ?_⟩⟩
      obtain ⟨k, ek, hk⟩ : ∃ k : Nat, ds.getD 0 0 % 7 = (k : Int) ∧ k < 7 := ⟨(ds.getD 0 0 % 7).toNat, by omega, by omega⟩
      rw [ek]
      obtain ⟨w1, w2, w3⟩ := te_sl hk
      generalize Txt.slice "te~ =A1" none (some (1 + (k : Int))) = w at w1 w2 w3
      refine q _ _ (.text w.cps.toList) (same_new hp) (.tup (SqT.of upd_same) (.cons (.str _) (.cons (by rw [S_self]; exact .str _) .nil))) ⟨?_, .cons (by decide) (str_nb w2 (by omega)), trivial, txB_ok w3⟩
      show (strN w.cps.toList).length + 1 ≤ 310
      rw [strN_len]
      omega
    refine ⟨_, rfl, rfl, _, rfl, ite2 (fun _ => ?_) (fun _ => ?_)⟩
    · refine ⟨_, rfl, d, _, _, _, rfl, rfl, SqL.of D.1, D.at_ (j := 0) (by decide), .inl ⟨_, rfl, _, _, rfl, rfl, _, rfl, d, _, _, _, rfl, rfl, SqL.of D.1, D.at_ (j := 1) (by decide), _, _, rfl, fun p H1 x y s1 hp hx hy => ⟨(by show 2 ≤ sizeLine; decide), fun u hu => ?_⟩⟩⟩
      have s2 := same_new (o := .tup [.str "number", .ref p]) hu
      exact q _ _ (.number x y) (s1.trans s2) (.tup (SqT.of upd_same) (.cons (.str _) (.cons (.tup (SqT.of (s2 _ _ hp)) (.cons (.int _) (.cons (.int _) .nil))) .nil))) ⟨(by show 1 + 2 ≤ 310; decide), .cons (by decide) (frN_nb (by omega) (by omega)), trivial, ⟨by omega, by omega⟩⟩
    · refine ⟨_, rfl, d, ds, rfl, D, fun v H1 t s1 dt wt => ⟨(by show 2 ≤ sizeLine; decide), fun u hu => ?_⟩⟩
      have s2 := same_new (o := .tup [.str "formula", v]) hu
      exact q _ _ (.formula t) (s1.trans s2) (.tup (SqT.of upd_same) (.cons (.str _) (.cons (dp_same s2 dt) .nil))) ⟨(by have := wt.len; show t.n.length + 1 ≤ 310; omega), .cons (by decide) wt.nb, ⟨wt.ok, by have := wt.h; omega⟩, wt.val, by have := wt.pt; omega⟩
def spSide (K : PySem.W.Frag) : Sp := fun vs H Q _ => ∃ (d : Addr) (ds : List Int), vs = [.ref d] ∧ DL H d ds 2 ∧ ∀ (v : V) (H' : Hp) (z : Option Ln), Same H H' → Dp K H' v (sideD z) → NB (sideN z) → (∀ w, z = some w → LnOk w) → Q v H'
theorem okLawSide (T : Txt K mg) : FnOk P w K mg base CX0 2 T.fLawSide T.fdLawSide ["_law_d"] (spSide K) := by
  refine T.FLawSide.ok scLawSide (fun vs H Q E h => ?_) (fun cdv A outer s H vs Q E hr h => ?_)
  · obtain ⟨d, ds, rfl, _⟩ := h
    rfl
  · obtain ⟨d, ds, rfl, D, q⟩ := h
    -- slots _law_d=0
    refine ⟨_, (pss_cons (ps_if (pt_cmpR op_eq (pe_op op_mod (pe_callTy call_int1 (by rfl) T.z_int (by decide +kernel) (pa_cons (pe_ix ix_list (pv 0) pe_int (fun _ _ => rfl)) pa_nil)) pe_int) pe_int (nomark _))
          (pss_one (ps_ret pe_non))
          pss_nil)
        (pss_one (ps_ret (pe_call (okLawLine T) (hr.mono (by decide)) (by rfl) T.gLawLine T.FLawLine.kp T.bLawLine .nil pass0 (pa_cons (pe_ix ix_list (pv 0) pe_int (fun _ _ => rfl)) pa_nil))))), ?_⟩
    have b1 := D.bd (j := 1) (by decide)
    refine ⟨_, rfl, d, _, _, _, rfl, rfl, SqL.of D.1, D.at_ (j := 0) (by decide), .inl ⟨_, rfl, _, _, rfl, rfl, (by show (0 : Int) < _; decide), rfl, _, rfl, ite2 (fun _ => ?_) (fun _ => ?_)⟩⟩
    · exact q _ _ none (Same.refl _) .non (.cons (by decide) .nil) (fun w e => by cases e)
    · refine ⟨_, rfl, d, _, _, _, rfl, rfl, SqL.of D.1, D.at_ (j := 1) (by decide), _, rfl, b1.1, fun p H1 z s1 h1 b1 => ?_⟩
      exact q _ _ (some z) s1 (dpl h1) (.cons (by decide) b1.1) (fun w e => by rw [← Option.some.inj e]; exact b1.2)
structure WfX (a : Ac) : Prop where
  len : a.n.length ≤ 1000
  nb : NB a.n
  ok : a.ok 5
  sm : a.sm
  val : a.val
theorem cel_wf {c : Ln × Ln × CT} (l1 : Lb c.1) (l2 : Lb c.2.1) (w : WfC c.2.2) : (celN c).length ≤ 314 ∧ NB (celN c) := by
  refine ⟨?_, .app (lns_nb fun z hz => ?_) w.nb⟩
  · rw [cel_len]
    have := w.len
    omega
  · simp only [List.mem_cons, List.not_mem_nil, or_false] at hz
    rcases hz with rfl | rfl
    · exact l1
    · exact l2
theorem wf_write {cs : List (Ln × Ln × CT)} (hl : cs.length ≤ 3) (wf : ∀ c ∈ cs, (Lb c.1 ∧ Lb c.2.1) ∧ WfC c.2.2) : WfX (.write cs) := by
  have h0 : ∀ c ∈ cs, (celN c).length ≤ 314 ∧ NB (celN c) := fun c hc => cel_wf (wf c hc).1.1 (wf c hc).1.2 (wf c hc).2
  have h1 := flat_bd (f := celN) (b := 314) fun c hc => (h0 c hc).1
  have h2 := Nat.mul_le_mul_right 314 hl
  refine ⟨?_, .cons (by decide) (.cons (by omega) (.flat fun c hc => (h0 c hc).2)), fun c hc => (wf c hc).2.ok, ⟨by omega, fun c hc => by have := (wf c hc).2.len; omega⟩, ⟨by omega, fun c hc => ⟨(wf c hc).1.1.2, (wf c hc).1.2.2, (wf c hc).2.ok, (wf c hc).2.val⟩⟩⟩
  show (cs.flatMap celN).length + 2 ≤ 1000
  omega
theorem wf_name {w : List Nat} {bs : List (Ln × Ln × Ln × Ln)} (hw : w.length ≤ 9) (nw : NB (strN w)) (ow : WdOk w) (hl : bs.length ≤ 3) (wf : ∀ b ∈ bs, ∀ z ∈ blkL b, Lb z) : WfX (.name w bs) := by
  have h1 := blks_len bs
  refine ⟨?_, .app (.app (.cons (by decide) nw) (.cons (by omega) .nil)) (.flat fun b hb => lns_nb (wf b hb)), trivial, ⟨by omega, by omega⟩, ⟨ow, by omega, fun b hb z hz => (wf b hb z hz).2⟩⟩
  show (3 :: strN w ++ [(bs.length : Int)] ++ bs.flatMap fun b => lnsN (blkL b)).length ≤ 1000
  rw [List.length_append, List.length_append, List.length_cons, strN_len]
  show w.length + 1 + 1 + 1 + _ ≤ 1000
  omega
def spAct (K : PySem.W.Frag) : Sp := fun vs H Q _ => ∃ (d : Addr) (ds : List Int), vs = [.ref d] ∧ DL H d ds 18 ∧ ∀ (v : V) (H' : Hp) (a : Ac), Same H H' → Dp K H' v a.d → WfX a → Q v H'
theorem okLawAction (T : Txt K mg) : FnOk P w K mg base CX0 6 T.fLawAction T.fdLawAction ["_law_d"] (spAct K) := by
  refine T.FLawAction.ok scLawAction (fun vs H Q E h => ?_) (fun cdv A outer s H vs Q E hr h => ?_)
  · obtain ⟨d, ds, rfl, _⟩ := h
    rfl
  · obtain ⟨d, ds, rfl, D, q⟩ := h
    -- slots _law_d=0 _law_kind=1 _law_axis=2 _law_j=3 _law_blocks=4 _law_cells=5
    refine ⟨_, (pss_cons (ps_set (i := 1) scLawAction.nd rfl (Or.inl rfl) (pe_op op_mod (pe_callTy call_int1 (by rfl) T.z_int (by decide +kernel) (pa_cons (pe_ix ix_list (pv 0) pe_int (fun _ _ => rfl)) pa_nil)) pe_int))
        (pss_cons (ps_set (i := 2) scLawAction.nd rfl (Or.inl rfl) (pe_ix ix_list (pe_lst (pa_cons pe_str (pa_cons pe_str pa_nil))) (pe_op op_mod (pe_callTy call_int1 (by rfl) T.z_int (by decide +kernel) (pa_cons (pe_ix ix_list (pv 0) pe_int (fun _ _ => rfl)) pa_nil)) pe_int) (fun _ _ => rfl)))
        (pss_cons (ps_if (pt_cmpR op_eq (pv 1) pe_int (nomark _))
          (pss_one (ps_ret (pe_tup (pa_cons pe_str (pa_cons (pv 2) (pa_cons (pe_call (okLawSide T) (hr.mono (by decide)) (by rfl) T.gLawSide T.FLawSide.kp T.bLawSide .nil pass0 (pa_cons (pv 0) pa_nil)) (pa_cons (pe_call (okLawSide T) (hr.mono (by decide)) (by rfl) T.gLawSide T.FLawSide.kp T.bLawSide .nil pass0 (pa_cons (pe_slice sl_list (pv 0) (po_some pe_int) po_none) pa_nil)) pa_nil)))))))
          pss_nil)
        (pss_cons (ps_if (pt_cmpR op_eq (pv 1) pe_int (nomark _))
          (pss_one (ps_ret (pe_tup (pa_cons pe_str (pa_cons (pv 2) (pa_cons (pe_call (okLawLine T) (hr.mono (by decide)) (by rfl) T.gLawLine T.FLawLine.kp T.bLawLine .nil pass0 (pa_cons (pe_ix ix_list (pv 0) pe_int (fun _ _ => rfl)) pa_nil)) pa_nil))))))
          pss_nil)
        (pss_cons (ps_if (pt_cmpR op_eq (pv 1) pe_int (nomark _))
          (pss_cons (ps_setLc (i := 4) (own := [("_law_j", 3)]) (g := gName 3) (tt := tYes) rfl scLawAction.nd rfl rfl (sw_true rfl rfl rfl (by decide +kernel)) (pi_range1 rfl T.z_range (pa_cons (pe_op op_mod (pe_callTy call_int1 (by rfl) T.z_int (by decide +kernel) (pa_cons (pe_ix (ix_listK (K := K) rfl) (pv 0) pe_int (fun _ _ => rfl)) pa_nil)) pe_int) pa_nil)) (blkOk_by (own := [("_law_j", 3)]) (N := ["_law_d", "_law_kind", "_law_axis", "_law_j", "_law_blocks", "_law_cells"]) (sc := defScope sLawAction) (by decide +kernel)) (fun _ _ _ _ _ => (pg_name (i := 3) scLawAction.nd rfl (Or.inl rfl))) (fun _ _ _ _ _ => pts_nil) (fun _ _ _ _ _ => (pe_call (okLawBlock T) (hr.mono (by decide)) (by rfl) T.gLawBlock T.FLawBlock.kp T.bLawBlock .nil pass0 (pa_cons (pe_slice (sl_listK (K := K) rfl) (pv 0) (po_some (pv 3)) po_none) pa_nil))))
          (pss_one (ps_ret (pe_tup (pa_cons pe_str (pa_cons (pe_ix ix_list (pe_lst (pa_cons pe_str (pa_cons pe_str (pa_cons pe_str pa_nil)))) (pe_op op_mod (pe_callTy call_int1 (by rfl) T.z_int (by decide +kernel) (pa_cons (pe_ix ix_list (pv 0) pe_int (fun _ _ => rfl)) pa_nil)) pe_int) (fun _ _ => rfl)) (pa_cons (pe_callTy call_tuple_of (by rfl) T.z_tuple (by decide +kernel) (pa_cons (pv 4) pa_nil)) pa_nil)))))))
          pss_nil)
        (pss_cons (ps_if (pt_cmpR op_eq (pv 1) pe_int (nomark _))
          (pss_one (ps_ret (pe_tup (pa_cons pe_str (pa_cons (pe_op op_add pe_int (pe_callTy call_int1 (by rfl) T.z_int (by decide +kernel) (pa_cons (pe_ix ix_list (pv 0) pe_int (fun _ _ => rfl)) pa_nil))) pa_nil)))))
          pss_nil)
        (pss_cons (ps_set (i := 5) scLawAction.nd rfl (Or.inl rfl) (pe_lst pa_nil))
        (pss_cons (ps_for PassesOwn.never rfl (pi_range1 rfl T.z_range (pa_cons (pe_op op_add (pe_op op_mod (pe_callTy call_int1 (by rfl) T.z_int (by decide +kernel) (pa_cons (pe_ix ix_list (pv 0) pe_int (fun _ _ => rfl)) pa_nil)) pe_int) pe_int) pa_nil)) (pg_name (i := 3) scLawAction.nd rfl (Or.inl rfl))
          (pss_one (ps_expr (pe_bm PySem.F.plainAttrs_list PySem.F.slot_list_append PySem.F.type_list_append mt_append (pv 5) (pa_cons (pe_tup (pa_cons (pe_call (okLawLine T) (hr.mono (by decide)) (by rfl) T.gLawLine T.FLawLine.kp T.bLawLine .nil pass0 (pa_cons (pe_ix ix_list (pv 0) (pv 3) (fun _ _ => rfl)) pa_nil)) (pa_cons (pe_call (okLawLine T) (hr.mono (by decide)) (by rfl) T.gLawLine T.FLawLine.kp T.bLawLine .nil pass0 (pa_cons (pe_ix ix_list (pv 0) (pe_op op_add pe_int (pv 3)) (fun _ _ => rfl)) pa_nil)) (pa_cons (pe_call (okLawContent T) (hr.mono (by decide)) (by rfl) T.gLawContent T.FLawContent.kp T.bLawContent .nil pass0 (pa_cons (pe_slice sl_list (pv 0) (po_some (pv 3)) po_none) pa_nil)) pa_nil)))) pa_nil)))))
        (pss_one (ps_ret (pe_tup (pa_cons pe_str (pa_cons (pe_callTy call_tuple_of (by rfl) T.z_tuple (by decide +kernel) (pa_cons (pv 5) pa_nil)) pa_nil))))))))))))), ?_⟩
    refine ⟨_, rfl, d, _, _, _, rfl, rfl, SqL.of D.1, D.at_ (j := 7) (by decide), .inl ⟨_, rfl, _, _, rfl, rfl, (by show (0 : Int) < _; decide), ?_⟩⟩
    refine ⟨(by show 2 ≤ sizeLine; decide), fun l hl => ?_⟩
    have s1 := same_new (o := .lst [.str "row", .str "column"]) hl
    have D1 := D.same s1
    have b5 := D.bd (j := 5) (by decide)
    have b1 := D.bd (j := 1) (by decide)
    obtain ⟨i, ei, hi⟩ : ∃ i : Nat, ds.getD 6 0 % 2 = (i : Int) ∧ i < 2 := ⟨(ds.getD 6 0 % 2).toNat, by omega, by omega⟩
    refine ⟨_, rfl, d, _, _, _, rfl, rfl, SqL.of D1.1, D1.at_ (j := 6) (by decide), .inl ⟨_, rfl, _, _, rfl, rfl, (by show (0 : Int) < _; decide), l, _, _, _, rfl, rfl, SqL.of upd_same, by rw [ei]; exact atI_nat (axis_at hi), ?_⟩⟩
    clear hl
    generalize upd H l (.lst [.str "row", .str "column"]) = H1 at s1 D1
    refine ⟨_, rfl, rfl, _, rfl, ite2 (fun _ => ?_) (fun _ => ?_)⟩
    · refine ⟨_, rfl, _, rfl, d, ds, rfl, D1.le (by decide), fun v1 H2 z1 s2 dz1 nz1 oz1 => ?_⟩
      have D2 := D1.same s2
      refine ⟨_, rfl, 2, rfl, d, ds.map V.int, rfl, SqL.of D2.1, fun p hp => ?_⟩
      rw [show (2 : Int) = ((2 : Nat) : Int) from rfl, cut_from]
      have s3 := same_new (o := .lst ((ds.drop 2).map V.int)) hp
      refine ⟨p, _, rfl, DL.cut (n := 2) (k := 2) (D2.le (by decide)) hp, fun v2 H3 z2 s4 dz2 nz2 oz2 => ⟨(by show 4 ≤ sizeLine; decide), fun r hr => ?_⟩⟩
      have s5 := same_new (o := .tup [.str "insert", .str (axesL.getD i ""), v1, v2]) hr
      have s35 := s3.trans (s4.trans s5)
      have n1 := side_len z1
      have n2 := side_len z2
      refine q _ _ (.insert i z1 z2) (s1.trans (s2.trans s35)) (.tup (SqT.of upd_same) (.cons (.str _) (.cons (.str _) (.cons (dp_same s35 dz1) (.cons (dp_same s5 dz2) .nil))))) ⟨?_, .app (.app (.cons (by decide) (.cons (by omega) .nil)) nz1) nz2, hi, trivial, oz1, oz2⟩
      show ([0, (i : Int)] ++ sideN z1 ++ sideN z2).length ≤ 1000
      rw [List.length_append, List.length_append]
      show 2 + _ + _ ≤ 1000
      omega
    refine ⟨_, rfl, rfl, _, rfl, ite2 (fun _ => ?_) (fun _ => ?_)⟩
    · refine ⟨_, rfl, _, rfl, d, _, _, _, rfl, rfl, SqL.of D1.1, D1.at_ (j := 1) (by decide), _, rfl, b1.1, fun p2 H2 z s2 h2 c2 => ⟨(by show 3 ≤ sizeLine; decide), fun r hr => ?_⟩⟩
      have s3 := same_new (o := .tup [.str "delete", .str (axesL.getD i ""), .ref p2]) hr
      exact q _ _ (.delete i z) (s1.trans (s2.trans s3)) (.tup (SqT.of upd_same) (.cons (.str _) (.cons (.str _) (.cons (dpl (s3 _ _ h2)) .nil)))) ⟨(by show 2 + 2 ≤ 1000; decide), .cons (by decide) (.cons (by omega) c2.1), hi, trivial, c2.2⟩
    refine ⟨_, rfl, rfl, _, rfl, ite2 (fun _ => ?_) (fun _ => ?_)⟩
    · refine ⟨_, rfl, d, _, _, _, rfl, rfl, SqL.of D1.1, D1.at_ (j := 5) (by decide), .inl ⟨_, rfl, _, _, rfl, rfl, (by show (0 : Int) < _; decide), ds.getD 5 0 % 4, rfl, by omega, by omega, fun N hN => ?_⟩⟩
      refine lc_it (walk_range (lo := 0) (n := (ds.getD 5 0 % 4).toNat)) (fun j H' => Same H1 H' ∧ ∃ (us : List V) (bs : List (Ln × Ln × Ln × Ln)), H' N = some (.lst us) ∧ DpAll K H' us (bs.map blkD) ∧ bs.length = j ∧ ∀ b ∈ bs, ∀ z ∈ blkL b, Lb z) ⟨same_new hN, [], [], upd_same, .nil, rfl, fun a ha => by cases ha⟩ (fun _ _ _ _ => True.intro) ?_ ?_
      · rintro j x H9 H2 hj ⟨s2, us, bs, hN2, dp, al, wf⟩ ⟨rfl, rfl⟩
        refine ⟨rfl, yesT ⟨_, rfl, _, rfl, 0 + (j : Int), rfl, d, ds.map V.int, rfl, SqL.of (s2 _ _ D1.1), fun p hp => ?_⟩⟩
        have ej : (0 : Int) + (j : Int) = (j : Int) := by omega
        rw [ej, cut_from]
        have s3 := same_new (o := .lst ((ds.drop j).map V.int)) hp
        refine ⟨p, _, rfl, DL.cut (n := 4) (k := j) ((D1.same s2).le (by omega)) hp, fun v H3 b s4 db wb => ?_⟩
        have s34 := s3.trans s4
        have hN3 := s34 _ _ hN2
        have dp3 := dpA_snoc db (dpAll_same s34 dp)
        refine ⟨us, hN3, ?_, same_mut (s2.trans s34) hN, us ++ [v], bs ++ [b], upd_same, ?_, ?_, ?_⟩
        · rw [dpA_len dp, List.length_map]
          exact small1000 (by omega)
        · rw [List.map_append]
          exact dpA_tk (TR.mut hN3) (by have := nlA_map nl_blk (bs ++ [b]); rwa [List.map_append] at this) dp3
        · rw [List.length_append, al]
          rfl
        · intro b2 hb2
          rcases List.mem_append.mp hb2 with z | z
          · exact wf b2 z
          · rw [List.mem_singleton.mp z]
            exact wb
      rintro H2 ⟨s2, us, bs, hN2, dp, al, wf⟩
      have D2 := D1.same s2
      obtain ⟨w, hw, ew⟩ := item_by V.str (xs := ["total", "best", "abcdefgh"]) (k := ds.getD 4 0 % 3) (by omega) (by show _ < (3 : Int); omega)
      have all : ∀ v ∈ (["total", "best", "abcdefgh"] : List Str), v.cps.toList.length ≤ 9 ∧ v.cps.toList.all (fun c => decide (c ≤ 1000)) = true ∧ wdB v.cps.toList = true := by decide +kernel
      obtain ⟨w1, w2, w3⟩ := all w hw
      refine ⟨(by show 3 ≤ sizeLine; decide), fun l hl => ?_⟩
      have s3 := same_new (o := .lst [.str "total", .str "best", .str "abcdefgh"]) hl
      have D3 := D2.same s3
      refine ⟨_, rfl, d, _, _, _, rfl, rfl, SqL.of D3.1, D3.at_ (j := 4) (by decide), .inl ⟨_, rfl, _, _, rfl, rfl, (by show (0 : Int) < _; decide), l, _, _, .str w, rfl, rfl, SqL.of upd_same, ew, _, rfl, N, us, rfl, .inl ⟨SqL.of (s3 _ _ hN2), fun b hb => ⟨(by show 3 ≤ sizeLine; decide), fun p hp => ?_⟩⟩⟩⟩
      have s4 := same_new (o := .tup us) hb
      have s5 := same_new (o := .tup [.str "name", .str w, .ref b]) hp
      exact q _ _ (.name w.cps.toList bs) (s1.trans (s2.trans (s3.trans (s4.trans s5)))) (.tup (SqT.of upd_same) (.cons (.str _) (.cons (by rw [S_self]; exact .str _) (.cons (.tup (SqT.of (s5 _ _ upd_same)) (dpAll_same (s3.trans (s4.trans s5)) dp)) .nil)))) (wf_name w1 (str_nb w2 (by omega)) (wdB_ok w3) (by omega) wf)
    refine ⟨_, rfl, rfl, _, rfl, ite2 (fun _ => ?_) (fun _ => ?_)⟩
    · refine ⟨_, rfl, d, _, _, _, rfl, rfl, SqL.of D1.1, D1.at_ (j := 5) (by decide), .inl ⟨_, rfl, _, _, rfl, rfl, (by show 2 ≤ sizeLine; decide), fun r hr => ?_⟩⟩
      have s3 := same_new (o := .tup [.str "undo", .int (1 + ds.getD 5 0)]) hr
      exact q _ _ (.undo (1 + ds.getD 5 0)) (s1.trans s3) (.tup (SqT.of upd_same) (.cons (.str _) (.cons (.int _) .nil))) ⟨(by show 2 ≤ 1000; decide), .cons (by decide) (.cons (by omega) .nil), trivial, trivial, (by show 1 ≤ 1 + ds.getD 5 0 ∧ 1 + ds.getD 5 0 ≤ 100000; omega)⟩
    refine ⟨Nat.zero_le _, fun N hN => ?_⟩
    have s2 := same_new (o := .lst []) hN
    have hNH : H N = none := s1.free hN
    refine ⟨_, rfl, d, _, _, _, rfl, rfl, SqL.of (s2 _ _ D1.1), D1.at_ (j := 5) (by decide), .inl ⟨_, rfl, _, _, rfl, rfl, (by show (0 : Int) < _; decide), _, _, rfl, rfl, ds.getD 5 0 % 3 + 1, rfl, by omega, by omega, for_range (lo := 0) (n := (ds.getD 5 0 % 3 + 1).toNat) (fun j σ H' => ∃ (us : List V) (cs : List (Ln × Ln × CT)) (c1 c2 c3 c5 : Option V), σ = [some (.ref d), c1, c2, c3, c5, some (.ref N)] ∧ Same H1 H' ∧ H' N = some (.lst us) ∧ DpAll K H' us (cs.map celD) ∧ cs.length = j ∧ ∀ c ∈ cs, (Lb c.1 ∧ Lb c.2.1) ∧ WfC c.2.2) ⟨[], [], _, _, _, _, rfl, s2, upd_same, .nil, rfl, fun a ha => by cases ha⟩ ?_ ?_⟩⟩
    · rintro j σ H2 hj ⟨us, cs, c1, c2, c3, c5, rfl, s2, hN2, dp, al, wf⟩
      have D2 := D1.same s2
      have b0 := D.bd (j := j) (by omega)
      have b7 := D.bd (j := 1 + j) (by omega)
      have ej : (0 : Int) + (j : Int) = (j : Int) := by omega
      have ej1 : (1 : Int) + (0 + (j : Int)) = ((1 + j : Nat) : Int) := by omega
      refine ⟨_, rfl, .inl ⟨rfl, _, SqL.of hN2⟩, _, rfl, _, rfl, d, _, _, _, rfl, rfl, SqL.of D2.1, by rw [ej]; exact D2.at_ (by omega), _, rfl, b0.1, fun p1 H3 z1 s3 h1 lb1 => ?_⟩
      have D3 := D2.same s3
      refine ⟨_, rfl, _, rfl, _, _, rfl, rfl, d, _, _, _, rfl, rfl, SqL.of D3.1, by rw [ej1]; exact D3.at_ (by omega), _, rfl, b7.1, fun p2 H4 z2 s4 h2 lb2 => ?_⟩
      have D4 := D3.same s4
      refine ⟨_, rfl, _, rfl, 0 + (j : Int), rfl, d, ds.map V.int, rfl, SqL.of D4.1, fun p hp => ?_⟩
      rw [ej, cut_from]
      have s5 := same_new (o := .lst ((ds.drop j).map V.int)) hp
      refine ⟨p, _, rfl, DL.cut (n := 14) (k := j) (D4.le (by omega)) hp, fun v H6 c s6 dc wc => ⟨(by show 3 ≤ sizeLine; decide), fun r hr => ?_⟩⟩
      have s7 := same_new (o := .tup [.ref p1, .ref p2, v]) hr
      have s67 := s6.trans s7
      have s57 := s5.trans s67
      have s47 := s4.trans s57
      have s37 := s3.trans s47
      have hN7 := s37 _ _ hN2
      have dp3 := dpA_snoc (d := celD (z1, z2, c)) (.tup (SqT.of upd_same) (.cons (dpl (s47 _ _ h1)) (.cons (dpl (s57 _ _ h2)) (.cons (dp_same s7 dc) .nil)))) (dpAll_same s37 dp)
      refine ⟨N, us, _, rfl, rfl, hN7, ?_, us ++ [.ref r], cs ++ [(z1, z2, c)], _, _, _, _, rfl, same_mut (s2.trans s37) hN, upd_same, ?_, ?_, ?_⟩
      · rw [dpA_len dp, List.length_map]
        exact small1000 (by omega)
      · rw [List.map_append]
        exact dpA_tk (TR.mut hN7) (by have := nlA_map nl_cel (cs ++ [(z1, z2, c)]); rwa [List.map_append] at this) dp3
      · rw [List.length_append, al]
        rfl
      · intro b2 hb2
        rcases List.mem_append.mp hb2 with z | z
        · exact wf b2 z
        · rw [List.mem_singleton.mp z]
          exact ⟨⟨lb1, lb2⟩, wc⟩
    · rintro σ H2 ⟨us, cs, c1, c2, c3, c5, rfl, s2, hN2, dp, al, wf⟩
      refine ⟨_, rfl, N, us, rfl, .inl ⟨SqL.of hN2, fun b hb => ⟨(by show 2 ≤ sizeLine; decide), fun p hp => ?_⟩⟩⟩
      have s4 := same_new (o := .tup us) hb
      have s5 := same_new (o := .tup [.str "write", .ref b]) hp
      exact q _ _ (.write cs) (s1.trans (s2.trans (s4.trans s5))) (.tup (SqT.of upd_same) (.cons (.str _) (.cons (.tup (SqT.of (s5 _ _ upd_same)) (dpAll_same (s4.trans s5) dp)) .nil))) (wf_write (by omega) wf)
end
end My
namespace My
open PySem PySem.Spec PyProof.Rows L2 RZ
section
variable {P : Program} {w : World} {K : PySem.W.Frag} {mg : Str → Option Value} {base : Heap}
open L2H
open SX (S S_len S_cat slice_to slice_from num_S int_S)
open PySem.NumText (digitsVal AllDigits)
open TL (numL)
theorem EAt.tr {K : PySem.W.Frag} {H H' : Hp} {x : V} {u : Ed × Ac} (t : ∀ p us, H p = some (.tup us) → H' p = some (.tup us)) (t2 : TR H H') (h : EAt K H x u) : EAt K H' x u := by
  obtain ⟨q, a, b, c, h0, h1, h2, h3, h4⟩ := h
  exact ⟨q, a, b, c, h0, t _ _ h1, t _ _ h2, t _ _ h3, dp_tk t2 (nl_Ac _) h4⟩
theorem EAt.mut {K : PySem.W.Frag} {H : Hp} {L : Addr} {xs : List V} {o : HO} (hL : H L = some (.lst xs)) {x : V} {u : Ed × Ac} (h : EAt K H x u) : EAt K (upd H L o) x u := h.tr (TK.mut hL) (TR.mut hL)
theorem EAt.dp {K : PySem.W.Frag} {H : Hp} {x : V} {u : Ed × Ac} (h : EAt K H x u) : Dp K H x (edD u) := by
  obtain ⟨q, a, b, c, rfl, h1, h2, h3, h4⟩ := h
  exact .tup (SqT.of h1) (.cons (dp_id h2) (.cons (.tup (SqT.of h3) (dp_ints _)) (.cons h4 .nil)))
def keyS (u : Ed × Ac) : Int × Int := (stampE u.1, 1 + (u.1.p : Int))
theorem nl_ids : ∀ zs : List (Int × Int), nlA (zs.map idD) = true := nlA_map nl_id
theorem idA_snoc {K : PySem.W.Frag} {H : Hp} {M : Addr} {is : List V} {zs : List (Int × Int)} {v : V} {z : Int × Int} {o : HO} (hM : H M = some (.lst is)) (h : DpAll K H is (zs.map idD)) (hv : Dp K H v (idD z)) : DpAll K (upd H M o) (is ++ [v]) ((zs ++ [z]).map idD) := by
  refine dpA_tk (TR.mut hM) (nl_ids _) ?_
  rw [List.map_append]
  exact dpA_snoc hv h
theorem NB.num {xs : List Int} (h : NB xs) : ∀ z ∈ xs, 0 ≤ z ∧ z < 10 ^ 30 := fun z hz => by
  have := h z hz
  omega
def OkV (u : Ed × Ac) : Prop := OkA u ∧ ValE u
theorem okA_of {p : Nat} {n : Int} {v : List Int} {a : Ac} (hp : p < 4) (hn : 1 ≤ n ∧ n ≤ 300) (hv : v.length = 4) (bv : ∀ z ∈ v, 0 ≤ z ∧ z ≤ 200) (w : WfX a) : OkV (⟨p, n, v⟩, a) := by
  refine ⟨?_, ⟨hp, by show 1 ≤ n ∧ n ≤ 100000; omega, hv, fun z hz => by have := bv z hz; omega, w.ok, w.val⟩⟩
  refine ⟨w.ok, w.sm, hv, ?_, NB.num (.app (.app (.cons (by show (0 : Int) ≤ 1 + (p : Int) ∧ 1 + (p : Int) ≤ 100000; omega) (.cons (by show (0 : Int) ≤ n ∧ n ≤ 100000; omega) .nil)) fun z hz => by have := bv z hz; omega) w.nb)⟩
  have := w.len
  show ([1 + (p : Int), n] ++ v ++ a.n).length ≤ 9000
  rw [List.length_append, List.length_append, hv]
  show 2 + 4 + _ ≤ 9000
  omega
theorem two_at {i : Nat} (h : i < 2) : ([V.int 4, V.int 200])[i]? = some (V.int ([4, 200].getD i 0)) ∧ (0 : Int) < [4, 200].getD i 0 ∧ ([4, 200].getD i 0 : Int) ≤ 200 := by
  rcases lt2 h with rfl | rfl <;> exact ⟨rfl, by decide, by decide⟩
theorem nodup_snoc {β : Type} {xs : List β} {x : β} (h : xs.Nodup) (n : x ∉ xs) : (xs ++ [x]).Nodup :=
  List.nodup_append.mpr ⟨h, List.nodup_cons.mpr ⟨List.not_mem_nil, List.nodup_nil⟩, fun y hy z hz e => n (by rw [← List.mem_singleton.mp hz, ← e]; exact hy)⟩
def spEdits (K : PySem.W.Frag) : Sp := fun vs H Q _ => ∃ (a : Addr) (ns : List Int), vs = [.ref a] ∧ SqL K H a (ns.map V.int) ∧ ∀ (H' : Hp) (L : Addr) (rs : List V) (D : List (Ed × Ac)), Same H H' → H' L = some (.lst rs) → RepG (EAt K H') rs D → D.length ≤ 9 → (∀ u ∈ D, OkV u) → (D.map fun u => u.1.id).Nodup → (D.map keyS).Nodup → Q (.ref L) H'
theorem okLawEdits (T : Txt K mg) : FnOk P w K mg base CX0 7 T.fLawEdits T.fdLawEdits ["_law_script"] (spEdits K) := by
  refine T.FLawEdits.ok scLawEdits (fun vs H Q E h => ?_) (fun cdv A outer s H vs Q E hr h => ?_)
  · obtain ⟨a, ns, rfl, _⟩ := h
    rfl
  · obtain ⟨a, ns, rfl, hS, q⟩ := h
    -- slots _law_script=0 _law_edits_here=1 _law_k=2 _law_d=3 _law_edit_id=4 _law_seen=5 _law_stamps=6 _law_j=7 _law_edit=8
    refine ⟨_, (pss_cons (ps_set (i := 1) scLawEdits.nd rfl (Or.inl rfl) (pe_lst pa_nil))
        (pss_cons (ps_for PassesOwn.never rfl (pi_range1 rfl T.z_range (pa_cons (pe_op op_mod (pe_callTy call_int1 (by rfl) T.z_int (by decide +kernel) (pa_cons (pe_call (okLawCell T) (hr.mono (by decide)) (by rfl) T.gLawCell T.FLawCell.kp T.bLawCell .nil pass0 (pa_cons (pv 0) (pa_cons pe_int pa_nil))) pa_nil)) pe_int) pa_nil)) (pg_name (i := 2) scLawEdits.nd rfl (Or.inl rfl))
          (pss_cons (ps_set (i := 3) scLawEdits.nd rfl (Or.inr rfl) (pe_call (okLawPadded T) (hr.mono (by decide)) (by rfl) T.gLawPadded T.FLawPadded.kp T.bLawPadded .nil pass0 (pa_cons (pe_call (okLawCell T) (hr.mono (by decide)) (by rfl) T.gLawCell T.FLawCell.kp T.bLawCell .nil pass0 (pa_cons (pv 0) (pa_cons (pe_op op_add pe_int (pv 2)) pa_nil))) (pa_cons (pe_op op_add pe_int (pv 2)) pa_nil))))
          (pss_cons (ps_set (i := 4) scLawEdits.nd rfl (Or.inl rfl) (pe_tup (pa_cons (pe_op op_add pe_int (pe_op op_mod (pe_callTy call_int1 (by rfl) T.z_int (by decide +kernel) (pa_cons (pe_ix ix_list (pv 3) pe_int (fun _ _ => rfl)) pa_nil)) pe_int)) (pa_cons (pe_op op_add pe_int (pe_op op_mod (pe_callTy call_int1 (by rfl) T.z_int (by decide +kernel) (pa_cons (pe_ix ix_list (pv 3) pe_int (fun _ _ => rfl)) pa_nil)) pe_int)) pa_nil))))
          (pss_cons (ps_set (i := 5) scLawEdits.nd rfl (Or.inl rfl) (pe_callTy call_tuple_of (by rfl) T.z_tuple (by decide +kernel) (pa_cons (pe_lc (own := [("_law_j", 7)]) (g := gName 7) (tt := tYes) rfl scLawEdits.nd (pi_range1 rfl T.z_range (pa_cons pe_int pa_nil)) (blkOk_by (own := [("_law_j", 7)]) (N := ["_law_script", "_law_edits_here", "_law_k", "_law_d", "_law_edit_id", "_law_seen", "_law_stamps", "_law_j", "_law_edit"]) (sc := defScope sLawEdits) (by decide +kernel)) (fun _ _ _ _ _ => (pg_name (i := 7) scLawEdits.nd rfl (Or.inl rfl))) (fun _ _ _ _ _ => pts_nil) (fun _ _ _ _ _ => (pe_op op_mod (pe_callTy call_int1 (by rfl) T.z_int (by decide +kernel) (pa_cons (pe_ix (ix_listK (K := K) rfl) (pv 3) (pe_op op_add pe_int (pv 7)) (fun _ _ => rfl)) pa_nil)) (pe_ix (ix_listK (K := K) rfl) (pe_lst (pa_cons pe_int (pa_cons pe_int pa_nil))) (pe_op op_mod (pe_callTy call_int1 (by rfl) T.z_int (by decide +kernel) (pa_cons (pe_ix (ix_listK (K := K) rfl) (pv 3) pe_int (fun _ _ => rfl)) pa_nil)) pe_int) (fun _ _ => rfl))))) pa_nil)))
          (pss_cons (ps_setLc (i := 6) (own := [("_law_edit", 8)]) (g := gName 8) (tt := tYes) rfl scLawEdits.nd rfl rfl (sw_true rfl rfl rfl (by decide +kernel)) (pi_list (pv 1)) (blkOk_by (own := [("_law_edit", 8)]) (N := ["_law_script", "_law_edits_here", "_law_k", "_law_d", "_law_edit_id", "_law_seen", "_law_stamps", "_law_j", "_law_edit"]) (sc := defScope sLawEdits) (by decide +kernel)) (fun _ _ _ _ _ => (pg_name (i := 8) scLawEdits.nd rfl (Or.inl rfl))) (fun _ _ _ _ _ => pts_nil) (fun _ _ _ _ _ => (pe_tup (pa_cons (pe_op op_add pe_int (pe_callB (cr_sumTK (K := K) rfl rfl) (by rfl) T.z_sum (by decide +kernel) (pa_cons (pe_ix (ix_tupK (K := K) rfl) (pv 8) pe_int (fun _ _ => rfl)) pa_nil))) (pa_cons (pe_ix (ix_tupK (K := K) rfl) (pe_ix (ix_tupK (K := K) rfl) (pv 8) pe_int (fun _ _ => rfl)) pe_int (fun _ _ => rfl)) pa_nil)))))
          (pss_one (ps_if (PW.pt (pw_and (pt_cmpR (op_notInD (units65 hr)) (pv 4) (pe_lc (own := [("_law_edit", 8)]) (g := gName 8) (tt := tYes) rfl scLawEdits.nd (pi_list (pv 1)) (blkOk_by (own := [("_law_edit", 8)]) (N := ["_law_script", "_law_edits_here", "_law_k", "_law_d", "_law_edit_id", "_law_seen", "_law_stamps", "_law_j", "_law_edit"]) (sc := defScope sLawEdits) (by decide +kernel)) (fun _ _ _ _ _ => (pg_name (i := 8) scLawEdits.nd rfl (Or.inl rfl))) (fun _ _ _ _ _ => pts_nil) (fun _ _ _ _ _ => (pe_ix (ix_tupK (K := K) rfl) (pv 8) pe_int (fun _ _ => rfl)))) rfl) (pw_and1 (pt_cmpR (op_notInD (units65 hr)) (pe_tup (pa_cons (pe_op op_add pe_int (pe_callB (cr_sumT rfl) (by rfl) T.z_sum (by decide +kernel) (pa_cons (pv 5) pa_nil))) (pa_cons (pe_ix ix_tup (pv 4) pe_int (fun _ _ => rfl)) pa_nil))) (pv 6) rfl))))
            (pss_one (ps_expr (pe_bm PySem.F.plainAttrs_list PySem.F.slot_list_append PySem.F.type_list_append mt_append (pv 1) (pa_cons (pe_tup (pa_cons (pv 4) (pa_cons (pv 5) (pa_cons (pe_call (okLawAction T) (hr.mono (by decide)) (by rfl) T.gLawAction T.FLawAction.kp T.bLawAction .nil pass0 (pa_cons (pe_slice sl_list (pv 3) (po_some pe_int) po_none) pa_nil)) pa_nil)))) pa_nil))))
            pss_nil)))))))
        (pss_one (ps_ret (pv 1))))), ?_⟩
    refine ⟨Nat.zero_le _, fun L hL0 => ?_⟩
    have s0 : Same H (upd H L (.lst [])) := same_new hL0
    have hL1 : (upd H L (.lst [])) L = some (.lst []) := upd_same
    generalize upd H L (.lst []) = H1 at s0 hL1
    refine ⟨_, rfl, a, ns, _, rfl, by decide, s0.seq hS, fun v => .inl ⟨_, rfl, _, _, rfl, rfl, (by show (0 : Int) < _; decide), ?_⟩⟩
    refine ⟨v % 7, rfl, by omega, by omega, for_range (lo := 0) (n := (v % 7).toNat) (fun i σ H' => ∃ (rs : List V) (D : List (Ed × Ac)) (c2 c3 c4 c5 c6 c7 c8 : Option V), σ = [some (.ref a), some (.ref L), c2, c3, c4, c5, c6, c7, c8] ∧ Same H H' ∧ H' L = some (.lst rs) ∧ RepG (EAt K H') rs D ∧ D.length ≤ i ∧ (∀ u ∈ D, OkV u) ∧ (D.map fun u => u.1.id).Nodup ∧ (D.map keyS).Nodup) ⟨[], [], _, _, _, _, _, _, _, rfl, s0, hL1, RepG.nil, Nat.le_refl _, fun u hu => by simp at hu, List.nodup_nil, List.nodup_nil⟩ ?_ ?_⟩
    · rintro i σ H2 hi ⟨rs, D, c2, c3, c4, c5, c6, c7, c8, rfl, s2, hL2, R2, Dl, ok, nd, nk⟩
      refine ⟨_, rfl, _, rfl, _, _, rfl, rfl, a, ns, _, rfl, by omega, s2.seq hS, fun v => ⟨_, rfl, _, _, rfl, rfl, v, _, rfl, fun H3 d ds s3 hd3 dl dall => ?_⟩⟩
      have D3 : DL H3 d ds 20 := ⟨hd3, dl, dall⟩
      refine ⟨_, rfl, d, _, _, _, rfl, rfl, SqL.of hd3, D3.at_ (j := 0) (by decide), .inl ⟨_, rfl, _, _, rfl, rfl, (by show (0 : Int) < _; decide), _, _, rfl, rfl, ?_⟩⟩
      obtain ⟨p, ep, hp⟩ : ∃ p : Nat, ds.getD 0 0 % 4 = (p : Int) ∧ p < 4 := ⟨(ds.getD 0 0 % 4).toNat, by omega, by omega⟩
      rw [ep]
      refine ⟨_, rfl, d, _, _, _, rfl, rfl, SqL.of hd3, D3.at_ (j := 1) (by decide), .inl ⟨_, rfl, _, _, rfl, rfl, (by show (0 : Int) < _; decide), _, _, rfl, rfl, (by show 2 ≤ sizeLine; decide), fun a1 ha1 => ?_⟩⟩
      obtain ⟨m, em, hm⟩ : ∃ m : Int, ds.getD 1 0 % 300 = m ∧ 0 ≤ m ∧ m < 300 := ⟨_, rfl, by omega, by omega⟩
      rw [em]
      have hn : 1 ≤ 1 + m ∧ 1 + m ≤ 300 := by omega
      have t1 : Same H3 (upd H3 a1 (.tup [.int (1 + (p : Int)), .int (1 + m)])) := same_new ha1
      have k1 : (upd H3 a1 (.tup [.int (1 + (p : Int)), .int (1 + m)])) a1 = some (.tup [.int (1 + (p : Int)), .int (1 + m)]) := upd_same
      generalize upd H3 a1 (.tup [.int (1 + (p : Int)), .int (1 + m)]) = G1 at t1 k1
      have D4 := D3.same t1
      refine ⟨_, rfl, by decide, by decide, fun N hN => ?_⟩
      refine lc_it (walk_range (lo := 0) (n := 4)) (fun j H' => Same G1 H' ∧ ∃ xs : List Int, H' N = some (.lst (xs.map V.int)) ∧ xs.length = j ∧ ∀ z ∈ xs, 0 ≤ z ∧ z ≤ 200) ⟨same_new hN, [], upd_same, rfl, fun z hz => by simp at hz⟩ (fun _ _ _ _ => True.intro) ?_ ?_
      · rintro j x H9 H4 hj ⟨s4, xs, hN4, xl, xb⟩ ⟨rfl, rfl⟩
        have ej : (2 : Int) + (0 + (j : Int)) = ((2 + j : Nat) : Int) := by omega
        have D5 := D4.same s4
        refine ⟨rfl, yesT ⟨_, rfl, _, rfl, _, _, rfl, rfl, d, _, _, _, rfl, rfl, SqL.of D5.1, by rw [ej]; exact D5.at_ (by omega), .inl ⟨_, rfl, (by show 2 ≤ sizeLine; decide), fun l hl => ?_⟩⟩⟩
        have s6 := same_new (o := .lst [.int 4, .int 200]) hl
        have D6 := D5.same s6
        obtain ⟨i, ei, hi⟩ : ∃ i : Nat, ds.getD 6 0 % 2 = (i : Int) ∧ i < 2 := ⟨(ds.getD 6 0 % 2).toNat, by omega, by omega⟩
        obtain ⟨e4, g0, g1⟩ := two_at hi
        refine ⟨_, rfl, d, _, _, _, rfl, rfl, SqL.of D6.1, D6.at_ (j := 6) (by decide), .inl ⟨_, rfl, _, _, rfl, rfl, (by show (0 : Int) < _; decide), l, _, _, _, rfl, rfl, SqL.of upd_same, by rw [ei]; exact atI_nat e4, _, _, rfl, rfl, g0, _, s6 _ _ hN4, ?_, same_mut (s4.trans s6) hN, xs ++ [ds.getD (2 + j) 0 % [4, 200].getD i 0], ?_, ?_, ?_⟩⟩
        · rw [List.length_map]
          exact small1000 (by omega)
        · rw [upd_same, List.map_append]
          rfl
        · rw [List.length_append, xl]
          rfl
        · intro z hz
          rcases List.mem_append.mp hz with y | y
          · exact xb z y
          · rw [List.mem_singleton.mp y]
            have := Int.emod_nonneg (ds.getD (2 + j) 0) (Int.ne_of_gt g0)
            have := Int.emod_lt_of_pos (ds.getD (2 + j) 0) g0
            omega
      rintro H4 ⟨s4, xs, hN4, xl, xb⟩
      refine ⟨N, _, rfl, .inl ⟨SqL.of hN4, fun b1 hb1 => ?_⟩⟩
      have t2 : Same H4 (upd H4 b1 (.tup (xs.map V.int))) := same_new hb1
      have k2 : (upd H4 b1 (.tup (xs.map V.int))) b1 = some (.tup (xs.map V.int)) := upd_same
      generalize upd H4 b1 (.tup (xs.map V.int)) = G2 at t2 k2
      have s24 : Same H2 G2 := ((s3.trans t1).trans s4).trans t2
      have R4 := R2.imp fun x e h => h.same s24
      have hL4 := s24 _ _ hL2
      refine ⟨_, rfl, L, rfl, ⟨_, SqL.of hL4⟩, fun M hM => ?_⟩
      refine lc_it (walk_list (a := L) (xs := rs)) (fun t H' => Same G2 H' ∧ ∃ is, H' M = some (.lst is) ∧ is.length ≤ t ∧ DpAll K H' is (((D.map keyS).take t).map idD)) ⟨same_new hM, [], upd_same, Nat.le_refl _, .nil⟩ (fun t H' _ h => SqL.of (h.1 _ _ hL4)) ?_ ?_
      · rintro t x H9 H5 ht ⟨s5, is, hN5, il, ri⟩ ⟨rfl, hx⟩
        obtain ⟨e, he, E⟩ := R4.get hx
        obtain ⟨q0, a0, b0, c0, rfl, h1, h2, h3, h4⟩ := E.same s5
        refine ⟨rfl, yesT ⟨_, rfl, q0, _, _, _, rfl, rfl, SqT.of h1, atI_nat (j := 1) rfl, b0, e.1.v, rfl, SqT.of h3, _, _, rfl, rfl, _, rfl, q0, _, _, _, rfl, rfl, SqT.of h1, atI_nat (j := 0) rfl, a0, _, _, _, rfl, rfl, SqT.of h2, atI_nat (j := 0) rfl, (by show 2 ≤ sizeLine; decide), fun r hr => ?_⟩⟩
        have s6 := same_new (o := .tup [.int (1 + e.1.v.sum), .int (1 + (e.1.p : Int))]) hr
        refine ⟨is, s6 _ _ hN5, ?_, same_mut (s5.trans s6) hM, is ++ [.ref r], upd_same, ?_, ?_⟩
        · exact small1000 (by have := R2.len; omega)
        · rw [List.length_append]
          exact Nat.add_le_add_right il 1
        · rw [List.take_add_one, List.getElem?_map, he]
          exact idA_snoc (z := keyS e) (s6 _ _ hN5) (dpAll_same s6 ri) (dp_id upd_same)
      rintro H5 ⟨s5, is, hN5, il, ri⟩
      have et : (D.map keyS).take rs.length = D.map keyS := List.take_of_length_le (by rw [R2.len, List.length_map]; exact Nat.le_refl _)
      rw [et] at ri
      have s25 := s24.trans s5
      have hL5 := s25 _ _ hL2
      have R5 := R2.imp fun x e h => h.same s25
      have k1' := (s4.trans t2).trans s5 _ _ k1
      have k2' := s5 _ _ k2
      have D5 := ((D4.same s4).same t2).same s5
      refine ⟨_, rfl, _, rfl, L, rfl, ⟨_, SqL.of hL5⟩, fun M2 hM2 => ?_⟩
      refine lc_it (walk_list (a := L) (xs := rs)) (fun t H' => Same H5 H' ∧ ∃ is, H' M2 = some (.lst is) ∧ is.length ≤ t ∧ DpAll K H' is (((D.map fun u => u.1.id).take t).map idD)) ⟨same_new hM2, [], upd_same, Nat.le_refl _, .nil⟩ (fun t H' _ h => SqL.of (h.1 _ _ hL5)) ?_ ?_
      · rintro t x H9 H6 ht ⟨s6, js, hN6, jl, rj⟩ ⟨rfl, hx⟩
        obtain ⟨e, he, E⟩ := R5.get hx
        obtain ⟨q0, a0, b0, c0, rfl, h1, h2, h3, h4⟩ := E.same s6
        refine ⟨rfl, yesT ⟨_, rfl, q0, _, _, _, rfl, rfl, SqT.of h1, atI_nat (j := 0) rfl, js, hN6, ?_, same_mut s6 hM2, js ++ [.ref a0], upd_same, ?_, ?_⟩⟩
        · exact small1000 (by have := R2.len; omega)
        · rw [List.length_append]
          exact Nat.add_le_add_right jl 1
        · rw [List.take_add_one, List.getElem?_map, he]
          exact idA_snoc (z := e.1.id) hN6 rj (dp_id h2)
      rintro H6 ⟨s6, js, hN6, jl, rj⟩
      have et2 : (D.map fun u => u.1.id).take rs.length = D.map fun u => u.1.id := List.take_of_length_le (by rw [R2.len, List.length_map]; exact Nat.le_refl _)
      rw [et2] at rj
      have ids : Dp K H6 (.ref M2) (.list ((D.map fun u => u.1.id).map idD)) := .lst (SqL.of hN6) rj
      have k1'' := s6 _ _ k1'
      refine ⟨idD (1 + (p : Int), 1 + m), _, dp_id k1'', ids, idD_shaped _, idDs_shaped _, ?_⟩
      rw [idDs_any]
      have s26 := s25.trans s6
      refine ⟨_, rfl, ite2 (fun c => ?_) (fun c => ?_)⟩
      · have fresh : (1 + (p : Int), 1 + m) ∉ D.map fun u => u.1.id := by simpa using c
        have k2'' := s6 _ _ k2'
        refine ⟨_, rfl, b1, xs, rfl, SqT.of k2'', _, _, rfl, rfl, _, rfl, a1, _, _, _, rfl, rfl, SqT.of k1'', atI_nat (j := 0) rfl, (by show 2 ≤ sizeLine; decide), fun r hr => ?_⟩
        have s7 := same_new (o := .tup [.int (1 + xs.sum), .int (1 + (p : Int))]) hr
        have s27 := s26.trans s7
        have ids2 : Dp K (upd H6 r (.tup [.int (1 + xs.sum), .int (1 + (p : Int))])) (.ref M) (.list ((D.map keyS).map idD)) := .lst (SqL.of ((s6.trans s7) _ _ hN5)) (dpAll_same (s6.trans s7) ri)
        refine ⟨_, rfl, idD (1 + xs.sum, 1 + (p : Int)), _, dp_id upd_same, ids2, idD_shaped _, idDs_shaped _, ?_⟩
        rw [idDs_any]
        refine ⟨_, rfl, ite2 (fun c2 => ?_) (fun c2 => ?_)⟩
        · have fresh2 : (1 + xs.sum, 1 + (p : Int)) ∉ D.map keyS := by simpa using c2
          have D7 := ((D5.same s6).same s7)
          refine ⟨_, rfl, .inl ⟨rfl, _, SqL.of (s27 _ _ hL2)⟩, _, rfl, _, rfl, _, rfl, 2, rfl, d, ds.map V.int, rfl, SqL.of D7.1, fun p7 hp7 => ?_⟩
          rw [show (2 : Int) = ((2 : Nat) : Int) from rfl, cut_from]
          have s8 := same_new (o := .lst ((ds.drop 2).map V.int)) hp7
          refine ⟨p7, _, rfl, DL.cut (n := 18) (k := 2) D7 hp7, fun v2 H8 act s9 da wa => ⟨(by show 3 ≤ sizeLine; decide), fun q1 hq1 => ?_⟩⟩
          have s10 := same_new (o := .tup [.ref a1, .ref b1, v2]) hq1
          have s7' := s7.trans (s8.trans (s9.trans s10))
          have sG := s26.trans s7'
          have E : EAt K (upd H8 q1 (.tup [.ref a1, .ref b1, v2])) (.ref q1) (⟨p, 1 + m, xs⟩, act) := ⟨q1, a1, b1, v2, rfl, upd_same, s7' _ _ k1'', s7' _ _ k2'', dp_same s10 da⟩
          have hLG := sG _ _ hL2
          refine ⟨L, _, _, rfl, rfl, hLG, small1000 (by have := R2.len; omega), rs ++ [.ref q1], D ++ [(⟨p, 1 + m, xs⟩, act)], _, _, _, _, _, _, _, rfl, same_mut (s2.trans sG) hL0, upd_same, ((R2.imp fun x e h => h.same sG).snoc E).imp fun x e h => h.mut hLG, ?_, fun u hu => ?_, ?_, ?_⟩
          · rw [List.length_append]
            exact Nat.add_le_add_right Dl 1
          · rcases List.mem_append.mp hu with z | z
            · exact ok u z
            · rw [List.mem_singleton.mp z]
              exact okA_of hp hn xl xb wa
          · rw [List.map_append]
            exact nodup_snoc nd fresh
          · rw [List.map_append]
            exact nodup_snoc nk fresh2
        · exact ⟨rs, D, _, _, _, _, _, _, _, rfl, s2.trans s27, s27 _ _ hL2, R2.imp fun x e h => h.same s27, by omega, ok, nd, nk⟩
      · exact ⟨rs, D, _, _, _, _, _, _, _, rfl, s2.trans s26, s26 _ _ hL2, R2.imp fun x e h => h.same s26, by omega, ok, nd, nk⟩
    · rintro σ H2 ⟨rs, D, c2, c3, c4, c5, c6, c7, c8, rfl, s2, hL2, R2, Dl, ok, nd, nk⟩
      exact ⟨_, rfl, q H2 L rs D s2 hL2 R2 (by omega) ok nd nk⟩
def spBegin (K : PySem.W.Frag) : Sp := fun vs H Q _ => ∃ (a : Addr) (ns : List Int), vs = [.ref a] ∧ SqL K H a (ns.map V.int) ∧ ∀ (p : Addr) (H' : Hp) (r c : Int), Same H H' → H' p = some (.tup [.int r, .int c]) → (0 ≤ r ∧ r ≤ 8) → (0 ≤ c ∧ c ≤ 6) → Q (.ref p) H'
theorem okLawBegin (T : Txt K mg) : FnOk P w K mg base CX0 2 T.fLawBegin T.fdLawBegin ["_law_script"] (spBegin K) := by
  refine T.FLawBegin.ok scLawBegin (fun vs H Q E h => ?_) (fun cdv A outer s H vs Q E hr h => ?_)
  · obtain ⟨a, ns, rfl, _⟩ := h
    rfl
  · obtain ⟨a, ns, rfl, hS, q⟩ := h
    -- slots _law_script=0
    refine ⟨_, (pss_one (ps_ret (pe_tup (pa_cons (pe_op op_mod (pe_callTy call_int1 (by rfl) T.z_int (by decide +kernel) (pa_cons (pe_call (okLawCell T) (hr.mono (by decide)) (by rfl) T.gLawCell T.FLawCell.kp T.bLawCell .nil pass0 (pa_cons (pv 0) (pa_cons pe_int pa_nil))) pa_nil)) pe_int) (pa_cons (pe_op op_mod (pe_callTy call_int1 (by rfl) T.z_int (by decide +kernel) (pa_cons (pe_call (okLawCell T) (hr.mono (by decide)) (by rfl) T.gLawCell T.FLawCell.kp T.bLawCell .nil pass0 (pa_cons (pv 0) (pa_cons pe_int pa_nil))) pa_nil)) pe_int) pa_nil))))), ?_⟩
    refine ⟨_, rfl, a, ns, _, rfl, by decide, hS, fun v => .inl ⟨_, rfl, _, _, rfl, rfl, (by show (0 : Int) < _; decide), _, rfl, a, ns, _, rfl, by decide, hS, fun v2 => .inl ⟨_, rfl, _, _, rfl, rfl, (by show (0 : Int) < _; decide), (by show 2 ≤ sizeLine; decide), fun p hp => ?_⟩⟩⟩
    exact q p _ _ _ (same_new hp) upd_same (by omega) (by omega)
def spKey (K : PySem.W.Frag) : Sp := fun vs H Q _ => ∃ (x : V) (u : Ed × Ac), vs = [x] ∧ EAt K H x u ∧ ∀ (p : Addr) (H' : Hp), Same H H' → H' p = some (.tup [.int (keyS u).1, .int (keyS u).2]) → Q (.ref p) H'
theorem okLawKey (T : Txt K mg) : FnOk P w K mg base CX0 1 T.fLawKey T.fdLawKey ["_law_edit"] (spKey K) := by
  refine T.FLawKey.ok scLawKey (fun vs H Q E h => ?_) (fun cdv A outer s H vs Q E hr h => ?_)
  · obtain ⟨x, e, rfl, _⟩ := h
    rfl
  · obtain ⟨x, e, rfl, ⟨q0, a0, b0, c0, rfl, h1, h2, h3, h4⟩, q⟩ := h
    -- slots _law_edit=0
    refine ⟨_, (pss_one (ps_ret (pe_tup (pa_cons (pe_op op_add pe_int (pe_callB (cr_sumT rfl) (by rfl) T.z_sum (by decide +kernel) (pa_cons (pe_ix ix_tup (pv 0) pe_int (fun _ _ => rfl)) pa_nil))) (pa_cons (pe_ix ix_tup (pe_ix ix_tup (pv 0) pe_int (fun _ _ => rfl)) pe_int (fun _ _ => rfl)) pa_nil))))), ?_⟩
    refine ⟨_, rfl, q0, _, _, _, rfl, rfl, SqT.of h1, atI_nat (j := 1) rfl, b0, e.1.v, rfl, SqT.of h3, _, _, rfl, rfl, _, rfl, q0, _, _, _, rfl, rfl, SqT.of h1, atI_nat (j := 0) rfl, a0, _, _, _, rfl, rfl, SqT.of h2, atI_nat (j := 0) rfl, (by show 2 ≤ sizeLine; decide), fun p hp => ?_⟩
    exact q p _ (same_new hp) upd_same
theorem units65b {k : Nat} {A : Around} (r : Room k A) : A.units + 64 < cLine := by
  have := r.un
  omega
def leD (d e : PyData) : Bool := PySem.W.dataLe false id d e
def ltK (z w : Int × Int) : Prop := z.1 < w.1 ∨ (z.1 = w.1 ∧ z.2 < w.2)
theorem leD_idD {z w : Int × Int} (h : leD (idD z) (idD w) = true) : ¬ ltK w z := by
  have h : (!PySem.W.dataLt (idD w) (idD z)) = true := h
  unfold idD at h
  rw [PySem.W.dataLt_ii] at h
  have h := of_decide_eq_false (Bool.not_eq_true' _ ▸ h)
  exact h
def gK (z : V × (Int × Int)) : V × PyData := (z.1, idD z.2)
theorem sortK (zs : List (V × (Int × Int))) : ∃ Zs : List (V × (Int × Int)), ((zs.map gK).mergeSort (PySem.W.dataLe false Prod.snd)).map Prod.fst = Zs.map Prod.fst ∧ Zs.Perm zs ∧ (Zs.map Prod.snd).Pairwise fun a b => ¬ ltK b a := by
  refine ⟨zs.mergeSort fun a b => leD (idD a.2) (idD b.2), ?_, List.mergeSort_perm _ _, ?_⟩
  · rw [← List.map_mergeSort (f := gK) (r := fun a b => leD (idD a.2) (idD b.2)) (s := PySem.W.dataLe false Prod.snd) fun _ _ _ _ => rfl, List.map_map]
    rfl
  · have t : PySem.W.TotalLe leD := PySem.W.sortLe_total _ false _
    rw [List.pairwise_map]
    exact (List.pairwise_mergeSort (le := fun a b : V × (Int × Int) => leD (idD a.2) (idD b.2)) (fun a b c h1 h2 => t.trans _ _ _ h1 h2) (fun a b => by
      rw [Bool.or_eq_true]
      exact t.total _ _) zs).imp fun h => leD_idD h
def pick (D : List (Ed × Ac)) (ks : List (Int × Int)) : List (Ed × Ac) := ks.flatMap fun k => D.filter fun u => decide (keyS u = k)
theorem fm_congr {β γ : Type} {f g : β → List γ} : ∀ {l : List β}, (∀ x ∈ l, f x = g x) → l.flatMap f = l.flatMap g
  | [], _ => rfl
  | a :: l, h => by rw [List.flatMap_cons, List.flatMap_cons, h a (List.mem_cons_self ..), fm_congr fun x hx => h x (List.mem_cons_of_mem _ hx)]
theorem pick_perm : ∀ (ks : List (Int × Int)) (D : List (Ed × Ac)), ks.Nodup → (∀ u ∈ D, keyS u ∈ ks) → (pick D ks).Perm D
  | [], D, _, h => by
    cases D with
    | nil => exact .refl _
    | cons u D => exact absurd (h u (List.mem_cons_self ..)) List.not_mem_nil
  | k :: ks, D, nd, h => by
    have h1 := pick_perm ks (D.filter fun u => !decide (keyS u = k)) (List.nodup_cons.mp nd).2 fun u hu => by
      obtain ⟨h2, h3⟩ := List.mem_filter.mp hu
      rcases List.mem_cons.mp (h u h2) with e | e
      · rw [e] at h3
        simp at h3
      · exact e
    have e : pick (D.filter fun u => !decide (keyS u = k)) ks = pick D ks := by
      unfold pick
      refine fm_congr fun x hx => ?_
      rw [List.filter_filter]
      refine List.filter_congr fun u _ => ?_
      by_cases z : keyS u = x
      · have : keyS u ≠ k := fun y => (List.nodup_cons.mp nd).1 (by rw [← y, z]; exact hx)
        simp [z, z ▸ this]
      · simp [z]
    rw [e] at h1
    have h4 : (D.filter fun u => decide (keyS u = k)) ++ (D.filter fun u => !decide (keyS u = k)) |>.Perm D := List.filter_append_perm _ _
    show ((D.filter fun u => decide (keyS u = k)) ++ pick D ks).Perm D
    exact (List.Perm.append_left _ h1).trans h4
theorem pick_srt {D : List (Ed × Ac)} {ks : List (Int × Int)} (nk : (D.map keyS).Nodup) (pk : ks.Perm (D.map keyS)) (sk : ks.Pairwise fun a b => ¬ ltK b a) : Srt D (pick D ks) := by
  have nd : ks.Nodup := pk.nodup_iff.mpr nk
  refine ⟨pick_perm ks D nd fun u hu => pk.mem_iff.mpr (List.mem_map.mpr ⟨u, hu, rfl⟩), ?_⟩
  refine List.pairwise_flatMap.mpr ⟨fun k _ => ?_, ?_⟩
  · have h1 : D.Pairwise fun a b => keyS a ≠ keyS b := List.pairwise_map.mp nk
    refine (h1.filter (p := fun u => decide (keyS u = k))).imp_of_mem fun {a b} ha hb h => ?_
    have h2 := of_decide_eq_true (List.mem_filter.mp ha).2
    have h3 := of_decide_eq_true (List.mem_filter.mp hb).2
    exact absurd (h2.trans h3.symm) h
  · have h1 : ks.Pairwise fun a b => a ≠ b := nd
    refine (sk.and h1).imp fun {a b} h x hx y hy hl => ?_
    have h2 := of_decide_eq_true (List.mem_filter.mp hx).2
    have h3 := of_decide_eq_true (List.mem_filter.mp hy).2
    subst h2 h3
    obtain ⟨z1, z2⟩ := h
    unfold ltK keyS at z1
    unfold ltE at hl
    refine z2 (Prod.ext ?_ ?_)
    · show stampE x.1 = stampE y.1
      omega
    · show 1 + (x.1.p : Int) = 1 + (y.1.p : Int)
      omega
theorem pick_snoc {D : List (Ed × Ac)} {ks : List (Int × Int)} {j : Nat} {k : Int × Int} (h : ks[j]? = some k) : pick D (ks.take (j + 1)) = pick D (ks.take j) ++ D.filter fun u => decide (keyS u = k) := by
  unfold pick
  rw [List.take_add_one, h, List.flatMap_append]
  simp
theorem filt_snoc {D : List (Ed × Ac)} {j : Nat} {u : Ed × Ac} {k : Int × Int} (h : D[j]? = some u) : ((D.take (j + 1)).filter fun u => decide (keyS u = k)) = ((D.take j).filter fun u => decide (keyS u = k)) ++ if keyS u = k then [u] else [] := by
  rw [List.take_add_one, h, List.filter_append]
  show _ ++ List.filter _ [u] = _
  by_cases z : keyS u = k
  · simp [z]
  · simp [z]
theorem rm_same {H H3 : Hp} {F : Addr} (hF : H F = none) (s : Same H H3) : Same H (rm H3 F) := fun a x e => by
  have : a ≠ F := fun z => by
    rw [z, hF] at e
    cases e
  rw [rm_at this]
  exact s a x e
theorem rm_tr {H : Hp} {F : Addr} {xs : List V} (hF : H F = some (.lst xs)) : TR H (rm H F) := fun q ys hq => by
  have : q ≠ F := fun z => by
    rw [z] at hq
    rcases hq with e | ⟨u, e⟩ <;> rw [hF] at e <;> cases e
  rcases hq with e | ⟨u, e⟩
  · exact .inl (by rw [rm_at this]; exact e)
  · exact .inr ⟨u, by rw [rm_at this]; exact e⟩
theorem dpA_zip {K : PySem.W.Frag} {H : Hp} {is : List V} {ks : List (Int × Int)} (h : DpAll K H is (ks.map idD)) : ∀ z ∈ is.zip ks, Dp K H z.1 (idD z.2) := fun z hz => by
  obtain ⟨i, hi⟩ := List.mem_iff_getElem?.mp hz
  obtain ⟨h1, h2⟩ := List.getElem?_zip_eq_some.mp hi
  obtain ⟨b, hb, hd⟩ := dpA_get h i _ h1
  rw [h2] at hb
  rw [Option.some.inj hb]
  exact hd
def spSorted (K : PySem.W.Frag) : Sp := fun vs H Q _ => ∃ (L : Addr) (rs : List V) (D : List (Ed × Ac)), vs = [.ref L] ∧ H L = some (.lst rs) ∧ RepG (EAt K H) rs D ∧ D.length ≤ 9 ∧ (D.map keyS).Nodup ∧ ∀ (p : Addr) (H' : Hp) (es : List V) (E : List (Ed × Ac)), Same H H' → H' p = some (.lst es) → RepG (EAt K H') es E → Srt D E → Q (.ref p) H'
theorem okLawSorted (T : Txt K mg) : FnOk P w K mg base CX0 2 T.fLawSorted T.fdLawSorted ["_law_edits_here"] (spSorted K) := by
  refine T.FLawSorted.ok scLawSorted (fun vs H Q E h => ?_) (fun cdv A outer s H vs Q E hr h => ?_)
  · obtain ⟨L, rs, D, rfl, _⟩ := h
    rfl
  · obtain ⟨L, rs, D, rfl, hL, R, hz, nk, q⟩ := h
    -- slots _law_edits_here=0 _law_found=1 _law_edit=2 _law_key_here=3
    refine ⟨_, (pss_cons (ps_set (i := 1) scLawSorted.nd rfl (Or.inl rfl) (pe_lst pa_nil))
        (pss_cons (ps_for PassesOwn.never rfl (pi_list (pe_callB (cr_sortedD (units65b hr)) (by rfl) T.z_sorted (by decide +kernel) (pa_cons (pe_lc (own := [("_law_edit", 2)]) (g := gName 2) (tt := tYes) rfl scLawSorted.nd (pi_list (pv 0)) (blkOk_by (own := [("_law_edit", 2)]) (N := ["_law_edits_here", "_law_found", "_law_edit", "_law_key_here"]) (sc := defScope sLawSorted) (by decide +kernel)) (fun _ _ _ _ _ => (pg_name (i := 2) scLawSorted.nd rfl (Or.inl rfl))) (fun _ _ _ _ _ => pts_nil) (fun _ _ _ _ _ => (pe_call (okLawKey T) (hr.mono (by decide)) (by rfl) T.gLawKey T.FLawKey.kp T.bLawKey .nil pass0 (pa_cons (pv 2) pa_nil)))) pa_nil))) (pg_name (i := 3) scLawSorted.nd rfl (Or.inl rfl))
          (pss_one (ps_for PassesOwn.never rfl (pi_list (pv 0)) (pg_name (i := 2) scLawSorted.nd rfl (Or.inl rfl))
            (pss_one (ps_if (pt_cmpR (op_eqD hr.units) (pe_call (okLawKey T) (hr.mono (by decide)) (by rfl) T.gLawKey T.FLawKey.kp T.bLawKey .nil pass0 (pa_cons (pv 2) pa_nil)) (pv 3) (nomark _))
              (pss_one (ps_expr (pe_bm PySem.F.plainAttrs_list PySem.F.slot_list_append PySem.F.type_list_append mt_append (pv 1) (pa_cons (pv 2) pa_nil))))
              pss_nil)))))
        (pss_one (ps_ret (pv 1))))), ?_⟩
    refine ⟨Nat.zero_le _, fun F hF => ?_⟩
    have s0 := same_new (o := .lst []) hF
    have hF0 : (upd H F (.lst [])) F = some (.lst []) := upd_same
    generalize upd H F (.lst []) = H1 at s0 hF0
    have hL1 := s0 _ _ hL
    have R1 := R.imp fun x e h => h.same s0
    refine ⟨_, rfl, L, rfl, ⟨_, SqL.of hL1⟩, fun M hM => ?_⟩
    refine lc_it (walk_list (a := L) (xs := rs)) (fun t H' => Same H1 H' ∧ ∃ is, H' M = some (.lst is) ∧ is.length ≤ t ∧ DpAll K H' is (((D.map keyS).take t).map idD)) ⟨same_new hM, [], upd_same, Nat.le_refl _, .nil⟩ (fun t H' _ h => SqL.of (h.1 _ _ hL1)) ?_ ?_
    · rintro t x H9 H2 ht ⟨s2, is, hM2, il, ri⟩ ⟨rfl, hx⟩
      obtain ⟨e, he, E⟩ := R1.get hx
      refine ⟨rfl, yesT ⟨_, rfl, x, e, rfl, E.same s2, fun r H3 s3 hr => ?_⟩⟩
      refine ⟨is, s3 _ _ hM2, ?_, same_mut (s2.trans s3) hM, is ++ [.ref r], upd_same, ?_, ?_⟩
      · exact small1000 (by have := R.len; omega)
      · rw [List.length_append]
        exact Nat.add_le_add_right il 1
      · rw [List.take_add_one, List.getElem?_map, he]
        exact idA_snoc (z := keyS e) (s3 _ _ hM2) (dpAll_same s3 ri) (dp_id hr)
    rintro H2 ⟨s2, is, hM2, il, ri⟩
    have et : (D.map keyS).take rs.length = D.map keyS := List.take_of_length_le (by rw [R.len, List.length_map]; exact Nat.le_refl _)
    rw [et] at ri
    have il2 : is.length = (D.map keyS).length := by rw [dpA_len ri, List.length_map]
    have zf : ((is.zip (D.map keyS)).map gK).map Prod.fst = is := by
      rw [List.map_map]
      exact List.map_fst_zip (Nat.le_of_eq il2)
    have zs2 : (is.zip (D.map keyS)).map Prod.snd = D.map keyS := List.map_snd_zip (Nat.le_of_eq il2.symm)
    have dz : ∀ z ∈ is.zip (D.map keyS), Dp K H2 z.1 (idD z.2) := dpA_zip ri
    refine ⟨M, (is.zip (D.map keyS)).map gK, rfl, by rw [zf]; exact SqL.of hM2, fun b hb => ?_, fun d hd d' hd' => ?_, .inl fun d hd => ?_, fun b hb => ?_, fun p hp => ?_⟩
    · obtain ⟨z, hz, rfl⟩ := List.mem_map.mp hb
      exact dz z hz
    · obtain ⟨b, hb, rfl⟩ := List.mem_map.mp hd
      obtain ⟨b', hb', rfl⟩ := List.mem_map.mp hd'
      obtain ⟨z, hz, rfl⟩ := List.mem_map.mp hb
      obtain ⟨z', hz', rfl⟩ := List.mem_map.mp hb'
      exact alike_id _ _
    · obtain ⟨b, hb, rfl⟩ := List.mem_map.mp hd
      obtain ⟨z, hz, rfl⟩ := List.mem_map.mp hb
      exact ⟨_, _, rfl⟩
    · obtain ⟨z, hz, rfl⟩ := List.mem_map.mp hb
      show (idD z.2).depth ≤ 50
      rw [idD_depth]
      decide
    obtain ⟨Zs, eZ, pZ, sZ⟩ := sortK (is.zip (D.map keyS))
    rw [eZ]
    have s3 := same_new (o := .lst (Zs.map Prod.fst)) hp
    have hp3 := upd_same (H := H2) (a := p) (o := .lst (Zs.map Prod.fst))
    have dZ : ∀ z ∈ Zs, Dp K H2 z.1 (idD z.2) := fun z hz => dz z (pZ.mem_iff.mp hz)
    have pk : (Zs.map Prod.snd).Perm (D.map keyS) := by
      have := pZ.map Prod.snd
      rwa [zs2] at this
    have hF2 := s2 _ _ hF0
    have pF : p ≠ F := fun z => by
      rw [z, hF2] at hp
      cases hp
    have hF3 := s3 _ _ hF2
    have s03 : Same H (upd H2 p (.lst (Zs.map Prod.fst))) := (s0.trans s2).trans s3
    have dZ3 : ∀ z ∈ Zs, Dp K (upd H2 p (.lst (Zs.map Prod.fst))) z.1 (idD z.2) := fun z hz => dp_same s3 (dZ z hz)
    generalize upd H2 p (.lst (Zs.map Prod.fst)) = H3 at s3 hp3 hF3 s03 dZ3 ⊢
    have sm : Same H (rm H3 F) := rm_same hF s03
    have mL := sm _ _ hL
    have mR := R.imp fun x e h => h.same sm
    have mp : rm H3 F p = some (.lst (Zs.map Prod.fst)) := by rw [rm_at pF]; exact hp3
    have mZ : ∀ z ∈ Zs, Dp K (rm H3 F) z.1 (idD z.2) := fun z hz => dp_tk (rm_tr hF3) (nl_id _) (dZ3 z hz)
    have Zl : Zs.length = D.length := by rw [← List.length_map (f := Prod.snd), pk.length_eq, List.length_map]
    refine ⟨p, rfl, ⟨_, SqL.of hp3⟩, for_it (walk_list (a := p) (xs := Zs.map Prod.fst)) (fun t σ H' => ∃ (es : List V) (c2 c3 : Option V), σ = [some (.ref L), some (.ref F), c2, c3] ∧ Same (rm H3 F) H' ∧ H' F = some (.lst es) ∧ RepG (EAt K H') es (pick D ((Zs.map Prod.snd).take t)) ∧ es.length ≤ 9 * t) ⟨[], _, _, rfl, rm_le, hF3, RepG.nil, Nat.le_refl _⟩ (fun t σ H' _ ⟨_, _, _, _, h, _⟩ => SqL.of (h _ _ mp)) ?_ ?_⟩
    · rintro t x σ H4 H5 ht ⟨es, c2, c3, rfl, s4, hF4, R4, l4⟩ ⟨rfl, hx⟩
      rw [List.getElem?_map] at hx
      obtain ⟨⟨v, k⟩, hz1, rfl⟩ : ∃ z, Zs[t]? = some z ∧ z.1 = x := by
        cases hz : Zs[t]? with
        | none =>
          rw [hz] at hx
          cases hx
        | some z =>
          rw [hz] at hx
          exact ⟨z, rfl, Option.some.inj hx⟩
      have hk : (Zs.map Prod.snd)[t]? = some k := by
        rw [List.getElem?_map, hz1]
        rfl
      have dk := mZ _ (List.mem_of_getElem? hz1)
      rw [List.length_map, Zl] at ht
      refine ⟨_, rfl, L, rfl, ⟨_, SqL.of (s4 _ _ mL)⟩, for_it (walk_list (a := L) (xs := rs)) (fun j σ H' => ∃ (es : List V) (c2 : Option V), σ = [some (.ref L), some (.ref F), c2, some v] ∧ Same (rm H3 F) H' ∧ H' F = some (.lst es) ∧ RepG (EAt K H') es (pick D ((Zs.map Prod.snd).take t) ++ (D.take j).filter fun u => decide (keyS u = k)) ∧ es.length ≤ 9 * t + j) ⟨es, _, rfl, s4, hF4, by rw [List.take_zero, List.filter_nil, List.append_nil]; exact R4, l4⟩ (fun j σ H' _ ⟨_, _, _, h, _⟩ => SqL.of (h _ _ mL)) ?_ ?_⟩
      · rintro j x σ H6 H7 hj ⟨es, c2, rfl, s6, hF6, R6, l6⟩ ⟨rfl, hx⟩
        obtain ⟨u, hu, E⟩ := mR.get hx
        rw [R.len] at hj
        refine ⟨_, rfl, x, u, rfl, E.same s6, fun r H8 s8 hr => ?_⟩
        have s68 := s6.trans s8
        refine ⟨_, rfl, idD (keyS u), idD k, dp_id hr, dp_same s68 dk, idD_shaped _, idD_shaped _, ?_⟩
        rw [idD_eqv]
        refine ⟨_, rfl, ite2 (fun c => ?_) (fun c => ?_)⟩
        · have hF8 := s8 _ _ hF6
          refine ⟨_, rfl, .inl ⟨rfl, _, SqL.of hF8⟩, _, rfl, F, es, _, rfl, rfl, hF8, small1000 (by omega), es ++ [x], _, rfl, same_mut s68 rm_F, upd_same, ?_, by rw [List.length_append]; show es.length + 1 ≤ _; omega⟩
          rw [filt_snoc hu, if_pos (of_decide_eq_true c), ← List.append_assoc]
          exact ((R6.imp fun x e h => h.same s8).snoc (E.same s68)).imp fun x e h => h.mut hF8
        · refine ⟨es, _, rfl, s68, s8 _ _ hF6, ?_, by omega⟩
          rw [filt_snoc hu, if_neg fun z => c (decide_eq_true z), List.append_nil]
          exact R6.imp fun x e h => h.same s8
      · rintro σ H6 ⟨es, c2, rfl, s6, hF6, R6, l6⟩
        refine ⟨es, _, _, rfl, s6, hF6, ?_, by rw [R.len] at l6; omega⟩
        have e2 : D.take rs.length = D := List.take_of_length_le (by rw [R.len]; exact Nat.le_refl _)
        rw [e2] at R6
        rw [pick_snoc hk]
        exact R6
    · rintro σ H4 ⟨es, c2, c3, rfl, s4, hF4, R4, l4⟩
      rw [List.length_map, List.take_of_length_le (by rw [List.length_map]; exact Nat.le_refl _)] at R4
      exact ⟨_, rfl, q F H4 es _ (sm.trans s4) hF4 R4 (pick_srt nk pk sZ)⟩
end
end My
namespace My
open PySem PySem.Spec PyProof.Rows L2 RZ
section
variable {P : Program} {w : World} {K : PySem.W.Frag} {mg : Str → Option Value} {base : Heap}
open L2H
open SX (S S_len S_cat slice_to slice_from num_S int_S)
open PySem.NumText (digitsVal AllDigits)
open TL (numL)
def spNumL (K : PySem.W.Frag) : Sp := fun vs H Q _ => ∃ (z : Nat), vs = [.int z] ∧ z < 10 ^ 30 ∧ NR H (nb z) Q
theorem pow_step {m i : Nat} (hi : i < 20) (h : m < 128 ^ (21 - i)) : m / 128 < 128 ^ (21 - (i + 1)) := by
  rw [Nat.div_lt_iff_lt_mul (by decide), ← Nat.pow_succ]
  have : (21 - (i + 1)).succ = 21 - i := by omega
  rw [this]
  exact h
theorem pow_stay {m i : Nat} (hi : i < 20) (h : m < 128) : m < 128 ^ (21 - (i + 1)) := by
  have h1 : 128 ^ 1 ≤ 128 ^ (21 - (i + 1)) := Nat.pow_le_pow_right (by decide) (by omega)
  omega
theorem okLawNumber (T : Txt K mg) : FnOk P w K mg base CX0 1 T.fLawNumber T.fdLawNumber ["_law_n"] (spNumL K) := by
  refine T.FLawNumber.ok scLawNumber (fun vs H Q E h => ?_) (fun cdv A outer s H vs Q E hr h => ?_)
  · obtain ⟨z, rfl, _⟩ := h
    rfl
  · obtain ⟨z, rfl, hz, q⟩ := h
    -- slots _law_n=0 _law_data=1 _law_turn=2
    refine ⟨_, (pss_cons (ps_set (i := 1) scLawNumber.nd rfl (Or.inl rfl) (pe_lst pa_nil))
        (pss_cons (ps_for PassesOwn.never rfl (pi_range1 rfl T.z_range (pa_cons pe_int pa_nil)) (pg_name (i := 2) scLawNumber.nd rfl (Or.inl rfl))
          (pss_one (ps_if (pt_cmpR op_ge (pv 0) pe_int (nomark _))
            (pss_cons (ps_expr (pe_bm PySem.F.plainAttrs_list PySem.F.slot_list_append PySem.F.type_list_append mt_append (pv 1) (pa_cons (pe_op op_add (pe_op op_mod (pe_callTy call_int1 (by rfl) T.z_int (by decide +kernel) (pa_cons (pv 0) pa_nil)) pe_int) pe_int) pa_nil)))
            (pss_one (ps_set (i := 0) scLawNumber.nd rfl (Or.inl rfl) (pe_op op_fdiv (pv 0) pe_int))))
            pss_nil)))
        (pss_cons (ps_expr (pe_bm PySem.F.plainAttrs_list PySem.F.slot_list_append PySem.F.type_list_append mt_append (pv 1) (pa_cons (pv 0) pa_nil)))
        (pss_one (ps_ret (pv 1)))))), ?_⟩
    refine ⟨Nat.zero_le _, fun N hN => ?_⟩
    have s0 := same_new (o := .lst []) hN
    refine ⟨20, rfl, by decide, by decide, for_range (lo := 0) (n := 20) (fun i σ H' => ∃ (m : Nat) (acc : List Int) (c2 : Option V), σ = [some (.int m), some (.ref N), c2] ∧ Same H H' ∧ H' N = some (.lst (acc.map V.int)) ∧ nb z = acc ++ nb m ∧ acc.length ≤ i ∧ m < 128 ^ (21 - i)) ⟨z, [], _, rfl, s0, upd_same, rfl, Nat.le_refl _, Nat.lt_of_lt_of_le hz (by decide)⟩ ?_ ?_⟩
    · rintro i σ H1 hi ⟨m, acc, c2, rfl, s1, hN1, en, al, hm⟩
      refine ⟨_, rfl, _, _, rfl, rfl, _, rfl, ite2 (fun c => ?_) (fun c => ?_)⟩
      · have c := of_decide_eq_true c
        have c1 : 128 ≤ m := by omega
        refine ⟨_, rfl, .inl ⟨rfl, _, SqL.of hN1⟩, _, rfl, .inl ⟨_, rfl, _, _, rfl, rfl, (by show (0 : Int) < _; decide), _, _, rfl, rfl, N, _, _, rfl, rfl, hN1, small1000 (by rw [List.length_map]; omega), _, rfl, _, _, rfl, rfl, ⟨by decide, by decide⟩, m / 128, acc ++ [128 + ((m % 128 : Nat) : Int)], some (.int (0 + (i : Int))), ?_, same_mut s1 hN, ?_, ?_, ?_, pow_step hi hm⟩⟩
        · rfl
        · rw [upd_same, List.map_append]
          have : (m : Int) % 128 + 128 = 128 + ((m % 128 : Nat) : Int) := by omega
          show some (HO.lst (acc.map V.int ++ [V.int ((m : Int) % 128 + 128)])) = _
          rw [this]
          rfl
        · rw [en, nb_big c1, List.append_assoc]
          rfl
        · rw [List.length_append]
          exact Nat.add_le_add_right al 1
      · have c1 : ¬ ((128 : Int) ≤ (m : Int)) := fun y => c (decide_eq_true y)
        exact ⟨m, acc, _, rfl, s1, hN1, en, by omega, pow_stay hi (by omega)⟩
    · rintro σ H1 ⟨m, acc, c2, rfl, s1, hN1, en, al, hm⟩
      refine ⟨_, rfl, .inl ⟨rfl, _, SqL.of hN1⟩, _, rfl, N, _, _, rfl, rfl, hN1, small1000 (by rw [List.length_map]; omega), _, rfl, q N _ (same_mut s1 hN) ?_⟩
      rw [upd_same, en, nb_small hm, List.map_append]
      rfl
def spNums (K : PySem.W.Frag) : Sp := fun vs H Q _ => ∃ (a : Addr) (ns : List Int), vs = [.ref a] ∧ SqL K H a (ns.map V.int) ∧ ns.length ≤ 90000 ∧ (∀ z ∈ ns, 0 ≤ z ∧ z < 10 ^ 30) ∧ NR H (bytesN ns) Q
theorem okLawNumbers (T : Txt K mg) : FnOk P w K mg base CX0 2 T.fLawNumbers T.fdLawNumbers ["_law_numbers_here"] (spNums K) := by
  refine T.FLawNumbers.ok scLawNumbers (fun vs H Q E h => ?_) (fun cdv A outer s H vs Q E hr h => ?_)
  · obtain ⟨a, ns, rfl, _⟩ := h
    rfl
  · obtain ⟨a, ns, rfl, ha, hl, nm, q⟩ := h
    -- slots _law_numbers_here=0 _law_data=1 _law_n=2
    refine ⟨_, (pss_cons (ps_set (i := 1) scLawNumbers.nd rfl (Or.inl rfl) (pe_lst pa_nil))
        (pss_cons (ps_for PassesOwn.never rfl (pi_list (pv 0)) (pg_name (i := 2) scLawNumbers.nd rfl (Or.inl rfl))
          (pss_one (ps_set (i := 1) scLawNumbers.nd rfl (Or.inl rfl) (pe_op op_cat (pv 1) (pe_call (okLawNumber T) (hr.mono (by decide)) (by rfl) T.gLawNumber T.FLawNumber.kp T.bLawNumber .nil pass0 (pa_cons (pv 2) pa_nil))))))
        (pss_one (ps_ret (pv 1))))), ?_⟩
    have bl : (bytesN ns).length ≤ 90000 * 20 := Nat.le_trans (flat_bd fun z hz2 => nb_bd (nm z hz2)) (Nat.mul_le_mul_right 20 hl)
    refine ⟨Nat.zero_le _, fun N hN => ?_⟩
    have s0 := same_new (o := .lst []) hN
    refine ⟨_, rfl, a, rfl, ⟨_, s0.seq ha⟩, for_it (walk_list (a := a) (xs := ns.map V.int)) (fun j σ H' => ∃ (p : Addr) (c2 : Option V), σ = [some (.ref a), some (.ref p), c2] ∧ Same H H' ∧ H' p = some (.lst ((bytesN (ns.take j)).map V.int))) ⟨_, _, rfl, s0, upd_same⟩ (fun j σ H' _ ⟨_, _, _, h, _⟩ => h.seq ha) ?_ ?_⟩
    · rintro j x σ H1 H2 hj ⟨p, c2, rfl, s1, hp⟩ ⟨rfl, hx⟩
      rw [List.getElem?_map] at hx
      obtain ⟨z, hz2, rfl⟩ : ∃ z, ns[j]? = some z ∧ V.int z = x := by
        cases e : ns[j]? with
        | none =>
          rw [e] at hx
          cases hx
        | some z =>
          rw [e] at hx
          exact ⟨z, rfl, Option.some.inj hx⟩
      have zb := nm z (List.mem_of_getElem? hz2)
      have f1 := flat_le1 (f := fun z : Int => nb z.toNat) hz2
      have bj : (bytesN (ns.take j)).length + (nb z.toNat).length ≤ (bytesN ns).length := f1
      refine ⟨_, rfl, _, rfl, z.toNat, congrArg (fun y => [V.int y]) (show z = ((z.toNat : Nat) : Int) by omega), by omega, fun p2 H2 s2 hp2 => ?_⟩
      refine ⟨p, p2, _, _, rfl, rfl, s2 _ _ hp, hp2, sz6 (by rw [List.length_map, List.length_map]; omega), fun y hy => ⟨_, _, rfl, (s1.trans s2).trans (same_new hy), ?_⟩⟩
      rw [upd_same]
      unfold bytesN
      rw [flat_take hz2, List.map_append]
    · rintro σ H1 ⟨p, c2, rfl, s1, hp⟩
      rw [List.take_of_length_le (by rw [List.length_map]; exact Nat.le_refl _)] at hp
      exact ⟨_, rfl, q p _ s1 hp⟩
/-! ### the numbers, as the law computes them -/
theorem okLawString (T : Txt K mg) : FnOk P w K mg base CX0 1 T.fLawString T.fdLawString ["_law_text"] (spStrN K) := by
  refine T.FLawString.ok scLawString (fun vs H Q E h => ?_) (fun cdv A outer s H vs Q E hr h => ?_)
  · obtain ⟨a, rfl, _⟩ := h
    rfl
  · obtain ⟨a, rfl, ha, q⟩ := h
    -- slots _law_text=0 _law_char=1
    refine ⟨_, (pss_one (ps_ret (pe_op op_cat (pe_lst (pa_cons (pe_callB call_len_str (by rfl) T.z_len PySem.boot_len (pa_cons (pv 0) pa_nil)) pa_nil)) (pe_lc (own := [("_law_char", 1)]) (g := gName 1) (tt := tYes) rfl scLawString.nd (pi_str (pv 0)) (blkOk_by (own := [("_law_char", 1)]) (N := ["_law_text", "_law_char"]) (sc := defScope sLawString) (by decide +kernel)) (fun _ _ _ _ _ => (pg_name (i := 1) scLawString.nd rfl (Or.inl rfl))) (fun _ _ _ _ _ => pts_nil) (fun _ _ _ _ _ => (pe_callB call_ord (by rfl) T.z_ord (by decide +kernel) (pa_cons (pv 1) pa_nil))))))), ?_⟩
    refine ⟨_, rfl, S a, rfl, by rw [S_len]; exact sz5 (by omega), (by show 1 ≤ sizeLine; decide), fun l hl => ⟨_, rfl, S a, rfl, fun D hD => ?_⟩⟩
    rw [S_len] at hD ⊢
    have s0 := same_new (o := .lst [.int (a.length : Int)]) hl
    refine lc_it (walk_S (a := a)) (fun i H' => Same (upd H l (.lst [.int (a.length : Int)])) H' ∧ H' D = some (.lst (((a.take i).map fun (c : Nat) => (c : Int)).map V.int))) ⟨same_new hD, upd_same⟩ (fun _ _ _ _ => trivial) ?_ ?_
    · rintro i v H1 H2 hi ⟨s1, hD1⟩ ⟨rfl, c, ec, rfl⟩
      refine ⟨rfl, yesT ⟨_, rfl, S [c], rfl, (ord_one c).1, ((a.take i).map fun (c : Nat) => (c : Int)).map V.int, hD1, ?_, same_mut s1 hD, ?_⟩⟩
      · rw [List.length_map, List.length_map, List.length_take]
        exact small1000 (by omega)
      · rw [upd_same, List.take_add_one, ec, List.map_append, List.map_append]
        rfl
    · rintro H1 ⟨s1, hD1⟩
      rw [List.take_length] at hD1
      refine ⟨l, D, _, _, rfl, rfl, s1 _ _ upd_same, hD1, sz5 (by rw [List.length_map, List.length_map]; show 1 + a.length ≤ _; omega), fun y hy => ?_⟩
      exact q y _ ((s0.trans s1).trans (same_new hy)) upd_same
theorem okLawFraction (T : Txt K mg) : FnOk P w K mg base CX0 1 T.fLawFraction T.fdLawFraction ["_law_x"] (spFrN K) := by
  refine T.FLawFraction.ok scLawFraction (fun vs H Q E h => ?_) (fun cdv A outer s H vs Q E hr h => ?_)
  · obtain ⟨a, x, y, rfl, _⟩ := h
    rfl
  · obtain ⟨a, x, y, rfl, hx, q⟩ := h
    -- slots _law_x=0
    refine ⟨_, (pss_cons (ps_if (pt_cmpR op_lt (pe_ix ix_tup (pv 0) pe_int (fun _ _ => rfl)) pe_int (nomark _))
          (pss_one (ps_ret (pe_lst (pa_cons (pe_op op_sub (pe_op op_mul (pe_un un_neg pe_int) (pe_ix ix_tup (pv 0) pe_int (fun _ _ => rfl))) pe_int) (pa_cons (pe_ix ix_tup (pv 0) pe_int (fun _ _ => rfl)) pa_nil)))))
          pss_nil)
        (pss_one (ps_ret (pe_lst (pa_cons (pe_op op_mul pe_int (pe_ix ix_tup (pv 0) pe_int (fun _ _ => rfl))) (pa_cons (pe_ix ix_tup (pv 0) pe_int (fun _ _ => rfl)) pa_nil)))))), ?_⟩
    refine ⟨_, rfl, a, _, _, _, rfl, rfl, hx, atI_nat (j := 0) rfl, _, _, rfl, rfl, _, rfl, ite2 (fun c => ?_) (fun c => ?_)⟩
    · have c1 : ¬ (0 ≤ x) := by
        have : x < 0 := of_decide_eq_true c
        omega
      refine ⟨_, rfl, _, rfl, a, _, _, _, rfl, rfl, hx, atI_nat (j := 0) rfl, _, _, rfl, rfl, .inl ⟨by decide, by decide⟩, _, _, rfl, rfl, _, rfl, a, _, _, _, rfl, rfl, hx, atI_nat (j := 1) rfl, (by show 2 ≤ sizeLine; decide), fun l hl => q l _ (same_new hl) ?_⟩
      rw [upd_same, frN, if_neg c1]
      rfl
    · have c1 : 0 ≤ x := by
        have : ¬ (x < 0) := fun z => c (decide_eq_true z)
        omega
      refine ⟨_, rfl, a, _, _, _, rfl, rfl, hx, atI_nat (j := 0) rfl, _, _, rfl, rfl, .inl ⟨by decide, by decide⟩, _, rfl, a, _, _, _, rfl, rfl, hx, atI_nat (j := 1) rfl, (by show 2 ≤ sizeLine; decide), fun l hl => q l _ (same_new hl) ?_⟩
      rw [upd_same, frN, if_pos c1]
      rfl
theorem okLawLines (T : Txt K mg) : FnOk P w K mg base CX0 1 T.fLawLines T.fdLawLines ["_law_lines_here"] (spLnsN K) := by
  refine T.FLawLines.ok scLawLines (fun vs H Q E h => ?_) (fun cdv A outer s H vs Q E hr h => ?_)
  · obtain ⟨a, us, zs, rfl, _⟩ := h
    rfl
  · obtain ⟨a, us, zs, rfl, ha, hd, hz, q⟩ := h
    -- slots _law_lines_here=0 _law_numbers_here=1 _law_line_here=2
    refine ⟨_, (pss_cons (ps_set (i := 1) scLawLines.nd rfl (Or.inl rfl) (pe_lst pa_nil))
        (pss_cons (ps_for PassesOwn.never rfl (pi_tup (pv 0)) (pg_name (i := 2) scLawLines.nd rfl (Or.inl rfl))
          (pss_one (ps_set (i := 1) scLawLines.nd rfl (Or.inl rfl) (pe_op op_cat (pv 1) (pe_lst (pa_cons (pe_ix ix_tup (pv 2) pe_int (fun _ _ => rfl)) (pa_cons (pe_ix ix_tup (pv 2) pe_int (fun _ _ => rfl)) pa_nil)))))))
        (pss_one (ps_ret (pv 1))))), ?_⟩
    refine ⟨Nat.zero_le _, fun l hl => ?_⟩
    refine ⟨_, rfl, a, rfl, ⟨_, (same_new hl).tup ha⟩, for_it (walk_tup (a := a) (xs := us)) (fun i σ H' => ∃ (p : Addr) (c2 : Option V), σ = [some (.ref a), some (.ref p), c2] ∧ Same H H' ∧ H' p = some (.lst ((lnsN (zs.take i)).map V.int))) ⟨_, _, rfl, same_new hl, upd_same⟩ (fun i σ H' _ ⟨_, _, _, s, _⟩ => s.tup ha) ?_ ?_⟩
    · rintro i x σ H1 H2 hi ⟨p, c2, rfl, s1, hp⟩ ⟨rfl, hx⟩
      obtain ⟨z, hz1, hzd⟩ := dpA_get hd i x hx
      obtain ⟨r, rfl, hr⟩ := dp_ln (dp_same s1 hzd)
      refine ⟨_, rfl, _, rfl, r, _, _, _, rfl, rfl, hr, atI_nat (j := 0) rfl, _, rfl, r, _, _, _, rfl, rfl, hr, atI_nat (j := 1) rfl, (by show 2 ≤ sizeLine; decide), fun b hb => ?_⟩
      have s2 := same_new (o := .lst [.int z.1, .int z.2]) hb
      refine ⟨p, b, _, _, rfl, rfl, s2 _ _ hp, upd_same, ?_, fun y hy => ⟨_, _, rfl, (s1.trans s2).trans (same_new hy), ?_⟩⟩
      · rw [List.length_map, lns_len, List.length_take]
        exact sz5 (by show _ + 2 ≤ _; omega)
      · rw [upd_same]
        unfold lnsN
        rw [flat_take hz1, List.map_append]
        rfl
    · rintro σ H1 ⟨p, c2, rfl, s1, hp⟩
      rw [List.take_of_length_le (by rw [dpA_len hd, List.length_map]; exact Nat.le_refl _)] at hp
      exact ⟨_, rfl, q p _ s1 hp⟩
theorem okLawSideNumbers (T : Txt K mg) : FnOk P w K mg base CX0 1 T.fLawSideNumbers T.fdLawSideNumbers ["_law_line_here"] (spSideN K) := by
  refine T.FLawSideNumbers.ok scLawSideNumbers (fun vs H Q E h => ?_) (fun cdv A outer s H vs Q E hr h => ?_)
  · obtain ⟨v, z, rfl, _⟩ := h
    rfl
  · obtain ⟨v, z, rfl, hv, q⟩ := h
    -- slots _law_line_here=0
    refine ⟨_, (pss_cons (ps_if (pt_cmpR op_isN (pv 0) pe_non (nomark _))
          (pss_one (ps_ret (pe_lst (pa_cons pe_int pa_nil))))
          pss_nil)
        (pss_one (ps_ret (pe_lst (pa_cons pe_int (pa_cons (pe_ix ix_tup (pv 0) pe_int (fun _ _ => rfl)) (pa_cons (pe_ix ix_tup (pv 0) pe_int (fun _ _ => rfl)) pa_nil))))))), ?_⟩
    cases z with
    | none =>
      obtain rfl := dp_none hv
      refine ⟨_, rfl, rfl, _, rfl, ite2 (fun _ => ?_) (fun c => absurd (decide_eq_true rfl) c)⟩
      exact ⟨(by show 1 ≤ sizeLine; decide), fun l hl => q l _ (same_new hl) upd_same⟩
    | some z =>
      obtain ⟨p, rfl, hp⟩ := dp_ln hv
      refine ⟨_, rfl, rfl, _, rfl, ite2 (fun c => (nomatch (of_decide_eq_true c))) (fun _ => ?_)⟩
      exact ⟨_, rfl, p, _, _, _, rfl, rfl, hp, atI_nat (j := 0) rfl, _, rfl, p, _, _, _, rfl, rfl, hp, atI_nat (j := 1) rfl, (by show 3 ≤ sizeLine; decide), fun l hl => q l _ (same_new hl) upd_same⟩
theorem okLawAreaNumbers (T : Txt K mg) : FnOk P w K mg base CX0 2 T.fLawAreaNumbers T.fdLawAreaNumbers ["_law_area_here"] (spKA K) := by
  refine T.FLawAreaNumbers.ok scLawAreaNumbers (fun vs H Q E h => ?_) (fun cdv A outer s H vs Q E hr h => ?_)
  · obtain ⟨v, a, rfl, _⟩ := h
    rfl
  · obtain ⟨v, a, rfl, hv, hz, q⟩ := h
    -- slots _law_area_here=0
    refine ⟨_, (pss_cons (ps_if (pt_cmpR op_eq (pe_ix ix_tup (pv 0) pe_int (fun _ _ => rfl)) pe_str (nomark _))
          (pss_one (ps_ret (pe_lst (pa_cons pe_int pa_nil))))
          pss_nil)
        (pss_cons (ps_if (pt_cmpR op_eq (pe_ix ix_tup (pv 0) pe_int (fun _ _ => rfl)) pe_str (nomark _))
          (pss_one (ps_ret (pe_op op_cat (pe_lst (pa_cons pe_int pa_nil)) (pe_call (okLawString T) (hr.mono (by decide)) (by rfl) T.gLawString T.FLawString.kp T.bLawString .nil pass0 (pa_cons (pe_ix ix_tup (pv 0) pe_int (fun _ _ => rfl)) pa_nil)))))
          pss_nil)
        (pss_one (ps_ret (pe_op op_cat (pe_lst (pa_cons pe_int pa_nil)) (pe_call (okLawLines T) (hr.mono (by decide)) (by rfl) T.gLawLines T.FLawLines.kp T.bLawLines .nil pass0 (pa_cons (pe_slice sl_tup (pv 0) (po_some pe_int) po_none) pa_nil))))))), ?_⟩
    cases a with
    | gone =>
      obtain ⟨p, x, rfl, hp, hx⟩ := dp_t1 hv
      obtain rfl := dp_str hx
      refine ⟨_, rfl, p, _, _, _, rfl, rfl, hp, atI_nat (j := 0) rfl, rfl, _, rfl, ifY ?_⟩
      exact ⟨(by show 1 ≤ sizeLine; decide), fun l hl => q l _ (same_new hl) upd_same⟩
    | name w =>
      obtain ⟨p, x, y, rfl, hp, hx, hy⟩ := dp_t2 hv
      obtain rfl := dp_str hx
      obtain rfl := dp_str hy
      have hw : w.length ≤ 1000 := by
        have : (strN w).length + 1 ≤ 1000 := hz
        unfold strN at this
        rw [List.length_cons, List.length_map] at this
        omega
      refine ⟨_, rfl, p, _, _, _, rfl, rfl, hp, atI_nat (j := 0) rfl, rfl, _, rfl, ifN (by decide +kernel) ⟨_, rfl, p, _, _, _, rfl, rfl, hp, atI_nat (j := 0) rfl, rfl, _, rfl, ifY ?_⟩⟩
      refine ⟨(by show 1 ≤ sizeLine; decide), fun l hl => ?_⟩
      have s1 := same_new (o := .lst [.int 2]) hl
      refine ⟨_, rfl, p, _, _, _, rfl, rfl, s1.tup hp, atI_nat (j := 1) rfl, w, rfl, hw, fun p2 H2 s2 hp2 => ?_⟩
      exact cat_NR (xs := [2]) (ys := strN w) s1 upd_same s2 hp2 (by have : (strN w).length + 1 ≤ 1000 := hz; show 1 + _ ≤ _; omega) q
    | block a b c d =>
      obtain ⟨p, us, rfl, hp, r⟩ := dpT hv
      obtain ⟨x, us, rfl, hx, r2⟩ := dpA r
      obtain rfl := dp_str hx
      refine ⟨_, rfl, p, _, _, _, rfl, rfl, hp, atI_nat (j := 0) rfl, rfl, _, rfl, ifN (by decide +kernel) ⟨_, rfl, p, _, _, _, rfl, rfl, hp, atI_nat (j := 0) rfl, rfl, _, rfl, ifN (by decide +kernel) ?_⟩⟩
      refine ⟨(by show 1 ≤ sizeLine; decide), fun l hl => ?_⟩
      have s1 := same_new (o := .lst [.int 1]) hl
      refine ⟨_, rfl, 1, rfl, p, _, rfl, s1.tup hp, cut1_no _ _, fun p2 hp2 => ?_⟩
      rw [cut1]
      have s2 := same_new (o := .tup us) hp2
      refine ⟨p2, us, [a, b, c, d], rfl, SqT.of upd_same, dpAll_same (s1.trans s2) r2, (by show 4 ≤ 1000; decide), fun p3 H3 s3 hp3 => ?_⟩
      exact cat_NR (xs := [1]) (ys := lnsN [a, b, c, d]) s1 upd_same (s2.trans s3) hp3 (by rw [lns_len]; show 1 + 2 * 4 ≤ 100000; decide) q
theorem call_ix : ∀ {i : Nat}, i < 4 → ∀ (m : Nat) (z : V), m < i → ([V.str "sum", V.str "count", V.str "min", V.str "max"])[m]? = some z → eqV z (.str (callsL.getD i "")) = false := by
  intro i hi m z hm h
  have hm4 : m < 4 := by omega
  rw [call_at hm4] at h
  rw [← Option.some.inj h]
  rcases lt4 hi with rfl | rfl | rfl | rfl <;> rcases lt4 hm4 with rfl | rfl | rfl | rfl <;> first | (exfalso; omega) | decide +kernel
theorem axis_ix : ∀ {i : Nat}, i < 2 → ∀ (m : Nat) (z : V), m < i → ([V.str "row", V.str "column"])[m]? = some z → eqV z (.str (axesL.getD i "")) = false := by
  intro i hi m z hm h
  have hm4 : m < 2 := by omega
  rw [axis_at hm4] at h
  rw [← Option.some.inj h]
  rcases lt2 hi with rfl | rfl <;> rcases lt2 hm4 with rfl | rfl <;> first | (exfalso; omega) | decide +kernel
theorem eqV_str (s : Str) : eqV (.str s) (.str s) = true := by simp [eqV]
theorem sgn_ix {i : Nat} (h : i < 4) : Txt.index0 "+-*/" (opsL.getD i "") = some i := by
  rcases lt4 h with rfl | rfl | rfl | rfl <;> decide +kernel
theorem okLawTreeNumbers (T : Txt K mg) : ∀ n : Nat, FnOk P w K mg base CX0 (n + 4) T.fLawTreeNumbers T.fdLawTreeNumbers ["_law_tree_here"] (spKT K n)
  | 0 => by
    refine T.FLawTreeNumbers.ok scLawTreeNumbers (fun vs H Q E h => ?_) (fun cdv A outer s H vs Q E hr h => ?_)
    · obtain ⟨v, t, rfl, hh, _⟩ := h
      rfl
    · obtain ⟨v, t, rfl, hh, _⟩ := h
      exact absurd hh (Nat.not_lt_zero _)
  | n + 1 => by
    have IH := okLawTreeNumbers T n
    refine T.FLawTreeNumbers.ok scLawTreeNumbers (fun vs H Q E h => ?_) (fun cdv A outer s H vs Q E hr h => ?_)
    · obtain ⟨v, t, rfl, _⟩ := h
      rfl
    · obtain ⟨v, t, rfl, hh, ok, hv, hz, q⟩ := h
      -- slots _law_tree_here=0 _law_numbers_here=1 _law_area_here=2
      refine ⟨_, (pss_cons (ps_if (pt_cmpR op_eq (pe_ix ix_tup (pv 0) pe_int (fun _ _ => rfl)) pe_str (nomark _))
            (pss_one (ps_ret (pe_op op_cat (pe_lst (pa_cons pe_int pa_nil)) (pe_call IH (hr.mono (by omega)) (by rfl) T.gLawTreeNumbers T.FLawTreeNumbers.kp T.bLawTreeNumbers .nil pass0 (pa_cons (pe_ix ix_tup (pv 0) pe_int (fun _ _ => rfl)) pa_nil)))))
            pss_nil)
          (pss_cons (ps_if (pt_cmpR op_eq (pe_ix ix_tup (pv 0) pe_int (fun _ _ => rfl)) pe_str (nomark _))
            (pss_one (ps_ret (pe_op op_cat (pe_op op_cat (pe_lst (pa_cons pe_int (pa_cons (pe_bmS PySem.F.plainAttrs_str PySem.F.slot_str_index PySem.F.type_str_index (mt_indexX rfl takes0) pe_str (pa_cons (pe_ix ix_tup (pv 0) pe_int (fun _ _ => rfl)) pa_nil)) pa_nil))) (pe_call IH (hr.mono (by omega)) (by rfl) T.gLawTreeNumbers T.FLawTreeNumbers.kp T.bLawTreeNumbers .nil pass0 (pa_cons (pe_ix ix_tup (pv 0) pe_int (fun _ _ => rfl)) pa_nil))) (pe_call IH (hr.mono (by omega)) (by rfl) T.gLawTreeNumbers T.FLawTreeNumbers.kp T.bLawTreeNumbers .nil pass0 (pa_cons (pe_ix ix_tup (pv 0) pe_int (fun _ _ => rfl)) pa_nil)))))
            pss_nil)
          (pss_cons (ps_if (pt_cmpR op_eq (pe_ix ix_tup (pv 0) pe_int (fun _ _ => rfl)) pe_str (nomark _))
            (pss_one (ps_ret (pe_op op_cat (pe_lst (pa_cons pe_int pa_nil)) (pe_call (okLawFraction T) (hr.mono (by omega)) (by rfl) T.gLawFraction T.FLawFraction.kp T.bLawFraction .nil pass0 (pa_cons (pe_ix ix_tup (pv 0) pe_int (fun _ _ => rfl)) pa_nil)))))
            pss_nil)
          (pss_cons (ps_if (pt_cmpR op_eq (pe_ix ix_tup (pv 0) pe_int (fun _ _ => rfl)) pe_str (nomark _))
            (pss_one (ps_ret (pe_op op_cat (pe_lst (pa_cons pe_int pa_nil)) (pe_call (okLawLines T) (hr.mono (by omega)) (by rfl) T.gLawLines T.FLawLines.kp T.bLawLines .nil pass0 (pa_cons (pe_slice sl_tup (pv 0) (po_some pe_int) po_none) pa_nil)))))
            pss_nil)
          (pss_cons (ps_if (pt_cmpR op_eq (pe_ix ix_tup (pv 0) pe_int (fun _ _ => rfl)) pe_str (nomark _))
            (pss_one (ps_ret (pe_lst (pa_cons pe_int pa_nil))))
            pss_nil)
          (pss_cons (ps_set (i := 1) scLawTreeNumbers.nd rfl (Or.inl rfl) (pe_lst (pa_cons pe_int (pa_cons (pe_bm PySem.F.plainAttrs_list PySem.F.slot_list_index PySem.F.type_list_index mt_index (pe_lst (pa_cons pe_str (pa_cons pe_str (pa_cons pe_str (pa_cons pe_str pa_nil))))) (pa_cons (pe_ix ix_tup (pv 0) pe_int (fun _ _ => rfl)) pa_nil)) (pa_cons (pe_callB call_len_seq (by rfl) T.z_len PySem.boot_len (pa_cons (pe_ix ix_tup (pv 0) pe_int (fun _ _ => rfl)) pa_nil)) pa_nil)))))
          (pss_cons (ps_for PassesOwn.never rfl (pi_tup (pe_ix ix_tup (pv 0) pe_int (fun _ _ => rfl))) (pg_name (i := 2) scLawTreeNumbers.nd rfl (Or.inl rfl))
            (pss_one (ps_set (i := 1) scLawTreeNumbers.nd rfl (Or.inl rfl) (pe_op op_cat (pv 1) (pe_call (okLawAreaNumbers T) (hr.mono (by omega)) (by rfl) T.gLawAreaNumbers T.FLawAreaNumbers.kp T.bLawAreaNumbers .nil pass0 (pa_cons (pv 2) pa_nil))))))
          (pss_one (ps_ret (pv 1)))))))))), ?_⟩
      cases t with
      | gone =>
        obtain ⟨p, x, rfl, hp, hx⟩ := dp_t1 hv
        obtain rfl := dp_str hx
        refine ⟨_, rfl, p, _, _, _, rfl, rfl, hp, atI_nat (j := 0) rfl, rfl, _, rfl, ifN (by decide +kernel) ⟨_, rfl, p, _, _, _, rfl, rfl, hp, atI_nat (j := 0) rfl, rfl, _, rfl, ifN (by decide +kernel) ⟨_, rfl, p, _, _, _, rfl, rfl, hp, atI_nat (j := 0) rfl, rfl, _, rfl, ifN (by decide +kernel) ⟨_, rfl, p, _, _, _, rfl, rfl, hp, atI_nat (j := 0) rfl, rfl, _, rfl, ifN (by decide +kernel) ⟨_, rfl, p, _, _, _, rfl, rfl, hp, atI_nat (j := 0) rfl, rfl, _, rfl, ifY ?_⟩⟩⟩⟩⟩
        exact ⟨(by show 1 ≤ sizeLine; decide), fun l hl => q l _ (same_new hl) upd_same⟩
      | num a b =>
        obtain ⟨p, x, y, rfl, hp, hx, hy⟩ := dp_t2 hv
        obtain rfl := dp_str hx
        obtain ⟨p2, u, w, rfl, hp2, hu, hw⟩ := dp_t2 hy
        rw [dp_int hu, dp_int hw] at hp2
        refine ⟨_, rfl, p, _, _, _, rfl, rfl, hp, atI_nat (j := 0) rfl, rfl, _, rfl, ifN (by decide +kernel) ⟨_, rfl, p, _, _, _, rfl, rfl, hp, atI_nat (j := 0) rfl, rfl, _, rfl, ifN (by decide +kernel) ⟨_, rfl, p, _, _, _, rfl, rfl, hp, atI_nat (j := 0) rfl, rfl, _, rfl, ifY ?_⟩⟩⟩
        refine ⟨(by show 1 ≤ sizeLine; decide), fun l hl => ?_⟩
        have s1 := same_new (o := .lst [.int 0]) hl
        refine ⟨_, rfl, p, _, _, _, rfl, rfl, s1.tup hp, atI_nat (j := 1) rfl, p2, a, b, rfl, s1.tup hp2, fun p3 H3 s3 hp3 => ?_⟩
        exact cat_NR (xs := [0]) (ys := frN a b) s1 upd_same s3 hp3 (by show 1 + 2 ≤ 100000; decide) q
      | cell a b =>
        obtain ⟨p, us, rfl, hp, r⟩ := dpT hv
        obtain ⟨x, us, rfl, hx, r2⟩ := dpA r
        obtain rfl := dp_str hx
        refine ⟨_, rfl, p, _, _, _, rfl, rfl, hp, atI_nat (j := 0) rfl, rfl, _, rfl, ifN (by decide +kernel) ⟨_, rfl, p, _, _, _, rfl, rfl, hp, atI_nat (j := 0) rfl, rfl, _, rfl, ifN (by decide +kernel) ⟨_, rfl, p, _, _, _, rfl, rfl, hp, atI_nat (j := 0) rfl, rfl, _, rfl, ifN (by decide +kernel) ⟨_, rfl, p, _, _, _, rfl, rfl, hp, atI_nat (j := 0) rfl, rfl, _, rfl, ifY ?_⟩⟩⟩⟩
        refine ⟨(by show 1 ≤ sizeLine; decide), fun l hl => ?_⟩
        have s1 := same_new (o := .lst [.int 1]) hl
        refine ⟨_, rfl, 1, rfl, p, _, rfl, s1.tup hp, cut1_no _ _, fun p2 hp2 => ?_⟩
        rw [cut1]
        have s2 := same_new (o := .tup us) hp2
        refine ⟨p2, us, [a, b], rfl, SqT.of upd_same, dpAll_same (s1.trans s2) r2, (by show 2 ≤ 1000; decide), fun p3 H3 s3 hp3 => ?_⟩
        exact cat_NR (xs := [1]) (ys := lnsN [a, b]) s1 upd_same (s2.trans s3) hp3 (by rw [lns_len]; show 1 + 2 * 2 ≤ 100000; decide) q
      | neg t =>
        obtain ⟨p, x, y, rfl, hp, hx, hy⟩ := dp_t2 hv
        obtain rfl := dp_str hx
        have hz2 : 1 + t.n.length ≤ 1000 := by
          have : t.n.length + 1 ≤ 1000 := hz
          omega
        refine ⟨_, rfl, p, _, _, _, rfl, rfl, hp, atI_nat (j := 0) rfl, rfl, _, rfl, ifY ?_⟩
        refine ⟨(by show 1 ≤ sizeLine; decide), fun l hl => ?_⟩
        have s1 := same_new (o := .lst [.int 4]) hl
        refine ⟨_, rfl, p, _, _, _, rfl, rfl, s1.tup hp, atI_nat (j := 1) rfl, y, t, rfl, hneg hh, ok, dp_same s1 hy, by omega, fun p3 H3 s3 hp3 => ?_⟩
        exact cat_NR (xs := [4]) (ys := t.n) s1 upd_same s3 hp3 (by show 1 + t.n.length ≤ 100000; omega) q
      | op i l r =>
        obtain ⟨p, x, y, z, u, rfl, hp, hx, hy, hzl, hu⟩ := dp_t4 hv
        obtain rfl := dp_str hx
        obtain rfl := dp_str hy
        rw [op_len] at hz
        refine ⟨_, rfl, p, _, _, _, rfl, rfl, hp, atI_nat (j := 0) rfl, rfl, _, rfl, ifN (by decide +kernel) ⟨_, rfl, p, _, _, _, rfl, rfl, hp, atI_nat (j := 0) rfl, rfl, _, rfl, ifY ?_⟩⟩
        refine ⟨rfl, _, rfl, p, _, _, _, rfl, rfl, hp, atI_nat (j := 1) rfl, "+-*/", _, rfl, rfl, fun k e => ?_, fun e => by rw [sgn_ix ok.1] at e; cases e⟩
        rw [sgn_ix ok.1] at e
        obtain rfl := Option.some.inj e
        refine ⟨(by show 2 ≤ sizeLine; decide), fun a ha => ?_⟩
        have s1 := same_new (o := .lst [.int 5, .int (i : Int)]) ha
        refine ⟨_, rfl, p, _, _, _, rfl, rfl, s1.tup hp, atI_nat (j := 2) rfl, z, l, rfl, (hop hh).1, ok.2.1, dp_same s1 hzl, by omega, fun p3 H3 s3 hp3 => ?_⟩
        refine ⟨a, p3, _, _, rfl, rfl, s3 _ _ upd_same, hp3, sz5 (by rw [List.length_map]; show 2 + l.n.length ≤ _; omega), fun b hb => ?_⟩
        have s4 := (s1.trans s3).trans (same_new (o := .lst ([.int 5, .int (i : Int)] ++ l.n.map V.int)) hb)
        refine ⟨_, rfl, p, _, _, _, rfl, rfl, s4.tup hp, atI_nat (j := 3) rfl, u, r, rfl, (hop hh).2, ok.2.2, dp_same s4 hu, by omega, fun p5 H5 s5 hp5 => ?_⟩
        exact cat_NR (xs := [5, (i : Int)] ++ l.n) (ys := r.n) s4 (by rw [upd_same, List.map_append]; rfl) s5 hp5 (by rw [List.length_append]; show 2 + l.n.length + r.n.length ≤ 100000; omega) q
      | call i as =>
        obtain ⟨p, x, y, z, rfl, hp, hx, hy, hzl⟩ := dp_t3 hv
        obtain rfl := dp_str hx
        obtain rfl := dp_str hy
        obtain ⟨a, us, rfl, ha, hd⟩ := dpT hzl
        refine ⟨_, rfl, p, _, _, _, rfl, rfl, hp, atI_nat (j := 0) rfl, rfl, _, rfl, ifN (by decide +kernel) ⟨_, rfl, p, _, _, _, rfl, rfl, hp, atI_nat (j := 0) rfl, rfl, _, rfl, ifN (by decide +kernel) ⟨_, rfl, p, _, _, _, rfl, rfl, hp, atI_nat (j := 0) rfl, rfl, _, rfl, ifN (by decide +kernel) ⟨_, rfl, p, _, _, _, rfl, rfl, hp, atI_nat (j := 0) rfl, rfl, _, rfl, ifN (by decide +kernel) ⟨_, rfl, p, _, _, _, rfl, rfl, hp, atI_nat (j := 0) rfl, rfl, _, rfl, ifN (by decide +kernel) ?_⟩⟩⟩⟩⟩
        rw [call_len] at hz
        have hul : us.length = as.length := by rw [dpA_len hd, List.length_map]
        have hal := kas_len as
        refine ⟨(by show 4 ≤ sizeLine; decide), fun l hl => ?_⟩
        have s1 := same_new (o := .lst [.str "sum", .str "count", .str "min", .str "max"]) hl
        refine ⟨.inl ⟨rfl, _, SqL.of upd_same⟩, _, rfl, p, _, _, _, rfl, rfl, s1.tup hp, atI_nat (j := 1) rfl, l, _, _, i, _, rfl, rfl, SqL.of upd_same, rfl, rfl, call_at ok, eqV_str _, call_ix ok, _, rfl, p, _, _, _, rfl, rfl, s1.tup hp, atI_nat (j := 2) rfl, a, us, rfl, .inr (s1.tup ha), (by show 3 ≤ sizeLine; decide), fun b hb => ?_⟩
        have s2 := s1.trans (same_new (o := .lst [.int 3, .int (i : Int), .int (us.length : Int)]) hb)
        have h0 : (upd (upd H l (.lst [.str "sum", .str "count", .str "min", .str "max"])) b (.lst [.int 3, .int (i : Int), .int (us.length : Int)])) b = some (.lst (([3, (i : Int), (as.length : Int)] : List Int).map V.int)) := by
          rw [upd_same, hul]
          rfl
        generalize upd (upd H l (.lst [.str "sum", .str "count", .str "min", .str "max"])) b (.lst [.int 3, .int (i : Int), .int (us.length : Int)]) = H0 at s2 h0 ⊢
        refine ⟨_, rfl, p, _, _, _, rfl, rfl, s2.tup hp, atI_nat (j := 2) rfl, a, rfl, ⟨us, s2.tup ha⟩, for_it (walk_tup (a := a) (xs := us)) (fun j σ H' => ∃ (r : Addr) (c2 : Option V), σ = [some (.ref p), some (.ref r), c2] ∧ Same H H' ∧ H' r = some (.lst (([3, (i : Int), (as.length : Int)] ++ (as.take j).flatMap KA.n).map V.int))) ⟨_, _, rfl, s2, by rw [List.take_zero]; exact h0⟩ (fun j σ H' _ ⟨_, _, _, s, _⟩ => s.tup ha) ?_ ?_⟩
        · rintro j x σ H1 H2 hj ⟨r, c2, rfl, s1, hl1⟩ ⟨rfl, hx⟩
          obtain ⟨b, hb, hbd⟩ := dpA_get hd j x hx
          have f1 := flat_le1 (f := KA.n) hb
          refine ⟨_, rfl, _, rfl, x, b, rfl, dp_same s1 hbd, by omega, fun p3 H3 s3 hp3 => ?_⟩
          refine ⟨r, p3, _, _, rfl, rfl, s3 _ _ hl1, hp3, ?_, fun y hy => ⟨_, _, rfl, (s1.trans s3).trans (same_new hy), ?_⟩⟩
          · rw [List.length_map, List.length_map, List.length_append]
            exact sz5 (by show 3 + _ + _ ≤ _; omega)
          · rw [upd_same, flat_take hb, ← List.map_append, List.append_assoc]
        · rintro σ H1 ⟨r, c2, rfl, s1, hl1⟩
          rw [List.take_of_length_le (by omega)] at hl1
          exact ⟨_, rfl, q r _ s1 hl1⟩
theorem okLawContentNumbers (T : Txt K mg) : FnOk P w K mg base CX0 10 T.fLawContentNumbers T.fdLawContentNumbers ["_law_content_here"] (spCT K) := by
  refine T.FLawContentNumbers.ok scLawContentNumbers (fun vs H Q E h => ?_) (fun cdv A outer s H vs Q E hr h => ?_)
  · obtain ⟨v, c, rfl, _⟩ := h
    rfl
  · obtain ⟨v, c, rfl, ok, hv, hz, q⟩ := h
    -- slots _law_content_here=0
    refine ⟨_, (pss_cons (ps_if (pt_cmpR op_eq (pe_ix ix_tup (pv 0) pe_int (fun _ _ => rfl)) pe_str (nomark _))
          (pss_one (ps_ret (pe_lst (pa_cons pe_int pa_nil))))
          pss_nil)
        (pss_cons (ps_if (pt_cmpR op_eq (pe_ix ix_tup (pv 0) pe_int (fun _ _ => rfl)) pe_str (nomark _))
          (pss_one (ps_ret (pe_op op_cat (pe_lst (pa_cons pe_int pa_nil)) (pe_call (okLawString T) (hr.mono (by decide)) (by rfl) T.gLawString T.FLawString.kp T.bLawString .nil pass0 (pa_cons (pe_ix ix_tup (pv 0) pe_int (fun _ _ => rfl)) pa_nil)))))
          pss_nil)
        (pss_cons (ps_if (pt_cmpR op_eq (pe_ix ix_tup (pv 0) pe_int (fun _ _ => rfl)) pe_str (nomark _))
          (pss_one (ps_ret (pe_op op_cat (pe_lst (pa_cons pe_int pa_nil)) (pe_call (okLawFraction T) (hr.mono (by decide)) (by rfl) T.gLawFraction T.FLawFraction.kp T.bLawFraction .nil pass0 (pa_cons (pe_ix ix_tup (pv 0) pe_int (fun _ _ => rfl)) pa_nil)))))
          pss_nil)
        (pss_one (ps_ret (pe_op op_cat (pe_lst (pa_cons pe_int pa_nil)) (pe_call (okLawTreeNumbers T 5) (hr.mono (by decide)) (by rfl) T.gLawTreeNumbers T.FLawTreeNumbers.kp T.bLawTreeNumbers .nil pass0 (pa_cons (pe_ix ix_tup (pv 0) pe_int (fun _ _ => rfl)) pa_nil)))))))), ?_⟩
    cases c with
    | blank =>
      obtain ⟨p, x, rfl, hp, hx⟩ := dp_t1 hv
      obtain rfl := dp_str hx
      refine ⟨_, rfl, p, _, _, _, rfl, rfl, hp, atI_nat (j := 0) rfl, rfl, _, rfl, ifY ?_⟩
      exact ⟨(by show 1 ≤ sizeLine; decide), fun l hl => q l _ (same_new hl) upd_same⟩
    | text w =>
      obtain ⟨p, x, y, rfl, hp, hx, hy⟩ := dp_t2 hv
      obtain rfl := dp_str hx
      obtain rfl := dp_str hy
      have hw : w.length ≤ 998 := by
        have : (strN w).length + 1 ≤ 1000 := hz
        unfold strN at this
        rw [List.length_cons, List.length_map] at this
        omega
      refine ⟨_, rfl, p, _, _, _, rfl, rfl, hp, atI_nat (j := 0) rfl, rfl, _, rfl, ifN (by decide +kernel) ⟨_, rfl, p, _, _, _, rfl, rfl, hp, atI_nat (j := 0) rfl, rfl, _, rfl, ifY ?_⟩⟩
      refine ⟨(by show 1 ≤ sizeLine; decide), fun l hl => ?_⟩
      have s1 := same_new (o := .lst [.int 1]) hl
      refine ⟨_, rfl, p, _, _, _, rfl, rfl, s1.tup hp, atI_nat (j := 1) rfl, w, rfl, by omega, fun p2 H2 s2 hp2 => ?_⟩
      exact cat_NR (xs := [1]) (ys := strN w) s1 upd_same s2 hp2 (by have : (strN w).length + 1 ≤ 1000 := hz; show 1 + _ ≤ _; omega) q
    | number a b =>
      obtain ⟨p, x, y, rfl, hp, hx, hy⟩ := dp_t2 hv
      obtain rfl := dp_str hx
      obtain ⟨p2, u, w, rfl, hp2, hu, hw⟩ := dp_t2 hy
      rw [dp_int hu, dp_int hw] at hp2
      refine ⟨_, rfl, p, _, _, _, rfl, rfl, hp, atI_nat (j := 0) rfl, rfl, _, rfl, ifN (by decide +kernel) ⟨_, rfl, p, _, _, _, rfl, rfl, hp, atI_nat (j := 0) rfl, rfl, _, rfl, ifN (by decide +kernel) ⟨_, rfl, p, _, _, _, rfl, rfl, hp, atI_nat (j := 0) rfl, rfl, _, rfl, ifY ?_⟩⟩⟩
      refine ⟨(by show 1 ≤ sizeLine; decide), fun l hl => ?_⟩
      have s1 := same_new (o := .lst [.int 2]) hl
      refine ⟨_, rfl, p, _, _, _, rfl, rfl, s1.tup hp, atI_nat (j := 1) rfl, p2, a, b, rfl, s1.tup hp2, fun p3 H3 s3 hp3 => ?_⟩
      exact cat_NR (xs := [2]) (ys := frN a b) s1 upd_same s3 hp3 (by show 1 + 2 ≤ 100000; decide) q
    | formula t =>
      obtain ⟨p, x, y, rfl, hp, hx, hy⟩ := dp_t2 hv
      obtain rfl := dp_str hx
      have hz2 : 1 + t.n.length ≤ 1000 := by
        have : t.n.length + 1 ≤ 1000 := hz
        omega
      refine ⟨_, rfl, p, _, _, _, rfl, rfl, hp, atI_nat (j := 0) rfl, rfl, _, rfl, ifN (by decide +kernel) ⟨_, rfl, p, _, _, _, rfl, rfl, hp, atI_nat (j := 0) rfl, rfl, _, rfl, ifN (by decide +kernel) ⟨_, rfl, p, _, _, _, rfl, rfl, hp, atI_nat (j := 0) rfl, rfl, _, rfl, ifN (by decide +kernel) ?_⟩⟩⟩
      refine ⟨(by show 1 ≤ sizeLine; decide), fun l hl => ?_⟩
      have s1 := same_new (o := .lst [.int 3]) hl
      refine ⟨_, rfl, p, _, _, _, rfl, rfl, s1.tup hp, atI_nat (j := 1) rfl, y, t, rfl, ok.2, ok.1, dp_same s1 hy, by omega, fun p3 H3 s3 hp3 => ?_⟩
      exact cat_NR (xs := [3]) (ys := t.n) s1 upd_same s3 hp3 (by show 1 + t.n.length ≤ 100000; omega) q
theorem cat_NR2 {H H1 H2 : Hp} {l p : Addr} {xs ys : List Int} {Q : VK} (s1 : Same H H1) (hl : H1 l = some (.lst (xs.map V.int))) (s2 : Same H1 H2) (hp : H2 p = some (.lst (ys.map V.int))) (z : xs.length + ys.length ≤ 10000000) (q : NR H (xs ++ ys) Q) : rCat (.ref l) (.ref p) H2 Q := by
  refine ⟨l, p, _, _, rfl, rfl, s2 _ _ hl, hp, sz6 (by rw [List.length_map, List.length_map]; exact z), fun y hy => q y _ ((s1.trans s2).trans (same_new hy)) ?_⟩
  rw [upd_same, List.map_append]
theorem cut2_no (x y z : V) : ¬ (HT.sIx [x, y, z].length 0 none = 0 ∧ HT.sIx [x, y, z].length [x, y, z].length (some 2) = [x, y, z].length) := by
  rintro ⟨_, h⟩
  simp [HT.sIx] at h
theorem cut2 (x y z : V) : cutV [x, y, z] none (some 2) = [x, y] := by
  unfold cutV
  rfl
theorem okLawActionNumbers (T : Txt K mg) : FnOk P w K mg base CX0 11 T.fLawActionNumbers T.fdLawActionNumbers ["_law_action_here"] (spAc K) := by
  refine T.FLawActionNumbers.ok scLawActionNumbers (fun vs H Q E h => ?_) (fun cdv A outer s H vs Q E hr h => ?_)
  · obtain ⟨v, a, rfl, _⟩ := h
    rfl
  · obtain ⟨v, a, rfl, ok, sm, hv, q⟩ := h
    -- slots _law_action_here=0 _law_side_here=1 _law_numbers_here=2 _law_block_here=3 _law_cell_here=4
    refine ⟨_, (pss_cons (ps_if (pt_cmpR op_eq (pe_ix ix_tup (pv 0) pe_int (fun _ _ => rfl)) pe_str (nomark _))
          (pss_one (ps_ret (pe_lst (pa_cons pe_int (pa_cons (pe_ix ix_tup (pv 0) pe_int (fun _ _ => rfl)) pa_nil)))))
          pss_nil)
        (pss_cons (ps_if (pt_cmpR op_eq (pe_ix ix_tup (pv 0) pe_int (fun _ _ => rfl)) pe_str (nomark _))
          (pss_cons (ps_set (i := 1) scLawActionNumbers.nd rfl (Or.inl rfl) (pe_op op_cat (pe_call (okLawSideNumbers T) (hr.mono (by decide)) (by rfl) T.gLawSideNumbers T.FLawSideNumbers.kp T.bLawSideNumbers .nil pass0 (pa_cons (pe_ix ix_tup (pv 0) pe_int (fun _ _ => rfl)) pa_nil)) (pe_call (okLawSideNumbers T) (hr.mono (by decide)) (by rfl) T.gLawSideNumbers T.FLawSideNumbers.kp T.bLawSideNumbers .nil pass0 (pa_cons (pe_ix ix_tup (pv 0) pe_int (fun _ _ => rfl)) pa_nil))))
          (pss_one (ps_ret (pe_op op_cat (pe_lst (pa_cons pe_int (pa_cons (pe_bm PySem.F.plainAttrs_list PySem.F.slot_list_index PySem.F.type_list_index mt_index (pe_lst (pa_cons pe_str (pa_cons pe_str pa_nil))) (pa_cons (pe_ix ix_tup (pv 0) pe_int (fun _ _ => rfl)) pa_nil)) pa_nil))) (pv 1)))))
          pss_nil)
        (pss_cons (ps_if (pt_cmpR op_eq (pe_ix ix_tup (pv 0) pe_int (fun _ _ => rfl)) pe_str (nomark _))
          (pss_one (ps_ret (pe_lst (pa_cons pe_int (pa_cons (pe_bm PySem.F.plainAttrs_list PySem.F.slot_list_index PySem.F.type_list_index mt_index (pe_lst (pa_cons pe_str (pa_cons pe_str pa_nil))) (pa_cons (pe_ix ix_tup (pv 0) pe_int (fun _ _ => rfl)) pa_nil)) (pa_cons (pe_ix ix_tup (pe_ix ix_tup (pv 0) pe_int (fun _ _ => rfl)) pe_int (fun _ _ => rfl)) (pa_cons (pe_ix ix_tup (pe_ix ix_tup (pv 0) pe_int (fun _ _ => rfl)) pe_int (fun _ _ => rfl)) pa_nil)))))))
          pss_nil)
        (pss_cons (ps_if (pt_cmpR op_eq (pe_ix ix_tup (pv 0) pe_int (fun _ _ => rfl)) pe_str (nomark _))
          (pss_cons (ps_set (i := 2) scLawActionNumbers.nd rfl (Or.inl rfl) (pe_op op_cat (pe_op op_cat (pe_lst (pa_cons pe_int pa_nil)) (pe_call (okLawString T) (hr.mono (by decide)) (by rfl) T.gLawString T.FLawString.kp T.bLawString .nil pass0 (pa_cons (pe_ix ix_tup (pv 0) pe_int (fun _ _ => rfl)) pa_nil))) (pe_lst (pa_cons (pe_callB call_len_seq (by rfl) T.z_len PySem.boot_len (pa_cons (pe_ix ix_tup (pv 0) pe_int (fun _ _ => rfl)) pa_nil)) pa_nil))))
          (pss_cons (ps_for PassesOwn.never rfl (pi_tup (pe_ix ix_tup (pv 0) pe_int (fun _ _ => rfl))) (pg_name (i := 3) scLawActionNumbers.nd rfl (Or.inl rfl))
            (pss_one (ps_set (i := 2) scLawActionNumbers.nd rfl (Or.inl rfl) (pe_op op_cat (pv 2) (pe_call (okLawLines T) (hr.mono (by decide)) (by rfl) T.gLawLines T.FLawLines.kp T.bLawLines .nil pass0 (pa_cons (pv 3) pa_nil))))))
          (pss_one (ps_ret (pv 2)))))
          pss_nil)
        (pss_cons (ps_set (i := 2) scLawActionNumbers.nd rfl (Or.inl rfl) (pe_lst (pa_cons pe_int (pa_cons (pe_callB call_len_seq (by rfl) T.z_len PySem.boot_len (pa_cons (pe_ix ix_tup (pv 0) pe_int (fun _ _ => rfl)) pa_nil)) pa_nil))))
        (pss_cons (ps_for PassesOwn.never rfl (pi_tup (pe_ix ix_tup (pv 0) pe_int (fun _ _ => rfl))) (pg_name (i := 4) scLawActionNumbers.nd rfl (Or.inl rfl))
          (pss_one (ps_set (i := 2) scLawActionNumbers.nd rfl (Or.inl rfl) (pe_op op_cat (pe_op op_cat (pv 2) (pe_call (okLawLines T) (hr.mono (by decide)) (by rfl) T.gLawLines T.FLawLines.kp T.bLawLines .nil pass0 (pa_cons (pe_slice sl_tup (pv 4) po_none (po_some pe_int)) pa_nil))) (pe_call (okLawContentNumbers T) (hr.mono (by decide)) (by rfl) T.gLawContentNumbers T.FLawContentNumbers.kp T.bLawContentNumbers .nil pass0 (pa_cons (pe_ix ix_tup (pv 4) pe_int (fun _ _ => rfl)) pa_nil))))))
        (pss_one (ps_ret (pv 2))))))))), ?_⟩
    cases a with
    | undo n =>
      obtain ⟨p, x, y, rfl, hp, hx, hy⟩ := dp_t2 hv
      obtain rfl := dp_str hx
      obtain rfl := dp_int hy
      refine ⟨_, rfl, p, _, _, _, rfl, rfl, hp, atI_nat (j := 0) rfl, rfl, _, rfl, ifY ?_⟩
      exact ⟨_, rfl, p, _, _, _, rfl, rfl, hp, atI_nat (j := 1) rfl, (by show 2 ≤ sizeLine; decide), fun l hl => q l _ (same_new hl) upd_same⟩
    | insert i l r =>
      obtain ⟨p, x, y, z, u, rfl, hp, hx, hy, hzl, hu⟩ := dp_t4 hv
      obtain rfl := dp_str hx
      obtain rfl := dp_str hy
      have n1 := side_len l
      have n2 := side_len r
      refine ⟨_, rfl, p, _, _, _, rfl, rfl, hp, atI_nat (j := 0) rfl, rfl, _, rfl, ifN (by decide +kernel) ⟨_, rfl, p, _, _, _, rfl, rfl, hp, atI_nat (j := 0) rfl, rfl, _, rfl, ifY ?_⟩⟩
      refine ⟨_, rfl, p, _, _, _, rfl, rfl, hp, atI_nat (j := 2) rfl, z, l, rfl, hzl, fun p3 H3 s3 hp3 => ?_⟩
      refine ⟨_, rfl, p, _, _, _, rfl, rfl, s3.tup hp, atI_nat (j := 3) rfl, u, r, rfl, dp_same s3 hu, fun p5 H5 s5 hp5 => ?_⟩
      refine cat_NR (xs := sideN l) (ys := sideN r) s3 hp3 s5 hp5 (by omega) fun b H6 s6 hb => ?_
      refine ⟨(by show 2 ≤ sizeLine; decide), fun l0 hl0 => ?_⟩
      have s7 := same_new (o := .lst [.str "row", .str "column"]) hl0
      have s67 := s6.trans s7
      refine ⟨.inl ⟨rfl, _, SqL.of upd_same⟩, _, rfl, p, _, _, _, rfl, rfl, s67.tup hp, atI_nat (j := 1) rfl, l0, _, _, i, _, rfl, rfl, SqL.of upd_same, rfl, rfl, axis_at ok, eqV_str _, axis_ix ok, (by show 2 ≤ sizeLine; decide), fun b2 hb2 => ?_⟩
      have s8 := same_new (o := .lst [.int 0, .int (i : Int)]) hb2
      have e : (Ac.insert i l r).n = [0, (i : Int)] ++ (sideN l ++ sideN r) := List.append_assoc _ _ _
      rw [e] at q
      exact ⟨_, rfl, cat_NR (xs := [0, (i : Int)]) (ys := sideN l ++ sideN r) (s67.trans s8) upd_same (Same.refl _) ((s7.trans s8) _ _ hb) (by rw [List.length_append]; show 2 + _ ≤ 100000; omega) q⟩
    | delete i z =>
      obtain ⟨p, x, y, u, rfl, hp, hx, hy, hu⟩ := dp_t3 hv
      obtain rfl := dp_str hx
      obtain rfl := dp_str hy
      refine ⟨_, rfl, p, _, _, _, rfl, rfl, hp, atI_nat (j := 0) rfl, rfl, _, rfl, ifN (by decide +kernel) ⟨_, rfl, p, _, _, _, rfl, rfl, hp, atI_nat (j := 0) rfl, rfl, _, rfl, ifN (by decide +kernel) ⟨_, rfl, p, _, _, _, rfl, rfl, hp, atI_nat (j := 0) rfl, rfl, _, rfl, ifY ?_⟩⟩⟩
      obtain ⟨r2, rfl, hr⟩ := dp_ln hu
      refine ⟨(by show 2 ≤ sizeLine; decide), fun l0 hl0 => ?_⟩
      have s7 := same_new (o := .lst [.str "row", .str "column"]) hl0
      exact ⟨.inl ⟨rfl, _, SqL.of upd_same⟩, _, rfl, p, _, _, _, rfl, rfl, s7.tup hp, atI_nat (j := 1) rfl, l0, _, _, i, _, rfl, rfl, SqL.of upd_same, rfl, rfl, axis_at ok, eqV_str _, axis_ix ok, _, rfl, p, _, _, _, rfl, rfl, s7.tup hp, atI_nat (j := 2) rfl, r2, _, _, _, rfl, rfl, s7.tup hr, atI_nat (j := 0) rfl, _, rfl, p, _, _, _, rfl, rfl, s7.tup hp, atI_nat (j := 2) rfl, r2, _, _, _, rfl, rfl, s7.tup hr, atI_nat (j := 1) rfl, (by show 4 ≤ sizeLine; decide), fun l hl => q l _ (s7.trans (same_new hl)) upd_same⟩
    | name w bs =>
      obtain ⟨p, x, y, z, rfl, hp, hx, hy, hzl⟩ := dp_t3 hv
      obtain rfl := dp_str hx
      obtain rfl := dp_str hy
      obtain ⟨a, us, rfl, ha, hd⟩ := dpT hzl
      refine ⟨_, rfl, p, _, _, _, rfl, rfl, hp, atI_nat (j := 0) rfl, rfl, _, rfl, ifN (by decide +kernel) ⟨_, rfl, p, _, _, _, rfl, rfl, hp, atI_nat (j := 0) rfl, rfl, _, rfl, ifN (by decide +kernel) ⟨_, rfl, p, _, _, _, rfl, rfl, hp, atI_nat (j := 0) rfl, rfl, _, rfl, ifN (by decide +kernel) ⟨_, rfl, p, _, _, _, rfl, rfl, hp, atI_nat (j := 0) rfl, rfl, _, rfl, ifY ?_⟩⟩⟩⟩
      have hul : us.length = bs.length := by rw [dpA_len hd, List.length_map]
      have hb := blks_len bs
      have lw := strN_len w
      have hw : w.length ≤ 900 := sm.1
      have hz : bs.length ≤ 100 := sm.2
      refine ⟨(by show 1 ≤ sizeLine; decide), fun l0 hl0 => ?_⟩
      have s0 := same_new (o := .lst [.int 3]) hl0
      refine ⟨_, rfl, p, _, _, _, rfl, rfl, s0.tup hp, atI_nat (j := 1) rfl, w, rfl, by omega, fun p1 H1 s1 hp1 => ?_⟩
      refine cat_NR (xs := [3]) (ys := strN w) s0 upd_same s1 hp1 (by rw [lw]; show 1 + _ ≤ _; omega) fun l1 H2 s2 hl1 => ?_
      refine ⟨_, rfl, p, _, _, _, rfl, rfl, s2.tup hp, atI_nat (j := 2) rfl, a, us, rfl, .inr (s2.tup ha), (by show 1 ≤ sizeLine; decide), fun l2 hl2 => ?_⟩
      have h2 : (upd H2 l2 (.lst [.int (us.length : Int)])) l2 = some (.lst (([(bs.length : Int)] : List Int).map V.int)) := by
        rw [upd_same, hul]
        rfl
      refine cat_NR (xs := 3 :: strN w) (ys := [(bs.length : Int)]) s2 hl1 (same_new hl2) h2 (by rw [List.length_cons, lw]; show _ + 1 ≤ _; omega) fun l H4 s4 h4 => ?_
      refine ⟨_, rfl, p, _, _, _, rfl, rfl, s4.tup hp, atI_nat (j := 2) rfl, a, rfl, ⟨us, s4.tup ha⟩, for_it (walk_tup (a := a) (xs := us)) (fun j σ H' => ∃ (r : Addr) (c3 c4 : Option V), σ = [some (.ref p), none, some (.ref r), c3, c4] ∧ Same H H' ∧ H' r = some (.lst ((3 :: strN w ++ [(bs.length : Int)] ++ (bs.take j).flatMap fun b => lnsN (blkL b)).map V.int))) ⟨_, _, _, rfl, s4, by rw [List.take_zero]; show _ = some (HO.lst (((3 :: strN w ++ [(bs.length : Int)]) ++ []).map V.int)); rw [List.append_nil]; exact h4⟩ (fun i σ H' _ ⟨_, _, _, _, s, _⟩ => s.tup ha) ?_ ?_⟩
      · rintro j x σ H5 H6 hj ⟨r, c3, c4, rfl, s5, hl5⟩ ⟨rfl, hx⟩
        obtain ⟨b, hb1, hbd⟩ := dpA_get hd j x hx
        have f1 := flat_le1 (f := fun b => lnsN (blkL b)) hb1
        obtain ⟨t, ws, rfl, ht, rt⟩ := dpT hbd
        refine ⟨_, rfl, _, rfl, t, ws, blkL b, rfl, s5.tup ht, dpAll_same s5 rt, (by show 4 ≤ 1000; decide), fun p7 H7 s7 hp7 => ?_⟩
        refine ⟨r, p7, _, _, rfl, rfl, s7 _ _ hl5, hp7, ?_, fun y hy => ⟨_, _, _, rfl, (s5.trans s7).trans (same_new hy), ?_⟩⟩
        · rw [List.length_map, List.length_map, blk_len, List.length_append, List.length_append, List.length_cons, lw]
          have : (lnsN (blkL b)).length = 8 := blk_len b
          exact sz5 (by show _ + 1 + 1 + 1 + _ + 8 ≤ _; omega)
        · rw [upd_same, flat_take hb1, ← List.map_append, List.append_assoc (3 :: strN w ++ [(bs.length : Int)])]
      · rintro σ H5 ⟨r, c3, c4, rfl, s5, hl5⟩
        rw [List.take_of_length_le (by omega)] at hl5
        exact ⟨_, rfl, q r _ s5 hl5⟩
    | write cs =>
      obtain ⟨p, x, y, rfl, hp, hx, hy⟩ := dp_t2 hv
      obtain rfl := dp_str hx
      obtain ⟨a, us, rfl, ha, hd⟩ := dpT hy
      refine ⟨_, rfl, p, _, _, _, rfl, rfl, hp, atI_nat (j := 0) rfl, rfl, _, rfl, ifN (by decide +kernel) ⟨_, rfl, p, _, _, _, rfl, rfl, hp, atI_nat (j := 0) rfl, rfl, _, rfl, ifN (by decide +kernel) ⟨_, rfl, p, _, _, _, rfl, rfl, hp, atI_nat (j := 0) rfl, rfl, _, rfl, ifN (by decide +kernel) ⟨_, rfl, p, _, _, _, rfl, rfl, hp, atI_nat (j := 0) rfl, rfl, _, rfl, ifN (by decide +kernel) ?_⟩⟩⟩⟩
      have hul : us.length = cs.length := by rw [dpA_len hd, List.length_map]
      have hz : cs.length ≤ 100 := sm.1
      have hn := sm.2
      have hc := cels_len hz hn
      refine ⟨_, rfl, p, _, _, _, rfl, rfl, hp, atI_nat (j := 1) rfl, a, us, rfl, .inr ha, (by show 2 ≤ sizeLine; decide), fun l hl => ?_⟩
      have s0 := same_new (o := .lst [.int 2, .int (us.length : Int)]) hl
      have h0 : (upd H l (.lst [.int 2, .int (us.length : Int)])) l = some (.lst (([2, (cs.length : Int)] : List Int).map V.int)) := by
        rw [upd_same, hul]
        rfl
      generalize upd H l (.lst [.int 2, .int (us.length : Int)]) = H0 at s0 h0 ⊢
      refine ⟨_, rfl, p, _, _, _, rfl, rfl, s0.tup hp, atI_nat (j := 1) rfl, a, rfl, ⟨us, s0.tup ha⟩, for_it (walk_tup (a := a) (xs := us)) (fun j σ H' => ∃ (g : Addr) (c3 c4 : Option V), σ = [some (.ref p), none, some (.ref g), c3, c4] ∧ Same H H' ∧ H' g = some (.lst (([2, (cs.length : Int)] ++ (cs.take j).flatMap celN).map V.int))) ⟨_, _, _, rfl, s0, by rw [List.take_zero]; exact h0⟩ (fun i σ H' _ ⟨_, _, _, _, s, _⟩ => s.tup ha) ?_ ?_⟩
      · rintro j x σ H1 H2 hj ⟨g, c3, c4, rfl, s1, hl1⟩ ⟨rfl, hx⟩
        obtain ⟨⟨r, c, t⟩, hb, hbd⟩ := dpA_get hd j x hx
        have f1 := flat_le1 (f := celN) hb
        have lc := cel_len (r, c, t)
        have hm := List.mem_of_getElem? hb
        have ln : t.n.length ≤ 1000 := hn _ hm
        obtain ⟨b, x1, x2, x3, rfl, hbp, hx1, hx2, hx3⟩ := dp_t3 hbd
        refine ⟨_, rfl, _, rfl, 2, rfl, b, _, rfl, s1.tup hbp, cut2_no _ _ _, fun p2 hp2 => ?_⟩
        rw [cut2]
        have s2 := same_new (o := .tup [x1, x2]) hp2
        refine ⟨p2, [x1, x2], [r, c], rfl, SqT.of upd_same, .cons (dp_same (s1.trans s2) hx1) (.cons (dp_same (s1.trans s2) hx2) .nil), (by show 2 ≤ 1000; decide), fun p3 H3 s3 hp3 => ?_⟩
        have s13 := (s1.trans s2).trans s3
        have hl3 := (s2.trans s3) _ _ hl1
        refine cat_NR2 (ys := lnsN [r, c]) s13 hl3 (Same.refl _) hp3 (by rw [List.length_append, lns_len]; show 2 + _ + 2 * 2 ≤ _; omega) fun g2 H4 s4 hl4 => ?_
        refine ⟨_, rfl, b, _, _, _, rfl, rfl, s4.tup hbp, atI_nat (j := 2) rfl, x3, t, rfl, ok _ hm, dp_same s4 hx3, ln, fun p5 H5 s5 hp5 => ?_⟩
        refine ⟨g2, p5, _, _, rfl, rfl, s5 _ _ hl4, hp5, ?_, fun y hy => ⟨_, _, _, rfl, (s4.trans s5).trans (same_new hy), ?_⟩⟩
        · rw [List.length_map, List.length_map, List.length_append, List.length_append, lns_len]
          exact sz5' (by show 2 + _ + 2 * 2 + t.n.length ≤ _; omega)
        · rw [upd_same, flat_take hb, ← List.map_append, List.append_assoc, List.append_assoc]
          rfl
      · rintro σ H1 ⟨g, c3, c4, rfl, s1, hl1⟩
        rw [List.take_of_length_le (by omega)] at hl1
        exact ⟨_, rfl, q g _ s1 hl1⟩
def spEdN (K : PySem.W.Frag) : Sp := fun vs H Q _ => ∃ (x : V) (u : Ed × Ac), vs = [x] ∧ EAt K H x u ∧ OkA u ∧ NR H (edN u) Q
theorem edN_len (u : Ed × Ac) : (edN u).length = 2 + u.1.v.length + u.2.n.length := by
  unfold edN
  rw [List.length_append, List.length_append]
  rfl
theorem okLawEditNumbers (T : Txt K mg) : FnOk P w K mg base CX0 12 T.fLawEditNumbers T.fdLawEditNumbers ["_law_edit"] (spEdN K) := by
  refine T.FLawEditNumbers.ok scLawEditNumbers (fun vs H Q E h => ?_) (fun cdv A outer s H vs Q E hr h => ?_)
  · obtain ⟨x, e, rfl, _⟩ := h
    rfl
  · obtain ⟨x, u, rfl, ⟨q0, a0, b0, c0, rfl, h1, h2, h3, h4⟩, o, q⟩ := h
    -- slots _law_edit=0
    refine ⟨_, (pss_one (ps_ret (pe_op op_cat (pe_op op_cat (pe_lst (pa_cons (pe_ix ix_tup (pe_ix ix_tup (pv 0) pe_int (fun _ _ => rfl)) pe_int (fun _ _ => rfl)) (pa_cons (pe_ix ix_tup (pe_ix ix_tup (pv 0) pe_int (fun _ _ => rfl)) pe_int (fun _ _ => rfl)) pa_nil))) (pe_callTy call_list_of (by rfl) T.z_list (by decide +kernel) (pa_cons (pe_ix ix_tup (pv 0) pe_int (fun _ _ => rfl)) pa_nil))) (pe_call (okLawActionNumbers T) (hr.mono (by decide)) (by rfl) T.gLawActionNumbers T.FLawActionNumbers.kp T.bLawActionNumbers .nil pass0 (pa_cons (pe_ix ix_tup (pv 0) pe_int (fun _ _ => rfl)) pa_nil))))), ?_⟩
    have el := edN_len u
    have ol := o.len
    refine ⟨_, rfl, q0, _, _, _, rfl, rfl, SqT.of h1, atI_nat (j := 0) rfl, a0, _, _, _, rfl, rfl, SqT.of h2, atI_nat (j := 0) rfl, _, rfl, q0, _, _, _, rfl, rfl, SqT.of h1, atI_nat (j := 0) rfl, a0, _, _, _, rfl, rfl, SqT.of h2, atI_nat (j := 1) rfl, (by show 2 ≤ sizeLine; decide), fun l hl => ?_⟩
    have s1 := same_new (o := .lst [.int (1 + (u.1.p : Int)), .int u.1.n]) hl
    have vl := o.v
    refine ⟨_, rfl, q0, _, _, _, rfl, rfl, s1.tup (SqT.of h1), atI_nat (j := 1) rfl, b0, _, rfl, .inr (s1.tup (SqT.of h3)), fun l2 hl2 => ?_⟩
    have s2 := same_new (o := .lst (u.1.v.map V.int)) hl2
    refine cat_NR2 (xs := [1 + (u.1.p : Int), u.1.n]) (ys := u.1.v) s1 upd_same s2 upd_same (by show 2 + _ ≤ _; omega) fun l3 H3 s3 hl3 => ?_
    refine ⟨_, rfl, q0, _, _, _, rfl, rfl, s3.tup (SqT.of h1), atI_nat (j := 2) rfl, c0, u.2, rfl, o.ok, o.sm, dp_same s3 h4, fun p5 H5 s5 hp5 => ?_⟩
    exact cat_NR2 (xs := [1 + (u.1.p : Int), u.1.n] ++ u.1.v) (ys := u.2.n) s3 hl3 s5 hp5 (by rw [List.length_append]; show 2 + _ + _ ≤ _; omega) q
def spUpdN (K : PySem.W.Frag) : Sp := fun vs H Q _ => ∃ (b L : Addr) (r c : Int) (rs : List V) (D : List (Ed × Ac)), vs = [.ref b, .ref L] ∧ SqT K H b [.int r, .int c] ∧ H L = some (.lst rs) ∧ RepG (EAt K H) rs D ∧ D.length ≤ 9 ∧ (D.map keyS).Nodup ∧ (∀ u ∈ D, OkA u) ∧
  ∀ E, Srt D E → NR H ([r, c, (D.length : Int)] ++ E.flatMap edN) Q
theorem okLawUpdateNumbers (T : Txt K mg) : FnOk P w K mg base CX0 13 T.fLawUpdateNumbers T.fdLawUpdateNumbers ["_law_begin_here", "_law_edits_here"] (spUpdN K) := by
  refine T.FLawUpdateNumbers.ok scLawUpdateNumbers (fun vs H Q E h => ?_) (fun cdv A outer s H vs Q E hr h => ?_)
  · obtain ⟨b, L, r, c, rs, D, rfl, _⟩ := h
    rfl
  · obtain ⟨b, L, r, c, rs, D, rfl, hb, hL, R, hz, nk, ok, q⟩ := h
    -- slots _law_begin_here=0 _law_edits_here=1 _law_numbers_here=2 _law_edit=3
    refine ⟨_, (pss_cons (ps_set (i := 2) scLawUpdateNumbers.nd rfl (Or.inl rfl) (pe_lst (pa_cons (pe_ix ix_tup (pv 0) pe_int (fun _ _ => rfl)) (pa_cons (pe_ix ix_tup (pv 0) pe_int (fun _ _ => rfl)) (pa_cons (pe_callB call_len_seq (by rfl) T.z_len PySem.boot_len (pa_cons (pv 1) pa_nil)) pa_nil)))))
        (pss_cons (ps_for PassesOwn.never rfl (pi_list (pe_call (okLawSorted T) (hr.mono (by decide)) (by rfl) T.gLawSorted T.FLawSorted.kp T.bLawSorted .nil pass0 (pa_cons (pv 1) pa_nil))) (pg_name (i := 3) scLawUpdateNumbers.nd rfl (Or.inl rfl))
          (pss_one (ps_set (i := 2) scLawUpdateNumbers.nd rfl (Or.inl rfl) (pe_op op_cat (pv 2) (pe_call (okLawEditNumbers T) (hr.mono (by decide)) (by rfl) T.gLawEditNumbers T.FLawEditNumbers.kp T.bLawEditNumbers .nil pass0 (pa_cons (pv 3) pa_nil))))))
        (pss_one (ps_ret (pv 2))))), ?_⟩
    refine ⟨_, rfl, b, _, _, _, rfl, rfl, hb, atI_nat (j := 0) rfl, _, rfl, b, _, _, _, rfl, rfl, hb, atI_nat (j := 1) rfl, _, rfl, L, rs, rfl, .inl (SqL.of hL), (by show 3 ≤ sizeLine; decide), fun N hN => ?_⟩
    have s1 := same_new (o := .lst [.int r, .int c, .int (rs.length : Int)]) hN
    have hN1 : (upd H N (.lst [.int r, .int c, .int (rs.length : Int)])) N = some (.lst (([r, c, (D.length : Int)] : List Int).map V.int)) := by
      rw [upd_same, R.len]
      rfl
    generalize upd H N (.lst [.int r, .int c, .int (rs.length : Int)]) = H1 at s1 hN1 ⊢
    refine ⟨_, rfl, L, rs, D, rfl, s1 _ _ hL, R.imp fun x e h => h.same s1, hz, nk, fun l H2 es E s2 hl RE sE => ?_⟩
    have q2 := q E sE
    have okE : ∀ u ∈ E, OkA u := fun u hu => ok u (sE.1.mem_iff.mp hu)
    have le : E.length ≤ 9 := by rw [sE.1.length_eq]; exact hz
    have tot : (E.flatMap edN).length ≤ 81000 := Nat.le_trans (flat_bd fun u hu => (okE u hu).len) (Nat.le_trans (Nat.mul_le_mul_right 9000 le) (by decide))
    have s12 := s1.trans s2
    refine ⟨l, rfl, ⟨es, SqL.of hl⟩, for_it (walk_list (a := l) (xs := es)) (fun j σ H' => ∃ (p : Addr) (c3 : Option V), σ = [some (.ref b), some (.ref L), some (.ref p), c3] ∧ Same H2 H' ∧ H' p = some (.lst (([r, c, (D.length : Int)] ++ (E.take j).flatMap edN).map V.int))) ⟨_, _, rfl, Same.refl _, by rw [List.take_zero]; exact s2 _ _ hN1⟩ (fun i σ H' _ ⟨_, _, _, h, _⟩ => SqL.of (h _ _ hl)) ?_ ?_⟩
    · rintro j x σ H3 H4 hj ⟨p, c3, rfl, s4, hp4⟩ ⟨rfl, hx⟩
      obtain ⟨u, hu, E4⟩ := RE.get hx
      have f1 := flat_le1 (f := edN) hu
      refine ⟨_, rfl, _, rfl, x, u, rfl, E4.same s4, okE u (List.mem_of_getElem? hu), fun p5 H5 s5 hp5 => ?_⟩
      refine ⟨p, p5, _, _, rfl, rfl, s5 _ _ hp4, hp5, sz6 (by rw [List.length_map, List.length_map, app_len3]; omega), fun y hy => ⟨_, _, rfl, (s4.trans s5).trans (same_new hy), ?_⟩⟩
      rw [upd_same, flat_take hu, ← List.map_append, List.append_assoc]
    · rintro σ H3 ⟨p, c3, rfl, s3, hp3⟩
      rw [List.take_of_length_le (by rw [RE.len]; exact Nat.le_refl _)] at hp3
      exact ⟨_, rfl, q2 p _ (s12.trans s3) hp3⟩
theorem key_inj {D : List (Ed × Ac)} (nd : (D.map keyS).Nodup) {u w : Ed × Ac} (hu : u ∈ D) (hw : w ∈ D) (h : keyS u = keyS w) : u = w := by
  obtain ⟨i, hi1, e1⟩ := List.mem_iff_getElem.mp hu
  obtain ⟨j, hj1, e2⟩ := List.mem_iff_getElem.mp hw
  have ni := List.pairwise_iff_getElem.mp nd
  have hij : i = j := by
    rcases Nat.lt_trichotomy i j with z | z | z
    · have := ni i j (by rw [List.length_map]; exact hi1) (by rw [List.length_map]; exact hj1) z
      rw [List.getElem_map, List.getElem_map, e1, e2] at this
      exact absurd h this
    · exact z
    · have := ni j i (by rw [List.length_map]; exact hj1) (by rw [List.length_map]; exact hi1) z
      rw [List.getElem_map, List.getElem_map, e1, e2] at this
      exact absurd h.symm this
  subst hij
  rw [← e1, ← e2]
theorem srt_one {D E F : List (Ed × Ac)} (nd : (D.map keyS).Nodup) (h1 : Srt D E) (h2 : Srt D F) : E = F := by
  refine List.Perm.eq_of_pairwise (le := fun a b => ¬ ltE b.1 a.1) (fun a b ha hb h3 h4 => ?_) h1.2 h2.2 (h1.1.trans h2.1.symm)
  refine key_inj nd (h1.1.mem_iff.mp ha) (h2.1.mem_iff.mp hb) ?_
  unfold ltE at h3 h4
  refine Prod.ext ?_ ?_
  · show stampE a.1 = stampE b.1
    omega
  · show 1 + (a.1.p : Int) = 1 + (b.1.p : Int)
    omega
theorem RepG.rev {β : Type} {At : V → β → Prop} : ∀ {rs : List V} {D : List β}, RepG At rs D → RepG At rs.reverse D.reverse
  | rs, D, h => by
    have h1 : RepG At ((rs.zip D).reverse.map Prod.fst) ((rs.zip D).reverse.map Prod.snd) := RepG.of_zs fun z hz => h.mem z (List.mem_reverse.mp hz)
    rwa [List.map_reverse, List.map_reverse, h.fst, h.snd] at h1
theorem ints_shaped (ns : List Int) : SeqAt.shaped (.list (ns.map PyData.int)) = true := by
  show (PyData.canLay0 (.list (ns.map PyData.int)) && decide (PyData.depth (.list (ns.map PyData.int)) ≤ 64)) = true
  rw [Bool.and_eq_true]
  refine ⟨by simp only [PyData.canLay0]; exact PySem.W.ke_canLayAll0 _, decide_eq_true ?_⟩
  simp only [PyData.depth, PySem.W.depth_ints]
  omega
end
end My
namespace My
open PySem PySem.Spec PyProof.Rows L2 RZ
section
variable {P : Program} {w : World} {K : PySem.W.Frag} {mg : Str → Option Value} {base : Heap}
open L2H
open SX (S S_len S_cat slice_to slice_from num_S int_S)
open PySem.NumText (digitsVal AllDigits)
open TL (numL)
def kindA : Ac → Nat
  | .insert _ _ _ => 0
  | .delete _ _ => 1
  | .write _ => 2
  | .name _ _ => 3
  | .undo _ => 4
def bodyA : Ac → List Int
  | .insert i l r => (i : Int) :: (sideN l ++ sideN r)
  | .delete i z => [(i : Int), z.1, z.2]
  | .write cs => (cs.length : Int) :: cs.flatMap celN
  | .name w bs => strN w ++ ((bs.length : Int) :: bs.flatMap fun b => lnsN (blkL b))
  | .undo n => [n]
theorem Ac.split (a : Ac) : a.n = (kindA a : Int) :: bodyA a := by
  cases a with
  | name w bs =>
    show 3 :: strN w ++ [(bs.length : Int)] ++ (bs.flatMap fun b => lnsN (blkL b)) = _
    rw [List.append_assoc]
    rfl
  | _ => rfl
/-! ### what is written is read, number by number -/
inductive AnsN (α : Type) : Type where
  | ok (a : α) (rest : List Int) (pos : Nat) (room : Int)
  | err (p : Nat)
  | more (p : Nat)
def Rp.runN {α : Type} : Rp α → List Int → Nat → Int → AnsN α
  | .ret a, ns, p, r => .ok a ns p r
  | .bad q, _, _, _ => .err q
  | .int _, [], p, _ => .more p
  | .int k, n :: ns, p, r => (k n).runN ns (p + (nb n.toNat).length) r
  | .get k, ns, p, r => (k p r).runN ns p r
  | .put q k, ns, p, _ => k.runN ns p q
def AnsN.then {α β : Type} (a : AnsN α) (f : α → List Int → Nat → Int → AnsN β) : AnsN β :=
  match a with
  | .ok a ns p r => f a ns p r
  | .err p => .err p
  | .more p => .more p
theorem runN_bind {α β : Type} : ∀ (m : Rp α) (f : α → Rp β) (ns : List Int) (p : Nat) (r : Int), (m.bind f).runN ns p r = (m.runN ns p r).then fun a ns p r => (f a).runN ns p r
  | .ret _, _, _, _, _ => rfl
  | .bad _, _, _, _, _ => rfl
  | .int _, _, [], _, _ => rfl
  | .int k, f, n :: ns, p, r => runN_bind (k n) f ns _ r
  | .get k, f, ns, p, r => runN_bind (k p r) f ns p r
  | .put q k, f, ns, p, _ => runN_bind k f ns p q
theorem bytes_app (a b : List Int) : bytesN (a ++ b) = bytesN a ++ bytesN b := List.flatMap_append
theorem bytes_cons (n : Int) (ns : List Int) : bytesN (n :: ns) = nb n.toNat ++ bytesN ns := rfl
/-- the bytes that begin with some numbers are read as the numbers are -/
theorem run_nums {α : Type} {bs tl : List Int} : ∀ (m : Rp α) (ns : List Int) (pos : Nat) (r : Int), (∀ z ∈ ns, 0 ≤ z) → bs.drop pos = bytesN ns ++ tl →
    (∀ a ns' p' r', m.runN ns pos r = .ok a ns' p' r' → m.run bs pos r = .ok a p' r' ∧ bs.drop p' = bytesN ns' ++ tl ∧ p' + (bytesN ns').length = pos + (bytesN ns).length) ∧ (∀ q, m.runN ns pos r = .err q → m.run bs pos r = .err q) ∧
    (∀ q, m.runN ns pos r = .more q → q = pos + (bytesN ns).length ∧ (rdI bs q = none → m.run bs pos r = .err q))
  | .ret a, ns, pos, r, h0, h => ⟨fun a' ns' p' r' e => (by cases e; exact ⟨rfl, h, rfl⟩), fun q e => (by cases e), fun q e => (by cases e)⟩
  | .bad p, ns, pos, r, h0, h => ⟨fun a' ns' p' r' e => (by cases e), fun q e => (by cases e; rfl), fun q e => (by cases e)⟩
  | .int k, [], pos, r, h0, h => by
    refine ⟨fun a' ns' p' r' e => ?_, fun q e => ?_, fun q e => ?_⟩
    · cases e
    · cases e
    · have e : AnsN.more pos = AnsN.more q := e
      cases e
      refine ⟨rfl, fun hn => ?_⟩
      show (rdI bs pos).elim (Ans.err pos) _ = _
      rw [hn]
      rfl
  | .int k, n :: ns, pos, r, h0, h => by
    have hn := h0 n (List.mem_cons_self ..)
    have e1 : rdI bs pos = some (n, pos + (nb n.toNat).length) := by
      have z := rdI_nb n.toNat (r := bytesN ns ++ tl) (by rw [h, bytes_cons, List.append_assoc])
      rw [z, Int.toNat_of_nonneg hn]
    have e2 : bs.drop (pos + (nb n.toNat).length) = bytesN ns ++ tl := by
      rw [← List.drop_drop, h, bytes_cons, List.append_assoc, List.drop_left]
    have e3 : (Rp.int k).run bs pos r = (k n).run bs (pos + (nb n.toNat).length) r := by
      show (rdI bs pos).elim (Ans.err pos) (fun x => (k x.1).run bs x.2 r) = _
      rw [e1]
      rfl
    rw [e3]
    have ih := run_nums (k n) ns (pos + (nb n.toNat).length) r (fun z hz => h0 z (List.mem_cons_of_mem _ hz)) e2
    have el : pos + (bytesN (n :: ns)).length = pos + (nb n.toNat).length + (bytesN ns).length := by
      rw [bytes_cons, List.length_append]
      omega
    rw [el]
    exact ih
  | .get k, ns, pos, r, h0, h => run_nums (k pos r) ns pos r h0 h
  | .put q k, ns, pos, _, h0, h => run_nums k ns pos q h0 h
/-- a row that is cut short ends where the next number is missed -/
theorem runN_cut {α : Type} : ∀ (m : Rp α) (ns ms : List Int) (pos : Nat) (r : Int) (a : α) (p' : Nat) (r' : Int), ms ≠ [] → m.runN (ns ++ ms) pos r = .ok a [] p' r' → m.runN ns pos r = .more (pos + (bytesN ns).length)
  | .ret _, ns, ms, pos, r, a, p', r', hm, e => by
    have e : AnsN.ok _ (ns ++ ms) pos r = AnsN.ok a [] p' r' := e
    have e2 := (AnsN.ok.inj e).2.1
    exact absurd (List.append_eq_nil_iff.mp e2).2 hm
  | .bad _, _, _, _, _, _, _, _, _, e => by cases e
  | .int _, [], _, pos, _, _, _, _, _, _ => rfl
  | .int k, n :: ns, ms, pos, r, a, p', r', hm, e => by
    have ih := runN_cut (k n) ns ms (pos + (nb n.toNat).length) r a p' r' hm e
    have el : pos + (bytesN (n :: ns)).length = pos + (nb n.toNat).length + (bytesN ns).length := by
      rw [bytes_cons, List.length_append]
      omega
    rw [el]
    exact ih
  | .get k, ns, ms, pos, r, a, p', r', hm, e => runN_cut (k pos r) ns ms pos r a p' r' hm e
  | .put q k, ns, ms, pos, _, a, p', r', hm, e => runN_cut k ns ms pos q a p' r' hm e
/-! these numbers are read so; k: the room that they take -/
def RK {α : Type} (m : Rp α) (ns : List Int) (a : α) (k : Nat) : Prop := ∀ (rest : List Int) (p : Nat) (r : Int), (k : Int) ≤ r → m.runN (ns ++ rest) p r = .ok a rest (p + (bytesN ns).length) (r - k)
theorem rk_ret {α : Type} {a : α} : RK (.ret a) [] a 0 := fun rest p r h => by
  show AnsN.ok a rest p r = _
  rw [show r - ((0 : Nat) : Int) = r by omega]
  rfl
theorem rk_bind {α β : Type} {m : Rp α} {f : α → Rp β} {ns ms : List Int} {a : α} {b : β} {j k : Nat} (h1 : RK m ns a j) (h2 : RK (f a) ms b k) : RK (m.bind f) (ns ++ ms) b (j + k) := fun rest p r h => by
  rw [runN_bind, List.append_assoc, h1 (ms ++ rest) p r (by omega)]
  show (f a).runN (ms ++ rest) _ _ = _
  rw [h2 rest _ _ (by omega), bytes_app, List.length_append, Nat.add_assoc, show r - (j : Int) - (k : Int) = r - ((j + k : Nat) : Int) by omega]
theorem rk_num {lo hi z : Int} (h : lo ≤ z ∧ z ≤ hi) : RK (rNum lo hi) [z] z 0 := fun rest p r hr => by
  show (if lo ≤ z ∧ z ≤ hi then Rp.ret z else Rp.bad p : Rp Int).runN rest (p + (nb z.toNat).length) r = _
  rw [if_pos h]
  show AnsN.ok z rest _ r = _
  rw [show bytesN [z] = nb z.toNat from List.append_nil _, show r - ((0 : Nat) : Int) = r by omega]
theorem rk_part {most z : Int} (h : 0 ≤ z ∧ z ≤ most) : RK (rPart most) [z] z 1 := fun rest p r hr => by
  show (if r = 0 then Rp.bad p else Rp.put (r - 1) (rNum 0 most) : Rp Int).runN ([z] ++ rest) p r = _
  rw [if_neg (by omega)]
  show (rNum 0 most).runN ([z] ++ rest) p (r - 1) = _
  rw [rk_num h rest p (r - 1) (by omega), show r - 1 - ((0 : Nat) : Int) = r - ((1 : Nat) : Int) by omega]
theorem rk_to {α : Type} {m : Rp α} {ns ms : List Int} {a : α} {j k : Nat} (h : RK m ns a j) (e : ns = ms) (e2 : j = k) : RK m ms a k := by
  rw [← e, ← e2]
  exact h
theorem rk_rep {β : Type} {m : Rp Unit} {f : β → List Int} {k : Nat} : ∀ {xs : List β}, (∀ x ∈ xs, RK m (f x) () k) → RK (rRep xs.length m) (xs.flatMap f) () (k * xs.length)
  | [], _ => rk_ret
  | x :: xs, h => rk_to (rk_bind (h x (List.mem_cons_self ..)) (rk_rep fun y hy => h y (List.mem_cons_of_mem _ hy))) rfl (by rw [List.length_cons, Nat.mul_succ]; omega)
theorem rk_line {z : Ln} (h : LnOk z) : RK rLine (lnN z) () 0 := rk_to (rk_bind (rk_num ⟨h.1.1, h.1.2⟩) (rk_bind (rk_num h.2) rk_ret)) rfl rfl
theorem rk_lines {zs : List Ln} (h : ∀ z ∈ zs, LnOk z) : RK (rLines zs.length) (lnsN zs) () 0 := rk_to (rk_rep fun z hz => rk_line (h z hz)) rfl (Nat.zero_mul _)
theorem rk_char {cs : List Int} {c : Nat} (h : (c : Int) ∈ cs) (hc : c ≤ 1000) : RK (rChar cs) [(c : Int)] () 0 := fun rest p r hr => by
  show ((rNum 0 100000).bind fun c => if c ∈ cs then Rp.ret () else Rp.bad p).runN ([(c : Int)] ++ rest) p r = _
  rw [runN_bind, rk_num (by omega : (0 : Int) ≤ (c : Int) ∧ (c : Int) ≤ 100000) rest p r hr]
  show (if (c : Int) ∈ cs then Rp.ret () else Rp.bad p : Rp Unit).runN rest _ _ = _
  rw [if_pos h]
  rfl
theorem flat_one : ∀ w : List Nat, w.flatMap (fun (c : Nat) => [(c : Int)]) = w.map fun (c : Nat) => (c : Int)
  | [] => rfl
  | c :: w => by
    rw [List.flatMap_cons, List.map_cons, flat_one w]
    rfl
theorem rk_str {lo hi : Int} {s : Str} {w : List Nat} (h1 : lo ≤ (w.length : Int) ∧ (w.length : Int) ≤ hi) (h : ∀ c ∈ w, c ∈ s.cps.toList ∧ c ≤ 1000) : RK (rStr lo hi (codesS s)) (strN w) () 0 := by
  have z := rk_rep (k := 0) (m := rChar (codesS s)) (f := fun (c : Nat) => [(c : Int)]) (xs := w) fun c hc => rk_char (List.mem_map.mpr ⟨c, (h c hc).1, rfl⟩) (h c hc).2
  rw [flat_one] at z
  have y : RK ((rNum lo hi).bind fun n => rRep n.toNat (rChar (codesS s))) ([(w.length : Int)] ++ w.map fun (c : Nat) => (c : Int)) () (0 + 0) := by
    refine rk_bind (rk_num h1) ?_
    rw [Int.toNat_natCast]
    exact rk_to z rfl (Nat.zero_mul _)
  exact y
end
end My
namespace My
open PySem PySem.Spec PyProof.Rows L2 RZ
section
variable {P : Program} {w : World} {K : PySem.W.Frag} {mg : Str → Option Value} {base : Heap}
open L2H
open SX (S S_len S_cat slice_to slice_from num_S int_S)
open PySem.NumText (digitsVal AllDigits)
open TL (numL)
theorem rk_frac {x y : Int} (h : FrOk x y) : RK rFrac (frN x y) () 0 := by
  obtain ⟨h1, h2⟩ := h
  have b : (0 : Int) ≤ (if 0 ≤ x then 2 * x else -2 * x - 1) ∧ (if 0 ≤ x then 2 * x else -2 * x - 1) ≤ 100000000000000000000 := by
    split <;> omega
  exact rk_to (rk_bind (rk_num b) (rk_bind (rk_num (by omega : (1 : Int) ≤ y ∧ y ≤ 100000000000000000000)) rk_ret)) rfl rfl
theorem rk_if {α : Type} {c : Prop} [Decidable c] {a b : Rp α} {ns : List Int} {x : α} {k : Nat} (hc : c) (h : RK a ns x k) : RK (if c then a else b) ns x k := by
  rw [if_pos hc]
  exact h
theorem rk_else {α : Type} {c : Prop} [Decidable c] {a b : Rp α} {ns : List Int} {x : α} {k : Nat} (hc : ¬ c) (h : RK b ns x k) : RK (if c then a else b) ns x k := by
  rw [if_neg hc]
  exact h
theorem rk_nb {z : Option Ln} (h : ∀ w, z = some w → LnOk w) : RK rNb (sideN z) () 0 := by
  cases z with
  | none =>
    have y : RK rNb ([0] ++ []) () (0 + 0) := rk_bind (rk_num (by decide)) (rk_if rfl rk_ret)
    exact y
  | some z =>
    have y : RK rNb ([1] ++ lnN z) () (0 + 0) := rk_bind (rk_num (by decide)) (rk_else (by decide) (rk_line (h z rfl)))
    exact y
theorem rk_word {w : List Nat} (h : WdOk w) : RK rWord (strN w) () 0 := by
  obtain ⟨h1, h2, h3⟩ := h
  exact rk_str ⟨by omega, by omega⟩ h3
theorem rk_area {a : KA} (h : a.val) : RK rArea a.n () 1 := by
  cases a with
  | gone =>
    have y : RK rArea ([0] ++ []) () (1 + 0) := rk_bind (rk_part (by decide)) (rk_if rfl rk_ret)
    exact y
  | name w =>
    have y : RK rArea ([2] ++ strN w) () (1 + 0) := rk_bind (rk_part (by decide)) (rk_else (by decide) (rk_else (by decide) (rk_word h)))
    exact y
  | block a b c d =>
    have z : RK (rLines 4) (lnsN [a, b, c, d]) () 0 := rk_lines (zs := [a, b, c, d]) fun z hz => by
      simp only [List.mem_cons, List.not_mem_nil, or_false] at hz
      rcases hz with rfl | rfl | rfl | rfl
      · exact h.1
      · exact h.2.1
      · exact h.2.2.1
      · exact h.2.2.2
    have y : RK rArea ([1] ++ lnsN [a, b, c, d]) () (1 + 0) := rk_bind (rk_part (by decide)) (rk_else (by decide) (rk_if rfl z))
    exact y
theorem rk_call {i : Nat} {as : List KA} (hi : i < 4) (hl : as.length ≤ 900) (h : ∀ a ∈ as, a.val) : RK rCall ((i : Int) :: (as.length : Int) :: as.flatMap KA.n) () as.length := by
  have z := rk_rep (k := 1) (m := rArea) (f := KA.n) (xs := as) fun a ha => rk_area (h a ha)
  have y : RK rCall ([(i : Int)] ++ ([(as.length : Int)] ++ as.flatMap KA.n)) () (0 + (0 + as.length)) := by
    refine rk_bind (rk_num (by omega)) (rk_bind (rk_num (by omega)) ?_)
    rw [Int.toNat_natCast]
    exact rk_to z rfl (Nat.one_mul _)
  exact rk_to y rfl (by omega)
theorem rk_tree : ∀ (f : Nat) (t : KT), t.h < f → t.ok → t.val → RK (rTree f) t.n () t.parts
  | 0, _, h, _, _ => absurd h (Nat.not_lt_zero _)
  | f + 1, .gone, _, _, _ => by
    have y : RK (rTree (f + 1)) ([2] ++ []) () (1 + 0) := rk_bind (rk_part (by decide)) (rk_else (by decide) (rk_else (by decide) (rk_if rfl rk_ret)))
    exact y
  | f + 1, .num a b, _, _, v => by
    have y : RK (rTree (f + 1)) ([0] ++ frN a b) () (1 + 0) := rk_bind (rk_part (by decide)) (rk_if rfl (rk_frac v))
    exact y
  | f + 1, .cell a b, _, _, v => by
    have z : RK (rLines 2) (lnsN [a, b]) () 0 := rk_lines (zs := [a, b]) fun z hz => by
      simp only [List.mem_cons, List.not_mem_nil, or_false] at hz
      rcases hz with rfl | rfl
      · exact v.1
      · exact v.2
    have y : RK (rTree (f + 1)) ([1] ++ lnsN [a, b]) () (1 + 0) := rk_bind (rk_part (by decide)) (rk_else (by decide) (rk_if rfl z))
    exact y
  | f + 1, .neg t, hh, o, v => by
    have y : RK (rTree (f + 1)) ([4] ++ t.n) () (1 + t.parts) := rk_bind (rk_part (by decide)) (rk_else (by decide) (rk_else (by decide) (rk_else (by decide) (rk_else (by decide) (rk_if rfl (rk_tree f t (hneg hh) o v))))))
    exact rk_to y rfl (Nat.add_comm _ _)
  | f + 1, .op i l r, hh, o, v => by
    have hi := o.1
    have y : RK (rTree (f + 1)) ([5] ++ ([(i : Int)] ++ (l.n ++ r.n))) () (1 + (0 + (l.parts + r.parts))) := rk_bind (rk_part (by decide)) (rk_else (by decide) (rk_else (by decide) (rk_else (by decide) (rk_else (by decide) (rk_else (by decide)
      (rk_bind (rk_num (by omega)) (rk_bind (rk_tree f l (hop hh).1 o.2.1 v.1) (rk_tree f r (hop hh).2 o.2.2 v.2))))))))
    refine rk_to y ?_ (by show _ = l.parts + r.parts + 1; omega)
    show _ = [5, (i : Int)] ++ l.n ++ r.n
    rw [List.append_assoc]
    rfl
  | f + 1, .call i as, _, o, v => by
    have y : RK (rTree (f + 1)) ([3] ++ ((i : Int) :: (as.length : Int) :: as.flatMap KA.n)) () (1 + as.length) := rk_bind (rk_part (by decide)) (rk_else (by decide) (rk_else (by decide) (rk_else (by decide) (rk_if rfl (rk_call o v.1 v.2)))))
    exact rk_to y rfl (Nat.add_comm _ _)
/-! .. whatever room is left -/
def RE {α : Type} (m : Rp α) (ns : List Int) (a : α) : Prop := ∀ (rest : List Int) (p : Nat) (r : Int), 0 ≤ r → ∃ r', 0 ≤ r' ∧ m.runN (ns ++ rest) p r = .ok a rest (p + (bytesN ns).length) r'
theorem RK.e {α : Type} {m : Rp α} {ns : List Int} {a : α} (h : RK m ns a 0) : RE m ns a := fun rest p r hr => ⟨_, by show (0 : Int) ≤ r - ((0 : Nat) : Int); omega, h rest p r hr⟩
theorem re_bind {α β : Type} {m : Rp α} {f : α → Rp β} {ns ms : List Int} {a : α} {b : β} (h1 : RE m ns a) (h2 : RE (f a) ms b) : RE (m.bind f) (ns ++ ms) b := fun rest p r h => by
  obtain ⟨r1, h3, e1⟩ := h1 (ms ++ rest) p r h
  obtain ⟨r2, h4, e2⟩ := h2 rest (p + (bytesN ns).length) r1 h3
  refine ⟨r2, h4, ?_⟩
  rw [runN_bind, List.append_assoc, e1]
  show (f a).runN (ms ++ rest) _ _ = _
  rw [e2, bytes_app, List.length_append, Nat.add_assoc]
theorem re_if {α : Type} {c : Prop} [Decidable c] {a b : Rp α} {ns : List Int} {x : α} (hc : c) (h : RE a ns x) : RE (if c then a else b) ns x := by
  rw [if_pos hc]
  exact h
theorem re_else {α : Type} {c : Prop} [Decidable c] {a b : Rp α} {ns : List Int} {x : α} (hc : ¬ c) (h : RE b ns x) : RE (if c then a else b) ns x := by
  rw [if_neg hc]
  exact h
theorem re_to {α : Type} {m : Rp α} {ns ms : List Int} {a : α} (h : RE m ns a) (e : ns = ms) : RE m ms a := e ▸ h
theorem re_rep {β : Type} {m : Rp Unit} {f : β → List Int} : ∀ {xs : List β}, (∀ x ∈ xs, RE m (f x) ()) → RE (rRep xs.length m) (xs.flatMap f) ()
  | [], _ => rk_ret.e
  | x :: xs, h => re_bind (h x (List.mem_cons_self ..)) (re_rep fun y hy => h y (List.mem_cons_of_mem _ hy))
theorem re_cont {c : CT} (ok : c.ok 5) (v : c.val) : RE rCont c.n () := by
  cases c with
  | blank =>
    have y : RE rCont ([0] ++ []) () := re_bind (rk_num (by decide)).e (re_if rfl rk_ret.e)
    exact y
  | text w =>
    obtain ⟨v1, v2, v3⟩ := v
    have z : RK (rStr 1 60 charsL) (strN w) () 0 := rk_str ⟨by omega, by omega⟩ v3
    have y : RE rCont ([1] ++ strN w) () := re_bind (rk_num (by decide)).e (re_else (by decide) (re_if rfl z.e))
    exact y
  | number a b =>
    have y : RE rCont ([2] ++ frN a b) () := re_bind (rk_num (by decide)).e (re_else (by decide) (re_else (by decide) (re_if rfl (rk_frac v).e)))
    exact y
  | formula t =>
    have z : RE (Rp.put 60 (rTree 61)) t.n () := fun rest p r h => by
      have th := ok.2
      have tp := v.2
      refine ⟨60 - (t.parts : Int), by omega, ?_⟩
      show (rTree 61).runN (t.n ++ rest) p 60 = _
      exact rk_tree 61 t (by omega) ok.1 v.1 rest p 60 (by omega)
    have y : RE rCont ([3] ++ t.n) () := re_bind (rk_num (by decide)).e (re_else (by decide) (re_else (by decide) (re_else (by decide) z)))
    exact y
theorem re_cell {c : Ln × Ln × CT} (h : CelOk c) : RE rCell (celN c) () := by
  obtain ⟨h1, h2, h3, h4⟩ := h
  have z : RK (rLines 2) (lnsN [c.1, c.2.1]) () 0 := rk_lines (zs := [c.1, c.2.1]) fun z hz => by
    simp only [List.mem_cons, List.not_mem_nil, or_false] at hz
    rcases hz with rfl | rfl
    · exact h1
    · exact h2
  exact re_bind z.e (re_cont h3 h4)
theorem re_act {a : Ac} (ok : a.ok 5) (v : a.val) : RE (rAct (kindA a)) (bodyA a) () := by
  cases a with
  | insert i l r =>
    have hi : i < 2 := ok
    have y : RE rIns ([(i : Int)] ++ (sideN l ++ sideN r)) () := re_bind (rk_num (by omega)).e (re_bind (rk_nb v.1).e (rk_nb v.2).e)
    exact y
  | delete i z =>
    have hi : i < 2 := ok
    have y : RE rDel ([(i : Int)] ++ lnN z) () := re_bind (rk_num (by omega)).e (rk_line v).e
    exact y
  | write cs =>
    have z := re_rep (m := rCell) (f := celN) (xs := cs) fun c hc => re_cell (v.2 c hc)
    have hl := v.1
    have y : RE rWrite ([(cs.length : Int)] ++ cs.flatMap celN) () := by
      refine re_bind (rk_num (by omega)).e ?_
      rw [Int.toNat_natCast]
      exact z
    exact y
  | name w bs =>
    obtain ⟨v1, v2, v3⟩ := v
    have z := re_rep (m := rLines 4) (f := fun b => lnsN (blkL b)) (xs := bs) fun b hb => (rk_lines (zs := blkL b) (v3 b hb)).e
    have y : RE rName (strN w ++ ([(bs.length : Int)] ++ bs.flatMap fun b => lnsN (blkL b))) () := by
      refine re_bind (rk_word v1).e (re_bind (rk_num (by omega)).e ?_)
      rw [Int.toNat_natCast]
      exact z
    exact y
  | undo n =>
    have y : RE rUndo ([n] ++ []) () := re_bind (rk_num v).e rk_ret.e
    exact y
theorem kindA_bd (a : Ac) : kindA a ≤ 4 := by cases a <;> simp [kindA]
theorem re_repL : ∀ {v : List Int}, (∀ z ∈ v, 0 ≤ z ∧ z ≤ 100000) → RE (rRepL v.length (rNum 0 100000)) v v
  | [], _ => rk_ret.e
  | z :: v, h => by
    have y : RE ((rNum 0 100000).bind fun a => (rRepL v.length (rNum 0 100000)).bind fun l => Rp.ret (a :: l)) ([z] ++ (v ++ [])) (z :: v) := re_bind (rk_num (h z (List.mem_cons_self ..))).e (re_bind (re_repL fun x hx => h x (List.mem_cons_of_mem _ hx)) rk_ret.e)
    rw [List.append_nil] at y
    exact y
theorem re_head {e : Ed} (hp : e.p < 4) (hn : 1 ≤ e.n ∧ e.n ≤ 100000) (vl : e.v.length = 4) (hv : ∀ z ∈ e.v, 0 ≤ z ∧ z ≤ 100000) : RE rHead ([1 + (e.p : Int), e.n] ++ e.v) e := by
  have z := re_repL hv
  rw [vl] at z
  have y : RE rHead ([1 + (e.p : Int)] ++ ([e.n] ++ (e.v ++ []))) ⟨(1 + (e.p : Int) - 1).toNat, e.n, e.v⟩ := re_bind (rk_num (by omega)).e (re_bind (rk_num hn).e (re_bind z rk_ret.e))
  rw [List.append_nil, show (1 + (e.p : Int) - 1).toNat = e.p by omega] at y
  exact y
end
end My
namespace My
open PySem PySem.Spec PyProof.Rows L2 RZ
section
variable {P : Program} {w : World} {K : PySem.W.Frag} {mg : Str → Option Value} {base : Heap}
open L2H
open SX (S S_len S_cat slice_to slice_from num_S int_S)
open PySem.NumText (digitsVal AllDigits)
open TL (numL)
/-! ### the edits, one by one -/
theorem edN_split (u : Ed × Ac) : edN u = ([1 + (u.1.p : Int), u.1.n] ++ u.1.v) ++ ((kindA u.2 : Int) :: bodyA u.2) := by
  unfold edN
  rw [Ac.split]
structure HdE (e : Ed) : Prop where
  p : e.p < 4
  n : 1 ≤ e.n ∧ e.n ≤ 100000
  vl : e.v.length = 4
  v : ∀ z ∈ e.v, 0 ≤ z ∧ z ≤ 100000
theorem ValE.hd {u : Ed × Ac} (h : ValE u) : HdE u.1 := ⟨h.p, h.n, h.vl, fun z hz => by have := h.v z hz; omega⟩
theorem turn_run {n : Nat} {told : List Ed} {u : Ed × Ac} (h : HdE u.1) (rest : List Int) (p : Nat) (r : Int) (hr : 0 ≤ r) : ∃ r', 0 ≤ r' ∧ (rEdits (n + 1) told).runN (edN u ++ rest) p r =
    (if wrongE u.1 told = true then Rp.bad p else (rNum 0 4).bind fun k => (rAct k).bind fun _ => rEdits n (u.1 :: told) : Rp Unit).runN (((kindA u.2 : Int) :: bodyA u.2) ++ rest) (p + (bytesN ([1 + (u.1.p : Int), u.1.n] ++ u.1.v)).length) r' := by
  obtain ⟨r1, h1, e1⟩ := re_head h.p h.n h.vl h.v (((kindA u.2 : Int) :: bodyA u.2) ++ rest) p r hr
  refine ⟨r1, h1, ?_⟩
  show (rHead.bind fun h => if wrongE h told = true then Rp.bad p else (rNum 0 4).bind fun k => (rAct k).bind fun _ => rEdits n (h :: told)).runN _ p r = _
  rw [runN_bind, edN_split, List.append_assoc, e1]
  rfl
theorem turn_bad {n : Nat} {told : List Ed} {u : Ed × Ac} (h : HdE u.1) (w : wrongE u.1 told = true) (rest : List Int) (p : Nat) (r : Int) (hr : 0 ≤ r) : (rEdits (n + 1) told).runN (edN u ++ rest) p r = .err p := by
  obtain ⟨r1, h1, e1⟩ := turn_run (n := n) (told := told) h rest p r hr
  rw [e1, if_pos w]
  rfl
theorem turn_ok {n : Nat} {told : List Ed} {u : Ed × Ac} (h : ValE u) (w : wrongE u.1 told = false) (rest : List Int) (p : Nat) (r : Int) (hr : 0 ≤ r) : ∃ r', 0 ≤ r' ∧ (rEdits (n + 1) told).runN (edN u ++ rest) p r = (rEdits n (u.1 :: told)).runN rest (p + (bytesN (edN u)).length) r' := by
  obtain ⟨r1, h1, e1⟩ := turn_run (n := n) (told := told) h.hd rest p r hr
  have k4 := kindA_bd u.2
  have y : RE ((rNum 0 4).bind fun k => rAct k) ([(kindA u.2 : Int)] ++ bodyA u.2) () := re_bind (rk_num (by omega)).e (re_act h.ok h.a)
  obtain ⟨r2, h2, e2⟩ := y rest (p + (bytesN ([1 + (u.1.p : Int), u.1.n] ++ u.1.v)).length) r1 h1
  refine ⟨r2, h2, ?_⟩
  rw [e1, if_neg (by rw [w]; exact Bool.false_ne_true), ← bind_assoc, runN_bind]
  have e2 : ((rNum 0 4).bind fun k => rAct k).runN (((kindA u.2 : Int) :: bodyA u.2) ++ rest) (p + (bytesN ([1 + (u.1.p : Int), u.1.n] ++ u.1.v)).length) r1 = .ok () rest (p + (bytesN ([1 + (u.1.p : Int), u.1.n] ++ u.1.v)).length + (bytesN ((kindA u.2 : Int) :: bodyA u.2)).length) r2 := e2
  rw [e2, edN_split, bytes_app _ ((kindA u.2 : Int) :: bodyA u.2), List.length_append, ← Nat.add_assoc]
  rfl
/-- each may stand behind those ahead of it -/
def Good : List Ed → List (Ed × Ac) → Prop
  | _, [] => True
  | told, u :: E => wrongE u.1 told = false ∧ Good (u.1 :: told) E
def toldOf : List Ed → List (Ed × Ac) → List Ed
  | told, [] => told
  | told, u :: E => toldOf (u.1 :: told) E
theorem turns_ok {m : Nat} {rest : List Int} : ∀ {E : List (Ed × Ac)} {told : List Ed} {p : Nat} {r : Int}, (∀ u ∈ E, ValE u) → Good told E → 0 ≤ r →
    ∃ r', 0 ≤ r' ∧ (rEdits (E.length + m) told).runN (E.flatMap edN ++ rest) p r = (rEdits m (toldOf told E)).runN rest (p + (bytesN (E.flatMap edN)).length) r'
  | [], told, p, r, _, _, hr => ⟨r, hr, by rw [List.length_nil, Nat.zero_add]; rfl⟩
  | u :: E, told, p, r, h, g, hr => by
    obtain ⟨r1, h1, e1⟩ := turn_ok (n := E.length + m) (told := told) (h u (List.mem_cons_self ..)) g.1 (E.flatMap edN ++ rest) p r hr
    obtain ⟨r2, h2, e2⟩ := turns_ok (m := m) (rest := rest) (E := E) (told := u.1 :: told) (p := p + (bytesN (edN u)).length) (fun x hx => h x (List.mem_cons_of_mem _ hx)) g.2 h1
    refine ⟨r2, h2, ?_⟩
    rw [List.length_cons, show E.length + 1 + m = (E.length + m) + 1 by omega, List.flatMap_cons, List.append_assoc, e1, e2, bytes_app, List.length_append, Nat.add_assoc]
    rfl
/-- the ids differ, and they stand in their order -/
theorem good_of : ∀ {E : List (Ed × Ac)} {told : List Ed}, (E.map fun u => u.1.id).Nodup → (E.Pairwise fun a b => ¬ ltE b.1 a.1) → (∀ u ∈ E, ∀ x ∈ told, x.id ≠ u.1.id) → (∀ u ∈ E, ∀ l t, told = l :: t → ¬ ltE u.1 l) → Good told E
  | [], _, _, _, _, _ => True.intro
  | u :: E, told, nd, so, h1, h2 => by
    rw [List.map_cons, List.nodup_cons] at nd
    rw [List.pairwise_cons] at so
    refine ⟨?_, good_of nd.2 so.2 (fun w hw x hx => ?_) fun w hw l t e => ?_⟩
    · unfold wrongE
      rw [List.any_eq_false.mpr fun x hx => by simpa using h1 u (List.mem_cons_self ..) x hx]
      cases told with
      | nil => rfl
      | cons l t => rw [Bool.false_or]; exact decide_eq_false (h2 u (List.mem_cons_self ..) l t rfl)
    · rcases List.mem_cons.mp hx with rfl | z
      · exact fun z => nd.1 (List.mem_map.mpr ⟨w, hw, z.symm⟩)
      · exact h1 w (List.mem_cons_of_mem _ hw) x z
    · obtain ⟨rfl, _⟩ := List.cons.inj e
      exact so.1 w hw
theorem told_mem : ∀ {E : List (Ed × Ac)} {told : List Ed} {x : Ed}, x ∈ told ∨ (∃ u ∈ E, u.1 = x) → x ∈ toldOf told E
  | [], told, x, h => by
    rcases h with h | ⟨u, hu, _⟩
    · exact h
    · cases hu
  | u :: E, told, x, h => by
    refine told_mem (E := E) (told := u.1 :: told) ?_
    rcases h with h | ⟨w, hw, e⟩
    · exact .inl (List.mem_cons_of_mem _ h)
    · rcases List.mem_cons.mp hw with rfl | z
      · exact .inl (by rw [← e]; exact List.mem_cons_self ..)
      · exact .inr ⟨w, z, e⟩
theorem told_last : ∀ {E : List (Ed × Ac)} {told : List Ed} {u : Ed × Ac}, ∃ t, toldOf told (E ++ [u]) = u.1 :: t
  | [], told, u => ⟨told, rfl⟩
  | w :: E, told, u => told_last (E := E) (told := w.1 :: told) (u := u)
/-! the update without its end -/
def rBody : Rp Unit := (rNum 0 8).bind fun _ => (rNum 0 6).bind fun _ => (rNum 0 100000).bind fun n => rEdits n.toNat []
def rTail (len : Nat) : Unit → Rp Unit := fun _ => .get fun p _ => if p < len then .bad p else .ret ()
theorem upd_body (len : Nat) : rUpd len = rBody.bind (rTail len) := by
  unfold rBody
  rw [bind_assoc]
  refine congrArg (Rp.bind _) (funext fun _ => ?_)
  rw [bind_assoc]
  refine congrArg (Rp.bind _) (funext fun _ => ?_)
  rw [bind_assoc]
  rfl
theorem place_err {bs : List Int} {q : Nat} (h : rBody.run bs 0 0 = .err q) : placeOf bs = (q : Int) := by
  unfold placeOf
  rw [upd_body, run_bind, h]
  rfl
theorem place_more {bs : List Int} {p : Nat} {r : Int} (h : rBody.run bs 0 0 = .ok () p r) (hp : p < bs.length) : placeOf bs = (p : Int) := by
  unfold placeOf
  rw [upd_body, run_bind, h]
  show (match (if p < bs.length then Rp.bad p else Rp.ret () : Rp Unit).run bs p r with | .ok _ _ _ => (-1 : Int) | .err p => (p : Int)) = _
  rw [if_pos hp]
  rfl
theorem body_head {r c n : Int} (hr : 0 ≤ r ∧ r ≤ 8) (hc : 0 ≤ c ∧ c ≤ 6) (hn : 0 ≤ n ∧ n ≤ 100000) (rest : List Int) : rBody.runN ([r, c, n] ++ rest) 0 0 = (rEdits n.toNat []).runN rest (bytesN [r, c, n]).length 0 := by
  have y : RK ((rNum 0 8).bind fun _ => (rNum 0 6).bind fun _ => rNum 0 100000) ([r] ++ ([c] ++ [n])) n (0 + (0 + 0)) := rk_bind (rk_num hr) (rk_bind (rk_num hc) (rk_num hn))
  have e : rBody = ((rNum 0 8).bind fun _ => (rNum 0 6).bind fun _ => rNum 0 100000).bind fun n => rEdits n.toNat [] := by
    unfold rBody
    rw [bind_assoc]
    refine congrArg (Rp.bind _) (funext fun _ => ?_)
    rw [bind_assoc]
  have z := y rest 0 0 (by decide)
  rw [e, runN_bind]
  have z : ((rNum 0 8).bind fun _ => (rNum 0 6).bind fun _ => rNum 0 100000).runN ([r, c, n] ++ rest) 0 0 = .ok n rest (0 + (bytesN [r, c, n]).length) (0 - ((0 : Nat) : Int)) := z
  rw [z, Nat.zero_add]
  rfl
def headN (r c n : Int) (E : List (Ed × Ac)) : List Int := [r, c, n] ++ E.flatMap edN
/-- all is read -/
theorem body_all {r c : Int} {E : List (Ed × Ac)} (hr : 0 ≤ r ∧ r ≤ 8) (hc : 0 ≤ c ∧ c ≤ 6) (hz : E.length ≤ 9) (h : ∀ u ∈ E, ValE u) (g : Good [] E) : ∃ r', rBody.runN (headN r c E.length E) 0 0 = .ok () [] (bytesN (headN r c E.length E)).length r' := by
  obtain ⟨r1, _, e1⟩ := turns_ok (m := 0) (rest := []) (E := E) (told := []) (p := (bytesN [r, c, (E.length : Int)]).length) (r := 0) h g (Int.le_refl _)
  refine ⟨r1, ?_⟩
  have e0 : headN r c E.length E = [r, c, (E.length : Int)] ++ (E.flatMap edN ++ []) := by rw [List.append_nil]; rfl
  rw [e0, body_head hr hc (by omega), Int.toNat_natCast]
  rw [Nat.add_zero] at e1
  rw [e1, List.append_nil, bytes_app, List.length_append]
  rfl
theorem nn_of {r c n : Int} {E : List (Ed × Ac)} (hr : 0 ≤ r ∧ r ≤ 8) (hc : 0 ≤ c ∧ c ≤ 6) (hn : 0 ≤ n) (h : ∀ u ∈ E, ∀ z ∈ edN u, 0 ≤ z) : ∀ z ∈ headN r c n E, 0 ≤ z := fun z hz => by
  rcases List.mem_append.mp hz with y | y
  · simp only [List.mem_cons, List.not_mem_nil, or_false] at y
    rcases y with rfl | rfl | rfl
    · exact hr.1
    · exact hc.1
    · exact hn
  · obtain ⟨u, hu, hy⟩ := List.mem_flatMap.mp y
    exact h u hu z hy
/-- cut short, or written longer: the place of the number -/
theorem place_cut {ns ms : List Int} {bs tl : List Int} {p : Nat} {r' : Int} (h : rBody.runN (ns ++ ms) 0 0 = .ok () [] p r') (hm : ms ≠ []) (h0 : ∀ z ∈ ns, 0 ≤ z) (hb : bs = bytesN ns ++ tl) (bad : rdI bs (bytesN ns).length = none) : placeOf bs = ((bytesN ns).length : Int) := by
  have e1 := runN_cut rBody ns ms 0 0 () p r' hm h
  rw [Nat.zero_add] at e1
  have e2 := run_nums (bs := bs) (tl := tl) rBody ns 0 0 h0 (by rw [List.drop_zero]; exact hb)
  exact place_err ((e2.2.2 _ e1).2 bad)
/-- a byte too many -/
theorem place_extra {ns : List Int} {p : Nat} {r' : Int} {b : Int} {tl : List Int} (h : rBody.runN ns 0 0 = .ok () [] p r') (h0 : ∀ z ∈ ns, 0 ≤ z) : placeOf (bytesN ns ++ b :: tl) = ((bytesN ns).length : Int) := by
  have e2 := run_nums (bs := bytesN ns ++ b :: tl) (tl := b :: tl) rBody ns 0 0 h0 (by rw [List.drop_zero])
  obtain ⟨e3, _, e5⟩ := e2.1 _ _ _ _ h
  have e5 : p + 0 = 0 + (bytesN ns).length := e5
  have ep : p = (bytesN ns).length := by omega
  rw [ep] at e3
  exact place_more e3 (by rw [List.length_append, List.length_cons]; omega)
/-- an edit that may not stand there -/
theorem place_wrong {r c n : Int} {E : List (Ed × Ac)} {u : Ed × Ac} {rest : List Int} (hr : 0 ≤ r ∧ r ≤ 8) (hc : 0 ≤ c ∧ c ≤ 6) (hn : (E.length : Int) < n ∧ n ≤ 100000) (h : ∀ x ∈ E, ValE x) (g : Good [] E) (hu : HdE u.1) (w : wrongE u.1 (toldOf [] E) = true)
    (h0 : ∀ z ∈ headN r c n E ++ (edN u ++ rest), 0 ≤ z) : placeOf (bytesN (headN r c n E ++ (edN u ++ rest))) = ((bytesN (headN r c n E)).length : Int) := by
  obtain ⟨m, hm⟩ : ∃ m : Nat, n.toNat = E.length + (m + 1) := ⟨n.toNat - E.length - 1, by omega⟩
  obtain ⟨r1, h1, e1⟩ := turns_ok (m := m + 1) (rest := edN u ++ rest) (E := E) (told := []) (p := (bytesN [r, c, n]).length) (r := 0) h g (Int.le_refl _)
  have e2 : rBody.runN (headN r c n E ++ (edN u ++ rest)) 0 0 = .err (bytesN (headN r c n E)).length := by
    show rBody.runN ([r, c, n] ++ E.flatMap edN ++ (edN u ++ rest)) 0 0 = _
    rw [List.append_assoc, body_head hr hc (by omega), hm, e1, turn_bad hu w rest _ _ h1]
    show AnsN.err _ = AnsN.err (bytesN ([r, c, n] ++ E.flatMap edN)).length
    rw [bytes_app, List.length_append]
  have e3 := run_nums (bs := bytesN (headN r c n E ++ (edN u ++ rest))) (tl := []) rBody _ 0 0 h0 (by rw [List.drop_zero, List.append_nil])
  exact place_err (e3.2.1 _ e2)
theorem rdI_one {b : Int} {r : List Int} {pre : List Int} (h : 0 ≤ b ∧ b < 128) : rdI (pre ++ b :: r) pre.length = some (b, pre.length + 1) := by
  have z := rdI_nb (bs := pre ++ b :: r) (pos := pre.length) b.toNat (r := r) (by rw [List.drop_left, nb_small (by omega), Int.toNat_of_nonneg h.1]; rfl)
  rw [nb_small (by omega), Int.toNat_of_nonneg h.1] at z
  exact z
theorem place_first {b : Int} {r : List Int} (h : 9 ≤ b ∧ b < 128) : placeOf (b :: r) = 0 := by
  refine place_err (q := 0) ?_
  unfold rBody
  rw [run_bind]
  have e : (rNum 0 8).run (b :: r) 0 0 = .err 0 := by
    show (rdI (b :: r) 0).elim (Ans.err 0) (fun x => (if 0 ≤ x.1 ∧ x.1 ≤ 8 then Rp.ret x.1 else Rp.bad 0 : Rp Int).run (b :: r) x.2 0) = _
    have z := rdI_one (b := b) (r := r) (pre := []) (by omega)
    rw [show ([] : List Int) ++ b :: r = b :: r from rfl] at z
    rw [show ([] : List Int).length = 0 from rfl] at z
    rw [z]
    show (if 0 ≤ b ∧ b ≤ 8 then Rp.ret b else Rp.bad 0 : Rp Int).run (b :: r) 1 0 = _
    rw [if_neg (by omega)]
    rfl
  rw [e]
  rfl
theorem place_second {a b : Int} {r : List Int} (ha : 0 ≤ a ∧ a ≤ 8) (h : 7 ≤ b ∧ b < 128) : placeOf (a :: b :: r) = 1 := by
  refine place_err (q := 1) ?_
  unfold rBody
  rw [run_bind]
  have e : (rNum 0 8).run (a :: b :: r) 0 0 = .ok a 1 0 := by
    show (rdI (a :: b :: r) 0).elim (Ans.err 0) (fun x => (if 0 ≤ x.1 ∧ x.1 ≤ 8 then Rp.ret x.1 else Rp.bad 0 : Rp Int).run (a :: b :: r) x.2 0) = _
    have z := rdI_one (b := a) (r := b :: r) (pre := []) (by omega)
    rw [show ([] : List Int) ++ a :: b :: r = a :: b :: r from rfl] at z
    rw [show ([] : List Int).length = 0 from rfl] at z
    rw [z]
    show (if 0 ≤ a ∧ a ≤ 8 then Rp.ret a else Rp.bad 0 : Rp Int).run (a :: b :: r) 1 0 = _
    rw [if_pos ha]
    rfl
  rw [e]
  show ((rNum 0 6).bind fun _ => (rNum 0 100000).bind fun n => rEdits n.toNat []).run (a :: b :: r) 1 0 = _
  rw [run_bind]
  have e2 : (rNum 0 6).run (a :: b :: r) 1 0 = .err 1 := by
    show (rdI (a :: b :: r) 1).elim (Ans.err 1) (fun x => (if 0 ≤ x.1 ∧ x.1 ≤ 6 then Rp.ret x.1 else Rp.bad 1 : Rp Int).run (a :: b :: r) x.2 0) = _
    have z := rdI_one (b := b) (r := r) (pre := [a]) (by omega)
    rw [show [a] ++ b :: r = a :: b :: r from rfl, show [a].length = 1 from rfl] at z
    rw [z]
    show (if 0 ≤ b ∧ b ≤ 6 then Rp.ret b else Rp.bad 1 : Rp Int).run (a :: b :: r) 2 0 = _
    rw [if_neg (by omega)]
    rfl
  rw [e2]
  rfl
end
end My
namespace My
open PySem PySem.Spec PyProof.Rows L2 RZ
section
variable {P : Program} {w : World} {K : PySem.W.Frag} {mg : Str → Option Value} {base : Heap}
open L2H
open SX (S S_len S_cat slice_to slice_from num_S int_S)
open PySem.NumText (digitsVal AllDigits)
open TL (numL)
theorem call_list_ofK {X : Cx} {K : PySem.W.Frag} (h : X.K = K) : CallR X (.type "list") (fun xs H Q => ∃ p ys, xs = [.ref p] ∧ (SqL K H p ys ∨ SqT K H p ys) ∧ ∀ l, H l = none → Q (.ref l) (upd H l (.lst ys))) := by
  subst h
  exact call_list_of
theorem cut_any {bs : List Int} {pos n : Nat} : cutV (bs.map V.int) (some (pos : Int)) (some ((pos + n : Nat) : Int)) = ((bs.drop pos).take n).map V.int := by
  unfold cutV
  rw [HT.sIx_nat, HT.sIx_nat, List.length_map]
  rcases Nat.lt_or_ge bs.length pos with h | h
  · rw [Nat.min_eq_right (Nat.le_of_lt h), Nat.min_eq_right (by omega), Nat.sub_self, List.drop_eq_nil_of_le (Nat.le_of_lt h)]
    simp
  · rw [Nat.min_eq_left h, List.map_take, List.map_drop]
    have e : ((bs.map V.int).drop pos).length = bs.length - pos := by rw [List.length_drop, List.length_map]
    rcases Nat.lt_or_ge bs.length (pos + n) with z | z
    · rw [Nat.min_eq_right (Nat.le_of_lt z), List.take_of_length_le (by omega), List.take_of_length_le (by omega)]
    · rw [Nat.min_eq_left z, show pos + n - pos = n by omega]
theorem cut_to {bs : List Int} {n : Nat} : cutV (bs.map V.int) none (some (n : Int)) = (bs.take n).map V.int := by
  have h := cut_any (bs := bs) (pos := 0) (n := n)
  rw [Nat.zero_add, List.drop_zero] at h
  rw [← h]
  unfold cutV
  rw [HT.sIx_none, HT.sIx_nat, HT.sIx_nat, Nat.zero_min]
theorem rdI_long {bs : List Int} {pos : Nat} (n : Nat) {l : Int} {r : List Int} (hl : (nb n)[(nb n).length - 1]? = some l) (h : bs.drop pos = (nb n).take ((nb n).length - 1) ++ (l + 128) :: 0 :: r) : rdI bs pos = none := by
  have np := nb_pos n
  have li := nb_item n ((nb n).length - 1) l hl
  have lb := li.2 (by omega)
  have tl : ((nb n).take ((nb n).length - 1)).length = (nb n).length - 1 := by rw [List.length_take]; omega
  have h1 := hdB_at (nb n).length (bs.drop pos) 0 (fun j x hj hx => by
    rw [h] at hx
    rcases Nat.lt_or_ge j ((nb n).length - 1) with z | z
    · rw [List.getElem?_append_left (by omega), List.getElem?_take_of_lt z] at hx
      exact ((nb_item n j x hx).1 (by omega)).1
    · have ej : j = (nb n).length - 1 := by omega
      rw [List.getElem?_append_right (by omega), tl, ej, Nat.sub_self] at hx
      have hx := Option.some.inj hx
      omega) (by
    rw [h, List.getElem?_append_right (by omega), tl, show (nb n).length - ((nb n).length - 1) = 1 by omega]
    rfl) (by decide)
  unfold rdI
  rw [h1]
  have el : ((bs.drop pos).take ((nb n).length + 1)) = (nb n).take ((nb n).length - 1) ++ [l + 128, 0] := by
    rw [h, List.take_append, List.take_of_length_le (by omega), tl, show (nb n).length + 1 - ((nb n).length - 1) = 2 by omega]
    rfl
  show (if 1 < ((bs.drop pos).take ((nb n).length + 1)).length ∧ ((bs.drop pos).take ((nb n).length + 1)).getLast? = some 0 then none else _) = _
  rw [if_pos]
  rw [el, List.length_append]
  refine ⟨by show 1 < _ + 2; omega, ?_⟩
  rw [List.getLast?_append]
  rfl
/-- where each number begins -/
def startsL (ns : List Int) : List Int := (List.range ns.length).map fun j => ((bytesN (ns.take j)).length : Int)
theorem take_bytes {ns : List Int} {j : Nat} {z : Int} (h : ns[j]? = some z) : ((bytesN (ns.take (j + 1))).length : Int) = ((bytesN (ns.take j)).length : Int) + ((nb z.toNat).length : Int) := by
  unfold bytesN
  rw [flat_take h, List.length_append]
  omega
def spStarts (K : PySem.W.Frag) : Sp := fun vs H Q _ => ∃ (a : Addr) (ns : List Int), vs = [.ref a] ∧ SqL K H a (ns.map V.int) ∧ ns.length ≤ 90000 ∧ (∀ z ∈ ns, 0 ≤ z ∧ z < 10 ^ 30) ∧ NR H (startsL ns) Q
theorem okLawStarts (T : Txt K mg) : FnOk P w K mg base CX0 2 T.fLawStarts T.fdLawStarts ["_law_numbers_here"] (spStarts K) := by
  refine T.FLawStarts.ok scLawStarts (fun vs H Q E h => ?_) (fun cdv A outer s H vs Q E hr h => ?_)
  · obtain ⟨a, ns, rfl, _⟩ := h
    rfl
  · obtain ⟨a, ns, rfl, ha, hl, nm, q⟩ := h
    -- slots _law_numbers_here=0 _law_starts_here=1 _law_at=2 _law_n=3
    refine ⟨_, (pss_cons (ps_set (i := 1) scLawStarts.nd rfl (Or.inl rfl) (pe_lst pa_nil))
        (pss_cons (ps_set (i := 2) scLawStarts.nd rfl (Or.inl rfl) pe_int)
        (pss_cons (ps_for PassesOwn.never rfl (pi_list (pv 0)) (pg_name (i := 3) scLawStarts.nd rfl (Or.inl rfl))
          (pss_cons (ps_expr (pe_bm PySem.F.plainAttrs_list PySem.F.slot_list_append PySem.F.type_list_append mt_append (pv 1) (pa_cons (pv 2) pa_nil)))
          (pss_one (ps_set (i := 2) scLawStarts.nd rfl (Or.inl rfl) (pe_op op_add (pv 2) (pe_callB call_len_seq (by rfl) T.z_len PySem.boot_len (pa_cons (pe_call (okLawNumber T) (hr.mono (by decide)) (by rfl) T.gLawNumber T.FLawNumber.kp T.bLawNumber .nil pass0 (pa_cons (pv 3) pa_nil)) pa_nil)))))))
        (pss_one (ps_ret (pv 1)))))), ?_⟩
    refine ⟨Nat.zero_le _, fun N hN => ?_⟩
    have s0 := same_new (o := .lst []) hN
    refine ⟨_, rfl, a, rfl, ⟨_, s0.seq ha⟩, for_it (walk_list (a := a) (xs := ns.map V.int)) (fun j σ H' => ∃ (c : Option V), σ = [some (.ref a), some (.ref N), some (.int ((bytesN (ns.take j)).length : Int)), c] ∧ Same H H' ∧ H' N = some (.lst (((List.range j).map fun j => ((bytesN (ns.take j)).length : Int)).map V.int))) ⟨_, rfl, s0, upd_same⟩ (fun j σ H' _ ⟨_, _, h, _⟩ => h.seq ha) ?_ ?_⟩
    · rintro j x σ H1 H2 hj ⟨c2, rfl, s1, hp⟩ ⟨rfl, hx⟩
      rw [List.getElem?_map] at hx
      obtain ⟨z, hz2, rfl⟩ : ∃ z, ns[j]? = some z ∧ V.int z = x := by
        cases e : ns[j]? with
        | none =>
          rw [e] at hx
          cases hx
        | some z =>
          rw [e] at hx
          exact ⟨z, rfl, Option.some.inj hx⟩
      have zb := nm z (List.mem_of_getElem? hz2)
      have e1 : ((List.range (j + 1)).map fun j => ((bytesN (ns.take j)).length : Int)).map V.int = ((List.range j).map fun j => ((bytesN (ns.take j)).length : Int)).map V.int ++ [.int ((bytesN (ns.take j)).length : Int)] := by
        rw [List.range_succ, List.map_append, List.map_append]
        rfl
      refine ⟨_, rfl, .inl ⟨rfl, _, SqL.of hp⟩, _, rfl, N, _, _, rfl, rfl, hp, by rw [List.length_map, List.length_map, List.length_range, sizeLine_eq]; rw [List.length_map] at hj; omega, ?_⟩
      have s2 := same_mut (o := .lst (((List.range j).map fun j => ((bytesN (ns.take j)).length : Int)).map V.int ++ [.int ((bytesN (ns.take j)).length : Int)])) s1 hN
      refine ⟨_, rfl, _, rfl, z.toNat, congrArg (fun y => [V.int y]) (show z = ((z.toNat : Nat) : Int) by omega), by omega, fun p2 H3 s3 hp2 => ⟨p2, _, rfl, .inl (SqL.of hp2), _, _, rfl, rfl, ?_⟩⟩
      refine ⟨some (.int z), ?_, s2.trans s3, ?_⟩
      · rw [List.length_map, take_bytes hz2]
        rfl
      · rw [e1]
        exact s3 _ _ upd_same
    · rintro σ H1 ⟨c2, rfl, s1, hp⟩
      rw [List.length_map] at hp
      exact ⟨_, rfl, q N _ s1 hp⟩
def spPlc (K : PySem.W.Frag) : Sp := fun vs H Q _ => ∃ (a : Addr) (bs : List Int), vs = [.ref a] ∧ SqL K H a (bs.map V.int) ∧ bs.length ≤ 2000000 ∧ ∀ H', Same H H' → Q (.int (placeOf bs)) H'
theorem okLawPlace (T : Txt K mg) : FnOk P w K mg base CX0 136 T.fLawPlace T.fdLawPlace ["_law_data"] (spPlc K) := by
  refine T.FLawPlace.ok scLawPlace (fun vs H Q E h => ?_) (fun cdv A outer s H vs Q E hr h => ?_)
  · obtain ⟨a, bs, rfl, _⟩ := h
    rfl
  · obtain ⟨a, bs, rfl, ha, hl, q⟩ := h
    -- slots _law_data=0 e=1
    refine ⟨_, (pss_cons (L2N.ps_try_as (i := 1) rfl rfl scLawPlace.nd rfl rfl ⟨rfl, by decide, .inl T.gKTableError⟩ takesN (fun W pn xe tk po =>
          (pss_one (ps_expr (pe_callS (okReadUpdate T) (hr.mono (by decide)) (by rfl) T.gReadUpdate T.FReadUpdate.kp T.bReadUpdate (fun σ => L2N.passAt tk σ) (pa_cons (pe_callTy (call_list_ofK (K := K) rfl) (by rfl) T.z_list (by decide +kernel) (pa_cons (pv 0) pa_nil)) pa_nil)))))
        (fun a oe cls d pn hz hf =>
          (pss_cons (ps_if (pt_val (pe_callB (cr_isX T.eKInvalidBytes hz.zc hf) (by rfl) T.z_isinstance (by decide +kernel) (pa_cons (pv 1) (pa_cons (pe_glob (v := .ref T.cInvalidBytes) rfl T.gKInvalidBytes rfl) pa_nil))))
            (pss_one (ps_ret (pe_xf T.xKInvalidBytes T.nKInvalidBytes_at hz.zc hf (pv 1))))
            pss_nil)
          (pss_one (ps_ret (pe_un un_neg pe_int))))))
        (pss_one (ps_ret (pe_un un_neg pe_int)))), ?_⟩
    refine ⟨_, rfl, a, _, rfl, .inl ha, fun l hl0 => ?_⟩
    have s1 := same_new (o := .lst (bs.map V.int)) hl0
    refine ⟨l, bs, rfl, upd_same, hl, ?_⟩
    cases e : (rUpd bs.length).run bs 0 0 with
    | ok u p t =>
      intro v H2 s2
      have hp : placeOf bs = -1 := by
        unfold placeOf
        rw [e]
      rw [hp] at q
      exact ⟨_, rfl, q _ (s1.trans s2)⟩
    | err p =>
      intro H2 d s2 hd
      have hp : placeOf bs = (p : Int) := by
        unfold placeOf
        rw [e]
      refine ⟨true, T.mKInvalidBytes_TableError, fun _ a0 _ => ?_, fun z => Bool.noConfusion z⟩
      refine ⟨_, rfl, T.cInvalidBytes, d, _, true, rfl, rfl, rfl, upd_same, T.kKInvalidBytes_InvalidBytes, _, rfl, iteT ?_⟩
      refine ⟨_, rfl, rfl, rfl, d, _, _, rfl, upd_same, rfl, ?_⟩
      rw [hp] at q
      exact q _ ((s1.trans s2).trans (same_new hd))
end
end My
namespace My
open PySem PySem.Spec PyProof.Rows L2 RZ
section
variable {P : Program} {w : World} {K : PySem.W.Frag} {mg : Str → Option Value} {base : Heap}
open L2H
open SX (S S_len S_cat slice_to slice_from num_S int_S)
open PySem.NumText (digitsVal AllDigits)
open TL (numL)
/-- the bytes of all numbers are read to their end -/
def Whole (ns : List Int) : Prop := ∃ p r', rBody.runN ns 0 0 = .ok () [] p r'
structure Nums (ns : List Int) : Prop where
  len : ns.length ≤ 90000
  num : ∀ z ∈ ns, 0 ≤ z ∧ z < 10 ^ 30
theorem Nums.bytes {ns : List Int} (h : Nums ns) : (bytesN ns).length ≤ 1900000 := by
  have := flat_bd (f := fun z : Int => nb z.toNat) (b := 20) fun z hz => nb_bd (h.num z hz)
  have this : (bytesN ns).length ≤ _ := this
  have := h.len
  omega
theorem bytes_split {ns : List Int} {k : Nat} {n : Int} (h : ns[k]? = some n) : bytesN ns = bytesN (ns.take k) ++ (nb n.toNat ++ bytesN (ns.drop (k + 1))) := by
  have e : ns = ns.take k ++ (n :: ns.drop (k + 1)) := by
    obtain ⟨hlt, hv⟩ := List.getElem?_eq_some_iff.mp h
    rw [← hv, ← List.drop_eq_getElem_cons hlt, List.take_append_drop]
  have e2 := congrArg bytesN e
  rw [bytes_app, bytes_cons] at e2
  exact e2
/-- the number in which a byte lies -/
theorem byte_in : ∀ {ns : List Int} {t : Nat}, t < (bytesN ns).length → ∃ (k : Nat) (n : Int), ns[k]? = some n ∧ (bytesN (ns.take k)).length ≤ t ∧ t < (bytesN (ns.take k)).length + (nb n.toNat).length
  | [], t, h => absurd h (Nat.not_lt_zero _)
  | n :: ns, t, h => by
    rcases Nat.lt_or_ge t (nb n.toNat).length with z | z
    · exact ⟨0, n, rfl, Nat.zero_le _, by show t < 0 + _; omega⟩
    · rw [bytes_cons, List.length_append] at h
      obtain ⟨k, m, h1, h2, h3⟩ := byte_in (ns := ns) (t := t - (nb n.toNat).length) (by omega)
      refine ⟨k + 1, m, h1, ?_, ?_⟩
      · rw [List.take_succ_cons, bytes_cons, List.length_append]
        omega
      · rw [List.take_succ_cons, bytes_cons, List.length_append]
        omega
theorem starts_mono {ns : List Int} {i j : Nat} (h : i ≤ j) : (bytesN (ns.take i)).length ≤ (bytesN (ns.take j)).length := by
  have e : ns.take i = (ns.take j).take i := by rw [List.take_take, Nat.min_eq_left h]
  rw [e]
  have z := flat_le (f := fun z : Int => nb z.toNat) (D := ns.take j) i
  exact z
theorem starts_lt {ns : List Int} {k j : Nat} {n : Int} (hk : ns[k]? = some n) (h : k < j) : (bytesN (ns.take k)).length + (nb n.toNat).length ≤ (bytesN (ns.take j)).length := by
  have := take_bytes hk
  have z := starts_mono (ns := ns) (show k + 1 ≤ j from h)
  omega
theorem cut_at {ns : List Int} {t k : Nat} {n : Int} (w : Whole ns) (nm : Nums ns) (hk : ns[k]? = some n) (h1 : (bytesN (ns.take k)).length ≤ t) (h2 : t < (bytesN (ns.take k)).length + (nb n.toNat).length) : placeOf ((bytesN ns).take t) = ((bytesN (ns.take k)).length : Int) := by
  obtain ⟨p, r', hw⟩ := w
  have e0 : ns = ns.take k ++ ns.drop k := (List.take_append_drop k ns).symm
  rw [e0] at hw
  have hne : ns.drop k ≠ [] := fun z => by
    have := List.drop_eq_nil_iff.mp z
    have := (List.getElem?_eq_some_iff.mp hk).1
    omega
  have eb : (bytesN ns).take t = bytesN (ns.take k) ++ (nb n.toNat).take (t - (bytesN (ns.take k)).length) := by
    rw [bytes_split hk, List.take_append, List.take_of_length_le h1, List.take_append_of_le_length (by omega)]
  refine place_cut hw hne (fun z hz => (nm.num z (List.mem_of_mem_take hz)).1) eb (rdI_part n.toNat (t - (bytesN (ns.take k)).length) (by omega) ?_)
  rw [eb, List.drop_left]
theorem starts_at {ns : List Int} {j : Nat} (h : j < ns.length) : (startsL ns)[j]? = some ((bytesN (ns.take j)).length : Int) := by
  unfold startsL
  rw [List.getElem?_map, List.getElem?_range h]
  rfl
def spCut (K : PySem.W.Frag) : Sp := fun vs H Q _ => ∃ (a d : Addr) (ns : List Int) (v : Int), vs = [.ref a, .ref d, .int v] ∧ SqL K H a (ns.map V.int) ∧ SqL K H d ((bytesN ns).map V.int) ∧ Nums ns ∧ Whole ns ∧ 0 < ns.length ∧ ∀ H', Same H H' → Q (.bl true) H'
theorem okLawCut (T : Txt K mg) : FnOk P w K mg base CX0 137 T.fLawCut T.fdLawCut ["_law_numbers_here", "_law_data", "_law_cell_here"] (spCut K) := by
  refine T.FLawCut.ok scLawCut (fun vs H Q E h => ?_) (fun cdv A outer s H vs Q E hr h => ?_)
  · obtain ⟨a, d, ns, v, rfl, _⟩ := h
    rfl
  · obtain ⟨a, d, ns, v, rfl, ha, hd, nm, w, hp, q⟩ := h
    -- slots _law_numbers_here=0 _law_data=1 _law_cell_here=2 _law_at=3 _law_place_here=4 _law_start=5
    refine ⟨_, (pss_cons (ps_set (i := 3) scLawCut.nd rfl (Or.inl rfl) (pe_op op_mod (pe_callTy call_int1 (by rfl) T.z_int (by decide +kernel) (pa_cons (pv 2) pa_nil)) (pe_callB call_len_seq (by rfl) T.z_len PySem.boot_len (pa_cons (pv 1) pa_nil))))
        (pss_cons (ps_set (i := 4) scLawCut.nd rfl (Or.inl rfl) pe_int)
        (pss_cons (ps_for PassesOwn.never rfl (pi_list (pe_call (okLawStarts T) (hr.mono (by decide)) (by rfl) T.gLawStarts T.FLawStarts.kp T.bLawStarts .nil pass0 (pa_cons (pv 0) pa_nil))) (pg_name (i := 5) scLawCut.nd rfl (Or.inl rfl))
          (pss_one (ps_if (pt_cmpR op_le (pv 5) (pv 3) (nomark _))
            (pss_one (ps_set (i := 4) scLawCut.nd rfl (Or.inl rfl) (pv 5)))
            pss_nil)))
        (pss_one (ps_ret (pe_cmpR op_eq (pe_call (okLawPlace T) (hr.mono (by decide)) (by rfl) T.gLawPlace T.FLawPlace.kp T.bLawPlace .nil pass0 (pa_cons (pe_slice sl_list (pv 1) po_none (po_some (pv 3))) pa_nil)) (pv 4) (nomark _))))))), ?_⟩
    obtain ⟨z0, hz0⟩ : ∃ z, ns[0]? = some z := ⟨_, List.getElem?_eq_getElem hp⟩
    have bp : 0 < (bytesN ns).length := by
      have := congrArg List.length (bytes_split hz0)
      rw [List.length_append, List.length_append] at this
      have := nb_pos z0.toNat
      omega
    have bl := nm.bytes
    refine ⟨_, rfl, .inl ⟨_, rfl, _, rfl, d, _, rfl, .inl hd, _, _, rfl, rfl, (by show (0 : Int) < ((List.length _ : Nat) : Int); rw [List.length_map]; omega), ?_⟩⟩
    rw [List.length_map]
    obtain ⟨t, et, ht⟩ : ∃ t : Nat, v % ((bytesN ns).length : Int) = (t : Int) ∧ t < (bytesN ns).length := by
      have h1 := Int.emod_nonneg v (b := ((bytesN ns).length : Int)) (by omega)
      have h2 := Int.emod_lt_of_pos v (b := ((bytesN ns).length : Int)) (by omega)
      exact ⟨(v % ((bytesN ns).length : Int)).toNat, by omega, by omega⟩
    obtain ⟨k, n, hk, k1, k2⟩ := byte_in ht
    have kl := (List.getElem?_eq_some_iff.mp hk).1
    show gName 3 (V.int (v % ((bytesN ns).length : Int))) _ _ _
    rw [et]
    refine ⟨_, rfl, a, ns, rfl, ha, nm.len, nm.num, fun p H1 s1 hp1 => ?_⟩
    have sl : (startsL ns).length = ns.length := by
      unfold startsL
      rw [List.length_map, List.length_range]
    refine ⟨p, rfl, ⟨_, SqL.of hp1⟩, for_it (walk_list (a := p) (xs := (startsL ns).map V.int)) (fun j σ H' => ∃ c : Option V, σ = [some (.ref a), some (.ref d), some (.int v), some (.int (t : Int)), some (.int ((bytesN (ns.take (min (j - 1) k))).length : Int)), c] ∧ H' = H1) ⟨_, by rw [show min (0 - 1) k = 0 by omega]; rfl, rfl⟩ (fun j σ H' _ ⟨_, _, h⟩ => by rw [h]; exact SqL.of hp1) ?_ ?_⟩
    · rintro j x σ H2 H3 hj ⟨c, rfl, rfl⟩ ⟨rfl, hx⟩
      rw [List.length_map, sl] at hj
      rw [List.getElem?_map, starts_at hj] at hx
      obtain rfl := Option.some.inj hx
      refine ⟨_, rfl, _, rfl, _, _, rfl, rfl, _, rfl, ite2 (fun c1 => ?_) (fun c1 => ?_)⟩
      · have c1 := of_decide_eq_true c1
        have hjk : j ≤ k := by
          rcases Nat.lt_or_ge k j with z | z
          · have := starts_lt hk z
            omega
          · exact z
        refine ⟨_, rfl, some (.int ((bytesN (ns.take j)).length : Int)), ?_, rfl⟩
        rw [show min (j + 1 - 1) k = j by omega]
        rfl
      · have c1 : ¬ (((bytesN (ns.take j)).length : Int) ≤ (t : Int)) := fun z => c1 (decide_eq_true z)
        have hjk : k < j := by
          rcases Nat.lt_or_ge k j with z | z
          · exact z
          · have := starts_mono (ns := ns) z
            omega
        refine ⟨some (.int ((bytesN (ns.take j)).length : Int)), ?_, rfl⟩
        rw [show min (j + 1 - 1) k = min (j - 1) k by omega]
        rfl
    rintro σ H2 ⟨c, rfl, rfl⟩
    rw [List.length_map, sl, show min (ns.length - 1) k = k by omega]
    refine ⟨_, rfl, _, rfl, (t : Int), rfl, d, _, rfl, s1.seq hd, fun l hl => ?_⟩
    rw [cut_to]
    have s2 := same_new (o := .lst (((bytesN ns).take t).map V.int)) hl
    refine ⟨l, (bytesN ns).take t, rfl, SqL.of upd_same, by rw [List.length_take]; omega, fun H3 s3 => ⟨_, rfl, rfl, ?_⟩⟩
    rw [cut_at w nm hk k1 k2, decide_eq_true rfl]
    exact q _ ((s1.trans s2).trans s3)
end
end My
namespace My
open PySem PySem.Spec PyProof.Rows L2 RZ
section
variable {P : Program} {w : World} {K : PySem.W.Frag} {mg : Str → Option Value} {base : Heap}
open L2H
open SX (S S_len S_cat slice_to slice_from num_S int_S)
open PySem.NumText (digitsVal AllDigits)
open TL (numL)
theorem long_at {ns : List Int} {k : Nat} {n l : Int} (w : Whole ns) (nm : Nums ns) (hk : ns[k]? = some n) (hl : (nb n.toNat)[(nb n.toNat).length - 1]? = some l) :
    placeOf ((bytesN ns).take ((bytesN (ns.take k)).length + (nb n.toNat).length - 1) ++ [l + 128, 0] ++ (bytesN ns).drop ((bytesN (ns.take k)).length + (nb n.toNat).length)) = ((bytesN (ns.take k)).length : Int) := by
  obtain ⟨p, r', hw⟩ := w
  have e0 : ns = ns.take k ++ ns.drop k := (List.take_append_drop k ns).symm
  rw [e0] at hw
  have hne : ns.drop k ≠ [] := fun z => by
    have := List.drop_eq_nil_iff.mp z
    have := (List.getElem?_eq_some_iff.mp hk).1
    omega
  have np := nb_pos n.toNat
  have eb : (bytesN ns).take ((bytesN (ns.take k)).length + (nb n.toNat).length - 1) ++ [l + 128, 0] ++ (bytesN ns).drop ((bytesN (ns.take k)).length + (nb n.toNat).length) = bytesN (ns.take k) ++ ((nb n.toNat).take ((nb n.toNat).length - 1) ++ (l + 128) :: 0 :: (bytesN ns).drop ((bytesN (ns.take k)).length + (nb n.toNat).length)) := by
    have e1 : (bytesN ns).take ((bytesN (ns.take k)).length + (nb n.toNat).length - 1) = bytesN (ns.take k) ++ (nb n.toNat).take ((nb n.toNat).length - 1) := by
      rw [bytes_split hk, List.take_append, List.take_of_length_le (by omega), List.take_append_of_le_length (by omega), show (bytesN (ns.take k)).length + (nb n.toNat).length - 1 - (bytesN (ns.take k)).length = (nb n.toNat).length - 1 by omega]
    rw [e1, List.append_assoc, List.append_assoc]
    rfl
  refine place_cut hw hne (fun z hz => (nm.num z (List.mem_of_mem_take hz)).1) eb (rdI_long (r := (bytesN ns).drop ((bytesN (ns.take k)).length + (nb n.toNat).length)) n.toNat hl ?_)
  rw [eb, List.drop_left]
def spLonger (K : PySem.W.Frag) : Sp := fun vs H Q _ => ∃ (a d : Addr) (ns : List Int) (v : Int), vs = [.ref a, .ref d, .int v] ∧ SqL K H a (ns.map V.int) ∧ SqL K H d ((bytesN ns).map V.int) ∧ Nums ns ∧ Whole ns ∧ 0 < ns.length ∧ ∀ H', Same H H' → Q (.bl true) H'
theorem okLawLonger (T : Txt K mg) : FnOk P w K mg base CX0 137 T.fLawLonger T.fdLawLonger ["_law_numbers_here", "_law_data", "_law_cell_here"] (spLonger K) := by
  refine T.FLawLonger.ok scLawLonger (fun vs H Q E h => ?_) (fun cdv A outer s H vs Q E hr h => ?_)
  · obtain ⟨a, d, ns, v, rfl, _⟩ := h
    rfl
  · obtain ⟨a, d, ns, v, rfl, ha, hd, nm, w, hp, q⟩ := h
    -- slots _law_numbers_here=0 _law_data=1 _law_cell_here=2 _law_k=3 _law_start=4 _law_size=5 _law_last=6 _law_changed=7
    refine ⟨_, (pss_cons (ps_set (i := 3) scLawLonger.nd rfl (Or.inl rfl) (pe_op op_mod (pe_callTy call_int1 (by rfl) T.z_int (by decide +kernel) (pa_cons (pv 2) pa_nil)) (pe_callB call_len_seq (by rfl) T.z_len PySem.boot_len (pa_cons (pv 0) pa_nil))))
        (pss_cons (ps_set (i := 4) scLawLonger.nd rfl (Or.inl rfl) (pe_ix ix_list (pe_call (okLawStarts T) (hr.mono (by decide)) (by rfl) T.gLawStarts T.FLawStarts.kp T.bLawStarts .nil pass0 (pa_cons (pv 0) pa_nil)) (pv 3) (fun _ _ => rfl)))
        (pss_cons (ps_set (i := 5) scLawLonger.nd rfl (Or.inl rfl) (pe_callB call_len_seq (by rfl) T.z_len PySem.boot_len (pa_cons (pe_call (okLawNumber T) (hr.mono (by decide)) (by rfl) T.gLawNumber T.FLawNumber.kp T.bLawNumber .nil pass0 (pa_cons (pe_ix ix_list (pv 0) (pv 3) (fun _ _ => rfl)) pa_nil)) pa_nil)))
        (pss_cons (ps_set (i := 6) scLawLonger.nd rfl (Or.inl rfl) (pe_op op_add (pe_ix ix_list (pv 1) (pe_op op_sub (pe_op op_add (pv 4) (pv 5)) pe_int) (fun _ _ => rfl)) pe_int))
        (pss_cons (ps_set (i := 7) scLawLonger.nd rfl (Or.inl rfl) (pe_op op_cat (pe_op op_cat (pe_slice sl_list (pv 1) po_none (po_some (pe_op op_sub (pe_op op_add (pv 4) (pv 5)) pe_int))) (pe_lst (pa_cons (pv 6) (pa_cons pe_int pa_nil)))) (pe_slice sl_list (pv 1) (po_some (pe_op op_add (pv 4) (pv 5))) po_none)))
        (pss_one (ps_ret (pe_cmpR op_eq (pe_call (okLawPlace T) (hr.mono (by decide)) (by rfl) T.gLawPlace T.FLawPlace.kp T.bLawPlace .nil pass0 (pa_cons (pv 7) pa_nil)) (pv 4) (nomark _))))))))), ?_⟩
    have bl := nm.bytes
    refine ⟨_, rfl, .inl ⟨_, rfl, _, rfl, a, _, rfl, .inl ha, _, _, rfl, rfl, (by show (0 : Int) < ((List.length _ : Nat) : Int); rw [List.length_map]; omega), ?_⟩⟩
    rw [List.length_map]
    obtain ⟨k, et, hk1⟩ : ∃ k : Nat, v % (ns.length : Int) = (k : Int) ∧ k < ns.length := by
      have h1 := Int.emod_nonneg v (b := (ns.length : Int)) (by omega)
      have h2 := Int.emod_lt_of_pos v (b := (ns.length : Int)) (by omega)
      exact ⟨(v % (ns.length : Int)).toNat, by omega, by omega⟩
    obtain ⟨n, hk⟩ : ∃ n, ns[k]? = some n := ⟨_, List.getElem?_eq_getElem hk1⟩
    have nb0 := nm.num n (List.mem_of_getElem? hk)
    have np := nb_pos n.toNat
    obtain ⟨l, hl⟩ : ∃ l, (nb n.toNat)[(nb n.toNat).length - 1]? = some l := ⟨_, List.getElem?_eq_getElem (by omega)⟩
    have fit := take_bytes hk
    have fit2 := starts_mono (ns := ns) (i := k + 1) (j := ns.length) hk1
    rw [List.take_length] at fit2
    have hkm : (ns.map V.int)[k]? = some (.int n) := by rw [List.getElem?_map, hk]; rfl
    have pl := long_at w nm hk hl
    have ls : (bytesN ns)[(bytesN (ns.take k)).length + (nb n.toNat).length - 1]? = some l := by
      rw [bytes_split hk, List.getElem?_append_right (by omega), List.getElem?_append_left (by omega), show (bytesN (ns.take k)).length + (nb n.toNat).length - 1 - (bytesN (ns.take k)).length = (nb n.toNat).length - 1 by omega]
      exact hl
    show gName 3 (V.int (v % (ns.length : Int))) _ _ _
    rw [et]
    generalize hst : (bytesN (ns.take k)).length = st at fit pl ls
    generalize hsz : (nb n.toNat).length = sz at fit pl ls np
    refine ⟨_, rfl, a, ns, rfl, ha, nm.len, nm.num, fun p H1 s1 hp1 => ⟨_, rfl, p, _, _, .int (st : Int), rfl, rfl, SqL.of hp1, ?_, ?_⟩⟩
    · exact atI_nat (by rw [List.getElem?_map, starts_at hk1, hst]; rfl)
    refine ⟨_, rfl, _, rfl, a, _, _, .int n, rfl, rfl, s1.seq ha, atI_nat hkm, n.toNat, congrArg (fun y => [V.int y]) (show n = ((n.toNat : Nat) : Int) by omega), by omega, fun p2 H2 s2 hp2 => ⟨p2, _, rfl, .inl (SqL.of hp2), ?_⟩⟩
    rw [List.length_map, hsz]
    have s12 := s1.trans s2
    have hd2 := s12.seq hd
    have lbl := (List.getElem?_eq_some_iff.mp ls).1
    refine ⟨_, rfl, _, rfl, _, rfl, _, _, rfl, rfl, _, _, rfl, rfl, d, _, _, .int l, rfl, rfl, hd2, ?_, _, _, rfl, rfl, ?_⟩
    · rw [show (st : Int) + (sz : Int) - 1 = ((st + sz - 1 : Nat) : Int) by omega]
      exact atI_nat (by rw [List.getElem?_map, ls]; rfl)
    refine ⟨_, rfl, _, rfl, _, rfl, _, _, rfl, rfl, _, _, rfl, rfl, ((st + sz - 1 : Nat) : Int), congrArg V.int (show (st : Int) + (sz : Int) - 1 = _ by omega), d, _, rfl, hd2, fun l1 hl1 => ?_⟩
    rw [cut_to]
    have t1 := same_new (o := .lst (((bytesN ns).take (st + sz - 1)).map V.int)) hl1
    refine ⟨_, rfl, (by show 2 ≤ sizeLine; decide), fun l2 hl2 => ?_⟩
    have t2 := same_new (o := .lst [.int (l + 128), .int 0]) hl2
    refine ⟨l1, l2, _, _, rfl, rfl, t2 _ _ upd_same, upd_same, sz6 (by rw [List.length_map, List.length_take]; show min _ _ + 2 ≤ _; omega), fun l3 hl3 => ?_⟩
    have t3 := same_new (o := .lst (((bytesN ns).take (st + sz - 1)).map V.int ++ [.int (l + 128), .int 0])) hl3
    have t13 := (t1.trans t2).trans t3
    refine ⟨_, rfl, _, rfl, _, rfl, _, _, rfl, rfl, ((st + sz : Nat) : Int), congrArg V.int (show (st : Int) + (sz : Int) = _ by omega), d, _, rfl, t13.seq hd2, fun l4 hl4 => ?_⟩
    rw [cut_from]
    have t4 := same_new (o := .lst (((bytesN ns).drop (st + sz)).map V.int)) hl4
    refine ⟨l3, l4, _, _, rfl, rfl, t4 _ _ upd_same, upd_same, sz6 (by rw [List.length_append, List.length_map, List.length_map, List.length_take, List.length_drop]; show min _ _ + 2 + _ ≤ _; omega), fun l5 hl5 => ?_⟩
    have t5 := same_new (o := .lst (((bytesN ns).take (st + sz - 1)).map V.int ++ [.int (l + 128), .int 0] ++ ((bytesN ns).drop (st + sz)).map V.int)) hl5
    have ec : ((bytesN ns).take (st + sz - 1)).map V.int ++ [.int (l + 128), .int 0] ++ ((bytesN ns).drop (st + sz)).map V.int = ((bytesN ns).take (st + sz - 1) ++ [l + 128, 0] ++ (bytesN ns).drop (st + sz)).map V.int := by
      rw [List.map_append, List.map_append]
      rfl
    rw [ec] at t5 ⊢
    refine ⟨_, rfl, l5, _, rfl, SqL.of upd_same, by rw [List.length_append, List.length_append, List.length_take, List.length_drop]; show min _ _ + 2 + _ ≤ _; omega, fun H3 s3 => ⟨_, rfl, rfl, ?_⟩⟩
    rw [pl, decide_eq_true rfl]
    exact q _ ((s12.trans (t13.trans (t4.trans t5))).trans s3)
end
end My
namespace My
open PySem PySem.Spec PyProof.Rows L2 RZ
section
variable {P : Program} {w : World} {K : PySem.W.Frag} {mg : Str → Option Value} {base : Heap}
open L2H
open SX (S S_len S_cat slice_to slice_from num_S int_S)
open PySem.NumText (digitsVal AllDigits)
open TL (numL)
theorem nums_head {r c n : Int} {E : List (Ed × Ac)} (hr : 0 ≤ r ∧ r ≤ 8) (hc : 0 ≤ c ∧ c ≤ 6) (hn : 0 ≤ n ∧ n ≤ 100000) (hz : E.length ≤ 9) (ok : ∀ u ∈ E, OkA u) : (headN r c n E).length ≤ 81003 ∧ ∀ z ∈ headN r c n E, 0 ≤ z ∧ z < 10 ^ 30 := by
  constructor
  · have h1 := flat_bd (f := edN) (b := 9000) (D := E) fun u hu => (ok u hu).len
    have h3 : E.length * 9000 ≤ 9 * 9000 := Nat.mul_le_mul_right 9000 hz
    unfold headN
    rw [app_len3]
    omega
  · intro z hz2
    rcases List.mem_append.mp hz2 with y | y
    · simp only [List.mem_cons, List.not_mem_nil, or_false] at y
      rcases y with rfl | rfl | rfl <;> omega
    · obtain ⟨u, hu, hy⟩ := List.mem_flatMap.mp y
      exact (ok u hu).num z hy
theorem key_lt {a b : Ed × Ac} (hne : keyS a ≠ keyS b) (h : ¬ ltE b.1 a.1) : ltE a.1 b.1 := by
  unfold ltE at h ⊢
  have hne : ¬ (stampE a.1 = stampE b.1 ∧ a.1.p = b.1.p) := fun z => hne (by
    unfold keyS
    rw [z.1, z.2])
  omega
theorem head_snoc {r c n : Int} {E : List (Ed × Ac)} {j : Nat} {u : Ed × Ac} (h : E[j]? = some u) : headN r c n (E.take (j + 1)) = headN r c n (E.take j) ++ edN u := by
  unfold headN
  rw [flat_take h, List.append_assoc]
def spDouble (K : PySem.W.Frag) : Sp := fun vs H Q _ => ∃ (b L : Addr) (r c : Int) (rs : List V) (D : List (Ed × Ac)), vs = [.ref b, .ref L] ∧ SqT K H b [.int r, .int c] ∧ (0 ≤ r ∧ r ≤ 8) ∧ (0 ≤ c ∧ c ≤ 6) ∧ H L = some (.lst rs) ∧ RepG (EAt K H) rs D ∧ D.length ≤ 9 ∧ (D.map fun u => u.1.id).Nodup ∧ (D.map keyS).Nodup ∧ (∀ u ∈ D, OkV u) ∧ ∀ H', Same H H' → Q (.bl true) H'
theorem okLawDouble (T : Txt K mg) : FnOk P w K mg base CX0 137 T.fLawDouble T.fdLawDouble ["_law_begin_here", "_law_edits_here"] (spDouble K) := by
  refine T.FLawDouble.ok scLawDouble (fun vs H Q E h => ?_) (fun cdv A outer s H vs Q E hr h => ?_)
  · obtain ⟨b, L, r, c, rs, D, rfl, _⟩ := h
    rfl
  · obtain ⟨b, L, r, c, rs, D, rfl, hb, hr0, hc0, hL, R, hz, nd, nk, ok, q⟩ := h
    -- slots _law_begin_here=0 _law_edits_here=1 _law_told=2 _law_numbers_here=3 _law_edit=4 _law_place_here=5 _law_seen=6 _law_again=7
    refine ⟨_, (pss_cons (ps_set (i := 2) scLawDouble.nd rfl (Or.inl rfl) (pe_call (okLawSorted T) (hr.mono (by decide)) (by rfl) T.gLawSorted T.FLawSorted.kp T.bLawSorted .nil pass0 (pa_cons (pv 1) pa_nil)))
        (pss_cons (ps_if (pt_cmpR op_eq (pe_callB call_len_seq (by rfl) T.z_len PySem.boot_len (pa_cons (pv 2) pa_nil)) pe_int (nomark _))
          (pss_one (ps_ret pe_bl))
          pss_nil)
        (pss_cons (ps_set (i := 3) scLawDouble.nd rfl (Or.inl rfl) (pe_lst (pa_cons (pe_ix ix_tup (pv 0) pe_int (fun _ _ => rfl)) (pa_cons (pe_ix ix_tup (pv 0) pe_int (fun _ _ => rfl)) (pa_cons (pe_op op_add (pe_callB call_len_seq (by rfl) T.z_len PySem.boot_len (pa_cons (pv 2) pa_nil)) pe_int) pa_nil)))))
        (pss_cons (ps_for PassesOwn.never rfl (pi_list (pv 2)) (pg_name (i := 4) scLawDouble.nd rfl (Or.inl rfl))
          (pss_one (ps_set (i := 3) scLawDouble.nd rfl (Or.inl rfl) (pe_op op_cat (pv 3) (pe_call (okLawEditNumbers T) (hr.mono (by decide)) (by rfl) T.gLawEditNumbers T.FLawEditNumbers.kp T.bLawEditNumbers .nil pass0 (pa_cons (pv 4) pa_nil))))))
        (pss_cons (ps_set (i := 5) scLawDouble.nd rfl (Or.inl rfl) (pe_callB call_len_seq (by rfl) T.z_len PySem.boot_len (pa_cons (pe_call (okLawNumbers T) (hr.mono (by decide)) (by rfl) T.gLawNumbers T.FLawNumbers.kp T.bLawNumbers .nil pass0 (pa_cons (pv 3) pa_nil)) pa_nil)))
        (pss_cons (ps_set (i := 6) scLawDouble.nd rfl (Or.inl rfl) (pe_ix ix_tup (pe_ix ix_list (pv 2) (pe_un un_neg pe_int) (fun _ _ => rfl)) pe_int (fun _ _ => rfl)))
        (pss_cons (ps_set (i := 7) scLawDouble.nd rfl (Or.inl rfl) (pe_tup (pa_cons (pe_ix ix_tup (pe_ix ix_list (pv 2) pe_int (fun _ _ => rfl)) pe_int (fun _ _ => rfl)) (pa_cons (pe_op op_catT (pe_tup (pa_cons (pe_op op_add (pe_ix ix_tup (pv 6) pe_int (fun _ _ => rfl)) pe_int) pa_nil)) (pe_callTy call_tuple_of (by rfl) T.z_tuple (by decide +kernel) (pa_cons (pe_slice sl_tup (pv 6) (po_some pe_int) po_none) pa_nil))) (pa_cons (pe_tup (pa_cons pe_str (pa_cons pe_int pa_nil))) pa_nil)))))
        (pss_one (ps_ret (pe_cmpR op_eq (pe_call (okLawPlace T) (hr.mono (by decide)) (by rfl) T.gLawPlace T.FLawPlace.kp T.bLawPlace .nil pass0 (pa_cons (pe_call (okLawNumbers T) (hr.mono (by decide)) (by rfl) T.gLawNumbers T.FLawNumbers.kp T.bLawNumbers .nil pass0 (pa_cons (pe_op op_cat (pv 3) (pe_call (okLawEditNumbers T) (hr.mono (by decide)) (by rfl) T.gLawEditNumbers T.FLawEditNumbers.kp T.bLawEditNumbers .nil pass0 (pa_cons (pv 7) pa_nil))) pa_nil)) pa_nil)) (pv 5) (nomark _))))))))))), ?_⟩
    refine ⟨_, rfl, L, rs, D, rfl, hL, R, hz, nk, fun l H1 es E s1 hl RE sE => ?_⟩
    have el : E.length = D.length := sE.1.length_eq
    have okE : ∀ u ∈ E, OkV u := fun u hu => ok u (sE.1.mem_iff.mp hu)
    have ndE : (E.map fun u => u.1.id).Nodup := (sE.1.map _).nodup_iff.mpr nd
    have gE : Good [] E := good_of ndE sE.2 (fun _ _ _ h => nomatch h) (fun _ _ _ _ h => nomatch h)
    refine ⟨_, rfl, l, _, rfl, .inl (SqL.of hl), rfl, _, rfl, ite2 (fun c0 => ?_) (fun c0 => ?_)⟩
    · exact q _ s1
    have e0 : 0 < E.length := by
      rcases Nat.eq_zero_or_pos E.length with z | z
      · exact absurd (decide_eq_true (by rw [RE.len, z]; rfl)) c0
      · exact z
    have hb1 := s1.tup hb
    refine ⟨_, rfl, b, _, _, _, rfl, rfl, hb1, atI_nat (j := 0) rfl, _, rfl, b, _, _, _, rfl, rfl, hb1, atI_nat (j := 1) rfl, _, rfl, l, _, rfl, .inl (SqL.of hl), _, _, rfl, rfl, (by show 3 ≤ sizeLine; decide), fun N hN => ?_⟩
    have n0 : (E.length : Int) + 1 = ((E.length + 1 : Nat) : Int) := by omega
    have s2 := same_new (o := .lst [.int r, .int c, .int ((es.length : Int) + 1)]) hN
    have hN2 : (upd H1 N (.lst [.int r, .int c, .int ((es.length : Int) + 1)])) N = some (.lst ((headN r c ((E.length : Int) + 1) (E.take 0)).map V.int)) := by
      rw [upd_same, RE.len]
      rfl
    generalize upd H1 N (.lst [.int r, .int c, .int ((es.length : Int) + 1)]) = H2 at s2 hN2 ⊢
    have nmj : ∀ j, (headN r c ((E.length : Int) + 1) (E.take j)).length ≤ 81003 ∧ ∀ z ∈ headN r c ((E.length : Int) + 1) (E.take j), 0 ≤ z ∧ z < 10 ^ 30 := fun j =>
      nums_head hr0 hc0 (by omega) (by rw [List.length_take]; omega) fun u hu => (okE u (List.mem_of_mem_take hu)).1
    have nl : ∀ u ∈ E, (edN u).length ≤ 9000 := fun u hu => (okE u hu).1.len
    refine ⟨_, rfl, l, rfl, ⟨es, SqL.of (s2 _ _ hl)⟩, for_it (walk_list (a := l) (xs := es)) (fun j σ H' => ∃ (p : Addr) (c4 : Option V), σ = [some (.ref b), some (.ref L), some (.ref l), some (.ref p), c4, none, none, none] ∧ Same H1 H' ∧ H' p = some (.lst ((headN r c ((E.length : Int) + 1) (E.take j)).map V.int))) ⟨N, none, rfl, s2, hN2⟩ (fun i σ H' _ ⟨_, _, _, h, _⟩ => SqL.of (h _ _ hl)) ?_ ?_⟩
    · rintro j x σ H3 H4 hj ⟨p, c4, rfl, s3, hp⟩ ⟨rfl, hx⟩
      obtain ⟨u, hu, E4⟩ := RE.get hx
      have um := List.mem_of_getElem? hu
      refine ⟨_, rfl, _, rfl, x, u, rfl, E4.same s3, (okE u um).1, fun p5 H5 s5 hp5 => ?_⟩
      have := (nmj j).1
      have := nl u um
      refine ⟨p, p5, _, _, rfl, rfl, s5 _ _ hp, hp5, sz6 (by rw [List.length_map, List.length_map]; omega), fun y hy => ⟨y, some x, rfl, (s3.trans s5).trans (same_new hy), ?_⟩⟩
      rw [upd_same, head_snoc hu, List.map_append]
    rintro σ H3 ⟨p, c4, rfl, s3, hp⟩
    have nm := nmj es.length
    have te : E.take es.length = E := List.take_of_length_le (by rw [RE.len]; exact Nat.le_refl _)
    rw [te] at hp nm
    refine ⟨_, rfl, p, _, rfl, SqL.of hp, by omega, nm.2, fun p2 H4 s4 hp2 => ⟨p2, _, rfl, .inl (SqL.of hp2), ?_⟩⟩
    rw [List.length_map]
    have s14 := s3.trans s4
    have hl4 := s14 _ _ hl
    -- the first and the last
    obtain ⟨E0, uL, eE⟩ : ∃ E0 uL, E = E0 ++ [uL] := ⟨E.dropLast, E.getLast (List.length_pos_iff.mp e0), (List.dropLast_concat_getLast _).symm⟩
    obtain ⟨yL, hyL⟩ : ∃ y, es[E0.length]? = some y := ⟨_, List.getElem?_eq_getElem (by rw [RE.len, eE, List.length_append]; show E0.length < E0.length + 1; omega)⟩
    have hEL : E[E0.length]? = some uL := by rw [eE, List.getElem?_append_right (Nat.le_refl _), Nat.sub_self]; rfl
    have EL := (RE.at_ _ _ _ hyL hEL).same s14
    have ees : es = es.take E0.length ++ [yL] := by
      have z : es.take (E0.length + 1) = es := List.take_of_length_le (by rw [RE.len, eE, List.length_append]; exact Nat.le_refl _)
      rw [List.take_add_one, hyL] at z
      exact z.symm
    obtain ⟨qL, aL, bL, cL, rfl, g1, g2, g3, g4⟩ := EL
    obtain ⟨u0, hu0⟩ : ∃ u, E[0]? = some u := ⟨_, List.getElem?_eq_getElem e0⟩
    obtain ⟨y0, hy0⟩ : ∃ y, es[0]? = some y := ⟨_, List.getElem?_eq_getElem (by rw [RE.len]; exact e0)⟩
    obtain ⟨q0, a0, b0, c1, rfl, f1, f2, f3, f4⟩ := (RE.at_ _ _ _ hy0 hu0).same s14
    have vL := (okE uL (List.mem_of_getElem? hEL)).2
    have v0 := (okE u0 (List.mem_of_getElem? hu0)).2
    obtain ⟨w0, ws, ew⟩ : ∃ w0 ws, uL.1.v = w0 :: ws := match uL.1.v, vL.vl with | w0 :: ws, _ => ⟨w0, ws, rfl⟩
    have vlw : ws.length = 3 := by
      have := vL.vl
      rw [ew] at this
      exact Nat.succ.inj this
    rw [ew] at g3
    have g3 : H4 bL = some (.tup (.int w0 :: ws.map V.int)) := g3
    refine ⟨_, rfl, 1, rfl, l, es, -1, .ref qL, rfl, rfl, SqL.of hl4, by rw [ees]; exact atI_last _ _, qL, _, _, _, rfl, rfl, SqT.of g1, atI_nat (j := 1) rfl, ?_⟩
    refine ⟨_, rfl, l, es, 0, .ref q0, rfl, rfl, SqL.of hl4, atI_nat hy0, q0, _, _, _, rfl, rfl, SqT.of f1, atI_nat (j := 0) rfl, ?_⟩
    refine ⟨_, rfl, bL, _, _, .int w0, rfl, rfl, SqT.of g3, atI_nat (j := 0) rfl, _, _, rfl, rfl, (by show 1 ≤ sizeLine; decide), fun t1 ht1 => ?_⟩
    have x1 := same_new (o := .tup [.int (w0 + 1)]) ht1
    refine ⟨_, rfl, 1, rfl, bL, _, rfl, SqT.of (x1 _ _ g3), cut1_no _ _, fun t2 ht2 => ?_⟩
    rw [cut1]
    have x2 := same_new (o := .tup (ws.map V.int)) ht2
    refine ⟨t2, _, rfl, .inr ⟨SqT.of upd_same, ?_⟩⟩
    have wne : ws.map V.int ≠ [] := fun z => by
      have := congrArg List.length z
      rw [List.length_map, vlw] at this
      cases this
    refine ⟨t1, t2, [.int (w0 + 1)], ws.map V.int, rfl, rfl, SqT.of (x2 _ _ upd_same), SqT.of upd_same, by simp, by rw [List.length_map, vlw]; show 1 + 3 ≤ sizeLine; decide, fun z => absurd z wne, fun _ t3 ht3 => ?_⟩
    have x3 := same_new (o := .tup ([.int (w0 + 1)] ++ ws.map V.int)) ht3
    refine ⟨(by show 2 ≤ sizeLine; decide), fun t4 ht4 => ⟨(by show 3 ≤ sizeLine; decide), fun t5 ht5 => ?_⟩⟩
    have x4 := same_new (o := .tup [.str "undo", .int 1]) ht4
    have x5 := same_new (o := .tup [.ref a0, .ref t3, .ref t4]) ht5
    have x45 := x4.trans x5
    have x15 := ((x1.trans x2).trans x3).trans x45
    obtain ⟨uA, hA⟩ : ∃ uA : Ed × Ac, uA = (⟨u0.1.p, u0.1.n, (w0 + 1) :: ws⟩, Ac.undo 1) := ⟨_, rfl⟩
    have wb := vL.v w0 (by rw [ew]; exact List.mem_cons_self ..)
    have wsb : ∀ z ∈ ws, 0 ≤ z ∧ z ≤ 99999 := fun z hz2 => vL.v z (by rw [ew]; exact List.mem_cons_of_mem _ hz2)
    have vb : ∀ z ∈ (w0 + 1) :: ws, 0 ≤ z ∧ z ≤ 100000 := fun z hz2 => by
      rcases List.mem_cons.mp hz2 with rfl | y
      · omega
      · have := wsb z y
        omega
    have eA : edN uA = [1 + (u0.1.p : Int), u0.1.n] ++ ((w0 + 1) :: ws) ++ [4, 1] := by rw [hA]; rfl
    have v0n := v0.n
    have v0p := v0.p
    have numA : ∀ z ∈ edN uA, 0 ≤ z ∧ z < 10 ^ 30 := fun z hz2 => by
      rw [eA] at hz2
      rcases List.mem_append.mp hz2 with y | y
      · rcases List.mem_append.mp y with y | y
        · simp only [List.mem_cons, List.not_mem_nil, or_false] at y
          rcases y with rfl | rfl <;> omega
        · have := vb z y
          omega
      · simp only [List.mem_cons, List.not_mem_nil, or_false] at y
        rcases y with rfl | rfl <;> omega
    have lenA : (edN uA).length = 8 := by
      rw [eA, List.length_append, List.length_append]
      show 2 + (ws.length + 1) + 2 = 8
      omega
    have okA : OkA uA := by
      refine ⟨?_, ?_, ?_, by omega, numA⟩
      · rw [hA]
        exact True.intro
      · rw [hA]
        exact True.intro
      · rw [hA]
        show ws.length + 1 = 4
        omega
    have EA : EAt K (upd (upd (upd (upd (upd H4 t1 (.tup [.int (w0 + 1)])) t2 (.tup (ws.map V.int))) t3 (.tup ([.int (w0 + 1)] ++ ws.map V.int))) t4 (.tup [.str "undo", .int 1])) t5 (.tup [.ref a0, .ref t3, .ref t4])) (.ref t5) uA := by
      rw [hA]
      exact ⟨t5, a0, t3, .ref t4, rfl, upd_same, x15 _ _ f2, x45 _ _ upd_same, .tup (SqT.of (x5 _ _ upd_same)) (.cons (.str _) (.cons (.int _) .nil))⟩
    have hp9 := x15 _ _ (s4 _ _ hp)
    have s19 := s14.trans x15
    generalize upd (upd (upd (upd (upd H4 t1 (.tup [.int (w0 + 1)])) t2 (.tup (ws.map V.int))) t3 (.tup ([.int (w0 + 1)] ++ ws.map V.int))) t4 (.tup [.str "undo", .int 1])) t5 (.tup [.ref a0, .ref t3, .ref t4]) = H5 at EA hp9 s19 ⊢
    refine ⟨_, rfl, _, rfl, .ref t5, uA, rfl, EA, okA, fun p6 H6 s6 hp6 => ?_⟩
    have pw := place_wrong (rest := []) hr0 hc0 (n := (E.length : Int) + 1) ⟨by omega, by omega⟩ (fun x hx => (okE x hx).2) gE (u := uA) ⟨by rw [hA]; exact v0p, by rw [hA]; exact v0n, by rw [hA]; show ws.length + 1 = 4; omega, by rw [hA]; exact vb⟩ (by
      unfold wrongE
      rw [List.any_eq_true.mpr ⟨u0.1, told_mem (.inr ⟨u0, List.mem_of_getElem? hu0, rfl⟩), by rw [hA]; exact decide_eq_true rfl⟩]
      rfl) (fun z hz2 => by
      rw [List.append_nil] at hz2
      rcases List.mem_append.mp hz2 with y | y
      · exact (nm.2 z y).1
      · exact (numA z y).1)
    rw [List.append_nil] at pw
    refine cat_NR2 (xs := headN r c ((E.length : Int) + 1) E) (ys := edN uA) (Same.refl _) hp9 s6 hp6 (by omega) fun p7 H7 s7 hp7 => ?_
    have nm2 : ∀ z ∈ headN r c ((E.length : Int) + 1) E ++ edN uA, 0 ≤ z ∧ z < 10 ^ 30 := fun z hz2 => by
      rcases List.mem_append.mp hz2 with y | y
      · exact nm.2 z y
      · exact numA z y
    have ln2 : (headN r c ((E.length : Int) + 1) E ++ edN uA).length ≤ 90000 := by rw [List.length_append]; omega
    refine ⟨p7, _, rfl, SqL.of hp7, ln2, nm2, fun p8 H8 s8 hp8 => ⟨p8, _, rfl, SqL.of hp8, Nat.le_trans (Nums.bytes ⟨ln2, nm2⟩) (by decide), fun H9 s9 => ⟨_, rfl, rfl, ?_⟩⟩⟩
    rw [pw, decide_eq_true rfl]
    exact q _ (s1.trans (((s19.trans s7).trans s8).trans s9))
end
end My
namespace My
open PySem PySem.Spec PyProof.Rows L2 RZ
section
variable {P : Program} {w : World} {K : PySem.W.Frag} {mg : Str → Option Value} {base : Heap}
open L2H
open SX (S S_len S_cat slice_to slice_from num_S int_S)
open PySem.NumText (digitsVal AllDigits)
open TL (numL)
theorem out_order {E : List (Ed × Ac)} {k : Nat} {u l : Ed × Ac} (nd : (E.map fun u => u.1.id).Nodup) (nk : (E.map keyS).Nodup) (so : E.Pairwise fun a b => ¬ ltE b.1 a.1) (hu : E[k]? = some u) (hl : E[k + 1]? = some l) : Good [] (E.take k ++ [l]) ∧ wrongE u.1 (toldOf [] (E.take k ++ [l])) = true := by
  obtain ⟨k1, e1⟩ := List.getElem?_eq_some_iff.mp hu
  obtain ⟨k2, e2⟩ := List.getElem?_eq_some_iff.mp hl
  have sub : (E.take k ++ [l]).Sublist E := by
    have ed : E.drop k = u :: l :: E.drop (k + 1 + 1) := by
      rw [List.drop_eq_getElem_cons k1, e1, List.drop_eq_getElem_cons k2, e2]
    have z := (List.Sublist.refl (E.take k)).append (show [l].Sublist (E.drop k) by
      rw [ed]
      exact .cons _ (.cons₂ _ (List.nil_sublist _)))
    rwa [List.take_append_drop] at z
  refine ⟨good_of (nd.sublist (sub.map _)) (so.sublist sub) (fun _ _ _ h => nomatch h) (fun _ _ _ _ h => nomatch h), ?_⟩
  obtain ⟨t, et⟩ := told_last (E := E.take k) (told := []) (u := l)
  rw [et]
  unfold wrongE
  have hne : keyS u ≠ keyS l := fun z => by
    have := List.pairwise_iff_getElem.mp nk k (k + 1) (by rw [List.length_map]; exact k1) (by rw [List.length_map]; exact k2) (Nat.lt_succ_self _)
    rw [List.getElem_map, List.getElem_map, e1, e2] at this
    exact this z
  have hn : ¬ ltE l.1 u.1 := by
    have := List.pairwise_iff_getElem.mp so k (k + 1) k1 k2 (Nat.lt_succ_self _)
    rwa [e1, e2] at this
  show (_ || decide (ltE u.1 l.1)) = true
  rw [decide_eq_true (key_lt hne hn), Bool.or_true]
theorem cutV_to (es : List V) (k : Nat) : cutV es none (some (k : Int)) = es.take k := by
  unfold cutV
  rw [HT.sIx_none, HT.sIx_nat, List.drop_zero, Nat.sub_zero]
  rcases Nat.le_total k es.length with h | h
  · rw [Nat.min_eq_left h]
  · rw [Nat.min_eq_right h, List.take_length, List.take_of_length_le h]
theorem cutV_from (es : List V) (k : Nat) : cutV es (some (k : Int)) none = es.drop k := by
  unfold cutV
  rw [HT.sIx_nat, HT.sIx_none]
  rcases Nat.le_total k es.length with h | h
  · rw [Nat.min_eq_left h, List.take_of_length_le (by rw [List.length_drop]; omega)]
  · rw [Nat.min_eq_right h, Nat.sub_self, List.take_zero, List.drop_of_length_le h]
theorem RepG.take {β : Type} {At : V → β → Prop} {rs : List V} {D : List β} (h : RepG At rs D) (k : Nat) : RepG At (rs.take k) (D.take k) := by
  refine ⟨by rw [List.length_take, List.length_take, h.len], fun i x e h1 h2 => ?_⟩
  rcases Nat.lt_or_ge i k with z | z
  · rw [List.getElem?_take_of_lt z] at h1 h2
    exact h.at_ i x e h1 h2
  · rw [List.getElem?_eq_none (by rw [List.length_take]; omega)] at h1
    cases h1
theorem RepG.drop {β : Type} {At : V → β → Prop} {rs : List V} {D : List β} (h : RepG At rs D) (k : Nat) : RepG At (rs.drop k) (D.drop k) := by
  refine ⟨by rw [List.length_drop, List.length_drop, h.len], fun i x e h1 h2 => ?_⟩
  rw [List.getElem?_drop] at h1 h2
  exact h.at_ _ x e h1 h2
theorem RepG.one {β : Type} {At : V → β → Prop} {x : V} {e : β} (h : At x e) : RepG At [x] [e] := RepG.nil.snoc h
theorem RepG.app {β : Type} {At : V → β → Prop} {r1 r2 : List V} {D1 D2 : List β} (h1 : RepG At r1 D1) (h2 : RepG At r2 D2) : RepG At (r1 ++ r2) (D1 ++ D2) := by
  refine ⟨by rw [List.length_append, List.length_append, h1.len, h2.len], fun i x e g1 g2 => ?_⟩
  rcases Nat.lt_or_ge i r1.length with z | z
  · rw [List.getElem?_append_left z] at g1
    rw [List.getElem?_append_left (by rw [← h1.len]; exact z)] at g2
    exact h1.at_ i x e g1 g2
  · rw [List.getElem?_append_right z] at g1
    rw [List.getElem?_append_right (by rw [← h1.len]; exact z), ← h1.len] at g2
    exact h2.at_ _ x e g1 g2
theorem head_app {r c n : Int} {A B : List (Ed × Ac)} : headN r c n (A ++ B) = headN r c n A ++ B.flatMap edN := by
  unfold headN
  rw [List.flatMap_append, List.append_assoc]
def spOrder (K : PySem.W.Frag) : Sp := fun vs H Q _ => ∃ (b L : Addr) (r c v : Int) (rs : List V) (D : List (Ed × Ac)), vs = [.ref b, .ref L, .int v] ∧ SqT K H b [.int r, .int c] ∧ (0 ≤ r ∧ r ≤ 8) ∧ (0 ≤ c ∧ c ≤ 6) ∧ H L = some (.lst rs) ∧ RepG (EAt K H) rs D ∧ D.length ≤ 9 ∧ (D.map fun u => u.1.id).Nodup ∧ (D.map keyS).Nodup ∧ (∀ u ∈ D, OkV u) ∧ ∀ H', Same H H' → Q (.bl true) H'
theorem okLawOrder (T : Txt K mg) : FnOk P w K mg base CX0 137 T.fLawOrder T.fdLawOrder ["_law_begin_here", "_law_edits_here", "_law_cell_here"] (spOrder K) := by
  refine T.FLawOrder.ok scLawOrder (fun vs H Q E h => ?_) (fun cdv A outer s H vs Q E hr h => ?_)
  · obtain ⟨b, L, r, c, v, rs, D, rfl, _⟩ := h
    rfl
  · obtain ⟨b, L, r, c, v, rs, D, rfl, hb, hr0, hc0, hL, R, hz, nd, nk, ok, q⟩ := h
    -- slots _law_begin_here=0 _law_edits_here=1 _law_cell_here=2 _law_told=3 _law_k=4 _law_numbers_here=5 _law_edit=6 _law_place_here=7
    refine ⟨_, (pss_cons (ps_set (i := 3) scLawOrder.nd rfl (Or.inl rfl) (pe_call (okLawSorted T) (hr.mono (by decide)) (by rfl) T.gLawSorted T.FLawSorted.kp T.bLawSorted .nil pass0 (pa_cons (pv 1) pa_nil)))
        (pss_cons (ps_if (pt_cmpR op_lt (pe_callB call_len_seq (by rfl) T.z_len PySem.boot_len (pa_cons (pv 3) pa_nil)) pe_int (nomark _))
          (pss_one (ps_ret pe_bl))
          pss_nil)
        (pss_cons (ps_set (i := 4) scLawOrder.nd rfl (Or.inl rfl) (pe_op op_mod (pe_callTy call_int1 (by rfl) T.z_int (by decide +kernel) (pa_cons (pv 2) pa_nil)) (pe_op op_sub (pe_callB call_len_seq (by rfl) T.z_len PySem.boot_len (pa_cons (pv 3) pa_nil)) pe_int)))
        (pss_cons (ps_set (i := 5) scLawOrder.nd rfl (Or.inl rfl) (pe_lst (pa_cons (pe_ix ix_tup (pv 0) pe_int (fun _ _ => rfl)) (pa_cons (pe_ix ix_tup (pv 0) pe_int (fun _ _ => rfl)) (pa_cons (pe_callB call_len_seq (by rfl) T.z_len PySem.boot_len (pa_cons (pv 3) pa_nil)) pa_nil)))))
        (pss_cons (ps_for PassesOwn.never rfl (pi_list (pe_op op_cat (pe_slice sl_list (pv 3) po_none (po_some (pv 4))) (pe_lst (pa_cons (pe_ix ix_list (pv 3) (pe_op op_add (pv 4) pe_int) (fun _ _ => rfl)) pa_nil)))) (pg_name (i := 6) scLawOrder.nd rfl (Or.inl rfl))
          (pss_one (ps_set (i := 5) scLawOrder.nd rfl (Or.inl rfl) (pe_op op_cat (pv 5) (pe_call (okLawEditNumbers T) (hr.mono (by decide)) (by rfl) T.gLawEditNumbers T.FLawEditNumbers.kp T.bLawEditNumbers .nil pass0 (pa_cons (pv 6) pa_nil))))))
        (pss_cons (ps_set (i := 7) scLawOrder.nd rfl (Or.inl rfl) (pe_callB call_len_seq (by rfl) T.z_len PySem.boot_len (pa_cons (pe_call (okLawNumbers T) (hr.mono (by decide)) (by rfl) T.gLawNumbers T.FLawNumbers.kp T.bLawNumbers .nil pass0 (pa_cons (pv 5) pa_nil)) pa_nil)))
        (pss_cons (ps_for PassesOwn.never rfl (pi_list (pe_op op_cat (pe_lst (pa_cons (pe_ix ix_list (pv 3) (pv 4) (fun _ _ => rfl)) pa_nil)) (pe_slice sl_list (pv 3) (po_some (pe_op op_add (pv 4) pe_int)) po_none))) (pg_name (i := 6) scLawOrder.nd rfl (Or.inl rfl))
          (pss_one (ps_set (i := 5) scLawOrder.nd rfl (Or.inl rfl) (pe_op op_cat (pv 5) (pe_call (okLawEditNumbers T) (hr.mono (by decide)) (by rfl) T.gLawEditNumbers T.FLawEditNumbers.kp T.bLawEditNumbers .nil pass0 (pa_cons (pv 6) pa_nil))))))
        (pss_one (ps_ret (pe_cmpR op_eq (pe_call (okLawPlace T) (hr.mono (by decide)) (by rfl) T.gLawPlace T.FLawPlace.kp T.bLawPlace .nil pass0 (pa_cons (pe_call (okLawNumbers T) (hr.mono (by decide)) (by rfl) T.gLawNumbers T.FLawNumbers.kp T.bLawNumbers .nil pass0 (pa_cons (pv 5) pa_nil)) pa_nil)) (pv 7) (nomark _))))))))))), ?_⟩
    refine ⟨_, rfl, L, rs, D, rfl, hL, R, hz, nk, fun l H1 es E s1 hl RE sE => ?_⟩
    have el : E.length = D.length := sE.1.length_eq
    have okE : ∀ u ∈ E, OkV u := fun u hu => ok u (sE.1.mem_iff.mp hu)
    have ndE : (E.map fun u => u.1.id).Nodup := (sE.1.map _).nodup_iff.mpr nd
    have nkE : (E.map keyS).Nodup := (sE.1.map _).nodup_iff.mpr nk
    refine ⟨_, rfl, l, _, rfl, .inl (SqL.of hl), _, _, rfl, rfl, _, rfl, ite2 (fun c0 => ?_) (fun c0 => ?_)⟩
    · exact q _ s1
    have e0 : 2 ≤ E.length := by
      rcases Nat.lt_or_ge E.length 2 with z | z
      · exact absurd (decide_eq_true (by rw [RE.len]; omega)) c0
      · exact z
    have esl := RE.len
    refine ⟨_, rfl, .inl ⟨_, rfl, _, rfl, l, _, rfl, .inl (SqL.of hl), _, _, rfl, rfl, _, _, rfl, rfl, (by show (0 : Int) < (es.length : Int) - 1; omega), ?_⟩⟩
    obtain ⟨k, et, hk⟩ : ∃ k : Nat, v % ((es.length : Int) - 1) = (k : Int) ∧ k + 1 < E.length := by
      have h1 := Int.emod_nonneg v (b := ((es.length : Int) - 1)) (by omega)
      have h2 := Int.emod_lt_of_pos v (b := ((es.length : Int) - 1)) (by omega)
      exact ⟨(v % ((es.length : Int) - 1)).toNat, by omega, by omega⟩
    show gName 4 (V.int (v % ((es.length : Int) - 1))) _ _ _
    rw [et]
    have hb1 := s1.tup hb
    refine ⟨_, rfl, b, _, _, _, rfl, rfl, hb1, atI_nat (j := 0) rfl, _, rfl, b, _, _, _, rfl, rfl, hb1, atI_nat (j := 1) rfl, _, rfl, l, _, rfl, .inl (SqL.of hl), (by show 3 ≤ sizeLine; decide), fun N hN => ?_⟩
    have s2 := same_new (o := .lst [.int r, .int c, .int (es.length : Int)]) hN
    have hN2 : (upd H1 N (.lst [.int r, .int c, .int (es.length : Int)])) N = some (.lst ((headN r c (E.length : Int) []).map V.int)) := by
      rw [upd_same, RE.len]
      rfl
    generalize upd H1 N (.lst [.int r, .int c, .int (es.length : Int)]) = H2 at s2 hN2 ⊢
    have hl2 := s2 _ _ hl
    obtain ⟨u, hu⟩ : ∃ u, E[k]? = some u := ⟨_, List.getElem?_eq_getElem (by omega)⟩
    obtain ⟨w, hw⟩ : ∃ w, E[k + 1]? = some w := ⟨_, List.getElem?_eq_getElem hk⟩
    obtain ⟨yu, hyu⟩ : ∃ y, es[k]? = some y := ⟨_, List.getElem?_eq_getElem (by omega)⟩
    obtain ⟨yw, hyw⟩ : ∃ y, es[k + 1]? = some y := ⟨_, List.getElem?_eq_getElem (by omega)⟩
    obtain ⟨gE, wE⟩ := out_order ndE nkE sE.2 hu hw
    have Eu := RE.at_ _ _ _ hyu hu
    have Ew := RE.at_ _ _ _ hyw hw
    obtain ⟨A, hA⟩ : ∃ A, A = E.take k ++ [w] := ⟨_, rfl⟩
    obtain ⟨B, hB⟩ : ∃ B, B = [u] ++ E.drop (k + 2) := ⟨_, rfl⟩
    have RA : RepG (EAt K H1) (es.take k ++ [yw]) A := by
      rw [hA]
      exact (RE.take k).app (RepG.one Ew)
    have RB : RepG (EAt K H1) ([yu] ++ es.drop (k + 2)) B := by
      rw [hB]
      exact (RepG.one Eu).app (RE.drop (k + 2))
    have okA : ∀ x ∈ A, OkV x := fun x hx => by
      rw [hA] at hx
      rcases List.mem_append.mp hx with y | y
      · exact okE x (List.mem_of_mem_take y)
      · rw [List.mem_singleton.mp y]
        exact okE w (List.mem_of_getElem? hw)
    have okB : ∀ x ∈ B, OkV x := fun x hx => by
      rw [hB] at hx
      rcases List.mem_append.mp hx with y | y
      · rw [List.mem_singleton.mp y]
        exact okE u (List.mem_of_getElem? hu)
      · exact okE x (List.mem_of_mem_drop y)
    have lA : A.length = k + 1 := by rw [hA, List.length_append, List.length_take]; show min _ _ + 1 = _; omega
    have lB : B.length = E.length - (k + 1) := by rw [hB, List.length_append, List.length_drop]; show 1 + _ = _; omega
    have lA9 : A.length ≤ 9 := by omega
    have lAB : (A ++ B).length ≤ 9 := by rw [List.length_append]; omega
    have okAB : ∀ x ∈ A ++ B, OkV x := fun x hx => (List.mem_append.mp hx).elim (okA x) (okB x)
    have nmA : ∀ j, (headN r c (E.length : Int) (A.take j)).length ≤ 81003 ∧ ∀ z ∈ headN r c (E.length : Int) (A.take j), 0 ≤ z ∧ z < 10 ^ 30 := fun j =>
      nums_head hr0 hc0 (by omega) (by rw [List.length_take]; omega) fun u hu => (okA u (List.mem_of_mem_take hu)).1
    have nmB : ∀ j, (headN r c (E.length : Int) (A ++ B.take j)).length ≤ 81003 ∧ ∀ z ∈ headN r c (E.length : Int) (A ++ B.take j), 0 ≤ z ∧ z < 10 ^ 30 := fun j =>
      nums_head hr0 hc0 (by omega) (by rw [List.length_append, List.length_take]; rw [List.length_append] at lAB; omega) fun u hu => (okAB u ((List.mem_append.mp hu).elim (fun z => List.mem_append_left _ z) fun z => List.mem_append_right _ (List.mem_of_mem_take z))).1
    have pw := place_wrong (rest := (E.drop (k + 2)).flatMap edN) hr0 hc0 (n := (E.length : Int)) (E := A) ⟨by omega, by omega⟩ (fun x hx => (okA x hx).2) (by rw [hA]; exact gE) (u := u) (okE u (List.mem_of_getElem? hu)).2.hd (by rw [hA]; exact wE)
    have eB : edN u ++ (E.drop (k + 2)).flatMap edN = B.flatMap edN := by rw [hB]; rfl
    rw [eB, ← head_app] at pw
    have pw := pw fun z hz2 => by
      have := (nmB B.length).2 z (by rw [List.take_length]; exact hz2)
      exact this.1
    -- the first row
    refine ⟨_, rfl, _, rfl, (k : Int), rfl, l, _, rfl, SqL.of hl2, fun l1 hl1 => ?_⟩
    rw [cutV_to]
    have x1 := same_new (o := .lst (es.take k)) hl1
    refine ⟨_, rfl, _, rfl, _, _, rfl, rfl, l, es, _, yw, rfl, rfl, SqL.of (x1 _ _ hl2), ?_, (by show 1 ≤ sizeLine; decide), fun l2 hl2' => ?_⟩
    · rw [show (k : Int) + 1 = ((k + 1 : Nat) : Int) by omega]
      exact atI_nat hyw
    have x2 := same_new (o := .lst [yw]) hl2'
    refine ⟨l1, l2, _, _, rfl, rfl, x2 _ _ upd_same, upd_same, sz6 (by rw [List.length_take]; show min _ _ + 1 ≤ _; omega), fun l3 hl3 => ?_⟩
    have x3 := same_new (o := .lst (es.take k ++ [yw])) hl3
    have x13 := (x1.trans x2).trans x3
    have hl3a : (upd (upd (upd H2 l1 (.lst (es.take k))) l2 (.lst [yw])) l3 (.lst (es.take k ++ [yw]))) l3 = some (.lst (es.take k ++ [yw])) := upd_same
    have hN3 := x13 _ _ hN2
    have s13 := s2.trans x13
    generalize upd (upd (upd H2 l1 (.lst (es.take k))) l2 (.lst [yw])) l3 (.lst (es.take k ++ [yw])) = H3 at hl3a hN3 s13 ⊢
    refine ⟨l3, rfl, ⟨_, SqL.of hl3a⟩, for_it (walk_list (a := l3) (xs := es.take k ++ [yw])) (fun j σ H' => ∃ (p : Addr) (c6 : Option V), σ = [some (.ref b), some (.ref L), some (.int v), some (.ref l), some (.int (k : Int)), some (.ref p), c6, none] ∧ Same H3 H' ∧ H' p = some (.lst ((headN r c (E.length : Int) (A.take j)).map V.int))) ⟨N, none, rfl, Same.refl _, hN3⟩ (fun i σ H' _ ⟨_, _, _, h, _⟩ => SqL.of (h _ _ hl3a)) ?_ ?_⟩
    · rintro j x σ H4 H5 hj ⟨p, c4, rfl, s4, hp⟩ ⟨rfl, hx⟩
      obtain ⟨z, hz1, E4⟩ := RA.get hx
      have zm := List.mem_of_getElem? hz1
      refine ⟨_, rfl, _, rfl, x, z, rfl, E4.same (s13.trans s4), (okA z zm).1, fun p5 H6 s6 hp6 => ?_⟩
      have := (nmA j).1
      have := (okA z zm).1.len
      refine ⟨p, p5, _, _, rfl, rfl, s6 _ _ hp, hp6, sz6 (by rw [List.length_map, List.length_map]; omega), fun y hy => ⟨y, some x, rfl, (s4.trans s6).trans (same_new hy), ?_⟩⟩
      rw [upd_same, head_snoc hz1, List.map_append]
    rintro σ H4 ⟨p, c4, rfl, s4, hp⟩
    have tA : A.take (es.take k ++ [yw]).length = A := List.take_of_length_le (by rw [RA.len]; exact Nat.le_refl _)
    have nm1 := nmA (es.take k ++ [yw]).length
    rw [tA] at hp nm1
    refine ⟨_, rfl, p, _, rfl, SqL.of hp, by omega, nm1.2, fun p2 H5 s5 hp2 => ⟨p2, _, rfl, .inl (SqL.of hp2), ?_⟩⟩
    rw [List.length_map]
    have s15 := s13.trans (s4.trans s5)
    have hl5 := s15 _ _ hl
    have hp5 := s5 _ _ hp
    -- the second row
    refine ⟨_, rfl, _, rfl, l, es, _, yu, rfl, rfl, SqL.of hl5, atI_nat hyu, (by show 1 ≤ sizeLine; decide), fun m1 hm1 => ?_⟩
    have z1 := same_new (o := .lst [yu]) hm1
    refine ⟨_, rfl, _, rfl, _, _, rfl, rfl, ((k + 2 : Nat) : Int), congrArg V.int (show (k : Int) + 2 = _ by omega), l, _, rfl, SqL.of (z1 _ _ hl5), fun m2 hm2 => ?_⟩
    rw [cutV_from]
    have z2 := same_new (o := .lst (es.drop (k + 2))) hm2
    refine ⟨m1, m2, _, _, rfl, rfl, z2 _ _ upd_same, upd_same, sz6 (by rw [List.length_drop]; show 1 + _ ≤ _; omega), fun m3 hm3 => ?_⟩
    have z3 := same_new (o := .lst ([yu] ++ es.drop (k + 2))) hm3
    have z13 := (z1.trans z2).trans z3
    have hm3a : (upd (upd (upd H5 m1 (.lst [yu])) m2 (.lst (es.drop (k + 2)))) m3 (.lst ([yu] ++ es.drop (k + 2)))) m3 = some (.lst ([yu] ++ es.drop (k + 2))) := upd_same
    have hp6 := z13 _ _ hp5
    have s16 := s15.trans z13
    generalize upd (upd (upd H5 m1 (.lst [yu])) m2 (.lst (es.drop (k + 2)))) m3 (.lst ([yu] ++ es.drop (k + 2))) = H6 at hm3a hp6 s16 ⊢
    refine ⟨m3, rfl, ⟨_, SqL.of hm3a⟩, for_it (walk_list (a := m3) (xs := [yu] ++ es.drop (k + 2))) (fun j σ H' => ∃ (p : Addr) (c6 : Option V), σ = [some (.ref b), some (.ref L), some (.int v), some (.ref l), some (.int (k : Int)), some (.ref p), c6, some (.int ((bytesN (headN r c (E.length : Int) A)).length : Int))] ∧ Same H6 H' ∧ H' p = some (.lst ((headN r c (E.length : Int) (A ++ B.take j)).map V.int))) ⟨p, c4, rfl, Same.refl _, by rw [List.take_zero, List.append_nil]; exact hp6⟩ (fun i σ H' _ ⟨_, _, _, h, _⟩ => SqL.of (h _ _ hm3a)) ?_ ?_⟩
    · rintro j x σ H7 H8 hj ⟨p, c4, rfl, s7, hp7⟩ ⟨rfl, hx⟩
      obtain ⟨z, hz1, E4⟩ := RB.get hx
      have zm := List.mem_of_getElem? hz1
      refine ⟨_, rfl, _, rfl, x, z, rfl, E4.same (s16.trans s7), (okB z zm).1, fun p8 H9 s9 hp9 => ?_⟩
      have := (nmB j).1
      have := (okB z zm).1.len
      refine ⟨p, p8, _, _, rfl, rfl, s9 _ _ hp7, hp9, sz6 (by rw [List.length_map, List.length_map]; omega), fun y hy => ⟨y, some x, rfl, (s7.trans s9).trans (same_new hy), ?_⟩⟩
      have eh : headN r c (E.length : Int) (A ++ B.take (j + 1)) = headN r c (E.length : Int) (A ++ B.take j) ++ edN z := by
        rw [List.take_add_one, hz1, ← List.append_assoc, head_app]
        show _ ++ (edN z ++ []) = _
        rw [List.append_nil]
      rw [upd_same, eh, List.map_append]
    rintro σ H7 ⟨p, c4, rfl, s7, hp7⟩
    have tB : B.take ([yu] ++ es.drop (k + 2)).length = B := List.take_of_length_le (by rw [RB.len]; exact Nat.le_refl _)
    have nm2 := nmB ([yu] ++ es.drop (k + 2)).length
    rw [tB] at hp7 nm2
    refine ⟨_, rfl, p, _, rfl, SqL.of hp7, by omega, nm2.2, fun p8 H8 s8 hp8 => ⟨p8, _, rfl, SqL.of hp8, Nat.le_trans (Nums.bytes ⟨by omega, nm2.2⟩) (by decide), fun H9 s9 => ⟨_, rfl, rfl, ?_⟩⟩⟩
    rw [pw, decide_eq_true rfl]
    exact q _ (s1.trans (((s16.trans s7).trans s8).trans s9))
end
end My
namespace My
open PySem PySem.Spec PyProof.Rows L2 RZ
section
variable {P : Program} {w : World} {K : PySem.W.Frag} {mg : Str → Option Value} {base : Heap}
open L2H
open SX (S S_len S_cat slice_to slice_from num_S int_S)
open PySem.NumText (digitsVal AllDigits)
open TL (numL)
def spLaw (K : PySem.W.Frag) : Sp := fun vs H Q _ => ∃ (a : Addr) (ns : List Int), vs = [.ref a] ∧ SqL K H a (ns.map V.int) ∧ ns.length ≤ 63 ∧ ∀ H', Q (.bl true) H'
theorem okLaw (T : Txt K mg) : FnOk P w K mg base CX0 138 T.fLaw T.fdLaw ["_law_script"] (spLaw K) := by
  refine T.FLaw.ok scLaw (fun vs H Q E h => ?_) (fun cdv A outer s H vs Q E hr h => ?_)
  · obtain ⟨a, ns, rfl, _⟩ := h
    rfl
  · obtain ⟨a, ns, rfl, hS, hlen, q⟩ := h
    -- slots _law_script=0 _law_edits_here=1 _law_begin_here=2 _law_numbers_here=3 _law_data=4
    refine ⟨_, (pss_cons (ps_set (i := 1) scLaw.nd rfl (Or.inl rfl) (pe_call (okLawEdits T) (hr.mono (by decide)) (by rfl) T.gLawEdits T.FLawEdits.kp T.bLawEdits .nil pass0 (pa_cons (pv 0) pa_nil)))
        (pss_cons (ps_set (i := 2) scLaw.nd rfl (Or.inl rfl) (pe_call (okLawBegin T) (hr.mono (by decide)) (by rfl) T.gLawBegin T.FLawBegin.kp T.bLawBegin .nil pass0 (pa_cons (pv 0) pa_nil)))
        (pss_cons (ps_set (i := 3) scLaw.nd rfl (Or.inl rfl) (pe_call (okLawUpdateNumbers T) (hr.mono (by decide)) (by rfl) T.gLawUpdateNumbers T.FLawUpdateNumbers.kp T.bLawUpdateNumbers .nil pass0 (pa_cons (pv 2) (pa_cons (pv 1) pa_nil))))
        (pss_cons (ps_set (i := 4) scLaw.nd rfl (Or.inl rfl) (pe_call (okLawNumbers T) (hr.mono (by decide)) (by rfl) T.gLawNumbers T.FLawNumbers.kp T.bLawNumbers .nil pass0 (pa_cons (pv 3) pa_nil)))
        (pss_cons (ps_if (PW.pt (pw_or (pt_not (pt_val (pe_call (okLawCut T) (hr.mono (by decide)) (by rfl) T.gLawCut T.FLawCut.kp T.bLawCut .nil pass0 (pa_cons (pv 3) (pa_cons (pv 4) (pa_cons (pe_call (okLawCell T) (hr.mono (by decide)) (by rfl) T.gLawCell T.FLawCell.kp T.bLawCell .nil pass0 (pa_cons (pv 0) (pa_cons pe_int pa_nil))) pa_nil)))))) (pw_or1 (pt_not (pt_val (pe_call (okLawCut T) (hr.mono (by decide)) (by rfl) T.gLawCut T.FLawCut.kp T.bLawCut .nil pass0 (pa_cons (pv 3) (pa_cons (pv 4) (pa_cons (pe_call (okLawCell T) (hr.mono (by decide)) (by rfl) T.gLawCell T.FLawCell.kp T.bLawCell .nil pass0 (pa_cons (pv 0) (pa_cons pe_int pa_nil))) pa_nil)))))))))
          (pss_one (ps_ret pe_bl))
          pss_nil)
        (pss_cons (ps_if (pt_not (pt_val (pe_call (okLawLonger T) (hr.mono (by decide)) (by rfl) T.gLawLonger T.FLawLonger.kp T.bLawLonger .nil pass0 (pa_cons (pv 3) (pa_cons (pv 4) (pa_cons (pe_call (okLawCell T) (hr.mono (by decide)) (by rfl) T.gLawCell T.FLawCell.kp T.bLawCell .nil pass0 (pa_cons (pv 0) (pa_cons pe_int pa_nil))) pa_nil))))))
          (pss_one (ps_ret pe_bl))
          pss_nil)
        (pss_cons (ps_if (pt_cmpR op_ne (pe_call (okLawPlace T) (hr.mono (by decide)) (by rfl) T.gLawPlace T.FLawPlace.kp T.bLawPlace .nil pass0 (pa_cons (pe_op op_cat (pv 4) (pe_lst (pa_cons (pe_op op_mod (pe_callTy call_int1 (by rfl) T.z_int (by decide +kernel) (pa_cons (pe_call (okLawCell T) (hr.mono (by decide)) (by rfl) T.gLawCell T.FLawCell.kp T.bLawCell .nil pass0 (pa_cons (pv 0) (pa_cons pe_int pa_nil))) pa_nil)) pe_int) pa_nil))) pa_nil)) (pe_callB call_len_seq (by rfl) T.z_len PySem.boot_len (pa_cons (pv 4) pa_nil)) (nomark _))
          (pss_one (ps_ret pe_bl))
          pss_nil)
        (pss_cons (ps_if (pt_cmpR op_ne (pe_call (okLawPlace T) (hr.mono (by decide)) (by rfl) T.gLawPlace T.FLawPlace.kp T.bLawPlace .nil pass0 (pa_cons (pe_op op_cat (pe_lst (pa_cons (pe_op op_add pe_int (pe_op op_mod (pe_callTy call_int1 (by rfl) T.z_int (by decide +kernel) (pa_cons (pe_call (okLawCell T) (hr.mono (by decide)) (by rfl) T.gLawCell T.FLawCell.kp T.bLawCell .nil pass0 (pa_cons (pv 0) (pa_cons pe_int pa_nil))) pa_nil)) pe_int)) pa_nil)) (pe_slice sl_list (pv 4) (po_some pe_int) po_none)) pa_nil)) pe_int (nomark _))
          (pss_one (ps_ret pe_bl))
          pss_nil)
        (pss_cons (ps_if (pt_cmpR op_ne (pe_call (okLawPlace T) (hr.mono (by decide)) (by rfl) T.gLawPlace T.FLawPlace.kp T.bLawPlace .nil pass0 (pa_cons (pe_op op_cat (pe_lst (pa_cons (pe_ix ix_list (pv 4) pe_int (fun _ _ => rfl)) (pa_cons (pe_op op_add pe_int (pe_op op_mod (pe_callTy call_int1 (by rfl) T.z_int (by decide +kernel) (pa_cons (pe_call (okLawCell T) (hr.mono (by decide)) (by rfl) T.gLawCell T.FLawCell.kp T.bLawCell .nil pass0 (pa_cons (pv 0) (pa_cons pe_int pa_nil))) pa_nil)) pe_int)) pa_nil))) (pe_slice sl_list (pv 4) (po_some pe_int) po_none)) pa_nil)) pe_int (nomark _))
          (pss_one (ps_ret pe_bl))
          pss_nil)
        (pss_cons (ps_if (pt_not (pt_val (pe_call (okLawDouble T) (hr.mono (by decide)) (by rfl) T.gLawDouble T.FLawDouble.kp T.bLawDouble .nil pass0 (pa_cons (pv 2) (pa_cons (pv 1) pa_nil)))))
          (pss_one (ps_ret pe_bl))
          pss_nil)
        (pss_one (ps_ret (pe_call (okLawOrder T) (hr.mono (by decide)) (by rfl) T.gLawOrder T.FLawOrder.kp T.bLawOrder .nil pass0 (pa_cons (pv 2) (pa_cons (pv 1) (pa_cons (pe_call (okLawCell T) (hr.mono (by decide)) (by rfl) T.gLawCell T.FLawCell.kp T.bLawCell .nil pass0 (pa_cons (pv 0) (pa_cons pe_int pa_nil))) pa_nil)))))))))))))))), ?_⟩
    refine ⟨_, rfl, a, ns, rfl, hS, fun H1 L rs D s1 hL R Dl ok nd nk => ?_⟩
    refine ⟨_, rfl, a, ns, rfl, s1.seq hS, fun b H2 r c s2 hb hr hc => ?_⟩
    have hL2 := s2 _ _ hL
    have R2 := R.imp fun x e h => h.same s2
    refine ⟨_, rfl, _, rfl, b, L, r, c, rs, D, rfl, SqT.of hb, hL2, R2, Dl, nk, fun u hu => (ok u hu).1, fun E sE p3 H3 s3 hp3 => ?_⟩
    have okE : ∀ u ∈ E, OkV u := fun u hu => ok u (sE.1.mem_iff.mp hu)
    have el : E.length = D.length := sE.1.length_eq
    have ndE : (E.map fun u => u.1.id).Nodup := (sE.1.map _).nodup_iff.mpr nd
    have gE : Good [] E := good_of ndE sE.2 (fun _ _ _ h => nomatch h) (fun _ _ _ _ h => nomatch h)
    obtain ⟨nh1, nh2⟩ := nums_head (n := (E.length : Int)) hr hc (by omega) (by omega) fun u hu => (okE u hu).1
    have nm : Nums (headN r c (E.length : Int) E) := ⟨by omega, nh2⟩
    have wh : Whole (headN r c (E.length : Int) E) := by
      obtain ⟨r', e⟩ := body_all hr hc (by omega) (fun u hu => (okE u hu).2) gE
      exact ⟨_, _, e⟩
    have hp3 : H3 p3 = some (.lst ((headN r c (E.length : Int) E).map V.int)) := by
      rw [el]
      exact hp3
    have eb : bytesN (headN r c (E.length : Int) E) = r :: c :: bytesN ((E.length : Int) :: E.flatMap edN) := by
      show nb r.toNat ++ (nb c.toNat ++ _) = _
      rw [nb_small (by omega), nb_small (by omega), Int.toNat_of_nonneg hr.1, Int.toNat_of_nonneg hc.1]
      rfl
    have hpos : 0 < (headN r c (E.length : Int) E).length := by
      unfold headN
      rw [app_len3]
      omega
    have px : ∀ x : Int, placeOf (bytesN (headN r c (E.length : Int) E) ++ [x]) = ((bytesN (headN r c (E.length : Int) E)).length : Int) := fun x => by
      obtain ⟨p, r', e⟩ := wh
      exact place_extra (b := x) (tl := []) e fun z hz => (nm.num z hz).1
    have bl := nm.bytes
    refine ⟨_, rfl, p3, _, rfl, SqL.of hp3, nm.len, nm.num, fun d H4 s4 hd => ?_⟩
    generalize hns : headN r c (E.length : Int) E = nums at *
    generalize hbs : bytesN nums = bs at *
    have hp4 := s4 _ _ hp3
    have sS := (s1.trans s2).trans (s3.trans s4)
    refine ⟨_, rfl, _, rfl, _, rfl, a, ns, 20, rfl, by decide, sS.seq hS, fun v20 => ⟨p3, d, nums, v20, rfl, SqL.of hp4, by rw [hbs]; exact SqL.of hd, nm, wh, hpos, fun H5 s5 => ?_⟩⟩
    have f5 := sS.trans s5
    refine ⟨_, rfl, iteF ⟨_, rfl, _, rfl, _, rfl, a, ns, 21, rfl, by decide, f5.seq hS, fun v21 => ⟨p3, d, nums, v21, rfl, SqL.of (s5 _ _ hp4), by rw [hbs]; exact SqL.of (s5 _ _ hd), nm, wh, hpos, fun H6 s6 => ?_⟩⟩⟩
    refine ⟨_, rfl, iteF ?_⟩
    have hp6 := s6 _ _ (s5 _ _ hp4)
    have hd6 := s6 _ _ (s5 _ _ hd)
    have f6 := f5.trans s6
    refine ⟨_, rfl, _, rfl, _, rfl, a, ns, 22, rfl, by decide, f6.seq hS, fun v22 => ⟨p3, d, nums, v22, rfl, SqL.of hp6, by rw [hbs]; exact SqL.of hd6, nm, wh, hpos, fun H7 s7 => ?_⟩⟩
    refine ⟨_, rfl, iteF ?_⟩
    have hd7 := s7 _ _ hd6
    have f7 := f6.trans s7
    -- a byte behind
    refine ⟨_, rfl, _, rfl, a, ns, 23, rfl, by decide, f7.seq hS, fun v23 => .inl ⟨_, rfl, _, _, rfl, rfl, (by show (0 : Int) < _; decide), (by show 1 ≤ sizeLine; decide), fun l1 hl1 => ?_⟩⟩
    have x1 := same_new (o := .lst [.int (v23 % 256)]) hl1
    refine ⟨d, l1, _, _, rfl, rfl, x1 _ _ hd7, upd_same, sz6 (by rw [List.length_map]; show _ + 1 ≤ _; omega), fun l2 hl2 => ?_⟩
    have x2 := same_new (o := .lst (bs.map V.int ++ [.int (v23 % 256)])) hl2
    refine ⟨l2, bs ++ [v23 % 256], rfl, SqL.of (by rw [List.map_append]; exact upd_same), by rw [List.length_append]; show _ + 1 ≤ _; omega, fun H8 s8 => ?_⟩
    have s78 := (x1.trans x2).trans s8
    have hd8 := s78 _ _ hd7
    refine ⟨_, rfl, d, _, rfl, .inl (SqL.of hd8), rfl, _, rfl, ite2 (fun z => ?_) (fun _ => ?_)⟩
    · rw [px, List.length_map] at z
      simp at z
    have f8 := f7.trans s78
    -- the first number
    have b24 : ∀ x : Int, 9 ≤ 9 + x % 100 ∧ 9 + x % 100 < 128 := fun x => by omega
    refine ⟨_, rfl, a, ns, 24, rfl, by decide, f8.seq hS, fun v24 => .inl ⟨_, rfl, _, _, rfl, rfl, (by show (0 : Int) < _; decide), _, _, rfl, rfl, (by show 1 ≤ sizeLine; decide), fun l3 hl3 => ?_⟩⟩
    have x3 := same_new (o := .lst [.int (9 + v24 % 100)]) hl3
    refine ⟨_, rfl, 1, rfl, d, _, rfl, SqL.of (x3 _ _ hd8), fun l4 hl4 => ?_⟩
    rw [show (some (1 : Int)) = some (((1 : Nat)) : Int) from rfl, cut_from]
    have x4 := same_new (o := .lst ((bs.drop 1).map V.int)) hl4
    refine ⟨l3, l4, _, _, rfl, rfl, x4 _ _ upd_same, upd_same, sz6 (by rw [List.length_map, List.length_drop]; show 1 + _ ≤ _; omega), fun l5 hl5 => ?_⟩
    have x5 := same_new (o := .lst ([.int (9 + v24 % 100)] ++ (bs.drop 1).map V.int)) hl5
    refine ⟨l5, (9 + v24 % 100) :: bs.drop 1, rfl, SqL.of upd_same, by rw [List.length_cons, List.length_drop]; omega, fun H9 s9 => ?_⟩
    have s89 := ((x3.trans x4).trans x5).trans s9
    refine ⟨rfl, _, rfl, ite2 (fun z => ?_) (fun _ => ?_)⟩
    · rw [place_first (b24 v24)] at z
      simp at z
    have hd9 := s89 _ _ hd8
    have f9 := f8.trans s89
    -- the second
    have b25 : ∀ x : Int, 7 ≤ 7 + x % 100 ∧ 7 + x % 100 < 128 := fun x => by omega
    refine ⟨_, rfl, d, _, _, .int r, rfl, rfl, SqL.of hd9, by rw [eb]; exact atI_nat (j := 0) rfl, ?_⟩
    refine ⟨_, rfl, a, ns, 25, rfl, by decide, f9.seq hS, fun v25 => .inl ⟨_, rfl, _, _, rfl, rfl, (by show (0 : Int) < _; decide), _, _, rfl, rfl, (by show 2 ≤ sizeLine; decide), fun l6 hl6 => ?_⟩⟩
    have x6 := same_new (o := .lst [.int r, .int (7 + v25 % 100)]) hl6
    refine ⟨_, rfl, 2, rfl, d, _, rfl, SqL.of (x6 _ _ hd9), fun l7 hl7 => ?_⟩
    rw [show (some (2 : Int)) = some (((2 : Nat)) : Int) from rfl, cut_from]
    have x7 := same_new (o := .lst ((bs.drop 2).map V.int)) hl7
    refine ⟨l6, l7, _, _, rfl, rfl, x7 _ _ upd_same, upd_same, sz6 (by rw [List.length_map, List.length_drop]; show 2 + _ ≤ _; omega), fun l8 hl8 => ?_⟩
    have x8 := same_new (o := .lst ([.int r, .int (7 + v25 % 100)] ++ (bs.drop 2).map V.int)) hl8
    refine ⟨l8, r :: (7 + v25 % 100) :: bs.drop 2, rfl, SqL.of upd_same, by rw [List.length_cons, List.length_cons, List.length_drop]; omega, fun H10 s10 => ?_⟩
    have s910 := ((x6.trans x7).trans x8).trans s10
    refine ⟨rfl, _, rfl, ite2 (fun z => ?_) (fun _ => ?_)⟩
    · rw [place_second hr (b25 v25)] at z
      simp at z
    have f10 := f9.trans s910
    have g10 : Same H2 H10 := (s3.trans s4).trans ((s5.trans s6).trans (s7.trans ((s78.trans s89).trans s910)))
    have hL10 := g10 _ _ hL2
    have R10 := R2.imp fun x e h => h.same g10
    have hb10 := g10 _ _ hb
    refine ⟨_, rfl, _, rfl, b, L, r, c, rs, D, rfl, SqT.of hb10, hr, hc, hL10, R10, Dl, nd, nk, ok, fun H11 s11 => ⟨_, rfl, iteF ?_⟩⟩
    have g11 := g10.trans s11
    exact ⟨_, rfl, _, rfl, _, rfl, a, ns, 26, rfl, by decide, (f10.trans s11).seq hS, fun v26 => ⟨b, L, r, c, v26, rs, D, rfl, SqT.of (g11 _ _ hb), hr, hc, g11 _ _ hL2, R2.imp fun x e h => h.same g11, Dl, nd, nk, ok, fun _ _ => q _⟩⟩
end
end My
namespace My
open PySem PySem.Spec PyProof.Rows L2 RZ
section
variable {P : Program} {w : World} {K : PySem.W.Frag} {mg : Str → Option Value} {base : Heap}
open L2H
open SX (S S_len S_cat slice_to slice_from num_S int_S)
open PySem.NumText (digitsVal AllDigits)
open TL (numL)
end
set_option maxHeartbeats 0 in
theorem all_mk {l : PySem.W.OpenLaw} {w : World} {K : PySem.W.Frag} {h : Heap} {mg : Str → Option Value} {fa f1 f2 f3 f4 f5 f6 f7 f8 f9 f10 f11 f12 f13 f14 f15 f16 f17 f18 f19 f20 f21 f22 f23 f24 f25 f26 f27 f28 f29 f30 f31 f32 f33 f34 f35 f36 f37 f38 f39 f40 f41 f42 f43 f44 f45 f46 f47 f48 f49 f50 f51 f52 f53 f54 f55 f56 f57 f58 : Addr} {t_MOST : Nat} {t_MOST_OF_FRACTION : Nat} {t_MOST_ROWS : Nat} {t_MOST_COLUMNS : Nat} {t_LONGEST_TEXT : Nat} {t_MOST_BLOCKS : Nat} {t_LARGEST_TREE : Nat} {t_SHORTEST_NAME : Nat} {t_LONGEST_WORD : Nat} {t_SMALL : Nat} {t_CHARACTERS : Nat} (X : K.In h) (G : h.Ns mainGlobals mg) (hfa : mg "law" = some (.ref fa))
    {od1 an1 od2 an2 od3 an3 od4 an4 od5 an5 od6 an6 od7 an7 od8 an8 od9 an9 od10 an10 od11 an11 od12 an12 od13 an13 od14 an14 od15 an15 od16 an16 od17 an17 od18 an18 od19 an19 od20 an20 od21 an21 od22 an22 od23 an23 od24 an24 od25 an25 od26 an26 od27 an27 od28 an28 od29 an29 od30 an30 od31 an31 od32 an32 od33 an33 od34 an34 od35 an35 od36 an36 od37 an37 od38 an38 od39 an39 od40 an40 od41 an41 od42 an42 od43 an43 od44 an44 od45 an45 od46 an46 od47 an47 od48 an48 od49 an49 od50 an50 od51 an51 od52 an52 od53 an53 od54 an54 od55 an55 od56 an56 od57 an57 od58 an58 : Option Addr} {sl1 sl2 sl3 sl4 sl5 sl6 sl7 sl8 sl9 sl10 sl11 sl12 sl13 sl14 sl15 sl16 sl17 sl18 sl19 sl20 sl21 sl22 sl23 sl24 sl25 sl26 sl27 sl28 sl29 sl30 sl31 sl32 sl33 sl34 sl35 sl36 sl37 sl38 sl39 sl40 sl41 sl42 sl43 sl44 sl45 sl46 sl47 sl48 sl49 sl50 sl51 sl52 sl53 sl54 sl55 sl56 sl57 sl58 : Array (Option Value)} {oc1 kV1 dc1 pm1 cd1 ct1 oc2 kV2 dc2 pm2 cd2 ct2 oc3 kV3 dc3 pm3 cd3 ct3 oc4 kV4 dc4 pm4 cd4 ct4 oc5 kV5 dc5 pm5 cd5 ct5 oc6 kV6 dc6 pm6 cd6 ct6 oc7 kV7 dc7 pm7 cd7 ct7 oc8 kV8 dc8 pm8 cd8 ct8 oc9 kV9 dc9 pm9 cd9 ct9 oc10 kV10 dc10 pm10 cd10 ct10 oc11 kV11 dc11 pm11 cd11 ct11 oc12 kV12 dc12 pm12 cd12 ct12 oc13 kV13 dc13 pm13 cd13 ct13 oc14 kV14 dc14 pm14 cd14 ct14 oc15 kV15 dc15 pm15 cd15 ct15 oc16 kV16 dc16 pm16 cd16 ct16 oc17 kV17 dc17 pm17 cd17 ct17 oc18 kV18 dc18 pm18 cd18 ct18 oc19 kV19 dc19 pm19 cd19 ct19 oc20 kV20 dc20 pm20 cd20 ct20 oc21 kV21 dc21 pm21 cd21 ct21 oc22 kV22 dc22 pm22 cd22 ct22 oc23 kV23 dc23 pm23 cd23 ct23 oc24 kV24 dc24 pm24 cd24 ct24 oc25 kV25 dc25 pm25 cd25 ct25 oc26 kV26 dc26 pm26 cd26 ct26 oc27 kV27 dc27 pm27 cd27 ct27 oc28 kV28 dc28 pm28 cd28 ct28 oc29 kV29 dc29 pm29 cd29 ct29 oc30 kV30 dc30 pm30 cd30 ct30 oc31 kV31 dc31 pm31 cd31 ct31 oc32 kV32 dc32 pm32 cd32 ct32 oc33 kV33 dc33 pm33 cd33 ct33 oc34 kV34 dc34 pm34 cd34 ct34 oc35 kV35 dc35 pm35 cd35 ct35 oc36 kV36 dc36 pm36 cd36 ct36 oc37 kV37 dc37 pm37 cd37 ct37 oc38 kV38 dc38 pm38 cd38 ct38 oc39 kV39 dc39 pm39 cd39 ct39 oc40 kV40 dc40 pm40 cd40 ct40 oc41 kV41 dc41 pm41 cd41 ct41 oc42 kV42 dc42 pm42 cd42 ct42 oc43 kV43 dc43 pm43 cd43 ct43 oc44 kV44 dc44 pm44 cd44 ct44 oc45 kV45 dc45 pm45 cd45 ct45 oc46 kV46 dc46 pm46 cd46 ct46 oc47 kV47 dc47 pm47 cd47 ct47 oc48 kV48 dc48 pm48 cd48 ct48 oc49 kV49 dc49 pm49 cd49 ct49 oc50 kV50 dc50 pm50 cd50 ct50 oc51 kV51 dc51 pm51 cd51 ct51 oc52 kV52 dc52 pm52 cd52 ct52 oc53 kV53 dc53 pm53 cd53 ct53 oc54 kV54 dc54 pm54 cd54 ct54 oc55 kV55 dc55 pm55 cd55 ct55 oc56 kV56 dc56 pm56 cd56 ct56 oc57 kV57 dc57 pm57 cd57 ct57 oc58 kV58 dc58 pm58 cd58 ct58 : Value}
    (a1 : PySem.W.nsIn K mainGlobals "stamp" = some (some (.ref f1))) (l1 : K.lookup f1 = some ⟨oc1, od1, .func (PySem.W.fnOf "stamp" "stamp" (defArgs sStamp) (defBody sStamp) (defScope sStamp) .none kV1 dc1 pm1 an1 cd1 ct1), sl1⟩) (c1 : PySem.W.codeIn K cd1 "stamp" = true) (k1 : PySem.W.keepIn K (.ref f1) = true)
    (a2 : PySem.W.nsIn K mainGlobals "place" = some (some (.ref f2))) (l2 : K.lookup f2 = some ⟨oc2, od2, .func (PySem.W.fnOf "place" "place" (defArgs sPlace) (defBody sPlace) (defScope sPlace) .none kV2 dc2 pm2 an2 cd2 ct2), sl2⟩) (c2 : PySem.W.codeIn K cd2 "place" = true) (k2 : PySem.W.keepIn K (.ref f2) = true)
    (a3 : PySem.W.nsIn K mainGlobals "_read_string" = some (some (.ref f3))) (l3 : K.lookup f3 = some ⟨oc3, od3, .func (PySem.W.fnOf "_read_string" "_read_string" (defArgs sReadString) (defBody sReadString) (defScope sReadString) .none kV3 dc3 pm3 an3 cd3 ct3), sl3⟩) (c3 : PySem.W.codeIn K cd3 "_read_string" = true) (k3 : PySem.W.keepIn K (.ref f3) = true)
    (a4 : PySem.W.nsIn K mainGlobals "_read_character" = some (some (.ref f4))) (l4 : K.lookup f4 = some ⟨oc4, od4, .func (PySem.W.fnOf "_read_character" "_read_character" (defArgs sReadCharacter) (defBody sReadCharacter) (defScope sReadCharacter) .none kV4 dc4 pm4 an4 cd4 ct4), sl4⟩) (c4 : PySem.W.codeIn K cd4 "_read_character" = true) (k4 : PySem.W.keepIn K (.ref f4) = true)
    (a5 : PySem.W.nsIn K mainGlobals "_read_word" = some (some (.ref f5))) (l5 : K.lookup f5 = some ⟨oc5, od5, .func (PySem.W.fnOf "_read_word" "_read_word" (defArgs sReadWord) (defBody sReadWord) (defScope sReadWord) .none kV5 dc5 pm5 an5 cd5 ct5), sl5⟩) (c5 : PySem.W.codeIn K cd5 "_read_word" = true) (k5 : PySem.W.keepIn K (.ref f5) = true)
    (a6 : PySem.W.nsIn K mainGlobals "_read_fraction" = some (some (.ref f6))) (l6 : K.lookup f6 = some ⟨oc6, od6, .func (PySem.W.fnOf "_read_fraction" "_read_fraction" (defArgs sReadFraction) (defBody sReadFraction) (defScope sReadFraction) .none kV6 dc6 pm6 an6 cd6 ct6), sl6⟩) (c6 : PySem.W.codeIn K cd6 "_read_fraction" = true) (k6 : PySem.W.keepIn K (.ref f6) = true)
    (a7 : PySem.W.nsIn K mainGlobals "_read_line" = some (some (.ref f7))) (l7 : K.lookup f7 = some ⟨oc7, od7, .func (PySem.W.fnOf "_read_line" "_read_line" (defArgs sReadLine) (defBody sReadLine) (defScope sReadLine) .none kV7 dc7 pm7 an7 cd7 ct7), sl7⟩) (c7 : PySem.W.codeIn K cd7 "_read_line" = true) (k7 : PySem.W.keepIn K (.ref f7) = true)
    (a8 : PySem.W.nsIn K mainGlobals "_read_lines" = some (some (.ref f8))) (l8 : K.lookup f8 = some ⟨oc8, od8, .func (PySem.W.fnOf "_read_lines" "_read_lines" (defArgs sReadLines) (defBody sReadLines) (defScope sReadLines) .none kV8 dc8 pm8 an8 cd8 ct8), sl8⟩) (c8 : PySem.W.codeIn K cd8 "_read_lines" = true) (k8 : PySem.W.keepIn K (.ref f8) = true)
    (a9 : PySem.W.nsIn K mainGlobals "_read_neighbour" = some (some (.ref f9))) (l9 : K.lookup f9 = some ⟨oc9, od9, .func (PySem.W.fnOf "_read_neighbour" "_read_neighbour" (defArgs sReadNeighbour) (defBody sReadNeighbour) (defScope sReadNeighbour) .none kV9 dc9 pm9 an9 cd9 ct9), sl9⟩) (c9 : PySem.W.codeIn K cd9 "_read_neighbour" = true) (k9 : PySem.W.keepIn K (.ref f9) = true)
    (a10 : PySem.W.nsIn K mainGlobals "_read_area" = some (some (.ref f10))) (l10 : K.lookup f10 = some ⟨oc10, od10, .func (PySem.W.fnOf "_read_area" "_read_area" (defArgs sReadArea) (defBody sReadArea) (defScope sReadArea) .none kV10 dc10 pm10 an10 cd10 ct10), sl10⟩) (c10 : PySem.W.codeIn K cd10 "_read_area" = true) (k10 : PySem.W.keepIn K (.ref f10) = true)
    (a11 : PySem.W.nsIn K mainGlobals "_read_call" = some (some (.ref f11))) (l11 : K.lookup f11 = some ⟨oc11, od11, .func (PySem.W.fnOf "_read_call" "_read_call" (defArgs sReadCall) (defBody sReadCall) (defScope sReadCall) .none kV11 dc11 pm11 an11 cd11 ct11), sl11⟩) (c11 : PySem.W.codeIn K cd11 "_read_call" = true) (k11 : PySem.W.keepIn K (.ref f11) = true)
    (a12 : PySem.W.nsIn K mainGlobals "_read_op" = some (some (.ref f12))) (l12 : K.lookup f12 = some ⟨oc12, od12, .func (PySem.W.fnOf "_read_op" "_read_op" (defArgs sReadOp) (defBody sReadOp) (defScope sReadOp) .none kV12 dc12 pm12 an12 cd12 ct12), sl12⟩) (c12 : PySem.W.codeIn K cd12 "_read_op" = true) (k12 : PySem.W.keepIn K (.ref f12) = true)
    (a13 : PySem.W.nsIn K mainGlobals "_read_tree" = some (some (.ref f13))) (l13 : K.lookup f13 = some ⟨oc13, od13, .func (PySem.W.fnOf "_read_tree" "_read_tree" (defArgs sReadTree) (defBody sReadTree) (defScope sReadTree) .none kV13 dc13 pm13 an13 cd13 ct13), sl13⟩) (c13 : PySem.W.codeIn K cd13 "_read_tree" = true) (k13 : PySem.W.keepIn K (.ref f13) = true)
    (a14 : PySem.W.nsIn K mainGlobals "_read_content" = some (some (.ref f14))) (l14 : K.lookup f14 = some ⟨oc14, od14, .func (PySem.W.fnOf "_read_content" "_read_content" (defArgs sReadContent) (defBody sReadContent) (defScope sReadContent) .none kV14 dc14 pm14 an14 cd14 ct14), sl14⟩) (c14 : PySem.W.codeIn K cd14 "_read_content" = true) (k14 : PySem.W.keepIn K (.ref f14) = true)
    (a15 : PySem.W.nsIn K mainGlobals "_read_cell" = some (some (.ref f15))) (l15 : K.lookup f15 = some ⟨oc15, od15, .func (PySem.W.fnOf "_read_cell" "_read_cell" (defArgs sReadCell) (defBody sReadCell) (defScope sReadCell) .none kV15 dc15 pm15 an15 cd15 ct15), sl15⟩) (c15 : PySem.W.codeIn K cd15 "_read_cell" = true) (k15 : PySem.W.keepIn K (.ref f15) = true)
    (a16 : PySem.W.nsIn K mainGlobals "_read_insert" = some (some (.ref f16))) (l16 : K.lookup f16 = some ⟨oc16, od16, .func (PySem.W.fnOf "_read_insert" "_read_insert" (defArgs sReadInsert) (defBody sReadInsert) (defScope sReadInsert) .none kV16 dc16 pm16 an16 cd16 ct16), sl16⟩) (c16 : PySem.W.codeIn K cd16 "_read_insert" = true) (k16 : PySem.W.keepIn K (.ref f16) = true)
    (a17 : PySem.W.nsIn K mainGlobals "_read_delete" = some (some (.ref f17))) (l17 : K.lookup f17 = some ⟨oc17, od17, .func (PySem.W.fnOf "_read_delete" "_read_delete" (defArgs sReadDelete) (defBody sReadDelete) (defScope sReadDelete) .none kV17 dc17 pm17 an17 cd17 ct17), sl17⟩) (c17 : PySem.W.codeIn K cd17 "_read_delete" = true) (k17 : PySem.W.keepIn K (.ref f17) = true)
    (a18 : PySem.W.nsIn K mainGlobals "_read_write" = some (some (.ref f18))) (l18 : K.lookup f18 = some ⟨oc18, od18, .func (PySem.W.fnOf "_read_write" "_read_write" (defArgs sReadWrite) (defBody sReadWrite) (defScope sReadWrite) .none kV18 dc18 pm18 an18 cd18 ct18), sl18⟩) (c18 : PySem.W.codeIn K cd18 "_read_write" = true) (k18 : PySem.W.keepIn K (.ref f18) = true)
    (a19 : PySem.W.nsIn K mainGlobals "_read_name" = some (some (.ref f19))) (l19 : K.lookup f19 = some ⟨oc19, od19, .func (PySem.W.fnOf "_read_name" "_read_name" (defArgs sReadName) (defBody sReadName) (defScope sReadName) .none kV19 dc19 pm19 an19 cd19 ct19), sl19⟩) (c19 : PySem.W.codeIn K cd19 "_read_name" = true) (k19 : PySem.W.keepIn K (.ref f19) = true)
    (a20 : PySem.W.nsIn K mainGlobals "_read_undo" = some (some (.ref f20))) (l20 : K.lookup f20 = some ⟨oc20, od20, .func (PySem.W.fnOf "_read_undo" "_read_undo" (defArgs sReadUndo) (defBody sReadUndo) (defScope sReadUndo) .none kV20 dc20 pm20 an20 cd20 ct20), sl20⟩) (c20 : PySem.W.codeIn K cd20 "_read_undo" = true) (k20 : PySem.W.keepIn K (.ref f20) = true)
    (a21 : PySem.W.nsIn K mainGlobals "_read_head" = some (some (.ref f21))) (l21 : K.lookup f21 = some ⟨oc21, od21, .func (PySem.W.fnOf "_read_head" "_read_head" (defArgs sReadHead) (defBody sReadHead) (defScope sReadHead) .none kV21 dc21 pm21 an21 cd21 ct21), sl21⟩) (c21 : PySem.W.codeIn K cd21 "_read_head" = true) (k21 : PySem.W.keepIn K (.ref f21) = true)
    (a22 : PySem.W.nsIn K mainGlobals "_read_edits" = some (some (.ref f22))) (l22 : K.lookup f22 = some ⟨oc22, od22, .func (PySem.W.fnOf "_read_edits" "_read_edits" (defArgs sReadEdits) (defBody sReadEdits) (defScope sReadEdits) .none kV22 dc22 pm22 an22 cd22 ct22), sl22⟩) (c22 : PySem.W.codeIn K cd22 "_read_edits" = true) (k22 : PySem.W.keepIn K (.ref f22) = true)
    (a23 : PySem.W.nsIn K mainGlobals "read_update" = some (some (.ref f23))) (l23 : K.lookup f23 = some ⟨oc23, od23, .func (PySem.W.fnOf "read_update" "read_update" (defArgs sReadUpdate) (defBody sReadUpdate) (defScope sReadUpdate) .none kV23 dc23 pm23 an23 cd23 ct23), sl23⟩) (c23 : PySem.W.codeIn K cd23 "read_update" = true) (k23 : PySem.W.keepIn K (.ref f23) = true)
    (a24 : PySem.W.nsIn K mainGlobals "_law_cell" = some (some (.ref f24))) (l24 : K.lookup f24 = some ⟨oc24, od24, .func (PySem.W.fnOf "_law_cell" "_law_cell" (defArgs sLawCell) (defBody sLawCell) (defScope sLawCell) .none kV24 dc24 pm24 an24 cd24 ct24), sl24⟩) (c24 : PySem.W.codeIn K cd24 "_law_cell" = true) (k24 : PySem.W.keepIn K (.ref f24) = true)
    (a25 : PySem.W.nsIn K mainGlobals "_law_digits" = some (some (.ref f25))) (l25 : K.lookup f25 = some ⟨oc25, od25, .func (PySem.W.fnOf "_law_digits" "_law_digits" (defArgs sLawDigits) (defBody sLawDigits) (defScope sLawDigits) .none kV25 dc25 pm25 an25 cd25 ct25), sl25⟩) (c25 : PySem.W.codeIn K cd25 "_law_digits" = true) (k25 : PySem.W.keepIn K (.ref f25) = true)
    (a26 : PySem.W.nsIn K mainGlobals "_law_padded" = some (some (.ref f26))) (l26 : K.lookup f26 = some ⟨oc26, od26, .func (PySem.W.fnOf "_law_padded" "_law_padded" (defArgs sLawPadded) (defBody sLawPadded) (defScope sLawPadded) .none kV26 dc26 pm26 an26 cd26 ct26), sl26⟩) (c26 : PySem.W.codeIn K cd26 "_law_padded" = true) (k26 : PySem.W.keepIn K (.ref f26) = true)
    (a27 : PySem.W.nsIn K mainGlobals "_law_number" = some (some (.ref f27))) (l27 : K.lookup f27 = some ⟨oc27, od27, .func (PySem.W.fnOf "_law_number" "_law_number" (defArgs sLawNumber) (defBody sLawNumber) (defScope sLawNumber) .none kV27 dc27 pm27 an27 cd27 ct27), sl27⟩) (c27 : PySem.W.codeIn K cd27 "_law_number" = true) (k27 : PySem.W.keepIn K (.ref f27) = true)
    (a28 : PySem.W.nsIn K mainGlobals "_law_line" = some (some (.ref f28))) (l28 : K.lookup f28 = some ⟨oc28, od28, .func (PySem.W.fnOf "_law_line" "_law_line" (defArgs sLawLine) (defBody sLawLine) (defScope sLawLine) .none kV28 dc28 pm28 an28 cd28 ct28), sl28⟩) (c28 : PySem.W.codeIn K cd28 "_law_line" = true) (k28 : PySem.W.keepIn K (.ref f28) = true)
    (a29 : PySem.W.nsIn K mainGlobals "_law_block" = some (some (.ref f29))) (l29 : K.lookup f29 = some ⟨oc29, od29, .func (PySem.W.fnOf "_law_block" "_law_block" (defArgs sLawBlock) (defBody sLawBlock) (defScope sLawBlock) .none kV29 dc29 pm29 an29 cd29 ct29), sl29⟩) (c29 : PySem.W.codeIn K cd29 "_law_block" = true) (k29 : PySem.W.keepIn K (.ref f29) = true)
    (a30 : PySem.W.nsIn K mainGlobals "_law_area" = some (some (.ref f30))) (l30 : K.lookup f30 = some ⟨oc30, od30, .func (PySem.W.fnOf "_law_area" "_law_area" (defArgs sLawArea) (defBody sLawArea) (defScope sLawArea) .none kV30 dc30 pm30 an30 cd30 ct30), sl30⟩) (c30 : PySem.W.codeIn K cd30 "_law_area" = true) (k30 : PySem.W.keepIn K (.ref f30) = true)
    (a31 : PySem.W.nsIn K mainGlobals "_law_lowest" = some (some (.ref f31))) (l31 : K.lookup f31 = some ⟨oc31, od31, .func (PySem.W.fnOf "_law_lowest" "_law_lowest" (defArgs sLawLowest) (defBody sLawLowest) (defScope sLawLowest) .none kV31 dc31 pm31 an31 cd31 ct31), sl31⟩) (c31 : PySem.W.codeIn K cd31 "_law_lowest" = true) (k31 : PySem.W.keepIn K (.ref f31) = true)
    (a32 : PySem.W.nsIn K mainGlobals "_law_leaf" = some (some (.ref f32))) (l32 : K.lookup f32 = some ⟨oc32, od32, .func (PySem.W.fnOf "_law_leaf" "_law_leaf" (defArgs sLawLeaf) (defBody sLawLeaf) (defScope sLawLeaf) .none kV32 dc32 pm32 an32 cd32 ct32), sl32⟩) (c32 : PySem.W.codeIn K cd32 "_law_leaf" = true) (k32 : PySem.W.keepIn K (.ref f32) = true)
    (a33 : PySem.W.nsIn K mainGlobals "_law_tree" = some (some (.ref f33))) (l33 : K.lookup f33 = some ⟨oc33, od33, .func (PySem.W.fnOf "_law_tree" "_law_tree" (defArgs sLawTree) (defBody sLawTree) (defScope sLawTree) .none kV33 dc33 pm33 an33 cd33 ct33), sl33⟩) (c33 : PySem.W.codeIn K cd33 "_law_tree" = true) (k33 : PySem.W.keepIn K (.ref f33) = true)
    (a34 : PySem.W.nsIn K mainGlobals "_law_content" = some (some (.ref f34))) (l34 : K.lookup f34 = some ⟨oc34, od34, .func (PySem.W.fnOf "_law_content" "_law_content" (defArgs sLawContent) (defBody sLawContent) (defScope sLawContent) .none kV34 dc34 pm34 an34 cd34 ct34), sl34⟩) (c34 : PySem.W.codeIn K cd34 "_law_content" = true) (k34 : PySem.W.keepIn K (.ref f34) = true)
    (a35 : PySem.W.nsIn K mainGlobals "_law_side" = some (some (.ref f35))) (l35 : K.lookup f35 = some ⟨oc35, od35, .func (PySem.W.fnOf "_law_side" "_law_side" (defArgs sLawSide) (defBody sLawSide) (defScope sLawSide) .none kV35 dc35 pm35 an35 cd35 ct35), sl35⟩) (c35 : PySem.W.codeIn K cd35 "_law_side" = true) (k35 : PySem.W.keepIn K (.ref f35) = true)
    (a36 : PySem.W.nsIn K mainGlobals "_law_action" = some (some (.ref f36))) (l36 : K.lookup f36 = some ⟨oc36, od36, .func (PySem.W.fnOf "_law_action" "_law_action" (defArgs sLawAction) (defBody sLawAction) (defScope sLawAction) .none kV36 dc36 pm36 an36 cd36 ct36), sl36⟩) (c36 : PySem.W.codeIn K cd36 "_law_action" = true) (k36 : PySem.W.keepIn K (.ref f36) = true)
    (a37 : PySem.W.nsIn K mainGlobals "_law_edits" = some (some (.ref f37))) (l37 : K.lookup f37 = some ⟨oc37, od37, .func (PySem.W.fnOf "_law_edits" "_law_edits" (defArgs sLawEdits) (defBody sLawEdits) (defScope sLawEdits) .none kV37 dc37 pm37 an37 cd37 ct37), sl37⟩) (c37 : PySem.W.codeIn K cd37 "_law_edits" = true) (k37 : PySem.W.keepIn K (.ref f37) = true)
    (a38 : PySem.W.nsIn K mainGlobals "_law_begin" = some (some (.ref f38))) (l38 : K.lookup f38 = some ⟨oc38, od38, .func (PySem.W.fnOf "_law_begin" "_law_begin" (defArgs sLawBegin) (defBody sLawBegin) (defScope sLawBegin) .none kV38 dc38 pm38 an38 cd38 ct38), sl38⟩) (c38 : PySem.W.codeIn K cd38 "_law_begin" = true) (k38 : PySem.W.keepIn K (.ref f38) = true)
    (a39 : PySem.W.nsIn K mainGlobals "_law_key" = some (some (.ref f39))) (l39 : K.lookup f39 = some ⟨oc39, od39, .func (PySem.W.fnOf "_law_key" "_law_key" (defArgs sLawKey) (defBody sLawKey) (defScope sLawKey) .none kV39 dc39 pm39 an39 cd39 ct39), sl39⟩) (c39 : PySem.W.codeIn K cd39 "_law_key" = true) (k39 : PySem.W.keepIn K (.ref f39) = true)
    (a40 : PySem.W.nsIn K mainGlobals "_law_sorted" = some (some (.ref f40))) (l40 : K.lookup f40 = some ⟨oc40, od40, .func (PySem.W.fnOf "_law_sorted" "_law_sorted" (defArgs sLawSorted) (defBody sLawSorted) (defScope sLawSorted) .none kV40 dc40 pm40 an40 cd40 ct40), sl40⟩) (c40 : PySem.W.codeIn K cd40 "_law_sorted" = true) (k40 : PySem.W.keepIn K (.ref f40) = true)
    (a41 : PySem.W.nsIn K mainGlobals "_law_numbers" = some (some (.ref f41))) (l41 : K.lookup f41 = some ⟨oc41, od41, .func (PySem.W.fnOf "_law_numbers" "_law_numbers" (defArgs sLawNumbers) (defBody sLawNumbers) (defScope sLawNumbers) .none kV41 dc41 pm41 an41 cd41 ct41), sl41⟩) (c41 : PySem.W.codeIn K cd41 "_law_numbers" = true) (k41 : PySem.W.keepIn K (.ref f41) = true)
    (a42 : PySem.W.nsIn K mainGlobals "_law_lines" = some (some (.ref f42))) (l42 : K.lookup f42 = some ⟨oc42, od42, .func (PySem.W.fnOf "_law_lines" "_law_lines" (defArgs sLawLines) (defBody sLawLines) (defScope sLawLines) .none kV42 dc42 pm42 an42 cd42 ct42), sl42⟩) (c42 : PySem.W.codeIn K cd42 "_law_lines" = true) (k42 : PySem.W.keepIn K (.ref f42) = true)
    (a43 : PySem.W.nsIn K mainGlobals "_law_string" = some (some (.ref f43))) (l43 : K.lookup f43 = some ⟨oc43, od43, .func (PySem.W.fnOf "_law_string" "_law_string" (defArgs sLawString) (defBody sLawString) (defScope sLawString) .none kV43 dc43 pm43 an43 cd43 ct43), sl43⟩) (c43 : PySem.W.codeIn K cd43 "_law_string" = true) (k43 : PySem.W.keepIn K (.ref f43) = true)
    (a44 : PySem.W.nsIn K mainGlobals "_law_fraction" = some (some (.ref f44))) (l44 : K.lookup f44 = some ⟨oc44, od44, .func (PySem.W.fnOf "_law_fraction" "_law_fraction" (defArgs sLawFraction) (defBody sLawFraction) (defScope sLawFraction) .none kV44 dc44 pm44 an44 cd44 ct44), sl44⟩) (c44 : PySem.W.codeIn K cd44 "_law_fraction" = true) (k44 : PySem.W.keepIn K (.ref f44) = true)
    (a45 : PySem.W.nsIn K mainGlobals "_law_area_numbers" = some (some (.ref f45))) (l45 : K.lookup f45 = some ⟨oc45, od45, .func (PySem.W.fnOf "_law_area_numbers" "_law_area_numbers" (defArgs sLawAreaNumbers) (defBody sLawAreaNumbers) (defScope sLawAreaNumbers) .none kV45 dc45 pm45 an45 cd45 ct45), sl45⟩) (c45 : PySem.W.codeIn K cd45 "_law_area_numbers" = true) (k45 : PySem.W.keepIn K (.ref f45) = true)
    (a46 : PySem.W.nsIn K mainGlobals "_law_tree_numbers" = some (some (.ref f46))) (l46 : K.lookup f46 = some ⟨oc46, od46, .func (PySem.W.fnOf "_law_tree_numbers" "_law_tree_numbers" (defArgs sLawTreeNumbers) (defBody sLawTreeNumbers) (defScope sLawTreeNumbers) .none kV46 dc46 pm46 an46 cd46 ct46), sl46⟩) (c46 : PySem.W.codeIn K cd46 "_law_tree_numbers" = true) (k46 : PySem.W.keepIn K (.ref f46) = true)
    (a47 : PySem.W.nsIn K mainGlobals "_law_content_numbers" = some (some (.ref f47))) (l47 : K.lookup f47 = some ⟨oc47, od47, .func (PySem.W.fnOf "_law_content_numbers" "_law_content_numbers" (defArgs sLawContentNumbers) (defBody sLawContentNumbers) (defScope sLawContentNumbers) .none kV47 dc47 pm47 an47 cd47 ct47), sl47⟩) (c47 : PySem.W.codeIn K cd47 "_law_content_numbers" = true) (k47 : PySem.W.keepIn K (.ref f47) = true)
    (a48 : PySem.W.nsIn K mainGlobals "_law_side_numbers" = some (some (.ref f48))) (l48 : K.lookup f48 = some ⟨oc48, od48, .func (PySem.W.fnOf "_law_side_numbers" "_law_side_numbers" (defArgs sLawSideNumbers) (defBody sLawSideNumbers) (defScope sLawSideNumbers) .none kV48 dc48 pm48 an48 cd48 ct48), sl48⟩) (c48 : PySem.W.codeIn K cd48 "_law_side_numbers" = true) (k48 : PySem.W.keepIn K (.ref f48) = true)
    (a49 : PySem.W.nsIn K mainGlobals "_law_action_numbers" = some (some (.ref f49))) (l49 : K.lookup f49 = some ⟨oc49, od49, .func (PySem.W.fnOf "_law_action_numbers" "_law_action_numbers" (defArgs sLawActionNumbers) (defBody sLawActionNumbers) (defScope sLawActionNumbers) .none kV49 dc49 pm49 an49 cd49 ct49), sl49⟩) (c49 : PySem.W.codeIn K cd49 "_law_action_numbers" = true) (k49 : PySem.W.keepIn K (.ref f49) = true)
    (a50 : PySem.W.nsIn K mainGlobals "_law_edit_numbers" = some (some (.ref f50))) (l50 : K.lookup f50 = some ⟨oc50, od50, .func (PySem.W.fnOf "_law_edit_numbers" "_law_edit_numbers" (defArgs sLawEditNumbers) (defBody sLawEditNumbers) (defScope sLawEditNumbers) .none kV50 dc50 pm50 an50 cd50 ct50), sl50⟩) (c50 : PySem.W.codeIn K cd50 "_law_edit_numbers" = true) (k50 : PySem.W.keepIn K (.ref f50) = true)
    (a51 : PySem.W.nsIn K mainGlobals "_law_update_numbers" = some (some (.ref f51))) (l51 : K.lookup f51 = some ⟨oc51, od51, .func (PySem.W.fnOf "_law_update_numbers" "_law_update_numbers" (defArgs sLawUpdateNumbers) (defBody sLawUpdateNumbers) (defScope sLawUpdateNumbers) .none kV51 dc51 pm51 an51 cd51 ct51), sl51⟩) (c51 : PySem.W.codeIn K cd51 "_law_update_numbers" = true) (k51 : PySem.W.keepIn K (.ref f51) = true)
    (a52 : PySem.W.nsIn K mainGlobals "_law_place" = some (some (.ref f52))) (l52 : K.lookup f52 = some ⟨oc52, od52, .func (PySem.W.fnOf "_law_place" "_law_place" (defArgs sLawPlace) (defBody sLawPlace) (defScope sLawPlace) .none kV52 dc52 pm52 an52 cd52 ct52), sl52⟩) (c52 : PySem.W.codeIn K cd52 "_law_place" = true) (k52 : PySem.W.keepIn K (.ref f52) = true)
    (a53 : PySem.W.nsIn K mainGlobals "_law_starts" = some (some (.ref f53))) (l53 : K.lookup f53 = some ⟨oc53, od53, .func (PySem.W.fnOf "_law_starts" "_law_starts" (defArgs sLawStarts) (defBody sLawStarts) (defScope sLawStarts) .none kV53 dc53 pm53 an53 cd53 ct53), sl53⟩) (c53 : PySem.W.codeIn K cd53 "_law_starts" = true) (k53 : PySem.W.keepIn K (.ref f53) = true)
    (a54 : PySem.W.nsIn K mainGlobals "_law_cut" = some (some (.ref f54))) (l54 : K.lookup f54 = some ⟨oc54, od54, .func (PySem.W.fnOf "_law_cut" "_law_cut" (defArgs sLawCut) (defBody sLawCut) (defScope sLawCut) .none kV54 dc54 pm54 an54 cd54 ct54), sl54⟩) (c54 : PySem.W.codeIn K cd54 "_law_cut" = true) (k54 : PySem.W.keepIn K (.ref f54) = true)
    (a55 : PySem.W.nsIn K mainGlobals "_law_longer" = some (some (.ref f55))) (l55 : K.lookup f55 = some ⟨oc55, od55, .func (PySem.W.fnOf "_law_longer" "_law_longer" (defArgs sLawLonger) (defBody sLawLonger) (defScope sLawLonger) .none kV55 dc55 pm55 an55 cd55 ct55), sl55⟩) (c55 : PySem.W.codeIn K cd55 "_law_longer" = true) (k55 : PySem.W.keepIn K (.ref f55) = true)
    (a56 : PySem.W.nsIn K mainGlobals "_law_order" = some (some (.ref f56))) (l56 : K.lookup f56 = some ⟨oc56, od56, .func (PySem.W.fnOf "_law_order" "_law_order" (defArgs sLawOrder) (defBody sLawOrder) (defScope sLawOrder) .none kV56 dc56 pm56 an56 cd56 ct56), sl56⟩) (c56 : PySem.W.codeIn K cd56 "_law_order" = true) (k56 : PySem.W.keepIn K (.ref f56) = true)
    (a57 : PySem.W.nsIn K mainGlobals "_law_double" = some (some (.ref f57))) (l57 : K.lookup f57 = some ⟨oc57, od57, .func (PySem.W.fnOf "_law_double" "_law_double" (defArgs sLawDouble) (defBody sLawDouble) (defScope sLawDouble) .none kV57 dc57 pm57 an57 cd57 ct57), sl57⟩) (c57 : PySem.W.codeIn K cd57 "_law_double" = true) (k57 : PySem.W.keepIn K (.ref f57) = true)
    (a58 : PySem.W.nsIn K mainGlobals "law" = some (some (.ref f58))) (l58 : K.lookup f58 = some ⟨oc58, od58, .func (PySem.W.fnOf "law" "law" (defArgs sLaw) (defBody sLaw) (defScope sLaw) .none kV58 dc58 pm58 an58 cd58 ct58), sl58⟩) (c58 : PySem.W.codeIn K cd58 "law" = true) (k58 : PySem.W.keepIn K (.ref f58) = true)
    (z_tuple : PySem.W.nsIn K mainGlobals "tuple" = some none)
    (z_range : PySem.W.nsIn K mainGlobals "range" = some none)
    (z_sorted : PySem.W.nsIn K mainGlobals "sorted" = some none)
    (z_len : PySem.W.nsIn K mainGlobals "len" = some none)
    (z_sum : PySem.W.nsIn K mainGlobals "sum" = some none)
    (z_reversed : PySem.W.nsIn K mainGlobals "reversed" = some none)
    (z_int : PySem.W.nsIn K mainGlobals "int" = some none)
    (z_ord : PySem.W.nsIn K mainGlobals "ord" = some none)
    (z_list : PySem.W.nsIn K mainGlobals "list" = some none)
    (z_isinstance : PySem.W.nsIn K mainGlobals "isinstance" = some none)
    (x_MOST : PySem.W.nsIn K mainGlobals "MOST" = some (some (.int 100000 t_MOST)))
    (x_MOST_OF_FRACTION : PySem.W.nsIn K mainGlobals "MOST_OF_FRACTION" = some (some (.int 100000000000000000000 t_MOST_OF_FRACTION)))
    (x_MOST_ROWS : PySem.W.nsIn K mainGlobals "MOST_ROWS" = some (some (.int 8 t_MOST_ROWS)))
    (x_MOST_COLUMNS : PySem.W.nsIn K mainGlobals "MOST_COLUMNS" = some (some (.int 6 t_MOST_COLUMNS)))
    (x_LONGEST_TEXT : PySem.W.nsIn K mainGlobals "LONGEST_TEXT" = some (some (.int 60 t_LONGEST_TEXT)))
    (x_MOST_BLOCKS : PySem.W.nsIn K mainGlobals "MOST_BLOCKS" = some (some (.int 4 t_MOST_BLOCKS)))
    (x_LARGEST_TREE : PySem.W.nsIn K mainGlobals "LARGEST_TREE" = some (some (.int 60 t_LARGEST_TREE)))
    (x_SHORTEST_NAME : PySem.W.nsIn K mainGlobals "SHORTEST_NAME" = some (some (.int 2 t_SHORTEST_NAME)))
    (x_LONGEST_WORD : PySem.W.nsIn K mainGlobals "LONGEST_WORD" = some (some (.int 8 t_LONGEST_WORD)))
    (x_SMALL : PySem.W.nsIn K mainGlobals "SMALL" = some (some (.str "abcdefghijklmnopqrstuvwxyz" t_SMALL)))
    (x_CHARACTERS : PySem.W.nsIn K mainGlobals "CHARACTERS" = some (some (.str " !\"#$&'()*+,-./0123456789:;<=>?@ABCDEFGHIJKLMNOPQRSTUVWXYZ[\\]^_`abcdefghijklmnopqrstuvwxyz{|}~" t_CHARACTERS)))
    {ap_CALLS : Addr} {n_CALLS : Nat} {sl_CALLS : Array (Option Value)} {t_CALLS_0 t_CALLS_1 t_CALLS_2 t_CALLS_3 : Nat} (x_CALLS : PySem.W.nsIn K mainGlobals "CALLS" = some (some (.ref ap_CALLS))) (y_CALLS : K.lookup ap_CALLS = some ⟨.type "tuple", none, .seq ⟨[.str "sum" t_CALLS_0, .str "count" t_CALLS_1, .str "min" t_CALLS_2, .str "max" t_CALLS_3]⟩ n_CALLS, sl_CALLS⟩)
    {ap_OPERATORS : Addr} {n_OPERATORS : Nat} {sl_OPERATORS : Array (Option Value)} {t_OPERATORS_0 t_OPERATORS_1 t_OPERATORS_2 t_OPERATORS_3 : Nat} (x_OPERATORS : PySem.W.nsIn K mainGlobals "OPERATORS" = some (some (.ref ap_OPERATORS))) (y_OPERATORS : K.lookup ap_OPERATORS = some ⟨.type "tuple", none, .seq ⟨[.str "+" t_OPERATORS_0, .str "-" t_OPERATORS_1, .str "*" t_OPERATORS_2, .str "/" t_OPERATORS_3]⟩ n_OPERATORS, sl_OPERATORS⟩)
    {ap_AXES : Addr} {n_AXES : Nat} {sl_AXES : Array (Option Value)} {t_AXES_0 t_AXES_1 : Nat} (x_AXES : PySem.W.nsIn K mainGlobals "AXES" = some (some (.ref ap_AXES))) (y_AXES : K.lookup ap_AXES = some ⟨.type "tuple", none, .seq ⟨[.str "row" t_AXES_0, .str "column" t_AXES_1]⟩ n_AXES, sl_AXES⟩)
    {ap_READERS : Addr} {n_READERS : Nat} {sl_READERS : Array (Option Value)} (x_READERS : PySem.W.nsIn K mainGlobals "READERS" = some (some (.ref ap_READERS))) (y_READERS : K.lookup ap_READERS = some ⟨.type "tuple", none, .seq ⟨[.ref f16, .ref f17, .ref f18, .ref f19, .ref f20]⟩ n_READERS, sl_READERS⟩)
    {cReader : Addr} (kaReader : PySem.W.nsIn K mainGlobals "Reader" = some (some (.ref cReader))) (kbReader : PySem.W.plainGet K cReader Str.empty = true) (kcReader : PySem.W.hasDictIn K cReader = true) (kdReader : PySem.W.plainOver K cReader = true) (keReader : PySem.W.findIn K (.ref cReader) "__setattr__" = some (some (.builtin "object.__setattr__"))) (kfReader : PySem.W.makesIn K cReader = true) (kgReader : PySem.W.keepIn K (.ref cReader) = true)
    {fReader_Init : Addr} {oc_Reader_Init kV_Reader_Init dc_Reader_Init pm_Reader_Init cd_Reader_Init ct_Reader_Init : Value} {od_Reader_Init an_Reader_Init : Option Addr} {sl_Reader_Init : Array (Option Value)}
    (miReader_Init : PySem.W.findIn K (.ref cReader) "__init__" = some (some (.ref fReader_Init))) (mfReader_Init : PySem.W.isFn K (.ref fReader_Init) = true) (mkReader_Init : PySem.W.keepIn K (.ref fReader_Init) = true)
    (mlReader_Init : K.lookup fReader_Init = some ⟨oc_Reader_Init, od_Reader_Init, .func (PySem.W.fnOf "__init__" "Reader.__init__" (defArgs sReader_Init) (defBody sReader_Init) (defScope sReader_Init) .none kV_Reader_Init dc_Reader_Init pm_Reader_Init an_Reader_Init cd_Reader_Init ct_Reader_Init), sl_Reader_Init⟩) (mdReader_Init : PySem.W.codeIn K cd_Reader_Init "Reader.__init__" = true)
    {fReader_Integer : Addr} {oc_Reader_Integer kV_Reader_Integer dc_Reader_Integer pm_Reader_Integer cd_Reader_Integer ct_Reader_Integer : Value} {od_Reader_Integer an_Reader_Integer : Option Addr} {sl_Reader_Integer : Array (Option Value)}
    (miReader_Integer : PySem.W.findIn K (.ref cReader) "integer" = some (some (.ref fReader_Integer))) (mfReader_Integer : PySem.W.isFn K (.ref fReader_Integer) = true) (mkReader_Integer : PySem.W.keepIn K (.ref fReader_Integer) = true)
    (mlReader_Integer : K.lookup fReader_Integer = some ⟨oc_Reader_Integer, od_Reader_Integer, .func (PySem.W.fnOf "integer" "Reader.integer" (defArgs sReader_Integer) (defBody sReader_Integer) (defScope sReader_Integer) .none kV_Reader_Integer dc_Reader_Integer pm_Reader_Integer an_Reader_Integer cd_Reader_Integer ct_Reader_Integer), sl_Reader_Integer⟩) (mdReader_Integer : PySem.W.codeIn K cd_Reader_Integer "Reader.integer" = true)
    {fReader_Number : Addr} {oc_Reader_Number kV_Reader_Number dc_Reader_Number pm_Reader_Number cd_Reader_Number ct_Reader_Number : Value} {od_Reader_Number an_Reader_Number : Option Addr} {sl_Reader_Number : Array (Option Value)}
    (miReader_Number : PySem.W.findIn K (.ref cReader) "number" = some (some (.ref fReader_Number))) (mfReader_Number : PySem.W.isFn K (.ref fReader_Number) = true) (mkReader_Number : PySem.W.keepIn K (.ref fReader_Number) = true)
    (mlReader_Number : K.lookup fReader_Number = some ⟨oc_Reader_Number, od_Reader_Number, .func (PySem.W.fnOf "number" "Reader.number" (defArgs sReader_Number) (defBody sReader_Number) (defScope sReader_Number) .none kV_Reader_Number dc_Reader_Number pm_Reader_Number an_Reader_Number cd_Reader_Number ct_Reader_Number), sl_Reader_Number⟩) (mdReader_Number : PySem.W.codeIn K cd_Reader_Number "Reader.number" = true)
    {fReader_Choice : Addr} {oc_Reader_Choice kV_Reader_Choice dc_Reader_Choice pm_Reader_Choice cd_Reader_Choice ct_Reader_Choice : Value} {od_Reader_Choice an_Reader_Choice : Option Addr} {sl_Reader_Choice : Array (Option Value)}
    (miReader_Choice : PySem.W.findIn K (.ref cReader) "choice" = some (some (.ref fReader_Choice))) (mfReader_Choice : PySem.W.isFn K (.ref fReader_Choice) = true) (mkReader_Choice : PySem.W.keepIn K (.ref fReader_Choice) = true)
    (mlReader_Choice : K.lookup fReader_Choice = some ⟨oc_Reader_Choice, od_Reader_Choice, .func (PySem.W.fnOf "choice" "Reader.choice" (defArgs sReader_Choice) (defBody sReader_Choice) (defScope sReader_Choice) .none kV_Reader_Choice dc_Reader_Choice pm_Reader_Choice an_Reader_Choice cd_Reader_Choice ct_Reader_Choice), sl_Reader_Choice⟩) (mdReader_Choice : PySem.W.codeIn K cd_Reader_Choice "Reader.choice" = true)
    {fReader_Part : Addr} {oc_Reader_Part kV_Reader_Part dc_Reader_Part pm_Reader_Part cd_Reader_Part ct_Reader_Part : Value} {od_Reader_Part an_Reader_Part : Option Addr} {sl_Reader_Part : Array (Option Value)}
    (miReader_Part : PySem.W.findIn K (.ref cReader) "part" = some (some (.ref fReader_Part))) (mfReader_Part : PySem.W.isFn K (.ref fReader_Part) = true) (mkReader_Part : PySem.W.keepIn K (.ref fReader_Part) = true)
    (mlReader_Part : K.lookup fReader_Part = some ⟨oc_Reader_Part, od_Reader_Part, .func (PySem.W.fnOf "part" "Reader.part" (defArgs sReader_Part) (defBody sReader_Part) (defScope sReader_Part) .none kV_Reader_Part dc_Reader_Part pm_Reader_Part an_Reader_Part cd_Reader_Part ct_Reader_Part), sl_Reader_Part⟩) (mdReader_Part : PySem.W.codeIn K cd_Reader_Part "Reader.part" = true)
    (knReader_source : PySem.W.findIn K (.ref cReader) "source" = some none)
    (knReader_at : PySem.W.findIn K (.ref cReader) "at" = some none)
    (knReader_room : PySem.W.findIn K (.ref cReader) "room" = some none)
    {cTableError : Addr} (yaTableError : PySem.W.nsIn K mainGlobals "TableError" = some (some (.ref cTableError))) (ytTableError : PySem.W.typeIn K (.ref cTableError) = some (.type "type")) (yhTableError : PySem.W.hasDictIn K cTableError = true) (yeTableError : PySem.W.subIn K (.ref cTableError) (.type "BaseException") = some true)
    {cInvalidBytes : Addr} (yaInvalidBytes : PySem.W.nsIn K mainGlobals "InvalidBytes" = some (some (.ref cInvalidBytes))) (ytInvalidBytes : PySem.W.typeIn K (.ref cInvalidBytes) = some (.type "type")) (yhInvalidBytes : PySem.W.hasDictIn K cInvalidBytes = true) (yeInvalidBytes : PySem.W.subIn K (.ref cInvalidBytes) (.type "BaseException") = some true)
    {nm_InvalidBytes qn_InvalidBytes : Str} {N_InvalidBytes : Addr} {bs_InvalidBytes : List Value} {sn_InvalidBytes : List Str} {sb_InvalidBytes : List Value} {ab_InvalidBytes : Bool} {co_InvalidBytes : Option Bool} {dd_InvalidBytes : Option Addr} {m0_InvalidBytes m1_InvalidBytes m2_InvalidBytes m3_InvalidBytes m5_InvalidBytes : Option Value}
    (ycInvalidBytes : K.lookup cInvalidBytes = some (excClassObj nm_InvalidBytes qn_InvalidBytes cInvalidBytes N_InvalidBytes bs_InvalidBytes [.ref cTableError, .type "ValueError", .type "Exception", .type "BaseException", .type "object"] true sn_InvalidBytes sb_InvalidBytes ab_InvalidBytes co_InvalidBytes dd_InvalidBytes m0_InvalidBytes m1_InvalidBytes m2_InvalidBytes m3_InvalidBytes m5_InvalidBytes "ValueError.__new__"))
    (y1InvalidBytes : PySem.W.findIn K (.ref cInvalidBytes) "__setattr__" = some (some (.builtin "object.__setattr__"))) (y2InvalidBytes : PySem.W.findIn K (.ref cInvalidBytes) "__getattribute__" = some (some (.builtin "BaseException.__getattribute__"))) (y3InvalidBytes : PySem.W.findIn K (.ref cInvalidBytes) "__getattr__" = some none)
    (y4InvalidBytes : PySem.W.findIn K (.ref cInvalidBytes) "__class__" = some (some (.builtin "object.__class__"))) (y5InvalidBytes : PySem.W.specialIn K (.builtin "object.__class__") "__get__" = some (some (.builtin "getset_descriptor.__get__"))) (y6InvalidBytes : PySem.W.takesIn K (.builtin "object.__class__") = some true) (y7InvalidBytes : PySem.W.mroIn K cInvalidBytes (.type "object") = some true) (y8InvalidBytes : PySem.W.isClsIn K cInvalidBytes = true) (y9InvalidBytes : PySem.W.keepIn K (.ref cInvalidBytes) = true)
    {fInvalidBytes_Init : Addr} (yiInvalidBytes : PySem.W.findIn K (.ref cInvalidBytes) "__init__" = some (some (.ref fInvalidBytes_Init))) (yjInvalidBytes : PySem.W.typeIn K (.ref fInvalidBytes_Init) = some (.type "function"))
    {oc_InvalidBytes kV_InvalidBytes dc_InvalidBytes pm_InvalidBytes cd_InvalidBytes ct_InvalidBytes : Value} {od_InvalidBytes an_InvalidBytes : Option Addr} {sl_InvalidBytes : Array (Option Value)}
    (ylInvalidBytes : K.lookup fInvalidBytes_Init = some ⟨oc_InvalidBytes, od_InvalidBytes, .func (PySem.W.fnOf "__init__" "InvalidBytes.__init__" (defArgs sInvalidBytes_Init) (defBody sInvalidBytes_Init) (defScope sInvalidBytes_Init) .none kV_InvalidBytes dc_InvalidBytes pm_InvalidBytes an_InvalidBytes cd_InvalidBytes ct_InvalidBytes), sl_InvalidBytes⟩) (ydInvalidBytes : PySem.W.codeIn K cd_InvalidBytes "InvalidBytes.__init__" = true) (ykInvalidBytes : PySem.W.keepIn K (.ref fInvalidBytes_Init) = true)
    (ynInvalidBytes_at : PySem.W.findIn K (.ref cInvalidBytes) "at" = some none)
    (ysInvalidBytes_TableError : PySem.W.subIn K (.ref cInvalidBytes) (.ref cTableError) = some true)
    (ysInvalidBytes_InvalidBytes : PySem.W.subIn K (.ref cInvalidBytes) (.ref cInvalidBytes) = some true)
    : ∃ fd : FuncData, (∀ (s : Shared) (v : Value), BindsTo s fd ⟨[v], []⟩ [("_law_script", v)]) ∧ ∀ base : Heap, K.In base → base.Ns mainGlobals mg → FnOk l.prog w K mg base CX0 138 fa fd ["_law_script"] (spLaw K) := by
  have e := hfa.symm.trans (PySem.W.mg_of X G a58)
  cases e
  have F1 := fun_mk (st := sStamp) l1 c1 k1
  have b1 := F1.binds (ps := ["edit"]) fun _ _ _ _ _ _ us hl => match us, hl with | [_], _ => rfl
  have F2 := fun_mk (st := sPlace) l2 c2 k2
  have b2 := F2.binds (ps := ["edit"]) fun _ _ _ _ _ _ us hl => match us, hl with | [_], _ => rfl
  have F3 := fun_mk (st := sReadString) l3 c3 k3
  have b3 := F3.binds (ps := ["reader", "least", "most", "characters"]) fun _ _ _ _ _ _ us hl => match us, hl with | [_, _, _, _], _ => rfl
  have F4 := fun_mk (st := sReadCharacter) l4 c4 k4
  have b4 := F4.binds (ps := ["reader", "characters"]) fun _ _ _ _ _ _ us hl => match us, hl with | [_, _], _ => rfl
  have F5 := fun_mk (st := sReadWord) l5 c5 k5
  have b5 := F5.binds (ps := ["reader"]) fun _ _ _ _ _ _ us hl => match us, hl with | [_], _ => rfl
  have F6 := fun_mk (st := sReadFraction) l6 c6 k6
  have b6 := F6.binds (ps := ["reader"]) fun _ _ _ _ _ _ us hl => match us, hl with | [_], _ => rfl
  have F7 := fun_mk (st := sReadLine) l7 c7 k7
  have b7 := F7.binds (ps := ["reader"]) fun _ _ _ _ _ _ us hl => match us, hl with | [_], _ => rfl
  have F8 := fun_mk (st := sReadLines) l8 c8 k8
  have b8 := F8.binds (ps := ["reader", "many"]) fun _ _ _ _ _ _ us hl => match us, hl with | [_, _], _ => rfl
  have F9 := fun_mk (st := sReadNeighbour) l9 c9 k9
  have b9 := F9.binds (ps := ["reader"]) fun _ _ _ _ _ _ us hl => match us, hl with | [_], _ => rfl
  have F10 := fun_mk (st := sReadArea) l10 c10 k10
  have b10 := F10.binds (ps := ["reader"]) fun _ _ _ _ _ _ us hl => match us, hl with | [_], _ => rfl
  have F11 := fun_mk (st := sReadCall) l11 c11 k11
  have b11 := F11.binds (ps := ["reader"]) fun _ _ _ _ _ _ us hl => match us, hl with | [_], _ => rfl
  have F12 := fun_mk (st := sReadOp) l12 c12 k12
  have b12 := F12.binds (ps := ["reader"]) fun _ _ _ _ _ _ us hl => match us, hl with | [_], _ => rfl
  have F13 := fun_mk (st := sReadTree) l13 c13 k13
  have b13 := F13.binds (ps := ["reader"]) fun _ _ _ _ _ _ us hl => match us, hl with | [_], _ => rfl
  have F14 := fun_mk (st := sReadContent) l14 c14 k14
  have b14 := F14.binds (ps := ["reader"]) fun _ _ _ _ _ _ us hl => match us, hl with | [_], _ => rfl
  have F15 := fun_mk (st := sReadCell) l15 c15 k15
  have b15 := F15.binds (ps := ["reader"]) fun _ _ _ _ _ _ us hl => match us, hl with | [_], _ => rfl
  have F16 := fun_mk (st := sReadInsert) l16 c16 k16
  have b16 := F16.binds (ps := ["reader"]) fun _ _ _ _ _ _ us hl => match us, hl with | [_], _ => rfl
  have F17 := fun_mk (st := sReadDelete) l17 c17 k17
  have b17 := F17.binds (ps := ["reader"]) fun _ _ _ _ _ _ us hl => match us, hl with | [_], _ => rfl
  have F18 := fun_mk (st := sReadWrite) l18 c18 k18
  have b18 := F18.binds (ps := ["reader"]) fun _ _ _ _ _ _ us hl => match us, hl with | [_], _ => rfl
  have F19 := fun_mk (st := sReadName) l19 c19 k19
  have b19 := F19.binds (ps := ["reader"]) fun _ _ _ _ _ _ us hl => match us, hl with | [_], _ => rfl
  have F20 := fun_mk (st := sReadUndo) l20 c20 k20
  have b20 := F20.binds (ps := ["reader"]) fun _ _ _ _ _ _ us hl => match us, hl with | [_], _ => rfl
  have F21 := fun_mk (st := sReadHead) l21 c21 k21
  have b21 := F21.binds (ps := ["reader"]) fun _ _ _ _ _ _ us hl => match us, hl with | [_], _ => rfl
  have F22 := fun_mk (st := sReadEdits) l22 c22 k22
  have b22 := F22.binds (ps := ["reader", "many"]) fun _ _ _ _ _ _ us hl => match us, hl with | [_, _], _ => rfl
  have F23 := fun_mk (st := sReadUpdate) l23 c23 k23
  have b23 := F23.binds (ps := ["data"]) fun _ _ _ _ _ _ us hl => match us, hl with | [_], _ => rfl
  have F24 := fun_mk (st := sLawCell) l24 c24 k24
  have b24 := F24.binds (ps := ["_law_script", "_law_k"]) fun _ _ _ _ _ _ us hl => match us, hl with | [_, _], _ => rfl
  have F25 := fun_mk (st := sLawDigits) l25 c25 k25
  have b25 := F25.binds (ps := ["_law_cell_here", "_law_k", "_law_most"]) fun _ _ _ _ _ _ us hl => match us, hl with | [_, _, _], _ => rfl
  have F26 := fun_mk (st := sLawPadded) l26 c26 k26
  have b26 := F26.binds (ps := ["_law_cell_here", "_law_k"]) fun _ _ _ _ _ _ us hl => match us, hl with | [_, _], _ => rfl
  have F27 := fun_mk (st := sLawNumber) l27 c27 k27
  have b27 := F27.binds (ps := ["_law_n"]) fun _ _ _ _ _ _ us hl => match us, hl with | [_], _ => rfl
  have F28 := fun_mk (st := sLawLine) l28 c28 k28
  have b28 := F28.binds (ps := ["_law_digit"]) fun _ _ _ _ _ _ us hl => match us, hl with | [_], _ => rfl
  have F29 := fun_mk (st := sLawBlock) l29 c29 k29
  have b29 := F29.binds (ps := ["_law_d"]) fun _ _ _ _ _ _ us hl => match us, hl with | [_], _ => rfl
  have F30 := fun_mk (st := sLawArea) l30 c30 k30
  have b30 := F30.binds (ps := ["_law_d"]) fun _ _ _ _ _ _ us hl => match us, hl with | [_], _ => rfl
  have F31 := fun_mk (st := sLawLowest) l31 c31 k31
  have b31 := F31.binds (ps := ["_law_n", "_law_digit"]) fun _ _ _ _ _ _ us hl => match us, hl with | [_, _], _ => rfl
  have F32 := fun_mk (st := sLawLeaf) l32 c32 k32
  have b32 := F32.binds (ps := ["_law_d"]) fun _ _ _ _ _ _ us hl => match us, hl with | [_], _ => rfl
  have F33 := fun_mk (st := sLawTree) l33 c33 k33
  have b33 := F33.binds (ps := ["_law_d"]) fun _ _ _ _ _ _ us hl => match us, hl with | [_], _ => rfl
  have F34 := fun_mk (st := sLawContent) l34 c34 k34
  have b34 := F34.binds (ps := ["_law_d"]) fun _ _ _ _ _ _ us hl => match us, hl with | [_], _ => rfl
  have F35 := fun_mk (st := sLawSide) l35 c35 k35
  have b35 := F35.binds (ps := ["_law_d"]) fun _ _ _ _ _ _ us hl => match us, hl with | [_], _ => rfl
  have F36 := fun_mk (st := sLawAction) l36 c36 k36
  have b36 := F36.binds (ps := ["_law_d"]) fun _ _ _ _ _ _ us hl => match us, hl with | [_], _ => rfl
  have F37 := fun_mk (st := sLawEdits) l37 c37 k37
  have b37 := F37.binds (ps := ["_law_script"]) fun _ _ _ _ _ _ us hl => match us, hl with | [_], _ => rfl
  have F38 := fun_mk (st := sLawBegin) l38 c38 k38
  have b38 := F38.binds (ps := ["_law_script"]) fun _ _ _ _ _ _ us hl => match us, hl with | [_], _ => rfl
  have F39 := fun_mk (st := sLawKey) l39 c39 k39
  have b39 := F39.binds (ps := ["_law_edit"]) fun _ _ _ _ _ _ us hl => match us, hl with | [_], _ => rfl
  have F40 := fun_mk (st := sLawSorted) l40 c40 k40
  have b40 := F40.binds (ps := ["_law_edits_here"]) fun _ _ _ _ _ _ us hl => match us, hl with | [_], _ => rfl
  have F41 := fun_mk (st := sLawNumbers) l41 c41 k41
  have b41 := F41.binds (ps := ["_law_numbers_here"]) fun _ _ _ _ _ _ us hl => match us, hl with | [_], _ => rfl
  have F42 := fun_mk (st := sLawLines) l42 c42 k42
  have b42 := F42.binds (ps := ["_law_lines_here"]) fun _ _ _ _ _ _ us hl => match us, hl with | [_], _ => rfl
  have F43 := fun_mk (st := sLawString) l43 c43 k43
  have b43 := F43.binds (ps := ["_law_text"]) fun _ _ _ _ _ _ us hl => match us, hl with | [_], _ => rfl
  have F44 := fun_mk (st := sLawFraction) l44 c44 k44
  have b44 := F44.binds (ps := ["_law_x"]) fun _ _ _ _ _ _ us hl => match us, hl with | [_], _ => rfl
  have F45 := fun_mk (st := sLawAreaNumbers) l45 c45 k45
  have b45 := F45.binds (ps := ["_law_area_here"]) fun _ _ _ _ _ _ us hl => match us, hl with | [_], _ => rfl
  have F46 := fun_mk (st := sLawTreeNumbers) l46 c46 k46
  have b46 := F46.binds (ps := ["_law_tree_here"]) fun _ _ _ _ _ _ us hl => match us, hl with | [_], _ => rfl
  have F47 := fun_mk (st := sLawContentNumbers) l47 c47 k47
  have b47 := F47.binds (ps := ["_law_content_here"]) fun _ _ _ _ _ _ us hl => match us, hl with | [_], _ => rfl
  have F48 := fun_mk (st := sLawSideNumbers) l48 c48 k48
  have b48 := F48.binds (ps := ["_law_line_here"]) fun _ _ _ _ _ _ us hl => match us, hl with | [_], _ => rfl
  have F49 := fun_mk (st := sLawActionNumbers) l49 c49 k49
  have b49 := F49.binds (ps := ["_law_action_here"]) fun _ _ _ _ _ _ us hl => match us, hl with | [_], _ => rfl
  have F50 := fun_mk (st := sLawEditNumbers) l50 c50 k50
  have b50 := F50.binds (ps := ["_law_edit"]) fun _ _ _ _ _ _ us hl => match us, hl with | [_], _ => rfl
  have F51 := fun_mk (st := sLawUpdateNumbers) l51 c51 k51
  have b51 := F51.binds (ps := ["_law_begin_here", "_law_edits_here"]) fun _ _ _ _ _ _ us hl => match us, hl with | [_, _], _ => rfl
  have F52 := fun_mk (st := sLawPlace) l52 c52 k52
  have b52 := F52.binds (ps := ["_law_data"]) fun _ _ _ _ _ _ us hl => match us, hl with | [_], _ => rfl
  have F53 := fun_mk (st := sLawStarts) l53 c53 k53
  have b53 := F53.binds (ps := ["_law_numbers_here"]) fun _ _ _ _ _ _ us hl => match us, hl with | [_], _ => rfl
  have F54 := fun_mk (st := sLawCut) l54 c54 k54
  have b54 := F54.binds (ps := ["_law_numbers_here", "_law_data", "_law_cell_here"]) fun _ _ _ _ _ _ us hl => match us, hl with | [_, _, _], _ => rfl
  have F55 := fun_mk (st := sLawLonger) l55 c55 k55
  have b55 := F55.binds (ps := ["_law_numbers_here", "_law_data", "_law_cell_here"]) fun _ _ _ _ _ _ us hl => match us, hl with | [_, _, _], _ => rfl
  have F56 := fun_mk (st := sLawOrder) l56 c56 k56
  have b56 := F56.binds (ps := ["_law_begin_here", "_law_edits_here", "_law_cell_here"]) fun _ _ _ _ _ _ us hl => match us, hl with | [_, _, _], _ => rfl
  have F57 := fun_mk (st := sLawDouble) l57 c57 k57
  have b57 := F57.binds (ps := ["_law_begin_here", "_law_edits_here"]) fun _ _ _ _ _ _ us hl => match us, hl with | [_, _], _ => rfl
  have F58 := fun_mk (st := sLaw) l58 c58 k58
  have b58 := F58.binds (ps := ["_law_script"]) fun _ _ _ _ _ _ us hl => match us, hl with | [_], _ => rfl
  have FReader_Init := fun_mk (st := sReader_Init) mlReader_Init mdReader_Init mkReader_Init
  have bReader_Init := FReader_Init.binds (ps := ["self", "data"]) fun _ _ _ _ _ _ us hl => match us, hl with | [_, _], _ => rfl
  have FReader_Integer := fun_mk (st := sReader_Integer) mlReader_Integer mdReader_Integer mkReader_Integer
  have bReader_Integer := FReader_Integer.binds (ps := ["self"]) fun _ _ _ _ _ _ us hl => match us, hl with | [_], _ => rfl
  have FReader_Number := fun_mk (st := sReader_Number) mlReader_Number mdReader_Number mkReader_Number
  have bReader_Number := FReader_Number.binds (ps := ["self", "least", "most"]) fun _ _ _ _ _ _ us hl => match us, hl with | [_, _, _], _ => rfl
  have FReader_Choice := fun_mk (st := sReader_Choice) mlReader_Choice mdReader_Choice mkReader_Choice
  have bReader_Choice := FReader_Choice.binds (ps := ["self", "words"]) fun _ _ _ _ _ _ us hl => match us, hl with | [_, _], _ => rfl
  have FReader_Part := fun_mk (st := sReader_Part) mlReader_Part mdReader_Part mkReader_Part
  have bReader_Part := FReader_Part.binds (ps := ["self", "most"]) fun _ _ _ _ _ _ us hl => match us, hl with | [_, _], _ => rfl
  have FInvalidBytes_Init := fun_mk (st := sInvalidBytes_Init) ylInvalidBytes ydInvalidBytes ykInvalidBytes
  have bInvalidBytes_Init := FInvalidBytes_Init.binds (ps := ["self", "at"]) fun _ _ _ _ _ _ us hl => match us, hl with | [_, _], _ => rfl
  exact ⟨PySem.W.fnOf "law" "law" (defArgs sLaw) (defBody sLaw) (defScope sLaw) .none kV58 dc58 pm58 an58 cd58 ct58, fun s v => .of_eq rfl, fun base _ _ => okLaw (P := l.prog) (w := w) (base := base) (⟨f1, _, F1, b1, PySem.W.mg_of X G a1, f2, _, F2, b2, PySem.W.mg_of X G a2, f3, _, F3, b3, PySem.W.mg_of X G a3, f4, _, F4, b4, PySem.W.mg_of X G a4, f5, _, F5, b5, PySem.W.mg_of X G a5, f6, _, F6, b6, PySem.W.mg_of X G a6, f7, _, F7, b7, PySem.W.mg_of X G a7, f8, _, F8, b8, PySem.W.mg_of X G a8, f9, _, F9, b9, PySem.W.mg_of X G a9, f10, _, F10, b10, PySem.W.mg_of X G a10, f11, _, F11, b11, PySem.W.mg_of X G a11, f12, _, F12, b12, PySem.W.mg_of X G a12, f13, _, F13, b13, PySem.W.mg_of X G a13, f14, _, F14, b14, PySem.W.mg_of X G a14, f15, _, F15, b15, PySem.W.mg_of X G a15, f16, _, F16, b16, PySem.W.mg_of X G a16, f17, _, F17, b17, PySem.W.mg_of X G a17, f18, _, F18, b18, PySem.W.mg_of X G a18, f19, _, F19, b19, PySem.W.mg_of X G a19, f20, _, F20, b20, PySem.W.mg_of X G a20, f21, _, F21, b21, PySem.W.mg_of X G a21, f22, _, F22, b22, PySem.W.mg_of X G a22, f23, _, F23, b23, PySem.W.mg_of X G a23, f24, _, F24, b24, PySem.W.mg_of X G a24, f25, _, F25, b25, PySem.W.mg_of X G a25, f26, _, F26, b26, PySem.W.mg_of X G a26, f27, _, F27, b27, PySem.W.mg_of X G a27, f28, _, F28, b28, PySem.W.mg_of X G a28, f29, _, F29, b29, PySem.W.mg_of X G a29, f30, _, F30, b30, PySem.W.mg_of X G a30, f31, _, F31, b31, PySem.W.mg_of X G a31, f32, _, F32, b32, PySem.W.mg_of X G a32, f33, _, F33, b33, PySem.W.mg_of X G a33, f34, _, F34, b34, PySem.W.mg_of X G a34, f35, _, F35, b35, PySem.W.mg_of X G a35, f36, _, F36, b36, PySem.W.mg_of X G a36, f37, _, F37, b37, PySem.W.mg_of X G a37, f38, _, F38, b38, PySem.W.mg_of X G a38, f39, _, F39, b39, PySem.W.mg_of X G a39, f40, _, F40, b40, PySem.W.mg_of X G a40, f41, _, F41, b41, PySem.W.mg_of X G a41, f42, _, F42, b42, PySem.W.mg_of X G a42, f43, _, F43, b43, PySem.W.mg_of X G a43, f44, _, F44, b44, PySem.W.mg_of X G a44, f45, _, F45, b45, PySem.W.mg_of X G a45, f46, _, F46, b46, PySem.W.mg_of X G a46, f47, _, F47, b47, PySem.W.mg_of X G a47, f48, _, F48, b48, PySem.W.mg_of X G a48, f49, _, F49, b49, PySem.W.mg_of X G a49, f50, _, F50, b50, PySem.W.mg_of X G a50, f51, _, F51, b51, PySem.W.mg_of X G a51, f52, _, F52, b52, PySem.W.mg_of X G a52, f53, _, F53, b53, PySem.W.mg_of X G a53, f54, _, F54, b54, PySem.W.mg_of X G a54, f55, _, F55, b55, PySem.W.mg_of X G a55, f56, _, F56, b56, PySem.W.mg_of X G a56, f57, _, F57, b57, PySem.W.mg_of X G a57, fa, _, F58, b58, PySem.W.mg_of X G a58, PySem.W.mg_none_of X G z_tuple, PySem.W.mg_none_of X G z_range, PySem.W.mg_none_of X G z_sorted, PySem.W.mg_none_of X G z_len, PySem.W.mg_none_of X G z_sum, PySem.W.mg_none_of X G z_reversed, PySem.W.mg_none_of X G z_int, PySem.W.mg_none_of X G z_ord, PySem.W.mg_none_of X G z_list, PySem.W.mg_none_of X G z_isinstance, t_MOST, PySem.W.mg_of X G x_MOST, t_MOST_OF_FRACTION, PySem.W.mg_of X G x_MOST_OF_FRACTION, t_MOST_ROWS, PySem.W.mg_of X G x_MOST_ROWS, t_MOST_COLUMNS, PySem.W.mg_of X G x_MOST_COLUMNS, t_LONGEST_TEXT, PySem.W.mg_of X G x_LONGEST_TEXT, t_MOST_BLOCKS, PySem.W.mg_of X G x_MOST_BLOCKS, t_LARGEST_TREE, PySem.W.mg_of X G x_LARGEST_TREE, t_SHORTEST_NAME, PySem.W.mg_of X G x_SHORTEST_NAME, t_LONGEST_WORD, PySem.W.mg_of X G x_LONGEST_WORD, t_SMALL, PySem.W.mg_of X G x_SMALL, t_CHARACTERS, PySem.W.mg_of X G x_CHARACTERS, ap_CALLS, PySem.W.mg_of X G x_CALLS, fun H => .inr ⟨_, _, _, y_CALLS, rfl, rfl, (by show 4 ≤ sizeLine; decide), (.cons ⟨_, rfl⟩ (.cons ⟨_, rfl⟩ (.cons ⟨_, rfl⟩ (.cons ⟨_, rfl⟩ .nil))))⟩, ⟨_, y_CALLS, rfl, rfl⟩, ap_OPERATORS, PySem.W.mg_of X G x_OPERATORS, fun H => .inr ⟨_, _, _, y_OPERATORS, rfl, rfl, (by show 4 ≤ sizeLine; decide), (.cons ⟨_, rfl⟩ (.cons ⟨_, rfl⟩ (.cons ⟨_, rfl⟩ (.cons ⟨_, rfl⟩ .nil))))⟩, ⟨_, y_OPERATORS, rfl, rfl⟩, ap_AXES, PySem.W.mg_of X G x_AXES, fun H => .inr ⟨_, _, _, y_AXES, rfl, rfl, (by show 2 ≤ sizeLine; decide), (.cons ⟨_, rfl⟩ (.cons ⟨_, rfl⟩ .nil))⟩, ⟨_, y_AXES, rfl, rfl⟩, ap_READERS, PySem.W.mg_of X G x_READERS, fun H => .inr ⟨_, _, _, y_READERS, rfl, rfl, (by show 5 ≤ sizeLine; decide), (.cons rfl (.cons rfl (.cons rfl (.cons rfl (.cons rfl .nil)))))⟩, ⟨_, y_READERS, rfl, rfl⟩, cReader, PySem.W.mg_of X G kaReader, ⟨kbReader, kcReader, kdReader, keReader⟩, fReader_Init, _, FReader_Init, bReader_Init, ⟨miReader_Init, mfReader_Init, mkReader_Init⟩, fReader_Integer, _, FReader_Integer, bReader_Integer, ⟨miReader_Integer, mfReader_Integer, mkReader_Integer⟩, fReader_Number, _, FReader_Number, bReader_Number, ⟨miReader_Number, mfReader_Number, mkReader_Number⟩, fReader_Choice, _, FReader_Choice, bReader_Choice, ⟨miReader_Choice, mfReader_Choice, mkReader_Choice⟩, fReader_Part, _, FReader_Part, bReader_Part, ⟨miReader_Part, mfReader_Part, mkReader_Part⟩, ⟨kfReader, miReader_Init, mfReader_Init, kgReader⟩, knReader_source, knReader_at, knReader_room, cTableError, PySem.W.mg_of X G yaTableError, cInvalidBytes, PySem.W.mg_of X G yaInvalidBytes, ⟨⟨_, _, _, _, _, _, _, _, _, _, _, _, _, _, _, ycInvalidBytes, by first | rfl | decide +kernel⟩, y1InvalidBytes, yeInvalidBytes, ytInvalidBytes, y9InvalidBytes⟩, ⟨y2InvalidBytes, y3InvalidBytes, yeInvalidBytes, yhInvalidBytes⟩, ⟨y8InvalidBytes, ⟨y2InvalidBytes, y3InvalidBytes, yeInvalidBytes, yhInvalidBytes⟩, y4InvalidBytes, y5InvalidBytes, y6InvalidBytes, y7InvalidBytes⟩, fInvalidBytes_Init, _, FInvalidBytes_Init, bInvalidBytes_Init, yiInvalidBytes, yjInvalidBytes, ynInvalidBytes_at, PySem.W.exm_ref yeTableError yhTableError ytTableError ysInvalidBytes_TableError, PySem.W.exm_ref yeInvalidBytes yhInvalidBytes ytInvalidBytes ysInvalidBytes_InvalidBytes, kit_self⟩ : Txt K mg)⟩
theorem walk {l : PySem.W.OpenLaw} {q : Program} {loose : List Str} {XP : (Str → Option Value) → Heap → Prop} {YP : World → Heap → Prop} {d : DefRec} {K : Params → PySem.W.Frag} (hn : l.most = some 63) (hdf : d.params.defaults = [])
    (hY : ∀ (w : World) (h : Heap), YP w h → (K w.params).In h)
    (F : ∀ (w : World) (mg : Str → Option Value) (fa : Addr) (h : Heap), (K w.params).In h → h.Ns mainGlobals mg → mg d.name = some (.ref fa) →
      ∃ fd : FuncData, (∀ (s : Shared) (u : Value), BindsTo s fd ⟨[u], []⟩ [("_law_script", u)]) ∧ ∀ base : Heap, (K w.params).In base → base.Ns mainGlobals mg → FnOk l.prog w (K w.params) mg base CX0 138 fa fd ["_law_script"] (spLaw (K w.params))) :
    PySem.W.WalkO q loose XP YP l.row.toRowW d [] (fun f vs => PySem.call f vs) :=
  L2.walk_of (n := 63) (k := 138) (x := "_law_script") (CX := fun _ => CX0) (sp := fun w => spLaw (K w.params)) hn (by decide) hdf ⟨rfl, by decide, by decide⟩ hY F (fun _ _ a ns hl _ hS => ⟨a, ns, rfl, hS, hl, fun _ => rfl⟩) fun _ _ _ _ _ z => z
end My
open PySem PySem.W PyProof.Rows
set_option maxRecDepth 100000 in
set_option maxHeartbeats 0 in
theorem PySem.Challenge.cw_tablemates_k34_places_of_faults_holds : PySem.Challenge.rw_tablemates_k34_places_of_faults.Holds := by
  w_on; o_law; k_head; (case hw => w_witness2)
  k_fill
  refine My.walk (l := PySem.Challenge.rw_tablemates_k34_places_of_faults) rfl rfl (fun w h Y => PySem.W.kIn_of Y) ?F
  case F =>
    intro w mg fa h KX G hmg
    refine' My.all_mk KX G hmg ?a1 ?l1 ?c1 ?k1 ?a2 ?l2 ?c2 ?k2 ?a3 ?l3 ?c3 ?k3 ?a4 ?l4 ?c4 ?k4 ?a5 ?l5 ?c5 ?k5 ?a6 ?l6 ?c6 ?k6 ?a7 ?l7 ?c7 ?k7 ?a8 ?l8 ?c8 ?k8 ?a9 ?l9 ?c9 ?k9 ?a10 ?l10 ?c10 ?k10 ?a11 ?l11 ?c11 ?k11 ?a12 ?l12 ?c12 ?k12 ?a13 ?l13 ?c13 ?k13 ?a14 ?l14 ?c14 ?k14 ?a15 ?l15 ?c15 ?k15 ?a16 ?l16 ?c16 ?k16 ?a17 ?l17 ?c17 ?k17 ?a18 ?l18 ?c18 ?k18 ?a19 ?l19 ?c19 ?k19 ?a20 ?l20 ?c20 ?k20 ?a21 ?l21 ?c21 ?k21 ?a22 ?l22 ?c22 ?k22 ?a23 ?l23 ?c23 ?k23 ?a24 ?l24 ?c24 ?k24 ?a25 ?l25 ?c25 ?k25 ?a26 ?l26 ?c26 ?k26 ?a27 ?l27 ?c27 ?k27 ?a28 ?l28 ?c28 ?k28 ?a29 ?l29 ?c29 ?k29 ?a30 ?l30 ?c30 ?k30 ?a31 ?l31 ?c31 ?k31 ?a32 ?l32 ?c32 ?k32 ?a33 ?l33 ?c33 ?k33 ?a34 ?l34 ?c34 ?k34 ?a35 ?l35 ?c35 ?k35 ?a36 ?l36 ?c36 ?k36 ?a37 ?l37 ?c37 ?k37 ?a38 ?l38 ?c38 ?k38 ?a39 ?l39 ?c39 ?k39 ?a40 ?l40 ?c40 ?k40 ?a41 ?l41 ?c41 ?k41 ?a42 ?l42 ?c42 ?k42 ?a43 ?l43 ?c43 ?k43 ?a44 ?l44 ?c44 ?k44 ?a45 ?l45 ?c45 ?k45 ?a46 ?l46 ?c46 ?k46 ?a47 ?l47 ?c47 ?k47 ?a48 ?l48 ?c48 ?k48 ?a49 ?l49 ?c49 ?k49 ?a50 ?l50 ?c50 ?k50 ?a51 ?l51 ?c51 ?k51 ?a52 ?l52 ?c52 ?k52 ?a53 ?l53 ?c53 ?k53 ?a54 ?l54 ?c54 ?k54 ?a55 ?l55 ?c55 ?k55 ?a56 ?l56 ?c56 ?k56 ?a57 ?l57 ?c57 ?k57 ?a58 ?l58 ?c58 ?k58 ?z_tuple ?z_range ?z_sorted ?z_len ?z_sum ?z_reversed ?z_int ?z_ord ?z_list ?z_isinstance ?x_MOST ?x_MOST_OF_FRACTION ?x_MOST_ROWS ?x_MOST_COLUMNS ?x_LONGEST_TEXT ?x_MOST_BLOCKS ?x_LARGEST_TREE ?x_SHORTEST_NAME ?x_LONGEST_WORD ?x_SMALL ?x_CHARACTERS ?x_CALLS ?y_CALLS ?x_OPERATORS ?y_OPERATORS ?x_AXES ?y_AXES ?x_READERS ?y_READERS ?kaReader ?kbReader ?kcReader ?kdReader ?keReader ?kfReader ?kgReader ?miReader_Init ?mfReader_Init ?mkReader_Init ?mlReader_Init ?mdReader_Init ?miReader_Integer ?mfReader_Integer ?mkReader_Integer ?mlReader_Integer ?mdReader_Integer ?miReader_Number ?mfReader_Number ?mkReader_Number ?mlReader_Number ?mdReader_Number ?miReader_Choice ?mfReader_Choice ?mkReader_Choice ?mlReader_Choice ?mdReader_Choice ?miReader_Part ?mfReader_Part ?mkReader_Part ?mlReader_Part ?mdReader_Part ?knReader_source ?knReader_at ?knReader_room ?yaTableError ?ytTableError ?yhTableError ?yeTableError ?yaInvalidBytes ?ytInvalidBytes ?yhInvalidBytes ?yeInvalidBytes ?ycInvalidBytes ?y1InvalidBytes ?y2InvalidBytes ?y3InvalidBytes ?y4InvalidBytes ?y5InvalidBytes ?y6InvalidBytes ?y7InvalidBytes ?y8InvalidBytes ?y9InvalidBytes ?yiInvalidBytes ?yjInvalidBytes ?ylInvalidBytes ?ydInvalidBytes ?ykInvalidBytes ?ynInvalidBytes_at ?ysInvalidBytes_TableError ?ysInvalidBytes_InvalidBytes
    (case a1 => k_is); (case l1 => k_is); (case c1 => k_is); (case k1 => k_is); (case a2 => k_is); (case l2 => k_is); (case c2 => k_is); (case k2 => k_is); (case a3 => k_is); (case l3 => k_is); (case c3 => k_is); (case k3 => k_is); (case a4 => k_is); (case l4 => k_is); (case c4 => k_is); (case k4 => k_is); (case a5 => k_is); (case l5 => k_is); (case c5 => k_is); (case k5 => k_is); (case a6 => k_is); (case l6 => k_is); (case c6 => k_is); (case k6 => k_is); (case a7 => k_is); (case l7 => k_is); (case c7 => k_is); (case k7 => k_is); (case a8 => k_is); (case l8 => k_is); (case c8 => k_is); (case k8 => k_is); (case a9 => k_is); (case l9 => k_is); (case c9 => k_is); (case k9 => k_is); (case a10 => k_is); (case l10 => k_is); (case c10 => k_is); (case k10 => k_is); (case a11 => k_is); (case l11 => k_is); (case c11 => k_is); (case k11 => k_is); (case a12 => k_is); (case l12 => k_is); (case c12 => k_is); (case k12 => k_is); (case a13 => k_is); (case l13 => k_is); (case c13 => k_is); (case k13 => k_is); (case a14 => k_is); (case l14 => k_is); (case c14 => k_is); (case k14 => k_is); (case a15 => k_is); (case l15 => k_is); (case c15 => k_is); (case k15 => k_is); (case a16 => k_is); (case l16 => k_is); (case c16 => k_is); (case k16 => k_is); (case a17 => k_is); (case l17 => k_is); (case c17 => k_is); (case k17 => k_is); (case a18 => k_is); (case l18 => k_is); (case c18 => k_is); (case k18 => k_is); (case a19 => k_is); (case l19 => k_is); (case c19 => k_is); (case k19 => k_is); (case a20 => k_is); (case l20 => k_is); (case c20 => k_is); (case k20 => k_is); (case a21 => k_is); (case l21 => k_is); (case c21 => k_is); (case k21 => k_is); (case a22 => k_is); (case l22 => k_is); (case c22 => k_is); (case k22 => k_is); (case a23 => k_is); (case l23 => k_is); (case c23 => k_is); (case k23 => k_is); (case a24 => k_is); (case l24 => k_is); (case c24 => k_is); (case k24 => k_is); (case a25 => k_is); (case l25 => k_is); (case c25 => k_is); (case k25 => k_is); (case a26 => k_is); (case l26 => k_is); (case c26 => k_is); (case k26 => k_is); (case a27 => k_is); (case l27 => k_is); (case c27 => k_is); (case k27 => k_is); (case a28 => k_is); (case l28 => k_is); (case c28 => k_is); (case k28 => k_is); (case a29 => k_is); (case l29 => k_is); (case c29 => k_is); (case k29 => k_is); (case a30 => k_is); (case l30 => k_is); (case c30 => k_is); (case k30 => k_is); (case a31 => k_is); (case l31 => k_is); (case c31 => k_is); (case k31 => k_is); (case a32 => k_is); (case l32 => k_is); (case c32 => k_is); (case k32 => k_is); (case a33 => k_is); (case l33 => k_is); (case c33 => k_is); (case k33 => k_is); (case a34 => k_is); (case l34 => k_is); (case c34 => k_is); (case k34 => k_is); (case a35 => k_is); (case l35 => k_is); (case c35 => k_is); (case k35 => k_is); (case a36 => k_is); (case l36 => k_is); (case c36 => k_is); (case k36 => k_is); (case a37 => k_is); (case l37 => k_is); (case c37 => k_is); (case k37 => k_is); (case a38 => k_is); (case l38 => k_is); (case c38 => k_is); (case k38 => k_is); (case a39 => k_is); (case l39 => k_is); (case c39 => k_is); (case k39 => k_is); (case a40 => k_is); (case l40 => k_is); (case c40 => k_is); (case k40 => k_is); (case a41 => k_is); (case l41 => k_is); (case c41 => k_is); (case k41 => k_is); (case a42 => k_is); (case l42 => k_is); (case c42 => k_is); (case k42 => k_is); (case a43 => k_is); (case l43 => k_is); (case c43 => k_is); (case k43 => k_is); (case a44 => k_is); (case l44 => k_is); (case c44 => k_is); (case k44 => k_is); (case a45 => k_is); (case l45 => k_is); (case c45 => k_is); (case k45 => k_is); (case a46 => k_is); (case l46 => k_is); (case c46 => k_is); (case k46 => k_is); (case a47 => k_is); (case l47 => k_is); (case c47 => k_is); (case k47 => k_is); (case a48 => k_is); (case l48 => k_is); (case c48 => k_is); (case k48 => k_is); (case a49 => k_is); (case l49 => k_is); (case c49 => k_is); (case k49 => k_is); (case a50 => k_is); (case l50 => k_is); (case c50 => k_is); (case k50 => k_is); (case a51 => k_is); (case l51 => k_is); (case c51 => k_is); (case k51 => k_is); (case a52 => k_is); (case l52 => k_is); (case c52 => k_is); (case k52 => k_is); (case a53 => k_is); (case l53 => k_is); (case c53 => k_is); (case k53 => k_is); (case a54 => k_is); (case l54 => k_is); (case c54 => k_is); (case k54 => k_is); (case a55 => k_is); (case l55 => k_is); (case c55 => k_is); (case k55 => k_is); (case a56 => k_is); (case l56 => k_is); (case c56 => k_is); (case k56 => k_is); (case a57 => k_is); (case l57 => k_is); (case c57 => k_is); (case k57 => k_is); (case a58 => k_is); (case l58 => k_is); (case c58 => k_is); (case k58 => k_is); (case z_tuple => k_is); (case z_range => k_is); (case z_sorted => k_is); (case z_len => k_is); (case z_sum => k_is); (case z_reversed => k_is); (case z_int => k_is); (case z_ord => k_is); (case z_list => k_is); (case z_isinstance => k_is); (case x_MOST => k_is); (case x_MOST_OF_FRACTION => k_is); (case x_MOST_ROWS => k_is); (case x_MOST_COLUMNS => k_is); (case x_LONGEST_TEXT => k_is); (case x_MOST_BLOCKS => k_is); (case x_LARGEST_TREE => k_is); (case x_SHORTEST_NAME => k_is); (case x_LONGEST_WORD => k_is); (case x_SMALL => k_is); (case x_CHARACTERS => k_is); (case x_CALLS => k_is); (case y_CALLS => k_is); (case x_OPERATORS => k_is); (case y_OPERATORS => k_is); (case x_AXES => k_is); (case y_AXES => k_is); (case x_READERS => k_is); (case y_READERS => k_is); (case kaReader => k_is); (case kbReader => k_is); (case kcReader => k_is); (case kdReader => k_is); (case keReader => k_is); (case kfReader => k_is); (case kgReader => k_is); (case miReader_Init => k_is); (case mfReader_Init => k_is); (case mkReader_Init => k_is); (case mlReader_Init => k_is); (case mdReader_Init => k_is); (case miReader_Integer => k_is); (case mfReader_Integer => k_is); (case mkReader_Integer => k_is); (case mlReader_Integer => k_is); (case mdReader_Integer => k_is); (case miReader_Number => k_is); (case mfReader_Number => k_is); (case mkReader_Number => k_is); (case mlReader_Number => k_is); (case mdReader_Number => k_is); (case miReader_Choice => k_is); (case mfReader_Choice => k_is); (case mkReader_Choice => k_is); (case mlReader_Choice => k_is); (case mdReader_Choice => k_is); (case miReader_Part => k_is); (case mfReader_Part => k_is); (case mkReader_Part => k_is); (case mlReader_Part => k_is); (case mdReader_Part => k_is); (case knReader_source => k_is); (case knReader_at => k_is); (case knReader_room => k_is); (case yaTableError => k_is); (case ytTableError => k_is); (case yhTableError => k_is); (case yeTableError => k_is); (case yaInvalidBytes => k_is); (case ytInvalidBytes => k_is); (case yhInvalidBytes => k_is); (case yeInvalidBytes => k_is); (case ycInvalidBytes => k_is); (case y1InvalidBytes => k_is); (case y2InvalidBytes => k_is); (case y3InvalidBytes => k_is); (case y4InvalidBytes => k_is); (case y5InvalidBytes => k_is); (case y6InvalidBytes => k_is); (case y7InvalidBytes => k_is); (case y8InvalidBytes => k_is); (case y9InvalidBytes => k_is); (case yiInvalidBytes => k_is); (case yjInvalidBytes => k_is); (case ylInvalidBytes => k_is); (case ydInvalidBytes => k_is); (case ykInvalidBytes => k_is); (case ynInvalidBytes_at => k_is); (case ysInvalidBytes_TableError => first | rfl | k_is | kit_is); (case ysInvalidBytes_InvalidBytes => first | rfl | k_is | kit_is)


import PyProof.Rows.All
import Wide.All
import OpenK.AllK
import Wide.FinOn
import HandS.ForMost
import HandS.Zip
import HandS.Walk
import HandS.Gcd
import HandS.Wide
import HandS.Deep
import HandS.Conv
import HandS.Style
import HandS.SortInts
import HandS.Codes
import KE.KEqDeep
import HandS.SortKw
import KE.SortKeyHeap
import KE.SortData
import KE.LtData
import HandS.TupSets
import KE.KTupSum
import HandS.StrMore
import HandS.WordsExc
import HandS.Strs
import HandS.DictTup
import HandS.Words
import KE.DataCmp
import HandS.Dict
import HandS.DictEq
import HandS.IsInst
import HandS.ExcInit
import HandS.ExcField
import HandS.ExcIs
import HandS.ExcOwn
import HandS.ExcCtx
import HandS.HotCalls
import HandS.ExcInitHot
import KE.KExcIs
import KE.IntTextText
import KE.KDictCopyH
import HandS.CallLocal
import HandS.DictComp
import KE.DataMinMax
import PySem.Challenge.RW_tablemates_k19_rings
set_option Elab.async false
set_option linter.all false
set_option maxRecDepth 100000
namespace My
open PySem PySem.Spec PyProof.Rows L2 RZ
def topS (i : Nat) : Stmt := PySem.Challenge.pw_tablemates_k19_rings.main.body.getD i (.Pass ⟨0, 0, 0, 0⟩)
abbrev sWall : Stmt := topS 0
abbrev sNamedCells : Stmt := topS 5
abbrev sAreasOf : Stmt := topS 6
abbrev sToldOf : Stmt := topS 9
abbrev sBlocksOf : Stmt := topS 10
abbrev sCellsOf : Stmt := topS 11
abbrev sFormulaOf : Stmt := topS 12
abbrev sCellsRead : Stmt := topS 13
abbrev sReadsOf : Stmt := topS 15
abbrev sReadersOf : Stmt := topS 16
abbrev sInSequence : Stmt := topS 17
abbrev sReached : Stmt := topS 18
abbrev sKnotsIn : Stmt := topS 19
abbrev sCellsInRings : Stmt := topS 20
abbrev sRingCells : Stmt := topS 21
abbrev sStepsTo : Stmt := topS 22
abbrev sRingOf : Stmt := topS 23
abbrev sLawCell : Stmt := topS 27
abbrev sLawDigits : Stmt := topS 28
abbrev sLawDraw : Stmt := topS 29
abbrev sLawGcd : Stmt := topS 30
abbrev sLawLowest : Stmt := topS 31
abbrev sLawDigitText : Stmt := topS 32
abbrev sLawAddress : Stmt := topS 33
abbrev sLawWord : Stmt := topS 34
abbrev sLawLeaf : Stmt := topS 35
abbrev sLawArea : Stmt := topS 36
abbrev sLawInside : Stmt := topS 37
abbrev sLawCall : Stmt := topS 38
abbrev sLawNode : Stmt := topS 39
abbrev sLawSame : Stmt := topS 40
abbrev sLawNames : Stmt := topS 41
abbrev sLawSetNames : Stmt := topS 42
abbrev sLawContent : Stmt := topS 43
abbrev sLawNear : Stmt := topS 44
abbrev sLawWorld : Stmt := topS 45
abbrev sLawGrid : Stmt := topS 46
abbrev sLawBlocks : Stmt := topS 47
abbrev sLawReadsOfTree : Stmt := topS 48
abbrev sLawReads : Stmt := topS 49
abbrev sLawAllReads : Stmt := topS 50
abbrev sLawNearest : Stmt := topS 51
abbrev sLawRing : Stmt := topS 52
abbrev sLaw : Stmt := topS 53
abbrev sUnknownName_Init : Stmt := inClass (topS 3) 0
theorem scUnknownName_Init : FnScope ["self", "word"] ["self", "word"] (defScope sUnknownName_Init) := ⟨rfl, rfl, rfl, by decide +kernel, rfl, by decide +kernel, by decide +kernel⟩
abbrev sGrid_Init : Stmt := inClass (topS 25) 0
theorem scGrid_Init : FnScope ["self", "rows", "columns"] ["self", "rows", "columns"] (defScope sGrid_Init) := ⟨rfl, rfl, rfl, by decide +kernel, rfl, by decide +kernel, by decide +kernel⟩
abbrev sGrid_Put : Stmt := inClass (topS 25) 1
theorem scGrid_Put : FnScope ["self", "cell", "shown"] ["self", "cell", "shown"] (defScope sGrid_Put) := ⟨rfl, rfl, rfl, by decide +kernel, rfl, by decide +kernel, by decide +kernel⟩
abbrev sGrid_Shown : Stmt := inClass (topS 25) 2
theorem scGrid_Shown : FnScope ["self", "cell"] ["self", "cell"] (defScope sGrid_Shown) := ⟨rfl, rfl, rfl, by decide +kernel, rfl, by decide +kernel, by decide +kernel⟩
abbrev sGrid_Name : Stmt := inClass (topS 25) 3
theorem scGrid_Name : FnScope ["self", "word", "areas"] ["self", "word", "areas"] (defScope sGrid_Name) := ⟨rfl, rfl, rfl, by decide +kernel, rfl, by decide +kernel, by decide +kernel⟩
abbrev sGrid_Areas : Stmt := inClass (topS 25) 5
theorem scGrid_Areas : FnScope ["self", "word", "areas"] ["self", "word"] (defScope sGrid_Areas) := ⟨rfl, rfl, rfl, by decide +kernel, rfl, by decide +kernel, by decide +kernel⟩
abbrev sGrid_Cells : Stmt := inClass (topS 25) 6
theorem scGrid_Cells : FnScope ["self"] ["self"] (defScope sGrid_Cells) := ⟨rfl, rfl, rfl, by decide +kernel, rfl, by decide +kernel, by decide +kernel⟩
/-! ### error classes with fields -/
structure ExK (K : PySem.W.Frag) (C : Addr) : Prop where
  cl : PySem.W.isClsIn K C = true
  x : XfC K C
  cc : PySem.W.findIn K (.ref C) "__class__" = some (some (.builtin "object.__class__"))
  cn : PySem.W.specialIn K (.builtin "object.__class__") "__get__" = some (some (.builtin "getset_descriptor.__get__"))
  ct : PySem.W.takesIn K (.builtin "object.__class__") = some true
  cm : PySem.W.mroIn K C (.type "object") = some true
theorem kit_self {K : PySem.W.Frag} {t : Value} : PySem.W.kitOne K t t = some true := if_pos (beq_self_eq_true t)
theorem scWall : FnScope ["k"] ["k"] (defScope sWall) := ⟨rfl, rfl, rfl, by decide +kernel, rfl, by decide +kernel, by decide +kernel⟩
theorem scNamedCells : FnScope ["tree"] ["tree"] (defScope sNamedCells) := ⟨rfl, rfl, rfl, by decide +kernel, rfl, by decide +kernel, by decide +kernel⟩
theorem scAreasOf : FnScope ["tree"] ["tree"] (defScope sAreasOf) := ⟨rfl, rfl, rfl, by decide +kernel, rfl, by decide +kernel, by decide +kernel⟩
theorem scToldOf : FnScope ["grid", "word"] ["grid", "word"] (defScope sToldOf) := ⟨rfl, rfl, rfl, by decide +kernel, rfl, by decide +kernel, by decide +kernel⟩
theorem scBlocksOf : FnScope ["grid", "area", "areas", "told", "one"] ["grid", "area"] (defScope sBlocksOf) := ⟨rfl, rfl, rfl, by decide +kernel, rfl, by decide +kernel, by decide +kernel⟩
theorem scCellsOf : FnScope ["block", "top", "left", "bottom", "right", "row", "column"] ["block"] (defScope sCellsOf) := ⟨rfl, rfl, rfl, by decide +kernel, rfl, by decide +kernel, by decide +kernel⟩
theorem scFormulaOf : FnScope ["grid", "cell", "shown"] ["grid", "cell"] (defScope sFormulaOf) := ⟨rfl, rfl, rfl, by decide +kernel, rfl, by decide +kernel, by decide +kernel⟩
theorem scCellsRead : FnScope ["grid", "cell", "tree", "found", "area", "block"] ["grid", "cell"] (defScope sCellsRead) := ⟨rfl, rfl, rfl, by decide +kernel, rfl, by decide +kernel, by decide +kernel⟩
theorem scReadsOf : FnScope ["grid", "cell"] ["grid"] (defScope sReadsOf) := ⟨rfl, rfl, rfl, by decide +kernel, rfl, by decide +kernel, by decide +kernel⟩
theorem scReadersOf : FnScope ["reads", "readers", "cell", "other"] ["reads"] (defScope sReadersOf) := ⟨rfl, rfl, rfl, by decide +kernel, rfl, by decide +kernel, by decide +kernel⟩
theorem scInSequence : FnScope ["reads", "readers", "cell", "missing", "found", "at", "reader", "other"] ["reads"] (defScope sInSequence) := ⟨rfl, rfl, rfl, by decide +kernel, rfl, by decide +kernel, by decide +kernel⟩
theorem scReached : FnScope ["steps", "start", "found", "waiting", "cell", "other"] ["steps", "start"] (defScope sReached) := ⟨rfl, rfl, rfl, by decide +kernel, rfl, by decide +kernel, by decide +kernel⟩
theorem scKnotsIn : FnScope ["reads", "readers", "cell", "safe", "told", "found", "behind", "other", "knot"] ["reads"] (defScope sKnotsIn) := ⟨rfl, rfl, rfl, by decide +kernel, rfl, by decide +kernel, by decide +kernel⟩
theorem scCellsInRings : FnScope ["reads", "knot", "cell"] ["reads"] (defScope sCellsInRings) := ⟨rfl, rfl, rfl, by decide +kernel, rfl, by decide +kernel, by decide +kernel⟩
theorem scRingCells : FnScope ["grid"] ["grid"] (defScope sRingCells) := ⟨rfl, rfl, rfl, by decide +kernel, rfl, by decide +kernel, by decide +kernel⟩
theorem scStepsTo : FnScope ["reads", "cell", "readers", "steps", "found", "at", "last", "reader"] ["reads", "cell"] (defScope sStepsTo) := ⟨rfl, rfl, rfl, by decide +kernel, rfl, by decide +kernel, by decide +kernel⟩
theorem scRingOf : FnScope ["grid", "cell", "reads", "steps", "left", "ring", "other"] ["grid", "cell"] (defScope sRingOf) := ⟨rfl, rfl, rfl, by decide +kernel, rfl, by decide +kernel, by decide +kernel⟩
theorem scLawCell : FnScope ["script", "k"] ["script", "k"] (defScope sLawCell) := ⟨rfl, rfl, rfl, by decide +kernel, rfl, by decide +kernel, by decide +kernel⟩
theorem scLawDigits : FnScope ["script", "first", "last", "digits", "k", "cell", "turn", "seed"] ["script", "first", "last"] (defScope sLawDigits) := ⟨rfl, rfl, rfl, by decide +kernel, rfl, by decide +kernel, by decide +kernel⟩
theorem scLawDraw : FnScope ["box", "many", "at"] ["box", "many"] (defScope sLawDraw) := ⟨rfl, rfl, rfl, by decide +kernel, rfl, by decide +kernel, by decide +kernel⟩
theorem scLawGcd : FnScope ["a", "b", "turn", "rest"] ["a", "b"] (defScope sLawGcd) := ⟨rfl, rfl, rfl, by decide +kernel, rfl, by decide +kernel, by decide +kernel⟩
theorem scLawLowest : FnScope ["n", "d", "common"] ["n", "d"] (defScope sLawLowest) := ⟨rfl, rfl, rfl, by decide +kernel, rfl, by decide +kernel, by decide +kernel⟩
theorem scLawDigitText : FnScope ["box", "many", "text", "k"] ["box", "many"] (defScope sLawDigitText) := ⟨rfl, rfl, rfl, by decide +kernel, rfl, by decide +kernel, by decide +kernel⟩
theorem scLawAddress : FnScope ["row", "column", "letters", "text"] ["row", "column"] (defScope sLawAddress) := ⟨rfl, rfl, rfl, by decide +kernel, rfl, by decide +kernel, by decide +kernel⟩
theorem scLawWord : FnScope ["box", "letters", "word", "k"] ["box"] (defScope sLawWord) := ⟨rfl, rfl, rfl, by decide +kernel, rfl, by decide +kernel, by decide +kernel⟩
theorem scLawLeaf : FnScope ["box", "rows", "columns", "kind", "whole", "more", "row", "column"] ["box", "rows", "columns"] (defScope sLawLeaf) := ⟨rfl, rfl, rfl, by decide +kernel, rfl, by decide +kernel, by decide +kernel⟩
theorem scLawArea : FnScope ["box", "rows", "columns", "kind", "word", "row", "column", "other", "side", "block"] ["box", "rows", "columns"] (defScope sLawArea) := ⟨rfl, rfl, rfl, by decide +kernel, rfl, by decide +kernel, by decide +kernel⟩
theorem scLawInside : FnScope ["box", "node", "least"] ["box", "node", "least"] (defScope sLawInside) := ⟨rfl, rfl, rfl, by decide +kernel, rfl, by decide +kernel, by decide +kernel⟩
theorem scLawCall : FnScope ["box", "rows", "columns", "name", "areas", "texts", "k", "area"] ["box", "rows", "columns"] (defScope sLawCall) := ⟨rfl, rfl, rfl, by decide +kernel, rfl, by decide +kernel, by decide +kernel⟩
theorem scLawNode : FnScope ["box", "rows", "columns", "depth", "kind", "left", "right", "sign", "strength", "texts"] ["box", "rows", "columns", "depth"] (defScope sLawNode) := ⟨rfl, rfl, rfl, by decide +kernel, rfl, by decide +kernel, by decide +kernel⟩
theorem scLawSame : FnScope ["actual", "due", "k"] ["actual", "due"] (defScope sLawSame) := ⟨rfl, rfl, rfl, by decide +kernel, rfl, by decide +kernel, by decide +kernel⟩
theorem scLawNames : FnScope ["box", "rows", "columns", "names", "word", "kind", "areas", "k", "area"] ["box", "rows", "columns"] (defScope sLawNames) := ⟨rfl, rfl, rfl, by decide +kernel, rfl, by decide +kernel, by decide +kernel⟩
theorem scLawSetNames : FnScope ["grid", "names", "word", "area"] ["grid", "names"] (defScope sLawSetNames) := ⟨rfl, rfl, rfl, by decide +kernel, rfl, by decide +kernel, by decide +kernel⟩
theorem scLawContent : FnScope ["box", "rows", "columns", "depth", "kind"] ["box", "rows", "columns", "depth"] (defScope sLawContent) := ⟨rfl, rfl, rfl, by decide +kernel, rfl, by decide +kernel, by decide +kernel⟩
theorem scLawNear : FnScope ["tree", "areas", "area"] ["tree"] (defScope sLawNear) := ⟨rfl, rfl, rfl, by decide +kernel, rfl, by decide +kernel, by decide +kernel⟩
theorem scLawWorld : FnScope ["box", "rows", "columns", "names", "cells", "row", "column", "shown"] ["box"] (defScope sLawWorld) := ⟨rfl, rfl, rfl, by decide +kernel, rfl, by decide +kernel, by decide +kernel⟩
theorem scLawGrid : FnScope ["world", "grid", "cell", "content"] ["world"] (defScope sLawGrid) := ⟨rfl, rfl, rfl, by decide +kernel, rfl, by decide +kernel, by decide +kernel⟩
theorem scLawBlocks : FnScope ["names", "area", "part"] ["names", "area"] (defScope sLawBlocks) := ⟨rfl, rfl, rfl, by decide +kernel, rfl, by decide +kernel, by decide +kernel⟩
theorem scLawReadsOfTree : FnScope ["names", "tree", "cells", "area", "block", "row", "column"] ["names", "tree"] (defScope sLawReadsOfTree) := ⟨rfl, rfl, rfl, by decide +kernel, rfl, by decide +kernel, by decide +kernel⟩
theorem scLawReads : FnScope ["world", "cell", "shown", "found", "other"] ["world", "cell"] (defScope sLawReads) := ⟨rfl, rfl, rfl, by decide +kernel, rfl, by decide +kernel, by decide +kernel⟩
theorem scLawAllReads : FnScope ["world", "reads", "cell"] ["world"] (defScope sLawAllReads) := ⟨rfl, rfl, rfl, by decide +kernel, rfl, by decide +kernel, by decide +kernel⟩
theorem scLawNearest : FnScope ["reads", "target", "steps", "turn", "grown", "cell", "other"] ["reads", "target"] (defScope sLawNearest) := ⟨rfl, rfl, rfl, by decide +kernel, rfl, by decide +kernel, by decide +kernel⟩
theorem scLawRing : FnScope ["reads", "cell", "steps", "best", "other", "ring", "left"] ["reads", "cell"] (defScope sLawRing) := ⟨rfl, rfl, rfl, by decide +kernel, rfl, by decide +kernel, by decide +kernel⟩
theorem scLaw : FnScope ["script", "box", "world", "grid", "reads", "due", "row", "column", "ring"] ["script"] (defScope sLaw) := ⟨rfl, rfl, rfl, by decide +kernel, rfl, by decide +kernel, by decide +kernel⟩
set_option maxHeartbeats 0 in
structure Txt (K : PySem.W.Frag) (mg : Str → Option Value) where
  fWall : Addr
  fdWall : FuncData
  FWall : Fun K "_wall" "_wall" sWall fWall fdWall
  bWall : Binds K fdWall ["k"] []
  gWall : mg "_wall" = some (.ref fWall)
  fNamedCells : Addr
  fdNamedCells : FuncData
  FNamedCells : Fun K "named_cells" "named_cells" sNamedCells fNamedCells fdNamedCells
  bNamedCells : Binds K fdNamedCells ["tree"] []
  gNamedCells : mg "named_cells" = some (.ref fNamedCells)
  fAreasOf : Addr
  fdAreasOf : FuncData
  FAreasOf : Fun K "areas_of" "areas_of" sAreasOf fAreasOf fdAreasOf
  bAreasOf : Binds K fdAreasOf ["tree"] []
  gAreasOf : mg "areas_of" = some (.ref fAreasOf)
  fToldOf : Addr
  fdToldOf : FuncData
  FToldOf : Fun K "told_of" "told_of" sToldOf fToldOf fdToldOf
  bToldOf : Binds K fdToldOf ["grid", "word"] []
  gToldOf : mg "told_of" = some (.ref fToldOf)
  fBlocksOf : Addr
  fdBlocksOf : FuncData
  FBlocksOf : Fun K "blocks_of" "blocks_of" sBlocksOf fBlocksOf fdBlocksOf
  bBlocksOf : Binds K fdBlocksOf ["grid", "area"] []
  gBlocksOf : mg "blocks_of" = some (.ref fBlocksOf)
  fCellsOf : Addr
  fdCellsOf : FuncData
  FCellsOf : Fun K "cells_of" "cells_of" sCellsOf fCellsOf fdCellsOf
  bCellsOf : Binds K fdCellsOf ["block"] []
  gCellsOf : mg "cells_of" = some (.ref fCellsOf)
  fFormulaOf : Addr
  fdFormulaOf : FuncData
  FFormulaOf : Fun K "formula_of" "formula_of" sFormulaOf fFormulaOf fdFormulaOf
  bFormulaOf : Binds K fdFormulaOf ["grid", "cell"] []
  gFormulaOf : mg "formula_of" = some (.ref fFormulaOf)
  fCellsRead : Addr
  fdCellsRead : FuncData
  FCellsRead : Fun K "cells_read" "cells_read" sCellsRead fCellsRead fdCellsRead
  bCellsRead : Binds K fdCellsRead ["grid", "cell"] []
  gCellsRead : mg "cells_read" = some (.ref fCellsRead)
  fReadsOf : Addr
  fdReadsOf : FuncData
  FReadsOf : Fun K "reads_of" "reads_of" sReadsOf fReadsOf fdReadsOf
  bReadsOf : Binds K fdReadsOf ["grid"] []
  gReadsOf : mg "reads_of" = some (.ref fReadsOf)
  fReadersOf : Addr
  fdReadersOf : FuncData
  FReadersOf : Fun K "readers_of" "readers_of" sReadersOf fReadersOf fdReadersOf
  bReadersOf : Binds K fdReadersOf ["reads"] []
  gReadersOf : mg "readers_of" = some (.ref fReadersOf)
  fInSequence : Addr
  fdInSequence : FuncData
  FInSequence : Fun K "in_sequence" "in_sequence" sInSequence fInSequence fdInSequence
  bInSequence : Binds K fdInSequence ["reads"] []
  gInSequence : mg "in_sequence" = some (.ref fInSequence)
  fReached : Addr
  fdReached : FuncData
  FReached : Fun K "_reached" "_reached" sReached fReached fdReached
  bReached : Binds K fdReached ["steps", "start"] []
  gReached : mg "_reached" = some (.ref fReached)
  fKnotsIn : Addr
  fdKnotsIn : FuncData
  FKnotsIn : Fun K "knots_in" "knots_in" sKnotsIn fKnotsIn fdKnotsIn
  bKnotsIn : Binds K fdKnotsIn ["reads"] []
  gKnotsIn : mg "knots_in" = some (.ref fKnotsIn)
  fCellsInRings : Addr
  fdCellsInRings : FuncData
  FCellsInRings : Fun K "cells_in_rings" "cells_in_rings" sCellsInRings fCellsInRings fdCellsInRings
  bCellsInRings : Binds K fdCellsInRings ["reads"] []
  gCellsInRings : mg "cells_in_rings" = some (.ref fCellsInRings)
  fRingCells : Addr
  fdRingCells : FuncData
  FRingCells : Fun K "ring_cells" "ring_cells" sRingCells fRingCells fdRingCells
  bRingCells : Binds K fdRingCells ["grid"] []
  gRingCells : mg "ring_cells" = some (.ref fRingCells)
  fStepsTo : Addr
  fdStepsTo : FuncData
  FStepsTo : Fun K "_steps_to" "_steps_to" sStepsTo fStepsTo fdStepsTo
  bStepsTo : Binds K fdStepsTo ["reads", "cell"] []
  gStepsTo : mg "_steps_to" = some (.ref fStepsTo)
  fRingOf : Addr
  fdRingOf : FuncData
  FRingOf : Fun K "ring_of" "ring_of" sRingOf fRingOf fdRingOf
  bRingOf : Binds K fdRingOf ["grid", "cell"] []
  gRingOf : mg "ring_of" = some (.ref fRingOf)
  fLawCell : Addr
  fdLawCell : FuncData
  FLawCell : Fun K "_law_cell" "_law_cell" sLawCell fLawCell fdLawCell
  bLawCell : Binds K fdLawCell ["script", "k"] []
  gLawCell : mg "_law_cell" = some (.ref fLawCell)
  fLawDigits : Addr
  fdLawDigits : FuncData
  FLawDigits : Fun K "_law_digits" "_law_digits" sLawDigits fLawDigits fdLawDigits
  bLawDigits : Binds K fdLawDigits ["script", "first", "last"] []
  gLawDigits : mg "_law_digits" = some (.ref fLawDigits)
  fLawDraw : Addr
  fdLawDraw : FuncData
  FLawDraw : Fun K "_law_draw" "_law_draw" sLawDraw fLawDraw fdLawDraw
  bLawDraw : Binds K fdLawDraw ["box", "many"] []
  gLawDraw : mg "_law_draw" = some (.ref fLawDraw)
  fLawGcd : Addr
  fdLawGcd : FuncData
  FLawGcd : Fun K "_law_gcd" "_law_gcd" sLawGcd fLawGcd fdLawGcd
  bLawGcd : Binds K fdLawGcd ["a", "b"] []
  gLawGcd : mg "_law_gcd" = some (.ref fLawGcd)
  fLawLowest : Addr
  fdLawLowest : FuncData
  FLawLowest : Fun K "_law_lowest" "_law_lowest" sLawLowest fLawLowest fdLawLowest
  bLawLowest : Binds K fdLawLowest ["n", "d"] []
  gLawLowest : mg "_law_lowest" = some (.ref fLawLowest)
  fLawDigitText : Addr
  fdLawDigitText : FuncData
  FLawDigitText : Fun K "_law_digit_text" "_law_digit_text" sLawDigitText fLawDigitText fdLawDigitText
  bLawDigitText : Binds K fdLawDigitText ["box", "many"] []
  gLawDigitText : mg "_law_digit_text" = some (.ref fLawDigitText)
  fLawAddress : Addr
  fdLawAddress : FuncData
  FLawAddress : Fun K "_law_address" "_law_address" sLawAddress fLawAddress fdLawAddress
  bLawAddress : Binds K fdLawAddress ["row", "column"] []
  gLawAddress : mg "_law_address" = some (.ref fLawAddress)
  fLawWord : Addr
  fdLawWord : FuncData
  FLawWord : Fun K "_law_word" "_law_word" sLawWord fLawWord fdLawWord
  bLawWord : Binds K fdLawWord ["box"] []
  gLawWord : mg "_law_word" = some (.ref fLawWord)
  fLawLeaf : Addr
  fdLawLeaf : FuncData
  FLawLeaf : Fun K "_law_leaf" "_law_leaf" sLawLeaf fLawLeaf fdLawLeaf
  bLawLeaf : Binds K fdLawLeaf ["box", "rows", "columns"] []
  gLawLeaf : mg "_law_leaf" = some (.ref fLawLeaf)
  fLawArea : Addr
  fdLawArea : FuncData
  FLawArea : Fun K "_law_area" "_law_area" sLawArea fLawArea fdLawArea
  bLawArea : Binds K fdLawArea ["box", "rows", "columns"] []
  gLawArea : mg "_law_area" = some (.ref fLawArea)
  fLawInside : Addr
  fdLawInside : FuncData
  FLawInside : Fun K "_law_inside" "_law_inside" sLawInside fLawInside fdLawInside
  bLawInside : Binds K fdLawInside ["box", "node", "least"] []
  gLawInside : mg "_law_inside" = some (.ref fLawInside)
  fLawCall : Addr
  fdLawCall : FuncData
  FLawCall : Fun K "_law_call" "_law_call" sLawCall fLawCall fdLawCall
  bLawCall : Binds K fdLawCall ["box", "rows", "columns"] []
  gLawCall : mg "_law_call" = some (.ref fLawCall)
  fLawNode : Addr
  fdLawNode : FuncData
  FLawNode : Fun K "_law_node" "_law_node" sLawNode fLawNode fdLawNode
  bLawNode : Binds K fdLawNode ["box", "rows", "columns", "depth"] []
  gLawNode : mg "_law_node" = some (.ref fLawNode)
  fLawSame : Addr
  fdLawSame : FuncData
  FLawSame : Fun K "_law_same" "_law_same" sLawSame fLawSame fdLawSame
  bLawSame : Binds K fdLawSame ["actual", "due"] []
  gLawSame : mg "_law_same" = some (.ref fLawSame)
  fLawNames : Addr
  fdLawNames : FuncData
  FLawNames : Fun K "_law_names" "_law_names" sLawNames fLawNames fdLawNames
  bLawNames : Binds K fdLawNames ["box", "rows", "columns"] []
  gLawNames : mg "_law_names" = some (.ref fLawNames)
  fLawSetNames : Addr
  fdLawSetNames : FuncData
  FLawSetNames : Fun K "_law_set_names" "_law_set_names" sLawSetNames fLawSetNames fdLawSetNames
  bLawSetNames : Binds K fdLawSetNames ["grid", "names"] []
  gLawSetNames : mg "_law_set_names" = some (.ref fLawSetNames)
  fLawContent : Addr
  fdLawContent : FuncData
  FLawContent : Fun K "_law_content" "_law_content" sLawContent fLawContent fdLawContent
  bLawContent : Binds K fdLawContent ["box", "rows", "columns", "depth"] []
  gLawContent : mg "_law_content" = some (.ref fLawContent)
  fLawNear : Addr
  fdLawNear : FuncData
  FLawNear : Fun K "_law_near" "_law_near" sLawNear fLawNear fdLawNear
  bLawNear : Binds K fdLawNear ["tree"] []
  gLawNear : mg "_law_near" = some (.ref fLawNear)
  fLawWorld : Addr
  fdLawWorld : FuncData
  FLawWorld : Fun K "_law_world" "_law_world" sLawWorld fLawWorld fdLawWorld
  bLawWorld : Binds K fdLawWorld ["box"] []
  gLawWorld : mg "_law_world" = some (.ref fLawWorld)
  fLawGrid : Addr
  fdLawGrid : FuncData
  FLawGrid : Fun K "_law_grid" "_law_grid" sLawGrid fLawGrid fdLawGrid
  bLawGrid : Binds K fdLawGrid ["world"] []
  gLawGrid : mg "_law_grid" = some (.ref fLawGrid)
  fLawBlocks : Addr
  fdLawBlocks : FuncData
  FLawBlocks : Fun K "_law_blocks" "_law_blocks" sLawBlocks fLawBlocks fdLawBlocks
  bLawBlocks : Binds K fdLawBlocks ["names", "area"] []
  gLawBlocks : mg "_law_blocks" = some (.ref fLawBlocks)
  fLawReadsOfTree : Addr
  fdLawReadsOfTree : FuncData
  FLawReadsOfTree : Fun K "_law_reads_of_tree" "_law_reads_of_tree" sLawReadsOfTree fLawReadsOfTree fdLawReadsOfTree
  bLawReadsOfTree : Binds K fdLawReadsOfTree ["names", "tree"] []
  gLawReadsOfTree : mg "_law_reads_of_tree" = some (.ref fLawReadsOfTree)
  fLawReads : Addr
  fdLawReads : FuncData
  FLawReads : Fun K "_law_reads" "_law_reads" sLawReads fLawReads fdLawReads
  bLawReads : Binds K fdLawReads ["world", "cell"] []
  gLawReads : mg "_law_reads" = some (.ref fLawReads)
  fLawAllReads : Addr
  fdLawAllReads : FuncData
  FLawAllReads : Fun K "_law_all_reads" "_law_all_reads" sLawAllReads fLawAllReads fdLawAllReads
  bLawAllReads : Binds K fdLawAllReads ["world"] []
  gLawAllReads : mg "_law_all_reads" = some (.ref fLawAllReads)
  fLawNearest : Addr
  fdLawNearest : FuncData
  FLawNearest : Fun K "_law_nearest" "_law_nearest" sLawNearest fLawNearest fdLawNearest
  bLawNearest : Binds K fdLawNearest ["reads", "target"] []
  gLawNearest : mg "_law_nearest" = some (.ref fLawNearest)
  fLawRing : Addr
  fdLawRing : FuncData
  FLawRing : Fun K "_law_ring" "_law_ring" sLawRing fLawRing fdLawRing
  bLawRing : Binds K fdLawRing ["reads", "cell"] []
  gLawRing : mg "_law_ring" = some (.ref fLawRing)
  fLaw : Addr
  fdLaw : FuncData
  FLaw : Fun K "law" "law" sLaw fLaw fdLaw
  bLaw : Binds K fdLaw ["script"] []
  gLaw : mg "law" = some (.ref fLaw)
  z_sorted : mg "sorted" = none
  z_min : mg "min" = none
  z_range : mg "range" = none
  z_abs : mg "abs" = none
  z_isinstance : mg "isinstance" = none
  z_bool : mg "bool" = none
  z_str : mg "str" = none
  z_list : mg "list" = none
  z_set : mg "set" = none
  z_len : mg "len" = none
  z_max : mg "max" = none
  z_tuple : mg "tuple" = none
  z_int : mg "int" = none
  t_NO_NAME : Nat
  g_NO_NAME : mg "NO_NAME" = some (.str "none" t_NO_NAME)
  cGrid : Addr
  gKGrid : mg "Grid" = some (.ref cGrid)
  clGrid : Cls K cGrid
  fGrid_Init : Addr
  fdGrid_Init : FuncData
  FGrid_Init : Fun K "__init__" "Grid.__init__" sGrid_Init fGrid_Init fdGrid_Init
  bGrid_Init : Binds K fdGrid_Init ["self", "rows", "columns"] []
  meGrid_Init : Meth K cGrid "__init__" fGrid_Init
  fGrid_Put : Addr
  fdGrid_Put : FuncData
  FGrid_Put : Fun K "put" "Grid.put" sGrid_Put fGrid_Put fdGrid_Put
  bGrid_Put : Binds K fdGrid_Put ["self", "cell", "shown"] []
  meGrid_Put : Meth K cGrid "put" fGrid_Put
  fGrid_Shown : Addr
  fdGrid_Shown : FuncData
  FGrid_Shown : Fun K "shown" "Grid.shown" sGrid_Shown fGrid_Shown fdGrid_Shown
  bGrid_Shown : Binds K fdGrid_Shown ["self", "cell"] []
  meGrid_Shown : Meth K cGrid "shown" fGrid_Shown
  fGrid_Name : Addr
  fdGrid_Name : FuncData
  FGrid_Name : Fun K "name" "Grid.name" sGrid_Name fGrid_Name fdGrid_Name
  bGrid_Name : Binds K fdGrid_Name ["self", "word", "areas"] []
  meGrid_Name : Meth K cGrid "name" fGrid_Name
  fGrid_Areas : Addr
  fdGrid_Areas : FuncData
  FGrid_Areas : Fun K "areas" "Grid.areas" sGrid_Areas fGrid_Areas fdGrid_Areas
  bGrid_Areas : Binds K fdGrid_Areas ["self", "word"] []
  meGrid_Areas : Meth K cGrid "areas" fGrid_Areas
  fGrid_Cells : Addr
  fdGrid_Cells : FuncData
  FGrid_Cells : Fun K "cells" "Grid.cells" sGrid_Cells fGrid_Cells fdGrid_Cells
  bGrid_Cells : Binds K fdGrid_Cells ["self"] []
  meGrid_Cells : Meth K cGrid "cells" fGrid_Cells
  mkGrid : Mk K cGrid fGrid_Init
  naGrid_rows : NoAttr K cGrid "rows"
  naGrid_columns : NoAttr K cGrid "columns"
  naGrid__contents : NoAttr K cGrid "_contents"
  naGrid__names : NoAttr K cGrid "_names"
  cTableError : Addr
  gKTableError : mg "TableError" = some (.ref cTableError)
  cUnknownName : Addr
  gKUnknownName : mg "UnknownName" = some (.ref cUnknownName)
  oKUnknownName : OexC K cUnknownName
  xKUnknownName : XfC K cUnknownName
  eKUnknownName : ExK K cUnknownName
  fUnknownName_Init : Addr
  fdUnknownName_Init : FuncData
  FUnknownName_Init : Fun K "__init__" "UnknownName.__init__" sUnknownName_Init fUnknownName_Init fdUnknownName_Init
  bUnknownName_Init : Binds K fdUnknownName_Init ["self", "word"] []
  iKUnknownName : PySem.W.findIn K (.ref cUnknownName) "__init__" = some (some (.ref fUnknownName_Init))
  tKUnknownName : PySem.W.typeIn K (.ref fUnknownName_Init) = some (.type "function")
  nKUnknownName_word : PySem.W.findIn K (.ref cUnknownName) "word" = some none
  mKUnknownName_TableError : PySem.W.exmOne K (.ref cUnknownName) (.ref cTableError) = some true
  mKUnknownName_UnknownName : PySem.W.exmOne K (.ref cUnknownName) (.ref cUnknownName) = some true
  kKUnknownName_UnknownName : PySem.W.kitOne K (.ref cUnknownName) (.ref cUnknownName) = some true
section
variable {P : Program} {w : World} {K : PySem.W.Frag} {mg : Str → Option Value} {base : Heap}
/-! ### heaps -/
theorem _root_.L2.Same.tup {K : PySem.W.Frag} {H H' : Hp} {a : Addr} {xs : List V} (e : Same H H') (h : SqT K H a xs) : SqT K H' a xs := by
  rcases h with (h | ⟨o, h⟩) | h
  · exact .inl (.inl (e _ _ h))
  · exact .inl (.inr ⟨o, e _ _ h⟩)
  · exact .inr h
theorem same_new {H : Hp} {p : Addr} {o : HO} (h : H p = none) : Same H (upd H p o) := fun b x e => by
  rw [upd_ne (ne_of_none e h)]
  exact e
theorem same_mut {H H' : Hp} {p : Addr} {o : HO} (e : Same H H') (h : H p = none) : Same H (upd H' p o) := fun b x ha => by
  rw [upd_ne (ne_of_none ha h)]
  exact e b x ha
theorem walk_zipT {K : PySem.W.Frag} {a b : Addr} {xs ys : List V} {n : Nat} (hn : n = min xs.length ys.length) : Walk (ItzT K a b) n (fun H => SqT K H a xs ∧ SqT K H b ys) (YPair (fun i => xs[i]?) (fun i => ys[i]?)) := by
  subst hn
  refine ⟨fun i _ hi q => ?_, fun _ q => ⟨xs, ys, q.1, q.2, by omega⟩, fun i H v H' _ q y => ?_⟩
  · have h1 : i < xs.length := by omega
    have h2 : i < ys.length := by omega
    exact ⟨xs, ys, xs[i], ys[i], q.1, q.2, by simp [h1], by simp [h2]⟩
  · obtain ⟨T, x, z, h1, h2, h3, h4, h5⟩ := y
    exact ⟨T, x, z, h1, h2, h3, h4 xs q.1, h5 ys q.2⟩
/-- a function that hands back a bool or an int and changes nothing -/
theorem getD_at {ns : List Int} {i : Nat} (h : i < ns.length) : (ns.map V.int)[i]? = some (.int (ns.getD i 0)) := by
  rw [List.getElem?_map, List.getElem?_eq_getElem h, List.getD_eq_getElem?_getD, List.getElem?_eq_getElem h]
  rfl
theorem dp_ints {K : PySem.W.Frag} {H : Hp} : ∀ ns : List Int, DpAll K H (ns.map V.int) (ns.map PyData.int)
  | [] => .nil
  | n :: r => .cons (.int n) (dp_ints r)
theorem shaped_tup (ns : List Int) : SeqAt.shaped (.tuple (ns.map PyData.int)) = true := by
  simp [SeqAt.shaped, PyData.canLay0, PyData.depth, PySem.W.ke_canLayAll0, PySem.W.ke_depthAll]
theorem shaped_lst (ns : List Int) : SeqAt.shaped (.list (ns.map PyData.int)) = true := PySem.W.ke_shaped_ints ns
theorem eqv_same {d : PyData} (h : SeqAt.shaped d = true) : PyData.eqv d d = true := by
  refine SeqAt.eqv_refl d ?_
  unfold SeqAt.shaped at h
  exact (Bool.and_eq_true _ _ ▸ h).1
theorem yesT {σ : L2.St} {H : Hp} {A B : Hp → Prop} (h : A H) : tYes σ H (fun b H3 => if b = true then A H3 else B H3) := iteT (A := A H) (B := B H) h
open L2H
/-! ### errors: made, raised, caught -/
theorem takesN {X : Cx} : L2N.Takes X (fun _ _ _ _ => False) := fun _ _ z => by
  obtain ⟨_, _, _, _, _, _, _, _, _, _, _, _, _, _, _, _, no⟩ := z
  exact no.elim
theorem hot_of {X : Cx} {a : Addr} {oe : Obj} {cls : Value} {d : Option Addr} {pn : List (Addr × Obj)} (hz : L2N.Zn cls d oe) (hf : ∃ vs, oe.data = .fields vs) : HotC (X.suite a ((a, oe) :: pn)) := by
  obtain ⟨vs, hv⟩ := hf
  exact ⟨(a, oe), ⟨rfl, vs, hv, hz.2.2 vs hv⟩, List.mem_cons_self ..⟩
theorem okN {x qual : Str} {st : Stmt} {f : Addr} {fd : FuncData} {N ps : List Str} {k : Nat} {sp : Sp} (F : Fun K x qual st f fd) (S : FnScope N ps (defScope st)) (len : ∀ vs H Q E, sp vs H Q E → vs.length = ps.length)
    (go : ∀ (cdv : Value) (A : Around) (outer : List Env) (s : Shared) (H : Hp) (vs : List V) (Q : VK) (E : XK), Room k (A.deeper (envOfC qual (defScope st) s.heap.objs.size f cdv)) → sp vs H Q E →
      ∃ t, PSs (cxOf (L2N.CX P w) P w K mg base N qual (defScope st) f cdv A outer s H E) (defBody st) t ∧ t { nx := fun _ G => Q .non G, rt := Q } (start N vs) H) : FnOk P w K mg base (L2N.CX P w) (k + 1) f fd ps sp := by
  obtain ⟨oc, od, kV, doc, pm, an, cdv, ct, osl, rfl, look, code⟩ := F.ex
  exact fn_of look code S len fun A outer s H vs Q E room h => go cdv A outer s H vs Q E room h
theorem okHot {x qual : Str} {st : Stmt} {f : Addr} {fd : FuncData} {N ps : List Str} {k : Nat} {sp : Sp} (F : Fun K x qual st f fd) (S : FnScope N ps (defScope st)) (len : ∀ vs H Q E, sp vs H Q E → vs.length = ps.length)
    (go : ∀ (cdv : Value) (A : Around) (outer : List Env) (s : Shared) (H : Hp) (vs : List V) (Q : VK) (E : XK) (p : Addr × Obj), Hot1 A p → RoomH k (A.deeper (envOfC qual (defScope st) s.heap.objs.size f cdv)) → sp vs H Q E →
      ∃ t, PSs (cxH CX0 P w K mg base N qual (defScope st) f cdv A outer s H E p) (defBody st) t ∧ t { nx := fun _ G => Q .non G, rt := Q } (start N vs) H) : FnH P w K mg base CX0 (k + 1) f fd ps sp := by
  obtain ⟨oc, od, kV, doc, pm, an, cdv, ct, osl, rfl, look, code⟩ := F.ex
  exact fn_ofH look code S len fun A outer s H vs Q E p hot room h => go cdv A outer s H vs Q E p hot room h
/-- isinstance(e, D) of the error that the suite holds -/
def rIsX (K : PySem.W.Frag) (a C : Addr) (cls : Value) (d : Option Addr) : List V → Hp → VK → Prop := fun xs H Q => ∃ (D dd : Addr) (fs : List (Str × V)) (b : Bool), xs = [.ref a, .ref D] ∧ cls = .ref C ∧ d = some dd ∧ H dd = some (.xd fs) ∧ PySem.W.kitOne K (.ref C) (.ref D) = some b ∧ Q (.bl b) H
theorem cr_isX {X : Cx} {a C : Addr} {cls : Value} {d : Option Addr} {oe : Obj} {pn : List (Addr × Obj)} (Z : ExK X.K C) (hz : Zc cls d oe) (hf : ∃ vs, oe.data = .fields vs) : CallR (X.suite a ((a, oe) :: pn)) (.builtin "isinstance") (rIsX X.K a C cls d) := by
  intro pins s σ H xs us Q I r h
  obtain ⟨D, dd, fs, b, rfl, rfl, rfl, hd, e, q⟩ := h
  cases r with
  | cons r1 rr =>
    cases rr with
    | cons r2 rr =>
      cases rr
      cases r1
      cases r2
      have there := (I.pin (a, oe) (List.mem_append_left _ (List.mem_cons_self ..))).1
      obtain ⟨vs, hv⟩ := hf
      have ox : ObjOk X.prog X.w H s.heap dd (.xd fs) := I.hok dd _ hd
      obtain ⟨m, hn, _⟩ := ox
      obtain ⟨od, ho, _⟩ := lookIn_ns hn
      have J : PySem.W.InstAt s.heap a oe C (some od) := ⟨there, hz.1, by unfold PySem.W.notCls; rw [hv] <;> rfl, by rw [hz.2]; exact ho⟩
      exact PySem.W.kia_one (PySem.W.kitx_exc Z.cl Z.x.ga Z.x.gg Z.x.exC Z.cc Z.cn Z.ct Z.cm) I.kIn J e (fun z => nomatch z) fun tk => ⟨.bl b, H, I.tok tk, rfl, q⟩
/-- C(e, ..), made where nothing is handled -/
theorem mkN {X : Cx} {CX : CXT} {nm : Str} {C g : Addr} {j : Nat} {fd : FuncData} {pz : List Str} {sp : Sp} {e0 : Expr} {er : List Expr} {tg : TA} {p1 p2 : Pos} (O : OexC X.K C) (hI : PySem.W.findIn X.K (.ref C) "__init__" = some (some (.ref g)))
    (hT : PySem.W.typeIn X.K (.ref g) = some (.type "function")) (G : FnOk X.prog X.w X.K X.mg X.base CX j g fd pz sp) (rm : Room (j + 1) X.A) (bn : Binds X.K fd pz []) (no : Passes CX X (fun _ _ _ => False)) (gl : Gl X nm) (at_ : X.mg nm = some (.ref C)) (as : PA X (e0 :: er) tg)
    (nd : (nm == ("__debug__" : Str)) = false := by decide) (st : starEach (e0 :: er) X.env = (false, eval e0 X.env) :: starEach er X.env := by rfl) (pl : (backTo p2 (starEach er X.env)).any (·.1) = false := by rfl) :
    L2N.PMk X (.Call (.Name nm p1) (e0 :: er) [] p2) (tMkO C sp [] tg) := by
  intro pins s σ H Q I h
  obtain ⟨n1, n2, n3, n4, bm, n5, n6, n7, n8, n9, m0, m1, m2, m3, m5, hC, hbm⟩ := O.cls
  refine wpAny_Call_Name_kw (ld_glob I gl at_ ?_ nd)
  refine PySem.W.callWith_K (h₀ := X.base) I.ok.mod.kin O.kC (thn (as.run p2 pins s σ H _ I h) fun us s1 ⟨vs, H1, J1, r1, hz, q1⟩ => ⟨J1.kIn, ?_⟩) st pl
  show wpAny _ _ (call (.ref C) us) _ _ _
  obtain ⟨hp, gs, dr, tok, os⟩ := s1
  have up1 : hp.objs.size ≤ hp.objs.size + 1 := Nat.le_succ _
  have hq := q1 (hp.objs.size + 1) (J1.hok.fresh up1)
  have old : ∀ b o, hp.get? b = some o → ((hp.push (PySem.W.kdv_tup us)).push (PySem.HandSPX.excO C hp.objs.size)).get? b = some o := fun b o z => Heap.get?_push_of_some _ (Heap.get?_push_of_some _ z)
  have new : ((hp.push (PySem.W.kdv_tup us)).push (PySem.HandSPX.excO C hp.objs.size)).get? (hp.objs.size + 1) = some (PySem.HandSPX.excO C hp.objs.size) := by heap_get
  have J2 : Inv X pins σ (upd H1 (hp.objs.size + 1) (exo (hp.objs.size + 1) C none)) ⟨(hp.push (PySem.W.kdv_tup us)).push (PySem.HandSPX.excO C hp.objs.size), gs, dr, tok, os⟩ := J1.laid (t' := tok) old up1 (exo_ok new)
  rw [List.append_nil] at hq
  have r2 : Vals (V.ref (hp.objs.size + 1) :: vs) (Value.ref (hp.objs.size + 1) :: us) := .cons rfl r1
  have nl : (Value.ref (hp.objs.size + 1) :: us).length = pz.length := r2.length.symm.trans (G.len _ _ _ _ hq)
  have bd := bn ⟨(hp.push (PySem.W.kdv_tup us)).push (PySem.HandSPX.excO C hp.objs.size), gs, dr, tok, os⟩ (Value.ref (hp.objs.size + 1) :: us) J2.kIn (by rw [List.append_nil]; exact nl)
  rw [List.append_nil] at bd
  have sz : us.length ≤ sizeLine := by
    rw [← r1.length, sizeLine_eq]
    omega
  refine wpAny_call (PySem.HandSPX.call_own F.excBase_ValueError (fun z => PySem.HandSPX.refsVE_contains z bm hbm) (J1.kIn _ _ hC) (PySem.W.looks_findIn J1.kIn hI) (fun z => PySem.W.bind_fn J1.kIn z hT) sz (codeAny_mono (G.run _ X.stack _ _ ⟨Value.ref (hp.objs.size + 1) :: us, []⟩ _ _ _ (fun _ _ _ => False) (rm.make C us []) (J2.env0.make C us []) bd r2 hq) fun r s2 w => ?_))
  cases r with
  | error er => exact no pins σ _ _ er s2 J2 w
  | ok fl =>
    cases fl with
    | ret u =>
      obtain ⟨v, H2, os2, bare2, un2, hok2, rv, ev, d, fs, ea, ed, hd1, q2⟩ := w
      subst ev
      obtain ⟨h2, gs2, dr2, tok2, os3⟩ := s2
      obtain ⟨t0, G2, J, _, ge, hoe, na⟩ := mk_end0 (d2 := dr2) (t2 := tok2) J1 up1 old un2 hok2 os2 bare2 ea ed hd1
      have kG : ∀ b o, G2.get? b = some o → h2.get? b = some o := by assumption
      exact ⟨rv, hp.objs.size + 1, _, _, ⟨G2, gs2, dr2, tok2, os3⟩, _, .ref C, some d, rfl, J, kG, ge, hoe, ⟨rfl, rfl, fun vs hv => by cases hv; rfl⟩, rfl, rfl, na, rfl, bare2, raises_own O.exC O.tyC, q2⟩
    | next => exact w.elim
    | brk => exact w.elim
    | cont => exact w.elim
/-- the promise of an __init__ that keeps its one argument -/
def spIni (K : PySem.W.Frag) (C : Addr) (f : Str) : Sp := fun vs H Q _ => ∃ (a : Addr) (y : V), vs = [.ref a, y] ∧ H a = some (exo a C none) ∧ ∀ d, H d = none → d ≠ a → Q .non (upd (upd H d (exd d [(f, y)])) a (exo a C (some d)))
theorem mk_heap {H : Hp} {a d : Addr} {o1 o2 o3 o4 : HO} (ha : H a = none) (hd : d ≠ a) : upd (del (upd (upd (upd H a o1) d o2) a o3) a) d o4 = upd H d o4 := by
  funext b
  by_cases h1 : b = d
  · rw [h1, upd_same, upd_same]
  · rw [upd_ne h1, upd_ne h1]
    by_cases h2 : b = a
    · rw [h2, del_same, ha]
    · rw [del_ne h2, upd_ne h2, upd_ne h1, upd_ne h2]
/-- what raising such an error asks -/
theorem ini_of {K : PySem.W.Frag} {C : Addr} {f : Str} {y : V} {H : Hp} {Q : XK} (q : ∀ d, H d = none → Q (.ref C) (some d) (upd H d (.xd [(f, y)]))) : ∀ a, H a = none → spIni K C f (.ref a :: ([y] ++ [])) (upd H a (exo a C none))
    (fun v H2 => v = .non ∧ ∃ (d : Addr) (fs : List (Str × V)), H2 a = some (exo a C (some d)) ∧ H2 d = some (exd d fs) ∧ H d = none ∧ Q (.ref C) (some d) (upd (del H2 a) d (.xd fs))) (fun _ _ _ => False) := fun a ha =>
  ⟨a, y, rfl, upd_same, fun d hd hne => by
    have hd0 : H d = none := by
      rw [upd_ne hne] at hd
      exact hd
    refine ⟨rfl, d, [(f, y)], upd_same, by rw [upd_ne hne, upd_same], hd0, ?_⟩
    rw [mk_heap ha hne]
    exact q d hd0⟩
/-! ### methods that may raise -/
def tMethE (C : Addr) (m : Str) (sp : Sp) (E : L2.St → XK) (ta : TE) (t : TA) : TE := fun σ H Q => ta σ H fun x H1 => ∃ a dx fs, x = .ref a ∧ H1 a = some (.ins C dx fs) ∧ fs.lookup m = none ∧ t σ H1 fun vs H2 => sp (x :: vs) H2 Q (E σ)
theorem pe_methE {X : Cx} {CX : CXT} {k : Nat} {C f : Addr} {fd : FuncData} {ps : List Str} {m : Str} {sp : Sp} {E : L2.St → XK} {o e : Expr} {es : List Expr} {ta : TE} {t : TA} {apos pos : Pos} {pl : Sem Bool} (he : PE X o ta) (c : Cls X.K C) (hm : Meth X.K C m f)
    (F : FnOk X.prog X.w X.K X.mg X.base CX k f fd ps sp) (hr : Room k X.A) (hb : Binds X.K fd ps []) (hx : ∀ σ, PassesAt CX X σ (E σ)) (ha : PA X (e :: es) t)
    (hst : starEach (e :: es) X.env = (false, eval e X.env) :: starEach es X.env := by rfl) (hpl : (backTo pos (starEach es X.env)).any (·.1) = false := by rfl)
    (ht : eval (.Call (.Attribute o m apos) (e :: es) [] pos) X.env = (do
      let ov ← eval o X.env
      standAt apos.atName
      let (f, first) ← holding [ov] (getMethod ov m pl)
      callWith pos f first (backTo pos (starEach (e :: es) X.env)) (backToKw pos (keywordEach [] X.env))) := by rfl) :
    PE X (.Call (.Attribute o m apos) (e :: es) [] pos) (tMethE C m sp E ta t) := by
  refine ⟨fun pins s σ H Q I h => ?_⟩
  refine PySem.W.methodCall_KW (pl := pl) (thn (he.run pins s σ H _ I h) fun u s1 ⟨x, H1, I1, rx, a, dx, fs, ex, ea, l, q⟩ => ?_) ht
  subst ex
  obtain rfl : u = Value.ref a := rx
  refine getmeth_ok I1 ea c hm l ?_
  refine PySem.W.callWith_K (first := [.ref a]) (h₀ := X.base) I.ok.mod.kin hm.kp (thn (ha.run pos pins s1 σ H1 _ I1 q) fun us s2 ⟨vs, H2, I2, r, q2⟩ => ⟨I2.kIn, ?_⟩) hst hpl
  exact run_fnS (us := .ref a :: us) (vs := .ref a :: vs) F hr hb (hx σ) I2 (.cons rfl r) q2
theorem pe_methE0 {X : Cx} {CX : CXT} {k : Nat} {C f : Addr} {fd : FuncData} {ps : List Str} {m : Str} {sp : Sp} {E : L2.St → XK} {o : Expr} {ta : TE} {apos pos : Pos} {pl : Sem Bool} (he : PE X o ta) (c : Cls X.K C) (hm : Meth X.K C m f)
    (F : FnOk X.prog X.w X.K X.mg X.base CX k f fd ps sp) (hr : Room k X.A) (hb : Binds X.K fd ps []) (hx : ∀ σ, PassesAt CX X σ (E σ))
    (ht : eval (.Call (.Attribute o m apos) [] [] pos) X.env = (do
      let ov ← eval o X.env
      standAt apos.atName
      let (f, first) ← holding [ov] (getMethod ov m pl)
      callWith pos f first (backTo pos (starEach [] X.env)) (backToKw pos (keywordEach [] X.env))) := by rfl) :
    PE X (.Call (.Attribute o m apos) [] [] pos) (tMethE C m sp E ta tNil) := by
  refine ⟨fun pins s σ H Q I h => ?_⟩
  refine PySem.W.methodCall_KW (pl := pl) (thn (he.run pins s σ H _ I h) fun u s1 ⟨x, H1, I1, rx, a, dx, fs, ex, ea, l, q⟩ => ?_) ht
  subst ex
  obtain rfl : u = Value.ref a := rx
  refine getmeth_ok I1 ea c hm l ?_
  exact PySem.W.callWith_K0 (first := [.ref a]) I1.kIn hm.kp (run_fnS (us := [.ref a]) (vs := [.ref a]) F hr hb (hx σ) I1 (.cons rfl .nil) q)
theorem pe_fldK {X : Cx} {K : PySem.W.Frag} {e : Expr} {f : Str} {pos : Pos} {ta : TE} (h : X.K = K) (he : PE X e ta) (hb : attributeBase e f X.env (eval e X.env) = eval e X.env) : PE X (.Attribute e f pos) (tFld K ta f) := by
  subst h
  exact pe_fld he hb
theorem ps_fldK {X : Cx} {K : PySem.W.Frag} {o value : Expr} {f : Str} {pos pos' : Pos} {ta tv : TE} (h : X.K = K) (ha : PE X o ta) (hv : PE X value tv) (hs : swapsWith value (some (.Attribute o f pos')) pos.line X.env = pure false) : PS X (.Assign [.Attribute o f pos'] value pos) (sFld K ta tv f) := by
  subst h
  exact ps_fld ha hv hs
/-! ### texts -/
open SX (S S_len S_cat slice_to slice_from num_S int_S)
open PySem.NumText (digitsVal AllDigits)
open TL (numL)
def cap (c : Nat) : Bool := decide (65 ≤ c ∧ c ≤ 90)
def dig (c : Nat) : Bool := decide (48 ≤ c ∧ c ≤ 57)
theorem dig_mem (c : Nat) : decide (c ∈ ("0123456789" : Str).cps.toList) = dig c := by
  have e : ("0123456789" : Str).cps.toList = [48, 49, 50, 51, 52, 53, 54, 55, 56, 57] := by decide +kernel
  rw [e]
  unfold dig
  refine decide_eq_decide.mpr ?_
  simp only [List.mem_cons, List.not_mem_nil, or_false]
  omega
theorem cap_mem (c : Nat) : decide (c ∈ ("ABCDEFGHIJKLMNOPQRSTUVWXYZ" : Str).cps.toList) = cap c := by
  have e : ("ABCDEFGHIJKLMNOPQRSTUVWXYZ" : Str).cps.toList = [65, 66, 67, 68, 69, 70, 71, 72, 73, 74, 75, 76, 77, 78, 79, 80, 81, 82, 83, 84, 85, 86, 87, 88, 89, 90] := by decide +kernel
  rw [e]
  unfold cap
  refine decide_eq_decide.mpr ?_
  simp only [List.mem_cons, List.not_mem_nil, or_false]
  omega
theorem walk_S {a : List Nat} : Walk (Its (S a)) a.length (fun _ => True) (fun i H v H' => H' = H ∧ ∃ c, a[i]? = some c ∧ v = .str (S [c])) :=
  ⟨fun i _ hi _ => by show i < a.toArray.size; simpa using hi, fun _ _ => by show a.toArray.size ≤ a.length; simp, fun i H v H' _ _ y => by
    obtain ⟨e, c, h1, h2⟩ := y
    exact ⟨e, c, by simpa using h1, h2⟩⟩
theorem tw_len {p : Nat → Bool} : ∀ {a : List Nat} {i c : Nat}, (∀ x ∈ a.take i, p x = true) → a[i]? = some c → p c = false → (a.takeWhile p).length = i
  | [], i, c, _, e, _ => by simp at e
  | x :: r, 0, c, _, e, hc => by
    have e2 := Option.some.inj e
    rw [List.takeWhile_cons, e2, hc]
    rfl
  | x :: r, i + 1, c, h, e, hc => by
    have hx : p x = true := h x (by simp)
    rw [List.takeWhile_cons, hx]
    show ((r.takeWhile p).length + 1) = i + 1
    rw [tw_len (fun y hy => h y (by rw [List.take_succ_cons]; exact List.mem_cons_of_mem _ hy)) (by simpa using e) hc]
theorem tw_all {p : Nat → Bool} {a : List Nat} (h : ∀ x ∈ a, p x = true) : (a.takeWhile p).length = a.length := by
  induction a with
  | nil => rfl
  | cons x r ih =>
    rw [List.takeWhile_cons, h x List.mem_cons_self]
    show (r.takeWhile p).length + 1 = r.length + 1
    rw [ih fun y hy => h y (List.mem_cons_of_mem _ hy)]
theorem tw_self {p : Nat → Bool} : ∀ {a : List Nat}, (∀ x ∈ a, p x = true) → a.takeWhile p = a
  | [], _ => rfl
  | x :: r, h => by rw [List.takeWhile_cons, h x List.mem_cons_self, if_pos rfl, tw_self fun y hy => h y (List.mem_cons_of_mem _ hy)]
theorem tw_le {p : Nat → Bool} (a : List Nat) : (a.takeWhile p).length ≤ a.length := by
  induction a with
  | nil => exact Nat.le_refl _
  | cons x r ih =>
    rw [List.takeWhile_cons]
    split
    · exact Nat.succ_le_succ ih
    · exact Nat.zero_le _
theorem tw_take {p : Nat → Bool} : ∀ (a : List Nat), ∀ x ∈ a.take (a.takeWhile p).length, p x = true
  | [], x, h => by simp at h
  | y :: r, x, h => by
    rw [List.takeWhile_cons] at h
    split at h
    · rename_i hy
      rw [List.length_cons, List.take_succ_cons] at h
      rcases List.mem_cons.mp h with e | e
      · rw [e]
        exact hy
      · exact tw_take r x e
    · simp at h
theorem tw_full {p : Nat → Bool} {a : List Nat} (h : (a.takeWhile p).length = a.length) : ∀ x ∈ a, p x = true := fun x hx => tw_take a x (by rw [h, List.take_length]; exact hx)
theorem tw_congr {p q : Nat → Bool} (h : ∀ c, p c = q c) (a : List Nat) : a.takeWhile p = a.takeWhile q := by
  rw [show p = q from funext h]
theorem in12 (n : Int) : inV (.int n) [.int 1, .int 2] = decide (n = 1 ∨ n = 2) := by
  show ((1 : Int) == n || ((2 : Int) == n || false)) = _
  rw [Bool.eq_iff_iff]
  simp only [Bool.or_false, Bool.or_eq_true, beq_iff_eq, decide_eq_true_eq]
  omega
theorem sz100 {n : Nat} (h : n ≤ 100000) : n ≤ sizeLine := Nat.le_trans h (by decide)
theorem item_by {α : Type} (f : α → V) {xs : List α} {k : Int} (h0 : 0 ≤ k) (h1 : k < xs.length) : ∃ v ∈ xs, atI (xs.map f) k = some (f v) := by
  obtain ⟨j, rfl⟩ := Int.eq_ofNat_of_zero_le h0
  have hj : j < xs.length := by omega
  exact ⟨xs[j], List.getElem_mem hj, atI_nat (by rw [List.getElem?_map, List.getElem?_eq_getElem hj]; rfl)⟩
theorem dig_all {a : List Nat} (h : a.all dig = true) : AllDigits a := fun c hc => of_decide_eq_true (List.all_eq_true.mp h c hc)
theorem int_dig {a : List Nat} (h : a.all dig = true) (hne : a ≠ []) (hl : a.length ≤ 640) : intText? (S a) = some ((digitsVal a : Nat) : Int) := intText_digits (x := S a) (dig_all h) hne (by rw [S_len]; omega)
/-! ### a run of signs -/
def rn (z : Str) (a : List Nat) : Nat := (a.takeWhile fun c => decide (c ∈ z.cps.toList)).length
theorem ix_tupK {X : Cx} {K : PySem.W.Frag} (h : X.K = K) : IxR X (rIxT K) := by
  subst h
  exact ix_tup
theorem ix_listK {X : Cx} {K : PySem.W.Frag} (h : X.K = K) : IxR X (rIxL K) := by
  subst h
  exact ix_list
theorem call_len_seqK {X : Cx} {K : PySem.W.Frag} (h : X.K = K) : CallR X (.builtin "len") (fun xs H Q => ∃ p ys, xs = [.ref p] ∧ (SqL K H p ys ∨ SqT K H p ys) ∧ Q (.int ys.length) H) := by
  subst h
  exact call_len_seq
theorem units65 {k : Nat} {A : Around} (r : Room k A) : A.units + 65 < cLine := by
  have := r.un
  omega
def rCountD (K : PySem.W.Frag) : V → List V → Hp → VK → Prop := fun x xs H Q => ∃ (a : Addr) (y : V) (d : PyData) (ds : List PyData), x = V.ref a ∧ xs = [y] ∧ Dp K H (V.ref a) (.list ds) ∧ Dp K H y d ∧
  SeqAt.shaped (.list ds) = true ∧ SeqAt.shaped d = true ∧ Q (.int ((ds.countP fun z => PyData.eqv z d : Nat) : Int)) H
theorem mt_countD {X : Cx} (hu : X.A.units + 65 < cLine) : MtR X "list.count" (rCountD X.K) := by
  intro pins s σ H x xs v us Q I rx rxs h
  obtain ⟨a, y, d, ds, rfl, rfl, hl, hy, sl, sd, q⟩ := h
  cases rx
  cases rxs with
  | cons ry rt =>
    rename_i uy ut
    cases rt
    obtain ⟨bs, r1⟩ := Dp.reads I d y uy hy ry
    have hxs : PyData.canLayAll0 ds = true := SeqAt.canLay_of_shaped sl
    have hroom : X.A.units + 1 + min (PyData.depthAll ds) d.depth < cLine := room_in_shaped sd hu
    cases hl with
    | lst hs ha =>
      obtain ⟨its, rv, ⟨⟨cls, dd, data, sls⟩, n, ho, hc, hdn, hdt⟩, hlen⟩ := I.list hs
      simp only at hc hdt
      subst hc hdt
      obtain ⟨as, h4⟩ := Dp.readsAll I ds _ its ha rv
      have hmap : its.map (SeqAt.readOf s.heap) = ds := SeqAt.readsAll_map ds its as hxs h4
      have hc : its.countP (fun u => PyData.eqv (SeqAt.readOf s.heap u) d) = ds.countP fun z => PyData.eqv z d := by
        conv => rhs; rw [← hmap, List.countP_map]
        rfl
      refine call_meets PySem.F.slot_list_count ⟨_, ho, rfl⟩ PySem.F.entry_list_count (PySem.F.args_list_count_2 _ _)
        (SeqAt.list_countAt a its.toArray n dd sls uy (fun u => PyData.eqv (SeqAt.readOf s.heap u) d)) ⟨ho, SeqAt.items_eqAt (vs := its.toArray) (show ReadsAll s.heap its.toArray.toList ds as from h4) r1 hxs (SeqAt.canLay_of_shaped sd) hroom, ?_⟩
      refine ⟨.int _, H, I.tok _, ⟨_, rfl⟩, ?_⟩
      rw [List.toList_toArray, hc]
      exact q
/-! ### ids -/
def idD (z : Int × Int) : PyData := .tuple [.int z.1, .int z.2]
theorem idD_lay (z : Int × Int) : (idD z).canLay0 = true := by simp [idD, PyData.canLay0, PyData.canLayAll0]
theorem idD_depth (z : Int × Int) : (idD z).depth = 1 := by simp [idD, PyData.depth, PyData.depthAll]
theorem idDs_lay : ∀ zs : List (Int × Int), PyData.canLayAll0 (zs.map idD) = true
  | [] => by simp [PyData.canLayAll0]
  | z :: zs => by simp [PyData.canLayAll0, idD_lay z, idDs_lay zs]
theorem idDs_depth : ∀ zs : List (Int × Int), PyData.depthAll (zs.map idD) ≤ 1
  | [] => by simp [PyData.depthAll]
  | z :: zs => by
    have h1 := idDs_depth zs
    have h2 := idD_depth z
    simp only [List.map_cons, PyData.depthAll]
    omega
theorem idD_shaped (z : Int × Int) : SeqAt.shaped (idD z) = true := by
  have h := idD_depth z
  show ((idD z).canLay0 && decide ((idD z).depth ≤ 64)) = true
  rw [Bool.and_eq_true]
  exact ⟨idD_lay z, decide_eq_true (by omega)⟩
theorem idDs_shaped (zs : List (Int × Int)) : SeqAt.shaped (.list (zs.map idD)) = true := by
  have h1 := idDs_depth zs
  have h2 : PyData.depth (.list (zs.map idD)) ≤ 64 := by
    simp only [PyData.depth]
    omega
  show (PyData.canLay0 (.list (zs.map idD)) && decide (PyData.depth (.list (zs.map idD)) ≤ 64)) = true
  rw [Bool.and_eq_true]
  exact ⟨by simp only [PyData.canLay0]; exact idDs_lay zs, decide_eq_true h2⟩
theorem idD_eqv (z w : Int × Int) : PyData.eqv (idD z) (idD w) = decide (z = w) := by
  obtain ⟨a, b⟩ := z
  obtain ⟨a', b'⟩ := w
  have e : PyData.eqv (idD (a, b)) (idD (a', b')) = ((a == a') && ((b == b') && true)) := by simp only [idD, PyData.eqv, PyData.eqvAll]
  rw [e, Bool.eq_iff_iff]
  simp
theorem idDs_any (zs : List (Int × Int)) (w : Int × Int) : ((zs.map idD).any fun z => PyData.eqv z (idD w)) = decide (w ∈ zs) := by
  rw [Bool.eq_iff_iff, List.any_eq_true]
  constructor
  · rintro ⟨x, hx, hw⟩
    obtain ⟨z, hz, rfl⟩ := List.mem_map.mp hx
    rw [idD_eqv] at hw
    rw [← of_decide_eq_true hw]
    exact decide_eq_true hz
  · intro h
    exact ⟨idD w, List.mem_map.mpr ⟨w, of_decide_eq_true h, rfl⟩, by rw [idD_eqv]; exact decide_eq_true rfl⟩
theorem idDs_count (zs : List (Int × Int)) (w : Int × Int) : ((zs.map idD).countP fun z => PyData.eqv z (idD w)) = zs.countP fun z => decide (z = w) := by
  rw [List.countP_map]
  refine List.countP_congr fun z _ => ?_
  show PyData.eqv (idD z) (idD w) = true ↔ _
  rw [idD_eqv]
/-! ### edits -/
structure Ed where
  p : Nat
  n : Int
  v : List Int
def Ed.id (e : Ed) : Int × Int := (1 + (e.p : Int), e.n)
structure OkE (e : Ed) : Prop where
  p : e.p < 4
  n : 1 ≤ e.n
  v : e.v.length = 4
  nh : e.n ≤ 20
  vh : ∀ z ∈ e.v, 0 ≤ z ∧ z ≤ 20
theorem OkE.at_ {e : Ed} (h : OkE e) {j : Nat} (hj : j < 4) : 0 ≤ e.v.getD j 0 ∧ e.v.getD j 0 ≤ 20 := by
  have : j < e.v.length := by rw [h.v]; exact hj
  rw [List.getD_eq_getElem?_getD, List.getElem?_eq_getElem this]
  exact h.vh _ (List.getElem_mem this)
inductive RepI (H : Hp) : List V → List Ed → Prop where
  | nil : RepI H [] []
  | cons {a : Addr} {e : Ed} {vs : List V} {ds : List Ed} : H a = some (.tup [.int (1 + (e.p : Int)), .int e.n]) → RepI H vs ds → RepI H (.ref a :: vs) (e :: ds)
def TK (H H' : Hp) : Prop := ∀ q xs, H q = some (.tup xs) → H' q = some (.tup xs)
theorem TK.of {H H' : Hp} (s : Same H H') : TK H H' := fun q xs h => s q _ h
theorem TK.trans {H H1 H2 : Hp} (a : TK H H1) (b : TK H1 H2) : TK H H2 := fun q xs h => b q xs (a q xs h)
theorem TK.mut {H : Hp} {d : Addr} {xs : List V} {o : HO} (h : H d = some (.lst xs)) : TK H (upd H d o) := fun q ys hq => by
  have : q ≠ d := fun z => by
    rw [z, h] at hq
    cases hq
  rw [upd_ne this]
  exact hq
theorem RepI.mono {H H' : Hp} (s : TK H H') : ∀ {vs ds}, RepI H vs ds → RepI H' vs ds
  | _, _, .nil => .nil
  | _, _, .cons h r => .cons (s _ _ h) (r.mono s)
theorem RepI.snoc {H : Hp} {a : Addr} {e : Ed} (h : H a = some (.tup [.int (1 + (e.p : Int)), .int e.n])) : ∀ {vs ds}, RepI H vs ds → RepI H (vs ++ [.ref a]) (ds ++ [e])
  | _, _, .nil => .cons h .nil
  | _, _, .cons h2 r => .cons h2 (r.snoc h)
theorem dp_id {K : PySem.W.Frag} {H : Hp} {a : Addr} {x y : Int} (h : H a = some (.tup [.int x, .int y])) : Dp K H (.ref a) (idD (x, y)) := .tup (SqT.of h) (.cons (.int _) (.cons (.int _) .nil))
theorem RepI.dp {K : PySem.W.Frag} {H : Hp} : ∀ {vs ds}, RepI H vs ds → DpAll K H vs ((ds.map Ed.id).map idD)
  | _, _, .nil => .nil
  | _, _, .cons h r => .cons (dp_id h) r.dp
def EdAt (H : Hp) (x : V) (e : Ed) : Prop := ∃ (q a b : Addr) (c : V), x = .ref q ∧ H q = some (.tup [.ref a, .ref b, c]) ∧ H a = some (.tup [.int (1 + (e.p : Int)), .int e.n]) ∧ H b = some (.tup (e.v.map V.int))
theorem EdAt.mono {H H' : Hp} {x : V} {e : Ed} (s : TK H H') (h : EdAt H x e) : EdAt H' x e := by
  obtain ⟨q, a, b, c, h0, h1, h2, h3⟩ := h
  exact ⟨q, a, b, c, h0, s _ _ h1, s _ _ h2, s _ _ h3⟩
structure Rep (H : Hp) (rs : List V) (D : List Ed) : Prop where
  len : rs.length = D.length
  at_ : ∀ (i : Nat) (x : V) (e : Ed), rs[i]? = some x → D[i]? = some e → EdAt H x e
theorem Rep.mono {H H' : Hp} {rs : List V} {D : List Ed} (s : TK H H') (h : Rep H rs D) : Rep H' rs D := ⟨h.len, fun i x e h1 h2 => (h.at_ i x e h1 h2).mono s⟩
theorem Rep.nil {H : Hp} : Rep H [] [] := ⟨rfl, fun i x e h => by simp at h⟩
theorem Rep.snoc {H : Hp} {rs : List V} {D : List Ed} {x : V} {e : Ed} (h : Rep H rs D) (E : EdAt H x e) : Rep H (rs ++ [x]) (D ++ [e]) := by
  refine ⟨by rw [List.length_append, List.length_append, h.len]; rfl, fun i y f h1 h2 => ?_⟩
  rcases Nat.lt_or_ge i rs.length with z | z
  · rw [List.getElem?_append_left z] at h1
    rw [List.getElem?_append_left (by rw [← h.len]; exact z)] at h2
    exact h.at_ i y f h1 h2
  · rw [List.getElem?_append_right z] at h1
    rw [List.getElem?_append_right (by rw [← h.len]; exact z), ← h.len] at h2
    generalize i - rs.length = j at h1 h2
    rcases j with _ | j
    · simp at h1 h2
      rw [← h1, ← h2]
      exact E
    · simp at h1
theorem Rep.rev {H : Hp} {rs : List V} {D : List Ed} (h : Rep H rs D) : Rep H rs.reverse D.reverse := by
  refine ⟨by rw [List.length_reverse, List.length_reverse, h.len], fun i x e h1 h2 => ?_⟩
  have hi : i < rs.length := by
    have := (List.getElem?_eq_some_iff.mp h1).1
    rwa [List.length_reverse] at this
  rw [List.getElem?_reverse hi] at h1
  rw [List.getElem?_reverse (by rw [← h.len]; exact hi), ← h.len] at h2
  exact h.at_ _ x e h1 h2
theorem Rep.get {H : Hp} {rs : List V} {D : List Ed} (h : Rep H rs D) {i : Nat} {x : V} (hx : rs[i]? = some x) : ∃ e, D[i]? = some e ∧ EdAt H x e := by
  have hi := (List.getElem?_eq_some_iff.mp hx).1
  have hi2 : i < D.length := by rw [← h.len]; exact hi
  have hd : D[i]? = some D[i] := List.getElem?_eq_getElem hi2
  exact ⟨_, hd, h.at_ i x _ hx hd⟩
def nums (D : List Ed) (p : Nat) : List Int := (D.filter fun e => decide (e.p = p)).map Ed.n
theorem nums_step {D : List Ed} {i p : Nat} {e : Ed} (h : D[i]? = some e) : nums (D.take (i + 1)) p = nums (D.take i) p ++ if e.p = p then [e.n] else [] := by
  unfold nums
  rw [List.take_add_one, h, List.filter_append, List.map_append]
  congr 1
  by_cases z : e.p = p
  · simp [z]
  · simp [z]
theorem nums_len (D : List Ed) (p : Nat) : (nums D p).length ≤ D.length := by
  unfold nums
  rw [List.length_map]
  exact List.length_filter_le _ _
theorem mem_nums {D : List Ed} {p : Nat} {k : Int} : k ∈ nums D p ↔ ∃ e ∈ D, e.p = p ∧ e.n = k := by
  unfold nums
  rw [List.mem_map]
  constructor
  · rintro ⟨e, he, rfl⟩
    have := List.mem_filter.mp he
    exact ⟨e, this.1, of_decide_eq_true this.2, rfl⟩
  · rintro ⟨e, he, hp, rfl⟩
    exact ⟨e, List.mem_filter.mpr ⟨he, decide_eq_true hp⟩, rfl⟩
/-! ### sorted(xs), xs of data -/
theorem each_of_vals : ∀ {bs : List (V × PyData)} {vs : List Value}, Vals (bs.map Prod.fst) vs → PySem.W.EachIs (fun (v : Value) (b : V × PyData) => RelV b.1 v) vs bs
  | [], _, h => by
    cases h
    exact .nil
  | _ :: _, _, h => by
    cases h with
    | cons h r => exact .cons h (each_of_vals r)
theorem vals_of_each : ∀ {vs : List Value} {bs : List (V × PyData)}, PySem.W.EachIs (fun (v : Value) (b : V × PyData) => RelV b.1 v) vs bs → Vals (bs.map Prod.fst) vs
  | _, _, .nil => .nil
  | _, _, .cons h r => .cons h (vals_of_each r)
theorem reads_of_each {X : Cx} {pins : List (Addr × Obj)} {σ : L2.St} {H : Hp} {s : Shared} (I : Inv X pins σ H s) : ∀ {vs : List Value} {bs : List (V × PyData)}, PySem.W.EachIs (fun (v : Value) (b : V × PyData) => RelV b.1 v) vs bs → (∀ b ∈ bs, Dp X.K H b.1 b.2) → PySem.W.EachIs (fun (v : Value) (b : V × PyData) => ∃ as, Reads s.heap v b.2 as) vs bs
  | _, _, .nil, _ => .nil
  | _, _, .cons h r, d => .cons (Dp.reads I _ _ _ (d _ (List.mem_cons_self ..)) h) (reads_of_each I r fun b hb => d b (List.mem_cons_of_mem _ hb))
def rSortedD (K : PySem.W.Frag) : List V → Hp → VK → Prop := fun vs H Q => ∃ (a : Addr) (bs : List (V × PyData)), vs = [V.ref a] ∧ SqL K H a (bs.map Prod.fst) ∧ (∀ b ∈ bs, Dp K H b.1 b.2) ∧ PySem.W.AllAlike (bs.map Prod.snd) ∧ PySem.W.Sortable (bs.map Prod.snd) ∧ (∀ b ∈ bs, b.2.depth ≤ 50) ∧
  ∀ p, H p = none → Q (.ref p) (upd H p (.lst ((bs.mergeSort (PySem.W.dataLe false Prod.snd)).map Prod.fst)))
theorem cr_sortedD {X : Cx} (hu : X.A.units + 64 < cLine) : CallR X (.builtin "sorted") (rSortedD X.K) := by
  intro pins s σ H vs us Q I r h
  obtain ⟨a, bs, rfl, hs, hd, hal, hso, hdp, q⟩ := h
  obtain ⟨its, rv, hl, hz⟩ := I.list hs
  rw [Vals.ref1 r]
  have e := each_of_vals rv
  refine PySem.W.sorted_data (enc := Prod.snd) hl.isList e (reads_of_each I e hd) hal hso (by rw [List.length_map] at hz; exact hz) (fun b hb => ?_) fun out h1 h2 => ?_
  · have := hdp b hb
    omega
  obtain ⟨ep, he'⟩ := PyProof.Rows.sortedAll_at s.heap its out.toArray
  have hlen : ((bs.mergeSort (PySem.W.dataLe false Prod.snd)).map Prod.fst).length ≤ sizeLine := by
    rw [List.length_map, List.length_mergeSort]
    rw [List.length_map] at hz
    exact hz
  exact ⟨.ref _, upd H (s.heap.objs.size + 1) (.lst ((bs.mergeSort (PySem.W.dataLe false Prod.snd)).map Prod.fst)), I.laid (t' := s.toks) (fun _ _ => PyProof.Rows.sortedAll_old) (Nat.le_succ _) ⟨hlen, out, ep, vals_of_each h2, he'⟩, rfl, q _ (I.hok.fresh (Nat.le_succ _))⟩
open SX (S S_len S_cat slice_to slice_from num_S int_S)
open PySem.NumText (digitsVal AllDigits)
open TL (numL)
def spCell (K : PySem.W.Frag) : Sp := fun vs H Q _ => ∃ (a : Addr) (ns : List Int) (k : Int), vs = [.ref a, .int k] ∧ 0 ≤ k ∧ SqL K H a (ns.map V.int) ∧ ∀ v : Int, Q (.int v) H
theorem okLawCell (T : Txt K mg) : FnOk P w K mg base CX0 1 T.fLawCell T.fdLawCell ["script", "k"] (spCell K) := by
  refine T.FLawCell.ok scLawCell (fun vs H Q E h => ?_) (fun cdv A outer s H vs Q E hr h => ?_)
  · obtain ⟨a, ns, k, rfl, _⟩ := h
    rfl
  · obtain ⟨a, ns, k, rfl, h0, hS, q⟩ := h
    obtain ⟨k, rfl⟩ := Int.eq_ofNat_of_zero_le h0
    -- slots script=0 k=1
    refine ⟨_, (pss_cons (ps_if (pt_cmpR op_lt (pv 1) (pe_callB call_len_seq (by rfl) T.z_len PySem.boot_len (pa_cons (pv 0) pa_nil)) (nomark _))
          (pss_one (ps_ret (pe_ix ix_list (pv 0) (pv 1) (fun _ _ => rfl))))
          pss_nil)
        (pss_one (ps_ret pe_int))), ?_⟩
    refine ⟨_, rfl, _, rfl, a, _, rfl, .inl hS, _, _, rfl, rfl, _, rfl, ite2 (fun c => ?_) (fun c => ?_)⟩
    · have hk : k < ns.length := by
        have c2 := of_decide_eq_true c
        rw [List.length_map] at c2
        omega
      exact ⟨_, rfl, _, rfl, a, _, _, _, rfl, rfl, hS, atI_nat (getD_at hk), q _⟩
    · exact q 0
/-! ### numbers that a law draws -/
structure Dig (ds : List Int) (n : Nat) : Prop where
  all : ∀ x ∈ ds, 0 ≤ x ∧ x < 1000
  len : ds.length ≤ n
theorem Dig.nil : Dig [] 0 := ⟨fun _ h => (nomatch h), Nat.le_refl _⟩
theorem Dig.more {ds : List Int} {n m : Nat} (h : Dig ds n) (hm : n ≤ m) : Dig ds m := ⟨h.all, Nat.le_trans h.len hm⟩
theorem Dig.add {ds : List Int} {n : Nat} (h : Dig ds n) (x : Int) : Dig (ds ++ [x % 1000]) (n + 1) := by
  refine ⟨fun y hy => ?_, ?_⟩
  · rcases List.mem_append.mp hy with q | q
    · exact h.all y q
    · obtain rfl : y = x % 1000 := by simpa using q
      omega
  · rw [List.length_append]
    have := h.len
    simp only [List.length_singleton]
    omega
def spDigits (K : PySem.W.Frag) : Sp := fun vs H Q _ => ∃ (a : Addr) (ns : List Int) (lo : Nat) (hi : Nat), vs = [.ref a, .int (lo : Int), .int (hi : Int)] ∧ lo ≤ hi ∧ hi ≤ 1000 ∧ SqL K H a (ns.map V.int) ∧
  ∀ H' d ds, Same H H' → H d = none → H' d = some (.lst (ds.map V.int)) → Dig ds (60 * (hi - lo)) → Q (.ref d) H'
theorem okLawDigits (T : Txt K mg) : FnOk P w K mg base CX0 2 T.fLawDigits T.fdLawDigits ["script", "first", "last"] (spDigits K) := by
  refine T.FLawDigits.ok scLawDigits (fun vs H Q E h => ?_) (fun cdv A outer s H vs Q E hr h => ?_)
  · obtain ⟨a, ns, lo, hi, rfl, _⟩ := h
    rfl
  · obtain ⟨a, ns, lo, hi, rfl, hlh, hh, hS, q⟩ := h
    -- slots script=0 first=1 last=2 digits=3 k=4 cell=5 turn=6 seed=7
    refine ⟨_, (pss_cons (ps_set (i := 3) scLawDigits.nd rfl (Or.inl rfl) (pe_lst pa_nil))
        (pss_cons (ps_for PassesOwn.never rfl (pi_range2 rfl T.z_range (pa_cons (pv 1) (pa_cons (pv 2) pa_nil))) (pg_name (i := 4) scLawDigits.nd rfl (Or.inl rfl))
          (pss_cons (ps_set (i := 5) scLawDigits.nd rfl (Or.inl rfl) (pe_call (okLawCell T) (hr.mono (by decide)) (by rfl) T.gLawCell T.FLawCell.kp T.bLawCell .nil pass0 (pa_cons (pv 0) (pa_cons (pv 4) pa_nil))))
          (pss_cons (ps_if (pt_cmpR op_lt (pv 5) pe_int (nomark _))
            (pss_one (ps_set (i := 5) scLawDigits.nd rfl (Or.inl rfl) (pe_op op_sub pe_int (pe_op op_mul pe_int (pv 5)))))
            pss_nil)
          (pss_one (ps_if (pt_cmpR op_ge (pv 5) (pe_op op_pow pe_int pe_int) (nomark _))
            (pss_one (ps_for PassesOwn.never rfl (pi_range1 rfl T.z_range (pa_cons pe_int pa_nil)) (pg_name (i := 6) scLawDigits.nd rfl (Or.inl rfl))
              (pss_one (ps_if (pt_cmpR op_gt (pv 5) pe_int (nomark _))
                (pss_cons (ps_expr (pe_bm PySem.F.plainAttrs_list PySem.F.slot_list_append PySem.F.type_list_append mt_append (pv 3) (pa_cons (pe_op op_mod (pe_callTy call_int1 (by rfl) T.z_int (by decide +kernel) (pa_cons (pv 5) pa_nil)) pe_int) pa_nil)))
                (pss_one (ps_set (i := 5) scLawDigits.nd rfl (Or.inl rfl) (pe_op op_fdiv (pv 5) pe_int))))
                pss_nil))))
            (pss_cons (ps_set (i := 7) scLawDigits.nd rfl (Or.inl rfl) (pe_op op_mod (pe_callTy call_int1 (by rfl) T.z_int (by decide +kernel) (pa_cons (pe_op op_add (pe_op op_add (pe_op op_mul (pv 5) pe_int) (pe_op op_mul (pv 4) pe_int)) pe_int) pa_nil)) pe_int))
            (pss_one (ps_for PassesOwn.never rfl (pi_range1 rfl T.z_range (pa_cons pe_int pa_nil)) (pg_name (i := 6) scLawDigits.nd rfl (Or.inl rfl))
              (pss_cons (ps_set (i := 7) scLawDigits.nd rfl (Or.inl rfl) (pe_op op_mod (pe_callTy call_int1 (by rfl) T.z_int (by decide +kernel) (pa_cons (pe_op op_add (pe_op op_add (pe_op op_mul (pv 7) pe_int) (pe_op op_mul pe_int (pv 6))) pe_int) pa_nil)) pe_int))
              (pss_one (ps_expr (pe_bm PySem.F.plainAttrs_list PySem.F.slot_list_append PySem.F.type_list_append mt_append (pv 3) (pa_cons (pe_op op_mod (pe_callTy call_int1 (by rfl) T.z_int (by decide +kernel) (pa_cons (pe_op op_fdiv (pv 7) pe_int) pa_nil)) pe_int) pa_nil)))))))))))))
        (pss_one (ps_ret (pv 3))))), ?_⟩
    refine ⟨Nat.zero_le _, fun d hd => ?_⟩
    refine ⟨_, rfl, _, rfl, _, _, rfl, ⟨by omega, by omega, by omega, by omega⟩, ?_⟩
    refine for_range (lo := lo) (n := ((hi : Int) - lo).toNat) (fun i σ H' => ∃ ds c0 c1 c2 c3, σ = [some (.ref a), some (.int (lo : Int)), some (.int (hi : Int)), some (.ref d), c0, c1, c2, c3] ∧ Same H H' ∧ H' d = some (.lst (ds.map V.int)) ∧ Dig ds (60 * i))
      ⟨[], _, _, _, _, rfl, same_new hd, upd_same, Dig.nil⟩ ?_ ?_
    · rintro i σ H1 hi2 ⟨ds, c0, c1, c2, c3, rfl, s1, hd1, D⟩
      -- cell = _law_cell(script, k)
      refine ⟨_, rfl, _, rfl, a, ns, _, rfl, by omega, s1.seq hS, fun v => ?_⟩
      -- if cell < 0
      refine ⟨_, rfl, _, _, rfl, rfl, _, rfl, ite2 (fun _ => ?_) (fun _ => ?_)⟩
      · refine ⟨_, rfl, _, _, rfl, rfl, .inl ⟨by decide, by decide⟩, _, _, rfl, rfl, ?_⟩
        refine ⟨_, rfl, _, _, rfl, rfl, ⟨by decide, by decide, by decide⟩, _, _, rfl, rfl, _, rfl, ite2 (fun _ => ?_) (fun _ => ?_)⟩
        · refine ⟨60, rfl, by decide, by decide, for_range (lo := 0) (n := 60) (fun t σ H' => ∃ ds c c1, σ = [some (.ref a), some (.int (lo : Int)), some (.int (hi : Int)), some (.ref d), some (.int ((lo : Int) + i)), some (.int c), c1, c3] ∧ Same H H' ∧ H' d = some (.lst (ds.map V.int)) ∧ Dig ds (60 * i + t)) ⟨ds, _, _, rfl, s1, hd1, D⟩ ?_ ?_⟩
          · rintro t σ H2 ht ⟨ds, c, c1, rfl, s2, hd2, D2⟩
            refine ⟨_, rfl, _, _, rfl, rfl, _, rfl, ite2 (fun _ => ?_) (fun _ => ?_)⟩
            · refine ⟨_, rfl, .inl ⟨rfl, _, SqL.of hd2⟩, _, rfl, .inl ⟨_, rfl, _, _, rfl, rfl, (by show (0 : Int) < _; decide), d, _, _, rfl, rfl, hd2, ?_, _, rfl, _, _, rfl, rfl, ⟨by decide, by decide⟩, ?_⟩⟩
              · rw [List.length_map]
                exact Nat.lt_of_le_of_lt D2.len (Nat.lt_of_lt_of_le (show 60 * i + t < 100000 by omega) (by decide))
              · exact ⟨ds ++ [c % 1000], _, _, rfl, same_mut s2 hd, by rw [upd_same, List.map_append]; rfl, D2.add c⟩
            · exact ⟨ds, _, _, rfl, s2, hd2, D2.more (Nat.le_succ _)⟩
          · rintro σ H2 ⟨ds, c, c1, rfl, s2, hd2, D2⟩
            exact ⟨ds, _, _, _, _, rfl, s2, hd2, D2⟩
        · refine ⟨_, rfl, _, _, rfl, rfl, .inr ⟨by decide, by decide⟩, _, rfl, _, _, rfl, rfl, .inr ⟨by decide, by decide⟩, _, _, rfl, rfl, _, _, rfl, rfl, .inl ⟨_, rfl, _, _, rfl, rfl, (by show (0 : Int) < _; decide), ?_⟩⟩
          refine ⟨12, rfl, by decide, by decide, for_range (lo := 0) (n := 12) (fun t σ H' => ∃ ds c c1 sd, σ = [some (.ref a), some (.int (lo : Int)), some (.int (hi : Int)), some (.ref d), some (.int ((lo : Int) + i)), some (.int c), c1, some (.int sd)] ∧ Same H H' ∧ H' d = some (.lst (ds.map V.int)) ∧ Dig ds (60 * i + t)) ⟨ds, _, _, _, rfl, s1, hd1, D⟩ ?_ ?_⟩
          · rintro t σ H2 ht ⟨ds, c, c1, sd, rfl, s2, hd2, D2⟩
            refine ⟨_, rfl, _, _, rfl, rfl, .inr ⟨by decide, by decide⟩, _, rfl, _, _, rfl, rfl, .inl ⟨by decide, by decide⟩, _, _, rfl, rfl, _, _, rfl, rfl, .inl ⟨_, rfl, _, _, rfl, rfl, (by show (0 : Int) < _; decide), ?_⟩⟩
            refine ⟨_, rfl, .inl ⟨rfl, _, SqL.of hd2⟩, _, rfl, _, _, rfl, rfl, ⟨by decide, by decide⟩, .inl ⟨_, rfl, _, _, rfl, rfl, (by show (0 : Int) < _; decide), d, _, _, rfl, rfl, hd2, ?_, ?_⟩⟩
            · rw [List.length_map]
              exact Nat.lt_of_le_of_lt D2.len (Nat.lt_of_lt_of_le (show 60 * i + t < 100000 by omega) (by decide))
            · exact ⟨ds ++ [_ % 1000], _, _, _, rfl, same_mut s2 hd, by rw [upd_same, List.map_append]; rfl, D2.add _⟩
          · rintro σ H2 ⟨ds, c, c1, sd, rfl, s2, hd2, D2⟩
            exact ⟨ds, _, _, _, _, rfl, s2, hd2, D2.more (by omega)⟩
      · refine ⟨_, rfl, _, _, rfl, rfl, ⟨by decide, by decide, by decide⟩, _, _, rfl, rfl, _, rfl, ite2 (fun _ => ?_) (fun _ => ?_)⟩
        · refine ⟨60, rfl, by decide, by decide, for_range (lo := 0) (n := 60) (fun t σ H' => ∃ ds c c1, σ = [some (.ref a), some (.int (lo : Int)), some (.int (hi : Int)), some (.ref d), some (.int ((lo : Int) + i)), some (.int c), c1, c3] ∧ Same H H' ∧ H' d = some (.lst (ds.map V.int)) ∧ Dig ds (60 * i + t)) ⟨ds, _, _, rfl, s1, hd1, D⟩ ?_ ?_⟩
          · rintro t σ H2 ht ⟨ds, c, c1, rfl, s2, hd2, D2⟩
            refine ⟨_, rfl, _, _, rfl, rfl, _, rfl, ite2 (fun _ => ?_) (fun _ => ?_)⟩
            · refine ⟨_, rfl, .inl ⟨rfl, _, SqL.of hd2⟩, _, rfl, .inl ⟨_, rfl, _, _, rfl, rfl, (by show (0 : Int) < _; decide), d, _, _, rfl, rfl, hd2, ?_, _, rfl, _, _, rfl, rfl, ⟨by decide, by decide⟩, ?_⟩⟩
              · rw [List.length_map]
                exact Nat.lt_of_le_of_lt D2.len (Nat.lt_of_lt_of_le (show 60 * i + t < 100000 by omega) (by decide))
              · exact ⟨ds ++ [c % 1000], _, _, rfl, same_mut s2 hd, by rw [upd_same, List.map_append]; rfl, D2.add c⟩
            · exact ⟨ds, _, _, rfl, s2, hd2, D2.more (Nat.le_succ _)⟩
          · rintro σ H2 ⟨ds, c, c1, rfl, s2, hd2, D2⟩
            exact ⟨ds, _, _, _, _, rfl, s2, hd2, D2⟩
        · refine ⟨_, rfl, _, _, rfl, rfl, .inr ⟨by decide, by decide⟩, _, rfl, _, _, rfl, rfl, .inr ⟨by decide, by decide⟩, _, _, rfl, rfl, _, _, rfl, rfl, .inl ⟨_, rfl, _, _, rfl, rfl, (by show (0 : Int) < _; decide), ?_⟩⟩
          refine ⟨12, rfl, by decide, by decide, for_range (lo := 0) (n := 12) (fun t σ H' => ∃ ds c c1 sd, σ = [some (.ref a), some (.int (lo : Int)), some (.int (hi : Int)), some (.ref d), some (.int ((lo : Int) + i)), some (.int c), c1, some (.int sd)] ∧ Same H H' ∧ H' d = some (.lst (ds.map V.int)) ∧ Dig ds (60 * i + t)) ⟨ds, _, _, _, rfl, s1, hd1, D⟩ ?_ ?_⟩
          · rintro t σ H2 ht ⟨ds, c, c1, sd, rfl, s2, hd2, D2⟩
            refine ⟨_, rfl, _, _, rfl, rfl, .inr ⟨by decide, by decide⟩, _, rfl, _, _, rfl, rfl, .inl ⟨by decide, by decide⟩, _, _, rfl, rfl, _, _, rfl, rfl, .inl ⟨_, rfl, _, _, rfl, rfl, (by show (0 : Int) < _; decide), ?_⟩⟩
            refine ⟨_, rfl, .inl ⟨rfl, _, SqL.of hd2⟩, _, rfl, _, _, rfl, rfl, ⟨by decide, by decide⟩, .inl ⟨_, rfl, _, _, rfl, rfl, (by show (0 : Int) < _; decide), d, _, _, rfl, rfl, hd2, ?_, ?_⟩⟩
            · rw [List.length_map]
              exact Nat.lt_of_le_of_lt D2.len (Nat.lt_of_lt_of_le (show 60 * i + t < 100000 by omega) (by decide))
            · exact ⟨ds ++ [_ % 1000], _, _, _, rfl, same_mut s2 hd, by rw [upd_same, List.map_append]; rfl, D2.add _⟩
          · rintro σ H2 ⟨ds, c, c1, sd, rfl, s2, hd2, D2⟩
            exact ⟨ds, _, _, _, _, rfl, s2, hd2, D2.more (by omega)⟩
    · rintro σ H1 ⟨ds, c0, c1, c2, c3, rfl, s1, hd1, D⟩
      exact ⟨_, rfl, q _ d ds s1 hd hd1 (by rw [show ((hi : Int) - lo).toNat = hi - lo by omega] at D; exact D)⟩
/-- all but the box stays, and the box keeps its list -/
structure Kp (b : Addr) (H H' : Hp) : Prop where
  k : ∀ c o, c ≠ b → H c = some o → H' c = some o
  d : ∀ (x j : V), H b = some (.lst [x, j]) → ∃ j', H' b = some (.lst [x, j'])
instance {b : Addr} {H H' : Hp} : CoeFun (Kp b H H') (fun _ => ∀ c o, c ≠ b → H c = some o → H' c = some o) := ⟨Kp.k⟩
theorem Kp.refl {b : Addr} {H : Hp} : Kp b H H := ⟨fun _ _ _ h => h, fun _ j h => ⟨j, h⟩⟩
theorem Kp.trans {b : Addr} {H H1 H2 : Hp} (x : Kp b H H1) (y : Kp b H1 H2) : Kp b H H2 := ⟨fun c o n h => y.k c o n (x.k c o n h), fun v j h => by
  obtain ⟨j1, h1⟩ := x.d v j h
  exact y.d v j1 h1⟩
theorem Kp.of {b : Addr} {H H1 : Hp} (x : Same H H1) : Kp b H H1 := ⟨fun c o _ h => x c o h, fun _ j h => ⟨j, x _ _ h⟩⟩
theorem Kp.same {b : Addr} {H H1 H2 : Hp} (x : Same H H1) (h : H b = none) (y : Kp b H1 H2) : Same H H2 := fun c o e => y.k c o (ne_of_none e h) (x c o e)
/-- a box of drawn digits and the place of the next one -/
def Box (H : Hp) (b : Addr) : Prop := ∃ (d : Addr) (ds : List Int) (i : Nat), H b = some (.lst [.ref d, .int (i : Int)]) ∧ H d = some (.lst (ds.map V.int)) ∧ b ≠ d
theorem Box.same {H H' : Hp} {b : Addr} (s : Same H H') (h : Box H b) : Box H' b := by
  obtain ⟨d, ds, i, h1, h2, h3⟩ := h
  exact ⟨d, ds, i, s _ _ h1, s _ _ h2, h3⟩
def spDraw (K : PySem.W.Frag) : Sp := fun vs H Q _ => ∃ (b : Addr) (m : Int), vs = [.ref b, .int m] ∧ 0 < m ∧ Box H b ∧ ∀ x H', 0 ≤ x → x < m → Box H' b → Kp b H H' → Q (.int x) H'
theorem okLawDraw (T : Txt K mg) : FnOk P w K mg base CX0 1 T.fLawDraw T.fdLawDraw ["box", "many"] (spDraw K) := by
  refine T.FLawDraw.ok scLawDraw (fun vs H Q E h => ?_) (fun cdv A outer s H vs Q E hr h => ?_)
  · obtain ⟨b, m, rfl, _⟩ := h
    rfl
  · obtain ⟨b, m, rfl, hm, ⟨d, ds, i, hb, hd, nbd⟩, q⟩ := h
    -- slots box=0 many=1 at=2
    refine ⟨_, (pss_cons (ps_set (i := 2) scLawDraw.nd rfl (Or.inl rfl) (pe_ix ix_list (pv 0) pe_int (fun _ _ => rfl)))
        (pss_cons (ps_asg (pe_op op_add (pv 2) pe_int) (pg_sub (pv 0) pe_int set_list))
        (pss_cons (ps_if (pt_cmpR op_lt (pv 2) (pe_callB call_len_seq (by rfl) T.z_len PySem.boot_len (pa_cons (pe_ix ix_list (pv 0) pe_int (fun _ _ => rfl)) pa_nil)) (nomark _))
          (pss_one (ps_ret (pe_op op_mod (pe_callTy call_int1 (by rfl) T.z_int (by decide +kernel) (pa_cons (pe_ix ix_list (pe_ix ix_list (pv 0) pe_int (fun _ _ => rfl)) (pv 2) (fun _ _ => rfl)) pa_nil)) (pv 1))))
          pss_nil)
        (pss_one (ps_ret pe_int))))), ?_⟩
    refine ⟨_, rfl, b, _, _, _, rfl, rfl, SqL.of hb, atI_nat (j := 1) rfl, _, rfl, _, _, rfl, rfl, _, rfl, b, _, _, 1, rfl, rfl, hb, rfl, ?_⟩
    have hb' : (upd H b (.lst ([.ref d, .int (i : Int)].set 1 (.int ((i : Int) + 1))))) b = some (.lst [.ref d, .int ((i : Int) + 1)]) := upd_same
    have hd' : (upd H b (.lst ([.ref d, .int (i : Int)].set 1 (.int ((i : Int) + 1))))) d = some (.lst (ds.map V.int)) := by
      rw [upd_ne nbd.symm]
      exact hd
    have kp : Kp b H (upd H b (.lst ([.ref d, .int (i : Int)].set 1 (.int ((i : Int) + 1))))) := ⟨fun c o n e => by
      rw [upd_ne n]
      exact e, fun x j h => by
      rw [hb] at h
      cases h
      exact ⟨_, hb'⟩⟩
    refine ⟨_, rfl, _, rfl, b, _, _, _, rfl, rfl, SqL.of hb', atI_nat (j := 0) rfl, d, _, rfl, .inl (SqL.of hd'), _, _, rfl, rfl, _, rfl, ite2 (fun c => ?_) (fun c => ?_)⟩
    · have hk : i < ds.length := by
        have c2 := of_decide_eq_true c
        rw [List.length_map] at c2
        omega
      refine ⟨_, rfl, b, _, _, _, rfl, rfl, SqL.of hb', atI_nat (j := 0) rfl, _, rfl, d, _, _, _, rfl, rfl, SqL.of hd', atI_nat (getD_at hk), .inl ⟨_, rfl, _, rfl, _, _, rfl, rfl, hm, ?_⟩⟩
      exact q _ _ (Int.emod_nonneg _ (by omega)) (Int.emod_lt_of_pos _ hm) ⟨d, ds, i + 1, hb', hd', nbd⟩ kp
    · exact q _ _ (Int.le_refl _) hm ⟨d, ds, i + 1, hb', hd', nbd⟩ kp
/-! ### the law's own comparison -/
def Scal : V → Prop
  | .non => True
  | .bl _ => True
  | .int _ => True
  | .str _ => True
  | _ => False
def Lk (H : Hp) : Nat → V → V → Prop
  | 0, x, y => x = y ∧ Scal y
  | n + 1, x, y => (x = y ∧ Scal y) ∨
    (∃ a b xs ys, x = .ref a ∧ y = .ref b ∧ H a = some (.tup xs) ∧ H b = some (.tup ys) ∧ xs.length = ys.length ∧ xs.length ≤ 100000 ∧ ∀ (i : Nat) u v, xs[i]? = some u → ys[i]? = some v → Lk H n u v) ∨
    (∃ a b xs ys, x = .ref a ∧ y = .ref b ∧ H a = some (.lst xs) ∧ H b = some (.lst ys) ∧ xs.length = ys.length ∧ xs.length ≤ 100000 ∧ ∀ (i : Nat) u v, xs[i]? = some u → ys[i]? = some v → Lk H n u v)
theorem isi {K : PySem.W.Frag} {H : Hp} {x : V} {t c : String} {b : Bool} {Q : VK} (ty : TyX K H x (.type t)) (h : kitB t c = some b) (q : Q (.bl b) H) : rIsi K [x, .ty c] H Q := ⟨x, .ty c, _, _, b, rfl, .ty c, ty, kit_ty h, q⟩
def spSame (K : PySem.W.Frag) (n : Nat) : Sp := fun vs H Q _ => ∃ (x y : V), vs = [x, y] ∧ Lk H n x y ∧ Q (.bl true) H
theorem okLawSame (T : Txt K mg) : ∀ n : Nat, FnOk P w K mg base CX0 (n + 1) T.fLawSame T.fdLawSame ["actual", "due"] (spSame K n)
  | 0 => by
    refine T.FLawSame.ok scLawSame (fun vs H Q E h => ?_) (fun cdv A outer s H vs Q E hr h => ?_)
    · obtain ⟨x, y, rfl, _⟩ := h
      rfl
    · obtain ⟨x, y, rfl, ⟨rfl, sy⟩, q⟩ := h
      -- slots actual=0 due=1 k=2
      refine ⟨_, (pss_cons (ps_if (PW.pt (pw_or (pt_val (pe_callB call_isi (by rfl) T.z_isinstance (by decide +kernel) (pa_cons (pv 1) (pa_cons (pe_bltn (v := .ty "list") (by rfl) T.z_list (by decide +kernel) rfl) pa_nil)))) (pw_or1 (pt_val (pe_callB call_isi (by rfl) T.z_isinstance (by decide +kernel) (pa_cons (pv 1) (pa_cons (pe_bltn (v := .ty "tuple") (by rfl) T.z_tuple (by decide +kernel) rfl) pa_nil)))))))
            (pss_cons ps_never
            (pss_cons ps_never
            (pss_cons ps_never
            (pss_one ps_never))))
            pss_nil)
          (pss_cons (ps_if (pt_cmpR op_isN (pv 1) pe_non (nomark _))
            (pss_one (ps_ret (pe_cmpR op_isN (pv 0) pe_non (nomark _))))
            pss_nil)
          (pss_cons (ps_if (pt_val (pe_callB call_isi (by rfl) T.z_isinstance (by decide +kernel) (pa_cons (pv 1) (pa_cons (pe_bltn (v := .ty "bool") (by rfl) T.z_bool (by decide +kernel) rfl) pa_nil))))
            (pss_one (ps_ret (pe_and (pe_callB call_isi (by rfl) T.z_isinstance (by decide +kernel) (pa_cons (pv 0) (pa_cons (pe_bltn (v := .ty "bool") (by rfl) T.z_bool (by decide +kernel) rfl) pa_nil))) (pe_one (pe_cmpR op_eq (pv 0) (pv 1) (nomark _))))))
            pss_nil)
          (pss_cons (ps_if (pt_val (pe_callB call_isi (by rfl) T.z_isinstance (by decide +kernel) (pa_cons (pv 1) (pa_cons (pe_bltn (v := .ty "str") (by rfl) T.z_str (by decide +kernel) rfl) pa_nil))))
            (pss_one (ps_ret (pe_and (pe_callB call_isi (by rfl) T.z_isinstance (by decide +kernel) (pa_cons (pv 0) (pa_cons (pe_bltn (v := .ty "str") (by rfl) T.z_str (by decide +kernel) rfl) pa_nil))) (pe_one (pe_cmpR op_eq (pv 0) (pv 1) (nomark _))))))
            pss_nil)
          (pss_one (ps_ret (pe_and (pe_callB call_isi (by rfl) T.z_isinstance (by decide +kernel) (pa_cons (pv 0) (pa_cons (pe_bltn (v := .ty "int") (by rfl) T.z_int (by decide +kernel) rfl) pa_nil))) (pe_and (pe_not (pe_callB call_isi (by rfl) T.z_isinstance (by decide +kernel) (pa_cons (pv 0) (pa_cons (pe_bltn (v := .ty "bool") (by rfl) T.z_bool (by decide +kernel) rfl) pa_nil)))) (pe_one (pe_cmpR op_eq (pv 0) (pv 1) (nomark _))))))))))), ?_⟩
      cases x with
      | non =>
        refine ⟨_, rfl, _, _, _, _, false, rfl, .ty _, .base (.non), kit_ty (by decide +kernel), _, rfl, iteF ⟨_, rfl, _, _, _, _, false, rfl, .ty _, .base (.non), kit_ty (by decide +kernel), _, rfl, iteF ?_⟩⟩
        refine ⟨_, rfl, rfl, _, rfl, ite2 (fun _ => ?_) (fun c => absurd (decide_eq_true rfl) c)⟩
        refine ⟨_, rfl, rfl, ?_⟩
        rw [decide_eq_true rfl]
        exact q
      | bl v =>
        refine ⟨_, rfl, _, _, _, _, false, rfl, .ty _, .base (.bl v), kit_ty (by decide +kernel), _, rfl, iteF ⟨_, rfl, _, _, _, _, false, rfl, .ty _, .base (.bl v), kit_ty (by decide +kernel), _, rfl, iteF ?_⟩⟩
        refine ⟨_, rfl, rfl, _, rfl, ite2 (fun c => (nomatch (of_decide_eq_true c))) (fun _ => ?_)⟩
        refine ⟨_, rfl, _, _, _, _, true, rfl, .ty _, .base (.bl v), kit_ty (by decide +kernel), _, rfl, iteT ?_⟩
        refine ⟨_, rfl, _, _, _, _, true, rfl, .ty _, .base (.bl v), kit_ty (by decide +kernel), _, rfl, iteT ?_⟩
        refine ⟨_, rfl, _, rfl, rfl, ?_⟩
        rw [decide_eq_true rfl]
        exact q
      | int v =>
        refine ⟨_, rfl, _, _, _, _, false, rfl, .ty _, .base (.int v), kit_ty (by decide +kernel), _, rfl, iteF ⟨_, rfl, _, _, _, _, false, rfl, .ty _, .base (.int v), kit_ty (by decide +kernel), _, rfl, iteF ?_⟩⟩
        refine ⟨_, rfl, rfl, _, rfl, ite2 (fun c => (nomatch (of_decide_eq_true c))) (fun _ => ?_)⟩
        refine ⟨_, rfl, _, _, _, _, false, rfl, .ty _, .base (.int v), kit_ty (by decide +kernel), _, rfl, iteF ?_⟩
        refine ⟨_, rfl, _, _, _, _, false, rfl, .ty _, .base (.int v), kit_ty (by decide +kernel), _, rfl, iteF ?_⟩
        refine ⟨_, rfl, _, _, _, _, true, rfl, .ty _, .base (.int v), kit_ty (by decide +kernel), _, rfl, iteT ?_⟩
        refine ⟨_, rfl, _, _, _, _, false, rfl, .ty _, .base (.int v), kit_ty (by decide +kernel), _, rfl, _, rfl, iteT ?_⟩
        refine ⟨_, rfl, _, rfl, rfl, ?_⟩
        rw [decide_eq_true rfl]
        exact q
      | str v =>
        refine ⟨_, rfl, _, _, _, _, false, rfl, .ty _, .base (.str v), kit_ty (by decide +kernel), _, rfl, iteF ⟨_, rfl, _, _, _, _, false, rfl, .ty _, .base (.str v), kit_ty (by decide +kernel), _, rfl, iteF ?_⟩⟩
        refine ⟨_, rfl, rfl, _, rfl, ite2 (fun c => (nomatch (of_decide_eq_true c))) (fun _ => ?_)⟩
        refine ⟨_, rfl, _, _, _, _, false, rfl, .ty _, .base (.str v), kit_ty (by decide +kernel), _, rfl, iteF ?_⟩
        refine ⟨_, rfl, _, _, _, _, true, rfl, .ty _, .base (.str v), kit_ty (by decide +kernel), _, rfl, iteT ?_⟩
        refine ⟨_, rfl, _, _, _, _, true, rfl, .ty _, .base (.str v), kit_ty (by decide +kernel), _, rfl, iteT ?_⟩
        refine ⟨_, rfl, _, rfl, rfl, ?_⟩
        rw [decide_eq_true rfl]
        exact q
      | _ => exact sy.elim
  | n + 1 => by
    have IH := okLawSame T n
    refine T.FLawSame.ok scLawSame (fun vs H Q E h => ?_) (fun cdv A outer s H vs Q E hr h => ?_)
    · obtain ⟨x, y, rfl, _⟩ := h
      rfl
    · obtain ⟨x, y, rfl, hL, q⟩ := h
      -- slots actual=0 due=1 k=2
      refine ⟨_, (pss_cons (ps_if (PW.pt (pw_or (pt_val (pe_callB call_isi (by rfl) T.z_isinstance (by decide +kernel) (pa_cons (pv 1) (pa_cons (pe_bltn (v := .ty "list") (by rfl) T.z_list (by decide +kernel) rfl) pa_nil)))) (pw_or1 (pt_val (pe_callB call_isi (by rfl) T.z_isinstance (by decide +kernel) (pa_cons (pv 1) (pa_cons (pe_bltn (v := .ty "tuple") (by rfl) T.z_tuple (by decide +kernel) rfl) pa_nil)))))))
            (pss_cons (ps_if (PW.pt (pw_or (pt_cmpR op_ne (pe_callB call_isi (by rfl) T.z_isinstance (by decide +kernel) (pa_cons (pv 1) (pa_cons (pe_bltn (v := .ty "list") (by rfl) T.z_list (by decide +kernel) rfl) pa_nil))) (pe_callB call_isi (by rfl) T.z_isinstance (by decide +kernel) (pa_cons (pv 0) (pa_cons (pe_bltn (v := .ty "list") (by rfl) T.z_list (by decide +kernel) rfl) pa_nil))) (nomark _)) (pw_or1 (pt_cmpR op_ne (pe_callB call_isi (by rfl) T.z_isinstance (by decide +kernel) (pa_cons (pv 1) (pa_cons (pe_bltn (v := .ty "tuple") (by rfl) T.z_tuple (by decide +kernel) rfl) pa_nil))) (pe_callB call_isi (by rfl) T.z_isinstance (by decide +kernel) (pa_cons (pv 0) (pa_cons (pe_bltn (v := .ty "tuple") (by rfl) T.z_tuple (by decide +kernel) rfl) pa_nil))) (nomark _)))))
              (pss_one (ps_ret pe_bl))
              pss_nil)
            (pss_cons (ps_if (pt_cmpR op_ne (pe_callB call_len_seq (by rfl) T.z_len PySem.boot_len (pa_cons (pv 0) pa_nil)) (pe_callB call_len_seq (by rfl) T.z_len PySem.boot_len (pa_cons (pv 1) pa_nil)) (nomark _))
              (pss_one (ps_ret pe_bl))
              pss_nil)
            (pss_cons (ps_for PassesOwn.never rfl (pi_range1 rfl T.z_range (pa_cons (pe_callB call_len_seq (by rfl) T.z_len PySem.boot_len (pa_cons (pv 1) pa_nil)) pa_nil)) (pg_name (i := 2) scLawSame.nd rfl (Or.inl rfl))
              (pss_one (ps_if (pt_not (pt_val (pe_call IH (hr.mono (Nat.le_refl _)) (by rfl) T.gLawSame T.FLawSame.kp T.bLawSame .nil pass0 (pa_cons (pe_ix ix_seq (pv 0) (pv 2) (fun _ _ => rfl)) (pa_cons (pe_ix ix_seq (pv 1) (pv 2) (fun _ _ => rfl)) pa_nil)))))
                (pss_one (ps_ret pe_bl))
                pss_nil)))
            (pss_one (ps_ret pe_bl)))))
            pss_nil)
          (pss_cons (ps_if (pt_cmpR op_isN (pv 1) pe_non (nomark _))
            (pss_one (ps_ret (pe_cmpR op_isN (pv 0) pe_non (nomark _))))
            pss_nil)
          (pss_cons (ps_if (pt_val (pe_callB call_isi (by rfl) T.z_isinstance (by decide +kernel) (pa_cons (pv 1) (pa_cons (pe_bltn (v := .ty "bool") (by rfl) T.z_bool (by decide +kernel) rfl) pa_nil))))
            (pss_one (ps_ret (pe_and (pe_callB call_isi (by rfl) T.z_isinstance (by decide +kernel) (pa_cons (pv 0) (pa_cons (pe_bltn (v := .ty "bool") (by rfl) T.z_bool (by decide +kernel) rfl) pa_nil))) (pe_one (pe_cmpR op_eq (pv 0) (pv 1) (nomark _))))))
            pss_nil)
          (pss_cons (ps_if (pt_val (pe_callB call_isi (by rfl) T.z_isinstance (by decide +kernel) (pa_cons (pv 1) (pa_cons (pe_bltn (v := .ty "str") (by rfl) T.z_str (by decide +kernel) rfl) pa_nil))))
            (pss_one (ps_ret (pe_and (pe_callB call_isi (by rfl) T.z_isinstance (by decide +kernel) (pa_cons (pv 0) (pa_cons (pe_bltn (v := .ty "str") (by rfl) T.z_str (by decide +kernel) rfl) pa_nil))) (pe_one (pe_cmpR op_eq (pv 0) (pv 1) (nomark _))))))
            pss_nil)
          (pss_one (ps_ret (pe_and (pe_callB call_isi (by rfl) T.z_isinstance (by decide +kernel) (pa_cons (pv 0) (pa_cons (pe_bltn (v := .ty "int") (by rfl) T.z_int (by decide +kernel) rfl) pa_nil))) (pe_and (pe_not (pe_callB call_isi (by rfl) T.z_isinstance (by decide +kernel) (pa_cons (pv 0) (pa_cons (pe_bltn (v := .ty "bool") (by rfl) T.z_bool (by decide +kernel) rfl) pa_nil)))) (pe_one (pe_cmpR op_eq (pv 0) (pv 1) (nomark _))))))))))), ?_⟩
      rcases hL with ⟨rfl, sy⟩ | ⟨a, b, xs, ys, rfl, rfl, ha, hb, hl, hz, hi⟩ | ⟨a, b, xs, ys, rfl, rfl, ha, hb, hl, hz, hi⟩
      · cases x with
        | non =>
          refine ⟨_, rfl, _, _, _, _, false, rfl, .ty _, .base (.non), kit_ty (by decide +kernel), _, rfl, iteF ⟨_, rfl, _, _, _, _, false, rfl, .ty _, .base (.non), kit_ty (by decide +kernel), _, rfl, iteF ?_⟩⟩
          refine ⟨_, rfl, rfl, _, rfl, ite2 (fun _ => ?_) (fun c => absurd (decide_eq_true rfl) c)⟩
          refine ⟨_, rfl, rfl, ?_⟩
          rw [decide_eq_true rfl]
          exact q
        | bl v =>
          refine ⟨_, rfl, _, _, _, _, false, rfl, .ty _, .base (.bl v), kit_ty (by decide +kernel), _, rfl, iteF ⟨_, rfl, _, _, _, _, false, rfl, .ty _, .base (.bl v), kit_ty (by decide +kernel), _, rfl, iteF ?_⟩⟩
          refine ⟨_, rfl, rfl, _, rfl, ite2 (fun c => (nomatch (of_decide_eq_true c))) (fun _ => ?_)⟩
          refine ⟨_, rfl, _, _, _, _, true, rfl, .ty _, .base (.bl v), kit_ty (by decide +kernel), _, rfl, iteT ?_⟩
          refine ⟨_, rfl, _, _, _, _, true, rfl, .ty _, .base (.bl v), kit_ty (by decide +kernel), _, rfl, iteT ?_⟩
          refine ⟨_, rfl, _, rfl, rfl, ?_⟩
          rw [decide_eq_true rfl]
          exact q
        | int v =>
          refine ⟨_, rfl, _, _, _, _, false, rfl, .ty _, .base (.int v), kit_ty (by decide +kernel), _, rfl, iteF ⟨_, rfl, _, _, _, _, false, rfl, .ty _, .base (.int v), kit_ty (by decide +kernel), _, rfl, iteF ?_⟩⟩
          refine ⟨_, rfl, rfl, _, rfl, ite2 (fun c => (nomatch (of_decide_eq_true c))) (fun _ => ?_)⟩
          refine ⟨_, rfl, _, _, _, _, false, rfl, .ty _, .base (.int v), kit_ty (by decide +kernel), _, rfl, iteF ?_⟩
          refine ⟨_, rfl, _, _, _, _, false, rfl, .ty _, .base (.int v), kit_ty (by decide +kernel), _, rfl, iteF ?_⟩
          refine ⟨_, rfl, _, _, _, _, true, rfl, .ty _, .base (.int v), kit_ty (by decide +kernel), _, rfl, iteT ?_⟩
          refine ⟨_, rfl, _, _, _, _, false, rfl, .ty _, .base (.int v), kit_ty (by decide +kernel), _, rfl, _, rfl, iteT ?_⟩
          refine ⟨_, rfl, _, rfl, rfl, ?_⟩
          rw [decide_eq_true rfl]
          exact q
        | str v =>
          refine ⟨_, rfl, _, _, _, _, false, rfl, .ty _, .base (.str v), kit_ty (by decide +kernel), _, rfl, iteF ⟨_, rfl, _, _, _, _, false, rfl, .ty _, .base (.str v), kit_ty (by decide +kernel), _, rfl, iteF ?_⟩⟩
          refine ⟨_, rfl, rfl, _, rfl, ite2 (fun c => (nomatch (of_decide_eq_true c))) (fun _ => ?_)⟩
          refine ⟨_, rfl, _, _, _, _, false, rfl, .ty _, .base (.str v), kit_ty (by decide +kernel), _, rfl, iteF ?_⟩
          refine ⟨_, rfl, _, _, _, _, true, rfl, .ty _, .base (.str v), kit_ty (by decide +kernel), _, rfl, iteT ?_⟩
          refine ⟨_, rfl, _, _, _, _, true, rfl, .ty _, .base (.str v), kit_ty (by decide +kernel), _, rfl, iteT ?_⟩
          refine ⟨_, rfl, _, rfl, rfl, ?_⟩
          rw [decide_eq_true rfl]
          exact q
        | _ => exact sy.elim
      · refine ⟨_, rfl, _, _, _, _, false, rfl, .ty _, .base (.tup hb), kit_ty (by decide +kernel), _, rfl, iteF ⟨_, rfl, _, _, _, _, true, rfl, .ty _, .base (.tup hb), kit_ty (by decide +kernel), _, rfl, iteT ?_⟩⟩
        refine ⟨_, rfl, _, _, _, _, false, rfl, .ty _, .base (.tup hb), kit_ty (by decide +kernel), _, rfl, _, _, _, _, false, rfl, .ty _, .base (.tup ha), kit_ty (by decide +kernel), rfl, _, rfl, iteNS rfl ?_⟩
        refine ⟨_, rfl, _, _, _, _, true, rfl, .ty _, .base (.tup hb), kit_ty (by decide +kernel), _, rfl, _, _, _, _, true, rfl, .ty _, .base (.tup ha), kit_ty (by decide +kernel), rfl, _, rfl, iteNS rfl ?_⟩
        refine ⟨_, rfl, a, _, rfl, .inr (SqT.of ha), _, rfl, b, _, rfl, .inr (SqT.of hb), rfl, _, rfl, iteNS (by rw [hl]) ?_⟩
        refine ⟨_, rfl, b, _, rfl, .inr (SqT.of hb), _, rfl, by omega, by omega, for_range (lo := 0) (n := ys.length) (fun i σ H' => H' = H ∧ ∃ k, σ = [some (.ref a), some (.ref b), k]) ⟨rfl, _, rfl⟩ ?_ ?_⟩
        · rintro i σ H1 hi2 ⟨rfl, k, rfl⟩
          have e1 : xs[i]? = some xs[i] := List.getElem?_eq_getElem (by omega)
          have e2 : ys[i]? = some ys[i] := List.getElem?_eq_getElem hi2
          have z : (0 : Int) + (i : Int) = ((i : Nat) : Int) := Int.zero_add _
          refine ⟨_, rfl, _, rfl, .inr (.inl ⟨a, _, _, _, rfl, rfl, SqT.of ha, by rw [z]; exact atI_nat e1, _, rfl, _, rfl, .inr (.inl ⟨b, _, _, _, rfl, rfl, SqT.of hb, by rw [z]; exact atI_nat e2, ?_⟩)⟩)⟩
          exact ⟨_, _, rfl, hi i _ _ e1 e2, _, rfl, iteF ⟨rfl, _, rfl⟩⟩
        · rintro σ H1 ⟨rfl, k, rfl⟩
          exact q
      · refine ⟨_, rfl, _, _, _, _, true, rfl, .ty _, .base (.lst hb), kit_ty (by decide +kernel), _, rfl, iteT ?_⟩
        refine ⟨_, rfl, _, _, _, _, true, rfl, .ty _, .base (.lst hb), kit_ty (by decide +kernel), _, rfl, _, _, _, _, true, rfl, .ty _, .base (.lst ha), kit_ty (by decide +kernel), rfl, _, rfl, iteNS rfl ?_⟩
        refine ⟨_, rfl, _, _, _, _, false, rfl, .ty _, .base (.lst hb), kit_ty (by decide +kernel), _, rfl, _, _, _, _, false, rfl, .ty _, .base (.lst ha), kit_ty (by decide +kernel), rfl, _, rfl, iteNS rfl ?_⟩
        refine ⟨_, rfl, a, _, rfl, .inl (SqL.of ha), _, rfl, b, _, rfl, .inl (SqL.of hb), rfl, _, rfl, iteNS (by rw [hl]) ?_⟩
        refine ⟨_, rfl, b, _, rfl, .inl (SqL.of hb), _, rfl, by omega, by omega, for_range (lo := 0) (n := ys.length) (fun i σ H' => H' = H ∧ ∃ k, σ = [some (.ref a), some (.ref b), k]) ⟨rfl, _, rfl⟩ ?_ ?_⟩
        · rintro i σ H1 hi2 ⟨rfl, k, rfl⟩
          have e1 : xs[i]? = some xs[i] := List.getElem?_eq_getElem (by omega)
          have e2 : ys[i]? = some ys[i] := List.getElem?_eq_getElem hi2
          have z : (0 : Int) + (i : Int) = ((i : Nat) : Int) := Int.zero_add _
          refine ⟨_, rfl, _, rfl, .inl (⟨a, _, _, _, rfl, rfl, SqL.of ha, by rw [z]; exact atI_nat e1, _, rfl, _, rfl, .inl (⟨b, _, _, _, rfl, rfl, SqL.of hb, by rw [z]; exact atI_nat e2, ?_⟩)⟩)⟩
          exact ⟨_, _, rfl, hi i _ _ e1 e2, _, rfl, iteF ⟨rfl, _, rfl⟩⟩
        · rintro σ H1 ⟨rfl, k, rfl⟩
          exact q
/-! ### trees -/
abbrev OkS : Type := {w : Str // PyData.strOk w = true}
inductive Ar where
  | gone
  | name (w : OkS)
  | block (a b c d : Int)
inductive Tr where
  | gone
  | num (x y : Int)
  | cell (r c : Int)
  | neg (t : Tr)
  | op (s : Str) (l r : Tr)
  | call (n : Str) (as : List Ar)
def ArAt (H : Hp) (v : V) : Ar → Prop
  | .gone => ∃ q, v = .ref q ∧ H q = some (.tup [.str "gone"])
  | .name w => ∃ q, v = .ref q ∧ H q = some (.tup [.str "name", .str w.1])
  | .block a b c d => ∃ q, v = .ref q ∧ H q = some (.tup [.str "block", .int a, .int b, .int c, .int d])
inductive Ars (H : Hp) : List V → List Ar → Prop where
  | nil : Ars H [] []
  | cons {v : V} {a : Ar} {vs : List V} {as : List Ar} : ArAt H v a → Ars H vs as → Ars H (v :: vs) (a :: as)
def TrAt (H : Hp) : V → Tr → Prop
  | v, .gone => ∃ q, v = .ref q ∧ H q = some (.tup [.str "gone"])
  | v, .num x y => ∃ q p, v = .ref q ∧ H q = some (.tup [.str "num", .ref p]) ∧ H p = some (.tup [.int x, .int y])
  | v, .cell r c => ∃ q, v = .ref q ∧ H q = some (.tup [.str "cell", .int r, .int c])
  | v, .neg t => ∃ q u, v = .ref q ∧ H q = some (.tup [.str "neg", u]) ∧ TrAt H u t
  | v, .op s l r => ∃ q u w, v = .ref q ∧ H q = some (.tup [.str "op", .str s, u, w]) ∧ TrAt H u l ∧ TrAt H w r
  | v, .call n as => ∃ q p vs, v = .ref q ∧ H q = some (.tup [.str "call", .str n, .ref p]) ∧ H p = some (.tup vs) ∧ Ars H vs as
theorem ArAt.mono {H H' : Hp} (s : TK H H') {v : V} : ∀ {a : Ar}, ArAt H v a → ArAt H' v a
  | .gone, ⟨q, h, h1⟩ => ⟨q, h, s _ _ h1⟩
  | .name _, ⟨q, h, h1⟩ => ⟨q, h, s _ _ h1⟩
  | .block _ _ _ _, ⟨q, h, h1⟩ => ⟨q, h, s _ _ h1⟩
theorem Ars.mono {H H' : Hp} (s : TK H H') : ∀ {vs as}, Ars H vs as → Ars H' vs as
  | _, _, .nil => .nil
  | _, _, .cons h r => .cons (h.mono s) (r.mono s)
theorem Ars.len {H : Hp} : ∀ {vs as}, Ars H vs as → vs.length = as.length
  | _, _, .nil => rfl
  | _, _, .cons _ r => congrArg (· + 1) r.len
theorem Ars.app {H : Hp} {us : List V} {bs : List Ar} (h : Ars H us bs) : ∀ {vs as}, Ars H vs as → Ars H (vs ++ us) (as ++ bs)
  | _, _, .nil => h
  | _, _, .cons h2 r => .cons h2 (Ars.app h r)
theorem Ars.get {H : Hp} : ∀ {vs as}, Ars H vs as → ∀ (i : Nat) x, vs[i]? = some x → ∃ a, as[i]? = some a ∧ ArAt H x a
  | _, _, .nil, i, x, h => by simp at h
  | _, _, .cons (a := a) h r, 0, x, e => ⟨a, rfl, by cases e; exact h⟩
  | _, _, .cons h r, i + 1, x, e => r.get i x (by simpa using e)
theorem TrAt.mono {H H' : Hp} (s : TK H H') : ∀ {t : Tr} {v : V}, TrAt H v t → TrAt H' v t
  | .gone, _, ⟨q, h, h1⟩ => ⟨q, h, s _ _ h1⟩
  | .num _ _, _, ⟨q, p, h, h1, h2⟩ => ⟨q, p, h, s _ _ h1, s _ _ h2⟩
  | .cell _ _, _, ⟨q, h, h1⟩ => ⟨q, h, s _ _ h1⟩
  | .neg _, _, ⟨q, u, h, h1, h2⟩ => ⟨q, u, h, s _ _ h1, h2.mono s⟩
  | .op _ _ _, _, ⟨q, u, w, h, h1, h2, h3⟩ => ⟨q, u, w, h, s _ _ h1, h2.mono s, h3.mono s⟩
  | .call _ _, _, ⟨q, p, vs, h, h1, h2, h3⟩ => ⟨q, p, vs, h, s _ _ h1, s _ _ h2, h3.mono s⟩
def Tr.h : Tr → Nat
  | .neg t => t.h + 1
  | .op _ l r => max l.h r.h + 1
  | _ => 0
def Tr.ok (m : Nat) : Tr → Prop
  | .neg t => t.ok m
  | .op _ l r => l.ok m ∧ r.ok m
  | .call _ as => as.length ≤ m
  | _ => True
def sz : Tr → Int
  | .neg t => 1 + sz t
  | .op _ l r => 1 + sz l + sz r
  | .call _ as => 1 + (as.length : Int)
  | _ => 1
def tcells : Tr → List (Int × Int)
  | .cell r c => [(r, c)]
  | .neg t => tcells t
  | .op _ l r => tcells l ++ tcells r
  | _ => []
def tareas : Tr → List Ar
  | .call _ as => as
  | .neg t => tareas t
  | .op _ l r => tareas l ++ tareas r
  | _ => []
def mr : Ar → List Ar
  | .gone => []
  | .name w => [.name w]
  | .block a b c d => [.gone, .block a b (c + 2) d]
def orGone : List Ar → List Ar
  | [] => [.gone]
  | as => as
def dn (r c : Int) : Tr := if r > 5 then .gone else .cell (r + 1) c
def mp : Tr → Tr
  | .cell r c => dn r c
  | .neg t => .neg (mp t)
  | .op s l r => .op s (mp l) (mp r)
  | .call n as => .call n (orGone (as.flatMap mr))
  | t => t
theorem ifN {a b : Str} {A B : Prop} (h : a ≠ b) (q : B) : if decide (V.str a = V.str b) = true then A else B := by
  rw [if_neg fun z => h (V.str.inj (of_decide_eq_true z))]
  exact q
theorem ifY {a : Str} {A B : Prop} (q : A) : if decide (V.str a = V.str a) = true then A else B := by
  rw [if_pos (decide_eq_true rfl)]
  exact q
theorem w1 : ("gone" : Str) ≠ "neg" ∧ ("gone" : Str) ≠ "op" ∧ ("gone" : Str) ≠ "call" ∧ ("gone" : Str) ≠ "cell" ∧ ("gone" : Str) ≠ "name" := by decide +kernel
theorem w2 : ("num" : Str) ≠ "neg" ∧ ("num" : Str) ≠ "op" ∧ ("num" : Str) ≠ "call" ∧ ("num" : Str) ≠ "cell" := by decide +kernel
theorem w3 : ("cell" : Str) ≠ "neg" ∧ ("cell" : Str) ≠ "op" ∧ ("cell" : Str) ≠ "call" := by decide +kernel
theorem w4 : ("neg" : Str) ≠ "op" ∧ ("neg" : Str) ≠ "call" ∧ ("neg" : Str) ≠ "cell" := by decide +kernel
theorem w5 : ("op" : Str) ≠ "neg" ∧ ("op" : Str) ≠ "call" ∧ ("op" : Str) ≠ "cell" := by decide +kernel
theorem w6 : ("call" : Str) ≠ "neg" ∧ ("call" : Str) ≠ "op" ∧ ("call" : Str) ≠ "cell" := by decide +kernel
theorem w7 : ("name" : Str) ≠ "gone" ∧ ("block" : Str) ≠ "gone" ∧ ("block" : Str) ≠ "name" := by decide +kernel
theorem hop {s : Str} {l r : Tr} {n : Nat} (h : (Tr.op s l r).h < n + 1) : l.h < n ∧ r.h < n := by
  have : max l.h r.h + 1 < n + 1 := h
  omega
theorem hneg {t : Tr} {n : Nat} (h : (Tr.neg t).h < n + 1) : t.h < n := by
  have : t.h + 1 < n + 1 := h
  omega
theorem pow_le {n : Nat} (h : n ≤ 8) : 2 ^ n ≤ 256 := Nat.le_trans (Nat.pow_le_pow_right (by decide) h) (by decide)
theorem tcells_len : ∀ {t : Tr} {n : Nat}, t.h < n + 1 → (tcells t).length ≤ 2 ^ n
  | .gone, n, _ => Nat.zero_le _
  | .num _ _, n, _ => Nat.zero_le _
  | .cell _ _, n, _ => Nat.one_le_two_pow
  | .call _ _, n, _ => Nat.zero_le _
  | .neg t, 0, h => absurd (hneg h) (Nat.not_lt_zero _)
  | .neg t, n + 1, h => Nat.le_trans (tcells_len (t := t) (hneg h)) (Nat.pow_le_pow_right (by decide) (Nat.le_succ n))
  | .op s l r, 0, h => absurd (hop h).1 (Nat.not_lt_zero _)
  | .op s l r, n + 1, h => by
    have a := tcells_len (hop h).1
    have b := tcells_len (hop h).2
    show (tcells l ++ tcells r).length ≤ _
    rw [List.length_append, Nat.pow_succ]
    omega
theorem tareas_len {m : Nat} : ∀ {t : Tr} {n : Nat}, t.h < n + 1 → t.ok m → (tareas t).length ≤ m * 2 ^ n
  | .gone, n, _, _ => Nat.zero_le _
  | .num _ _, n, _, _ => Nat.zero_le _
  | .cell _ _, n, _, _ => Nat.zero_le _
  | .call _ as, n, _, o => Nat.le_trans o (Nat.le_mul_of_pos_right _ Nat.one_le_two_pow)
  | .neg t, 0, h, _ => absurd (hneg h) (Nat.not_lt_zero _)
  | .neg t, n + 1, h, o => Nat.le_trans (tareas_len (t := t) (hneg h) o) (Nat.mul_le_mul_left _ (Nat.pow_le_pow_right (by decide) (Nat.le_succ n)))
  | .op s l r, 0, h, _ => absurd (hop h).1 (Nat.not_lt_zero _)
  | .op s l r, n + 1, h, o => by
    have a := tareas_len (hop h).1 o.1
    have b := tareas_len (hop h).2 o.2
    show (tareas l ++ tareas r).length ≤ _
    rw [List.length_append, Nat.pow_succ, ← Nat.mul_assoc]
    omega
inductive Cls (H : Hp) : List V → List (Int × Int) → Prop where
  | nil : Cls H [] []
  | cons {q : Addr} {z : Int × Int} {vs : List V} {zs : List (Int × Int)} : H q = some (.tup [.int z.1, .int z.2]) → Cls H vs zs → Cls H (.ref q :: vs) (z :: zs)
theorem Cls.mono {H H' : Hp} (s : TK H H') : ∀ {vs zs}, Cls H vs zs → Cls H' vs zs
  | _, _, .nil => .nil
  | _, _, .cons h r => .cons (s _ _ h) (r.mono s)
theorem Cls.len {H : Hp} : ∀ {vs zs}, Cls H vs zs → vs.length = zs.length
  | _, _, .nil => rfl
  | _, _, .cons _ r => congrArg (· + 1) r.len
theorem Cls.app {H : Hp} {us : List V} {ys : List (Int × Int)} (h : Cls H us ys) : ∀ {vs zs}, Cls H vs zs → Cls H (vs ++ us) (zs ++ ys)
  | _, _, .nil => h
  | _, _, .cons h2 r => .cons h2 (Cls.app h r)
def spCells (K : PySem.W.Frag) (n : Nat) : Sp := fun vs H Q _ => ∃ (v : V) (t : Tr), vs = [v] ∧ t.h < n ∧ n ≤ 9 ∧ TrAt H v t ∧ ∀ (H' : Hp) (l : Addr) (us : List V), Same H H' → H l = none → H' l = some (.lst us) → Cls H' us (tcells t) → Q (.ref l) H'
theorem okNamedCells (T : Txt K mg) : ∀ n : Nat, FnOk P w K mg base CX0 (n + 1) T.fNamedCells T.fdNamedCells ["tree"] (spCells K n)
  | 0 => by
    refine T.FNamedCells.ok scNamedCells (fun vs H Q E h => ?_) (fun cdv A outer s H vs Q E hr h => ?_)
    · obtain ⟨v, t, rfl, hh, _⟩ := h
      rfl
    · obtain ⟨v, t, rfl, hh, _⟩ := h
      exact absurd hh (Nat.not_lt_zero _)
  | n + 1 => by
    have IH := okNamedCells T n
    refine T.FNamedCells.ok scNamedCells (fun vs H Q E h => ?_) (fun cdv A outer s H vs Q E hr h => ?_)
    · obtain ⟨v, t, rfl, _⟩ := h
      rfl
    · obtain ⟨v, t, rfl, hh, hn, ht, q⟩ := h
      -- slots tree=0
      refine ⟨_, (pss_cons (ps_if (pt_cmpR op_eq (pe_ix ix_tup (pv 0) pe_int (fun _ _ => rfl)) pe_str (nomark _))
            (pss_one (ps_ret (pe_lst (pa_cons (pe_tup (pa_cons (pe_ix ix_tup (pv 0) pe_int (fun _ _ => rfl)) (pa_cons (pe_ix ix_tup (pv 0) pe_int (fun _ _ => rfl)) pa_nil))) pa_nil))))
            pss_nil)
          (pss_cons (ps_if (pt_cmpR op_eq (pe_ix ix_tup (pv 0) pe_int (fun _ _ => rfl)) pe_str (nomark _))
            (pss_one (ps_ret (pe_call IH (hr.mono (by omega)) (by rfl) T.gNamedCells T.FNamedCells.kp T.bNamedCells .nil pass0 (pa_cons (pe_ix ix_tup (pv 0) pe_int (fun _ _ => rfl)) pa_nil))))
            pss_nil)
          (pss_cons (ps_if (pt_cmpR op_eq (pe_ix ix_tup (pv 0) pe_int (fun _ _ => rfl)) pe_str (nomark _))
            (pss_one (ps_ret (pe_op op_cat (pe_call IH (hr.mono (by omega)) (by rfl) T.gNamedCells T.FNamedCells.kp T.bNamedCells .nil pass0 (pa_cons (pe_ix ix_tup (pv 0) pe_int (fun _ _ => rfl)) pa_nil)) (pe_call IH (hr.mono (by omega)) (by rfl) T.gNamedCells T.FNamedCells.kp T.bNamedCells .nil pass0 (pa_cons (pe_ix ix_tup (pv 0) pe_int (fun _ _ => rfl)) pa_nil)))))
            pss_nil)
          (pss_one (ps_ret (pe_lst pa_nil)))))), ?_⟩
      cases t with
      | gone =>
        obtain ⟨p, rfl, h1⟩ := ht
        exact ⟨_, rfl, _, _, _, _, rfl, rfl, SqT.of h1, atI_nat (j := 0) rfl, rfl, _, rfl, ifN w1.2.2.2.1 ⟨_, rfl, _, _, _, _, rfl, rfl, SqT.of h1, atI_nat (j := 0) rfl, rfl, _, rfl, ifN w1.1 ⟨_, rfl, _, _, _, _, rfl, rfl, SqT.of h1, atI_nat (j := 0) rfl, rfl, _, rfl, ifN w1.2.1 ⟨Nat.zero_le _, fun l hl => q _ l [] (same_new hl) hl upd_same .nil⟩⟩⟩⟩
      | num x y =>
        obtain ⟨p, p2, rfl, h1, _⟩ := ht
        exact ⟨_, rfl, _, _, _, _, rfl, rfl, SqT.of h1, atI_nat (j := 0) rfl, rfl, _, rfl, ifN w2.2.2.2 ⟨_, rfl, _, _, _, _, rfl, rfl, SqT.of h1, atI_nat (j := 0) rfl, rfl, _, rfl, ifN w2.1 ⟨_, rfl, _, _, _, _, rfl, rfl, SqT.of h1, atI_nat (j := 0) rfl, rfl, _, rfl, ifN w2.2.1 ⟨Nat.zero_le _, fun l hl => q _ l [] (same_new hl) hl upd_same .nil⟩⟩⟩⟩
      | call m as =>
        obtain ⟨p, p2, vs, rfl, h1, _⟩ := ht
        exact ⟨_, rfl, _, _, _, _, rfl, rfl, SqT.of h1, atI_nat (j := 0) rfl, rfl, _, rfl, ifN w6.2.2 ⟨_, rfl, _, _, _, _, rfl, rfl, SqT.of h1, atI_nat (j := 0) rfl, rfl, _, rfl, ifN w6.1 ⟨_, rfl, _, _, _, _, rfl, rfl, SqT.of h1, atI_nat (j := 0) rfl, rfl, _, rfl, ifN w6.2.1 ⟨Nat.zero_le _, fun l hl => q _ l [] (same_new hl) hl upd_same .nil⟩⟩⟩⟩
      | cell r c =>
        obtain ⟨p, rfl, h1⟩ := ht
        exact ⟨_, rfl, _, _, _, _, rfl, rfl, SqT.of h1, atI_nat (j := 0) rfl, rfl, _, rfl, ifY ⟨_, rfl, _, _, _, _, rfl, rfl, SqT.of h1, atI_nat (j := 1) rfl, _, rfl, _, _, _, _, rfl, rfl, SqT.of h1, atI_nat (j := 2) rfl, (by show 2 ≤ sizeLine; decide), fun u hu => ⟨(by show 1 ≤ sizeLine; decide), fun l hl => q _ l [.ref u] ((same_new hu).trans (same_new hl)) ((same_new hu).free hl) upd_same (.cons ((same_new hl) _ _ upd_same) .nil)⟩⟩⟩
      | neg t =>
        obtain ⟨p, u, rfl, h1, h2⟩ := ht
        exact ⟨_, rfl, _, _, _, _, rfl, rfl, SqT.of h1, atI_nat (j := 0) rfl, rfl, _, rfl, ifN w4.2.2 ⟨_, rfl, _, _, _, _, rfl, rfl, SqT.of h1, atI_nat (j := 0) rfl, rfl, _, rfl, ifY ⟨_, rfl, _, _, _, _, rfl, rfl, SqT.of h1, atI_nat (j := 1) rfl, u, t, rfl, hneg hh, by omega, h2, q⟩⟩⟩
      | op s l r =>
        obtain ⟨p, u, w, rfl, h1, h2, h3⟩ := ht
        refine ⟨_, rfl, _, _, _, _, rfl, rfl, SqT.of h1, atI_nat (j := 0) rfl, rfl, _, rfl, ifN w5.2.2 ⟨_, rfl, _, _, _, _, rfl, rfl, SqT.of h1, atI_nat (j := 0) rfl, rfl, _, rfl, ifN w5.1 ⟨_, rfl, _, _, _, _, rfl, rfl, SqT.of h1, atI_nat (j := 0) rfl, rfl, _, rfl, ifY ⟨_, rfl, _, _, _, _, rfl, rfl, SqT.of h1, atI_nat (j := 2) rfl, u, l, rfl, (hop hh).1, by omega, h2, fun H1 l1 us1 s1 _ e1 c1 => ?_⟩⟩⟩⟩
        have h1' := s1 _ _ h1
        refine ⟨_, rfl, _, _, _, _, rfl, rfl, SqT.of h1', atI_nat (j := 3) rfl, w, r, rfl, (hop hh).2, by omega, h3.mono (TK.of s1), fun H2 l2 us2 s2 _ e2 c2 => ?_⟩
        refine ⟨l1, l2, us1, us2, rfl, rfl, s2 _ _ e1, e2, ?_, fun l hl => q _ l (us1 ++ us2) ((s1.trans s2).trans (same_new hl)) ((s1.trans s2).free hl) upd_same ?_⟩
        · have a := tcells_len hh
          have : (tcells (.op s l r)).length = us1.length + us2.length := by
            show (tcells l ++ tcells r).length = _
            rw [List.length_append, c1.len, c2.len]
          have b := pow_le (n := n) (by omega)
          exact sz100 (by omega)
        · exact Cls.app (c2.mono (TK.of (same_new hl))) (c1.mono (TK.of (s2.trans (same_new hl))))
def spAreas (K : PySem.W.Frag) (n : Nat) : Sp := fun vs H Q _ => ∃ (v : V) (t : Tr), vs = [v] ∧ t.h < n ∧ n ≤ 9 ∧ t.ok 8 ∧ TrAt H v t ∧ ∀ (H' : Hp) (l : Addr) (us : List V), Same H H' → H l = none → H' l = some (.lst us) → Ars H' us (tareas t) → Q (.ref l) H'
theorem okAreasOf (T : Txt K mg) : ∀ n : Nat, FnOk P w K mg base CX0 (n + 1) T.fAreasOf T.fdAreasOf ["tree"] (spAreas K n)
  | 0 => by
    refine T.FAreasOf.ok scAreasOf (fun vs H Q E h => ?_) (fun cdv A outer s H vs Q E hr h => ?_)
    · obtain ⟨v, t, rfl, hh, _⟩ := h
      rfl
    · obtain ⟨v, t, rfl, hh, _⟩ := h
      exact absurd hh (Nat.not_lt_zero _)
  | n + 1 => by
    have IH := okAreasOf T n
    refine T.FAreasOf.ok scAreasOf (fun vs H Q E h => ?_) (fun cdv A outer s H vs Q E hr h => ?_)
    · obtain ⟨v, t, rfl, _⟩ := h
      rfl
    · obtain ⟨v, t, rfl, hh, hn, ok, ht, q⟩ := h
      -- slots tree=0
      refine ⟨_, (pss_cons (ps_if (pt_cmpR op_eq (pe_ix ix_tup (pv 0) pe_int (fun _ _ => rfl)) pe_str (nomark _))
            (pss_one (ps_ret (pe_callTy call_list_of (by rfl) T.z_list (by decide +kernel) (pa_cons (pe_ix ix_tup (pv 0) pe_int (fun _ _ => rfl)) pa_nil))))
            pss_nil)
          (pss_cons (ps_if (pt_cmpR op_eq (pe_ix ix_tup (pv 0) pe_int (fun _ _ => rfl)) pe_str (nomark _))
            (pss_one (ps_ret (pe_call IH (hr.mono (by omega)) (by rfl) T.gAreasOf T.FAreasOf.kp T.bAreasOf .nil pass0 (pa_cons (pe_ix ix_tup (pv 0) pe_int (fun _ _ => rfl)) pa_nil))))
            pss_nil)
          (pss_cons (ps_if (pt_cmpR op_eq (pe_ix ix_tup (pv 0) pe_int (fun _ _ => rfl)) pe_str (nomark _))
            (pss_one (ps_ret (pe_op op_cat (pe_call IH (hr.mono (by omega)) (by rfl) T.gAreasOf T.FAreasOf.kp T.bAreasOf .nil pass0 (pa_cons (pe_ix ix_tup (pv 0) pe_int (fun _ _ => rfl)) pa_nil)) (pe_call IH (hr.mono (by omega)) (by rfl) T.gAreasOf T.FAreasOf.kp T.bAreasOf .nil pass0 (pa_cons (pe_ix ix_tup (pv 0) pe_int (fun _ _ => rfl)) pa_nil)))))
            pss_nil)
          (pss_one (ps_ret (pe_lst pa_nil)))))), ?_⟩
      cases t with
      | gone =>
        obtain ⟨p, rfl, h1⟩ := ht
        exact ⟨_, rfl, _, _, _, _, rfl, rfl, SqT.of h1, atI_nat (j := 0) rfl, rfl, _, rfl, ifN w1.2.2.1 ⟨_, rfl, _, _, _, _, rfl, rfl, SqT.of h1, atI_nat (j := 0) rfl, rfl, _, rfl, ifN w1.1 ⟨_, rfl, _, _, _, _, rfl, rfl, SqT.of h1, atI_nat (j := 0) rfl, rfl, _, rfl, ifN w1.2.1 ⟨Nat.zero_le _, fun l hl => q _ l [] (same_new hl) hl upd_same .nil⟩⟩⟩⟩
      | num x y =>
        obtain ⟨p, p2, rfl, h1, _⟩ := ht
        exact ⟨_, rfl, _, _, _, _, rfl, rfl, SqT.of h1, atI_nat (j := 0) rfl, rfl, _, rfl, ifN w2.2.2.1 ⟨_, rfl, _, _, _, _, rfl, rfl, SqT.of h1, atI_nat (j := 0) rfl, rfl, _, rfl, ifN w2.1 ⟨_, rfl, _, _, _, _, rfl, rfl, SqT.of h1, atI_nat (j := 0) rfl, rfl, _, rfl, ifN w2.2.1 ⟨Nat.zero_le _, fun l hl => q _ l [] (same_new hl) hl upd_same .nil⟩⟩⟩⟩
      | cell r c =>
        obtain ⟨p, rfl, h1⟩ := ht
        exact ⟨_, rfl, _, _, _, _, rfl, rfl, SqT.of h1, atI_nat (j := 0) rfl, rfl, _, rfl, ifN w3.2.2 ⟨_, rfl, _, _, _, _, rfl, rfl, SqT.of h1, atI_nat (j := 0) rfl, rfl, _, rfl, ifN w3.1 ⟨_, rfl, _, _, _, _, rfl, rfl, SqT.of h1, atI_nat (j := 0) rfl, rfl, _, rfl, ifN w3.2.1 ⟨Nat.zero_le _, fun l hl => q _ l [] (same_new hl) hl upd_same .nil⟩⟩⟩⟩
      | call m as =>
        obtain ⟨p, p2, vs, rfl, h1, h2, h3⟩ := ht
        exact ⟨_, rfl, _, _, _, _, rfl, rfl, SqT.of h1, atI_nat (j := 0) rfl, rfl, _, rfl, ifY ⟨_, rfl, _, _, _, _, rfl, rfl, SqT.of h1, atI_nat (j := 2) rfl, p2, vs, rfl, .inr (SqT.of h2), fun l hl => q _ l vs (same_new hl) hl upd_same (h3.mono (TK.of (same_new hl)))⟩⟩
      | neg t =>
        obtain ⟨p, u, rfl, h1, h2⟩ := ht
        exact ⟨_, rfl, _, _, _, _, rfl, rfl, SqT.of h1, atI_nat (j := 0) rfl, rfl, _, rfl, ifN w4.2.1 ⟨_, rfl, _, _, _, _, rfl, rfl, SqT.of h1, atI_nat (j := 0) rfl, rfl, _, rfl, ifY ⟨_, rfl, _, _, _, _, rfl, rfl, SqT.of h1, atI_nat (j := 1) rfl, u, t, rfl, hneg hh, by omega, ok, h2, q⟩⟩⟩
      | op s l r =>
        obtain ⟨p, u, w, rfl, h1, h2, h3⟩ := ht
        refine ⟨_, rfl, _, _, _, _, rfl, rfl, SqT.of h1, atI_nat (j := 0) rfl, rfl, _, rfl, ifN w5.2.1 ⟨_, rfl, _, _, _, _, rfl, rfl, SqT.of h1, atI_nat (j := 0) rfl, rfl, _, rfl, ifN w5.1 ⟨_, rfl, _, _, _, _, rfl, rfl, SqT.of h1, atI_nat (j := 0) rfl, rfl, _, rfl, ifY ⟨_, rfl, _, _, _, _, rfl, rfl, SqT.of h1, atI_nat (j := 2) rfl, u, l, rfl, (hop hh).1, by omega, ok.1, h2, fun H1 l1 us1 s1 _ e1 c1 => ?_⟩⟩⟩⟩
        have h1' := s1 _ _ h1
        refine ⟨_, rfl, _, _, _, _, rfl, rfl, SqT.of h1', atI_nat (j := 3) rfl, w, r, rfl, (hop hh).2, by omega, ok.2, h3.mono (TK.of s1), fun H2 l2 us2 s2 _ e2 c2 => ?_⟩
        refine ⟨l1, l2, us1, us2, rfl, rfl, s2 _ _ e1, e2, ?_, fun l hl => q _ l (us1 ++ us2) ((s1.trans s2).trans (same_new hl)) ((s1.trans s2).free hl) upd_same ?_⟩
        · have a := tareas_len hh ok
          have : (tareas (.op s l r)).length = us1.length + us2.length := by
            show (tareas l ++ tareas r).length = _
            rw [List.length_append, c1.len, c2.len]
          have b := pow_le (n := n) (by omega)
          exact sz100 (by omega)
        · exact Ars.app (c2.mono (TK.of (same_new hl))) (c1.mono (TK.of (s2.trans (same_new hl))))
/-- a fraction in range -/
structure Fr (n d : Int) : Prop where
  lo : -1000000000000000000 ≤ n
  hi : n ≤ 1000000000000000000
  pos : 0 < d
  top : d ≤ 1000000000000000000
/-- in range and in lowest terms -/
def Fl (n d : Int) : Prop := Fr n d ∧ Nat.gcd n.natAbs d.natAbs = 1
/-! ### the greatest common divisor by Euclid's steps -/
theorem half_step {a b : Nat} (hb : 0 < b) (hba : b ≤ a) : 2 * (b * (a % b)) ≤ a * b := by
  have h1 := Nat.mod_lt a hb
  have h2 : b + a % b ≤ a := by
    have e := Nat.div_add_mod a b
    have q : 1 ≤ a / b := (Nat.one_le_div_iff hb).mpr hba
    have z : b * 1 ≤ b * (a / b) := Nat.mul_le_mul_left b q
    omega
  have h3 : 2 * (a % b) ≤ a := by omega
  calc 2 * (b * (a % b)) = b * (2 * (a % b)) := by rw [Nat.mul_left_comm]
    _ ≤ b * a := Nat.mul_le_mul_left b h3
    _ = a * b := Nat.mul_comm b a
def spGcd (K : PySem.W.Frag) : Sp := fun vs H Q _ => ∃ (x y : Int), vs = [.int x, .int y] ∧ x.natAbs * y.natAbs < 2 ^ 890 ∧ Q (.int ((Nat.gcd x.natAbs y.natAbs : Nat) : Int)) H
theorem abs_eq (x : Int) : (if x < 0 then -x else x) = ((x.natAbs : Nat) : Int) := by
  split <;> omega
theorem okLawGcd (T : Txt K mg) : FnOk P w K mg base CX0 1 T.fLawGcd T.fdLawGcd ["a", "b"] (spGcd K) := by
  refine T.FLawGcd.ok scLawGcd (fun vs H Q E h => ?_) (fun cdv A outer s H vs Q E hr h => ?_)
  · obtain ⟨x, y, rfl, _⟩ := h
    rfl
  · obtain ⟨x, y, rfl, hz, q⟩ := h
    -- slots a=0 b=1 turn=2 rest=3
    refine ⟨_, (pss_cons (ps_set (i := 0) scLawGcd.nd rfl (Or.inl rfl) (pe_callB call_abs (by rfl) T.z_abs (by decide +kernel) (pa_cons (pv 0) pa_nil)))
        (pss_cons (ps_set (i := 1) scLawGcd.nd rfl (Or.inl rfl) (pe_callB call_abs (by rfl) T.z_abs (by decide +kernel) (pa_cons (pv 1) pa_nil)))
        (pss_cons (ps_for PassesOwn.never rfl (pi_range1 rfl T.z_range (pa_cons pe_int pa_nil)) (pg_name (i := 2) scLawGcd.nd rfl (Or.inl rfl))
          (pss_cons (ps_if (pt_cmpR op_eq (pv 1) pe_int (nomark _))
            (pss_one ps_break)
            pss_nil)
          (pss_cons (ps_set (i := 3) scLawGcd.nd rfl (Or.inl rfl) (pe_op op_mod (pe_callTy call_int1 (by rfl) T.z_int (by decide +kernel) (pa_cons (pv 0) pa_nil)) (pv 1)))
          (pss_cons (ps_set (i := 0) scLawGcd.nd rfl (Or.inl rfl) (pv 1))
          (pss_one (ps_set (i := 1) scLawGcd.nd rfl (Or.inl rfl) (pv 3)))))))
        (pss_one (ps_ret (pv 0)))))), ?_⟩
    refine ⟨_, rfl, _, rfl, ?_⟩
    refine ⟨_, rfl, _, rfl, ?_⟩
    rw [abs_eq, abs_eq]
    generalize x.natAbs = a0 at hz q ⊢
    generalize y.natAbs = b0 at hz q ⊢
    refine ⟨900, rfl, by decide, by decide, for_range (lo := 0) (n := 900) (fun t σ H' => ∃ (a b : Nat) (c c1 : Option V), σ = [some (.int (a : Int)), some (.int (b : Int)), c, c1] ∧ H' = H ∧ Nat.gcd a b = Nat.gcd a0 b0 ∧ (t = 0 ∨ b ≤ a) ∧ (a * b) * 2 ^ (t - 1) < 2 ^ 890) ⟨a0, b0, _, _, rfl, rfl, rfl, .inl rfl, by simpa using hz⟩ ?_ ?_⟩
    · rintro t σ H1 ht ⟨a, b, c, c1, rfl, rfl, hg, ho, hs⟩
      refine ⟨_, rfl, rfl, _, rfl, ite2 (fun e => ?_) (fun e => ?_)⟩
      · have e2 : b = 0 := by
          have e3 := V.int.inj (of_decide_eq_true e)
          omega
        subst e2
        rw [Nat.gcd_zero_right] at hg
        refine ⟨_, rfl, ?_⟩
        rw [hg]
        exact q
      · have hb : 0 < b := by
          rcases Nat.eq_zero_or_pos b with z | z
          · subst z
            exact absurd (decide_eq_true rfl) e
          · exact z
        refine ⟨_, rfl, .inl ⟨_, rfl, _, rfl, _, _, rfl, rfl, (by show (0 : Int) < (b : Int); omega), ?_⟩⟩
        refine ⟨_, rfl, _, rfl, b, a % b, _, _, rfl, rfl, ?_, .inr (Nat.le_of_lt (Nat.mod_lt a hb)), ?_⟩
        · rw [← hg, Nat.gcd_comm a b, Nat.gcd_rec b a, Nat.gcd_comm]
        · rcases ho with z | z
          · subst z
            rw [show (2 : Nat) ^ (0 + 1 - 1) = 2 ^ (0 - 1) from rfl]
            refine Nat.lt_of_le_of_lt (Nat.mul_le_mul_right _ ?_) hs
            rw [Nat.mul_comm a b]
            exact Nat.mul_le_mul_left b (Nat.mod_le a b)
          · have h2 := half_step hb z
            rcases t with _ | t
            · refine Nat.lt_of_le_of_lt (Nat.mul_le_mul_right _ ?_) hs
              omega
            · show b * (a % b) * 2 ^ (t + 1) < 2 ^ 890
              refine Nat.lt_of_le_of_lt ?_ (show (a * b) * 2 ^ t < 2 ^ 890 from hs)
              rw [Nat.pow_succ, Nat.mul_comm (2 ^ t) 2, ← Nat.mul_assoc]
              refine Nat.mul_le_mul_right _ ?_
              rw [Nat.mul_comm]
              exact h2
    · rintro σ H1 ⟨a, b, c, c1, rfl, rfl, hg, ho, hs⟩
      have hb : a * b = 0 := by
        rcases Nat.eq_zero_or_pos (a * b) with z | z
        · exact z
        · exfalso
          have h1 : 1 * 2 ^ (900 - 1) ≤ (a * b) * 2 ^ (900 - 1) := Nat.mul_le_mul_right _ z
          have h2 : (2 : Nat) ^ 890 ≤ 1 * 2 ^ (900 - 1) := by decide
          omega
      have hb0 : b = 0 := by
        rcases Nat.mul_eq_zero.mp hb with z | z
        · rcases ho with w | w <;> omega
        · exact z
      subst hb0
      rw [Nat.gcd_zero_right] at hg
      refine ⟨_, rfl, ?_⟩
      rw [hg]
      exact q
/-! ### fractions in lowest terms -/
theorem op_fdivZ {X : Cx} : OpR X (binaryOp .FloorDiv) (rI (fun _ j => j ≠ 0 ∧ j.natAbs.log2 < 9000) fun i j => .int (i.fdiv j)) := opI fun i j _ _ _ _ _ hc q => floordiv_int hc.1 q (.inl (PyProof.noPylong_of_log2 hc.2))
structure Low (n d x y : Int) : Prop where
  pos : 0 < y
  eq : x * d = n * y
  cop : Nat.gcd x.natAbs y.natAbs = 1
  lx : x.natAbs ≤ n.natAbs
  ly : y.natAbs ≤ d.natAbs
def cmn (n d : Int) : Int := if d < 0 then -((Nat.gcd n.natAbs d.natAbs : Nat) : Int) else ((Nat.gcd n.natAbs d.natAbs : Nat) : Int)
theorem cmn_abs (n d : Int) : (cmn n d).natAbs = Nat.gcd n.natAbs d.natAbs := by
  unfold cmn
  split <;> omega
theorem low_of {n d : Int} (hd : d ≠ 0) : Low n d (n.fdiv (cmn n d)) (d.fdiv (cmn n d)) := by
  have hg : 0 < Nat.gcd n.natAbs d.natAbs := Nat.gcd_pos_of_pos_right _ (by omega)
  have ha := cmn_abs n d
  have hc : cmn n d ≠ 0 := by omega
  have d1 : cmn n d ∣ n := Int.natAbs_dvd_natAbs.mp (by rw [ha]; exact Nat.gcd_dvd_left _ _)
  have d2 : cmn n d ∣ d := Int.natAbs_dvd_natAbs.mp (by rw [ha]; exact Nat.gcd_dvd_right _ _)
  have sg : 0 < d → 0 < cmn n d := fun h => by
    unfold cmn
    rw [if_neg (by omega)]
    omega
  have sg2 : d < 0 → cmn n d < 0 := fun h => by
    unfold cmn
    rw [if_pos h]
    omega
  obtain ⟨x, hx⟩ := d1
  obtain ⟨y, hy⟩ := d2
  generalize cmn n d = c at *
  have e1 : n.fdiv c = x := by rw [hx]; exact Int.mul_fdiv_cancel_left _ hc
  have e2 : d.fdiv c = y := by rw [hy]; exact Int.mul_fdiv_cancel_left _ hc
  rw [e1, e2]
  have y0 : 0 < y := by
    rcases Int.lt_trichotomy d 0 with h | h | h
    · have hc2 := sg2 h
      rcases Int.lt_trichotomy y 0 with z | z | z
      · have := Int.mul_pos_of_neg_of_neg hc2 z
        omega
      · subst z
        simp at hy
        omega
      · exact z
    · exact absurd h hd
    · have hc2 := sg h
      rcases Int.lt_trichotomy y 0 with z | z | z
      · have := Int.mul_neg_of_pos_of_neg hc2 z
        omega
      · subst z
        simp at hy
        omega
      · exact z
  have en : n.natAbs = c.natAbs * x.natAbs := by rw [hx, Int.natAbs_mul]
  have ed : d.natAbs = c.natAbs * y.natAbs := by rw [hy, Int.natAbs_mul]
  refine ⟨y0, ?_, ?_, ?_, ?_⟩
  · rw [hx, hy, Int.mul_assoc, Int.mul_comm x, Int.mul_assoc, Int.mul_comm x]
  · rw [en, ed, Nat.gcd_mul_left] at ha
    rw [en, ed, Nat.gcd_mul_left] at hg
    have z : c.natAbs * 1 = c.natAbs * Nat.gcd x.natAbs y.natAbs := by rw [Nat.mul_one]; exact ha
    exact (Nat.eq_of_mul_eq_mul_left (by omega) z).symm
  · rw [en]
    exact Nat.le_mul_of_pos_left _ (by omega)
  · rw [ed]
    exact Nat.le_mul_of_pos_left _ (by omega)
def spLowest (K : PySem.W.Frag) : Sp := fun vs H Q _ => ∃ (n d : Int), vs = [.int n, .int d] ∧ d ≠ 0 ∧ n.natAbs < 2 ^ 400 ∧ d.natAbs < 2 ^ 400 ∧ ∀ p x y, H p = none → Low n d x y → Q (.ref p) (upd H p (.tup [.int x, .int y]))
theorem okLawLowest (T : Txt K mg) : FnOk P w K mg base CX0 2 T.fLawLowest T.fdLawLowest ["n", "d"] (spLowest K) := by
  refine T.FLawLowest.ok scLawLowest (fun vs H Q E h => ?_) (fun cdv A outer s H vs Q E hr h => ?_)
  · obtain ⟨n, d, rfl, _⟩ := h
    rfl
  · obtain ⟨n, d, rfl, hd, zn, zd, q⟩ := h
    -- slots n=0 d=1 common=2
    refine ⟨_, (C8.pss_cut (ps_if (pt_cmpR op_lt (pv 1) pe_int (nomark _))
          (pss_cons (ps_set (i := 0) scLawLowest.nd rfl (Or.inl rfl) (pe_op op_sub pe_int (pv 0)))
          (pss_one (ps_set (i := 1) scLawLowest.nd rfl (Or.inl rfl) (pe_op op_sub pe_int (pv 1)))))
          pss_nil)
        (pss_cons (ps_set (i := 2) scLawLowest.nd rfl (Or.inl rfl) (pe_call (okLawGcd T) (hr.mono (by decide)) (by rfl) T.gLawGcd T.FLawGcd.kp T.bLawGcd .nil pass0 (pa_cons (pv 0) (pa_cons (pv 1) pa_nil))))
        (pss_one (ps_ret (pe_tup (pa_cons (pe_op op_fdivZ (pv 0) (pv 2)) (pa_cons (pe_op op_fdivZ (pv 1) (pv 2)) pa_nil))))))), ?_⟩
    refine ⟨fun σ H' => H' = H ∧ ∃ n2 d2 : Int, σ = [some (.int n2), some (.int d2), none] ∧ 0 < d2 ∧ n2.natAbs = n.natAbs ∧ d2.natAbs = d.natAbs ∧ ∀ x y, Low n2 d2 x y → Low n d x y, ?_, ?_⟩
    · refine ⟨_, rfl, _, _, rfl, rfl, _, rfl, ite2 (fun c => ?_) (fun c => ?_)⟩
      · have c2 : d < 0 := of_decide_eq_true c
        refine ⟨_, rfl, _, _, rfl, rfl, _, rfl, _, _, rfl, rfl, rfl, 0 - n, 0 - d, rfl, by omega, by omega, by omega, fun x y L => ?_⟩
        refine ⟨L.pos, ?_, L.cop, by have := L.lx; omega, by have := L.ly; omega⟩
        have e := L.eq
        rw [Int.zero_sub, Int.zero_sub, Int.mul_neg, Int.neg_mul] at e
        omega
      · have c2 : ¬ d < 0 := fun z => c (decide_eq_true z)
        exact ⟨rfl, n, d, rfl, by omega, rfl, rfl, fun _ _ L => L⟩
    · rintro σ H' ⟨rfl, n2, d2, rfl, h0, hn, hd2, hL⟩
      have hz : n2.natAbs * d2.natAbs < 2 ^ 890 := by
        rw [hn, hd2]
        exact Nat.lt_of_le_of_lt (Nat.mul_le_mul (Nat.le_of_lt zn) (Nat.le_of_lt zd)) (by decide)
      have hc : cmn n2 d2 = ((Nat.gcd n2.natAbs d2.natAbs : Nat) : Int) := by
        unfold cmn
        rw [if_neg (by omega)]
      have hg : 0 < Nat.gcd n2.natAbs d2.natAbs := Nat.gcd_pos_of_pos_right _ (by omega)
      have hb : (((Nat.gcd n2.natAbs d2.natAbs : Nat) : Int)).natAbs.log2 < 9000 := by
        refine Nat.lt_of_lt_of_le (PySem.Flt.log2_lt_of (k := 400) (by decide) ?_) (by decide)
        rw [Int.natAbs_natCast]
        refine Nat.lt_of_le_of_lt (Nat.le_of_dvd (by omega) (Nat.gcd_dvd_right _ _)) ?_
        rw [hd2]
        exact zd
      refine ⟨_, rfl, _, rfl, n2, d2, rfl, hz, ?_⟩
      have hne : (((Nat.gcd n2.natAbs d2.natAbs : Nat) : Int)) ≠ 0 := by omega
      refine ⟨_, rfl, _, rfl, _, _, rfl, rfl, ⟨hne, hb⟩, _, rfl, _, rfl, _, _, rfl, rfl, ⟨hne, hb⟩, (by show 2 ≤ sizeLine; decide), fun p hp => ?_⟩
      have L := low_of (n := n2) (d := d2) (by omega)
      rw [hc] at L
      exact q p _ _ hp (hL _ _ L)
theorem fold_lt : ∀ (a : List Nat) (acc : Nat), a.all dig = true → a.foldl (fun acc c => acc * 10 + (c - 48)) acc < (acc + 1) * 10 ^ a.length
  | [], acc, _ => by simp
  | c :: r, acc, h => by
    rw [List.all_cons, Bool.and_eq_true] at h
    have hc : 48 ≤ c ∧ c ≤ 57 := of_decide_eq_true h.1
    refine Nat.lt_of_lt_of_le (fold_lt r (acc * 10 + (c - 48)) h.2) ?_
    rw [List.length_cons, Nat.pow_succ, Nat.mul_comm (10 ^ r.length) 10, ← Nat.mul_assoc]
    exact Nat.mul_le_mul_right _ (by omega)
theorem val_lt {a : List Nat} (h : a.all dig = true) : digitsVal a < 10 ^ a.length := by
  have := fold_lt a 0 h
  rw [Nat.zero_add, Nat.one_mul] at this
  exact this
theorem emp_S : ("" : Str) = S [] := by decide +kernel
theorem at_mem {xs : List Nat} {k : Int} (h0 : 0 ≤ k) (h1 : k < xs.length) : ∃ v ∈ xs, atI xs k = some v := by
  obtain ⟨j, rfl⟩ := Int.eq_ofNat_of_zero_le h0
  exact ⟨xs[j]'(by omega), List.getElem_mem _, atI_nat (List.getElem?_eq_getElem _)⟩
theorem len_add {u v : List Nat} (h1 : u.length ≤ 1000) (h2 : v.length ≤ 1000) : (S u).length + (S v).length ≤ sizeLine := by
  rw [S_len, S_len]
  exact sz100 (by omega)
def spDText (K : PySem.W.Frag) : Sp := fun vs H Q _ => ∃ (b : Addr) (m : Int), vs = [.ref b, .int m] ∧ 0 ≤ m ∧ m ≤ 100 ∧ Box H b ∧ ∀ t H', t.length = m.toNat → t.all dig = true → Box H' b → Kp b H H' → Q (.str (S t)) H'
theorem okLawDigitText (T : Txt K mg) : FnOk P w K mg base CX0 2 T.fLawDigitText T.fdLawDigitText ["box", "many"] (spDText K) := by
  refine T.FLawDigitText.ok scLawDigitText (fun vs H Q E h => ?_) (fun cdv A outer s H vs Q E hr h => ?_)
  · obtain ⟨b, m, rfl, _⟩ := h
    rfl
  · obtain ⟨b, m, rfl, m0, m1, B, q⟩ := h
    obtain ⟨m, rfl⟩ := Int.eq_ofNat_of_zero_le m0
    rw [Int.toNat_natCast] at q
    -- slots box=0 many=1 text=2 k=3
    refine ⟨_, (pss_cons (ps_set (i := 2) scLawDigitText.nd rfl (Or.inl rfl) pe_str)
        (pss_cons (ps_for PassesOwn.never rfl (pi_range1 rfl T.z_range (pa_cons (pv 1) pa_nil)) (pg_name (i := 3) scLawDigitText.nd rfl (Or.inl rfl))
          (pss_one (ps_set (i := 2) scLawDigitText.nd rfl (Or.inl rfl) (pe_op op_add_str (pv 2) (pe_ix ix_str pe_str (pe_call (okLawDraw T) (hr.mono (by decide)) (by rfl) T.gLawDraw T.FLawDraw.kp T.bLawDraw .nil pass0 (pa_cons (pv 0) (pa_cons pe_int pa_nil))) (fun _ _ => rfl))))))
        (pss_one (ps_ret (pv 2))))), ?_⟩
    refine ⟨_, rfl, _, rfl, by omega, by omega, for_range (lo := 0) (n := m) (fun i σ H' => ∃ (t : List Nat) (c3 : Option V), σ = [some (.ref b), some (.int (m : Int)), some (.str (S t)), c3] ∧ t.length = i ∧ t.all dig = true ∧ Box H' b ∧ Kp b H H') ⟨[], none, by rw [← emp_S]; rfl, rfl, rfl, B, Kp.refl⟩ ?_ ?_⟩
    · rintro i σ H1 hi ⟨t, c3, rfl, ht, hd, B1, w1⟩
      refine ⟨_, rfl, _, rfl, b, 10, rfl, by decide, B1, fun k H2 k0 k1 B2 w2 => ?_⟩
      obtain ⟨c, hm, hc⟩ := at_mem (xs := ("0123456789" : Str).cps.toList) k0 (Int.lt_of_lt_of_le k1 (by decide +kernel))
      have hdc : dig c = true := by rw [← dig_mem]; exact decide_eq_true hm
      refine ⟨_, k, c, rfl, rfl, by decide +kernel, hc, S t, S [c], rfl, rfl, len_add (by omega) (by simp), t ++ [c], some (.int (0 + (i : Int))), ?_, by rw [List.length_append, ht]; rfl, ?_, B2, w1.trans w2⟩
      · rw [S_cat]
        rfl
      · rw [List.all_append, hd]
        show (true && (dig c && true)) = true
        rw [hdc]
        rfl
    · rintro σ H1 ⟨t, c3, rfl, ht, hd, B1, w1⟩
      exact ⟨_, rfl, q t H1 ht hd B1 w1⟩
def lets (c : Nat) : List Nat := if c < 26 then [65 + c] else [65 + (c / 26 - 1), 65 + c % 26]
def addr (row col : Nat) : List Nat := lets col ++ numL (row + 1)
theorem lets_len (c : Nat) : (lets c).length ≤ 2 := by
  unfold lets
  split <;> simp
theorem caps_at {k : Int} (h0 : 0 ≤ k) (h1 : k < 26) : atI ("ABCDEFGHIJKLMNOPQRSTUVWXYZ" : Str).cps.toList k = some (65 + k.toNat) := by
  obtain ⟨j, rfl⟩ := Int.eq_ofNat_of_zero_le h0
  have all : ∀ j : Fin 26, ("ABCDEFGHIJKLMNOPQRSTUVWXYZ" : Str).cps.toList[j.val]? = some (65 + j.val) := by decide +kernel
  exact atI_nat (all ⟨j, by omega⟩)
def spWrite (K : PySem.W.Frag) : Sp := fun vs H Q _ => ∃ (row col : Nat), vs = [.int (row : Int), .int (col : Int)] ∧ row < 99 ∧ col < 702 ∧ ∀ H', Same H H' → Q (.str (S (addr row col))) H'
theorem log_small {n : Int} (h0 : 0 ≤ n) (h : n < 10 ^ 18) : n.natAbs.log2 < 1920 := Nat.lt_of_lt_of_le (PySem.Flt.log2_lt_of (k := 100) (by decide) (Nat.lt_trans (show n.natAbs < 10 ^ 18 by omega) (by decide))) (by decide)
theorem num_len {row : Nat} (h : row < 99) : (numL (row + 1)).length ≤ 2 := TL.numL_len (by decide) (by omega)
theorem okLawAddress (T : Txt K mg) : FnOk P w K mg base CX0 1 T.fLawAddress T.fdLawAddress ["row", "column"] (spWrite K) := by
  refine T.FLawAddress.ok scLawAddress (fun vs H Q E h => ?_) (fun cdv A outer s H vs Q E hr h => ?_)
  · obtain ⟨row, col, rfl, _⟩ := h
    rfl
  · obtain ⟨row, col, rfl, hr1, hc1, q⟩ := h
    -- slots row=0 column=1 letters=2 text=3
    refine ⟨_, (pss_cons (ps_set (i := 2) scLawAddress.nd rfl (Or.inl rfl) pe_str)
        (pss_cons (ps_set (i := 3) scLawAddress.nd rfl (Or.inl rfl) (pe_ix ix_str (pv 2) (pe_op op_mod (pe_callTy call_int1 (by rfl) T.z_int (by decide +kernel) (pa_cons (pv 1) pa_nil)) pe_int) (fun _ _ => rfl)))
        (C8.pss_cut (ps_if (pt_cmpR op_ge (pv 1) pe_int (nomark _))
          (pss_one (ps_set (i := 3) scLawAddress.nd rfl (Or.inl rfl) (pe_op op_add_str (pe_ix ix_str (pv 2) (pe_op op_mod (pe_callTy call_int1 (by rfl) T.z_int (by decide +kernel) (pa_cons (pe_op op_sub (pe_op op_fdiv (pv 1) pe_int) pe_int) pa_nil)) pe_int) (fun _ _ => rfl)) (pv 3))))
          pss_nil)
        (pss_one (ps_ret (pe_op op_add_str (pv 3) (pe_callTy call_str_int (by rfl) T.z_str (by decide +kernel) (pa_cons (pe_op op_add (pv 0) pe_int) pa_nil)))))))), ?_⟩
    have l2 := lets_len col
    have n2 := num_len hr1
    refine ⟨_, rfl, _, rfl, .inl ⟨_, rfl, _, _, rfl, rfl, (by show (0 : Int) < _; decide), _, _, 65 + col % 26, rfl, rfl, by decide +kernel, ?_, ?_⟩⟩
    · have := caps_at (k := (col : Int) % 26) (by omega) (by omega)
      rw [show ((col : Int) % 26).toNat = col % 26 by omega] at this
      exact this
    refine ⟨fun σ H' => H' = H ∧ σ = [some (.int (row : Int)), some (.int (col : Int)), some (.str ("ABCDEFGHIJKLMNOPQRSTUVWXYZ" : Str)), some (.str (S (lets col)))], ?_, ?_⟩
    · refine ⟨_, rfl, _, _, rfl, rfl, _, rfl, ite2 (fun c => ?_) (fun c => ?_)⟩
      · have c2 : 26 ≤ col := by
          have := of_decide_eq_true c
          omega
        refine ⟨_, rfl, _, rfl, _, _, rfl, rfl, ⟨by decide, by decide⟩, _, _, rfl, rfl, .inl ⟨_, rfl, _, _, rfl, rfl, (by show (0 : Int) < _; decide), _, _, 65 + (col / 26 - 1), rfl, rfl, by decide +kernel, ?_, _, rfl, S [65 + (col / 26 - 1)], S [65 + col % 26], rfl, rfl, ?_, rfl, ?_⟩⟩
        · have := caps_at (k := ((col : Int) / 26 - 1) % 26) (by omega) (by omega)
          rw [show (((col : Int) / 26 - 1) % 26).toNat = col / 26 - 1 by omega] at this
          exact this
        · rw [S_len, S_len]
          show 1 + 1 ≤ sizeLine
          decide
        · unfold lets
          rw [if_neg (by omega), S_cat]
          rfl
      · have c2 : col < 26 := by
          rcases Nat.lt_or_ge col 26 with h | h
          · exact h
          · exact absurd (decide_eq_true (show (26 : Int) ≤ (col : Int) by omega)) c
        refine ⟨rfl, ?_⟩
        unfold lets
        rw [if_pos c2, show col % 26 = col by omega]
        rfl
    rintro σ H1 ⟨rfl, rfl⟩
    refine ⟨_, rfl, _, rfl, _, _, rfl, rfl, _, rfl, log_small (by omega) (by omega), S (lets col), S (numL (row + 1)), rfl, ?_, ?_, ?_⟩
    · exact congrArg V.str (num_S (row + 1))
    · rw [S_len, S_len]
      exact sz100 (by omega)
    · rw [S_cat]
      exact q _ (Same.refl _)
def sml (c : Nat) : Bool := decide (97 ≤ c ∧ c ≤ 122)
theorem sml_mem (c : Nat) : decide (c ∈ ("abcdefghijklmnopqrstuvwxyz" : Str).cps.toList) = sml c := by
  have e : ("abcdefghijklmnopqrstuvwxyz" : Str).cps.toList = [97, 98, 99, 100, 101, 102, 103, 104, 105, 106, 107, 108, 109, 110, 111, 112, 113, 114, 115, 116, 117, 118, 119, 120, 121, 122] := by decide +kernel
  rw [e]
  unfold sml
  refine decide_eq_decide.mpr ?_
  simp only [List.mem_cons, List.not_mem_nil, or_false]
  omega
theorem dot_S : ("." : Str) = S [46] := by decide +kernel
/-! ### words -/
def five : List Str := ["sum", "count", "min", "max", "gone"]
structure IsW (a : List Nat) : Prop where
  lo : 2 ≤ a.length
  hi : a.length ≤ 8
  no : S a ∉ five
  all : a.all sml = true
theorem inV_strs (s : Str) : ∀ xs : List Str, inV (.str s) (xs.map V.str) = decide (s ∈ xs)
  | [] => rfl
  | x :: xs => by
    have e : inV (.str s) ((x :: xs).map V.str) = ((x == s) || inV (.str s) (xs.map V.str)) := rfl
    rw [e, inV_strs s xs, Bool.eq_iff_iff]
    simp only [Bool.or_eq_true, beq_iff_eq, decide_eq_true_iff, List.mem_cons]
    exact ⟨fun h => h.elim (fun z => .inl z.symm) .inr, fun h => h.elim (fun z => .inl z.symm) .inr⟩
/-! ### drawn trees -/
theorem TK.kp {b : Addr} {H H' : Hp} (w : Kp b H H') (hb : Box H b) : TK H H' := fun q xs h => by
  refine w q _ (fun z => ?_) h
  obtain ⟨_, _, _, h2, _, _⟩ := hb
  rw [z, h2] at h
  cases h
theorem box_ne {H : Hp} {b l : Addr} (B : Box H b) (h : H l = none) : l ≠ b := fun z => by
  obtain ⟨_, _, _, h2, _, _⟩ := B
  rw [z, h2] at h
  cases h
def NodeAt (H : Hp) (b l : Addr) (d : Nat) (t : Tr) : Prop := ∃ (v : V) (tl : Addr) (ts : List V) (k : Int), H l = some (.lst [v, .ref tl, .int k]) ∧ H tl = some (.lst ts) ∧ ts.length ≤ 20 * 3 ^ d ∧ TrAt H v t ∧ l ≠ b ∧ tl ≠ b
theorem NodeAt.kp {H H' : Hp} {b l : Addr} {d : Nat} {t : Tr} (w : Kp b H H') (B : Box H b) (h : NodeAt H b l d t) : NodeAt H' b l d t := by
  obtain ⟨v, tl, ts, k, h1, h2, h3, h4, h5, h6⟩ := h
  exact ⟨v, tl, ts, k, w _ _ h5 h1, w _ _ h6 h2, h3, h4.mono (TK.kp w B), h5, h6⟩
theorem node_mk {H : Hp} {b l tl : Addr} {v : V} {ts : List V} {k : Int} {d : Nat} {t : Tr} (B : Box H b) (ht : TrAt H v t) (h2 : H tl = some (.lst ts)) (nt : tl ≠ b) (hl : H l = none) (z : ts.length ≤ 20 * 3 ^ d) : NodeAt (upd H l (.lst [v, .ref tl, .int k])) b l d t :=
  ⟨v, tl, ts, k, upd_same, (same_new hl) _ _ h2, z, ht.mono (TK.of (same_new hl)), box_ne B hl, nt⟩
theorem NodeAt.up {H : Hp} {b l : Addr} {t : Tr} {d e : Nat} (h : NodeAt H b l 0 t) : NodeAt H b l e t := by
  obtain ⟨v, tl, ts, k, h1, h2, h3, h4, h5, h6⟩ := h
  exact ⟨v, tl, ts, k, h1, h2, Nat.le_trans h3 (Nat.mul_le_mul_left 20 (Nat.one_le_pow e 3 (by decide))), h4, h5, h6⟩
theorem pow_pos3 (d : Nat) : 1 ≤ 3 ^ d := Nat.one_le_pow d 3 (by decide)
theorem S_self (s : Str) : S s.cps.toList = s := by
  show (⟨s.cps.toList.toArray⟩ : Str) = s
  rw [Array.toArray_toList]
theorem strOk_sml {a : List Nat} (h : a.all sml = true) : PyData.strOk (S a) = true := by
  show (a.toArray).all (fun c => decide (c < 0x110000)) = true
  rw [List.all_toArray, List.all_eq_true]
  intro c hc
  have : 97 ≤ c ∧ c ≤ 122 := of_decide_eq_true (List.all_eq_true.mp h c hc)
  exact decide_eq_true (by omega)
def spWord (K : PySem.W.Frag) : Sp := fun vs H Q _ => ∃ (b : Addr), vs = [.ref b] ∧ Box H b ∧ ∀ (a : List Nat) (H' : Hp), a.length ≤ 9 → PyData.strOk (S a) = true → Box H' b → Kp b H H' → Q (.str (S a)) H'
theorem okLawWord (T : Txt K mg) : FnOk P w K mg base CX0 2 T.fLawWord T.fdLawWord ["box"] (spWord K) := by
  refine T.FLawWord.ok scLawWord (fun vs H Q E h => ?_) (fun cdv A outer s H vs Q E hr h => ?_)
  · obtain ⟨b, rfl, _⟩ := h
    rfl
  · obtain ⟨b, rfl, B, q⟩ := h
    -- slots box=0 letters=1 word=2 k=3
    refine ⟨_, (pss_cons (ps_set (i := 1) scLawWord.nd rfl (Or.inl rfl) pe_str)
        (pss_cons (ps_if (pt_cmpR op_eq (pe_call (okLawDraw T) (hr.mono (by decide)) (by rfl) T.gLawDraw T.FLawDraw.kp T.bLawDraw .nil pass0 (pa_cons (pv 0) (pa_cons pe_int pa_nil))) pe_int (nomark _))
          (pss_one (ps_ret (pe_ix ix_list (pe_lst (pa_cons pe_str (pa_cons pe_str (pa_cons pe_str (pa_cons pe_str (pa_cons pe_str (pa_cons pe_str (pa_cons pe_str pa_nil)))))))) (pe_call (okLawDraw T) (hr.mono (by decide)) (by rfl) T.gLawDraw T.FLawDraw.kp T.bLawDraw .nil pass0 (pa_cons (pv 0) (pa_cons pe_int pa_nil))) (fun _ _ => rfl))))
          pss_nil)
        (pss_cons (ps_set (i := 2) scLawWord.nd rfl (Or.inl rfl) pe_str)
        (pss_cons (ps_for PassesOwn.never rfl (pi_range1 rfl T.z_range (pa_cons (pe_op op_add pe_int (pe_call (okLawDraw T) (hr.mono (by decide)) (by rfl) T.gLawDraw T.FLawDraw.kp T.bLawDraw .nil pass0 (pa_cons (pv 0) (pa_cons pe_int pa_nil)))) pa_nil)) (pg_name (i := 3) scLawWord.nd rfl (Or.inl rfl))
          (pss_one (ps_set (i := 2) scLawWord.nd rfl (Or.inl rfl) (pe_op op_add_str (pv 2) (pe_ix ix_str (pv 1) (pe_call (okLawDraw T) (hr.mono (by decide)) (by rfl) T.gLawDraw T.FLawDraw.kp T.bLawDraw .nil pass0 (pa_cons (pv 0) (pa_cons pe_int pa_nil))) (fun _ _ => rfl))))))
        (pss_cons (ps_if (pt_cmpR op_in_seq (pv 2) (pe_lst (pa_cons pe_str (pa_cons pe_str (pa_cons pe_str (pa_cons pe_str (pa_cons pe_str pa_nil)))))) rfl)
          (pss_one (ps_ret (pe_op op_add_str (pv 2) pe_str)))
          pss_nil)
        (pss_one (ps_ret (pv 2)))))))), ?_⟩
    refine ⟨_, rfl, b, 2, rfl, by decide, B, fun m H1 _ _ B1 w1 => ⟨rfl, _, rfl, ite2 (fun _ => ?_) (fun _ => ?_)⟩⟩
    · refine ⟨(by show 7 ≤ sizeLine; decide), fun l hl => ?_⟩
      have B2 := B1.same (same_new (o := .lst [.str "ab", .str "total", .str "summe", .str "counts", .str "goner", .str "mi", .str "maxmaxma"]) hl)
      refine ⟨_, rfl, b, 7, rfl, by decide, B2, fun m H2 m0 m1 B3 w3 => ?_⟩
      obtain ⟨v, hv, ev⟩ := item_by V.str (xs := ["ab", "total", "summe", "counts", "goner", "mi", "maxmaxma"]) m0 (by show m < 7; exact m1)
      have hl3 := w3 _ _ (box_ne B1 hl) upd_same
      refine ⟨l, _, _, _, rfl, rfl, SqL.of hl3, ev, ?_⟩
      have all : ∀ v ∈ (["ab", "total", "summe", "counts", "goner", "mi", "maxmaxma"] : List Str), v.cps.toList.length ≤ 9 ∧ PyData.strOk v = true := by decide +kernel
      have hv2 := all v hv
      rw [← S_self v]
      exact q _ H2 hv2.1 (by rw [S_self]; exact hv2.2) B3 ((w1.trans (Kp.of (same_new hl))).trans w3)
    refine ⟨_, rfl, b, 7, rfl, by decide, B1, fun m H2 m0 m1 B2 w2 => ⟨_, _, rfl, rfl, 2 + m, rfl, by omega, by omega, for_range (lo := 0) (n := (2 + m).toNat) (fun i σ H' => ∃ (a : List Nat) (c3 : Option V), σ = [some (.ref b), some (.str ("abcdefghijklmnopqrstuvwxyz" : Str)), some (.str (S a)), c3] ∧ a.length = i ∧ a.all sml = true ∧ Box H' b ∧ Kp b H H') ⟨[], _, by rw [← emp_S]; rfl, rfl, rfl, B2, w1.trans w2⟩ ?_ ?_⟩⟩
    · rintro i σ H3 hi ⟨a, c3, rfl, al, hd, B3, w3⟩
      refine ⟨_, rfl, _, rfl, _, rfl, b, 26, rfl, by decide, B3, fun k H4 k0 k1 B4 w4 => ?_⟩
      obtain ⟨c, hm, hc⟩ := at_mem (xs := ("abcdefghijklmnopqrstuvwxyz" : Str).cps.toList) k0 (Int.lt_of_lt_of_le k1 (by decide +kernel))
      have hdc : sml c = true := by rw [← sml_mem]; exact decide_eq_true hm
      refine ⟨_, k, c, rfl, rfl, by decide +kernel, hc, S a, S [c], rfl, rfl, len_add (by omega) (by simp), a ++ [c], some (.int (0 + (i : Int))), ?_, by rw [List.length_append, al]; rfl, ?_, B4, w3.trans w4⟩
      · rw [S_cat]
        rfl
      · rw [List.all_append, hd]
        show (true && (sml c && true)) = true
        rw [hdc]
        rfl
    · rintro σ H3 ⟨a, c3, rfl, al, hd, B3, w3⟩
      refine ⟨_, rfl, (by show 5 ≤ sizeLine; decide), fun l hl => ⟨l, _, rfl, .inl (SqL.of upd_same), rfl, rfl, _, rfl, ite2 (fun c => ?_) (fun c => ?_)⟩⟩
      · have ex : ("x" : Str) = S [120] := by decide +kernel
        have hx : (a ++ [120]).all sml = true := by
          rw [List.all_append, hd]
          decide
        refine ⟨_, rfl, S a, "x", rfl, rfl, by rw [ex]; exact len_add (by omega) (by simp), ?_⟩
        rw [ex, S_cat]
        exact q _ _ (by rw [List.length_append, al]; show (2 + m).toNat + 1 ≤ 9; omega) (strOk_sml hx) (B3.same (same_new hl)) (w3.trans (Kp.of (same_new hl)))
      · exact ⟨_, rfl, q _ _ (by omega) (strOk_sml hd) (B3.same (same_new hl)) (w3.trans (Kp.of (same_new hl)))⟩
def Ar.ins (R C : Int) : Ar → Prop
  | .block a b c d => 0 ≤ a ∧ a ≤ c ∧ c < R ∧ 0 ≤ b ∧ b ≤ d ∧ d < C
  | .name w => w.1.length ≤ 1000
  | .gone => True
def signsL : List Str := ["+", "-", "*", "/"]
def fnsL : List Str := ["sum", "count", "min", "max"]
theorem signs_at : ∀ c ∈ ("+-*/" : Str).cps.toList, S [c] ∈ signsL := by decide +kernel
def Tr.okR (R C : Int) : Tr → Prop
  | .num x y => Fl x y
  | .cell r c => 0 ≤ r ∧ r < R ∧ 0 ≤ c ∧ c < C
  | .neg t => t.okR R C
  | .op s l r => l.okR R C ∧ r.okR R C ∧ s ∈ signsL
  | .call n as => as.length ≤ 3 ∧ (∀ a ∈ as, a.ins R C) ∧ n ∈ fnsL
  | _ => True
theorem okR_ok {R C : Int} : ∀ {t : Tr}, t.okR R C → t.ok 3
  | .gone, _ => trivial
  | .num _ _, _ => trivial
  | .cell _ _, _ => trivial
  | .neg t, o => okR_ok (t := t) o
  | .op s l r, o => ⟨okR_ok o.1, okR_ok o.2.1⟩
  | .call n as, o => o.1
/-- sizes of a grid -/
structure RC (R C : Int) : Prop where
  r0 : 0 < R
  r1 : R ≤ 50
  c0 : 0 < C
  c1 : C ≤ 50
def spLeaf (K : PySem.W.Frag) : Sp := fun vs H Q _ => ∃ (b : Addr) (R C : Int), vs = [.ref b, .int R, .int C] ∧ RC R C ∧ Box H b ∧ ∀ (l : Addr) (t : Tr) (d : Nat) (H' : Hp), Box H' b → Kp b H H' → NodeAt H' b l 0 t → t.h = 0 → t.okR R C → Q (.ref l) H'
theorem okLawLeaf (T : Txt K mg) : FnOk P w K mg base CX0 3 T.fLawLeaf T.fdLawLeaf ["box", "rows", "columns"] (spLeaf K) := by
  refine T.FLawLeaf.ok scLawLeaf (fun vs H Q E h => ?_) (fun cdv A outer s H vs Q E hr h => ?_)
  · obtain ⟨b, R, C, rfl, _⟩ := h
    rfl
  · obtain ⟨b, R, C, rfl, rc, B, q⟩ := h
    have rc0 := rc.r0
    have rc1 := rc.r1
    have rc2 := rc.c0
    have rc3 := rc.c1
    -- slots box=0 rows=1 columns=2 kind=3 whole=4 more=5 row=6 column=7
    refine ⟨_, (pss_cons (ps_set (i := 3) scLawLeaf.nd rfl (Or.inl rfl) (pe_call (okLawDraw T) (hr.mono (by decide)) (by rfl) T.gLawDraw T.FLawDraw.kp T.bLawDraw .nil pass0 (pa_cons (pv 0) (pa_cons pe_int pa_nil))))
        (pss_cons (ps_if (pt_cmpR op_eq (pv 3) pe_int (nomark _))
          (pss_one (ps_ret (pe_lst (pa_cons (pe_tup (pa_cons pe_str pa_nil)) (pa_cons (pe_lst (pa_cons pe_str pa_nil)) (pa_cons pe_int pa_nil))))))
          pss_nil)
        (pss_cons (ps_if (pt_cmpR op_eq (pv 3) pe_int (nomark _))
          (pss_cons (ps_set (i := 4) scLawLeaf.nd rfl (Or.inl rfl) (pe_call (okLawDigitText T) (hr.mono (by decide)) (by rfl) T.gLawDigitText T.FLawDigitText.kp T.bLawDigitText .nil pass0 (pa_cons (pv 0) (pa_cons (pe_op op_add pe_int (pe_call (okLawDraw T) (hr.mono (by decide)) (by rfl) T.gLawDraw T.FLawDraw.kp T.bLawDraw .nil pass0 (pa_cons (pv 0) (pa_cons pe_int pa_nil)))) pa_nil))))
          (pss_one (ps_ret (pe_lst (pa_cons (pe_tup (pa_cons pe_str (pa_cons (pe_tup (pa_cons (pe_callTy call_int_str (by rfl) T.z_int (by decide +kernel) (pa_cons (pv 4) pa_nil)) (pa_cons pe_int pa_nil))) pa_nil))) (pa_cons (pe_lst (pa_cons (pv 4) pa_nil)) (pa_cons pe_int pa_nil)))))))
          pss_nil)
        (pss_cons (ps_if (pt_cmpR op_eq (pv 3) pe_int (nomark _))
          (pss_cons (ps_set (i := 4) scLawLeaf.nd rfl (Or.inl rfl) (pe_call (okLawDigitText T) (hr.mono (by decide)) (by rfl) T.gLawDigitText T.FLawDigitText.kp T.bLawDigitText .nil pass0 (pa_cons (pv 0) (pa_cons (pe_op op_add pe_int (pe_call (okLawDraw T) (hr.mono (by decide)) (by rfl) T.gLawDraw T.FLawDraw.kp T.bLawDraw .nil pass0 (pa_cons (pv 0) (pa_cons pe_int pa_nil)))) pa_nil))))
          (pss_cons (ps_set (i := 5) scLawLeaf.nd rfl (Or.inl rfl) (pe_call (okLawDigitText T) (hr.mono (by decide)) (by rfl) T.gLawDigitText T.FLawDigitText.kp T.bLawDigitText .nil pass0 (pa_cons (pv 0) (pa_cons (pe_op op_add pe_int (pe_call (okLawDraw T) (hr.mono (by decide)) (by rfl) T.gLawDraw T.FLawDraw.kp T.bLawDraw .nil pass0 (pa_cons (pv 0) (pa_cons pe_int pa_nil)))) pa_nil))))
          (pss_one (ps_ret (pe_lst (pa_cons (pe_tup (pa_cons pe_str (pa_cons (pe_call (okLawLowest T) (hr.mono (by decide)) (by rfl) T.gLawLowest T.FLawLowest.kp T.bLawLowest .nil pass0 (pa_cons (pe_callTy call_int_str (by rfl) T.z_int (by decide +kernel) (pa_cons (pe_op op_add_str (pv 4) (pv 5)) pa_nil)) (pa_cons (pe_ix ix_list (pe_lst (pa_cons pe_int (pa_cons pe_int (pa_cons pe_int (pa_cons pe_int pa_nil))))) (pe_callB call_len_str (by rfl) T.z_len PySem.boot_len (pa_cons (pv 5) pa_nil)) (fun _ _ => rfl)) pa_nil))) pa_nil))) (pa_cons (pe_lst (pa_cons (pe_op op_add_str (pe_op op_add_str (pv 4) pe_str) (pv 5)) pa_nil)) (pa_cons pe_int pa_nil))))))))
          pss_nil)
        (pss_cons (ps_set (i := 6) scLawLeaf.nd rfl (Or.inl rfl) (pe_call (okLawDraw T) (hr.mono (by decide)) (by rfl) T.gLawDraw T.FLawDraw.kp T.bLawDraw .nil pass0 (pa_cons (pv 0) (pa_cons (pv 1) pa_nil))))
        (pss_cons (ps_set (i := 7) scLawLeaf.nd rfl (Or.inl rfl) (pe_call (okLawDraw T) (hr.mono (by decide)) (by rfl) T.gLawDraw T.FLawDraw.kp T.bLawDraw .nil pass0 (pa_cons (pv 0) (pa_cons (pv 2) pa_nil))))
        (pss_one (ps_ret (pe_lst (pa_cons (pe_tup (pa_cons pe_str (pa_cons (pv 6) (pa_cons (pv 7) pa_nil)))) (pa_cons (pe_lst (pa_cons (pe_call (okLawAddress T) (hr.mono (by decide)) (by rfl) T.gLawAddress T.FLawAddress.kp T.bLawAddress .nil pass0 (pa_cons (pv 6) (pa_cons (pv 7) pa_nil))) pa_nil)) (pa_cons pe_int pa_nil)))))))))))), ?_⟩
    have fin : ∀ (H3 : Hp) (v : V) (t : Tr) (tl l : Addr) (ts : List V), Box H3 b → Kp b H H3 → TrAt H3 v t → H3 tl = some (.lst ts) → tl ≠ b → ts.length ≤ 20 → H3 l = none → t.h = 0 → t.okR R C → Q (.ref l) (upd H3 l (.lst [v, .ref tl, .int 4])) := fun H3 v t tl l ts B3 w3 ht h2 nt z hl h0 ok =>
      q l t 0 _ (B3.same (same_new hl)) (w3.trans (Kp.of (same_new hl))) (node_mk B3 ht h2 nt hl (by omega)) h0 ok
    refine ⟨_, rfl, b, 5, rfl, by decide, B, fun kd H1 kd0 kd1 B1 w1 => ?_⟩
    refine ⟨_, rfl, rfl, _, rfl, ite2 (fun _ => ?_) (fun _ => ?_)⟩
    · refine ⟨(by show 1 ≤ sizeLine; decide), fun u hu => ⟨(by show 1 ≤ sizeLine; decide), fun tl htl => ⟨(by show 3 ≤ sizeLine; decide), fun l hl => ?_⟩⟩⟩
      have s1 := same_new (o := .tup [.str "gone"]) hu
      have s2 := same_new (o := .lst [.str "gone"]) htl
      exact fin _ _ .gone tl l _ ((B1.same s1).same s2) ((w1.trans (Kp.of s1)).trans (Kp.of s2)) ⟨u, rfl, s2 _ _ upd_same⟩ upd_same (box_ne (B1.same s1) htl) (by simp) hl rfl trivial
    refine ⟨_, rfl, rfl, _, rfl, ite2 (fun _ => ?_) (fun _ => ?_)⟩
    · refine ⟨_, rfl, _, rfl, b, 4, rfl, by decide, B1, fun m H2 m0 m1 B2 w2 => ⟨_, _, rfl, rfl, b, 1 + m, rfl, by omega, by omega, B2, fun t H3 tl td B3 w3 => ?_⟩⟩
      have tne : t ≠ [] := fun z => by
        rw [z] at tl
        simp at tl
        omega
      refine ⟨_, rfl, S t, _, rfl, int_dig td tne (by omega), by rw [S_len]; omega, (by show 2 ≤ sizeLine; decide), fun p hp => ⟨(by show 2 ≤ sizeLine; decide), fun u hu => ⟨_, rfl, (by show 1 ≤ sizeLine; decide), fun tl htl => ⟨(by show 3 ≤ sizeLine; decide), fun l hl => ?_⟩⟩⟩⟩
      have s1 := same_new (o := .tup [.int ((digitsVal t : Nat) : Int), .int 1]) hp
      have s2 := same_new (o := .tup [.str "num", .ref p]) hu
      have s3 := same_new (o := .lst [.str (S t)]) htl
      exact fin _ _ (.num _ 1) tl l _ (((B3.same s1).same s2).same s3) ((((w1.trans w2).trans w3).trans (Kp.of (s1.trans s2))).trans (Kp.of s3)) ⟨u, p, rfl, s3 _ _ upd_same, (s2.trans s3) _ _ upd_same⟩ upd_same (box_ne ((B3.same s1).same s2) htl) (by simp) hl rfl (by
        have hv := val_lt td
        have h4 : 10 ^ t.length ≤ 10 ^ 4 := Nat.pow_le_pow_right (by decide) (by omega)
        exact ⟨⟨by omega, by omega, by decide, by decide⟩, Nat.gcd_one_right _⟩)
    refine ⟨_, rfl, rfl, _, rfl, ite2 (fun _ => ?_) (fun _ => ?_)⟩
    · refine ⟨_, rfl, _, rfl, b, 3, rfl, by decide, B1, fun m H2 m0 m1 B2 w2 => ⟨_, _, rfl, rfl, b, 1 + m, rfl, by omega, by omega, B2, fun t1 H3 tl1 td1 B3 w3 => ?_⟩⟩
      refine ⟨_, rfl, _, rfl, b, 3, rfl, by decide, B3, fun m2 H4 m20 m21 B4 w4 => ⟨_, _, rfl, rfl, b, 1 + m2, rfl, by omega, by omega, B4, fun t2 H5 tl2 td2 B5 w5 => ?_⟩⟩
      have wA := ((w1.trans w2).trans w3).trans (w4.trans w5)
      have da : (t1 ++ t2).all dig = true := by
        rw [List.all_append, td1, td2]
        rfl
      have la : (t1 ++ t2).length ≤ 6 := by
        rw [List.length_append]
        omega
      have na : t1 ++ t2 ≠ [] := fun z => by
        rw [List.append_eq_nil_iff] at z
        rw [z.1] at tl1
        simp at tl1
        omega
      refine ⟨_, rfl, _, rfl, S t1, S t2, rfl, rfl, len_add (by omega) (by omega), ?_⟩
      rw [S_cat]
      refine ⟨S (t1 ++ t2), _, rfl, int_dig da na (by omega), by rw [S_len]; omega, (by show 4 ≤ sizeLine; decide), fun z hz => ?_⟩
      have s1 := same_new (o := .lst [.int 1, .int 10, .int 100, .int 1000]) hz
      obtain ⟨v, hv, ev⟩ := item_by V.int (xs := [1, 10, 100, 1000]) (k := (t2.length : Int)) (by omega) (by show (t2.length : Int) < 4; omega)
      have hvb : 1 ≤ v ∧ v ≤ 1000 := by
        simp only [List.mem_cons, List.not_mem_nil, or_false] at hv
        omega
      refine ⟨_, rfl, S t2, rfl, by rw [S_len]; exact sz100 (by omega), z, _, _, .int v, rfl, rfl, SqL.of upd_same, by rw [S_len]; exact ev, ?_⟩
      have hlt := val_lt da
      have hlt2 : digitsVal (t1 ++ t2) < 10 ^ 6 := Nat.lt_of_lt_of_le hlt (Nat.pow_le_pow_right (by decide) la)
      refine ⟨_, v, rfl, by omega, by rw [Int.natAbs_natCast]; exact Nat.lt_trans hlt2 (by decide), Nat.lt_of_le_of_lt (show v.natAbs ≤ 1000 by omega) (by decide), fun p x y hp L => ⟨(by show 2 ≤ sizeLine; decide), fun u hu => ?_⟩⟩
      have s2 := same_new (o := .tup [.int x, .int y]) hp
      have s3 := same_new (o := .tup [.str "num", .ref p]) hu
      refine ⟨_, rfl, S t1, ".", rfl, rfl, by rw [dot_S]; exact len_add (by omega) (by simp), _, rfl, _, S t2, rfl, rfl, by rw [dot_S, S_cat]; exact len_add (by rw [List.length_append]; simp; omega) (by omega), (by show 1 ≤ sizeLine; decide), fun tl htl => ⟨(by show 3 ≤ sizeLine; decide), fun l hl => ?_⟩⟩
      have B8 := ((B5.same s1).same s2).same s3
      have s4 := same_new (o := .lst [.str (S t1 ++ "." ++ S t2)]) htl
      exact fin _ _ (.num x y) tl l _ (B8.same s4) ((wA.trans (Kp.of ((s1.trans s2).trans s3))).trans (Kp.of s4)) ⟨u, p, rfl, s4 _ _ upd_same, (s3.trans s4) _ _ upd_same⟩ upd_same (box_ne B8 htl) (by simp) hl rfl (by
        have h1 := L.lx
        have h2 := L.ly
        have h3 := L.pos
        rw [Int.natAbs_natCast] at h1
        exact ⟨⟨by omega, by omega, h3, by omega⟩, L.cop⟩)
    refine ⟨_, rfl, _, rfl, b, R, rfl, rc.r0, B1, fun r H2 r0 r1 B2 w2 => ⟨_, rfl, _, rfl, b, C, rfl, rc.c0, B2, fun c H3 c0 c1 B3 w3 => ?_⟩⟩
    obtain ⟨r, rfl⟩ := Int.eq_ofNat_of_zero_le r0
    obtain ⟨c, rfl⟩ := Int.eq_ofNat_of_zero_le c0
    refine ⟨_, rfl, _, rfl, (by show 3 ≤ sizeLine; decide), fun u hu => ?_⟩
    have s1 := same_new (o := .tup [.str "cell", .int (r : Int), .int (c : Int)]) hu
    refine ⟨_, rfl, _, rfl, r, c, rfl, by omega, by omega, fun H4 s2 => ⟨(by show 1 ≤ sizeLine; decide), fun tl htl => ⟨(by show 3 ≤ sizeLine; decide), fun l hl => ?_⟩⟩⟩
    have s3 := same_new (o := .lst [.str (S (addr r c))]) htl
    exact fin _ _ (.cell _ _) tl l _ (((B3.same s1).same s2).same s3) ((((w1.trans w2).trans w3).trans (Kp.of (s1.trans s2))).trans (Kp.of s3)) ⟨u, rfl, (s2.trans s3) _ _ upd_same⟩ upd_same (box_ne ((B3.same s1).same s2) htl) (by simp) hl rfl ⟨by omega, by omega, by omega, by omega⟩
def AreaAt (H0 H : Hp) (b l : Addr) (a : Ar) : Prop := ∃ (v : V) (tl : Addr) (ts : List V), H l = some (.lst [v, .ref tl]) ∧ H tl = some (.lst ts) ∧ ts.length ≤ 3 ∧ ArAt H v a ∧ H0 l = none ∧ H0 tl = none
theorem none_back {H H' : Hp} {b l : Addr} (w : Kp b H H') (h : H' l = none) (B : Box H' b) : H l = none := by
  cases e : H l with
  | none => rfl
  | some o =>
    have := w _ _ (box_ne B h) e
    rw [h] at this
    cases this
def spArea (K : PySem.W.Frag) : Sp := fun vs H Q _ => ∃ (b : Addr) (R C : Int), vs = [.ref b, .int R, .int C] ∧ RC R C ∧ Box H b ∧ ∀ (l : Addr) (a : Ar) (H' : Hp), Box H' b → Kp b H H' → AreaAt H H' b l a → a.ins R C → Q (.ref l) H'
theorem okLawArea (T : Txt K mg) : FnOk P w K mg base CX0 3 T.fLawArea T.fdLawArea ["box", "rows", "columns"] (spArea K) := by
  refine T.FLawArea.ok scLawArea (fun vs H Q E h => ?_) (fun cdv A outer s H vs Q E hr h => ?_)
  · obtain ⟨b, R, C, rfl, _⟩ := h
    rfl
  · obtain ⟨b, R, C, rfl, rc, B, q⟩ := h
    have rc0 := rc.r0
    have rc1 := rc.r1
    have rc2 := rc.c0
    have rc3 := rc.c1
    -- slots box=0 rows=1 columns=2 kind=3 word=4 row=5 column=6 other=7 side=8 block=9
    refine ⟨_, (pss_cons (ps_set (i := 3) scLawArea.nd rfl (Or.inl rfl) (pe_call (okLawDraw T) (hr.mono (by decide)) (by rfl) T.gLawDraw T.FLawDraw.kp T.bLawDraw .nil pass0 (pa_cons (pv 0) (pa_cons pe_int pa_nil))))
        (pss_cons (ps_if (pt_cmpR op_eq (pv 3) pe_int (nomark _))
          (pss_one (ps_ret (pe_lst (pa_cons (pe_tup (pa_cons pe_str pa_nil)) (pa_cons (pe_lst (pa_cons pe_str pa_nil)) pa_nil)))))
          pss_nil)
        (pss_cons (ps_if (pt_cmpR op_eq (pv 3) pe_int (nomark _))
          (pss_cons (ps_set (i := 4) scLawArea.nd rfl (Or.inl rfl) (pe_call (okLawWord T) (hr.mono (by decide)) (by rfl) T.gLawWord T.FLawWord.kp T.bLawWord .nil pass0 (pa_cons (pv 0) pa_nil)))
          (pss_one (ps_ret (pe_lst (pa_cons (pe_tup (pa_cons pe_str (pa_cons (pv 4) pa_nil))) (pa_cons (pe_lst (pa_cons (pv 4) pa_nil)) pa_nil))))))
          pss_nil)
        (pss_cons (ps_set (i := 5) scLawArea.nd rfl (Or.inl rfl) (pe_call (okLawDraw T) (hr.mono (by decide)) (by rfl) T.gLawDraw T.FLawDraw.kp T.bLawDraw .nil pass0 (pa_cons (pv 0) (pa_cons (pv 1) pa_nil))))
        (pss_cons (ps_set (i := 6) scLawArea.nd rfl (Or.inl rfl) (pe_call (okLawDraw T) (hr.mono (by decide)) (by rfl) T.gLawDraw T.FLawDraw.kp T.bLawDraw .nil pass0 (pa_cons (pv 0) (pa_cons (pv 2) pa_nil))))
        (pss_cons (ps_if (pt_cmpR op_eq (pv 3) pe_int (nomark _))
          (pss_one (ps_ret (pe_lst (pa_cons (pe_tup (pa_cons pe_str (pa_cons (pv 5) (pa_cons (pv 6) (pa_cons (pv 5) (pa_cons (pv 6) pa_nil)))))) (pa_cons (pe_lst (pa_cons (pe_call (okLawAddress T) (hr.mono (by decide)) (by rfl) T.gLawAddress T.FLawAddress.kp T.bLawAddress .nil pass0 (pa_cons (pv 5) (pa_cons (pv 6) pa_nil))) pa_nil)) pa_nil)))))
          pss_nil)
        (pss_cons (ps_set (i := 7) scLawArea.nd rfl (Or.inl rfl) (pe_call (okLawDraw T) (hr.mono (by decide)) (by rfl) T.gLawDraw T.FLawDraw.kp T.bLawDraw .nil pass0 (pa_cons (pv 0) (pa_cons (pv 1) pa_nil))))
        (pss_cons (ps_set (i := 8) scLawArea.nd rfl (Or.inl rfl) (pe_call (okLawDraw T) (hr.mono (by decide)) (by rfl) T.gLawDraw T.FLawDraw.kp T.bLawDraw .nil pass0 (pa_cons (pv 0) (pa_cons (pv 2) pa_nil))))
        (pss_cons (ps_set (i := 9) scLawArea.nd rfl (Or.inl rfl) (pe_tup (pa_cons pe_str (pa_cons (pe_callB (call_min2 rfl) (by rfl) T.z_min (by decide +kernel) (pa_cons (pv 5) (pa_cons (pv 7) pa_nil))) (pa_cons (pe_callB (call_min2 rfl) (by rfl) T.z_min (by decide +kernel) (pa_cons (pv 6) (pa_cons (pv 8) pa_nil))) (pa_cons (pe_callB (call_max2 rfl) (by rfl) T.z_max (by decide +kernel) (pa_cons (pv 5) (pa_cons (pv 7) pa_nil))) (pa_cons (pe_callB (call_max2 rfl) (by rfl) T.z_max (by decide +kernel) (pa_cons (pv 6) (pa_cons (pv 8) pa_nil))) pa_nil)))))))
        (pss_one (ps_ret (pe_lst (pa_cons (pv 9) (pa_cons (pe_lst (pa_cons (pe_call (okLawAddress T) (hr.mono (by decide)) (by rfl) T.gLawAddress T.FLawAddress.kp T.bLawAddress .nil pass0 (pa_cons (pv 5) (pa_cons (pv 6) pa_nil))) (pa_cons pe_str (pa_cons (pe_call (okLawAddress T) (hr.mono (by decide)) (by rfl) T.gLawAddress T.FLawAddress.kp T.bLawAddress .nil pass0 (pa_cons (pv 7) (pa_cons (pv 8) pa_nil))) pa_nil)))) pa_nil)))))))))))))), ?_⟩
    have fin : ∀ (H3 : Hp) (v : V) (t : Ar) (tl l : Addr) (ts : List V), Box H3 b → Kp b H H3 → ArAt H3 v t → H3 tl = some (.lst ts) → H tl = none → ts.length ≤ 3 → H3 l = none → t.ins R C → Q (.ref l) (upd H3 l (.lst [v, .ref tl])) := fun H3 v t tl l ts B3 w3 ht h2 nt z hl ins =>
      q l t _ (B3.same (same_new hl)) (w3.trans (Kp.of (same_new hl))) ⟨v, tl, ts, upd_same, (same_new hl) _ _ h2, z, ht.mono (TK.of (same_new hl)), none_back w3 hl B3, nt⟩ ins
    refine ⟨_, rfl, b, 7, rfl, by decide, B, fun kd H1 kd0 kd1 B1 w1 => ?_⟩
    refine ⟨_, rfl, rfl, _, rfl, ite2 (fun _ => ?_) (fun _ => ?_)⟩
    · refine ⟨(by show 1 ≤ sizeLine; decide), fun u hu => ⟨(by show 1 ≤ sizeLine; decide), fun tl htl => ⟨(by show 2 ≤ sizeLine; decide), fun l hl => ?_⟩⟩⟩
      have s1 := same_new (o := .tup [.str "gone"]) hu
      have s2 := same_new (o := .lst [.str "gone"]) htl
      exact fin _ _ .gone tl l _ ((B1.same s1).same s2) ((w1.trans (Kp.of s1)).trans (Kp.of s2)) ⟨u, rfl, s2 _ _ upd_same⟩ upd_same (none_back (w1.trans (Kp.of s1)) htl (B1.same s1)) (by decide) hl trivial
    refine ⟨_, rfl, rfl, _, rfl, ite2 (fun _ => ?_) (fun _ => ?_)⟩
    · refine ⟨_, rfl, b, rfl, B1, fun a H2 al aok B2 w2 => ⟨_, rfl, (by show 2 ≤ sizeLine; decide), fun u hu => ⟨_, rfl, (by show 1 ≤ sizeLine; decide), fun tl htl => ⟨(by show 2 ≤ sizeLine; decide), fun l hl => ?_⟩⟩⟩⟩
      have s1 := same_new (o := .tup [.str "name", .str (S a)]) hu
      have s2 := same_new (o := .lst [.str (S a)]) htl
      exact fin _ _ (.name ⟨S a, aok⟩) tl l _ ((B2.same s1).same s2) (((w1.trans w2).trans (Kp.of s1)).trans (Kp.of s2)) ⟨u, rfl, s2 _ _ upd_same⟩ upd_same (none_back ((w1.trans w2).trans (Kp.of s1)) htl (B2.same s1)) (by simp) hl (by show (S a).length ≤ 1000; rw [S_len]; omega)
    refine ⟨_, rfl, _, rfl, b, R, rfl, rc.r0, B1, fun r H2 r0 r1 B2 w2 => ⟨_, rfl, _, rfl, b, C, rfl, rc.c0, B2, fun c H3 c0 c1 B3 w3 => ?_⟩⟩
    obtain ⟨r, rfl⟩ := Int.eq_ofNat_of_zero_le r0
    obtain ⟨c, rfl⟩ := Int.eq_ofNat_of_zero_le c0
    have w13 := (w1.trans w2).trans w3
    refine ⟨_, rfl, rfl, _, rfl, ite2 (fun _ => ?_) (fun _ => ?_)⟩
    · refine ⟨_, rfl, _, rfl, _, rfl, _, rfl, (by show 5 ≤ sizeLine; decide), fun u hu => ⟨_, rfl, _, rfl, r, c, rfl, by omega, by omega, fun H4 s2 => ⟨(by show 1 ≤ sizeLine; decide), fun tl htl => ⟨(by show 2 ≤ sizeLine; decide), fun l hl => ?_⟩⟩⟩⟩
      have s1 := same_new (o := .tup [.str "block", .int (r : Int), .int (c : Int), .int (r : Int), .int (c : Int)]) hu
      have s3 := same_new (o := .lst [.str (S (addr r c))]) htl
      exact fin _ _ (.block _ _ _ _) tl l _ (((B3.same s1).same s2).same s3) ((w13.trans (Kp.of (s1.trans s2))).trans (Kp.of s3)) ⟨u, rfl, (s2.trans s3) _ _ upd_same⟩ upd_same (none_back (w13.trans (Kp.of (s1.trans s2))) htl ((B3.same s1).same s2)) (by simp) hl ⟨by omega, by omega, by omega, by omega, by omega, by omega⟩
    refine ⟨_, rfl, _, rfl, b, R, rfl, rc.r0, B3, fun o H4 o0 o1 B4 w4 => ⟨_, rfl, _, rfl, b, C, rfl, rc.c0, B4, fun e H5 e0 e1 B5 w5 => ?_⟩⟩
    obtain ⟨o, rfl⟩ := Int.eq_ofNat_of_zero_le o0
    obtain ⟨e, rfl⟩ := Int.eq_ofNat_of_zero_le e0
    have w15 := (w13.trans w4).trans w5
    refine ⟨_, rfl, _, rfl, _, _, rfl, _, rfl, _, rfl, _, _, rfl, _, rfl, _, rfl, _, _, rfl, _, rfl, _, rfl, _, _, rfl, (by show 5 ≤ sizeLine; decide), fun u hu => ?_⟩
    have s1 := same_new (o := .tup [.str "block", .int (if (o : Int) < r then o else r), .int (if (e : Int) < c then e else c), .int (if (o : Int) > r then o else r), .int (if (e : Int) > c then e else c)]) hu
    refine ⟨_, rfl, _, rfl, _, rfl, r, c, rfl, by omega, by omega, fun H6 s2 => ⟨_, rfl, _, rfl, o, e, rfl, by omega, by omega, fun H7 s3 => ⟨(by show 3 ≤ sizeLine; decide), fun tl htl => ⟨(by show 2 ≤ sizeLine; decide), fun l hl => ?_⟩⟩⟩⟩
    have s4 := same_new (o := .lst [.str (S (addr r c)), .str ":", .str (S (addr o e))]) htl
    have B8 := ((B5.same s1).same s2).same s3
    exact fin _ _ (.block _ _ _ _) tl l _ (B8.same s4) ((w15.trans (Kp.of ((s1.trans s2).trans s3))).trans (Kp.of s4)) ⟨u, rfl, ((s2.trans s3).trans s4) _ _ upd_same⟩ upd_same (none_back (w15.trans (Kp.of ((s1.trans s2).trans s3))) htl B8) (by simp) hl ⟨by split <;> omega, by split <;> split <;> omega, by split <;> omega, by split <;> omega, by split <;> split <;> omega, by split <;> omega⟩
theorem pow3_le {d : Nat} (h : d ≤ 6) : 3 ^ d ≤ 729 := Nat.le_trans (Nat.pow_le_pow_right (by decide) h) (by decide)
def spInside (K : PySem.W.Frag) : Sp := fun vs H Q _ => ∃ (b l : Addr) (d : Nat) (t : Tr) (k : Int), vs = [.ref b, .ref l, .int k] ∧ Box H b ∧ d ≤ 6 ∧ NodeAt H b l d t ∧ ∀ (tl : Addr) (ts : List V) (H' : Hp), Box H' b → Kp b H H' → H' tl = some (.lst ts) → ts.length ≤ 20 * 3 ^ d + 2 → tl ≠ b → Q (.ref tl) H'
theorem okLawInside (T : Txt K mg) : FnOk P w K mg base CX0 2 T.fLawInside T.fdLawInside ["box", "node", "least"] (spInside K) := by
  refine T.FLawInside.ok scLawInside (fun vs H Q E h => ?_) (fun cdv A outer s H vs Q E hr h => ?_)
  · obtain ⟨b, l, d, t, k, rfl, _⟩ := h
    rfl
  · obtain ⟨b, l, d, t, k, rfl, B, hd, ⟨v, tl, ts, k2, h1, h2, z, _, n1, n2⟩, q⟩ := h
    -- slots box=0 node=1 least=2
    refine ⟨_, (pss_cons (ps_if (PW.pt (pw_or (pt_cmpR op_lt (pe_ix ix_list (pv 1) pe_int (fun _ _ => rfl)) (pv 2) (nomark _)) (pw_or1 (pt_cmpR op_eq (pe_call (okLawDraw T) (hr.mono (by decide)) (by rfl) T.gLawDraw T.FLawDraw.kp T.bLawDraw .nil pass0 (pa_cons (pv 0) (pa_cons pe_int pa_nil))) pe_int (nomark _)))))
          (pss_one (ps_ret (pe_op op_cat (pe_op op_cat (pe_lst (pa_cons pe_str pa_nil)) (pe_ix ix_list (pv 1) pe_int (fun _ _ => rfl))) (pe_lst (pa_cons pe_str pa_nil)))))
          pss_nil)
        (pss_one (ps_ret (pe_ix ix_list (pv 1) pe_int (fun _ _ => rfl))))), ?_⟩
    have p3 := pow3_le hd
    refine ⟨_, rfl, l, _, _, _, rfl, rfl, SqL.of h1, atI_nat (j := 2) rfl, _, rfl, _, _, rfl, rfl, _, rfl, ite2 (fun _ => ?_) (fun _ => ⟨_, rfl, b, 6, rfl, by decide, B, fun m H1 _ _ B1 w1 => ⟨rfl, _, rfl, ite2 (fun _ => ?_) (fun _ => ?_)⟩⟩)⟩
    · refine ⟨(by show 1 ≤ sizeLine; decide), fun x hx => ?_⟩
      have s1 := same_new (o := .lst [.str "("]) hx
      refine ⟨_, rfl, l, _, _, _, rfl, rfl, SqL.of (s1 _ _ h1), atI_nat (j := 1) rfl, x, tl, _, _, rfl, rfl, upd_same, s1 _ _ h2, sz100 (by show 1 + ts.length ≤ 100000; omega), fun y hy => ⟨(by show 1 ≤ sizeLine; decide), fun w hw => ?_⟩⟩
      have s2 := same_new (o := .lst ([.str "("] ++ ts)) hy
      have s3 := same_new (o := .lst [.str ")"]) hw
      refine ⟨y, w, _, _, rfl, rfl, s3 _ _ upd_same, upd_same, sz100 (by simp; omega), fun r hr => ?_⟩
      have s4 := same_new (o := .lst ([.str "("] ++ ts ++ [.str ")"])) hr
      have B5 := ((B.same s1).same s2).same s3
      exact q r _ _ (B5.same s4) (Kp.of (((s1.trans s2).trans s3).trans s4)) upd_same (by simp; omega) (box_ne B5 hr)
    · have h1' := w1 _ _ n1 h1
      have h2' := w1 _ _ n2 h2
      refine ⟨(by show 1 ≤ sizeLine; decide), fun x hx => ?_⟩
      have s1 := same_new (o := .lst [.str "("]) hx
      refine ⟨_, rfl, l, _, _, _, rfl, rfl, SqL.of (s1 _ _ h1'), atI_nat (j := 1) rfl, x, tl, _, _, rfl, rfl, upd_same, s1 _ _ h2', sz100 (by show 1 + ts.length ≤ 100000; omega), fun y hy => ⟨(by show 1 ≤ sizeLine; decide), fun w hw => ?_⟩⟩
      have s2 := same_new (o := .lst ([.str "("] ++ ts)) hy
      have s3 := same_new (o := .lst [.str ")"]) hw
      refine ⟨y, w, _, _, rfl, rfl, s3 _ _ upd_same, upd_same, sz100 (by simp; omega), fun r hr => ?_⟩
      have s4 := same_new (o := .lst ([.str "("] ++ ts ++ [.str ")"])) hr
      have B5 := ((B1.same s1).same s2).same s3
      exact q r _ _ (B5.same s4) (w1.trans (Kp.of (((s1.trans s2).trans s3).trans s4))) upd_same (by simp; omega) (box_ne B5 hr)
    · have h1' := w1 _ _ n1 h1
      exact ⟨_, rfl, l, _, _, _, rfl, rfl, SqL.of h1', atI_nat (j := 1) rfl, q tl ts H1 B1 w1 (w1 _ _ n2 h2) (by omega) n2⟩
theorem kp_mut {b : Addr} {H H' : Hp} {ad : Addr} {o : HO} (w : Kp b H H') (h : H ad = none) (n : ad ≠ b) : Kp b H (upd H' ad o) := by
  refine ⟨fun c x nc hc => ?_, fun x j hb => ?_⟩
  · rw [upd_ne (ne_of_none hc h)]
    exact w _ _ nc hc
  · obtain ⟨j', hj⟩ := w.d x j hb
    exact ⟨j', by rw [upd_ne n.symm]; exact hj⟩
theorem box_mut {H : Hp} {b ad d0 : Addr} {j : V} {o : HO} (B : Box H b) (hb : H b = some (.lst [.ref d0, j])) (n1 : ad ≠ b) (n2 : ad ≠ d0) : Box (upd H ad o) b := by
  obtain ⟨d, ds, i, h1, h2, h3⟩ := B
  rw [h1] at hb
  have e0 : d = d0 := V.ref.inj (List.cons.inj (HO.lst.inj (Option.some.inj hb))).1
  rw [← e0] at n2
  exact ⟨d, ds, i, by rw [upd_ne n1.symm]; exact h1, by rw [upd_ne n2.symm]; exact h2, h3⟩
theorem Ars.snoc {H : Hp} {vs : List V} {as : List Ar} {v : V} {a : Ar} (h : Ars H vs as) (ha : ArAt H v a) : Ars H (vs ++ [v]) (as ++ [a]) := Ars.app (.cons ha .nil) h
def spCall (K : PySem.W.Frag) : Sp := fun vs H Q _ => ∃ (b : Addr) (R C : Int), vs = [.ref b, .int R, .int C] ∧ RC R C ∧ Box H b ∧ ∀ (l : Addr) (t : Tr) (d : Nat) (H' : Hp), Box H' b → Kp b H H' → NodeAt H' b l 0 t → t.h = 0 → t.okR R C → Q (.ref l) H'
theorem okLawCall (T : Txt K mg) : FnOk P w K mg base CX0 4 T.fLawCall T.fdLawCall ["box", "rows", "columns"] (spCall K) := by
  refine T.FLawCall.ok scLawCall (fun vs H Q E h => ?_) (fun cdv A outer s H vs Q E hr h => ?_)
  · obtain ⟨b, R, C, rfl, _⟩ := h
    rfl
  · obtain ⟨b, R, C, rfl, rc, B, q⟩ := h
    have rc0 := rc.r0
    have rc1 := rc.r1
    have rc2 := rc.c0
    have rc3 := rc.c1
    -- slots box=0 rows=1 columns=2 name=3 areas=4 texts=5 k=6 area=7
    refine ⟨_, (pss_cons (ps_set (i := 3) scLawCall.nd rfl (Or.inl rfl) (pe_ix ix_list (pe_lst (pa_cons pe_str (pa_cons pe_str (pa_cons pe_str (pa_cons pe_str pa_nil))))) (pe_call (okLawDraw T) (hr.mono (by decide)) (by rfl) T.gLawDraw T.FLawDraw.kp T.bLawDraw .nil pass0 (pa_cons (pv 0) (pa_cons pe_int pa_nil))) (fun _ _ => rfl)))
        (pss_cons (ps_set (i := 4) scLawCall.nd rfl (Or.inl rfl) (pe_lst pa_nil))
        (pss_cons (ps_set (i := 5) scLawCall.nd rfl (Or.inl rfl) (pe_lst (pa_cons (pv 3) (pa_cons pe_str pa_nil))))
        (pss_cons (ps_for PassesOwn.never rfl (pi_range1 rfl T.z_range (pa_cons (pe_op op_add pe_int (pe_call (okLawDraw T) (hr.mono (by decide)) (by rfl) T.gLawDraw T.FLawDraw.kp T.bLawDraw .nil pass0 (pa_cons (pv 0) (pa_cons pe_int pa_nil)))) pa_nil)) (pg_name (i := 6) scLawCall.nd rfl (Or.inl rfl))
          (pss_cons (ps_set (i := 7) scLawCall.nd rfl (Or.inl rfl) (pe_call (okLawArea T) (hr.mono (by decide)) (by rfl) T.gLawArea T.FLawArea.kp T.bLawArea .nil pass0 (pa_cons (pv 0) (pa_cons (pv 1) (pa_cons (pv 2) pa_nil)))))
          (C8.pss_cut (ps_if (pt_cmpR op_gt (pv 6) pe_int (nomark _))
            (pss_one (ps_set (i := 5) scLawCall.nd rfl (Or.inl rfl) (pe_op op_cat (pv 5) (pe_lst (pa_cons pe_str pa_nil)))))
            pss_nil)
          (pss_cons (ps_expr (pe_bm PySem.F.plainAttrs_list PySem.F.slot_list_append PySem.F.type_list_append mt_append (pv 4) (pa_cons (pe_ix ix_list (pv 7) pe_int (fun _ _ => rfl)) pa_nil)))
          (pss_one (ps_set (i := 5) scLawCall.nd rfl (Or.inl rfl) (pe_op op_cat (pv 5) (pe_ix ix_list (pv 7) pe_int (fun _ _ => rfl)))))))))
        (pss_one (ps_ret (pe_lst (pa_cons (pe_tup (pa_cons pe_str (pa_cons (pv 3) (pa_cons (pe_callTy call_tuple_of (by rfl) T.z_tuple (by decide +kernel) (pa_cons (pv 4) pa_nil)) pa_nil)))) (pa_cons (pe_op op_cat (pv 5) (pe_lst (pa_cons pe_str pa_nil))) (pa_cons pe_int pa_nil)))))))))), ?_⟩
    refine ⟨(by show 4 ≤ sizeLine; decide), fun z hz => ?_⟩
    have sz := same_new (o := .lst [.str "sum", .str "count", .str "min", .str "max"]) hz
    have Bz := B.same sz
    refine ⟨_, rfl, b, 4, rfl, by decide, Bz, fun m H1 m0 m1 B1 w1 => ?_⟩
    obtain ⟨nm, nmem, ev⟩ := item_by V.str (xs := ["sum", "count", "min", "max"]) m0 (by show m < 4; exact m1)
    refine ⟨z, _, _, _, rfl, rfl, SqL.of (w1 _ _ (box_ne B hz) upd_same), ev, ?_⟩
    have wz := (Kp.of (b := b) sz).trans w1
    refine ⟨Nat.zero_le _, fun ad had => ?_⟩
    have s2 := same_new (o := .lst []) had
    have B2 := B1.same s2
    have nab := box_ne B1 had
    obtain ⟨d0, ds0, j0, hb0, hd0, _⟩ := id B1
    have nad : ad ≠ d0 := fun y => by
      rw [y, hd0] at had
      cases had
    have h2 : (upd H1 ad (.lst [])) ad = some (.lst []) := upd_same
    have hb2 := s2 _ _ hb0
    have w2 := wz.trans (Kp.of s2)
    have k2 : Kp b H1 (upd H1 ad (.lst [])) := Kp.of s2
    generalize upd H1 ad (.lst []) = H2 at s2 B2 h2 hb2 w2 k2
    refine ⟨_, rfl, (by show 2 ≤ sizeLine; decide), fun tl htl => ?_⟩
    have s3 := same_new (o := .lst [.str nm, .str "("]) htl
    have B3 := B2.same s3
    refine ⟨_, rfl, b, 3, rfl, by decide, B3, fun k H4 k0 k1 B4 w4 => ?_⟩
    have ntb := box_ne B2 htl
    have nta : tl ≠ ad := fun y => by
      rw [y, h2] at htl
      cases htl
    have k4 := (k2.trans (Kp.of s3)).trans w4
    have h4 := w4 _ _ nab (s3 _ _ h2)
    have t4 := w4 _ _ ntb upd_same
    obtain ⟨j4, hb4⟩ := w4.d _ _ (s3 _ _ hb2)
    refine ⟨_, _, rfl, rfl, 1 + k, rfl, by omega, by omega, for_range (lo := 0) (n := (1 + k).toNat) (fun i σ H' => ∃ (c6 c7 : Option V) (xs : List V) (as : List Ar) (tl : Addr) (ts : List V), σ = [some (.ref b), some (.int R), some (.int C), some (.str nm), some (.ref ad), some (.ref tl), c6, c7] ∧ Box H' b ∧ Kp b H1 H' ∧ (∃ j, H' b = some (.lst [.ref d0, j])) ∧ H' ad = some (.lst xs) ∧ Ars H' xs as ∧ (as.length ≤ i ∧ ∀ a ∈ as, a.ins R C) ∧ H' tl = some (.lst ts) ∧ ts.length ≤ 2 + 4 * i ∧ tl ≠ b ∧ tl ≠ ad) ⟨_, _, [], [], tl, _, rfl, B4, k4, ⟨j4, hb4⟩, h4, .nil, ⟨Nat.le_refl _, fun _ h => nomatch h⟩, t4, by simp, ntb, nta⟩ ?_ ?_⟩
    · rintro i σ H5 hi ⟨c6, c7, xs, as, tl, ts, rfl, B5, k5, ⟨j5, hb5⟩, h5, ar5, ⟨al, ai⟩, t5, tz, ntb, nta⟩
      refine ⟨_, rfl, _, rfl, _, rfl, b, R, C, rfl, rc, B5, fun l a H6 B6 w6 ⟨v, el, es, e1, e2, e3, e4, e5, e6⟩ ains => ?_⟩
      have h6 := w6 _ _ nab h5
      have t6 := w6 _ _ ntb t5
      have k6 := k5.trans w6
      obtain ⟨j6, hb6⟩ := w6.d _ _ hb5
      have ar6 := ar5.mono (TK.kp w6 B5)
      have nla : l ≠ ad := fun y => by
        rw [y, h5] at e5
        cases e5
      have nea : el ≠ ad := fun y => by
        rw [y, h5] at e6
        cases e6
      refine ⟨fun σ H' => ∃ (tl : Addr) (ts : List V), σ = [some (.ref b), some (.int R), some (.int C), some (.str nm), some (.ref ad), some (.ref tl), some (.int (0 + (i : Int))), some (.ref l)] ∧ Same H6 H' ∧ H' tl = some (.lst ts) ∧ ts.length ≤ 3 + 4 * i ∧ tl ≠ b ∧ tl ≠ ad, ?_, ?_⟩
      · refine ⟨_, rfl, _, _, rfl, rfl, _, rfl, ite2 (fun _ => ?_) (fun _ => ⟨tl, ts, rfl, Same.refl _, t6, by omega, ntb, nta⟩)⟩
        refine ⟨_, rfl, (by show 1 ≤ sizeLine; decide), fun x hx => ?_⟩
        have s7 := same_new (o := .lst [.str ","]) hx
        refine ⟨tl, x, _, _, rfl, rfl, s7 _ _ t6, upd_same, sz100 (by simp; have : (1 + k).toNat ≤ 3 := (by omega); omega), fun y hy => ?_⟩
        exact ⟨y, _, rfl, s7.trans (same_new hy), upd_same, by simp; omega, box_ne (B6.same s7) hy, fun z => by rw [z, s7 _ _ h6] at hy; cases hy⟩
      rintro σ H7 ⟨tl, ts, rfl, s7, t7, tz, ntb, nta⟩
      have h7 := s7 _ _ h6
      have e17 := s7 _ _ e1
      refine ⟨_, rfl, .inl ⟨rfl, _, SqL.of h7⟩, _, rfl, l, _, _, _, rfl, rfl, SqL.of e17, atI_nat (j := 0) rfl, ad, _, _, rfl, rfl, h7, ?_, ?_⟩
      · rw [ar6.len]
        exact small1000 (by omega)
      have B7 := B6.same s7
      have hb7 := s7 _ _ hb6
      have u2 : (upd H7 ad (.lst (xs ++ [v]))) l = some (.lst [v, .ref el]) := by
        rw [upd_ne nla]
        exact e17
      have u3 : (upd H7 ad (.lst (xs ++ [v]))) el = some (.lst es) := by
        rw [upd_ne nea]
        exact s7 _ _ e2
      have u4 : (upd H7 ad (.lst (xs ++ [v]))) tl = some (.lst ts) := by
        rw [upd_ne nta]
        exact t7
      have B8 := box_mut (o := .lst (xs ++ [v])) B7 hb7 nab nad
      refine ⟨_, rfl, _, rfl, l, _, _, _, rfl, rfl, SqL.of u2, atI_nat (j := 1) rfl, tl, el, _, _, rfl, rfl, u4, u3, sz100 (by have : (1 + k).toNat ≤ 3 := (by omega); omega), fun y hy => ?_⟩
      have s9 := same_new (o := .lst (ts ++ es)) hy
      refine ⟨_, _, xs ++ [v], as ++ [a], y, _, rfl, B8.same s9, (kp_mut (k6.trans (Kp.of s7)) had nab).trans (Kp.of s9), ⟨j6, s9 _ _ (by rw [upd_ne nab.symm]; exact hb7)⟩, s9 _ _ upd_same, ?_, ?_, upd_same, ?_, box_ne B8 hy, ?_⟩
      · exact ((ar6.snoc e4).mono ((TK.of s7).trans (TK.mut h7))).mono (TK.of s9)
      · refine ⟨by rw [List.length_append]; exact Nat.add_le_add_right al 1, fun x hx => ?_⟩
        rcases List.mem_append.mp hx with h | h
        · exact ai x h
        · rw [List.mem_singleton.mp h]
          exact ains
      · rw [List.length_append]
        omega
      · exact fun z => by
          rw [z, upd_same] at hy
          cases hy
    · rintro σ H5 ⟨c6, c7, xs, as, tl, ts, rfl, B5, k5, ⟨j5, hb5⟩, h5, ar5, ⟨al, ai⟩, t5, tz, ntb, nta⟩
      refine ⟨_, rfl, _, rfl, ad, _, rfl, .inl ⟨SqL.of h5, fun p hp => ⟨(by show 3 ≤ sizeLine; decide), fun u hu => ?_⟩⟩⟩
      have s6 := same_new (o := .tup xs) hp
      have s7 := same_new (o := .tup [.str "call", .str nm, .ref p]) hu
      refine ⟨_, rfl, (by show 1 ≤ sizeLine; decide), fun x hx => ?_⟩
      have s8 := same_new (o := .lst [.str ")"]) hx
      refine ⟨tl, x, _, _, rfl, rfl, ((s6.trans s7).trans s8) _ _ t5, upd_same, sz100 (by simp; have : (1 + k).toNat ≤ 3 := (by omega); omega), fun y hy => ⟨(by show 3 ≤ sizeLine; decide), fun l hl => ?_⟩⟩
      have s9 := same_new (o := .lst (ts ++ [.str ")"])) hy
      have B8 := ((B5.same s6).same s7).same s8
      have s69 := ((s6.trans s7).trans s8).trans s9
      refine q l (.call nm as) 0 _ ((B8.same s9).same (same_new hl)) (((wz.trans k5).trans (Kp.of s69)).trans (Kp.of (same_new hl))) (node_mk (B8.same s9) ⟨u, p, xs, rfl, (s8.trans s9) _ _ upd_same, ((s7.trans s8).trans s9) _ _ upd_same, ar5.mono (TK.of s69)⟩ upd_same (box_ne B8 hy) hl ?_) rfl ?_
      · simp
        have : (1 + k).toNat ≤ 3 := by omega
        omega
      · exact ⟨by omega, ai, nmem⟩
theorem NodeAt.same {H H' : Hp} {b l : Addr} {d : Nat} {t : Tr} (s : Same H H') (h : NodeAt H b l d t) : NodeAt H' b l d t := by
  obtain ⟨v, tl, ts, k, h1, h2, h3, h4, h5, h6⟩ := h
  exact ⟨v, tl, ts, k, s _ _ h1, s _ _ h2, h3, h4.mono (TK.of s), h5, h6⟩
def spNode (K : PySem.W.Frag) (n : Nat) : Sp := fun vs H Q _ => ∃ (b : Addr) (d : Nat) (R C : Int), vs = [.ref b, .int R, .int C, .int (d : Int)] ∧ RC R C ∧ d < n ∧ d ≤ 5 ∧ Box H b ∧ ∀ (l : Addr) (t : Tr) (H' : Hp), Box H' b → Kp b H H' → NodeAt H' b l d t → t.h ≤ d → t.okR R C → Q (.ref l) H'
theorem okLawNode (T : Txt K mg) : ∀ n : Nat, FnOk P w K mg base CX0 (n + 6) T.fLawNode T.fdLawNode ["box", "rows", "columns", "depth"] (spNode K n)
  | 0 => by
    refine T.FLawNode.ok scLawNode (fun vs H Q E h => ?_) (fun cdv A outer s H vs Q E hr h => ?_)
    · obtain ⟨b, d, R, C, rfl, rc, hh, _⟩ := h
      rfl
    · obtain ⟨b, d, R, C, rfl, rc, hh, _⟩ := h
      exact absurd hh (Nat.not_lt_zero _)
  | n + 1 => by
    have IH := okLawNode T n
    refine T.FLawNode.ok scLawNode (fun vs H Q E h => ?_) (fun cdv A outer s H vs Q E hr h => ?_)
    · obtain ⟨b, d, R, C, rfl, _⟩ := h
      rfl
    · obtain ⟨b, d, R, C, rfl, rc, hh, hd, B, q⟩ := h
      -- slots box=0 rows=1 columns=2 depth=3 kind=4 left=5 right=6 sign=7 strength=8 texts=9
      refine ⟨_, (pss_cons (ps_set (i := 4) scLawNode.nd rfl (Or.inl rfl) (pe_call (okLawDraw T) (hr.mono (by omega)) (by rfl) T.gLawDraw T.FLawDraw.kp T.bLawDraw .nil pass0 (pa_cons (pv 0) (pa_cons pe_int pa_nil))))
          (pss_cons (ps_if (PW.pt (pw_or (pt_cmpR op_eq (pv 3) pe_int (nomark _)) (pw_or1 (pt_cmpR op_lt (pv 4) pe_int (nomark _)))))
            (pss_one (ps_ret (pe_call (okLawLeaf T) (hr.mono (by omega)) (by rfl) T.gLawLeaf T.FLawLeaf.kp T.bLawLeaf .nil pass0 (pa_cons (pv 0) (pa_cons (pv 1) (pa_cons (pv 2) pa_nil))))))
            pss_nil)
          (pss_cons (ps_if (pt_cmpR op_eq (pv 4) pe_int (nomark _))
            (pss_one (ps_ret (pe_call (okLawCall T) (hr.mono (by omega)) (by rfl) T.gLawCall T.FLawCall.kp T.bLawCall .nil pass0 (pa_cons (pv 0) (pa_cons (pv 1) (pa_cons (pv 2) pa_nil))))))
            pss_nil)
          (pss_cons (ps_set (i := 5) scLawNode.nd rfl (Or.inl rfl) (pe_call IH (hr.mono (by omega)) (by rfl) T.gLawNode T.FLawNode.kp T.bLawNode .nil pass0 (pa_cons (pv 0) (pa_cons (pv 1) (pa_cons (pv 2) (pa_cons (pe_op op_sub (pv 3) pe_int) pa_nil))))))
          (pss_cons (ps_if (pt_cmpR op_eq (pv 4) pe_int (nomark _))
            (pss_one (ps_ret (pe_lst (pa_cons (pe_tup (pa_cons pe_str (pa_cons (pe_ix ix_list (pv 5) pe_int (fun _ _ => rfl)) pa_nil))) (pa_cons (pe_op op_cat (pe_lst (pa_cons pe_str pa_nil)) (pe_call (okLawInside T) (hr.mono (by omega)) (by rfl) T.gLawInside T.FLawInside.kp T.bLawInside .nil pass0 (pa_cons (pv 0) (pa_cons (pv 5) (pa_cons pe_int pa_nil))))) (pa_cons pe_int pa_nil))))))
            pss_nil)
          (pss_cons (ps_set (i := 6) scLawNode.nd rfl (Or.inl rfl) (pe_call IH (hr.mono (by omega)) (by rfl) T.gLawNode T.FLawNode.kp T.bLawNode .nil pass0 (pa_cons (pv 0) (pa_cons (pv 1) (pa_cons (pv 2) (pa_cons (pe_op op_sub (pv 3) pe_int) pa_nil))))))
          (pss_cons (ps_set (i := 7) scLawNode.nd rfl (Or.inl rfl) (pe_ix ix_str pe_str (pe_call (okLawDraw T) (hr.mono (by omega)) (by rfl) T.gLawDraw T.FLawDraw.kp T.bLawDraw .nil pass0 (pa_cons (pv 0) (pa_cons pe_int pa_nil))) (fun _ _ => rfl)))
          (pss_cons (ps_set (i := 8) scLawNode.nd rfl (Or.inl rfl) pe_int)
          (C8.pss_cut (ps_if (pt_cmpR op_in_sign (pv 7) pe_str rfl)
            (pss_one (ps_set (i := 8) scLawNode.nd rfl (Or.inl rfl) pe_int))
            pss_nil)
          (pss_cons (ps_set (i := 9) scLawNode.nd rfl (Or.inl rfl) (pe_op op_cat (pe_op op_cat (pe_call (okLawInside T) (hr.mono (by omega)) (by rfl) T.gLawInside T.FLawInside.kp T.bLawInside .nil pass0 (pa_cons (pv 0) (pa_cons (pv 5) (pa_cons (pv 8) pa_nil)))) (pe_lst (pa_cons (pv 7) pa_nil))) (pe_call (okLawInside T) (hr.mono (by omega)) (by rfl) T.gLawInside T.FLawInside.kp T.bLawInside .nil pass0 (pa_cons (pv 0) (pa_cons (pv 6) (pa_cons (pe_op op_add (pv 8) pe_int) pa_nil))))))
          (pss_one (ps_ret (pe_lst (pa_cons (pe_tup (pa_cons pe_str (pa_cons (pv 7) (pa_cons (pe_ix ix_list (pv 5) pe_int (fun _ _ => rfl)) (pa_cons (pe_ix ix_list (pv 6) pe_int (fun _ _ => rfl)) pa_nil))))) (pa_cons (pv 9) (pa_cons (pv 8) pa_nil)))))))))))))))), ?_⟩
      refine ⟨_, rfl, b, 7, rfl, by decide, B, fun kd H1 kd0 kd1 B1 w1 => ?_⟩
      refine ⟨_, rfl, rfl, _, rfl, ite2 (fun _ => ?_) (fun c0 => ⟨_, rfl, _, _, rfl, rfl, _, rfl, ite2 (fun _ => ?_) (fun _ => ?_)⟩)⟩
      · exact ⟨_, rfl, _, rfl, _, rfl, b, R, C, rfl, rc, B1, fun l t d' H2 B2 w2 N h0 ok => q l t H2 B2 (w1.trans w2) (N.up (d := d')) (by omega) ok⟩
      · exact ⟨_, rfl, _, rfl, _, rfl, b, R, C, rfl, rc, B1, fun l t d' H2 B2 w2 N h0 ok => q l t H2 B2 (w1.trans w2) (N.up (d := d')) (by omega) ok⟩
      have hd1 : 1 ≤ d := by
        rcases Nat.eq_zero_or_pos d with z | z
        · exact absurd (decide_eq_true (by rw [z]; rfl)) c0
        · exact z
      obtain ⟨e, rfl⟩ : ∃ e, d = e + 1 := ⟨d - 1, by omega⟩
      have ed : [V.ref b, V.int R, V.int C, V.int (((e + 1 : Nat) : Int) - 1)] = [V.ref b, V.int R, V.int C, V.int (e : Int)] := by
        rw [show ((e + 1 : Nat) : Int) - 1 = (e : Int) by omega]
      refine ⟨_, rfl, rfl, _, rfl, ite2 (fun _ => ?_) (fun _ => ?_)⟩
      · exact ⟨_, rfl, _, rfl, _, rfl, b, R, C, rfl, rc, B1, fun l t d' H2 B2 w2 N h0 ok => q l t H2 B2 (w1.trans w2) (N.up (d := d')) (by omega) ok⟩
      have p3 := pow3_le (d := e) (by omega)
      have p33 : 3 ^ (e + 1) = 3 * 3 ^ e := by rw [Nat.pow_succ, Nat.mul_comm]
      have pp := pow_pos3 e
      refine ⟨_, rfl, _, rfl, _, rfl, _, rfl, _, _, rfl, rfl, b, e, R, C, ed, rc, by omega, by omega, B1, fun l1 t1 H2 B2 w2 N1 h1 ok1 => ?_⟩
      refine ⟨_, rfl, rfl, _, rfl, ite2 (fun _ => ?_) (fun _ => ?_)⟩
      · -- a minus
        obtain ⟨v, tl, ts, k, e1, e2, e3, e4, e5, e6⟩ := id N1
        refine ⟨_, rfl, l1, _, _, _, rfl, rfl, SqL.of e1, atI_nat (j := 0) rfl, (by show 2 ≤ sizeLine; decide), fun u hu => ⟨(by show 1 ≤ sizeLine; decide), fun x hx => ?_⟩⟩
        have s3 := same_new (o := .tup [.str "neg", v]) hu
        have s4 := same_new (o := .lst [.str "-"]) hx
        have B4 := (B2.same s3).same s4
        refine ⟨_, rfl, _, rfl, b, l1, e, t1, 4, rfl, B4, by omega, N1.same (s3.trans s4), fun tl5 ts5 H5 B5 w5 h5 z5 n5 => ?_⟩
        refine ⟨x, tl5, _, _, rfl, rfl, w5 _ _ (box_ne (B2.same s3) hx) upd_same, h5, sz100 (by show 1 + ts5.length ≤ 100000; omega), fun y hy => ⟨(by show 3 ≤ sizeLine; decide), fun l hl => ?_⟩⟩
        have s6 := same_new (o := .lst ([.str "-"] ++ ts5)) hy
        have kk := TK.trans (TK.of s4) (TK.trans (TK.kp w5 B4) (TK.of s6))
        refine q l (.neg t1) _ ((B5.same s6).same (same_new hl)) (((((w1.trans w2).trans (Kp.of (s3.trans s4))).trans w5).trans (Kp.of s6)).trans (Kp.of (same_new hl))) (node_mk (B5.same s6) ⟨u, v, rfl, kk _ _ upd_same, e4.mono (TK.trans (TK.of s3) kk)⟩ upd_same (box_ne B5 hy) hl ?_) ?_ ok1
        · rw [List.length_append]
          show 1 + ts5.length ≤ 20 * 3 ^ (e + 1)
          omega
        · show t1.h + 1 ≤ _
          omega
      refine ⟨_, rfl, _, rfl, _, rfl, _, rfl, _, _, rfl, rfl, b, e, R, C, ed, rc, by omega, by omega, B2, fun l2 t2 H3 B3 w3 N2 h2 ok2 => ?_⟩
      have N1' := N1.kp w3 B2
      refine ⟨_, rfl, b, 4, rfl, by decide, B3, fun m H4 m0 m1 B4 w4 => ?_⟩
      obtain ⟨c, hcm, hc⟩ := at_mem (xs := ("+-*/" : Str).cps.toList) m0 (Int.lt_of_lt_of_le m1 (by decide +kernel))
      refine ⟨_, m, c, rfl, rfl, by decide +kernel, hc, ?_⟩
      refine ⟨fun σ H' => H' = H4 ∧ ∃ (k : Int) (c9 : Option V), σ = [some (.ref b), some (.int R), some (.int C), some (.int ((e + 1 : Nat) : Int)), some (.int kd), some (.ref l1), some (.ref l2), some (.str (S [c])), some (.int k), c9], ?_, ?_⟩
      · refine ⟨_, rfl, c, _, rfl, rfl, _, rfl, ite2 (fun _ => ⟨rfl, 2, _, rfl⟩) (fun _ => ⟨rfl, 1, _, rfl⟩)⟩
      rintro σ H5 ⟨rfl, k, c9, rfl⟩
      have N14 := N1'.kp w4 B3
      have N24 := N2.kp w4 B3
      refine ⟨_, rfl, _, rfl, _, rfl, b, l1, e, t1, k, rfl, B4, by omega, N14, fun tl5 ts5 H6 B6 w6 h6 z6 n6 => ?_⟩
      refine ⟨_, rfl, (by show 1 ≤ sizeLine; decide), fun x hx => ?_⟩
      have s7 := same_new (o := .lst [.str (S [c])]) hx
      refine ⟨tl5, x, _, _, rfl, rfl, s7 _ _ h6, upd_same, sz100 (by simp; omega), fun y hy => ?_⟩
      have s8 := same_new (o := .lst (ts5 ++ [.str (S [c])])) hy
      have B8 := (B6.same s7).same s8
      have N18 := (N14.kp w6 B4).same (s7.trans s8)
      have N28 := (N24.kp w6 B4).same (s7.trans s8)
      refine ⟨_, rfl, _, rfl, _, rfl, _, _, rfl, rfl, b, l2, e, t2, k + 1, rfl, B8, by omega, N28, fun tl9 ts9 H9 B9 w9 h9 z9 n9 => ?_⟩
      refine ⟨y, tl9, _, _, rfl, rfl, w9 _ _ (box_ne (B6.same s7) hy) upd_same, h9, sz100 (by simp; omega), fun z hz => ?_⟩
      have sA := same_new (o := .lst ((ts5 ++ [.str (S [c])]) ++ ts9)) hz
      have N1A := (N18.kp w9 B8).same sA
      have N2A := (N28.kp w9 B8).same sA
      have wA := (((((w1.trans w2).trans w3).trans w4).trans w6).trans (Kp.of (s7.trans s8))).trans (w9.trans (Kp.of sA))
      obtain ⟨v1, _, _, _, e1, _, _, e4, _, _⟩ := N1A
      obtain ⟨v2, _, _, _, f1, _, _, f4, _, _⟩ := N2A
      refine ⟨_, rfl, _, rfl, l1, _, _, _, rfl, rfl, SqL.of e1, atI_nat (j := 0) rfl, _, rfl, l2, _, _, _, rfl, rfl, SqL.of f1, atI_nat (j := 0) rfl, (by show 4 ≤ sizeLine; decide), fun u hu => ⟨_, rfl, _, rfl, (by show 3 ≤ sizeLine; decide), fun l hl => ?_⟩⟩
      have sB := same_new (o := .tup [.str "op", .str (S [c]), v1, v2]) hu
      have BA := B9.same sA
      refine q l (.op (S [c]) t1 t2) _ ((BA.same sB).same (same_new hl)) ((wA.trans (Kp.of sB)).trans (Kp.of (same_new hl))) (node_mk (BA.same sB) ⟨u, v1, v2, rfl, upd_same, e4.mono (TK.of sB), f4.mono (TK.of sB)⟩ (sB _ _ upd_same) (box_ne B9 hz) hl ?_) ?_ ⟨ok1, ok2, signs_at c hcm⟩
      · simp
        omega
      · show max t1.h t2.h + 1 ≤ _
        omega
/-! ### sorted(d), d a dict with keys of two ints -/
section
variable {prog : Program} {A : Around} {E : Value → Shared → Prop} {s : Shared} {Ty : String} {r d : Addr} {n : Nat} {PP : Nat → Value → Prop} {OK : Heap → Prop}
open PySem.W PySem.Calls PyProof.V in
/-- the list that a walk over a dict fills, and that the heap has grown -/
theorem collectK {w : World} {R : List Value → Shared → Prop} (Src : PySem.W.KdlSrc prog w Ty r d n PP OK) (hh : A.handled = none) (hok : OK s.heap) (hn : n ≤ sizeLine)
    (h : ∀ (h' : Heap) (tk : Nat) (acc : Array Value), (∀ b o, s.heap.get? b = some o → h'.get? b = some o) → s.heap.objs.size < h'.objs.size → ItemsOf PP acc n → R acc.toList { s with heap := h', toks := tk }) :
    wpAny (model prog w) A (collect (.ref r)) R E s := by
  obtain ⟨rl, dl⟩ := Src.there _ hok
  have up : ∀ {o : Obj} b u, s.heap.get? b = some u → (s.heap.push o).get? b = some u := fun b u e => Heap.get?_push_of_some _ e
  -- what stands when the walk is over
  have Full : ∃ F : Shared → Prop, (∀ s', F s' → wpAny (model prog w) A (load s.heap.objs.size >>= fun o => match o.data with
      | .seq items _ => pure items.toList
      | _ => unsupported "internal:collect") R E s') ∧ (∀ (h' : Heap) tk acc c, (∀ b u, s.heap.get? b = some u → h'.get? b = some u) → h'.get? s.heap.objs.size = some { cls := .type "list", dict := none, data := .seq acc c, slots := #[] } → ItemsOf PP acc n → F { s with heap := h', toks := tk }) :=
    ⟨fun s' => ∃ h' tk acc c, s' = { s with heap := h', toks := tk } ∧ (∀ b u, s.heap.get? b = some u → h'.get? b = some u) ∧ h'.get? s.heap.objs.size = some { cls := .type "list", dict := none, data := .seq acc c, slots := #[] } ∧ ItemsOf PP acc n,
      fun s' ⟨h', tk, acc, c, e, k, a, it⟩ => e ▸ wpAny_bind (wpAny_load a (wpAny_pure (h h' tk acc k (Heap.lt_size a) it))), fun h' tk acc c k a it => ⟨h', tk, acc, c, rfl, k, a, it⟩⟩
  obtain ⟨F, tail, fill⟩ := Full
  unfold collect
  refine wpAny_bind (wpAny_runValue (codeAny_builtin entry_proto_collect' ?_))
  rw [Around.under_plainId PySem.F.plain_proto_collect _]
  show wpAny _ A.in1 (newList [] >>= fun l => again (.builtin "list.__iadd__" ⟨[l, .ref r], []⟩)) _ _ s
  refine wpAny_bind (wpAny_newObj_type (wpAny_pure ⟨plainId_quiet PySem.F.plain_list_iadd _, codeAny_builtin entry_list_iadd' ?_⟩))
  rw [Around.under_plainId PySem.F.plain_list_iadd _]
  have lay : (s.heap.push { cls := .type "list", data := .seq ([] : List Value).toArray }).get? s.heap.objs.size = some { cls := .type "list", data := .seq #[] } := Heap.get?_push_size _ rfl
  refine wpAny_mono (kdl_extend (A := A) (R := fun q s' => q = .ok (.ret (.ref s.heap.objs.size)) ∧ F s') Src hh (Src.keep _ _ hok fun b _ _ e => up b _ e) s.heap.objs.size (Nat.ne_of_gt rl) (Nat.ne_of_gt dl) (.ref s.heap.objs.size) 0 lay (fun h' tk acc c k a it => ⟨rfl, fill h' tk acc c (fun b u e => k b u (Nat.ne_of_lt (Heap.lt_size e)) (up b u e)) a it⟩) hn) (fun fin s' x => ?_) fun e s' x => nomatch x.1
  cases fin with
  | done f =>
    obtain ⟨e, x⟩ := x
    cases e
    exact tail s' x
  | again c =>
    refine ⟨x.1, codeAny_mono x.2 fun q s2 y => ?_⟩
    obtain ⟨rfl, y⟩ := y
    exact tail s2 y
end
/-- the keys of entries, read off one by one -/
theorem keys_listed {prog : Program} {w : World} {κ : Type} [DecidableEq κ] {knd : HeapKind prog w κ} {es : Array DictEntry} {ks : List (κ × Addr × Value)} {acc : Array Value} (he : es.toList = ks.map (entryOfKey knd)) (hn : acc.size = es.size) (at_ : ∀ (i : Nat) (v : Value), acc[i]? = some v → ∃ en : DictEntry, es[i]? = some en ∧ v = en.key) :
    acc.toList = (ks.map fun x => x.2.1).map Value.ref := by
  have e1 : acc.toList = es.toList.map fun en => en.key := by
    refine List.ext_getElem (by rw [List.length_map, Array.length_toList, Array.length_toList, hn]) fun i h1 h2 => ?_
    have hi : i < acc.size := by rwa [Array.length_toList] at h1
    obtain ⟨en, h3, h4⟩ := at_ i acc[i] (Array.getElem?_eq_getElem hi)
    obtain ⟨_, h5⟩ := Array.getElem?_eq_some_iff.mp h3
    rw [List.getElem_map, Array.getElem_toList, Array.getElem_toList, h4, h5]
  rw [e1, he, List.map_map, List.map_map]
  rfl
def idK (z : Int × Int) : List Key := [.inl z.1, .inl z.2]
def ltK (z w : Int × Int) : Prop := z.1 < w.1 ∨ (z.1 = w.1 ∧ z.2 < w.2)
def leD (d e : PyData) : Bool := PySem.W.dataLe false id d e
theorem leD_idD {z w : Int × Int} (h : leD (idD z) (idD w) = true) : ¬ ltK w z := by
  have h : (!PySem.W.dataLt (idD w) (idD z)) = true := h
  unfold idD at h
  rw [PySem.W.dataLt_ii] at h
  have h := of_decide_eq_false (Bool.not_eq_true' _ ▸ h)
  exact h
def gK (z : V × (Int × Int)) : V × PyData := (z.1, idD z.2)
theorem sortK (zs : List (V × (Int × Int))) : ∃ Zs : List (V × (Int × Int)), ((zs.map gK).mergeSort (PySem.W.dataLe false Prod.snd)).map Prod.fst = Zs.map Prod.fst ∧ Zs.Perm zs ∧ (Zs.map Prod.snd).Pairwise fun a b => ¬ ltK b a := by
  refine ⟨zs.mergeSort fun a b => leD (idD a.2) (idD b.2), ?_, List.mergeSort_perm _ _, ?_⟩
  · rw [← List.map_mergeSort (f := gK) (r := fun a b => leD (idD a.2) (idD b.2)) (s := PySem.W.dataLe false Prod.snd) fun _ _ _ _ => rfl, List.map_map]
    rfl
  · have t : PySem.W.TotalLe leD := PySem.W.sortLe_total _ false _
    rw [List.pairwise_map]
    exact (List.pairwise_mergeSort (le := fun a b : V × (Int × Int) => leD (idD a.2) (idD b.2)) (fun a b c h1 h2 => t.trans _ _ _ h1 h2) (fun a b => by
      rw [Bool.or_eq_true]
      exact t.total _ _) zs).imp fun h => leD_idD h
theorem alikeI (z w : Int × Int) : PySem.W.alike (idD z) (idD w) = true := by simp [idD, PySem.W.alike, PySem.W.alikeAll]
theorem keysDp {K : PySem.W.Frag} {H : Hp} : ∀ {kvs : List (List Key × V)} {bs : List Addr} {zs : List (Int × Int)}, Paired (fun p b => H b = some (.tup (p.1.map kV))) kvs bs → kvs.map Prod.fst = zs.map idK → ∀ y ∈ (bs.map V.ref).zip zs, Dp K H y.1 (idD y.2)
  | _, _, [], _, _, y, hy => by
    rw [List.zip_nil_right] at hy
    cases hy
  | _, _, z :: zs, .nil, e, y, hy => by cases hy
  | _, _, z :: zs, .cons h t, e, y, hy => by
    rw [List.map_cons, List.map_cons] at e
    have e1 := (List.cons.inj e).1
    have e2 := (List.cons.inj e).2
    rw [List.map_cons, List.zip_cons_cons] at hy
    rcases List.mem_cons.mp hy with y1 | y1
    · rw [y1]
      rw [e1] at h
      exact .tup (SqT.of h) (.cons (.int _) (.cons (.int _) .nil))
    · exact keysDp t e2 y y1
/-- a tracked tuple of two ints -/
def TuAt (H : Hp) (v : V) (z : Int × Int) : Prop := ∃ b, v = .ref b ∧ H b = some (.tup [.int z.1, .int z.2])
theorem TuAt.dp {K : PySem.W.Frag} {H : Hp} {v : V} {z : Int × Int} (h : TuAt H v z) : Dp K H v (idD z) := by
  obtain ⟨b, rfl, hb⟩ := h
  exact .tup (SqT.of hb) (.cons (.int _) (.cons (.int _) .nil))
theorem keysTu {H : Hp} : ∀ {kvs : List (List Key × V)} {bs : List Addr} {zs : List (Int × Int)}, Paired (fun p b => H b = some (.tup (p.1.map kV))) kvs bs → kvs.map Prod.fst = zs.map idK → ∀ y ∈ (bs.map V.ref).zip zs, TuAt H y.1 y.2
  | _, _, [], _, _, y, hy => by
    rw [List.zip_nil_right] at hy
    cases hy
  | _, _, z :: zs, .nil, e, y, hy => by cases hy
  | _, _, z :: zs, .cons h t, e, y, hy => by
    rw [List.map_cons, List.map_cons] at e
    have e1 := (List.cons.inj e).1
    have e2 := (List.cons.inj e).2
    rw [List.map_cons, List.zip_cons_cons] at hy
    rcases List.mem_cons.mp hy with y1 | y1
    · rw [y1]
      rw [e1] at h
      exact ⟨_, rfl, h⟩
    · exact keysTu t e2 y y1
def rSortedDT (K : PySem.W.Frag) : List V → Hp → VK → Prop := fun vs H Q => ∃ (d : Addr) (kvs : List (List Key × V)) (zs : List (Int × Int)), vs = [.ref d] ∧ H d = some (.dT kvs) ∧ kvs.map Prod.fst = zs.map idK ∧
  ∀ (p : Addr) (Zs : List (V × (Int × Int))), H p = none → (Zs.map Prod.snd).Perm zs → (Zs.map Prod.snd).Pairwise (fun a b => ¬ ltK b a) → (∀ z ∈ Zs, TuAt H z.1 z.2) → Q (.ref p) (upd H p (.lst (Zs.map Prod.fst)))
open PySem.W PySem.Calls PyProof.V in
theorem cr_sortedDT {X : Cx} (hc : X.calm = true) (hu : X.A.units + 64 < cLine) : CallR X (.builtin "sorted") (rSortedDT X.K) := by
  intro pins s σ H xs us Q I r h
  obtain ⟨d, kvs, zs, rfl, hd, ek, q⟩ := h
  rw [Vals.ref1 r]
  obtain ⟨z, hs, ks, pr, o, es, ep, ho, hx, hdt, he, hn⟩ := (show ObjOk X.prog X.w H s.heap d (.dT kvs) from I.hok d _ hd)
  have l1 : es.size = ks.length := size_of_entries he
  have l2 : kvs.length = ks.length := Paired.length pr
  have l3 : zs.length = ks.length := by
    have := congrArg List.length ek
    rw [List.length_map, List.length_map] at this
    omega
  refine call_function_entry kind_sorted plain_sorted entry_sorted (args_sorted1 _) ?_
  unfold Builtin.«sorted»
  refine wpAny_bind (m := checkCount "sorted" 1 1 _) (wpAny_pure ?_)
  refine wpAny_bind (collectK (A := X.A.in1) (kdl_raw hs hx hdt) (I.ok.hd hc) ho (by omega) fun h' tk acc kp hlt it => ?_)
  have eb := keys_listed he it.1 it.2
  rw [eb]
  have pk := isKeys_of pr
  generalize hrf : (ks.map fun x => x.2.1) = rf at pk
  have lrf : rf.length = ks.length := by rw [← hrf, List.length_map]
  have mz : ((rf.map V.ref).zip zs).map Prod.fst = rf.map V.ref := List.map_fst_zip (by rw [List.length_map]; omega)
  have mz2 : ((rf.map V.ref).zip zs).map Prod.snd = zs := List.map_snd_zip (by rw [List.length_map]; omega)
  have mg1 : (((rf.map V.ref).zip zs).map gK).map Prod.fst = rf.map V.ref := by
    rw [List.map_map]
    exact mz
  have rv : Vals ((((rf.map V.ref).zip zs).map gK).map Prod.fst) (rf.map Value.ref) := by
    rw [mg1]
    exact vals_refs rf
  have e := each_of_vals rv
  have hdp : ∀ b ∈ ((rf.map V.ref).zip zs).map gK, Dp X.K H b.1 b.2 := fun b hb => by
    obtain ⟨y, hy, rfl⟩ := List.mem_map.mp hb
    exact keysDp pk ek y hy
  have er := reads_of_each I e hdp
  have hal : PySem.W.AllAlike ((((rf.map V.ref).zip zs).map gK).map Prod.snd) := fun d1 h1 d2 h2 => by
    obtain ⟨b1, g1, rfl⟩ := List.mem_map.mp h1
    obtain ⟨b2, g2, rfl⟩ := List.mem_map.mp h2
    obtain ⟨y1, _, rfl⟩ := List.mem_map.mp g1
    obtain ⟨y2, _, rfl⟩ := List.mem_map.mp g2
    exact alikeI _ _
  have hso : PySem.W.Sortable ((((rf.map V.ref).zip zs).map gK).map Prod.snd) := .inl fun d1 h1 => by
    obtain ⟨b1, g1, rfl⟩ := List.mem_map.mp h1
    obtain ⟨y1, _, rfl⟩ := List.mem_map.mp g1
    exact ⟨_, _, rfl⟩
  have hdep : ∀ b ∈ ((rf.map V.ref).zip zs).map gK, b.2.depth = 1 := fun b hb => by
    obtain ⟨y, _, rfl⟩ := List.mem_map.mp hb
    exact idD_depth _
  have lz : (rf.map Value.ref).length ≤ sizeLine := by rw [List.length_map]; omega
  refine wpAny_bind (wpAny_newList ?_ lz)
  have ho' : (h'.push { cls := .type "list", data := .seq (rf.map Value.ref).toArray }).get? h'.objs.size = some (seqObj "list" (rf.map Value.ref).toArray 0) := Heap.get?_push_size _ rfl
  have up : ∀ b o, s.heap.get? b = some o → (h'.push { cls := .type "list", data := .seq (rf.map Value.ref).toArray }).get? b = some o := fun b o e => Heap.get?_push_of_some _ (kp _ _ e)
  generalize h'.push { cls := .type "list", data := .seq (rf.map Value.ref).toArray } = hp at ho' up
  have nb : ∀ {b o}, s.heap.get? b = some o → b ≠ h'.objs.size := fun e => Nat.ne_of_lt (Nat.lt_trans (Heap.lt_size e) hlt)
  have er' : EachIs (fun (v : Value) (b : V × PyData) => ∃ as, Reads (sortingHeap hp h'.objs.size (rf.map Value.ref)) v b.2 as) (rf.map Value.ref) (((rf.map V.ref).zip zs).map gK) := er.mono fun _ _ ⟨as, r⟩ => ⟨as, Reads.keeps (fun b o e => sortingHeap_old (nb e) (up _ _ e)) r⟩
  refine wpAny_bind (wpAny_holding (wpAny_call_entry slot_list_sort ⟨_, ho', rfl⟩ entry_list_sort (list_sort_vals (κ := dataKind (sortingHeap hp h'.objs.size (rf.map Value.ref)) ((((rf.map V.ref).zip zs).map gK).map Prod.snd)) ho' (SortsAt.data (s := { s with heap := sortingHeap hp h'.objs.size (rf.map Value.ref), toks := tk }) (each_map (R := fun v d => ∃ as, Reads (sortingHeap hp h'.objs.size (rf.map Value.ref)) v d as) Prod.snd er') hal hso ?_) lz ⟨.none, rfl, ?_⟩) (args_list_sort _)))
  · intro d1 h1
    obtain ⟨b1, g1, rfl⟩ := List.mem_map.mp h1
    rw [hdep b1 g1]
    show X.A.units + 1 + 1 + 1 < cLine
    omega
  · have eo := sortVals_data false e er' hal
    obtain ⟨Zs, z1, z2, z3⟩ := sortK ((rf.map V.ref).zip zs)
    obtain ⟨ep2, at2⟩ := sortedHeap_at (out := (sortVals (dataKind (sortingHeap hp h'.objs.size (rf.map Value.ref)) ((((rf.map V.ref).zip zs).map gK).map Prod.snd)) false (rf.map Value.ref) (rf.map Value.ref)).toArray) ho'
    have ov := vals_of_each eo
    rw [z1] at ov
    have zp : (Zs.map Prod.snd).Perm zs := by
      have := z2.map Prod.snd
      rwa [mz2] at this
    refine wpAny_pure ⟨_, rfl, .ref h'.objs.size, upd H h'.objs.size (.lst (Zs.map Prod.fst)), I.laid (t' := tk) (fun b o e => ?_) (Nat.le_of_lt hlt) ⟨?_, _, ep2, ov, at2⟩, rfl, q _ Zs (I.hok.fresh (Nat.le_of_lt hlt)) zp z3 fun y hy => keysTu pk ek y (z2.mem_iff.mp hy)⟩
    · rw [sortedHeap_old (nb e) (Heap.lt_size (up _ _ e))]
      exact up _ _ e
    · rw [List.length_map]
      have := zp.length_eq
      rw [List.length_map] at this
      omega
/-! ### sorted(d), d a dict with words as keys -/
def sK (w : Str) : V × PyData := (.str w, .str w)
theorem sortS (ws : List Str) : ∃ W : List Str, ((ws.map sK).mergeSort (PySem.W.dataLe false Prod.snd)).map Prod.fst = W.map V.str ∧ W.Perm ws ∧ W.Pairwise fun a b => ¬ b.cps.toList < a.cps.toList := by
  refine ⟨ws.mergeSort fun a b => leD (.str a) (.str b), ?_, List.mergeSort_perm _ _, ?_⟩
  · rw [← List.map_mergeSort (f := sK) (r := fun a b => leD (.str a) (.str b)) (s := PySem.W.dataLe false Prod.snd) fun _ _ _ _ => rfl, List.map_map]
    rfl
  · have t : PySem.W.TotalLe leD := PySem.W.sortLe_total _ false _
    refine (List.pairwise_mergeSort (le := fun a b : Str => leD (.str a) (.str b)) (fun a b c h1 h2 => t.trans _ _ _ h1 h2) (fun a b => by
      rw [Bool.or_eq_true]
      exact t.total _ _) ws).imp fun {a b} h => ?_
    have h : (!PySem.W.dataLt (.str b) (.str a)) = true := h
    rw [PySem.W.dataLt_str] at h
    have h := of_decide_eq_false (Bool.not_eq_true' _ ▸ h)
    exact h
def rSortedDK : List V → Hp → VK → Prop := fun vs H Q => ∃ (d : Addr) (kvs : List (Key × V)) (ws : List Str), vs = [.ref d] ∧ H d = some (.dK kvs) ∧ kvs.map Prod.fst = ws.map Sum.inr ∧
  ∀ (p : Addr) (W : List Str), H p = none → W.Perm ws → W.Pairwise (fun a b => ¬ b.cps.toList < a.cps.toList) → Q (.ref p) (upd H p (.lst (W.map V.str)))
open PySem.W PySem.Calls PyProof.V in
theorem cr_sortedDK {X : Cx} (hc : X.calm = true) (hu : X.A.units + 64 < cLine) : CallR X (.builtin "sorted") rSortedDK := by
  intro pins s σ H xs us Q I r h
  obtain ⟨d, kvs, ws, rfl, hd, ek, q⟩ := h
  rw [Vals.ref1 r]
  obtain ⟨z, lo, vs, rk, hdo⟩ := (show ObjOk X.prog X.w H s.heap d (.dK kvs) from I.hok d _ hd)
  obtain ⟨ep, hat⟩ := hdo.dictAt
  have hl : kvs.length = vs.length := Paired.length rk
  have l3 : ws.length = kvs.length := by
    have := congrArg List.length ek
    rw [List.length_map, List.length_map] at this
    exact this.symm
  refine call_function_entry kind_sorted plain_sorted entry_sorted (args_sorted1 _) ?_
  unfold Builtin.«sorted»
  refine wpAny_bind (m := checkCount "sorted" 1 1 _) (wpAny_pure ?_)
  refine wpAny_bind (collectK (A := X.A.in1) (PySem.W.kdl_dict (knd := mixKind X.prog X.w) (kvs := vs) (ep := ep) lo) (I.ok.hd hc) hat (by rw [← hl]; exact z) fun h' tk acc kp hlt hacc => ?_)
  have mg1 : (ws.map sK).map Prod.fst = kvs.map fun kv => kV kv.1 := by
    have e3 : (kvs.map fun kv => kV kv.1) = (kvs.map Prod.fst).map kV := by rw [List.map_map]; rfl
    rw [e3, ek, List.map_map, List.map_map]
    rfl
  have rv : Vals ((ws.map sK).map Prod.fst) acc.toList := by
    rw [mg1]
    have el : acc.toList.length = acc.size := by simp
    refine vals_of_at (by rw [List.length_map, el, hacc.1, hl]) fun j x w h1 h2 => ?_
    obtain ⟨k, y, hky, hi⟩ := hacc.2 j w (by rw [← Array.getElem?_toList]; exact h2)
    have e1 : (kvs.map (·.1))[j]? = some k := by
      rw [KV.keys rk, List.getElem?_map, hky] <;> rfl
    have e2 : (kvs.map fun kv => kV kv.1)[j]? = some (kV k) := by
      have e3 : (kvs.map fun kv => kV kv.1) = (kvs.map (·.1)).map kV := by rw [List.map_map] <;> rfl
      rw [e3, List.getElem?_map, e1] <;> rfl
    rw [e2] at h1
    cases h1
    exact keyIs_rel hi
  have lacc : acc.toList.length ≤ sizeLine := by
    rw [← rv.length, List.length_map, List.length_map]
    omega
  generalize acc.toList = al at rv lacc
  have e := each_of_vals rv
  have hdp : ∀ b ∈ ws.map sK, Dp X.K H b.1 b.2 := fun b hb => by
    obtain ⟨y, hy, rfl⟩ := List.mem_map.mp hb
    exact .str _
  have er := reads_of_each I e hdp
  have hal : PySem.W.AllAlike ((ws.map sK).map Prod.snd) := fun d1 h1 d2 h2 => by
    obtain ⟨b1, g1, rfl⟩ := List.mem_map.mp h1
    obtain ⟨b2, g2, rfl⟩ := List.mem_map.mp h2
    obtain ⟨y1, _, rfl⟩ := List.mem_map.mp g1
    obtain ⟨y2, _, rfl⟩ := List.mem_map.mp g2
    simp [sK, PySem.W.alike]
  have hso : PySem.W.Sortable ((ws.map sK).map Prod.snd) := ?_
  · have ho' : (h'.push { cls := .type "list", data := .seq al.toArray }).get? h'.objs.size = some (seqObj "list" al.toArray 0) := Heap.get?_push_size _ rfl
    have up : ∀ b o, s.heap.get? b = some o → (h'.push { cls := .type "list", data := .seq al.toArray }).get? b = some o := fun b o e => Heap.get?_push_of_some _ (kp _ _ e)
    refine wpAny_bind (wpAny_newList ?_ lacc)
    generalize h'.push { cls := .type "list", data := .seq al.toArray } = hp at ho' up
    have nb : ∀ {b o}, s.heap.get? b = some o → b ≠ h'.objs.size := fun e => Nat.ne_of_lt (Nat.lt_trans (Heap.lt_size e) hlt)
    have er' : EachIs (fun (v : Value) (b : V × PyData) => ∃ as, Reads (sortingHeap hp h'.objs.size al) v b.2 as) al (ws.map sK) := er.mono fun _ _ ⟨as, r⟩ => ⟨as, Reads.keeps (fun b o e => sortingHeap_old (nb e) (up _ _ e)) r⟩
    refine wpAny_bind (wpAny_holding (wpAny_call_entry slot_list_sort ⟨_, ho', rfl⟩ entry_list_sort (list_sort_vals (κ := dataKind (sortingHeap hp h'.objs.size al) ((ws.map sK).map Prod.snd)) ho' (SortsAt.data (s := { s with heap := sortingHeap hp h'.objs.size al, toks := tk }) (each_map (R := fun v d => ∃ as, Reads (sortingHeap hp h'.objs.size al) v d as) Prod.snd er') hal hso ?_) lacc ⟨.none, rfl, ?_⟩) (args_list_sort _)))
    · intro d1 h1
      obtain ⟨b1, g1, rfl⟩ := List.mem_map.mp h1
      obtain ⟨y1, _, rfl⟩ := List.mem_map.mp g1
      show X.A.units + 1 + 1 + 0 < cLine
      omega
    · have eo := sortVals_data false e er' hal
      obtain ⟨W, z1, z2, z3⟩ := sortS ws
      obtain ⟨ep2, at2⟩ := sortedHeap_at (out := (sortVals (dataKind (sortingHeap hp h'.objs.size al) ((ws.map sK).map Prod.snd)) false al al).toArray) ho'
      have ov := vals_of_each eo
      rw [z1] at ov
      refine wpAny_pure ⟨_, rfl, .ref h'.objs.size, upd H h'.objs.size (.lst (W.map V.str)), I.laid (t' := tk) (fun b o e => ?_) (Nat.le_of_lt hlt) ⟨?_, _, ep2, ov, at2⟩, rfl, q _ W (I.hok.fresh (Nat.le_of_lt hlt)) z2 z3⟩
      · rw [sortedHeap_old (nb e) (Heap.lt_size (up _ _ e))]
        exact up _ _ e
      · rw [List.length_map]
        have := z2.length_eq
        omega
  · refine .inr fun d1 h1 => ?_
    obtain ⟨b1, g1, rfl⟩ := List.mem_map.mp h1
    obtain ⟨y1, _, rfl⟩ := List.mem_map.mp g1
    exact ⟨fun z => (by cases z), fun xs z => (by cases z)⟩
/-! ### what a grid holds -/
theorem units2 {k : Nat} {A : Around} (r : Room k A) : A.units + 1 < cLine := by
  have := units65 r
  omega
structure RepP {α β : Type} (At : α → β → Prop) (rs : List α) (D : List β) : Prop where
  len : rs.length = D.length
  at_ : ∀ (i : Nat) (x : α) (e : β), rs[i]? = some x → D[i]? = some e → At x e
theorem RepP.nil {α β : Type} {At : α → β → Prop} : RepP At [] [] := ⟨rfl, fun i x e h => by simp at h⟩
theorem RepP.imp {α β : Type} {At At' : α → β → Prop} {rs : List α} {D : List β} (h : RepP At rs D) (f : ∀ x e, At x e → At' x e) : RepP At' rs D := ⟨h.len, fun i x e h1 h2 => f x e (h.at_ i x e h1 h2)⟩
theorem RepP.cons {α β : Type} {At : α → β → Prop} {x : α} {e : β} {rs : List α} {D : List β} (h0 : At x e) (h : RepP At rs D) : RepP At (x :: rs) (e :: D) := by
  refine ⟨by rw [List.length_cons, List.length_cons, h.len], fun i y f h1 h2 => ?_⟩
  cases i with
  | zero =>
    obtain rfl := Option.some.inj h1
    obtain rfl := Option.some.inj h2
    exact h0
  | succ i => exact h.at_ i y f h1 h2
theorem RepP.un {α β : Type} {At : α → β → Prop} {x : α} {e : β} {rs : List α} {D : List β} (h : RepP At (x :: rs) (e :: D)) : At x e ∧ RepP At rs D :=
  ⟨h.at_ 0 x e rfl rfl, by have := h.len; rw [List.length_cons, List.length_cons] at this; omega, fun i y f h1 h2 => h.at_ (i + 1) y f h1 h2⟩
theorem idK_inj {z w : Int × Int} (h : idK z = idK w) : z = w := by
  have h1 := (List.cons.inj h).1
  have h2 := (List.cons.inj (List.cons.inj h).2).1
  exact Prod.ext (Sum.inl.inj h1) (Sum.inl.inj h2)
/-- what a dict of told entries is: the value of a key, the entry put, the entry dropped -/
def getE {κ β : Type} [DecidableEq κ] (D : List (κ × β)) (k : κ) : Option β := (D.find? fun e => decide (e.1 = k)).map (·.2)
def putE {κ β : Type} [DecidableEq κ] (D : List (κ × β)) (k : κ) (v : β) : List (κ × β) := if (D.any fun e => decide (e.1 = k)) = true then D.map (fun e => if e.1 = k then (e.1, v) else e) else D ++ [(k, v)]
def dropE {κ β : Type} [DecidableEq κ] (D : List (κ × β)) (k : κ) : List (κ × β) := D.filter fun e => decide (e.1 ≠ k)
section
variable {κ ι β : Type} [DecidableEq κ] [DecidableEq ι] {f : ι → κ} {At : V → β → Prop}
/-- the entries: keys by f, values by At -/
def Ents (f : ι → κ) (At : V → β → Prop) : List (κ × V) → List (ι × β) → Prop := RepP fun kv e => kv.1 = f e.1 ∧ At kv.2 e.2
theorem ents_get (hf : ∀ a b, f a = f b → a = b) : ∀ {kvs : List (κ × V)} {D : List (ι × β)}, Ents f At kvs D → ∀ k, (getE D k = none → valV kvs (f k) = none) ∧ ∀ b, getE D k = some b → ∃ v, valV kvs (f k) = some v ∧ At v b
  | [], [], _, k => ⟨fun _ => rfl, fun b h => by cases h⟩
  | kv :: kvs, [], h, k => by have := h.len; simp at this
  | [], e :: D, h, k => by have := h.len; simp at this
  | kv :: kvs, e :: D, h, k => by
    obtain ⟨⟨h1, h2⟩, h3⟩ := RepP.un h
    have ih := ents_get hf h3 k
    by_cases z : e.1 = k
    · have z2 : kv.1 = f k := by rw [h1, z]
      have e1 : getE (e :: D) k = some e.2 := by simp [getE, z]
      have e2 : valV (kv :: kvs) (f k) = some kv.2 := by simp [valV, z2]
      rw [e1, e2]
      exact ⟨fun y => (by cases y), fun b y => ⟨kv.2, rfl, by rw [← Option.some.inj y]; exact h2⟩⟩
    · have z2 : kv.1 ≠ f k := fun y => z (hf _ _ (h1.symm.trans y))
      have e1 : getE (e :: D) k = getE D k := by simp [getE, z]
      have e2 : valV (kv :: kvs) (f k) = valV kvs (f k) := by simp [valV, z2]
      rw [e1, e2]
      exact ih
theorem ents_any (hf : ∀ a b, f a = f b → a = b) : ∀ {kvs : List (κ × V)} {D : List (ι × β)}, Ents f At kvs D → ∀ k, (kvs.any fun kv => decide (kv.1 = f k)) = D.any fun e => decide (e.1 = k)
  | [], [], _, k => rfl
  | kv :: kvs, [], h, k => by have := h.len; simp at this
  | [], e :: D, h, k => by have := h.len; simp at this
  | kv :: kvs, e :: D, h, k => by
    obtain ⟨⟨h1, h2⟩, h3⟩ := RepP.un h
    rw [List.any_cons, List.any_cons, ents_any hf h3 k]
    have : decide (kv.1 = f k) = decide (e.1 = k) := by
      rw [h1]
      exact decide_eq_decide.mpr ⟨hf _ _, fun y => by rw [y]⟩
    rw [this]
theorem ents_snoc {kvs : List (κ × V)} {D : List (ι × β)} {k : ι} {v : V} {b : β} (h : Ents f At kvs D) (hv : At v b) : Ents f At (kvs ++ [(f k, v)]) (D ++ [(k, b)]) := by
  refine ⟨by rw [List.length_append, List.length_append, h.len]; rfl, fun i y e h1 h2 => ?_⟩
  rcases Nat.lt_or_ge i kvs.length with z | z
  · rw [List.getElem?_append_left z] at h1
    rw [List.getElem?_append_left (by rw [← h.len]; exact z)] at h2
    exact h.at_ i y e h1 h2
  · rw [List.getElem?_append_right z] at h1
    rw [List.getElem?_append_right (by rw [← h.len]; exact z)] at h2
    rw [← h.len] at h2
    cases hi : i - kvs.length with
    | zero =>
      rw [hi] at h1 h2
      obtain rfl := Option.some.inj h1
      obtain rfl := Option.some.inj h2
      exact ⟨rfl, hv⟩
    | succ j =>
      rw [hi] at h1
      simp at h1
theorem ents_put (hf : ∀ a b, f a = f b → a = b) {kvs : List (κ × V)} {D : List (ι × β)} {k : ι} {v : V} {b : β} (h : Ents f At kvs D) (hv : At v b) : Ents f At (putK kvs (f k) v) (putE D k b) := by
  unfold putK putE
  rw [ents_any hf h k]
  by_cases c : (D.any fun e => decide (e.1 = k)) = true
  · rw [if_pos c, if_pos c]
    refine ⟨by rw [List.length_map, List.length_map, h.len], fun i y e h1 h2 => ?_⟩
    rw [List.getElem?_map] at h1 h2
    cases h3 : kvs[i]? with
    | none =>
      rw [h3] at h1
      cases h1
    | some kv =>
      cases h4 : D[i]? with
      | none =>
        rw [h4] at h2
        cases h2
      | some d =>
        obtain ⟨g1, g2⟩ := h.at_ i kv d h3 h4
        rw [h3] at h1
        rw [h4] at h2
        have h1 : (if kv.1 = f k then (kv.1, v) else kv) = y := Option.some.inj h1
        have h2 : (if d.1 = k then (d.1, b) else d) = e := Option.some.inj h2
        by_cases z : d.1 = k
        · rw [if_pos z] at h2
          rw [if_pos (by rw [g1, z])] at h1
          rw [← h1, ← h2]
          exact ⟨g1, hv⟩
        · rw [if_neg z] at h2
          rw [if_neg (fun y => z (hf _ _ (g1.symm.trans y)))] at h1
          rw [← h1, ← h2]
          exact ⟨g1, g2⟩
  · rw [if_neg c, if_neg c]
    exact ents_snoc h hv
theorem ents_drop (hf : ∀ a b, f a = f b → a = b) : ∀ {kvs : List (κ × V)} {D : List (ι × β)} {k : ι}, Ents f At kvs D → Ents f At (dropK kvs (f k)) (dropE D k)
  | [], [], _, _ => RepP.nil
  | kv :: kvs, [], _, h => by have := h.len; simp at this
  | [], e :: D, _, h => by have := h.len; simp at this
  | kv :: kvs, e :: D, k, h => by
    obtain ⟨⟨h1, h2⟩, h3⟩ := RepP.un h
    have ih := ents_drop hf (k := k) h3
    unfold dropK dropE at ih ⊢
    by_cases z : e.1 = k
    · have z2 : kv.1 = f k := by rw [h1, z]
      rw [List.filter_cons_of_neg (by simp [z2]), List.filter_cons_of_neg (by simp [z])]
      exact ih
    · have z2 : kv.1 ≠ f k := fun y => z (hf _ _ (h1.symm.trans y))
      rw [List.filter_cons_of_pos (by simp [z2]), List.filter_cons_of_pos (by simp [z])]
      exact RepP.cons ⟨h1, h2⟩ ih
end
/-! ### the grid -/
mutual
theorem dp_same {K : PySem.W.Frag} {H H' : Hp} (e : Same H H') : ∀ {v : V} {d : PyData}, Dp K H v d → Dp K H' v d
  | _, _, .non => .non
  | _, _, .bl b => .bl b
  | _, _, .int i => .int i
  | _, _, .str x => .str x
  | _, _, .lst h r => .lst (e.seq h) (dpAll_same e r)
  | _, _, .tup h r => .tup (Same.tup e h) (dpAll_same e r)
theorem dpAll_same {K : PySem.W.Frag} {H H' : Hp} (e : Same H H') : ∀ {vs : List V} {ds : List PyData}, DpAll K H vs ds → DpAll K H' vs ds
  | _, _, .nil => .nil
  | _, _, .cons h r => .cons (dp_same e h) (dpAll_same e r)
end
-- data of none, bools, ints, texts and tracked tuples
mutual
inductive Dt (H : Hp) : V → PyData → Prop
  | non : Dt H .non .none
  | bl (b : Bool) : Dt H (.bl b) (.bool b)
  | int (i : Int) : Dt H (.int i) (.int i)
  | str (x : Str) : Dt H (.str x) (.str x)
  | tup {a : Addr} {xs : List V} {ds : List PyData} : H a = some (.tup xs) → DtAll H xs ds → Dt H (.ref a) (.tuple ds)
inductive DtAll (H : Hp) : List V → List PyData → Prop
  | nil : DtAll H [] []
  | cons {x : V} {d : PyData} {xs : List V} {ds : List PyData} : Dt H x d → DtAll H xs ds → DtAll H (x :: xs) (d :: ds)
end
mutual
theorem Dt.dp {K : PySem.W.Frag} {H : Hp} : ∀ {v : V} {d : PyData}, Dt H v d → Dp K H v d
  | _, _, .non => .non
  | _, _, .bl b => .bl b
  | _, _, .int i => .int i
  | _, _, .str x => .str x
  | _, _, .tup h r => .tup (SqT.of h) r.dp
theorem DtAll.dp {K : PySem.W.Frag} {H : Hp} : ∀ {vs : List V} {ds : List PyData}, DtAll H vs ds → DpAll K H vs ds
  | _, _, .nil => .nil
  | _, _, .cons h r => .cons h.dp r.dp
end
/-- tuples stay -/
def TT (H H' : Hp) : Prop := ∀ a xs, H a = some (.tup xs) → H' a = some (.tup xs)
theorem TT.of {H H' : Hp} (s : Same H H') : TT H H' := fun a xs h => s a _ h
theorem TT.trans {H H1 H2 : Hp} (x : TT H H1) (y : TT H1 H2) : TT H H2 := fun a xs h => y a xs (x a xs h)
mutual
theorem Dt.tt {H H' : Hp} (e : TT H H') : ∀ {v : V} {d : PyData}, Dt H v d → Dt H' v d
  | _, _, .non => .non
  | _, _, .bl b => .bl b
  | _, _, .int i => .int i
  | _, _, .str x => .str x
  | _, _, .tup h r => .tup (e _ _ h) (r.tt e)
theorem DtAll.tt {H H' : Hp} (e : TT H H') : ∀ {vs : List V} {ds : List PyData}, DtAll H vs ds → DtAll H' vs ds
  | _, _, .nil => .nil
  | _, _, .cons h r => .cons (h.tt e) (r.tt e)
end
theorem dtA_same {H H' : Hp} {vs : List V} {ds : List PyData} (s : Same H H') (h : DtAll H vs ds) : DtAll H' vs ds := h.tt (TT.of s)
structure Gr where
  G : Addr
  cd : Addr
  nd : Addr
  r : Int
  c : Int
abbrev Cells : Type := List ((Int × Int) × List PyData)
abbrev Names : Type := List (Str × Option (List PyData))
def gridO (C dx : Addr) (g : Gr) : HO := .ins C dx [("rows", .int g.r), ("columns", .int g.c), ("_contents", .ref g.cd), ("_names", .ref g.nd)]
def LAt (K : PySem.W.Frag) (H : Hp) (v : V) (ds : List PyData) : Prop := ∃ l us, v = .ref l ∧ H l = some (.lst us) ∧ DtAll H us ds
def NAt (K : PySem.W.Frag) (H : Hp) (v : V) : Option (List PyData) → Prop
  | none => v = .non
  | some ds => LAt K H v ds
def keyW (w : Str) : Key := .inr w
theorem keyW_inj {a b : Str} (h : keyW a = keyW b) : a = b := Sum.inr.inj h
structure GD (K : PySem.W.Frag) (C : Addr) (H : Hp) (g : Gr) (cells : Cells) (names : Names) : Prop where
  ins : ∃ dx, H g.G = some (gridO C dx g)
  cs : ∃ kvs, H g.cd = some (.dT kvs) ∧ Ents idK (LAt K H) kvs cells ∧ kvs.length ≤ 900
  ns : ∃ nvs, H g.nd = some (.dK nvs) ∧ Ents keyW (NAt K H) nvs names ∧ nvs.length ≤ 900
/-- all but the grid's two dicts stays -/
def KG (g : Gr) (H H' : Hp) : Prop := ∀ a o, a ≠ g.cd → a ≠ g.nd → H a = some o → H' a = some o
theorem KG.of {g : Gr} {H H' : Hp} (s : Same H H') : KG g H H' := fun a o _ _ h => s a o h
theorem KG.trans {g : Gr} {H H1 H2 : Hp} (a : KG g H H1) (b : KG g H1 H2) : KG g H H2 := fun x o n1 n2 h => b x o n1 n2 (a x o n1 n2 h)
def spShown (K : PySem.W.Frag) (C : Addr) : Sp := fun vs H Q _ => ∃ (g : Gr) (cells : Cells) (names : Names) (a : Addr) (z : Int × Int), vs = [.ref g.G, .ref a] ∧ GD K C H g cells names ∧ H a = some (.tup [.int z.1, .int z.2]) ∧ ∀ (p : Addr) (us : List V) (H' : Hp), Same H H' → H' p = some (.lst us) → DtAll H' us ((getE cells z).getD []) → H p = none → Q (.ref p) H'
theorem okGrid_Shown (T : Txt K mg) : FnOk P w K mg base CX0 1 T.fGrid_Shown T.fdGrid_Shown ["self", "cell"] (spShown K T.cGrid) := by
  refine T.FGrid_Shown.ok scGrid_Shown (fun vs H Q E h => ?_) (fun cdv A outer s H vs Q E hr h => ?_)
  · obtain ⟨g, cells, names, a, z, rfl, _⟩ := h
    rfl
  · obtain ⟨g, cells, names, a, z, rfl, ⟨⟨dx, hG⟩, ⟨kvs, hC, eC, _⟩, _⟩, ha, q⟩ := h
    -- slots self=0 cell=1
    refine ⟨_, (pss_one (ps_ret (pe_callTy call_list_of (by rfl) T.z_list (by decide +kernel) (pa_cons (pe_dget2 (units2 hr) (pe_fld (pv 0) rfl) (pv 1) (pe_lst pa_nil) ⟨rfl, rfl, rfl, rfl⟩) pa_nil)))), ?_⟩
    refine ⟨_, rfl, g.G, T.cGrid, dx, _, _, rfl, hG, T.clGrid, T.naGrid__contents, rfl, g.cd, rfl, .inr ⟨kvs, .inl hC⟩, _, rfl, Nat.zero_le _, fun l0 hl0 => ?_⟩
    have s0 := same_new (o := .lst []) hl0
    obtain ⟨e1, e2⟩ := ents_get (fun _ _ => idK_inj) eC z
    have dg := DGet.t (k := idK z) (s0 _ _ hC) (s0 _ _ ha)
    cases hg : getE cells z with
    | none =>
      rw [e1 hg] at dg
      refine ⟨none, dg, l0, [], rfl, .inl (SqL.of upd_same), fun p hp => ?_⟩
      refine q p [] _ (s0.trans (same_new hp)) upd_same ?_ (s0.free hp)
      rw [hg]
      exact .nil
    | some ds =>
      obtain ⟨v, ev, l, us, rfl, hl, dp⟩ := e2 ds hg
      rw [ev] at dg
      refine ⟨_, dg, l, us, rfl, .inl (SqL.of (s0 _ _ hl)), fun p hp => ?_⟩
      have s1 := s0.trans (same_new (o := .lst us) hp)
      refine q p us _ s1 upd_same ?_ (s0.free hp)
      rw [hg]
      exact dtA_same s1 dp
theorem GD.same {K : PySem.W.Frag} {C : Addr} {H H' : Hp} {g : Gr} {cells : Cells} {names : Names} (s : Same H H') (h : GD K C H g cells names) : GD K C H' g cells names := by
  obtain ⟨⟨dx, h1⟩, ⟨kvs, h2, h3, h4⟩, ⟨nvs, h5, h6, h7⟩⟩ := h
  refine ⟨⟨dx, s _ _ h1⟩, ⟨kvs, s _ _ h2, h3.imp fun kv e hh => ⟨hh.1, ?_⟩, h4⟩, ⟨nvs, s _ _ h5, h6.imp fun kv e hh => ⟨hh.1, ?_⟩, h7⟩⟩
  · obtain ⟨_, l, us, g1, g2, g3⟩ := hh
    exact ⟨l, us, g1, s _ _ g2, dtA_same s g3⟩
  · obtain ⟨_, g1⟩ := hh
    cases he : e.2 with
    | none =>
      rw [he] at g1
      exact g1
    | some ds =>
      rw [he] at g1
      obtain ⟨l, us, g1, g2, g3⟩ := g1
      exact ⟨l, us, g1, s _ _ g2, dtA_same s g3⟩
def isD : HO → Bool
  | .dT _ => true
  | .dK _ => true
  | _ => false
/-- all but dicts stays -/
def KD (H H' : Hp) : Prop := ∀ q o, isD o = false → H q = some o → H' q = some o
theorem KD.of {H H' : Hp} (s : Same H H') : KD H H' := fun q o _ h => s q o h
theorem KD.trans {H H1 H2 : Hp} (a : KD H H1) (b : KD H1 H2) : KD H H2 := fun q o n h => b q o n (a q o n h)
theorem KD.put {H : Hp} {L : Addr} {o o' : HO} (hL : H L = some o) (hd : isD o = true) : KD H (upd H L o') := fun q u n h => by
  rw [upd_ne fun z => ?_]
  · exact h
  · rw [z, hL] at h
    rw [← Option.some.inj h, hd] at n
    cases n
theorem KD.seq {K : PySem.W.Frag} {H H' : Hp} {a : Addr} {xs : List V} (e : KD H H') (h : SqL K H a xs) : SqL K H' a xs := by
  rcases h with (h | ⟨o, h⟩) | h
  · exact .inl (.inl (e _ _ rfl h))
  · exact .inl (.inr ⟨o, e _ _ rfl h⟩)
  · exact .inr h
theorem KD.tup {K : PySem.W.Frag} {H H' : Hp} {a : Addr} {xs : List V} (e : KD H H') (h : SqT K H a xs) : SqT K H' a xs := by
  rcases h with (h | ⟨o, h⟩) | h
  · exact .inl (.inl (e _ _ rfl h))
  · exact .inl (.inr ⟨o, e _ _ rfl h⟩)
  · exact .inr h
mutual
theorem dp_kd {K : PySem.W.Frag} {H H' : Hp} (e : KD H H') : ∀ {v : V} {d : PyData}, Dp K H v d → Dp K H' v d
  | _, _, .non => .non
  | _, _, .bl b => .bl b
  | _, _, .int i => .int i
  | _, _, .str x => .str x
  | _, _, .lst h r => .lst (e.seq h) (dpA_kd e r)
  | _, _, .tup h r => .tup (e.tup h) (dpA_kd e r)
theorem dpA_kd {K : PySem.W.Frag} {H H' : Hp} (e : KD H H') : ∀ {vs : List V} {ds : List PyData}, DpAll K H vs ds → DpAll K H' vs ds
  | _, _, .nil => .nil
  | _, _, .cons h r => .cons (dp_kd e h) (dpA_kd e r)
end
theorem TT.kd {H H' : Hp} (e : KD H H') : TT H H' := fun a xs h => e a _ rfl h
theorem dtA_kd {H H' : Hp} {vs : List V} {ds : List PyData} (e : KD H H') (h : DtAll H vs ds) : DtAll H' vs ds := h.tt (TT.kd e)
theorem LAt.kd {K : PySem.W.Frag} {H H' : Hp} {v : V} {ds : List PyData} (e : KD H H') (h : LAt K H v ds) : LAt K H' v ds := by
  obtain ⟨l, us, g1, g2, g3⟩ := h
  exact ⟨l, us, g1, e _ _ rfl g2, dtA_kd e g3⟩
theorem NAt.kd {K : PySem.W.Frag} {H H' : Hp} {v : V} {d : Option (List PyData)} (e : KD H H') (h : NAt K H v d) : NAt K H' v d := by
  cases d with
  | none => exact h
  | some ds => exact LAt.kd (K := K) e h
theorem ents_kd {κ ι : Type} {f : ι → κ} {K : PySem.W.Frag} {H H' : Hp} {kvs : List (κ × V)} {D : List (ι × List PyData)} (e : KD H H') (h : Ents f (LAt K H) kvs D) : Ents f (LAt K H') kvs D := h.imp fun kv d hh => ⟨hh.1, LAt.kd (K := K) e hh.2⟩
theorem entsN_kd {κ ι : Type} {f : ι → κ} {K : PySem.W.Frag} {H H' : Hp} {kvs : List (κ × V)} {D : List (ι × Option (List PyData))} (e : KD H H') (h : Ents f (NAt K H) kvs D) : Ents f (NAt K H') kvs D := h.imp fun kv d hh => ⟨hh.1, NAt.kd e hh.2⟩
theorem GD.ne {K : PySem.W.Frag} {C : Addr} {H : Hp} {g : Gr} {cells : Cells} {names : Names} (h : GD K C H g cells names) : g.cd ≠ g.G ∧ g.nd ≠ g.G ∧ g.cd ≠ g.nd := by
  obtain ⟨⟨dx, h1⟩, ⟨kvs, h2, _⟩, ⟨nvs, h5, _⟩⟩ := h
  refine ⟨fun z => ?_, fun z => ?_, fun z => ?_⟩
  · rw [z, h1] at h2
    cases h2
  · rw [z, h1] at h5
    cases h5
  · rw [z, h5] at h2
    cases h2
/-- the dict of the contents changes -/
theorem GD.setC {K : PySem.W.Frag} {C : Addr} {H : Hp} {g : Gr} {cells cells' : Cells} {names : Names} {kvs' : List (List Key × V)} (h : GD K C H g cells names) (e : Ents idK (LAt K H) kvs' cells') (hl : kvs'.length ≤ 900) : GD K C (upd H g.cd (.dT kvs')) g cells' names ∧ KD H (upd H g.cd (.dT kvs')) ∧ KG g H (upd H g.cd (.dT kvs')) := by
  have ne := h.ne
  obtain ⟨⟨dx, h1⟩, ⟨kvs, h2, _⟩, ⟨nvs, h5, h6, h7⟩⟩ := h
  have kd : KD H (upd H g.cd (.dT kvs')) := KD.put h2 rfl
  exact ⟨⟨⟨dx, by rw [upd_ne ne.1.symm]; exact h1⟩, ⟨kvs', upd_same, ents_kd kd e, hl⟩, ⟨nvs, by rw [upd_ne ne.2.2.symm]; exact h5, entsN_kd kd h6, h7⟩⟩, kd, fun a o n1 n2 e => by rw [upd_ne n1]; exact e⟩
/-- the dict of the names changes -/
theorem GD.setN {K : PySem.W.Frag} {C : Addr} {H : Hp} {g : Gr} {cells : Cells} {names names' : Names} {nvs' : List (Key × V)} (h : GD K C H g cells names) (e : Ents keyW (NAt K H) nvs' names') (hl : nvs'.length ≤ 900) : GD K C (upd H g.nd (.dK nvs')) g cells names' ∧ KD H (upd H g.nd (.dK nvs')) ∧ KG g H (upd H g.nd (.dK nvs')) := by
  have ne := h.ne
  obtain ⟨⟨dx, h1⟩, ⟨kvs, h2, h3, h4⟩, ⟨nvs, h5, _⟩⟩ := h
  have kd : KD H (upd H g.nd (.dK nvs')) := KD.put h5 rfl
  exact ⟨⟨⟨dx, by rw [upd_ne ne.2.1.symm]; exact h1⟩, ⟨kvs, by rw [upd_ne ne.2.2]; exact h2, ents_kd kd h3, h4⟩, ⟨nvs', upd_same, entsN_kd kd e, hl⟩⟩, kd, fun a o n1 n2 e => by rw [upd_ne n2]; exact e⟩
theorem putK_len {κ : Type} [DecidableEq κ] (kvs : List (κ × V)) (k : κ) (v : V) : (putK kvs k v).length ≤ kvs.length + 1 := by
  unfold putK
  split
  · rw [List.length_map]
    omega
  · rw [List.length_append]
    exact Nat.le_refl _
theorem dropK_len {κ : Type} [DecidableEq κ] (kvs : List (κ × V)) (k : κ) : (dropK kvs k).length ≤ kvs.length := List.length_filter_le _ _
theorem dropE_no {κ β : Type} [DecidableEq κ] {D : List (κ × β)} {k : κ} (h : getE D k = none) : dropE D k = D := by
  unfold dropE
  rw [List.filter_eq_self]
  intro e he
  refine decide_eq_true fun z => ?_
  have h2 : D.find? (fun e => decide (e.1 = k)) = none := by
    unfold getE at h
    exact Option.map_eq_none_iff.mp h
  exact absurd (decide_eq_true z) (by simpa using List.find?_eq_none.mp h2 e he)
def rmS (S : List Addr) (H : Hp) : Hp := fun a => if a ∈ S then none else H a
theorem rmS_nil {H : Hp} : rmS [] H = H := by
  funext a
  exact if_neg (fun h => nomatch h)
theorem rmS_of {S : List Addr} {H : Hp} {a : Addr} (n : a ∉ S) : rmS S H a = H a := if_neg n
theorem rmS_some {S : List Addr} {H : Hp} {a : Addr} {o : HO} (h : rmS S H a = some o) : a ∉ S ∧ H a = some o := by
  by_cases z : a ∈ S
  · have : rmS S H a = none := if_pos z
    rw [this] at h
    cases h
  · exact ⟨z, (rmS_of z).symm.trans h⟩
theorem rmS_le {S : List Addr} {H : Hp} : Same (rmS S H) H := fun _ _ h => (rmS_some h).2
theorem rmS_same {S : List Addr} {H H' : Hp} (s : Same H H') : Same (rmS S H) (rmS S H') := fun a o h => by
  obtain ⟨n, e⟩ := rmS_some h
  rw [rmS_of n]
  exact s a o e
theorem rmS_upd {S : List Addr} {H : Hp} {a : Addr} {o : HO} (n : a ∉ S) : rmS S (upd H a o) = upd (rmS S H) a o := by
  funext c
  by_cases z : c = a
  · rw [z, upd_same, rmS_of n, upd_same]
  · rw [upd_ne z]
    by_cases y : c ∈ S
    · exact (if_pos y).trans (if_pos y).symm
    · rw [rmS_of y, rmS_of y, upd_ne z]
/-- lists only -/
def Ls (S : List Addr) (H : Hp) : Prop := ∀ x ∈ S, ∃ us, H x = some (.lst us)
theorem Ls.nil {H : Hp} : Ls [] H := fun _ h => nomatch h
theorem Ls.same {S : List Addr} {H H' : Hp} (l : Ls S H) (s : Same H H') : Ls S H' := fun x h => by
  obtain ⟨us, e⟩ := l x h
  exact ⟨us, s _ _ e⟩
theorem Ls.fresh {S : List Addr} {H : Hp} {p : Addr} (l : Ls S H) (h : H p = none) : p ∉ S := fun z => by
  obtain ⟨us, e⟩ := l p z
  rw [h] at e
  cases e
theorem Ls.tt {S : List Addr} {H : Hp} (l : Ls S H) : TT H (rmS S H) := fun a xs h => by
  rw [rmS_of fun z => ?_]
  · exact h
  · obtain ⟨us, e⟩ := l a z
    rw [h] at e
    cases e
def spName (K : PySem.W.Frag) (C : Addr) : Sp := fun vs H Q _ => ∃ (S : List Addr) (g : Gr) (cells : Cells) (names : Names) (w : Str) (v : V) (d : Option (List PyData)), vs = [.ref g.G, .str w, v] ∧ Ls S H ∧ GD K C (rmS S H) g cells names ∧ names.length ≤ 800 ∧ NAt K H v d ∧ ∀ H', KG g H H' → KD H H' → GD K C (rmS S H') g cells (putE names w d) → Q .non H'
theorem okGrid_Name (T : Txt K mg) : FnOk P w K mg base CX0 1 T.fGrid_Name T.fdGrid_Name ["self", "word", "areas"] (spName K T.cGrid) := by
  refine T.FGrid_Name.ok scGrid_Name (fun vs H Q E h => ?_) (fun cdv A outer s H vs Q E hr h => ?_)
  · obtain ⟨S, g, cells, names, w, v, d, rfl, _⟩ := h
    rfl
  · obtain ⟨S, g, cells, names, w, v, d, rfl, ls, G0, hz, hv, q⟩ := h
    -- slots self=0 word=1 areas=2
    refine ⟨_, (pss_one (ps_dput (units2 hr) (pe_fld (pv 0) rfl) (pv 1) (pe_ifExp (pt_cmpR op_isN (pv 2) pe_non (nomark _)) pe_non (pe_callTy call_list_of (by rfl) T.z_list (by decide +kernel) (pa_cons (pv 2) pa_nil))) rfl)), ?_⟩
    obtain ⟨⟨dx, hGr⟩, _, ⟨nvs, hNr, eN, hl⟩⟩ := id G0
    obtain ⟨nS, hN⟩ := rmS_some hNr
    have hG := (rmS_some hGr).2
    have main : ∀ (y : V) (H1 : Hp), Same H H1 → NAt K (rmS S H1) y d → Q .non (upd H1 g.nd (.dK (putK nvs (keyW w) y))) := fun y H1 s1 ny => by
      obtain ⟨g1, _, _⟩ := (G0.same (rmS_same s1)).setN (ents_put (fun _ _ => keyW_inj) (k := w) (entsN_kd (KD.of (rmS_same s1)) eN) ny) (by have := putK_len nvs (keyW w) y; have := eN.len; omega)
      rw [← rmS_upd nS] at g1
      exact q _ ((KG.of s1).trans fun a o n1 n2 e => by rw [upd_ne n2]; exact e) ((KD.of s1).trans (KD.put (s1 _ _ hN) rfl)) g1
    cases d with
    | none =>
      obtain rfl := hv
      refine ⟨_, rfl, rfl, _, rfl, ite2 (fun _ => ?_) (fun c => absurd (decide_eq_true rfl) c)⟩
      exact ⟨_, rfl, g.G, T.cGrid, dx, _, _, rfl, hG, T.clGrid, T.naGrid__names, rfl, _, rfl, g.nd, _, rfl, DPut.k (k := keyW w) hN (small1000 (by omega)), main .non H (Same.refl _) rfl⟩
    | some ds =>
      obtain ⟨l, us, rfl, hlv, dp⟩ := hv
      refine ⟨_, rfl, rfl, _, rfl, ite2 (fun c => (nomatch (of_decide_eq_true c))) (fun _ => ?_)⟩
      refine ⟨_, rfl, l, us, rfl, .inl (SqL.of hlv), fun p hp => ?_⟩
      have s1 := same_new (o := .lst us) hp
      have hN1 := s1 _ _ hN
      exact ⟨_, rfl, g.G, T.cGrid, dx, _, _, rfl, s1 _ _ hG, T.clGrid, T.naGrid__names, rfl, _, rfl, g.nd, _, rfl, DPut.k (k := keyW w) hN1 (small1000 (by omega)), main (.ref p) _ s1 ⟨p, us, rfl, (rmS_of (ls.fresh hp)).trans upd_same, (dtA_same s1 dp).tt (ls.same s1).tt⟩⟩
def blankD : PyData := .list [.tuple [.str "blank"]]
def isBl (ds : List PyData) : Bool := PyData.eqv (.list ds) (.list []) || PyData.eqv (.list ds) blankD
def setCell (cells : Cells) (z : Int × Int) (ds : List PyData) : Cells := if isBl ds = true then dropE cells z else putE cells z ds
def spPut (K : PySem.W.Frag) (C : Addr) : Sp := fun vs H Q _ => ∃ (S : List Addr) (g : Gr) (cells : Cells) (names : Names) (a l : Addr) (z : Int × Int) (us : List V) (ds : List PyData), vs = [.ref g.G, .ref a, .ref l] ∧ Ls S H ∧ GD K C (rmS S H) g cells names ∧ cells.length ≤ 800 ∧ H a = some (.tup [.int z.1, .int z.2]) ∧ H l = some (.lst us) ∧ DtAll H us ds ∧ SeqAt.shaped (.list ds) = true ∧
  ∀ H', KG g H H' → KD H H' → GD K C (rmS S H') g (setCell cells z ds) names → Q .non H'
theorem okGrid_Put (T : Txt K mg) : FnOk P w K mg base CX0 1 T.fGrid_Put T.fdGrid_Put ["self", "cell", "shown"] (spPut K T.cGrid) := by
  refine T.FGrid_Put.ok scGrid_Put (fun vs H Q E h => ?_) (fun cdv A outer s H vs Q E hr h => ?_)
  · obtain ⟨S, g, cells, names, a, l, z, us, ds, rfl, _⟩ := h
    rfl
  · obtain ⟨S, g, cells, names, a, l, z, us, ds, rfl, ls, G0, hz, ha, hl, dp, sh, q⟩ := h
    -- slots self=0 cell=1 shown=2
    refine ⟨_, (pss_one (ps_if (PW.pt (pw_or (pt_cmpR (op_eqD hr.units) (pv 2) (pe_lst pa_nil) (nomark _)) (pw_or1 (pt_cmpR (op_eqD hr.units) (pv 2) (pe_lst (pa_cons (pe_tup (pa_cons pe_str pa_nil)) pa_nil)) (nomark _)))))
          (pss_one (ps_expr (pe_bm PySem.F.plainAttrs_dict PySem.F.slot_dict_pop PySem.F.type_dict_pop (L2.DX.mt_popT (units2 hr)) (pe_fld (pv 0) rfl) (pa_cons (pv 1) (pa_cons pe_non pa_nil)))))
          (pss_one (ps_dput (units2 hr) (pe_fld (pv 0) rfl) (pv 1) (pe_callTy call_list_of (by rfl) T.z_list (by decide +kernel) (pa_cons (pv 2) pa_nil)) rfl)))), ?_⟩
    have st : ∀ b : Bool, isBl ds = b → setCell cells z ds = if b = true then dropE cells z else putE cells z ds := fun b e => by
      unfold setCell
      rw [e]
    obtain ⟨⟨dx, hGr⟩, ⟨kvs, hCr, eC, hl2⟩, _⟩ := id G0
    obtain ⟨nS, hC⟩ := rmS_some hCr
    have hG := (rmS_some hGr).2
    have pop : ∀ H1, Same H H1 → isBl ds = true → L2.DX.rPopT (.ref g.cd) [.ref a, .non] H1 (fun _ H' => Q .non H') := fun H1 s1 hb => by
      have G1 := G0.same (rmS_same s1)
      have eC1 := ents_kd (KD.of (rmS_same (S := S) s1)) eC
      obtain ⟨e1, e2⟩ := ents_get (fun _ _ => idK_inj) eC1 z
      refine ⟨g.cd, kvs, idK z, a, .non, rfl, rfl, s1 _ _ hC, s1 _ _ ha, fun v ev => ?_, fun ev => ?_⟩
      · obtain ⟨g1, _, _⟩ := G1.setC (ents_drop (fun _ _ => idK_inj) (k := z) eC1) (by have := dropK_len kvs (idK z); omega)
        rw [← rmS_upd nS] at g1
        exact q _ ((KG.of s1).trans fun a o n1 n2 e => by rw [upd_ne n1]; exact e) ((KD.of s1).trans (KD.put (s1 _ _ hC) rfl)) (by rw [st true hb, if_pos rfl]; exact g1)
      · have : getE cells z = none := by
          cases hg : getE cells z with
          | none => rfl
          | some b =>
            obtain ⟨v, e3, _⟩ := e2 b hg
            rw [e3] at ev
            cases ev
        exact q _ (KG.of s1) (KD.of s1) (by rw [st true hb, if_pos rfl, dropE_no this]; exact G1)
    refine ⟨_, rfl, Nat.zero_le _, fun l0 hl0 => ?_⟩
    have s0 := same_new (o := .lst []) hl0
    refine ⟨.list ds, .list [], .lst (SqL.of (s0 _ _ hl)) (dtA_same s0 dp).dp, .lst (SqL.of upd_same) .nil, sh, by decide +kernel, _, rfl, ite2 (fun c => ?_) (fun c => ?_)⟩
    · refine (if_pos rfl).mpr ?_
      exact ⟨_, rfl, g.G, T.cGrid, dx, _, _, rfl, s0 _ _ hG, T.clGrid, T.naGrid__contents, rfl, .inr (.inr (.inl ⟨rfl, .inr ⟨kvs, s0 _ _ hC⟩⟩)), _, rfl, pop _ s0 (by unfold isBl; rw [show PyData.eqv (.list ds) (.list []) = true from c]; rfl)⟩
    · refine ⟨_, rfl, (by show 1 ≤ sizeLine; decide), fun t ht => ⟨(by show 1 ≤ sizeLine; decide), fun l1 hl1 => ?_⟩⟩
      have s1 := (s0.trans (same_new (o := .tup [.str "blank"]) ht)).trans (same_new (o := .lst [.ref t]) hl1)
      have ht2 : (upd (upd (upd H l0 (.lst [])) t (.tup [.str "blank"])) l1 (.lst [.ref t])) t = some (.tup [.str "blank"]) := same_new hl1 _ _ upd_same
      refine ⟨.list ds, blankD, .lst (SqL.of (s1 _ _ hl)) (dtA_same s1 dp).dp, .lst (SqL.of upd_same) (.cons (.tup (SqT.of ht2) (.cons (.str _) .nil)) .nil), sh, by decide +kernel, _, rfl, ite2 (fun c2 => ?_) (fun c2 => ?_)⟩
      · have hb : isBl ds = true := by
          unfold isBl
          rw [show PyData.eqv (.list ds) blankD = true from c2, Bool.or_true]
        exact ⟨_, rfl, g.G, T.cGrid, dx, _, _, rfl, s1 _ _ hG, T.clGrid, T.naGrid__contents, rfl, .inr (.inr (.inl ⟨rfl, .inr ⟨kvs, s1 _ _ hC⟩⟩)), _, rfl, pop _ s1 hb⟩
      · have hb : isBl ds = false := by
          unfold isBl
          rw [Bool.or_eq_false_iff]
          exact ⟨Bool.eq_false_iff.mpr c, Bool.eq_false_iff.mpr c2⟩
        refine ⟨_, rfl, l, us, rfl, .inl (SqL.of (s1 _ _ hl)), fun p hp => ?_⟩
        have ls1 := ls.same s1
        have s2 := s1.trans (same_new (o := .lst us) hp)
        have G2 := G0.same (rmS_same s2)
        have eC2 := ents_kd (KD.of (rmS_same (S := S) s2)) eC
        refine ⟨_, rfl, g.G, T.cGrid, dx, _, _, rfl, s2 _ _ hG, T.clGrid, T.naGrid__contents, rfl, _, rfl, g.cd, _, rfl, DPut.t (k := idK z) (s2 _ _ hC) (s2 _ _ ha) (small1000 (by omega)), ?_⟩
        obtain ⟨g1, _, _⟩ := G2.setC (ents_put (fun _ _ => idK_inj) (k := z) (v := .ref p) eC2 ⟨p, us, rfl, (rmS_of (ls1.fresh hp)).trans upd_same, (dtA_same s2 dp).tt (ls.same s2).tt⟩) (by have := putK_len kvs (idK z) (.ref p); have := eC.len; omega)
        rw [← rmS_upd nS] at g1
        exact q _ ((KG.of s2).trans fun a o n1 n2 e => by rw [upd_ne n1]; exact e) ((KD.of s2).trans (KD.put (s2 _ _ hC) rfl)) (by rw [st false hb, if_neg Bool.false_ne_true]; exact g1)
theorem units65b {k : Nat} {A : Around} (r : Room k A) : A.units + 64 < cLine := by
  have := r.un
  omega
theorem ents_keys {κ ι β : Type} {f : ι → κ} {At : V → β → Prop} : ∀ {kvs : List (κ × V)} {D : List (ι × β)}, Ents f At kvs D → kvs.map Prod.fst = (D.map Prod.fst).map f
  | [], [], _ => rfl
  | kv :: kvs, [], h => by have := h.len; simp at this
  | [], e :: D, h => by have := h.len; simp at this
  | kv :: kvs, e :: D, h => by
    obtain ⟨⟨h1, _⟩, h3⟩ := RepP.un h
    rw [List.map_cons, List.map_cons, List.map_cons, h1, ents_keys h3]
def rmG (H : Hp) (F : Addr) : Hp := fun a => if a = F then none else H a
/-- a new grid -/
def spGInit (K : PySem.W.Frag) (C : Addr) : Sp := fun vs H Q _ => ∃ (G dx : Addr) (r c : Int), vs = [.ref G, .int r, .int c] ∧ H G = some (.ins C dx []) ∧ ∀ (g : Gr) (H' : Hp), g.G = G → g.r = r → g.c = c → Same (rmG H G) H' → rmG H G g.cd = none → rmG H G g.nd = none → GD K C H' g [] [] → Q .non H'
theorem okGrid_Init (T : Txt K mg) : FnOk P w K mg base CX0 1 T.fGrid_Init T.fdGrid_Init ["self", "rows", "columns"] (spGInit K T.cGrid) := by
  refine T.FGrid_Init.ok scGrid_Init (fun vs H Q E h => ?_) (fun cdv A outer s H vs Q E hr h => ?_)
  · obtain ⟨G, dx, r, c, rfl, _⟩ := h
    rfl
  · obtain ⟨G, dx, r, c, rfl, hG, q⟩ := h
    -- slots self=0 rows=1 columns=2
    refine ⟨_, (pss_cons (ps_fld (pv 0) (pv 1) rfl)
        (pss_cons (ps_fld (pv 0) (pv 2) rfl)
        (pss_cons (ps_fld (pv 0) pe_dnewT rfl)
        (pss_one (ps_fld (pv 0) pe_dnewK rfl))))), ?_⟩
    refine ⟨_, rfl, _, rfl, G, T.cGrid, dx, _, rfl, hG, T.clGrid, T.naGrid_rows, (by show 0 < 1000; decide), _, rfl, _, rfl, G, T.cGrid, dx, _, rfl, upd_same, T.clGrid, T.naGrid_columns, (by show 1 < 1000; decide), ?_⟩
    have k2 : Same (rmG H G) (upd (upd H G (.ins T.cGrid dx [("rows", .int r)])) G (.ins T.cGrid dx [("rows", .int r), ("columns", .int c)])) := fun a o e => by
      have n : a ≠ G := fun z => by
        rw [z] at e
        have : rmG H G G = none := if_pos rfl
        rw [this] at e
        cases e
      have e2 : rmG H G a = H a := if_neg n
      rw [upd_ne n, upd_ne n, ← e2]
      exact e
    have g2 : (upd (upd H G (.ins T.cGrid dx [("rows", .int r)])) G (.ins T.cGrid dx [("rows", .int r), ("columns", .int c)])) G = some (.ins T.cGrid dx [("rows", .int r), ("columns", .int c)]) := upd_same
    have fin : ∀ H2, Same (rmG H G) H2 → H2 G = some (.ins T.cGrid dx [("rows", .int r), ("columns", .int c)]) → ∀ cd, H2 cd = none → ∀ nd, (upd (upd H2 cd (.dT [])) G (.ins T.cGrid dx [("rows", .int r), ("columns", .int c), ("_contents", .ref cd)])) nd = none → Q .non (upd (upd (upd (upd H2 cd (.dT [])) G (.ins T.cGrid dx [("rows", .int r), ("columns", .int c), ("_contents", .ref cd)])) nd (.dK [])) G (gridO T.cGrid dx ⟨G, cd, nd, r, c⟩)) := fun H2 k2 g2 cd hcd nd hnd => by
      have n1 : cd ≠ G := fun z => by
        rw [z, g2] at hcd
        cases hcd
      have n2 : nd ≠ G := fun z => by
        rw [z, upd_same] at hnd
        cases hnd
      have n3 : cd ≠ nd := fun z => by
        rw [← z, upd_ne n1, upd_same] at hnd
        cases hnd
      have hnd2 : H2 nd = none := by
        rw [upd_ne n2, upd_ne n3.symm] at hnd
        exact hnd
      have free : ∀ {a : Addr}, H2 a = none → rmG H G a = none := fun {a} e => by
        cases z : rmG H G a with
        | none => rfl
        | some u =>
          rw [k2 a u z] at e
          cases e
      refine q ⟨G, cd, nd, r, c⟩ _ rfl rfl rfl (fun a o e => ?_) (free hcd) (free hnd2) ⟨⟨dx, upd_same⟩, ⟨[], ?_, RepP.nil, Nat.zero_le _⟩, ⟨[], ?_, RepP.nil, Nat.zero_le _⟩⟩
      · have n : a ≠ G := fun z => by
          rw [z] at e
          have : rmG H G G = none := if_pos rfl
          rw [this] at e
          cases e
        have e2 := k2 a o e
        have m1 : a ≠ cd := fun z => by
          rw [z, hcd] at e2
          cases e2
        have m2 : a ≠ nd := fun z => by
          rw [z, hnd2] at e2
          cases e2
        rw [upd_ne n, upd_ne m2, upd_ne n, upd_ne m1]
        exact e2
      · rw [upd_ne n1, upd_ne n3, upd_ne n1, upd_same]
      · rw [upd_ne n2, upd_same]
    refine fun cd hcd => ⟨_, rfl, G, T.cGrid, dx, [("rows", .int r), ("columns", .int c)], rfl, ?_, T.clGrid, T.naGrid__contents, (by show 2 < 1000; decide), fun nd hnd => ⟨_, rfl, G, T.cGrid, dx, [("rows", .int r), ("columns", .int c), ("_contents", .ref cd)], rfl, ?_, T.clGrid, T.naGrid__names, (by show 3 < 1000; decide), fin _ k2 g2 cd hcd nd hnd⟩⟩
    · rw [upd_ne fun z => ?_]
      · exact g2
      · rw [← z] at hcd
        rw [upd_same] at hcd
        cases hcd
    · rw [upd_ne fun z => ?_, upd_same]
      · rfl
      · rw [← z, upd_same] at hnd
        cases hnd
theorem okUnknownName_Init (T : Txt K mg) : FnOk P w K mg base CX0 1 T.fUnknownName_Init T.fdUnknownName_Init ["self", "word"] (spIni K T.cUnknownName "word") := by
  refine T.FUnknownName_Init.ok scUnknownName_Init (fun vs H Q E h => ?_) (fun cdv A outer s H vs Q E hr h => ?_)
  · obtain ⟨a, y, rfl, _⟩ := h
    rfl
  · obtain ⟨a, y, rfl, ha, q⟩ := h
    -- slots self=0 word=1
    refine ⟨_, (pss_one (ps_ost (pv 0) (pv 1))), ?_⟩
    exact ⟨_, rfl, _, rfl, a, T.cUnknownName, rfl, T.oKUnknownName, T.nKUnknownName_word, .inl ⟨ha, q⟩⟩
def spGAreas (K : PySem.W.Frag) (C CE : Addr) : Sp := fun vs H Q E => ∃ (g : Gr) (cells : Cells) (names : Names) (w : Str), vs = [.ref g.G, .str w] ∧ GD K C H g cells names ∧
  (getE names w = none → ∀ d, H d = none → E (.ref CE) (some d) (upd H d (.xd [("word", .str w)]))) ∧ (getE names w = some none → Q .non H) ∧
  ∀ ds, getE names w = some (some ds) → ∀ (p : Addr) (us : List V) (H' : Hp), Same H H' → H p = none → H' p = some (.lst us) → DtAll H' us ds → Q (.ref p) H'
theorem okGrid_Areas (T : Txt K mg) : FnOk P w K mg base (L2N.CX P w) 3 T.fGrid_Areas T.fdGrid_Areas ["self", "word"] (spGAreas K T.cGrid T.cUnknownName) := by
  refine okN T.FGrid_Areas scGrid_Areas (fun vs H Q E h => ?_) (fun cdv A outer s H vs Q E hr h => ?_)
  · obtain ⟨g, cells, names, w, rfl, _⟩ := h
    rfl
  · obtain ⟨g, cells, names, w, rfl, G0, q1, q2, q3⟩ := h
    -- slots self=0 word=1 areas=2
    refine ⟨_, (pss_cons (ps_if (pt_cmp (pc_dnotin (units2 hr) (pv 1) (pe_fld (pv 0) rfl)))
          (pss_one (L2N.ps_raise rfl (L2N.takes_of rfl rfl rfl rfl) (mkN T.oKUnknownName T.iKUnknownName T.tKUnknownName (okUnknownName_Init T) (hr.mono (by decide)) T.bUnknownName_Init pass0 (by rfl) T.gKUnknownName (pa_cons (pv 1) pa_nil))))
          pss_nil)
        (pss_cons (ps_set (i := 2) scGrid_Areas.nd rfl (Or.inl rfl) (pe_dget (units2 hr) (pe_fld (pv 0) rfl) (pv 1) (fun _ _ => rfl)))
        (pss_one (ps_ret (pe_ifExp (pt_cmpR op_isN (pv 2) pe_non (nomark _)) pe_non (pe_callTy call_list_of (by rfl) T.z_list (by decide +kernel) (pa_cons (pv 2) pa_nil))))))), ?_⟩
    obtain ⟨⟨dx, hG⟩, _, ⟨nvs, hN, eN, hl⟩⟩ := id G0
    obtain ⟨e1, e2⟩ := ents_get (fun _ _ => keyW_inj) eN w
    have dg := DGet.k (k := keyW w) hN
    refine ⟨_, rfl, _, rfl, g.G, T.cGrid, dx, _, _, rfl, hG, T.clGrid, T.naGrid__names, rfl, g.nd, _, rfl, dg, _, rfl, ?_⟩
    cases hg : getE names w with
    | none =>
      rw [e1 hg]
      exact iteT ⟨_, rfl, (by show 1 ≤ 1000; decide), ini_of (q1 hg)⟩
    | some b =>
      obtain ⟨v, ev, hv⟩ := e2 b hg
      rw [ev] at dg ⊢
      refine iteF ⟨_, rfl, g.G, T.cGrid, dx, _, _, rfl, hG, T.clGrid, T.naGrid__names, rfl, _, rfl, g.nd, v, rfl, dg, ?_⟩
      cases b with
      | none =>
        obtain rfl := hv
        exact ⟨_, rfl, rfl, _, rfl, ite2 (fun _ => q2 hg) (fun c => absurd (decide_eq_true rfl) c)⟩
      | some ds =>
        obtain ⟨l, us, rfl, hlv, dp⟩ := hv
        refine ⟨_, rfl, rfl, _, rfl, ite2 (fun c => (nomatch (of_decide_eq_true c))) (fun _ => ?_)⟩
        exact ⟨_, rfl, l, us, rfl, .inl (SqL.of hlv), fun p hp => q3 ds hg p us _ (same_new hp) hp upd_same (dtA_same (same_new hp) dp)⟩
/-! ### a copy -/
def nmD : Option (List PyData) → PyData
  | none => .none
  | some ds => .list ds
structure Good (cells : Cells) (names : Names) : Prop where
  nc : (cells.map Prod.fst).Nodup
  nn : (names.map Prod.fst).Nodup
  sh : ∀ e ∈ cells, SeqAt.shaped (.list e.2) = true ∧ isBl e.2 = false
  shn : ∀ e ∈ names, SeqAt.shaped (nmD e.2) = true
  wk : ∀ e ∈ names, PyData.strOk e.1 = true
  lc : cells.length ≤ 800
  ln : names.length ≤ 800
theorem getE_mem {κ β : Type} [DecidableEq κ] : ∀ {D : List (κ × β)}, (D.map Prod.fst).Nodup → ∀ e ∈ D, getE D e.1 = some e.2
  | [], _, e, h => nomatch h
  | d :: D, nd, e, h => by
    obtain ⟨n1, n2⟩ := List.nodup_cons.mp nd
    rcases List.mem_cons.mp h with z | z
    · rw [z]
      simp [getE]
    · have ne : ¬ d.1 = e.1 := fun y => n1 (by rw [y]; exact List.mem_map.mpr ⟨e, z, rfl⟩)
      have ih := getE_mem n2 e z
      unfold getE at ih ⊢
      rw [List.find?_cons_of_neg (by simpa using ne)]
      exact ih
theorem putE_new {κ β : Type} [DecidableEq κ] {D : List (κ × β)} {k : κ} {v : β} (h : ∀ e ∈ D, e.1 ≠ k) : putE D k v = D ++ [(k, v)] := by
  unfold putE
  rw [if_neg]
  rw [List.any_eq_true]
  rintro ⟨e, he, z⟩
  exact h e he (of_decide_eq_true z)
theorem take_new {κ β : Type} [DecidableEq κ] {D : List (κ × β)} (nd : (D.map Prod.fst).Nodup) {j : Nat} {e : κ × β} (h : D[j]? = some e) : (∀ d ∈ D.take j, d.1 ≠ e.1) ∧ D.take (j + 1) = D.take j ++ [e] := by
  refine ⟨fun d hd z => ?_, by rw [List.take_add_one, h]; rfl⟩
  obtain ⟨i, hi⟩ := List.mem_iff_getElem?.mp hd
  have hij : i < j := by
    have := (List.getElem?_eq_some_iff.mp hi).1
    rw [List.length_take] at this
    omega
  rw [List.getElem?_take_of_lt hij] at hi
  obtain ⟨g1, g2⟩ := List.getElem?_eq_some_iff.mp hi
  obtain ⟨g3, g4⟩ := List.getElem?_eq_some_iff.mp h
  have := List.pairwise_iff_getElem.mp nd i j (by rw [List.length_map]; exact g1) (by rw [List.length_map]; exact g3) hij
  rw [List.getElem_map, List.getElem_map, g2, g4] at this
  exact this z
/-- a grid's objects: what another one's dicts leave alone -/
structure Apart (g o : Gr) : Prop where
  a1 : g.G ≠ o.cd
  a2 : g.G ≠ o.nd
  a3 : g.cd ≠ o.cd
  a4 : g.cd ≠ o.nd
  a5 : g.nd ≠ o.cd
  a6 : g.nd ≠ o.nd
/-- lists and tuples stay -/
structure LT (H H' : Hp) : Prop where
  l : ∀ q xs, Rd H q (.lst xs) → Rd H' q (.lst xs)
  t : ∀ q xs, Rd H q (.tup xs) → Rd H' q (.tup xs)
mutual
theorem dp_lt {K : PySem.W.Frag} {H H' : Hp} (e : LT H H') : ∀ {v : V} {d : PyData}, Dp K H v d → Dp K H' v d
  | _, _, .non => .non
  | _, _, .bl b => .bl b
  | _, _, .int i => .int i
  | _, _, .str x => .str x
  | _, _, .lst h r => .lst (h.imp (e.l _ _) id) (dpA_lt e r)
  | _, _, .tup h r => .tup (h.imp (e.t _ _) id) (dpA_lt e r)
theorem dpA_lt {K : PySem.W.Frag} {H H' : Hp} (e : LT H H') : ∀ {vs : List V} {ds : List PyData}, DpAll K H vs ds → DpAll K H' vs ds
  | _, _, .nil => .nil
  | _, _, .cons h r => .cons (dp_lt e h) (dpA_lt e r)
end
theorem LT.upd {H : Hp} {d : Addr} {o0 o : HO} (h : H d = some o0) (n1 : ∀ xs, o0 ≠ .lst xs) (n2 : ∀ u xs, o0 ≠ .frz u (.lst xs)) (n3 : ∀ xs, o0 ≠ .tup xs) (n4 : ∀ u xs, o0 ≠ .frz u (.tup xs)) : LT H (upd H d o) := by
  have ne : ∀ {q : Addr} {u : HO}, H q = some u → u ≠ o0 → q ≠ d := fun e n z => by
    rw [z, h] at e
    exact n (Option.some.inj e).symm
  refine ⟨fun q xs r => ?_, fun q xs r => ?_⟩
  · rcases r with e | ⟨u, e⟩
    · exact .inl (by rw [upd_ne (ne e fun z => n1 xs z.symm)]; exact e)
    · exact .inr ⟨u, by rw [upd_ne (ne e fun z => n2 u xs z.symm)]; exact e⟩
  · rcases r with e | ⟨u, e⟩
    · exact .inl (by rw [upd_ne (ne e fun z => n3 xs z.symm)]; exact e)
    · exact .inr ⟨u, by rw [upd_ne (ne e fun z => n4 u xs z.symm)]; exact e⟩
/-- another object changes, no list and no tuple -/
theorem GD.lt {K : PySem.W.Frag} {C : Addr} {H : Hp} {g : Gr} {cells : Cells} {names : Names} {d : Addr} {o0 o : HO} (G : GD K C H g cells names) (h : H d = some o0) (n1 : ∀ xs, o0 ≠ .lst xs) (n2 : ∀ u xs, o0 ≠ .frz u (.lst xs)) (n3 : ∀ xs, o0 ≠ .tup xs) (n4 : ∀ u xs, o0 ≠ .frz u (.tup xs)) (a1 : d ≠ g.G) (a2 : d ≠ g.cd) (a3 : d ≠ g.nd) : GD K C (upd H d o) g cells names := by
  have tt : TT H (L2.upd H d o) := fun q xs e => by
    rw [upd_ne fun z => ?_]
    · exact e
    · rw [z, h] at e
      exact n3 xs (Option.some.inj e)
  obtain ⟨⟨dx, w1⟩, ⟨ks, w2, w3, w4⟩, ⟨ns, w5, w6, w7⟩⟩ := G
  have la : ∀ {v ds}, LAt K H v ds → LAt K (L2.upd H d o) v ds := fun {v ds} ⟨l, us, e, hl, dp⟩ => ⟨l, us, e, by
    rw [upd_ne fun z => ?_]
    · exact hl
    · rw [z, h] at hl
      exact n1 us (Option.some.inj hl), dp.tt tt⟩
  refine ⟨⟨dx, by rw [upd_ne a1.symm]; exact w1⟩, ⟨ks, by rw [upd_ne a2.symm]; exact w2, w3.imp fun kv e hh => ⟨hh.1, la hh.2⟩, w4⟩, ⟨ns, by rw [upd_ne a3.symm]; exact w5, w6.imp fun kv e hh => ⟨hh.1, ?_⟩, w7⟩⟩
  have hv := hh.2
  cases he : e.2 with
  | none =>
    rw [he] at hv
    exact hv
  | some ds =>
    rw [he] at hv
    exact la hv
theorem passN {P : Program} {w : World} {X : Cx} {σ : L2.St} : PassesAt (L2N.CX P w) X σ (fun _ _ _ => False) := fun _ _ _ _ _ _ z => by
  obtain ⟨_, _, _, _, _, _, _, _, _, _, _, _, _, _, _, _, no⟩ := z
theorem op_eqDK {X : Cx} {K : PySem.W.Frag} (h : X.K = K) (hu : X.A.units + 64 < cLine) : OpR X (compareOp .Eq) (rEqD K) := by
  subst h
  exact op_eqD hu
theorem op_neDK {X : Cx} {K : PySem.W.Frag} (h : X.K = K) (hu : X.A.units + 64 < cLine) : OpR X (compareOp .NotEq) (rNeD K) := by
  subst h
  exact op_neD hu
/-! ### whether two tables are the same -/
theorem eqvAll_inj {α : Type} [DecidableEq α] {f : α → PyData} (hf : ∀ a b, PyData.eqv (f a) (f b) = decide (a = b)) : ∀ xs ys : List α, PyData.eqvAll (xs.map f) (ys.map f) = decide (xs = ys)
  | [], [] => by simp [PyData.eqvAll]
  | [], y :: ys => by simp [PyData.eqvAll]
  | x :: xs, [] => by simp [PyData.eqvAll]
  | x :: xs, y :: ys => by
    rw [List.map_cons, List.map_cons, PySem.W.eqv_all_cons, hf, eqvAll_inj hf xs ys, Bool.eq_iff_iff]
    simp
theorem eqvL {α : Type} [DecidableEq α] {f : α → PyData} (hf : ∀ a b, PyData.eqv (f a) (f b) = decide (a = b)) (xs ys : List α) : PyData.eqv (.list (xs.map f)) (.list (ys.map f)) = decide (xs = ys) := by
  have : PyData.eqv (.list (xs.map f)) (.list (ys.map f)) = PyData.eqvAll (xs.map f) (ys.map f) := by simp only [PyData.eqv]
  rw [this, eqvAll_inj hf]
theorem lays {β : Type} {k : β → PyData} (h : ∀ b, (k b).canLay0 = true) : ∀ D : List β, PyData.canLayAll0 (D.map k) = true
  | [] => by simp [PyData.canLayAll0]
  | b :: D => by simp [PyData.canLayAll0, h b, lays h D]
theorem depths {β : Type} {k : β → PyData} {n : Nat} (h : ∀ b, (k b).depth ≤ n) : ∀ D : List β, PyData.depthAll (D.map k) ≤ n
  | [] => by simp [PyData.depthAll]
  | b :: D => by
    have h1 := h b
    have h2 := depths h D
    simp only [List.map_cons, PyData.depthAll]
    omega
theorem shapeds {β : Type} {k : β → PyData} {n : Nat} (h1 : ∀ b, (k b).canLay0 = true) (h2 : ∀ b, (k b).depth ≤ n) (hn : n ≤ 63) (D : List β) : SeqAt.shaped (.list (D.map k)) = true := by
  have e := depths h2 D
  show (PyData.canLay0 (.list (D.map k)) && decide (PyData.depth (.list (D.map k)) ≤ 64)) = true
  rw [Bool.and_eq_true]
  refine ⟨by simp only [PyData.canLay0]; exact lays h1 D, decide_eq_true ?_⟩
  simp only [PyData.depth]
  omega
theorem str_eqv (a b : Str) : PyData.eqv (.str a) (.str b) = decide (a = b) := by
  simp only [PyData.eqv]
  rw [Bool.eq_iff_iff]
  simp
theorem strs_lay : ∀ W : List Str, (∀ x ∈ W, PyData.strOk x = true) → PyData.canLayAll0 (W.map PyData.str) = true
  | [], _ => by simp [PyData.canLayAll0]
  | x :: W, h => by
    have h1 := h x List.mem_cons_self
    have h2 := strs_lay W fun y hy => h y (List.mem_cons_of_mem _ hy)
    simp only [List.map_cons, PyData.canLayAll0, PyData.canLay0, h1, h2]
    rfl
theorem strs_shaped (W : List Str) (h : ∀ x ∈ W, PyData.strOk x = true) : SeqAt.shaped (.list (W.map PyData.str)) = true := by
  have e := depths (k := PyData.str) (n := 0) (fun b => by simp [PyData.depth]) W
  show (PyData.canLay0 (.list (W.map PyData.str)) && decide (PyData.depth (.list (W.map PyData.str)) ≤ 64)) = true
  rw [Bool.and_eq_true]
  refine ⟨by simp only [PyData.canLay0]; exact strs_lay W h, decide_eq_true ?_⟩
  simp only [PyData.depth]
  omega
theorem dpStrs {K : PySem.W.Frag} {H : Hp} : ∀ W : List Str, DpAll K H (W.map V.str) (W.map PyData.str)
  | [] => .nil
  | x :: W => .cons (.str x) (dpStrs W)
theorem dpTu {K : PySem.W.Frag} {H : Hp} : ∀ Zs : List (V × (Int × Int)), (∀ z ∈ Zs, TuAt H z.1 z.2) → DpAll K H (Zs.map Prod.fst) ((Zs.map Prod.snd).map idD)
  | [], _ => .nil
  | z :: Zs, h => .cons (h z List.mem_cons_self).dp (dpTu Zs fun y hy => h y (List.mem_cons_of_mem _ hy))
theorem TuAt.same {H H' : Hp} {v : V} {z : Int × Int} (s : Same H H') (h : TuAt H v z) : TuAt H' v z := by
  obtain ⟨b, e, hb⟩ := h
  exact ⟨b, e, s _ _ hb⟩
theorem sorted_eq {α : Type} {R : α → α → Prop} (anti : ∀ a b, R a b → R b a → a = b) : ∀ {xs ys : List α}, xs.Perm ys → xs.Pairwise R → ys.Pairwise R → xs = ys
  | [], ys, h, _, _ => (List.Perm.nil_eq h)
  | x :: xs, [], h, _, _ => by have := h.length_eq; simp at this
  | x :: xs, y :: ys, h, h1, h2 => by
    obtain ⟨a1, a2⟩ := List.pairwise_cons.mp h1
    obtain ⟨b1, b2⟩ := List.pairwise_cons.mp h2
    have e : x = y := by
      rcases List.mem_cons.mp (h.mem_iff.mp List.mem_cons_self) with z | z
      · exact z
      · rcases List.mem_cons.mp (h.mem_iff.mpr (List.mem_cons_self (a := y) (l := ys))) with u | u
        · exact u.symm
        · exact anti _ _ (a1 _ u) (b1 _ z)
    subst e
    rw [sorted_eq anti (List.Perm.cons_inv h) a2 b2]
theorem antiK (a b : Int × Int) (h1 : ¬ ltK b a) (h2 : ¬ ltK a b) : a = b := by
  unfold ltK at h1 h2
  exact Prod.ext (by omega) (by omega)
theorem antiS (a b : Str) (h1 : ¬ b.cps.toList < a.cps.toList) (h2 : ¬ a.cps.toList < b.cps.toList) : a = b := by
  have e : a.cps.toList = b.cps.toList := List.le_antisymm h1 h2
  cases a
  cases b
  simp_all
theorem perm_of_sub {α : Type} [DecidableEq α] : ∀ {xs ys : List α}, xs.Nodup → xs.length = ys.length → (∀ x ∈ xs, x ∈ ys) → xs.Perm ys
  | [], ys, _, hl, _ => by
    have : ys = [] := List.length_eq_zero_iff.mp hl.symm
    rw [this]
  | x :: xs, ys, nd, hl, h => by
    obtain ⟨n1, n2⟩ := List.nodup_cons.mp nd
    have hx := h x List.mem_cons_self
    have p := List.perm_cons_erase hx
    refine (List.Perm.cons x (perm_of_sub n2 ?_ fun y hy => ?_)).trans p.symm
    · have := p.length_eq
      rw [List.length_cons] at this hl
      omega
    · have ne : y ≠ x := fun z => n1 (z ▸ hy)
      exact (List.mem_erase_of_ne ne).mpr (h y (List.mem_cons_of_mem _ hy))
section
variable {κ β : Type} [DecidableEq κ]
theorem getE_key {D : List (κ × β)} {k : κ} {b : β} (h : getE D k = some b) : (k, b) ∈ D := by
  unfold getE at h
  cases hf : D.find? (fun e => decide (e.1 = k)) with
  | none =>
    rw [hf] at h
    cases h
  | some e =>
    rw [hf] at h
    have h1 := List.mem_of_find?_eq_some hf
    have h2 : e.1 = k := by
      have := List.find?_some hf
      exact of_decide_eq_true this
    have h3 : e.2 = b := Option.some.inj h
    rw [← h2, ← h3]
    exact h1
theorem getE_none {D : List (κ × β)} {k : κ} (h : getE D k = none) : k ∉ D.map Prod.fst := fun z => by
  obtain ⟨e, he, rfl⟩ := List.mem_map.mp z
  unfold getE at h
  have := List.find?_eq_none.mp (Option.map_eq_none_iff.mp h) e he
  exact this (decide_eq_true rfl)
def eqE (v : β → PyData) (D D' : List (κ × β)) : Bool := D.length == D'.length && D.all fun e => match getE D' e.1 with
  | some b => PyData.eqv (v e.2) (v b)
  | none => false
def cmpE (v : β → PyData) (D D' : List (κ × β)) (k : κ) : Bool := match getE D k, getE D' k with
  | some a, some b => PyData.eqv (v a) (v b)
  | _, _ => false
theorem eqE_perm {v : β → PyData} {D D' : List (κ × β)} (nd : (D.map Prod.fst).Nodup) (h : eqE v D D' = true) : (D.map Prod.fst).Perm (D'.map Prod.fst) := by
  unfold eqE at h
  rw [Bool.and_eq_true, List.all_eq_true] at h
  refine perm_of_sub nd (by rw [List.length_map, List.length_map]; exact of_decide_eq_true h.1) fun x hx => ?_
  obtain ⟨e, he, rfl⟩ := List.mem_map.mp hx
  have := h.2 e he
  cases hg : getE D' e.1 with
  | none =>
    rw [hg] at this
    cases this
  | some b => exact List.mem_map.mpr ⟨_, getE_key hg, rfl⟩
theorem eqE_all {v : β → PyData} {D D' : List (κ × β)} {Ks : List κ} (nd : (D.map Prod.fst).Nodup) (h : (D.map Prod.fst).Perm (D'.map Prod.fst)) (hk : Ks.Perm (D.map Prod.fst)) : eqE v D D' = Ks.all (cmpE v D D') := by
  have e1 : (D.length == D'.length) = true := by
    have := h.length_eq
    rw [List.length_map, List.length_map] at this
    rw [this]
    exact beq_self_eq_true _
  have key : ∀ e ∈ D, cmpE v D D' e.1 = match getE D' e.1 with
      | some b => PyData.eqv (v e.2) (v b)
      | none => false := fun e he => by
    unfold cmpE
    rw [getE_mem nd e he]
    cases getE D' e.1 <;> rfl
  unfold eqE
  rw [e1, Bool.true_and, Bool.eq_iff_iff, List.all_eq_true, List.all_eq_true]
  constructor
  · intro hh k hk2
    obtain ⟨e, he, rfl⟩ := List.mem_map.mp (hk.mem_iff.mp hk2)
    rw [key e he]
    exact hh e he
  · intro hh e he
    have := hh e.1 (hk.mem_iff.mpr (List.mem_map.mpr ⟨e, he, rfl⟩))
    rw [key e he] at this
    exact this
end
theorem cmp_cells {cells cells' : Cells} {z : Int × Int} (h1 : z ∈ cells.map Prod.fst) (h2 : z ∈ cells'.map Prod.fst) : cmpE PyData.list cells cells' z = PyData.eqv (.list ((getE cells z).getD [])) (.list ((getE cells' z).getD [])) := by
  unfold cmpE
  cases e1 : getE cells z with
  | none => exact absurd h1 (getE_none e1)
  | some a =>
    cases e2 : getE cells' z with
    | none => exact absurd h2 (getE_none e2)
    | some b => rfl
theorem shD {cells : Cells} {names : Names} (gd : Good cells names) (z : Int × Int) : SeqAt.shaped (.list ((getE cells z).getD [])) = true := by
  cases e : getE cells z with
  | none => decide +kernel
  | some ds => exact (gd.sh _ (getE_key e)).1
/-- what areas hands out -/
def NewA (K : PySem.W.Frag) (H H' : Hp) (v : V) : Option (List PyData) → Prop
  | none => v = .non
  | some ds => ∃ p us, v = .ref p ∧ H p = none ∧ H' p = some (.lst us) ∧ DtAll H' us ds
theorem NewA.dp {K : PySem.W.Frag} {H H' H2 : Hp} {v : V} {b : Option (List PyData)} (h : NewA K H H' v b) (s : Same H' H2) : Dp K H2 v (nmD b) := by
  cases b with
  | none =>
    obtain rfl := h
    exact .non
  | some ds =>
    obtain ⟨p, us, rfl, _, hp, dp⟩ := h
    exact .lst (SqL.of (s _ _ hp)) (dtA_same s dp).dp
theorem area_of {K : PySem.W.Frag} {C CE : Addr} {H : Hp} {Q : VK} {E : XK} {g : Gr} {cells : Cells} {names : Names} {w : Str} {b : Option (List PyData)} (G : GD K C H g cells names) (hb : getE names w = some b)
    (q : ∀ v H', Same H H' → NewA K H H' v b → Q v H') : spGAreas K C CE [.ref g.G, .str w] H Q E := by
  refine ⟨g, cells, names, w, rfl, G, fun e => (by rw [hb] at e; cases e), fun e => ?_, fun ds e p us H' s hp hl dp => ?_⟩
  · rw [hb] at e
    obtain rfl := Option.some.inj e
    exact q _ H (Same.refl _) rfl
  · rw [hb] at e
    obtain rfl := Option.some.inj e
    exact q _ H' s ⟨p, us, rfl, hp, hl, dp⟩
theorem shN {cells : Cells} {names : Names} (gd : Good cells names) {w : Str} {b : Option (List PyData)} (h : getE names w = some b) : SeqAt.shaped (nmD b) = true := gd.shn _ (getE_key h)
theorem get_of_key {κ β : Type} [DecidableEq κ] {D : List (κ × β)} {k : κ} (h : k ∈ D.map Prod.fst) : ∃ b, getE D k = some b := by
  cases e : getE D k with
  | none => exact absurd h (getE_none e)
  | some b => exact ⟨b, rfl⟩
/-! ### trees as data -/
def arD : Ar → PyData
  | .gone => .tuple [.str "gone"]
  | .name w => .tuple [.str "name", .str w.1]
  | .block a b c d => .tuple [.str "block", .int a, .int b, .int c, .int d]
def trD : Tr → PyData
  | .gone => .tuple [.str "gone"]
  | .num x y => .tuple [.str "num", .tuple [.int x, .int y]]
  | .cell r c => .tuple [.str "cell", .int r, .int c]
  | .neg t => .tuple [.str "neg", trD t]
  | .op s l r => .tuple [.str "op", .str s, trD l, trD r]
  | .call n as => .tuple [.str "call", .str n, .tuple (as.map arD)]
theorem ArAt.dt {H : Hp} {v : V} : ∀ {a : Ar}, ArAt H v a → Dt H v (arD a)
  | .gone, ⟨q, e, h⟩ => e ▸ .tup h (.cons (.str _) .nil)
  | .name w, ⟨q, e, h⟩ => e ▸ .tup h (.cons (.str _) (.cons (.str _) .nil))
  | .block _ _ _ _, ⟨q, e, h⟩ => e ▸ .tup h (.cons (.str _) (.cons (.int _) (.cons (.int _) (.cons (.int _) (.cons (.int _) .nil)))))
theorem Ars.dt {H : Hp} : ∀ {vs : List V} {as : List Ar}, Ars H vs as → DtAll H vs (as.map arD)
  | _, _, .nil => .nil
  | _, _, .cons h r => .cons h.dt r.dt
theorem TrAt.dt {H : Hp} : ∀ {t : Tr} {v : V}, TrAt H v t → Dt H v (trD t)
  | .gone, _, ⟨q, e, h⟩ => e ▸ .tup h (.cons (.str _) .nil)
  | .num _ _, _, ⟨q, p, e, h, h2⟩ => e ▸ .tup h (.cons (.str _) (.cons (.tup h2 (.cons (.int _) (.cons (.int _) .nil))) .nil))
  | .cell _ _, _, ⟨q, e, h⟩ => e ▸ .tup h (.cons (.str _) (.cons (.int _) (.cons (.int _) .nil)))
  | .neg _, _, ⟨q, u, e, h, h2⟩ => e ▸ .tup h (.cons (.str _) (.cons h2.dt .nil))
  | .op _ _ _, _, ⟨q, u, w, e, h, h2, h3⟩ => e ▸ .tup h (.cons (.str _) (.cons (.str _) (.cons h2.dt (.cons h3.dt .nil))))
  | .call _ _, _, ⟨q, p, vs, e, h, h2, h3⟩ => e ▸ .tup h (.cons (.str _) (.cons (.str _) (.cons (.tup h2 h3.dt) .nil)))
theorem Dt.tup_inv {H : Hp} {v : V} {ds : List PyData} (h : Dt H v (.tuple ds)) : ∃ a xs, v = .ref a ∧ H a = some (.tup xs) ∧ DtAll H xs ds := by
  cases h with
  | tup h r => exact ⟨_, _, rfl, h, r⟩
theorem DtAll.un {H : Hp} {xs : List V} {d : PyData} {ds : List PyData} (h : DtAll H xs (d :: ds)) : ∃ x r, xs = x :: r ∧ Dt H x d ∧ DtAll H r ds := by
  cases h with
  | cons h r => exact ⟨_, _, rfl, h, r⟩
theorem DtAll.end_ {H : Hp} {xs : List V} (h : DtAll H xs []) : xs = [] := by
  cases h
  rfl
theorem Dt.str_inv {H : Hp} {v : V} {s : Str} (h : Dt H v (.str s)) : v = .str s := by
  cases h
  rfl
theorem Dt.int_inv {H : Hp} {v : V} {i : Int} (h : Dt H v (.int i)) : v = .int i := by
  cases h
  rfl
theorem dt_ar {H : Hp} {v : V} : ∀ {a : Ar}, Dt H v (arD a) → ArAt H v a
  | .gone, h => by
    obtain ⟨q, xs, rfl, hq, r⟩ := h.tup_inv
    obtain ⟨x1, r1, rfl, h1, r⟩ := r.un
    obtain rfl := r.end_
    obtain rfl := h1.str_inv
    exact ⟨q, rfl, hq⟩
  | .name w, h => by
    obtain ⟨q, xs, rfl, hq, r⟩ := h.tup_inv
    obtain ⟨_, _, rfl, h1, r⟩ := r.un
    obtain ⟨_, _, rfl, h2, r⟩ := r.un
    obtain rfl := r.end_
    rw [h1.str_inv, h2.str_inv] at hq
    exact ⟨q, rfl, hq⟩
  | .block a b c d, h => by
    obtain ⟨q, xs, rfl, hq, r⟩ := h.tup_inv
    obtain ⟨_, _, rfl, h1, r⟩ := r.un
    obtain ⟨_, _, rfl, h2, r⟩ := r.un
    obtain ⟨_, _, rfl, h3, r⟩ := r.un
    obtain ⟨_, _, rfl, h4, r⟩ := r.un
    obtain ⟨_, _, rfl, h5, r⟩ := r.un
    obtain rfl := r.end_
    rw [h1.str_inv, h2.int_inv, h3.int_inv, h4.int_inv, h5.int_inv] at hq
    exact ⟨q, rfl, hq⟩
theorem dt_ars {H : Hp} : ∀ {as : List Ar} {vs : List V}, DtAll H vs (as.map arD) → Ars H vs as
  | [], vs, h => by
    rw [h.end_]
    exact .nil
  | a :: as, vs, h => by
    obtain ⟨x, r, rfl, h1, h2⟩ := h.un
    exact .cons (dt_ar h1) (dt_ars h2)
theorem dt_tr {H : Hp} : ∀ {t : Tr} {v : V}, Dt H v (trD t) → TrAt H v t
  | .gone, v, h => by
    obtain ⟨q, xs, rfl, hq, r⟩ := h.tup_inv
    obtain ⟨x1, r1, rfl, h1, r⟩ := r.un
    obtain rfl := r.end_
    obtain rfl := h1.str_inv
    exact ⟨q, rfl, hq⟩
  | .num x y, v, h => by
    obtain ⟨q, xs, rfl, hq, ra⟩ := h.tup_inv
    obtain ⟨_, _, rfl, h1, rb⟩ := ra.un
    obtain ⟨u, w, rfl, h2, rc⟩ := rb.un
    obtain ⟨p, ys, rfl, hp, rd⟩ := h2.tup_inv
    obtain ⟨_, _, rfl, h3, re⟩ := rd.un
    obtain ⟨_, _, rfl, h4, rf⟩ := re.un
    obtain rfl := rc.end_
    obtain rfl := rf.end_
    rw [h1.str_inv] at hq
    rw [h3.int_inv, h4.int_inv] at hp
    exact ⟨q, p, rfl, hq, hp⟩
  | .cell r0 c0, v, h => by
    obtain ⟨q, xs, rfl, hq, r⟩ := h.tup_inv
    obtain ⟨_, _, rfl, h1, r⟩ := r.un
    obtain ⟨_, _, rfl, h2, r⟩ := r.un
    obtain ⟨_, _, rfl, h3, r⟩ := r.un
    obtain rfl := r.end_
    rw [h1.str_inv, h2.int_inv, h3.int_inv] at hq
    exact ⟨q, rfl, hq⟩
  | .neg t, v, h => by
    obtain ⟨q, xs, rfl, hq, r⟩ := h.tup_inv
    obtain ⟨_, _, rfl, h1, r⟩ := r.un
    obtain ⟨u, _, rfl, h2, r⟩ := r.un
    obtain rfl := r.end_
    rw [h1.str_inv] at hq
    exact ⟨q, u, rfl, hq, dt_tr h2⟩
  | .op s l r0, v, h => by
    obtain ⟨q, xs, rfl, hq, r⟩ := h.tup_inv
    obtain ⟨_, _, rfl, h1, r⟩ := r.un
    obtain ⟨_, _, rfl, h2, r⟩ := r.un
    obtain ⟨u, _, rfl, h3, r⟩ := r.un
    obtain ⟨w, _, rfl, h4, r⟩ := r.un
    obtain rfl := r.end_
    rw [h1.str_inv, h2.str_inv] at hq
    exact ⟨q, u, w, rfl, hq, dt_tr h3, dt_tr h4⟩
  | .call n as, v, h => by
    obtain ⟨q, xs, rfl, hq, ra⟩ := h.tup_inv
    obtain ⟨_, _, rfl, h1, rb⟩ := ra.un
    obtain ⟨_, _, rfl, h2, rc⟩ := rb.un
    obtain ⟨u, _, rfl, h3, rd⟩ := rc.un
    obtain ⟨p, ys, rfl, hp, re⟩ := h3.tup_inv
    obtain rfl := rd.end_
    rw [h1.str_inv, h2.str_inv] at hq
    exact ⟨q, p, ys, rfl, hq, hp, dt_ars re⟩
/-! ### the cells of a block -/
structure Bk where
  t : Int
  l : Int
  b : Int
  r : Int
def Bk.ok (R C : Int) (k : Bk) : Prop := 0 ≤ k.t ∧ k.t ≤ k.b ∧ k.b < R ∧ 0 ≤ k.l ∧ k.l ≤ k.r ∧ k.r < C
def rowOf (k : Bk) (i : Nat) : List (Int × Int) := (List.range (k.r + 1 - k.l).toNat).map fun (j : Nat) => (k.t + (i : Int), k.l + (j : Int))
def cellsOf (k : Bk) : List (Int × Int) := (List.range (k.b + 1 - k.t).toNat).flatMap (rowOf k)
/-- a walk whose turns do anything (a loop of a comprehension of two) -/
theorem walk_any {J : It} {n : Nat} {G : Hp → Prop} {Y : Nat → Hp → V → Hp → Prop} (w : Walk J n G Y) {B : (Hp → Prop) → V → Hp → Prop} {H0 : Hp} {Qd : Hp → Prop} (Pv : Nat → Hp → Prop) (h0 : Pv 0 H0) (hG : ∀ i H, i ≤ n → Pv i H → G H)
    (hs : ∀ i x H H', i < n → Pv i H → Y i H x H' → B (Pv (i + 1)) x H') (hd : ∀ H, Pv n H → Qd H) :
    ∃ W : Nat → Nat → Hp → Prop, (∃ m, W 0 m H0) ∧ ∀ i m H, W i m H → (J.stop i H ∧ Qd H) ∨ (J.go i H ∧ ∃ Nx : Hp → Prop, (∀ H', Nx H' → ∃ m', m' < m ∧ W (i + 1) m' H') ∧ ∀ x H', J.yld i H x H' → B Nx x H') := by
  refine ⟨fun i m H => i + m = n ∧ Pv i H, ⟨n, Nat.zero_add n, h0⟩, fun i m H ⟨e, p⟩ => ?_⟩
  cases m with
  | zero =>
    have ei : i = n := e
    rw [ei] at p ⊢
    exact .inl ⟨w.stops H (hG n H (Nat.le_refl n) p), hd H p⟩
  | succ m =>
    have lt : i < n := by omega
    have gH := hG i H (by omega) p
    exact .inr ⟨w.goes i H lt gH, Pv (i + 1), fun H' p' => ⟨m, Nat.lt_succ_self m, by omega, p'⟩, fun x H' y => hs i x H H' lt p (w.yields i H x H' lt gH y)⟩
theorem Cls.snoc {H : Hp} {vs : List V} {zs : List (Int × Int)} {q : Addr} {z : Int × Int} (h : Cls H vs zs) (hq : H q = some (.tup [.int z.1, .int z.2])) : Cls H (vs ++ [.ref q]) (zs ++ [z]) := Cls.app (.cons hq .nil) h
theorem rowOf_len (k : Bk) (i : Nat) : (rowOf k i).length = (k.r + 1 - k.l).toNat := by
  unfold rowOf
  rw [List.length_map, List.length_range]
theorem range_flat {α : Type} (f : Nat → List α) (n : Nat) : (List.range (n + 1)).flatMap f = (List.range n).flatMap f ++ f n := by
  rw [List.range_succ, List.flatMap_append]
  simp
def spCellsOf (K : PySem.W.Frag) : Sp := fun vs H Q _ => ∃ (q : Addr) (k : Bk), vs = [.ref q] ∧ H q = some (.tup [.int k.t, .int k.l, .int k.b, .int k.r]) ∧ k.ok 50 50 ∧ ∀ (H' : Hp) (p : Addr) (us : List V), Same H H' → H p = none → H' p = some (.lst us) → Cls H' us (cellsOf k) → Q (.ref p) H'
theorem okCellsOf (T : Txt K mg) : FnOk P w K mg base CX0 1 T.fCellsOf T.fdCellsOf ["block"] (spCellsOf K) := by
  refine T.FCellsOf.ok scCellsOf (fun vs H Q E h => ?_) (fun cdv A outer s H vs Q E hr h => ?_)
  · obtain ⟨q, k, rfl, _⟩ := h
    rfl
  · obtain ⟨q0, k, rfl, hq, kok, q⟩ := h
    -- slots block=0 top=1 left=2 bottom=3 right=4 row=5 column=6
    refine ⟨_, (pss_cons (ps_asg (pv 0) (pg_tup rfl (pgs_cons (pg_name (i := 1) scCellsOf.nd rfl (Or.inl rfl)) (pgs_cons (pg_name (i := 2) scCellsOf.nd rfl (Or.inr rfl)) (pgs_cons (pg_name (i := 3) scCellsOf.nd rfl (Or.inl rfl)) (pgs_cons (pg_name (i := 4) scCellsOf.nd rfl (Or.inr rfl)) pgs_nil))))))
        (pss_one (ps_ret (pe_lc2 (own := [("row", 5), ("column", 6)]) (vs1 := [6]) (g := gName 5) (g1 := gName 6) (tt := tYes) (tt1 := tYes) rfl scCellsOf.nd (pi_range2 rfl T.z_range (pa_cons (pv 1) (pa_cons (pe_op op_add (pv 3) pe_int) pa_nil))) (blkOk_by (own := [("row", 5), ("column", 6)]) (N := ["block", "top", "left", "bottom", "right", "row", "column"]) (sc := defScope sCellsOf) (by decide +kernel)) (by decide +kernel) (fun _ _ _ _ _ => (pg_name (i := 5) scCellsOf.nd rfl (Or.inl rfl))) (fun _ _ _ _ _ => pts_nil) (fun _ _ _ _ _ => (pi_range2 rfl T.z_range (pa_cons (pv 2) (pa_cons (pe_op op_add (pv 4) pe_int) pa_nil)))) (fun _ _ _ _ _ => (pg_name (i := 6) scCellsOf.nd rfl (Or.inl rfl))) (fun _ _ _ _ _ => pts_nil) (fun _ _ _ _ _ => (pe_tup (pa_cons (pv 5) (pa_cons (pv 6) pa_nil)))))))), ?_⟩
    refine ⟨_, rfl, q0, _, rfl, SqT.of hq, rfl, _, _, rfl, _, _, rfl, _, _, rfl, _, _, rfl, rfl, ?_⟩
    obtain ⟨k1, k2, k3, k4, k5, k6⟩ := kok
    refine ⟨_, rfl, _, rfl, _, _, rfl, rfl, _, _, rfl, ⟨by omega, by omega, by omega, by omega⟩, fun D hD => ?_⟩
    refine walk_any (walk_range (lo := k.t) (n := (k.b + 1 - k.t).toNat)) (fun i H' => Same H H' ∧ ∃ us, H' D = some (.lst us) ∧ us.length ≤ 50 * i ∧ Cls H' us ((List.range i).flatMap (rowOf k))) ⟨same_new hD, [], upd_same, Nat.zero_le _, .nil⟩ (fun _ _ _ _ => trivial) ?_ ?_
    · rintro i x H1 H2 hi ⟨s1, us, hus, ul, cl⟩ ⟨rfl, rfl⟩
      refine ⟨rfl, yesT ?_⟩
      refine ⟨_, rfl, _, rfl, _, _, rfl, rfl, _, _, rfl, ⟨by omega, by omega, by omega, by omega⟩, ?_⟩
      refine walk_any (walk_range (lo := k.l) (n := (k.r + 1 - k.l).toNat)) (fun j H' => Same H H' ∧ ∃ us, H' D = some (.lst us) ∧ us.length ≤ 50 * i + j ∧ Cls H' us ((List.range i).flatMap (rowOf k) ++ (rowOf k i).take j)) ⟨s1, us, hus, ul, by rw [List.take_zero, List.append_nil]; exact cl⟩ (fun _ _ _ _ => trivial) ?_ ?_
      · rintro j x H3 H4 hj ⟨s3, ws, hws, wl, cw⟩ ⟨rfl, rfl⟩
        refine ⟨rfl, yesT ⟨_, rfl, _, rfl, (by show 2 ≤ sizeLine; decide), fun t ht => ?_⟩⟩
        have st := same_new (o := .tup [.int (k.t + (i : Int)), .int (k.l + (j : Int))]) ht
        have hw2 := st _ _ hws
        have hj2 : (rowOf k i)[j]? = some (k.t + (i : Int), k.l + (j : Int)) := by
          unfold rowOf
          rw [List.getElem?_map, List.getElem?_range hj]
          rfl
        refine ⟨ws, hw2, sz100 (by omega), same_mut (s3.trans st) hD, ws ++ [.ref t], upd_same, by rw [List.length_append]; exact Nat.add_le_add_right wl 1, ?_⟩
        rw [List.take_add_one, hj2, ← List.append_assoc]
        exact ((cw.mono (TK.of st)).snoc upd_same).mono (TK.mut hw2)
      · rintro H3 ⟨s3, ws, hws, wl, cw⟩
        refine ⟨s3, ws, hws, by omega, ?_⟩
        rw [List.take_of_length_le (by rw [rowOf_len]; exact Nat.le_refl _)] at cw
        rw [range_flat]
        exact cw
    · rintro H1 ⟨s1, us, hus, ul, cl⟩
      exact q H1 D us s1 hD hus cl
/-! ### list(d.keys()) -/
def keysO (p d : Addr) : HO := .ext fun h => PySem.W.KdlKeysView h p d
theorem keysO_ok {P : Program} {w : World} {H : Hp} {h : Heap} {p d : Addr} (e : h.get? p = some { cls := .type "dict_keys", data := .fields #[.ref d] }) : ObjOk P w H h p (keysO p d) :=
  ⟨⟨_, e, rfl, rfl⟩, ⟨_, e⟩, fun h1 h2 x k => let ⟨o, ho, r⟩ := x; ⟨o, k o ho, r⟩⟩
section
open PySem PySem.Calls PyProof.Rows PyProof.V PySem.Spec
variable {X : Cx}
def rKeys : V → List V → Hp → VK → Prop := fun x xs H Q => ∃ (a : Addr), x = .ref a ∧ xs = [] ∧ ((∃ kvs, H a = some (.dT kvs)) ∨ ∃ kvs, H a = some (.dK kvs)) ∧ ∀ p, H p = none → Q (.ref p) (upd H p (keysO p a))
theorem mt_keys : MtR X "dict.keys" rKeys := by
  intro pins s σ H x xs v us Q I rx rxs h
  obtain ⟨a, rfl, rfl, ha, q⟩ := h
  cases rx
  cases rxs
  obtain ⟨hd, es, ep, raw⟩ : (a == sysModules) = false ∧ ∃ es ep, s.heap.DictRaw a es ep := by
    rcases ha with ⟨kvs, ha⟩ | ⟨kvs, ha⟩
    · obtain ⟨z, hd, xs', rel, o, es, ep, ho, hx, hdat, _⟩ := dt_of I.hok ha
      exact ⟨hd, es, ep, o, ho, hx, hdat⟩
    · obtain ⟨z, hd, vs, rel, o, es, ep, ho, hx, hdat, _⟩ := (show ObjOk X.prog X.w H s.heap a (.dK kvs) from I.hok a _ ha)
      exact ⟨hd, es, ep, o, ho, hx, hdat⟩
  refine call_meetsIn PySem.F.slot_dict_keys raw.typeIs PySem.F.entry_dict_keys (PySem.F.args_dict_keys_1 _) (meets_dict_keys_raw a hd) ⟨⟨es, ep, raw⟩, ?_⟩
  have hf : H s.heap.objs.size = none := I.hok.fresh (Nat.le_refl _)
  exact ⟨.ref s.heap.objs.size, upd H s.heap.objs.size (keysO s.heap.objs.size a), I.laid (t' := s.toks) (fun b u e => Heap.get?_push_of_some _ e) (Nat.le_refl _) (keysO_ok (Heap.get?_push_size _ rfl)), rfl, q _ hf⟩
def rListKeys : List V → Hp → VK → Prop := fun xs H Q => ∃ (p d : Addr), xs = [.ref p] ∧ H p = some (keysO p d) ∧
  ((∃ kvs, H d = some (.dT kvs) ∧ ∀ q bs, H q = none → IsKeys H kvs bs → Q (.ref q) (upd H q (.lst (bs.map V.ref)))) ∨ ∃ kvs, H d = some (.dK kvs) ∧ ∀ q, H q = none → Q (.ref q) (upd H q (.lst (kvs.map fun kv => kV kv.1))))
theorem call_list_keys (hc : X.calm = true) : CallR X (.type "list") rListKeys := by
  intro pins s σ H xs us Q I r h
  obtain ⟨p, d, rfl, hp, h⟩ := h
  obtain ⟨u, rfl, rx⟩ := r.one
  cases rx
  obtain ⟨hv, _⟩ := (show ObjOk X.prog X.w H s.heap p (keysO p d) from I.hok p _ hp)
  rcases h with ⟨kvs, hd, q⟩ | ⟨kvs, hd, q⟩
  · obtain ⟨z, hs, ks, pr, o, es, ep, ho, hx, hdt, he, hn⟩ := (show ObjOk X.prog X.w H s.heap d (.dT kvs) from I.hok d _ hd)
    have l1 : es.size = ks.length := size_of_entries he
    have l2 : kvs.length = ks.length := Paired.length pr
    refine PySem.W.kdl_call (KdlSrc.rawKeys (es := es) (ep := ep)) (I.ok.hd hc) ⟨hv, o, ho, hx, hdt⟩ (by omega) fun h' tk acc' c' kp e it => ?_
    have eb := keys_listed he it.1 fun i v hv => (by
      obtain ⟨hi, hv⟩ := it.2 i v hv
      exact ⟨_, Array.getElem?_eq_getElem hi, hv⟩)
    have rv : Vals ((ks.map fun x => x.2.1).map V.ref) acc'.toList := by rw [eb]; exact vals_refs _
    have hz : ((ks.map fun x => x.2.1).map V.ref).length ≤ sizeLine := by rw [List.length_map, List.length_map]; omega
    refine ⟨.ref s.heap.objs.size, _, I.laid (t' := tk) (o := .lst ((ks.map fun x => x.2.1).map V.ref)) kp (Nat.le_refl _) ?_, rfl, q _ _ (I.hok.fresh (Nat.le_refl _)) (isKeys_of pr)⟩
    exact ⟨hz, acc'.toList, c', rv, by rw [Array.toArray_toList]; exact e⟩
  · obtain ⟨z, lo, vs, rk, hdo⟩ := (show ObjOk X.prog X.w H s.heap d (.dK kvs) from I.hok d _ hd)
    obtain ⟨ep, hat⟩ := hdo.dictAt
    have hl : kvs.length = vs.length := Paired.length rk
    refine PySem.W.kdl_call (PySem.W.kdl_keys (knd := mixKind X.prog X.w) (kvs := vs) (ep := ep)) (I.ok.hd hc) ⟨hv, hat⟩ (by omega) fun h' tk acc c' kp e hacc => ?_
    have rv : Vals (kvs.map fun kv => kV kv.1) acc.toList := by
      have el : acc.toList.length = acc.size := by simp
      refine vals_of_at (by rw [List.length_map, el, hacc.1, hl]) fun j x w h1 h2 => ?_
      obtain ⟨k, y, hky, hi⟩ := hacc.2 j w (by rw [← Array.getElem?_toList]; exact h2)
      have e1 : (kvs.map (·.1))[j]? = some k := by
        rw [KV.keys rk, List.getElem?_map, hky] <;> rfl
      have e2 : (kvs.map fun kv => kV kv.1)[j]? = some (kV k) := by
        have e3 : (kvs.map fun kv => kV kv.1) = (kvs.map (·.1)).map kV := by rw [List.map_map] <;> rfl
        rw [e3, List.getElem?_map, e1] <;> rfl
      rw [e2] at h1
      cases h1
      exact keyIs_rel hi
    have hz : (kvs.map fun kv => kV kv.1).length ≤ sizeLine := by rw [List.length_map]; omega
    refine ⟨.ref s.heap.objs.size, _, I.laid (t' := tk) (o := .lst (kvs.map fun kv => kV kv.1)) kp (Nat.le_refl _) ?_, rfl, q _ (I.hok.fresh (Nat.le_refl _))⟩
    exact ⟨hz, acc.toList, c', rv, by rw [Array.toArray_toList]; exact e⟩
end
def scalD : PyData → Bool
  | .none => true
  | .bool _ => true
  | .int _ => true
  | .str _ => true
  | _ => false
def tiny : Nat → PyData → Prop
  | 0, d => scalD d = true
  | n + 1, d => scalD d = true ∨ ∃ ds, d = .tuple ds ∧ ds.length ≤ 100 ∧ ∀ x ∈ ds, tiny n x
theorem DtAll.length {H : Hp} : ∀ {vs : List V} {ds : List PyData}, DtAll H vs ds → vs.length = ds.length
  | _, _, .nil => rfl
  | _, _, .cons _ r => by rw [List.length_cons, List.length_cons, r.length]
theorem DtAll.at_ {H : Hp} : ∀ {vs : List V} {ds : List PyData}, DtAll H vs ds → ∀ (i : Nat) v d, vs[i]? = some v → ds[i]? = some d → Dt H v d
  | _, _, .nil, i, v, d, h, _ => by simp at h
  | _, _, .cons h r, 0, v, d, h1, h2 => by
    obtain rfl := Option.some.inj h1
    obtain rfl := Option.some.inj h2
    exact h
  | _, _, .cons h r, i + 1, v, d, h1, h2 => r.at_ i v d h1 h2
theorem scal_dt {H : Hp} {x y : V} {d : PyData} (h : scalD d = true) (hx : Dt H x d) (hy : Dt H y d) : x = y ∧ Scal y := by
  cases hx <;> cases hy <;> first | exact ⟨rfl, trivial⟩ | cases h
theorem Lk.scal {H : Hp} {n : Nat} {x y : V} (h : x = y ∧ Scal y) : Lk H n x y := by
  cases n with
  | zero => exact h
  | succ n => exact .inl h
theorem lk_dt {H : Hp} : ∀ (n : Nat) {x y : V} {d : PyData}, tiny n d → Dt H x d → Dt H y d → Lk H n x y
  | 0, x, y, d, t, hx, hy => scal_dt t hx hy
  | n + 1, x, y, d, t, hx, hy => by
    rcases t with t | ⟨ds, rfl, hl, hi⟩
    · exact .inl (scal_dt t hx hy)
    · cases hx with
      | tup ha ra =>
        cases hy with
        | tup hb rb =>
          refine .inr (.inl ⟨_, _, _, _, rfl, rfl, ha, hb, by rw [ra.length, rb.length], by rw [ra.length]; omega, fun i u v h1 h2 => ?_⟩)
          have hlt : i < ds.length := by
            have := (List.getElem?_eq_some_iff.mp h1).1
            rw [ra.length] at this
            exact this
          have e := List.getElem?_eq_getElem hlt
          exact lk_dt n (hi _ (List.getElem_mem hlt)) (ra.at_ i _ _ h1 e) (rb.at_ i _ _ h2 e)
def Sm (ds : List PyData) : Prop := ds.length ≤ 100 ∧ ∀ d ∈ ds, tiny 2 d
theorem lk_lists {H : Hp} {p q : Addr} {us ws : List V} {ds : List PyData} (s : Sm ds) (hp : H p = some (.lst us)) (hq : H q = some (.lst ws)) (hu : DtAll H us ds) (hw : DtAll H ws ds) : Lk H 3 (.ref p) (.ref q) := by
  refine .inr (.inr ⟨_, _, _, _, rfl, rfl, hp, hq, by rw [hu.length, hw.length], by rw [hu.length]; have := s.1; omega, fun i u v h1 h2 => ?_⟩)
  have hlt : i < ds.length := by
    have := (List.getElem?_eq_some_iff.mp h1).1
    rw [hu.length] at this
    exact this
  have e := List.getElem?_eq_getElem hlt
  exact lk_dt 2 (s.2 _ (List.getElem_mem hlt)) (hu.at_ i _ _ h1 e) (hw.at_ i _ _ h2 e)
/-- what is told of cells and names -/
structure Fn (cells : Cells) (names : Names) : Prop where
  g : Good cells names
  c : ∀ e ∈ cells, Sm e.2
  n : ∀ e ∈ names, ∀ ds, e.2 = some ds → Sm ds
/-- the law's own two dicts -/
structure TD (K : PySem.W.Frag) (H : Hp) (cd nd : Addr) (cells : Cells) (names : Names) : Prop where
  cs : ∃ kvs, H cd = some (.dT kvs) ∧ Ents idK (LAt K H) kvs cells ∧ kvs.length ≤ 900
  ns : ∃ nvs, H nd = some (.dK nvs) ∧ Ents keyW (NAt K H) nvs names ∧ nvs.length ≤ 900
theorem TD.same {K : PySem.W.Frag} {H H' : Hp} {cd nd : Addr} {cells : Cells} {names : Names} (s : Same H H') (h : TD K H cd nd cells names) : TD K H' cd nd cells names := by
  obtain ⟨⟨kvs, h2, h3, h4⟩, ⟨nvs, h5, h6, h7⟩⟩ := h
  exact ⟨⟨kvs, s _ _ h2, ents_kd (KD.of s) h3, h4⟩, ⟨nvs, s _ _ h5, entsN_kd (KD.of s) h6, h7⟩⟩
theorem lk_tu {H : Hp} : ∀ {xs ys : List (V × (Int × Int))}, xs.map Prod.snd = ys.map Prod.snd → (∀ z ∈ xs, TuAt H z.1 z.2) → (∀ z ∈ ys, TuAt H z.1 z.2) → ∀ (i : Nat) u v, (xs.map Prod.fst)[i]? = some u → (ys.map Prod.fst)[i]? = some v → Lk H 2 u v := fun {xs ys} e hx hy i u v h1 h2 => by
  rw [List.getElem?_map] at h1 h2
  obtain ⟨x, hx1, rfl⟩ := Option.map_eq_some_iff.mp h1
  obtain ⟨y, hy1, rfl⟩ := Option.map_eq_some_iff.mp h2
  have es : x.2 = y.2 := by
    have this : (List.map Prod.snd xs)[i]? = (List.map Prod.snd ys)[i]? := by rw [e]
    rw [List.getElem?_map, List.getElem?_map, hx1, hy1] at this
    exact Option.some.inj this
  obtain ⟨a, ea, ha⟩ := hx x (List.mem_of_getElem? hx1)
  obtain ⟨b, eb, hb⟩ := hy y (List.mem_of_getElem? hy1)
  rw [ea, eb]
  rw [← es] at hb
  refine lk_dt 2 (d := idD x.2) (.inr ⟨_, rfl, (by show 2 ≤ 100; decide), fun d hd => ?_⟩) (.tup ha (.cons (.int _) (.cons (.int _) .nil))) (.tup hb (.cons (.int _) (.cons (.int _) .nil)))
  left
  simp at hd
  rcases hd with rfl | rfl <;> rfl
theorem smE (cells : Cells) (names : Names) (f : Fn cells names) (z : Int × Int) : Sm ((getE cells z).getD []) := by
  cases e : getE cells z with
  | none => exact ⟨Nat.zero_le _, fun _ h => nomatch h⟩
  | some ds => exact f.c _ (getE_key e)
/-- sorted of the key tuples of a dict -/
theorem keys_zip {H : Hp} {kvs : List (List Key × V)} {bs : List Addr} {cells : Cells} (hk : IsKeys H kvs bs) (e : kvs.map Prod.fst = (cells.map Prod.fst).map idK) : ∃ zs : List (V × (Int × Int)), zs.map Prod.fst = bs.map V.ref ∧ zs.map Prod.snd = cells.map Prod.fst ∧ ∀ z ∈ zs, TuAt H z.1 z.2 := by
  have l1 := Paired.length hk
  have l2 := congrArg List.length e
  rw [List.length_map, List.length_map, List.length_map] at l2
  refine ⟨(bs.map V.ref).zip (cells.map Prod.fst), List.map_fst_zip (by rw [List.length_map, List.length_map]; omega), List.map_snd_zip (by rw [List.length_map, List.length_map]; omega), keysTu hk e⟩
theorem zs_alike (zs : List (V × (Int × Int))) : PySem.W.AllAlike ((zs.map gK).map Prod.snd) ∧ PySem.W.Sortable ((zs.map gK).map Prod.snd) ∧ ∀ b ∈ zs.map gK, b.2.depth ≤ 50 := by
  refine ⟨fun d1 h1 d2 h2 => ?_, .inl fun d1 h1 => ?_, fun b hb => ?_⟩
  · obtain ⟨b1, g1, rfl⟩ := List.mem_map.mp h1
    obtain ⟨b2, g2, rfl⟩ := List.mem_map.mp h2
    obtain ⟨y1, _, rfl⟩ := List.mem_map.mp g1
    obtain ⟨y2, _, rfl⟩ := List.mem_map.mp g2
    exact alikeI _ _
  · obtain ⟨b1, g1, rfl⟩ := List.mem_map.mp h1
    obtain ⟨y1, _, rfl⟩ := List.mem_map.mp g1
    exact ⟨_, _, rfl⟩
  · obtain ⟨y, _, rfl⟩ := List.mem_map.mp hb
    have := idD_depth y.2
    show (idD y.2).depth ≤ 50
    omega
theorem ws_alike (ws : List Str) : PySem.W.AllAlike ((ws.map sK).map Prod.snd) ∧ PySem.W.Sortable ((ws.map sK).map Prod.snd) ∧ ∀ b ∈ ws.map sK, b.2.depth ≤ 50 := by
  refine ⟨fun d1 h1 d2 h2 => ?_, .inr fun d1 h1 => ?_, fun b hb => ?_⟩
  · obtain ⟨b1, g1, rfl⟩ := List.mem_map.mp h1
    obtain ⟨b2, g2, rfl⟩ := List.mem_map.mp h2
    obtain ⟨y1, _, rfl⟩ := List.mem_map.mp g1
    obtain ⟨y2, _, rfl⟩ := List.mem_map.mp g2
    simp [sK, PySem.W.alike]
  · obtain ⟨b1, g1, rfl⟩ := List.mem_map.mp h1
    obtain ⟨y1, _, rfl⟩ := List.mem_map.mp g1
    exact ⟨(fun z => nomatch z), (fun xs z => nomatch z)⟩
  · obtain ⟨y, _, rfl⟩ := List.mem_map.mp hb
    simp [sK, PyData.depth]
theorem lk_strs {H : Hp} {W : List Str} : ∀ (i : Nat) u v, (W.map V.str)[i]? = some u → (W.map V.str)[i]? = some v → Lk H 2 u v := fun i u v h1 h2 => by
  rw [h1] at h2
  obtain rfl := Option.some.inj h2
  rw [List.getElem?_map] at h1
  obtain ⟨x, _, rfl⟩ := Option.map_eq_some_iff.mp h1
  exact Lk.scal ⟨rfl, trivial⟩
/-- cells.get(cell, []) of the law's own dict -/
theorem TD.got {K : PySem.W.Frag} {H : Hp} {cd nd : Addr} {cells : Cells} {names : Names} {tb l0 : Addr} {z : Int × Int} (D : TD K H cd nd cells names) (ht : H tb = some (.tup [.int z.1, .int z.2])) (hl : H l0 = some (.lst [])) :
    ∃ r, DGet H cd (.ref tb) r ∧ ∃ l ws, r.getD (.ref l0) = .ref l ∧ H l = some (.lst ws) ∧ DtAll H ws ((getE cells z).getD []) := by
  obtain ⟨⟨kvs, hC, eC, _⟩, _⟩ := D
  obtain ⟨e1, e2⟩ := ents_get (fun _ _ => idK_inj) eC z
  have dg := DGet.t (k := idK z) hC ht
  cases hg : getE cells z with
  | none =>
    rw [e1 hg] at dg
    exact ⟨none, dg, l0, [], rfl, hl, .nil⟩
  | some ds =>
    obtain ⟨v, ev, l, us, rfl, hl2, dp⟩ := e2 ds hg
    rw [ev] at dg
    exact ⟨_, dg, l, us, rfl, hl2, dp⟩
theorem TD.gotN {K : PySem.W.Frag} {H : Hp} {cd nd : Addr} {cells : Cells} {names : Names} {w : Str} {b : Option (List PyData)} (D : TD K H cd nd cells names) (hb : getE names w = some b) : ∃ v, DGet H nd (.str w) (some v) ∧ NAt K H v b := by
  obtain ⟨_, ⟨nvs, hN, eN, _⟩⟩ := D
  obtain ⟨e1, e2⟩ := ents_get (fun _ _ => keyW_inj) eN w
  have dg := DGet.k (k := keyW w) hN
  obtain ⟨v, ev, hv⟩ := e2 b hb
  rw [ev] at dg
  exact ⟨v, dg, hv⟩
theorem TD.goneN {K : PySem.W.Frag} {H : Hp} {cd nd : Addr} {cells : Cells} {names : Names} {w : Str} (D : TD K H cd nd cells names) (hb : getE names w = none) : DGet H nd (.str w) none := by
  obtain ⟨_, ⟨nvs, hN, eN, _⟩⟩ := D
  obtain ⟨e1, e2⟩ := ents_get (fun _ _ => keyW_inj) eN w
  have dg := DGet.k (k := keyW w) hN
  rw [e1 hb] at dg
  exact dg
theorem lk_new {K : PySem.W.Frag} {H H' H2 : Hp} {v1 v : V} {b : Option (List PyData)} (n : NewA K H H' v1 b) (s : Same H' H2) (h : NAt K H2 v b) (sm : ∀ ds, b = some ds → Sm ds) : Lk H2 3 v1 v := by
  cases b with
  | none =>
    obtain rfl := n
    obtain rfl := h
    exact Lk.scal ⟨rfl, trivial⟩
  | some ds =>
    obtain ⟨p, us, rfl, _, hp, dt⟩ := n
    obtain ⟨l, ws, rfl, hl, dl⟩ := h
    exact lk_lists (sm ds rfl) (s _ _ hp) hl (dtA_same s dt) dl
theorem sl_tupK {X : Cx} {K : PySem.W.Frag} (h : X.K = K) : SlR X (rSlT K) := by
  subst h
  exact sl_tup
theorem ifNeY {a : Str} {A B : Prop} (q : B) : if (!decide (V.str a = V.str a)) = true then A else B := by
  rw [decide_eq_true rfl]
  exact q
theorem ifNe {a b : Str} {A B : Prop} (h : a ≠ b) (q : A) : if (!decide (V.str a = V.str b)) = true then A else B := by
  rw [decide_eq_false fun z => h (V.str.inj z)]
  exact q
theorem ok4 : PyData.strOk (Str.ofString "gone") = true ∧ PyData.strOk (Str.ofString "name") = true ∧ PyData.strOk (Str.ofString "block") = true := by decide +kernel
theorem arD_lay (a : Ar) : (arD a).canLay0 = true := by
  cases a with
  | gone => simp [arD, PyData.canLay0, PyData.canLayAll0, ok4]
  | name w => simp [arD, PyData.canLay0, PyData.canLayAll0, ok4, w.2]
  | block a b c d => simp [arD, PyData.canLay0, PyData.canLayAll0, ok4]
theorem arD_depth (a : Ar) : (arD a).depth = 1 := by cases a <;> simp [arD, PyData.depth, PyData.depthAll]
theorem arDs_lay : ∀ zs : List Ar, PyData.canLayAll0 (zs.map arD) = true
  | [] => by simp [PyData.canLayAll0]
  | z :: zs => by simp [PyData.canLayAll0, arD_lay z, arDs_lay zs]
theorem arDs_depth : ∀ zs : List Ar, PyData.depthAll (zs.map arD) ≤ 1
  | [] => by simp [PyData.depthAll]
  | z :: zs => by
    have h1 := arDs_depth zs
    have h2 := arD_depth z
    simp only [List.map_cons, PyData.depthAll]
    omega
theorem arDs_shaped (zs : List Ar) : SeqAt.shaped (.list (zs.map arD)) = true := by
  have h1 := arDs_depth zs
  have h2 : PyData.depth (.list (zs.map arD)) ≤ 64 := by
    simp only [PyData.depth]
    omega
  show (PyData.canLay0 (.list (zs.map arD)) && decide (PyData.depth (.list (zs.map arD)) ≤ 64)) = true
  rw [Bool.and_eq_true]
  exact ⟨by simp only [PyData.canLay0]; exact arDs_lay zs, decide_eq_true h2⟩
/-! ### areas of words, blocks of areas -/
theorem ok4b : ("gone" : Str) ≠ "block" ∧ ("name" : Str) ≠ "block" := by decide +kernel
def spTold (K : PySem.W.Frag) (C : Addr) : Sp := fun vs H Q _ => ∃ (g : Gr) (cells : Cells) (names : Names) (w : Str), vs = [.ref g.G, .str w] ∧ GD K C H g cells names ∧
  (∀ H', Same H H' → getE names w = none → Q (.str "none") H') ∧ ∀ b v H', getE names w = some b → Same H H' → NewA K H H' v b → Q v H'
theorem okToldOf (T : Txt K mg) : FnOk P w K mg base CX0 4 T.fToldOf T.fdToldOf ["grid", "word"] (spTold K T.cGrid) := by
  refine T.FToldOf.ok scToldOf (fun vs H Q E h => ?_) (fun cdv A outer s H vs Q E hr h => ?_)
  · obtain ⟨g, cells, names, w, rfl, _⟩ := h
    rfl
  · obtain ⟨g, cells, names, w, rfl, G, q1, q2⟩ := h
    -- slots grid=0 word=1
    refine ⟨_, (pss_one (L2N.ps_try_many rfl rfl takesN (fun W pn xe tk po =>
          (pss_one (ps_ret (pe_methE (pv 0) T.clGrid T.meGrid_Areas (okGrid_Areas T) (hr.mono (by decide)) T.bGrid_Areas (fun σ => L2N.passAt tk σ) (pa_cons (pv 1) pa_nil)))))
        (.cons ⟨rfl, by decide, .inl T.gKUnknownName⟩ (fun a oe cls d pn hz hf =>
          (pss_one (ps_ret (pe_glob (v := (.str "none")) rfl T.g_NO_NAME ⟨_, rfl⟩)))) .nil))), ?_⟩
    obtain ⟨⟨dx, hG⟩, _⟩ := id G
    refine ⟨_, rfl, g.G, dx, _, rfl, hG, rfl, _, rfl, ?_⟩
    dsimp only [tNil]
    refine ⟨g, cells, names, w, rfl, G, fun hn d hd => ?_, fun e => q2 none _ H e (Same.refl _) rfl, fun ds e p us H' s hp hl dt => q2 (some ds) _ H' e s ⟨p, us, rfl, hp, hl, dt⟩⟩
    refine ⟨true, T.mKUnknownName_UnknownName, fun _ a ha => ?_, fun z => nomatch z⟩
    exact q1 _ (same_new hd) hn
abbrev NA : Type := List (Str × Option (List Ar))
def nmA (N : NA) : Names := N.map fun e => (e.1, e.2.map fun as => as.map arD)
theorem getE_nmA : ∀ (N : NA) (w : Str), getE (nmA N) w = (getE N w).map fun o => o.map fun as => as.map arD
  | [], w => rfl
  | e :: N, w => by
    have ih := getE_nmA N w
    unfold getE nmA at ih ⊢
    rw [List.map_cons]
    by_cases z : e.1 = w
    · rw [List.find?_cons_of_pos (by simpa using z), List.find?_cons_of_pos (by simpa using z)]
      rfl
    · rw [List.find?_cons_of_neg (by simpa using z), List.find?_cons_of_neg (by simpa using z)]
      exact ih
def bkOf : Ar → Option Bk
  | .block a b c d => some ⟨a, b, c, d⟩
  | _ => none
def blksOf (N : NA) : Ar → List Bk
  | .name w => match getE N w.1 with
    | some (some as) => as.filterMap bkOf
    | _ => []
  | a => [a].filterMap bkOf
theorem blks_name (N : NA) (w : OkS) : blksOf N (.name w) = match getE N w.1 with
    | some (some as) => as.filterMap bkOf
    | _ => [] := rfl
inductive Bks (H : Hp) : List V → List Bk → Prop where
  | nil : Bks H [] []
  | cons {q : Addr} {k : Bk} {vs : List V} {ks : List Bk} : H q = some (.tup [.int k.t, .int k.l, .int k.b, .int k.r]) → Bks H vs ks → Bks H (.ref q :: vs) (k :: ks)
theorem Bks.mono {H H' : Hp} (s : TK H H') : ∀ {vs ks}, Bks H vs ks → Bks H' vs ks
  | _, _, .nil => .nil
  | _, _, .cons h r => .cons (s _ _ h) (r.mono s)
theorem Bks.len {H : Hp} : ∀ {vs ks}, Bks H vs ks → vs.length = ks.length
  | _, _, .nil => rfl
  | _, _, .cons _ r => congrArg (· + 1) r.len
theorem Bks.app {H : Hp} {us : List V} {bs : List Bk} (h : Bks H us bs) : ∀ {vs ks}, Bks H vs ks → Bks H (vs ++ us) (ks ++ bs)
  | _, _, .nil => h
  | _, _, .cons h2 r => .cons h2 (Bks.app h r)
theorem Bks.get {H : Hp} : ∀ {vs ks}, Bks H vs ks → ∀ (i : Nat) x, vs[i]? = some x → ∃ q k, x = .ref q ∧ ks[i]? = some k ∧ H q = some (.tup [.int k.t, .int k.l, .int k.b, .int k.r])
  | _, _, .nil, i, x, h => by simp at h
  | _, _, .cons (q := q) (k := k) h r, 0, x, e => ⟨q, k, by cases e; rfl, rfl, h⟩
  | _, _, .cons h r, i + 1, x, e => r.get i x (by simpa using e)
/-- names of areas: few in each -/
def NOk (N : NA) : Prop := ∀ e ∈ N, ∀ as, e.2 = some as → as.length ≤ 10
theorem cut1_no (x : V) (us : List V) : ¬ (HT.sIx (x :: us).length 0 (some 1) = 0 ∧ HT.sIx (x :: us).length (x :: us).length none = (x :: us).length) := by
  rintro ⟨h, _⟩
  simp [HT.sIx] at h
theorem cut1 (x : V) (us : List V) : cutV (x :: us) (some 1) none = us := by
  unfold cutV
  have h : HT.sIx (x :: us).length 0 (some 1) = 1 := by
    simp [HT.sIx]
  rw [h]
  show (us.take ((us.length + 1) - 1)) = us
  rw [Nat.add_sub_cancel, List.take_length]
def spBlocksOf (K : PySem.W.Frag) (C : Addr) : Sp := fun vs H Q _ => ∃ (g : Gr) (cells : Cells) (N : NA) (v : V) (a : Ar), vs = [.ref g.G, v] ∧ GD K C H g cells (nmA N) ∧ NOk N ∧ ArAt H v a ∧
  ∀ (H' : Hp) (p : Addr) (us : List V), Same H H' → H p = none → H' p = some (.lst us) → Bks H' us (blksOf N a) → Q (.ref p) H'
theorem fm_snoc (as : List Ar) (i : Nat) (a : Ar) (h : as[i]? = some a) : (as.take (i + 1)).filterMap bkOf = (as.take i).filterMap bkOf ++ [a].filterMap bkOf := by
  rw [List.take_add_one, h, List.filterMap_append]
  rfl
theorem okBlocksOf (T : Txt K mg) : FnOk P w K mg base CX0 5 T.fBlocksOf T.fdBlocksOf ["grid", "area"] (spBlocksOf K T.cGrid) := by
  refine T.FBlocksOf.ok scBlocksOf (fun vs H Q E h => ?_) (fun cdv A outer s H vs Q E hr h => ?_)
  · obtain ⟨g, cells, N, v, a, rfl, _⟩ := h
    rfl
  · obtain ⟨g, cells, N, v, a, rfl, G, nok, ha, q⟩ := h
    -- slots grid=0 area=1 areas=2 told=3 one=4
    refine ⟨_, (pss_cons (ps_set (i := 2) scBlocksOf.nd rfl (Or.inl rfl) (pe_lst (pa_cons (pv 1) pa_nil)))
        (C8.pss_cut (ps_if (pt_cmpR op_eq (pe_ix ix_tup (pv 1) pe_int (fun _ _ => rfl)) pe_str (nomark _))
          (pss_cons (ps_set (i := 3) scBlocksOf.nd rfl (Or.inl rfl) (pe_call (okToldOf T) (hr.mono (by decide)) (by rfl) T.gToldOf T.FToldOf.kp T.bToldOf .nil pass0 (pa_cons (pv 0) (pa_cons (pe_ix ix_tup (pv 1) pe_int (fun _ _ => rfl)) pa_nil))))
          (pss_one (ps_set (i := 2) scBlocksOf.nd rfl (Or.inl rfl) (pe_ifExp (PW.pt (pw_or (pt_cmpR op_isN (pv 3) pe_non (nomark _)) (pw_or1 (pt_cmpR (op_eqD hr.units) (pv 3) (pe_glob (v := (.str "none")) rfl T.g_NO_NAME ⟨_, rfl⟩) (nomark _))))) (pe_lst pa_nil) (pv 3)))))
          pss_nil)
        (pss_one (ps_ret (pe_lc (own := [("one", 4)]) (g := gName 4) rfl scBlocksOf.nd (pi_list (pv 2)) (blkOk_by (own := [("one", 4)]) (N := ["grid", "area", "areas", "told", "one"]) (sc := defScope sBlocksOf) (by decide +kernel)) (fun _ _ _ _ _ => (pg_name (i := 4) scBlocksOf.nd rfl (Or.inl rfl))) (fun _ _ _ _ _ => (pts_one (pt_cmpR op_eq (pe_ix (ix_tupK (K := K) rfl) (pv 4) pe_int (fun _ _ => rfl)) pe_str (nomark _)))) (fun _ _ _ _ _ => (pe_slice (sl_tupK (K := K) rfl) (pv 4) (po_some pe_int) po_none))))))), ?_⟩
    refine ⟨_, rfl, (by show 1 ≤ sizeLine; decide), fun L hL => ?_⟩
    have s1 := same_new (o := .lst [v]) hL
    have hL1 : (upd H L (.lst [v])) L = some (.lst [v]) := upd_same
    have ha1 := ha.mono (TK.of s1)
    have G1 := G.same s1
    generalize upd H L (.lst [v]) = H1 at s1 hL1 ha1 G1
    have blk : ∀ k : Ar, (∀ w, k ≠ .name w) → [k].filterMap bkOf = blksOf N k := fun k hk => by
      cases k with
      | name w => exact absurd rfl (hk w)
      | _ => rfl
    have one : ∀ k : Ar, ArAt H1 v k → Ars H1 [v] [k] := fun k hk => .cons hk .nil
    refine ⟨fun σ H' => ∃ k3 L2 us as, σ = [some (.ref g.G), some v, some (.ref L2), k3, none] ∧ Same H H' ∧ H' L2 = some (.lst us) ∧ Ars H' us as ∧ as.length ≤ 10 ∧ as.filterMap bkOf = blksOf N a, ?_, ?_⟩
    · cases a with
      | gone =>
        obtain ⟨q0, rfl, hq⟩ := id ha1
        refine ⟨_, rfl, q0, _, _, _, rfl, rfl, SqT.of hq, atI_nat (j := 0) rfl, rfl, _, rfl, ifN w1.2.2.2.2 ?_⟩
        exact ⟨_, L, _, _, rfl, s1, hL1, one _ ha1, (by show 1 ≤ 10; decide), blk _ fun w z => nomatch z⟩
      | block t l b r =>
        obtain ⟨q0, rfl, hq⟩ := id ha1
        refine ⟨_, rfl, q0, _, _, _, rfl, rfl, SqT.of hq, atI_nat (j := 0) rfl, rfl, _, rfl, ifN w7.2.2 ?_⟩
        exact ⟨_, L, _, _, rfl, s1, hL1, one _ ha1, (by show 1 ≤ 10; decide), blk _ fun w z => nomatch z⟩
      | name w =>
        obtain ⟨q0, rfl, hq⟩ := id ha1
        refine ⟨_, rfl, q0, _, _, _, rfl, rfl, SqT.of hq, atI_nat (j := 0) rfl, rfl, _, rfl, ifY ?_⟩
        refine ⟨_, rfl, _, rfl, q0, _, _, _, rfl, rfl, SqT.of hq, atI_nat (j := 1) rfl, g, cells, nmA N, w.1, rfl, G1, fun H2 s2 hn => ?_, fun b v2 H2 hb s2 nv => ?_⟩
        · have gn : getE N w.1 = none := by
            rw [getE_nmA] at hn
            cases e : getE N w.1 with
            | none => rfl
            | some o =>
              rw [e] at hn
              cases hn
          have eb : blksOf N (.name w) = [] := by
            rw [blks_name, gn]
          refine ⟨_, rfl, rfl, _, rfl, ite2 (fun c => nomatch (of_decide_eq_true c)) (fun _ => ⟨_, rfl, .str "none", .str "none", .str _, .str _, by decide +kernel, by decide +kernel, _, rfl, ?_⟩)⟩
          rw [str_eqv, decide_eq_true rfl]
          refine iteT ⟨Nat.zero_le _, fun L3 hL3 => ?_⟩
          exact ⟨_, L3, _, _, rfl, (s1.trans s2).trans (same_new hL3), upd_same, .nil, Nat.zero_le _, eb.symm⟩
        · rw [getE_nmA] at hb
          cases e : getE N w.1 with
          | none =>
            rw [e] at hb
            cases hb
          | some o =>
            rw [e] at hb
            obtain rfl := Option.some.inj hb
            cases o with
            | none =>
              have eb : blksOf N (.name w) = [] := by
                rw [blks_name, e]
              obtain rfl := nv
              refine ⟨_, rfl, rfl, _, rfl, ite2 (fun _ => ?_) (fun c => absurd (decide_eq_true rfl) c)⟩
              refine iteT ⟨Nat.zero_le _, fun L3 hL3 => ?_⟩
              exact ⟨_, L3, _, _, rfl, (s1.trans s2).trans (same_new hL3), upd_same, .nil, Nat.zero_le _, eb.symm⟩
            | some as =>
              have eb : blksOf N (.name w) = as.filterMap bkOf := by
                rw [blks_name, e]
              obtain ⟨p, us, rfl, hpn, hp, dt⟩ := nv
              have al := nok _ (getE_key e) as rfl
              refine ⟨_, rfl, rfl, _, rfl, ite2 (fun c => nomatch (of_decide_eq_true c)) (fun _ => ⟨_, rfl, .list (as.map arD), .str "none", .lst (SqL.of hp) dt.dp, .str _, arDs_shaped as, by decide +kernel, _, rfl, ?_⟩)⟩
              rw [show PyData.eqv (.list (as.map arD)) (.str "none") = false by simp [PyData.eqv]]
              refine iteF ⟨_, rfl, ?_⟩
              exact ⟨_, p, us, as, rfl, s1.trans s2, hp, dt_ars dt, al, eb.symm⟩
    · rintro σ H2 ⟨k3, L2, us, as, rfl, s2, h2, ar, al, eb⟩
      refine ⟨_, rfl, L2, rfl, ⟨_, SqL.of h2⟩, fun M hM => ?_⟩
      have hl := ar.len
      refine lc_it (walk_list (a := L2) (xs := us)) (fun i H' => Same H2 H' ∧ ∃ ws, H' M = some (.lst ws) ∧ ws.length ≤ i ∧ Bks H' ws ((as.take i).filterMap bkOf)) ⟨same_new hM, [], upd_same, Nat.zero_le _, .nil⟩ (fun i H' _ h => h.1.seq (SqL.of h2)) ?_ ?_
      · rintro i x H3 H4 hi ⟨s3, ws, hws, wl, bk⟩ ⟨rfl, hx⟩
        obtain ⟨a0, ha0, at0⟩ := ar.get i x hx
        have at3 := at0.mono (TK.of s3)
        have sn := fm_snoc as i a0 ha0
        cases a0 with
        | gone =>
          obtain ⟨q0, rfl, hq⟩ := at3
          refine ⟨rfl, _, rfl, q0, _, _, _, rfl, rfl, SqT.of hq, atI_nat (j := 0) rfl, rfl, _, rfl, ifN ok4b.1 ?_⟩
          exact ⟨s3, ws, hws, by omega, by rw [sn, show [Ar.gone].filterMap bkOf = [] from rfl, List.append_nil]; exact bk⟩
        | name w =>
          obtain ⟨q0, rfl, hq⟩ := at3
          refine ⟨rfl, _, rfl, q0, _, _, _, rfl, rfl, SqT.of hq, atI_nat (j := 0) rfl, rfl, _, rfl, ifN ok4b.2 ?_⟩
          exact ⟨s3, ws, hws, by omega, by rw [sn, show [Ar.name w].filterMap bkOf = [] from rfl, List.append_nil]; exact bk⟩
        | block t l b r =>
          obtain ⟨q0, rfl, hq⟩ := at3
          refine ⟨rfl, _, rfl, q0, _, _, _, rfl, rfl, SqT.of hq, atI_nat (j := 0) rfl, rfl, _, rfl, ifY ?_⟩
          refine ⟨_, rfl, 1, rfl, q0, _, rfl, SqT.of hq, cut1_no _ _, fun p hp => ?_⟩
          rw [cut1]
          have sp := same_new (o := .tup [.int t, .int l, .int b, .int r]) hp
          have hw2 := sp _ _ hws
          refine ⟨ws, hw2, small1000 (by omega), same_mut (s3.trans sp) hM, ws ++ [.ref p], upd_same, by rw [List.length_append]; exact Nat.add_le_add_right wl 1, ?_⟩
          rw [sn]
          exact (Bks.app (.cons (k := ⟨t, l, b, r⟩) upd_same .nil) (bk.mono (TK.of sp))).mono (TK.mut hw2)
      · rintro H3 ⟨s3, ws, hws, wl, bk⟩
        rw [List.take_of_length_le (by rw [hl]; exact Nat.le_refl _), eb] at bk
        exact q H3 M ws (s2.trans s3) (s2.free hM) hws bk
/-! ### set(xs), xs a long list of few different tuples -/
section
open PySem PySem.Calls PyProof.V PyProof.Rows PySem.Spec
variable {P : Program} {w : World} {A : Around} {E : Value → Shared → Prop}
theorem few_of {ks L : List (Addr × List Int)} {i : Nat} {D : List (List Int)} (nd : (L.map (·.2)).Nodup) (g : L2.Got ks i L) (inD : ∀ p ∈ ks, p.2 ∈ D) : L.length ≤ D.length := by
  have key : ∀ (l D : List (List Int)), l.Nodup → (∀ x ∈ l, x ∈ D) → l.length ≤ D.length := by
    intro l
    induction l with
    | nil => exact fun _ _ _ => Nat.zero_le _
    | cons x l ih =>
      intro D nd h
      obtain ⟨n1, n2⟩ := List.nodup_cons.mp nd
      have hx := h x List.mem_cons_self
      have := ih (D.erase x) n2 fun y hy => (List.mem_erase_of_ne fun z => n1 (by rw [← z]; exact hy)).mpr (h y (List.mem_cons_of_mem _ hy))
      rw [List.length_erase_of_mem hx] at this
      have pos : 0 < D.length := List.length_pos_of_mem hx
      rw [List.length_cons]
      omega
  have := key _ D nd fun x hx => by
    obtain ⟨p, hp, rfl⟩ := List.mem_map.mp hx
    exact inD p (List.mem_of_mem_take (g.sub p hp))
  rwa [List.length_map] at this
/-- the set after i items; what was there before stays -/
structure Held (P : Program) (w : World) (h0 : Heap) (S : Addr) (ks : List (Addr × List Int)) (i : Nat) (h : Heap) : Prop where
  keep : ∀ b o, h0.get? b = some o → h.get? b = some o
  at_ : ∃ L es ep t, L2.SetTR P w h S L es ep t ∧ L2.Got ks i L
theorem Held.step {h0 h h' : Heap} {S : Addr} {ks : List (Addr × List Int)} {i : Nat} {wr : List Addr} (x : Held P w h0 S ks i h) (own : ∀ b ∈ wr, h0.get? b = none) (nS : S ∉ wr) (tups : ∀ p ∈ ks, L2.IsT P w h0 p.2 p.1) (m : ∀ b o, b ∉ wr → h.get? b = some o → h'.get? b = some o) : Held P w h0 S ks i h' := by
  have keep' : ∀ b o, h0.get? b = some o → h'.get? b = some o := fun b o e => m b o (fun z => by rw [own b z] at e; cases e) (x.keep b o e)
  obtain ⟨L, es, ep, t, R, g⟩ := x.at_
  exact ⟨keep', L, es, ep, t, R.keep (fun o e => m S o nS e) fun p hp => L2.isT_keep (tups p (List.mem_of_mem_take (g.sub p hp))) keep', g⟩
theorem fill_set {I S : Addr} {fp wr : List Addr} {Pv : Nat → Value → Prop} {St : Nat → Heap → Prop} {ks : List (Addr × List Int)} (W : Walks P w A.in1 I fp wr ks.length Pv St) (nf : S ∉ fp) (vals : ∀ i v, Pv i v → ∃ p, ks[i]? = some p ∧ v = .ref p.1) {h0 : Heap} (tups : ∀ p ∈ ks, L2.IsT P w h0 p.2 p.1) (new : h0.get? S = none)
    (own : ∀ b ∈ wr, h0.get? b = none) (room : A.in1.units < cLine) {D : List (List Int)} (few : D.length ≤ 60) (inD : ∀ p ∈ ks, p.2 ∈ D) : ∀ (r i : Nat) (s : Shared), i + r = ks.length → St i s.heap → Held P w h0 S ks i s.heap →
      codeAny (model P w) A (.builtin "set.update.loop" ⟨[.ref S, .ref I], []⟩) (fun q s' => q = .ok (.ret .none) ∧ ∃ h' tk, s' = { s with heap := h', toks := tk } ∧ Held P w h0 S ks ks.length h') s := by
  have nS : S ∉ wr := fun z => nf (W.sub _ z)
  intro r
  induction r with
  | zero =>
    intro i s e st held
    have ei : i = ks.length := e
    subst ei
    refine codeAny_builtin F.entry_set_update_loop ?_
    rw [Around.under_plainId F.plain_set_update_loop _]
    show wpAny _ A.in1 (pyNext (.ref I) >>= _) _ _ s
    exact wpAny_bind (W.done s _ _ st fun h' tk m => wpAny_pure ⟨rfl, h', tk, rfl, held.step own nS tups m⟩)
  | succ r ih =>
    intro i s e st held
    refine codeAny_builtin F.entry_set_update_loop ?_
    rw [Around.under_plainId F.plain_set_update_loop _]
    show wpAny _ A.in1 (pyNext (.ref I) >>= _) _ _ s
    refine wpAny_bind (W.item i s _ _ (by omega) st fun v h1 tk1 pv st1 m1 => ?_)
    obtain ⟨p, hp, rfl⟩ := vals i v pv
    have held1 := held.step own nS tups m1
    obtain ⟨L, es, ep, t, R, g⟩ := held1.at_
    have lim := few_of R.nd g inD
    have ht : L2.IsT P w h1 p.2 p.1 := L2.isT_keep (tups p (List.mem_of_getElem? hp)) held1.keep
    show wpAny _ A.in1 (holding [Value.ref p.1] (setAdd S (.ref p.1)) >>= _) _ _ _
    refine wpAny_bind (wpAny_holding ?_)
    unfold setAdd
    refine wpAny_holding (wpAny_bind (wpAny_pyHash_tuple room ht ?_))
    refine L2.add_at (s := { s with heap := h1, toks := tk1 + (p.2.length + 1) }) R ht room (by omega) fun b h2 L2' es2 ep2 t2 sb R2 c1 c2 => ?_
    have held2 : Held P w h0 S ks (i + 1) h2 := ⟨fun b o e => (sb.2 b fun z => by rw [z, new] at e; cases e).trans (held1.keep b o e), L2', es2, ep2, t2, R2, by
      by_cases c : p.2 ∈ L.map (·.2)
      · rw [c1 c]
        exact g.same hp c
      · exact g.more hp (c2 c)⟩
    refine wpAny_pure ⟨plainId_quiet F.plain_set_update_loop _, codeAny_mono (ih (i + 1) { s with heap := h2, toks := tk1 + (p.2.length + 1) } (by omega) (W.frame _ _ _ st1 fun b hb o eo => ?_) held2) fun q s' x => ?_⟩
    · rw [sb.2 b fun z => nf (z ▸ hb)]
      exact eo
    · obtain ⟨x1, h', tk, rfl, x2⟩ := x
      exact ⟨x1, h', tk, rfl, x2⟩
/-- the object that set() makes first -/
def bare (w : World) : Obj := { cls := .type "set", dict := none, data := .set #[] 0 (.fresh 0 0 (!w.params.followText "set-order")) }
/-- set.__init__ of a new set and a list -/
theorem init_few {l : Addr} {items : Array Value} {ks : List (Addr × List Int)} {s : Shared} (hh : A.handled = none) (hl : s.heap.IsList l items) (hit : items.toList = ks.map fun p => Value.ref p.1) (tups : ∀ p ∈ ks, L2.IsT P w s.heap p.2 p.1) (room : A.in1.units < cLine) {D : List (List Int)} (few : D.length ≤ 60) (inD : ∀ p ∈ ks, p.2 ∈ D) :
    wpAny (model P w) A (Builtin.«set.__init__» ⟨[.ref s.heap.objs.size, .ref l], []⟩) (fun fin s' => fin = .done (.ret .none) ∧ ∃ h' tk, s' = { s with heap := h', toks := tk } ∧ Held P w s.heap s.heap.objs.size ks ks.length h') E { s with heap := s.heap.push (bare w) } := by
  have nl : ks.length = items.size := by
    have := congrArg List.length hit
    rw [Array.length_toList, List.length_map] at this
    exact this.symm
  have there := hl
  obtain ⟨ol, hol, hcl, cl, hdl⟩ := there
  have gone : ∀ b, s.heap.objs.size ≤ b → s.heap.get? b = none := fun b hb => by
    cases q : s.heap.get? b with
    | none => rfl
    | some o => exact absurd (Nat.lt_of_lt_of_le (Heap.lt_size q) hb) (Nat.lt_irrefl _)
  have ls : l < s.heap.objs.size := Heap.lt_size hol
  have setAt : (s.heap.push { cls := .type "set", dict := none, data := .set #[] 0 (.fresh 0 0 (!w.params.followText "set-order")) }).get? s.heap.objs.size = some { cls := .type "set", dict := none, data := .set #[] 0 (.fresh 0 0 (!w.params.followText "set-order")) } := Heap.get?_push_size _ rfl
  have listP : (s.heap.push { cls := .type "set", dict := none, data := .set #[] 0 (.fresh 0 0 (!w.params.followText "set-order")) }).IsList l items := hl.push _
  obtain ⟨oc, od, oda, osl⟩ := ol
  obtain rfl : oc = .type "list" := hcl
  obtain rfl : oda = .seq items cl := hdl
  have listAt : (s.heap.push { cls := .type "set", dict := none, data := .set #[] 0 (.fresh 0 0 (!w.params.followText "set-order")) }).get? l = some { cls := .type "list", dict := od, data := .seq items cl, slots := osl } := Heap.get?_push_of_some _ hol
  have f1 := F.sub_list_set
  have f2 := F.sub_list_frozenset
  have f3 : (Value.type "list" == Value.type "dict") = false := by decide
  unfold bare Builtin.«set.__init__» noKeywords Builtin.Frozenset.updateFrom
  generalize it : pyIter = iter_
  wp_walk
  subst it
  refine wpAny_pyIter_list listP ?_
  have size1 : (s.heap.push { cls := .type "set", dict := none, data := .set #[] 0 (.fresh 0 0 (!w.params.followText "set-order")) }).objs.size = s.heap.objs.size + 1 := Heap.size_push ..
  have walk := Walks.list (prog := P) (w := w) (A := A.in1) (by simp [hh]) (s.heap.push { cls := .type "set", dict := none, data := .set #[] 0 (.fresh 0 0 (!w.params.followText "set-order")) }).objs.size l (by rw [size1]; exact Nat.ne_of_lt (Nat.lt_succ_of_lt ls)) items
  rw [← nl] at walk
  refine wpAny_bind (wpAny_runValue (codeAny_mono (fill_set walk (S := s.heap.objs.size) (h0 := s.heap) (D := D) ?nf ?vals tups (gone _ (Nat.le_refl _)) ?own room few inD ks.length 0 _ (Nat.zero_add _) ⟨⟨_, Heap.get?_push_size _ rfl, rfl, rfl⟩, listP.push _⟩ ⟨fun b o e => Heap.get?_push_of_some _ (Heap.get?_push_of_some _ e), [], #[], 0, _, L2.setTR_fresh (Heap.get?_push_of_some _ setAt), L2.Got.zero ks⟩) fun q s' x => ?_))
  case nf =>
    rw [size1]
    intro z
    rcases List.mem_cons.mp z with z | z
    · exact absurd z (Nat.ne_of_lt (Nat.lt_succ_self _))
    · exact absurd (List.mem_singleton.mp z) (Nat.ne_of_gt ls)
  case own =>
    intro b hb
    rw [List.mem_singleton.mp hb, size1]
    exact gone _ (Nat.le_succ _)
  case vals =>
    intro i v hv
    have q : items.toList[i]? = some v := by rw [Array.getElem?_toList]; exact hv
    rw [hit, List.getElem?_map] at q
    obtain ⟨p, hp, e⟩ := Option.map_eq_some_iff.mp q
    exact ⟨p, hp, e.symm⟩
  obtain ⟨rfl, h', tk, rfl, held⟩ := x
  show wpAny _ _ (pure ()) _ _ _
  refine wpAny_pure ?_
  show wpAny _ _ (ret Value.none) _ _ _
  exact wpAny_pure ⟨rfl, h', tk, rfl, held⟩
set_option maxHeartbeats 3200000 in
theorem call_set_few {l : Addr} {items : Array Value} {ks : List (Addr × List Int)} {s : Shared} {Q : Value → Shared → Prop} (hh : A.handled = none) (hl : s.heap.IsList l items) (hit : items.toList = ks.map fun p => Value.ref p.1) (tups : ∀ p ∈ ks, L2.IsT P w s.heap p.2 p.1) (room : A.units + 5 < cLine) {D : List (List Int)} (few : D.length ≤ 60) (inD : ∀ p ∈ ks, p.2 ∈ D)
    (h : ∀ (h' : Heap) (tk : Nat), Held P w s.heap s.heap.objs.size ks ks.length h' → Q (.ref s.heap.objs.size) { s with heap := h', toks := tk }) : wpAny (model P w) A (call (.type "set") [.ref l]) Q E s := by
  obtain ⟨c, tl, hmro⟩ := F.called_set.mro
  have made := F.called_set.made
  have sub := F.called_set.sub
  have notT := F.called_set.notType
  have can := F.called_set.canCreate
  have chk := F.typeCall_set_1 (.ref l)
  refine wpAny_call (codeAny_of_tree ?_)
  show wpAny _ _ (callAny (.type "set") _) _ _ _
  refine wpAny_pure ⟨Code.quiet_builtin _ (by decide +kernel), codeAny_builtin F.entry_type_call ?_⟩
  rw [Around.under_plain (weight_type_call_type "set" [.ref l] []) rfl]
  repeat (any_goals (first | assumption | wp_step))
  refine codeAny_mono (code_set_led1 (.ref l) (E := E) (Q₁ := fun o s1 => o = .ref s.heap.objs.size ∧ s1 = { s with heap := s.heap.push (bare w) }) ⟨rfl, rfl⟩) fun r s1 hr => ?_
  cases r with
  | error e => exact hr
  | ok f =>
    cases f with
    | next => exact hr.elim
    | brk => exact hr.elim
    | cont => exact hr.elim
    | ret o =>
      obtain ⟨rfl, rfl⟩ := hr
      have tyS : Shared.TypeIs { s with heap := s.heap.push (bare w) } (.ref s.heap.objs.size) "set" := ⟨_, Heap.get?_push_size _ rfl, rfl⟩
      have look := F.called_set.init.lookup
      have bind := F.called_set.init.bind (.ref s.heap.objs.size)
      repeat (any_goals (first | assumption | wp_step))
      refine codeAny_mono (codeAny_call_builtin (R := fun r s' => r = .ok (.ret .none) ∧ ∃ h' tk, s' = { s with heap := h', toks := tk } ∧ Held P w s.heap s.heap.objs.size ks ks.length h') F.called_set.init.plain F.entry_set_init (check_set_init_1 tyS ?_)) fun r2 s2 x => ?_
      · refine wpAny_mono (init_few (E := fun _ _ => False) (by simp [hh]) hl hit tups (by show A.units + 1 + 1 + 1 < cLine; omega) few inD) (fun fin s' x => ?_) fun _ _ z => z.elim
        obtain ⟨rfl, y⟩ := x
        exact ⟨rfl, y⟩
      · obtain ⟨rfl, h', tk, rfl, held⟩ := x
        dsimp only
        repeat (any_goals (first | assumption | wp_step))
        exact h h' tk held
end
section
variable {X : Cx}
/-- set(xs), xs tuples of ints of which at most 60 differ -/
def rSetFew (K : PySem.W.Frag) (P : Program) (w : World) : List V → Hp → VK → Prop := fun xs H Q => ∃ (l : Addr) (ks : List (Addr × List Int)) (D : List (List Int)), xs = [V.ref l] ∧ SqL K H l (ks.map fun p => V.ref p.1) ∧ (∀ p ∈ ks, SqT K H p.1 (p.2.map V.int)) ∧ D.length ≤ 60 ∧ (∀ p ∈ ks, p.2 ∈ D) ∧
  ∀ a L, H a = none → (∀ p ∈ L, p ∈ ks) → (∀ p ∈ ks, p.2 ∈ L.map (·.2)) → Q (.ref a) (upd H a (L2.SetTO P w a L))
theorem cr_setFew (hc : X.calm = true) (hu : X.A.units + 64 < cLine) : CallR X (.type "set") (rSetFew X.K X.prog X.w) := by
  intro pins s σ H xs us Q I r h
  obtain ⟨l, ks, D, rfl, hl, tups, few, inD, q⟩ := h
  obtain ⟨items, vals, pl, _⟩ := I.list hl
  rw [Vals.ref1 r]
  refine call_set_few (D := D) (ks := ks) (I.ok.hd hc) pl.isList (by simpa using L2.refs_of_vals vals) (fun p hp => I.isT (tups p hp)) (by omega) few inD fun h' tk held => ?_
  obtain ⟨L, es, ep, t, R, g⟩ := held.at_
  exact ⟨.ref s.heap.objs.size, _, I.laid (t' := tk) held.keep (Nat.le_refl _) (L2.setTO_new R.t0), rfl, q _ L (I.hok.fresh (Nat.le_refl _)) (fun p hp => List.mem_of_mem_take (g.sub p hp)) fun p hp => g.all p (by rw [List.take_length]; exact hp)⟩
end
/-! ### what is shown in a cell -/
inductive Ct where
  | text (s : OkS)
  | num (x y : Int)
  | form (t : Tr)
  | blank
def ctD : Ct → PyData
  | .text s => .tuple [.str "text", .str s.1]
  | .num x y => .tuple [.str "number", .tuple [.int x, .int y]]
  | .form t => .tuple [.str "formula", trD t]
  | .blank => .tuple [.str "blank"]
abbrev WC : Type := List ((Int × Int) × List Ct)
def cdW (W : WC) : Cells := W.map fun e => (e.1, e.2.map ctD)
theorem getE_cdW : ∀ (W : WC) (z : Int × Int), getE (cdW W) z = (getE W z).map fun cs => cs.map ctD
  | [], _ => rfl
  | e :: W, z => by
    have ih := getE_cdW W z
    unfold getE cdW at ih ⊢
    rw [List.map_cons]
    by_cases y : e.1 = z
    · rw [List.find?_cons_of_pos (by simpa using y), List.find?_cons_of_pos (by simpa using y)]
      rfl
    · rw [List.find?_cons_of_neg (by simpa using y), List.find?_cons_of_neg (by simpa using y)]
      exact ih
def formOf : List Ct → Option Tr
  | [.form t] => some t
  | _ => none
def formulaAt (W : WC) (z : Int × Int) : Option Tr := formOf ((getE W z).getD [])
theorem shown_data (W : WC) (z : Int × Int) : (getE (cdW W) z).getD [] = ((getE W z).getD []).map ctD := by
  rw [getE_cdW]
  cases getE W z <;> rfl
theorem okw : ("text" : Str) ≠ "formula" ∧ ("number" : Str) ≠ "formula" ∧ ("blank" : Str) ≠ "formula" := by decide +kernel
def spFormula (K : PySem.W.Frag) (C : Addr) : Sp := fun vs H Q _ => ∃ (g : Gr) (W : WC) (names : Names) (a : Addr) (z : Int × Int), vs = [.ref g.G, .ref a] ∧ GD K C H g (cdW W) names ∧ H a = some (.tup [.int z.1, .int z.2]) ∧
  (∀ H', Same H H' → formulaAt W z = none → Q .non H') ∧ ∀ H' v t, Same H H' → formulaAt W z = some t → TrAt H' v t → Q v H'
theorem okFormulaOf (T : Txt K mg) : FnOk P w K mg base CX0 2 T.fFormulaOf T.fdFormulaOf ["grid", "cell"] (spFormula K T.cGrid) := by
  refine T.FFormulaOf.ok scFormulaOf (fun vs H Q E h => ?_) (fun cdv A outer s H vs Q E hr h => ?_)
  · obtain ⟨g, W, names, a, z, rfl, _⟩ := h
    rfl
  · obtain ⟨g, W, names, a, z, rfl, G, ha, q1, q2⟩ := h
    -- slots grid=0 cell=1 shown=2
    refine ⟨_, (pss_cons (ps_set (i := 2) scFormulaOf.nd rfl (Or.inl rfl) (pe_meth (pv 0) T.clGrid T.meGrid_Shown (okGrid_Shown T) (hr.mono (by decide)) T.bGrid_Shown .nil pass0 (pa_cons (pv 1) pa_nil)))
        (pss_cons (ps_if (PW.pt (pw_and (pt_cmpR op_eq (pe_callB call_len_seq (by rfl) T.z_len PySem.boot_len (pa_cons (pv 2) pa_nil)) pe_int (nomark _)) (pw_and1 (pt_cmpR op_eq (pe_ix ix_tup (pe_ix ix_list (pv 2) pe_int (fun _ _ => rfl)) pe_int (fun _ _ => rfl)) pe_str (nomark _)))))
          (pss_one (ps_ret (pe_ix ix_tup (pe_ix ix_list (pv 2) pe_int (fun _ _ => rfl)) pe_int (fun _ _ => rfl))))
          pss_nil)
        (pss_one (ps_ret pe_non)))), ?_⟩
    obtain ⟨⟨dx, hG⟩, _⟩ := id G
    refine ⟨_, rfl, g.G, dx, _, rfl, hG, rfl, _, rfl, g, cdW W, names, a, z, rfl, G, ha, fun p us H1 s1 hp dt hpn => ?_⟩
    rw [shown_data] at dt
    have ef : formulaAt W z = formOf ((getE W z).getD []) := rfl
    generalize (getE W z).getD [] = cs at dt ef
    have ln := dt.length
    rw [List.length_map] at ln
    cases cs with
    | nil =>
      rw [dt.end_] at hp
      exact ⟨_, rfl, p, _, rfl, .inl (SqL.of hp), rfl, _, rfl, ite2 (fun c => nomatch (of_decide_eq_true c)) (fun _ => iteF (q1 _ s1 ef))⟩
    | cons c cs =>
      cases cs with
      | cons c2 cs =>
        have e2 : formulaAt W z = none := by
          rw [ef]
          cases c <;> rfl
        refine ⟨_, rfl, p, _, rfl, .inl (SqL.of hp), rfl, _, rfl, ite2 (fun y => ?_) (fun _ => iteF (q1 _ s1 e2))⟩
        have y := V.int.inj (of_decide_eq_true y)
        rw [ln, List.length_cons, List.length_cons] at y
        omega
      | nil =>
        obtain ⟨x, r, rfl, hd, r2⟩ := dt.un
        obtain rfl := r2.end_
        cases c with
        | form t =>
          obtain ⟨q0, xs, rfl, hq, ra⟩ := hd.tup_inv
          obtain ⟨_, _, rfl, h1, rb⟩ := ra.un
          obtain ⟨v, _, rfl, h2, rc⟩ := rb.un
          obtain rfl := rc.end_
          rw [h1.str_inv] at hq
          refine ⟨_, rfl, p, _, rfl, .inl (SqL.of hp), rfl, _, rfl, iteT ⟨_, rfl, p, _, _, _, rfl, rfl, SqL.of hp, atI_nat (j := 0) rfl, q0, _, _, _, rfl, rfl, SqT.of hq, atI_nat (j := 0) rfl, rfl, _, rfl, ifY ?_⟩⟩
          exact ⟨_, rfl, p, _, _, _, rfl, rfl, SqL.of hp, atI_nat (j := 0) rfl, q0, _, _, _, rfl, rfl, SqT.of hq, atI_nat (j := 1) rfl, q2 _ v t s1 ef (dt_tr h2)⟩
        | text w =>
          obtain ⟨q0, xs, rfl, hq, ra⟩ := hd.tup_inv
          obtain ⟨_, _, rfl, h1, rb⟩ := ra.un
          rw [h1.str_inv] at hq
          exact ⟨_, rfl, p, _, rfl, .inl (SqL.of hp), rfl, _, rfl, iteT ⟨_, rfl, p, _, _, _, rfl, rfl, SqL.of hp, atI_nat (j := 0) rfl, q0, _, _, _, rfl, rfl, SqT.of hq, atI_nat (j := 0) rfl, rfl, _, rfl, ifN okw.1 (q1 _ s1 ef)⟩⟩
        | num x y =>
          obtain ⟨q0, xs, rfl, hq, ra⟩ := hd.tup_inv
          obtain ⟨_, _, rfl, h1, rb⟩ := ra.un
          rw [h1.str_inv] at hq
          exact ⟨_, rfl, p, _, rfl, .inl (SqL.of hp), rfl, _, rfl, iteT ⟨_, rfl, p, _, _, _, rfl, rfl, SqL.of hp, atI_nat (j := 0) rfl, q0, _, _, _, rfl, rfl, SqT.of hq, atI_nat (j := 0) rfl, rfl, _, rfl, ifN okw.2.1 (q1 _ s1 ef)⟩⟩
        | blank =>
          obtain ⟨q0, xs, rfl, hq, ra⟩ := hd.tup_inv
          obtain ⟨_, _, rfl, h1, rb⟩ := ra.un
          rw [h1.str_inv] at hq
          exact ⟨_, rfl, p, _, rfl, .inl (SqL.of hp), rfl, _, rfl, iteT ⟨_, rfl, p, _, _, _, rfl, rfl, SqL.of hp, atI_nat (j := 0) rfl, q0, _, _, _, rfl, rfl, SqT.of hq, atI_nat (j := 0) rfl, rfl, _, rfl, ifN okw.2.2 (q1 _ s1 ef)⟩⟩
theorem ok_up : ∀ t : Tr, t.ok 3 → t.ok 8
  | .gone, _ => trivial
  | .num _ _, _ => trivial
  | .cell _ _, _ => trivial
  | .call n as, o => Nat.le_trans o (by decide)
  | .neg t, o => ok_up t o
  | .op s l r, o => ⟨ok_up l o.1, ok_up r o.2⟩
/-! ### the cells that a cell reads -/
def readsT (N : NA) (t : Tr) : List (Int × Int) := tcells t ++ (tareas t).flatMap fun a => (blksOf N a).flatMap cellsOf
def readsOf (W : WC) (N : NA) (z : Int × Int) : List (Int × Int) := match formulaAt W z with
  | some t => readsT N t
  | none => []
def fz (N : NA) (a : Ar) : List (Int × Int) := (blksOf N a).flatMap cellsOf
theorem flat_len_le {α β : Type} {f : α → List β} {m : Nat} : ∀ l : List α, (∀ x ∈ l, (f x).length ≤ m) → (l.flatMap f).length ≤ l.length * m
  | [], _ => Nat.zero_le _
  | x :: l, h => by
    have h1 := h x List.mem_cons_self
    have h2 := flat_len_le l fun y hy => h y (List.mem_cons_of_mem _ hy)
    rw [List.flatMap_cons, List.length_append, List.length_cons, Nat.succ_mul]
    omega
theorem mem_cellsOf {k : Bk} {y : Int × Int} : y ∈ cellsOf k ↔ k.t ≤ y.1 ∧ y.1 ≤ k.b ∧ k.l ≤ y.2 ∧ y.2 ≤ k.r := by
  unfold cellsOf rowOf
  rw [List.mem_flatMap]
  constructor
  · rintro ⟨i, hi, h⟩
    obtain ⟨j, hj, rfl⟩ := List.mem_map.mp h
    rw [List.mem_range] at hi hj
    refine ⟨?_, ?_, ?_, ?_⟩ <;> dsimp only <;> omega
  · rintro ⟨h1, h2, h3, h4⟩
    refine ⟨(y.1 - k.t).toNat, List.mem_range.mpr (by omega), List.mem_map.mpr ⟨(y.2 - k.l).toNat, List.mem_range.mpr (by omega), ?_⟩⟩
    refine Prod.ext ?_ ?_ <;> dsimp only <;> omega
theorem cellsOf_len {R C : Int} {k : Bk} (h : k.ok R C) (hf : R * C ≤ 60) : (cellsOf k).length ≤ 60 := by
  obtain ⟨h1, h2, h3, h4, h5, h6⟩ := h
  have a := flat_len_le (f := rowOf k) (m := (k.r + 1 - k.l).toNat) (List.range (k.b + 1 - k.t).toNat) fun i _ => by rw [rowOf_len]; exact Nat.le_refl _
  rw [List.length_range] at a
  have b : (k.b + 1 - k.t).toNat * (k.r + 1 - k.l).toNat ≤ R.toNat * C.toNat := Nat.mul_le_mul (by omega) (by omega)
  have c : ((R.toNat * C.toNat : Nat) : Int) = R * C := by
    rw [Int.natCast_mul, Int.toNat_of_nonneg (by omega), Int.toNat_of_nonneg (by omega)]
  have : (cellsOf k).length ≤ (k.b + 1 - k.t).toNat * (k.r + 1 - k.l).toNat := a
  omega
/-- all inside a grid of R rows and C columns -/
structure Wld (R C : Int) (W : WC) (N : NA) : Prop where
  rc : RC R C
  few : R * C ≤ 60
  tr : ∀ z t, formulaAt W z = some t → t.okR R C ∧ t.h < 5
  nm : ∀ e ∈ N, ∀ as, e.2 = some as → as.length ≤ 10 ∧ ∀ a ∈ as, a.ins R C
theorem tareas_ins {R C : Int} : ∀ {t : Tr}, t.okR R C → ∀ a ∈ tareas t, a.ins R C
  | .gone, _, a, h => nomatch h
  | .num _ _, _, a, h => nomatch h
  | .cell _ _, _, a, h => nomatch h
  | .neg t, o, a, h => tareas_ins (t := t) o a h
  | .op s l r, o, a, h => by
    rcases List.mem_append.mp h with h | h
    · exact tareas_ins o.1 a h
    · exact tareas_ins o.2.1 a h
  | .call n as, o, a, h => o.2.1 a h
theorem bk_ins {R C : Int} {as : List Ar} (h : ∀ a ∈ as, a.ins R C) : ∀ k ∈ as.filterMap bkOf, k.ok R C := fun k hk => by
  obtain ⟨a, ha, e⟩ := List.mem_filterMap.mp hk
  have hi := h a ha
  cases a with
  | gone => cases e
  | name w => cases e
  | block t l b r =>
    obtain rfl := Option.some.inj e
    exact hi
theorem blks_ok {R C : Int} {W : WC} {N : NA} (wl : Wld R C W N) {a : Ar} (ha : a.ins R C) : (∀ k ∈ blksOf N a, k.ok R C) ∧ (blksOf N a).length ≤ 10 := by
  have one : (∀ k ∈ [a].filterMap bkOf, k.ok R C) ∧ ([a].filterMap bkOf).length ≤ 10 := ⟨bk_ins fun x hx => by rw [List.mem_singleton.mp hx]; exact ha, Nat.le_trans (List.length_filterMap_le _ _) (by show 1 ≤ 10; decide)⟩
  cases a with
  | gone => exact one
  | block t l b r => exact one
  | name w =>
    rw [blks_name]
    cases e : getE N w.1 with
    | none => exact ⟨(fun _ h => nomatch h), Nat.zero_le _⟩
    | some o =>
      cases o with
      | none => exact ⟨(fun _ h => nomatch h), Nat.zero_le _⟩
      | some as =>
        have := wl.nm _ (getE_key e) as rfl
        exact ⟨bk_ins this.2, Nat.le_trans (List.length_filterMap_le _ _) this.1⟩
theorem flat_take {α β : Type} (f : α → List β) {l : List α} {i : Nat} {a : α} (h : l[i]? = some a) : (l.take (i + 1)).flatMap f = (l.take i).flatMap f ++ f a := by
  rw [List.take_add_one, h, List.flatMap_append]
  simp
def pairL (z : Int × Int) : List Int := [z.1, z.2]
def unL (l : List Int) : Int × Int := (l.getD 0 0, l.getD 1 0)
theorem unL_pair (z : Int × Int) : unL (pairL z) = z := rfl
theorem cls_rows {H : Hp} : ∀ {vs : List V} {zs : List (Int × Int)}, Cls H vs zs → ∃ ks : List (Addr × List Int), vs = ks.map (fun p => V.ref p.1) ∧ ks.map (·.2) = zs.map pairL ∧ ∀ p ∈ ks, H p.1 = some (.tup (p.2.map V.int))
  | _, _, .nil => ⟨[], rfl, rfl, fun _ h => nomatch h⟩
  | _, _, .cons (q := q) (z := z) h r => by
    obtain ⟨ks, e1, e2, e3⟩ := cls_rows r
    refine ⟨(q, pairL z) :: ks, by rw [e1]; rfl, by rw [List.map_cons, e2]; rfl, fun p hp => ?_⟩
    rcases List.mem_cons.mp hp with e | hp
    · rw [e]
      exact h
    · exact e3 p hp
theorem tcells_ins {R C : Int} : ∀ {t : Tr}, t.okR R C → ∀ y ∈ tcells t, 0 ≤ y.1 ∧ y.1 < R ∧ 0 ≤ y.2 ∧ y.2 < C
  | .gone, _, y, h => nomatch h
  | .num _ _, _, y, h => nomatch h
  | .call _ _, _, y, h => nomatch h
  | .cell r c, o, y, h => by
    rw [List.mem_singleton.mp h]
    exact o
  | .neg t, o, y, h => tcells_ins (t := t) o y h
  | .op s l r, o, y, h => by
    rcases List.mem_append.mp h with h | h
    · exact tcells_ins o.1 y h
    · exact tcells_ins o.2.1 y h
theorem reads_ins {R C : Int} {W : WC} {N : NA} (wl : Wld R C W N) {t : Tr} (tk : t.okR R C) : ∀ y ∈ readsT N t, 0 ≤ y.1 ∧ y.1 < R ∧ 0 ≤ y.2 ∧ y.2 < C := fun y hy => by
  rcases List.mem_append.mp hy with h | h
  · exact tcells_ins tk y h
  · obtain ⟨a, ha, h⟩ := List.mem_flatMap.mp h
    obtain ⟨k, hk, h⟩ := List.mem_flatMap.mp h
    obtain ⟨o1, o2, o3, o4, o5, o6⟩ := (blks_ok wl (tareas_ins tk a ha)).1 k hk
    have m := mem_cellsOf.mp h
    omega
/-- all cells of a grid -/
def gridB (R C : Int) : Bk := ⟨0, 0, R - 1, C - 1⟩
theorem gridB_ok {R C : Int} (rc : RC R C) : (gridB R C).ok R C := by
  have h1 := rc.r0
  have h2 := rc.c0
  refine ⟨?_, ?_, ?_, ?_, ?_, ?_⟩ <;> show _ <;> simp only [gridB] <;> omega
def spReads (K : PySem.W.Frag) (C0 : Addr) : Sp := fun vs H Q _ => ∃ (g : Gr) (W : WC) (N : NA) (R C : Int) (a : Addr) (z : Int × Int), vs = [.ref g.G, .ref a] ∧ GD K C0 H g (cdW W) (nmA N) ∧ Wld R C W N ∧ H a = some (.tup [.int z.1, .int z.2]) ∧
  ∀ (p : Addr) (Zs : List (V × (Int × Int))) (H' : Hp), Same H H' → H p = none → H' p = some (.lst (Zs.map Prod.fst)) → (∀ y ∈ Zs, TuAt H' y.1 y.2) → (Zs.map Prod.snd).Nodup → (Zs.map Prod.snd).Pairwise (fun a b => ¬ ltK b a) → (∀ y, y ∈ Zs.map Prod.snd ↔ y ∈ readsOf W N z) → Q (.ref p) H'
theorem okCellsRead (T : Txt K mg) : FnOk P w K mg base CX0 7 T.fCellsRead T.fdCellsRead ["grid", "cell"] (spReads K T.cGrid) := by
  refine T.FCellsRead.ok scCellsRead (fun vs H Q E h => ?_) (fun cdv A outer s H vs Q E hr h => ?_)
  · obtain ⟨g, W, N, R, C, a, z, rfl, _⟩ := h
    rfl
  · obtain ⟨g, W, N, R, C, a, z, rfl, G, wl, ha, q⟩ := h
    -- slots grid=0 cell=1 tree=2 found=3 area=4 block=5
    refine ⟨_, (pss_cons (ps_set (i := 2) scCellsRead.nd rfl (Or.inl rfl) (pe_call (okFormulaOf T) (hr.mono (by decide)) (by rfl) T.gFormulaOf T.FFormulaOf.kp T.bFormulaOf .nil pass0 (pa_cons (pv 0) (pa_cons (pv 1) pa_nil))))
        (pss_cons (ps_if (pt_cmpR op_isN (pv 2) pe_non (nomark _))
          (pss_one (ps_ret (pe_lst pa_nil)))
          pss_nil)
        (pss_cons (ps_set (i := 3) scCellsRead.nd rfl (Or.inl rfl) (pe_call (okNamedCells T 5) (hr.mono (by decide)) (by rfl) T.gNamedCells T.FNamedCells.kp T.bNamedCells .nil pass0 (pa_cons (pv 2) pa_nil)))
        (pss_cons (ps_for PassesOwn.never rfl (pi_list (pe_call (okAreasOf T 5) (hr.mono (by decide)) (by rfl) T.gAreasOf T.FAreasOf.kp T.bAreasOf .nil pass0 (pa_cons (pv 2) pa_nil))) (pg_name (i := 4) scCellsRead.nd rfl (Or.inl rfl))
          (pss_one (ps_for PassesOwn.never rfl (pi_list (pe_call (okBlocksOf T) (hr.mono (by decide)) (by rfl) T.gBlocksOf T.FBlocksOf.kp T.bBlocksOf .nil pass0 (pa_cons (pv 0) (pa_cons (pv 4) pa_nil)))) (pg_name (i := 5) scCellsRead.nd rfl (Or.inl rfl))
            (pss_one (ps_expr (pe_bm PySem.F.plainAttrs_list PySem.F.slot_list_extend PySem.F.type_list_extend mt_extend (pv 3) (pa_cons (pe_call (okCellsOf T) (hr.mono (by decide)) (by rfl) T.gCellsOf T.FCellsOf.kp T.bCellsOf .nil pass0 (pa_cons (pv 5) pa_nil)) pa_nil)))))))
        (pss_one (ps_ret (pe_callB (cr_sortedT rfl) (by rfl) T.z_sorted (by decide +kernel) (pa_cons (pe_callTy (cr_setFew rfl hr.units) (by rfl) T.z_set (by decide +kernel) (pa_cons (pv 3) pa_nil)) pa_nil)))))))), ?_⟩
    refine ⟨_, rfl, _, rfl, g, W, nmA N, a, z, rfl, G, ha, fun H1 s1 en => ?_, fun H1 v t s1 es ht => ?_⟩
    · refine ⟨_, rfl, rfl, _, rfl, ite2 (fun _ => ?_) (fun c => absurd (decide_eq_true rfl) c)⟩
      refine ⟨Nat.zero_le _, fun p hp => ?_⟩
      refine q p [] _ (s1.trans (same_new hp)) (s1.free hp) upd_same (fun _ h => nomatch h) List.nodup_nil List.Pairwise.nil fun y => ?_
      unfold readsOf
      rw [en]
      rfl
    · obtain ⟨q0, rfl⟩ : ∃ q0, v = .ref q0 := by
        cases t with
        | gone =>
          obtain ⟨q0, e, _⟩ := ht
          exact ⟨q0, e⟩
        | num x y =>
          obtain ⟨q0, _, e, _⟩ := ht
          exact ⟨q0, e⟩
        | cell r c =>
          obtain ⟨q0, e, _⟩ := ht
          exact ⟨q0, e⟩
        | neg t =>
          obtain ⟨q0, _, e, _⟩ := ht
          exact ⟨q0, e⟩
        | op s l r =>
          obtain ⟨q0, _, _, e, _⟩ := ht
          exact ⟨q0, e⟩
        | call n as =>
          obtain ⟨q0, _, _, e, _⟩ := ht
          exact ⟨q0, e⟩
      obtain ⟨tk, th⟩ := wl.tr z t es
      refine ⟨_, rfl, rfl, _, rfl, ite2 (fun c => nomatch (of_decide_eq_true c)) (fun _ => ?_)⟩
      refine ⟨_, rfl, _, t, rfl, th, by decide, ht, fun H2 F us s2 hFn hF cl => ?_⟩
      refine ⟨_, rfl, _, t, rfl, th, by decide, ok_up t (okR_ok tk), ht.mono (TK.of s2), fun H3 L ws s3 hLn hL ar => ?_⟩
      have hF3 := s3 _ _ hF
      have nLF : L ≠ F := fun y => by
        rw [y, hF] at hLn
        cases hLn
      have cl3 := cl.mono (TK.of s3)
      have G3 := ((G.same s1).same s2).same s3
      have la := tareas_len (m := 3) (n := 4) th (okR_ok tk)
      have lc := tcells_len (n := 4) th
      have lw := ar.len
      have nok : NOk N := fun e he as ea => (wl.nm e he as ea).1
      refine ⟨L, rfl, ⟨_, SqL.of hL⟩, for_it (walk_list (a := L) (xs := ws)) (fun i σ H' => ∃ k4 k5 vs, σ = [some (.ref g.G), some (.ref a), some (.ref q0), some (.ref F), k4, k5] ∧ Same (rmS [F] H3) H' ∧ H' F = some (.lst vs) ∧ Cls H' vs (tcells t ++ ((tareas t).take i).flatMap (fz N))) ⟨_, _, us, rfl, rmS_le, hF3, by rw [List.take_zero]; show Cls H3 us (tcells t ++ []); rw [List.append_nil]; exact cl3⟩ (fun i σ H' _ ⟨_, _, _, _, m, _⟩ => SqL.of (m _ _ ((rmS_of (fun z => nLF (List.mem_singleton.mp z))).trans hL))) ?_ ?_⟩
      · rintro i x σ H4 H5 hi ⟨k4, k5, vs, rfl, m4, hF4, cl4⟩ ⟨rfl, hx⟩
        obtain ⟨ai, hai, ati⟩ := ar.get i x hx
        have lsF : Ls [F] H3 := fun y hy => by
          rw [List.mem_singleton.mp hy]
          exact ⟨_, hF3⟩
        have ati4 : ArAt H5 x ai := ati.mono (TK.trans (show TK H3 (rmS [F] H3) from lsF.tt) (TK.of m4))
        have s15 : Same H1 H5 := fun b u e => m4 b u ((rmS_of fun y => ne_of_none e hFn (List.mem_singleton.mp y)).trans (s3 _ _ (s2 _ _ e)))
        have ains := tareas_ins tk ai (List.mem_of_getElem? hai)
        obtain ⟨bok, blen⟩ := blks_ok wl ains
        refine ⟨_, rfl, _, rfl, g, cdW W, N, x, ai, rfl, (G.same s1).same s15, nok, ati4, fun H6 p bs s6 hpn hp bk => ?_⟩
        have hF6 := s6 _ _ hF4
        have npF : p ≠ F := fun y => by
          rw [y, hF4] at hpn
          cases hpn
        have cl6 := cl4.mono (TK.of s6)
        have ml : ((tareas t).take i).length ≤ 48 := by
          rw [List.length_take]
          omega
        have fl : (((tareas t).take i).flatMap (fz N)).length ≤ ((tareas t).take i).length * 600 := flat_len_le _ fun y hy => by
          have yi := tareas_ins tk y (List.mem_of_mem_take hy)
          obtain ⟨o1, o2⟩ := blks_ok wl yi
          have := flat_len_le (f := cellsOf) (m := 60) (blksOf N y) fun k hk => cellsOf_len (o1 k hk) wl.few
          show ((blksOf N y).flatMap cellsOf).length ≤ 600
          omega
        refine ⟨p, rfl, ⟨_, SqL.of hp⟩, for_it (walk_list (a := p) (xs := bs)) (fun j σ H' => ∃ k5 vs, σ = [some (.ref g.G), some (.ref a), some (.ref q0), some (.ref F), some x, k5] ∧ Same (rmS [F] H6) H' ∧ H' F = some (.lst vs) ∧ Cls H' vs ((tcells t ++ ((tareas t).take i).flatMap (fz N)) ++ ((blksOf N ai).take j).flatMap cellsOf)) ⟨_, vs, rfl, rmS_le, hF6, by rw [List.take_zero]; show Cls H6 vs (_ ++ []); rw [List.append_nil]; exact cl6⟩ (fun j σ H' _ ⟨_, _, _, m, _⟩ => SqL.of (m _ _ ((rmS_of (fun z => npF (List.mem_singleton.mp z))).trans hp))) ?_ ?_⟩
        · rintro j y σ H7 H8 hj ⟨k5, us7, rfl, m7, hF7, cl7⟩ ⟨rfl, hy⟩
          obtain ⟨qb, k, rfl, hk, hqb⟩ := bk.get j y hy
          have lsF6 : Ls [F] H6 := fun y hy => by
            rw [List.mem_singleton.mp hy]
            exact ⟨_, hF6⟩
          have hqb7 := m7 _ _ (lsF6.tt _ _ hqb)
          have ko := bok k (List.mem_of_getElem? hk)
          have rc1 := wl.rc.r1
          have rc3 := wl.rc.c1
          have ko5 : k.ok 50 50 := by
            obtain ⟨o1, o2, o3, o4, o5, o6⟩ := ko
            exact ⟨o1, o2, by omega, o4, o5, by omega⟩
          have cl7l := cl7.len
          rw [List.length_append, List.length_append] at cl7l
          have jl : (((blksOf N ai).take j).flatMap cellsOf).length ≤ 600 := by
            have := flat_len_le (f := cellsOf) (m := 60) ((blksOf N ai).take j) fun k hk => cellsOf_len (bok k (List.mem_of_mem_take hk)) wl.few
            rw [List.length_take] at this
            have : min j (blksOf N ai).length * 60 ≤ 10 * 60 := Nat.mul_le_mul_right 60 (by omega)
            omega
          have kl := cellsOf_len ko wl.few
          refine ⟨_, rfl, .inl ⟨rfl, _, SqL.of hF7⟩, _, rfl, qb, k, rfl, hqb7, ko5, fun H9 pc cs s9 hpcn hpc clc => ?_⟩
          have hF9 := s9 _ _ hF7
          have clcl := clc.len
          have p24 : (2 : Nat) ^ 4 = 16 := by decide
          refine ⟨F, pc, us7, cs, rfl, rfl, hF9, hpc, sz100 (by rw [clcl, cl7l]; omega), ?_⟩
          refine ⟨_, us7 ++ cs, rfl, fun b u e => ?_, upd_same, ?_⟩
          · obtain ⟨nb, _⟩ := rmS_some e
            rw [upd_ne fun z => nb (List.mem_singleton.mpr z)]
            exact s9 _ _ (m7 b u e)
          · rw [flat_take cellsOf hk, ← List.append_assoc]
            exact (Cls.app clc (cl7.mono (TK.of s9))).mono (TK.mut hF9)
        · rintro σ H7 ⟨k5, us7, rfl, m7, hF7, cl7⟩
          have eb2 : (blksOf N ai).take bs.length = blksOf N ai := List.take_of_length_le (by rw [bk.len]; exact Nat.le_refl _)
          rw [eb2, List.append_assoc] at cl7
          refine ⟨_, _, us7, rfl, fun b u e => m7 b u ?_, hF7, ?_⟩
          · obtain ⟨nb, e3⟩ := rmS_some e
            rw [rmS_of nb]
            exact s6 _ _ (m4 b u e)
          · rw [flat_take (fz N) hai]
            exact cl7
      · rintro σ H4 ⟨k4, k5, vs, rfl, m4, hF4, cl4⟩
        have full : (tareas t).take ws.length = tareas t := List.take_of_length_le (by rw [lw]; exact Nat.le_refl _)
        rw [full] at cl4
        have cl5 : Cls H4 vs (readsT N t) := cl4
        have s14 : Same H1 H4 := fun b u e => m4 b u ((rmS_of fun y => ne_of_none e hFn (List.mem_singleton.mp y)).trans (s3 _ _ (s2 _ _ e)))
        obtain ⟨ks, rfl, ek, tups⟩ := cls_rows cl5
        have ins := reads_ins wl tk
        have val : ∀ p ∈ ks, ∃ y ∈ readsT N t, p.2 = pairL y := fun p hp => by
          have : p.2 ∈ ks.map (·.2) := List.mem_map.mpr ⟨p, hp, rfl⟩
          rw [ek] at this
          obtain ⟨y, hy, e⟩ := List.mem_map.mp this
          exact ⟨y, hy, e.symm⟩
        refine ⟨_, rfl, F, ks, (cellsOf (gridB R C)).map pairL, rfl, SqL.of hF4, fun p hp => SqT.of (tups p hp), by rw [List.length_map]; exact cellsOf_len (gridB_ok wl.rc) wl.few, fun p hp => ?_, fun sa SL hsa sub all => ?_⟩
        · obtain ⟨y, hy, e⟩ := val p hp
          have := ins y hy
          exact List.mem_map.mpr ⟨y, mem_cellsOf.mpr (by simp only [gridB]; omega), e.symm⟩
        · have bk : ∀ p ∈ SL, ∃ y ∈ readsT N t, p.2 = pairL y := fun p hp => val p (sub p hp)
          have ss := same_new (o := SetTO P w sa SL) hsa
          refine ⟨sa, SL, 2, 64, rfl, upd_same, fun p hp => SqT.of (ss _ _ (tups p (sub p hp))), by decide, fun p hp => ?_, fun L' r pm nd _ pw hr => ?_⟩
          · obtain ⟨y, hy, e⟩ := bk p hp
            obtain ⟨i1, i2, i3, i4⟩ := ins y hy
            have r1 := wl.rc.r1
            have c1 := wl.rc.c1
            refine ⟨by rw [e]; rfl, fun m hm => ?_⟩
            rw [e] at hm
            unfold pairL at hm
            simp only [List.mem_cons, List.not_mem_nil, or_false] at hm
            omega
          · have bk' : ∀ p ∈ L', ∃ y ∈ readsT N t, p.2 = pairL y := fun p hp => bk p (pm.mem_iff.mp hp)
            have sr := same_new (o := .lst (L'.map fun q => V.ref q.1)) hr
            have s4r := ss.trans sr
            have er : readsOf W N z = readsT N t := by
              unfold readsOf
              rw [es]
            refine q r (L'.map fun q => (V.ref q.1, unL q.2)) _ ((s1.trans s14).trans s4r) (((s1.trans s14).trans ss).free hr) (by rw [List.map_map]; exact upd_same) (fun y hy => ?_) ?_ ?_ fun y => ?_
            · obtain ⟨p, hp, rfl⟩ := List.mem_map.mp hy
              obtain ⟨y0, _, e⟩ := bk' p hp
              have := s4r _ _ (tups p (sub p (pm.mem_iff.mp hp)))
              rw [e] at this
              refine ⟨p.1, rfl, ?_⟩
              show _ = some (HO.tup [.int (unL p.2).1, .int (unL p.2).2])
              rw [e]
              exact this
            · rw [List.map_map]
              have nd2 := List.pairwise_map.mp nd
              refine List.pairwise_map.mpr (nd2.imp_of_mem fun {a b} ha hb hne e => hne ?_)
              obtain ⟨ya, _, ea⟩ := bk' a ha
              obtain ⟨yb, _, eb⟩ := bk' b hb
              have e : unL a.2 = unL b.2 := e
              rw [ea, eb] at e
              rw [ea, eb, show ya = yb from e]
            · rw [List.map_map]
              refine List.pairwise_map.mpr (pw.imp_of_mem fun {a b} ha hb hle hlt => ?_)
              obtain ⟨ya, hya, ea⟩ := bk' a ha
              obtain ⟨yb, hyb, eb⟩ := bk' b hb
              have ia := ins ya hya
              have ib := ins yb hyb
              have r1 := wl.rc.r1
              have c1 := wl.rc.c1
              rw [ea, eb] at hle
              have hle : TS.code 64 [ya.1, ya.2] ≤ TS.code 64 [yb.1, yb.2] := hle
              rw [code_pair, code_pair] at hle
              have hlt : ltK (unL b.2) (unL a.2) := hlt
              rw [ea, eb] at hlt
              have hlt : ltK yb ya := hlt
              rcases hlt with h | ⟨h, h2⟩ <;> omega
            · rw [List.map_map, er]
              constructor
              · intro hy
                obtain ⟨p, hp, rfl⟩ := List.mem_map.mp hy
                obtain ⟨y0, h0, e⟩ := bk' p hp
                show unL p.2 ∈ _
                rw [e]
                exact h0
              · intro hy
                have : pairL y ∈ ks.map (·.2) := by
                  rw [ek]
                  exact List.mem_map.mpr ⟨y, hy, rfl⟩
                obtain ⟨p, hp, e⟩ := List.mem_map.mp this
                obtain ⟨p2, hp2, e2⟩ := List.mem_map.mp (all p hp)
                refine List.mem_map.mpr ⟨p2, pm.mem_iff.mpr hp2, ?_⟩
                show unL p2.2 = y
                rw [show p2.2 = p.2 from e2, show p.2 = pairL y from e]
                rfl
/-! ### trees with the names of the grid -/
theorem fourW : ∀ k : Nat, k < 4 → ∃ w : OkS, [V.str "ab", .str "total", .str "goner", .str "mi"][k]? = some (.str w.1) ∧ w.1.length ≤ 1000
  | 0, _ => ⟨⟨"ab", by decide +kernel⟩, rfl, by decide +kernel⟩
  | 1, _ => ⟨⟨"total", by decide +kernel⟩, rfl, by decide +kernel⟩
  | 2, _ => ⟨⟨"goner", by decide +kernel⟩, rfl, by decide +kernel⟩
  | 3, _ => ⟨⟨"mi", by decide +kernel⟩, rfl, by decide +kernel⟩
def spNear (K : PySem.W.Frag) (n : Nat) : Sp := fun vs H Q _ => ∃ (v : V) (t : Tr) (R C : Int), vs = [v] ∧ t.h < n ∧ TrAt H v t ∧ t.okR R C ∧ ∀ (H' : Hp) (v' : V) (t' : Tr), Same H H' → TrAt H' v' t' → t'.h = t.h → t'.okR R C → Q v' H'
theorem okLawNear (T : Txt K mg) : ∀ n : Nat, FnOk P w K mg base CX0 (n + 2) T.fLawNear T.fdLawNear ["tree"] (spNear K n)
  | 0 => by
    refine T.FLawNear.ok scLawNear (fun vs H Q E h => ?_) (fun cdv A outer s H vs Q E hr h => ?_)
    · obtain ⟨v, t, R, C, rfl, hh, _⟩ := h
      rfl
    · obtain ⟨v, t, R, C, rfl, hh, _⟩ := h
      exact absurd hh (Nat.not_lt_zero _)
  | n + 1 => by
    have IH := okLawNear T n
    refine T.FLawNear.ok scLawNear (fun vs H Q E h => ?_) (fun cdv A outer s H vs Q E hr h => ?_)
    · obtain ⟨v, t, R, C, rfl, _⟩ := h
      rfl
    · obtain ⟨v, t, R, C, rfl, hh, ht, ok, q⟩ := h
      -- slots tree=0 areas=1 area=2
      refine ⟨_, (pss_cons (ps_if (pt_cmpR op_eq (pe_ix ix_tup (pv 0) pe_int (fun _ _ => rfl)) pe_str (nomark _))
            (pss_one (ps_ret (pe_tup (pa_cons pe_str (pa_cons (pe_call IH (hr.mono (by omega)) (by rfl) T.gLawNear T.FLawNear.kp T.bLawNear .nil pass0 (pa_cons (pe_ix ix_tup (pv 0) pe_int (fun _ _ => rfl)) pa_nil)) pa_nil)))))
            pss_nil)
          (pss_cons (ps_if (pt_cmpR op_eq (pe_ix ix_tup (pv 0) pe_int (fun _ _ => rfl)) pe_str (nomark _))
            (pss_one (ps_ret (pe_tup (pa_cons pe_str (pa_cons (pe_ix ix_tup (pv 0) pe_int (fun _ _ => rfl)) (pa_cons (pe_call IH (hr.mono (by omega)) (by rfl) T.gLawNear T.FLawNear.kp T.bLawNear .nil pass0 (pa_cons (pe_ix ix_tup (pv 0) pe_int (fun _ _ => rfl)) pa_nil)) (pa_cons (pe_call IH (hr.mono (by omega)) (by rfl) T.gLawNear T.FLawNear.kp T.bLawNear .nil pass0 (pa_cons (pe_ix ix_tup (pv 0) pe_int (fun _ _ => rfl)) pa_nil)) pa_nil)))))))
            pss_nil)
          (pss_cons (ps_if (pt_cmpR op_eq (pe_ix ix_tup (pv 0) pe_int (fun _ _ => rfl)) pe_str (nomark _))
            (pss_cons (ps_set (i := 1) scLawNear.nd rfl (Or.inl rfl) (pe_lst pa_nil))
            (pss_cons (ps_for PassesOwn.never rfl (pi_tup (pe_ix ix_tup (pv 0) pe_int (fun _ _ => rfl))) (pg_name (i := 2) scLawNear.nd rfl (Or.inl rfl))
              (C8.pss_cut (ps_if (pt_cmpR op_eq (pe_ix ix_tup (pv 2) pe_int (fun _ _ => rfl)) pe_str (nomark _))
                (pss_one (ps_set (i := 2) scLawNear.nd rfl (Or.inl rfl) (pe_tup (pa_cons pe_str (pa_cons (pe_ix ix_list (pe_lst (pa_cons pe_str (pa_cons pe_str (pa_cons pe_str (pa_cons pe_str pa_nil))))) (pe_op op_mod (pe_callTy call_int1 (by rfl) T.z_int (by decide +kernel) (pa_cons (pe_callB call_len_str (by rfl) T.z_len PySem.boot_len (pa_cons (pe_ix ix_tup (pv 2) pe_int (fun _ _ => rfl)) pa_nil)) pa_nil)) pe_int) (fun _ _ => rfl)) pa_nil)))))
                pss_nil)
              (pss_one (ps_expr (pe_bm PySem.F.plainAttrs_list PySem.F.slot_list_append PySem.F.type_list_append mt_append (pv 1) (pa_cons (pv 2) pa_nil))))))
            (pss_one (ps_ret (pe_tup (pa_cons pe_str (pa_cons (pe_ix ix_tup (pv 0) pe_int (fun _ _ => rfl)) (pa_cons (pe_callTy call_tuple_of (by rfl) T.z_tuple (by decide +kernel) (pa_cons (pv 1) pa_nil)) pa_nil))))))))
            pss_nil)
          (pss_one (ps_ret (pv 0)))))), ?_⟩
      cases t with
      | gone =>
        obtain ⟨p, rfl, h1⟩ := id ht
        exact ⟨_, rfl, _, _, _, _, rfl, rfl, SqT.of h1, atI_nat (j := 0) rfl, rfl, _, rfl, ifN w1.1 ⟨_, rfl, _, _, _, _, rfl, rfl, SqT.of h1, atI_nat (j := 0) rfl, rfl, _, rfl, ifN w1.2.1 ⟨_, rfl, _, _, _, _, rfl, rfl, SqT.of h1, atI_nat (j := 0) rfl, rfl, _, rfl, ifN w1.2.2.1 ⟨_, rfl, q H _ .gone (Same.refl _) ht rfl trivial⟩⟩⟩⟩
      | num x y =>
        obtain ⟨p, p2, rfl, h1, _⟩ := id ht
        exact ⟨_, rfl, _, _, _, _, rfl, rfl, SqT.of h1, atI_nat (j := 0) rfl, rfl, _, rfl, ifN w2.1 ⟨_, rfl, _, _, _, _, rfl, rfl, SqT.of h1, atI_nat (j := 0) rfl, rfl, _, rfl, ifN w2.2.1 ⟨_, rfl, _, _, _, _, rfl, rfl, SqT.of h1, atI_nat (j := 0) rfl, rfl, _, rfl, ifN w2.2.2.1 ⟨_, rfl, q H _ (.num x y) (Same.refl _) ht rfl ok⟩⟩⟩⟩
      | cell r c =>
        obtain ⟨p, rfl, h1⟩ := id ht
        exact ⟨_, rfl, _, _, _, _, rfl, rfl, SqT.of h1, atI_nat (j := 0) rfl, rfl, _, rfl, ifN w3.1 ⟨_, rfl, _, _, _, _, rfl, rfl, SqT.of h1, atI_nat (j := 0) rfl, rfl, _, rfl, ifN w3.2.1 ⟨_, rfl, _, _, _, _, rfl, rfl, SqT.of h1, atI_nat (j := 0) rfl, rfl, _, rfl, ifN w3.2.2 ⟨_, rfl, q H _ (.cell r c) (Same.refl _) ht rfl ok⟩⟩⟩⟩
      | neg t =>
        obtain ⟨p, u, rfl, h1, h2⟩ := ht
        exact ⟨_, rfl, _, _, _, _, rfl, rfl, SqT.of h1, atI_nat (j := 0) rfl, rfl, _, rfl, ifY ⟨_, rfl, _, _, _, _, rfl, rfl, SqT.of h1, atI_nat (j := 1) rfl, u, t, R, C, rfl, hneg hh, h2, ok, fun H1 v1 t1 s1 g1 e1 ok1 => ⟨(by show 2 ≤ sizeLine; decide), fun z hz => q _ (.ref z) (.neg t1) (s1.trans (same_new hz)) ⟨z, v1, rfl, upd_same, g1.mono (TK.of (same_new hz))⟩ (congrArg (· + 1) e1) ok1⟩⟩⟩
      | op s l r =>
        obtain ⟨p, u, w, rfl, h1, h2, h3⟩ := ht
        refine ⟨_, rfl, _, _, _, _, rfl, rfl, SqT.of h1, atI_nat (j := 0) rfl, rfl, _, rfl, ifN w5.1 ⟨_, rfl, _, _, _, _, rfl, rfl, SqT.of h1, atI_nat (j := 0) rfl, rfl, _, rfl, ifY ⟨_, rfl, _, _, _, _, rfl, rfl, SqT.of h1, atI_nat (j := 1) rfl, _, rfl, _, _, _, _, rfl, rfl, SqT.of h1, atI_nat (j := 2) rfl, u, l, R, C, rfl, (hop hh).1, h2, ok.1, fun H1 v1 t1 s1 g1 e1 ok1 => ?_⟩⟩⟩
        have h1' := s1 _ _ h1
        refine ⟨_, rfl, _, _, _, _, rfl, rfl, SqT.of h1', atI_nat (j := 3) rfl, w, r, R, C, rfl, (hop hh).2, h3.mono (TK.of s1), ok.2.1, fun H2 v2 t2 s2 g2 e2 ok2 => ⟨(by show 4 ≤ sizeLine; decide), fun z hz => ?_⟩⟩
        refine q _ (.ref z) (.op s t1 t2) ((s1.trans s2).trans (same_new hz)) ⟨z, v1, v2, rfl, upd_same, g1.mono (TK.of (s2.trans (same_new hz))), g2.mono (TK.of (same_new hz))⟩ ?_ ⟨ok1, ok2, ok.2.2⟩
        show max t1.h t2.h + 1 = max l.h r.h + 1
        rw [e1, e2]
      | call m as =>
        obtain ⟨p, p2, vs, rfl, h1, h2, h3⟩ := ht
        refine ⟨_, rfl, _, _, _, _, rfl, rfl, SqT.of h1, atI_nat (j := 0) rfl, rfl, _, rfl, ifN w6.1 ⟨_, rfl, _, _, _, _, rfl, rfl, SqT.of h1, atI_nat (j := 0) rfl, rfl, _, rfl, ifN w6.2.1 ⟨_, rfl, _, _, _, _, rfl, rfl, SqT.of h1, atI_nat (j := 0) rfl, rfl, _, rfl, ifY ⟨Nat.zero_le _, fun L hL => ?_⟩⟩⟩⟩
        have sL := same_new (o := .lst []) hL
        have h1' := sL _ _ h1
        have h2' := sL _ _ h2
        have lv := h3.len
        have l3 : as.length ≤ 3 := ok.1
        refine ⟨_, rfl, _, _, _, _, rfl, rfl, SqT.of h1', atI_nat (j := 2) rfl, p2, rfl, ⟨vs, SqT.of h2'⟩, for_it (walk_tup (a := p2) (xs := vs)) (fun i σ H' => ∃ (k2 : Option V) (us : List V) (bs : List Ar), σ = [some (.ref p), some (.ref L), k2] ∧ Same H H' ∧ H' L = some (.lst us) ∧ Ars H' us bs ∧ bs.length = i ∧ ∀ a ∈ bs, a.ins R C) ⟨_, [], [], rfl, sL, upd_same, .nil, rfl, fun _ h => nomatch h⟩ (fun i σ H' _ ⟨_, _, _, _, s, _⟩ => SqT.of (s _ _ h2)) ?_ ?_⟩
        · rintro i x σ HX H1 hi ⟨k2, us, bs, rfl, s1, hL1, ar1, bl, bi⟩ ⟨rfl, hx⟩
          obtain ⟨a0, ha0, at0⟩ := h3.get i x hx
          have ains := ok.2.1 a0 (List.mem_of_getElem? ha0)
          have at1 := at0.mono (TK.of s1)
          have put : ∀ (H3 : Hp) (v3 : V) (a3 : Ar), Same H1 H3 → ArAt H3 v3 a3 → a3.ins R C → ∃ (k2 : Option V) (us' : List V) (bs' : List Ar), [some (V.ref p), some (.ref L), some v3] = [some (.ref p), some (.ref L), k2] ∧ Same H (upd H3 L (.lst (us ++ [v3]))) ∧ (upd H3 L (.lst (us ++ [v3]))) L = some (.lst us') ∧ Ars (upd H3 L (.lst (us ++ [v3]))) us' bs' ∧ bs'.length = i + 1 ∧ ∀ a ∈ bs', a.ins R C := fun H3 v3 a3 s3 g3 i3 => by
            refine ⟨_, us ++ [v3], bs ++ [a3], rfl, same_mut (s1.trans s3) hL, upd_same, ((ar1.mono (TK.of s3)).snoc g3).mono (TK.mut (s3 _ _ hL1)), by rw [List.length_append, bl]; rfl, fun x hx => ?_⟩
            rcases List.mem_append.mp hx with h | h
            · exact bi x h
            · rw [List.mem_singleton.mp h]
              exact i3
          have ul := ar1.len
          refine ⟨fun σ H' => ∃ (v3 : V) (a3 : Ar), σ = [some (.ref p), some (.ref L), some v3] ∧ Same H1 H' ∧ ArAt H' v3 a3 ∧ a3.ins R C, ?_, ?_⟩
          · cases a0 with
            | gone =>
              obtain ⟨q0, rfl, hq⟩ := id at1
              exact ⟨_, rfl, q0, _, _, _, rfl, rfl, SqT.of hq, atI_nat (j := 0) rfl, rfl, _, rfl, ifN w1.2.2.2.2 ⟨_, _, rfl, Same.refl _, at1, trivial⟩⟩
            | block a b c d =>
              obtain ⟨q0, rfl, hq⟩ := id at1
              exact ⟨_, rfl, q0, _, _, _, rfl, rfl, SqT.of hq, atI_nat (j := 0) rfl, rfl, _, rfl, ifN w7.2.2 ⟨_, _, rfl, Same.refl _, at1, ains⟩⟩
            | name w =>
              obtain ⟨q0, rfl, hq⟩ := id at1
              refine ⟨_, rfl, q0, _, _, _, rfl, rfl, SqT.of hq, atI_nat (j := 0) rfl, rfl, _, rfl, ifY ⟨(by show 4 ≤ sizeLine; decide), fun z hz => ?_⟩⟩
              have sz := same_new (o := .lst [.str "ab", .str "total", .str "goner", .str "mi"]) hz
              have k0 : 0 ≤ (w.1.length : Int) % 4 := Int.emod_nonneg _ (by decide)
              have k1 : (w.1.length : Int) % 4 < 4 := Int.emod_lt_of_pos _ (by decide)
              obtain ⟨kn, hk⟩ := Int.eq_ofNat_of_zero_le k0
              obtain ⟨w', hw', wl⟩ := fourW kn (by omega)
              refine ⟨_, rfl, q0, _, _, _, rfl, rfl, SqT.of (sz _ _ hq), atI_nat (j := 1) rfl, w.1, rfl, sz100 (Nat.le_trans ains (by decide)), .inl ⟨_, rfl, _, _, rfl, rfl, (by show (0 : Int) < 4; decide), z, _, _, _, rfl, rfl, SqL.of upd_same, by rw [hk]; exact atI_nat hw', (by show 2 ≤ sizeLine; decide), fun u hu => ?_⟩⟩
              exact ⟨_, .name w', rfl, sz.trans (same_new hu), ⟨u, rfl, upd_same⟩, wl⟩
          · rintro σ H3 ⟨v3, a3, rfl, s3, g3, i3⟩
            exact ⟨_, rfl, .inl ⟨rfl, _, SqL.of (s3 _ _ hL1)⟩, _, rfl, L, _, _, rfl, rfl, s3 _ _ hL1, sz100 (by have hi := hi; omega), put H3 v3 a3 s3 g3 i3⟩
        · rintro σ H1 ⟨k2, us, bs, rfl, s1, hL1, ar1, bl, bi⟩
          have h1'' := s1 _ _ h1
          refine ⟨_, rfl, _, _, _, _, rfl, rfl, SqT.of h1'', atI_nat (j := 1) rfl, _, rfl, L, us, rfl, .inl ⟨SqL.of hL1, fun y hy => ⟨(by show 3 ≤ sizeLine; decide), fun z hz => ?_⟩⟩⟩
          have sy := same_new (o := .tup us) hy
          have sz := same_new (o := .tup [.str "call", .str m, .ref y]) hz
          exact q _ (.ref z) (.call m bs) ((s1.trans sy).trans sz) ⟨z, y, us, rfl, upd_same, sz _ _ upd_same, ar1.mono (TK.of (sy.trans sz))⟩ rfl ⟨by show bs.length ≤ 3; omega, bi, ok.2.2⟩
def OkC (R C : Int) : Ct → Prop
  | .form t => t.okR R C ∧ t.h < 5
  | .num x y => Fl x y
  | _ => True
def spContent (K : PySem.W.Frag) : Sp := fun vs H Q _ => ∃ (b : Addr) (R C : Int) (d : Nat), vs = [.ref b, .int R, .int C, .int (d : Int)] ∧ RC R C ∧ d ≤ 4 ∧ Box H b ∧ ∀ (v : V) (c : Ct) (H' : Hp), Box H' b → Kp b H H' → Dt H' v (ctD c) → OkC R C c → c ≠ .blank → Q v H'
theorem textsW : ∀ k : Nat, k < 4 → ∃ w : OkS, [V.str "x", .str "tea", .str "0x", .str "a b"][k]? = some (.str w.1)
  | 0, _ => ⟨⟨"x", by decide +kernel⟩, rfl⟩
  | 1, _ => ⟨⟨"tea", by decide +kernel⟩, rfl⟩
  | 2, _ => ⟨⟨"0x", by decide +kernel⟩, rfl⟩
  | 3, _ => ⟨⟨"a b", by decide +kernel⟩, rfl⟩
theorem densW : ∀ k : Nat, k < 5 → ∃ n : Int, [V.int 1, .int 2, .int 4, .int 5, .int 8][k]? = some (.int n) ∧ 0 < n ∧ n ≤ 8
  | 0, _ => ⟨1, rfl, by decide, by decide⟩
  | 1, _ => ⟨2, rfl, by decide, by decide⟩
  | 2, _ => ⟨4, rfl, by decide, by decide⟩
  | 3, _ => ⟨5, rfl, by decide, by decide⟩
  | 4, _ => ⟨8, rfl, by decide, by decide⟩
theorem okLawContent (T : Txt K mg) : FnOk P w K mg base CX0 12 T.fLawContent T.fdLawContent ["box", "rows", "columns", "depth"] (spContent K) := by
  refine T.FLawContent.ok scLawContent (fun vs H Q E h => ?_) (fun cdv A outer s H vs Q E hr h => ?_)
  · obtain ⟨b, R, C, d, rfl, _⟩ := h
    rfl
  · obtain ⟨b, R, C, d, rfl, rc, hd, B, q⟩ := h
    -- slots box=0 rows=1 columns=2 depth=3 kind=4
    refine ⟨_, (pss_cons (ps_set (i := 4) scLawContent.nd rfl (Or.inl rfl) (pe_call (okLawDraw T) (hr.mono (by decide)) (by rfl) T.gLawDraw T.FLawDraw.kp T.bLawDraw .nil pass0 (pa_cons (pv 0) (pa_cons pe_int pa_nil))))
        (pss_cons (ps_if (pt_cmpR op_eq (pv 4) pe_int (nomark _))
          (pss_one (ps_ret (pe_tup (pa_cons pe_str (pa_cons (pe_ix ix_list (pe_lst (pa_cons pe_str (pa_cons pe_str (pa_cons pe_str (pa_cons pe_str pa_nil))))) (pe_call (okLawDraw T) (hr.mono (by decide)) (by rfl) T.gLawDraw T.FLawDraw.kp T.bLawDraw .nil pass0 (pa_cons (pv 0) (pa_cons pe_int pa_nil))) (fun _ _ => rfl)) pa_nil)))))
          pss_nil)
        (pss_cons (ps_if (pt_cmpR op_eq (pv 4) pe_int (nomark _))
          (pss_one (ps_ret (pe_tup (pa_cons pe_str (pa_cons (pe_call (okLawLowest T) (hr.mono (by decide)) (by rfl) T.gLawLowest T.FLawLowest.kp T.bLawLowest .nil pass0 (pa_cons (pe_op op_sub (pe_call (okLawDraw T) (hr.mono (by decide)) (by rfl) T.gLawDraw T.FLawDraw.kp T.bLawDraw .nil pass0 (pa_cons (pv 0) (pa_cons pe_int pa_nil))) pe_int) (pa_cons (pe_ix ix_list (pe_lst (pa_cons pe_int (pa_cons pe_int (pa_cons pe_int (pa_cons pe_int (pa_cons pe_int pa_nil)))))) (pe_call (okLawDraw T) (hr.mono (by decide)) (by rfl) T.gLawDraw T.FLawDraw.kp T.bLawDraw .nil pass0 (pa_cons (pv 0) (pa_cons pe_int pa_nil))) (fun _ _ => rfl)) pa_nil))) pa_nil)))))
          pss_nil)
        (pss_one (ps_ret (pe_tup (pa_cons pe_str (pa_cons (pe_call (okLawNear T 5) (hr.mono (by decide)) (by rfl) T.gLawNear T.FLawNear.kp T.bLawNear .nil pass0 (pa_cons (pe_ix ix_list (pe_call (okLawNode T 5) (hr.mono (by decide)) (by rfl) T.gLawNode T.FLawNode.kp T.bLawNode .nil pass0 (pa_cons (pv 0) (pa_cons (pv 1) (pa_cons (pv 2) (pa_cons (pv 3) pa_nil))))) pe_int (fun _ _ => rfl)) pa_nil)) pa_nil)))))))), ?_⟩
    refine ⟨_, rfl, b, 6, rfl, by decide, B, fun kd H1 _ _ B1 k1 => ⟨_, rfl, rfl, _, rfl, ite2 (fun _ => ?_) (fun _ => ⟨_, rfl, rfl, _, rfl, ite2 (fun _ => ?_) (fun _ => ?_)⟩)⟩⟩
    · refine ⟨(by show 4 ≤ sizeLine; decide), fun z hz => ⟨_, rfl, b, 4, rfl, by decide, B1.same (same_new hz), fun k H2 k0 k4 B2 k2 => ?_⟩⟩
      obtain ⟨kn, rfl⟩ := Int.eq_ofNat_of_zero_le k0
      obtain ⟨w, hw⟩ := textsW kn (by omega)
      refine ⟨z, _, _, _, rfl, rfl, SqL.of (k2 _ _ (box_ne B1 hz) upd_same), atI_nat hw, (by show 2 ≤ sizeLine; decide), fun u hu => ?_⟩
      exact q _ (.text w) _ (B2.same (same_new hu)) (((k1.trans (Kp.of (same_new hz))).trans k2).trans (Kp.of (same_new hu))) (.tup upd_same (.cons (.str _) (.cons (.str _) .nil))) trivial (fun e => nomatch e)
    · refine ⟨_, rfl, b, 40, rfl, by decide, B1, fun x H2 x0 x1 B2 k2 => ⟨_, _, rfl, rfl, (by show 5 ≤ sizeLine; decide), fun z hz => ⟨_, rfl, b, 5, rfl, by decide, B2.same (same_new hz), fun k H3 y0 y1 B3 k3 => ?_⟩⟩⟩
      obtain ⟨kn, rfl⟩ := Int.eq_ofNat_of_zero_le y0
      obtain ⟨dn, hw, d0, d1⟩ := densW kn (by omega)
      refine ⟨z, _, _, _, rfl, rfl, SqL.of (k3 _ _ (box_ne B2 hz) upd_same), atI_nat hw, _, dn, rfl, by omega, ?_, ?_, fun p x' y' hp lw => ⟨(by show 2 ≤ sizeLine; decide), fun u hu => ?_⟩⟩
      · exact Nat.lt_of_lt_of_le (show (x - 20).natAbs < 100 by omega) (by decide)
      · exact Nat.lt_of_lt_of_le (show dn.natAbs < 100 by omega) (by decide)
      · exact q _ (.num x' y') _ ((B3.same (same_new hp)).same (same_new hu)) ((((k1.trans k2).trans (Kp.of (same_new hz))).trans k3).trans (Kp.of ((same_new hp).trans (same_new hu)))) (.tup upd_same (.cons (.str _) (.cons (.tup ((same_new hu) _ _ upd_same) (.cons (.int _) (.cons (.int _) .nil))) .nil))) (by have h1 := lw.lx; have h2 := lw.ly; exact ⟨⟨by omega, by omega, lw.pos, by omega⟩, lw.cop⟩) (fun e => nomatch e)
    · refine ⟨_, rfl, _, rfl, _, rfl, _, rfl, b, d, R, C, rfl, rc, by omega, by omega, B1, fun l t H2 B2 k2 ⟨v, tl, ts, k, h1, h2, _, ht, _, _⟩ hh ok => ?_⟩
      refine ⟨l, _, _, _, rfl, rfl, SqL.of h1, atI_nat (j := 0) rfl, v, t, R, C, rfl, by omega, ht, ok, fun H3 v' t' s3 ht' e' ok' => ⟨(by show 2 ≤ sizeLine; decide), fun u hu => ?_⟩⟩
      have s4 := same_new (o := .tup [.str "formula", v']) hu
      exact q _ (.form t') _ ((B2.same s3).same s4) ((k1.trans k2).trans (Kp.of (s3.trans s4))) (.tup upd_same (.cons (.str _) (.cons (ht'.mono (TK.of s4)).dt .nil))) ⟨ok', by omega⟩ (fun e => nomatch e)
/-! ### the names of the world -/
theorem kp_rm {b : Addr} {H H' : Hp} (k : Kp b H H') : Same (rmS [b] H) (rmS [b] H') := fun a o e => by
  obtain ⟨n, e⟩ := rmS_some e
  rw [rmS_of n]
  exact k _ _ (fun z => n (List.mem_singleton.mpr z)) e
theorem Box.ls {b : Addr} {H : Hp} (B : Box H b) : Ls [b] H := fun x hx => by
  obtain ⟨d, ds, i, h1, _⟩ := B
  rw [List.mem_singleton.mp hx]
  exact ⟨_, h1⟩
theorem box_new {H0 H : Hp} {b L : Addr} {o : HO} (k : Kp b H0 H) (B0 : Box H0 b) (B : Box H b) (hL : H0 L = none) : Box (upd H L o) b := by
  obtain ⟨d, ds, i, h1, h2, h3⟩ := B0
  obtain ⟨d', ds', i', g1, g2, g3⟩ := B
  obtain ⟨j', e⟩ := k.d _ _ h1
  rw [g1] at e
  have ed : d' = d := V.ref.inj (List.cons.inj (HO.lst.inj (Option.some.inj e))).1
  have n1 : L ≠ b := fun z => by
    rw [z, h1] at hL
    cases hL
  have n2 : L ≠ d' := fun z => by
    rw [z, ed, h2] at hL
    cases hL
  exact ⟨d', ds', i', by rw [upd_ne n1.symm]; exact g1, by rw [upd_ne n2.symm]; exact g2, g3⟩
def wordsN : List Str := ["ab", "total", "goner", "mi"]
theorem wordsN_nd : wordsN.Nodup := by decide +kernel
theorem wnew {i : Nat} {w : Str} (h : wordsN[i]? = some w) : w ∉ wordsN.take i := fun z => by
  obtain ⟨j, hj⟩ := List.mem_iff_getElem?.mp z
  have hij : j < i := by
    have := (List.getElem?_eq_some_iff.mp hj).1
    rw [List.length_take] at this
    omega
  rw [List.getElem?_take_of_lt hij] at hj
  obtain ⟨g1, g2⟩ := List.getElem?_eq_some_iff.mp hj
  obtain ⟨g3, g4⟩ := List.getElem?_eq_some_iff.mp h
  exact List.pairwise_iff_getElem.mp wordsN_nd j i g1 g3 hij (g2.trans g4.symm)
/-- the areas of one name -/
def OkAs (R C : Int) (as : List Ar) : Prop := as.length ≤ 3 ∧ ∀ a ∈ as, a.ins R C ∧ ∀ w, a ≠ .name w
structure NmOk (R C : Int) (ws : List Str) (N : NA) : Prop where
  nd : (N.map Prod.fst).Nodup
  kw : ∀ e ∈ N, e.1 ∈ ws
  ar : ∀ e ∈ N, ∀ as, e.2 = some as → OkAs R C as
theorem NmOk.snoc {R C : Int} {ws : List Str} {N : NA} {w : Str} {d : Option (List Ar)} (h : NmOk R C ws N) (n : w ∉ ws) (hd : ∀ as, d = some as → OkAs R C as) : NmOk R C (ws ++ [w]) (N ++ [(w, d)]) := by
  refine ⟨?_, fun e he => ?_, fun e he => ?_⟩
  · rw [List.map_append, List.nodup_append]
    refine ⟨h.nd, by simp, fun a ha b hb z => ?_⟩
    have hb : b = w := by simpa using hb
    obtain ⟨e, he, e1⟩ := List.mem_map.mp ha
    exact n (by rw [← hb, ← z, ← e1]; exact h.kw e he)
  · rcases List.mem_append.mp he with he | he
    · exact List.mem_append_left _ (h.kw e he)
    · rw [List.mem_singleton.mp he]
      exact List.mem_append_right _ (List.mem_singleton.mpr rfl)
  · rcases List.mem_append.mp he with he | he
    · exact h.ar e he
    · rw [List.mem_singleton.mp he]
      exact hd
theorem NmOk.more {R C : Int} {ws ws' : List Str} {N : NA} (h : NmOk R C ws N) (m : ∀ w ∈ ws, w ∈ ws') : NmOk R C ws' N := ⟨h.nd, fun e he => m _ (h.kw e he), h.ar⟩
theorem nmA_snoc (N : NA) (w : Str) (d : Option (List Ar)) : nmA (N ++ [(w, d)]) = nmA N ++ [(w, d.map fun as => as.map arD)] := by
  unfold nmA
  rw [List.map_append]
  rfl
theorem nmA_keys (N : NA) : (nmA N).map Prod.fst = N.map Prod.fst := by
  unfold nmA
  rw [List.map_map]
  rfl
def spNames (K : PySem.W.Frag) : Sp := fun vs H Q _ => ∃ (b : Addr) (R C : Int), vs = [.ref b, .int R, .int C] ∧ RC R C ∧ Box H b ∧
  ∀ (nd : Addr) (N : NA) (nvs : List (Key × V)) (H' : Hp), Box H' b → Kp b H H' → H nd = none → nd ≠ b → H' nd = some (.dK nvs) → Ents keyW (NAt K (rmS [b] H')) nvs (nmA N) → nvs.length ≤ 4 → NmOk R C wordsN N → Q (.ref nd) H'
theorem Ars.dtr {H : Hp} {vs : List V} {as : List Ar} {S : List Addr} (l : Ls S H) (h : Ars H vs as) : DtAll (rmS S H) vs (as.map arD) := h.dt.tt l.tt
theorem okLawNames (T : Txt K mg) : FnOk P w K mg base CX0 4 T.fLawNames T.fdLawNames ["box", "rows", "columns"] (spNames K) := by
  refine T.FLawNames.ok scLawNames (fun vs H Q E h => ?_) (fun cdv A outer s H vs Q E hr h => ?_)
  · obtain ⟨b, R, C, rfl, _⟩ := h
    rfl
  · obtain ⟨b, R, C, rfl, rc, B, q⟩ := h
    -- slots box=0 rows=1 columns=2 names=3 word=4 kind=5 areas=6 k=7 area=8
    refine ⟨_, (pss_cons (ps_set (i := 3) scLawNames.nd rfl (Or.inl rfl) pe_dnewK)
        (pss_cons (ps_for PassesOwn.never rfl (pi_list (pe_lst (pa_cons pe_str (pa_cons pe_str (pa_cons pe_str (pa_cons pe_str pa_nil)))))) (pg_name (i := 4) scLawNames.nd rfl (Or.inl rfl))
          (pss_cons (ps_set (i := 5) scLawNames.nd rfl (Or.inl rfl) (pe_call (okLawDraw T) (hr.mono (by decide)) (by rfl) T.gLawDraw T.FLawDraw.kp T.bLawDraw .nil pass0 (pa_cons (pv 0) (pa_cons pe_int pa_nil))))
          (pss_cons (ps_if (pt_cmpR op_eq (pv 5) pe_int (nomark _))
            (pss_one (ps_dput (units2 hr) (pv 3) (pv 4) pe_non rfl))
            pss_nil)
          (pss_one (ps_if (pt_cmpR op_in_seq (pv 5) (pe_lst (pa_cons pe_int (pa_cons pe_int pa_nil))) rfl)
            (pss_cons (ps_set (i := 6) scLawNames.nd rfl (Or.inl rfl) (pe_lst pa_nil))
            (pss_cons (ps_for PassesOwn.never rfl (pi_range1 rfl T.z_range (pa_cons (pe_op op_add pe_int (pe_call (okLawDraw T) (hr.mono (by decide)) (by rfl) T.gLawDraw T.FLawDraw.kp T.bLawDraw .nil pass0 (pa_cons (pv 0) (pa_cons pe_int pa_nil)))) pa_nil)) (pg_name (i := 7) scLawNames.nd rfl (Or.inl rfl))
              (pss_cons (ps_set (i := 8) scLawNames.nd rfl (Or.inl rfl) (pe_ix ix_list (pe_call (okLawArea T) (hr.mono (by decide)) (by rfl) T.gLawArea T.FLawArea.kp T.bLawArea .nil pass0 (pa_cons (pv 0) (pa_cons (pv 1) (pa_cons (pv 2) pa_nil)))) pe_int (fun _ _ => rfl)))
              (pss_one (ps_if (pt_cmpR op_ne (pe_ix ix_tup (pv 8) pe_int (fun _ _ => rfl)) pe_str (nomark _))
                (pss_one (ps_expr (pe_bm PySem.F.plainAttrs_list PySem.F.slot_list_append PySem.F.type_list_append mt_append (pv 6) (pa_cons (pv 8) pa_nil))))
                pss_nil))))
            (pss_one (ps_dput (units2 hr) (pv 3) (pv 4) (pe_op op_cat (pv 6) (pe_op op_rep (pe_lst (pa_cons (pe_tup (pa_cons pe_str pa_nil)) pa_nil)) (pe_callTy call_int1 (by rfl) T.z_int (by decide +kernel) (pa_cons (pe_cmpR op_eq (pe_callB call_len_seq (by rfl) T.z_len PySem.boot_len (pa_cons (pv 6) pa_nil)) pe_int (nomark _)) pa_nil)))) rfl))))
            pss_nil)))))
        (pss_one (ps_ret (pv 3))))), ?_⟩
    refine fun nd hnd => ⟨(by show 4 ≤ sizeLine; decide), fun lw hlw => ?_⟩
    have nb : nd ≠ b := box_ne B hnd
    have s1 := same_new (o := .dK []) hnd
    have nlb : lw ≠ b := box_ne (B.same s1) hlw
    have nln : lw ≠ nd := fun z => by
      rw [z, upd_same] at hlw
      cases hlw
    have s2 := same_new (o := .lst [.str "ab", .str "total", .str "goner", .str "mi"]) hlw
    have hlw2 : (upd (upd H nd (.dK [])) lw (.lst [.str "ab", .str "total", .str "goner", .str "mi"])) lw = some (.lst [.str "ab", .str "total", .str "goner", .str "mi"]) := upd_same
    have hnd2 := s2 _ _ (show (upd H nd (.dK [])) nd = some (.dK []) from upd_same)
    refine ⟨lw, rfl, ⟨_, SqL.of hlw2⟩, for_it (walk_list (a := lw) (xs := wordsN.map V.str)) (fun i σ H' => ∃ (k4 k5 k6 k7 k8 : Option V) (N : NA) (nvs : List (Key × V)), σ = [some (.ref b), some (.int R), some (.int C), some (.ref nd), k4, k5, k6, k7, k8] ∧ Box H' b ∧ Kp b H H' ∧ H' lw = some (.lst (wordsN.map V.str)) ∧ H' nd = some (.dK nvs) ∧ Ents keyW (NAt K (rmS [b] H')) nvs (nmA N) ∧ nvs.length ≤ i ∧ NmOk R C (wordsN.take i) N)
      ⟨_, _, _, _, _, [], [], rfl, B.same (s1.trans s2), Kp.of (s1.trans s2), hlw2, hnd2, RepP.nil, Nat.zero_le _, ⟨List.nodup_nil, (fun _ h => nomatch h), (fun _ h => nomatch h)⟩⟩ (fun i σ H' _ ⟨_, _, _, _, _, _, _, _, _, _, hl, _⟩ => SqL.of hl) ?_ ?_⟩
    · rintro i x σ HX H3 hi ⟨k4, k5, k6, k7, k8, N, nvs, rfl, B3, kp3, hl3, hn3, en3, nl3, ok3⟩ ⟨rfl, hx⟩
      have hi : i < 4 := hi
      rw [List.getElem?_map] at hx
      obtain ⟨w, hw, rfl⟩ := Option.map_eq_some_iff.mp hx
      have wn := wnew hw
      have tk : wordsN.take (i + 1) = wordsN.take i ++ [w] := by
        rw [List.take_add_one, hw]
        rfl
      have gn : ∀ e ∈ nmA N, e.1 ≠ w := fun e he z => by
        have : e.1 ∈ (nmA N).map Prod.fst := List.mem_map.mpr ⟨e, he, rfl⟩
        rw [nmA_keys] at this
        obtain ⟨e2, he2, z2⟩ := List.mem_map.mp this
        exact wn (by rw [← z, ← z2]; exact ok3.kw e2 he2)
      have put : ∀ (J : Hp) (k5 k6 k7 k8 : Option V) (v : V) (d : Option (List Ar)), Box J b → Kp b H3 J → NAt K (rmS [b] J) v (d.map fun as => as.map arD) → (∀ as, d = some as → OkAs R C as) →
          ∃ (k4' k5' k6' k7' k8' : Option V) (N' : NA) (nvs' : List (Key × V)), [some (V.ref b), some (.int R), some (.int C), some (.ref nd), some (.str w), k5, k6, k7, k8] = [some (.ref b), some (.int R), some (.int C), some (.ref nd), k4', k5', k6', k7', k8'] ∧ Box (upd J nd (.dK (putK nvs (keyW w) v))) b ∧ Kp b H (upd J nd (.dK (putK nvs (keyW w) v))) ∧ (upd J nd (.dK (putK nvs (keyW w) v))) lw = some (.lst (wordsN.map V.str)) ∧ (upd J nd (.dK (putK nvs (keyW w) v))) nd = some (.dK nvs') ∧ Ents keyW (NAt K (rmS [b] (upd J nd (.dK (putK nvs (keyW w) v))))) nvs' (nmA N') ∧ nvs'.length ≤ i + 1 ∧ NmOk R C (wordsN.take (i + 1)) N' := fun J k5 k6 k7 k8 v d BJ kJ hv hd => by
        have hJ := kJ _ _ nb hn3
        have nS : nd ∉ [b] := fun z => nb (List.mem_singleton.mp z)
        have hJr : (rmS [b] J) nd = some (.dK nvs) := (rmS_of nS).trans hJ
        have kd : KD (rmS [b] J) (rmS [b] (upd J nd (.dK (putK nvs (keyW w) v)))) := by
          rw [rmS_upd nS]
          exact KD.put hJr rfl
        have e1 := ents_put (fun _ _ => keyW_inj) (k := w) (entsN_kd (KD.of (kp_rm kJ)) en3) hv
        rw [putE_new gn, ← nmA_snoc] at e1
        refine ⟨_, _, _, _, _, N ++ [(w, d)], _, rfl, ?_, kp_mut (kp3.trans kJ) hnd nb, ?_, upd_same, entsN_kd kd e1, ?_, ?_⟩
        · exact box_new (kp3.trans kJ) B BJ hnd
        · rw [upd_ne nln]
          exact kJ _ _ nlb hl3
        · have := putK_len nvs (keyW w) v
          omega
        · rw [tk]
          exact ok3.snoc wn hd
      have skip : ∀ (J : Hp) (k5 k6 k7 k8 : Option V), Box J b → Kp b H3 J →
          ∃ (k4' k5' k6' k7' k8' : Option V) (N' : NA) (nvs' : List (Key × V)), [some (V.ref b), some (.int R), some (.int C), some (.ref nd), some (.str w), k5, k6, k7, k8] = [some (.ref b), some (.int R), some (.int C), some (.ref nd), k4', k5', k6', k7', k8'] ∧ Box J b ∧ Kp b H J ∧ J lw = some (.lst (wordsN.map V.str)) ∧ J nd = some (.dK nvs') ∧ Ents keyW (NAt K (rmS [b] J)) nvs' (nmA N') ∧ nvs'.length ≤ i + 1 ∧ NmOk R C (wordsN.take (i + 1)) N' := fun J k5 k6 k7 k8 BJ kJ => by
        refine ⟨_, _, _, _, _, N, nvs, rfl, BJ, kp3.trans kJ, kJ _ _ nlb hl3, kJ _ _ nb hn3, entsN_kd (KD.of (kp_rm kJ)) en3, Nat.le_succ_of_le nl3, ?_⟩
        rw [tk]
        exact ok3.more fun x hx => List.mem_append_left _ hx
      refine ⟨_, rfl, b, 5, rfl, by decide, B3, fun kd H5 _ _ B5 kp5 => ?_⟩
      refine ⟨_, rfl, rfl, _, rfl, ite2 (fun z => ?_) (fun _ => ?_)⟩
      · obtain rfl : kd = 0 := V.int.inj (of_decide_eq_true z)
        have hn5 := kp5 _ _ nb hn3
        refine ⟨_, rfl, _, rfl, nd, _, rfl, DPut.k (k := keyW w) hn5 (small1000 (by omega)), ?_⟩
        have kk : Kp b H3 H5 := kp5
        have P := put H5 (some (.int 0)) k6 k7 k8 .non none B5 kp5 rfl (fun _ h => nomatch h)
        generalize upd H5 nd (.dK (putK nvs (keyW w) .non)) = H6 at P
        obtain ⟨k4', k5', k6', k7', k8', N', nvs', e, B6, kp6, hl6, hn6, en6, nl6, ok6⟩ := P
        refine ⟨_, rfl, (by show 2 ≤ sizeLine; decide), fun ll hll => ⟨ll, [.int 1, .int 2], rfl, .inl (SqL.of upd_same), rfl, rfl, _, rfl, iteF ?_⟩⟩
        have sl := same_new (o := .lst [.int 1, .int 2]) hll
        exact ⟨k4', k5', k6', k7', k8', N', nvs', e, B6.same sl, kp6.trans (Kp.of sl), sl _ _ hl6, sl _ _ hn6, entsN_kd (KD.of (rmS_same sl)) en6, nl6, ok6⟩
      · refine ⟨_, rfl, (by show 2 ≤ sizeLine; decide), fun ll hll => ⟨ll, [.int 1, .int 2], rfl, .inl (SqL.of upd_same), rfl, rfl, _, rfl, ?_⟩⟩
        have sl := same_new (o := .lst [.int 1, .int 2]) hll
        have B6 := B5.same sl
        have kp6 := kp5.trans (Kp.of sl)
        generalize upd H5 ll (.lst [.int 1, .int 2]) = H6 at B6 kp6
        refine ite2 (fun _ => ?_) (fun _ => skip H6 _ _ _ _ B6 kp6)
        refine ⟨Nat.zero_le _, fun ad had => ?_⟩
        have nab : ad ≠ b := box_ne B6 had
        have sa := same_new (o := .lst []) had
        have ha6 : (upd H6 ad (.lst [])) ad = some (.lst []) := upd_same
        refine ⟨_, rfl, b, 3, rfl, by decide, B6.same sa, fun x H7 x0 x1 B7 kp7 => ?_⟩
        have k67 := (Kp.of sa).trans kp7
        refine ⟨_, _, rfl, rfl, 1 + x, rfl, by omega, by omega, for_range (lo := 0) (n := (1 + x).toNat) (fun j σ H' => ∃ (k7 k8 : Option V) (xs : List V) (as : List Ar), σ = [some (.ref b), some (.int R), some (.int C), some (.ref nd), some (.str w), some (.int kd), some (.ref ad), k7, k8] ∧ Box H' b ∧ Kp b H6 H' ∧ H' ad = some (.lst xs) ∧ Ars H' xs as ∧ as.length ≤ j ∧ ∀ a ∈ as, a.ins R C ∧ ∀ w, a ≠ .name w) ⟨_, _, [], [], rfl, B7, k67, kp7 _ _ nab ha6, .nil, Nat.le_refl _, fun _ h => nomatch h⟩ ?_ ?_⟩
        · rintro j σ H8 hj ⟨k7, k8, xs, as, rfl, B8, k8p, ha8, ar8, al8, ai8⟩
          refine ⟨_, rfl, _, rfl, _, rfl, b, R, C, rfl, rc, B8, fun l a H9 B9 k9 ⟨v, tl, ts, e1, e2, e3, e4, e5, e6⟩ ains => ?_⟩
          refine ⟨l, _, _, _, rfl, rfl, SqL.of e1, atI_nat (j := 0) rfl, ?_⟩
          have ha9 := k9 _ _ nab ha8
          have ar9 := ar8.mono (TK.kp k9 B8)
          have xl := ar9.len
          have app : (∀ w, a ≠ .name w) → ∃ (k7 k8 : Option V) (xs' : List V) (as' : List Ar), [some (V.ref b), some (.int R), some (.int C), some (.ref nd), some (.str w), some (.int kd), some (.ref ad), some (.int (0 + (j : Int))), some v] = [some (.ref b), some (.int R), some (.int C), some (.ref nd), some (.str w), some (.int kd), some (.ref ad), k7, k8] ∧ Box (upd H9 ad (.lst (xs ++ [v]))) b ∧ Kp b H6 (upd H9 ad (.lst (xs ++ [v]))) ∧ (upd H9 ad (.lst (xs ++ [v]))) ad = some (.lst xs') ∧ Ars (upd H9 ad (.lst (xs ++ [v]))) xs' as' ∧ as'.length ≤ j + 1 ∧ ∀ a ∈ as', a.ins R C ∧ ∀ w, a ≠ .name w := fun na => by
            refine ⟨_, _, xs ++ [v], as ++ [a], rfl, box_new (k8p.trans k9) B6 B9 had, kp_mut (k8p.trans k9) had nab, upd_same, (ar9.snoc e4).mono (TK.mut ha9), by rw [List.length_append]; exact Nat.add_le_add_right al8 1, fun y hy => ?_⟩
            rcases List.mem_append.mp hy with h | h
            · exact ai8 y h
            · rw [List.mem_singleton.mp h]
              exact ⟨ains, na⟩
          cases a with
          | gone =>
            obtain ⟨q0, rfl, hq⟩ := id e4
            exact ⟨_, rfl, q0, _, _, _, rfl, rfl, SqT.of hq, atI_nat (j := 0) rfl, rfl, _, rfl, ifNe w1.2.2.2.2 ⟨_, rfl, .inl ⟨rfl, _, SqL.of ha9⟩, _, rfl, ad, _, _, rfl, rfl, ha9, sz100 (by omega), app (fun w z => nomatch z)⟩⟩
          | block t l b r =>
            obtain ⟨q0, rfl, hq⟩ := id e4
            exact ⟨_, rfl, q0, _, _, _, rfl, rfl, SqT.of hq, atI_nat (j := 0) rfl, rfl, _, rfl, ifNe w7.2.2 ⟨_, rfl, .inl ⟨rfl, _, SqL.of ha9⟩, _, rfl, ad, _, _, rfl, rfl, ha9, sz100 (by omega), app (fun w z => nomatch z)⟩⟩
          | name w2 =>
            obtain ⟨q0, rfl, hq⟩ := id e4
            exact ⟨_, rfl, q0, _, _, _, rfl, rfl, SqT.of hq, atI_nat (j := 0) rfl, rfl, _, rfl, ifNeY ⟨_, _, xs, as, rfl, B9, k8p.trans k9, ha9, ar9, Nat.le_succ_of_le al8, ai8⟩⟩
        · rintro σ H8 ⟨k7, k8, xs, as, rfl, B8, k8p, ha8, ar8, al8, ai8⟩
          have xl := ar8.len
          refine ⟨_, rfl, (by show 1 ≤ sizeLine; decide), fun u hu => ⟨(by show 1 ≤ sizeLine; decide), fun z hz => ?_⟩⟩
          have su := same_new (o := .tup [.str "gone"]) hu
          have szz := same_new (o := .lst [.ref u]) hz
          have s8 := su.trans szz
          refine ⟨_, rfl, ad, xs, rfl, .inl (SqL.of (s8 _ _ ha8)), rfl, .inr ⟨_, rfl, ?_⟩⟩
          have hk : ∃ m : Nat, (if (decide (V.int (xs.length : Int) = V.int 0)) then (1 : Int) else 0) = (m : Int) ∧ m ≤ 1 ∧ (xs.length + m ≤ 3) := by
            by_cases c : xs.length = 0
            · exact ⟨1, by rw [c]; rfl, Nat.le_refl _, by omega⟩
            · refine ⟨0, ?_, by omega, by omega⟩
              rw [if_neg]
              · rfl
              · intro h
                have := V.int.inj (of_decide_eq_true h)
                omega
          obtain ⟨m, hm, m1, m3⟩ := hk
          refine ⟨z, _, [.ref u], rfl, rfl, upd_same, ?_, ?_, ?_, fun p hp => ?_⟩
          · rw [hm]
            omega
          · rw [hm]
            omega
          · rw [hm]
            show 1 * m ≤ sizeLine
            exact sz100 (by omega)
          rw [hm, Int.toNat_natCast] at *
          have sp := same_new (o := .lst (List.replicate m [V.ref u]).flatten) hp
          have sA := s8.trans sp
          have rl : ∀ m : Nat, ((List.replicate m [V.ref u]).flatten).length = m := fun m => by simp
          refine ⟨ad, p, _, _, rfl, rfl, sA _ _ ha8, upd_same, sz100 (by rw [rl]; omega), fun y hy => ?_⟩
          have sy := same_new (o := .lst (xs ++ (List.replicate m [V.ref u]).flatten)) hy
          have sB := sA.trans sy
          have hgu : ArAt (upd (upd (upd (upd H8 u (.tup [.str "gone"])) z (.lst [.ref u])) p (.lst (List.replicate m [V.ref u]).flatten)) y (.lst (xs ++ (List.replicate m [V.ref u]).flatten))) (.ref u) .gone := ⟨u, rfl, ((szz.trans sp).trans sy) _ _ upd_same⟩
          have nyb : y ≠ b := box_ne (((B8.same su).same szz).same sp) hy
          have hyJ : (upd (upd (upd (upd H8 u (.tup [.str "gone"])) z (.lst [.ref u])) p (.lst (List.replicate m [V.ref u]).flatten)) y (.lst (xs ++ (List.replicate m [V.ref u]).flatten))) y = some (.lst (xs ++ (List.replicate m [V.ref u]).flatten)) := upd_same
          generalize upd (upd (upd (upd H8 u (.tup [.str "gone"])) z (.lst [.ref u])) p (.lst (List.replicate m [V.ref u]).flatten)) y (.lst (xs ++ (List.replicate m [V.ref u]).flatten)) = J at sB hgu hyJ
          have arm : ∀ m : Nat, Ars J ((List.replicate m [V.ref u]).flatten) (List.replicate m .gone) := fun m => by
            induction m with
            | zero => exact .nil
            | succ m ih =>
              rw [List.replicate_succ, List.replicate_succ, List.flatten_cons]
              exact .cons hgu ih
          have BJ := B8.same sB
          have kJ := (kp6.trans k8p).trans (Kp.of sB)
          have hnJ := kJ _ _ nb hn3
          have la : NAt K (rmS [b] J) (.ref y) ((some (as ++ List.replicate m Ar.gone)).map fun as => as.map arD) := ⟨y, _, rfl, (rmS_of fun z => nyb (List.mem_singleton.mp z)).trans hyJ, (Ars.app (arm m) (ar8.mono (TK.of sB))).dtr BJ.ls⟩
          refine ⟨_, rfl, _, rfl, nd, _, rfl, DPut.k (k := keyW w) hnJ (small1000 (by omega)), ?_⟩
          refine put J _ _ _ _ (.ref y) (some (as ++ List.replicate m Ar.gone)) BJ kJ la fun as' e => ?_
          obtain rfl := Option.some.inj e
          refine ⟨by rw [List.length_append, List.length_replicate]; omega, fun a ha => ?_⟩
          rcases List.mem_append.mp ha with h | h
          · exact ai8 a h
          · rw [(List.mem_replicate.mp h).2]
            exact ⟨trivial, fun w z => nomatch z⟩
    · rintro σ H5 ⟨k4, k5, k6, k7, k8, N, nvs, rfl, B5, kp5, hl5, hn5, en5, nl5, ok5⟩
      exact ⟨_, rfl, q nd N nvs H5 B5 kp5 hnd nb hn5 en5 nl5 (ok5.more fun x hx => List.mem_of_mem_take hx)⟩
/-! ### the world -/
theorem cdW_snoc (W : WC) (z : Int × Int) (cs : List Ct) : cdW (W ++ [(z, cs)]) = cdW W ++ [(z, cs.map ctD)] := by
  unfold cdW
  rw [List.map_append]
  rfl
theorem cdW_keys (W : WC) : (cdW W).map Prod.fst = W.map Prod.fst := by
  unfold cdW
  rw [List.map_map]
  rfl
theorem td_setC {K : PySem.W.Frag} {H : Hp} {cd nd : Addr} {cells cells' : Cells} {names : Names} {kvs' : List (List Key × V)} (D : TD K H cd nd cells names) (n : cd ≠ nd) (e : Ents idK (LAt K H) kvs' cells') (hl : kvs'.length ≤ 900) : TD K (upd H cd (.dT kvs')) cd nd cells' names := by
  obtain ⟨⟨kc, v1, e1, l1⟩, ⟨kn, v2, e2, l2⟩⟩ := D
  have kd : KD H (upd H cd (.dT kvs')) := KD.put v1 rfl
  exact ⟨⟨kvs', upd_same, ents_kd kd e, hl⟩, ⟨kn, by rw [upd_ne n.symm]; exact v2, entsN_kd kd e2, l2⟩⟩
/-- what is told for one cell -/
structure OkSh (R C : Int) (cs : List Ct) : Prop where
  all : ∀ c ∈ cs, OkC R C c
  first : ∃ c r, cs = c :: r ∧ c ≠ .blank ∧ r.length ≤ 1
structure WOk (R C : Int) (W : WC) : Prop where
  nd : (W.map Prod.fst).Nodup
  ins : ∀ e ∈ W, 0 ≤ e.1.1 ∧ e.1.1 < R ∧ 0 ≤ e.1.2 ∧ e.1.2 < C
  sh : ∀ e ∈ W, OkSh R C e.2
theorem ltK_ne {a b : Int × Int} (h : ltK a b) : a ≠ b := fun z => by
  subst z
  rcases h with h | ⟨_, h⟩ <;> omega
theorem WOk.snoc {R C : Int} {W : WC} {z : Int × Int} {cs : List Ct} (h : WOk R C W) (n : ∀ e ∈ W, e.1 ≠ z) (iz : 0 ≤ z.1 ∧ z.1 < R ∧ 0 ≤ z.2 ∧ z.2 < C) (hs : OkSh R C cs) : WOk R C (W ++ [(z, cs)]) := by
  refine ⟨?_, fun e he => ?_, fun e he => ?_⟩
  · rw [List.map_append, List.nodup_append]
    refine ⟨h.nd, by simp, fun a ha b hb y => ?_⟩
    have hb : b = z := by simpa using hb
    obtain ⟨e, he, e1⟩ := List.mem_map.mp ha
    exact n e he (by rw [e1, y, hb])
  · rcases List.mem_append.mp he with he | he
    · exact h.ins e he
    · rw [List.mem_singleton.mp he]
      exact iz
  · rcases List.mem_append.mp he with he | he
    · exact h.sh e he
    · rw [List.mem_singleton.mp he]
      exact hs
def WInv (K : PySem.W.Frag) (b : Addr) (R C : Int) (nd cd : Addr) (N : NA) (H0 : Hp) (n : Nat) (z : Int × Int) (H : Hp) : Prop := ∃ W : WC, Box H b ∧ Kp b H0 H ∧ TD K (rmS [b] H) cd nd (cdW W) (nmA N) ∧ WOk R C W ∧ W.length ≤ n ∧ ∀ e ∈ W, ltK e.1 z
theorem WInv.up {K : PySem.W.Frag} {b : Addr} {R C : Int} {nd cd : Addr} {N : NA} {H0 H H' : Hp} {n m : Nat} {z y : Int × Int} (h : WInv K b R C nd cd N H0 n z H) (k : Kp b H H') (B : Box H' b) (nm : n ≤ m) (zy : ∀ x, ltK x z → ltK x y) : WInv K b R C nd cd N H0 m y H' := by
  obtain ⟨W, B0, k0, td, ok, l, lt⟩ := h
  exact ⟨W, B, k0.trans k, td.same (kp_rm k), ok, Nat.le_trans l nm, fun e he => zy _ (lt e he)⟩
theorem WInv.put {K : PySem.W.Frag} {b : Addr} {R C : Int} {nd cd : Addr} {N : NA} {H0 H J : Hp} {n : Nat} {z y : Int × Int} {L : Addr} {us : List V} {cs : List Ct} (h : WInv K b R C nd cd N H0 n z H) (k : Kp b H J) (B0 : Box H0 b) (B : Box J b) (n1 : n < 800) (hcd : H0 cd = none) (ncn : cd ≠ nd)
    (hL : (rmS [b] J) L = some (.lst us)) (dt : DtAll (rmS [b] J) us (cs.map ctD)) (iz : 0 ≤ z.1 ∧ z.1 < R ∧ 0 ≤ z.2 ∧ z.2 < C) (hs : OkSh R C cs) (zy : ∀ x, ltK x z ∨ x = z → ltK x y) :
    ∃ kvs, J cd = some (.dT kvs) ∧ kvs.length ≤ 900 ∧ WInv K b R C nd cd N H0 (n + 1) y (upd J cd (.dT (putK kvs (idK z) (.ref L)))) := by
  obtain ⟨W, _, k0, td, ok, l, lt⟩ := h
  have td1 := td.same (kp_rm k)
  obtain ⟨⟨kvs, h1, e1, l1⟩, _⟩ := id td1
  obtain ⟨nS, hJ⟩ := rmS_some h1
  have ncb : cd ≠ b := box_ne B0 hcd
  have new : ∀ e ∈ W, e.1 ≠ z := fun e he => ltK_ne (lt e he)
  have newc : ∀ e ∈ cdW W, e.1 ≠ z := fun e he y => by
    obtain ⟨e2, he2, rfl⟩ := List.mem_map.mp he
    exact new e2 he2 y
  have kl := e1.len
  have wl : (cdW W).length = W.length := by
    unfold cdW
    rw [List.length_map]
  refine ⟨kvs, hJ, l1, W ++ [(z, cs)], box_new (k0.trans k) B0 B hcd, kp_mut (k0.trans k) hcd ncb, ?_, ok.snoc new iz hs, by rw [List.length_append]; exact Nat.add_le_add_right l 1, fun e he => ?_⟩
  · rw [rmS_upd nS, cdW_snoc, ← putE_new newc]
    refine td_setC td1 ncn (ents_put (fun _ _ => idK_inj) e1 ⟨L, us, rfl, hL, dt⟩) ?_
    have := putK_len kvs (idK z) (.ref L)
    omega
  · rcases List.mem_append.mp he with he | he
    · exact zy _ (.inl (lt e he))
    · rw [List.mem_singleton.mp he]
      exact zy _ (.inr rfl)
def spWorld (K : PySem.W.Frag) : Sp := fun vs H Q _ => ∃ (b : Addr), vs = [.ref b] ∧ Box H b ∧
  ∀ (w0 nd cd : Addr) (R C : Int) (W : WC) (N : NA) (H' : Hp), Box H' b → Kp b H H' → H w0 = none → w0 ≠ b → H' w0 = some (.lst [.int R, .int C, .ref nd, .ref cd]) → RC R C → R * C ≤ 60 → TD K (rmS [b] H') cd nd (cdW W) (nmA N) → W.length ≤ 60 → W.length ≤ 40 → WOk R C W → NmOk R C wordsN N → Q (.ref w0) H'
theorem okLawWorld (T : Txt K mg) : FnOk P w K mg base CX0 13 T.fLawWorld T.fdLawWorld ["box"] (spWorld K) := by
  refine T.FLawWorld.ok scLawWorld (fun vs H Q E h => ?_) (fun cdv A outer s H vs Q E hr h => ?_)
  · obtain ⟨b, rfl, _⟩ := h
    rfl
  · obtain ⟨b, rfl, B, q⟩ := h
    -- slots box=0 rows=1 columns=2 names=3 cells=4 row=5 column=6 shown=7
    refine ⟨_, (pss_cons (ps_set (i := 1) scLawWorld.nd rfl (Or.inl rfl) (pe_op op_add pe_int (pe_call (okLawDraw T) (hr.mono (by decide)) (by rfl) T.gLawDraw T.FLawDraw.kp T.bLawDraw .nil pass0 (pa_cons (pv 0) (pa_cons pe_int pa_nil)))))
        (pss_cons (ps_set (i := 2) scLawWorld.nd rfl (Or.inl rfl) (pe_op op_add pe_int (pe_call (okLawDraw T) (hr.mono (by decide)) (by rfl) T.gLawDraw T.FLawDraw.kp T.bLawDraw .nil pass0 (pa_cons (pv 0) (pa_cons pe_int pa_nil)))))
        (C8.pss_cut (ps_if (pt_cmpR op_eq (pe_call (okLawDraw T) (hr.mono (by decide)) (by rfl) T.gLawDraw T.FLawDraw.kp T.bLawDraw .nil pass0 (pa_cons (pv 0) (pa_cons pe_int pa_nil))) pe_int (nomark _))
          (pss_one (ps_set (i := 1) scLawWorld.nd rfl (Or.inl rfl) pe_int))
          pss_nil)
        (pss_cons (ps_set (i := 3) scLawWorld.nd rfl (Or.inl rfl) (pe_call (okLawNames T) (hr.mono (by decide)) (by rfl) T.gLawNames T.FLawNames.kp T.bLawNames .nil pass0 (pa_cons (pv 0) (pa_cons (pv 1) (pa_cons (pv 2) pa_nil)))))
        (pss_cons (ps_set (i := 4) scLawWorld.nd rfl (Or.inl rfl) pe_dnewT)
        (pss_cons (ps_for PassesOwn.never rfl (pi_range1 rfl T.z_range (pa_cons (pv 1) pa_nil)) (pg_name (i := 5) scLawWorld.nd rfl (Or.inl rfl))
          (pss_one (ps_for PassesOwn.never rfl (pi_range1 rfl T.z_range (pa_cons (pv 2) pa_nil)) (pg_name (i := 6) scLawWorld.nd rfl (Or.inl rfl))
            (pss_one (ps_if (pt_cmpR op_gt (pe_call (okLawDraw T) (hr.mono (by decide)) (by rfl) T.gLawDraw T.FLawDraw.kp T.bLawDraw .nil pass0 (pa_cons (pv 0) (pa_cons pe_int pa_nil))) pe_int (nomark _))
              (pss_cons (ps_set (i := 7) scLawWorld.nd rfl (Or.inl rfl) (pe_lst (pa_cons (pe_call (okLawContent T) (hr.mono (by decide)) (by rfl) T.gLawContent T.FLawContent.kp T.bLawContent .nil pass0 (pa_cons (pv 0) (pa_cons (pv 1) (pa_cons (pv 2) (pa_cons (pe_call (okLawDraw T) (hr.mono (by decide)) (by rfl) T.gLawDraw T.FLawDraw.kp T.bLawDraw .nil pass0 (pa_cons (pv 0) (pa_cons pe_int pa_nil))) pa_nil))))) pa_nil)))
              (C8.pss_cut (ps_if (pt_cmpR op_eq (pe_call (okLawDraw T) (hr.mono (by decide)) (by rfl) T.gLawDraw T.FLawDraw.kp T.bLawDraw .nil pass0 (pa_cons (pv 0) (pa_cons pe_int pa_nil))) pe_int (nomark _))
                (pss_one (ps_expr (pe_bm PySem.F.plainAttrs_list PySem.F.slot_list_append PySem.F.type_list_append mt_append (pv 7) (pa_cons (pe_ix ix_list (pe_lst (pa_cons (pe_tup (pa_cons pe_str pa_nil)) (pa_cons (pe_tup (pa_cons pe_str (pa_cons pe_str pa_nil))) pa_nil))) (pe_call (okLawDraw T) (hr.mono (by decide)) (by rfl) T.gLawDraw T.FLawDraw.kp T.bLawDraw .nil pass0 (pa_cons (pv 0) (pa_cons pe_int pa_nil))) (fun _ _ => rfl)) pa_nil))))
                pss_nil)
              (pss_one (ps_dput (units2 hr) (pv 4) (pe_tup (pa_cons (pv 5) (pa_cons (pv 6) pa_nil))) (pv 7) rfl))))
              pss_nil)))))
        (pss_one (ps_ret (pe_lst (pa_cons (pv 1) (pa_cons (pv 2) (pa_cons (pv 3) (pa_cons (pv 4) pa_nil))))))))))))), ?_⟩
    refine ⟨_, rfl, b, 4, rfl, by decide, B, fun x H1 x0 x1 B1 k1 => ⟨_, _, rfl, rfl, ⟨_, rfl, b, 3, rfl, by decide, B1, fun y H2 y0 y1 B2 k2 => ⟨_, _, rfl, rfl, ?_⟩⟩⟩⟩
    refine ⟨fun σ H' => ∃ R : Int, 0 < R ∧ R ≤ 9 ∧ σ = [some (.ref b), some (.int R), some (.int (1 + y)), none, none, none, none, none] ∧ Box H' b ∧ Kp b H H', ?_, ?_⟩
    · refine ⟨_, rfl, b, 12, rfl, by decide, B2, fun u H3 _ _ B3 k3 => ⟨rfl, _, rfl, ite2 (fun _ => ?_) (fun _ => ?_)⟩⟩
      · exact ⟨9, by decide, by decide, rfl, B3, (k1.trans k2).trans k3⟩
      · exact ⟨1 + x, by omega, by omega, rfl, B3, (k1.trans k2).trans k3⟩
    rintro σ H3 ⟨R, R0, R1, rfl, B3, k3⟩
    have rc : RC R (1 + y) := ⟨R0, by omega, by omega, by omega⟩
    have cc : 1 + y ≤ 3 := by omega
    generalize 1 + y = C at rc cc
    refine ⟨_, rfl, _, rfl, _, rfl, b, R, C, rfl, rc, B3, fun nd N nvs H4 B4 k4 hnd nnb hn4 en4 nl4 ok4 => ?_⟩
    refine fun cd hcd => ?_
    have ncb : cd ≠ b := box_ne B4 hcd
    have ncn : cd ≠ nd := fun z => by
      rw [z, hn4] at hcd
      cases hcd
    have s5 := same_new (o := .dT []) hcd
    have B5 := B4.same s5
    have k45 := k4.trans (Kp.of s5)
    have hc5 : (upd H4 cd (.dT [])) cd = some (.dT []) := upd_same
    have hcd3 : H3 cd = none := none_back k4 hcd B4
    have nS : cd ∉ [b] := fun z => ncb (List.mem_singleton.mp z)
    have nN : nd ∉ [b] := fun z => nnb (List.mem_singleton.mp z)
    have I5 : WInv K b R C nd cd N H3 0 (0, 0) (upd H4 cd (.dT [])) := ⟨[], B5, k45, ⟨⟨[], (rmS_of nS).trans hc5, RepP.nil, Nat.zero_le _⟩, ⟨nvs, (rmS_of nN).trans (s5 _ _ hn4), entsN_kd (KD.of (rmS_same s5)) en4, by omega⟩⟩, ⟨List.nodup_nil, (fun _ h => nomatch h), (fun _ h => nomatch h)⟩, Nat.le_refl _, fun _ h => nomatch h⟩
    have rc0 := rc.c0
    generalize upd H4 cd (.dT []) = H5 at I5
    refine ⟨_, rfl, _, rfl, by omega, by omega, for_range (lo := 0) (n := R.toNat) (fun i σ H' => ∃ (c5 c6 c7 : Option V), σ = [some (.ref b), some (.int R), some (.int C), some (.ref nd), some (.ref cd), c5, c6, c7] ∧ WInv K b R C nd cd N H3 (3 * i) ((i : Int), 0) H') ⟨_, _, _, rfl, I5⟩ ?_ ?_⟩
    · rintro i σ H6 hi ⟨c5, c6, c7, rfl, I6⟩
      rw [show (0 : Int) + (i : Int) = (i : Int) from Int.zero_add _]
      refine ⟨_, rfl, _, rfl, by omega, by omega, for_range (lo := 0) (n := C.toNat) (fun j σ H' => ∃ (c6 c7 : Option V), σ = [some (.ref b), some (.int R), some (.int C), some (.ref nd), some (.ref cd), some (.int (i : Int)), c6, c7] ∧ WInv K b R C nd cd N H3 (3 * i + j) ((i : Int), (j : Int)) H') ⟨_, _, rfl, I6⟩ ?_ ?_⟩
      · rintro j σ H7 hj ⟨c6, c7, rfl, I7⟩
        rw [show (0 : Int) + (j : Int) = (j : Int) from Int.zero_add _]
        have nxt : ∀ x : Int × Int, ltK x ((i : Int), (j : Int)) ∨ x = ((i : Int), (j : Int)) → ltK x ((i : Int), ((j + 1 : Nat) : Int)) := fun x h => by
          rcases h with h | rfl
          · rcases h with h | ⟨h, h2⟩
            · exact .inl h
            · exact .inr ⟨h, by show x.2 < ((j + 1 : Nat) : Int); have : x.2 < (j : Int) := h2; omega⟩
          · exact .inr ⟨rfl, by show (j : Int) < ((j + 1 : Nat) : Int); omega⟩
        obtain ⟨W7, B7, _⟩ := id I7
        refine ⟨_, rfl, b, 5, rfl, by decide, B7, fun u H8 _ _ B8 k8 => ⟨_, _, rfl, rfl, _, rfl, ite2 (fun _ => ?_) (fun _ => ?_)⟩⟩
        rotate_left
        · exact ⟨_, _, rfl, I7.up k8 B8 (Nat.le_succ _) fun x h => nxt x (.inl h)⟩
        refine ⟨_, rfl, _, rfl, _, rfl, _, rfl, b, 3, rfl, by decide, B8, fun d H9 d0 d1 B9 k9 => ?_⟩
        obtain ⟨dn, rfl⟩ := Int.eq_ofNat_of_zero_le d0
        refine ⟨b, R, C, dn, rfl, rc, by omega, B9, fun v c HA BA kA dA okA nbl => ⟨(by show 1 ≤ sizeLine; decide), fun L hL => ?_⟩⟩
        have sL := same_new (o := .lst [v]) hL
        have nLb : L ≠ b := box_ne BA hL
        have kL := ((k8.trans k9).trans kA).trans (Kp.of sL)
        have hLA : (upd HA L (.lst [v])) L = some (.lst [v]) := upd_same
        have nLS : L ∉ [b] := fun z => nLb (List.mem_singleton.mp z)
        have BL := BA.same sL
        have dL : Dt (upd HA L (.lst [v])) v (ctD c) := dA.tt (TT.of sL)
        refine ⟨fun σ H' => ∃ (us : List V) (cs : List Ct), σ = [some (.ref b), some (.int R), some (.int C), some (.ref nd), some (.ref cd), some (.int (i : Int)), some (.int (j : Int)), some (.ref L)] ∧ Box H' b ∧ Kp b H7 H' ∧ H' L = some (.lst us) ∧ DtAll H' us (cs.map ctD) ∧ OkSh R C cs, ?_, ?_⟩
        · refine ⟨_, rfl, b, 12, rfl, by decide, BL, fun u HB _ _ BB kB => ⟨rfl, _, rfl, ite2 (fun _ => ?_) (fun _ => ?_)⟩⟩
          rotate_left
          · exact ⟨[v], [c], rfl, BB, kL.trans kB, kB _ _ nLb hLA, .cons (dL.tt (TK.kp kB BL)) .nil, ⟨fun x hx => by rw [List.mem_singleton.mp hx]; exact okA, c, [], rfl, nbl, Nat.zero_le _⟩⟩
          have hLB := kB _ _ nLb hLA
          refine ⟨_, rfl, .inl ⟨rfl, _, SqL.of hLB⟩, (by show 1 ≤ sizeLine; decide), fun t1 h1 => ⟨(by show 2 ≤ sizeLine; decide), fun t2 h2 => ⟨(by show 2 ≤ sizeLine; decide), fun z hz => ?_⟩⟩⟩
          have s1 := same_new (o := .tup [.str "blank"]) h1
          have s2 := same_new (o := .tup [.str "text", .str "y"]) h2
          have s3 := same_new (o := .lst [.ref t1, .ref t2]) hz
          have BC := ((BB.same s1).same s2).same s3
          have nzb : z ≠ b := box_ne ((BB.same s1).same s2) hz
          refine ⟨_, rfl, b, 2, rfl, by decide, BC, fun e HD e0 e1 BD kD => ?_⟩
          have g1 := kD _ _ (fun z => by rw [z] at h1; exact absurd h1 (by obtain ⟨_, _, _, y, _⟩ := BB; rw [y]; exact fun w => nomatch w)) ((s2.trans s3) _ _ (show (upd HB t1 (.tup [.str "blank"])) t1 = some (.tup [.str "blank"]) from upd_same))
          have g2 := kD _ _ (fun z => by rw [z] at h2; exact absurd h2 (by obtain ⟨_, _, _, y, _⟩ := BB.same s1; rw [y]; exact fun w => nomatch w)) (s3 _ _ (show (upd (upd HB t1 (.tup [.str "blank"])) t2 (.tup [.str "text", .str "y"])) t2 = some (.tup [.str "text", .str "y"]) from upd_same))
          have gz := kD _ _ nzb upd_same
          have kBD := (Kp.of (b := b) ((s1.trans s2).trans s3)).trans kD
          have hLD := kBD _ _ nLb hLB
          have tD : TT HB HD := TK.kp kBD BB
          obtain ⟨x, cx, hx, dx⟩ : ∃ (x : V) (cx : Ct), atI [V.ref t1, .ref t2] e = some x ∧ Dt HD x (ctD cx) ∧ OkC R C cx := by
            obtain ⟨en, rfl⟩ := Int.eq_ofNat_of_zero_le e0
            match en, e1 with
            | 0, _ => exact ⟨_, .blank, atI_nat rfl, .tup g1 (.cons (.str _) .nil), trivial⟩
            | 1, _ => exact ⟨_, .text ⟨"y", by decide +kernel⟩, atI_nat rfl, .tup g2 (.cons (.str _) (.cons (.str _) .nil)), trivial⟩
            | n + 2, h => exact absurd h (by omega)
          refine ⟨z, _, _, _, rfl, rfl, SqL.of gz, hx, L, _, _, rfl, rfl, hLD, (by show 1 < sizeLine; decide), ?_⟩
          have hm : TT HD (upd HD L (.lst ([v] ++ [x]))) := TK.mut hLD
          refine ⟨[v] ++ [x], [c, cx], rfl, box_new ((kL.trans kB).trans kBD) B7 BD ?_, kp_mut ((kL.trans kB).trans kBD) ?_ nLb, upd_same, .cons ((((dL.tt (TK.kp kB BL)).tt tD)).tt hm) (.cons (dx.1.tt hm) .nil), ⟨fun y hy => ?_, c, [cx], rfl, nbl, Nat.le_refl _⟩⟩
          · exact none_back ((k8.trans k9).trans kA) hL BA
          · exact none_back ((k8.trans k9).trans kA) hL BA
          · rcases List.mem_cons.mp hy with h | h
            · rw [h]
              exact okA
            · rw [List.mem_singleton.mp h]
              exact dx.2
        · rintro σ HB ⟨us, cs, rfl, BB, kB, hLB, dB, okB⟩
          refine ⟨_, rfl, _, rfl, _, rfl, _, rfl, (by show 2 ≤ sizeLine; decide), fun t ht => ?_⟩
          have st := same_new (o := .tup [.int (i : Int), .int (j : Int)]) ht
          have htA : (upd HB t (.tup [.int (i : Int), .int (j : Int)])) t = some (.tup [.int (i : Int), .int (j : Int)]) := upd_same
          have kC := kB.trans (Kp.of st)
          have BC := BB.same st
          have hLC := st _ _ hLB
          have dC := dB.tt (TT.of st)
          generalize upd HB t (.tup [.int (i : Int), .int (j : Int)]) = HC at htA kC BC hLC dC
          obtain ⟨kvs, hk, lk, I'⟩ := I7.put (L := L) (us := us) (cs := cs) (y := ((i : Int), ((j + 1 : Nat) : Int))) kC B3 BC (by omega) hcd3 ncn ((rmS_of nLS).trans hLC) (dC.tt BC.ls.tt) (by show 0 ≤ (i : Int) ∧ (i : Int) < R ∧ 0 ≤ (j : Int) ∧ (j : Int) < C; omega) okB nxt
          exact ⟨cd, _, rfl, DPut.t (k := idK ((i : Int), (j : Int))) hk htA (small1000 (by omega)), _, _, rfl, I'⟩
      · rintro σ H7 ⟨c6, c7, rfl, I7⟩
        obtain ⟨_, B7, _⟩ := id I7
        refine ⟨_, _, _, rfl, I7.up Kp.refl B7 (by omega) fun x h => ?_⟩
        rcases h with h | ⟨h, h2⟩
        · exact .inl (by show x.1 < ((i + 1 : Nat) : Int); have : x.1 < (i : Int) := h; omega)
        · exact .inl (by show x.1 < ((i + 1 : Nat) : Int); have : x.1 = (i : Int) := h; omega)
    · rintro σ H6 ⟨c5, c6, c7, rfl, I6⟩
      refine ⟨_, rfl, _, rfl, _, rfl, _, rfl, (by show 4 ≤ sizeLine; decide), fun w0 hw0 => ?_⟩
      obtain ⟨W, B6, k6, td6, ok6, l6, _⟩ := I6
      have sw := same_new (o := .lst [.int R, .int C, .ref nd, .ref cd]) hw0
      refine q w0 nd cd R C W N _ (B6.same sw) ((k3.trans k6).trans (Kp.of sw)) (none_back (k3.trans k6) hw0 B6) (box_ne B6 hw0) upd_same rc ?_ (td6.same (rmS_same sw)) (by omega) (by omega) ok6 ok4
      have : R * C ≤ 9 * 3 := Int.mul_le_mul R1 cc (by omega) (by decide)
      omega
/-! ### the grid of the world -/
theorem signs_ok : ∀ s ∈ signsL, PyData.strOk s = true := by decide +kernel
theorem fns_ok : ∀ s ∈ fnsL, PyData.strOk s = true := by decide +kernel
theorem okw6 : PyData.strOk ("gone" : Str) = true ∧ PyData.strOk ("num" : Str) = true ∧ PyData.strOk ("cell" : Str) = true ∧ PyData.strOk ("neg" : Str) = true ∧ PyData.strOk ("op" : Str) = true ∧ PyData.strOk ("call" : Str) = true := by decide +kernel
theorem okw4 : PyData.strOk ("text" : Str) = true ∧ PyData.strOk ("number" : Str) = true ∧ PyData.strOk ("formula" : Str) = true ∧ PyData.strOk ("blank" : Str) = true := by decide +kernel
theorem trD_lay {R C : Int} : ∀ {t : Tr}, t.okR R C → (trD t).canLay0 = true
  | .gone, _ => by simp [trD, PyData.canLay0, PyData.canLayAll0, okw6]
  | .num x y, _ => by simp [trD, PyData.canLay0, PyData.canLayAll0, okw6]
  | .cell r c, _ => by simp [trD, PyData.canLay0, PyData.canLayAll0, okw6]
  | .neg t, o => by simp [trD, PyData.canLay0, PyData.canLayAll0, okw6, trD_lay (t := t) o]
  | .op s l r, o => by simp [trD, PyData.canLay0, PyData.canLayAll0, okw6, trD_lay (t := l) o.1, trD_lay (t := r) o.2.1, signs_ok s o.2.2]
  | .call n as, o => by simp [trD, PyData.canLay0, PyData.canLayAll0, okw6, arDs_lay as, fns_ok n o.2.2]
theorem trD_depth : ∀ t : Tr, (trD t).depth ≤ t.h + 3
  | .gone => by simp [trD, PyData.depth, PyData.depthAll]
  | .num x y => by simp [trD, PyData.depth, PyData.depthAll, Tr.h]
  | .cell r c => by simp [trD, PyData.depth, PyData.depthAll]
  | .neg t => by
    have := trD_depth t
    simp only [trD, PyData.depth, PyData.depthAll, Tr.h]
    omega
  | .op s l r => by
    have := trD_depth l
    have := trD_depth r
    simp only [trD, PyData.depth, PyData.depthAll, Tr.h]
    omega
  | .call n as => by
    have := arDs_depth as
    simp only [trD, PyData.depth, PyData.depthAll, Tr.h]
    omega
theorem ctD_lay {R C : Int} {c : Ct} (o : OkC R C c) : (ctD c).canLay0 = true := by
  cases c with
  | text w => simp [ctD, PyData.canLay0, PyData.canLayAll0, okw4, w.2]
  | num x y => simp [ctD, PyData.canLay0, PyData.canLayAll0, okw4]
  | blank => simp [ctD, PyData.canLay0, PyData.canLayAll0, okw4]
  | form t => simp [ctD, PyData.canLay0, PyData.canLayAll0, okw4, trD_lay (t := t) o.1]
theorem ctD_depth {R C : Int} {c : Ct} (o : OkC R C c) : (ctD c).depth ≤ 9 := by
  cases c with
  | text w => simp [ctD, PyData.depth, PyData.depthAll]
  | num x y => simp [ctD, PyData.depth, PyData.depthAll]
  | blank => simp [ctD, PyData.depth, PyData.depthAll]
  | form t =>
    have := trD_depth t
    have := o.2
    simp only [ctD, PyData.depth, PyData.depthAll]
    omega
theorem cts_shaped {R C : Int} : ∀ cs : List Ct, (∀ c ∈ cs, OkC R C c) → PyData.canLayAll0 (cs.map ctD) = true ∧ PyData.depthAll (cs.map ctD) ≤ 9
  | [], _ => by simp [PyData.canLayAll0, PyData.depthAll]
  | c :: cs, h => by
    obtain ⟨h1, h2⟩ := cts_shaped cs fun x hx => h x (List.mem_cons_of_mem _ hx)
    have h3 := ctD_depth (h c List.mem_cons_self)
    refine ⟨by simp [PyData.canLayAll0, ctD_lay (h c List.mem_cons_self), h1], ?_⟩
    simp only [List.map_cons, PyData.depthAll]
    omega
theorem OkSh.shaped {R C : Int} {cs : List Ct} (h : OkSh R C cs) : SeqAt.shaped (.list (cs.map ctD)) = true := by
  obtain ⟨h1, h2⟩ := cts_shaped cs h.all
  show (PyData.canLay0 (.list (cs.map ctD)) && decide (PyData.depth (.list (cs.map ctD)) ≤ 64)) = true
  rw [Bool.and_eq_true]
  refine ⟨by simp only [PyData.canLay0]; exact h1, decide_eq_true ?_⟩
  simp only [PyData.depth]
  omega
theorem nbl4 : ("text" : Str) ≠ "blank" ∧ ("number" : Str) ≠ "blank" ∧ ("formula" : Str) ≠ "blank" := by decide +kernel
theorem OkSh.notBl {R C : Int} {cs : List Ct} (h : OkSh R C cs) : isBl (cs.map ctD) = false := by
  obtain ⟨c, r, rfl, nb, _⟩ := h.first
  unfold isBl blankD
  cases c with
  | blank => exact absurd rfl nb
  | text w => simp [ctD, PyData.eqv, PyData.eqvAll, nbl4]
  | num x y => simp [ctD, PyData.eqv, PyData.eqvAll, nbl4]
  | form t => simp [ctD, PyData.eqv, PyData.eqvAll, nbl4]
theorem kd_rmS {S : List Addr} {H H' : Hp} (k : KD H H') : KD (rmS S H) (rmS S H') := fun a o n h => by
  obtain ⟨m, e⟩ := rmS_some h
  rw [rmS_of m]
  exact k a o n e
theorem getE_snoc {κ β : Type} [DecidableEq κ] (D : List (κ × β)) (k : κ) (v : β) (j : κ) : getE (D ++ [(k, v)]) j = (getE D j).or (if k = j then some v else none) := by
  unfold getE
  rw [List.find?_append]
  cases D.find? (fun e => decide (e.1 = j)) with
  | some e => rfl
  | none =>
    by_cases z : k = j
    · simp [z]
    · simp [z]
def setW : List Str := ["total", "mi", "ab", "goner"]
theorem setW_nd : setW.Nodup := by decide +kernel
theorem setW_all : ∀ w ∈ wordsN, w ∈ setW := by decide +kernel
theorem snew {i : Nat} {w : Str} (h : setW[i]? = some w) : w ∉ setW.take i := fun z => by
  obtain ⟨j, hj⟩ := List.mem_iff_getElem?.mp z
  have hij : j < i := by
    have := (List.getElem?_eq_some_iff.mp hj).1
    rw [List.length_take] at this
    omega
  rw [List.getElem?_take_of_lt hij] at hj
  obtain ⟨g1, g2⟩ := List.getElem?_eq_some_iff.mp hj
  obtain ⟨g3, g4⟩ := List.getElem?_eq_some_iff.mp h
  exact List.pairwise_iff_getElem.mp setW_nd j i g1 g3 hij (g2.trans g4.symm)
def NS (K : PySem.W.Frag) (S : List Addr) (H : Hp) (nd : Addr) (N : NA) : Prop := ∃ nvs, (rmS S H) nd = some (.dK nvs) ∧ Ents keyW (NAt K (rmS S H)) nvs (nmA N)
theorem Ls.kd {S : List Addr} {H H' : Hp} (l : Ls S H) (k : KD H H') : Ls S H' := fun x h => by
  obtain ⟨us, e⟩ := l x h
  exact ⟨us, k _ _ rfl e⟩
/-- the names that the grid gets, in its own order -/
structure SameN (N N' : NA) : Prop where
  get : ∀ w, getE N' w = getE N w
  sub : ∀ e ∈ N', e ∈ N
  len : N'.length ≤ 4
def spSetNames (K : PySem.W.Frag) (C0 : Addr) : Sp := fun vs H Q _ => ∃ (S : List Addr) (g : Gr) (cells : Cells) (N : NA) (nd : Addr), vs = [.ref g.G, .ref nd] ∧ Ls S H ∧ GD K C0 (rmS S H) g cells [] ∧ NS K S H nd N ∧ nd ≠ g.nd ∧ (∀ e ∈ N, e.1 ∈ wordsN) ∧ NOk N ∧
  ∀ (H' : Hp) (N' : NA), KG g H H' → KD H H' → GD K C0 (rmS S H') g cells (nmA N') → SameN N N' → Q .non H'
theorem okLawSetNames (T : Txt K mg) : FnOk P w K mg base CX0 2 T.fLawSetNames T.fdLawSetNames ["grid", "names"] (spSetNames K T.cGrid) := by
  refine T.FLawSetNames.ok scLawSetNames (fun vs H Q E h => ?_) (fun cdv A outer s H vs Q E hr h => ?_)
  · obtain ⟨S, g, cells, N, nd, rfl, _⟩ := h
    rfl
  · obtain ⟨S, g, cells, N, nd, rfl, ls, G, ns, nn, kw, nok, q⟩ := h
    -- slots grid=0 names=1 word=2 area=3
    refine ⟨_, (pss_one (ps_for PassesOwn.never rfl (pi_list (pe_lst (pa_cons pe_str (pa_cons pe_str (pa_cons pe_str (pa_cons pe_str pa_nil)))))) (pg_name (i := 2) scLawSetNames.nd rfl (Or.inl rfl))
          (pss_one (ps_if (pt_cmp (pc_din (units2 hr) (pv 2) (pv 1)))
            (pss_one (ps_if (pt_cmpR op_isN (pe_dget (units2 hr) (pv 1) (pv 2) (fun _ _ => rfl)) pe_non (nomark _))
              (pss_one (ps_expr (pe_meth (pv 0) T.clGrid T.meGrid_Name (okGrid_Name T) (hr.mono (by decide)) T.bGrid_Name .nil pass0 (pa_cons (pv 2) (pa_cons pe_non pa_nil)))))
              (pss_one (ps_expr (pe_meth (pv 0) T.clGrid T.meGrid_Name (okGrid_Name T) (hr.mono (by decide)) T.bGrid_Name .nil pass0 (pa_cons (pv 2) (pa_cons (pe_lc (own := [("area", 3)]) (g := gName 3) (tt := tYes) rfl scLawSetNames.nd (pi_list (pe_dget (units2 hr) (pv 1) (pv 2) (fun _ _ => rfl))) (blkOk_by (own := [("area", 3)]) (N := ["grid", "names", "word", "area"]) (sc := defScope sLawSetNames) (by decide +kernel)) (fun _ _ _ _ _ => (pg_name (i := 3) scLawSetNames.nd rfl (Or.inl rfl))) (fun _ _ _ _ _ => pts_nil) (fun _ _ _ _ _ => (pv 3))) pa_nil)))))))
            pss_nil)))), ?_⟩
    refine ⟨(by show 4 ≤ sizeLine; decide), fun lw hlw => ?_⟩
    have sw := same_new (o := .lst [.str "total", .str "mi", .str "ab", .str "goner"]) hlw
    have hlw1 : (upd H lw (.lst [.str "total", .str "mi", .str "ab", .str "goner"])) lw = some (.lst [.str "total", .str "mi", .str "ab", .str "goner"]) := upd_same
    have G1 := G.same (rmS_same sw)
    have ls1 := ls.same sw
    have ncd : nd ≠ g.cd := fun z => by
      obtain ⟨nvs, h1, _⟩ := ns
      obtain ⟨_, ⟨kvs, h2, _⟩, _⟩ := G
      rw [z, h2] at h1
      cases h1
    generalize upd H lw (.lst [.str "total", .str "mi", .str "ab", .str "goner"]) = H1 at sw hlw1 G1 ls1
    have nsAt : ∀ J, KG g H1 J → KD H1 J → NS K S J nd N := fun J kg kd => by
      obtain ⟨nvs, h1, e1⟩ := ns
      obtain ⟨m, e⟩ := rmS_some h1
      exact ⟨nvs, by rw [rmS_of m]; exact kg nd _ ncd nn (sw _ _ e), entsN_kd (kd_rmS ((KD.of sw).trans kd)) e1⟩
    refine ⟨lw, rfl, ⟨_, SqL.of hlw1⟩, for_it (walk_list (a := lw) (xs := setW.map V.str)) (fun i σ H' => ∃ (k2 k3 : Option V) (N' : NA), σ = [some (.ref g.G), some (.ref nd), k2, k3] ∧ KG g H1 H' ∧ KD H1 H' ∧ GD K T.cGrid (rmS S H') g cells (nmA N') ∧ N'.length ≤ i ∧ (∀ w ∈ setW.take i, getE N' w = getE N w) ∧ (∀ w, w ∉ setW.take i → getE N' w = none) ∧ ∀ e ∈ N', e ∈ N)
      ⟨_, _, [], rfl, KG.of (Same.refl _), KD.of (Same.refl _), G1, Nat.le_refl _, (fun _ h => nomatch h), (fun _ _ => rfl), fun _ h => nomatch h⟩ (fun i σ H' _ ⟨_, _, _, _, _, kd, _⟩ => SqL.of (kd _ _ rfl hlw1)) ?_ ?_⟩
    · rintro i x σ HX H2 hi ⟨k2, k3, N', rfl, kg, kd, G2, nl, a1, a2, a3⟩ ⟨rfl, hx⟩
      have hi : i < 4 := hi
      rw [List.getElem?_map] at hx
      obtain ⟨w, hw, rfl⟩ := Option.map_eq_some_iff.mp hx
      have wn := snew hw
      have tk : setW.take (i + 1) = setW.take i ++ [w] := by
        rw [List.take_add_one, hw]
        rfl
      obtain ⟨nvs, hnr, en⟩ := nsAt H2 kg kd
      obtain ⟨nS, hn⟩ := rmS_some hnr
      obtain ⟨e1, e2⟩ := ents_get (fun _ _ => keyW_inj) en w
      have dg := DGet.k (k := keyW w) hn
      rw [getE_nmA] at e1 e2
      have gn := a2 w wn
      have new : ∀ e ∈ nmA N', e.1 ≠ w := fun e he z => by
        have : e.1 ∈ (nmA N').map Prod.fst := List.mem_map.mpr ⟨e, he, rfl⟩
        rw [nmA_keys, z] at this
        exact getE_none gn this
      -- behind the put
      have fin : ∀ (d : Option (List Ar)) (J : Hp) (k3 : Option V), getE N w = some d → KG g H2 J → KD H2 J → GD K T.cGrid (rmS S J) g cells (putE (nmA N') w (d.map fun as => as.map arD)) →
          ∃ (k2' k3' : Option V) (N' : NA), [some (V.ref g.G), some (.ref nd), some (.str w), k3] = [some (.ref g.G), some (.ref nd), k2', k3'] ∧ KG g H1 J ∧ KD H1 J ∧ GD K T.cGrid (rmS S J) g cells (nmA N') ∧ N'.length ≤ i + 1 ∧ (∀ w ∈ setW.take (i + 1), getE N' w = getE N w) ∧ (∀ w, w ∉ setW.take (i + 1) → getE N' w = none) ∧ ∀ e ∈ N', e ∈ N := fun d J k3 hg kg3 kd3 G3 => by
        rw [putE_new new, ← nmA_snoc] at G3
        refine ⟨_, _, N' ++ [(w, d)], rfl, kg.trans kg3, kd.trans kd3, G3, by rw [List.length_append]; exact Nat.add_le_add_right nl 1, fun w2 h2 => ?_, fun w2 h2 => ?_, fun e he => ?_⟩
        · rw [tk] at h2
          rw [getE_snoc]
          by_cases z : w = w2
          · rw [← z, gn, hg, if_pos rfl]
            rfl
          · rw [if_neg z, Option.or_none]
            rcases List.mem_append.mp h2 with h | h
            · exact a1 w2 h
            · exact absurd (List.mem_singleton.mp h).symm z
        · rw [tk] at h2
          rw [getE_snoc, a2 w2 fun z => h2 (List.mem_append_left _ z), if_neg fun z => h2 (List.mem_append_right _ (List.mem_singleton.mpr z.symm))]
          rfl
        · rcases List.mem_append.mp he with h | h
          · exact a3 e h
          · rw [List.mem_singleton.mp h]
            exact getE_key hg
      obtain ⟨⟨dx, hGr⟩, _⟩ := id G2
      have hG := (rmS_some hGr).2
      have ls2 := ls1.kd kd
      have nl8 : (nmA N').length ≤ 800 := by
        unfold nmA
        rw [List.length_map]
        omega
      refine ⟨_, rfl, _, rfl, nd, _, rfl, dg, _, rfl, ?_⟩
      cases hg : getE N w with
      | none =>
        rw [e1 (by rw [hg]; rfl)]
        refine iteF ⟨_, _, N', rfl, kg, kd, G2, Nat.le_succ_of_le nl, fun w2 h2 => ?_, fun w2 h2 => a2 w2 fun z => h2 (by rw [tk]; exact List.mem_append_left _ z), a3⟩
        rw [tk] at h2
        rcases List.mem_append.mp h2 with h | h
        · exact a1 w2 h
        · rw [List.mem_singleton.mp h, gn, hg]
      | some d =>
        obtain ⟨v, ev, hv⟩ := e2 _ (by rw [hg]; rfl)
        rw [ev] at dg ⊢
        refine iteT ?_
        cases d with
        | none =>
          obtain rfl := hv
          refine ⟨_, rfl, _, rfl, nd, .non, rfl, dg, rfl, _, rfl, ite2 (fun _ => ?_) (fun c => absurd (decide_eq_true rfl) c)⟩
          exact ⟨_, rfl, g.G, dx, _, rfl, hG, rfl, _, rfl, S, g, cells, nmA N', w, .non, none, rfl, ls2, G2, nl8, rfl, fun H3 kg3 kd3 G3 => fin none H3 _ hg kg3 kd3 G3⟩
        | some as =>
          obtain ⟨l, us, rfl, hlr, dt⟩ := hv
          obtain ⟨lS, hl⟩ := rmS_some hlr
          have ul := dt.length
          refine ⟨_, rfl, _, rfl, nd, .ref l, rfl, dg, rfl, _, rfl, ite2 (fun c => nomatch (of_decide_eq_true c)) (fun _ => ?_)⟩
          refine ⟨_, rfl, g.G, dx, _, rfl, hG, rfl, _, rfl, _, rfl, _, rfl, nd, .ref l, rfl, dg, l, rfl, ⟨_, SqL.of hl⟩, fun M hM => ?_⟩
          refine lc_it (walk_list (a := l) (xs := us)) (fun j H' => Same H2 H' ∧ H' M = some (.lst (us.take j))) ⟨same_new hM, upd_same⟩ (fun i H' _ h => h.1.seq (SqL.of hl)) ?_ ?_
          · rintro j y H8 H9 hj ⟨s8, hM8⟩ ⟨rfl, hy⟩
            refine ⟨rfl, yesT ⟨_, rfl, _, hM8, ?_, same_mut s8 hM, ?_⟩⟩
            · rw [List.length_take, ul, List.length_map]
              have := nok _ (getE_key hg) as rfl
              exact sz100 (by omega)
            · rw [upd_same, List.take_add_one, hy]
              rfl
          · rintro H8 ⟨s8, hM8⟩
            rw [List.take_of_length_le (Nat.le_refl _)] at hM8
            refine ⟨S, g, cells, nmA N', w, .ref M, some (as.map arD), rfl, ls2.same s8, G2.same (rmS_same s8), nl8, ⟨M, us, rfl, hM8, dt.tt (TT.of (rmS_le.trans s8))⟩, fun H3 kg3 kd3 G3 => fin (some as) H3 _ hg ((KG.of s8).trans kg3) ((KD.of s8).trans kd3) G3⟩
    · rintro σ H2 ⟨k2, k3, N', rfl, kg, kd, G2, nl, a1, a2, a3⟩
      refine q H2 N' ((KG.of sw).trans kg) ((KD.of sw).trans kd) G2 ⟨fun w => ?_, a3, nl⟩
      by_cases z : w ∈ setW
      · exact a1 w z
      · rw [a2 w fun y => z (List.mem_of_mem_take y)]
        cases hg : getE N w with
        | none => rfl
        | some d => exact absurd (setW_all w (kw _ (getE_key hg))) z
/-- a new grid of nothing -/
theorem new_grid {K : PySem.W.Frag} {C : Addr} {H : Hp} {x dy : Addr} {o : Gr} {H1 : Hp} (hx : H x = none) (hdy : H dy = none) (hne : dy ≠ x) (eo : o.G = x) (s1 : Same (rmG (upd (upd H dy (HO.own x)) x (HO.ins C dy [])) x) H1) (n1 : rmG (upd (upd H dy (HO.own x)) x (HO.ins C dy [])) x o.cd = none) (n2 : rmG (upd (upd H dy (HO.own x)) x (HO.ins C dy [])) x o.nd = none) (Go : GD K C H1 o [] []) :
    Same H H1 ∧ H o.G = none ∧ H o.cd = none ∧ H o.nd = none := by
  obtain ⟨o1, o2, o3⟩ := Go.ne
  have s0 : Same H H1 := fun b u e => by
    have m1 : b ≠ x := ne_of_none e hx
    have m2 : b ≠ dy := ne_of_none e hdy
    refine s1 b u ?_
    show (if b = x then none else _) = _
    rw [if_neg m1, upd_ne m1, upd_ne m2]
    exact e
  have free : ∀ {b : Addr}, b ≠ x → rmG (upd (upd H dy (HO.own x)) x (HO.ins C dy [])) x b = none → H b = none := fun {b} m1 e => by
    have e : (if b = x then none else (upd (upd H dy (HO.own x)) x (HO.ins C dy [])) b) = none := e
    rw [if_neg m1, upd_ne m1] at e
    by_cases z : b = dy
    · rw [z, upd_same] at e
      cases e
    · rw [upd_ne z] at e
      exact e
  exact ⟨s0, by rw [eo]; exact hx, free (by rw [← eo]; exact o1) n1, free (by rw [← eo]; exact o2) n2⟩
def spLawGrid (K : PySem.W.Frag) (C0 : Addr) : Sp := fun vs H Q _ => ∃ (S : List Addr) (w0 nd cd : Addr) (R C : Int) (W : WC) (N : NA), vs = [.ref w0] ∧ Ls S H ∧ H w0 = some (.lst [.int R, .int C, .ref nd, .ref cd]) ∧ TD K (rmS S H) cd nd (cdW W) (nmA N) ∧ WOk R C W ∧ W.length ≤ 60 ∧ (∀ e ∈ N, e.1 ∈ wordsN) ∧ NOk N ∧
  ∀ (g : Gr) (N' : NA) (H' : Hp), Same H H' → H g.G = none → H g.cd = none → H g.nd = none → g.r = R → g.c = C → GD K C0 (rmS S H') g (cdW W) (nmA N') → SameN N N' → Q (.ref g.G) H'
theorem okLawGrid (T : Txt K mg) : FnOk P w K mg base CX0 3 T.fLawGrid T.fdLawGrid ["world"] (spLawGrid K T.cGrid) := by
  refine T.FLawGrid.ok scLawGrid (fun vs H Q E h => ?_) (fun cdv A outer s H vs Q E hr h => ?_)
  · obtain ⟨S, w0, nd, cd, R, C, W, N, rfl, _⟩ := h
    rfl
  · obtain ⟨S, w0, nd, cd, R, C, W, N, rfl, ls, hw, td, wok, wl, kw, nok, q⟩ := h
    -- slots world=0 grid=1 cell=2 content=3
    refine ⟨_, (pss_cons (ps_set (i := 1) scLawGrid.nd rfl (Or.inl rfl) (pe_make T.mkGrid (okGrid_Init T) (hr.mono (by decide)) (by rfl) T.gKGrid T.bGrid_Init .nil pass0 (pa_cons (pe_ix ix_list (pv 0) pe_int (fun _ _ => rfl)) (pa_cons (pe_ix ix_list (pv 0) pe_int (fun _ _ => rfl)) pa_nil))))
        (pss_cons (ps_lock (ps_for PassesOwn.never rfl (pi_keys (pe_ix ix_list (pv 0) pe_int (fun _ _ => rfl))) (pg_name (i := 2) scLawGrid.nd rfl (Or.inl rfl))
          (pss_one (ps_expr (pe_meth (pv 1) T.clGrid T.meGrid_Put (okGrid_Put T) (hr.mono (by decide)) T.bGrid_Put .nil pass0 (pa_cons (pv 2) (pa_cons (pe_lc (own := [("content", 3)]) (g := gName 3) (tt := tYes) rfl scLawGrid.nd (pi_list (pe_dget (units2 hr) (pe_ix (ix_listK (K := K) rfl) (pv 0) pe_int (fun _ _ => rfl)) (pv 2) (fun _ _ => rfl))) (blkOk_by (own := [("content", 3)]) (N := ["world", "grid", "cell", "content"]) (sc := defScope sLawGrid) (by decide +kernel)) (fun _ _ _ _ _ => (pg_name (i := 3) scLawGrid.nd rfl (Or.inl rfl))) (fun _ _ _ _ _ => pts_nil) (fun _ _ _ _ _ => (pv 3))) pa_nil)))))))
        (pss_cons (ps_expr (pe_call (okLawSetNames T) (hr.mono (by decide)) (by rfl) T.gLawSetNames T.FLawSetNames.kp T.bLawSetNames .nil pass0 (pa_cons (pv 1) (pa_cons (pe_ix ix_list (pv 0) pe_int (fun _ _ => rfl)) pa_nil))))
        (pss_one (ps_ret (pv 1)))))), ?_⟩
    refine ⟨_, rfl, w0, _, _, _, rfl, rfl, SqL.of hw, atI_nat (j := 0) rfl, _, rfl, w0, _, _, _, rfl, rfl, SqL.of hw, atI_nat (j := 1) rfl, ?_⟩
    refine fun x dy hx hdy hne => ⟨x, dy, R, C, rfl, upd_same, fun g H1 eg er ec s1 n1 n2 G0 => ⟨rfl, ?_⟩⟩
    obtain ⟨s5, f0, f1, f2⟩ := new_grid hx hdy hne eg s1 n1 n2 G0
    subst eg
    clear s1 n1 n2 hx hdy hne
    obtain ⟨⟨kvs, hcr, eC, _⟩, ⟨nvs, hnr, eN, _⟩⟩ := id td
    obtain ⟨cS, hc⟩ := rmS_some hcr
    obtain ⟨nS, hn⟩ := rmS_some hnr
    have ap : ∀ {b : Addr} {u : HO}, H b = some u → b ≠ g.cd ∧ b ≠ g.nd ∧ b ≠ g.G := fun e => ⟨ne_of_none e f1, ne_of_none e f2, ne_of_none e f0⟩
    -- the grid's things stand outside of S
    have G1 : GD K T.cGrid (rmS S H1) g [] [] := by
      have off : ∀ {a : Addr}, H a = none → a ∉ S := fun e => ls.fresh e
      obtain ⟨⟨dx, h1⟩, ⟨ks, h2, h3, h4⟩, ⟨ns, h5, h6, h7⟩⟩ := G0
      have k0 : ks = [] := List.eq_nil_of_length_eq_zero (by rw [h3.len]; rfl)
      have n0 : ns = [] := List.eq_nil_of_length_eq_zero (by rw [h6.len]; rfl)
      subst k0 n0
      exact ⟨⟨dx, (rmS_of (off f0)).trans h1⟩, ⟨[], (rmS_of (off f1)).trans h2, RepP.nil, h4⟩, ⟨[], (rmS_of (off f2)).trans h5, RepP.nil, h7⟩⟩
    have hc1 := s5 _ _ hc
    refine ⟨cd, _, hc1, trivial, fun od => ?_⟩
    have nw : w0 ≠ cd := fun z => by
      rw [z, hc] at hw
      cases hw
    have tf : ∀ b u, H b = some u → b ≠ cd → (upd H1 cd (.frz od (.dT kvs))) b = some u := fun b u e n => by
      rw [upd_ne n]
      exact s5 _ _ e
    have Gf : GD K T.cGrid (rmS S (upd H1 cd (.frz od (.dT kvs)))) g [] [] := by
      rw [rmS_upd cS]
      exact G1.lt ((rmS_of cS).trans hc1) (fun _ z => by cases z) (fun _ _ z => by cases z) (fun _ z => by cases z) (fun _ _ z => by cases z) (ap hc).2.2 (ap hc).1 (ap hc).2.1
    have hF : (upd H1 cd (.frz od (.dT kvs))) cd = some (.frz od (.dT kvs)) := upd_same
    have lsF : Ls S (upd H1 cd (.frz od (.dT kvs))) := fun y hy => by
      obtain ⟨us, e⟩ := ls y hy
      exact ⟨us, tf _ _ e fun z => cS (z ▸ hy)⟩
    have tn0 := tf _ _ hw nw
    have same_end : ∀ J, KG g (upd H1 cd (.frz od (.dT kvs))) J → Same H (upd J cd (.dT kvs)) := fun J kg b u e => by
      by_cases z : b = cd
      · rw [z, upd_same]
        rw [z, hc] at e
        exact e
      · rw [upd_ne z]
        exact kg b u (ap e).1 (ap e).2.1 (tf b u e z)
    have kdf : ∀ J, KG g (upd H1 cd (.frz od (.dT kvs))) J → KD H J := fun J kg b u n e => kg b u (ap e).1 (ap e).2.1 (tf b u e fun z => by
      rw [z, hc] at e
      rw [← Option.some.inj e] at n
      cases n)
    have kcd : ∀ J, KG g (upd H1 cd (.frz od (.dT kvs))) J → J cd = some (.frz od (.dT kvs)) := fun J kg => kg _ _ (ap hc).1 (ap hc).2.1 hF
    generalize hFd : upd H1 cd (.frz od (.dT kvs)) = F at Gf lsF same_end kdf kcd tn0
    refine ⟨_, rfl, w0, _, _, _, rfl, rfl, SqL.of tn0, atI_nat (j := 3) rfl, cd, od, rfl, .inr ⟨kvs, by rw [← hFd]; exact upd_same, for_it (walk_keysT (d := cd) (o := od) (kvs := kvs)) (fun j σ H' => ∃ c2 c3 : Option V, σ = [some (.ref w0), some (.ref g.G), c2, c3] ∧ KG g F H' ∧ KD F H' ∧ GD K T.cGrid (rmS S H') g ((cdW W).take j) []) ⟨_, _, rfl, KG.of (Same.refl _), KD.of (Same.refl _), Gf⟩ (fun j σ H' _ ⟨_, _, _, kg, _⟩ => kcd _ kg) ?_ ?_⟩⟩
    · rintro j y σ HX H3 hj ⟨c2, c3, rfl, kg, kdd, G2⟩ ⟨rfl, k, v, q0, hkv, rfl, hq⟩
      have hl3 := eC.len
      obtain ⟨e, he⟩ : ∃ e, (cdW W)[j]? = some e := ⟨_, List.getElem?_eq_getElem (by omega)⟩
      obtain ⟨ek, _⟩ := eC.at_ j _ e hkv he
      have ek : k = idK e.1 := ek
      subst ek
      have em := List.mem_of_getElem? he
      have ndc : ((cdW W).map Prod.fst).Nodup := by
        rw [cdW_keys]
        exact wok.nd
      obtain ⟨v', ev, l, us, rfl, hlr, dp⟩ := (ents_get (fun _ _ => idK_inj) eC e.1).2 e.2 (getE_mem ndc e em)
      have hl0 := (rmS_some hlr).2
      have kd := kdf _ kg
      have hl : H3 l = some (.lst us) := kd _ _ rfl hl0
      have hw3 := kd _ _ rfl hw
      obtain ⟨⟨dz, w1r⟩, _, _⟩ := id G2
      have w1 := (rmS_some w1r).2
      have dg : DGet H3 cd (.ref q0) (some (.ref l)) := by
        rw [← ev]
        exact .inr ⟨kvs, idK e.1, q0, .inr ⟨od, kcd _ kg⟩, rfl, hq, rfl⟩
      obtain ⟨tn, te⟩ := take_new ndc he
      obtain ⟨e0, he0, rfl⟩ := List.mem_map.mp em
      have sh := wok.sh e0 he0
      have ul := dp.length
      have us2 : us.length ≤ 2 := by
        obtain ⟨c, r, ec, _, hr⟩ := sh.first
        rw [ul]
        show (e0.2.map ctD).length ≤ 2
        rw [List.length_map, ec]
        exact Nat.succ_le_succ hr
      have lt : ((cdW W).take j).length ≤ 800 := by
        rw [List.length_take]
        unfold cdW
        rw [List.length_map]
        omega
      refine ⟨_, rfl, g.G, dz, _, rfl, w1, rfl, _, rfl, _, rfl, w0, _, _, _, rfl, rfl, SqL.of hw3, atI_nat (j := 3) rfl, _, rfl, cd, .ref l, rfl, dg, l, rfl, ⟨_, SqL.of hl⟩, fun M hM => ?_⟩
      refine lc_it (walk_list (a := l) (xs := us)) (fun j H' => Same H3 H' ∧ H' M = some (.lst (us.take j))) ⟨same_new hM, upd_same⟩ (fun i H' _ h => h.1.seq (SqL.of hl)) ?_ ?_
      · rintro j y H8 H9 hj ⟨s8, hM8⟩ ⟨rfl, hy⟩
        refine ⟨rfl, yesT ⟨_, rfl, _, hM8, small1000 (by rw [List.length_take]; omega), same_mut s8 hM, ?_⟩⟩
        rw [upd_same, List.take_add_one, hy]
        rfl
      · rintro H8 ⟨s8, hM8⟩
        rw [List.take_of_length_le (Nat.le_refl _)] at hM8
        have kg8 := kg.trans (KG.of s8)
        have kd8 := kdd.trans (KD.of s8)
        refine ⟨S, g, (cdW W).take j, [], q0, M, e0.1, us, e0.2.map ctD, rfl, lsF.kd kd8, G2.same (rmS_same s8), lt, s8 _ _ hq, hM8, dp.tt (TT.of (rmS_le.trans (Same.refl _)) |>.trans (TT.kd (kdf _ kg8))), sh.shaped, fun H4 kg4 kd4 G4 => ?_⟩
        refine ⟨_, _, rfl, kg8.trans kg4, kd8.trans kd4, ?_⟩
        have es : setCell ((cdW W).take j) e0.1 (e0.2.map ctD) = (cdW W).take (j + 1) := by
          unfold setCell
          rw [sh.notBl, if_neg Bool.false_ne_true, putE_new tn, te]
        rw [← es]
        exact G4
    · rintro σ H2 ⟨c2, c3, rfl, kg, kdd, G2⟩
      have ek : (cdW W).take kvs.length = cdW W := List.take_of_length_le (by rw [eC.len]; exact Nat.le_refl _)
      rw [ek] at G2
      have hft := kcd _ kg
      refine ⟨hft, ?_⟩
      have G3 : GD K T.cGrid (rmS S (upd H2 cd (.dT kvs))) g (cdW W) [] := by
        rw [rmS_upd cS]
        exact G2.lt ((rmS_of cS).trans hft) (fun _ z => by cases z) (fun _ _ z => by cases z) (fun _ z => by cases z) (fun _ _ z => by cases z) (ap hc).2.2 (ap hc).1 (ap hc).2.1
      have s3 := same_end _ kg
      generalize upd H2 cd (.dT kvs) = H3 at G3 s3
      refine ⟨_, rfl, _, rfl, w0, _, _, _, rfl, rfl, SqL.of (s3 _ _ hw), atI_nat (j := 2) rfl, S, g, cdW W, N, nd, rfl, ls.same s3, G3, ⟨nvs, rmS_same s3 _ _ hnr, entsN_kd (KD.of (rmS_same s3)) eN⟩, (ap hn).2.1, kw, nok, fun H4 N' kg4 kd4 G4 sn => ?_⟩
      refine ⟨_, rfl, q g N' H4 (fun b u e => kg4 b u (ap e).1 (ap e).2.1 (s3 b u e)) f0 f1 f2 er ec G4 sn⟩
/-! ### what the law reads -/
def arB (k : Bk) : Ar := .block k.t k.l k.b k.r
def spLBlocks (K : PySem.W.Frag) : Sp := fun vs H Q _ => ∃ (S : List Addr) (nd : Addr) (N : NA) (v : V) (a : Ar), vs = [.ref nd, v] ∧ NS K S H nd N ∧ NOk N ∧ ArAt H v a ∧
  ∀ (H' : Hp) (p : Addr) (us : List V), Same H H' → H p = none → H' p = some (.lst us) → Ars H' us ((blksOf N a).map arB) → Q (.ref p) H'
theorem dt_ok4 : ("block" : Str) ≠ "gone" ∧ ("gone" : Str) ≠ "block" ∧ ("name" : Str) ≠ "block" ∧ ("gone" : Str) ≠ "name" := by decide +kernel
theorem okLawBlocks (T : Txt K mg) : FnOk P w K mg base CX0 1 T.fLawBlocks T.fdLawBlocks ["names", "area"] (spLBlocks K) := by
  refine T.FLawBlocks.ok scLawBlocks (fun vs H Q E h => ?_) (fun cdv A outer s H vs Q E hr h => ?_)
  · obtain ⟨S, nd, N, v, a, rfl, _⟩ := h
    rfl
  · obtain ⟨S, nd, N, v, a, rfl, ns, nok, ha, q⟩ := h
    -- slots names=0 area=1 part=2
    refine ⟨_, (pss_cons (ps_if (pt_cmpR op_eq (pe_ix ix_tup (pv 1) pe_int (fun _ _ => rfl)) pe_str (nomark _))
          (pss_one (ps_ret (pe_lst (pa_cons (pv 1) pa_nil))))
          pss_nil)
        (pss_cons (ps_if (PW.pt (pw_and (pt_cmpR op_eq (pe_ix ix_tup (pv 1) pe_int (fun _ _ => rfl)) pe_str (nomark _)) (pw_and (pt_cmp (pc_din (units2 hr) (pe_ix ix_tup (pv 1) pe_int (fun _ _ => rfl)) (pv 0))) (pw_and1 (pt_cmpR op_notN (pe_dget (units2 hr) (pv 0) (pe_ix ix_tup (pv 1) pe_int (fun _ _ => rfl)) (fun _ _ => rfl)) pe_non (nomark _))))))
          (pss_one (ps_ret (pe_lc (own := [("part", 2)]) (g := gName 2) rfl scLawBlocks.nd (pi_list (pe_dget (units2 hr) (pv 0) (pe_ix (ix_tupK (K := K) rfl) (pv 1) pe_int (fun _ _ => rfl)) (fun _ _ => rfl))) (blkOk_by (own := [("part", 2)]) (N := ["names", "area", "part"]) (sc := defScope sLawBlocks) (by decide +kernel)) (fun _ _ _ _ _ => (pg_name (i := 2) scLawBlocks.nd rfl (Or.inl rfl))) (fun _ _ _ _ _ => (pts_one (pt_cmpR op_eq (pe_ix (ix_tupK (K := K) rfl) (pv 2) pe_int (fun _ _ => rfl)) pe_str (nomark _)))) (fun _ _ _ _ _ => (pv 2)))))
          pss_nil)
        (pss_one (ps_ret (pe_lst pa_nil))))), ?_⟩
    have none_ : blksOf N a = [] → ∀ H1, Same H H1 → ∀ p, H1 p = none → Q (.ref p) (upd H1 p (.lst [])) := fun e H1 s1 p hp => q _ p [] (s1.trans (same_new hp)) (s1.free hp) upd_same (by rw [e]; exact .nil)
    cases a with
    | gone =>
      obtain ⟨q0, rfl, hq⟩ := id ha
      refine ⟨_, rfl, q0, _, _, _, rfl, rfl, SqT.of hq, atI_nat (j := 0) rfl, rfl, _, rfl, ifN dt_ok4.2.1 ?_⟩
      refine ⟨_, rfl, q0, _, _, _, rfl, rfl, SqT.of hq, atI_nat (j := 0) rfl, rfl, _, rfl, ifN dt_ok4.2.2.2 (iteF ⟨Nat.zero_le _, fun p hp => none_ rfl H (Same.refl _) p hp⟩)⟩
    | block t l b r =>
      obtain ⟨q0, rfl, hq⟩ := id ha
      refine ⟨_, rfl, q0, _, _, _, rfl, rfl, SqT.of hq, atI_nat (j := 0) rfl, rfl, _, rfl, ifY ⟨_, rfl, (by show 1 ≤ sizeLine; decide), fun p hp => ?_⟩⟩
      exact q _ p _ (same_new hp) hp upd_same (.cons (ha.mono (TK.of (same_new hp))) .nil)
    | name w =>
      obtain ⟨q0, rfl, hq⟩ := id ha
      obtain ⟨nvs, hnr, en⟩ := ns
      obtain ⟨nS, hn⟩ := rmS_some hnr
      obtain ⟨e1, e2⟩ := ents_get (fun _ _ => keyW_inj) en w.1
      have dg := DGet.k (k := keyW w.1) hn
      rw [getE_nmA] at e1 e2
      refine ⟨_, rfl, q0, _, _, _, rfl, rfl, SqT.of hq, atI_nat (j := 0) rfl, rfl, _, rfl, ifN dt_ok4.2.2.1 ?_⟩
      refine ⟨_, rfl, q0, _, _, _, rfl, rfl, SqT.of hq, atI_nat (j := 0) rfl, rfl, _, rfl, ifY ?_⟩
      refine ⟨_, rfl, q0, _, _, _, rfl, rfl, SqT.of hq, atI_nat (j := 1) rfl, _, rfl, nd, _, rfl, dg, _, rfl, ?_⟩
      cases hg : getE N w.1 with
      | none =>
        have eb : blksOf N (.name w) = [] := by rw [blks_name, hg]
        rw [e1 (by rw [hg]; rfl)]
        exact iteF (iteF ⟨Nat.zero_le _, fun p hp => none_ eb H (Same.refl _) p hp⟩)
      | some d =>
        obtain ⟨v, ev, hv⟩ := e2 _ (by rw [hg]; rfl)
        rw [ev] at dg ⊢
        refine iteT ⟨_, rfl, _, rfl, q0, _, _, _, rfl, rfl, SqT.of hq, atI_nat (j := 1) rfl, nd, v, rfl, dg, rfl, _, rfl, ?_⟩
        cases d with
        | none =>
          have eb : blksOf N (.name w) = [] := by rw [blks_name, hg]
          obtain rfl := hv
          exact iteF ⟨Nat.zero_le _, fun p hp => none_ eb H (Same.refl _) p hp⟩
        | some as =>
          have eb : blksOf N (.name w) = as.filterMap bkOf := by rw [blks_name, hg]
          obtain ⟨l, us, rfl, hlr, dt⟩ := hv
          obtain ⟨lS, hl⟩ := rmS_some hlr
          have ar : Ars H us as := (dt_ars dt).mono (TK.of rmS_le)
          have al := nok _ (getE_key hg) as rfl
          have ul := ar.len
          refine iteT ?_
          refine ⟨_, rfl, _, rfl, q0, _, _, _, rfl, rfl, SqT.of hq, atI_nat (j := 1) rfl, nd, .ref l, rfl, dg, l, rfl, ⟨_, SqL.of hl⟩, fun M hM => ?_⟩
          refine lc_it (walk_list (a := l) (xs := us)) (fun i H' => Same H H' ∧ ∃ ws, H' M = some (.lst ws) ∧ ws.length ≤ i ∧ Ars H' ws (((as.take i).filterMap bkOf).map arB)) ⟨same_new hM, [], upd_same, Nat.zero_le _, .nil⟩ (fun i H' _ h => h.1.seq (SqL.of hl)) ?_ ?_
          · rintro i x HX H3 hi ⟨s3, ws, hws, wl, bk⟩ ⟨rfl, hx⟩
            obtain ⟨a0, ha0, at0⟩ := ar.get i x hx
            have at3 := at0.mono (TK.of s3)
            have sn := fm_snoc as i a0 ha0
            cases a0 with
            | gone =>
              obtain ⟨q1, rfl, hq1⟩ := at3
              refine ⟨rfl, _, rfl, q1, _, _, _, rfl, rfl, SqT.of hq1, atI_nat (j := 0) rfl, rfl, _, rfl, ifN ok4b.1 ?_⟩
              exact ⟨s3, ws, hws, by omega, by rw [sn, show [Ar.gone].filterMap bkOf = [] from rfl, List.append_nil]; exact bk⟩
            | name w =>
              obtain ⟨q1, rfl, hq1⟩ := at3
              refine ⟨rfl, _, rfl, q1, _, _, _, rfl, rfl, SqT.of hq1, atI_nat (j := 0) rfl, rfl, _, rfl, ifN ok4b.2 ?_⟩
              exact ⟨s3, ws, hws, by omega, by rw [sn, show [Ar.name w].filterMap bkOf = [] from rfl, List.append_nil]; exact bk⟩
            | block t l b r =>
              obtain ⟨q1, rfl, hq1⟩ := id at3
              refine ⟨rfl, _, rfl, q1, _, _, _, rfl, rfl, SqT.of hq1, atI_nat (j := 0) rfl, rfl, _, rfl, ifY ?_⟩
              refine ⟨_, rfl, ws, hws, small1000 (by omega), same_mut s3 hM, ws ++ [.ref q1], upd_same, by rw [List.length_append]; exact Nat.add_le_add_right wl 1, ?_⟩
              rw [sn, List.map_append]
              exact (bk.snoc at3).mono (TK.mut hws)
          · rintro H3 ⟨s3, ws, hws, wl, bk⟩
            rw [List.take_of_length_le (by rw [ul]; exact Nat.le_refl _), ← eb] at bk
            exact q H3 M ws s3 hM hws bk
def rdT (N : NA) : Tr → List (Int × Int)
  | .cell r c => [(r, c)]
  | .neg t => rdT N t
  | .op _ l r => rdT N l ++ rdT N r
  | .call _ as => as.flatMap (fz N)
  | _ => []
theorem mem_rdT {N : NA} {y : Int × Int} : ∀ t : Tr, y ∈ rdT N t ↔ y ∈ readsT N t
  | .gone => by simp [rdT, readsT, tcells, tareas]
  | .num _ _ => by simp [rdT, readsT, tcells, tareas]
  | .cell _ _ => by simp [rdT, readsT, tcells, tareas]
  | .call m as => by
    have : readsT N (.call m as) = [] ++ as.flatMap (fz N) := rfl
    rw [this, List.nil_append]
    exact Iff.rfl
  | .neg t => mem_rdT t
  | .op s l r => by
    have h1 := mem_rdT (N := N) (y := y) l
    have h2 := mem_rdT (N := N) (y := y) r
    have e : readsT N (.op s l r) = (tcells l ++ tcells r) ++ (tareas l ++ tareas r).flatMap (fz N) := rfl
    have el : readsT N l = tcells l ++ (tareas l).flatMap (fz N) := rfl
    have er : readsT N r = tcells r ++ (tareas r).flatMap (fz N) := rfl
    show y ∈ rdT N l ++ rdT N r ↔ _
    rw [e, List.flatMap_append, List.mem_append, h1, h2, el, er]
    simp only [List.mem_append]
    constructor
    · rintro ((h | h) | (h | h))
      · exact .inl (.inl h)
      · exact .inr (.inl h)
      · exact .inl (.inr h)
      · exact .inr (.inr h)
    · rintro ((h | h) | (h | h))
      · exact .inl (.inl h)
      · exact .inr (.inl h)
      · exact .inl (.inr h)
      · exact .inr (.inr h)
theorem fz_len {R C : Int} {W : WC} {N : NA} (wl : Wld R C W N) {a : Ar} (ha : a.ins R C) : (fz N a).length ≤ 600 := by
  obtain ⟨o1, o2⟩ := blks_ok wl ha
  have := flat_len_le (f := cellsOf) (m := 60) (blksOf N a) fun k hk => cellsOf_len (o1 k hk) wl.few
  show ((blksOf N a).flatMap cellsOf).length ≤ 600
  omega
theorem rdT_len {R C : Int} {W : WC} {N : NA} (wl : Wld R C W N) : ∀ {t : Tr} {n : Nat}, t.okR R C → t.h < n + 1 → (rdT N t).length ≤ 1800 * 2 ^ n
  | .gone, n, _, _ => Nat.zero_le _
  | .num _ _, n, _, _ => Nat.zero_le _
  | .cell _ _, n, _, _ => by
    have := Nat.one_le_two_pow (n := n)
    show 1 ≤ _
    omega
  | .call _ as, n, o, _ => by
    have := Nat.one_le_two_pow (n := n)
    have h1 := flat_len_le (f := fz N) (m := 600) as fun a ha => fz_len wl (o.2.1 a ha)
    have h2 : as.length ≤ 3 := o.1
    show (as.flatMap (fz N)).length ≤ _
    omega
  | .neg t, 0, _, h => absurd (hneg h) (Nat.not_lt_zero _)
  | .neg t, n + 1, o, h => Nat.le_trans (rdT_len wl (t := t) o (hneg h)) (Nat.mul_le_mul_left _ (Nat.pow_le_pow_right (by decide) (Nat.le_succ n)))
  | .op s l r, 0, _, h => absurd (hop h).1 (Nat.not_lt_zero _)
  | .op s l r, n + 1, o, h => by
    have a := rdT_len wl o.1 (hop h).1
    have b := rdT_len wl o.2.1 (hop h).2
    show (rdT N l ++ rdT N r).length ≤ _
    rw [List.length_append, Nat.pow_succ]
    omega
theorem pow2_16 {n : Nat} (h : n ≤ 4) : 2 ^ n ≤ 16 := Nat.le_trans (Nat.pow_le_pow_right (by decide) h) (by decide)
theorem okAr_get {H : Hp} {us : List V} {ks : List Bk} (h : Ars H us (ks.map arB)) {i : Nat} {x : V} (hx : us[i]? = some x) : ∃ q k, x = .ref q ∧ ks[i]? = some k ∧ H q = some (.tup [.str "block", .int k.t, .int k.l, .int k.b, .int k.r]) := by
  obtain ⟨a, ha, h2⟩ := h.get i x hx
  rw [List.getElem?_map] at ha
  obtain ⟨k, hk, rfl⟩ := Option.map_eq_some_iff.mp ha
  obtain ⟨q, e, hq⟩ := h2
  exact ⟨q, k, e, hk, hq⟩
theorem flat_range_full (k : Bk) : (List.range (k.b + 1 - k.t).toNat).flatMap (rowOf k) = cellsOf k := rfl
theorem row_take (k : Bk) (i j : Nat) (hj : j < (k.r + 1 - k.l).toNat) : (rowOf k i).take (j + 1) = (rowOf k i).take j ++ [(k.t + (i : Int), k.l + (j : Int))] := by
  have hj2 : (rowOf k i)[j]? = some (k.t + (i : Int), k.l + (j : Int)) := by
    unfold rowOf
    rw [List.getElem?_map, List.getElem?_range hj]
    rfl
  rw [List.take_add_one, hj2]
  rfl
def spRT (K : PySem.W.Frag) (n : Nat) : Sp := fun vs H Q _ => ∃ (S : List Addr) (nd : Addr) (N : NA) (v : V) (t : Tr) (R C : Int), vs = [.ref nd, v] ∧ t.h < n ∧ n ≤ 5 ∧ NS K S H nd N ∧ Wld R C [] N ∧ TrAt H v t ∧ t.okR R C ∧
  ∀ (H' : Hp) (p : Addr) (us : List V), Same H H' → H p = none → H' p = some (.lst us) → Cls H' us (rdT N t) → Q (.ref p) H'
theorem NS.same {K : PySem.W.Frag} {S : List Addr} {H H' : Hp} {nd : Addr} {N : NA} (h : NS K S H nd N) (s : Same H H') : NS K S H' nd N := by
  obtain ⟨nvs, h1, e1⟩ := h
  exact ⟨nvs, rmS_same s _ _ h1, entsN_kd (KD.of (rmS_same s)) e1⟩
theorem okLawReadsOfTree (T : Txt K mg) : ∀ n : Nat, FnOk P w K mg base CX0 (n + 2) T.fLawReadsOfTree T.fdLawReadsOfTree ["names", "tree"] (spRT K n)
  | 0 => by
    refine T.FLawReadsOfTree.ok scLawReadsOfTree (fun vs H Q E h => ?_) (fun cdv A outer s H vs Q E hr h => ?_)
    · obtain ⟨S, nd, N, v, t, R, C, rfl, hh, _⟩ := h
      rfl
    · obtain ⟨S, nd, N, v, t, R, C, rfl, hh, _⟩ := h
      exact absurd hh (Nat.not_lt_zero _)
  | n + 1 => by
    have IH := okLawReadsOfTree T n
    refine T.FLawReadsOfTree.ok scLawReadsOfTree (fun vs H Q E h => ?_) (fun cdv A outer s H vs Q E hr h => ?_)
    · obtain ⟨S, nd, N, v, t, R, C, rfl, _⟩ := h
      rfl
    · obtain ⟨S, nd, N, v, t, R, C, rfl, hh, hn, ns, wl, ht, ok, q⟩ := h
      -- slots names=0 tree=1 cells=2 area=3 block=4 row=5 column=6
      refine ⟨_, (pss_cons (ps_if (pt_cmpR op_eq (pe_ix ix_tup (pv 1) pe_int (fun _ _ => rfl)) pe_str (nomark _))
            (pss_one (ps_ret (pe_lst (pa_cons (pe_tup (pa_cons (pe_ix ix_tup (pv 1) pe_int (fun _ _ => rfl)) (pa_cons (pe_ix ix_tup (pv 1) pe_int (fun _ _ => rfl)) pa_nil))) pa_nil))))
            pss_nil)
          (pss_cons (ps_if (pt_cmpR op_eq (pe_ix ix_tup (pv 1) pe_int (fun _ _ => rfl)) pe_str (nomark _))
            (pss_one (ps_ret (pe_call IH (hr.mono (by omega)) (by rfl) T.gLawReadsOfTree T.FLawReadsOfTree.kp T.bLawReadsOfTree .nil pass0 (pa_cons (pv 0) (pa_cons (pe_ix ix_tup (pv 1) pe_int (fun _ _ => rfl)) pa_nil)))))
            pss_nil)
          (pss_cons (ps_if (pt_cmpR op_eq (pe_ix ix_tup (pv 1) pe_int (fun _ _ => rfl)) pe_str (nomark _))
            (pss_one (ps_ret (pe_op op_cat (pe_call IH (hr.mono (by omega)) (by rfl) T.gLawReadsOfTree T.FLawReadsOfTree.kp T.bLawReadsOfTree .nil pass0 (pa_cons (pv 0) (pa_cons (pe_ix ix_tup (pv 1) pe_int (fun _ _ => rfl)) pa_nil))) (pe_call IH (hr.mono (by omega)) (by rfl) T.gLawReadsOfTree T.FLawReadsOfTree.kp T.bLawReadsOfTree .nil pass0 (pa_cons (pv 0) (pa_cons (pe_ix ix_tup (pv 1) pe_int (fun _ _ => rfl)) pa_nil))))))
            pss_nil)
          (pss_cons (ps_set (i := 2) scLawReadsOfTree.nd rfl (Or.inl rfl) (pe_lst pa_nil))
          (pss_cons (ps_if (pt_cmpR op_eq (pe_ix ix_tup (pv 1) pe_int (fun _ _ => rfl)) pe_str (nomark _))
            (pss_one (ps_for PassesOwn.never rfl (pi_tup (pe_ix ix_tup (pv 1) pe_int (fun _ _ => rfl))) (pg_name (i := 3) scLawReadsOfTree.nd rfl (Or.inl rfl))
              (pss_one (ps_for PassesOwn.never rfl (pi_list (pe_call (okLawBlocks T) (hr.mono (by omega)) (by rfl) T.gLawBlocks T.FLawBlocks.kp T.bLawBlocks .nil pass0 (pa_cons (pv 0) (pa_cons (pv 3) pa_nil)))) (pg_name (i := 4) scLawReadsOfTree.nd rfl (Or.inl rfl))
                (pss_one (ps_for PassesOwn.never rfl (pi_range2 rfl T.z_range (pa_cons (pe_ix ix_tup (pv 4) pe_int (fun _ _ => rfl)) (pa_cons (pe_op op_add (pe_ix ix_tup (pv 4) pe_int (fun _ _ => rfl)) pe_int) pa_nil))) (pg_name (i := 5) scLawReadsOfTree.nd rfl (Or.inl rfl))
                  (pss_one (ps_for PassesOwn.never rfl (pi_range2 rfl T.z_range (pa_cons (pe_ix ix_tup (pv 4) pe_int (fun _ _ => rfl)) (pa_cons (pe_op op_add (pe_ix ix_tup (pv 4) pe_int (fun _ _ => rfl)) pe_int) pa_nil))) (pg_name (i := 6) scLawReadsOfTree.nd rfl (Or.inl rfl))
                    (pss_one (ps_expr (pe_bm PySem.F.plainAttrs_list PySem.F.slot_list_append PySem.F.type_list_append mt_append (pv 2) (pa_cons (pe_tup (pa_cons (pv 5) (pa_cons (pv 6) pa_nil))) pa_nil))))))))))))
            pss_nil)
          (pss_one (ps_ret (pv 2)))))))), ?_⟩
      cases t with
      | gone =>
        obtain ⟨p, rfl, h1⟩ := ht
        refine ⟨_, rfl, _, _, _, _, rfl, rfl, SqT.of h1, atI_nat (j := 0) rfl, rfl, _, rfl, ifN w1.2.2.2.1 ⟨_, rfl, _, _, _, _, rfl, rfl, SqT.of h1, atI_nat (j := 0) rfl, rfl, _, rfl, ifN w1.1 ⟨_, rfl, _, _, _, _, rfl, rfl, SqT.of h1, atI_nat (j := 0) rfl, rfl, _, rfl, ifN w1.2.1 ⟨Nat.zero_le _, fun L hL => ?_⟩⟩⟩⟩
        have h5 := (same_new (o := .lst []) hL) _ _ h1
        exact ⟨_, rfl, _, _, _, _, rfl, rfl, SqT.of h5, atI_nat (j := 0) rfl, rfl, _, rfl, ifN w1.2.2.1 ⟨_, rfl, q _ L [] (same_new hL) hL upd_same .nil⟩⟩
      | num x y =>
        obtain ⟨p, p2, rfl, h1, _⟩ := ht
        refine ⟨_, rfl, _, _, _, _, rfl, rfl, SqT.of h1, atI_nat (j := 0) rfl, rfl, _, rfl, ifN w2.2.2.2 ⟨_, rfl, _, _, _, _, rfl, rfl, SqT.of h1, atI_nat (j := 0) rfl, rfl, _, rfl, ifN w2.1 ⟨_, rfl, _, _, _, _, rfl, rfl, SqT.of h1, atI_nat (j := 0) rfl, rfl, _, rfl, ifN w2.2.1 ⟨Nat.zero_le _, fun L hL => ?_⟩⟩⟩⟩
        have h5 := (same_new (o := .lst []) hL) _ _ h1
        exact ⟨_, rfl, _, _, _, _, rfl, rfl, SqT.of h5, atI_nat (j := 0) rfl, rfl, _, rfl, ifN w2.2.2.1 ⟨_, rfl, q _ L [] (same_new hL) hL upd_same .nil⟩⟩
      | cell r c =>
        obtain ⟨p, rfl, h1⟩ := ht
        exact ⟨_, rfl, _, _, _, _, rfl, rfl, SqT.of h1, atI_nat (j := 0) rfl, rfl, _, rfl, ifY ⟨_, rfl, _, _, _, _, rfl, rfl, SqT.of h1, atI_nat (j := 1) rfl, _, rfl, _, _, _, _, rfl, rfl, SqT.of h1, atI_nat (j := 2) rfl, (by show 2 ≤ sizeLine; decide), fun u hu => ⟨(by show 1 ≤ sizeLine; decide), fun l hl => q _ l [.ref u] ((same_new hu).trans (same_new hl)) ((same_new hu).free hl) upd_same (.cons ((same_new hl) _ _ upd_same) .nil)⟩⟩⟩
      | neg t =>
        obtain ⟨p, u, rfl, h1, h2⟩ := ht
        exact ⟨_, rfl, _, _, _, _, rfl, rfl, SqT.of h1, atI_nat (j := 0) rfl, rfl, _, rfl, ifN w4.2.2 ⟨_, rfl, _, _, _, _, rfl, rfl, SqT.of h1, atI_nat (j := 0) rfl, rfl, _, rfl, ifY ⟨_, rfl, _, rfl, _, _, _, _, rfl, rfl, SqT.of h1, atI_nat (j := 1) rfl, S, nd, N, u, t, R, C, rfl, hneg hh, by omega, ns, wl, h2, ok, q⟩⟩⟩
      | op s l r =>
        obtain ⟨p, u, w, rfl, h1, h2, h3⟩ := ht
        refine ⟨_, rfl, _, _, _, _, rfl, rfl, SqT.of h1, atI_nat (j := 0) rfl, rfl, _, rfl, ifN w5.2.2 ⟨_, rfl, _, _, _, _, rfl, rfl, SqT.of h1, atI_nat (j := 0) rfl, rfl, _, rfl, ifN w5.1 ⟨_, rfl, _, _, _, _, rfl, rfl, SqT.of h1, atI_nat (j := 0) rfl, rfl, _, rfl, ifY ⟨_, rfl, _, rfl, _, _, _, _, rfl, rfl, SqT.of h1, atI_nat (j := 2) rfl, S, nd, N, u, l, R, C, rfl, (hop hh).1, by omega, ns, wl, h2, ok.1, fun H1 l1 us1 s1 _ e1 c1 => ?_⟩⟩⟩⟩
        have h1' := s1 _ _ h1
        refine ⟨_, rfl, _, rfl, _, _, _, _, rfl, rfl, SqT.of h1', atI_nat (j := 3) rfl, S, nd, N, w, r, R, C, rfl, (hop hh).2, by omega, ns.same s1, wl, h3.mono (TK.of s1), ok.2.1, fun H2 l2 us2 s2 _ e2 c2 => ?_⟩
        refine ⟨l1, l2, us1, us2, rfl, rfl, s2 _ _ e1, e2, ?_, fun z hz => q _ z (us1 ++ us2) ((s1.trans s2).trans (same_new hz)) ((s1.trans s2).free hz) upd_same (Cls.app (c2.mono (TK.of (same_new hz))) (c1.mono (TK.of (s2.trans (same_new hz)))))⟩
        have a := rdT_len wl ok hh
        have b : (rdT N (.op s l r)).length = us1.length + us2.length := by
          show (rdT N l ++ rdT N r).length = _
          rw [List.length_append, c1.len, c2.len]
        have c := pow2_16 (n := n) (by omega)
        exact sz100 (by omega)
      | call m as =>
        obtain ⟨p, p2, vs, rfl, h1, h2, h3⟩ := ht
        refine ⟨_, rfl, _, _, _, _, rfl, rfl, SqT.of h1, atI_nat (j := 0) rfl, rfl, _, rfl, ifN w6.2.2 ⟨_, rfl, _, _, _, _, rfl, rfl, SqT.of h1, atI_nat (j := 0) rfl, rfl, _, rfl, ifN w6.1 ⟨_, rfl, _, _, _, _, rfl, rfl, SqT.of h1, atI_nat (j := 0) rfl, rfl, _, rfl, ifN w6.2.1 ⟨Nat.zero_le _, fun L hL => ?_⟩⟩⟩⟩
        have sL := same_new (o := .lst []) hL
        have hL1 : (upd H L (.lst [])) L = some (.lst []) := upd_same
        have h1' := sL _ _ h1
        have l3 : as.length ≤ 3 := ok.1
        have lv := h3.len
        refine ⟨_, rfl, _, _, _, _, rfl, rfl, SqT.of h1', atI_nat (j := 0) rfl, rfl, _, rfl, ifY ⟨_, rfl, _, _, _, _, rfl, rfl, SqT.of h1', atI_nat (j := 2) rfl, p2, rfl, ⟨vs, SqT.of (sL _ _ h2)⟩, for_it (walk_tup (a := p2) (xs := vs)) (fun i σ H' => ∃ (k3 k4 k5 k6 : Option V) (us : List V), σ = [some (.ref nd), some (.ref p), some (.ref L), k3, k4, k5, k6] ∧ Same H H' ∧ H' L = some (.lst us) ∧ Cls H' us ((as.take i).flatMap (fz N))) ⟨_, _, _, _, [], rfl, sL, hL1, .nil⟩ (fun i σ H' _ ⟨_, _, _, _, _, _, s, _⟩ => SqT.of (s _ _ h2)) ?_ ?_⟩⟩
        · rintro i x σ HX H1 hi ⟨k3, k4, k5, k6, us, rfl, s1, hu1, cl1⟩ ⟨rfl, hx⟩
          obtain ⟨ai, hai, ati⟩ := h3.get i x hx
          have ains := ok.2.1 ai (List.mem_of_getElem? hai)
          obtain ⟨bok, blen⟩ := blks_ok wl ains
          have nok : NOk N := fun e he z hz => (wl.nm e he z hz).1
          have ub : us.length ≤ 1200 := by
            rw [cl1.len]
            have h := flat_len_le (f := fz N) (m := 600) (as.take i) fun a ha => fz_len wl (ok.2.1 a (List.mem_of_mem_take ha))
            rw [List.length_take] at h
            have : min i as.length * 600 ≤ 2 * 600 := Nat.mul_le_mul_right 600 (by omega)
            omega
          refine ⟨_, rfl, _, rfl, S, nd, N, x, ai, rfl, ns.same s1, nok, ati.mono (TK.of s1), fun H2 pb bs s2 hpn hp bk => ?_⟩
          have hu2 := s2 _ _ hu1
          have cl2 := cl1.mono (TK.of s2)
          have npL : pb ≠ L := fun z => by
            rw [z, hu1] at hpn
            cases hpn
          have bl := bk.len
          rw [List.length_map] at bl
          refine ⟨pb, rfl, ⟨bs, SqL.of hp⟩, for_it (walk_list (a := pb) (xs := bs)) (fun j σ H' => ∃ (k4 k5 k6 : Option V) (us : List V), σ = [some (.ref nd), some (.ref p), some (.ref L), some x, k4, k5, k6] ∧ Same (rmS [L] H2) H' ∧ H' L = some (.lst us) ∧ Cls H' us ((as.take i).flatMap (fz N) ++ ((blksOf N ai).take j).flatMap cellsOf)) ⟨_, _, _, us, rfl, rmS_le, hu2, by rw [List.take_zero]; show Cls H2 us (_ ++ []); rw [List.append_nil]; exact cl2⟩ (fun j σ H' _ ⟨_, _, _, _, _, m, _⟩ => SqL.of (m _ _ ((rmS_of (fun z => npL (List.mem_singleton.mp z))).trans hp))) ?_ ?_⟩
          · rintro j y σ HY H3 hj ⟨k4, k5, k6, us3, rfl, m3, hu3, cl3⟩ ⟨rfl, hy⟩
            obtain ⟨qb, k, rfl, hk, hqb⟩ := okAr_get bk hy
            have lsF : Ls [L] H2 := fun y hy => by
              rw [List.mem_singleton.mp hy]
              exact ⟨_, hu2⟩
            have hqb3 := m3 _ _ (lsF.tt _ _ hqb)
            have ko := bok k (List.mem_of_getElem? hk)
            have rc1 := wl.rc.r1
            have rc3 := wl.rc.c1
            obtain ⟨g1, g2, g3, g4, g5, g6⟩ := ko
            have jl : (((blksOf N ai).take j).flatMap cellsOf).length ≤ 600 := by
              have h := flat_len_le (f := cellsOf) (m := 60) ((blksOf N ai).take j) fun k hk => cellsOf_len (bok k (List.mem_of_mem_take hk)) wl.few
              rw [List.length_take] at h
              have : min j (blksOf N ai).length * 60 ≤ 10 * 60 := Nat.mul_le_mul_right 60 (by omega)
              omega
            have ub3 : us3.length ≤ 1800 := by
              rw [cl3.len, List.length_append, ← cl1.len]
              omega
            refine ⟨_, rfl, qb, _, _, _, rfl, rfl, SqT.of hqb3, atI_nat (j := 1) rfl, _, rfl, qb, _, _, _, rfl, rfl, SqT.of hqb3, atI_nat (j := 3) rfl, _, _, rfl, rfl, ?_⟩
            refine ⟨_, _, rfl, ⟨by omega, by omega, by omega, by omega⟩, for_range (lo := k.t) (n := (k.b + 1 - k.t).toNat) (fun a σ H' => ∃ (k5 k6 : Option V) (us : List V), σ = [some (.ref nd), some (.ref p), some (.ref L), some x, some (.ref qb), k5, k6] ∧ Same (rmS [L] H2) H' ∧ H' L = some (.lst us) ∧ us.length ≤ 1800 + 50 * a ∧ Cls H' us (((as.take i).flatMap (fz N) ++ ((blksOf N ai).take j).flatMap cellsOf) ++ (List.range a).flatMap (rowOf k))) ⟨_, _, us3, rfl, m3, hu3, by omega, by show Cls H3 us3 (_ ++ []); rw [List.append_nil]; exact cl3⟩ ?_ ?_⟩
            · rintro a σ H4 ha ⟨k5, k6, us4, rfl, m4, hu4, ul4, cl4⟩
              have hqb4 := m4 _ _ (lsF.tt _ _ hqb)
              refine ⟨_, rfl, qb, _, _, _, rfl, rfl, SqT.of hqb4, atI_nat (j := 2) rfl, _, rfl, qb, _, _, _, rfl, rfl, SqT.of hqb4, atI_nat (j := 4) rfl, _, _, rfl, rfl, ?_⟩
              refine ⟨_, _, rfl, ⟨by omega, by omega, by omega, by omega⟩, for_range (lo := k.l) (n := (k.r + 1 - k.l).toNat) (fun c σ H' => ∃ (k6 : Option V) (us : List V), σ = [some (.ref nd), some (.ref p), some (.ref L), some x, some (.ref qb), some (.int (k.t + (a : Int))), k6] ∧ Same (rmS [L] H2) H' ∧ H' L = some (.lst us) ∧ us.length ≤ 1800 + 50 * a + c ∧ Cls H' us ((((as.take i).flatMap (fz N) ++ ((blksOf N ai).take j).flatMap cellsOf) ++ (List.range a).flatMap (rowOf k)) ++ (rowOf k a).take c)) ⟨_, us4, rfl, m4, hu4, ul4, by rw [List.take_zero, List.append_nil]; exact cl4⟩ ?_ ?_⟩
              · rintro c σ H5 hc ⟨k6, us5, rfl, m5, hu5, ul5, cl5⟩
                refine ⟨_, rfl, .inl ⟨rfl, _, SqL.of hu5⟩, _, rfl, _, rfl, (by show 2 ≤ sizeLine; decide), fun t ht => ?_⟩
                have st := same_new (o := .tup [.int (k.t + (a : Int)), .int (k.l + (c : Int))]) ht
                have hu6 := st _ _ hu5
                refine ⟨L, _, _, rfl, rfl, hu6, sz100 (by omega), _, us5 ++ [.ref t], rfl, fun b u e => ?_, upd_same, by rw [List.length_append]; exact Nat.add_le_add_right ul5 1, ?_⟩
                · obtain ⟨nb, _⟩ := rmS_some e
                  rw [upd_ne fun z => nb (List.mem_singleton.mpr z)]
                  exact st _ _ (m5 b u e)
                · rw [row_take k a c hc, ← List.append_assoc]
                  exact ((cl5.mono (TK.of st)).snoc upd_same).mono (TK.mut hu6)
              · rintro σ H5 ⟨k6, us5, rfl, m5, hu5, ul5, cl5⟩
                rw [show (rowOf k a).take (k.r + 1 - k.l).toNat = rowOf k a from List.take_of_length_le (by rw [rowOf_len]; exact Nat.le_refl _)] at cl5
                refine ⟨_, _, us5, rfl, m5, hu5, by omega, ?_⟩
                rw [range_flat, ← List.append_assoc]
                exact cl5
            · rintro σ H4 ⟨k5, k6, us4, rfl, m4, hu4, ul4, cl4⟩
              refine ⟨_, _, _, us4, rfl, m4, hu4, ?_⟩
              rw [flat_take cellsOf hk, ← List.append_assoc]
              exact cl4
          · rintro σ H3 ⟨k4, k5, k6, us3, rfl, m3, hu3, cl3⟩
            rw [show (blksOf N ai).take bs.length = blksOf N ai from List.take_of_length_le (by omega)] at cl3
            refine ⟨_, _, _, _, us3, rfl, fun b u e => m3 b u ?_, hu3, ?_⟩
            · rw [rmS_of fun z => ne_of_none e hL (List.mem_singleton.mp z)]
              exact s2 _ _ (s1 b u e)
            · rw [flat_take (fz N) hai]
              exact cl3
        · rintro σ H1 ⟨k3, k4, k5, k6, us, rfl, s1, hu1, cl1⟩
          rw [List.take_of_length_le (by omega)] at cl1
          exact ⟨_, rfl, q H1 L us s1 hL hu1 cl1⟩
section
variable {κ β : Type} [DecidableEq κ]
theorem keys_put {D : List (κ × β)} {k : κ} {v : β} {x : κ} : x ∈ (putE D k v).map Prod.fst ↔ x = k ∨ x ∈ D.map Prod.fst := by
  unfold putE
  split
  · rename_i c
    have : (D.map fun e => if e.1 = k then (e.1, v) else e).map Prod.fst = D.map Prod.fst := by
      rw [List.map_map]
      refine List.map_congr_left fun e _ => ?_
      show (if e.1 = k then (e.1, v) else e).1 = e.1
      split <;> rfl
    rw [this]
    constructor
    · exact fun h => .inr h
    · rintro (rfl | h)
      · obtain ⟨e, he, z⟩ := List.any_eq_true.mp c
        exact List.mem_map.mpr ⟨e, he, of_decide_eq_true z⟩
      · exact h
  · rw [List.map_append, List.mem_append]
    constructor
    · rintro (h | h)
      · exact .inr h
      · exact .inl (by simpa using h)
    · rintro (h | h)
      · exact .inr (by simp [h])
      · exact .inl h
theorem put_nd {D : List (κ × β)} {k : κ} {v : β} (nd : (D.map Prod.fst).Nodup) : ((putE D k v).map Prod.fst).Nodup := by
  unfold putE
  split
  · have : (D.map fun e => if e.1 = k then (e.1, v) else e).map Prod.fst = D.map Prod.fst := by
      rw [List.map_map]
      refine List.map_congr_left fun e _ => ?_
      show (if e.1 = k then (e.1, v) else e).1 = e.1
      split <;> rfl
    rw [this]
    exact nd
  · rename_i c
    rw [List.map_append, List.nodup_append]
    refine ⟨nd, by simp, fun a ha b hb z => ?_⟩
    have hb : b = k := by simpa using hb
    obtain ⟨e, he, e1⟩ := List.mem_map.mp ha
    exact c (List.any_eq_true.mpr ⟨e, he, decide_eq_true (by rw [e1, z, hb])⟩)
end
theorem Cls.get {H : Hp} : ∀ {vs : List V} {zs : List (Int × Int)}, Cls H vs zs → ∀ (i : Nat) x, vs[i]? = some x → ∃ q z, x = .ref q ∧ zs[i]? = some z ∧ H q = some (.tup [.int z.1, .int z.2])
  | _, _, .nil, i, x, h => by simp at h
  | _, _, .cons (q := q) (z := z) h r, 0, x, e => ⟨q, z, by cases e; rfl, rfl, h⟩
  | _, _, .cons h r, i + 1, x, e => r.get i x (by simpa using e)
/-- the list of the cells that a cell reads -/
structure RdL (H H' : Hp) (p : Addr) (L : List (Int × Int)) (Zs : List (V × (Int × Int))) : Prop where
  new : H p = none
  at_ : H' p = some (.lst (Zs.map Prod.fst))
  tu : ∀ y ∈ Zs, TuAt H' y.1 y.2
  nd : (Zs.map Prod.snd).Nodup
  so : (Zs.map Prod.snd).Pairwise (fun a b => ¬ ltK b a)
  mem : ∀ y, y ∈ Zs.map Prod.snd ↔ y ∈ L
/-- the law's own dicts; the one of the cells may be walked just now -/
structure TDr (K : PySem.W.Frag) (S : List Addr) (H : Hp) (cd nd : Addr) (W : WC) (N : NA) : Prop where
  cs : ∃ kvs, (rmS S H cd = some (.dT kvs) ∨ ∃ od, rmS S H cd = some (.frz od (.dT kvs))) ∧ Ents idK (LAt K (rmS S H)) kvs (cdW W)
  ns : NS K S H nd N
theorem TDr.same {K : PySem.W.Frag} {S : List Addr} {H H' : Hp} {cd nd : Addr} {W : WC} {N : NA} (h : TDr K S H cd nd W N) (s : Same H H') : TDr K S H' cd nd W N := by
  obtain ⟨⟨kvs, h1, h2⟩, h3⟩ := h
  exact ⟨⟨kvs, h1.imp (rmS_same s _ _) fun ⟨od, e⟩ => ⟨od, rmS_same s _ _ e⟩, ents_kd (KD.of (rmS_same s)) h2⟩, h3.same s⟩
theorem TDr.rd {K : PySem.W.Frag} {S : List Addr} {H : Hp} {cd nd : Addr} {W : WC} {N : NA} (h : TDr K S H cd nd W N) : ∃ kvs, (H cd = some (.dT kvs) ∨ ∃ od, H cd = some (.frz od (.dT kvs))) ∧ Ents idK (LAt K H) kvs (cdW W) := by
  obtain ⟨⟨kvs, h1, h2⟩, h3⟩ := h
  exact ⟨kvs, h1.imp (fun e => (rmS_some e).2) fun ⟨od, e⟩ => ⟨od, (rmS_some e).2⟩, ents_kd (KD.of rmS_le) h2⟩
theorem TDr.got {K : PySem.W.Frag} {S : List Addr} {H : Hp} {cd nd : Addr} {W : WC} {N : NA} {tb l0 : Addr} {z : Int × Int} (D : TDr K S H cd nd W N) (ht : H tb = some (.tup [.int z.1, .int z.2])) (hl : H l0 = some (.lst [])) :
    ∃ r, DGet H cd (.ref tb) r ∧ ∃ l ws, r.getD (.ref l0) = .ref l ∧ H l = some (.lst ws) ∧ DtAll H ws ((getE (cdW W) z).getD []) := by
  obtain ⟨kvs, hC, eC⟩ := D.rd
  obtain ⟨e1, e2⟩ := ents_get (fun _ _ => idK_inj) eC z
  have dg : DGet H cd (.ref tb) (valV kvs (idK z)) := .inr ⟨kvs, idK z, tb, hC, rfl, ht, rfl⟩
  cases hg : getE (cdW W) z with
  | none =>
    rw [e1 hg] at dg
    exact ⟨none, dg, l0, [], rfl, hl, .nil⟩
  | some ds =>
    obtain ⟨v, ev, l, us, rfl, hl2, dp⟩ := e2 ds hg
    rw [ev] at dg
    exact ⟨_, dg, l, us, rfl, hl2, dp⟩
theorem TD.toR {K : PySem.W.Frag} {S : List Addr} {H : Hp} {cd nd : Addr} {W : WC} {N : NA} (h : TD K (rmS S H) cd nd (cdW W) (nmA N)) : TDr K S H cd nd W N := by
  obtain ⟨⟨kvs, h1, h2, _⟩, ⟨nvs, h3, h4, _⟩⟩ := h
  exact ⟨⟨kvs, .inl h1, h2⟩, ⟨nvs, h3, h4⟩⟩
def spReadsL (K : PySem.W.Frag) : Sp := fun vs H Q _ => ∃ (S : List Addr) (w0 nd cd a : Addr) (R C : Int) (W : WC) (N : NA) (z : Int × Int), vs = [.ref w0, .ref a] ∧ H w0 = some (.lst [.int R, .int C, .ref nd, .ref cd]) ∧ TDr K S H cd nd W N ∧ Wld R C W N ∧ (∀ e ∈ W, OkSh R C e.2) ∧ H a = some (.tup [.int z.1, .int z.2]) ∧
  ∀ (p : Addr) (Zs : List (V × (Int × Int))) (H' : Hp), Same H H' → RdL H H' p (readsOf W N z) Zs → Q (.ref p) H'
theorem okf3 : ("text" : Str) ≠ "formula" ∧ ("number" : Str) ≠ "formula" ∧ ("blank" : Str) ≠ "formula" := by decide +kernel
theorem okLawReads (T : Txt K mg) : FnOk P w K mg base CX0 8 T.fLawReads T.fdLawReads ["world", "cell"] (spReadsL K) := by
  refine T.FLawReads.ok scLawReads (fun vs H Q E h => ?_) (fun cdv A outer s H vs Q E hr h => ?_)
  · obtain ⟨S, w0, nd, cd, a, R, C, W, N, z, rfl, _⟩ := h
    rfl
  · obtain ⟨S, w0, nd, cd, a, R, C, W, N, z, rfl, hw, td, wl, shs, ha, q⟩ := h
    -- slots world=0 cell=1 shown=2 found=3 other=4
    refine ⟨_, (pss_cons (ps_set (i := 2) scLawReads.nd rfl (Or.inl rfl) (pe_dget2 (units2 hr) (pe_ix ix_list (pv 0) pe_int (fun _ _ => rfl)) (pv 1) (pe_lst pa_nil) ⟨rfl, rfl, rfl, rfl⟩))
        (pss_cons (ps_if (PW.pt (pw_or (pt_cmpR op_ne (pe_callB call_len_seq (by rfl) T.z_len PySem.boot_len (pa_cons (pv 2) pa_nil)) pe_int (nomark _)) (pw_or1 (pt_cmpR op_ne (pe_ix ix_tup (pe_ix ix_list (pv 2) pe_int (fun _ _ => rfl)) pe_int (fun _ _ => rfl)) pe_str (nomark _)))))
          (pss_one (ps_ret (pe_lst pa_nil)))
          pss_nil)
        (pss_cons (ps_set (i := 3) scLawReads.nd rfl (Or.inl rfl) pe_dnewT)
        (pss_cons (ps_for PassesOwn.never rfl (pi_list (pe_call (okLawReadsOfTree T 5) (hr.mono (by decide)) (by rfl) T.gLawReadsOfTree T.FLawReadsOfTree.kp T.bLawReadsOfTree .nil pass0 (pa_cons (pe_ix ix_list (pv 0) pe_int (fun _ _ => rfl)) (pa_cons (pe_ix ix_tup (pe_ix ix_list (pv 2) pe_int (fun _ _ => rfl)) pe_int (fun _ _ => rfl)) pa_nil)))) (pg_name (i := 4) scLawReads.nd rfl (Or.inl rfl))
          (pss_one (ps_dput (units2 hr) (pv 3) (pv 4) pe_bl rfl)))
        (pss_one (ps_ret (pe_callB (cr_sortedD hr.units) (by rfl) T.z_sorted (by decide +kernel) (pa_cons (pe_callTy (call_list_keys rfl) (by rfl) T.z_list (by decide +kernel) (pa_cons (pe_bm0 PySem.F.plainAttrs_dict PySem.F.slot_dict_keys PySem.F.type_dict_keys mt_keys (pv 3)) pa_nil)) pa_nil)))))))), ?_⟩
    obtain ⟨kvs0, hc, _⟩ := td.rd
    refine ⟨_, rfl, w0, _, _, _, rfl, rfl, SqL.of hw, atI_nat (j := 3) rfl, cd, rfl, .inr ⟨kvs0, hc⟩, _, rfl, Nat.zero_le _, fun l0 hl0 => ?_⟩
    have s0 := same_new (o := .lst []) hl0
    obtain ⟨r, dg, l, ws, er, hl, dl⟩ := (td.same s0).got (z := z) (s0 _ _ ha) upd_same
    refine ⟨r, dg, ?_⟩
    rw [er]
    rw [shown_data] at dl
    have ef : formulaAt W z = formOf ((getE W z).getD []) := rfl
    have oc : ∀ c ∈ (getE W z).getD [], OkC R C c := fun c hc => by
      cases e : getE W z with
      | none =>
        rw [e] at hc
        cases hc
      | some cs =>
        rw [e] at hc
        exact (shs _ (getE_key e)).all c hc
    have hw1 := s0 _ _ hw
    generalize upd H l0 (.lst []) = H1 at s0 hl dl hw1
    generalize (getE W z).getD [] = cs at dl ef oc
    have ln := dl.length
    rw [List.length_map] at ln
    have none_ : formulaAt W z = none → ∀ p, H1 p = none → Q (.ref p) (upd H1 p (.lst [])) := fun e p hp => q p [] _ (s0.trans (same_new hp)) ⟨s0.free hp, upd_same, (fun _ h => nomatch h), List.nodup_nil, List.Pairwise.nil, fun y => by
      unfold readsOf
      rw [e]
      exact Iff.rfl⟩
    cases cs with
    | nil =>
      rw [dl.end_] at hl
      refine ⟨_, rfl, l, _, rfl, .inl (SqL.of hl), rfl, _, rfl, iteT ?_⟩
      exact ⟨Nat.zero_le _, fun p hp => none_ ef p hp⟩
    | cons c cs =>
      cases cs with
      | cons c2 cs =>
        have e2 : formulaAt W z = none := by
          rw [ef]
          cases c <;> rfl
        refine ⟨_, rfl, l, _, rfl, .inl (SqL.of hl), rfl, _, rfl, ite2 (fun _ => ⟨Nat.zero_le _, fun p hp => none_ e2 p hp⟩) (fun y => ?_)⟩
        exfalso
        apply y
        rw [Bool.not_eq_true', decide_eq_false]
        intro y
        have y := V.int.inj y
        rw [ln, List.length_cons, List.length_cons] at y
        omega
      | nil =>
        obtain ⟨x, r2, rfl, hd, re⟩ := dl.un
        obtain rfl := re.end_
        have one : ∀ A B : Prop, B → if (!decide (V.int (([x].length : Nat) : Int) = V.int 1)) = true then A else B := fun A B b => by
          rw [if_neg]
          · exact b
          · simp
        cases c with
        | text w =>
          obtain ⟨q0, xs, rfl, hq, ra⟩ := hd.tup_inv
          obtain ⟨_, _, rfl, h1, rb⟩ := ra.un
          rw [h1.str_inv] at hq
          exact ⟨_, rfl, l, _, rfl, .inl (SqL.of hl), rfl, _, rfl, one _ _ ⟨_, rfl, l, _, _, _, rfl, rfl, SqL.of hl, atI_nat (j := 0) rfl, q0, _, _, _, rfl, rfl, SqT.of hq, atI_nat (j := 0) rfl, rfl, _, rfl, ifNe okf3.1 ⟨Nat.zero_le _, fun p hp => none_ ef p hp⟩⟩⟩
        | num x y =>
          obtain ⟨q0, xs, rfl, hq, ra⟩ := hd.tup_inv
          obtain ⟨_, _, rfl, h1, rb⟩ := ra.un
          rw [h1.str_inv] at hq
          exact ⟨_, rfl, l, _, rfl, .inl (SqL.of hl), rfl, _, rfl, one _ _ ⟨_, rfl, l, _, _, _, rfl, rfl, SqL.of hl, atI_nat (j := 0) rfl, q0, _, _, _, rfl, rfl, SqT.of hq, atI_nat (j := 0) rfl, rfl, _, rfl, ifNe okf3.2.1 ⟨Nat.zero_le _, fun p hp => none_ ef p hp⟩⟩⟩
        | blank =>
          obtain ⟨q0, xs, rfl, hq, ra⟩ := hd.tup_inv
          obtain ⟨_, _, rfl, h1, rb⟩ := ra.un
          rw [h1.str_inv] at hq
          exact ⟨_, rfl, l, _, rfl, .inl (SqL.of hl), rfl, _, rfl, one _ _ ⟨_, rfl, l, _, _, _, rfl, rfl, SqL.of hl, atI_nat (j := 0) rfl, q0, _, _, _, rfl, rfl, SqT.of hq, atI_nat (j := 0) rfl, rfl, _, rfl, ifNe okf3.2.2 ⟨Nat.zero_le _, fun p hp => none_ ef p hp⟩⟩⟩
        | form t =>
          obtain ⟨q0, xs, rfl, hq, ra⟩ := hd.tup_inv
          obtain ⟨_, _, rfl, h1, rb⟩ := ra.un
          obtain ⟨v, _, rfl, h2, rc⟩ := rb.un
          obtain rfl := rc.end_
          rw [h1.str_inv] at hq
          obtain ⟨tok, th⟩ := oc (.form t) List.mem_cons_self
          refine ⟨_, rfl, l, _, rfl, .inl (SqL.of hl), rfl, _, rfl, one _ _ ⟨_, rfl, l, _, _, _, rfl, rfl, SqL.of hl, atI_nat (j := 0) rfl, q0, _, _, _, rfl, rfl, SqT.of hq, atI_nat (j := 0) rfl, rfl, _, rfl, ifNeY ?_⟩⟩
          refine fun fd hfd => ?_
          have s2 := same_new (o := .dT []) hfd
          have hf2 : (upd H1 fd (.dT [])) fd = some (.dT []) := upd_same
          have nsH : NS K S H nd N := td.ns
          refine ⟨_, rfl, w0, _, _, _, rfl, rfl, SqL.of (s2 _ _ hw1), atI_nat (j := 2) rfl, _, rfl, l, _, _, _, rfl, rfl, SqL.of (s2 _ _ hl), atI_nat (j := 0) rfl, q0, _, _, _, rfl, rfl, SqT.of (s2 _ _ hq), atI_nat (j := 1) rfl, S, nd, N, v, t, R, C, rfl, th, Nat.le_refl _, nsH.same (s0.trans s2), ⟨wl.rc, wl.few, (fun _ _ h => nomatch h), wl.nm⟩, (dt_tr h2).mono (TK.of s2), tok, fun H3 p us s3 hpn hp cl => ?_⟩
          have hf3 := s3 _ _ hf2
          have ul : us.length ≤ 28800 := by
            rw [cl.len]
            exact rdT_len wl (n := 4) tok th
          have npf : p ≠ fd := fun y => by
            rw [y, hf2] at hpn
            cases hpn
          refine ⟨p, rfl, ⟨us, SqL.of hp⟩, for_it (walk_list (a := p) (xs := us)) (fun i σ H' => ∃ (c4 : Option V) (kvs : List (List Key × V)) (D : List ((Int × Int) × Unit)), σ = [some (.ref w0), some (.ref a), some (.ref l), some (.ref fd), c4] ∧ (∀ c o, c ≠ fd → H3 c = some o → H' c = some o) ∧ H' fd = some (.dT kvs) ∧ Ents idK (fun _ _ => True) kvs D ∧ kvs.length ≤ i ∧ (D.map Prod.fst).Nodup ∧ ∀ y, y ∈ D.map Prod.fst ↔ y ∈ (rdT N t).take i) ⟨_, [], [], rfl, (fun _ _ _ h => h), hf3, RepP.nil, Nat.le_refl _, List.nodup_nil, fun y => by rw [List.take_zero]; exact Iff.rfl⟩ (fun i σ H' _ ⟨_, _, _, _, m, _⟩ => SqL.of (m _ _ npf hp)) ?_ ?_⟩
          · rintro i x σ HX H4 hi ⟨c4, kvs, D, rfl, m4, hf4, en4, nl4, nd4, me4⟩ ⟨rfl, hx⟩
            obtain ⟨qx, y, rfl, hy, hqx⟩ := cl.get i x hx
            have nqf : qx ≠ fd := fun y => by
              rw [y, hf3] at hqx
              cases hqx
            refine ⟨_, rfl, _, rfl, fd, _, rfl, DPut.t (k := idK y) hf4 (m4 _ _ nqf hqx) (sz100 (by omega)), ?_⟩
            refine ⟨_, _, putE D y (), rfl, fun c o n e => by rw [upd_ne n]; exact m4 c o n e, upd_same, ents_put (fun _ _ => idK_inj) en4 trivial, ?_, put_nd nd4, fun y2 => ?_⟩
            · have := putK_len kvs (idK y) (.bl true)
              omega
            · rw [keys_put, List.take_add_one, hy, List.mem_append, me4]
              constructor
              · rintro (h | h)
                · exact .inr (by simp [h])
                · exact .inl h
              · rintro (h | h)
                · exact .inr h
                · exact .inl (by simpa using h)
          · rintro σ H4 ⟨c4, kvs, D, rfl, m4, hf4, en4, nl4, nd4, me4⟩
            have full : (rdT N t).take us.length = rdT N t := List.take_of_length_le (by rw [cl.len]; exact Nat.le_refl _)
            rw [full] at me4
            have s14 : Same H H4 := fun b u e => m4 b u (ne_of_none (s0 _ _ e) hfd) (s3 _ _ (s2 _ _ (s0 _ _ e)))
            refine ⟨_, rfl, .inr (.inr (.inl ⟨rfl, .inr ⟨kvs, hf4⟩⟩)), fd, rfl, rfl, .inl ⟨kvs, hf4⟩, fun v2 hv2 => ?_⟩
            have u5 : Same H4 (upd H4 v2 (keysO v2 fd)) := same_new hv2
            refine ⟨v2, fd, rfl, upd_same, .inl ⟨kvs, u5 _ _ hf4, fun l3 bs hl3 hk => ?_⟩⟩
            have zd : (D.map fun e => (e.1, ([] : List PyData))).map Prod.fst = D.map Prod.fst := by
              rw [List.map_map]
              rfl
            obtain ⟨zs, zf, zn, zt⟩ := keys_zip (cells := D.map fun e => (e.1, [])) hk (by rw [zd]; exact ents_keys en4)
            have u6 : Same (upd H4 v2 (keysO v2 fd)) (upd (upd H4 v2 (keysO v2 fd)) l3 (.lst (bs.map V.ref))) := same_new hl3
            have zt6 : ∀ z ∈ zs, TuAt (upd (upd H4 v2 (keysO v2 fd)) l3 (.lst (bs.map V.ref))) z.1 z.2 := fun z hz => (zt z hz).same u6
            obtain ⟨a1, a2, a3⟩ := zs_alike zs
            have mf : (zs.map gK).map Prod.fst = bs.map V.ref := by
              rw [← zf, List.map_map]
              rfl
            refine ⟨l3, zs.map gK, rfl, SqL.of (by rw [mf]; exact upd_same), fun b hb => ?_, a1, a2, a3, fun p2 hp2 => ?_⟩
            · obtain ⟨z, hz, rfl⟩ := List.mem_map.mp hb
              exact (zt6 z hz).dp
            obtain ⟨Z2, z21, z22, z23⟩ := sortK zs
            rw [z21]
            have u7 := same_new (o := .lst (Z2.map Prod.fst)) hp2
            have sE := ((s14.trans u5).trans u6)
            have zp := z22.map Prod.snd
            rw [zn] at zp
            rw [zd] at zp
            refine q p2 Z2 _ (sE.trans u7) ⟨sE.free hp2, upd_same, fun y hy => (zt6 y (z22.mem_iff.mp hy)).same u7, zp.nodup_iff.mpr nd4, z23, fun y => ?_⟩
            rw [zp.mem_iff, me4, mem_rdT]
            unfold readsOf
            rw [ef]
            exact Iff.rfl
/-! ### d.setdefault(k, x), keys of tuples -/
section
open PySem PySem.Calls PyProof.Rows PyProof.V PySem.Spec
variable {X : Cx}
def rSetdT : V → List V → Hp → VK → Prop := fun x xs H Q => ∃ (a : Addr) (kvs : List (List L2.Key × V)) (k : List L2.Key) (b : Addr) (d : V), x = V.ref a ∧ xs = [V.ref b, d] ∧ H a = some (.dT kvs) ∧ H b = some (.tup (k.map kV)) ∧ kvs.length < sizeLine ∧ (∀ v, valV kvs k = some v → Q v H) ∧ (valV kvs k = none → Q d (L2.upd H a (.dT (putK kvs k d))))
theorem mt_setdT (hu : X.A.units + 1 < cLine) : MtR X "dict.setdefault" rSetdT := by
  intro pins s σ H x xs v us Q I rx rxs h
  obtain ⟨a, kvs, k, b, d, rfl, rfl, ha, hb, hl, there, absent⟩ := h
  cases rx
  obtain ⟨u1, u2, rfl, r1, r2⟩ := vals2 rxs
  cases r1
  obtain ⟨z, hd, ents, rel, dd⟩ := dt_of I.hok ha
  have same : ∀ q, atKey ents k = q → RelO (valV kvs k) (q.map (·.2)) := fun q e => e ▸ rel.val k
  refine call_meetsIn PySem.F.slot_dict_setdefault dd.typeIs PySem.F.entry_dict_setdefault (PySem.F.args_dict_setdefault_3 _ _ _) (meetsH_dict_setdefault (tupleKind (mixKind X.prog X.w)) a b hd u2) ⟨tupleKind_room_in1 hu, k, ents, key_of I.hok hb, dd, Paired.length rel ▸ z, fun p hp => ?_, fun gone h' dd' sb => ?_⟩
  · have r := same _ hp
    cases ev : valV kvs k with
    | none =>
      rw [ev] at r
      exact (show False from r).elim
    | some v0 =>
      rw [ev] at r
      exact ⟨v0, H, I.tok _, r, there v0 ev⟩
  · have r := same _ gone
    cases ev : valV kvs k with
    | some v0 =>
      rw [ev] at r
      exact (show False from r).elim
    | none =>
      obtain ⟨o, es, ep, ho, q2, q3, q4, _, q5⟩ := dd'
      have grown : (putK kvs k d).length ≤ sizeLine := Nat.le_trans (length_putK kvs k d) hl
      have mv := (rel.put k hb r2).keeps (H' := L2.upd H a (.dT (putK kvs k d))) fun c ys ec => (upd_ne (ne_of ec ha fun w => nomatch w)).trans ec
      exact ⟨d, L2.upd H a (.dT (putK kvs k d)), d_write I (by rw [ha]; trivial) sb ⟨o, ho⟩ ⟨grown, hd, _, mv, o, es, ep, ho, q2, q3, q4, q5⟩, r2, absent ev⟩
/-- d[y] = z by a comprehension, any keys -/
theorem dictSet_put {pins : List (Addr × Obj)} {σ : L2.St} {H H' : Hp} {s : Shared} {E : Value → Shared → Prop} {D : Addr} {y z : V} {u r : Value} {Q : Unit → Shared → Prop} (hu : X.A.units + 1 < cLine) (I : Inv X pins σ H s) (g : DPut H D y z H') (ry : RelV y u) (rz : RelV z r) (h : ∀ s', Inv X pins σ H' s' → Q () s') : wpAny (model X.prog X.w) X.A (dictSet D u r) Q E s := by
  rcases g with ⟨kvs, k, e, rfl, l, rfl⟩ | ⟨kvs, k, b, e, rfl, eb, l, rfl⟩
  · exact d_dictSet I e l ry rz h
  · obtain rfl : u = Value.ref b := ry
    obtain ⟨hz, hd, ents, rel, dd⟩ := dt_of I.hok e
    refine wpAny_dictSet_heap (hsz := Paired.length rel ▸ hz) (by show X.A.units < cLine; omega) (key_of I.hok eb) dd fun h' dd' sb => h _ ?_
    obtain ⟨o, es, ep, ho, q2, q3, q4, _, q5⟩ := dd'
    have mv := (rel.put k eb rz).keeps (H' := L2.upd H D (.dT (putK kvs k z))) fun c ys ec => (upd_ne (ne_of ec e fun w => nomatch w)).trans ec
    exact d_write I (by rw [e]; trivial) sb ⟨o, ho⟩ ⟨Nat.le_trans (length_putK kvs k z) l, hd, _, mv, o, es, ep, ho, q2, q3, q4, q5⟩
end
section
open PySem PySem.Calls PyProof.Rows PyProof.V PySem.Spec
variable {X : Cx}
/-- {k: v for target in iter if ..}, D the new dict, its keys tuples -/
def tDcT (wi : TI) (g : TG) (tt : L2.TT) (tk tv : TE) (vs : List Nat) : TE := fun σ H Q => wi σ H fun J H1 => ∀ D, H1 D = none → ∃ W : Nat → Nat → Hp → Prop, (∃ m, W 0 m (L2.upd H1 D (.dT []))) ∧ ∀ i m H2, W i m H2 →
  (J.stop i H2 ∧ Q (.ref D) H2) ∨ (J.go i H2 ∧ ∃ Nx : Hp → Prop, (∀ H', Nx H' → ∃ m', m' < m ∧ W (i + 1) m' H') ∧ ∀ x H3, J.yld i H2 x H3 → g x (wipe σ vs) H3 fun σ4 H4 => wipe σ4 vs = wipe σ vs ∧ tt σ4 H4 fun b H5 => if b = true then tk σ4 H5 fun y H6 => tv σ4 H6 fun z H7 => ∃ H8, DPut H7 D y z H8 ∧ Nx H8 else Nx H5)
theorem dcT_core {pins : List (Addr × Obj)} {s : Shared} {σ : L2.St} {H : Hp} {Q : VK} {use : Option (Value → Sem Unit)} {Qf : Value → Shared → Prop} {pos' : Pos} {kx vx tg iter : Expr} {ifs : List Expr} {scope : Scope} {own : List (Str × Nat)} {pos : Pos} {wi : TI} {g : TG} {tt : L2.TT} {tk tv : TE} (hu : X.A.units + 1 < cLine) (hc : X.calm = true) (hN : X.N.Nodup) (hi : PI X tg iter wi) (ok : BlkOk X.N X.env.scope scope own)
    (hg : ∀ (s : Shared) (H : Hp) (C : Addr) (cl : List (Str × Addr)) (fp : List Addr), PG (X.blk s H scope (compEnvC scope cl C X.env) fp) tg g) (ht : ∀ (s : Shared) (H : Hp) (C : Addr) (cl : List (Str × Addr)) (fp : List Addr), PTs (X.blk s H scope (compEnvC scope cl C X.env) fp) ifs tt)
    (hk : ∀ (s : Shared) (H : Hp) (C : Addr) (cl : List (Str × Addr)) (fp : List Addr), PE (X.blk s H scope (compEnvC scope cl C X.env) fp) kx tk) (he : ∀ (s : Shared) (H : Hp) (C : Addr) (cl : List (Str × Addr)) (fp : List Addr), PE (X.blk s H scope (compEnvC scope cl C X.env) fp) vx tv) (hs : ∀ x, foldedSetIterable iter X.env x = pure x) (I : Inv X pins σ H s) (h : tDcT wi g tt tk tv (own.map (·.2)) σ H Q)
    (last : ∀ D C s' m H', Inv X pins σ H' s' → Q (.ref D) H' → s'.heap.Ns C m → FpOk X pins H' C → compPost (model X.prog X.w) X.A X.xe use Qf (.ref D) C (.ok .next) s') :
    wpAny (model X.prog X.w) X.A (comprehension (.DictComp kx vx [⟨tg, iter, ifs, 0⟩] scope pos) scope X.env pos' newDict false (eval iter X.env) use) Qf X.xe s := by
  have cl : ∀ y ∈ scope.names, y.2 = .free → ∃ c, X.env.cells.lookup y.1 = some c := fun y hy e => I.ok.has _ ((ok.free y hy e).imp id id)
  refine wpAny_comprehension_free (use := use) rfl hs (closure_ok cl) ok.kind (fun y hy e => by rw [ok.uniq y hy, e]) (thn (hi.run pins s σ H _ I h) fun xv s1 hx => thn hx fun itv s2 h2 => ?_)
  obtain ⟨it, fp, tn, J, H2, rfl, I2, T, st2, f2, q⟩ := h2
  refine wpAny_newObj_type (newEnv_comp ?_)
  -- the new dict
  obtain ⟨D, hD⟩ : ∃ D, D = s2.heap.objs.size := ⟨_, rfl⟩
  rw [← hD]
  obtain ⟨W, ⟨m0, w0⟩, turn⟩ := q D (I2.hok.fresh (Nat.le_of_eq hD.symm))
  obtain ⟨s3, h3⟩ : ∃ s3 : Shared, s3 = { s2 with heap := s2.heap.push { cls := .type "dict", data := .dict #[] } } := ⟨_, rfl⟩
  have up : ∀ b o, s2.heap.get? b = some o → s3.heap.get? b = some o := fun b o e => by
    rw [h3]
    exact Heap.get?_push_of_some _ e
  have I3 : Inv X pins σ (L2.upd H2 D (.dT [])) s3 := by
    rw [h3, hD]
    exact I2.laid (t' := s2.toks) (fun b o e => Heap.get?_push_of_some _ e) (Nat.le_refl _) (dt_empty s2.heap I2.big)
  have old : ∀ b ∈ fp, b < s2.heap.objs.size := fun b hb => by
    obtain ⟨o, e, _⟩ := T.obj _ _ st2 b hb
    exact Heap.lt_size e
  have grown : s3.heap.objs.size = s2.heap.objs.size + 1 := by
    rw [h3]
    exact Heap.size_push ..
  have f3 : ∀ b ∈ fp, FpOk X pins (L2.upd H2 D (.dT [])) b ∧ b < s3.heap.objs.size := fun b hb => by
    have lt := old b hb
    have ne : b ≠ D := fun z => by
      rw [z, hD] at lt
      exact Nat.lt_irrefl _ lt
    exact ⟨⟨(upd_ne ne).trans (f2 b hb).1, (f2 b hb).2⟩, by show b < s3.heap.objs.size; rw [grown]; exact Nat.lt_succ_of_lt lt⟩
  have B4 := block_start I3 ok hN f3
  obtain ⟨ce, hce⟩ : ∃ ce, ce = compEnvC scope (cellsFrom (s3.heap.objs.size + 1) scope.names (cloFrom X.env.cells scope.names [])) s3.heap.objs.size X.env := ⟨_, rfl⟩
  have pg := hg s3 (L2.upd H2 D (.dT [])) s3.heap.objs.size (cellsFrom (s3.heap.objs.size + 1) scope.names (cloFrom X.env.cells scope.names [])) fp
  have pt := ht s3 (L2.upd H2 D (.dT [])) s3.heap.objs.size (cellsFrom (s3.heap.objs.size + 1) scope.names (cloFrom X.env.cells scope.names [])) fp
  have pk := hk s3 (L2.upd H2 D (.dT [])) s3.heap.objs.size (cellsFrom (s3.heap.objs.size + 1) scope.names (cloFrom X.env.cells scope.names [])) fp
  have pv := he s3 (L2.upd H2 D (.dT [])) s3.heap.objs.size (cellsFrom (s3.heap.objs.size + 1) scope.names (cloFrom X.env.cells scope.names [])) fp
  have none3 : ∀ b ∈ fp, L2.upd H2 D (.dT []) b = none := fun b hb => (f3 b hb).1.1
  obtain ⟨s4, h4⟩ : ∃ s4 : Shared, s4 = { s3 with heap := pushCells (s3.heap.push { cls := .type "dict", data := .dict #[] }) scope.names } := ⟨_, rfl⟩
  rw [← hce, ← h4] at B4
  rw [← hce] at pg pt pk pv
  have st4 : tn 0 s4.heap := T.keep _ _ _ st2 fun b _ o e => by
    rw [h4]
    exact pushCells_keeps _ _ _ _ (Heap.get?_push_of_some _ (up b o e))
  have same : ce.locals = s3.heap.objs.size := by rw [hce]; rfl
  rw [← h3]
  show codeAny _ _ (.compStart (.DictComp kx vx [⟨tg, iter, ifs, 0⟩] scope pos) 0 (.ref it) (.ref D) (compEnvC scope (cellsFrom (s3.heap.objs.size + 1) scope.names (cloFrom X.env.cells scope.names [])) s3.heap.objs.size X.env)) _ { s3 with heap := pushCells (s3.heap.push { cls := .type "dict", data := .dict #[] }) scope.names }
  rw [← hce, ← h4]
  clear hce h4
  obtain ⟨Z, hZ⟩ : ∃ Z : Cx, Z = X.blk s3 (L2.upd H2 D (.dT [])) scope ce fp := ⟨_, rfl⟩
  rw [← hZ] at B4 pg pt pk pv
  have stay : ∀ {τ : L2.St} {K : Hp} {s' : Shared}, Inv Z [] τ K s' → (∀ b ∈ fp, K b = none) → ∀ b ∈ fp, FpOk Z [] K b := by
    intro τ K s' J' e b hb
    subst hZ
    exact ⟨e b hb, (J'.ok.exf b hb).1, J'.ok.exfs b hb, Or.inl hb, fun x c q => (J'.ok.exf b hb).2 x c q, fun p hp => absurd (show p ∈ ([] : List (Addr × Obj)) ++ [] from hp) (by simp)⟩
  refine (fun loop => codeAny_compStart_dict loop (T.self X.A 0 _ _ _ st4 loop)) ?_
  refine compLoop_anyD (fun n s' => ∃ i K, Inv Z [] (wipe σ (own.map (·.2))) K s' ∧ tn i s'.heap ∧ (∀ b ∈ fp, K b = none) ∧ W i n K) ?_ m0 ⟨0, _, B4, st4, none3, w0⟩
  rintro n s5 ⟨i, K5, I5, st5, e5, w5⟩
  subst hZ
  cases turn i n K5 w5 with
  | inl q =>
    obtain ⟨stop, qq⟩ := q
    refine thnF (T.done (X.blk s3 (L2.upd H2 D (.dT [])) scope ce fp) rfl rfl rfl hc i [] s5 _ K5 (fun _ _ => False) I5 (stay I5 e5) st5 stop) fun r s6 ⟨hr, I6⟩ => ?_
    subst hr
    have I7 : Inv X pins σ K5 s6 := I3.call' (ch := fp) I6.os I6.base I6.hok I6.bare fun b hb => let z := (f3 b hb).1.2; ⟨z.2.2.1, z.1, z.2.2.2.1, z.2.2.2.2⟩
    have free : K5 ce.locals = none := I6.free
    rw [same] at free
    obtain ⟨m, ns, _⟩ := I6.loc
    have ns : s6.heap.Ns ce.locals m := ns
    rw [same] at ns
    exact last D s3.heap.objs.size s6 m K5 I7 qq ns (I3.fpOk (Nat.le_refl _) free)
  | inr q =>
    obtain ⟨go, Nx, next, step⟩ := q
    refine thnF (T.item (X.blk s3 (L2.upd H2 D (.dT [])) scope ce fp) rfl rfl rfl hc i [] s5 _ K5 (fun _ _ => False) I5 (stay I5 e5) st5 go) fun r s6 ⟨u, hr, h6⟩ => ?_
    subst hr
    refine thnF h6 fun _ s7 ⟨x, K7, I7, r7, y7, st7, e7⟩ => ?_
    have I7p := I7.pinned (stay I7 e7) (T.obj _ _ st7)
    refine thnF (pg.run _ s7 _ K7 x u _ I7p r7 (step x K7 y7)) fun _ s8 ⟨σ8, K8, I8, w8, q8⟩ => thnF (pt.run _ s8 σ8 K8 _ I8 q8) fun b s9 ⟨K9, I9, q9⟩ => ?_
    have close : ∀ {s' : Shared} {K' : Hp}, Inv (X.blk s3 (L2.upd H2 D (.dT [])) scope ce fp) ([] ++ pinsAt fp s7.heap) σ8 K' s' → Nx K' → ∃ m, m < n ∧ ∃ i K, Inv (X.blk s3 (L2.upd H2 D (.dT [])) scope ce fp) [] (wipe σ (own.map (·.2))) K s' ∧ tn i s'.heap ∧ (∀ b ∈ fp, K b = none) ∧ W i m K := by
      intro s' K' I' nx
      obtain ⟨m', lt, w'⟩ := next K' nx
      have pinned : ∀ b ∈ fp, ∀ o, s7.heap.get? b = some o → s'.heap.get? b = some o ∧ K' b = none := fun b hb o e => by
        have z := I'.pin (b, o) (List.mem_append_right _ (List.mem_append_right _ (mem_pinsAt hb e)))
        exact ⟨z.1, z.2.1⟩
      refine ⟨m', lt, i + 1, K', I'.unpinned.weak (by rw [← w8, wipe_length]) (fun j v e => ?_), T.keep _ _ _ st7 fun b hb o e => (pinned b hb o e).1, fun b hb => ?_, w'⟩
      · rw [← w8] at e
        exact (wipe_some e).1
      · obtain ⟨o, e, _⟩ := T.obj _ _ st7 b hb
        exact (pinned b hb o e).2
    cases b with
    | false =>
      rw [if_neg Bool.false_ne_true] at q9 ⊢
      exact close I9 q9
    | true =>
      rw [if_pos rfl] at q9 ⊢
      refine thnF (pk.run _ s9 σ8 K9 _ I9 q9) fun z s10 ⟨yk, K10, I10, r10, q10⟩ => thnF (pv.run _ s10 σ8 K10 _ I10 q10) fun z2 s11 ⟨yv, K11, I11, r11, K12, put, nx⟩ => ?_
      exact dictSet_put (X := X.blk s3 (L2.upd H2 D (.dT [])) scope ce fp) hu I11 put r10 r11 fun s12 I12 => close I12 nx
theorem pe_dcT {kx vx tg iter : Expr} {ifs : List Expr} {scope : Scope} {own : List (Str × Nat)} {pos : Pos} {wi : TI} {g : TG} {tt : L2.TT} {tk tv : TE} (hu : X.A.units + 1 < cLine) (hc : X.calm = true) (hN : X.N.Nodup) (hi : PI X tg iter wi) (ok : BlkOk X.N X.env.scope scope own)
    (hg : ∀ (s : Shared) (H : Hp) (C : Addr) (cl : List (Str × Addr)) (fp : List Addr), PG (X.blk s H scope (compEnvC scope cl C X.env) fp) tg g) (ht : ∀ (s : Shared) (H : Hp) (C : Addr) (cl : List (Str × Addr)) (fp : List Addr), PTs (X.blk s H scope (compEnvC scope cl C X.env) fp) ifs tt)
    (hk : ∀ (s : Shared) (H : Hp) (C : Addr) (cl : List (Str × Addr)) (fp : List Addr), PE (X.blk s H scope (compEnvC scope cl C X.env) fp) kx tk) (he : ∀ (s : Shared) (H : Hp) (C : Addr) (cl : List (Str × Addr)) (fp : List Addr), PE (X.blk s H scope (compEnvC scope cl C X.env) fp) vx tv) (hs : ∀ x, foldedSetIterable iter X.env x = pure x := by intro _; rfl) :
    PE X (.DictComp kx vx [⟨tg, iter, ifs, 0⟩] scope pos) (tDcT wi g tt tk tv (own.map (·.2))) := by
  refine ⟨fun pins s σ H Q I h => ?_⟩
  rw [arm_eval_DictComp]
  refine dcT_core hu hc hN hi ok hg ht hk he hs I h fun D C s' m K I' q ns f => ?_
  obtain ⟨g0, g1, g2, g3, g4, g5⟩ := f
  exact ⟨m, ns, fun h'' sb => ⟨.ref D, K, I'.turned (t' := s'.toks) (fun b o hb e => (sb.2 b hb).trans e) g0 g1 g3 g4 g5, rfl, q⟩⟩
/-- name = {..} on one line, the name a local -/
theorem ps_setDcT {i : Nat} {y : Str} {py : Pos} {kx vx tg iter : Expr} {ifs : List Expr} {scope : Scope} {own : List (Str × Nat)} {pos spos : Pos} {wi : TI} {g : TG} {tt : L2.TT} {tk tv : TE} (hu : X.A.units + 1 < cLine) (hc : X.calm = true) (hN : X.N.Nodup) (hy : X.N[i]? = some y) (hl : X.env.scope.names.lookup y = some .local)
    (sw : swapsWith (.DictComp kx vx [⟨tg, iter, ifs, 0⟩] scope pos) (some (.Name y py)) spos.line X.env = pure true) (hi : PI X tg iter wi) (ok : BlkOk X.N X.env.scope scope own)
    (hg : ∀ (s : Shared) (H : Hp) (C : Addr) (cl : List (Str × Addr)) (fp : List Addr), PG (X.blk s H scope (compEnvC scope cl C X.env) fp) tg g) (ht : ∀ (s : Shared) (H : Hp) (C : Addr) (cl : List (Str × Addr)) (fp : List Addr), PTs (X.blk s H scope (compEnvC scope cl C X.env) fp) ifs tt)
    (hk : ∀ (s : Shared) (H : Hp) (C : Addr) (cl : List (Str × Addr)) (fp : List Addr), PE (X.blk s H scope (compEnvC scope cl C X.env) fp) kx tk) (he : ∀ (s : Shared) (H : Hp) (C : Addr) (cl : List (Str × Addr)) (fp : List Addr), PE (X.blk s H scope (compEnvC scope cl C X.env) fp) vx tv) (hs : ∀ x, foldedSetIterable iter X.env x = pure x := by intro _; rfl) :
    PS X (.Assign [.Name y py] (.DictComp kx vx [⟨tg, iter, ifs, 0⟩] scope pos) spos) (tAsg (tDcT wi g tt tk tv (own.map (·.2))) (gName i)) := by
  refine ⟨fun pins s σ H D I h => ?_⟩
  rw [exec_Assign_Name_used _ _ _ _ sw]
  refine wpAny_bind (wpAny_standAt (wpAny_bind ?_))
  show wpAny _ X.A (do let _ ← comprehension (.DictComp kx vx [⟨tg, iter, ifs, 0⟩] scope pos) scope X.env (firstIterPos [⟨tg, iter, ifs, 0⟩] pos) newDict false (eval iter X.env) (some (assign (.Name y py) X.env))) _ _ s
  have h : tDcT wi g tt tk tv (own.map (·.2)) σ H (fun x K => gName i x σ K D.nx) := h
  refine wpAny_bind (thn (dcT_core (Qf := fun _ s' => SP X pins D .next s') hu hc hN hi ok hg ht hk he hs I h fun L C s' m K I' q ns f => ?_) fun _ s' z => wpAny_pure (wpAny_pure z))
  show wpAny _ _ (assign (.Name y py) X.env (.ref L)) _ _ _
  refine wpAny_assign_Name (store_ok2 (v := V.ref L) I' hN hy (.inl hl) rfl (fun s2 I2 ⟨a, sb, at_⟩ => ?_) (.inr hl))
  obtain ⟨g0, g1, g2, g3, g4, g5⟩ := f
  have ne : C ≠ a := by
    rcases at_ with z | z
    · rw [z]
      exact g1
    · exact fun e => g4 y a z e.symm
  exact ⟨m, ns.sameBut sb ne, fun h3 sb3 => ⟨_, K, I2.turned (t' := s2.toks) (fun b o hb e => (sb3.2 b hb).trans e) g0 g1 g3 g4 g5, q⟩⟩
theorem sw_trueD {kx vx : Expr} {gs : List Comprehension} {scope : Scope} {pos py : Pos} {y : Str} {l : Nat} {env : Env} (fn : env.scope.kind = .function) (loc : env.scope.names.lookup y = some .local) (line : (py.line == pos.line) = true)
    (clear : (scope.names.any fun (n, k) => n == y && (k == .local || k == .cell)) = false) : swapsWith (.DictComp kx vx gs scope pos) (some (.Name y py)) l env = pure true := by
  have k1 : env.kindOf y = some .local := loc
  have k2 : env.blockKind = .function := by
    unfold Env.blockKind
    rw [fn]
    rfl
  unfold swapsWith
  simp only [k2, k1, clear, Expr.pos, line]
  rfl
end
/-! ### max(xs, default=d) of ints -/
def optV : Option Int → V
  | none => .non
  | some m => .int m
def MaxOf (r : Option Int) (P : Int → Prop) : Prop := match r with
  | none => ∀ n, ¬ P n
  | some m => P m ∧ ∀ n, P n → n ≤ m
theorem MaxOf.iff {r : Option Int} {P P' : Int → Prop} (h : MaxOf r P) (e : ∀ n, P n ↔ P' n) : MaxOf r P' := by
  cases r with
  | none => exact fun n z => h n ((e n).mpr z)
  | some m => exact ⟨(e m).mp h.1, fun n z => h.2 n ((e n).mpr z)⟩
theorem MaxOf.one {r r' : Option Int} {P : Int → Prop} (h : MaxOf r P) (h' : MaxOf r' P) : r = r' := by
  cases r with
  | none =>
    cases r' with
    | none => rfl
    | some m => exact absurd h'.1 (h m)
  | some m =>
    cases r' with
    | none => exact absurd h.1 (h' m)
    | some m' =>
      have := h.2 m' h'.1
      have := h'.2 m h.1
      have e : m = m' := by omega
      rw [e]
theorem foldl_max : ∀ (ns : List Int) (n : Int), (ns.foldl max n ∈ n :: ns) ∧ ∀ y ∈ n :: ns, y ≤ ns.foldl max n
  | [], n => ⟨List.mem_cons_self .., fun y hy => by rw [List.mem_singleton.mp hy]; exact Int.le_refl _⟩
  | k :: r, n => by
    obtain ⟨h1, h2⟩ := foldl_max r (max n k)
    have e : (k :: r).foldl max n = r.foldl max (max n k) := rfl
    rw [e]
    have hm := h2 (max n k) (List.mem_cons_self ..)
    refine ⟨?_, fun y hy => ?_⟩
    · rcases List.mem_cons.mp h1 with z | z
      · rw [z]
        by_cases c : n ≤ k
        · rw [Int.max_eq_right c]
          simp
        · rw [Int.max_eq_left (by omega)]
          simp
      · exact List.mem_cons_of_mem _ (List.mem_cons_of_mem _ z)
    · rcases List.mem_cons.mp hy with z | z
      · rw [z]
        have := Int.le_max_left n k
        omega
      · rcases List.mem_cons.mp z with z | z
        · rw [z]
          have := Int.le_max_right n k
          omega
        · exact h2 y (List.mem_cons_of_mem _ z)
theorem alike_all_ints (ns : List Int) : ∀ d ∈ ns.map PyData.int, ∀ d' ∈ ns.map PyData.int, PySem.W.alike d d' = true := fun d hd d' hd' => by
  obtain ⟨x, _, rfl⟩ := List.mem_map.mp hd
  obtain ⟨y, _, rfl⟩ := List.mem_map.mp hd'
  rfl
def rMaxDf (K : PySem.W.Frag) : List V → List V → Hp → VK → Prop := fun vs zs H Q => ∃ (a : Addr) (ns : List Int), vs = [.ref a] ∧ zs = [.non] ∧ SqL K H a (ns.map V.int) ∧ ∀ r, MaxOf r (fun n => n ∈ ns) → Q (optV r) H
theorem cr_maxDf {X : Cx} (hc : X.calm = true) (hu : X.A.units + 64 < cLine) : CallRK X (.builtin "max") [Str.ofString "default"] (rMaxDf X.K) := by
  intro pins s σ H xs zs us ws Q I rx rz h
  obtain ⟨a, ns, rfl, rfl, hs, q⟩ := h
  obtain ⟨as, rd⟩ := Dp.reads I (.list (ns.map PyData.int)) (.ref a) (.ref a) (.lst hs (dp_ints _)) rfl
  rw [Vals.ref1 rx]
  obtain ⟨w, rfl, rw1⟩ := vals1 rz
  obtain rfl : w = Value.none := rw1
  obtain ⟨its, rv, hl, hz⟩ := I.list hs
  cases rd with
  | @list l o ys n _ _ h1 h2 h3 h4 =>
    have hy : s.heap.IsList a ys := ⟨o, h1, h2, n, h3⟩
    refine PySem.W.max_list_default (I.ok.hd hc) hy h4 ⟨alike_all_ints ns, fun x hx z => by
      obtain ⟨y, _, rfl⟩ := List.mem_map.mp hx
      cases z⟩ ?_ (fun e h' tk k => ?_) (fun y r i v h' tk bs e hv rd2 k => ?_)
    · rw [PySem.W.ke_depthAll]
      omega
    · have e : ns = [] := List.map_eq_nil_iff.mp e
      exact ⟨.non, H, I.kept k, rfl, q none fun n z => by rw [e] at z; cases z⟩
    · cases ns with
      | nil => cases e
      | cons n r =>
        have e1 := (List.cons.inj e).1
        have e2 := (List.cons.inj e).2
        rw [← e1, ← e2, PySem.W.maxD_ints] at rd2
        obtain ⟨m1, m2⟩ := foldl_max r n
        cases rd2 with
        | int _ t => exact ⟨.int _, H, I.kept k, ⟨t, rfl⟩, q (some _) ⟨m1, m2⟩⟩
/-! ### min(xs), min(xs, default=None) -/
section
open PySem PySem.Spec
theorem minD_head {x : PyData} : ∀ {xs : List PyData}, (∀ y ∈ xs, PySem.W.dataLt y x = false) → PySem.W.minD x xs = x
  | [], _ => rfl
  | y :: r, h => by
    have e : PySem.W.minD x (y :: r) = PySem.W.minD (if PySem.W.dataLt y x = true then y else x) r := rfl
    rw [e, h y (List.mem_cons_self ..), if_neg Bool.false_ne_true]
    exact minD_head fun z hz => h z (List.mem_cons_of_mem _ hz)
theorem dpAll_of {K : PySem.W.Frag} {H : Hp} : ∀ {bs : List (V × PyData)}, (∀ b ∈ bs, Dp K H b.1 b.2) → DpAll K H (bs.map Prod.fst) (bs.map Prod.snd)
  | [], _ => .nil
  | b :: r, h => .cons (h b (List.mem_cons_self ..)) (dpAll_of fun x hx => h x (List.mem_cons_of_mem _ hx))
theorem vals_at : ∀ {vs : List V} {us : List Value} {i : Nat} {u : Value}, Vals vs us → us[i]? = some u → ∃ v, vs[i]? = some v ∧ RelV v u
  | _, _, _, _, .nil, h => by cases h
  | _, _, 0, _, .cons r _, h => by cases h; exact ⟨_, rfl, r⟩
  | _, _, i + 1, _, .cons _ r, h => by obtain ⟨v, a, b⟩ := vals_at (i := i) r h; exact ⟨v, a, b⟩
/-- the first is a least one -/
def rMinF (K : PySem.W.Frag) : List V → Hp → VK → Prop := fun vs H Q => ∃ (a : Addr) (b0 : V × PyData) (bs : List (V × PyData)), vs = [V.ref a] ∧ SqL K H a ((b0 :: bs).map Prod.fst) ∧ (∀ b ∈ b0 :: bs, Dp K H b.1 b.2) ∧ PySem.W.AlikeAll ((b0 :: bs).map Prod.snd) ∧ (∀ b ∈ b0 :: bs, b.2.depth ≤ 50) ∧
  (∀ b ∈ bs, PySem.W.dataLt b.2 b0.2 = false) ∧ ∀ b ∈ b0 :: bs, b.2 = b0.2 → Q b.1 H
theorem depthAll_le {k : Nat} : ∀ {ds : List PyData}, (∀ d ∈ ds, d.depth ≤ k) → PyData.depthAll ds ≤ k
  | [], _ => by simp [PyData.depthAll]
  | d :: r, h => by
    have := h d (List.mem_cons_self ..)
    have := depthAll_le fun x hx => h x (List.mem_cons_of_mem _ hx)
    simp only [PyData.depthAll]
    omega
theorem cr_minF {X : Cx} (hc : X.calm = true) (hu : X.A.units + 64 < cLine) : CallR X (.builtin "min") (rMinF X.K) := by
  intro pins s σ H vs us Q I r h
  obtain ⟨a, b0, bs, rfl, hs, hd, al, dp, le, q⟩ := h
  rw [Vals.ref1 r]
  obtain ⟨its, rv, hl, hz⟩ := I.list hs
  obtain ⟨as, rd⟩ := Dp.readsAll I _ _ its (dpAll_of hd) rv
  obtain ⟨ws, rw1, isl⟩ : ∃ ws : Array Value, ws.toList = its ∧ s.heap.IsList a ws := by
    obtain ⟨o, h1, h2, n, h3⟩ := hl.isList
    exact ⟨_, by simp, ⟨o, h1, h2, n, h3⟩⟩
  have dl : PyData.depthAll ((b0 :: bs).map Prod.snd) ≤ 50 := depthAll_le fun d hd' => by
    obtain ⟨b, hb, rfl⟩ := List.mem_map.mp hd'
    exact dp b hb
  rw [← rw1] at rd
  refine PySem.W.min_list_data (I.ok.hd hc) isl rd al (by have e : PyData.depthAll (b0.2 :: bs.map Prod.snd) ≤ 50 := dl; omega) fun i v h' tk cs hi r' keep => ?_
  rw [minD_head fun y hy => by
    obtain ⟨b, hb, rfl⟩ := List.mem_map.mp hy
    exact le b hb] at r'
  obtain ⟨w, hw, rel⟩ := vals_at (i := i) rv (by rw [← rw1]; simpa using hi)
  rw [List.getElem?_map] at hw
  obtain ⟨b, hb, e⟩ := Option.map_eq_some_iff.mp hw
  have mem := List.mem_of_getElem? hb
  obtain ⟨ds, r2⟩ := Dp.reads I b.2 b.1 v (hd b mem) (e ▸ rel)
  have same : b.2 = b0.2 := (PyProof.Rows.reads_det (fun b o e _ => keep b o e) r2 r').1.symm
  exact ⟨b.1, H, I.kept keep, e ▸ rel, q b mem same⟩
def MinOf (r : Option Int) (P : Int → Prop) : Prop := match r with
  | none => ∀ n, ¬ P n
  | some m => P m ∧ ∀ n, P n → m ≤ n
theorem foldl_min : ∀ (ns : List Int) (n : Int), (ns.foldl min n ∈ n :: ns) ∧ ∀ y ∈ n :: ns, ns.foldl min n ≤ y
  | [], n => ⟨List.mem_cons_self .., fun y hy => by rw [List.mem_singleton.mp hy]; exact Int.le_refl _⟩
  | k :: r, n => by
    obtain ⟨h1, h2⟩ := foldl_min r (min n k)
    have e : (k :: r).foldl min n = r.foldl min (min n k) := rfl
    have hm := h2 (min n k) (List.mem_cons_self ..)
    have l1 := Int.min_le_left n k
    have l2 := Int.min_le_right n k
    rw [e]
    refine ⟨?_, fun y hy => ?_⟩
    · rcases List.mem_cons.mp h1 with z | z
      · rw [z]
        by_cases c : n ≤ k
        · rw [Int.min_eq_left c]
          exact List.mem_cons_self ..
        · rw [Int.min_eq_right (by omega)]
          exact List.mem_cons_of_mem _ (List.mem_cons_self ..)
      · exact List.mem_cons_of_mem _ (List.mem_cons_of_mem _ z)
    · rcases List.mem_cons.mp hy with z | z
      · omega
      · rcases List.mem_cons.mp z with z | z
        · omega
        · exact h2 y (List.mem_cons_of_mem _ z)
def rMinDf (K : PySem.W.Frag) : List V → List V → Hp → VK → Prop := fun vs zs H Q => ∃ (a : Addr) (ns : List Int), vs = [.ref a] ∧ zs = [.non] ∧ SqL K H a (ns.map V.int) ∧ ∀ r, MinOf r (fun n => n ∈ ns) → Q (optV r) H
theorem cr_minDf {X : Cx} (hc : X.calm = true) (hu : X.A.units + 64 < cLine) : CallRK X (.builtin "min") [Str.ofString "default"] (rMinDf X.K) := by
  intro pins s σ H xs zs us ws Q I rx rz h
  obtain ⟨a, ns, rfl, rfl, hs, q⟩ := h
  obtain ⟨as, rd⟩ := Dp.reads I (.list (ns.map PyData.int)) (.ref a) (.ref a) (.lst hs (dp_ints _)) rfl
  rw [Vals.ref1 rx]
  obtain ⟨w, rfl, rw1⟩ := vals1 rz
  obtain rfl : w = Value.none := rw1
  obtain ⟨its, rv, hl, hz⟩ := I.list hs
  cases rd with
  | @list l o ys n _ _ h1 h2 h3 h4 =>
    have isl : s.heap.IsList a ys := ⟨o, h1, h2, n, h3⟩
    refine PySem.W.min_list_default (I.ok.hd hc) isl h4 ⟨alike_all_ints ns, fun x hx z => ?_⟩ (by rw [PySem.W.ke_depthAll]; omega) (fun e h' tk k => ?_) (fun y r i v h' tk bs e hv rd2 k => ?_)
    · obtain ⟨y, _, rfl⟩ := List.mem_map.mp hx
      cases z
    · have e : ns = [] := List.map_eq_nil_iff.mp e
      exact ⟨.non, H, I.kept k, rfl, q none fun n z => by rw [e] at z; cases z⟩
    · cases ns with
      | nil => cases e
      | cons n r =>
        obtain ⟨e1, e2⟩ := List.cons.inj e
        rw [← e1, ← e2, PySem.W.minD_ints] at rd2
        obtain ⟨m1, m2⟩ := foldl_min r n
        cases rd2 with
        | int _ t => exact ⟨.int _, H, I.kept k, ⟨t, rfl⟩, q (some _) ⟨m1, m2⟩⟩
end
theorem pi_listK {X : Cx} {K : PySem.W.Frag} (hk : X.K = K) {e tg : Expr} {t : TE} (h : PE X e t) : PI X tg e (iList K t) := hk ▸ pi_list h
section
open PySem PySem.Calls PyProof.Rows PyProof.V PySem.Spec
variable {X : Cx}
/-- {k: v}, the key a tuple -/
def tD1T (tk tv : TE) : TE := fun σ H Q => ∀ D, H D = none → tk σ (L2.upd H D (.dT [])) fun y H1 => tv σ H1 fun z H2 => ∃ H3, DPut H2 D y z H3 ∧ Q (.ref D) H3
theorem pe_d1T {k v : Expr} {pos : Pos} {tk tv : TE} (hu : X.A.units + 1 < cLine) (hk : PE X k tk) (hv : PE X v tv) : PE X (.Dict [some k] [v] pos) (tD1T tk tv) := by
  refine ⟨fun pins s σ H Q I h => ?_⟩
  have I1 : Inv X pins σ (L2.upd H s.heap.objs.size (.dT [])) { s with heap := s.heap.push { cls := .type "dict", data := .dict #[] } } := I.laid (t' := s.toks) (fun _ _ q => Heap.get?_push_of_some _ q) (Nat.le_refl _) (dt_empty s.heap I.big)
  have g := h s.heap.objs.size (I.hok.fresh (Nat.le_refl _))
  have one : (pairTrees [some k] [v] X.env pos).length = 1 := pairTrees_length [some k] [v] X.env pos rfl rfl
  rw [arm_eval_Dict, zip_pairTrees [some k] [v] X.env pos rfl rfl, dictDisplay_pairs (pairTrees [some k] [v] X.env pos) (fun z => by rw [z] at one; cases one) (by rw [one]; decide)]
  refine wpAny_bind (wpAny_standAt (wpAny_bind ?_))
  unfold subDict
  refine wpAny_bind (wpAny_alloc (wpAny_bind (wpAny_holding ?_)))
  rw [if_pos (by rw [one]; decide)]
  refine wpAny_bind (thn (pairTrees_cons_walk (Q := fun vs s' => ∃ kv vv y z H2 H3, vs = [(kv, vv)] ∧ Inv X pins σ H2 s' ∧ RelV y kv ∧ RelV z vv ∧ DPut H2 s.heap.objs.size y z H3 ∧ Q (.ref s.heap.objs.size) H3) (thn (hk.run pins _ σ _ _ I1 g) fun kv s1 ⟨y, H1, I2, r1, g1⟩ => thn (hv.run pins s1 σ H1 _ I2 g1) fun vv s2 ⟨z, H2, I3, r2, H3, put, q⟩ => pairTrees_nil_walk ⟨kv, vv, y, z, H2, H3, rfl, I3, r1, r2, put, q⟩)) fun vs s3 h3 => ?_)
  obtain ⟨kv, vv, y, z, H2, H3, rfl, I3, r1, r2, put, q⟩ := h3
  refine wpAny_holding ?_
  rw [List.forIn_cons]
  refine wpAny_bind (wpAny_bind ?_)
  show wpAny _ X.A (dictSet s.heap.objs.size kv vv >>= fun _ => pure (ForInStep.yield PUnit.unit)) _ _ _
  refine wpAny_bind (dictSet_put hu I3 put r1 r2 fun s4 I4 => wpAny_pure ?_)
  exact wpAny_pure (wpAny_pure (wpAny_pure (wpAny_pure ⟨.ref s.heap.objs.size, H3, I4, rfl, q⟩)))
end
/-! ### ways along what is read -/
section
variable {α : Type}
/-- at most n steps lead from x to t -/
def Way (g : α → List α) (t : α) : Nat → α → Prop
  | 0, x => x = t
  | n + 1, x => Way g t n x ∨ ∃ y ∈ g x, Way g t n y
def Lev (g : α → List α) (t : α) (n : Nat) (x : α) : Prop := Way g t n x ∧ ∀ m, m < n → ¬ Way g t m x
variable {g : α → List α} {t : α}
theorem Way.up {x : α} : ∀ {n m : Nat}, m ≤ n → Way g t m x → Way g t n x
  | 0, m, h, w => by
    obtain rfl : m = 0 := Nat.le_zero.mp h
    exact w
  | n + 1, m, h, w => by
    rcases Nat.lt_or_ge n m with q | q
    · obtain rfl : m = n + 1 := by omega
      exact w
    · exact Or.inl (Way.up q w)
theorem Lev.one {n m : Nat} {x : α} (h : Lev g t n x) (k : Lev g t m x) : n = m := by
  rcases Nat.lt_trichotomy n m with q | q | q
  · exact absurd h.1 (k.2 n q)
  · exact q
  · exact absurd k.1 (h.2 m q)
theorem lev_zero : Lev g t 0 t := ⟨rfl, fun m h => absurd h (Nat.not_lt_zero m)⟩
theorem lev_0 {x : α} (h : Lev g t 0 x) : x = t := h.1
theorem lev_succ {n : Nat} {x : α} : Lev g t (n + 1) x ↔ ¬ Way g t n x ∧ ∃ y ∈ g x, Lev g t n y := by
  constructor
  · rintro ⟨w, min⟩
    have no := min n (Nat.lt_succ_self n)
    refine ⟨no, ?_⟩
    rcases w with w | ⟨y, hy, w⟩
    · exact absurd w no
    · exact ⟨y, hy, w, fun m lt wm => no (Way.up (n := n) (m := m + 1) lt (Or.inr ⟨y, hy, wm⟩))⟩
  · rintro ⟨no, y, hy, w, _⟩
    exact ⟨Or.inr ⟨y, hy, w⟩, fun m lt wm => no (Way.up (by omega) wm)⟩
theorem way_lev {x : α} : ∀ {n : Nat}, Way g t n x → ∃ m, m ≤ n ∧ Lev g t m x
  | 0, h => ⟨0, Nat.le_refl 0, h, fun m h => absurd h (Nat.not_lt_zero m)⟩
  | n + 1, h => by
    by_cases q : Way g t n x
    · obtain ⟨m, l, e⟩ := way_lev q
      exact ⟨m, Nat.le_succ_of_le l, e⟩
    · refine ⟨n + 1, Nat.le_refl _, h, fun m lt w => q (Way.up (by omega) w)⟩
theorem lev_stop {n : Nat} (h : ∀ x, ¬ Lev g t (n + 1) x) : ∀ {m : Nat} {x : α}, Lev g t m x → m ≤ n
  | 0, _, _ => Nat.zero_le n
  | m + 1, x, e => by
    obtain ⟨_, y, _, ey⟩ := lev_succ.mp e
    have l := lev_stop h ey
    rcases Nat.lt_or_ge m n with q | q
    · exact q
    · obtain rfl : m = n := Nat.le_antisymm l q
      exact absurd e (h x)
theorem lev_many [DecidableEq α] : ∀ {n : Nat} {D : List α}, (∀ k, 1 ≤ k → k ≤ n → ∃ x ∈ D, Lev g t k x) → n ≤ D.length
  | 0, D, _ => Nat.zero_le _
  | n + 1, D, h => by
    obtain ⟨x, hx, ex⟩ := h (n + 1) (by omega) (Nat.le_refl _)
    have l := lev_many (n := n) (D := D.erase x) fun k h1 h2 => by
      obtain ⟨y, hy, ey⟩ := h k h1 (by omega)
      refine ⟨y, (List.mem_erase_of_ne fun z => ?_).mpr hy, ey⟩
      rw [z] at ey
      have := ey.one ex
      omega
    rw [List.length_erase_of_mem hx] at l
    have := List.length_pos_of_mem hx
    omega
/-! #### over the readers, breadth first -/
structure Bfs (g : α → List α) (t : α) (i : Nat) (st : List (α × Nat)) : Prop where
  nd : (st.map Prod.fst).Nodup
  goal : (t, 0) ∈ st
  way : ∀ e ∈ st, Way g t e.2 e.1
  mono : st.Pairwise fun a b => a.2 ≤ b.2
  done : ∀ j e, j < i → st[j]? = some e → ∀ x, e.1 ∈ g x → ∃ k, (x, k) ∈ st ∧ k ≤ e.2 + 1
  top : ∀ c, st[i]? = some c → ∀ e ∈ st, e.2 ≤ c.2 + 1
theorem Bfs.start : Bfs g t 0 [(t, 0)] where
  nd := by simp
  goal := List.mem_singleton.mpr rfl
  way := fun e he => by
    rw [List.mem_singleton.mp he]
    rfl
  mono := List.pairwise_singleton _ _
  done := fun j e h => absurd h (Nat.not_lt_zero j)
  top := fun c _ e he => by
    rw [List.mem_singleton.mp he]
    exact Nat.zero_le _
theorem Bfs.add {i : Nat} {st : List (α × Nat)} (h : Bfs g t i st) {c : α × Nat} (hc : st[i]? = some c) {x : α} (hx : c.1 ∈ g x) (new : x ∉ st.map Prod.fst) : Bfs g t i (st ++ [(x, c.2 + 1)]) := by
  have li : i < st.length := (List.getElem?_eq_some_iff.mp hc).1
  have mem : c ∈ st := List.mem_of_getElem? hc
  refine ⟨?_, List.mem_append_left _ h.goal, fun e he => ?_, ?_, fun j e hj he y hy => ?_, fun c' hc' e he => ?_⟩
  · rw [List.map_append, List.nodup_append]
    refine ⟨h.nd, by simp, fun a ha b hb z => ?_⟩
    have hb : b = x := by simpa using hb
    rw [z, hb] at ha
    exact new ha
  · rcases List.mem_append.mp he with he | he
    · exact h.way e he
    · rw [List.mem_singleton.mp he]
      exact Or.inr ⟨c.1, hx, h.way c mem⟩
  · rw [List.pairwise_append]
    refine ⟨h.mono, List.pairwise_singleton _ _, fun a ha b hb => ?_⟩
    rw [List.mem_singleton.mp hb]
    exact h.top c hc a ha
  · rw [List.getElem?_append_left (by omega)] at he
    obtain ⟨k, hk, l⟩ := h.done j e hj he y hy
    exact ⟨k, List.mem_append_left _ hk, l⟩
  · rw [List.getElem?_append_left li, hc] at hc'
    obtain rfl := Option.some.inj hc'
    rcases List.mem_append.mp he with he | he
    · exact h.top c hc e he
    · rw [List.mem_singleton.mp he]
      exact Nat.le_refl _
theorem Bfs.next {i : Nat} {st : List (α × Nat)} (h : Bfs g t i st) {c : α × Nat} (hc : st[i]? = some c) (all : ∀ x, c.1 ∈ g x → x ∈ st.map Prod.fst) : Bfs g t (i + 1) st := by
  refine ⟨h.nd, h.goal, h.way, h.mono, fun j e hj he y hy => ?_, fun c' hc' e he => ?_⟩
  · by_cases q : j < i
    · exact h.done j e q he y hy
    · obtain rfl : j = i := by omega
      rw [hc] at he
      obtain rfl := Option.some.inj he
      obtain ⟨p, hp, rfl⟩ := List.mem_map.mp (all y hy)
      exact ⟨p.2, hp, h.top c hc p hp⟩
  · have a := h.top c hc e he
    have le : c.2 ≤ c'.2 := by
      obtain ⟨l1, e1⟩ := List.getElem?_eq_some_iff.mp hc
      obtain ⟨l2, e2⟩ := List.getElem?_eq_some_iff.mp hc'
      have := List.pairwise_iff_getElem.mp h.mono i (i + 1) l1 l2 (Nat.lt_succ_self i)
      rwa [e1, e2] at this
    omega
theorem Bfs.least {st : List (α × Nat)} (h : Bfs g t st.length st) : ∀ {n : Nat} {x : α}, Lev g t n x → (x, n) ∈ st
  | 0, x, e => by
    rw [lev_0 e]
    exact h.goal
  | n + 1, x, e => by
    obtain ⟨_, y, hy, ey⟩ := lev_succ.mp e
    have my := Bfs.least h ey
    obtain ⟨j, lj, ej⟩ := List.getElem_of_mem my
    obtain ⟨k, hk, le⟩ := h.done j (y, n) lj (by rw [List.getElem?_eq_getElem lj, ej]) x hy
    have w := h.way _ hk
    have : k = n + 1 := by
      rcases Nat.lt_or_ge k (n + 1) with q | q
      · exact absurd w (e.2 k q)
      · exact Nat.le_antisymm le q
    rwa [this] at hk
theorem pair_one {β : Type} {st : List (α × β)} (nd : (st.map Prod.fst).Nodup) {x : α} {a b : β} (ha : (x, a) ∈ st) (hb : (x, b) ∈ st) : a = b := by
  induction st with
  | nil => cases ha
  | cons p r ih =>
    obtain ⟨n1, n2⟩ := List.nodup_cons.mp nd
    rcases List.mem_cons.mp ha with h1 | h1 <;> rcases List.mem_cons.mp hb with h2 | h2
    · rw [← h2] at h1
      exact (Prod.mk.inj h1).2
    · exact absurd (List.mem_map.mpr ⟨_, h2, by rw [← h1]⟩) n1
    · exact absurd (List.mem_map.mpr ⟨_, h1, by rw [← h2]⟩) n1
    · exact ih n2 h1 h2
theorem Bfs.end {st : List (α × Nat)} (h : Bfs g t st.length st) {x : α} {n : Nat} : (x, n) ∈ st ↔ Lev g t n x := by
  refine ⟨fun m => ?_, h.least⟩
  obtain ⟨k, _, e⟩ := way_lev (h.way _ m)
  rwa [pair_one h.nd m (h.least e)]
end
/-! ### what is reached over one or more steps -/
section
variable {α : Type} {g : α → List α}
inductive Lead (g : α → List α) : α → α → Prop
  | one {x y : α} : y ∈ g x → Lead g x y
  | more {x y z : α} : Lead g x y → z ∈ g y → Lead g x z
theorem Lead.trans {x y z : α} (a : Lead g x y) (b : Lead g y z) : Lead g x z := by
  induction b with
  | one h => exact a.more h
  | more _ h ih => exact ih.more h
theorem lead_first {x z : α} (h : Lead g x z) : ∃ y, y ∈ g x := by
  induction h with
  | one h => exact ⟨_, h⟩
  | more _ _ ih => exact ih
theorem lead_way {x t : α} : Lead g x t ↔ ∃ y ∈ g x, ∃ n, Way g t n y := by
  constructor
  · intro h
    have go : ∀ {x y : α}, Lead g x y → ∀ {n : Nat}, Way g t n y → ∃ w ∈ g x, ∃ n, Way g t n w := by
      intro x y h
      induction h with
      | one h => exact fun {n} w => ⟨_, h, n, w⟩
      | more _ hz ih => exact fun {n} w => ih (n := n + 1) (Or.inr ⟨_, hz, w⟩)
    exact go h (n := 0) rfl
  · rintro ⟨y, hy, n, w⟩
    have go : ∀ {n : Nat} {y : α}, Way g t n y → ∀ {x : α}, y ∈ g x → Lead g x t := by
      intro n
      induction n with
      | zero => exact fun {y} w {x} hy => Lead.one (by rw [← show y = t from w]; exact hy)
      | succ n ih =>
        intro y w x hy
        rcases w with w | ⟨z, hz, w⟩
        · exact ih w hy
        · exact (Lead.one hy).trans (ih w hz)
    exact go w hy
theorem lead_back {g' : α → List α} (h : ∀ x y, x ∈ g' y ↔ y ∈ g x) {x y : α} : Lead g' y x ↔ Lead g x y := by
  have go : ∀ {f f' : α → List α}, (∀ x y, x ∈ f' y ↔ y ∈ f x) → ∀ {x y : α}, Lead f' y x → Lead f x y := fun {f f'} h {x y} l => by
    induction l with
    | one m => exact Lead.one ((h _ _).mp m)
    | more _ m ih => exact (Lead.one ((h _ _).mp m)).trans ih
  exact ⟨go h, go fun a b => (h b a).symm⟩
/-! #### the search: F found, S waiting -/
structure Dfs (g : α → List α) (s : α) (F S : List α) : Prop where
  nd : F.Nodup
  led : ∀ y ∈ F, Lead g s y
  wait : ∀ y ∈ S, y = s ∨ y ∈ F
  done : ∀ y, y = s ∨ y ∈ F → y ∈ S ∨ ∀ z ∈ g y, z ∈ F
theorem Dfs.start {s : α} : Dfs g s [] [s] where
  nd := List.nodup_nil
  led := fun _ h => nomatch h
  wait := fun y h => Or.inl (List.mem_singleton.mp h)
  done := fun y h => by
    rcases h with h | h
    · exact Or.inl (List.mem_singleton.mpr h)
    · cases h
/-- amid the turn of c, whose first ones have been looked at -/
structure Dfi (g : α → List α) (s c : α) (L F S : List α) : Prop where
  nd : F.Nodup
  led : ∀ y ∈ F, Lead g s y
  wait : ∀ y ∈ S, y = s ∨ y ∈ F
  done : ∀ y, y = s ∨ y ∈ F → y ∈ S ∨ y = c ∨ ∀ z ∈ g y, z ∈ F
  first : ∀ y ∈ L, y ∈ F
  me : c = s ∨ c ∈ F
theorem Dfs.pop {s c : α} {F S : List α} (h : Dfs g s F (S ++ [c])) : Dfi g s c [] F S where
  nd := h.nd
  led := h.led
  wait := fun y hy => h.wait y (List.mem_append_left _ hy)
  done := fun y hy => by
    rcases h.done y hy with q | q
    · rcases List.mem_append.mp q with q | q
      · exact Or.inl q
      · exact Or.inr (Or.inl (List.mem_singleton.mp q))
    · exact Or.inr (Or.inr q)
  first := fun _ h => nomatch h
  me := h.wait c (by simp)
theorem Dfi.skip {s c y : α} {L F S : List α} (h : Dfi g s c L F S) (hy : y ∈ F) : Dfi g s c (L ++ [y]) F S :=
  ⟨h.nd, h.led, h.wait, h.done, fun z hz => by
    rcases List.mem_append.mp hz with q | q
    · exact h.first z q
    · rw [List.mem_singleton.mp q]
      exact hy, h.me⟩
theorem Dfi.add {s c y : α} {L F S : List α} (h : Dfi g s c L F S) (hc : y ∈ g c) (new : y ∉ F) : Dfi g s c (L ++ [y]) (F ++ [y]) (S ++ [y]) := by
  have led : Lead g s y := by
    rcases h.me with e | e
    · rw [← e]
      exact Lead.one hc
    · exact (h.led c e).more hc
  refine ⟨?_, fun z hz => ?_, fun z hz => ?_, fun z hz => ?_, fun z hz => ?_, ?_⟩
  · rw [List.nodup_append]
    refine ⟨h.nd, by simp, fun a ha b hb e => ?_⟩
    rw [e, List.mem_singleton.mp hb] at ha
    exact new ha
  · rcases List.mem_append.mp hz with q | q
    · exact h.led z q
    · rw [List.mem_singleton.mp q]
      exact led
  · rcases List.mem_append.mp hz with q | q
    · exact (h.wait z q).imp id (List.mem_append_left _)
    · exact Or.inr (List.mem_append_right _ q)
  · have old : z = s ∨ z ∈ F → z ∈ S ++ [y] ∨ z = c ∨ ∀ w ∈ g z, w ∈ F ++ [y] := fun q => by
      rcases h.done z q with q | q | q
      · exact Or.inl (List.mem_append_left _ q)
      · exact Or.inr (Or.inl q)
      · exact Or.inr (Or.inr fun w hw => List.mem_append_left _ (q w hw))
    rcases hz with q | q
    · exact old (Or.inl q)
    · rcases List.mem_append.mp q with q | q
      · exact old (Or.inr q)
      · exact Or.inl (List.mem_append_right _ q)
  · rcases List.mem_append.mp hz with q | q
    · exact List.mem_append_left _ (h.first z q)
    · exact List.mem_append_right _ q
  · exact h.me.imp id (List.mem_append_left _)
theorem Dfi.end {s c : α} {F S : List α} (h : Dfi g s c (g c) F S) : Dfs g s F S where
  nd := h.nd
  led := h.led
  wait := h.wait
  done := fun y hy => by
    rcases h.done y hy with q | q | q
    · exact Or.inl q
    · rw [q]
      exact Or.inr h.first
    · exact Or.inr q
theorem Dfs.end {s : α} {F : List α} (h : Dfs g s F []) {y : α} : y ∈ F ↔ Lead g s y := by
  refine ⟨h.led y, fun l => ?_⟩
  have shut : ∀ y, y = s ∨ y ∈ F → ∀ z ∈ g y, z ∈ F := fun y hy => (h.done y hy).resolve_left fun q => nomatch q
  induction l with
  | one m => exact shut _ (Or.inl rfl) _ m
  | more _ m ih => exact shut _ (Or.inr ih) _ m
/-! #### each behind those that it reads -/
def Behind (g : α → List α) (D F : List α) : Prop := ∀ (i : Nat) (x : α), F[i]? = some x → ∀ y ∈ g x, y ∈ D → ∃ j : Nat, j < i ∧ F[j]? = some y
theorem Behind.far {D F : List α} (b : Behind g D F) (key : ∀ x, (∃ y, y ∈ g x) → x ∈ D) {x y : α} (l : Lead g x y) {i : Nat} (hi : F[i]? = some x) (hy : y ∈ D) : ∃ j : Nat, j < i ∧ F[j]? = some y := by
  induction l with
  | one m => exact b i _ hi _ m hy
  | more _ m ih =>
    obtain ⟨j, lj, ej⟩ := ih (key _ ⟨_, m⟩)
    obtain ⟨k, lk, ek⟩ := b j _ ej _ m hy
    exact ⟨k, by omega, ek⟩
theorem Behind.safe {D F : List α} (b : Behind g D F) (key : ∀ x, (∃ y, y ∈ g x) → x ∈ D) {x : α} (l : Lead g x x) : x ∉ F := by
  have no : ∀ i : Nat, F[i]? ≠ some x := by
    intro i
    induction i using Nat.strongRecOn with
    | ind i ih =>
      intro e
      obtain ⟨j, lj, ej⟩ := b.far key l e (key x (lead_first l))
      exact ih j lj ej
  intro m
  obtain ⟨i, li, ei⟩ := List.getElem_of_mem m
  exact no i (by rw [List.getElem?_eq_getElem li, ei])
end
/-! ### a row in which each stands behind those that it reads -/
section
variable {α : Type} [DecidableEq α] {g : α → List α} {D : List α}
def cnt (g : α → List α) (D P : List α) (x : α) : Nat := ((g x).filter fun y => decide (y ∈ D ∧ y ∉ P)).length
theorem cnt_less {P : List α} {c : α} (hc : c ∈ D) (hp : c ∉ P) : ∀ {l : List α}, l.Nodup → (l.filter fun y => decide (y ∈ D ∧ y ∉ P ++ [c])).length + (if c ∈ l then 1 else 0) = (l.filter fun y => decide (y ∈ D ∧ y ∉ P)).length
  | [], _ => rfl
  | a :: r, nd => by
    obtain ⟨n1, n2⟩ := List.nodup_cons.mp nd
    have ih := cnt_less hc hp n2
    by_cases q : a = c
    · subst q
      rw [if_neg n1] at ih
      rw [List.filter_cons_of_neg (by simp), List.filter_cons_of_pos (by simp [hc, hp]), if_pos (List.mem_cons_self ..), List.length_cons, ← ih]
      try rfl
    · have e : (a ∈ P ++ [c]) ↔ a ∈ P := by simp [q]
      have m : (c ∈ a :: r) ↔ c ∈ r := by simp [Ne.symm q]
      by_cases z : a ∈ D ∧ a ∉ P
      · rw [List.filter_cons_of_pos (by simpa [e] using z), List.filter_cons_of_pos (by simpa using z), List.length_cons, List.length_cons, ← ih]
        try simp only [m]
        omega
      · rw [List.filter_cons_of_neg (by simpa [e] using z), List.filter_cons_of_neg (by simpa using z), ← ih]
        try simp only [m]
theorem cnt_nil {P : List α} {x : α} : cnt g D P x = 0 ↔ ∀ y ∈ g x, y ∈ D → y ∈ P := by
  unfold cnt
  rw [List.length_eq_zero_iff, List.filter_eq_nil_iff]
  constructor
  · intro h y hy hd
    have := h y hy
    simp at this
    exact this hd
  · intro h y hy
    simp
    exact h y hy
structure Khn (g : α → List α) (D : List α) (i : Nat) (F : List α) (miss : α → Nat) : Prop where
  nd : F.Nodup
  sub : ∀ x ∈ F, x ∈ D
  eq : ∀ x ∈ D, miss x = cnt g D (F.take i) x
  nil : ∀ x ∈ D, x ∈ F ↔ miss x = 0
  beh : Behind g D F
structure Khi (g : α → List α) (D : List α) (i : Nat) (c : α) (L F : List α) (miss : α → Nat) : Prop where
  nd : F.Nodup
  sub : ∀ x ∈ F, x ∈ D
  at_ : F[i]? = some c
  eq : ∀ x ∈ D, miss x = if x ∈ L then cnt g D (F.take i ++ [c]) x else cnt g D (F.take i) x
  nil : ∀ x ∈ D, x ∈ F ↔ miss x = 0
  beh : Behind g D F
theorem Khn.start (nd : D.Nodup) {F : List α} (e : F = D.filter fun x => decide (cnt g D [] x = 0)) : Khn g D 0 F (cnt g D []) where
  nd := by rw [e]; exact nd.filter _
  sub := fun x hx => by rw [e] at hx; exact (List.mem_filter.mp hx).1
  eq := fun x _ => by rw [List.take_zero]
  nil := fun x hx => by rw [e, List.mem_filter]; simp [hx]
  beh := fun i x hi y hy hd => by
    have m := List.mem_of_getElem? hi
    rw [e, List.mem_filter] at m
    have z := cnt_nil.mp (of_decide_eq_true m.2) y hy hd
    cases z
theorem Khn.turn {i : Nat} {F : List α} {miss : α → Nat} (h : Khn g D i F miss) {c : α} (hc : F[i]? = some c) : Khi g D i c [] F miss :=
  ⟨h.nd, h.sub, hc, fun x hx => by rw [if_neg (fun z => nomatch z)]; exact h.eq x hx, h.nil, h.beh⟩
theorem Khi.fresh {i : Nat} {c : α} {L F : List α} {miss : α → Nat} (h : Khi g D i c L F miss) : c ∈ D ∧ c ∉ F.take i := by
  refine ⟨h.sub c (List.mem_of_getElem? h.at_), fun m => ?_⟩
  obtain ⟨l, e⟩ := List.getElem?_eq_some_iff.mp h.at_
  obtain ⟨j, lj, ej⟩ := List.getElem_of_mem m
  rw [List.length_take] at lj
  rw [List.getElem_take] at ej
  exact List.pairwise_iff_getElem.mp h.nd j i (by omega) l (by omega) (ej.trans e.symm)
theorem Khi.one {i : Nat} {c x : α} {L F : List α} {miss : α → Nat} (h : Khi g D i c L F miss) (ng : (g x).Nodup) (hx : x ∈ D) (hc : c ∈ g x) (new : x ∉ L) : cnt g D (F.take i ++ [c]) x + 1 = miss x := by
  have a := cnt_less (D := D) h.fresh.1 h.fresh.2 ng
  rw [if_pos hc] at a
  rw [h.eq x hx, if_neg new]
  exact a
theorem Khi.step {i : Nat} {c x : α} {L F F' : List α} {miss : α → Nat} (h : Khi g D i c L F miss) (ng : (g x).Nodup) (hx : x ∈ D) (hc : c ∈ g x) (new : x ∉ L) (e : F' = if miss x - 1 = 0 then F ++ [x] else F) : Khi g D i c (L ++ [x]) F' (fun y => if y = x then miss x - 1 else miss y) := by
  have li : i < F.length := (List.getElem?_eq_some_iff.mp h.at_).1
  have o := h.one ng hx hc new
  have nF : x ∉ F := fun m => by
    have := (h.nil x hx).mp m
    omega
  have pre : F'.take i = F.take i := by
    rw [e]
    split
    · rw [List.take_append_of_le_length (by omega)]
    · rfl
  have eqs : ∀ y ∈ D, (if y = x then miss x - 1 else miss y) = if y ∈ L ++ [x] then cnt g D (F'.take i ++ [c]) y else cnt g D (F'.take i) y := fun y hy => by
    rw [pre]
    by_cases q : y = x
    · subst q
      rw [if_pos rfl, if_pos (by simp)]
      omega
    · have m : (y ∈ L ++ [x]) ↔ y ∈ L := by simp [q]
      rw [if_neg q, h.eq y hy]
      simp only [m]
  by_cases z : miss x - 1 = 0
  · rw [if_pos z] at e
    subst e
    refine ⟨?_, fun y hy => ?_, by rw [List.getElem?_append_left li]; exact h.at_, eqs, fun y hy => ?_, fun j y hj w hw hd => ?_⟩
    · rw [List.nodup_append]
      refine ⟨h.nd, by simp, fun a ha b hb q => ?_⟩
      rw [q, List.mem_singleton.mp hb] at ha
      exact nF ha
    · rcases List.mem_append.mp hy with q | q
      · exact h.sub y q
      · rw [List.mem_singleton.mp q]
        exact hx
    · by_cases q : y = x
      · subst q
        rw [if_pos rfl]
        simp [z]
      · rw [if_neg q, ← h.nil y hy]
        simp [q]
    · rcases Nat.lt_or_ge j F.length with q | q
      · rw [List.getElem?_append_left q] at hj
        obtain ⟨k, lk, ek⟩ := h.beh j y hj w hw hd
        exact ⟨k, lk, by rw [List.getElem?_append_left (by omega)]; exact ek⟩
      · have lj := (List.getElem?_eq_some_iff.mp hj).1
        rw [List.length_append, List.length_singleton] at lj
        obtain rfl : j = F.length := by omega
        rw [List.getElem?_append_right (Nat.le_refl _), Nat.sub_self] at hj
        obtain rfl : x = y := Option.some.inj hj
        have all := cnt_nil.mp (show cnt g D (F.take i ++ [c]) x = 0 by omega) w hw hd
        have mem : w ∈ F := by
          rcases List.mem_append.mp all with m | m
          · exact List.mem_of_mem_take m
          · rw [List.mem_singleton.mp m]
            exact List.mem_of_getElem? h.at_
        obtain ⟨k, lk, ek⟩ := List.getElem_of_mem mem
        exact ⟨k, lk, by rw [List.getElem?_append_left lk, List.getElem?_eq_getElem lk, ek]⟩
  · rw [if_neg z] at e
    subst e
    refine ⟨h.nd, h.sub, h.at_, eqs, fun y hy => ?_, h.beh⟩
    by_cases q : y = x
    · subst q
      rw [if_pos rfl]
      exact ⟨fun m => absurd m nF, fun m => absurd m z⟩
    · rw [if_neg q]
      exact h.nil y hy
theorem Khi.end {i : Nat} {c : α} {L F : List α} {miss : α → Nat} (h : Khi g D i c L F miss) (ng : ∀ x ∈ D, (g x).Nodup) (all : ∀ x ∈ D, c ∈ g x → x ∈ L) : Khn g D (i + 1) F miss := by
  have pre : F.take (i + 1) = F.take i ++ [c] := by
    rw [List.take_add_one, h.at_]
    rfl
  refine ⟨h.nd, h.sub, fun x hx => ?_, h.nil, h.beh⟩
  rw [h.eq x hx, pre]
  by_cases q : x ∈ L
  · rw [if_pos q]
  · rw [if_neg q]
    have a := cnt_less (D := D) h.fresh.1 h.fresh.2 (ng x hx)
    rw [if_neg fun m => q (all x hx m)] at a
    exact a.symm
theorem Khn.left {F : List α} {miss : α → Nat} (h : Khn g D F.length F miss) {x : α} (hx : x ∈ D) (no : x ∉ F) : ∃ y ∈ g x, y ∈ D ∧ y ∉ F := by
  have a := h.eq x hx
  rw [List.take_length] at a
  have b : cnt g D F x ≠ 0 := fun z => no ((h.nil x hx).mpr (a.trans z))
  by_cases q : ∃ y ∈ g x, y ∈ D ∧ y ∉ F
  · exact q
  · refine absurd (cnt_nil.mpr fun y hy hd => ?_) b
    by_cases m : y ∈ F
    · exact m
    · exact absurd ⟨y, hy, hd, m⟩ q
end
def spGCells (K : PySem.W.Frag) (C : Addr) : Sp := fun vs H Q _ => ∃ (g : Gr) (cells : Cells) (names : Names), vs = [.ref g.G] ∧ GD K C H g cells names ∧
  ∀ (p : Addr) (Zs : List (V × (Int × Int))), H p = none → (Zs.map Prod.snd).Perm (cells.map Prod.fst) → (Zs.map Prod.snd).Pairwise (fun a b => ¬ ltK b a) → (∀ z ∈ Zs, TuAt H z.1 z.2) → Q (.ref p) (upd H p (.lst (Zs.map Prod.fst)))
theorem okGrid_Cells (T : Txt K mg) : FnOk P w K mg base CX0 1 T.fGrid_Cells T.fdGrid_Cells ["self"] (spGCells K T.cGrid) := by
  refine T.FGrid_Cells.ok scGrid_Cells (fun vs H Q E h => ?_) (fun cdv A outer s H vs Q E hr h => ?_)
  · obtain ⟨g, cells, names, rfl, _⟩ := h
    rfl
  · obtain ⟨g, cells, names, rfl, ⟨⟨dx, hG⟩, ⟨kvs, hC, eC, _⟩, _⟩, q⟩ := h
    -- slots self=0
    refine ⟨_, (pss_one (ps_ret (pe_callB (cr_sortedDT rfl (units65b hr)) (by rfl) T.z_sorted (by decide +kernel) (pa_cons (pe_fld (pv 0) rfl) pa_nil)))), ?_⟩
    exact ⟨_, rfl, g.G, T.cGrid, dx, _, _, rfl, hG, T.clGrid, T.naGrid__contents, rfl, g.cd, kvs, cells.map Prod.fst, rfl, hC, ents_keys eC, q⟩
theorem nodup_len {α : Type} [DecidableEq α] {l : List α} : ∀ {D : List α}, l.Nodup → (∀ x ∈ l, x ∈ D) → l.length ≤ D.length := by
  induction l with
  | nil => exact fun _ _ => Nat.zero_le _
  | cons x l ih =>
    intro D nd h
    obtain ⟨n1, n2⟩ := List.nodup_cons.mp nd
    have hx := h x List.mem_cons_self
    have := ih (D := D.erase x) n2 fun y hy => (List.mem_erase_of_ne fun z => n1 (by rw [← z]; exact hy)).mpr (h y (List.mem_cons_of_mem _ hy))
    rw [List.length_erase_of_mem hx] at this
    have pos : 0 < D.length := List.length_pos_of_mem hx
    rw [List.length_cons]
    omega
/-- a comprehension without a test -/
theorem yesC {σ : L2.St} {H : Hp} {A B : Hp → Prop} (a : A H) : tYes σ H fun b H5 => if b = true then A H5 else B H5 := by
  show if true = true then A H else B H
  rw [if_pos rfl]
  exact a
/-- a dict comprehension with tuple keys over a walk -/
theorem dcT_it {J : It} {n : Nat} {G : Hp → Prop} {Y : Nat → Hp → V → Hp → Prop} (w : Walk J n G Y) {g : TG} {tt : L2.TT} {tk tv : TE} {vs : List Nat} {σ : L2.St} {H1 : Hp} {D : Addr} {Qd : Hp → Prop} (Pv : Nat → Hp → Prop) (h0 : Pv 0 (upd H1 D (.dT []))) (hG : ∀ i H, i ≤ n → Pv i H → G H)
    (hs : ∀ i x H H', i < n → Pv i H → Y i H x H' → g x (wipe σ vs) H' fun σ4 H4 => wipe σ4 vs = wipe σ vs ∧ tt σ4 H4 fun b H5 => if b = true then tk σ4 H5 fun y H6 => tv σ4 H6 fun z H7 => ∃ H8, DPut H7 D y z H8 ∧ Pv (i + 1) H8 else Pv (i + 1) H5) (hd : ∀ H, Pv n H → Qd H) :
    ∃ W : Nat → Nat → Hp → Prop, (∃ m, W 0 m (upd H1 D (.dT []))) ∧ ∀ i m H2, W i m H2 →
      (J.stop i H2 ∧ Qd H2) ∨ (J.go i H2 ∧ ∃ Nx : Hp → Prop, (∀ H', Nx H' → ∃ m', m' < m ∧ W (i + 1) m' H') ∧ ∀ x H3, J.yld i H2 x H3 → g x (wipe σ vs) H3 fun σ4 H4 => wipe σ4 vs = wipe σ vs ∧ tt σ4 H4 fun b H5 => if b = true then tk σ4 H5 fun y H6 => tv σ4 H6 fun z H7 => ∃ H8, DPut H7 D y z H8 ∧ Nx H8 else Nx H5) := by
  refine ⟨fun i m H => n = m + i ∧ Pv i H, ⟨n, rfl, h0⟩, fun i m H ⟨e, p⟩ => ?_⟩
  have q := hG i H (by omega) p
  cases m with
  | zero =>
    obtain rfl : n = i := by omega
    exact .inl ⟨w.stops H q, hd H p⟩
  | succ m => exact .inr ⟨w.goes i H (by omega) q, Pv (i + 1), fun H' p' => ⟨m, Nat.lt_succ_self m, by omega, p'⟩, fun x H' y => hs i x H H' (by omega) p (w.yields i H x H' (by omega) q y)⟩
theorem tuAt_get {H : Hp} {Zs : List (V × (Int × Int))} (tu : ∀ y ∈ Zs, TuAt H y.1 y.2) {i : Nat} {x : V} (h : (Zs.map Prod.fst)[i]? = some x) : ∃ a z, x = .ref a ∧ (Zs.map Prod.snd)[i]? = some z ∧ H a = some (.tup [.int z.1, .int z.2]) := by
  rw [List.getElem?_map] at h
  obtain ⟨e, he, rfl⟩ := Option.map_eq_some_iff.mp h
  obtain ⟨a, ea, ha⟩ := tu e (List.mem_of_getElem? he)
  exact ⟨a, e.2, ea, by rw [List.getElem?_map, he]; rfl, ha⟩
theorem putK_fresh {κ : Type} [DecidableEq κ] {kvs : List (κ × V)} {k : κ} {v : V} (h : ∀ e ∈ kvs, e.1 ≠ k) : putK kvs k v = kvs ++ [(k, v)] := by
  unfold putK
  rw [if_neg]
  rw [List.any_eq_true]
  rintro ⟨e, he, z⟩
  exact h e he (of_decide_eq_true z)
/-! ### reads -/
abbrev Z : Type := Int × Int
def CAt (H : Hp) (v : V) (zs : List Z) : Prop := ∃ l us, v = .ref l ∧ H l = some (.lst us) ∧ Cls H us zs
theorem CAt.same {H H' : Hp} (s : Same H H') {v : V} {zs : List Z} (h : CAt H v zs) : CAt H' v zs := by
  obtain ⟨l, us, e, h1, h2⟩ := h
  exact ⟨l, us, e, s _ _ h1, h2.mono (TK.of s)⟩
/-- a dict of lists of cells -/
def RdAt (H : Hp) (p : Addr) (R : List (Z × List Z)) : Prop := ∃ kvs, H p = some (.dT kvs) ∧ Ents idK (CAt H) kvs R
theorem RdAt.same {H H' : Hp} (s : Same H H') {p : Addr} {R : List (Z × List Z)} (h : RdAt H p R) : RdAt H' p R := by
  obtain ⟨kvs, h1, h2⟩ := h
  exact ⟨kvs, s _ _ h1, h2.imp fun kv e hh => ⟨hh.1, hh.2.same s⟩⟩
/-- what a dict of reads tells -/
def rdF (R : List (Z × List Z)) (z : Z) : List Z := (getE R z).getD []
structure RdOk (r c : Int) (R : List (Z × List Z)) : Prop where
  nd : (R.map Prod.fst).Nodup
  few : r * c ≤ 60
  key : ∀ e ∈ R, 0 ≤ e.1.1 ∧ e.1.1 < r ∧ 0 ≤ e.1.2 ∧ e.1.2 < c
  ins : ∀ e ∈ R, ∀ y ∈ e.2, 0 ≤ y.1 ∧ y.1 < r ∧ 0 ≤ y.2 ∧ y.2 < c
  ord : ∀ e ∈ R, e.2.Pairwise ltK
/-- the reads of a world -/
structure RdsOf (r c : Int) (W : WC) (N : NA) (R : List (Z × List Z)) : Prop extends RdOk r c R where
  keys : ∀ z, z ∈ R.map Prod.fst ↔ z ∈ W.map Prod.fst
  mem : ∀ e ∈ R, ∀ y, y ∈ e.2 ↔ y ∈ readsOf W N e.1
theorem ltK_of {a b : Z} (h : ¬ ltK b a) (n : a ≠ b) : ltK a b := by
  rcases Int.lt_trichotomy a.1 b.1 with z | z | z
  · exact Or.inl z
  · rcases Int.lt_trichotomy a.2 b.2 with y | y | y
    · exact Or.inr ⟨z, y⟩
    · exact absurd (Prod.ext z y) n
    · exact absurd (Or.inr ⟨z.symm, y⟩) h
  · exact absurd (Or.inl z) h
theorem ord_of {l : List Z} (nd : l.Nodup) (so : l.Pairwise fun a b => ¬ ltK b a) : l.Pairwise ltK := by
  refine (nd.and so).imp fun h => ltK_of h.2 h.1
theorem cls_of {H : Hp} : ∀ {Zs : List (V × Z)}, (∀ y ∈ Zs, TuAt H y.1 y.2) → Cls H (Zs.map Prod.fst) (Zs.map Prod.snd)
  | [], _ => .nil
  | y :: r, h => by
    obtain ⟨a, e, ha⟩ := h y List.mem_cons_self
    rw [List.map_cons, List.map_cons, e]
    exact .cons ha (cls_of fun x hx => h x (List.mem_cons_of_mem _ hx))
theorem ord_one : ∀ {l m : List Z}, l.Pairwise ltK → m.Pairwise ltK → (∀ z, z ∈ l ↔ z ∈ m) → l = m
  | [], [], _, _, _ => rfl
  | [], b :: m, _, _, h => nomatch (h b).mpr List.mem_cons_self
  | a :: l, [], _, _, h => nomatch (h a).mp List.mem_cons_self
  | a :: l, b :: m, h1, h2, h => by
    obtain ⟨p1, p2⟩ := List.pairwise_cons.mp h1
    obtain ⟨q1, q2⟩ := List.pairwise_cons.mp h2
    have no : ∀ {x y : Z}, ltK x y → ¬ ltK y x := fun {x y} h k => by
      rcases h with h | ⟨h, h'⟩ <;> rcases k with k | ⟨k, k'⟩ <;> omega
    have e : a = b := by
      rcases List.mem_cons.mp ((h a).mp List.mem_cons_self) with z | z
      · exact z
      · rcases List.mem_cons.mp ((h b).mpr List.mem_cons_self) with y | y
        · exact y.symm
        · exact absurd (p1 b y) (no (q1 a z))
    subst e
    rw [ord_one p2 q2 fun z => ?_]
    constructor
    · intro m1
      rcases List.mem_cons.mp ((h z).mp (List.mem_cons_of_mem _ m1)) with y | y
      · exact absurd (p1 z m1) (by rw [y]; exact fun k => no k k)
      · exact y
    · intro m1
      rcases List.mem_cons.mp ((h z).mpr (List.mem_cons_of_mem _ m1)) with y | y
      · exact absurd (q1 z m1) (by rw [y]; exact fun k => no k k)
      · exact y
theorem rdF_mem {R : List (Z × List Z)} {z y : Z} (h : y ∈ rdF R z) : ∃ l, (z, l) ∈ R ∧ y ∈ l ∧ rdF R z = l := by
  unfold rdF at h ⊢
  cases e : getE R z with
  | none =>
    rw [e] at h
    cases h
  | some l =>
    rw [e] at h
    exact ⟨l, getE_key e, h, rfl⟩
theorem rdF_at {R : List (Z × List Z)} (nd : (R.map Prod.fst).Nodup) {e : Z × List Z} (h : e ∈ R) : rdF R e.1 = e.2 := by
  unfold rdF
  rw [getE_mem nd e h]
  rfl
theorem rmS_in {S : List Addr} {H : Hp} {a : Addr} {o : HO} (m : a ∈ S) : rmS S (upd H a o) = rmS S H := funext fun b => by
  by_cases h : b ∈ S
  · rw [show rmS S (upd H a o) b = none from if_pos h, show rmS S H b = none from if_pos h]
  · rw [rmS_of h, rmS_of h, upd_ne fun z => h (by rw [z]; exact m)]
def spReadsOf (K : PySem.W.Frag) (C0 : Addr) : Sp := fun vs H Q _ => ∃ (g : Gr) (W : WC) (N : NA) (R C : Int), vs = [.ref g.G] ∧ GD K C0 H g (cdW W) (nmA N) ∧ Wld R C W N ∧ WOk R C W ∧ W.length ≤ 60 ∧
  ∀ (p : Addr) (H' : Hp) (Rd : List (Z × List Z)), Same H H' → H p = none → RdAt H' p Rd → RdsOf R C W N Rd → Q (.ref p) H'
theorem okReadsOf (T : Txt K mg) : FnOk P w K mg base CX0 8 T.fReadsOf T.fdReadsOf ["grid"] (spReadsOf K T.cGrid) := by
  refine T.FReadsOf.ok scReadsOf (fun vs H Q E h => ?_) (fun cdv A outer s H vs Q E hr h => ?_)
  · obtain ⟨g, W, N, R, C, rfl, _⟩ := h
    rfl
  · obtain ⟨g, W, N, R, C, rfl, G, wl, wok, few, q⟩ := h
    -- slots grid=0 cell=1
    refine ⟨_, (pss_one (ps_ret (pe_dcT (units2 hr) (own := [("cell", 1)]) (g := gName 1) (tt := tYes) rfl scReadsOf.nd (pi_list (pe_meth0 (pv 0) T.clGrid T.meGrid_Cells (okGrid_Cells T) (hr.mono (by decide)) T.bGrid_Cells .nil pass0)) (blkOk_by (own := [("cell", 1)]) (N := ["grid", "cell"]) (sc := defScope sReadsOf) (by decide +kernel)) (fun _ _ _ _ _ => (pg_name (i := 1) scReadsOf.nd rfl (Or.inl rfl))) (fun _ _ _ _ _ => pts_nil) (fun _ _ _ _ _ => (pv 1)) (fun _ _ _ _ _ => (pe_call (okCellsRead T) (hr.mono (by decide)) (by rfl) T.gCellsRead T.FCellsRead.kp T.bCellsRead .nil pass0 (pa_cons (pv 0) (pa_cons (pv 1) pa_nil))))))), ?_⟩
    obtain ⟨⟨dx, hG⟩, _⟩ := id G
    refine ⟨_, rfl, g.G, dx, _, rfl, hG, rfl, g, cdW W, nmA N, rfl, G, fun L Zs hL pm so tu => ?_⟩
    have sL := same_new (o := .lst (Zs.map Prod.fst)) hL
    refine ⟨L, rfl, ⟨_, SqL.of upd_same⟩, fun D hD => ?_⟩
    have nd : (Zs.map Prod.snd).Nodup := pm.nodup_iff.mpr (by rw [cdW_keys]; exact wok.nd)
    have keysW : ∀ z, z ∈ Zs.map Prod.snd ↔ z ∈ W.map Prod.fst := fun z => by rw [pm.mem_iff, cdW_keys]
    have hDn := sL.free hD
    have Zs_len : Zs.length ≤ 60 := by
      have h1 := nodup_len (l := Zs.map Prod.snd) (D := W.map Prod.fst) nd fun z hz => (keysW z).mp hz
      rw [List.length_map, List.length_map] at h1
      omega
    refine dcT_it (walk_list (a := L) (xs := Zs.map Prod.fst)) (fun j H' => Same (upd H L (.lst (Zs.map Prod.fst))) H' ∧ ∃ kvs Rd, H' D = some (.dT kvs) ∧ Ents idK (CAt (rmS [D] H')) kvs Rd ∧ Rd.map Prod.fst = (Zs.map Prod.snd).take j ∧ ∀ e ∈ Rd, e.2.Pairwise ltK ∧ ∀ y, y ∈ e.2 ↔ y ∈ readsOf W N e.1) ⟨same_new hD, [], [], upd_same, RepP.nil, rfl, fun _ h => nomatch h⟩ (fun j H' _ h => SqL.of (h.1 _ _ upd_same)) ?_ ?_
    · rintro j x H9 H4 hj ⟨s4, kvs, Rd, hD4, en, ek, ok⟩ ⟨rfl, hx⟩
      obtain ⟨a, z, rfl, hz, ha⟩ := tuAt_get tu hx
      have s04 : Same H H4 := sL.trans s4
      have ha4 := s04 _ _ ha
      refine ⟨rfl, ?_⟩
      refine yesC ?_
      refine ⟨_, rfl, _, rfl, _, rfl, g, W, N, R, C, a, z, rfl, G.same s04, wl, ha4, fun p Zs2 H5 s5 hp5 at5 tu5 nd5 so5 mem5 => ?_⟩
      have hD5 := s5 _ _ hD4
      have neD : p ≠ D := fun e => by
        rw [e, hD4] at hp5
        cases hp5
      have llen : kvs.length = j := by
        have h1 := en.len
        have h2 := congrArg List.length ek
        rw [List.length_map, List.length_take, List.length_map] at h2
        rw [List.length_map] at hj
        omega
      have newK : ∀ e ∈ kvs, e.1 ≠ idK z := fun e he y => by
        obtain ⟨i, li, ei⟩ := List.getElem_of_mem he
        have lr : i < Rd.length := by rw [← en.len]; exact li
        have h1 := (en.at_ i e Rd[i] (by rw [List.getElem?_eq_getElem li, ei]) (List.getElem?_eq_getElem lr)).1
        rw [y] at h1
        have h2 : z = Rd[i].1 := idK_inj h1
        have h3 : (Rd.map Prod.fst)[i]? = some z := by rw [List.getElem?_map, List.getElem?_eq_getElem lr, h2]; rfl
        rw [ek, List.getElem?_take_of_lt (by omega)] at h3
        obtain ⟨g1, g2⟩ := List.getElem?_eq_some_iff.mp h3
        obtain ⟨g3, g4⟩ := List.getElem?_eq_some_iff.mp hz
        exact List.pairwise_iff_getElem.mp nd i j g1 g3 (by omega) (g2.trans g4.symm)
      have put := DPut.t (v := .ref p) (k := idK z) hD5 (s5 _ _ ha4) (small1000 (by rw [List.length_map] at hj; rw [llen]; have := Zs_len; omega))
      refine ⟨_, put, fun b o e => ?_, _, Rd ++ [(z, Zs2.map Prod.snd)], upd_same, ?_, ?_, ?_⟩
      · rw [upd_ne]
        · exact s5 _ _ (s4 _ _ e)
        · intro y
          rw [y, hD] at e
          cases e
      · rw [putK_fresh newK, rmS_in (List.mem_singleton.mpr rfl)]
        refine ents_snoc (en.imp fun kv e hh => ⟨hh.1, hh.2.same ?_⟩) ⟨p, Zs2.map Prod.fst, rfl, ?_, ?_⟩
        · exact rmS_same s5
        · rw [rmS_of]
          · exact at5
          · simpa using neD
        · refine (cls_of tu5).mono ?_
          exact fun b xs e => by
            rw [rmS_of]
            · exact e
            · intro y
              rw [List.mem_singleton.mp y, hD5] at e
              cases e
      · rw [List.map_append, ek, List.take_add_one, hz]
        rfl
      · intro e he
        rcases List.mem_append.mp he with he | he
        · exact ok e he
        · rw [List.mem_singleton.mp he]
          exact ⟨ord_of nd5 so5, mem5⟩
    · rintro H9 ⟨s4, kvs, Rd, hD4, en, ek, ok⟩
      rw [List.length_map, ← List.length_map (as := Zs) (f := Prod.snd), List.take_length] at ek
      refine q D H9 Rd (sL.trans s4) hDn ⟨kvs, hD4, en.imp fun kv e hh => ⟨hh.1, hh.2.same rmS_le⟩⟩ ⟨⟨by rw [ek]; exact nd, wl.few, fun e he => ?_, fun e he y hy => ?_, fun e he => (ok e he).1⟩, fun z => by rw [ek]; exact keysW z, fun e he => (ok e he).2⟩
      · have m : e.1 ∈ W.map Prod.fst := (keysW e.1).mp (by rw [← ek]; exact List.mem_map_of_mem he)
        obtain ⟨w, hw, e2⟩ := List.mem_map.mp m
        rw [← e2]
        exact wok.ins w hw
      · have m := ((ok e he).2 y).mp hy
        unfold readsOf at m
        cases ef : formulaAt W e.1 with
        | none =>
          rw [ef] at m
          cases m
        | some t =>
          rw [ef] at m
          exact reads_ins wl (wl.tr _ _ ef).1 y m
/-! ### a dict of lists that grow -/
theorem getE_put {κ β : Type} [DecidableEq κ] {D : List (κ × β)} {k : κ} {v : β} {j : κ} : getE (putE D k v) j = if k = j then some v else getE D j := by
  unfold putE
  by_cases c : (D.any fun e => decide (e.1 = k)) = true
  · rw [if_pos c]
    induction D with
    | nil => cases c
    | cons e r ih =>
      by_cases a : e.1 = k
      · by_cases b : k = j
        · simp [getE, a, b]
        · have nb : e.1 ≠ j := fun z => b (a ▸ z)
          have tail : getE (r.map fun e => if e.1 = k then (e.1, v) else e) j = getE r j := by
            clear ih c
            induction r with
            | nil => rfl
            | cons d r ih =>
              by_cases p : d.1 = k
              · have nd : d.1 ≠ j := fun z => b (p ▸ z)
                simp [getE, p, nd, b] at ih ⊢
                exact ih
              · by_cases n : d.1 = j
                · simp [getE, p, n]
                  rw [if_neg fun z => p (n.trans z)]
                  simp [n]
                  exact ⟨_, rfl⟩
                · simp [getE, p, n] at ih ⊢
                  exact ih
          simp [getE, a, b, nb] at tail ⊢
          exact tail
      · have c2 : (r.any fun e => decide (e.1 = k)) = true := by simpa [a] using c
        have ih := ih c2
        by_cases n : e.1 = j
        · have b : k ≠ j := fun z => a (n.trans z.symm)
          simp [getE, a, b, n]
          rw [if_neg fun z => b z.symm]
          simp [n]
          exact ⟨_, rfl⟩
        · simp [getE, a, n] at ih ⊢
          exact ih
  · rw [if_neg c, getE_snoc]
    by_cases b : k = j
    · subst b
      rw [if_pos rfl, if_pos rfl]
      cases e : getE D k with
      | none => rfl
      | some w =>
        refine absurd (List.any_eq_true.mpr ⟨_, getE_key e, ?_⟩) c
        exact decide_eq_true rfl
    · rw [if_neg b, if_neg b]
      cases getE D j <;> rfl
theorem rdF_put {B : List (Z × List Z)} {y z : Z} {l : List Z} : rdF (putE B y l) z = if y = z then l else rdF B z := by
  unfold rdF
  rw [getE_put]
  by_cases h : y = z
  · rw [if_pos h, if_pos h]
    rfl
  · rw [if_neg h, if_neg h]
theorem ltK_irr {a : Z} : ¬ ltK a a := fun h => ltK_ne h rfl
theorem ord_nd {l : List Z} (h : l.Pairwise ltK) : l.Nodup := h.imp fun h => ltK_ne h
/-- told so far: the first i cells, and the first j that the next one reads -/
structure BkIs (r c : Int) (Rd : List (Z × List Z)) (i j : Nat) (B : List (Z × List Z)) : Prop where
  nd : (B.map Prod.fst).Nodup
  nds : ∀ y, (rdF B y).Nodup
  mem : ∀ y x, x ∈ rdF B y ↔ (∃ e ∈ Rd.take i, e.1 = x ∧ y ∈ e.2) ∨ ∃ e, Rd[i]? = some e ∧ e.1 = x ∧ y ∈ e.2.take j
  key : ∀ y ∈ B.map Prod.fst, 0 ≤ y.1 ∧ y.1 < r ∧ 0 ≤ y.2 ∧ y.2 < c
theorem BkIs.start {r c : Int} {Rd : List (Z × List Z)} : BkIs r c Rd 0 0 [] := by
  refine ⟨List.nodup_nil, fun _ => List.nodup_nil, fun y x => ⟨fun h => (nomatch h), fun h => ?_⟩, fun _ h => (nomatch h)⟩
  rcases h with ⟨e, he, _⟩ | ⟨e, _, _, h⟩
  · cases he
  · cases h
theorem BkIs.next {r c : Int} {Rd B : List (Z × List Z)} {i : Nat} {e : Z × List Z} (h : BkIs r c Rd i e.2.length B) (he : Rd[i]? = some e) : BkIs r c Rd (i + 1) 0 B := by
  have tk : Rd.take (i + 1) = Rd.take i ++ [e] := by
    rw [List.take_add_one, he]
    rfl
  refine ⟨h.nd, h.nds, fun y x => ?_, h.key⟩
  rw [h.mem y x, tk]
  constructor
  · rintro (⟨d, hd, q⟩ | ⟨d, hd, q1, q2⟩)
    · exact Or.inl ⟨d, List.mem_append_left _ hd, q⟩
    · rw [he] at hd
      obtain rfl := Option.some.inj hd
      rw [List.take_length] at q2
      exact Or.inl ⟨e, List.mem_append_right _ (List.mem_singleton.mpr rfl), q1, q2⟩
  · rintro (⟨d, hd, q⟩ | ⟨d, _, _, q⟩)
    · rcases List.mem_append.mp hd with hd | hd
      · exact Or.inl ⟨d, hd, q⟩
      · obtain rfl : d = e := List.mem_singleton.mp hd
        exact Or.inr ⟨d, he, q.1, by rw [List.take_length]; exact q.2⟩
    · cases q
theorem BkIs.add {r c : Int} {Rd B : List (Z × List Z)} {i j : Nat} {e : Z × List Z} {y : Z} (ok : RdOk r c Rd) (h : BkIs r c Rd i j B) (he : Rd[i]? = some e) (hy : e.2[j]? = some y) : BkIs r c Rd i (j + 1) (putE B y (rdF B y ++ [e.1])) := by
  have me := List.mem_of_getElem? he
  have new : e.1 ∉ rdF B y := fun m => by
    rcases (h.mem y e.1).mp m with ⟨d, hd, q1, _⟩ | ⟨d, hd, _, q2⟩
    · obtain ⟨n, ln, en⟩ := List.getElem_of_mem hd
      rw [List.length_take] at ln
      rw [List.getElem_take] at en
      obtain ⟨g1, g2⟩ := List.getElem?_eq_some_iff.mp he
      have := List.pairwise_iff_getElem.mp ok.nd n i (by rw [List.length_map]; omega) (by rw [List.length_map]; exact g1) (by omega)
      rw [List.getElem_map, List.getElem_map, en, g2] at this
      exact this q1
    · rw [he] at hd
      obtain rfl := Option.some.inj hd
      obtain ⟨n, ln, en⟩ := List.getElem_of_mem q2
      rw [List.length_take] at ln
      rw [List.getElem_take] at en
      obtain ⟨g1, g2⟩ := List.getElem?_eq_some_iff.mp hy
      exact List.pairwise_iff_getElem.mp (ord_nd (ok.ord e me)) n j (by omega) g1 (by omega) (en.trans g2.symm)
  refine ⟨put_nd h.nd, fun z => ?_, fun z x => ?_, fun z hz => ?_⟩
  · rw [rdF_put]
    by_cases q : y = z
    · rw [if_pos q, List.nodup_append]
      refine ⟨h.nds y, by simp, fun a ha b hb k => ?_⟩
      rw [k, List.mem_singleton.mp hb] at ha
      exact new ha
    · rw [if_neg q]
      exact h.nds z
  · have tk : z ∈ e.2.take (j + 1) ↔ z ∈ e.2.take j ∨ z = y := by
      rw [List.take_add_one, hy]
      simp
    rw [rdF_put]
    by_cases q : y = z
    · subst q
      rw [if_pos rfl, List.mem_append, h.mem y x, List.mem_singleton]
      constructor
      · rintro ((a | ⟨d, hd, q1, q2⟩) | a)
        · exact Or.inl a
        · rw [he] at hd
          obtain rfl := Option.some.inj hd
          exact Or.inr ⟨e, he, q1, tk.mpr (Or.inl q2)⟩
        · exact Or.inr ⟨e, he, a.symm, tk.mpr (Or.inr rfl)⟩
      · rintro (a | ⟨d, hd, q1, q2⟩)
        · exact Or.inl (Or.inl a)
        · rw [he] at hd
          obtain rfl := Option.some.inj hd
          exact Or.inr q1.symm
    · rw [if_neg q, h.mem z x]
      refine or_congr Iff.rfl ⟨?_, ?_⟩
      · rintro ⟨d, hd, q1, q2⟩
        rw [he] at hd
        obtain rfl := Option.some.inj hd
        exact ⟨e, he, q1, tk.mpr (Or.inl q2)⟩
      · rintro ⟨d, hd, q1, q2⟩
        rw [he] at hd
        obtain rfl := Option.some.inj hd
        exact ⟨e, he, q1, (tk.mp q2).resolve_right fun k => q k.symm⟩
  · rcases keys_put.mp hz with k | k
    · rw [k]
      exact ok.ins e me y (List.mem_of_getElem? hy)
    · exact h.key z k
theorem cells_few {r c : Int} (few : r * c ≤ 60) {l : List Z} (nd : l.Nodup) (h : ∀ y ∈ l, 0 ≤ y.1 ∧ y.1 < r ∧ 0 ≤ y.2 ∧ y.2 < c) : l.length ≤ 60 := by
  cases l with
  | nil => exact Nat.zero_le _
  | cons a l =>
    have ha := h a List.mem_cons_self
    have n := nodup_len nd (D := cellsOf ⟨0, 0, r - 1, c - 1⟩) fun y hy => by
      have := h y hy
      rw [mem_cellsOf]
      refine ⟨?_, ?_, ?_, ?_⟩ <;> dsimp only <;> omega
    exact Nat.le_trans n (cellsOf_len (R := r) (C := c) ⟨by dsimp only; omega, by dsimp only; omega, by dsimp only; omega, by dsimp only; omega, by dsimp only; omega, by dsimp only; omega⟩ few)
def SB (p : Addr) (H H' : Hp) : Prop := ∀ c u, H c = some u → c ≠ p → H' c = some u
def BAt (H H' : Hp) (v : V) (zs : List Z) : Prop := ∃ l us, v = .ref l ∧ H l = none ∧ H' l = some (.lst us) ∧ Cls H' us zs
/-- a dict of new lists, each in one place -/
def BkAt (H H' : Hp) (D : Addr) (B : List (Z × List Z)) : Prop := ∃ kvs, H' D = some (.dT kvs) ∧ Ents idK (BAt H H') kvs B ∧ (kvs.map Prod.snd).Nodup
theorem BAt.same {H H' H2 : Hp} (s : Same H' H2) {v : V} {zs : List Z} (h : BAt H H' v zs) : BAt H H2 v zs := by
  obtain ⟨l, us, e, n, h1, h2⟩ := h
  exact ⟨l, us, e, n, s _ _ h1, h2.mono (TK.of s)⟩
theorem valV_own {κ : Type} [DecidableEq κ] : ∀ {kvs : List (κ × V)}, (kvs.map Prod.fst).Nodup → ∀ e ∈ kvs, valV kvs e.1 = some e.2
  | [], _, e, h => nomatch h
  | d :: D, nd, e, h => by
    obtain ⟨n1, n2⟩ := List.nodup_cons.mp nd
    rcases List.mem_cons.mp h with z | z
    · rw [z]
      simp [valV]
    · have ne : d.1 ≠ e.1 := fun y => n1 (by rw [y]; exact List.mem_map.mpr ⟨e, z, rfl⟩)
      have ih := valV_own n2 e z
      simp [valV, ne] at ih ⊢
      exact ih
theorem valV_in {κ : Type} [DecidableEq κ] {kvs : List (κ × V)} {k : κ} {v : V} (h : valV kvs k = some v) : (k, v) ∈ kvs := by
  unfold valV at h
  obtain ⟨e, he, rfl⟩ := Option.map_eq_some_iff.mp h
  have m := List.mem_of_find?_eq_some he
  have a : e.1 = k := by simpa using List.find?_some he
  rw [← a]
  exact m
theorem ents_nd {β : Type} {At : V → β → Prop} {kvs : List (List Key × V)} {B : List (Z × β)} (en : Ents idK At kvs B) (nd : (B.map Prod.fst).Nodup) : (kvs.map Prod.fst).Nodup := by
  rw [ents_keys en]
  exact List.pairwise_map.mpr (nd.imp fun h z => h (idK_inj z))
theorem tk_lst {H : Hp} {l : Addr} {us ws : List V} (h : H l = some (.lst us)) : TK H (upd H l (.lst ws)) := fun q xs e => by
  rw [upd_ne fun z => ?_]
  · exact e
  · rw [z, h] at e
    cases e
theorem BkAt.more {H H' : Hp} {D lb q : Addr} {kvs : List (List Key × V)} {B : List (Z × List Z)} {y x : Z} {us : List V} (hD : H' D = some (.dT kvs)) (en : Ents idK (BAt H H') kvs B) (nds : (kvs.map Prod.snd).Nodup) (nd : (B.map Prod.fst).Nodup) (hv : valV kvs (idK y) = some (.ref lb)) (hl : H' lb = some (.lst us)) (hq : H' q = some (.tup [.int x.1, .int x.2])) :
    H lb = none ∧ us.length = (rdF B y).length ∧ BkAt H (upd H' lb (.lst (us ++ [.ref q]))) D (putE B y (rdF B y ++ [x])) := by
  have tk : TK H' (upd H' lb (.lst (us ++ [.ref q]))) := tk_lst hl
  obtain ⟨i, li, ei⟩ := List.getElem_of_mem (valV_in hv)
  have lB : i < B.length := by rw [← en.len]; exact li
  obtain ⟨g1, l, us', g2, hn, g3, g4⟩ := en.at_ i _ B[i] (by rw [List.getElem?_eq_getElem li, ei]) (List.getElem?_eq_getElem lB)
  have ey : B[i].1 = y := (idK_inj g1).symm
  obtain rfl : lb = l := V.ref.inj g2
  rw [hl] at g3
  obtain rfl : us = us' := HO.lst.inj (Option.some.inj g3)
  have er : rdF B y = B[i].2 := by rw [← ey]; exact rdF_at nd (List.getElem_mem lB)
  have nk := ents_nd en nd
  refine ⟨hn, by rw [er]; exact g4.len, kvs, ?_, ?_, nds⟩
  · rw [upd_ne fun z => ?_]
    · exact hD
    · rw [z, hl] at hD
      cases hD
  · have any : (B.any fun e => decide (e.1 = y)) = true := List.any_eq_true.mpr ⟨_, List.getElem_mem lB, decide_eq_true ey⟩
    unfold putE
    rw [if_pos any]
    refine ⟨by rw [List.length_map]; exact en.len, fun n kv e h1 h2 => ?_⟩
    rw [List.getElem?_map] at h2
    obtain ⟨d, hd, rfl⟩ := Option.map_eq_some_iff.mp h2
    obtain ⟨f1, f2⟩ := en.at_ n kv d h1 hd
    by_cases c : d.1 = y
    · rw [if_pos c]
      have mk := List.mem_of_getElem? h1
      have vv := valV_own nk kv mk
      rw [f1, c, hv] at vv
      refine ⟨f1, lb, us ++ [.ref q], (Option.some.inj vv).symm, hn, upd_same, ?_⟩
      rw [er]
      exact (g4.mono tk).snoc (tk _ _ hq)
    · rw [if_neg c]
      obtain ⟨l', ws, a1, a2, a3, a4⟩ := f2
      have ne : l' ≠ lb := fun z => by
        obtain ⟨ln, en'⟩ := List.getElem?_eq_some_iff.mp h1
        have ni : n ≠ i := fun z => by
          subst z
          rw [List.getElem?_eq_getElem lB] at hd
          exact c (by rw [← Option.some.inj hd]; exact ey)
        have pw := List.pairwise_iff_getElem.mp nds
        have s1 : (kvs.map Prod.snd)[n]'(by rw [List.length_map]; exact ln) = .ref lb := by rw [List.getElem_map, en', a1, z]
        have s2 : (kvs.map Prod.snd)[i]'(by rw [List.length_map]; exact li) = .ref lb := by rw [List.getElem_map, ei]
        rcases Nat.lt_or_gt_of_ne ni with k | k
        · exact pw n i _ _ k (s1.trans s2.symm)
        · exact pw i n _ _ k (s2.trans s1.symm)
      exact ⟨f1, l', ws, a1, a2, by rw [upd_ne ne]; exact a3, a4.mono tk⟩
theorem BkAt.first {H H' : Hp} {D l0 q : Addr} {kvs : List (List Key × V)} {B : List (Z × List Z)} {y x : Z} (hD : H' D = some (.dT kvs)) (en : Ents idK (BAt H H') kvs B) (nds : (kvs.map Prod.snd).Nodup) (hv : valV kvs (idK y) = none) (hn : H l0 = none) (hn' : H' l0 = none) (hq : H' q = some (.tup [.int x.1, .int x.2])) :
    BkAt H (upd (upd (upd H' l0 (.lst [])) D (.dT (putK kvs (idK y) (.ref l0)))) l0 (.lst ([] ++ [.ref q]))) D (putE B y (rdF B y ++ [x])) := by
  have nD : D ≠ l0 := fun z => by
    rw [z, hn'] at hD
    cases hD
  have gone : getE B y = none := by
    cases e : getE B y with
    | none => rfl
    | some b =>
      obtain ⟨v, ev, _⟩ := (ents_get (fun _ _ => idK_inj) en y).2 b e
      rw [hv] at ev
      cases ev
  have noB : ∀ e ∈ B, e.1 ≠ y := fun e he z => by
    have := getE_none gone
    exact this (by rw [← z]; exact List.mem_map_of_mem he)
  have noK : ∀ e ∈ kvs, e.1 ≠ idK y := fun e he z => by
    obtain ⟨i, li, ei⟩ := List.getElem_of_mem he
    have lB : i < B.length := by rw [← en.len]; exact li
    have := (en.at_ i e B[i] (by rw [List.getElem?_eq_getElem li, ei]) (List.getElem?_eq_getElem lB)).1
    rw [z] at this
    exact noB _ (List.getElem_mem lB) (idK_inj this).symm
  have er : rdF B y = [] := by
    unfold rdF
    rw [gone]
    rfl
  have tk : TK H' (upd (upd (upd H' l0 (.lst [])) D (.dT (putK kvs (idK y) (.ref l0)))) l0 (.lst ([] ++ [.ref q]))) := fun b xs e => by
    rw [upd_ne fun z => ?_, upd_ne fun z => ?_, upd_ne fun z => ?_]
    · exact e
    · rw [z, hn'] at e
      cases e
    · rw [z, hD] at e
      cases e
    · rw [z, hn'] at e
      cases e
  refine ⟨kvs ++ [(idK y, .ref l0)], ?_, ?_, ?_⟩
  · rw [upd_ne nD, upd_same, putK_fresh noK]
  · rw [putE_new noB, er]
    refine ents_snoc (en.imp fun kv e hh => ⟨hh.1, ?_⟩) ⟨l0, [] ++ [.ref q], rfl, hn, upd_same, ?_⟩
    · obtain ⟨_, l, us, a1, a2, a3, a4⟩ := hh
      refine ⟨l, us, a1, a2, ?_, a4.mono tk⟩
      rw [upd_ne fun z => ?_, upd_ne fun z => ?_, upd_ne fun z => ?_]
      · exact a3
      · rw [z, hn'] at a3
        cases a3
      · rw [z, hD] at a3
        cases a3
      · rw [z, hn'] at a3
        cases a3
    · exact .cons (tk _ _ hq) .nil
  · rw [List.map_append, List.nodup_append]
    refine ⟨nds, by simp, fun a ha b hb z => ?_⟩
    obtain ⟨e, he, rfl⟩ := List.mem_map.mp ha
    have hb : b = .ref l0 := by simpa using hb
    obtain ⟨i, li, ei⟩ := List.getElem_of_mem he
    have lB : i < B.length := by rw [← en.len]; exact li
    obtain ⟨_, l, us, a1, a2, a3, a4⟩ := en.at_ i e B[i] (by rw [List.getElem?_eq_getElem li, ei]) (List.getElem?_eq_getElem lB)
    rw [a1, hb] at z
    rw [V.ref.inj z, hn'] at a3
    cases a3
/-! ### readers -/
def spReaders (K : PySem.W.Frag) : Sp := fun vs H Q _ => ∃ (p : Addr) (r c : Int) (Rd : List (Z × List Z)), vs = [.ref p] ∧ RdAt H p Rd ∧ RdOk r c Rd ∧
  ∀ (D : Addr) (H' : Hp) (B : List (Z × List Z)), Same H H' → H D = none → RdAt H' D B → (B.map Prod.fst).Nodup → (∀ y, (rdF B y).Nodup) → (∀ y x, x ∈ rdF B y ↔ y ∈ rdF Rd x) → Q (.ref D) H'
theorem okReadersOf (T : Txt K mg) : FnOk P w K mg base CX0 1 T.fReadersOf T.fdReadersOf ["reads"] (spReaders K) := by
  refine T.FReadersOf.ok scReadersOf (fun vs H Q E h => ?_) (fun cdv A outer s H vs Q E hr h => ?_)
  · obtain ⟨p, r, c, Rd, rfl, _⟩ := h
    rfl
  · obtain ⟨p, r, c, Rd, rfl, ⟨kvs, hp, en⟩, ok, q⟩ := h
    -- slots reads=0 readers=1 cell=2 other=3
    refine ⟨_, (pss_cons (ps_set (i := 1) scReadersOf.nd rfl (Or.inl rfl) pe_dnewT)
        (pss_cons (ps_lock (ps_for PassesOwn.never rfl (pi_keys (pv 0)) (pg_name (i := 2) scReadersOf.nd rfl (Or.inl rfl))
          (pss_one (ps_for PassesOwn.never rfl (pi_list (pe_dget (units2 hr) (pv 0) (pv 2) (fun _ _ => rfl))) (pg_name (i := 3) scReadersOf.nd rfl (Or.inl rfl))
            (pss_one (ps_expr (pe_bm PySem.F.plainAttrs_list PySem.F.slot_list_append PySem.F.type_list_append mt_append (pe_bm PySem.F.plainAttrs_dict PySem.F.slot_dict_setdefault PySem.F.type_dict_setdefault (mt_setdT (units2 hr)) (pv 1) (pa_cons (pv 3) (pa_cons (pe_lst pa_nil) pa_nil))) (pa_cons (pv 2) pa_nil))))))))
        (pss_one (ps_ret (pv 1))))), ?_⟩
    refine fun D hD => ?_
    have s1 := same_new (o := .dT []) hD
    have nDp : p ≠ D := ne_of_none hp hD
    have nk := ents_nd en ok.nd
    refine ⟨p, _, s1 _ _ hp, trivial, fun od => ?_⟩
    refine ⟨_, rfl, p, od, rfl, .inr ⟨kvs, upd_same, for_it (walk_keysT (d := p) (o := od) (kvs := kvs)) (fun i σ H' => ∃ (c2 c3 : Option V) (B : List (Z × List Z)), σ = [some (.ref p), some (.ref D), c2, c3] ∧ SB p H H' ∧ H' p = some (.frz od (.dT kvs)) ∧ BkAt H H' D B ∧ BkIs r c Rd i 0 B) ⟨_, _, [], rfl, ?_, upd_same, ⟨[], ?_, RepP.nil, List.nodup_nil⟩, BkIs.start⟩ (fun i σ H' _ ⟨_, _, _, _, _, h, _⟩ => h) ?_ ?_⟩⟩
    · exact fun c u e n => by
        rw [upd_ne n]
        exact s1 _ _ e
    · rw [upd_ne nDp.symm]
      exact upd_same
    · rintro i x2 σ HX H3 hi ⟨c2, c3, B, rfl, m1, m2, bk, bi⟩ ⟨rfl, k, vv, q0, hkv, rfl, hq⟩
      have lr : i < Rd.length := by rw [← en.len]; exact hi
      have he : Rd[i]? = some Rd[i] := List.getElem?_eq_getElem lr
      obtain ⟨ek, l, us, rfl, hl, cl⟩ := en.at_ i _ Rd[i] hkv he
      generalize Rd[i] = e at he ek cl
      obtain rfl : k = idK e.1 := ek
      have ul := cl.len
      have nlp : l ≠ p := fun z => by
        rw [z, hp] at hl
        cases hl
      have dg : DGet H3 p (.ref q0) (some (.ref l)) := by
        rw [← valV_own nk _ (List.mem_of_getElem? hkv)]
        exact .inr ⟨kvs, idK e.1, q0, .inr ⟨od, m2⟩, rfl, hq, rfl⟩
      have hl3 := m1 _ _ hl nlp
      refine ⟨_, rfl, _, rfl, p, .ref l, rfl, dg, l, rfl, ⟨us, SqL.of hl3⟩, for_it (walk_list (a := l) (xs := us)) (fun j σ H' => ∃ (c3 : Option V) (B : List (Z × List Z)), σ = [some (.ref p), some (.ref D), some (.ref q0), c3] ∧ SB p H H' ∧ H' p = some (.frz od (.dT kvs)) ∧ H' q0 = some (.tup [.int e.1.1, .int e.1.2]) ∧ BkAt H H' D B ∧ BkIs r c Rd i j B) ⟨_, B, rfl, m1, m2, hq, bk, bi⟩ (fun j σ H' _ ⟨_, _, _, h, _⟩ => SqL.of (h _ _ hl nlp)) ?_ ?_⟩
      · rintro j x σ HY H4 hj ⟨c3, B, rfl, m1, m2, hq, bk, bi⟩ ⟨rfl, hx⟩
        obtain ⟨a, y, rfl, hy, ha⟩ := cl.get j x hx
        have npD : p ≠ D := nDp
        have back : ∀ {u : Addr}, H4 u = none → H u = none := fun {u} z => by
          cases w0 : H u with
          | none => rfl
          | some o =>
            by_cases n : u = p
            · rw [n, m2] at z
              cases z
            · rw [m1 _ _ w0 n] at z
              cases z
        obtain ⟨ks, k1, k2, k3⟩ := bk
        have fewR : Rd.length ≤ 60 := by
          have := cells_few ok.few ok.nd fun y hy => by
            obtain ⟨d, hd, rfl⟩ := List.mem_map.mp hy
            exact ok.key d hd
          rwa [List.length_map] at this
        have fewB : B.length ≤ 60 := by
          have := cells_few ok.few bi.nd bi.key
          rwa [List.length_map] at this
        have fewY : (rdF B y).length ≤ 60 := by
          have := nodup_len (D := Rd.map Prod.fst) (bi.nds y) fun x hx => by
            rcases (bi.mem y x).mp hx with ⟨d, hd, q1, _⟩ | ⟨d, hd, q1, _⟩
            · exact List.mem_map.mpr ⟨d, List.mem_of_mem_take hd, q1⟩
            · exact List.mem_map.mpr ⟨d, List.mem_of_getElem? hd, q1⟩
          rw [List.length_map] at this
          omega
        have lk : ks.length ≤ 60 := by rw [k2.len]; exact fewB
        have nap : a ≠ p := fun z => by
          rw [z, hp] at ha
          cases ha
        have ha4 := m1 _ _ ha nap
        refine ⟨_, rfl, .inr (.inr (.inl ⟨rfl, .inr ⟨ks, k1⟩⟩)), _, rfl, Nat.zero_le _, fun l0 hl0 => ?_⟩
        have s5 := same_new (o := .lst []) hl0
        refine ⟨D, ks, idK y, a, .ref l0, rfl, rfl, s5 _ _ k1, s5 _ _ ha4, small1000 (by omega), fun v hv => ?_, fun hv => ?_⟩
        · obtain ⟨lb, us2, rfl, hlb⟩ : ∃ lb us2, v = .ref lb ∧ H4 lb = some (.lst us2) := by
            obtain ⟨n, ln, en2⟩ := List.getElem_of_mem (valV_in hv)
            have lB : n < B.length := by rw [← k2.len]; exact ln
            obtain ⟨_, l', ws, a1, _, a3, _⟩ := k2.at_ n _ B[n] (by rw [List.getElem?_eq_getElem ln, en2]) (List.getElem?_eq_getElem lB)
            exact ⟨l', ws, a1, a3⟩
          obtain ⟨hn, ul2, bk2⟩ := BkAt.more (H := H) (s5 _ _ k1) (k2.imp fun kv d hh => ⟨hh.1, hh.2.same s5⟩) k3 bi.nd hv (s5 _ _ hlb) (s5 _ _ hq)
          refine ⟨.inl ⟨rfl, us2, SqL.of (s5 _ _ hlb)⟩, _, rfl, lb, us2, .ref q0, rfl, rfl, s5 _ _ hlb, small1000 (by omega), ?_⟩
          have keep : ∀ u o, H4 u = some o → u ≠ lb → upd (upd H4 l0 (.lst [])) lb (.lst (us2 ++ [.ref q0])) u = some o := fun u o z n => by
            rw [upd_ne n]
            exact s5 _ _ z
          refine ⟨some (.ref a), putE B y (rdF B y ++ [e.1]), rfl, fun u o z n => keep u o (m1 _ _ z n) fun w0 => ?_, keep _ _ m2 fun w0 => ?_, keep _ _ hq fun w0 => ?_, bk2, bi.add ok he hy⟩
          · rw [w0, hn] at z
            cases z
          · rw [← w0, m2] at hlb
            cases hlb
          · rw [← w0, hq] at hlb
            cases hlb
        · refine ⟨.inl ⟨rfl, [], SqL.of ?_⟩, _, rfl, l0, [], .ref q0, rfl, rfl, ?_, small1000 (by show 0 ≤ 1000; decide), ?_⟩
          · rw [upd_ne fun z => ?_]
            · exact upd_same
            · rw [z, k1] at hl0
              cases hl0
          · rw [upd_ne fun z => ?_]
            · exact upd_same
            · rw [z, k1] at hl0
              cases hl0
          · have bk2 := BkAt.first (H := H) k1 k2 k3 hv (back hl0) hl0 hq
            have keep : ∀ u o, H4 u = some o → u ≠ D → upd (upd (upd H4 l0 (.lst [])) D (.dT (putK ks (idK y) (.ref l0)))) l0 (.lst ([] ++ [.ref q0])) u = some o := fun u o z n => by
              rw [upd_ne fun w0 => ?_, upd_ne n]
              · exact s5 _ _ z
              · rw [w0, hl0] at z
                cases z
            refine ⟨some (.ref a), putE B y (rdF B y ++ [e.1]), rfl, fun u o z n => keep u o (m1 _ _ z n) fun w0 => ?_, keep _ _ m2 nDp, keep _ _ hq fun w0 => ?_, bk2, bi.add ok he hy⟩
            · rw [w0, hD] at z
              cases z
            · rw [w0, k1] at hq
              cases hq
      · rintro σ H4 ⟨c3, B, rfl, m1, m2, hq, bk, bi⟩
        rw [ul] at bi
        exact ⟨_, _, B, rfl, m1, m2, bk, bi.next he⟩
    · rintro σ H3 ⟨c2, c3, B, rfl, m1, m2, ⟨ks, k1, k2, k3⟩, bi⟩
      refine ⟨m2, _, rfl, ?_⟩
      rw [en.len] at bi
      have keep : ∀ u o, H3 u = some o → u ≠ p → upd H3 p (.dT kvs) u = some o := fun u o z n => by
        rw [upd_ne n]
        exact z
      refine q D _ B (fun u o z => ?_) hD ⟨ks, keep _ _ k1 nDp.symm, k2.imp fun kv d hh => ⟨hh.1, ?_⟩⟩ bi.nd bi.nds fun y x => ?_
      · by_cases n : u = p
        · rw [n, upd_same, ← hp, ← n]
          exact z
        · exact keep _ _ (m1 _ _ z n) n
      · obtain ⟨_, l, us, a1, _, a3, a4⟩ := hh
        refine ⟨l, us, a1, keep _ _ a3 fun z => ?_, a4.mono fun b xs z => keep _ _ z fun w0 => ?_⟩
        · rw [z, m2] at a3
          cases a3
        · rw [w0, m2] at z
          cases z
      · rw [bi.mem y x, List.take_length]
        constructor
        · rintro (⟨d, hd, rfl, m⟩ | ⟨d, hd, _⟩)
          · rw [rdF_at ok.nd hd]
            exact m
          · rw [List.getElem?_eq_none (Nat.le_refl _)] at hd
            cases hd
        · intro m
          obtain ⟨l, hl, m2, _⟩ := rdF_mem m
          exact Or.inl ⟨_, hl, rfl, m2⟩
/-! ### what is reached -/
/-- a dict whose keys are these cells -/
def DAt (v : V) (H : Hp) (D : Addr) (F : List Z) : Prop := H D = some (.dT (F.map fun z => (idK z, v)))
theorem cls_dp {K : PySem.W.Frag} {H : Hp} : ∀ {vs : List V} {zs : List Z}, Cls H vs zs → DpAll K H vs (zs.map idD)
  | _, _, .nil => .nil
  | _, _, .cons h r => .cons (.tup (SqT.of h) (.cons (.int _) (.cons (.int _) .nil))) (cls_dp r)
theorem ids_lay : ∀ S : List Z, PyData.canLayAll0 (S.map idD) = true ∧ PyData.depthAll (S.map idD) ≤ 2
  | [] => ⟨by simp [PyData.canLayAll0], by simp [PyData.depthAll]⟩
  | z :: r => by
    obtain ⟨h1, h2⟩ := ids_lay r
    refine ⟨?_, ?_⟩
    · simp [PyData.canLayAll0, h1, idD, PyData.canLay0]
    · simp [PyData.depthAll, idD, PyData.depth]
      omega
theorem ids_shaped (S : List Z) : SeqAt.shaped (.list (S.map idD)) = true := by
  obtain ⟨h1, h2⟩ := ids_lay S
  simp [SeqAt.shaped, PyData.canLay0, PyData.depth, h1]
  omega
theorem cls_last {H : Hp} : ∀ {us : List V} {S : List Z} {c : Z}, Cls H us (S ++ [c]) → ∃ us' q, us = us' ++ [.ref q] ∧ Cls H us' S ∧ H q = some (.tup [.int c.1, .int c.2])
  | _, [], c, .cons (q := q) h .nil => ⟨[], q, rfl, .nil, h⟩
  | _, z :: S, c, .cons (q := q) h r => by
    obtain ⟨us', q', e, h1, h2⟩ := cls_last r
    exact ⟨.ref q :: us', q', by rw [e]; rfl, .cons h h1, h2⟩
theorem lead_last {α : Type} {g : α → List α} {x y : α} (h : Lead g x y) : ∃ z, y ∈ g z := by
  cases h with
  | one h => exact ⟨_, h⟩
  | more _ h => exact ⟨_, h⟩
theorem keys_val {F : List Z} {v : V} {y : Z} : valV (F.map fun z => (idK z, v)) (idK y) = if y ∈ F then some v else none := by
  induction F with
  | nil => rfl
  | cons z r ih =>
    by_cases h : z = y
    · subst h
      simp [valV]
    · have n : idK z ≠ idK y := fun e => h (idK_inj e)
      have m : (y ∈ z :: r) ↔ y ∈ r := by simp [Ne.symm h]
      simp only [m]
      rw [← ih]
      simp [valV, n]
theorem eqvAll_nil : ∀ {l : List PyData}, PyData.eqvAll l [] = l.isEmpty
  | [] => by simp [PyData.eqvAll]
  | _ :: _ => by simp [PyData.eqvAll]
/-- unlocked, or walked just now -/
def Rdd (H : Hp) (p : Addr) (kvs : List (List Key × V)) : Prop := H p = some (.dT kvs) ∨ ∃ od, H p = some (.frz od (.dT kvs))
theorem Rdd.same {H H' : Hp} {p : Addr} {kvs : List (List Key × V)} (s : Same H H') (h : Rdd H p kvs) : Rdd H' p kvs := h.imp (s _ _) fun ⟨od, e⟩ => ⟨od, s _ _ e⟩
def RdAl (H : Hp) (p : Addr) (R : List (Z × List Z)) : Prop := ∃ kvs, Rdd H p kvs ∧ Ents idK (CAt H) kvs R
theorem RdAt.al {H : Hp} {p : Addr} {R : List (Z × List Z)} (h : RdAt H p R) : RdAl H p R := let ⟨kvs, h1, h2⟩ := h; ⟨kvs, .inl h1, h2⟩
def spReached (K : PySem.W.Frag) : Sp := fun vs H Q _ => ∃ (p a : Addr) (r c : Int) (B : List (Z × List Z)) (s : Z), vs = [.ref p, .ref a] ∧ RdAl H p B ∧ r * c ≤ 60 ∧ (∀ z, ∀ y ∈ rdF B z, 0 ≤ y.1 ∧ y.1 < r ∧ 0 ≤ y.2 ∧ y.2 < c) ∧ H a = some (.tup [.int s.1, .int s.2]) ∧
  ∀ (D : Addr) (H' : Hp) (F : List Z), Same H H' → H D = none → DAt (.bl true) H' D F → F.Nodup → (∀ y, y ∈ F ↔ Lead (rdF B) s y) → Q (.ref D) H'
theorem okReached (T : Txt K mg) : FnOk P w K mg base CX0 1 T.fReached T.fdReached ["steps", "start"] (spReached K) := by
  refine T.FReached.ok scReached (fun vs H Q E h => ?_) (fun cdv A outer s H vs Q E hr h => ?_)
  · obtain ⟨p, a, r, c, B, s0, rfl, _⟩ := h
    rfl
  · obtain ⟨p, a, r, c, B, s0, rfl, ⟨kvs, hp, en⟩, few, ins, ha, q⟩ := h
    -- slots steps=0 start=1 found=2 waiting=3 cell=4 other=5
    refine ⟨_, (pss_cons (ps_set (i := 2) scReached.nd rfl (Or.inl rfl) pe_dnewT)
        (pss_cons (ps_set (i := 3) scReached.nd rfl (Or.inl rfl) (pe_lst (pa_cons (pv 1) pa_nil)))
        (pss_cons (ps_while PassesOwn.never (pt_cmpR (op_neD hr.units) (pv 3) (pe_lst pa_nil) (nomark _))
          (pss_cons (ps_set (i := 4) scReached.nd rfl (Or.inl rfl) (pe_bm0 PySem.F.plainAttrs_list PySem.F.slot_list_pop PySem.F.type_list_pop mt_pop (pv 3)))
          (pss_one (ps_for PassesOwn.never rfl (pi_list (pe_dget2 (units2 hr) (pv 0) (pv 4) (pe_lst pa_nil) ⟨rfl, rfl, rfl, rfl⟩)) (pg_name (i := 5) scReached.nd rfl (Or.inl rfl))
            (pss_one (ps_if (pt_cmp (pc_dnotin (units2 hr) (pv 5) (pv 2)))
              (pss_cons (ps_dput (units2 hr) (pv 2) (pv 5) pe_bl rfl)
              (pss_one (ps_expr (pe_bm PySem.F.plainAttrs_list PySem.F.slot_list_append PySem.F.type_list_append mt_append (pv 3) (pa_cons (pv 5) pa_nil)))))
              pss_nil))))))
        (pss_one (ps_ret (pv 2)))))), ?_⟩
    refine fun D hD => ?_
    have s1 := same_new (o := .dT []) hD
    refine ⟨_, rfl, (by show 1 ≤ sizeLine; decide), fun L hL => ?_⟩
    have nLD : L ≠ D := fun z => by
      rw [z, upd_same] at hL
      cases hL
    have hLn : H L = none := s1.free hL
    refine ⟨fun m σ H' => ∃ (c4 c5 : Option V) (F S : List Z) (us : List V), σ = [some (.ref p), some (.ref a), some (.ref D), some (.ref L), c4, c5] ∧ Same H H' ∧ DAt (.bl true) H' D F ∧ H' L = some (.lst us) ∧ Cls H' us S ∧ Dfs (rdF B) s0 F S ∧ m = 2 * (60 - F.length) + S.length ∧ m ≤ 121, ⟨_, _, _, [], [s0], [.ref a], rfl, s1.trans (same_new hL), ?_, upd_same, .cons ((s1.trans (same_new hL)) _ _ ha) .nil, Dfs.start, rfl, by show 2 * (60 - 0) + 1 ≤ 121; decide⟩, ?_⟩
    · show (upd (upd H D (.dT [])) L (.lst [.ref a])) D = some (.dT [])
      rw [upd_ne nLD.symm]
      exact upd_same
    · rintro m σ H1 ⟨c4, c5, F, S, us, rfl, s2, hF, hL1, cl, df, rfl, hm⟩
      refine ⟨_, rfl, Nat.zero_le _, fun l1 hl1 => ⟨.list (S.map idD), .list [], .lst (SqL.of (same_new hl1 _ _ hL1)) (cls_dp (cl.mono (TK.of (same_new hl1)))), .lst (SqL.of upd_same) .nil, ids_shaped S, ids_shaped [], ?_⟩⟩
      have s3 := same_new (o := .lst []) hl1
      rcases List.eq_nil_or_concat S with rfl | ⟨S', cc, rfl⟩
      · refine ⟨false, by simp [PyData.eqv, eqvAll_nil], iteF ⟨_, rfl, q D _ F (s2.trans s3) hD (s3 _ _ hF) df.nd fun y => df.end⟩⟩
      · rw [List.concat_eq_append] at cl df hm ⊢
        obtain ⟨us', qc, rfl, cl', hqc⟩ := cls_last cl
        have hL3 := s3 _ _ hL1
        refine ⟨true, by simp [PyData.eqv, List.map_append, eqvAll_nil], iteT ⟨_, fun σ' H' n => n, ?_⟩⟩
        refine ⟨_, rfl, .inl ⟨rfl, _, SqL.of hL3⟩, L, _, .ref qc, rfl, rfl, hL3, by simp, ?_⟩
        rw [List.dropLast_concat]
        have s4 : Same H (upd (upd H1 l1 (.lst [])) L (.lst us')) := same_mut (s2.trans s3) hLn
        have tk4 : TK H1 (upd (upd H1 l1 (.lst [])) L (.lst us')) := fun b xs e => tk_lst hL3 b xs (s3 _ _ e)
        have hF4 : DAt (.bl true) (upd (upd H1 l1 (.lst [])) L (.lst us')) D F := by
          show (upd (upd H1 l1 (.lst [])) L (.lst us')) D = _
          rw [upd_ne nLD.symm]
          exact s3 _ _ hF
        have hL4 : (upd (upd H1 l1 (.lst [])) L (.lst us')) L = some (.lst us') := upd_same
        have cl4 := cl'.mono tk4
        have hqc4 := tk4 _ _ hqc
        generalize upd (upd H1 l1 (.lst [])) L (.lst us') = H4 at s4 hF4 hL4 cl4 hqc4 ⊢
        refine ⟨_, rfl, p, rfl, .inr ⟨kvs, hp.same s4⟩, _, rfl, Nat.zero_le _, fun l2 hl2 => ?_⟩
        have s5 := same_new (o := .lst []) hl2
        obtain ⟨la, xs, ela, hla, clx, nla⟩ : ∃ la xs, (valV kvs (idK cc)).getD (.ref l2) = .ref la ∧ (upd H4 l2 (.lst [])) la = some (.lst xs) ∧ Cls (upd H4 l2 (.lst [])) xs (rdF B cc) ∧ la ≠ L := by
          obtain ⟨e1, e2⟩ := ents_get (fun _ _ => idK_inj) en cc
          unfold rdF
          cases e : getE B cc with
          | none =>
            rw [e1 e]
            refine ⟨l2, [], rfl, upd_same, .nil, fun z => ?_⟩
            rw [z, hL4] at hl2
            cases hl2
          | some zs =>
            obtain ⟨v, ev, l, ws, rfl, h1, h2⟩ := e2 zs e
            rw [ev]
            refine ⟨l, ws, rfl, s5 _ _ (s4 _ _ h1), h2.mono (TK.of (s4.trans s5)), fun z => ?_⟩
            rw [z, hLn] at h1
            cases h1
        refine ⟨_, .inr ⟨kvs, idK cc, qc, (hp.same s4).same s5, rfl, s5 _ _ hqc4, rfl⟩, la, ela, ⟨xs, SqL.of hla⟩, ?_⟩
        refine for_it (walk_list (a := la) (xs := xs)) (fun j σ H' => ∃ (c5 : Option V) (F' S2 : List Z) (us : List V), σ = [some (.ref p), some (.ref a), some (.ref D), some (.ref L), some (.ref qc), c5] ∧ Same H H' ∧ DAt (.bl true) H' D F' ∧ H' L = some (.lst us) ∧ Cls H' us S2 ∧ Cls H' xs (rdF B cc) ∧ H' la = some (.lst xs) ∧ Dfi (rdF B) s0 cc ((rdF B cc).take j) F' S2 ∧ 2 * (60 - F'.length) + S2.length + 1 ≤ 2 * (60 - F.length) + (S' ++ [cc]).length) ⟨_, F, S', us', rfl, s4.trans s5, s5 _ _ hF4, s5 _ _ hL4, cl4.mono (TK.of s5), clx, hla, df.pop, by rw [List.length_append]; exact Nat.le_refl _⟩ (fun j σ H' _ ⟨_, _, _, _, _, _, _, _, _, _, h, _⟩ => SqL.of h) ?_ ?_
        · rintro j x σ HY H6 hj ⟨c5, F', S2, us, rfl, s6, hF6, hL6, cl6, clx6, hla6, di, ms⟩ ⟨rfl, hx⟩
          obtain ⟨b, y, rfl, hy, hb⟩ := clx6.get j x hx
          refine ⟨_, rfl, _, rfl, D, _, rfl, DGet.t (k := idK y) hF6 hb, ?_⟩
          have tkn : (rdF B cc).take (j + 1) = (rdF B cc).take j ++ [y] := by
            rw [List.take_add_one, hy]
            rfl
          rw [keys_val]
          by_cases my : y ∈ F'
          · rw [if_pos my]
            exact ⟨false, rfl, iteF ⟨_, F', S2, us, rfl, s6, hF6, hL6, cl6, clx6, hla6, by rw [tkn]; exact di.skip my, ms⟩⟩
          · rw [if_neg my]
            have my2 : y ∈ rdF B cc := List.mem_of_getElem? hy
            have di2 := di.add my2 my
            have lf : F'.length + 1 ≤ 60 := by
              have := cells_few few di2.nd fun z hz => by
                obtain ⟨w0, hw⟩ := lead_last (di2.led z hz)
                exact ins w0 z hw
              rwa [List.length_append] at this
            have lS : us.length ≤ 1000 := by
              have := cl6.len
              omega
            have nk : ∀ e ∈ F'.map fun z => (idK z, V.bl true), e.1 ≠ idK y := fun e he z => by
              obtain ⟨w0, hw, rfl⟩ := List.mem_map.mp he
              exact my (by rw [← idK_inj z]; exact hw)
            refine ⟨true, rfl, iteT ⟨_, rfl, _, rfl, D, _, rfl, DPut.t (k := idK y) hF6 hb (small1000 (by rw [List.length_map]; omega)), ?_⟩⟩
            have hDn6 : H6 L ≠ H6 D := fun z => by
              rw [hL6, hF6] at z
              cases z
            have u1 : upd H6 D (.dT (putK (F'.map fun z => (idK z, V.bl true)) (idK y) (.bl true))) L = some (.lst us) := by
              rw [upd_ne nLD]
              exact hL6
            have hub : ∀ {u : Addr} {o : HO}, H6 u = some o → u ≠ D → u ≠ L → upd (upd H6 D (.dT (putK (F'.map fun z => (idK z, V.bl true)) (idK y) (.bl true)))) L (.lst (us ++ [.ref b])) u = some o := fun {u o} z n1 n2 => by
              rw [upd_ne n2, upd_ne n1]
              exact z
            have tk6 : TK H6 (upd (upd H6 D (.dT (putK (F'.map fun z => (idK z, V.bl true)) (idK y) (.bl true)))) L (.lst (us ++ [.ref b]))) := fun u xs z => hub z (fun w0 => by rw [w0, hF6] at z; cases z) (fun w0 => by rw [w0, hL6] at z; cases z)
            refine ⟨_, rfl, .inl ⟨rfl, us, SqL.of u1⟩, _, rfl, L, us, .ref b, rfl, rfl, u1, small1000 lS, ?_⟩
            refine ⟨_, F' ++ [y], S2 ++ [y], us ++ [.ref b], rfl, fun u o z => hub (s6 _ _ z) (fun w0 => by rw [w0, hD] at z; cases z) (fun w0 => by rw [w0, hLn] at z; cases z), ?_, upd_same, (cl6.mono tk6).snoc (tk6 _ _ hb), clx6.mono tk6, hub hla6 (fun w0 => by rw [w0, hF6] at hla6; cases hla6) nla, by rw [tkn]; exact di2, ?_⟩
            · show upd (upd H6 D _) L _ D = _
              rw [upd_ne nLD.symm, upd_same, putK_fresh nk, List.map_append]
              rfl
            · rw [List.length_append, List.length_append, List.length_singleton]
              omega
        · rintro σ H6 ⟨c5, F', S2, us, rfl, s6, hF6, hL6, cl6, clx6, hla6, di, ms⟩
          rw [clx.len, List.take_length] at di
          exact ⟨_, by omega, _, _, F', S2, us, rfl, s6, hF6, hL6, cl6, di.end, rfl, by omega⟩
/-! ### the least numbers of steps -/
def stK (st : List (Z × Nat)) : List (List Key × V) := st.map fun e => (idK e.1, V.int (e.2 : Int))
theorem stK_keys {st : List (Z × Nat)} {x : Z} : (x ∉ st.map Prod.fst → valV (stK st) (idK x) = none) ∧ ((st.map Prod.fst).Nodup → ∀ n, (x, n) ∈ st → valV (stK st) (idK x) = some (.int (n : Int))) := by
  constructor
  · intro h
    cases e : valV (stK st) (idK x) with
    | none => rfl
    | some v =>
      obtain ⟨d, hd, e2⟩ := List.mem_map.mp (valV_in e)
      exact absurd (List.mem_map.mpr ⟨d, hd, idK_inj (Prod.mk.inj e2).1⟩) h
  · intro nd n m
    have nk : ((stK st).map Prod.fst).Nodup := by
      have e : (stK st).map Prod.fst = (st.map Prod.fst).map idK := by
        unfold stK
        rw [List.map_map, List.map_map]
        rfl
      rw [e]
      exact List.pairwise_map.mpr (nd.imp fun h z => h (idK_inj z))
    exact valV_own nk _ (List.mem_map.mpr ⟨_, m, rfl⟩)
def spSteps (K : PySem.W.Frag) : Sp := fun vs H Q _ => ∃ (p a : Addr) (r c : Int) (Rd : List (Z × List Z)) (t : Z), vs = [.ref p, .ref a] ∧ RdAt H p Rd ∧ RdOk r c Rd ∧ (0 ≤ t.1 ∧ t.1 < r ∧ 0 ≤ t.2 ∧ t.2 < c) ∧ H a = some (.tup [.int t.1, .int t.2]) ∧
  ∀ (D : Addr) (H' : Hp) (st : List (Z × Nat)), Same H H' → H D = none → H' D = some (.dT (stK st)) → (st.map Prod.fst).Nodup → (∀ x n, (x, n) ∈ st ↔ Lev (rdF Rd) t n x) → Q (.ref D) H'
theorem okStepsTo (T : Txt K mg) : FnOk P w K mg base CX0 2 T.fStepsTo T.fdStepsTo ["reads", "cell"] (spSteps K) := by
  refine T.FStepsTo.ok scStepsTo (fun vs H Q E h => ?_) (fun cdv A outer s H vs Q E hr h => ?_)
  · obtain ⟨p, a, r, c, Rd, t, rfl, _⟩ := h
    rfl
  · obtain ⟨p, a, r, c, Rd, t, rfl, hR, ok, ti, ha, q⟩ := h
    -- slots reads=0 cell=1 readers=2 steps=3 found=4 at=5 last=6 reader=7
    refine ⟨_, (pss_cons (ps_set (i := 2) scStepsTo.nd rfl (Or.inl rfl) (pe_call (okReadersOf T) (hr.mono (by decide)) (by rfl) T.gReadersOf T.FReadersOf.kp T.bReadersOf .nil pass0 (pa_cons (pv 0) pa_nil)))
        (pss_cons (ps_set (i := 3) scStepsTo.nd rfl (Or.inl rfl) (pe_d1T (units2 hr) (pv 1) pe_int))
        (pss_cons (ps_set (i := 4) scStepsTo.nd rfl (Or.inl rfl) (pe_lst (pa_cons (pv 1) pa_nil)))
        (pss_cons (ps_set (i := 5) scStepsTo.nd rfl (Or.inl rfl) pe_int)
        (pss_cons (ps_while PassesOwn.never (pt_cmpR op_lt (pv 5) (pe_callB call_len_seq (by rfl) T.z_len PySem.boot_len (pa_cons (pv 4) pa_nil)) (nomark _))
          (pss_cons (ps_set (i := 6) scStepsTo.nd rfl (Or.inl rfl) (pe_ix ix_list (pv 4) (pv 5) (fun _ _ => rfl)))
          (pss_cons (ps_for PassesOwn.never rfl (pi_list (pe_dget2 (units2 hr) (pv 2) (pv 6) (pe_lst pa_nil) ⟨rfl, rfl, rfl, rfl⟩)) (pg_name (i := 7) scStepsTo.nd rfl (Or.inl rfl))
            (pss_one (ps_if (pt_cmp (pc_dnotin (units2 hr) (pv 7) (pv 3)))
              (pss_cons (ps_dput (units2 hr) (pv 3) (pv 7) (pe_op op_add (pe_dget (units2 hr) (pv 3) (pv 6) (fun _ _ => rfl)) pe_int) rfl)
              (pss_one (ps_expr (pe_bm PySem.F.plainAttrs_list PySem.F.slot_list_append PySem.F.type_list_append mt_append (pv 4) (pa_cons (pv 7) pa_nil)))))
              pss_nil)))
          (pss_one (ps_set (i := 5) scStepsTo.nd rfl (Or.inl rfl) (pe_op op_add (pv 5) pe_int))))))
        (pss_one (ps_ret (pv 3)))))))), ?_⟩
    refine ⟨_, rfl, p, r, c, Rd, rfl, hR, ok, fun P HB B sB hPn hB ndB ndsB memB => ?_⟩
    refine fun D hD => ⟨_, rfl, _, DPut.t (k := idK t) upd_same (same_new hD _ _ (sB _ _ ha)) (small1000 (by show 0 ≤ 1000; decide)), ?_⟩
    have hDn : H D = none := sB.free hD
    have sD : Same HB (upd (upd HB D (.dT [])) D (.dT (putK [] (idK t) (.int 0)))) := same_mut (same_new hD) hD
    have eD : (upd (upd HB D (.dT [])) D (.dT (putK [] (idK t) (.int 0)))) D = some (.dT (stK [(t, 0)])) := upd_same
    generalize upd (upd HB D (.dT [])) D (.dT (putK [] (idK t) (.int 0))) = H1 at sD eD ⊢
    refine ⟨_, rfl, (by show 1 ≤ sizeLine; decide), fun L hL => ?_⟩
    have s2 := same_new (o := .lst [.ref a]) hL
    have nLD : L ≠ D := fun z => by
      rw [z, eD] at hL
      cases hL
    have hLn : HB L = none := sD.free hL
    have bound : ∀ {i : Nat} {st : List (Z × Nat)}, Bfs (rdF Rd) t i st → st.length ≤ 60 := fun {i st} b => by
      have := cells_few ok.few b.nd fun y hy => by
        obtain ⟨e, he, rfl⟩ := List.mem_map.mp hy
        have w := b.way e he
        cases en : e.2 with
        | zero =>
          rw [en] at w
          rw [show e.1 = t from w]
          exact ti
        | succ n =>
          by_cases et : e.1 = t
          · rw [et]
            exact ti
          · obtain ⟨m, _, lv⟩ := way_lev w
            cases m with
            | zero => exact absurd (lev_0 lv) et
            | succ m =>
              obtain ⟨_, z, hz, _⟩ := lev_succ.mp lv
              obtain ⟨l, hl, _⟩ := rdF_mem hz
              exact ok.key _ hl
      rwa [List.length_map] at this
    refine ⟨fun m σ H' => ∃ (c6 c7 : Option V) (i : Nat) (st : List (Z × Nat)) (us : List V), σ = [some (.ref p), some (.ref a), some (.ref P), some (.ref D), some (.ref L), some (.int (i : Int)), c6, c7] ∧ Same HB H' ∧ H' D = some (.dT (stK st)) ∧ H' L = some (.lst us) ∧ Cls H' us (st.map Prod.fst) ∧ Bfs (rdF Rd) t i st ∧ i ≤ st.length ∧ m = 61 - i, ⟨_, _, _, 0, [(t, 0)], [.ref a], rfl, sD.trans s2, s2 _ _ eD, upd_same, .cons ((sB.trans (sD.trans s2)) _ _ ha) .nil, Bfs.start, Nat.zero_le _, rfl⟩, ?_⟩
    rintro m σ H2 ⟨c6, c7, i, st, us, rfl, s3, hD2, hL2, cl, bf, li, rfl⟩
    have lus : us.length = st.length := by rw [cl.len, List.length_map]
    have l60 := bound bf
    refine ⟨_, rfl, _, rfl, L, us, rfl, .inl (SqL.of hL2), _, _, rfl, rfl, ?_⟩
    by_cases lt : i < st.length
    · refine ⟨true, congrArg V.bl (decide_eq_true (by omega)), iteT ⟨_, fun σ' H' n => n, ?_⟩⟩
      have hx : us[i]? = some us[i] := List.getElem?_eq_getElem (by omega)
      obtain ⟨qc, zc, eqc, hzc, hqc⟩ := cl.get i _ hx
      rw [eqc] at hx
      obtain ⟨cc, hcc, ezc⟩ : ∃ cc, st[i]? = some cc ∧ cc.1 = zc := by
        rw [List.getElem?_map] at hzc
        exact Option.map_eq_some_iff.mp hzc
      subst ezc
      refine ⟨_, rfl, _, rfl, L, _, _, _, rfl, rfl, SqL.of hL2, atI_nat (j := i) hx, ?_⟩
      obtain ⟨kB, hkB, enB⟩ := hB
      have hPL : P ≠ L := fun z => by
        rw [z, hLn] at hkB
        cases hkB
      refine ⟨_, rfl, P, rfl, .inr ⟨kB, .inl (s3 _ _ hkB)⟩, _, rfl, Nat.zero_le _, fun l2 hl2 => ?_⟩
      have s5 := same_new (o := .lst []) hl2
      obtain ⟨la, xs, ela, hla, clx, nla, nlD⟩ : ∃ la xs, (valV kB (idK cc.1)).getD (.ref l2) = .ref la ∧ (upd H2 l2 (.lst [])) la = some (.lst xs) ∧ Cls (upd H2 l2 (.lst [])) xs (rdF B cc.1) ∧ la ≠ L ∧ la ≠ D := by
        obtain ⟨e1, e2⟩ := ents_get (fun _ _ => idK_inj) enB cc.1
        unfold rdF
        cases e : getE B cc.1 with
        | none =>
          rw [e1 e]
          refine ⟨l2, [], rfl, upd_same, .nil, fun z => ?_, fun z => ?_⟩
          · rw [z, hL2] at hl2
            cases hl2
          · rw [z, hD2] at hl2
            cases hl2
        | some zs =>
          obtain ⟨v, ev, l, ws, rfl, h1, h2⟩ := e2 zs e
          rw [ev]
          refine ⟨l, ws, rfl, s5 _ _ (s3 _ _ h1), h2.mono (TK.of (s3.trans s5)), fun z => ?_, fun z => ?_⟩
          · rw [z, hLn] at h1
            cases h1
          · rw [z, hD] at h1
            cases h1
      refine ⟨_, DGet.t (k := idK cc.1) (s5 _ _ (s3 _ _ hkB)) (s5 _ _ hqc), la, ela, ⟨xs, SqL.of hla⟩, ?_⟩
      refine for_it (walk_list (a := la) (xs := xs)) (fun j σ H' => ∃ (c7 : Option V) (st : List (Z × Nat)) (us : List V), σ = [some (.ref p), some (.ref a), some (.ref P), some (.ref D), some (.ref L), some (.int (i : Int)), some (.ref qc), c7] ∧ Same HB H' ∧ H' D = some (.dT (stK st)) ∧ H' L = some (.lst us) ∧ Cls H' us (st.map Prod.fst) ∧ Cls H' xs (rdF B cc.1) ∧ H' la = some (.lst xs) ∧ H' qc = some (.tup [.int cc.1.1, .int cc.1.2]) ∧ Bfs (rdF Rd) t i st ∧ st[i]? = some cc ∧ ∀ x ∈ (rdF B cc.1).take j, x ∈ st.map Prod.fst) ⟨_, st, us, rfl, s3.trans s5, s5 _ _ hD2, s5 _ _ hL2, cl.mono (TK.of s5), clx, hla, s5 _ _ hqc, bf, hcc, fun x hx => by rw [List.take_zero] at hx; cases hx⟩ (fun j σ H' _ ⟨_, _, _, _, _, _, _, _, _, h, _⟩ => SqL.of h) ?_ ?_
      · rintro j x σ HY H6 hj ⟨c7, st, us, rfl, s6, hD6, hL6, cl6, clx6, hla6, hqc6, bf, hcc, al⟩ ⟨rfl, hx⟩
        obtain ⟨b, y, rfl, hy, hb⟩ := clx6.get j x hx
        have tkn : (rdF B cc.1).take (j + 1) = (rdF B cc.1).take j ++ [y] := by
          rw [List.take_add_one, hy]
          rfl
        have l60 := bound bf
        have lus : us.length = st.length := by rw [cl6.len, List.length_map]
        refine ⟨_, rfl, _, rfl, D, _, rfl, DGet.t (k := idK y) hD6 hb, ?_⟩
        by_cases my : y ∈ st.map Prod.fst
        · obtain ⟨e, he, e1⟩ := List.mem_map.mp my
          have ev := (stK_keys (x := y)).2 bf.nd e.2 (by rw [← e1]; exact he)
          rw [ev]
          refine ⟨false, rfl, iteF ⟨_, st, us, rfl, s6, hD6, hL6, cl6, clx6, hla6, hqc6, bf, hcc, fun x hx => ?_⟩⟩
          rw [tkn] at hx
          rcases List.mem_append.mp hx with h | h
          · exact al x h
          · rw [List.mem_singleton.mp h]
            exact my
        · rw [(stK_keys (x := y)).1 my]
          have my2 : cc.1 ∈ rdF Rd y := (memB cc.1 y).mp (List.mem_of_getElem? hy)
          have dg : DGet H6 D (.ref qc) (some (.int (cc.2 : Int))) := by
            rw [← (stK_keys (x := cc.1)).2 bf.nd cc.2 (List.mem_of_getElem? hcc)]
            exact DGet.t (k := idK cc.1) hD6 hqc6
          have nk : ∀ e ∈ stK st, e.1 ≠ idK y := fun e he z => by
            obtain ⟨w0, hw, rfl⟩ := List.mem_map.mp he
            exact my (List.mem_map.mpr ⟨w0, hw, idK_inj z⟩)
          refine ⟨true, rfl, iteT ⟨_, rfl, _, rfl, D, _, rfl, dg, _, _, rfl, rfl, _, rfl, _, rfl, D, _, rfl, DPut.t (k := idK y) hD6 hb (small1000 (by unfold stK; rw [List.length_map]; omega)), ?_⟩⟩
          have u1 : upd H6 D (.dT (putK (stK st) (idK y) (.int ((cc.2 : Int) + 1)))) L = some (.lst us) := by
            rw [upd_ne nLD]
            exact hL6
          have hub : ∀ {u : Addr} {o : HO}, H6 u = some o → u ≠ D → u ≠ L → upd (upd H6 D (.dT (putK (stK st) (idK y) (.int ((cc.2 : Int) + 1))))) L (.lst (us ++ [.ref b])) u = some o := fun {u o} z n1 n2 => by
            rw [upd_ne n2, upd_ne n1]
            exact z
          have tk6 : TK H6 (upd (upd H6 D (.dT (putK (stK st) (idK y) (.int ((cc.2 : Int) + 1))))) L (.lst (us ++ [.ref b]))) := fun u xs z => hub z (fun w0 => by rw [w0, hD6] at z; cases z) (fun w0 => by rw [w0, hL6] at z; cases z)
          refine ⟨_, rfl, .inl ⟨rfl, us, SqL.of u1⟩, _, rfl, L, us, .ref b, rfl, rfl, u1, small1000 (by omega), ?_⟩
          have li2 := (List.getElem?_eq_some_iff.mp hcc).1
          refine ⟨_, st ++ [(y, cc.2 + 1)], us ++ [.ref b], rfl, fun u o z => hub (s6 _ _ z) (fun w0 => by rw [w0, hD] at z; cases z) (fun w0 => by rw [w0, hLn] at z; cases z), ?_, upd_same, ?_, clx6.mono tk6, hub hla6 nlD nla, tk6 _ _ hqc6, bf.add hcc my2 my, ?_, fun x hx => ?_⟩
          · rw [upd_ne nLD.symm, upd_same, putK_fresh nk]
            unfold stK
            rw [List.map_append]
            rfl
          · rw [List.map_append]
            exact (cl6.mono tk6).snoc (tk6 _ _ hb)
          · rw [List.getElem?_append_left li2]
            exact hcc
          · rw [tkn] at hx
            rw [List.map_append]
            rcases List.mem_append.mp hx with h | h
            · exact List.mem_append_left _ (al x h)
            · exact List.mem_append_right _ (by rw [List.mem_singleton.mp h]; exact List.mem_singleton.mpr rfl)
      · rintro σ H6 ⟨c7, st, us, rfl, s6, hD6, hL6, cl6, clx6, hla6, hqc6, bf, hcc, al⟩
        rw [clx.len, List.take_length] at al
        have li2 := (List.getElem?_eq_some_iff.mp hcc).1
        have l60 := bound bf
        exact ⟨_, rfl, _, _, rfl, rfl, 61 - (i + 1), by omega, _, _, i + 1, st, us, rfl, s6, hD6, hL6, cl6, bf.next hcc fun x hx => al x ((memB cc.1 x).mpr hx), li2, rfl⟩
    · refine ⟨false, congrArg V.bl (decide_eq_false (by omega)), iteF ⟨_, rfl, ?_⟩⟩
      obtain rfl : i = st.length := by omega
      exact q D H2 st (sB.trans s3) hDn hD2 bf.nd fun x n => bf.end
/-! ### the least of cells in order: the first -/
theorem cls_bs {K : PySem.W.Frag} {H : Hp} : ∀ {us : List V} {zs : List Z}, Cls H us zs → ∃ bs : List (V × PyData), us = bs.map Prod.fst ∧ zs.map idD = bs.map Prod.snd ∧ ∀ b ∈ bs, Dp K H b.1 b.2 ∧ ∃ q y, y ∈ zs ∧ b.1 = .ref q ∧ b.2 = idD y ∧ H q = some (.tup [.int y.1, .int y.2])
  | _, _, .nil => ⟨[], rfl, rfl, fun _ h => nomatch h⟩
  | _, _, .cons (q := q) (z := z) h r => by
    obtain ⟨bs, e1, e2, e3⟩ := cls_bs (K := K) r
    refine ⟨(.ref q, idD z) :: bs, by rw [e1]; rfl, by rw [List.map_cons, e2]; rfl, fun b hb => ?_⟩
    rcases List.mem_cons.mp hb with rfl | hb
    · exact ⟨.tup (SqT.of h) (.cons (.int _) (.cons (.int _) .nil)), q, z, List.mem_cons_self, rfl, rfl, h⟩
    · obtain ⟨a, q', y, my, b1, b2, b3⟩ := e3 b hb
      exact ⟨a, q', y, List.mem_cons_of_mem _ my, b1, b2, b3⟩
theorem idD_inj {z w : Z} (h : idD z = idD w) : z = w := by
  unfold idD at h
  have h := PyData.tuple.inj h
  exact Prod.ext (PyData.int.inj (List.cons.inj h).1) (PyData.int.inj (List.cons.inj (List.cons.inj h).2).1)
theorem ids_alike (zs : List Z) : PySem.W.AlikeAll (zs.map idD) := by
  refine ⟨fun x hx y hy => ?_, fun x hx z => ?_⟩
  · obtain ⟨a, _, rfl⟩ := List.mem_map.mp hx
    obtain ⟨b, _, rfl⟩ := List.mem_map.mp hy
    simp [idD, PySem.W.alike, PySem.W.alikeAll]
  · obtain ⟨a, _, rfl⟩ := List.mem_map.mp hx
    cases z
theorem min_cells {K : PySem.W.Frag} {H : Hp} {M : Addr} {us : List V} {z : Z} {zs : List Z} {Q : VK} (hM : H M = some (.lst us)) (cl : Cls H us (z :: zs)) (so : (z :: zs).Pairwise ltK) (q : ∀ b, H b = some (.tup [.int z.1, .int z.2]) → Q (.ref b) H) : rMinF K [.ref M] H Q := by
  obtain ⟨bs, e1, e2, e3⟩ := cls_bs (K := K) cl
  cases bs with
  | nil => cases e2
  | cons b0 bs =>
    have h0 : b0.2 = idD z := (List.cons.inj e2).1.symm
    have ht : zs.map idD = bs.map Prod.snd := (List.cons.inj e2).2
    refine ⟨M, b0, bs, rfl, by rw [← e1]; exact SqL.of hM, fun b hb => (e3 b hb).1, by rw [← e2]; exact ids_alike _, fun b hb => ?_, fun b hb => ?_, fun b hb e => ?_⟩
    · obtain ⟨_, _, y, _, _, e, _⟩ := e3 b hb
      rw [e]
      simp [idD, PyData.depth, PyData.depthAll]
    · have m : b.2 ∈ zs.map idD := by
        rw [ht]
        exact List.mem_map_of_mem hb
      obtain ⟨y, my, ey⟩ := List.mem_map.mp m
      have lt := (List.pairwise_cons.mp so).1 y my
      rw [← ey, h0]
      unfold idD
      rw [PySem.W.dataLt_ii]
      refine decide_eq_false fun k => ?_
      rcases lt with h | ⟨h, h'⟩ <;> rcases k with k | ⟨k, k'⟩ <;> omega
    · obtain ⟨_, q', y, _, b1, b2, b3⟩ := e3 b hb
      have ey : y = z := idD_inj (b2.symm.trans (e.trans h0))
      rw [b1]
      exact q q' (by rw [← ey]; exact b3)
/-! ### a ring -/
/-- of what x reads, the first cell at this level -/
noncomputable def nxtR (g : Z → List Z) (t : Z) (k : Nat) (x : Z) : Option Z := (g x).find? fun y => @decide (Lev g t k y) (Classical.propDecidable _)
noncomputable def rowR (g : Z → List Z) (t : Z) : Nat → Z → List Z
  | 0, _ => []
  | k + 1, x => match nxtR g t (k + 1) x with
    | some y => y :: rowR g t k y
    | none => []
/-- the least level of what the target reads -/
def Least (g : Z → List Z) (t : Z) (best : Nat) : Prop := (∃ y ∈ g t, Lev g t best y) ∧ ∀ y ∈ g t, ∀ n, Lev g t n y → best ≤ n
def RingV (H : Hp) (v : V) (g : Z → List Z) (t : Z) : Prop := (v = .non ∧ ∀ y ∈ g t, ∀ n, ¬ Lev g t n y) ∨ ∃ best p us, v = .ref p ∧ H p = some (.lst us) ∧ Cls H us (t :: rowR g t best t) ∧ Least g t best
theorem rds_fn {r c : Int} {W : WC} {N : NA} {R R' : List (Z × List Z)} (h : RdsOf r c W N R) (h' : RdsOf r c W N R') : rdF R = rdF R' := funext fun z => by
  have one : ∀ {R : List (Z × List Z)}, RdsOf r c W N R → (rdF R z).Pairwise ltK ∧ ∀ y, y ∈ rdF R z ↔ z ∈ W.map Prod.fst ∧ y ∈ readsOf W N z := fun {R} h => by
    by_cases m : z ∈ R.map Prod.fst
    · obtain ⟨e, he, rfl⟩ := List.mem_map.mp m
      rw [rdF_at h.nd he]
      exact ⟨h.ord e he, fun y => ⟨fun k => ⟨(h.keys e.1).mp m, (h.mem e he y).mp k⟩, fun k => (h.mem e he y).mpr k.2⟩⟩
    · have e : rdF R z = [] := by
        unfold rdF
        cases g : getE R z with
        | none => rfl
        | some l => exact absurd (List.mem_map_of_mem (getE_key g)) m
      rw [e]
      exact ⟨List.Pairwise.nil, fun y => ⟨fun k => (nomatch k), fun k => absurd ((h.keys z).mpr k.1) m⟩⟩
  obtain ⟨a1, a2⟩ := one h
  obtain ⟨b1, b2⟩ := one h'
  exact ord_one a1 b1 fun y => (a2 y).trans (b2 y).symm
theorem lev_down {g : Z → List Z} {t : Z} : ∀ {n : Nat} {x : Z}, Lev g t n x → ∀ k, k ≤ n → ∃ z, Lev g t k z
  | 0, x, h, k, le => ⟨x, by rw [Nat.le_zero.mp le]; exact h⟩
  | n + 1, x, h, k, le => by
    rcases Nat.lt_or_ge n k with q | q
    · exact ⟨x, by rw [show k = n + 1 by omega]; exact h⟩
    · obtain ⟨_, y, _, hy⟩ := lev_succ.mp h
      exact lev_down hy k q
theorem lev_len {g : Z → List Z} {t : Z} {D : List Z} (key : ∀ z, (∃ y, y ∈ g z) → z ∈ D) {n : Nat} {x : Z} (h : Lev g t n x) : n ≤ D.length := lev_many fun k h1 h2 => by
  obtain ⟨z, hz⟩ := lev_down h k h2
  cases k with
  | zero => omega
  | succ k =>
    obtain ⟨_, y, hy, _⟩ := lev_succ.mp hz
    exact ⟨z, key z ⟨y, hy⟩, hz⟩
noncomputable def isL (g : Z → List Z) (t : Z) (k : Nat) (y : Z) : Bool := @decide (Lev g t k y) (Classical.propDecidable _)
theorem isL_iff {g : Z → List Z} {t : Z} {k : Nat} {y : Z} : isL g t k y = true ↔ Lev g t k y := @decide_eq_true_iff _ (Classical.propDecidable _)
def spRingOf (K : PySem.W.Frag) (C0 : Addr) : Sp := fun vs H Q _ => ∃ (g : Gr) (W : WC) (N : NA) (R C : Int) (a : Addr) (t : Z), vs = [.ref g.G, .ref a] ∧ GD K C0 H g (cdW W) (nmA N) ∧ Wld R C W N ∧ WOk R C W ∧ W.length ≤ 60 ∧ (0 ≤ t.1 ∧ t.1 < R ∧ 0 ≤ t.2 ∧ t.2 < C) ∧ H a = some (.tup [.int t.1, .int t.2]) ∧
  ∀ (v : V) (H' : Hp) (Rd : List (Z × List Z)), Same H H' → RdsOf R C W N Rd → RingV H' v (rdF Rd) t → Q v H'
theorem okRingOf (T : Txt K mg) : FnOk P w K mg base CX0 9 T.fRingOf T.fdRingOf ["grid", "cell"] (spRingOf K T.cGrid) := by
  refine T.FRingOf.ok scRingOf (fun vs H Q E h => ?_) (fun cdv A outer s H vs Q E hr h => ?_)
  · obtain ⟨g, W, N, R, C, a, t, rfl, _⟩ := h
    rfl
  · obtain ⟨g, W, N, R, C, a, t, rfl, G, wl, wok, few, ti, ha, q⟩ := h
    -- slots grid=0 cell=1 reads=2 steps=3 left=4 ring=5 other=6
    refine ⟨_, (pss_cons (ps_set (i := 2) scRingOf.nd rfl (Or.inl rfl) (pe_call (okReadsOf T) (hr.mono (by decide)) (by rfl) T.gReadsOf T.FReadsOf.kp T.bReadsOf .nil pass0 (pa_cons (pv 0) pa_nil)))
        (pss_cons (ps_set (i := 3) scRingOf.nd rfl (Or.inr rfl) (pe_call (okStepsTo T) (hr.mono (by decide)) (by rfl) T.gStepsTo T.FStepsTo.kp T.bStepsTo .nil pass0 (pa_cons (pv 2) (pa_cons (pv 1) pa_nil))))
        (pss_cons (ps_set (i := 4) scRingOf.nd rfl (Or.inr rfl) (pe_callBK (cr_minDf rfl (units65b hr)) (by rfl) T.z_min (by decide +kernel) (pa_cons (pe_lc (own := [("other", 6)]) (g := gName 6) rfl scRingOf.nd (pi_list (pe_dget2 (units2 hr) (pv 2) (pv 1) (pe_lst pa_nil) ⟨rfl, rfl, rfl, rfl⟩)) (blkOk_by (own := [("other", 6)]) (N := ["grid", "cell", "reads", "steps", "left", "ring", "other"]) (sc := defScope sRingOf) (by decide +kernel)) (fun _ _ _ _ _ => (pg_name (i := 6) scRingOf.nd rfl (Or.inl rfl))) (fun _ _ _ _ _ => (pts_one (pt_cmp (pc_din (units2 hr) (pv 6) (pv 3))))) (fun _ _ _ _ _ => (pe_dget (units2 hr) (pv 3) (pv 6) (fun _ _ => rfl)))) pa_nil) (pk_cons pe_non pk_nil)))
        (pss_cons (ps_if (pt_cmpR op_isN (pv 4) pe_non (nomark _))
          (pss_one (ps_ret pe_non))
          pss_nil)
        (pss_cons (ps_set (i := 5) scRingOf.nd rfl (Or.inl rfl) (pe_lst (pa_cons (pv 1) pa_nil)))
        (pss_cons (ps_while PassesOwn.never (pt_cmpR op_gt (pv 4) pe_int (nomark _))
          (pss_cons (ps_expr (pe_bm PySem.F.plainAttrs_list PySem.F.slot_list_append PySem.F.type_list_append mt_append (pv 5) (pa_cons (pe_callB (cr_minF rfl (units65b hr)) (by rfl) T.z_min (by decide +kernel) (pa_cons (pe_lc (own := [("other", 6)]) (g := gName 6) rfl scRingOf.nd (pi_list (pe_dget (units2 hr) (pv 2) (pe_ix (ix_listK (K := K) rfl) (pv 5) (pe_un un_neg pe_int) (fun _ _ => rfl)) (fun _ _ => rfl))) (blkOk_by (own := [("other", 6)]) (N := ["grid", "cell", "reads", "steps", "left", "ring", "other"]) (sc := defScope sRingOf) (by decide +kernel)) (fun _ _ _ _ _ => (pg_name (i := 6) scRingOf.nd rfl (Or.inl rfl))) (fun _ _ _ _ _ => (pts_one (pt_cmpR (op_eqDK (K := K) rfl hr.units) (pe_dget1 (units2 hr) (pv 3) (pv 6) ⟨rfl, rfl, rfl, rfl⟩) (pv 4) (nomark _)))) (fun _ _ _ _ _ => (pv 6))) pa_nil)) pa_nil)))
          (pss_one (ps_set (i := 4) scRingOf.nd rfl (Or.inr rfl) (pe_op op_sub (pv 4) pe_int)))))
        (pss_one (ps_ret (pv 5))))))))), ?_⟩
    refine ⟨_, rfl, g, W, N, R, C, rfl, G, wl, wok, few, fun P H1 Rd s1 hPn hR rds => ?_⟩
    refine ⟨_, rfl, _, rfl, P, a, R, C, Rd, t, rfl, hR, rds.toRdOk, ti, s1 _ _ ha, fun D H2 st s2 hDn hD nds lev => ?_⟩
    obtain ⟨kvs, hP, en⟩ := hR
    refine ⟨_, rfl, P, rfl, .inr ⟨kvs, .inl (s2 _ _ hP)⟩, _, rfl, Nat.zero_le _, fun l2 hl2 => ?_⟩
    have s5 := same_new (o := .lst []) hl2
    obtain ⟨la, xs, ela, hla, clx⟩ : ∃ la xs, (valV kvs (idK t)).getD (.ref l2) = .ref la ∧ (upd H2 l2 (.lst [])) la = some (.lst xs) ∧ Cls (upd H2 l2 (.lst [])) xs (rdF Rd t) := by
      obtain ⟨e1, e2⟩ := ents_get (fun _ _ => idK_inj) en t
      unfold rdF
      cases e : getE Rd t with
      | none =>
        rw [e1 e]
        exact ⟨l2, [], rfl, upd_same, .nil⟩
      | some zs =>
        obtain ⟨v, ev, l, ws, rfl, h1, h2⟩ := e2 zs e
        rw [ev]
        exact ⟨l, ws, rfl, s5 _ _ (s2 _ _ h1), h2.mono (TK.of (s2.trans s5))⟩
    refine ⟨_, DGet.t (k := idK t) (s5 _ _ (s2 _ _ hP)) (s5 _ _ (s2 _ _ (s1 _ _ ha))), la, ela, ⟨xs, SqL.of hla⟩, fun M hM => ?_⟩
    have sM := same_new (o := .lst []) hM
    have lenR : (rdF Rd t).length ≤ 60 := by
      by_cases m : rdF Rd t = []
      · rw [m]
        exact Nat.zero_le _
      · obtain ⟨y0, hy0⟩ := List.exists_mem_of_ne_nil _ m
        obtain ⟨l, hl, _, el⟩ := rdF_mem hy0
        rw [el]
        exact cells_few rds.few (ord_nd (rds.ord _ hl)) fun y hy => rds.ins _ hl y hy
    have nMD : M ≠ D := fun z => by
      rw [z, s5 _ _ hD] at hM
      cases hM
    refine lc_it (walk_list (a := la) (xs := xs)) (fun j H' => Same (upd H2 l2 (.lst [])) H' ∧ ∃ ns : List Int, H' M = some (.lst (ns.map V.int)) ∧ ns.length ≤ j ∧ ∀ n : Int, n ∈ ns ↔ ∃ y ∈ (rdF Rd t).take j, ∃ k : Nat, n = k ∧ Lev (rdF Rd) t k y) ⟨sM, [], upd_same, Nat.le_refl _, fun n => ⟨fun h => (nomatch h), fun ⟨y, h, _⟩ => (nomatch h)⟩⟩ (fun j H' _ h => SqL.of (h.1 _ _ hla)) ?_ ?_
    · rintro j x H9 H6 hj ⟨s6, ns, hM6, nl, mem⟩ ⟨rfl, hx⟩
      obtain ⟨b, y, rfl, hy, hb⟩ := clx.get j x hx
      have hD6 := s6 _ _ (s5 _ _ hD)
      have hb6 := s6 _ _ hb
      have dg0 := DGet.t (k := idK y) hD6 hb6
      have tkn : (rdF Rd t).take (j + 1) = (rdF Rd t).take j ++ [y] := by
        rw [List.take_add_one, hy]
        rfl
      refine ⟨rfl, _, rfl, _, rfl, D, _, rfl, dg0, ?_⟩
      by_cases my : y ∈ st.map Prod.fst
      · obtain ⟨e, he, e1⟩ := List.mem_map.mp my
        have ev := (stK_keys (x := y)).2 nds e.2 (by rw [← e1]; exact he)
        rw [ev] at dg0 ⊢
        have lv : Lev (rdF Rd) t e.2 y := (lev y e.2).mp (by rw [← e1]; exact he)
        refine ⟨true, rfl, iteT ⟨_, rfl, _, rfl, D, _, rfl, dg0, _, hM6, small1000 (by rw [List.length_map]; have := lenR; have := clx.len; omega), same_mut s6 hM, ns ++ [(e.2 : Int)], by rw [upd_same, List.map_append]; rfl, by rw [List.length_append]; exact Nat.succ_le_succ nl, fun n => ?_⟩⟩
        rw [List.mem_append, mem n, tkn]
        constructor
        · rintro (⟨w0, hw, k, q1, q2⟩ | h)
          · exact ⟨w0, List.mem_append_left _ hw, k, q1, q2⟩
          · exact ⟨y, List.mem_append_right _ (List.mem_singleton.mpr rfl), e.2, List.mem_singleton.mp h, lv⟩
        · rintro ⟨w0, hw, k, q1, q2⟩
          rcases List.mem_append.mp hw with h | h
          · exact Or.inl ⟨w0, h, k, q1, q2⟩
          · rw [List.mem_singleton.mp h] at q2
            rw [q2.one lv] at q1
            exact Or.inr (List.mem_singleton.mpr q1)
      · rw [(stK_keys (x := y)).1 my]
        refine ⟨false, rfl, iteF ⟨s6, ns, hM6, Nat.le_succ_of_le nl, fun n => ?_⟩⟩
        rw [mem n, tkn]
        constructor
        · rintro ⟨w0, hw, k, q1, q2⟩
          exact ⟨w0, List.mem_append_left _ hw, k, q1, q2⟩
        · rintro ⟨w0, hw, k, q1, q2⟩
          rcases List.mem_append.mp hw with h | h
          · exact ⟨w0, h, k, q1, q2⟩
          · rw [List.mem_singleton.mp h] at q2
            exact absurd (List.mem_map.mpr ⟨_, (lev y k).mpr q2, rfl⟩) my
    · rintro H6 ⟨s6, ns, hM6, nl, mem⟩
      rw [clx.len, List.take_length] at mem
      have s26 : Same H2 H6 := s5.trans s6
      refine ⟨_, ns, rfl, rfl, SqL.of hM6, fun r0 mr => ?_⟩
      cases r0 with
      | none =>
        refine ⟨_, rfl, rfl, true, rfl, iteT (q .non H6 Rd ((s1.trans s2).trans s26) rds (Or.inl ⟨rfl, fun y hy n lv => ?_⟩))⟩
        exact mr n ((mem n).mpr ⟨y, hy, n, rfl, lv⟩)
      | some left =>
        refine ⟨_, rfl, rfl, false, congrArg V.bl (decide_eq_false fun z => nomatch z), iteF ?_⟩
        obtain ⟨y1, hy1, best, rfl, lv1⟩ := (mem left).mp mr.1
        have least : Least (rdF Rd) t best := ⟨⟨y1, hy1, lv1⟩, fun y hy n lv => by
          have := mr.2 n ((mem n).mpr ⟨y, hy, n, rfl, lv⟩)
          omega⟩
        refine ⟨_, rfl, (by show 1 ≤ sizeLine; decide), fun L hL => ?_⟩
        have sL := same_new (o := .lst [.ref a]) hL
        have s02 := s1.trans s2
        have ha7 := sL _ _ (s26 _ _ (s02 _ _ ha))
        refine ⟨fun m σ H' => ∃ (c6 : Option V) (k : Nat) (x : Z) (done : List Z) (us : List V) (ql : Addr), σ = [some (.ref g.G), some (.ref a), some (.ref P), some (.ref D), some (.int (k : Int)), some (.ref L), c6] ∧ Same H6 H' ∧ H' L = some (.lst (us ++ [.ref ql])) ∧ Cls H' (us ++ [.ref ql]) (t :: done) ∧ H' ql = some (.tup [.int x.1, .int x.2]) ∧ done ++ rowR (rdF Rd) t k x = rowR (rdF Rd) t best t ∧ (0 < k → ∃ y ∈ rdF Rd x, Lev (rdF Rd) t k y) ∧ us.length + k = best ∧ m = k, ⟨_, _, best, t, [], [], a, rfl, sL, upd_same, .cons ha7 .nil, ha7, rfl, fun _ => ⟨y1, hy1, lv1⟩, Nat.zero_add _, rfl⟩, ?_⟩
        rintro m σ H7 ⟨c6, k, x, done, us, ql, rfl, s7, hL7, cl7, hq7, row, more, lb, rfl⟩
        refine ⟨_, rfl, _, _, rfl, rfl, ?_⟩
        cases m with
        | zero =>
          refine ⟨false, congrArg V.bl (decide_eq_false (by decide)), iteF ⟨_, rfl, q _ H7 Rd ((s02.trans s26).trans s7) rds (Or.inr ⟨best, L, _, rfl, hL7, ?_, least⟩)⟩⟩
          rw [show rowR (rdF Rd) t 0 x = [] from rfl, List.append_nil] at row
          rw [← row]
          exact cl7
        | succ k =>
          refine ⟨true, congrArg V.bl (decide_eq_true (by omega)), iteT ⟨_, fun σ' H' n => n, ?_⟩⟩
          refine ⟨_, rfl, .inl ⟨rfl, _, SqL.of hL7⟩, ?_⟩
          obtain ⟨y2, hy2, lv2⟩ := more (Nat.succ_pos k)
          obtain ⟨lx, hlx, _, elx⟩ := rdF_mem hy2
          obtain ⟨v, ev, l, ws, rfl, hl1, hl3⟩ := (ents_get (fun _ _ => idK_inj) en x).2 lx (getE_mem rds.nd _ hlx)
          rw [← elx] at hl3
          have s17 : Same H1 H7 := (s2.trans s26).trans s7
          have hl7 := s17 _ _ hl1
          have cl3 := hl3.mono (TK.of s17)
          have dg7 : DGet H7 P (.ref ql) (some (.ref l)) := by
            rw [← ev]
            exact DGet.t (k := idK x) (s17 _ _ hP) hq7
          have lenX : (rdF Rd x).length ≤ 60 := by
            rw [elx]
            exact cells_few rds.few (ord_nd (rds.ord _ hlx)) fun y hy => rds.ins _ hlx y hy
          refine ⟨_, rfl, _, rfl, _, rfl, L, _, _, _, rfl, rfl, SqL.of hL7, atI_last us (.ref ql), P, .ref l, rfl, dg7, l, rfl, ⟨ws, SqL.of hl7⟩, fun M hM => ?_⟩
          have sM := same_new (o := .lst []) hM
          refine lc_it (walk_list (a := l) (xs := ws)) (fun j H' => Same H7 H' ∧ ∃ acc, H' M = some (.lst acc) ∧ acc.length ≤ j ∧ Cls H' acc (((rdF Rd x).take j).filter (isL (rdF Rd) t (k + 1)))) ⟨sM, [], upd_same, Nat.le_refl _, .nil⟩ (fun j H' _ h => SqL.of (h.1 _ _ hl7)) ?_ ?_
          · rintro j x3 HX H8 hj ⟨s8, acc, hM8, al, cla⟩ ⟨rfl, hx3⟩
            obtain ⟨b, y, rfl, hy, hb⟩ := cl3.get j x3 hx3
            have hb8 := s8 _ _ hb
            have tkn : (rdF Rd x).take (j + 1) = (rdF Rd x).take j ++ [y] := by
              rw [List.take_add_one, hy]
              rfl
            have hD8 := s8 _ _ (s7 _ _ (s26 _ _ hD))
            have dg8 := DGet.t (k := idK y) hD8 hb8
            refine ⟨rfl, _, rfl, D, rfl, .inr ⟨_, .inl hD8⟩, _, rfl, _, dg8, ?_⟩
            have lvl : ∀ {o : Option V}, valV (stK st) (idK y) = o → ∃ d, Dp K H8 (o.getD .non) d ∧ SeqAt.shaped d = true ∧ PyData.eqv d (.int ((k + 1 : Nat) : Int)) = isL (rdF Rd) t (k + 1) y := fun {o} eo => by
              by_cases my : y ∈ st.map Prod.fst
              · obtain ⟨e, he, e1⟩ := List.mem_map.mp my
                rw [(stK_keys (x := y)).2 nds e.2 (by rw [← e1]; exact he)] at eo
                subst eo
                have lv : Lev (rdF Rd) t e.2 y := (lev y e.2).mp (by rw [← e1]; exact he)
                refine ⟨.int (e.2 : Int), .int _, by simp [SeqAt.shaped, PyData.canLay0, PyData.depth], ?_⟩
                by_cases q0 : e.2 = k + 1
                · rw [q0, isL_iff.mpr (by rw [← q0]; exact lv)]
                  simp [PyData.eqv]
                · have nq : isL (rdF Rd) t (k + 1) y = false := Bool.eq_false_iff.mpr fun z => q0 (lv.one (isL_iff.mp z))
                  rw [nq]
                  simp [PyData.eqv]
                  omega
              · rw [(stK_keys (x := y)).1 my] at eo
                subst eo
                have nq : isL (rdF Rd) t (k + 1) y = false := Bool.eq_false_iff.mpr fun z => my (List.mem_map.mpr ⟨_, (lev y _).mpr (isL_iff.mp z), rfl⟩)
                refine ⟨.none, .non, by simp [SeqAt.shaped, PyData.canLay0, PyData.depth], ?_⟩
                rw [nq]
                simp [PyData.eqv]
            obtain ⟨d, dp, dsh, deq⟩ := lvl rfl
            refine ⟨_, rfl, d, .int ((k + 1 : Nat) : Int), dp, .int _, dsh, by simp [SeqAt.shaped, PyData.canLay0, PyData.depth], ?_⟩
            rw [deq, tkn, List.filter_append]
            have s9 : ∀ {us : List V}, Same H7 (upd H8 M (.lst us)) := fun {us} => same_mut s8 hM
            cases e : isL (rdF Rd) t (k + 1) y with
            | true =>
              refine ⟨true, rfl, iteT ⟨_, rfl, acc, hM8, small1000 (by have := hl3.len; omega), s9, acc ++ [.ref b], upd_same, by rw [List.length_append]; exact Nat.succ_le_succ al, ?_⟩⟩
              have f1 : [y].filter (isL (rdF Rd) t (k + 1)) = [y] := by simp [e]
              rw [f1]
              exact (cla.mono (tk_lst hM8)).snoc (tk_lst hM8 _ _ hb8)
            | false =>
              have f1 : [y].filter (isL (rdF Rd) t (k + 1)) = [] := by simp [e]
              rw [f1, List.append_nil]
              exact ⟨false, rfl, iteF ⟨s8, acc, hM8, Nat.le_succ_of_le al, cla⟩⟩
          · rintro H8 ⟨s8, acc, hM8, al, cla⟩
            rw [hl3.len, List.take_length] at cla
            cases ef : (rdF Rd x).filter (isL (rdF Rd) t (k + 1)) with
            | nil =>
              have := List.mem_filter.mpr ⟨hy2, isL_iff.mpr lv2⟩
              rw [ef] at this
              cases this
            | cons z zs =>
              rw [ef] at cla
              have ordx : (rdF Rd x).Pairwise ltK := by rw [elx]; exact rds.ord _ hlx
              have ordf : (z :: zs).Pairwise ltK := by rw [← ef]; exact ordx.filter _
              have mz : z ∈ (rdF Rd x).filter (isL (rdF Rd) t (k + 1)) := by rw [ef]; exact List.mem_cons_self
              have lz : Lev (rdF Rd) t (k + 1) z := isL_iff.mp (List.mem_filter.mp mz).2
              have hnx : nxtR (rdF Rd) t (k + 1) x = some z := by
                have := List.head?_filter (p := isL (rdF Rd) t (k + 1)) (l := rdF Rd x)
                rw [ef] at this
                exact this.symm
              have fewK : best ≤ 60 := by
                have h1 := lev_len (D := Rd.map Prod.fst) (fun z hz => by
                  obtain ⟨y, hy⟩ := hz
                  obtain ⟨l, hl, _⟩ := rdF_mem hy
                  exact List.mem_map_of_mem hl) lv1
                have h2 := cells_few rds.few rds.nd fun y hy => by
                  obtain ⟨e, he, rfl⟩ := List.mem_map.mp hy
                  exact rds.key e he
                omega
              simp only [tNil]
              refine min_cells hM8 cla ordf fun b hb => ?_
              have hL8 := s8 _ _ hL7
              have hLn : H6 L = none := hL
              have tk9 := tk_lst (ws := us ++ [.ref ql] ++ [.ref b]) hL8
              refine ⟨L, _, .ref b, rfl, rfl, hL8, small1000 (by rw [List.length_append]; have : [V.ref ql].length = 1 := rfl; omega), ?_⟩
              refine ⟨_, rfl, _, _, rfl, rfl, k, Nat.lt_succ_self k, c6, k, z, done ++ [z], us ++ [.ref ql], b, ?_, same_mut (s7.trans s8) hLn, upd_same, ?_, tk9 _ _ hb, ?_, fun _ => ?_, ?_, rfl⟩
              · show [some (V.ref g.G), some (.ref a), some (.ref P), some (.ref D), some (V.int (((k + 1 : Nat) : Int) - 1)), some (.ref L), c6] = _
                rw [show (((k + 1 : Nat) : Int) - 1) = (k : Int) by omega]
              · exact ((cl7.mono (TK.of s8)).mono tk9).snoc (tk9 _ _ hb)
              · rw [List.append_assoc, ← row]
                have er : rowR (rdF Rd) t (k + 1) x = z :: rowR (rdF Rd) t k z := by
                  show (match nxtR (rdF Rd) t (k + 1) x with
                    | some y => y :: rowR (rdF Rd) t k y
                    | none => []) = _
                  rw [hnx]
                rw [er]
                rfl
              · exact let ⟨_, y, hy, ly⟩ := lev_succ.mp lz; ⟨y, hy, ly⟩
              · rw [List.length_append]
                have : [V.ref ql].length = 1 := rfl
                omega
/-! ### a row of the cells by counts -/
def misK (D : List Z) (m : Z → Nat) : List (List Key × V) := D.map fun z => (idK z, V.int (m z : Int))
theorem misK_val {D : List Z} {m : Z → Nat} {y : Z} : valV (misK D m) (idK y) = if y ∈ D then some (.int (m y : Int)) else none := by
  induction D with
  | nil => rfl
  | cons z r ih =>
    by_cases h : z = y
    · subst h
      simp [misK, valV]
    · have n : idK z ≠ idK y := fun e => h (idK_inj e)
      have mm : (y ∈ z :: r) ↔ y ∈ r := by simp [Ne.symm h]
      simp only [mm]
      rw [← ih]
      simp [misK, valV, n]
theorem misK_put {D : List Z} {m : Z → Nat} {x : Z} {n : Nat} (hx : x ∈ D) : putK (misK D m) (idK x) (.int (n : Int)) = misK D (fun y => if y = x then n else m y) := by
  have any : ((misK D m).any fun e => decide (e.1 = idK x)) = true := List.any_eq_true.mpr ⟨_, List.mem_map.mpr ⟨x, hx, rfl⟩, decide_eq_true rfl⟩
  unfold putK
  rw [if_pos any]
  unfold misK
  rw [List.map_map]
  refine List.map_congr_left fun z _ => ?_
  show (if idK z = idK x then (idK z, V.int (n : Int)) else (idK z, V.int (m z : Int))) = _
  by_cases h : z = x
  · subst h
    simp
  · rw [if_neg fun e => h (idK_inj e)]
    simp [h]
theorem misK_snoc {D : List Z} {m : Z → Nat} {x : Z} : misK (D ++ [x]) m = misK D m ++ [(idK x, V.int (m x : Int))] := by
  unfold misK
  rw [List.map_append]
  rfl
theorem misK_fresh {D : List Z} {m : Z → Nat} {x : Z} (h : x ∉ D) : ∀ e ∈ misK D m, e.1 ≠ idK x := fun e he z => by
  obtain ⟨w, hw, rfl⟩ := List.mem_map.mp he
  exact h (by rw [← idK_inj z]; exact hw)
theorem unlockS {H H' : Hp} {p : Addr} {u : HO} (s : SB p H H') (hp : H p = some u) : Same H (upd H' p u) := fun c o e => by
  by_cases n : c = p
  · rw [n, upd_same, ← hp, ← n]
    exact e
  · rw [upd_ne n]
    exact s _ _ e n
theorem SB.new {p : Addr} {H H' : Hp} {q : Addr} {o : HO} (s : SB p H H') (hq : H' q = none) : SB p H (upd H' q o) := fun c u e n => by
  rw [upd_ne fun z => ?_]
  · exact s _ _ e n
  · have := s _ _ e n
    rw [z, hq] at this
    cases this
theorem SB.mut {p : Addr} {H H' : Hp} {q : Addr} {o : HO} (s : SB p H H') (hq : H q = none) : SB p H (upd H' q o) := fun c u e n => by
  rw [upd_ne fun z => ?_]
  · exact s _ _ e n
  · rw [z, hq] at e
    cases e
theorem SB.tk {p : Addr} {H H' : Hp} {u : List (List Key × V)} (s : SB p H H') (hp : H p = some (.dT u)) : TK H H' := fun b xs e => s _ _ e fun z => by
  rw [z, hp] at e
  cases e
/-- is a cell a key? -/
theorem rd_in {β : Type} {At : V → β → Prop} {kvs : List (List Key × V)} {B : List (Z × β)} (en : Ents idK At kvs B) (y : Z) : (valV kvs (idK y)).isSome = decide (y ∈ B.map Prod.fst) := by
  obtain ⟨e1, e2⟩ := ents_get (fun _ _ => idK_inj) en y
  cases e : getE B y with
  | none =>
    rw [e1 e, decide_eq_false (getE_none e)]
    rfl
  | some b =>
    obtain ⟨v, ev, _⟩ := e2 b e
    rw [ev, decide_eq_true (List.mem_map_of_mem (getE_key e))]
    rfl
theorem nodup_take {α : Type} {l : List α} (nd : l.Nodup) {i : Nat} {x : α} (h : l[i]? = some x) : x ∉ l.take i := fun m => by
  obtain ⟨j, lj, ej⟩ := List.getElem_of_mem m
  rw [List.length_take] at lj
  rw [List.getElem_take] at ej
  obtain ⟨g1, g2⟩ := List.getElem?_eq_some_iff.mp h
  exact List.pairwise_iff_getElem.mp nd j i (by omega) g1 (by omega) (ej.trans g2.symm)
theorem filt_yes {α : Type} {p : α → Bool} {y : α} (h : p y = true) : [y].filter p = [y] := by
  rw [List.filter_cons_of_pos h]
  rfl
theorem filt_no {α : Type} {p : α → Bool} {y : α} (h : p y = false) : [y].filter p = [] := by
  rw [List.filter_cons_of_neg (by rw [h]; exact Bool.false_ne_true)]
  rfl
def spInSeq (K : PySem.W.Frag) : Sp := fun vs H Q _ => ∃ (p : Addr) (r c : Int) (Rd : List (Z × List Z)), vs = [.ref p] ∧ RdAt H p Rd ∧ RdOk r c Rd ∧
  ∀ (L : Addr) (H' : Hp) (us : List V) (F : List Z) (miss : Z → Nat), Same H H' → H L = none → H' L = some (.lst us) → Cls H' us F → Khn (rdF Rd) (Rd.map Prod.fst) F.length F miss → Q (.ref L) H'
theorem okInSequence (T : Txt K mg) : FnOk P w K mg base CX0 2 T.fInSequence T.fdInSequence ["reads"] (spInSeq K) := by
  refine T.FInSequence.ok scInSequence (fun vs H Q E h => ?_) (fun cdv A outer s H vs Q E hr h => ?_)
  · obtain ⟨p, r, c, Rd, rfl, _⟩ := h
    rfl
  · obtain ⟨p, r, c, Rd, rfl, hR, ok, q⟩ := h
    -- slots reads=0 readers=1 cell=2 missing=3 found=4 at=5 reader=6 other=7
    refine ⟨_, (pss_cons (ps_set (i := 1) scInSequence.nd rfl (Or.inl rfl) (pe_call (okReadersOf T) (hr.mono (by decide)) (by rfl) T.gReadersOf T.FReadersOf.kp T.bReadersOf .nil pass0 (pa_cons (pv 0) pa_nil)))
        (pss_cons (ps_set (i := 3) scInSequence.nd rfl (Or.inr rfl) (pe_lock (pe_dcT (units2 hr) (own := [("cell", 2)]) (g := gName 2) (tt := tYes) rfl scInSequence.nd (pi_keys (pv 0)) (blkOk_by (own := [("cell", 2)]) (N := ["reads", "readers", "cell", "missing", "found", "at", "reader", "other"]) (sc := defScope sInSequence) (by decide +kernel)) (fun _ _ _ _ _ => (pg_name (i := 2) scInSequence.nd rfl (Or.inl rfl))) (fun _ _ _ _ _ => pts_nil) (fun _ _ _ _ _ => (pv 2)) (fun _ _ _ _ _ => (by exact (pe_callB (call_len_seqK (K := K) rfl) (by rfl) T.z_len PySem.boot_len (pa_cons (pe_lc (own := [("other", 7)]) (g := gName 7) rfl scInSequence.nd (pi_listK (K := K) rfl (pe_dget (units2 hr) (pv 0) (pv 2) (fun _ _ => rfl))) (blkOk_by (own := [("other", 7)]) (N := ["reads", "readers", "cell", "missing", "found", "at", "reader", "other"]) (by rfl)) (fun _ _ _ _ _ => (pg_name (i := 7) scInSequence.nd rfl (Or.inl rfl))) (fun _ _ _ _ _ => (pts_one (pt_cmp (pc_din (units2 hr) (pv 7) (pv 0))))) (fun _ _ _ _ _ => (pv 7))) pa_nil)))))))
        (pss_cons ((ps_lock (ps_setLc (i := 4) (own := [("cell", 2)]) (g := gName 2) rfl scInSequence.nd rfl rfl (sw_true rfl rfl rfl (by decide +kernel)) (pi_keys (pv 0)) (blkOk_by (own := [("cell", 2)]) (N := ["reads", "readers", "cell", "missing", "found", "at", "reader", "other"]) (sc := defScope sInSequence) (by decide +kernel)) (fun _ _ _ _ _ => (pg_name (i := 2) scInSequence.nd rfl (Or.inl rfl))) (fun _ _ _ _ _ => (pts_one (pt_cmpR op_eq (pe_dget (units2 hr) (pv 3) (pv 2) (fun _ _ => rfl)) pe_int (nomark _)))) (fun _ _ _ _ _ => (pv 2)))))
        (pss_cons (ps_set (i := 5) scInSequence.nd rfl (Or.inl rfl) pe_int)
        (pss_cons (ps_while PassesOwn.never (pt_cmpR op_lt (pv 5) (pe_callB call_len_seq (by rfl) T.z_len PySem.boot_len (pa_cons (pv 4) pa_nil)) (nomark _))
          (pss_cons (ps_set (i := 2) scInSequence.nd rfl (Or.inl rfl) (pe_ix ix_list (pv 4) (pv 5) (fun _ _ => rfl)))
          (pss_cons (ps_for PassesOwn.never rfl (pi_list (pe_dget2 (units2 hr) (pv 1) (pv 2) (pe_lst pa_nil) ⟨rfl, rfl, rfl, rfl⟩)) (pg_name (i := 6) scInSequence.nd rfl (Or.inl rfl))
            (pss_cons (ps_dput (units2 hr) (pv 3) (pv 6) (pe_op op_sub (pe_dget (units2 hr) (pv 3) (pv 6) (fun _ _ => rfl)) pe_int) rfl)
            (pss_one (ps_if (pt_cmpR op_eq (pe_dget (units2 hr) (pv 3) (pv 6) (fun _ _ => rfl)) pe_int (nomark _))
              (pss_one (ps_expr (pe_bm PySem.F.plainAttrs_list PySem.F.slot_list_append PySem.F.type_list_append mt_append (pv 4) (pa_cons (pv 6) pa_nil))))
              pss_nil))))
          (pss_one (ps_set (i := 5) scInSequence.nd rfl (Or.inl rfl) (pe_op op_add (pv 5) pe_int))))))
        (pss_one (ps_ret (pv 4)))))))), ?_⟩
    refine ⟨_, rfl, p, r, c, Rd, rfl, hR, ok, fun P HB B sB hPn hB ndB ndsB memB => ?_⟩
    obtain ⟨kvs, hp, en⟩ := id hR
    have hpB := sB _ _ hp
    have nk := ents_nd en ok.nd
    have len60 : (Rd.map Prod.fst).length ≤ 60 := cells_few ok.few ok.nd fun y hy => by
      obtain ⟨d, hd, rfl⟩ := List.mem_map.mp hy
      exact ok.key d hd
    have kl : kvs.length = (Rd.map Prod.fst).length := by rw [en.len, List.length_map]
    refine ⟨p, _, hpB, trivial, fun od => ⟨_, rfl, p, od, rfl, .inr ⟨kvs, upd_same, fun M hM => ?_⟩⟩⟩
    have nMp : M ≠ p := fun z => by
      rw [z, upd_same] at hM
      cases hM
    have hMn : HB M = none := by rwa [upd_ne nMp] at hM
    refine dcT_it (walk_keysT (d := p) (o := od) (kvs := kvs)) (fun j H' => SB p HB H' ∧ H' p = some (.frz od (.dT kvs)) ∧ H' M = some (.dT (misK ((Rd.map Prod.fst).take j) (cnt (rdF Rd) (Rd.map Prod.fst) [])))) ⟨?_, ?_, upd_same⟩ (fun j H' _ h => h.2.1) ?_ ?_
    · exact fun c u e n => by
        rw [upd_ne fun z => ?_, upd_ne n]
        · exact e
        · rw [z, hMn] at e
          cases e
    · rw [upd_ne nMp.symm]
      exact upd_same
    · rintro j x HX H4 hj ⟨sb, hp4, hM4⟩ ⟨rfl, k, vv, q0, hkv, rfl, hq⟩
      have lr : j < Rd.length := by rw [← en.len]; exact hj
      have he : Rd[j]? = some Rd[j] := List.getElem?_eq_getElem lr
      obtain ⟨ek, l, us, rfl, hl, cl⟩ := en.at_ j _ Rd[j] hkv he
      generalize Rd[j] = e at he ek cl
      obtain rfl : k = idK e.1 := ek
      have nlp : l ≠ p := fun z => by
        rw [z, hp] at hl
        cases hl
      have hl' := sB _ _ hl
      have cl' := cl.mono (TK.of sB)
      have ul := cl.len
      have hl4 := sb _ _ hl' nlp
      have cl4 := cl'.mono (sb.tk hpB)
      have kj : (Rd.map Prod.fst)[j]? = some e.1 := by rw [List.getElem?_map, he]; rfl
      have tkj : (Rd.map Prod.fst).take (j + 1) = (Rd.map Prod.fst).take j ++ [e.1] := by
        rw [List.take_add_one, kj]
        rfl
      have new : e.1 ∉ (Rd.map Prod.fst).take j := fun m => nodup_take ok.nd kj m
      have dg : DGet H4 p (.ref q0) (some (.ref l)) := by
        rw [← valV_own nk _ (List.mem_of_getElem? hkv)]
        exact .inr ⟨kvs, idK e.1, q0, .inr ⟨od, hp4⟩, rfl, hq, rfl⟩
      refine ⟨rfl, yesC ⟨_, rfl, _, rfl, _, rfl, p, .ref l, rfl, dg, l, rfl, ⟨us, SqL.of hl4⟩, fun N hN => ?_⟩⟩
      have sN := same_new (o := .lst []) hN
      have fd : rdF Rd e.1 = e.2 := rdF_at ok.nd (List.mem_of_getElem? he)
      refine lc_it (walk_list (a := l) (xs := us)) (fun n H' => Same H4 H' ∧ ∃ acc, H' N = some (.lst acc) ∧ acc.length = ((e.2.take n).filter fun y => decide (y ∈ Rd.map Prod.fst ∧ y ∉ [])).length) ⟨sN, [], upd_same, by rw [List.take_zero]; rfl⟩ (fun n H' _ h => SqL.of (h.1 _ _ hl4)) ?_ ?_
      · rintro n x HY H6 hn ⟨s6, acc, hN6, al⟩ ⟨rfl, hx⟩
        obtain ⟨b, y, rfl, hy, hb⟩ := cl4.get n x hx
        have tkn : e.2.take (n + 1) = e.2.take n ++ [y] := by
          rw [List.take_add_one, hy]
          rfl
        have dg6 : DGet H6 p (.ref b) (valV kvs (idK y)) := .inr ⟨kvs, idK y, b, .inr ⟨od, s6 _ _ hp4⟩, rfl, s6 _ _ hb, rfl⟩
        have ri := rd_in en y
        have le60 : e.2.length ≤ 60 := cells_few ok.few (ord_nd (ok.ord e (List.mem_of_getElem? he))) fun y hy => ok.ins e (List.mem_of_getElem? he) y hy
        have al2 : acc.length ≤ 60 := by
          rw [al]
          have h1 := List.length_filter_le (fun y => decide (y ∈ Rd.map Prod.fst ∧ y ∉ [])) (e.2.take n)
          have h2 := List.length_take_le n e.2
          have h3 := List.length_take (i := n) (l := e.2)
          omega
        refine ⟨rfl, _, rfl, _, rfl, p, _, rfl, dg6, ?_⟩
        rw [tkn, List.filter_append]
        cases ev : valV kvs (idK y) with
        | none =>
          rw [ev] at ri
          have m : ¬ (y ∈ Rd.map Prod.fst ∧ y ∉ []) := fun z => by
            rw [decide_eq_true z.1] at ri
            cases ri
          have f1 : [y].filter (fun y => decide (y ∈ Rd.map Prod.fst ∧ y ∉ [])) = [] := filt_no (decide_eq_false m)
          rw [f1, List.append_nil]
          exact ⟨false, rfl, iteF ⟨s6, acc, hN6, al⟩⟩
        | some v =>
          rw [ev] at ri
          have m : y ∈ Rd.map Prod.fst ∧ y ∉ [] := ⟨of_decide_eq_true ri.symm, fun z => nomatch z⟩
          have f1 : [y].filter (fun y => decide (y ∈ Rd.map Prod.fst ∧ y ∉ [])) = [y] := filt_yes (decide_eq_true m)
          rw [f1, List.length_append]
          exact ⟨true, rfl, iteT ⟨_, rfl, acc, hN6, small1000 (by omega), same_mut s6 hN, acc ++ [.ref b], upd_same, by rw [List.length_append, al]; rfl⟩⟩
      · rintro H6 ⟨s6, acc, hN6, al⟩
        rw [ul, List.take_length] at al
        have cn : acc.length = cnt (rdF Rd) (Rd.map Prod.fst) [] e.1 := by
          rw [al, ← fd]
          unfold cnt
          exact congrArg List.length (List.filter_congr fun y _ => decide_eq_decide.mpr Iff.rfl)
        have hM6 := s6 _ _ hM4
        refine ⟨_, acc, rfl, .inl (SqL.of hN6), ?_⟩
        refine ⟨_, DPut.t (k := idK e.1) hM6 (s6 _ _ hq) (small1000 (by unfold misK; rw [List.length_map, List.length_take]; omega)), fun c u h1 h2 => ?_, ?_, ?_⟩
        · rw [upd_ne fun z => ?_]
          · exact s6 _ _ (sb _ _ h1 h2)
          · rw [z, hMn] at h1
            cases h1
        · rw [upd_ne nMp.symm]
          exact s6 _ _ hp4
        · rw [upd_same, tkj, misK_snoc, putK_fresh (misK_fresh new), cn]
    · rintro H4 ⟨sb, hp4, hM4⟩
      rw [kl, List.take_length] at hM4
      have sU : Same HB (upd H4 p (.dT kvs)) := unlockS sb hpB
      have hM5 : (upd H4 p (.dT kvs)) M = some (.dT (misK (Rd.map Prod.fst) (cnt (rdF Rd) (Rd.map Prod.fst) []))) := by
        rw [upd_ne nMp]
        exact hM4
      have hp5 : (upd H4 p (.dT kvs)) p = some (.dT kvs) := upd_same
      refine ⟨hp4, ?_⟩
      generalize upd H4 p (.dT kvs) = H5 at sU hM5 hp5 ⊢
      refine ⟨p, _, hp5, trivial, fun od => ⟨_, rfl, p, od, rfl, .inr ⟨kvs, upd_same, fun L hL => ?_⟩⟩⟩
      have nLp : L ≠ p := fun z => by
        rw [z, upd_same] at hL
        cases hL
      have hLn : H5 L = none := by rwa [upd_ne nLp] at hL
      have nMD : M ≠ L := fun z => by
        rw [← z, hM5] at hLn
        cases hLn
      have hLH : HB L = none := sU.free hLn
      refine lc_it (walk_keysT (d := p) (o := od) (kvs := kvs)) (fun j H' => SB p H5 H' ∧ H' p = some (.frz od (.dT kvs)) ∧ ∃ us, H' L = some (.lst us) ∧ us.length ≤ j ∧ Cls H' us (((Rd.map Prod.fst).take j).filter fun x => decide (cnt (rdF Rd) (Rd.map Prod.fst) [] x = 0))) ⟨?_, ?_, [], upd_same, Nat.le_refl _, .nil⟩ (fun j H' _ h => h.2.1) ?_ ?_
      · exact fun c u e n => by
          rw [upd_ne fun z => ?_, upd_ne n]
          · exact e
          · rw [z, hLn] at e
            cases e
      · rw [upd_ne nLp.symm]
        exact upd_same
      · rintro j x HX H6 hj ⟨sb6, hp6, us, hL6, ul, cl⟩ ⟨rfl, k, vv, q0, hkv, rfl, hq⟩
        have lr : j < Rd.length := by rw [← en.len]; exact hj
        have he : Rd[j]? = some Rd[j] := List.getElem?_eq_getElem lr
        obtain ⟨ek, _⟩ := en.at_ j _ Rd[j] hkv he
        generalize Rd[j] = e at he ek
        obtain rfl : k = idK e.1 := ek
        have kj : (Rd.map Prod.fst)[j]? = some e.1 := by rw [List.getElem?_map, he]; rfl
        have tkj : (Rd.map Prod.fst).take (j + 1) = (Rd.map Prod.fst).take j ++ [e.1] := by
          rw [List.take_add_one, kj]
          rfl
        have hM6 := sb6 _ _ hM5 nMp
        have dg := DGet.t (k := idK e.1) hM6 hq
        rw [misK_val, if_pos (List.mem_of_getElem? kj)] at dg
        rw [tkj, List.filter_append]
        refine ⟨rfl, _, rfl, _, rfl, M, _, rfl, dg, rfl, ?_⟩
        by_cases z : cnt (rdF Rd) (Rd.map Prod.fst) [] e.1 = 0
        · have f1 : [e.1].filter (fun x => decide (cnt (rdF Rd) (Rd.map Prod.fst) [] x = 0)) = [e.1] := filt_yes (decide_eq_true z)
          rw [f1]
          have tk6 := tk_lst (ws := us ++ [.ref q0]) hL6
          refine ⟨true, congrArg V.bl (decide_eq_true (congrArg V.int (by omega))), iteT ⟨_, rfl, us, hL6, small1000 (by omega), sb6.mut hLn, ?_, us ++ [.ref q0], upd_same, by rw [List.length_append]; exact Nat.succ_le_succ ul, (cl.mono tk6).snoc (tk6 _ _ hq)⟩⟩
          rw [upd_ne nLp.symm]
          exact hp6
        · have f1 : [e.1].filter (fun x => decide (cnt (rdF Rd) (Rd.map Prod.fst) [] x = 0)) = [] := filt_no (decide_eq_false z)
          rw [f1, List.append_nil]
          exact ⟨false, congrArg V.bl (decide_eq_false fun y => z (by have := V.int.inj y; omega)), iteF ⟨sb6, hp6, us, hL6, Nat.le_succ_of_le ul, cl⟩⟩
      · rintro H6 ⟨sb6, hp6, us, hL6, ul, cl⟩
        rw [kl, List.take_length] at cl
        have sU2 : Same H5 (upd H6 p (.dT kvs)) := unlockS sb6 hp5
        have hM7 : (upd H6 p (.dT kvs)) M = some (.dT (misK (Rd.map Prod.fst) (cnt (rdF Rd) (Rd.map Prod.fst) []))) := sU2 _ _ hM5
        have hL7 : (upd H6 p (.dT kvs)) L = some (.lst us) := by
          rw [upd_ne nLp]
          exact hL6
        have cl7 : Cls (upd H6 p (.dT kvs)) us ((Rd.map Prod.fst).filter fun x => decide (cnt (rdF Rd) (Rd.map Prod.fst) [] x = 0)) := cl.mono fun b xs e => by
          rw [upd_ne fun z => ?_]
          · exact e
          · rw [z, hp6] at e
            cases e
        have K0 := Khn.start (g := rdF Rd) ok.nd (F := (Rd.map Prod.fst).filter fun x => decide (cnt (rdF Rd) (Rd.map Prod.fst) [] x = 0)) rfl
        have sH : Same H (upd H6 p (.dT kvs)) := (sB.trans sU).trans sU2
        have sBU : Same HB (upd H6 p (.dT kvs)) := sU.trans sU2
        refine ⟨hp6, ?_⟩
        generalize upd H6 p (.dT kvs) = H8 at sU2 hM7 hL7 cl7 sH sBU ⊢
        generalize ((Rd.map Prod.fst).filter fun x => decide (cnt (rdF Rd) (Rd.map Prod.fst) [] x = 0)) = F0 at cl7 K0
        generalize cnt (rdF Rd) (Rd.map Prod.fst) [] = miss0 at hM7 K0
        have bound : ∀ {F : List Z} {i : Nat} {miss : Z → Nat}, Khn (rdF Rd) (Rd.map Prod.fst) i F miss → F.length ≤ 60 := fun k => Nat.le_trans (nodup_len k.nd k.sub) len60
        obtain ⟨kvB, hkB, enB⟩ := hB
        have hPM : P ≠ M := fun z => by
          rw [z, hMn] at hkB
          cases hkB
        have hPL : P ≠ L := fun z => by
          rw [z, hLH] at hkB
          cases hkB
        refine ⟨fun m σ H' => ∃ (c2 c6 c7 : Option V) (i : Nat) (F : List Z) (miss : Z → Nat) (us : List V), σ = [some (.ref p), some (.ref P), c2, some (.ref M), some (.ref L), some (.int (i : Int)), c6, c7] ∧ Same HB H' ∧ H' M = some (.dT (misK (Rd.map Prod.fst) miss)) ∧ H' L = some (.lst us) ∧ Cls H' us F ∧ Khn (rdF Rd) (Rd.map Prod.fst) i F miss ∧ i ≤ F.length ∧ m = 61 - i, ⟨_, _, _, _, 0, F0, miss0, us, rfl, sBU, hM7, hL7, cl7, K0, Nat.zero_le _, rfl⟩, ?_⟩
        rintro m σ H9 ⟨c2, c6, c7, i, F, miss, us, rfl, s9, hM9, hL9, cl9, kn, li, rfl⟩
        have lus : us.length = F.length := cl9.len
        have l60 := bound kn
        refine ⟨_, rfl, _, rfl, L, us, rfl, .inl (SqL.of hL9), _, _, rfl, rfl, ?_⟩
        by_cases lt : i < F.length
        · refine ⟨true, congrArg V.bl (decide_eq_true (by omega)), iteT ⟨_, fun σ' H' n => n, ?_⟩⟩
          have hx : us[i]? = some us[i] := List.getElem?_eq_getElem (by omega)
          obtain ⟨qc, cc, eqc, hcc, hqc⟩ := cl9.get i _ hx
          rw [eqc] at hx
          refine ⟨_, rfl, _, rfl, L, _, _, _, rfl, rfl, SqL.of hL9, atI_nat (j := i) hx, ?_⟩
          refine ⟨_, rfl, P, rfl, .inr ⟨kvB, .inl (s9 _ _ hkB)⟩, _, rfl, Nat.zero_le _, fun l2 hl2 => ?_⟩
          have s5 := same_new (o := .lst []) hl2
          obtain ⟨la, xs, ela, hla, clx, nla, nlM⟩ : ∃ la xs, (valV kvB (idK cc)).getD (.ref l2) = .ref la ∧ (upd H9 l2 (.lst [])) la = some (.lst xs) ∧ Cls (upd H9 l2 (.lst [])) xs (rdF B cc) ∧ la ≠ L ∧ la ≠ M := by
            obtain ⟨e1, e2⟩ := ents_get (fun _ _ => idK_inj) enB cc
            unfold rdF
            cases e : getE B cc with
            | none =>
              rw [e1 e]
              refine ⟨l2, [], rfl, upd_same, .nil, fun z => ?_, fun z => ?_⟩
              · rw [z, hL9] at hl2
                cases hl2
              · rw [z, hM9] at hl2
                cases hl2
            | some zs =>
              obtain ⟨v, ev, l, ws, rfl, h1, h2⟩ := e2 zs e
              rw [ev]
              refine ⟨l, ws, rfl, s5 _ _ (s9 _ _ h1), h2.mono (TK.of (s9.trans s5)), fun z => ?_, fun z => ?_⟩
              · rw [z, hLH] at h1
                cases h1
              · rw [z, hMn] at h1
                cases h1
          refine ⟨_, DGet.t (k := idK cc) (s5 _ _ (s9 _ _ hkB)) (s5 _ _ hqc), la, ela, ⟨xs, SqL.of hla⟩, ?_⟩
          refine for_it (walk_list (a := la) (xs := xs)) (fun j σ H' => ∃ (c6 : Option V) (F' : List Z) (miss : Z → Nat) (us : List V), σ = [some (.ref p), some (.ref P), some (.ref qc), some (.ref M), some (.ref L), some (.int (i : Int)), c6, c7] ∧ Same HB H' ∧ H' M = some (.dT (misK (Rd.map Prod.fst) miss)) ∧ H' L = some (.lst us) ∧ Cls H' us F' ∧ Cls H' xs (rdF B cc) ∧ H' la = some (.lst xs) ∧ Khi (rdF Rd) (Rd.map Prod.fst) i cc ((rdF B cc).take j) F' miss) ⟨_, F, miss, us, rfl, s9.trans s5, s5 _ _ hM9, s5 _ _ hL9, cl9.mono (TK.of s5), clx, hla, by rw [List.take_zero]; exact kn.turn hcc⟩ (fun j σ H' _ ⟨_, _, _, _, _, _, _, _, _, _, h, _⟩ => SqL.of h) ?_ ?_
          · rintro j x σ HY H6 hj ⟨c6, F', miss, us, rfl, s6, hM6, hL6, cl6, clx6, hla6, ki⟩ ⟨rfl, hx⟩
            obtain ⟨b, y, rfl, hy, hb⟩ := clx6.get j x hx
            have tkn : (rdF B cc).take (j + 1) = (rdF B cc).take j ++ [y] := by
              rw [List.take_add_one, hy]
              rfl
            have l60 : F'.length ≤ 60 := Nat.le_trans (nodup_len ki.nd ki.sub) len60
            have lus : us.length = F'.length := cl6.len
            have my : cc ∈ rdF Rd y := (memB cc y).mp (List.mem_of_getElem? hy)
            obtain ⟨ly, hly, _⟩ := rdF_mem my
            have yD : y ∈ Rd.map Prod.fst := List.mem_map_of_mem hly
            have ny : y ∉ (rdF B cc).take j := nodup_take (ndsB cc) hy
            have ngy : (rdF Rd y).Nodup := by
              rw [rdF_at ok.nd hly]
              exact ord_nd (ok.ord _ hly)
            have one := ki.one ngy yD my ny
            have dg := DGet.t (k := idK y) hM6 hb
            rw [misK_val, if_pos yD] at dg
            have e1 : ((miss y : Nat) : Int) - 1 = ((miss y - 1 : Nat) : Int) := by omega
            have hput : DPut H6 M (.ref b) (.int ((miss y : Int) - 1)) (upd H6 M (.dT (misK (Rd.map Prod.fst) fun z => if z = y then miss y - 1 else miss z))) := by
              rw [← misK_put yD, e1]
              exact DPut.t (k := idK y) hM6 hb (small1000 (by unfold misK; rw [List.length_map]; omega))
            refine ⟨_, rfl, _, rfl, M, _, rfl, dg, _, _, rfl, rfl, _, rfl, _, rfl, M, _, rfl, hput, ?_⟩
            have keep : ∀ {u : Addr} {o : HO}, H6 u = some o → u ≠ M → upd H6 M (.dT (misK (Rd.map Prod.fst) fun z => if z = y then miss y - 1 else miss z)) u = some o := fun {u o} z n => by
              rw [upd_ne n]
              exact z
            have hL7 := keep hL6 nMD.symm
            have hM7 : upd H6 M (.dT (misK (Rd.map Prod.fst) fun z => if z = y then miss y - 1 else miss z)) M = some (.dT (misK (Rd.map Prod.fst) fun z => if z = y then miss y - 1 else miss z)) := upd_same
            have tk7 : TK H6 (upd H6 M (.dT (misK (Rd.map Prod.fst) fun z => if z = y then miss y - 1 else miss z))) := fun u xs z => keep z fun w0 => by
              rw [w0, hM6] at z
              cases z
            have hla7 := keep hla6 nlM
            have s7 : Same HB (upd H6 M (.dT (misK (Rd.map Prod.fst) fun z => if z = y then miss y - 1 else miss z))) := same_mut s6 hMn
            have hb7 := tk7 _ _ hb
            have cl7 := cl6.mono tk7
            have clx7 := clx6.mono tk7
            generalize upd H6 M (.dT (misK (Rd.map Prod.fst) fun z => if z = y then miss y - 1 else miss z)) = H7 at hL7 hM7 tk7 hla7 s7 hb7 cl7 clx7 ⊢
            have dg2 := DGet.t (k := idK y) hM7 hb7
            rw [misK_val, if_pos yD, if_pos rfl] at dg2
            refine ⟨_, rfl, _, rfl, M, _, rfl, dg2, rfl, ?_⟩
            by_cases z : miss y - 1 = 0
            · refine ⟨true, congrArg V.bl (decide_eq_true (congrArg V.int (by omega))), iteT ⟨_, rfl, .inl ⟨rfl, us, SqL.of hL7⟩, _, rfl, L, us, .ref b, rfl, rfl, hL7, small1000 (by omega), ?_⟩⟩
              have tk8 := tk_lst (ws := us ++ [.ref b]) hL7
              refine ⟨_, F' ++ [y], _, us ++ [.ref b], rfl, same_mut s7 hLH, ?_, upd_same, (cl7.mono tk8).snoc (tk8 _ _ hb7), clx7.mono tk8, ?_, by rw [tkn]; exact ki.step ngy yD my ny (by rw [if_pos z])⟩
              · rw [upd_ne nMD]
                exact hM7
              · rw [upd_ne nla]
                exact hla7
            · refine ⟨false, congrArg V.bl (decide_eq_false fun w => z (by have := V.int.inj w; omega)), iteF ?_⟩
              exact ⟨_, F', _, us, rfl, s7, hM7, hL7, cl7, clx7, hla7, by rw [tkn]; exact ki.step ngy yD my ny (by rw [if_neg z])⟩
          · rintro σ H6 ⟨c6, F', miss, us, rfl, s6, hM6, hL6, cl6, clx6, hla6, ki⟩
            rw [clx.len, List.take_length] at ki
            have l60 : F'.length ≤ 60 := Nat.le_trans (nodup_len ki.nd ki.sub) len60
            have li2 := (List.getElem?_eq_some_iff.mp ki.at_).1
            have ke := ki.end (fun x hx => by
              obtain ⟨e, he, rfl⟩ := List.mem_map.mp hx
              rw [rdF_at ok.nd he]
              exact ord_nd (ok.ord e he)) fun x _ hx => (memB cc x).mpr hx
            exact ⟨_, rfl, _, _, rfl, rfl, 61 - (i + 1), by omega, _, _, _, i + 1, F', miss, us, rfl, s6, hM6, hL6, cl6, ke, li2, rfl⟩
        · refine ⟨false, congrArg V.bl (decide_eq_false (by omega)), iteF ⟨_, rfl, ?_⟩⟩
          obtain rfl : i = F.length := by omega
          exact q L H9 us F miss (sB.trans s9) (sB.free hLH) hL9 cl9 kn
/-! ### knots -/
theorem cls_zs {H : Hp} : ∀ {us : List V} {F : List Z}, Cls H us F → ∃ zs : List (V × Z), zs.map Prod.fst = us ∧ zs.map Prod.snd = F ∧ ∀ y ∈ zs, TuAt H y.1 y.2
  | _, _, .nil => ⟨[], rfl, rfl, fun _ h => nomatch h⟩
  | _, _, .cons (q := q) (z := z) h r => by
    obtain ⟨zs, e1, e2, tu⟩ := cls_zs r
    refine ⟨(.ref q, z) :: zs, by rw [← e1]; rfl, by rw [← e2]; rfl, fun y hy => ?_⟩
    rcases List.mem_cons.mp hy with rfl | hy
    · exact ⟨q, rfl, h⟩
    · exact tu y hy
/-- sorted(xs) of cells -/
theorem sort_cells {K : PySem.W.Frag} {H : Hp} {a : Addr} {us : List V} {F : List Z} {Q : VK} (ha : H a = some (.lst us)) (cl : Cls H us F) (nd : F.Nodup) (q : ∀ p us' F', H p = none → Cls H us' F' → us'.length = us.length → F'.Pairwise ltK → F'.Perm F → Q (.ref p) (upd H p (.lst us'))) : rSortedD K [.ref a] H Q := by
  obtain ⟨zs, e1, e2, tu⟩ := cls_zs cl
  obtain ⟨a1, a2, a3⟩ := zs_alike zs
  have mf : (zs.map gK).map Prod.fst = us := by
    rw [← e1, List.map_map]
    rfl
  refine ⟨a, zs.map gK, rfl, SqL.of (by rw [mf]; exact ha), fun b hb => ?_, a1, a2, a3, fun p hp => ?_⟩
  · obtain ⟨z, hz, rfl⟩ := List.mem_map.mp hb
    exact (tu z hz).dp
  · obtain ⟨Zs, z1, z2, z3⟩ := sortK zs
    rw [z1]
    have pm : (Zs.map Prod.snd).Perm F := by
      have := z2.map Prod.snd
      rwa [e2] at this
    exact q p _ _ hp (cls_of fun y hy => tu y (z2.mem_iff.mp hy)) (by rw [List.length_map, z2.length_eq, ← e1, List.length_map]) (ord_of (pm.nodup_iff.mpr nd) z3) pm
section
variable {X : Cx}
/-- a new thing, locked from now on -/
def tLockN (t : TE) : TE := fun σ H Q => t σ H fun v H1 => ∃ d u, v = .ref d ∧ H1 d = some u ∧ Mut (some u) ∧ ∀ od, Q v (upd H1 d (.frz od u))
theorem pe_lockN {e : Expr} {t : TE} (h : PE X e t) : PE X e (tLockN t) := by
  refine ⟨fun pins s σ H Q I hw => ?_⟩
  refine thn (h.run pins s σ _ _ I hw) fun v s1 ⟨x, H1, I1, r, d, u, e1, hd, mu, q⟩ => ?_
  obtain ⟨od, I2⟩ := I1.lock hd mu
  exact ⟨x, _, I2, r, q od⟩
end
/-- the knots found so far: all cells of a knot at once -/
structure Knt (g : Z → List Z) (D : List Z) (ks : List (List Z)) : Prop where
  nd : ks.flatten.Nodup
  led : ∀ x ∈ ks.flatten, Lead g x x
  whole : ∀ x ∈ ks.flatten, ∀ y, Lead g x y → Lead g y x → y ∈ ks.flatten
  done : ∀ x ∈ D, Lead g x x → x ∈ ks.flatten
theorem Knt.skip {g : Z → List Z} {D : List Z} {ks : List (List Z)} {x : Z} (h : Knt g D ks) (n : Lead g x x → x ∈ ks.flatten) : Knt g (D ++ [x]) ks :=
  ⟨h.nd, h.led, h.whole, fun y hy l => by
    rcases List.mem_append.mp hy with z | z
    · exact h.done y z l
    · rw [List.mem_singleton.mp z] at l ⊢
      exact n l⟩
theorem Knt.add {g : Z → List Z} {D : List Z} {ks : List (List Z)} {x : Z} {k : List Z} (h : Knt g D ks) (nx : x ∉ ks.flatten) (ndk : k.Nodup) (mem : ∀ y, y ∈ k ↔ Lead g x y ∧ Lead g y x) : Knt g (D ++ [x]) (ks ++ [k]) := by
  have fl : (ks ++ [k]).flatten = ks.flatten ++ k := by simp
  refine ⟨?_, fun y hy => ?_, fun y hy z l1 l2 => ?_, fun y hy l => ?_⟩
  · rw [fl, List.nodup_append]
    refine ⟨h.nd, ndk, fun a ha b hb e => ?_⟩
    subst e
    obtain ⟨l1, l2⟩ := (mem a).mp hb
    exact nx (h.whole a ha x l2 l1)
  · rw [fl] at hy
    rcases List.mem_append.mp hy with z | z
    · exact h.led y z
    · obtain ⟨l1, l2⟩ := (mem y).mp z
      exact l2.trans l1
  · rw [fl] at hy ⊢
    rcases List.mem_append.mp hy with w | w
    · exact List.mem_append_left _ (h.whole y w z l1 l2)
    · obtain ⟨m1, m2⟩ := (mem y).mp w
      exact List.mem_append_right _ ((mem z).mpr ⟨m1.trans l1, l2.trans m2⟩)
  · rw [fl]
    rcases List.mem_append.mp hy with z | z
    · exact List.mem_append_left _ (h.done y z l)
    · rw [List.mem_singleton.mp z] at l ⊢
      exact List.mem_append_right _ ((mem x).mpr ⟨l, l⟩)
theorem repP_snoc {α β : Type} {At : α → β → Prop} {rs : List α} {D : List β} {x : α} {e : β} (h : RepP At rs D) (h0 : At x e) : RepP At (rs ++ [x]) (D ++ [e]) := by
  refine ⟨by rw [List.length_append, List.length_append, h.len]; rfl, fun i y f h1 h2 => ?_⟩
  rcases Nat.lt_or_ge i rs.length with z | z
  · rw [List.getElem?_append_left z] at h1
    rw [List.getElem?_append_left (by rw [← h.len]; exact z)] at h2
    exact h.at_ i y f h1 h2
  · rw [List.getElem?_append_right z] at h1
    rw [List.getElem?_append_right (by rw [← h.len]; exact z), ← h.len] at h2
    cases hi : i - rs.length with
    | zero =>
      rw [hi] at h1 h2
      obtain rfl := Option.some.inj h1
      obtain rfl := Option.some.inj h2
      exact h0
    | succ j =>
      rw [hi] at h1
      simp at h1
theorem CAt.sb {H H' : Hp} {p : Addr} {u : List (List Key × V)} (s : SB p H H') (hp : H p = some (.dT u)) {v : V} {zs : List Z} (h : CAt H v zs) : CAt H' v zs := by
  obtain ⟨l, us, e, h1, h2⟩ := h
  refine ⟨l, us, e, s _ _ h1 fun z => ?_, h2.mono (s.tk hp)⟩
  rw [z, hp] at h1
  cases h1
theorem RdAt.lock {H H' : Hp} {p : Addr} {od : Obj} {kvs : List (List Key × V)} {R : List (Z × List Z)} (s : SB p H H') (hp : H p = some (.dT kvs)) (hp' : H' p = some (.frz od (.dT kvs))) (en : Ents idK (CAt H) kvs R) : RdAl H' p R :=
  ⟨kvs, .inr ⟨od, hp'⟩, en.imp fun kv e hh => ⟨hh.1, hh.2.sb s hp⟩⟩
theorem RdAt.sb {H H' : Hp} {p q : Addr} {u : List (List Key × V)} {R : List (Z × List Z)} (s : SB p H H') (hp : H p = some (.dT u)) (n : q ≠ p) (h : RdAt H q R) : RdAt H' q R := by
  obtain ⟨kvs, h1, h2⟩ := h
  exact ⟨kvs, s _ _ h1 n, h2.imp fun kv e hh => ⟨hh.1, hh.2.sb s hp⟩⟩
theorem SB.refl {p : Addr} {H : Hp} : SB p H H := fun _ _ e _ => e
theorem SB.same {p : Addr} {H H' H2 : Hp} (s : SB p H H') (t : Same H' H2) : SB p H H2 := fun c u e n => t _ _ (s _ _ e n)
def spKnots (K : PySem.W.Frag) : Sp := fun vs H Q _ => ∃ (p : Addr) (r c : Int) (Rd : List (Z × List Z)), vs = [.ref p] ∧ RdAt H p Rd ∧ RdOk r c Rd ∧
  ∀ (L : Addr) (H' : Hp) (us : List V) (ks : List (List Z)), Same H H' → H L = none → H' L = some (.lst us) → RepP (CAt H') us ks → Knt (rdF Rd) (Rd.map Prod.fst) ks → Q (.ref L) H'
theorem okKnotsIn (T : Txt K mg) : FnOk P w K mg base CX0 3 T.fKnotsIn T.fdKnotsIn ["reads"] (spKnots K) := by
  refine T.FKnotsIn.ok scKnotsIn (fun vs H Q E h => ?_) (fun cdv A outer s H vs Q E hr h => ?_)
  · obtain ⟨p, r, c, Rd, rfl, _⟩ := h
    rfl
  · obtain ⟨p, r, c, Rd, rfl, hR, ok, q⟩ := h
    -- slots reads=0 readers=1 cell=2 safe=3 told=4 found=5 behind=6 other=7 knot=8
    refine ⟨_, (pss_cons (ps_set (i := 1) scKnotsIn.nd rfl (Or.inl rfl) (pe_call (okReadersOf T) (hr.mono (by decide)) (by rfl) T.gReadersOf T.FReadersOf.kp T.bReadersOf .nil pass0 (pa_cons (pv 0) pa_nil)))
        (pss_cons (ps_setDcT (i := 3) (units2 hr) (own := [("cell", 2)]) (g := gName 2) (tt := tYes) rfl scKnotsIn.nd rfl rfl (sw_trueD rfl rfl rfl (by decide +kernel)) (pi_list (pe_call (okInSequence T) (hr.mono (by decide)) (by rfl) T.gInSequence T.FInSequence.kp T.bInSequence .nil pass0 (pa_cons (pv 0) pa_nil))) (blkOk_by (own := [("cell", 2)]) (N := ["reads", "readers", "cell", "safe", "told", "found", "behind", "other", "knot"]) (sc := defScope sKnotsIn) (by decide +kernel)) (fun _ _ _ _ _ => (pg_name (i := 2) scKnotsIn.nd rfl (Or.inl rfl))) (fun _ _ _ _ _ => pts_nil) (fun _ _ _ _ _ => (pv 2)) (fun _ _ _ _ _ => pe_bl))
        (pss_cons (ps_set (i := 4) scKnotsIn.nd rfl (Or.inl rfl) pe_dnewT)
        (pss_cons (ps_set (i := 5) scKnotsIn.nd rfl (Or.inl rfl) (pe_lst pa_nil))
        (pss_cons (ps_lock (ps_for PassesOwn.never rfl (pi_keys (pv 0)) (pg_name (i := 2) scKnotsIn.nd rfl (Or.inl rfl))
          (pss_one (ps_if (PW.pt (pw_and (pt_cmp (pc_dnotin (units2 hr) (pv 2) (pv 3))) (pw_and1 (pt_cmp (pc_dnotin (units2 hr) (pv 2) (pv 4))))))
            (pss_cons (ps_set (i := 6) scKnotsIn.nd rfl (Or.inr rfl) (pe_call (okReached T) (hr.mono (by decide)) (by rfl) T.gReached T.FReached.kp T.bReached .nil pass0 (pa_cons (pv 1) (pa_cons (pv 2) pa_nil))))
            (pss_cons (ps_set (i := 8) scKnotsIn.nd rfl (Or.inl rfl) (pe_callB (cr_sortedD hr.units) (by rfl) T.z_sorted (by decide +kernel) (pa_cons (pe_lc (own := [("other", 7)]) (g := gName 7) rfl scKnotsIn.nd (pi_keys (pe_lockN (pe_call (okReached T) (hr.mono (by decide)) (by rfl) T.gReached T.FReached.kp T.bReached .nil pass0 (pa_cons (pv 0) (pa_cons (pv 2) pa_nil))))) (blkOk_by (own := [("other", 7)]) (N := ["reads", "readers", "cell", "safe", "told", "found", "behind", "other", "knot"]) (sc := defScope sKnotsIn) (by decide +kernel)) (fun _ _ _ _ _ => (pg_name (i := 7) scKnotsIn.nd rfl (Or.inl rfl))) (fun _ _ _ _ _ => (pts_one (pt_cmp (pc_din (units2 hr) (pv 7) (pv 6))))) (fun _ _ _ _ _ => (pv 7))) pa_nil)))
            (C8.pss_cut (ps_if (pt_cmpR (op_neD hr.units) (pv 8) (pe_lst pa_nil) (nomark _))
              (pss_one (ps_expr (pe_bm PySem.F.plainAttrs_list PySem.F.slot_list_append PySem.F.type_list_append mt_append (pv 5) (pa_cons (pv 8) pa_nil))))
              pss_nil)
            (pss_one (ps_for PassesOwn.never rfl (pi_list (pv 8)) (pg_name (i := 7) scKnotsIn.nd rfl (Or.inl rfl))
              (pss_one (ps_dput (units2 hr) (pv 4) (pv 7) pe_bl rfl)))))))
            pss_nil))))
        (pss_one (ps_ret (pv 5)))))))), ?_⟩
    refine ⟨_, rfl, p, r, c, Rd, rfl, hR, ok, fun P H1 B s1 hPn hB ndB ndsB memB => ?_⟩
    refine ⟨_, rfl, p, r, c, Rd, rfl, hR.same s1, ok, fun L1 H2 us1 F miss s2 hL1n hL1 cl1 kh => ?_⟩
    obtain ⟨kvs, hp, en⟩ := id hR
    have nk := ents_nd en ok.nd
    have len60 : (Rd.map Prod.fst).length ≤ 60 := cells_few ok.few ok.nd fun y hy => by
      obtain ⟨d, hd, rfl⟩ := List.mem_map.mp hy
      exact ok.key d hd
    have kl : kvs.length = (Rd.map Prod.fst).length := by rw [en.len, List.length_map]
    have F60 : F.length ≤ 60 := Nat.le_trans (nodup_len kh.nd kh.sub) len60
    have u1 : us1.length = F.length := cl1.len
    refine ⟨L1, rfl, ⟨us1, SqL.of hL1⟩, fun S hS => ?_⟩
    refine dcT_it (walk_list (a := L1) (xs := us1)) (fun j H' => Same H2 H' ∧ DAt (.bl true) H' S (F.take j)) ⟨same_new hS, upd_same⟩ (fun j H' _ h => SqL.of (h.1 _ _ hL1)) ?_ ?_
    · rintro j x HX H3 hj ⟨s3, hd⟩ ⟨rfl, hx⟩
      obtain ⟨b, y, rfl, hy, hb⟩ := cl1.get j x hx
      have tkn : F.take (j + 1) = F.take j ++ [y] := by
        rw [List.take_add_one, hy]
        rfl
      have nk : ∀ e ∈ (F.take j).map fun z => (idK z, V.bl true), e.1 ≠ idK y := fun e he z => by
        obtain ⟨w0, hw, rfl⟩ := List.mem_map.mp he
        exact nodup_take kh.nd hy (by rw [← idK_inj z]; exact hw)
      refine ⟨rfl, yesC ⟨_, rfl, _, DPut.t (k := idK y) hd (s3 _ _ hb) (small1000 (by rw [List.length_map, List.length_take]; omega)), same_mut s3 hS, ?_⟩⟩
      show (upd H3 S _) S = _
      rw [upd_same, putK_fresh nk, tkn, List.map_append]
      rfl
    · rintro H3 ⟨s3, hd⟩
      rw [u1, List.take_length] at hd
      have s03 : Same H H3 := (s1.trans s2).trans s3
      have hS3 : H S = none := (s1.trans s2).free hS
      refine fun T hT => ?_
      have s4 := same_new (o := .dT []) hT
      refine ⟨Nat.zero_le _, fun L hL => ?_⟩
      have nLT : L ≠ T := fun z => by
        rw [z, upd_same] at hL
        cases hL
      have s5 := same_new (o := .lst []) hL
      have s35 : Same H3 (upd (upd H3 T (.dT [])) L (.lst [])) := s4.trans s5
      have hLn : H3 L = none := s4.free hL
      have hT5 : DAt (.bl true) (upd (upd H3 T (.dT [])) L (.lst [])) T [] := by
        show upd (upd H3 T (.dT [])) L (.lst []) T = _
        rw [upd_ne nLT.symm]
        exact upd_same
      have hL5 : (upd (upd H3 T (.dT [])) L (.lst [])) L = some (.lst []) := upd_same
      generalize upd (upd H3 T (.dT [])) L (.lst []) = H5 at s35 hT5 hL5 ⊢
      have hB3 : RdAt H3 P B := hB.same (s2.trans s3)
      have hp3 := s03 _ _ hp
      have hp5 := s35 _ _ hp3
      obtain ⟨kvs', hp', en3⟩ := hR.same s03
      rw [hp3] at hp'
      obtain rfl := HO.dT.inj (Option.some.inj hp')
      have npT : p ≠ T := ne_of_none hp3 hT
      have npL : p ≠ L := ne_of_none hp3 hLn
      have npS : p ≠ S := ne_of_none hp hS3
      have nPp : P ≠ p := fun z => by
        rw [z, hp] at hPn
        cases hPn
      have insB : ∀ z, ∀ y ∈ rdF B z, 0 ≤ y.1 ∧ y.1 < r ∧ 0 ≤ y.2 ∧ y.2 < c := fun z y hy => by
        obtain ⟨l, hl, _⟩ := rdF_mem ((memB z y).mp hy)
        exact ok.key _ hl
      have insR : ∀ z, ∀ y ∈ rdF Rd z, 0 ≤ y.1 ∧ y.1 < r ∧ 0 ≤ y.2 ∧ y.2 < c := fun z y hy => by
        obtain ⟨l, hl, m, _⟩ := rdF_mem hy
        exact ok.ins _ hl y m
      have keyD : ∀ z, (∃ y, y ∈ rdF Rd z) → z ∈ Rd.map Prod.fst := fun z ⟨y, hy⟩ => by
        obtain ⟨l, hl, _⟩ := rdF_mem hy
        exact List.mem_map_of_mem hl
      refine ⟨p, _, hp5, trivial, fun od => ⟨_, rfl, p, od, rfl, .inr ⟨kvs, upd_same, for_it (walk_keysT (d := p) (o := od) (kvs := kvs)) (fun i σ H' => ∃ (c2 c6 c7 c8 : Option V) (us : List V) (ks : List (List Z)), σ = [some (.ref p), some (.ref P), c2, some (.ref S), some (.ref T), some (.ref L), c6, c7, c8] ∧ SB p H3 H' ∧ H' p = some (.frz od (.dT kvs)) ∧ DAt (.bl true) H' T ks.flatten ∧ H' L = some (.lst us) ∧ us.length ≤ i ∧ RepP (CAt (rmS [L] H')) us ks ∧ Knt (rdF Rd) ((Rd.map Prod.fst).take i) ks) ⟨_, _, _, _, [], [], rfl, ?_, upd_same, ?_, ?_, Nat.le_refl _, RepP.nil, ?_⟩ (fun i σ H' _ ⟨_, _, _, _, _, _, _, _, h, _⟩ => h) ?_ ?_⟩⟩⟩
      · exact fun c u e n => by
          rw [upd_ne n]
          exact s35 _ _ e
      · show upd H5 p _ T = _
        rw [upd_ne npT.symm]
        exact hT5
      · rw [upd_ne npL.symm]
        exact hL5
      · exact ⟨List.nodup_nil, (fun _ h => nomatch h), (fun _ h => nomatch h), (fun _ h => nomatch h)⟩
      · rintro i x2 σ HX H6 hi ⟨c2, c6, c7, c8, us, ks, rfl, sb, hp6, hT6, hL6, ul, rp, kn⟩ ⟨rfl, k, vv, q0, hkv, rfl, hq⟩
        have hB6 := RdAt.sb sb hp3 nPp hB3
        have hS6 : DAt (.bl true) H6 S F := sb _ _ hd npS.symm
        have lr : i < Rd.length := by rw [← en.len]; exact hi
        have he : Rd[i]? = some Rd[i] := List.getElem?_eq_getElem lr
        obtain ⟨ek, _⟩ := en.at_ i _ Rd[i] hkv he
        generalize Rd[i] = e at he ek
        obtain rfl : k = idK e.1 := ek
        have kj : (Rd.map Prod.fst)[i]? = some e.1 := by rw [List.getElem?_map, he]; rfl
        have tkj : (Rd.map Prod.fst).take (i + 1) = (Rd.map Prod.fst).take i ++ [e.1] := by
          rw [List.take_add_one, kj]
          rfl
        have dgS := DGet.t (k := idK e.1) hS6 hq
        have dgT := DGet.t (k := idK e.1) hT6 hq
        rw [keys_val] at dgS dgT
        refine ⟨_, rfl, _, rfl, S, _, rfl, dgS, ?_⟩
        by_cases mF : e.1 ∈ F
        · rw [if_pos mF]
          exact ⟨false, rfl, iteF (iteF ⟨_, c6, c7, c8, us, ks, rfl, sb, hp6, hT6, hL6, Nat.le_succ_of_le ul, rp, by rw [tkj]; exact kn.skip (fun l => absurd mF (kh.beh.safe keyD l))⟩)⟩
        rw [if_neg mF]
        refine ⟨true, rfl, iteT ⟨_, rfl, _, rfl, T, _, rfl, dgT, ?_⟩⟩
        by_cases mT : e.1 ∈ ks.flatten
        · rw [if_pos mT]
          exact ⟨false, rfl, iteF ⟨_, c6, c7, c8, us, ks, rfl, sb, hp6, hT6, hL6, Nat.le_succ_of_le ul, rp, by rw [tkj]; exact kn.skip (fun _ => mT)⟩⟩
        rw [if_neg mT]
        refine ⟨true, rfl, iteT ⟨_, rfl, _, rfl, P, q0, r, c, B, e.1, rfl, hB6.al, ok.few, insB, hq, fun E1 H7 F1 s7 hE1n hE1 nd1 mem1 => ?_⟩⟩
        have hR7 : RdAl H7 p Rd := RdAt.lock (sb.same s7) hp3 (s7 _ _ hp6) en3
        refine ⟨_, rfl, _, rfl, p, q0, r, c, Rd, e.1, rfl, hR7, ok.few, insR, s7 _ _ hq, fun E2 H8 F2 s8 hE2n hE2 nd2 mem2 => ?_⟩
        refine ⟨E2, _, rfl, hE2, trivial, fun od2 => ⟨E2, od2, rfl, .inr ⟨_, upd_same, fun M hM => ?_⟩⟩⟩
        have nME : M ≠ E2 := fun z => by
          rw [z, upd_same] at hM
          cases hM
        have h8E : (upd H8 E2 (.frz od2 (.dT (F2.map fun z => (idK z, V.bl true))))) E2 = some (.frz od2 (.dT (F2.map fun z => (idK z, V.bl true)))) := upd_same
        have s68 : Same H6 H8 := s7.trans s8
        have hE26 : H6 E2 = none := s7.free hE2n
        have s9 : Same H6 (upd H8 E2 (.frz od2 (.dT (F2.map fun z => (idK z, V.bl true))))) := same_mut s68 hE26
        have hE1' : DAt (.bl true) (upd H8 E2 (.frz od2 (.dT (F2.map fun z => (idK z, V.bl true))))) E1 F1 := by
          show upd H8 E2 _ E1 = _
          rw [upd_ne fun z => ?_]
          · exact s8 _ _ hE1
          · have : H7 E1 = _ := hE1
            rw [z, hE2n] at this
            cases this
        have F2l : F2.length ≤ 60 := cells_few ok.few nd2 fun y hy => by
          obtain ⟨z, hz⟩ := lead_last ((mem2 y).mp hy)
          exact insR z y hz
        generalize upd H8 E2 (.frz od2 (.dT (F2.map fun z => (idK z, V.bl true)))) = H9 at hM h8E s9 hE1' ⊢
        have sM := same_new (o := .lst []) hM
        refine lc_it (walk_keysT (d := E2) (o := od2) (kvs := F2.map fun z => (idK z, V.bl true))) (fun j H' => Same H9 H' ∧ ∃ acc, H' M = some (.lst acc) ∧ acc.length ≤ j ∧ Cls H' acc ((F2.take j).filter fun y => decide (y ∈ F1))) ⟨sM, [], upd_same, Nat.le_refl _, .nil⟩ (fun j H' _ h => h.1 _ _ h8E) ?_ ?_
        · rintro j x HX Hb hj ⟨s10, acc, hMb, al, cla⟩ ⟨rfl, k2, v2, q2, hk2, rfl, hq2⟩
          obtain ⟨y, hy, rfl⟩ : ∃ y, F2[j]? = some y ∧ k2 = idK y := by
            rw [List.getElem?_map] at hk2
            obtain ⟨y, h1, h2⟩ := Option.map_eq_some_iff.mp hk2
            exact ⟨y, h1, (Prod.mk.inj h2).1.symm⟩
          rw [List.length_map] at hj
          have tkn : F2.take (j + 1) = F2.take j ++ [y] := by
            rw [List.take_add_one, hy]
            rfl
          have dg := DGet.t (k := idK y) (s10 _ _ hE1') hq2
          rw [keys_val] at dg
          refine ⟨rfl, _, rfl, _, rfl, E1, _, rfl, dg, ?_⟩
          rw [tkn, List.filter_append]
          by_cases m : y ∈ F1
          · have f1 : [y].filter (fun y => decide (y ∈ F1)) = [y] := filt_yes (decide_eq_true m)
            rw [if_pos m, f1]
            have tk := tk_lst (ws := acc ++ [.ref q2]) hMb
            exact ⟨true, rfl, iteT ⟨_, rfl, acc, hMb, small1000 (by omega), same_mut s10 hM, acc ++ [.ref q2], upd_same, by rw [List.length_append]; exact Nat.succ_le_succ al, (cla.mono tk).snoc (tk _ _ hq2)⟩⟩
          · have f1 : [y].filter (fun y => decide (y ∈ F1)) = [] := filt_no (decide_eq_false m)
            rw [if_neg m, f1, List.append_nil]
            exact ⟨false, rfl, iteF ⟨s10, acc, hMb, Nat.le_succ_of_le al, cla⟩⟩
        · rintro Ha ⟨sa, acc, hMa, al, cla⟩
          rw [List.length_map] at al
          rw [List.length_map, List.take_length] at cla
          simp only [tNil]
          refine sort_cells hMa cla (nd2.filter _) fun kn0 us2 F3 hkn cl3 l3 ord3 pm3 => ?_
          have memK : ∀ y, y ∈ F3 ↔ Lead (rdF Rd) e.1 y ∧ Lead (rdF Rd) y e.1 := fun y => by
            rw [pm3.mem_iff, List.mem_filter, decide_eq_true_iff, mem2, mem1, lead_back (g := rdF Rd) fun x y => memB y x]
          have ndK : F3.Nodup := ord_nd ord3
          have s6a : Same H6 Ha := s9.trans sa
          have sk := same_new (o := .lst us2) hkn
          have s6b := s6a.trans sk
          have hkb : (upd Ha kn0 (.lst us2)) kn0 = some (.lst us2) := upd_same
          have clb := cl3.mono (TK.of sk)
          have hkn6 : H6 kn0 = none := s6a.free hkn
          generalize upd Ha kn0 (.lst us2) = Hb at s6b hkb clb ⊢
          refine ⟨fun σ H' => ∃ (us' : List V) (ks' : List (List Z)), σ = [some (.ref p), some (.ref P), some (.ref q0), some (.ref S), some (.ref T), some (.ref L), some (.ref E1), c7, some (.ref kn0)] ∧ SB p H3 H' ∧ H' p = some (.frz od (.dT kvs)) ∧ DAt (.bl true) H' T ks.flatten ∧ H' L = some (.lst us') ∧ us'.length ≤ i + 1 ∧ RepP (CAt (rmS [L] H')) us' ks' ∧ ks'.flatten = ks.flatten ++ F3 ∧ Knt (rdF Rd) ((Rd.map Prod.fst).take (i + 1)) ks' ∧ H' kn0 = some (.lst us2) ∧ Cls H' us2 F3, ?_, ?_⟩
          · refine ⟨_, rfl, Nat.zero_le _, fun l1 hl1 => ⟨.list (F3.map idD), .list [], .lst (SqL.of (same_new hl1 _ _ hkb)) (cls_dp (clb.mono (TK.of (same_new hl1)))), .lst (SqL.of upd_same) .nil, ids_shaped F3, ids_shaped [], ?_⟩⟩
            have s7 := same_new (o := .lst []) hl1
            have s67 := s6b.trans s7
            have hk7 := s7 _ _ hkb
            have cl7 := clb.mono (TK.of s7)
            have hp7 := s67 _ _ hp6
            have hT7 : DAt (.bl true) _ T ks.flatten := s67 _ _ hT6
            have hL7 := s67 _ _ hL6
            have sb7 := sb.same s67
            have rp7 : RepP (CAt (rmS [L] _)) us ks := rp.imp fun v e h => h.same (rmS_same s67)
            generalize upd Hb l1 (.lst []) = H7 at s7 s67 hk7 cl7 hp7 hT7 hL7 sb7 rp7 ⊢
            cases F3 with
            | nil =>
              refine ⟨false, by simp [PyData.eqv, eqvAll_nil], iteF ⟨us, ks, rfl, sb7, hp7, hT7, hL7, Nat.le_succ_of_le ul, rp7, by simp, ?_, hk7, cl7⟩⟩
              rw [tkj]
              exact kn.skip fun l => nomatch (memK e.1).mpr ⟨l, l⟩
            | cons z0 zs =>
              have nkL : kn0 ≠ L := fun z => by
                rw [z, hL6] at hkn6
                cases hkn6
              have tk8 := tk_lst (ws := us ++ [.ref kn0]) hL7
              refine ⟨true, by simp [PyData.eqv, eqvAll_nil], iteT ⟨_, rfl, .inl ⟨rfl, us, SqL.of hL7⟩, _, rfl, L, us, .ref kn0, rfl, rfl, hL7, small1000 (by omega), ?_⟩⟩
              refine ⟨us ++ [.ref kn0], ks ++ [z0 :: zs], rfl, sb7.mut hLn, ?_, ?_, upd_same, by rw [List.length_append]; exact Nat.succ_le_succ ul, ?_, by simp, ?_, ?_, cl7.mono tk8⟩
              · rw [upd_ne npL]
                exact hp7
              · show upd H7 L _ T = _
                rw [upd_ne nLT.symm]
                exact hT7
              · rw [rmS_in (List.mem_singleton.mpr rfl)]
                refine repP_snoc rp7 ⟨kn0, us2, rfl, ?_, ?_⟩
                · rw [rmS_of (by simpa using nkL)]
                  exact hk7
                · refine cl7.mono fun b xs e => ?_
                  rw [rmS_of]
                  · exact e
                  · intro z
                    rw [List.mem_singleton.mp z, hL7] at e
                    cases e
              · rw [tkj]
                exact kn.add mT ndK memK
              · rw [upd_ne nkL]
                exact hk7
          · rintro σ H7 ⟨us', ks', rfl, sb7, hp7, hT7, hL7, ul7, rp7, fl, kn7, hk7, cl7⟩
            have l60 : (ks.flatten ++ F3).length ≤ 60 := by
              rw [← fl]
              refine Nat.le_trans (nodup_len kn7.nd fun x hx => keyD x (lead_first (kn7.led x hx))) len60
            have ndF := kn7.nd
            rw [fl] at ndF
            refine ⟨_, rfl, kn0, rfl, ⟨us2, SqL.of hk7⟩, for_it (walk_list (a := kn0) (xs := us2)) (fun j σ H' => ∃ (c7 : Option V), σ = [some (.ref p), some (.ref P), some (.ref q0), some (.ref S), some (.ref T), some (.ref L), some (.ref E1), c7, some (.ref kn0)] ∧ SB p H3 H' ∧ H' p = some (.frz od (.dT kvs)) ∧ DAt (.bl true) H' T (ks.flatten ++ F3.take j) ∧ H' L = some (.lst us') ∧ RepP (CAt (rmS [L] H')) us' ks' ∧ H' kn0 = some (.lst us2) ∧ Cls H' us2 F3) ⟨_, rfl, sb7, hp7, by rw [List.take_zero, List.append_nil]; exact hT7, hL7, rp7, hk7, cl7⟩ (fun j σ H' _ ⟨_, _, _, _, _, _, _, h, _⟩ => SqL.of h) ?_ ?_⟩
            · rintro j x σ HY H8 hj ⟨c7, rfl, sb8, hp8, hT8, hL8, rp8, hk8, cl8⟩ ⟨rfl, hx⟩
              obtain ⟨b, y, rfl, hy, hb⟩ := cl8.get j x hx
              have tkn : F3.take (j + 1) = F3.take j ++ [y] := by
                rw [List.take_add_one, hy]
                rfl
              have nk : ∀ e ∈ (ks.flatten ++ F3.take j).map fun z => (idK z, V.bl true), e.1 ≠ idK y := fun e he z => by
                obtain ⟨w0, hw, rfl⟩ := List.mem_map.mp he
                obtain rfl := idK_inj z
                rcases List.mem_append.mp hw with h | h
                · exact (List.nodup_append.mp ndF).2.2 _ h _ (List.mem_of_getElem? hy) rfl
                · exact nodup_take ndK hy h
              have lsum : (ks.flatten ++ F3.take j).length ≤ 60 := by
                rw [List.length_append] at l60 ⊢
                rw [List.length_take]
                omega
              refine ⟨_, rfl, _, rfl, T, _, rfl, DPut.t (k := idK y) hT8 hb (small1000 (by rw [List.length_map]; omega)), ?_⟩
              have keep : ∀ {u : Addr} {o : HO}, H8 u = some o → u ≠ T → upd H8 T (.dT (putK ((ks.flatten ++ F3.take j).map fun z => (idK z, V.bl true)) (idK y) (.bl true))) u = some o := fun {u o} z n => by
                rw [upd_ne n]
                exact z
              have hTT : H8 T = some (.dT ((ks.flatten ++ F3.take j).map fun z => (idK z, V.bl true))) := hT8
              have tk8 : TK H8 (upd H8 T (.dT (putK ((ks.flatten ++ F3.take j).map fun z => (idK z, V.bl true)) (idK y) (.bl true)))) := fun u xs z => keep z fun w0 => by
                rw [w0, hTT] at z
                cases z
              refine ⟨_, rfl, sb8.mut hT, keep hp8 npT, ?_, keep hL8 nLT, rp8.imp fun v e h => ?_, keep hk8 fun z => ?_, cl8.mono tk8⟩
              · show upd H8 T _ T = _
                rw [upd_same, putK_fresh nk, tkn, ← List.append_assoc]
                simp
              · obtain ⟨l, us, ev, h1, h2⟩ := h
                obtain ⟨m, h1⟩ := rmS_some h1
                refine ⟨l, us, ev, ?_, h2.mono fun b xs z => ?_⟩
                · rw [rmS_of m]
                  refine keep h1 fun z => ?_
                  rw [z, hTT] at h1
                  cases h1
                · obtain ⟨m2, z⟩ := rmS_some z
                  rw [rmS_of m2]
                  exact tk8 _ _ z
              · rw [z, hTT] at hk8
                cases hk8
            · rintro σ H8 ⟨c7, rfl, sb8, hp8, hT8, hL8, rp8, hk8, cl8⟩
              rw [cl8.len, List.take_length, ← fl] at hT8
              exact ⟨_, _, _, _, us', ks', rfl, sb8, hp8, hT8, hL8, ul7, rp8, kn7⟩
      · rintro σ H6 ⟨c2, c6, c7, c8, us, ks, rfl, sb, hp6, hT6, hL6, ul, rp, kn⟩
        rw [kl, List.take_length] at kn
        refine ⟨hp6, _, rfl, ?_⟩
        have sU : Same H3 (upd H6 p (.dT kvs)) := unlockS sb hp3
        refine q L _ us ks (s03.trans sU) (s03.free hLn) ?_ (rp.imp fun v e h => ?_) kn
        · rw [upd_ne npL.symm]
          exact hL6
        · obtain ⟨l, ws, ev, h1, h2⟩ := h
          obtain ⟨m, h1⟩ := rmS_some h1
          refine ⟨l, ws, ev, ?_, h2.mono fun b xs z => ?_⟩
          · rw [upd_ne fun z => ?_]
            · exact h1
            · rw [z, hp6] at h1
              cases h1
          · obtain ⟨m2, z⟩ := rmS_some z
            rw [upd_ne fun w0 => ?_]
            · exact z
            · rw [w0, hp6] at z
              cases z
/-! ### the cells in rings -/
def spInRings (K : PySem.W.Frag) : Sp := fun vs H Q _ => ∃ (p : Addr) (r c : Int) (Rd : List (Z × List Z)), vs = [.ref p] ∧ RdAt H p Rd ∧ RdOk r c Rd ∧
  ∀ (L : Addr) (H' : Hp) (us : List V) (F : List Z), Same H H' → H L = none → H' L = some (.lst us) → Cls H' us F → F.Pairwise ltK → (∀ x, x ∈ F ↔ Lead (rdF Rd) x x) → Q (.ref L) H'
theorem okCellsInRings (T : Txt K mg) : FnOk P w K mg base CX0 4 T.fCellsInRings T.fdCellsInRings ["reads"] (spInRings K) := by
  refine T.FCellsInRings.ok scCellsInRings (fun vs H Q E h => ?_) (fun cdv A outer s H vs Q E hr h => ?_)
  · obtain ⟨p, r, c, Rd, rfl, _⟩ := h
    rfl
  · obtain ⟨p, r, c, Rd, rfl, hR, ok, q⟩ := h
    -- slots reads=0 knot=1 cell=2
    refine ⟨_, (pss_one (ps_ret (pe_callB (cr_sortedD hr.units) (by rfl) T.z_sorted (by decide +kernel) (pa_cons (pe_lc2 (own := [("knot", 1), ("cell", 2)]) (vs1 := [2]) (g := gName 1) (g1 := gName 2) (tt := tYes) (tt1 := tYes) rfl scCellsInRings.nd (pi_list (pe_call (okKnotsIn T) (hr.mono (by decide)) (by rfl) T.gKnotsIn T.FKnotsIn.kp T.bKnotsIn .nil pass0 (pa_cons (pv 0) pa_nil))) (blkOk_by (own := [("knot", 1), ("cell", 2)]) (N := ["reads", "knot", "cell"]) (sc := defScope sCellsInRings) (by decide +kernel)) (by decide +kernel) (fun _ _ _ _ _ => (pg_name (i := 1) scCellsInRings.nd rfl (Or.inl rfl))) (fun _ _ _ _ _ => pts_nil) (fun _ _ _ _ _ => (pi_listK (K := K) rfl (pv 1))) (fun _ _ _ _ _ => (pg_name (i := 2) scCellsInRings.nd rfl (Or.inl rfl))) (fun _ _ _ _ _ => pts_nil) (fun _ _ _ _ _ => (pv 2))) pa_nil)))), ?_⟩
    refine ⟨_, rfl, p, r, c, Rd, rfl, hR, ok, fun L H1 us ks s1 hLn hL rp kn => ?_⟩
    have keyD : ∀ z, (∃ y, y ∈ rdF Rd z) → z ∈ Rd.map Prod.fst := fun z ⟨y, hy⟩ => by
      obtain ⟨l, hl, _⟩ := rdF_mem hy
      exact List.mem_map_of_mem hl
    have len60 : (Rd.map Prod.fst).length ≤ 60 := cells_few ok.few ok.nd fun y hy => by
      obtain ⟨d, hd, rfl⟩ := List.mem_map.mp hy
      exact ok.key d hd
    have l60 : ks.flatten.length ≤ 60 := Nat.le_trans (nodup_len kn.nd fun x hx => keyD x (lead_first (kn.led x hx))) len60
    refine ⟨L, rfl, ⟨us, SqL.of hL⟩, fun D hD => ?_⟩
    refine walk_any (walk_list (a := L) (xs := us)) (fun i H' => Same H1 H' ∧ ∃ ws, H' D = some (.lst ws) ∧ Cls H' ws (ks.take i).flatten) ⟨same_new hD, [], upd_same, .nil⟩ (fun i H' _ h => SqL.of (h.1 _ _ hL)) ?_ ?_
    · rintro i x HX H2 hi ⟨s2, ws, hD2, cl⟩ ⟨rfl, hx⟩
      have lk : i < ks.length := by rw [← rp.len]; exact hi
      obtain ⟨l, vs, rfl, hl, clk⟩ := rp.at_ i x ks[i] hx (List.getElem?_eq_getElem lk)
      have hk : ks[i]? = some ks[i] := List.getElem?_eq_getElem lk
      generalize ks[i] = k at hk clk
      have tkk : (ks.take (i + 1)).flatten = (ks.take i).flatten ++ k := by
        rw [List.take_add_one, hk]
        simp
      have hl2 := s2 _ _ hl
      refine ⟨rfl, yesT ⟨_, rfl, l, rfl, ⟨vs, SqL.of hl2⟩, ?_⟩⟩
      have sub : ∀ j, ((ks.take i).flatten ++ k.take j).length ≤ 60 := fun j => by
        have h1 : ((ks.take i).flatten ++ k.take j).Sublist ks.flatten := by
          have h2 : ((ks.take i).flatten ++ k.take j).Sublist ((ks.take i).flatten ++ k) := (List.Sublist.refl _).append (List.take_sublist _ _)
          rw [← tkk] at h2
          refine h2.trans ?_
          conv => rhs; rw [← List.take_append_drop (i + 1) ks, List.flatten_append]
          exact List.sublist_append_left _ _
        exact Nat.le_trans h1.length_le l60
      refine walk_any (walk_list (a := l) (xs := vs)) (fun j H' => Same H1 H' ∧ ∃ ws, H' D = some (.lst ws) ∧ Cls H' ws ((ks.take i).flatten ++ k.take j)) ⟨s2, ws, hD2, by rw [List.take_zero, List.append_nil]; exact cl⟩ (fun j H' _ h => SqL.of (h.1 _ _ hl)) ?_ ?_
      · rintro j x HY H4 hj ⟨s4, ws, hD4, cl4⟩ ⟨rfl, hx⟩
        obtain ⟨b, y, rfl, hy, hb⟩ := clk.get j x hx
        have tkn : k.take (j + 1) = k.take j ++ [y] := by
          rw [List.take_add_one, hy]
          rfl
        have tk := tk_lst (ws := ws ++ [.ref b]) hD4
        refine ⟨rfl, yesT ⟨_, rfl, ws, hD4, small1000 (by have := cl4.len; have := sub j; omega), same_mut s4 hD, ws ++ [.ref b], upd_same, ?_⟩⟩
        rw [tkn, ← List.append_assoc]
        exact (cl4.mono tk).snoc (tk _ _ (s4 _ _ hb))
      · rintro H4 ⟨s4, ws, hD4, cl4⟩
        rw [clk.len, List.take_length] at cl4
        refine ⟨s4, ws, hD4, ?_⟩
        rw [tkk]
        exact cl4
    · rintro H2 ⟨s2, ws, hD2, cl⟩
      rw [rp.len, List.take_length] at cl
      simp only [tNil]
      refine sort_cells hD2 cl kn.nd fun k0 us2 F3 hkn cl3 l3 ord3 pm3 => ?_
      have sk := same_new (o := .lst us2) hkn
      refine q k0 _ us2 F3 ((s1.trans s2).trans sk) ((s1.trans s2).free hkn) upd_same (cl3.mono (TK.of sk)) ord3 fun x => ?_
      rw [pm3.mem_iff]
      exact ⟨kn.led x, fun l => kn.done x (keyD x (lead_first l)) l⟩
def spRingCells (K : PySem.W.Frag) (C0 : Addr) : Sp := fun vs H Q _ => ∃ (g : Gr) (W : WC) (N : NA) (R C : Int), vs = [.ref g.G] ∧ GD K C0 H g (cdW W) (nmA N) ∧ Wld R C W N ∧ WOk R C W ∧ W.length ≤ 60 ∧
  ∀ (L : Addr) (H' : Hp) (us : List V) (F : List Z) (Rd : List (Z × List Z)), Same H H' → H L = none → H' L = some (.lst us) → Cls H' us F → F.Pairwise ltK → RdsOf R C W N Rd → (∀ x, x ∈ F ↔ Lead (rdF Rd) x x) → Q (.ref L) H'
theorem okRingCells (T : Txt K mg) : FnOk P w K mg base CX0 9 T.fRingCells T.fdRingCells ["grid"] (spRingCells K T.cGrid) := by
  refine T.FRingCells.ok scRingCells (fun vs H Q E h => ?_) (fun cdv A outer s H vs Q E hr h => ?_)
  · obtain ⟨g, W, N, R, C, rfl, _⟩ := h
    rfl
  · obtain ⟨g, W, N, R, C, rfl, G, wl, wok, few, q⟩ := h
    -- slots grid=0
    refine ⟨_, (pss_one (ps_ret (pe_call (okCellsInRings T) (hr.mono (by decide)) (by rfl) T.gCellsInRings T.FCellsInRings.kp T.bCellsInRings .nil pass0 (pa_cons (pe_call (okReadsOf T) (hr.mono (by decide)) (by rfl) T.gReadsOf T.FReadsOf.kp T.bReadsOf .nil pass0 (pa_cons (pv 0) pa_nil)) pa_nil)))), ?_⟩
    refine ⟨_, rfl, g, W, N, R, C, rfl, G, wl, wok, few, fun P H1 Rd s1 hPn hR rds => ?_⟩
    exact ⟨P, R, C, Rd, rfl, hR, rds.toRdOk, fun L H2 us F s2 hLn hL cl ord mem => q L H2 us F Rd (s1.trans s2) (s1.free hLn) hL cl ord rds mem⟩
/-! ### the law's own reads -/
theorem kd_lock {H : Hp} {p : Addr} {u : HO} {o : HO} (hp : H p = some u) (d : isD u = true) : KD H (upd H p o) := KD.put hp d
theorem kd_sb {S : List Addr} {H H' : Hp} {p : Addr} {u : List (List Key × V)} (s : SB p H H') (hp : H p = some (.dT u)) : KD (rmS S H) (rmS S H') := fun q o n e => by
  obtain ⟨m, e⟩ := rmS_some e
  rw [rmS_of m]
  refine s _ _ e fun z => ?_
  rw [z, hp] at e
  cases e
  cases n
theorem TD.lock {K : PySem.W.Frag} {S : List Addr} {H H' : Hp} {cd nd : Addr} {W : WC} {N : NA} {od : Obj} {kvs : List (List Key × V)} (h : TD K (rmS S H) cd nd (cdW W) (nmA N)) (s : SB cd H H') (hc : H cd = some (.dT kvs)) (hc' : H' cd = some (.frz od (.dT kvs))) : TDr K S H' cd nd W N := by
  obtain ⟨⟨kvs0, h1, h2, _⟩, ⟨nvs, h3, h4, _⟩⟩ := h
  obtain ⟨m, e⟩ := rmS_some h1
  rw [hc] at e
  obtain rfl := HO.dT.inj (Option.some.inj e)
  have kd := kd_sb (S := S) s hc
  obtain ⟨m2, e2⟩ := rmS_some h3
  have n : nd ≠ cd := fun z => by
    rw [z, hc] at e2
    cases e2
  exact ⟨⟨kvs, .inr ⟨od, by rw [rmS_of m]; exact hc'⟩, ents_kd kd h2⟩, ⟨nvs, by rw [rmS_of m2]; exact s _ _ e2 n, entsN_kd kd h4⟩⟩
def spAllReads (K : PySem.W.Frag) : Sp := fun vs H Q _ => ∃ (S : List Addr) (w0 nd cd : Addr) (R C : Int) (W : WC) (N : NA), vs = [.ref w0] ∧ H w0 = some (.lst [.int R, .int C, .ref nd, .ref cd]) ∧ TD K (rmS S H) cd nd (cdW W) (nmA N) ∧ Wld R C W N ∧ WOk R C W ∧ W.length ≤ 60 ∧
  ∀ (p : Addr) (H' : Hp) (Rd : List (Z × List Z)), Same H H' → H p = none → RdAt H' p Rd → RdsOf R C W N Rd → Q (.ref p) H'
theorem okLawAllReads (T : Txt K mg) : FnOk P w K mg base CX0 9 T.fLawAllReads T.fdLawAllReads ["world"] (spAllReads K) := by
  refine T.FLawAllReads.ok scLawAllReads (fun vs H Q E h => ?_) (fun cdv A outer s H vs Q E hr h => ?_)
  · obtain ⟨S, w0, nd, cd, R, C, W, N, rfl, _⟩ := h
    rfl
  · obtain ⟨S, w0, nd, cd, R, C, W, N, rfl, hw, td, wl, wok, few, q⟩ := h
    -- slots world=0 reads=1 cell=2
    refine ⟨_, (pss_cons (ps_set (i := 1) scLawAllReads.nd rfl (Or.inl rfl) pe_dnewT)
        (pss_cons (ps_lock (ps_for PassesOwn.never rfl (pi_keys (pe_ix ix_list (pv 0) pe_int (fun _ _ => rfl))) (pg_name (i := 2) scLawAllReads.nd rfl (Or.inl rfl))
          (pss_one (ps_dput (units2 hr) (pv 1) (pv 2) (pe_call (okLawReads T) (hr.mono (by decide)) (by rfl) T.gLawReads T.FLawReads.kp T.bLawReads .nil pass0 (pa_cons (pv 0) (pa_cons (pv 2) pa_nil))) rfl))))
        (pss_one (ps_ret (pv 1))))), ?_⟩
    obtain ⟨⟨kvs, hcr, en, _⟩, _⟩ := id td
    have hc := (rmS_some hcr).2
    refine fun D hD => ?_
    have s1 := same_new (o := .dT []) hD
    have nDc : cd ≠ D := ne_of_none hc hD
    have nDw : w0 ≠ D := ne_of_none hw hD
    have nwc : w0 ≠ cd := fun z => by
      rw [z, hc] at hw
      cases hw
    refine ⟨cd, _, s1 _ _ hc, trivial, fun od => ?_⟩
    have hw1 : (upd (upd H D (.dT [])) cd (.frz od (.dT kvs))) w0 = some (.lst [.int R, .int C, .ref nd, .ref cd]) := by
      rw [upd_ne nwc]
      exact s1 _ _ hw
    refine ⟨_, rfl, w0, _, _, _, rfl, rfl, SqL.of hw1, atI_nat (j := 3) rfl, cd, od, rfl, .inr ⟨kvs, upd_same, for_it (walk_keysT (d := cd) (o := od) (kvs := kvs)) (fun i σ H' => ∃ (c2 : Option V) (ks : List (List Key × V)) (Rd : List (Z × List Z)), σ = [some (.ref w0), some (.ref D), c2] ∧ SB cd H H' ∧ H' cd = some (.frz od (.dT kvs)) ∧ H' D = some (.dT ks) ∧ Ents idK (CAt (rmS [D] H')) ks Rd ∧ Rd.map Prod.fst = (W.map Prod.fst).take i ∧ ∀ e ∈ Rd, e.2.Pairwise ltK ∧ ∀ y, y ∈ e.2 ↔ y ∈ readsOf W N e.1) ⟨_, [], [], rfl, ?_, upd_same, ?_, RepP.nil, rfl, fun _ h => nomatch h⟩ (fun i σ H' _ ⟨_, _, _, _, _, h, _⟩ => h) ?_ ?_⟩⟩
    · exact fun c u e n => by
        rw [upd_ne n]
        exact s1 _ _ e
    · rw [upd_ne nDc.symm]
      exact upd_same
    · rintro i x2 σ HX H3 hi ⟨c2, ks, Rd, rfl, m1, m2, hD3, en3, ek, okR⟩ ⟨rfl, k, vv, q0, hkv, rfl, hq⟩
      have lW : i < (cdW W).length := by rw [← en.len]; exact hi
      have he : (cdW W)[i]? = some (cdW W)[i] := List.getElem?_eq_getElem lW
      obtain ⟨ek1, _⟩ := en.at_ i _ (cdW W)[i] hkv he
      generalize (cdW W)[i] = e at he ek1
      obtain rfl : k = idK e.1 := ek1
      have kj : (W.map Prod.fst)[i]? = some e.1 := by
        rw [← cdW_keys, List.getElem?_map, he]
        rfl
      have tkj : (W.map Prod.fst).take (i + 1) = (W.map Prod.fst).take i ++ [e.1] := by
        rw [List.take_add_one, kj]
        rfl
      have hw3 := m1 _ _ hw nwc
      refine ⟨_, rfl, _, rfl, S, w0, nd, cd, q0, R, C, W, N, e.1, rfl, hw3, td.lock m1 hc m2, wl, wok.sh, hq, fun p Zs H5 s5 rd => ?_⟩
      have hD5 := s5 _ _ hD3
      have npD : p ≠ D := fun z => by
        have := rd.new
        rw [z, hD3] at this
        cases this
      have newK : ∀ d ∈ ks, d.1 ≠ idK e.1 := fun d hd y => by
        have m : d.1 ∈ ks.map Prod.fst := List.mem_map_of_mem hd
        rw [ents_keys en3] at m
        obtain ⟨z, hz, ez⟩ := List.mem_map.mp m
        rw [ek] at hz
        rw [y] at ez
        exact nodup_take wok.nd kj (by rw [← idK_inj ez]; exact hz)
      have kl : ks.length ≤ 60 := by
        have h1 := en3.len
        have h2 := congrArg List.length ek
        rw [List.length_map, List.length_take, List.length_map] at h2
        omega
      refine ⟨_, rfl, _, rfl, D, _, rfl, DPut.t (k := idK e.1) hD5 (s5 _ _ hq) (small1000 (by omega)), ?_⟩
      refine ⟨_, _, Rd ++ [(e.1, Zs.map Prod.snd)], rfl, (m1.same s5).mut hD, ?_, upd_same, ?_, ?_, fun d hd => ?_⟩
      · rw [upd_ne nDc]
        exact s5 _ _ m2
      · rw [putK_fresh newK, rmS_in (List.mem_singleton.mpr rfl)]
        refine ents_snoc (en3.imp fun kv e hh => ⟨hh.1, hh.2.same (rmS_same s5)⟩) ⟨p, Zs.map Prod.fst, rfl, ?_, ?_⟩
        · rw [rmS_of (by simpa using npD)]
          exact rd.at_
        · refine (cls_of rd.tu).mono fun b xs z => ?_
          rw [rmS_of]
          · exact z
          · intro y
            rw [List.mem_singleton.mp y, hD5] at z
            cases z
      · rw [List.map_append, ek, tkj]
        rfl
      · rcases List.mem_append.mp hd with h | h
        · exact okR d h
        · rw [List.mem_singleton.mp h]
          exact ⟨ord_of rd.nd rd.so, rd.mem⟩
    · rintro σ H3 ⟨c2, ks, Rd, rfl, m1, m2, hD3, en3, ek, okR⟩
      have wk : kvs.length = (W.map Prod.fst).length := by rw [en.len, ← cdW_keys, List.length_map]
      rw [wk, List.take_length] at ek
      refine ⟨m2, _, rfl, ?_⟩
      have sU : Same H (upd H3 cd (.dT kvs)) := unlockS m1 hc
      refine q D _ Rd sU hD ⟨ks, ?_, en3.imp fun kv e hh => ⟨hh.1, ?_⟩⟩ ⟨⟨by rw [ek]; exact wok.nd, wl.few, fun e he => ?_, fun e he y hy => ?_, fun e he => (okR e he).1⟩, fun z => by rw [ek], fun e he => (okR e he).2⟩
      · rw [upd_ne nDc.symm]
        exact hD3
      · obtain ⟨l, us, ev, h1, h2⟩ := hh.2
        obtain ⟨_, h1⟩ := rmS_some h1
        refine ⟨l, us, ev, ?_, h2.mono fun b xs z => ?_⟩
        · rw [upd_ne fun z => ?_]
          · exact h1
          · rw [z, m2] at h1
            cases h1
        · obtain ⟨_, z⟩ := rmS_some z
          rw [upd_ne fun w0 => ?_]
          · exact z
          · rw [w0, m2] at z
            cases z
      · have m : e.1 ∈ W.map Prod.fst := by rw [← ek]; exact List.mem_map_of_mem he
        obtain ⟨w, hw, e2⟩ := List.mem_map.mp m
        rw [← e2]
        exact wok.ins w hw
      · have m := ((okR e he).2 y).mp hy
        unfold readsOf at m
        cases ef : formulaAt W e.1 with
        | none =>
          rw [ef] at m
          cases m
        | some t =>
          rw [ef] at m
          exact reads_ins wl (wl.tr _ _ ef).1 y m
/-! ### the law's own levels -/
structure Nst (g : Z → List Z) (t : Z) (n : Nat) (C : List Z) (st : List (Z × Nat)) : Prop where
  nd : (st.map Prod.fst).Nodup
  lev : ∀ x k, (x, k) ∈ st ↔ Lev g t k x ∧ (k ≤ n ∨ (k = n + 1 ∧ x ∈ C))
theorem Nst.start {g : Z → List Z} {t : Z} : Nst g t 0 [] [(t, 0)] := by
  refine ⟨by simp, fun x k => ?_⟩
  rw [List.mem_singleton]
  constructor
  · intro h
    obtain ⟨rfl, rfl⟩ := Prod.mk.inj h
    exact ⟨lev_zero, Or.inl (Nat.le_refl 0)⟩
  · rintro ⟨l, h | ⟨_, h⟩⟩
    · obtain rfl : k = 0 := Nat.le_zero.mp h
      rw [lev_0 l]
    · cases h
theorem Nst.skip {g : Z → List Z} {t : Z} {n : Nat} {C : List Z} {st : List (Z × Nat)} {x : Z} (h : Nst g t n C st) (hx : Lev g t (n + 1) x → x ∈ st.map Prod.fst) : Nst g t n (C ++ [x]) st := by
  refine ⟨h.nd, fun y k => ?_⟩
  rw [h.lev y k]
  refine and_congr_right fun l => or_congr Iff.rfl (and_congr_right fun e => ?_)
  subst e
  constructor
  · exact fun m => List.mem_append_left _ m
  · intro m
    rcases List.mem_append.mp m with m | m
    · exact m
    · rw [List.mem_singleton.mp m] at l ⊢
      obtain ⟨e, he, e1⟩ := List.mem_map.mp (hx l)
      obtain ⟨l2, o⟩ := (h.lev x e.2).mp (by rw [← e1]; exact he)
      have := l.one l2
      rcases o with o | ⟨_, o⟩
      · omega
      · exact o
theorem Nst.add {g : Z → List Z} {t : Z} {n : Nat} {C : List Z} {st : List (Z × Nat)} {x : Z} (h : Nst g t n C st) (new : x ∉ st.map Prod.fst) (l : Lev g t (n + 1) x) : Nst g t n (C ++ [x]) (st ++ [(x, n + 1)]) := by
  refine ⟨?_, fun y k => ?_⟩
  · rw [List.map_append, List.nodup_append]
    refine ⟨h.nd, by simp, fun a ha b hb z => ?_⟩
    have hb : b = x := by simpa using hb
    rw [z, hb] at ha
    exact new ha
  · rw [List.mem_append, h.lev y k, List.mem_singleton]
    constructor
    · rintro (⟨a, b | ⟨b, c⟩⟩ | e)
      · exact ⟨a, Or.inl b⟩
      · exact ⟨a, Or.inr ⟨b, List.mem_append_left _ c⟩⟩
      · obtain ⟨rfl, rfl⟩ := Prod.mk.inj e
        exact ⟨l, Or.inr ⟨rfl, by simp⟩⟩
    · rintro ⟨a, b | ⟨b, c⟩⟩
      · exact Or.inl ⟨a, Or.inl b⟩
      · rcases List.mem_append.mp c with c | c
        · exact Or.inl ⟨a, Or.inr ⟨b, c⟩⟩
        · rw [List.mem_singleton.mp c, b]
          exact Or.inr rfl
/-- a cell that isn't told has no level up to n -/
theorem Nst.none {g : Z → List Z} {t : Z} {n : Nat} {C : List Z} {st : List (Z × Nat)} {x : Z} (h : Nst g t n C st) (new : x ∉ st.map Prod.fst) : (∃ y ∈ g x, Lev g t n y) ↔ Lev g t (n + 1) x := by
  rw [lev_succ]
  refine ⟨fun e => ⟨fun w => ?_, e⟩, fun e => e.2⟩
  obtain ⟨m, le, l⟩ := way_lev w
  exact new (List.mem_map.mpr ⟨_, (h.lev x m).mpr ⟨l, Or.inl le⟩, rfl⟩)
theorem Nst.next {g : Z → List Z} {t : Z} {n : Nat} {D : List Z} {st : List (Z × Nat)} (h : Nst g t n D st) (key : ∀ z, (∃ y, y ∈ g z) → z ∈ D) : Nst g t (n + 1) [] st := by
  refine ⟨h.nd, fun x k => ?_⟩
  rw [h.lev x k]
  refine and_congr_right fun l => ⟨fun o => Or.inl ?_, fun o => ?_⟩
  · rcases o with o | ⟨o, _⟩ <;> omega
  · rcases o with o | ⟨_, o⟩
    · rcases Nat.lt_or_ge n k with q | q
      · obtain rfl : k = n + 1 := by omega
        obtain ⟨_, y, hy, _⟩ := lev_succ.mp l
        exact Or.inr ⟨rfl, key x ⟨y, hy⟩⟩
      · exact Or.inl q
    · cases o
/-- of one cell: what the first of its reads have told -/
def NstI (g : Z → List Z) (t : Z) (n : Nat) (x : Z) (L : List Z) (st0 st : List (Z × Nat)) (gr0 gr : Bool) : Prop :=
  (st = st0 ∧ gr = gr0 ∧ ∀ y ∈ L, ¬ Lev g t n y) ∨ (st = st0 ++ [(x, n + 1)] ∧ gr = true ∧ Lev g t (n + 1) x)
theorem NstI.start {g : Z → List Z} {t : Z} {n : Nat} {x : Z} {st : List (Z × Nat)} {gr : Bool} : NstI g t n x [] st st gr gr := .inl ⟨rfl, rfl, fun _ h => nomatch h⟩
theorem Nst.get {g : Z → List Z} {t : Z} {n : Nat} {C : List Z} {st : List (Z × Nat)} (h : Nst g t n C st) (hn : n < 40) (y : Z) : ∃ m : Int, (valV (stK st) (idK y)).getD (.int 99) = .int m ∧ (m = (n : Int) ↔ Lev g t n y) := by
  by_cases my : y ∈ st.map Prod.fst
  · obtain ⟨e, he, rfl⟩ := List.mem_map.mp my
    have lv := ((h.lev e.1 e.2).mp he).1
    refine ⟨(e.2 : Int), by rw [(stK_keys (x := e.1)).2 h.nd e.2 he]; rfl, fun z => ?_, fun z => ?_⟩
    · rw [show n = e.2 by omega]
      exact lv
    · rw [lv.one z]
  · refine ⟨99, by rw [(stK_keys (x := y)).1 my]; rfl, fun z => by omega, fun z => absurd (List.mem_map.mpr ⟨_, (h.lev y n).mpr ⟨z, .inl (Nat.le_refl n)⟩, rfl⟩) my⟩
theorem stK_new {st : List (Z × Nat)} {x : Z} (h : x ∉ st.map Prod.fst) : ∀ e ∈ stK st, e.1 ≠ idK x := fun e he z => by
  obtain ⟨w, hw, rfl⟩ := List.mem_map.mp he
  exact h (List.mem_map.mpr ⟨w, hw, idK_inj z⟩)
def spNearest (K : PySem.W.Frag) : Sp := fun vs H Q _ => ∃ (p a : Addr) (r c : Int) (Rd : List (Z × List Z)) (t : Z), vs = [.ref p, .ref a] ∧ RdAt H p Rd ∧ RdOk r c Rd ∧ Rd.length ≤ 40 ∧ H a = some (.tup [.int t.1, .int t.2]) ∧
  ∀ (D : Addr) (H' : Hp) (st : List (Z × Nat)), Same H H' → H D = none → H' D = some (.dT (stK st)) → (st.map Prod.fst).Nodup → (∀ x n, (x, n) ∈ st ↔ Lev (rdF Rd) t n x) → Q (.ref D) H'
theorem okLawNearest (T : Txt K mg) : FnOk P w K mg base CX0 1 T.fLawNearest T.fdLawNearest ["reads", "target"] (spNearest K) := by
  refine T.FLawNearest.ok scLawNearest (fun vs H Q E h => ?_) (fun cdv A outer s H vs Q E hr h => ?_)
  · obtain ⟨p, a, r, c, Rd, t, rfl, _⟩ := h
    rfl
  · obtain ⟨p, a, r, c, Rd, t, rfl, hR, ok, l40, ha, q⟩ := h
    -- slots reads=0 target=1 steps=2 turn=3 grown=4 cell=5 other=6
    refine ⟨_, (pss_cons (ps_set (i := 2) scLawNearest.nd rfl (Or.inl rfl) pe_dnewT)
        (pss_cons (ps_dput (units2 hr) (pv 2) (pv 1) pe_int rfl)
        (pss_cons (ps_for PassesOwn.never rfl (pi_range1 rfl T.z_range (pa_cons pe_int pa_nil)) (pg_name (i := 3) scLawNearest.nd rfl (Or.inl rfl))
          (pss_cons (ps_set (i := 4) scLawNearest.nd rfl (Or.inl rfl) pe_bl)
          (pss_cons (ps_lock (ps_for PassesOwn.never rfl (pi_keys (pv 0)) (pg_name (i := 5) scLawNearest.nd rfl (Or.inl rfl))
            (pss_one (ps_if (pt_cmp (pc_dnotin (units2 hr) (pv 5) (pv 2)))
              (pss_one (ps_for PassesOwn.never rfl (pi_list (pe_dget (units2 hr) (pv 0) (pv 5) (fun _ _ => rfl))) (pg_name (i := 6) scLawNearest.nd rfl (Or.inl rfl))
                (pss_one (ps_if (PW.pt (pw_and (pt_cmpR (op_eqD hr.units) (pe_dget2 (units2 hr) (pv 2) (pv 6) pe_int ⟨rfl, rfl, rfl, rfl⟩) (pv 3) (nomark _)) (pw_and1 (pt_cmp (pc_dnotin (units2 hr) (pv 5) (pv 2))))))
                  (pss_cons (ps_dput (units2 hr) (pv 2) (pv 5) (pe_op op_add (pv 3) pe_int) rfl)
                  (pss_one (ps_set (i := 4) scLawNearest.nd rfl (Or.inl rfl) pe_bl)))
                  pss_nil))))
              pss_nil))))
          (pss_one (ps_if (pt_not (pt_val (pv 4)))
            (pss_one ps_break)
            pss_nil)))))
        (pss_one (ps_ret (pv 2)))))), ?_⟩
    obtain ⟨kvs, hp, en⟩ := id hR
    have nk := ents_nd en ok.nd
    have kl : kvs.length = (Rd.map Prod.fst).length := by rw [en.len, List.length_map]
    have keyD : ∀ z, (∃ y, y ∈ rdF Rd z) → z ∈ Rd.map Prod.fst := fun z ⟨y, hy⟩ => by
      obtain ⟨l, hl, _⟩ := rdF_mem hy
      exact List.mem_map_of_mem hl
    have levs : ∀ {n : Nat} {x : Z}, Lev (rdF Rd) t n x → n ≤ 40 := fun {n x} l => by
      have := lev_len keyD l
      rw [List.length_map] at this
      omega
    refine fun D hD => ?_
    have npD : p ≠ D := ne_of_none hp hD
    refine ⟨_, rfl, _, rfl, D, _, rfl, DPut.t (k := idK t) upd_same (same_new hD _ _ ha) (small1000 (by show 0 ≤ 1000; decide)), ?_⟩
    have sD : Same H (upd (upd H D (.dT [])) D (.dT (putK [] (idK t) (.int 0)))) := same_mut (same_new hD) hD
    have eD : (upd (upd H D (.dT [])) D (.dT (putK [] (idK t) (.int 0)))) D = some (.dT (stK [(t, 0)])) := upd_same
    generalize upd (upd H D (.dT [])) D (.dT (putK [] (idK t) (.int 0))) = H1 at sD eD ⊢
    refine ⟨40, rfl, by decide, by decide, for_range (lo := 0) (n := 40) (fun n σ H' => ∃ (c3 c4 c5 c6 : Option V) (st : List (Z × Nat)), σ = [some (.ref p), some (.ref a), some (.ref D), c3, c4, c5, c6] ∧ Same H H' ∧ H' D = some (.dT (stK st)) ∧ Nst (rdF Rd) t n [] st) ⟨_, _, _, _, _, rfl, sD, eD, Nst.start⟩ ?_ ?_⟩
    · rintro n σ H2 hn ⟨c3, c4, c5, c6, st0, rfl, s2, hD2, ns⟩
      have hp2 := s2 _ _ hp
      rw [show (0 : Int) + (n : Int) = (n : Int) from Int.zero_add _]
      refine ⟨p, _, hp2, trivial, fun od => ⟨_, rfl, p, od, rfl, .inr ⟨kvs, upd_same, for_it (walk_keysT (d := p) (o := od) (kvs := kvs)) (fun i σ H' => ∃ (c5 c6 : Option V) (gr : Bool) (st : List (Z × Nat)), σ = [some (.ref p), some (.ref a), some (.ref D), some (.int (n : Int)), some (.bl gr), c5, c6] ∧ SB p H H' ∧ H' p = some (.frz od (.dT kvs)) ∧ H' D = some (.dT (stK st)) ∧ Nst (rdF Rd) t n ((Rd.map Prod.fst).take i) st ∧ (gr = false → ∀ x ∈ (Rd.map Prod.fst).take i, ¬ Lev (rdF Rd) t (n + 1) x)) ⟨_, _, false, st0, rfl, ?_, upd_same, ?_, by rw [List.take_zero]; exact ns, fun _ x h => by rw [List.take_zero] at h; cases h⟩ (fun i σ H' _ ⟨_, _, _, _, _, _, h, _⟩ => h) ?_ ?_⟩⟩⟩
      · exact fun c u e n => by
          rw [upd_ne n]
          exact s2 _ _ e
      · rw [upd_ne npD.symm]
        exact hD2
      · rintro i x2 σ HX H6 hi ⟨c5, c6, gr, st, rfl, sb, hp6, hD6, ns6, no6⟩ ⟨rfl, k, vv, q0, hkv, rfl, hq⟩
        have lr : i < Rd.length := by rw [← en.len]; exact hi
        have he : Rd[i]? = some Rd[i] := List.getElem?_eq_getElem lr
        obtain ⟨ek, l, us, rfl, hl, cl⟩ := en.at_ i _ Rd[i] hkv he
        generalize Rd[i] = e at he ek cl
        obtain rfl : k = idK e.1 := ek
        have kj : (Rd.map Prod.fst)[i]? = some e.1 := by rw [List.getElem?_map, he]; rfl
        have tkj : (Rd.map Prod.fst).take (i + 1) = (Rd.map Prod.fst).take i ++ [e.1] := by
          rw [List.take_add_one, kj]
          rfl
        have fd : rdF Rd e.1 = e.2 := rdF_at ok.nd (List.mem_of_getElem? he)
        have dg := DGet.t (k := idK e.1) hD6 hq
        refine ⟨_, rfl, _, rfl, D, _, rfl, dg, ?_⟩
        by_cases m : e.1 ∈ st.map Prod.fst
        · obtain ⟨d, hd, e1⟩ := List.mem_map.mp m
          rw [(stK_keys (x := e.1)).2 ns6.nd d.2 (by rw [← e1]; exact hd)]
          refine ⟨false, rfl, iteF ⟨_, c6, gr, st, rfl, sb, hp6, hD6, by rw [tkj]; exact ns6.skip fun _ => m, fun g x hx => ?_⟩⟩
          rw [tkj] at hx
          rcases List.mem_append.mp hx with h | h
          · exact no6 g x h
          · intro l
            rw [List.mem_singleton.mp h] at l
            obtain ⟨l2, o⟩ := (ns6.lev e.1 d.2).mp (by rw [← e1]; exact hd)
            have := l.one l2
            rcases o with o | ⟨_, o⟩
            · omega
            · exact nodup_take ok.nd kj o
        · rw [(stK_keys (x := e.1)).1 m]
          have nlp : l ≠ p := fun z => by
            rw [z, hp] at hl
            cases hl
          have hl6 := sb _ _ hl nlp
          have cl6 := cl.mono (sb.tk hp)
          have dgp : DGet H6 p (.ref q0) (some (.ref l)) := by
            rw [← valV_own nk _ (List.mem_of_getElem? hkv)]
            exact .inr ⟨kvs, idK e.1, q0, .inr ⟨od, hp6⟩, rfl, hq, rfl⟩
          have st40 : st.length ≤ 60 := by
            have h1 := nodup_len ns6.nd (D := t :: Rd.map Prod.fst) fun x hx => by
              obtain ⟨d, hd, rfl⟩ := List.mem_map.mp hx
              obtain ⟨lv, _⟩ := (ns6.lev d.1 d.2).mp hd
              cases ed : d.2 with
              | zero =>
                rw [ed] at lv
                rw [lev_0 lv]
                exact List.mem_cons_self
              | succ k =>
                rw [ed] at lv
                obtain ⟨_, y, hy, _⟩ := lev_succ.mp lv
                exact List.mem_cons_of_mem _ (keyD _ ⟨y, hy⟩)
            rw [List.length_map, List.length_cons, List.length_map] at h1
            omega
          refine ⟨true, rfl, iteT ⟨_, rfl, _, rfl, p, .ref l, rfl, dgp, l, rfl, ⟨us, SqL.of hl6⟩, for_it (walk_list (a := l) (xs := us)) (fun j σ H' => ∃ (c6 : Option V) (gr' : Bool) (st' : List (Z × Nat)), σ = [some (.ref p), some (.ref a), some (.ref D), some (.int (n : Int)), some (.bl gr'), some (.ref q0), c6] ∧ SB p H H' ∧ H' p = some (.frz od (.dT kvs)) ∧ H' D = some (.dT (stK st')) ∧ H' q0 = some (.tup [.int e.1.1, .int e.1.2]) ∧ NstI (rdF Rd) t n e.1 (e.2.take j) st st' gr gr') ⟨_, gr, st, rfl, sb, hp6, hD6, hq, by rw [List.take_zero]; exact NstI.start⟩ (fun j σ H' _ ⟨_, _, _, _, s, _⟩ => SqL.of (s _ _ hl nlp)) ?_ ?_⟩⟩
          · rintro j x σ HY H8 hj ⟨c6, gr', st', rfl, sb8, hp8, hD8, hq8, ni⟩ ⟨rfl, hx⟩
            obtain ⟨b, y, rfl, hy, hb⟩ := (cl.mono (sb8.tk hp)).get j x hx
            have tkn : e.2.take (j + 1) = e.2.take j ++ [y] := by
              rw [List.take_add_one, hy]
              rfl
            have ns8 : ∃ C, Nst (rdF Rd) t n C st' := by
              rcases ni with ⟨rfl, _, _⟩ | ⟨rfl, _, l⟩
              · exact ⟨_, ns6⟩
              · exact ⟨_, ns6.add m l⟩
            obtain ⟨C8, ns8⟩ := ns8
            obtain ⟨v, ev, lv⟩ := ns8.get hn y
            refine ⟨_, rfl, D, rfl, .inr ⟨_, .inl hD8⟩, _, rfl, _, DGet.t (k := idK y) hD8 hb, ?_⟩
            rw [ev]
            have shp : ∀ i : Int, SeqAt.shaped (.int i) = true := fun i => by simp [SeqAt.shaped, PyData.canLay0, PyData.depth]
            refine ⟨_, rfl, .int v, .int (n : Int), .int _, .int _, shp _, shp _, ?_⟩
            by_cases lv2 : Lev (rdF Rd) t n y
            · refine ⟨true, by simp [PyData.eqv, lv.mpr lv2], iteT ⟨_, rfl, _, rfl, D, _, rfl, DGet.t (k := idK e.1) hD8 hq8, ?_⟩⟩
              rcases ni with ⟨rfl, rfl, no⟩ | ⟨rfl, rfl, l⟩
              · rw [(stK_keys (x := e.1)).1 m]
                have l1 : Lev (rdF Rd) t (n + 1) e.1 := (ns6.none m).mp ⟨y, by rw [fd]; exact List.mem_of_getElem? hy, lv2⟩
                have hput : DPut H8 D (.ref q0) (.int ((n : Int) + 1)) (upd H8 D (.dT (stK (st' ++ [(e.1, n + 1)])))) := by
                  have := DPut.t (v := .int ((n : Int) + 1)) (k := idK e.1) hD8 hq8 (small1000 (by unfold stK; rw [List.length_map]; omega))
                  rw [putK_fresh (stK_new m)] at this
                  unfold stK
                  rw [List.map_append]
                  exact this
                refine ⟨true, rfl, iteT ⟨_, rfl, _, _, rfl, rfl, _, rfl, _, rfl, D, _, rfl, hput, ?_⟩⟩
                refine ⟨_, true, st' ++ [(e.1, n + 1)], rfl, sb8.mut hD, ?_, upd_same, ?_, .inr ⟨rfl, rfl, l1⟩⟩
                · rw [upd_ne npD]
                  exact hp8
                · rw [upd_ne fun z => ?_]
                  · exact hq8
                  · rw [z, hD8] at hq8
                    cases hq8
              · have ev2 := (stK_keys (x := e.1)).2 (ns6.add m l).nd (n + 1) (by simp)
                rw [ev2]
                exact ⟨false, rfl, iteF ⟨_, true, _, rfl, sb8, hp8, hD8, hq8, .inr ⟨rfl, rfl, l⟩⟩⟩
            · refine ⟨false, by simp [PyData.eqv]; exact fun z => lv2 (lv.mp z), iteF (iteF ⟨_, gr', st', rfl, sb8, hp8, hD8, hq8, ?_⟩)⟩
              rcases ni with ⟨e1, e2, no⟩ | h
              · refine .inl ⟨e1, e2, fun z hz => ?_⟩
                rw [tkn] at hz
                rcases List.mem_append.mp hz with h | h
                · exact no z h
                · rw [List.mem_singleton.mp h]
                  exact lv2
              · exact .inr h
          · rintro σ H8 ⟨c6, gr', st', rfl, sb8, hp8, hD8, hq8, ni⟩
            rw [cl.len, List.take_length] at ni
            rcases ni with ⟨rfl, rfl, no⟩ | ⟨rfl, rfl, l⟩
            · have nl : ¬ Lev (rdF Rd) t (n + 1) e.1 := fun l => by
                obtain ⟨y, hy, ly⟩ := (ns6.none m).mpr l
                rw [fd] at hy
                exact no y hy ly
              refine ⟨_, c6, gr', st', rfl, sb8, hp8, hD8, by rw [tkj]; exact ns6.skip fun l => absurd l nl, fun g x hx => ?_⟩
              rw [tkj] at hx
              rcases List.mem_append.mp hx with h | h
              · exact no6 g x h
              · rw [List.mem_singleton.mp h]
                exact nl
            · exact ⟨_, c6, true, _, rfl, sb8, hp8, hD8, by rw [tkj]; exact ns6.add m l, fun g => by cases g⟩
      · rintro σ H6 ⟨c5, c6, gr, st, rfl, sb, hp6, hD6, ns6, no6⟩
        rw [kl, List.take_length] at ns6 no6
        have sU : Same H (upd H6 p (.dT kvs)) := unlockS sb hp
        have hD7 : (upd H6 p (.dT kvs)) D = some (.dT (stK st)) := by
          rw [upd_ne npD.symm]
          exact hD6
        refine ⟨hp6, _, rfl, ?_⟩
        cases gr with
        | false =>
          refine ⟨false, rfl, iteT ?_⟩
          have top : ∀ x, ¬ Lev (rdF Rd) t (n + 1) x := fun x l => by
            obtain ⟨_, y, hy, _⟩ := lev_succ.mp l
            exact no6 rfl x (keyD x ⟨y, hy⟩) l
          refine ⟨_, rfl, q D _ st sU hD hD7 ns6.nd fun x k => ?_⟩
          rw [ns6.lev x k]
          exact ⟨fun h => h.1, fun h => ⟨h, .inl (lev_stop top h)⟩⟩
        | true =>
          refine ⟨true, rfl, iteF ?_⟩
          exact ⟨_, _, _, _, st, rfl, sU, hD7, ns6.next keyD⟩
    · rintro σ H2 ⟨c3, c4, c5, c6, st, rfl, s2, hD2, ns⟩
      refine ⟨_, rfl, q D _ st s2 hD hD2 ns.nd fun x k => ?_⟩
      rw [ns.lev x k]
      exact ⟨fun h => h.1, fun h => ⟨h, .inl (levs h)⟩⟩
/-! ### the law's own ring -/
theorem lev_get {g : Z → List Z} {t : Z} {st : List (Z × Nat)} (nd : (st.map Prod.fst).Nodup) (lev : ∀ x n, (x, n) ∈ st ↔ Lev g t n x) (y : Z) : ∃ m : Int, (valV (stK st) (idK y)).getD (.int 99) = .int m ∧ ∀ n : Nat, n < 99 → (m = (n : Int) ↔ Lev g t n y) := by
  by_cases my : y ∈ st.map Prod.fst
  · obtain ⟨e, he, rfl⟩ := List.mem_map.mp my
    have lv := (lev e.1 e.2).mp he
    refine ⟨(e.2 : Int), by rw [(stK_keys (x := e.1)).2 nd e.2 he]; rfl, fun n _ => ⟨fun z => ?_, fun z => ?_⟩⟩
    · rw [show n = e.2 by omega]
      exact lv
    · rw [lv.one z]
  · exact ⟨99, by rw [(stK_keys (x := y)).1 my]; rfl, fun n hn => ⟨fun z => by omega, fun z => absurd (List.mem_map.mpr ⟨_, (lev y n).mpr z, rfl⟩) my⟩⟩
theorem nxtR_at {g : Z → List Z} {t : Z} {k : Nat} {x y : Z} {j : Nat} (hy : (g x)[j]? = some y) (ly : Lev g t k y) (no : ∀ z ∈ (g x).take j, ¬ Lev g t k z) : nxtR g t k x = some y := by
  show (g x).find? (isL g t k) = some y
  rw [List.find?_eq_some_iff_append]
  refine ⟨isL_iff.mpr ly, (g x).take j, (g x).drop (j + 1), ?_, fun z hz => ?_⟩
  · obtain ⟨lj, ej⟩ := List.getElem?_eq_some_iff.mp hy
    rw [← ej, List.getElem_cons_drop, List.take_append_drop]
  · rw [Bool.not_eq_true', Bool.eq_false_iff]
    exact fun z2 => no z hz (isL_iff.mp z2)
def spRing (K : PySem.W.Frag) : Sp := fun vs H Q _ => ∃ (p a : Addr) (r c : Int) (Rd : List (Z × List Z)) (t : Z), vs = [.ref p, .ref a] ∧ RdAt H p Rd ∧ RdOk r c Rd ∧ Rd.length ≤ 40 ∧ H a = some (.tup [.int t.1, .int t.2]) ∧
  ∀ (v : V) (H' : Hp), Same H H' → RingV H' v (rdF Rd) t → Q v H'
theorem okLawRing (T : Txt K mg) : FnOk P w K mg base CX0 2 T.fLawRing T.fdLawRing ["reads", "cell"] (spRing K) := by
  refine T.FLawRing.ok scLawRing (fun vs H Q E h => ?_) (fun cdv A outer s H vs Q E hr h => ?_)
  · obtain ⟨p, a, r, c, Rd, t, rfl, _⟩ := h
    rfl
  · obtain ⟨p, a, r, c, Rd, t, rfl, hR, ok, l40, ha, q⟩ := h
    -- slots reads=0 cell=1 steps=2 best=3 other=4 ring=5 left=6
    refine ⟨_, (pss_cons (ps_set (i := 2) scLawRing.nd rfl (Or.inl rfl) (pe_call (okLawNearest T) (hr.mono (by decide)) (by rfl) T.gLawNearest T.FLawNearest.kp T.bLawNearest .nil pass0 (pa_cons (pv 0) (pa_cons (pv 1) pa_nil))))
        (pss_cons (ps_set (i := 3) scLawRing.nd rfl (Or.inl rfl) pe_non)
        (pss_cons (ps_for PassesOwn.never rfl (pi_list (pe_dget2 (units2 hr) (pv 0) (pv 1) (pe_lst pa_nil) ⟨rfl, rfl, rfl, rfl⟩)) (pg_name (i := 4) scLawRing.nd rfl (Or.inl rfl))
          (pss_one (ps_if (PW.pt (pw_and (pt_cmp (pc_din (units2 hr) (pv 4) (pv 2))) (pw_and1 (PW.pt (pw_or (pt_cmpR op_isN (pv 3) pe_non (nomark _)) (pw_or1 (pt_cmpR op_lt (pe_dget (units2 hr) (pv 2) (pv 4) (fun _ _ => rfl)) (pv 3) (nomark _))))))))
            (pss_one (ps_set (i := 3) scLawRing.nd rfl (Or.inl rfl) (pe_dget (units2 hr) (pv 2) (pv 4) (fun _ _ => rfl))))
            pss_nil)))
        (pss_cons (ps_if (pt_cmpR op_isN (pv 3) pe_non (nomark _))
          (pss_one (ps_ret pe_non))
          pss_nil)
        (pss_cons (ps_set (i := 5) scLawRing.nd rfl (Or.inl rfl) (pe_lst (pa_cons (pv 1) pa_nil)))
        (pss_cons (ps_for PassesOwn.never rfl (pi_range1 rfl T.z_range (pa_cons (pv 3) pa_nil)) (pg_name (i := 6) scLawRing.nd rfl (Or.inl rfl))
          (pss_one (ps_for PassesOwn.never rfl (pi_list (pe_dget (units2 hr) (pv 0) (pe_ix ix_list (pv 5) (pe_un un_neg pe_int) (fun _ _ => rfl)) (fun _ _ => rfl))) (pg_name (i := 4) scLawRing.nd rfl (Or.inl rfl))
            (pss_one (ps_if (pt_cmpR (op_eqD hr.units) (pe_dget2 (units2 hr) (pv 2) (pv 4) pe_int ⟨rfl, rfl, rfl, rfl⟩) (pe_op op_sub (pv 3) (pv 6)) (nomark _))
              (pss_cons (ps_expr (pe_bm PySem.F.plainAttrs_list PySem.F.slot_list_append PySem.F.type_list_append mt_append (pv 5) (pa_cons (pv 4) pa_nil)))
              (pss_one ps_break))
              pss_nil)))))
        (pss_one (ps_ret (pv 5))))))))), ?_⟩
    obtain ⟨kvs, hp, en⟩ := id hR
    have keyD : ∀ z, (∃ y, y ∈ rdF Rd z) → z ∈ Rd.map Prod.fst := fun z ⟨y, hy⟩ => by
      obtain ⟨l, hl, _⟩ := rdF_mem hy
      exact List.mem_map_of_mem hl
    have levs : ∀ {n : Nat} {x : Z}, Lev (rdF Rd) t n x → n ≤ 40 := fun {n x} l => by
      have := lev_len keyD l
      rw [List.length_map] at this
      omega
    refine ⟨_, rfl, _, rfl, p, a, r, c, Rd, t, rfl, hR, ok, l40, ha, fun D H1 st s1 hDn hD nds lev => ?_⟩
    refine ⟨_, rfl, p, rfl, .inr ⟨kvs, .inl (s1 _ _ hp)⟩, _, rfl, Nat.zero_le _, fun l2 hl2 => ?_⟩
    have s5 := same_new (o := .lst []) hl2
    obtain ⟨la, xs, ela, hla, clx⟩ : ∃ la xs, (valV kvs (idK t)).getD (.ref l2) = .ref la ∧ (upd H1 l2 (.lst [])) la = some (.lst xs) ∧ Cls (upd H1 l2 (.lst [])) xs (rdF Rd t) := by
      obtain ⟨e1, e2⟩ := ents_get (fun _ _ => idK_inj) en t
      unfold rdF
      cases e : getE Rd t with
      | none =>
        rw [e1 e]
        exact ⟨l2, [], rfl, upd_same, .nil⟩
      | some zs =>
        obtain ⟨v, ev, l, ws, rfl, h1, h2⟩ := e2 zs e
        rw [ev]
        exact ⟨l, ws, rfl, s5 _ _ (s1 _ _ h1), h2.mono (TK.of (s1.trans s5))⟩
    refine ⟨_, DGet.t (k := idK t) (s5 _ _ (s1 _ _ hp)) (s5 _ _ (s1 _ _ ha)), la, ela, ⟨xs, SqL.of hla⟩, ?_⟩
    have s15 := s1.trans s5
    have hD5 := s5 _ _ hD
    generalize upd H1 l2 (.lst []) = H5 at hla clx s15 hD5 ⊢
    refine for_it (walk_list (a := la) (xs := xs)) (fun j σ H' => ∃ (b : Option Int) (c4 c5 c6 : Option V), σ = [some (.ref p), some (.ref a), some (.ref D), some (optV b), c4, c5, c6] ∧ H' = H5 ∧ MinOf b fun m => ∃ y ∈ (rdF Rd t).take j, ∃ k : Nat, m = k ∧ Lev (rdF Rd) t k y) ⟨none, _, _, _, rfl, rfl, fun n ⟨y, h, _⟩ => by rw [List.take_zero] at h; cases h⟩ (fun j σ H' _ ⟨_, _, _, _, _, e, _⟩ => e ▸ SqL.of hla) ?_ ?_
    · rintro j x σ HY H6 hj ⟨b, c4, c5, c6, rfl, rfl, mn⟩ ⟨rfl, hx⟩
      obtain ⟨q1, y, rfl, hy, hq1⟩ := clx.get j x hx
      have tkn : (rdF Rd t).take (j + 1) = (rdF Rd t).take j ++ [y] := by
        rw [List.take_add_one, hy]
        rfl
      have dg := DGet.t (k := idK y) hD5 hq1
      refine ⟨_, rfl, _, rfl, D, _, rfl, dg, ?_⟩
      by_cases my : y ∈ st.map Prod.fst
      · obtain ⟨e, he, e1⟩ := List.mem_map.mp my
        have ev := (stK_keys (x := y)).2 nds e.2 (by rw [← e1]; exact he)
        have lv : Lev (rdF Rd) t e.2 y := (lev y e.2).mp (by rw [← e1]; exact he)
        rw [ev] at dg ⊢
        have new : (∀ m, b = some m → (e.2 : Int) < m) → MinOf (some (e.2 : Int)) fun m => ∃ y ∈ (rdF Rd t).take (j + 1), ∃ k : Nat, m = k ∧ Lev (rdF Rd) t k y := fun h => by
          refine ⟨⟨y, by rw [tkn]; simp, e.2, rfl, lv⟩, fun n hn => ?_⟩
          obtain ⟨y2, hy2, k, rfl, l2⟩ := hn
          rw [tkn] at hy2
          rcases List.mem_append.mp hy2 with z | z
          · cases b with
            | none => exact absurd ⟨y2, z, k, rfl, l2⟩ (mn (k : Int))
            | some m =>
              have := mn.2 (k : Int) ⟨y2, z, k, rfl, l2⟩
              have := h m rfl
              omega
          · rw [List.mem_singleton.mp z] at l2
            rw [l2.one lv]
            exact Int.le_refl _
        refine ⟨true, rfl, iteT ?_⟩
        cases b with
        | none =>
          refine ⟨_, rfl, rfl, true, rfl, iteT (iteT ?_)⟩
          exact ⟨_, rfl, _, rfl, D, _, rfl, dg, some (e.2 : Int), _, _, _, rfl, rfl, new fun m z => nomatch z⟩
        | some m =>
          refine ⟨_, rfl, rfl, false, congrArg V.bl (decide_eq_false fun z => nomatch z), iteF ⟨_, rfl, _, rfl, D, _, rfl, dg, _, rfl, _, _, rfl, rfl, ?_⟩⟩
          by_cases lt : (e.2 : Int) < m
          · refine ⟨true, congrArg V.bl (decide_eq_true lt), iteT ?_⟩
            exact ⟨_, rfl, _, rfl, D, _, rfl, dg, some (e.2 : Int), _, _, _, rfl, rfl, new fun m' z => by rw [← Option.some.inj z]; exact lt⟩
          · refine ⟨false, congrArg V.bl (decide_eq_false lt), iteF ?_⟩
            refine ⟨some m, _, _, _, rfl, rfl, ?_, fun n hn => ?_⟩
            · obtain ⟨y2, hy2, k, ek, l2⟩ := mn.1
              exact ⟨y2, by rw [tkn]; exact List.mem_append_left _ hy2, k, ek, l2⟩
            · obtain ⟨y2, hy2, k, rfl, l2⟩ := hn
              rw [tkn] at hy2
              rcases List.mem_append.mp hy2 with z | z
              · exact mn.2 _ ⟨y2, z, k, rfl, l2⟩
              · rw [List.mem_singleton.mp z] at l2
                rw [l2.one lv]
                omega
      · rw [(stK_keys (x := y)).1 my]
        have nl : ∀ k, ¬ Lev (rdF Rd) t k y := fun k l => my (List.mem_map.mpr ⟨_, (lev y k).mpr l, rfl⟩)
        refine ⟨false, rfl, iteF (iteF ⟨b, _, _, _, rfl, rfl, ?_⟩)⟩
        have same : (fun m : Int => ∃ y ∈ (rdF Rd t).take (j + 1), ∃ k : Nat, m = k ∧ Lev (rdF Rd) t k y) = fun m : Int => ∃ y ∈ (rdF Rd t).take j, ∃ k : Nat, m = k ∧ Lev (rdF Rd) t k y := funext fun m => propext ⟨fun ⟨y2, hy2, k, ek, l2⟩ => by
          rw [tkn] at hy2
          rcases List.mem_append.mp hy2 with z | z
          · exact ⟨y2, z, k, ek, l2⟩
          · rw [List.mem_singleton.mp z] at l2
            exact absurd l2 (nl k), fun ⟨y2, hy2, h⟩ => ⟨y2, by rw [tkn]; exact List.mem_append_left _ hy2, h⟩⟩
        rw [same]
        exact mn
    · rintro σ H6 ⟨b, c4, c5, c6, rfl, rfl, mn⟩
      rw [clx.len, List.take_length] at mn
      cases b with
      | none =>
        refine ⟨_, rfl, rfl, true, rfl, iteT (q .non H6 s15 (Or.inl ⟨rfl, fun y hy n lv => mn n ⟨y, hy, n, rfl, lv⟩⟩))⟩
      | some m =>
        obtain ⟨⟨y1, hy1, best, rfl, lv1⟩, mn2⟩ := mn
        refine ⟨_, rfl, rfl, false, congrArg V.bl (decide_eq_false fun z => nomatch z), iteF ?_⟩
        have least : Least (rdF Rd) t best := ⟨⟨y1, hy1, lv1⟩, fun y hy n lv => by
          have := mn2 n ⟨y, hy, n, rfl, lv⟩
          omega⟩
        have b40 := levs lv1
        have ha5 := s15 _ _ ha
        refine ⟨_, rfl, (by show 1 ≤ sizeLine; decide), fun L hL => ?_⟩
        have sL := same_new (o := .lst [.ref a]) hL
        have ha7 := sL _ _ ha5
        refine ⟨_, rfl, _, rfl, by omega, by omega, for_range (lo := 0) (n := best) (fun i σ H' => ∃ (c4 c6 : Option V) (x : Z) (done : List Z) (us : List V) (ql : Addr), σ = [some (.ref p), some (.ref a), some (.ref D), some (.int (best : Int)), c4, some (.ref L), c6] ∧ Same H6 H' ∧ H' L = some (.lst (us ++ [.ref ql])) ∧ Cls H' (us ++ [.ref ql]) (t :: done) ∧ H' ql = some (.tup [.int x.1, .int x.2]) ∧ done ++ rowR (rdF Rd) t (best - i) x = rowR (rdF Rd) t best t ∧ (i < best → ∃ y ∈ rdF Rd x, Lev (rdF Rd) t (best - i) y) ∧ us.length = i) ⟨_, _, t, [], [], a, rfl, sL, upd_same, .cons ha7 .nil, ha7, rfl, fun _ => ⟨y1, hy1, lv1⟩, rfl⟩ ?_ ?_⟩
        · rintro i σ H7 hi ⟨c4, c6, x, done, us, ql, rfl, s7, hL7, cl7, hq7, row, more, lu⟩
          rw [show (0 : Int) + (i : Int) = (i : Int) from Int.zero_add _]
          obtain ⟨k, ek⟩ : ∃ k, best - i = k + 1 := ⟨best - i - 1, by omega⟩
          rw [ek] at row more
          obtain ⟨y2, hy2, lv2⟩ := more hi
          obtain ⟨lx, hlx, _, elx⟩ := rdF_mem hy2
          obtain ⟨v, ev, l, ws, rfl, hl1, hl3⟩ := (ents_get (fun _ _ => idK_inj) en x).2 lx (getE_mem ok.nd _ hlx)
          rw [← elx] at hl3
          have s07 : Same H H7 := s15.trans s7
          have hl7 := s07 _ _ hl1
          have cl3 := hl3.mono (TK.of s07)
          have dg7 : DGet H7 p (.ref ql) (some (.ref l)) := by
            rw [← ev]
            exact DGet.t (k := idK x) (s07 _ _ hp) hq7
          have hD7 := s7 _ _ hD5
          have hLn : H6 L = none := hL
          refine ⟨_, rfl, _, rfl, _, rfl, L, _, _, _, rfl, rfl, SqL.of hL7, atI_last us (.ref ql), p, .ref l, rfl, dg7, l, rfl, ⟨ws, SqL.of hl7⟩, ?_⟩
          refine for_it (walk_list (a := l) (xs := ws)) (fun j σ H' => ∃ (c4 : Option V), σ = [some (.ref p), some (.ref a), some (.ref D), some (.int (best : Int)), c4, some (.ref L), some (.int (i : Int))] ∧ H' = H7 ∧ ∀ z ∈ (rdF Rd x).take j, ¬ Lev (rdF Rd) t (k + 1) z) ⟨_, rfl, rfl, fun z h => by rw [List.take_zero] at h; cases h⟩ (fun j σ H' _ ⟨_, _, e, _⟩ => e ▸ SqL.of hl7) ?_ ?_
          · rintro j x3 σ HY H8 hj ⟨c4, rfl, rfl, no⟩ ⟨rfl, hx3⟩
            obtain ⟨b, y, rfl, hy, hb⟩ := cl3.get j x3 hx3
            have tkn : (rdF Rd x).take (j + 1) = (rdF Rd x).take j ++ [y] := by
              rw [List.take_add_one, hy]
              rfl
            obtain ⟨m, em, lm⟩ := lev_get nds lev y
            have lm := lm (k + 1) (by omega)
            refine ⟨_, rfl, D, rfl, .inr ⟨_, .inl hD7⟩, _, rfl, _, DGet.t (k := idK y) hD7 hb, ?_⟩
            rw [em]
            have shp : ∀ i : Int, SeqAt.shaped (.int i) = true := fun i => by simp [SeqAt.shaped, PyData.canLay0, PyData.depth]
            refine ⟨_, rfl, _, rfl, _, _, rfl, rfl, .int m, .int ((best : Int) - (i : Int)), .int _, .int _, shp _, shp _, ?_⟩
            have eb : (best : Int) - (i : Int) = ((k + 1 : Nat) : Int) := by omega
            rw [eb]
            by_cases l2 : Lev (rdF Rd) t (k + 1) y
            · refine ⟨true, by simp [PyData.eqv]; have := lm.mpr l2; omega, iteT ?_⟩
              have tk9 := tk_lst (ws := us ++ [.ref ql] ++ [.ref b]) hL7
              refine ⟨_, rfl, .inl ⟨rfl, _, SqL.of hL7⟩, _, rfl, L, _, .ref b, rfl, rfl, hL7, small1000 (by rw [List.length_append]; have : [V.ref ql].length = 1 := rfl; omega), ?_⟩
              have e1 : best - (i + 1) = k := by omega
              refine ⟨_, _, y, done ++ [y], us ++ [.ref ql], b, rfl, same_mut s7 hLn, upd_same, (cl7.mono tk9).snoc (tk9 _ _ hb), tk9 _ _ hb, ?_, fun _ => ?_, by rw [List.length_append, lu]; rfl⟩
              · rw [e1, List.append_assoc, ← row]
                have er : rowR (rdF Rd) t (k + 1) x = y :: rowR (rdF Rd) t k y := by
                  show (match nxtR (rdF Rd) t (k + 1) x with
                    | some y => y :: rowR (rdF Rd) t k y
                    | none => []) = _
                  rw [nxtR_at hy l2 no]
                rw [er]
                rfl
              · rw [e1]
                exact let ⟨_, y, hy, ly⟩ := lev_succ.mp l2; ⟨y, hy, ly⟩
            · refine ⟨false, by simp [PyData.eqv]; exact fun z => l2 (lm.mp (by omega)), iteF ⟨_, rfl, rfl, fun z hz => ?_⟩⟩
              rw [tkn] at hz
              rcases List.mem_append.mp hz with h | h
              · exact no z h
              · rw [List.mem_singleton.mp h]
                exact l2
          · rintro σ H8 ⟨c4, rfl, rfl, no⟩
            rw [cl3.len, List.take_length] at no
            exact absurd lv2 (no y2 hy2)
        · rintro σ H7 ⟨c4, c6, x, done, us, ql, rfl, s7, hL7, cl7, hq7, row, more, lu⟩
          rw [Nat.sub_self] at row
          refine ⟨_, rfl, q _ H7 (s15.trans s7) (Or.inr ⟨best, L, _, rfl, hL7, ?_, least⟩)⟩
          rw [show rowR (rdF Rd) t 0 x = [] from rfl, List.append_nil] at row
          rw [← row]
          exact cl7
/-! ### the law -/
theorem lk_tu1 {H : Hp} : ∀ {xs ys : List (V × (Int × Int))}, xs.map Prod.snd = ys.map Prod.snd → (∀ z ∈ xs, TuAt H z.1 z.2) → (∀ z ∈ ys, TuAt H z.1 z.2) → ∀ (i : Nat) u v, (xs.map Prod.fst)[i]? = some u → (ys.map Prod.fst)[i]? = some v → Lk H 1 u v := fun {xs ys} e hx hy i u v h1 h2 => by
  rw [List.getElem?_map] at h1 h2
  obtain ⟨x, hx1, rfl⟩ := Option.map_eq_some_iff.mp h1
  obtain ⟨y, hy1, rfl⟩ := Option.map_eq_some_iff.mp h2
  have es : x.2 = y.2 := by
    have this : (List.map Prod.snd xs)[i]? = (List.map Prod.snd ys)[i]? := by rw [e]
    rw [List.getElem?_map, List.getElem?_map, hx1, hy1] at this
    exact Option.some.inj this
  obtain ⟨a, ea, ha⟩ := hx x (List.mem_of_getElem? hx1)
  obtain ⟨b, eb, hb⟩ := hy y (List.mem_of_getElem? hy1)
  rw [ea, eb]
  rw [← es] at hb
  refine lk_dt 1 (d := idD x.2) (.inr ⟨_, rfl, (by show 2 ≤ 100; decide), fun d hd => ?_⟩) (.tup ha (.cons (.int _) (.cons (.int _) .nil))) (.tup hb (.cons (.int _) (.cons (.int _) .nil)))
  simp at hd
  rcases hd with rfl | rfl <;> rfl
theorem blks_same {N N' : NA} (h : ∀ w, getE N' w = getE N w) (a : Ar) : blksOf N' a = blksOf N a := by
  cases a with
  | gone => rfl
  | block t l b r => rfl
  | name w => rw [blks_name, blks_name, h]
theorem reads_same {N N' : NA} (h : ∀ w, getE N' w = getE N w) (W : WC) (z : Int × Int) : readsOf W N' z = readsOf W N z := by
  have e : (fun a => (blksOf N' a).flatMap cellsOf) = fun a => (blksOf N a).flatMap cellsOf := funext fun a => by rw [blks_same h]
  unfold readsOf readsT
  rw [e]
theorem wld_of {R C : Int} {W : WC} {N : NA} (rc : RC R C) (few : R * C ≤ 60) (wok : WOk R C W) (nm : NmOk R C wordsN N) : Wld R C W N := by
  refine ⟨rc, few, fun z t h => ?_, fun e he as ea => ?_⟩
  · unfold formulaAt at h
    cases e : getE W z with
    | none =>
      rw [e] at h
      cases h
    | some cs =>
      rw [e] at h
      have sh := (wok.sh _ (getE_key e)).all
      have h : formOf cs = some t := h
      match cs, h, sh with
      | [.form t], rfl, sh => exact sh _ List.mem_cons_self
  · obtain ⟨h1, h2⟩ := nm.ar e he as ea
    exact ⟨by omega, fun a ha => (h2 a ha).1⟩
theorem lk_cls {H : Hp} {p q : Addr} {us ws : List V} {F : List Z} (hp : H p = some (.lst us)) (hq : H q = some (.lst ws)) (h1 : Cls H us F) (h2 : Cls H ws F) (l : F.length ≤ 60) : Lk H 2 (.ref p) (.ref q) := by
  obtain ⟨zs, e1, e2, t1⟩ := cls_zs h1
  obtain ⟨ys, e3, e4, t2⟩ := cls_zs h2
  refine .inr (.inr ⟨p, q, us, ws, rfl, rfl, hp, hq, by rw [h1.len, h2.len], by have := h1.len; omega, fun i u v h3 h4 => ?_⟩)
  rw [← e1] at h3
  rw [← e3] at h4
  exact lk_tu1 (e2.trans e4.symm) t1 t2 i u v h3 h4
theorem Least.one {g : Z → List Z} {t : Z} {a b : Nat} (h : Least g t a) (k : Least g t b) : a = b := by
  obtain ⟨⟨y, hy, ly⟩, h2⟩ := h
  obtain ⟨⟨z, hz, lz⟩, k2⟩ := k
  have := h2 z hz b lz
  have := k2 y hy a ly
  omega
theorem rowR_len {g : Z → List Z} {t : Z} : ∀ (k : Nat) (x : Z), (rowR g t k x).length ≤ k
  | 0, _ => Nat.zero_le _
  | k + 1, x => by
    show (match nxtR g t (k + 1) x with
      | some y => y :: rowR g t k y
      | none => []).length ≤ k + 1
    cases nxtR g t (k + 1) x with
    | none => exact Nat.zero_le _
    | some y => exact Nat.succ_le_succ (rowR_len k y)
theorem RingV.same {H H' : Hp} (s : Same H H') {v : V} {g : Z → List Z} {t : Z} (h : RingV H v g t) : RingV H' v g t := by
  rcases h with h | ⟨best, p, us, e, h1, h2, h3⟩
  · exact .inl h
  · exact .inr ⟨best, p, us, e, s _ _ h1, h2.mono (TK.of s), h3⟩
theorem RingV.lk {H : Hp} {v w : V} {g : Z → List Z} {t : Z} (h : RingV H v g t) (k : RingV H w g t) (few : ∀ n y, Lev g t n y → n ≤ 40) : Lk H 2 v w := by
  rcases h with ⟨e1, no⟩ | ⟨b1, p1, us1, e1, h1, c1, l1⟩ <;> rcases k with ⟨e2, no2⟩ | ⟨b2, p2, us2, e2, h2, c2, l2⟩
  · rw [e1, e2]
    exact .inl ⟨rfl, trivial⟩
  · obtain ⟨⟨y, hy, ly⟩, _⟩ := l2
    exact absurd ly (no y hy _)
  · obtain ⟨⟨y, hy, ly⟩, _⟩ := l1
    exact absurd ly (no2 y hy _)
  · obtain rfl := l1.one l2
    rw [e1, e2]
    refine lk_cls h1 h2 c1 c2 ?_
    obtain ⟨⟨y, hy, ly⟩, _⟩ := l1
    have := few _ _ ly
    have := rowR_len (g := g) (t := t) b1 t
    rw [List.length_cons]
    omega
theorem RingV.none_iff {H : Hp} {v : V} {g : Z → List Z} {t : Z} (h : RingV H v g t) : (v = .non ∧ ¬ Lead g t t) ∨ (v ≠ .non ∧ Lead g t t) := by
  rcases h with ⟨e, no⟩ | ⟨b, p, us, e, h1, c1, ⟨⟨y, hy, ly⟩, _⟩⟩
  · refine .inl ⟨e, fun l => ?_⟩
    obtain ⟨y, hy, n, w⟩ := lead_way.mp l
    obtain ⟨m, _, lv⟩ := way_lev w
    exact no y hy m lv
  · exact .inr ⟨by rw [e]; exact fun z => (nomatch z), lead_way.mpr ⟨y, hy, b, ly.1⟩⟩
theorem RdsOf.conv {r c : Int} {W : WC} {N N' : NA} {R : List (Z × List Z)} (h : RdsOf r c W N' R) (e : ∀ w, getE N' w = getE N w) : RdsOf r c W N R :=
  ⟨h.toRdOk, h.keys, fun d hd y => by rw [h.mem d hd y, reads_same e]⟩
def spLaw (K : PySem.W.Frag) : Sp := fun vs H Q _ => ∃ (a : Addr) (ns : List Int), vs = [.ref a] ∧ SqL K H a (ns.map V.int) ∧ ns.length ≤ 63 ∧ ∀ H', Q (.bl true) H'
theorem okLaw (T : Txt K mg) : FnOk P w K mg base CX0 14 T.fLaw T.fdLaw ["script"] (spLaw K) := by
  refine T.FLaw.ok scLaw (fun vs H Q E h => ?_) (fun cdv A outer s H vs Q E hr h => ?_)
  · obtain ⟨a, ns, rfl, _⟩ := h
    rfl
  · obtain ⟨a, ns, rfl, hS, hlen, q⟩ := h
    -- slots script=0 box=1 world=2 grid=3 reads=4 due=5 row=6 column=7 ring=8
    refine ⟨_, (pss_cons (ps_set (i := 1) scLaw.nd rfl (Or.inl rfl) (pe_lst (pa_cons (pe_call (okLawDigits T) (hr.mono (by decide)) (by rfl) T.gLawDigits T.FLawDigits.kp T.bLawDigits .nil pass0 (pa_cons (pv 0) (pa_cons pe_int (pa_cons pe_int pa_nil)))) (pa_cons pe_int pa_nil))))
        (pss_cons (ps_set (i := 2) scLaw.nd rfl (Or.inl rfl) (pe_call (okLawWorld T) (hr.mono (by decide)) (by rfl) T.gLawWorld T.FLawWorld.kp T.bLawWorld .nil pass0 (pa_cons (pv 1) pa_nil)))
        (pss_cons (ps_set (i := 3) scLaw.nd rfl (Or.inl rfl) (pe_call (okLawGrid T) (hr.mono (by decide)) (by rfl) T.gLawGrid T.FLawGrid.kp T.bLawGrid .nil pass0 (pa_cons (pv 2) pa_nil)))
        (pss_cons (ps_set (i := 4) scLaw.nd rfl (Or.inl rfl) (pe_call (okLawAllReads T) (hr.mono (by decide)) (by rfl) T.gLawAllReads T.FLawAllReads.kp T.bLawAllReads .nil pass0 (pa_cons (pv 2) pa_nil)))
        (pss_cons (ps_set (i := 5) scLaw.nd rfl (Or.inl rfl) (pe_lst pa_nil))
        (pss_cons (ps_for PassesOwn.never rfl (pi_range1 rfl T.z_range (pa_cons (pe_ix ix_list (pv 2) pe_int (fun _ _ => rfl)) pa_nil)) (pg_name (i := 6) scLaw.nd rfl (Or.inl rfl))
          (pss_one (ps_for PassesOwn.never rfl (pi_range1 rfl T.z_range (pa_cons (pe_ix ix_list (pv 2) pe_int (fun _ _ => rfl)) pa_nil)) (pg_name (i := 7) scLaw.nd rfl (Or.inl rfl))
            (pss_cons (ps_set (i := 8) scLaw.nd rfl (Or.inl rfl) (pe_call (okLawRing T) (hr.mono (by decide)) (by rfl) T.gLawRing T.FLawRing.kp T.bLawRing .nil pass0 (pa_cons (pv 4) (pa_cons (pe_tup (pa_cons (pv 6) (pa_cons (pv 7) pa_nil))) pa_nil))))
            (pss_cons (ps_if (pt_not (pt_val (pe_call (okLawSame T 2) (hr.mono (by decide)) (by rfl) T.gLawSame T.FLawSame.kp T.bLawSame .nil pass0 (pa_cons (pe_call (okRingOf T) (hr.mono (by decide)) (by rfl) T.gRingOf T.FRingOf.kp T.bRingOf .nil pass0 (pa_cons (pv 3) (pa_cons (pe_tup (pa_cons (pv 6) (pa_cons (pv 7) pa_nil))) pa_nil))) (pa_cons (pv 8) pa_nil)))))
              (pss_one (ps_ret pe_bl))
              pss_nil)
            (pss_one (ps_if (pt_cmpR op_notN (pv 8) pe_non (nomark _))
              (pss_one (ps_expr (pe_bm PySem.F.plainAttrs_list PySem.F.slot_list_append PySem.F.type_list_append mt_append (pv 5) (pa_cons (pe_tup (pa_cons (pv 6) (pa_cons (pv 7) pa_nil))) pa_nil))))
              pss_nil)))))))
        (pss_one (ps_ret (pe_call (okLawSame T 2) (hr.mono (by decide)) (by rfl) T.gLawSame T.FLawSame.kp T.bLawSame .nil pass0 (pa_cons (pe_call (okRingCells T) (hr.mono (by decide)) (by rfl) T.gRingCells T.FRingCells.kp T.bRingCells .nil pass0 (pa_cons (pv 3) pa_nil)) (pa_cons (pv 5) pa_nil))))))))))), ?_⟩
    refine ⟨_, rfl, a, ns, 0, 63, rfl, by decide, by decide, hS, fun H1 d0 ds s1 hdn hd0 _ => ⟨by show 2 ≤ sizeLine; decide, fun b hb => ?_⟩⟩
    have hb2 : b ≠ d0 := fun z => by
      rw [z, hd0] at hb
      cases hb
    have B0 : Box (upd H1 b (.lst [.ref d0, .int 0])) b := ⟨d0, ds, 0, upd_same, by rw [upd_ne hb2.symm]; exact hd0, hb2⟩
    generalize upd H1 b (.lst [.ref d0, .int 0]) = H2 at B0
    clear s1 hdn hd0 hb hb2 hS
    refine ⟨_, rfl, b, rfl, B0, fun w0 nd cd R C W N H3 B3 k3 hw0n nwb hw rc few td wl wl40 wok nmok => ?_⟩
    have wld := wld_of rc few wok nmok
    have nok : NOk N := fun e he as ea => (wld.nm e he as ea).1
    refine ⟨_, rfl, [b], w0, nd, cd, R, C, W, N, rfl, B3.ls, hw, td, wok, wl, nmok.kw, nok, fun g N' H5 s5 _ _ _ er ec G5 sn => ?_⟩
    have wld' : Wld R C W N' := ⟨wld.rc, wld.few, wld.tr, fun e he as ea => wld.nm e (sn.sub e he) as ea⟩
    have hw5 := s5 _ _ hw
    have td5 := td.same (rmS_same s5)
    have r0 := rc.r0
    have r1 := rc.r1
    have c0 := rc.c0
    have c1 := rc.c1
    refine ⟨_, rfl, [b], w0, nd, cd, R, C, W, N, rfl, hw5, td5, wld, wok, wl, fun p H6 Rd s6 hpn hR rds => ?_⟩
    have l40 : Rd.length ≤ 40 := by
      have := nodup_len rds.nd fun z hz => (rds.keys z).mp hz
      rw [List.length_map, List.length_map] at this
      omega
    refine ⟨Nat.zero_le _, fun L hL => ?_⟩
    have sL := same_new (o := .lst []) hL
    have G6 := (G5.same (rmS_same s6)).same rmS_le
    have hw6 := s6 _ _ hw5
    have keyD : ∀ z, (∃ y, y ∈ rdF Rd z) → z ∈ Rd.map Prod.fst := fun z ⟨y, hy⟩ => by
      obtain ⟨l, hl, _⟩ := rdF_mem hy
      exact List.mem_map_of_mem hl
    have levs : ∀ t n y, Lev (rdF Rd) t n y → n ≤ 40 := fun t n y l => by
      have := lev_len keyD l
      rw [List.length_map] at this
      omega
    have insL : ∀ x, Lead (rdF Rd) x x → 0 ≤ x.1 ∧ x.1 < R ∧ 0 ≤ x.2 ∧ x.2 < C := fun x l => by
      obtain ⟨e, he, rfl⟩ := List.mem_map.mp (keyD x (lead_first l))
      exact rds.key e he
    have hR7 := hR.same sL
    have hw7 := sL _ _ hw6
    have hLnil : (upd H6 L (.lst [])) L = some (.lst []) := upd_same
    have s67 : Same H6 (upd H6 L (.lst [])) := sL
    generalize upd H6 L (.lst []) = H7 at hR7 hw7 hLnil s67 ⊢
    refine ⟨_, rfl, w0, _, _, _, rfl, rfl, SqL.of hw7, atI_nat (j := 0) rfl, _, rfl, by omega, by omega, for_range (lo := 0) (n := R.toNat) (fun i σ H' => ∃ (k6 k7 k8 : Option V) (us : List V) (F : List Z), σ = [some (.ref a), some (.ref b), some (.ref w0), some (.ref g.G), some (.ref p), some (.ref L), k6, k7, k8] ∧ Same H6 H' ∧ H' L = some (.lst us) ∧ Cls H' us F ∧ F.Pairwise ltK ∧ ∀ x, x ∈ F ↔ Lead (rdF Rd) x x ∧ ltK x ((i : Int), 0)) ⟨_, _, _, [], [], rfl, s67, hLnil, .nil, List.Pairwise.nil, fun x => ⟨fun h => (nomatch h), fun ⟨l, h⟩ => ?_⟩⟩ ?_ ?_⟩
    · have := insL x l
      rcases h with h | ⟨h, h2⟩ <;> omega
    · rintro i σ H8 hi ⟨k6, k7, k8, us, F, rfl, s8, hL8, cl8, ord8, mem8⟩
      rw [show (0 : Int) + (i : Int) = (i : Int) from Int.zero_add _]
      refine ⟨_, rfl, w0, _, _, _, rfl, rfl, SqL.of (s8 _ _ hw6), atI_nat (j := 1) rfl, _, rfl, by omega, by omega, for_range (lo := 0) (n := C.toNat) (fun j σ H' => ∃ (k7 k8 : Option V) (us : List V) (F : List Z), σ = [some (.ref a), some (.ref b), some (.ref w0), some (.ref g.G), some (.ref p), some (.ref L), some (.int (i : Int)), k7, k8] ∧ Same H6 H' ∧ H' L = some (.lst us) ∧ Cls H' us F ∧ F.Pairwise ltK ∧ ∀ x, x ∈ F ↔ Lead (rdF Rd) x x ∧ ltK x ((i : Int), (j : Int))) ⟨_, _, us, F, rfl, s8, hL8, cl8, ord8, mem8⟩ ?_ ?_⟩
      · rintro j σ H9 hj ⟨k7, k8, us, F, rfl, s9, hL9, cl9, ord9, mem9⟩
        rw [show (0 : Int) + (j : Int) = (j : Int) from Int.zero_add _]
        refine ⟨_, rfl, _, rfl, _, rfl, (by show 2 ≤ sizeLine; decide), fun t1 ht1 => ?_⟩
        have st1 := same_new (o := .tup [.int (i : Int), .int (j : Int)]) ht1
        refine ⟨p, t1, R, C, Rd, ((i : Int), (j : Int)), rfl, hR.same (s9.trans st1), rds.toRdOk, l40, upd_same, fun v Ha sa rv => ?_⟩
        refine ⟨_, rfl, _, rfl, _, rfl, (by show 2 ≤ sizeLine; decide), fun t2 ht2 => ?_⟩
        have st2 := same_new (o := .tup [.int (i : Int), .int (j : Int)]) ht2
        have s6b := ((s9.trans st1).trans sa).trans st2
        refine ⟨g, W, N', R, C, t2, ((i : Int), (j : Int)), rfl, G6.same s6b, wld', wok, wl, by show 0 ≤ (i : Int) ∧ (i : Int) < R ∧ 0 ≤ (j : Int) ∧ (j : Int) < C; omega, upd_same, fun v2 Hc Rd2 sc rds2 rv2 => ?_⟩
        rw [rds_fn (rds2.conv sn.get) rds] at rv2
        have rvc := (rv.same st2).same sc
        refine ⟨_, rfl, _, _, rfl, rv2.lk rvc (fun n y l => levs _ n y l), _, rfl, iteF ?_⟩
        have s6c := s6b.trans sc
        have s9c := ((st1.trans sa).trans st2).trans sc
        have hLc := s9c _ _ hL9
        have clc := cl9.mono (TK.of s9c)
        have nxt : ∀ x : Z, ltK x ((i : Int), ((j + 1 : Nat) : Int)) ↔ ltK x ((i : Int), (j : Int)) ∨ x = ((i : Int), (j : Int)) := fun x => by
          constructor
          · rintro (h | ⟨h, h2⟩)
            · exact .inl (.inl h)
            · have h2 : x.2 < ((j + 1 : Nat) : Int) := h2
              by_cases z : x.2 < (j : Int)
              · exact .inl (.inr ⟨h, z⟩)
              · exact .inr (Prod.ext h (show x.2 = (j : Int) by omega))
          · rintro ((h | ⟨h, h2⟩) | rfl)
            · exact .inl h
            · exact .inr ⟨h, by show x.2 < ((j + 1 : Nat) : Int); have : x.2 < (j : Int) := h2; omega⟩
            · exact .inr ⟨rfl, by show (j : Int) < ((j + 1 : Nat) : Int); omega⟩
        rcases rvc.none_iff with ⟨e, nl⟩ | ⟨e, l⟩
        · subst e
          refine ⟨_, rfl, rfl, false, rfl, iteF ⟨_, _, us, F, rfl, s6c, hLc, clc, ord9, fun x => ?_⟩⟩
          rw [mem9 x, nxt x]
          refine and_congr_right fun l => ⟨fun h => .inl h, fun h => h.resolve_right fun z => nl (by rw [← z]; exact l)⟩
        · refine ⟨_, rfl, rfl, true, congrArg V.bl (by rw [decide_eq_false e]; rfl), iteT ?_⟩
          have usl : us.length ≤ 60 := by
            rw [cl9.len]
            refine Nat.le_trans (nodup_len (D := Rd.map Prod.fst) (ord_nd ord9) fun x hx => keyD x (lead_first ((mem9 x).mp hx).1)) ?_
            rw [List.length_map]
            omega
          refine ⟨_, rfl, .inl ⟨rfl, us, SqL.of hLc⟩, _, rfl, _, rfl, (by show 2 ≤ sizeLine; decide), fun t3 ht3 => ?_⟩
          have st3 := same_new (o := .tup [.int (i : Int), .int (j : Int)]) ht3
          have hLd := st3 _ _ hLc
          have tk := tk_lst (ws := us ++ [.ref t3]) hLd
          refine ⟨L, us, .ref t3, rfl, rfl, hLd, small1000 (by omega), ?_⟩
          refine ⟨_, _, us ++ [.ref t3], F ++ [((i : Int), (j : Int))], rfl, same_mut (s6c.trans st3) hL, upd_same, ((clc.mono (TK.of st3)).mono tk).snoc (tk _ _ upd_same), ?_, fun x => ?_⟩
          · rw [List.pairwise_append]
            refine ⟨ord9, List.pairwise_singleton _ _, fun x hx y hy => ?_⟩
            rw [List.mem_singleton.mp hy]
            exact ((mem9 x).mp hx).2
          · rw [List.mem_append, mem9 x, nxt x, List.mem_singleton]
            constructor
            · rintro (⟨h1, h2⟩ | h)
              · exact ⟨h1, .inl h2⟩
              · rw [h]
                exact ⟨l, .inr rfl⟩
            · rintro ⟨h1, h2 | h2⟩
              · exact .inl ⟨h1, h2⟩
              · exact .inr h2
      · rintro σ H9 ⟨k7, k8, us, F, rfl, s9, hL9, cl9, ord9, mem9⟩
        refine ⟨_, _, _, us, F, rfl, s9, hL9, cl9, ord9, fun x => ?_⟩
        rw [mem9 x]
        refine and_congr_right fun l => ?_
        have := insL x l
        constructor
        · rintro (h | ⟨h, h2⟩)
          · exact .inl (by show x.1 < ((i + 1 : Nat) : Int); have : x.1 < (i : Int) := h; omega)
          · exact .inl (by show x.1 < ((i + 1 : Nat) : Int); have : x.1 = (i : Int) := h; omega)
        · rintro (h | ⟨h, h2⟩)
          · have h : x.1 < ((i + 1 : Nat) : Int) := h
            by_cases z : x.1 < (i : Int)
            · exact .inl z
            · exact .inr ⟨by show x.1 = (i : Int); omega, by show x.2 < (C.toNat : Int); omega⟩
          · have h2 : x.2 < 0 := h2
            omega
    · rintro σ H8 ⟨k6, k7, k8, us, F, rfl, s8, hL8, cl8, ord8, mem8⟩
      refine ⟨_, rfl, g, W, N', R, C, rfl, G6.same s8, wld', wok, wl, fun L2 H9 us2 F2 Rd2 s9 _ hL29 cl29 ord2 rds2 mem2 => ?_⟩
      rw [rds_fn (rds2.conv sn.get) rds] at mem2
      have eF : F2 = F := ord_one ord2 ord8 fun x => by
        rw [mem2 x, mem8 x]
        refine ⟨fun l => ⟨l, .inl ?_⟩, fun h => h.1⟩
        have := insL x l
        show x.1 < (R.toNat : Int)
        omega
      subst eF
      refine ⟨_, rfl, _, _, rfl, lk_cls hL29 (s9 _ _ hL8) cl29 (cl8.mono (TK.of s9)) ?_, q H9⟩
      refine Nat.le_trans (nodup_len (D := Rd.map Prod.fst) (ord_nd ord2) fun x hx => keyD x (lead_first ((mem8 x).mp hx).1)) ?_
      rw [List.length_map]
      omega
end
set_option maxHeartbeats 0 in
theorem all_mk {l : PySem.W.OpenLaw} {w : World} {K : PySem.W.Frag} {h : Heap} {mg : Str → Option Value} {fa f1 f2 f3 f4 f5 f6 f7 f8 f9 f10 f11 f12 f13 f14 f15 f16 f17 f18 f19 f20 f21 f22 f23 f24 f25 f26 f27 f28 f29 f30 f31 f32 f33 f34 f35 f36 f37 f38 f39 f40 f41 f42 f43 f44 : Addr} {t_NO_NAME : Nat} (X : K.In h) (G : h.Ns mainGlobals mg) (hfa : mg "law" = some (.ref fa))
    {od1 an1 od2 an2 od3 an3 od4 an4 od5 an5 od6 an6 od7 an7 od8 an8 od9 an9 od10 an10 od11 an11 od12 an12 od13 an13 od14 an14 od15 an15 od16 an16 od17 an17 od18 an18 od19 an19 od20 an20 od21 an21 od22 an22 od23 an23 od24 an24 od25 an25 od26 an26 od27 an27 od28 an28 od29 an29 od30 an30 od31 an31 od32 an32 od33 an33 od34 an34 od35 an35 od36 an36 od37 an37 od38 an38 od39 an39 od40 an40 od41 an41 od42 an42 od43 an43 od44 an44 : Option Addr} {sl1 sl2 sl3 sl4 sl5 sl6 sl7 sl8 sl9 sl10 sl11 sl12 sl13 sl14 sl15 sl16 sl17 sl18 sl19 sl20 sl21 sl22 sl23 sl24 sl25 sl26 sl27 sl28 sl29 sl30 sl31 sl32 sl33 sl34 sl35 sl36 sl37 sl38 sl39 sl40 sl41 sl42 sl43 sl44 : Array (Option Value)} {oc1 kV1 dc1 pm1 cd1 ct1 oc2 kV2 dc2 pm2 cd2 ct2 oc3 kV3 dc3 pm3 cd3 ct3 oc4 kV4 dc4 pm4 cd4 ct4 oc5 kV5 dc5 pm5 cd5 ct5 oc6 kV6 dc6 pm6 cd6 ct6 oc7 kV7 dc7 pm7 cd7 ct7 oc8 kV8 dc8 pm8 cd8 ct8 oc9 kV9 dc9 pm9 cd9 ct9 oc10 kV10 dc10 pm10 cd10 ct10 oc11 kV11 dc11 pm11 cd11 ct11 oc12 kV12 dc12 pm12 cd12 ct12 oc13 kV13 dc13 pm13 cd13 ct13 oc14 kV14 dc14 pm14 cd14 ct14 oc15 kV15 dc15 pm15 cd15 ct15 oc16 kV16 dc16 pm16 cd16 ct16 oc17 kV17 dc17 pm17 cd17 ct17 oc18 kV18 dc18 pm18 cd18 ct18 oc19 kV19 dc19 pm19 cd19 ct19 oc20 kV20 dc20 pm20 cd20 ct20 oc21 kV21 dc21 pm21 cd21 ct21 oc22 kV22 dc22 pm22 cd22 ct22 oc23 kV23 dc23 pm23 cd23 ct23 oc24 kV24 dc24 pm24 cd24 ct24 oc25 kV25 dc25 pm25 cd25 ct25 oc26 kV26 dc26 pm26 cd26 ct26 oc27 kV27 dc27 pm27 cd27 ct27 oc28 kV28 dc28 pm28 cd28 ct28 oc29 kV29 dc29 pm29 cd29 ct29 oc30 kV30 dc30 pm30 cd30 ct30 oc31 kV31 dc31 pm31 cd31 ct31 oc32 kV32 dc32 pm32 cd32 ct32 oc33 kV33 dc33 pm33 cd33 ct33 oc34 kV34 dc34 pm34 cd34 ct34 oc35 kV35 dc35 pm35 cd35 ct35 oc36 kV36 dc36 pm36 cd36 ct36 oc37 kV37 dc37 pm37 cd37 ct37 oc38 kV38 dc38 pm38 cd38 ct38 oc39 kV39 dc39 pm39 cd39 ct39 oc40 kV40 dc40 pm40 cd40 ct40 oc41 kV41 dc41 pm41 cd41 ct41 oc42 kV42 dc42 pm42 cd42 ct42 oc43 kV43 dc43 pm43 cd43 ct43 oc44 kV44 dc44 pm44 cd44 ct44 : Value}
    (a1 : PySem.W.nsIn K mainGlobals "_wall" = some (some (.ref f1))) (l1 : K.lookup f1 = some ⟨oc1, od1, .func (PySem.W.fnOf "_wall" "_wall" (defArgs sWall) (defBody sWall) (defScope sWall) .none kV1 dc1 pm1 an1 cd1 ct1), sl1⟩) (c1 : PySem.W.codeIn K cd1 "_wall" = true) (k1 : PySem.W.keepIn K (.ref f1) = true)
    (a2 : PySem.W.nsIn K mainGlobals "named_cells" = some (some (.ref f2))) (l2 : K.lookup f2 = some ⟨oc2, od2, .func (PySem.W.fnOf "named_cells" "named_cells" (defArgs sNamedCells) (defBody sNamedCells) (defScope sNamedCells) .none kV2 dc2 pm2 an2 cd2 ct2), sl2⟩) (c2 : PySem.W.codeIn K cd2 "named_cells" = true) (k2 : PySem.W.keepIn K (.ref f2) = true)
    (a3 : PySem.W.nsIn K mainGlobals "areas_of" = some (some (.ref f3))) (l3 : K.lookup f3 = some ⟨oc3, od3, .func (PySem.W.fnOf "areas_of" "areas_of" (defArgs sAreasOf) (defBody sAreasOf) (defScope sAreasOf) .none kV3 dc3 pm3 an3 cd3 ct3), sl3⟩) (c3 : PySem.W.codeIn K cd3 "areas_of" = true) (k3 : PySem.W.keepIn K (.ref f3) = true)
    (a4 : PySem.W.nsIn K mainGlobals "told_of" = some (some (.ref f4))) (l4 : K.lookup f4 = some ⟨oc4, od4, .func (PySem.W.fnOf "told_of" "told_of" (defArgs sToldOf) (defBody sToldOf) (defScope sToldOf) .none kV4 dc4 pm4 an4 cd4 ct4), sl4⟩) (c4 : PySem.W.codeIn K cd4 "told_of" = true) (k4 : PySem.W.keepIn K (.ref f4) = true)
    (a5 : PySem.W.nsIn K mainGlobals "blocks_of" = some (some (.ref f5))) (l5 : K.lookup f5 = some ⟨oc5, od5, .func (PySem.W.fnOf "blocks_of" "blocks_of" (defArgs sBlocksOf) (defBody sBlocksOf) (defScope sBlocksOf) .none kV5 dc5 pm5 an5 cd5 ct5), sl5⟩) (c5 : PySem.W.codeIn K cd5 "blocks_of" = true) (k5 : PySem.W.keepIn K (.ref f5) = true)
    (a6 : PySem.W.nsIn K mainGlobals "cells_of" = some (some (.ref f6))) (l6 : K.lookup f6 = some ⟨oc6, od6, .func (PySem.W.fnOf "cells_of" "cells_of" (defArgs sCellsOf) (defBody sCellsOf) (defScope sCellsOf) .none kV6 dc6 pm6 an6 cd6 ct6), sl6⟩) (c6 : PySem.W.codeIn K cd6 "cells_of" = true) (k6 : PySem.W.keepIn K (.ref f6) = true)
    (a7 : PySem.W.nsIn K mainGlobals "formula_of" = some (some (.ref f7))) (l7 : K.lookup f7 = some ⟨oc7, od7, .func (PySem.W.fnOf "formula_of" "formula_of" (defArgs sFormulaOf) (defBody sFormulaOf) (defScope sFormulaOf) .none kV7 dc7 pm7 an7 cd7 ct7), sl7⟩) (c7 : PySem.W.codeIn K cd7 "formula_of" = true) (k7 : PySem.W.keepIn K (.ref f7) = true)
    (a8 : PySem.W.nsIn K mainGlobals "cells_read" = some (some (.ref f8))) (l8 : K.lookup f8 = some ⟨oc8, od8, .func (PySem.W.fnOf "cells_read" "cells_read" (defArgs sCellsRead) (defBody sCellsRead) (defScope sCellsRead) .none kV8 dc8 pm8 an8 cd8 ct8), sl8⟩) (c8 : PySem.W.codeIn K cd8 "cells_read" = true) (k8 : PySem.W.keepIn K (.ref f8) = true)
    (a9 : PySem.W.nsIn K mainGlobals "reads_of" = some (some (.ref f9))) (l9 : K.lookup f9 = some ⟨oc9, od9, .func (PySem.W.fnOf "reads_of" "reads_of" (defArgs sReadsOf) (defBody sReadsOf) (defScope sReadsOf) .none kV9 dc9 pm9 an9 cd9 ct9), sl9⟩) (c9 : PySem.W.codeIn K cd9 "reads_of" = true) (k9 : PySem.W.keepIn K (.ref f9) = true)
    (a10 : PySem.W.nsIn K mainGlobals "readers_of" = some (some (.ref f10))) (l10 : K.lookup f10 = some ⟨oc10, od10, .func (PySem.W.fnOf "readers_of" "readers_of" (defArgs sReadersOf) (defBody sReadersOf) (defScope sReadersOf) .none kV10 dc10 pm10 an10 cd10 ct10), sl10⟩) (c10 : PySem.W.codeIn K cd10 "readers_of" = true) (k10 : PySem.W.keepIn K (.ref f10) = true)
    (a11 : PySem.W.nsIn K mainGlobals "in_sequence" = some (some (.ref f11))) (l11 : K.lookup f11 = some ⟨oc11, od11, .func (PySem.W.fnOf "in_sequence" "in_sequence" (defArgs sInSequence) (defBody sInSequence) (defScope sInSequence) .none kV11 dc11 pm11 an11 cd11 ct11), sl11⟩) (c11 : PySem.W.codeIn K cd11 "in_sequence" = true) (k11 : PySem.W.keepIn K (.ref f11) = true)
    (a12 : PySem.W.nsIn K mainGlobals "_reached" = some (some (.ref f12))) (l12 : K.lookup f12 = some ⟨oc12, od12, .func (PySem.W.fnOf "_reached" "_reached" (defArgs sReached) (defBody sReached) (defScope sReached) .none kV12 dc12 pm12 an12 cd12 ct12), sl12⟩) (c12 : PySem.W.codeIn K cd12 "_reached" = true) (k12 : PySem.W.keepIn K (.ref f12) = true)
    (a13 : PySem.W.nsIn K mainGlobals "knots_in" = some (some (.ref f13))) (l13 : K.lookup f13 = some ⟨oc13, od13, .func (PySem.W.fnOf "knots_in" "knots_in" (defArgs sKnotsIn) (defBody sKnotsIn) (defScope sKnotsIn) .none kV13 dc13 pm13 an13 cd13 ct13), sl13⟩) (c13 : PySem.W.codeIn K cd13 "knots_in" = true) (k13 : PySem.W.keepIn K (.ref f13) = true)
    (a14 : PySem.W.nsIn K mainGlobals "cells_in_rings" = some (some (.ref f14))) (l14 : K.lookup f14 = some ⟨oc14, od14, .func (PySem.W.fnOf "cells_in_rings" "cells_in_rings" (defArgs sCellsInRings) (defBody sCellsInRings) (defScope sCellsInRings) .none kV14 dc14 pm14 an14 cd14 ct14), sl14⟩) (c14 : PySem.W.codeIn K cd14 "cells_in_rings" = true) (k14 : PySem.W.keepIn K (.ref f14) = true)
    (a15 : PySem.W.nsIn K mainGlobals "ring_cells" = some (some (.ref f15))) (l15 : K.lookup f15 = some ⟨oc15, od15, .func (PySem.W.fnOf "ring_cells" "ring_cells" (defArgs sRingCells) (defBody sRingCells) (defScope sRingCells) .none kV15 dc15 pm15 an15 cd15 ct15), sl15⟩) (c15 : PySem.W.codeIn K cd15 "ring_cells" = true) (k15 : PySem.W.keepIn K (.ref f15) = true)
    (a16 : PySem.W.nsIn K mainGlobals "_steps_to" = some (some (.ref f16))) (l16 : K.lookup f16 = some ⟨oc16, od16, .func (PySem.W.fnOf "_steps_to" "_steps_to" (defArgs sStepsTo) (defBody sStepsTo) (defScope sStepsTo) .none kV16 dc16 pm16 an16 cd16 ct16), sl16⟩) (c16 : PySem.W.codeIn K cd16 "_steps_to" = true) (k16 : PySem.W.keepIn K (.ref f16) = true)
    (a17 : PySem.W.nsIn K mainGlobals "ring_of" = some (some (.ref f17))) (l17 : K.lookup f17 = some ⟨oc17, od17, .func (PySem.W.fnOf "ring_of" "ring_of" (defArgs sRingOf) (defBody sRingOf) (defScope sRingOf) .none kV17 dc17 pm17 an17 cd17 ct17), sl17⟩) (c17 : PySem.W.codeIn K cd17 "ring_of" = true) (k17 : PySem.W.keepIn K (.ref f17) = true)
    (a18 : PySem.W.nsIn K mainGlobals "_law_cell" = some (some (.ref f18))) (l18 : K.lookup f18 = some ⟨oc18, od18, .func (PySem.W.fnOf "_law_cell" "_law_cell" (defArgs sLawCell) (defBody sLawCell) (defScope sLawCell) .none kV18 dc18 pm18 an18 cd18 ct18), sl18⟩) (c18 : PySem.W.codeIn K cd18 "_law_cell" = true) (k18 : PySem.W.keepIn K (.ref f18) = true)
    (a19 : PySem.W.nsIn K mainGlobals "_law_digits" = some (some (.ref f19))) (l19 : K.lookup f19 = some ⟨oc19, od19, .func (PySem.W.fnOf "_law_digits" "_law_digits" (defArgs sLawDigits) (defBody sLawDigits) (defScope sLawDigits) .none kV19 dc19 pm19 an19 cd19 ct19), sl19⟩) (c19 : PySem.W.codeIn K cd19 "_law_digits" = true) (k19 : PySem.W.keepIn K (.ref f19) = true)
    (a20 : PySem.W.nsIn K mainGlobals "_law_draw" = some (some (.ref f20))) (l20 : K.lookup f20 = some ⟨oc20, od20, .func (PySem.W.fnOf "_law_draw" "_law_draw" (defArgs sLawDraw) (defBody sLawDraw) (defScope sLawDraw) .none kV20 dc20 pm20 an20 cd20 ct20), sl20⟩) (c20 : PySem.W.codeIn K cd20 "_law_draw" = true) (k20 : PySem.W.keepIn K (.ref f20) = true)
    (a21 : PySem.W.nsIn K mainGlobals "_law_gcd" = some (some (.ref f21))) (l21 : K.lookup f21 = some ⟨oc21, od21, .func (PySem.W.fnOf "_law_gcd" "_law_gcd" (defArgs sLawGcd) (defBody sLawGcd) (defScope sLawGcd) .none kV21 dc21 pm21 an21 cd21 ct21), sl21⟩) (c21 : PySem.W.codeIn K cd21 "_law_gcd" = true) (k21 : PySem.W.keepIn K (.ref f21) = true)
    (a22 : PySem.W.nsIn K mainGlobals "_law_lowest" = some (some (.ref f22))) (l22 : K.lookup f22 = some ⟨oc22, od22, .func (PySem.W.fnOf "_law_lowest" "_law_lowest" (defArgs sLawLowest) (defBody sLawLowest) (defScope sLawLowest) .none kV22 dc22 pm22 an22 cd22 ct22), sl22⟩) (c22 : PySem.W.codeIn K cd22 "_law_lowest" = true) (k22 : PySem.W.keepIn K (.ref f22) = true)
    (a23 : PySem.W.nsIn K mainGlobals "_law_digit_text" = some (some (.ref f23))) (l23 : K.lookup f23 = some ⟨oc23, od23, .func (PySem.W.fnOf "_law_digit_text" "_law_digit_text" (defArgs sLawDigitText) (defBody sLawDigitText) (defScope sLawDigitText) .none kV23 dc23 pm23 an23 cd23 ct23), sl23⟩) (c23 : PySem.W.codeIn K cd23 "_law_digit_text" = true) (k23 : PySem.W.keepIn K (.ref f23) = true)
    (a24 : PySem.W.nsIn K mainGlobals "_law_address" = some (some (.ref f24))) (l24 : K.lookup f24 = some ⟨oc24, od24, .func (PySem.W.fnOf "_law_address" "_law_address" (defArgs sLawAddress) (defBody sLawAddress) (defScope sLawAddress) .none kV24 dc24 pm24 an24 cd24 ct24), sl24⟩) (c24 : PySem.W.codeIn K cd24 "_law_address" = true) (k24 : PySem.W.keepIn K (.ref f24) = true)
    (a25 : PySem.W.nsIn K mainGlobals "_law_word" = some (some (.ref f25))) (l25 : K.lookup f25 = some ⟨oc25, od25, .func (PySem.W.fnOf "_law_word" "_law_word" (defArgs sLawWord) (defBody sLawWord) (defScope sLawWord) .none kV25 dc25 pm25 an25 cd25 ct25), sl25⟩) (c25 : PySem.W.codeIn K cd25 "_law_word" = true) (k25 : PySem.W.keepIn K (.ref f25) = true)
    (a26 : PySem.W.nsIn K mainGlobals "_law_leaf" = some (some (.ref f26))) (l26 : K.lookup f26 = some ⟨oc26, od26, .func (PySem.W.fnOf "_law_leaf" "_law_leaf" (defArgs sLawLeaf) (defBody sLawLeaf) (defScope sLawLeaf) .none kV26 dc26 pm26 an26 cd26 ct26), sl26⟩) (c26 : PySem.W.codeIn K cd26 "_law_leaf" = true) (k26 : PySem.W.keepIn K (.ref f26) = true)
    (a27 : PySem.W.nsIn K mainGlobals "_law_area" = some (some (.ref f27))) (l27 : K.lookup f27 = some ⟨oc27, od27, .func (PySem.W.fnOf "_law_area" "_law_area" (defArgs sLawArea) (defBody sLawArea) (defScope sLawArea) .none kV27 dc27 pm27 an27 cd27 ct27), sl27⟩) (c27 : PySem.W.codeIn K cd27 "_law_area" = true) (k27 : PySem.W.keepIn K (.ref f27) = true)
    (a28 : PySem.W.nsIn K mainGlobals "_law_inside" = some (some (.ref f28))) (l28 : K.lookup f28 = some ⟨oc28, od28, .func (PySem.W.fnOf "_law_inside" "_law_inside" (defArgs sLawInside) (defBody sLawInside) (defScope sLawInside) .none kV28 dc28 pm28 an28 cd28 ct28), sl28⟩) (c28 : PySem.W.codeIn K cd28 "_law_inside" = true) (k28 : PySem.W.keepIn K (.ref f28) = true)
    (a29 : PySem.W.nsIn K mainGlobals "_law_call" = some (some (.ref f29))) (l29 : K.lookup f29 = some ⟨oc29, od29, .func (PySem.W.fnOf "_law_call" "_law_call" (defArgs sLawCall) (defBody sLawCall) (defScope sLawCall) .none kV29 dc29 pm29 an29 cd29 ct29), sl29⟩) (c29 : PySem.W.codeIn K cd29 "_law_call" = true) (k29 : PySem.W.keepIn K (.ref f29) = true)
    (a30 : PySem.W.nsIn K mainGlobals "_law_node" = some (some (.ref f30))) (l30 : K.lookup f30 = some ⟨oc30, od30, .func (PySem.W.fnOf "_law_node" "_law_node" (defArgs sLawNode) (defBody sLawNode) (defScope sLawNode) .none kV30 dc30 pm30 an30 cd30 ct30), sl30⟩) (c30 : PySem.W.codeIn K cd30 "_law_node" = true) (k30 : PySem.W.keepIn K (.ref f30) = true)
    (a31 : PySem.W.nsIn K mainGlobals "_law_same" = some (some (.ref f31))) (l31 : K.lookup f31 = some ⟨oc31, od31, .func (PySem.W.fnOf "_law_same" "_law_same" (defArgs sLawSame) (defBody sLawSame) (defScope sLawSame) .none kV31 dc31 pm31 an31 cd31 ct31), sl31⟩) (c31 : PySem.W.codeIn K cd31 "_law_same" = true) (k31 : PySem.W.keepIn K (.ref f31) = true)
    (a32 : PySem.W.nsIn K mainGlobals "_law_names" = some (some (.ref f32))) (l32 : K.lookup f32 = some ⟨oc32, od32, .func (PySem.W.fnOf "_law_names" "_law_names" (defArgs sLawNames) (defBody sLawNames) (defScope sLawNames) .none kV32 dc32 pm32 an32 cd32 ct32), sl32⟩) (c32 : PySem.W.codeIn K cd32 "_law_names" = true) (k32 : PySem.W.keepIn K (.ref f32) = true)
    (a33 : PySem.W.nsIn K mainGlobals "_law_set_names" = some (some (.ref f33))) (l33 : K.lookup f33 = some ⟨oc33, od33, .func (PySem.W.fnOf "_law_set_names" "_law_set_names" (defArgs sLawSetNames) (defBody sLawSetNames) (defScope sLawSetNames) .none kV33 dc33 pm33 an33 cd33 ct33), sl33⟩) (c33 : PySem.W.codeIn K cd33 "_law_set_names" = true) (k33 : PySem.W.keepIn K (.ref f33) = true)
    (a34 : PySem.W.nsIn K mainGlobals "_law_content" = some (some (.ref f34))) (l34 : K.lookup f34 = some ⟨oc34, od34, .func (PySem.W.fnOf "_law_content" "_law_content" (defArgs sLawContent) (defBody sLawContent) (defScope sLawContent) .none kV34 dc34 pm34 an34 cd34 ct34), sl34⟩) (c34 : PySem.W.codeIn K cd34 "_law_content" = true) (k34 : PySem.W.keepIn K (.ref f34) = true)
    (a35 : PySem.W.nsIn K mainGlobals "_law_near" = some (some (.ref f35))) (l35 : K.lookup f35 = some ⟨oc35, od35, .func (PySem.W.fnOf "_law_near" "_law_near" (defArgs sLawNear) (defBody sLawNear) (defScope sLawNear) .none kV35 dc35 pm35 an35 cd35 ct35), sl35⟩) (c35 : PySem.W.codeIn K cd35 "_law_near" = true) (k35 : PySem.W.keepIn K (.ref f35) = true)
    (a36 : PySem.W.nsIn K mainGlobals "_law_world" = some (some (.ref f36))) (l36 : K.lookup f36 = some ⟨oc36, od36, .func (PySem.W.fnOf "_law_world" "_law_world" (defArgs sLawWorld) (defBody sLawWorld) (defScope sLawWorld) .none kV36 dc36 pm36 an36 cd36 ct36), sl36⟩) (c36 : PySem.W.codeIn K cd36 "_law_world" = true) (k36 : PySem.W.keepIn K (.ref f36) = true)
    (a37 : PySem.W.nsIn K mainGlobals "_law_grid" = some (some (.ref f37))) (l37 : K.lookup f37 = some ⟨oc37, od37, .func (PySem.W.fnOf "_law_grid" "_law_grid" (defArgs sLawGrid) (defBody sLawGrid) (defScope sLawGrid) .none kV37 dc37 pm37 an37 cd37 ct37), sl37⟩) (c37 : PySem.W.codeIn K cd37 "_law_grid" = true) (k37 : PySem.W.keepIn K (.ref f37) = true)
    (a38 : PySem.W.nsIn K mainGlobals "_law_blocks" = some (some (.ref f38))) (l38 : K.lookup f38 = some ⟨oc38, od38, .func (PySem.W.fnOf "_law_blocks" "_law_blocks" (defArgs sLawBlocks) (defBody sLawBlocks) (defScope sLawBlocks) .none kV38 dc38 pm38 an38 cd38 ct38), sl38⟩) (c38 : PySem.W.codeIn K cd38 "_law_blocks" = true) (k38 : PySem.W.keepIn K (.ref f38) = true)
    (a39 : PySem.W.nsIn K mainGlobals "_law_reads_of_tree" = some (some (.ref f39))) (l39 : K.lookup f39 = some ⟨oc39, od39, .func (PySem.W.fnOf "_law_reads_of_tree" "_law_reads_of_tree" (defArgs sLawReadsOfTree) (defBody sLawReadsOfTree) (defScope sLawReadsOfTree) .none kV39 dc39 pm39 an39 cd39 ct39), sl39⟩) (c39 : PySem.W.codeIn K cd39 "_law_reads_of_tree" = true) (k39 : PySem.W.keepIn K (.ref f39) = true)
    (a40 : PySem.W.nsIn K mainGlobals "_law_reads" = some (some (.ref f40))) (l40 : K.lookup f40 = some ⟨oc40, od40, .func (PySem.W.fnOf "_law_reads" "_law_reads" (defArgs sLawReads) (defBody sLawReads) (defScope sLawReads) .none kV40 dc40 pm40 an40 cd40 ct40), sl40⟩) (c40 : PySem.W.codeIn K cd40 "_law_reads" = true) (k40 : PySem.W.keepIn K (.ref f40) = true)
    (a41 : PySem.W.nsIn K mainGlobals "_law_all_reads" = some (some (.ref f41))) (l41 : K.lookup f41 = some ⟨oc41, od41, .func (PySem.W.fnOf "_law_all_reads" "_law_all_reads" (defArgs sLawAllReads) (defBody sLawAllReads) (defScope sLawAllReads) .none kV41 dc41 pm41 an41 cd41 ct41), sl41⟩) (c41 : PySem.W.codeIn K cd41 "_law_all_reads" = true) (k41 : PySem.W.keepIn K (.ref f41) = true)
    (a42 : PySem.W.nsIn K mainGlobals "_law_nearest" = some (some (.ref f42))) (l42 : K.lookup f42 = some ⟨oc42, od42, .func (PySem.W.fnOf "_law_nearest" "_law_nearest" (defArgs sLawNearest) (defBody sLawNearest) (defScope sLawNearest) .none kV42 dc42 pm42 an42 cd42 ct42), sl42⟩) (c42 : PySem.W.codeIn K cd42 "_law_nearest" = true) (k42 : PySem.W.keepIn K (.ref f42) = true)
    (a43 : PySem.W.nsIn K mainGlobals "_law_ring" = some (some (.ref f43))) (l43 : K.lookup f43 = some ⟨oc43, od43, .func (PySem.W.fnOf "_law_ring" "_law_ring" (defArgs sLawRing) (defBody sLawRing) (defScope sLawRing) .none kV43 dc43 pm43 an43 cd43 ct43), sl43⟩) (c43 : PySem.W.codeIn K cd43 "_law_ring" = true) (k43 : PySem.W.keepIn K (.ref f43) = true)
    (a44 : PySem.W.nsIn K mainGlobals "law" = some (some (.ref f44))) (l44 : K.lookup f44 = some ⟨oc44, od44, .func (PySem.W.fnOf "law" "law" (defArgs sLaw) (defBody sLaw) (defScope sLaw) .none kV44 dc44 pm44 an44 cd44 ct44), sl44⟩) (c44 : PySem.W.codeIn K cd44 "law" = true) (k44 : PySem.W.keepIn K (.ref f44) = true)
    (z_sorted : PySem.W.nsIn K mainGlobals "sorted" = some none)
    (z_min : PySem.W.nsIn K mainGlobals "min" = some none)
    (z_range : PySem.W.nsIn K mainGlobals "range" = some none)
    (z_abs : PySem.W.nsIn K mainGlobals "abs" = some none)
    (z_isinstance : PySem.W.nsIn K mainGlobals "isinstance" = some none)
    (z_bool : PySem.W.nsIn K mainGlobals "bool" = some none)
    (z_str : PySem.W.nsIn K mainGlobals "str" = some none)
    (z_list : PySem.W.nsIn K mainGlobals "list" = some none)
    (z_set : PySem.W.nsIn K mainGlobals "set" = some none)
    (z_len : PySem.W.nsIn K mainGlobals "len" = some none)
    (z_max : PySem.W.nsIn K mainGlobals "max" = some none)
    (z_tuple : PySem.W.nsIn K mainGlobals "tuple" = some none)
    (z_int : PySem.W.nsIn K mainGlobals "int" = some none)
    (x_NO_NAME : PySem.W.nsIn K mainGlobals "NO_NAME" = some (some (.str "none" t_NO_NAME)))
    {cGrid : Addr} (kaGrid : PySem.W.nsIn K mainGlobals "Grid" = some (some (.ref cGrid))) (kbGrid : PySem.W.plainGet K cGrid Str.empty = true) (kcGrid : PySem.W.hasDictIn K cGrid = true) (kdGrid : PySem.W.plainOver K cGrid = true) (keGrid : PySem.W.findIn K (.ref cGrid) "__setattr__" = some (some (.builtin "object.__setattr__"))) (kfGrid : PySem.W.makesIn K cGrid = true) (kgGrid : PySem.W.keepIn K (.ref cGrid) = true)
    {fGrid_Init : Addr} {oc_Grid_Init kV_Grid_Init dc_Grid_Init pm_Grid_Init cd_Grid_Init ct_Grid_Init : Value} {od_Grid_Init an_Grid_Init : Option Addr} {sl_Grid_Init : Array (Option Value)}
    (miGrid_Init : PySem.W.findIn K (.ref cGrid) "__init__" = some (some (.ref fGrid_Init))) (mfGrid_Init : PySem.W.isFn K (.ref fGrid_Init) = true) (mkGrid_Init : PySem.W.keepIn K (.ref fGrid_Init) = true)
    (mlGrid_Init : K.lookup fGrid_Init = some ⟨oc_Grid_Init, od_Grid_Init, .func (PySem.W.fnOf "__init__" "Grid.__init__" (defArgs sGrid_Init) (defBody sGrid_Init) (defScope sGrid_Init) .none kV_Grid_Init dc_Grid_Init pm_Grid_Init an_Grid_Init cd_Grid_Init ct_Grid_Init), sl_Grid_Init⟩) (mdGrid_Init : PySem.W.codeIn K cd_Grid_Init "Grid.__init__" = true)
    {fGrid_Put : Addr} {oc_Grid_Put kV_Grid_Put dc_Grid_Put pm_Grid_Put cd_Grid_Put ct_Grid_Put : Value} {od_Grid_Put an_Grid_Put : Option Addr} {sl_Grid_Put : Array (Option Value)}
    (miGrid_Put : PySem.W.findIn K (.ref cGrid) "put" = some (some (.ref fGrid_Put))) (mfGrid_Put : PySem.W.isFn K (.ref fGrid_Put) = true) (mkGrid_Put : PySem.W.keepIn K (.ref fGrid_Put) = true)
    (mlGrid_Put : K.lookup fGrid_Put = some ⟨oc_Grid_Put, od_Grid_Put, .func (PySem.W.fnOf "put" "Grid.put" (defArgs sGrid_Put) (defBody sGrid_Put) (defScope sGrid_Put) .none kV_Grid_Put dc_Grid_Put pm_Grid_Put an_Grid_Put cd_Grid_Put ct_Grid_Put), sl_Grid_Put⟩) (mdGrid_Put : PySem.W.codeIn K cd_Grid_Put "Grid.put" = true)
    {fGrid_Shown : Addr} {oc_Grid_Shown kV_Grid_Shown dc_Grid_Shown pm_Grid_Shown cd_Grid_Shown ct_Grid_Shown : Value} {od_Grid_Shown an_Grid_Shown : Option Addr} {sl_Grid_Shown : Array (Option Value)}
    (miGrid_Shown : PySem.W.findIn K (.ref cGrid) "shown" = some (some (.ref fGrid_Shown))) (mfGrid_Shown : PySem.W.isFn K (.ref fGrid_Shown) = true) (mkGrid_Shown : PySem.W.keepIn K (.ref fGrid_Shown) = true)
    (mlGrid_Shown : K.lookup fGrid_Shown = some ⟨oc_Grid_Shown, od_Grid_Shown, .func (PySem.W.fnOf "shown" "Grid.shown" (defArgs sGrid_Shown) (defBody sGrid_Shown) (defScope sGrid_Shown) .none kV_Grid_Shown dc_Grid_Shown pm_Grid_Shown an_Grid_Shown cd_Grid_Shown ct_Grid_Shown), sl_Grid_Shown⟩) (mdGrid_Shown : PySem.W.codeIn K cd_Grid_Shown "Grid.shown" = true)
    {fGrid_Name : Addr} {oc_Grid_Name kV_Grid_Name dc_Grid_Name pm_Grid_Name cd_Grid_Name ct_Grid_Name : Value} {od_Grid_Name an_Grid_Name : Option Addr} {sl_Grid_Name : Array (Option Value)}
    (miGrid_Name : PySem.W.findIn K (.ref cGrid) "name" = some (some (.ref fGrid_Name))) (mfGrid_Name : PySem.W.isFn K (.ref fGrid_Name) = true) (mkGrid_Name : PySem.W.keepIn K (.ref fGrid_Name) = true)
    (mlGrid_Name : K.lookup fGrid_Name = some ⟨oc_Grid_Name, od_Grid_Name, .func (PySem.W.fnOf "name" "Grid.name" (defArgs sGrid_Name) (defBody sGrid_Name) (defScope sGrid_Name) .none kV_Grid_Name dc_Grid_Name pm_Grid_Name an_Grid_Name cd_Grid_Name ct_Grid_Name), sl_Grid_Name⟩) (mdGrid_Name : PySem.W.codeIn K cd_Grid_Name "Grid.name" = true)
    {fGrid_Areas : Addr} {oc_Grid_Areas kV_Grid_Areas dc_Grid_Areas pm_Grid_Areas cd_Grid_Areas ct_Grid_Areas : Value} {od_Grid_Areas an_Grid_Areas : Option Addr} {sl_Grid_Areas : Array (Option Value)}
    (miGrid_Areas : PySem.W.findIn K (.ref cGrid) "areas" = some (some (.ref fGrid_Areas))) (mfGrid_Areas : PySem.W.isFn K (.ref fGrid_Areas) = true) (mkGrid_Areas : PySem.W.keepIn K (.ref fGrid_Areas) = true)
    (mlGrid_Areas : K.lookup fGrid_Areas = some ⟨oc_Grid_Areas, od_Grid_Areas, .func (PySem.W.fnOf "areas" "Grid.areas" (defArgs sGrid_Areas) (defBody sGrid_Areas) (defScope sGrid_Areas) .none kV_Grid_Areas dc_Grid_Areas pm_Grid_Areas an_Grid_Areas cd_Grid_Areas ct_Grid_Areas), sl_Grid_Areas⟩) (mdGrid_Areas : PySem.W.codeIn K cd_Grid_Areas "Grid.areas" = true)
    {fGrid_Cells : Addr} {oc_Grid_Cells kV_Grid_Cells dc_Grid_Cells pm_Grid_Cells cd_Grid_Cells ct_Grid_Cells : Value} {od_Grid_Cells an_Grid_Cells : Option Addr} {sl_Grid_Cells : Array (Option Value)}
    (miGrid_Cells : PySem.W.findIn K (.ref cGrid) "cells" = some (some (.ref fGrid_Cells))) (mfGrid_Cells : PySem.W.isFn K (.ref fGrid_Cells) = true) (mkGrid_Cells : PySem.W.keepIn K (.ref fGrid_Cells) = true)
    (mlGrid_Cells : K.lookup fGrid_Cells = some ⟨oc_Grid_Cells, od_Grid_Cells, .func (PySem.W.fnOf "cells" "Grid.cells" (defArgs sGrid_Cells) (defBody sGrid_Cells) (defScope sGrid_Cells) .none kV_Grid_Cells dc_Grid_Cells pm_Grid_Cells an_Grid_Cells cd_Grid_Cells ct_Grid_Cells), sl_Grid_Cells⟩) (mdGrid_Cells : PySem.W.codeIn K cd_Grid_Cells "Grid.cells" = true)
    (knGrid_rows : PySem.W.findIn K (.ref cGrid) "rows" = some none)
    (knGrid_columns : PySem.W.findIn K (.ref cGrid) "columns" = some none)
    (knGrid__contents : PySem.W.findIn K (.ref cGrid) "_contents" = some none)
    (knGrid__names : PySem.W.findIn K (.ref cGrid) "_names" = some none)
    {cTableError : Addr} (yaTableError : PySem.W.nsIn K mainGlobals "TableError" = some (some (.ref cTableError))) (ytTableError : PySem.W.typeIn K (.ref cTableError) = some (.type "type")) (yhTableError : PySem.W.hasDictIn K cTableError = true) (yeTableError : PySem.W.subIn K (.ref cTableError) (.type "BaseException") = some true)
    {cUnknownName : Addr} (yaUnknownName : PySem.W.nsIn K mainGlobals "UnknownName" = some (some (.ref cUnknownName))) (ytUnknownName : PySem.W.typeIn K (.ref cUnknownName) = some (.type "type")) (yhUnknownName : PySem.W.hasDictIn K cUnknownName = true) (yeUnknownName : PySem.W.subIn K (.ref cUnknownName) (.type "BaseException") = some true)
    {nm_UnknownName qn_UnknownName : Str} {N_UnknownName : Addr} {bs_UnknownName : List Value} {sn_UnknownName : List Str} {sb_UnknownName : List Value} {ab_UnknownName : Bool} {co_UnknownName : Option Bool} {dd_UnknownName : Option Addr} {m0_UnknownName m1_UnknownName m2_UnknownName m3_UnknownName m5_UnknownName : Option Value}
    (ycUnknownName : K.lookup cUnknownName = some (excClassObj nm_UnknownName qn_UnknownName cUnknownName N_UnknownName bs_UnknownName [.ref cTableError, .type "ValueError", .type "Exception", .type "BaseException", .type "object"] true sn_UnknownName sb_UnknownName ab_UnknownName co_UnknownName dd_UnknownName m0_UnknownName m1_UnknownName m2_UnknownName m3_UnknownName m5_UnknownName "ValueError.__new__"))
    (y1UnknownName : PySem.W.findIn K (.ref cUnknownName) "__setattr__" = some (some (.builtin "object.__setattr__"))) (y2UnknownName : PySem.W.findIn K (.ref cUnknownName) "__getattribute__" = some (some (.builtin "BaseException.__getattribute__"))) (y3UnknownName : PySem.W.findIn K (.ref cUnknownName) "__getattr__" = some none)
    (y4UnknownName : PySem.W.findIn K (.ref cUnknownName) "__class__" = some (some (.builtin "object.__class__"))) (y5UnknownName : PySem.W.specialIn K (.builtin "object.__class__") "__get__" = some (some (.builtin "getset_descriptor.__get__"))) (y6UnknownName : PySem.W.takesIn K (.builtin "object.__class__") = some true) (y7UnknownName : PySem.W.mroIn K cUnknownName (.type "object") = some true) (y8UnknownName : PySem.W.isClsIn K cUnknownName = true) (y9UnknownName : PySem.W.keepIn K (.ref cUnknownName) = true)
    {fUnknownName_Init : Addr} (yiUnknownName : PySem.W.findIn K (.ref cUnknownName) "__init__" = some (some (.ref fUnknownName_Init))) (yjUnknownName : PySem.W.typeIn K (.ref fUnknownName_Init) = some (.type "function"))
    {oc_UnknownName kV_UnknownName dc_UnknownName pm_UnknownName cd_UnknownName ct_UnknownName : Value} {od_UnknownName an_UnknownName : Option Addr} {sl_UnknownName : Array (Option Value)}
    (ylUnknownName : K.lookup fUnknownName_Init = some ⟨oc_UnknownName, od_UnknownName, .func (PySem.W.fnOf "__init__" "UnknownName.__init__" (defArgs sUnknownName_Init) (defBody sUnknownName_Init) (defScope sUnknownName_Init) .none kV_UnknownName dc_UnknownName pm_UnknownName an_UnknownName cd_UnknownName ct_UnknownName), sl_UnknownName⟩) (ydUnknownName : PySem.W.codeIn K cd_UnknownName "UnknownName.__init__" = true) (ykUnknownName : PySem.W.keepIn K (.ref fUnknownName_Init) = true)
    (ynUnknownName_word : PySem.W.findIn K (.ref cUnknownName) "word" = some none)
    (ysUnknownName_TableError : PySem.W.subIn K (.ref cUnknownName) (.ref cTableError) = some true)
    (ysUnknownName_UnknownName : PySem.W.subIn K (.ref cUnknownName) (.ref cUnknownName) = some true)
    : ∃ fd : FuncData, (∀ (s : Shared) (v : Value), BindsTo s fd ⟨[v], []⟩ [("script", v)]) ∧ ∀ base : Heap, K.In base → base.Ns mainGlobals mg → FnOk l.prog w K mg base CX0 14 fa fd ["script"] (spLaw K) := by
  have e := hfa.symm.trans (PySem.W.mg_of X G a44)
  cases e
  have F1 := fun_mk (st := sWall) l1 c1 k1
  have b1 := F1.binds (ps := ["k"]) fun _ _ _ _ _ _ us hl => match us, hl with | [_], _ => rfl
  have F2 := fun_mk (st := sNamedCells) l2 c2 k2
  have b2 := F2.binds (ps := ["tree"]) fun _ _ _ _ _ _ us hl => match us, hl with | [_], _ => rfl
  have F3 := fun_mk (st := sAreasOf) l3 c3 k3
  have b3 := F3.binds (ps := ["tree"]) fun _ _ _ _ _ _ us hl => match us, hl with | [_], _ => rfl
  have F4 := fun_mk (st := sToldOf) l4 c4 k4
  have b4 := F4.binds (ps := ["grid", "word"]) fun _ _ _ _ _ _ us hl => match us, hl with | [_, _], _ => rfl
  have F5 := fun_mk (st := sBlocksOf) l5 c5 k5
  have b5 := F5.binds (ps := ["grid", "area"]) fun _ _ _ _ _ _ us hl => match us, hl with | [_, _], _ => rfl
  have F6 := fun_mk (st := sCellsOf) l6 c6 k6
  have b6 := F6.binds (ps := ["block"]) fun _ _ _ _ _ _ us hl => match us, hl with | [_], _ => rfl
  have F7 := fun_mk (st := sFormulaOf) l7 c7 k7
  have b7 := F7.binds (ps := ["grid", "cell"]) fun _ _ _ _ _ _ us hl => match us, hl with | [_, _], _ => rfl
  have F8 := fun_mk (st := sCellsRead) l8 c8 k8
  have b8 := F8.binds (ps := ["grid", "cell"]) fun _ _ _ _ _ _ us hl => match us, hl with | [_, _], _ => rfl
  have F9 := fun_mk (st := sReadsOf) l9 c9 k9
  have b9 := F9.binds (ps := ["grid"]) fun _ _ _ _ _ _ us hl => match us, hl with | [_], _ => rfl
  have F10 := fun_mk (st := sReadersOf) l10 c10 k10
  have b10 := F10.binds (ps := ["reads"]) fun _ _ _ _ _ _ us hl => match us, hl with | [_], _ => rfl
  have F11 := fun_mk (st := sInSequence) l11 c11 k11
  have b11 := F11.binds (ps := ["reads"]) fun _ _ _ _ _ _ us hl => match us, hl with | [_], _ => rfl
  have F12 := fun_mk (st := sReached) l12 c12 k12
  have b12 := F12.binds (ps := ["steps", "start"]) fun _ _ _ _ _ _ us hl => match us, hl with | [_, _], _ => rfl
  have F13 := fun_mk (st := sKnotsIn) l13 c13 k13
  have b13 := F13.binds (ps := ["reads"]) fun _ _ _ _ _ _ us hl => match us, hl with | [_], _ => rfl
  have F14 := fun_mk (st := sCellsInRings) l14 c14 k14
  have b14 := F14.binds (ps := ["reads"]) fun _ _ _ _ _ _ us hl => match us, hl with | [_], _ => rfl
  have F15 := fun_mk (st := sRingCells) l15 c15 k15
  have b15 := F15.binds (ps := ["grid"]) fun _ _ _ _ _ _ us hl => match us, hl with | [_], _ => rfl
  have F16 := fun_mk (st := sStepsTo) l16 c16 k16
  have b16 := F16.binds (ps := ["reads", "cell"]) fun _ _ _ _ _ _ us hl => match us, hl with | [_, _], _ => rfl
  have F17 := fun_mk (st := sRingOf) l17 c17 k17
  have b17 := F17.binds (ps := ["grid", "cell"]) fun _ _ _ _ _ _ us hl => match us, hl with | [_, _], _ => rfl
  have F18 := fun_mk (st := sLawCell) l18 c18 k18
  have b18 := F18.binds (ps := ["script", "k"]) fun _ _ _ _ _ _ us hl => match us, hl with | [_, _], _ => rfl
  have F19 := fun_mk (st := sLawDigits) l19 c19 k19
  have b19 := F19.binds (ps := ["script", "first", "last"]) fun _ _ _ _ _ _ us hl => match us, hl with | [_, _, _], _ => rfl
  have F20 := fun_mk (st := sLawDraw) l20 c20 k20
  have b20 := F20.binds (ps := ["box", "many"]) fun _ _ _ _ _ _ us hl => match us, hl with | [_, _], _ => rfl
  have F21 := fun_mk (st := sLawGcd) l21 c21 k21
  have b21 := F21.binds (ps := ["a", "b"]) fun _ _ _ _ _ _ us hl => match us, hl with | [_, _], _ => rfl
  have F22 := fun_mk (st := sLawLowest) l22 c22 k22
  have b22 := F22.binds (ps := ["n", "d"]) fun _ _ _ _ _ _ us hl => match us, hl with | [_, _], _ => rfl
  have F23 := fun_mk (st := sLawDigitText) l23 c23 k23
  have b23 := F23.binds (ps := ["box", "many"]) fun _ _ _ _ _ _ us hl => match us, hl with | [_, _], _ => rfl
  have F24 := fun_mk (st := sLawAddress) l24 c24 k24
  have b24 := F24.binds (ps := ["row", "column"]) fun _ _ _ _ _ _ us hl => match us, hl with | [_, _], _ => rfl
  have F25 := fun_mk (st := sLawWord) l25 c25 k25
  have b25 := F25.binds (ps := ["box"]) fun _ _ _ _ _ _ us hl => match us, hl with | [_], _ => rfl
  have F26 := fun_mk (st := sLawLeaf) l26 c26 k26
  have b26 := F26.binds (ps := ["box", "rows", "columns"]) fun _ _ _ _ _ _ us hl => match us, hl with | [_, _, _], _ => rfl
  have F27 := fun_mk (st := sLawArea) l27 c27 k27
  have b27 := F27.binds (ps := ["box", "rows", "columns"]) fun _ _ _ _ _ _ us hl => match us, hl with | [_, _, _], _ => rfl
  have F28 := fun_mk (st := sLawInside) l28 c28 k28
  have b28 := F28.binds (ps := ["box", "node", "least"]) fun _ _ _ _ _ _ us hl => match us, hl with | [_, _, _], _ => rfl
  have F29 := fun_mk (st := sLawCall) l29 c29 k29
  have b29 := F29.binds (ps := ["box", "rows", "columns"]) fun _ _ _ _ _ _ us hl => match us, hl with | [_, _, _], _ => rfl
  have F30 := fun_mk (st := sLawNode) l30 c30 k30
  have b30 := F30.binds (ps := ["box", "rows", "columns", "depth"]) fun _ _ _ _ _ _ us hl => match us, hl with | [_, _, _, _], _ => rfl
  have F31 := fun_mk (st := sLawSame) l31 c31 k31
  have b31 := F31.binds (ps := ["actual", "due"]) fun _ _ _ _ _ _ us hl => match us, hl with | [_, _], _ => rfl
  have F32 := fun_mk (st := sLawNames) l32 c32 k32
  have b32 := F32.binds (ps := ["box", "rows", "columns"]) fun _ _ _ _ _ _ us hl => match us, hl with | [_, _, _], _ => rfl
  have F33 := fun_mk (st := sLawSetNames) l33 c33 k33
  have b33 := F33.binds (ps := ["grid", "names"]) fun _ _ _ _ _ _ us hl => match us, hl with | [_, _], _ => rfl
  have F34 := fun_mk (st := sLawContent) l34 c34 k34
  have b34 := F34.binds (ps := ["box", "rows", "columns", "depth"]) fun _ _ _ _ _ _ us hl => match us, hl with | [_, _, _, _], _ => rfl
  have F35 := fun_mk (st := sLawNear) l35 c35 k35
  have b35 := F35.binds (ps := ["tree"]) fun _ _ _ _ _ _ us hl => match us, hl with | [_], _ => rfl
  have F36 := fun_mk (st := sLawWorld) l36 c36 k36
  have b36 := F36.binds (ps := ["box"]) fun _ _ _ _ _ _ us hl => match us, hl with | [_], _ => rfl
  have F37 := fun_mk (st := sLawGrid) l37 c37 k37
  have b37 := F37.binds (ps := ["world"]) fun _ _ _ _ _ _ us hl => match us, hl with | [_], _ => rfl
  have F38 := fun_mk (st := sLawBlocks) l38 c38 k38
  have b38 := F38.binds (ps := ["names", "area"]) fun _ _ _ _ _ _ us hl => match us, hl with | [_, _], _ => rfl
  have F39 := fun_mk (st := sLawReadsOfTree) l39 c39 k39
  have b39 := F39.binds (ps := ["names", "tree"]) fun _ _ _ _ _ _ us hl => match us, hl with | [_, _], _ => rfl
  have F40 := fun_mk (st := sLawReads) l40 c40 k40
  have b40 := F40.binds (ps := ["world", "cell"]) fun _ _ _ _ _ _ us hl => match us, hl with | [_, _], _ => rfl
  have F41 := fun_mk (st := sLawAllReads) l41 c41 k41
  have b41 := F41.binds (ps := ["world"]) fun _ _ _ _ _ _ us hl => match us, hl with | [_], _ => rfl
  have F42 := fun_mk (st := sLawNearest) l42 c42 k42
  have b42 := F42.binds (ps := ["reads", "target"]) fun _ _ _ _ _ _ us hl => match us, hl with | [_, _], _ => rfl
  have F43 := fun_mk (st := sLawRing) l43 c43 k43
  have b43 := F43.binds (ps := ["reads", "cell"]) fun _ _ _ _ _ _ us hl => match us, hl with | [_, _], _ => rfl
  have F44 := fun_mk (st := sLaw) l44 c44 k44
  have b44 := F44.binds (ps := ["script"]) fun _ _ _ _ _ _ us hl => match us, hl with | [_], _ => rfl
  have FGrid_Init := fun_mk (st := sGrid_Init) mlGrid_Init mdGrid_Init mkGrid_Init
  have bGrid_Init := FGrid_Init.binds (ps := ["self", "rows", "columns"]) fun _ _ _ _ _ _ us hl => match us, hl with | [_, _, _], _ => rfl
  have FGrid_Put := fun_mk (st := sGrid_Put) mlGrid_Put mdGrid_Put mkGrid_Put
  have bGrid_Put := FGrid_Put.binds (ps := ["self", "cell", "shown"]) fun _ _ _ _ _ _ us hl => match us, hl with | [_, _, _], _ => rfl
  have FGrid_Shown := fun_mk (st := sGrid_Shown) mlGrid_Shown mdGrid_Shown mkGrid_Shown
  have bGrid_Shown := FGrid_Shown.binds (ps := ["self", "cell"]) fun _ _ _ _ _ _ us hl => match us, hl with | [_, _], _ => rfl
  have FGrid_Name := fun_mk (st := sGrid_Name) mlGrid_Name mdGrid_Name mkGrid_Name
  have bGrid_Name := FGrid_Name.binds (ps := ["self", "word", "areas"]) fun _ _ _ _ _ _ us hl => match us, hl with | [_, _, _], _ => rfl
  have FGrid_Areas := fun_mk (st := sGrid_Areas) mlGrid_Areas mdGrid_Areas mkGrid_Areas
  have bGrid_Areas := FGrid_Areas.binds (ps := ["self", "word"]) fun _ _ _ _ _ _ us hl => match us, hl with | [_, _], _ => rfl
  have FGrid_Cells := fun_mk (st := sGrid_Cells) mlGrid_Cells mdGrid_Cells mkGrid_Cells
  have bGrid_Cells := FGrid_Cells.binds (ps := ["self"]) fun _ _ _ _ _ _ us hl => match us, hl with | [_], _ => rfl
  have FUnknownName_Init := fun_mk (st := sUnknownName_Init) ylUnknownName ydUnknownName ykUnknownName
  have bUnknownName_Init := FUnknownName_Init.binds (ps := ["self", "word"]) fun _ _ _ _ _ _ us hl => match us, hl with | [_, _], _ => rfl
  exact ⟨PySem.W.fnOf "law" "law" (defArgs sLaw) (defBody sLaw) (defScope sLaw) .none kV44 dc44 pm44 an44 cd44 ct44, fun s v => .of_eq rfl, fun base _ _ => okLaw (P := l.prog) (w := w) (base := base) (⟨f1, _, F1, b1, PySem.W.mg_of X G a1, f2, _, F2, b2, PySem.W.mg_of X G a2, f3, _, F3, b3, PySem.W.mg_of X G a3, f4, _, F4, b4, PySem.W.mg_of X G a4, f5, _, F5, b5, PySem.W.mg_of X G a5, f6, _, F6, b6, PySem.W.mg_of X G a6, f7, _, F7, b7, PySem.W.mg_of X G a7, f8, _, F8, b8, PySem.W.mg_of X G a8, f9, _, F9, b9, PySem.W.mg_of X G a9, f10, _, F10, b10, PySem.W.mg_of X G a10, f11, _, F11, b11, PySem.W.mg_of X G a11, f12, _, F12, b12, PySem.W.mg_of X G a12, f13, _, F13, b13, PySem.W.mg_of X G a13, f14, _, F14, b14, PySem.W.mg_of X G a14, f15, _, F15, b15, PySem.W.mg_of X G a15, f16, _, F16, b16, PySem.W.mg_of X G a16, f17, _, F17, b17, PySem.W.mg_of X G a17, f18, _, F18, b18, PySem.W.mg_of X G a18, f19, _, F19, b19, PySem.W.mg_of X G a19, f20, _, F20, b20, PySem.W.mg_of X G a20, f21, _, F21, b21, PySem.W.mg_of X G a21, f22, _, F22, b22, PySem.W.mg_of X G a22, f23, _, F23, b23, PySem.W.mg_of X G a23, f24, _, F24, b24, PySem.W.mg_of X G a24, f25, _, F25, b25, PySem.W.mg_of X G a25, f26, _, F26, b26, PySem.W.mg_of X G a26, f27, _, F27, b27, PySem.W.mg_of X G a27, f28, _, F28, b28, PySem.W.mg_of X G a28, f29, _, F29, b29, PySem.W.mg_of X G a29, f30, _, F30, b30, PySem.W.mg_of X G a30, f31, _, F31, b31, PySem.W.mg_of X G a31, f32, _, F32, b32, PySem.W.mg_of X G a32, f33, _, F33, b33, PySem.W.mg_of X G a33, f34, _, F34, b34, PySem.W.mg_of X G a34, f35, _, F35, b35, PySem.W.mg_of X G a35, f36, _, F36, b36, PySem.W.mg_of X G a36, f37, _, F37, b37, PySem.W.mg_of X G a37, f38, _, F38, b38, PySem.W.mg_of X G a38, f39, _, F39, b39, PySem.W.mg_of X G a39, f40, _, F40, b40, PySem.W.mg_of X G a40, f41, _, F41, b41, PySem.W.mg_of X G a41, f42, _, F42, b42, PySem.W.mg_of X G a42, f43, _, F43, b43, PySem.W.mg_of X G a43, fa, _, F44, b44, PySem.W.mg_of X G a44, PySem.W.mg_none_of X G z_sorted, PySem.W.mg_none_of X G z_min, PySem.W.mg_none_of X G z_range, PySem.W.mg_none_of X G z_abs, PySem.W.mg_none_of X G z_isinstance, PySem.W.mg_none_of X G z_bool, PySem.W.mg_none_of X G z_str, PySem.W.mg_none_of X G z_list, PySem.W.mg_none_of X G z_set, PySem.W.mg_none_of X G z_len, PySem.W.mg_none_of X G z_max, PySem.W.mg_none_of X G z_tuple, PySem.W.mg_none_of X G z_int, t_NO_NAME, PySem.W.mg_of X G x_NO_NAME, cGrid, PySem.W.mg_of X G kaGrid, ⟨kbGrid, kcGrid, kdGrid, keGrid⟩, fGrid_Init, _, FGrid_Init, bGrid_Init, ⟨miGrid_Init, mfGrid_Init, mkGrid_Init⟩, fGrid_Put, _, FGrid_Put, bGrid_Put, ⟨miGrid_Put, mfGrid_Put, mkGrid_Put⟩, fGrid_Shown, _, FGrid_Shown, bGrid_Shown, ⟨miGrid_Shown, mfGrid_Shown, mkGrid_Shown⟩, fGrid_Name, _, FGrid_Name, bGrid_Name, ⟨miGrid_Name, mfGrid_Name, mkGrid_Name⟩, fGrid_Areas, _, FGrid_Areas, bGrid_Areas, ⟨miGrid_Areas, mfGrid_Areas, mkGrid_Areas⟩, fGrid_Cells, _, FGrid_Cells, bGrid_Cells, ⟨miGrid_Cells, mfGrid_Cells, mkGrid_Cells⟩, ⟨kfGrid, miGrid_Init, mfGrid_Init, kgGrid⟩, knGrid_rows, knGrid_columns, knGrid__contents, knGrid__names, cTableError, PySem.W.mg_of X G yaTableError, cUnknownName, PySem.W.mg_of X G yaUnknownName, ⟨⟨_, _, _, _, _, _, _, _, _, _, _, _, _, _, _, ycUnknownName, by first | rfl | decide +kernel⟩, y1UnknownName, yeUnknownName, ytUnknownName, y9UnknownName⟩, ⟨y2UnknownName, y3UnknownName, yeUnknownName, yhUnknownName⟩, ⟨y8UnknownName, ⟨y2UnknownName, y3UnknownName, yeUnknownName, yhUnknownName⟩, y4UnknownName, y5UnknownName, y6UnknownName, y7UnknownName⟩, fUnknownName_Init, _, FUnknownName_Init, bUnknownName_Init, yiUnknownName, yjUnknownName, ynUnknownName_word, PySem.W.exm_ref yeTableError yhTableError ytTableError ysUnknownName_TableError, PySem.W.exm_ref yeUnknownName yhUnknownName ytUnknownName ysUnknownName_UnknownName, kit_self⟩ : Txt K mg)⟩
theorem walk {l : PySem.W.OpenLaw} {q : Program} {loose : List Str} {XP : (Str → Option Value) → Heap → Prop} {YP : World → Heap → Prop} {d : DefRec} {K : Params → PySem.W.Frag} (hn : l.most = some 63) (hdf : d.params.defaults = [])
    (hY : ∀ (w : World) (h : Heap), YP w h → (K w.params).In h)
    (F : ∀ (w : World) (mg : Str → Option Value) (fa : Addr) (h : Heap), (K w.params).In h → h.Ns mainGlobals mg → mg d.name = some (.ref fa) →
      ∃ fd : FuncData, (∀ (s : Shared) (u : Value), BindsTo s fd ⟨[u], []⟩ [("script", u)]) ∧ ∀ base : Heap, (K w.params).In base → base.Ns mainGlobals mg → FnOk l.prog w (K w.params) mg base CX0 14 fa fd ["script"] (spLaw (K w.params))) :
    PySem.W.WalkO q loose XP YP l.row.toRowW d [] (fun f vs => PySem.call f vs) :=
  L2.walk_of (n := 63) (k := 14) (x := "script") (CX := fun _ => CX0) (sp := fun w => spLaw (K w.params)) hn (by decide) hdf ⟨rfl, by decide, by decide⟩ hY F (fun _ _ a ns hl _ hS => ⟨a, ns, rfl, hS, hl, fun _ => rfl⟩) fun _ _ _ _ _ z => z
end My
open PySem PySem.W PyProof.Rows
set_option maxRecDepth 100000 in
set_option maxHeartbeats 0 in
theorem PySem.Challenge.cw_tablemates_k19_rings_holds : PySem.Challenge.rw_tablemates_k19_rings.Holds := by
  w_on; o_law; k_head; (case hw => w_witness2)
  k_fill
  refine My.walk (l := PySem.Challenge.rw_tablemates_k19_rings) rfl rfl (fun w h Y => PySem.W.kIn_of Y) ?F
  case F =>
    intro w mg fa h KX G hmg
    refine' My.all_mk KX G hmg ?a1 ?l1 ?c1 ?k1 ?a2 ?l2 ?c2 ?k2 ?a3 ?l3 ?c3 ?k3 ?a4 ?l4 ?c4 ?k4 ?a5 ?l5 ?c5 ?k5 ?a6 ?l6 ?c6 ?k6 ?a7 ?l7 ?c7 ?k7 ?a8 ?l8 ?c8 ?k8 ?a9 ?l9 ?c9 ?k9 ?a10 ?l10 ?c10 ?k10 ?a11 ?l11 ?c11 ?k11 ?a12 ?l12 ?c12 ?k12 ?a13 ?l13 ?c13 ?k13 ?a14 ?l14 ?c14 ?k14 ?a15 ?l15 ?c15 ?k15 ?a16 ?l16 ?c16 ?k16 ?a17 ?l17 ?c17 ?k17 ?a18 ?l18 ?c18 ?k18 ?a19 ?l19 ?c19 ?k19 ?a20 ?l20 ?c20 ?k20 ?a21 ?l21 ?c21 ?k21 ?a22 ?l22 ?c22 ?k22 ?a23 ?l23 ?c23 ?k23 ?a24 ?l24 ?c24 ?k24 ?a25 ?l25 ?c25 ?k25 ?a26 ?l26 ?c26 ?k26 ?a27 ?l27 ?c27 ?k27 ?a28 ?l28 ?c28 ?k28 ?a29 ?l29 ?c29 ?k29 ?a30 ?l30 ?c30 ?k30 ?a31 ?l31 ?c31 ?k31 ?a32 ?l32 ?c32 ?k32 ?a33 ?l33 ?c33 ?k33 ?a34 ?l34 ?c34 ?k34 ?a35 ?l35 ?c35 ?k35 ?a36 ?l36 ?c36 ?k36 ?a37 ?l37 ?c37 ?k37 ?a38 ?l38 ?c38 ?k38 ?a39 ?l39 ?c39 ?k39 ?a40 ?l40 ?c40 ?k40 ?a41 ?l41 ?c41 ?k41 ?a42 ?l42 ?c42 ?k42 ?a43 ?l43 ?c43 ?k43 ?a44 ?l44 ?c44 ?k44 ?z_sorted ?z_min ?z_range ?z_abs ?z_isinstance ?z_bool ?z_str ?z_list ?z_set ?z_len ?z_max ?z_tuple ?z_int ?x_NO_NAME ?kaGrid ?kbGrid ?kcGrid ?kdGrid ?keGrid ?kfGrid ?kgGrid ?miGrid_Init ?mfGrid_Init ?mkGrid_Init ?mlGrid_Init ?mdGrid_Init ?miGrid_Put ?mfGrid_Put ?mkGrid_Put ?mlGrid_Put ?mdGrid_Put ?miGrid_Shown ?mfGrid_Shown ?mkGrid_Shown ?mlGrid_Shown ?mdGrid_Shown ?miGrid_Name ?mfGrid_Name ?mkGrid_Name ?mlGrid_Name ?mdGrid_Name ?miGrid_Areas ?mfGrid_Areas ?mkGrid_Areas ?mlGrid_Areas ?mdGrid_Areas ?miGrid_Cells ?mfGrid_Cells ?mkGrid_Cells ?mlGrid_Cells ?mdGrid_Cells ?knGrid_rows ?knGrid_columns ?knGrid__contents ?knGrid__names ?yaTableError ?ytTableError ?yhTableError ?yeTableError ?yaUnknownName ?ytUnknownName ?yhUnknownName ?yeUnknownName ?ycUnknownName ?y1UnknownName ?y2UnknownName ?y3UnknownName ?y4UnknownName ?y5UnknownName ?y6UnknownName ?y7UnknownName ?y8UnknownName ?y9UnknownName ?yiUnknownName ?yjUnknownName ?ylUnknownName ?ydUnknownName ?ykUnknownName ?ynUnknownName_word ?ysUnknownName_TableError ?ysUnknownName_UnknownName
    (case a1 => k_is); (case l1 => k_is); (case c1 => k_is); (case k1 => k_is); (case a2 => k_is); (case l2 => k_is); (case c2 => k_is); (case k2 => k_is); (case a3 => k_is); (case l3 => k_is); (case c3 => k_is); (case k3 => k_is); (case a4 => k_is); (case l4 => k_is); (case c4 => k_is); (case k4 => k_is); (case a5 => k_is); (case l5 => k_is); (case c5 => k_is); (case k5 => k_is); (case a6 => k_is); (case l6 => k_is); (case c6 => k_is); (case k6 => k_is); (case a7 => k_is); (case l7 => k_is); (case c7 => k_is); (case k7 => k_is); (case a8 => k_is); (case l8 => k_is); (case c8 => k_is); (case k8 => k_is); (case a9 => k_is); (case l9 => k_is); (case c9 => k_is); (case k9 => k_is); (case a10 => k_is); (case l10 => k_is); (case c10 => k_is); (case k10 => k_is); (case a11 => k_is); (case l11 => k_is); (case c11 => k_is); (case k11 => k_is); (case a12 => k_is); (case l12 => k_is); (case c12 => k_is); (case k12 => k_is); (case a13 => k_is); (case l13 => k_is); (case c13 => k_is); (case k13 => k_is); (case a14 => k_is); (case l14 => k_is); (case c14 => k_is); (case k14 => k_is); (case a15 => k_is); (case l15 => k_is); (case c15 => k_is); (case k15 => k_is); (case a16 => k_is); (case l16 => k_is); (case c16 => k_is); (case k16 => k_is); (case a17 => k_is); (case l17 => k_is); (case c17 => k_is); (case k17 => k_is); (case a18 => k_is); (case l18 => k_is); (case c18 => k_is); (case k18 => k_is); (case a19 => k_is); (case l19 => k_is); (case c19 => k_is); (case k19 => k_is); (case a20 => k_is); (case l20 => k_is); (case c20 => k_is); (case k20 => k_is); (case a21 => k_is); (case l21 => k_is); (case c21 => k_is); (case k21 => k_is); (case a22 => k_is); (case l22 => k_is); (case c22 => k_is); (case k22 => k_is); (case a23 => k_is); (case l23 => k_is); (case c23 => k_is); (case k23 => k_is); (case a24 => k_is); (case l24 => k_is); (case c24 => k_is); (case k24 => k_is); (case a25 => k_is); (case l25 => k_is); (case c25 => k_is); (case k25 => k_is); (case a26 => k_is); (case l26 => k_is); (case c26 => k_is); (case k26 => k_is); (case a27 => k_is); (case l27 => k_is); (case c27 => k_is); (case k27 => k_is); (case a28 => k_is); (case l28 => k_is); (case c28 => k_is); (case k28 => k_is); (case a29 => k_is); (case l29 => k_is); (case c29 => k_is); (case k29 => k_is); (case a30 => k_is); (case l30 => k_is); (case c30 => k_is); (case k30 => k_is); (case a31 => k_is); (case l31 => k_is); (case c31 => k_is); (case k31 => k_is); (case a32 => k_is); (case l32 => k_is); (case c32 => k_is); (case k32 => k_is); (case a33 => k_is); (case l33 => k_is); (case c33 => k_is); (case k33 => k_is); (case a34 => k_is); (case l34 => k_is); (case c34 => k_is); (case k34 => k_is); (case a35 => k_is); (case l35 => k_is); (case c35 => k_is); (case k35 => k_is); (case a36 => k_is); (case l36 => k_is); (case c36 => k_is); (case k36 => k_is); (case a37 => k_is); (case l37 => k_is); (case c37 => k_is); (case k37 => k_is); (case a38 => k_is); (case l38 => k_is); (case c38 => k_is); (case k38 => k_is); (case a39 => k_is); (case l39 => k_is); (case c39 => k_is); (case k39 => k_is); (case a40 => k_is); (case l40 => k_is); (case c40 => k_is); (case k40 => k_is); (case a41 => k_is); (case l41 => k_is); (case c41 => k_is); (case k41 => k_is); (case a42 => k_is); (case l42 => k_is); (case c42 => k_is); (case k42 => k_is); (case a43 => k_is); (case l43 => k_is); (case c43 => k_is); (case k43 => k_is); (case a44 => k_is); (case l44 => k_is); (case c44 => k_is); (case k44 => k_is); (case z_sorted => k_is); (case z_min => k_is); (case z_range => k_is); (case z_abs => k_is); (case z_isinstance => k_is); (case z_bool => k_is); (case z_str => k_is); (case z_list => k_is); (case z_set => k_is); (case z_len => k_is); (case z_max => k_is); (case z_tuple => k_is); (case z_int => k_is); (case x_NO_NAME => k_is); (case kaGrid => k_is); (case kbGrid => k_is); (case kcGrid => k_is); (case kdGrid => k_is); (case keGrid => k_is); (case kfGrid => k_is); (case kgGrid => k_is); (case miGrid_Init => k_is); (case mfGrid_Init => k_is); (case mkGrid_Init => k_is); (case mlGrid_Init => k_is); (case mdGrid_Init => k_is); (case miGrid_Put => k_is); (case mfGrid_Put => k_is); (case mkGrid_Put => k_is); (case mlGrid_Put => k_is); (case mdGrid_Put => k_is); (case miGrid_Shown => k_is); (case mfGrid_Shown => k_is); (case mkGrid_Shown => k_is); (case mlGrid_Shown => k_is); (case mdGrid_Shown => k_is); (case miGrid_Name => k_is); (case mfGrid_Name => k_is); (case mkGrid_Name => k_is); (case mlGrid_Name => k_is); (case mdGrid_Name => k_is); (case miGrid_Areas => k_is); (case mfGrid_Areas => k_is); (case mkGrid_Areas => k_is); (case mlGrid_Areas => k_is); (case mdGrid_Areas => k_is); (case miGrid_Cells => k_is); (case mfGrid_Cells => k_is); (case mkGrid_Cells => k_is); (case mlGrid_Cells => k_is); (case mdGrid_Cells => k_is); (case knGrid_rows => k_is); (case knGrid_columns => k_is); (case knGrid__contents => k_is); (case knGrid__names => k_is); (case yaTableError => k_is); (case ytTableError => k_is); (case yhTableError => k_is); (case yeTableError => k_is); (case yaUnknownName => k_is); (case ytUnknownName => k_is); (case yhUnknownName => k_is); (case yeUnknownName => k_is); (case ycUnknownName => k_is); (case y1UnknownName => k_is); (case y2UnknownName => k_is); (case y3UnknownName => k_is); (case y4UnknownName => k_is); (case y5UnknownName => k_is); (case y6UnknownName => k_is); (case y7UnknownName => k_is); (case y8UnknownName => k_is); (case y9UnknownName => k_is); (case yiUnknownName => k_is); (case yjUnknownName => k_is); (case ylUnknownName => k_is); (case ydUnknownName => k_is); (case ykUnknownName => k_is); (case ynUnknownName_word => k_is); (case ysUnknownName_TableError => first | rfl | k_is | kit_is); (case ysUnknownName_UnknownName => first | rfl | k_is | kit_is)

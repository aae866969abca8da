import PyProof.Rows.All
import Wide.All
import OpenK.AllK
import Wide.FinOn
import HandS.ForMost
import HandS.Zip
import HandS.Walk
import HandS.Gcd
import HandS.Wide
import HandS.Deep
import HandS.Conv
import HandS.Style
import HandS.SortInts
import HandS.Codes
import KE.KEqDeep
import HandS.SortKw
import KE.SortKeyHeap
import KE.SortData
import KE.LtData
import HandS.TupSets
import KE.KTupSum
import HandS.StrMore
import HandS.WordsExc
import HandS.Strs
import HandS.DictTup
import HandS.Words
import KE.DataCmp
import HandS.Dict
import HandS.DictEq
import HandS.IsInst
import HandS.ExcInit
import HandS.ExcField
import HandS.ExcIs
import HandS.ExcOwn
import HandS.ExcCtx
import HandS.HotCalls
import HandS.ExcInitHot
import KE.KExcIs
import KE.IntTextText
import KE.KDictCopyH
import HandS.CallLocal
import PySem.Challenge.RW_tablemates_k21_value_of_a_cell
set_option Elab.async false
set_option linter.all false
set_option maxRecDepth 100000
namespace My
open PySem PySem.Spec PyProof.Rows L2 RZ
def topS (i : Nat) : Stmt := PySem.Challenge.pw_tablemates_k21_value_of_a_cell.main.body.getD i (.Pass ⟨0, 0, 0, 0⟩)
abbrev sWall : Stmt := topS 1
abbrev sFraction : Stmt := topS 4
abbrev sInRange : Stmt := topS 5
abbrev sResult : Stmt := topS 6
abbrev sAdd : Stmt := topS 7
abbrev sSubtract : Stmt := topS 8
abbrev sMultiply : Stmt := topS 9
abbrev sDivide : Stmt := topS 10
abbrev sLess : Stmt := topS 11
abbrev sToldOf : Stmt := topS 17
abbrev sCellsOf : Stmt := topS 18
abbrev sFormulaOf : Stmt := topS 19
abbrev sIsFault : Stmt := topS 30
abbrev sNumberValue : Stmt := topS 31
abbrev sCellNumber : Stmt := topS 32
abbrev sNegated : Stmt := topS 33
abbrev sCalculated : Stmt := topS 34
abbrev sNamedAreas : Stmt := topS 35
abbrev sVisited : Stmt := topS 36
abbrev sTotal : Stmt := topS 37
abbrev sOutermost : Stmt := topS 38
abbrev sCalled : Stmt := topS 39
abbrev sOperand : Stmt := topS 40
abbrev sEvaluate : Stmt := topS 41
abbrev sValueFrom : Stmt := topS 42
abbrev sLawCell : Stmt := topS 46
abbrev sLawDigits : Stmt := topS 47
abbrev sLawDraw : Stmt := topS 48
abbrev sLawGcd : Stmt := topS 49
abbrev sLawLowest : Stmt := topS 50
abbrev sLawDigitText : Stmt := topS 51
abbrev sLawAddress : Stmt := topS 52
abbrev sLawWord : Stmt := topS 53
abbrev sLawLeaf : Stmt := topS 54
abbrev sLawArea : Stmt := topS 55
abbrev sLawInside : Stmt := topS 56
abbrev sLawCall : Stmt := topS 57
abbrev sLawNode : Stmt := topS 58
abbrev sLawBig : Stmt := topS 59
abbrev sLawSame : Stmt := topS 60
abbrev sLawFraction : Stmt := topS 61
abbrev sLawInRange : Stmt := topS 62
abbrev sLawOperate : Stmt := topS 63
abbrev sLawVisit : Stmt := topS 64
abbrev sLawOwnCall : Stmt := topS 65
abbrev sLawNumberOf : Stmt := topS 66
abbrev sLawOwnValue : Stmt := topS 67
abbrev sLawNames : Stmt := topS 68
abbrev sLawSetNames : Stmt := topS 69
abbrev sLawContent : Stmt := topS 70
abbrev sLawNear : Stmt := topS 71
abbrev sLawWorld : Stmt := topS 72
abbrev sLawGrid : Stmt := topS 73
abbrev sLawValue : Stmt := topS 77
abbrev sLawKnown : Stmt := topS 78
abbrev sLaw : Stmt := topS 79
abbrev sUnknownName_Init : Stmt := inClass (topS 14) 0
theorem scUnknownName_Init : FnScope ["self", "word"] ["self", "word"] (defScope sUnknownName_Init) := ⟨rfl, rfl, rfl, by decide +kernel, rfl, by decide +kernel, by decide +kernel⟩
abbrev sGrid_Init : Stmt := inClass (topS 44) 0
theorem scGrid_Init : FnScope ["self", "rows", "columns"] ["self", "rows", "columns"] (defScope sGrid_Init) := ⟨rfl, rfl, rfl, by decide +kernel, rfl, by decide +kernel, by decide +kernel⟩
abbrev sGrid_Put : Stmt := inClass (topS 44) 1
theorem scGrid_Put : FnScope ["self", "cell", "shown"] ["self", "cell", "shown"] (defScope sGrid_Put) := ⟨rfl, rfl, rfl, by decide +kernel, rfl, by decide +kernel, by decide +kernel⟩
abbrev sGrid_Shown : Stmt := inClass (topS 44) 2
theorem scGrid_Shown : FnScope ["self", "cell"] ["self", "cell"] (defScope sGrid_Shown) := ⟨rfl, rfl, rfl, by decide +kernel, rfl, by decide +kernel, by decide +kernel⟩
abbrev sGrid_Name : Stmt := inClass (topS 44) 3
theorem scGrid_Name : FnScope ["self", "word", "areas"] ["self", "word", "areas"] (defScope sGrid_Name) := ⟨rfl, rfl, rfl, by decide +kernel, rfl, by decide +kernel, by decide +kernel⟩
abbrev sGrid_Areas : Stmt := inClass (topS 44) 5
theorem scGrid_Areas : FnScope ["self", "word", "areas"] ["self", "word"] (defScope sGrid_Areas) := ⟨rfl, rfl, rfl, by decide +kernel, rfl, by decide +kernel, by decide +kernel⟩
abbrev sGrid_Cells : Stmt := inClass (topS 44) 6
theorem scGrid_Cells : FnScope ["self"] ["self"] (defScope sGrid_Cells) := ⟨rfl, rfl, rfl, by decide +kernel, rfl, by decide +kernel, by decide +kernel⟩
abbrev sGrid_Copy : Stmt := inClass (topS 44) 8
theorem scGrid_Copy : FnScope ["self", "other", "cell", "word"] ["self"] (defScope sGrid_Copy) := ⟨rfl, rfl, rfl, by decide +kernel, rfl, by decide +kernel, by decide +kernel⟩
/-! ### error classes with fields -/
structure ExK (K : PySem.W.Frag) (C : Addr) : Prop where
  cl : PySem.W.isClsIn K C = true
  x : XfC K C
  cc : PySem.W.findIn K (.ref C) "__class__" = some (some (.builtin "object.__class__"))
  cn : PySem.W.specialIn K (.builtin "object.__class__") "__get__" = some (some (.builtin "getset_descriptor.__get__"))
  ct : PySem.W.takesIn K (.builtin "object.__class__") = some true
  cm : PySem.W.mroIn K C (.type "object") = some true
theorem kit_self {K : PySem.W.Frag} {t : Value} : PySem.W.kitOne K t t = some true := if_pos (beq_self_eq_true t)
theorem scWall : FnScope ["k"] ["k"] (defScope sWall) := ⟨rfl, rfl, rfl, by decide +kernel, rfl, by decide +kernel, by decide +kernel⟩
theorem scFraction : FnScope ["n", "d", "common"] ["n", "d"] (defScope sFraction) := ⟨rfl, rfl, rfl, by decide +kernel, rfl, by decide +kernel, by decide +kernel⟩
theorem scInRange : FnScope ["x"] ["x"] (defScope sInRange) := ⟨rfl, rfl, rfl, by decide +kernel, rfl, by decide +kernel, by decide +kernel⟩
theorem scResult : FnScope ["n", "d", "x"] ["n", "d"] (defScope sResult) := ⟨rfl, rfl, rfl, by decide +kernel, rfl, by decide +kernel, by decide +kernel⟩
theorem scAdd : FnScope ["x", "y"] ["x", "y"] (defScope sAdd) := ⟨rfl, rfl, rfl, by decide +kernel, rfl, by decide +kernel, by decide +kernel⟩
theorem scSubtract : FnScope ["x", "y"] ["x", "y"] (defScope sSubtract) := ⟨rfl, rfl, rfl, by decide +kernel, rfl, by decide +kernel, by decide +kernel⟩
theorem scMultiply : FnScope ["x", "y"] ["x", "y"] (defScope sMultiply) := ⟨rfl, rfl, rfl, by decide +kernel, rfl, by decide +kernel, by decide +kernel⟩
theorem scDivide : FnScope ["x", "y"] ["x", "y"] (defScope sDivide) := ⟨rfl, rfl, rfl, by decide +kernel, rfl, by decide +kernel, by decide +kernel⟩
theorem scLess : FnScope ["x", "y"] ["x", "y"] (defScope sLess) := ⟨rfl, rfl, rfl, by decide +kernel, rfl, by decide +kernel, by decide +kernel⟩
theorem scToldOf : FnScope ["grid", "word"] ["grid", "word"] (defScope sToldOf) := ⟨rfl, rfl, rfl, by decide +kernel, rfl, by decide +kernel, by decide +kernel⟩
theorem scCellsOf : FnScope ["block", "top", "left", "bottom", "right", "row", "column"] ["block"] (defScope sCellsOf) := ⟨rfl, rfl, rfl, by decide +kernel, rfl, by decide +kernel, by decide +kernel⟩
theorem scFormulaOf : FnScope ["grid", "cell", "shown"] ["grid", "cell"] (defScope sFormulaOf) := ⟨rfl, rfl, rfl, by decide +kernel, rfl, by decide +kernel, by decide +kernel⟩
theorem scIsFault : FnScope ["value"] ["value"] (defScope sIsFault) := ⟨rfl, rfl, rfl, by decide +kernel, rfl, by decide +kernel, by decide +kernel⟩
theorem scNumberValue : FnScope ["x"] ["x"] (defScope sNumberValue) := ⟨rfl, rfl, rfl, by decide +kernel, rfl, by decide +kernel, by decide +kernel⟩
theorem scCellNumber : FnScope ["value"] ["value"] (defScope sCellNumber) := ⟨rfl, rfl, rfl, by decide +kernel, rfl, by decide +kernel, by decide +kernel⟩
theorem scNegated : FnScope ["value"] ["value"] (defScope sNegated) := ⟨rfl, rfl, rfl, by decide +kernel, rfl, by decide +kernel, by decide +kernel⟩
theorem scCalculated : FnScope ["sign", "left", "right", "x", "y"] ["sign", "left", "right"] (defScope sCalculated) := ⟨rfl, rfl, rfl, by decide +kernel, rfl, by decide +kernel, by decide +kernel⟩
theorem scNamedAreas : FnScope ["grid", "word", "told"] ["grid", "word"] (defScope sNamedAreas) := ⟨rfl, rfl, rfl, by decide +kernel, rfl, by decide +kernel, by decide +kernel⟩
theorem scVisited : FnScope ["grid", "areas", "known", "parts", "area", "values", "part", "cell"] ["grid", "areas", "known"] (defScope sVisited) := ⟨rfl, rfl, rfl, by decide +kernel, rfl, by decide +kernel, by decide +kernel⟩
theorem scTotal : FnScope ["numbers", "total", "x"] ["numbers"] (defScope sTotal) := ⟨rfl, rfl, rfl, by decide +kernel, rfl, by decide +kernel, by decide +kernel⟩
theorem scOutermost : FnScope ["name", "numbers", "best", "x"] ["name", "numbers"] (defScope sOutermost) := ⟨rfl, rfl, rfl, by decide +kernel, rfl, by decide +kernel, by decide +kernel⟩
theorem scCalled : FnScope ["name", "values", "value", "numbers"] ["name", "values"] (defScope sCalled) := ⟨rfl, rfl, rfl, by decide +kernel, rfl, by decide +kernel, by decide +kernel⟩
theorem scOperand : FnScope ["grid", "tree", "known", "kind"] ["grid", "tree", "known"] (defScope sOperand) := ⟨rfl, rfl, rfl, by decide +kernel, rfl, by decide +kernel, by decide +kernel⟩
theorem scEvaluate : FnScope ["grid", "tree", "known", "value"] ["grid", "tree", "known"] (defScope sEvaluate) := ⟨rfl, rfl, rfl, by decide +kernel, rfl, by decide +kernel, by decide +kernel⟩
theorem scValueFrom : FnScope ["grid", "cell", "known", "shown", "tree"] ["grid", "cell", "known"] (defScope sValueFrom) := ⟨rfl, rfl, rfl, by decide +kernel, rfl, by decide +kernel, by decide +kernel⟩
theorem scLawCell : FnScope ["script", "k"] ["script", "k"] (defScope sLawCell) := ⟨rfl, rfl, rfl, by decide +kernel, rfl, by decide +kernel, by decide +kernel⟩
theorem scLawDigits : FnScope ["script", "first", "last", "digits", "k", "cell", "turn", "seed"] ["script", "first", "last"] (defScope sLawDigits) := ⟨rfl, rfl, rfl, by decide +kernel, rfl, by decide +kernel, by decide +kernel⟩
theorem scLawDraw : FnScope ["box", "many", "at"] ["box", "many"] (defScope sLawDraw) := ⟨rfl, rfl, rfl, by decide +kernel, rfl, by decide +kernel, by decide +kernel⟩
theorem scLawGcd : FnScope ["a", "b", "turn", "rest"] ["a", "b"] (defScope sLawGcd) := ⟨rfl, rfl, rfl, by decide +kernel, rfl, by decide +kernel, by decide +kernel⟩
theorem scLawLowest : FnScope ["n", "d", "common"] ["n", "d"] (defScope sLawLowest) := ⟨rfl, rfl, rfl, by decide +kernel, rfl, by decide +kernel, by decide +kernel⟩
theorem scLawDigitText : FnScope ["box", "many", "text", "k"] ["box", "many"] (defScope sLawDigitText) := ⟨rfl, rfl, rfl, by decide +kernel, rfl, by decide +kernel, by decide +kernel⟩
theorem scLawAddress : FnScope ["row", "column", "letters", "text"] ["row", "column"] (defScope sLawAddress) := ⟨rfl, rfl, rfl, by decide +kernel, rfl, by decide +kernel, by decide +kernel⟩
theorem scLawWord : FnScope ["box", "letters", "word", "k"] ["box"] (defScope sLawWord) := ⟨rfl, rfl, rfl, by decide +kernel, rfl, by decide +kernel, by decide +kernel⟩
theorem scLawLeaf : FnScope ["box", "rows", "columns", "kind", "whole", "more", "row", "column"] ["box", "rows", "columns"] (defScope sLawLeaf) := ⟨rfl, rfl, rfl, by decide +kernel, rfl, by decide +kernel, by decide +kernel⟩
theorem scLawArea : FnScope ["box", "rows", "columns", "kind", "word", "row", "column", "other", "side", "block"] ["box", "rows", "columns"] (defScope sLawArea) := ⟨rfl, rfl, rfl, by decide +kernel, rfl, by decide +kernel, by decide +kernel⟩
theorem scLawInside : FnScope ["box", "node", "least"] ["box", "node", "least"] (defScope sLawInside) := ⟨rfl, rfl, rfl, by decide +kernel, rfl, by decide +kernel, by decide +kernel⟩
theorem scLawCall : FnScope ["box", "rows", "columns", "name", "areas", "texts", "k", "area"] ["box", "rows", "columns"] (defScope sLawCall) := ⟨rfl, rfl, rfl, by decide +kernel, rfl, by decide +kernel, by decide +kernel⟩
theorem scLawNode : FnScope ["box", "rows", "columns", "depth", "kind", "left", "right", "sign", "strength", "texts"] ["box", "rows", "columns", "depth"] (defScope sLawNode) := ⟨rfl, rfl, rfl, by decide +kernel, rfl, by decide +kernel, by decide +kernel⟩
theorem scLawBig : FnScope ["box", "size", "number", "k"] ["box", "size"] (defScope sLawBig) := ⟨rfl, rfl, rfl, by decide +kernel, rfl, by decide +kernel, by decide +kernel⟩
theorem scLawSame : FnScope ["actual", "due", "k"] ["actual", "due"] (defScope sLawSame) := ⟨rfl, rfl, rfl, by decide +kernel, rfl, by decide +kernel, by decide +kernel⟩
theorem scLawFraction : FnScope ["box", "kind", "n", "d"] ["box"] (defScope sLawFraction) := ⟨rfl, rfl, rfl, by decide +kernel, rfl, by decide +kernel, by decide +kernel⟩
theorem scLawInRange : FnScope ["x"] ["x"] (defScope sLawInRange) := ⟨rfl, rfl, rfl, by decide +kernel, rfl, by decide +kernel, by decide +kernel⟩
theorem scLawOperate : FnScope ["sign", "left", "right", "x", "y", "n", "d", "result"] ["sign", "left", "right"] (defScope sLawOperate) := ⟨rfl, rfl, rfl, by decide +kernel, rfl, by decide +kernel, by decide +kernel⟩
theorem scLawVisit : FnScope ["names", "areas", "known", "numbers", "area", "found", "row", "column", "value"] ["names", "areas", "known", "numbers"] (defScope sLawVisit) := ⟨rfl, rfl, rfl, by decide +kernel, rfl, by decide +kernel, by decide +kernel⟩
theorem scLawOwnCall : FnScope ["names", "tree", "known", "numbers", "found", "total", "x", "best", "below", "above"] ["names", "tree", "known"] (defScope sLawOwnCall) := ⟨rfl, rfl, rfl, by decide +kernel, rfl, by decide +kernel, by decide +kernel⟩
theorem scLawNumberOf : FnScope ["names", "tree", "known", "value", "left"] ["names", "tree", "known"] (defScope sLawNumberOf) := ⟨rfl, rfl, rfl, by decide +kernel, rfl, by decide +kernel, by decide +kernel⟩
theorem scLawOwnValue : FnScope ["names", "tree", "known", "value"] ["names", "tree", "known"] (defScope sLawOwnValue) := ⟨rfl, rfl, rfl, by decide +kernel, rfl, by decide +kernel, by decide +kernel⟩
theorem scLawNames : FnScope ["box", "rows", "columns", "names", "word", "kind", "areas", "k", "area"] ["box", "rows", "columns"] (defScope sLawNames) := ⟨rfl, rfl, rfl, by decide +kernel, rfl, by decide +kernel, by decide +kernel⟩
theorem scLawSetNames : FnScope ["grid", "names", "word", "area"] ["grid", "names"] (defScope sLawSetNames) := ⟨rfl, rfl, rfl, by decide +kernel, rfl, by decide +kernel, by decide +kernel⟩
theorem scLawContent : FnScope ["box", "rows", "columns", "depth", "kind"] ["box", "rows", "columns", "depth"] (defScope sLawContent) := ⟨rfl, rfl, rfl, by decide +kernel, rfl, by decide +kernel, by decide +kernel⟩
theorem scLawNear : FnScope ["tree", "areas", "area"] ["tree"] (defScope sLawNear) := ⟨rfl, rfl, rfl, by decide +kernel, rfl, by decide +kernel, by decide +kernel⟩
theorem scLawWorld : FnScope ["box", "rows", "columns", "names", "cells", "row", "column", "shown"] ["box"] (defScope sLawWorld) := ⟨rfl, rfl, rfl, by decide +kernel, rfl, by decide +kernel, by decide +kernel⟩
theorem scLawGrid : FnScope ["world", "grid", "cell", "content"] ["world"] (defScope sLawGrid) := ⟨rfl, rfl, rfl, by decide +kernel, rfl, by decide +kernel, by decide +kernel⟩
theorem scLawValue : FnScope ["box", "kind", "x"] ["box"] (defScope sLawValue) := ⟨rfl, rfl, rfl, by decide +kernel, rfl, by decide +kernel, by decide +kernel⟩
theorem scLawKnown : FnScope ["box", "rows", "columns", "known", "row", "column", "value"] ["box", "rows", "columns"] (defScope sLawKnown) := ⟨rfl, rfl, rfl, by decide +kernel, rfl, by decide +kernel, by decide +kernel⟩
theorem scLaw : FnScope ["script", "box", "world", "grid", "known", "row", "column", "shown", "due", "copy", "cell"] ["script"] (defScope sLaw) := ⟨rfl, rfl, rfl, by decide +kernel, rfl, by decide +kernel, by decide +kernel⟩
set_option maxHeartbeats 0 in
structure Txt (K : PySem.W.Frag) (mg : Str → Option Value) where
  fWall : Addr
  fdWall : FuncData
  FWall : Fun K "_wall" "_wall" sWall fWall fdWall
  bWall : Binds K fdWall ["k"] []
  gWall : mg "_wall" = some (.ref fWall)
  fFraction : Addr
  fdFraction : FuncData
  FFraction : Fun K "fraction" "fraction" sFraction fFraction fdFraction
  bFraction : Binds K fdFraction ["n", "d"] []
  gFraction : mg "fraction" = some (.ref fFraction)
  fInRange : Addr
  fdInRange : FuncData
  FInRange : Fun K "in_range" "in_range" sInRange fInRange fdInRange
  bInRange : Binds K fdInRange ["x"] []
  gInRange : mg "in_range" = some (.ref fInRange)
  fResult : Addr
  fdResult : FuncData
  FResult : Fun K "_result" "_result" sResult fResult fdResult
  bResult : Binds K fdResult ["n", "d"] []
  gResult : mg "_result" = some (.ref fResult)
  fAdd : Addr
  fdAdd : FuncData
  FAdd : Fun K "add" "add" sAdd fAdd fdAdd
  bAdd : Binds K fdAdd ["x", "y"] []
  gAdd : mg "add" = some (.ref fAdd)
  fSubtract : Addr
  fdSubtract : FuncData
  FSubtract : Fun K "subtract" "subtract" sSubtract fSubtract fdSubtract
  bSubtract : Binds K fdSubtract ["x", "y"] []
  gSubtract : mg "subtract" = some (.ref fSubtract)
  fMultiply : Addr
  fdMultiply : FuncData
  FMultiply : Fun K "multiply" "multiply" sMultiply fMultiply fdMultiply
  bMultiply : Binds K fdMultiply ["x", "y"] []
  gMultiply : mg "multiply" = some (.ref fMultiply)
  fDivide : Addr
  fdDivide : FuncData
  FDivide : Fun K "divide" "divide" sDivide fDivide fdDivide
  bDivide : Binds K fdDivide ["x", "y"] []
  gDivide : mg "divide" = some (.ref fDivide)
  fLess : Addr
  fdLess : FuncData
  FLess : Fun K "less" "less" sLess fLess fdLess
  bLess : Binds K fdLess ["x", "y"] []
  gLess : mg "less" = some (.ref fLess)
  fToldOf : Addr
  fdToldOf : FuncData
  FToldOf : Fun K "told_of" "told_of" sToldOf fToldOf fdToldOf
  bToldOf : Binds K fdToldOf ["grid", "word"] []
  gToldOf : mg "told_of" = some (.ref fToldOf)
  fCellsOf : Addr
  fdCellsOf : FuncData
  FCellsOf : Fun K "cells_of" "cells_of" sCellsOf fCellsOf fdCellsOf
  bCellsOf : Binds K fdCellsOf ["block"] []
  gCellsOf : mg "cells_of" = some (.ref fCellsOf)
  fFormulaOf : Addr
  fdFormulaOf : FuncData
  FFormulaOf : Fun K "formula_of" "formula_of" sFormulaOf fFormulaOf fdFormulaOf
  bFormulaOf : Binds K fdFormulaOf ["grid", "cell"] []
  gFormulaOf : mg "formula_of" = some (.ref fFormulaOf)
  fIsFault : Addr
  fdIsFault : FuncData
  FIsFault : Fun K "_is_fault" "_is_fault" sIsFault fIsFault fdIsFault
  bIsFault : Binds K fdIsFault ["value"] []
  gIsFault : mg "_is_fault" = some (.ref fIsFault)
  fNumberValue : Addr
  fdNumberValue : FuncData
  FNumberValue : Fun K "_number_value" "_number_value" sNumberValue fNumberValue fdNumberValue
  bNumberValue : Binds K fdNumberValue ["x"] []
  gNumberValue : mg "_number_value" = some (.ref fNumberValue)
  fCellNumber : Addr
  fdCellNumber : FuncData
  FCellNumber : Fun K "_cell_number" "_cell_number" sCellNumber fCellNumber fdCellNumber
  bCellNumber : Binds K fdCellNumber ["value"] []
  gCellNumber : mg "_cell_number" = some (.ref fCellNumber)
  fNegated : Addr
  fdNegated : FuncData
  FNegated : Fun K "_negated" "_negated" sNegated fNegated fdNegated
  bNegated : Binds K fdNegated ["value"] []
  gNegated : mg "_negated" = some (.ref fNegated)
  fCalculated : Addr
  fdCalculated : FuncData
  FCalculated : Fun K "_calculated" "_calculated" sCalculated fCalculated fdCalculated
  bCalculated : Binds K fdCalculated ["sign", "left", "right"] []
  gCalculated : mg "_calculated" = some (.ref fCalculated)
  fNamedAreas : Addr
  fdNamedAreas : FuncData
  FNamedAreas : Fun K "_named_areas" "_named_areas" sNamedAreas fNamedAreas fdNamedAreas
  bNamedAreas : Binds K fdNamedAreas ["grid", "word"] []
  gNamedAreas : mg "_named_areas" = some (.ref fNamedAreas)
  fVisited : Addr
  fdVisited : FuncData
  FVisited : Fun K "_visited" "_visited" sVisited fVisited fdVisited
  bVisited : Binds K fdVisited ["grid", "areas", "known"] []
  gVisited : mg "_visited" = some (.ref fVisited)
  fTotal : Addr
  fdTotal : FuncData
  FTotal : Fun K "_total" "_total" sTotal fTotal fdTotal
  bTotal : Binds K fdTotal ["numbers"] []
  gTotal : mg "_total" = some (.ref fTotal)
  fOutermost : Addr
  fdOutermost : FuncData
  FOutermost : Fun K "_outermost" "_outermost" sOutermost fOutermost fdOutermost
  bOutermost : Binds K fdOutermost ["name", "numbers"] []
  gOutermost : mg "_outermost" = some (.ref fOutermost)
  fCalled : Addr
  fdCalled : FuncData
  FCalled : Fun K "_called" "_called" sCalled fCalled fdCalled
  bCalled : Binds K fdCalled ["name", "values"] []
  gCalled : mg "_called" = some (.ref fCalled)
  fOperand : Addr
  fdOperand : FuncData
  FOperand : Fun K "_operand" "_operand" sOperand fOperand fdOperand
  bOperand : Binds K fdOperand ["grid", "tree", "known"] []
  gOperand : mg "_operand" = some (.ref fOperand)
  fEvaluate : Addr
  fdEvaluate : FuncData
  FEvaluate : Fun K "evaluate" "evaluate" sEvaluate fEvaluate fdEvaluate
  bEvaluate : Binds K fdEvaluate ["grid", "tree", "known"] []
  gEvaluate : mg "evaluate" = some (.ref fEvaluate)
  fValueFrom : Addr
  fdValueFrom : FuncData
  FValueFrom : Fun K "value_from" "value_from" sValueFrom fValueFrom fdValueFrom
  bValueFrom : Binds K fdValueFrom ["grid", "cell", "known"] []
  gValueFrom : mg "value_from" = some (.ref fValueFrom)
  fLawCell : Addr
  fdLawCell : FuncData
  FLawCell : Fun K "_law_cell" "_law_cell" sLawCell fLawCell fdLawCell
  bLawCell : Binds K fdLawCell ["script", "k"] []
  gLawCell : mg "_law_cell" = some (.ref fLawCell)
  fLawDigits : Addr
  fdLawDigits : FuncData
  FLawDigits : Fun K "_law_digits" "_law_digits" sLawDigits fLawDigits fdLawDigits
  bLawDigits : Binds K fdLawDigits ["script", "first", "last"] []
  gLawDigits : mg "_law_digits" = some (.ref fLawDigits)
  fLawDraw : Addr
  fdLawDraw : FuncData
  FLawDraw : Fun K "_law_draw" "_law_draw" sLawDraw fLawDraw fdLawDraw
  bLawDraw : Binds K fdLawDraw ["box", "many"] []
  gLawDraw : mg "_law_draw" = some (.ref fLawDraw)
  fLawGcd : Addr
  fdLawGcd : FuncData
  FLawGcd : Fun K "_law_gcd" "_law_gcd" sLawGcd fLawGcd fdLawGcd
  bLawGcd : Binds K fdLawGcd ["a", "b"] []
  gLawGcd : mg "_law_gcd" = some (.ref fLawGcd)
  fLawLowest : Addr
  fdLawLowest : FuncData
  FLawLowest : Fun K "_law_lowest" "_law_lowest" sLawLowest fLawLowest fdLawLowest
  bLawLowest : Binds K fdLawLowest ["n", "d"] []
  gLawLowest : mg "_law_lowest" = some (.ref fLawLowest)
  fLawDigitText : Addr
  fdLawDigitText : FuncData
  FLawDigitText : Fun K "_law_digit_text" "_law_digit_text" sLawDigitText fLawDigitText fdLawDigitText
  bLawDigitText : Binds K fdLawDigitText ["box", "many"] []
  gLawDigitText : mg "_law_digit_text" = some (.ref fLawDigitText)
  fLawAddress : Addr
  fdLawAddress : FuncData
  FLawAddress : Fun K "_law_address" "_law_address" sLawAddress fLawAddress fdLawAddress
  bLawAddress : Binds K fdLawAddress ["row", "column"] []
  gLawAddress : mg "_law_address" = some (.ref fLawAddress)
  fLawWord : Addr
  fdLawWord : FuncData
  FLawWord : Fun K "_law_word" "_law_word" sLawWord fLawWord fdLawWord
  bLawWord : Binds K fdLawWord ["box"] []
  gLawWord : mg "_law_word" = some (.ref fLawWord)
  fLawLeaf : Addr
  fdLawLeaf : FuncData
  FLawLeaf : Fun K "_law_leaf" "_law_leaf" sLawLeaf fLawLeaf fdLawLeaf
  bLawLeaf : Binds K fdLawLeaf ["box", "rows", "columns"] []
  gLawLeaf : mg "_law_leaf" = some (.ref fLawLeaf)
  fLawArea : Addr
  fdLawArea : FuncData
  FLawArea : Fun K "_law_area" "_law_area" sLawArea fLawArea fdLawArea
  bLawArea : Binds K fdLawArea ["box", "rows", "columns"] []
  gLawArea : mg "_law_area" = some (.ref fLawArea)
  fLawInside : Addr
  fdLawInside : FuncData
  FLawInside : Fun K "_law_inside" "_law_inside" sLawInside fLawInside fdLawInside
  bLawInside : Binds K fdLawInside ["box", "node", "least"] []
  gLawInside : mg "_law_inside" = some (.ref fLawInside)
  fLawCall : Addr
  fdLawCall : FuncData
  FLawCall : Fun K "_law_call" "_law_call" sLawCall fLawCall fdLawCall
  bLawCall : Binds K fdLawCall ["box", "rows", "columns"] []
  gLawCall : mg "_law_call" = some (.ref fLawCall)
  fLawNode : Addr
  fdLawNode : FuncData
  FLawNode : Fun K "_law_node" "_law_node" sLawNode fLawNode fdLawNode
  bLawNode : Binds K fdLawNode ["box", "rows", "columns", "depth"] []
  gLawNode : mg "_law_node" = some (.ref fLawNode)
  fLawBig : Addr
  fdLawBig : FuncData
  FLawBig : Fun K "_law_big" "_law_big" sLawBig fLawBig fdLawBig
  bLawBig : Binds K fdLawBig ["box", "size"] []
  gLawBig : mg "_law_big" = some (.ref fLawBig)
  fLawSame : Addr
  fdLawSame : FuncData
  FLawSame : Fun K "_law_same" "_law_same" sLawSame fLawSame fdLawSame
  bLawSame : Binds K fdLawSame ["actual", "due"] []
  gLawSame : mg "_law_same" = some (.ref fLawSame)
  fLawFraction : Addr
  fdLawFraction : FuncData
  FLawFraction : Fun K "_law_fraction" "_law_fraction" sLawFraction fLawFraction fdLawFraction
  bLawFraction : Binds K fdLawFraction ["box"] []
  gLawFraction : mg "_law_fraction" = some (.ref fLawFraction)
  fLawInRange : Addr
  fdLawInRange : FuncData
  FLawInRange : Fun K "_law_in_range" "_law_in_range" sLawInRange fLawInRange fdLawInRange
  bLawInRange : Binds K fdLawInRange ["x"] []
  gLawInRange : mg "_law_in_range" = some (.ref fLawInRange)
  fLawOperate : Addr
  fdLawOperate : FuncData
  FLawOperate : Fun K "_law_operate" "_law_operate" sLawOperate fLawOperate fdLawOperate
  bLawOperate : Binds K fdLawOperate ["sign", "left", "right"] []
  gLawOperate : mg "_law_operate" = some (.ref fLawOperate)
  fLawVisit : Addr
  fdLawVisit : FuncData
  FLawVisit : Fun K "_law_visit" "_law_visit" sLawVisit fLawVisit fdLawVisit
  bLawVisit : Binds K fdLawVisit ["names", "areas", "known", "numbers"] []
  gLawVisit : mg "_law_visit" = some (.ref fLawVisit)
  fLawOwnCall : Addr
  fdLawOwnCall : FuncData
  FLawOwnCall : Fun K "_law_own_call" "_law_own_call" sLawOwnCall fLawOwnCall fdLawOwnCall
  bLawOwnCall : Binds K fdLawOwnCall ["names", "tree", "known"] []
  gLawOwnCall : mg "_law_own_call" = some (.ref fLawOwnCall)
  fLawNumberOf : Addr
  fdLawNumberOf : FuncData
  FLawNumberOf : Fun K "_law_number_of" "_law_number_of" sLawNumberOf fLawNumberOf fdLawNumberOf
  bLawNumberOf : Binds K fdLawNumberOf ["names", "tree", "known"] []
  gLawNumberOf : mg "_law_number_of" = some (.ref fLawNumberOf)
  fLawOwnValue : Addr
  fdLawOwnValue : FuncData
  FLawOwnValue : Fun K "_law_own_value" "_law_own_value" sLawOwnValue fLawOwnValue fdLawOwnValue
  bLawOwnValue : Binds K fdLawOwnValue ["names", "tree", "known"] []
  gLawOwnValue : mg "_law_own_value" = some (.ref fLawOwnValue)
  fLawNames : Addr
  fdLawNames : FuncData
  FLawNames : Fun K "_law_names" "_law_names" sLawNames fLawNames fdLawNames
  bLawNames : Binds K fdLawNames ["box", "rows", "columns"] []
  gLawNames : mg "_law_names" = some (.ref fLawNames)
  fLawSetNames : Addr
  fdLawSetNames : FuncData
  FLawSetNames : Fun K "_law_set_names" "_law_set_names" sLawSetNames fLawSetNames fdLawSetNames
  bLawSetNames : Binds K fdLawSetNames ["grid", "names"] []
  gLawSetNames : mg "_law_set_names" = some (.ref fLawSetNames)
  fLawContent : Addr
  fdLawContent : FuncData
  FLawContent : Fun K "_law_content" "_law_content" sLawContent fLawContent fdLawContent
  bLawContent : Binds K fdLawContent ["box", "rows", "columns", "depth"] []
  gLawContent : mg "_law_content" = some (.ref fLawContent)
  fLawNear : Addr
  fdLawNear : FuncData
  FLawNear : Fun K "_law_near" "_law_near" sLawNear fLawNear fdLawNear
  bLawNear : Binds K fdLawNear ["tree"] []
  gLawNear : mg "_law_near" = some (.ref fLawNear)
  fLawWorld : Addr
  fdLawWorld : FuncData
  FLawWorld : Fun K "_law_world" "_law_world" sLawWorld fLawWorld fdLawWorld
  bLawWorld : Binds K fdLawWorld ["box"] []
  gLawWorld : mg "_law_world" = some (.ref fLawWorld)
  fLawGrid : Addr
  fdLawGrid : FuncData
  FLawGrid : Fun K "_law_grid" "_law_grid" sLawGrid fLawGrid fdLawGrid
  bLawGrid : Binds K fdLawGrid ["world"] []
  gLawGrid : mg "_law_grid" = some (.ref fLawGrid)
  fLawValue : Addr
  fdLawValue : FuncData
  FLawValue : Fun K "_law_value" "_law_value" sLawValue fLawValue fdLawValue
  bLawValue : Binds K fdLawValue ["box"] []
  gLawValue : mg "_law_value" = some (.ref fLawValue)
  fLawKnown : Addr
  fdLawKnown : FuncData
  FLawKnown : Fun K "_law_known" "_law_known" sLawKnown fLawKnown fdLawKnown
  bLawKnown : Binds K fdLawKnown ["box", "rows", "columns"] []
  gLawKnown : mg "_law_known" = some (.ref fLawKnown)
  fLaw : Addr
  fdLaw : FuncData
  FLaw : Fun K "law" "law" sLaw fLaw fdLaw
  bLaw : Binds K fdLaw ["script"] []
  gLaw : mg "law" = some (.ref fLaw)
  z_range : mg "range" = none
  z_abs : mg "abs" = none
  z_isinstance : mg "isinstance" = none
  z_bool : mg "bool" = none
  z_str : mg "str" = none
  z_sorted : mg "sorted" = none
  z_len : mg "len" = none
  z_list : mg "list" = none
  z_min : mg "min" = none
  z_max : mg "max" = none
  z_tuple : mg "tuple" = none
  z_int : mg "int" = none
  t_NO_NAME : Nat
  g_NO_NAME : mg "NO_NAME" = some (.str "none" t_NO_NAME)
  g_gcd : mg "gcd" = some (.builtin "math.gcd")
  t_LIMIT : Nat
  g_LIMIT : mg "LIMIT" = some (.int 1000000000000000000 t_LIMIT)
  p_BLANK : Addr
  g_BLANK : mg "BLANK" = some (.ref p_BLANK)
  k_BLANK : ∀ H, SqT K H p_BLANK [.str "blank"]
  w_BLANK : ∃ o, K.lookup p_BLANK = some o ∧ o.cls = .type "tuple" ∧ o.dict = none
  p_ZERO : Addr
  g_ZERO : mg "ZERO" = some (.ref p_ZERO)
  k_ZERO : ∀ H, SqT K H p_ZERO [.int 0, .int 1]
  w_ZERO : ∃ o, K.lookup p_ZERO = some o ∧ o.cls = .type "tuple" ∧ o.dict = none
  p_CLASH : Addr
  g_CLASH : mg "CLASH" = some (.ref p_CLASH)
  k_CLASH : ∀ H, SqT K H p_CLASH [.str "fault", .str "clash"]
  w_CLASH : ∃ o, K.lookup p_CLASH = some o ∧ o.cls = .type "tuple" ∧ o.dict = none
  p_GONE_FAULT : Addr
  g_GONE_FAULT : mg "GONE_FAULT" = some (.ref p_GONE_FAULT)
  k_GONE_FAULT : ∀ H, SqT K H p_GONE_FAULT [.str "fault", .str "gone"]
  w_GONE_FAULT : ∃ o, K.lookup p_GONE_FAULT = some o ∧ o.cls = .type "tuple" ∧ o.dict = none
  p_UNKNOWN : Addr
  g_UNKNOWN : mg "UNKNOWN" = some (.ref p_UNKNOWN)
  k_UNKNOWN : ∀ H, SqT K H p_UNKNOWN [.str "fault", .str "unknown"]
  w_UNKNOWN : ∃ o, K.lookup p_UNKNOWN = some o ∧ o.cls = .type "tuple" ∧ o.dict = none
  p_NO_NUMBER : Addr
  g_NO_NUMBER : mg "NO_NUMBER" = some (.ref p_NO_NUMBER)
  k_NO_NUMBER : ∀ H, SqT K H p_NO_NUMBER [.str "fault", .str "kind"]
  w_NO_NUMBER : ∃ o, K.lookup p_NO_NUMBER = some o ∧ o.cls = .type "tuple" ∧ o.dict = none
  p_BY_ZERO : Addr
  g_BY_ZERO : mg "BY_ZERO" = some (.ref p_BY_ZERO)
  k_BY_ZERO : ∀ H, SqT K H p_BY_ZERO [.str "fault", .str "zero"]
  w_BY_ZERO : ∃ o, K.lookup p_BY_ZERO = some o ∧ o.cls = .type "tuple" ∧ o.dict = none
  p_NOT_IN_RANGE : Addr
  g_NOT_IN_RANGE : mg "NOT_IN_RANGE" = some (.ref p_NOT_IN_RANGE)
  k_NOT_IN_RANGE : ∀ H, SqT K H p_NOT_IN_RANGE [.str "fault", .str "range"]
  w_NOT_IN_RANGE : ∃ o, K.lookup p_NOT_IN_RANGE = some o ∧ o.cls = .type "tuple" ∧ o.dict = none
  p_OF_NONE : Addr
  g_OF_NONE : mg "OF_NONE" = some (.ref p_OF_NONE)
  k_OF_NONE : ∀ H, SqT K H p_OF_NONE [.str "fault", .str "none"]
  w_OF_NONE : ∃ o, K.lookup p_OF_NONE = some o ∧ o.cls = .type "tuple" ∧ o.dict = none
  cGrid : Addr
  gKGrid : mg "Grid" = some (.ref cGrid)
  clGrid : Cls K cGrid
  fGrid_Init : Addr
  fdGrid_Init : FuncData
  FGrid_Init : Fun K "__init__" "Grid.__init__" sGrid_Init fGrid_Init fdGrid_Init
  bGrid_Init : Binds K fdGrid_Init ["self", "rows", "columns"] []
  meGrid_Init : Meth K cGrid "__init__" fGrid_Init
  fGrid_Put : Addr
  fdGrid_Put : FuncData
  FGrid_Put : Fun K "put" "Grid.put" sGrid_Put fGrid_Put fdGrid_Put
  bGrid_Put : Binds K fdGrid_Put ["self", "cell", "shown"] []
  meGrid_Put : Meth K cGrid "put" fGrid_Put
  fGrid_Shown : Addr
  fdGrid_Shown : FuncData
  FGrid_Shown : Fun K "shown" "Grid.shown" sGrid_Shown fGrid_Shown fdGrid_Shown
  bGrid_Shown : Binds K fdGrid_Shown ["self", "cell"] []
  meGrid_Shown : Meth K cGrid "shown" fGrid_Shown
  fGrid_Name : Addr
  fdGrid_Name : FuncData
  FGrid_Name : Fun K "name" "Grid.name" sGrid_Name fGrid_Name fdGrid_Name
  bGrid_Name : Binds K fdGrid_Name ["self", "word", "areas"] []
  meGrid_Name : Meth K cGrid "name" fGrid_Name
  fGrid_Areas : Addr
  fdGrid_Areas : FuncData
  FGrid_Areas : Fun K "areas" "Grid.areas" sGrid_Areas fGrid_Areas fdGrid_Areas
  bGrid_Areas : Binds K fdGrid_Areas ["self", "word"] []
  meGrid_Areas : Meth K cGrid "areas" fGrid_Areas
  fGrid_Cells : Addr
  fdGrid_Cells : FuncData
  FGrid_Cells : Fun K "cells" "Grid.cells" sGrid_Cells fGrid_Cells fdGrid_Cells
  bGrid_Cells : Binds K fdGrid_Cells ["self"] []
  meGrid_Cells : Meth K cGrid "cells" fGrid_Cells
  fGrid_Copy : Addr
  fdGrid_Copy : FuncData
  FGrid_Copy : Fun K "copy" "Grid.copy" sGrid_Copy fGrid_Copy fdGrid_Copy
  bGrid_Copy : Binds K fdGrid_Copy ["self"] []
  meGrid_Copy : Meth K cGrid "copy" fGrid_Copy
  mkGrid : Mk K cGrid fGrid_Init
  naGrid_rows : NoAttr K cGrid "rows"
  naGrid_columns : NoAttr K cGrid "columns"
  naGrid__contents : NoAttr K cGrid "_contents"
  naGrid__names : NoAttr K cGrid "_names"
  cTableError : Addr
  gKTableError : mg "TableError" = some (.ref cTableError)
  cUnknownName : Addr
  gKUnknownName : mg "UnknownName" = some (.ref cUnknownName)
  oKUnknownName : OexC K cUnknownName
  xKUnknownName : XfC K cUnknownName
  eKUnknownName : ExK K cUnknownName
  fUnknownName_Init : Addr
  fdUnknownName_Init : FuncData
  FUnknownName_Init : Fun K "__init__" "UnknownName.__init__" sUnknownName_Init fUnknownName_Init fdUnknownName_Init
  bUnknownName_Init : Binds K fdUnknownName_Init ["self", "word"] []
  iKUnknownName : PySem.W.findIn K (.ref cUnknownName) "__init__" = some (some (.ref fUnknownName_Init))
  tKUnknownName : PySem.W.typeIn K (.ref fUnknownName_Init) = some (.type "function")
  nKUnknownName_word : PySem.W.findIn K (.ref cUnknownName) "word" = some none
  mKUnknownName_TableError : PySem.W.exmOne K (.ref cUnknownName) (.ref cTableError) = some true
  mKUnknownName_UnknownName : PySem.W.exmOne K (.ref cUnknownName) (.ref cUnknownName) = some true
  kKUnknownName_UnknownName : PySem.W.kitOne K (.ref cUnknownName) (.ref cUnknownName) = some true
section
variable {P : Program} {w : World} {K : PySem.W.Frag} {mg : Str → Option Value} {base : Heap}
/-! ### heaps -/
theorem _root_.L2.Same.tup {K : PySem.W.Frag} {H H' : Hp} {a : Addr} {xs : List V} (e : Same H H') (h : SqT K H a xs) : SqT K H' a xs := by
  rcases h with (h | ⟨o, h⟩) | h
  · exact .inl (.inl (e _ _ h))
  · exact .inl (.inr ⟨o, e _ _ h⟩)
  · exact .inr h
theorem same_new {H : Hp} {p : Addr} {o : HO} (h : H p = none) : Same H (upd H p o) := fun b x e => by
  rw [upd_ne (ne_of_none e h)]
  exact e
theorem same_mut {H H' : Hp} {p : Addr} {o : HO} (e : Same H H') (h : H p = none) : Same H (upd H' p o) := fun b x ha => by
  rw [upd_ne (ne_of_none ha h)]
  exact e b x ha
theorem walk_zipT {K : PySem.W.Frag} {a b : Addr} {xs ys : List V} {n : Nat} (hn : n = min xs.length ys.length) : Walk (ItzT K a b) n (fun H => SqT K H a xs ∧ SqT K H b ys) (YPair (fun i => xs[i]?) (fun i => ys[i]?)) := by
  subst hn
  refine ⟨fun i _ hi q => ?_, fun _ q => ⟨xs, ys, q.1, q.2, by omega⟩, fun i H v H' _ q y => ?_⟩
  · have h1 : i < xs.length := by omega
    have h2 : i < ys.length := by omega
    exact ⟨xs, ys, xs[i], ys[i], q.1, q.2, by simp [h1], by simp [h2]⟩
  · obtain ⟨T, x, z, h1, h2, h3, h4, h5⟩ := y
    exact ⟨T, x, z, h1, h2, h3, h4 xs q.1, h5 ys q.2⟩
/-- a function that hands back a bool or an int and changes nothing -/
theorem getD_at {ns : List Int} {i : Nat} (h : i < ns.length) : (ns.map V.int)[i]? = some (.int (ns.getD i 0)) := by
  rw [List.getElem?_map, List.getElem?_eq_getElem h, List.getD_eq_getElem?_getD, List.getElem?_eq_getElem h]
  rfl
theorem dp_ints {K : PySem.W.Frag} {H : Hp} : ∀ ns : List Int, DpAll K H (ns.map V.int) (ns.map PyData.int)
  | [] => .nil
  | n :: r => .cons (.int n) (dp_ints r)
theorem shaped_tup (ns : List Int) : SeqAt.shaped (.tuple (ns.map PyData.int)) = true := by
  simp [SeqAt.shaped, PyData.canLay0, PyData.depth, PySem.W.ke_canLayAll0, PySem.W.ke_depthAll]
theorem shaped_lst (ns : List Int) : SeqAt.shaped (.list (ns.map PyData.int)) = true := PySem.W.ke_shaped_ints ns
theorem eqv_same {d : PyData} (h : SeqAt.shaped d = true) : PyData.eqv d d = true := by
  refine SeqAt.eqv_refl d ?_
  unfold SeqAt.shaped at h
  exact (Bool.and_eq_true _ _ ▸ h).1
theorem yesT {σ : L2.St} {H : Hp} {A B : Hp → Prop} (h : A H) : tYes σ H (fun b H3 => if b = true then A H3 else B H3) := iteT (A := A H) (B := B H) h
open L2H
/-! ### errors: made, raised, caught -/
theorem takesN {X : Cx} : L2N.Takes X (fun _ _ _ _ => False) := fun _ _ z => by
  obtain ⟨_, _, _, _, _, _, _, _, _, _, _, _, _, _, _, _, no⟩ := z
  exact no.elim
theorem hot_of {X : Cx} {a : Addr} {oe : Obj} {cls : Value} {d : Option Addr} {pn : List (Addr × Obj)} (hz : L2N.Zn cls d oe) (hf : ∃ vs, oe.data = .fields vs) : HotC (X.suite a ((a, oe) :: pn)) := by
  obtain ⟨vs, hv⟩ := hf
  exact ⟨(a, oe), ⟨rfl, vs, hv, hz.2.2 vs hv⟩, List.mem_cons_self ..⟩
theorem okN {x qual : Str} {st : Stmt} {f : Addr} {fd : FuncData} {N ps : List Str} {k : Nat} {sp : Sp} (F : Fun K x qual st f fd) (S : FnScope N ps (defScope st)) (len : ∀ vs H Q E, sp vs H Q E → vs.length = ps.length)
    (go : ∀ (cdv : Value) (A : Around) (outer : List Env) (s : Shared) (H : Hp) (vs : List V) (Q : VK) (E : XK), Room k (A.deeper (envOfC qual (defScope st) s.heap.objs.size f cdv)) → sp vs H Q E →
      ∃ t, PSs (cxOf (L2N.CX P w) P w K mg base N qual (defScope st) f cdv A outer s H E) (defBody st) t ∧ t { nx := fun _ G => Q .non G, rt := Q } (start N vs) H) : FnOk P w K mg base (L2N.CX P w) (k + 1) f fd ps sp := by
  obtain ⟨oc, od, kV, doc, pm, an, cdv, ct, osl, rfl, look, code⟩ := F.ex
  exact fn_of look code S len fun A outer s H vs Q E room h => go cdv A outer s H vs Q E room h
theorem okHot {x qual : Str} {st : Stmt} {f : Addr} {fd : FuncData} {N ps : List Str} {k : Nat} {sp : Sp} (F : Fun K x qual st f fd) (S : FnScope N ps (defScope st)) (len : ∀ vs H Q E, sp vs H Q E → vs.length = ps.length)
    (go : ∀ (cdv : Value) (A : Around) (outer : List Env) (s : Shared) (H : Hp) (vs : List V) (Q : VK) (E : XK) (p : Addr × Obj), Hot1 A p → RoomH k (A.deeper (envOfC qual (defScope st) s.heap.objs.size f cdv)) → sp vs H Q E →
      ∃ t, PSs (cxH CX0 P w K mg base N qual (defScope st) f cdv A outer s H E p) (defBody st) t ∧ t { nx := fun _ G => Q .non G, rt := Q } (start N vs) H) : FnH P w K mg base CX0 (k + 1) f fd ps sp := by
  obtain ⟨oc, od, kV, doc, pm, an, cdv, ct, osl, rfl, look, code⟩ := F.ex
  exact fn_ofH look code S len fun A outer s H vs Q E p hot room h => go cdv A outer s H vs Q E p hot room h
/-- isinstance(e, D) of the error that the suite holds -/
def rIsX (K : PySem.W.Frag) (a C : Addr) (cls : Value) (d : Option Addr) : List V → Hp → VK → Prop := fun xs H Q => ∃ (D dd : Addr) (fs : List (Str × V)) (b : Bool), xs = [.ref a, .ref D] ∧ cls = .ref C ∧ d = some dd ∧ H dd = some (.xd fs) ∧ PySem.W.kitOne K (.ref C) (.ref D) = some b ∧ Q (.bl b) H
theorem cr_isX {X : Cx} {a C : Addr} {cls : Value} {d : Option Addr} {oe : Obj} {pn : List (Addr × Obj)} (Z : ExK X.K C) (hz : Zc cls d oe) (hf : ∃ vs, oe.data = .fields vs) : CallR (X.suite a ((a, oe) :: pn)) (.builtin "isinstance") (rIsX X.K a C cls d) := by
  intro pins s σ H xs us Q I r h
  obtain ⟨D, dd, fs, b, rfl, rfl, rfl, hd, e, q⟩ := h
  cases r with
  | cons r1 rr =>
    cases rr with
    | cons r2 rr =>
      cases rr
      cases r1
      cases r2
      have there := (I.pin (a, oe) (List.mem_append_left _ (List.mem_cons_self ..))).1
      obtain ⟨vs, hv⟩ := hf
      have ox : ObjOk X.prog X.w H s.heap dd (.xd fs) := I.hok dd _ hd
      obtain ⟨m, hn, _⟩ := ox
      obtain ⟨od, ho, _⟩ := lookIn_ns hn
      have J : PySem.W.InstAt s.heap a oe C (some od) := ⟨there, hz.1, by unfold PySem.W.notCls; rw [hv] <;> rfl, by rw [hz.2]; exact ho⟩
      exact PySem.W.kia_one (PySem.W.kitx_exc Z.cl Z.x.ga Z.x.gg Z.x.exC Z.cc Z.cn Z.ct Z.cm) I.kIn J e (fun z => nomatch z) fun tk => ⟨.bl b, H, I.tok tk, rfl, q⟩
/-- C(e, ..), made where nothing is handled -/
theorem mkN {X : Cx} {CX : CXT} {nm : Str} {C g : Addr} {j : Nat} {fd : FuncData} {pz : List Str} {sp : Sp} {e0 : Expr} {er : List Expr} {tg : TA} {p1 p2 : Pos} (O : OexC X.K C) (hI : PySem.W.findIn X.K (.ref C) "__init__" = some (some (.ref g)))
    (hT : PySem.W.typeIn X.K (.ref g) = some (.type "function")) (G : FnOk X.prog X.w X.K X.mg X.base CX j g fd pz sp) (rm : Room (j + 1) X.A) (bn : Binds X.K fd pz []) (no : Passes CX X (fun _ _ _ => False)) (gl : Gl X nm) (at_ : X.mg nm = some (.ref C)) (as : PA X (e0 :: er) tg)
    (nd : (nm == ("__debug__" : Str)) = false := by decide) (st : starEach (e0 :: er) X.env = (false, eval e0 X.env) :: starEach er X.env := by rfl) (pl : (backTo p2 (starEach er X.env)).any (·.1) = false := by rfl) :
    L2N.PMk X (.Call (.Name nm p1) (e0 :: er) [] p2) (tMkO C sp [] tg) := by
  intro pins s σ H Q I h
  obtain ⟨n1, n2, n3, n4, bm, n5, n6, n7, n8, n9, m0, m1, m2, m3, m5, hC, hbm⟩ := O.cls
  refine wpAny_Call_Name_kw (ld_glob I gl at_ ?_ nd)
  refine PySem.W.callWith_K (h₀ := X.base) I.ok.mod.kin O.kC (thn (as.run p2 pins s σ H _ I h) fun us s1 ⟨vs, H1, J1, r1, hz, q1⟩ => ⟨J1.kIn, ?_⟩) st pl
  show wpAny _ _ (call (.ref C) us) _ _ _
  obtain ⟨hp, gs, dr, tok, os⟩ := s1
  have up1 : hp.objs.size ≤ hp.objs.size + 1 := Nat.le_succ _
  have hq := q1 (hp.objs.size + 1) (J1.hok.fresh up1)
  have old : ∀ b o, hp.get? b = some o → ((hp.push (PySem.W.kdv_tup us)).push (PySem.HandSPX.excO C hp.objs.size)).get? b = some o := fun b o z => Heap.get?_push_of_some _ (Heap.get?_push_of_some _ z)
  have new : ((hp.push (PySem.W.kdv_tup us)).push (PySem.HandSPX.excO C hp.objs.size)).get? (hp.objs.size + 1) = some (PySem.HandSPX.excO C hp.objs.size) := by heap_get
  have J2 : Inv X pins σ (upd H1 (hp.objs.size + 1) (exo (hp.objs.size + 1) C none)) ⟨(hp.push (PySem.W.kdv_tup us)).push (PySem.HandSPX.excO C hp.objs.size), gs, dr, tok, os⟩ := J1.laid (t' := tok) old up1 (exo_ok new)
  rw [List.append_nil] at hq
  have r2 : Vals (V.ref (hp.objs.size + 1) :: vs) (Value.ref (hp.objs.size + 1) :: us) := .cons rfl r1
  have nl : (Value.ref (hp.objs.size + 1) :: us).length = pz.length := r2.length.symm.trans (G.len _ _ _ _ hq)
  have bd := bn ⟨(hp.push (PySem.W.kdv_tup us)).push (PySem.HandSPX.excO C hp.objs.size), gs, dr, tok, os⟩ (Value.ref (hp.objs.size + 1) :: us) J2.kIn (by rw [List.append_nil]; exact nl)
  rw [List.append_nil] at bd
  have sz : us.length ≤ sizeLine := by
    rw [← r1.length, sizeLine_eq]
    omega
  refine wpAny_call (PySem.HandSPX.call_own F.excBase_ValueError (fun z => PySem.HandSPX.refsVE_contains z bm hbm) (J1.kIn _ _ hC) (PySem.W.looks_findIn J1.kIn hI) (fun z => PySem.W.bind_fn J1.kIn z hT) sz (codeAny_mono (G.run _ X.stack _ _ ⟨Value.ref (hp.objs.size + 1) :: us, []⟩ _ _ _ (fun _ _ _ => False) (rm.make C us []) (J2.env0.make C us []) bd r2 hq) fun r s2 w => ?_))
  cases r with
  | error er => exact no pins σ _ _ er s2 J2 w
  | ok fl =>
    cases fl with
    | ret u =>
      obtain ⟨v, H2, os2, bare2, un2, hok2, rv, ev, d, fs, ea, ed, hd1, q2⟩ := w
      subst ev
      obtain ⟨h2, gs2, dr2, tok2, os3⟩ := s2
      obtain ⟨t0, G2, J, _, ge, hoe, na⟩ := mk_end0 (d2 := dr2) (t2 := tok2) J1 up1 old un2 hok2 os2 bare2 ea ed hd1
      have kG : ∀ b o, G2.get? b = some o → h2.get? b = some o := by assumption
      exact ⟨rv, hp.objs.size + 1, _, _, ⟨G2, gs2, dr2, tok2, os3⟩, _, .ref C, some d, rfl, J, kG, ge, hoe, ⟨rfl, rfl, fun vs hv => by cases hv; rfl⟩, rfl, rfl, na, rfl, bare2, raises_own O.exC O.tyC, q2⟩
    | next => exact w.elim
    | brk => exact w.elim
    | cont => exact w.elim
/-- the promise of an __init__ that keeps its one argument -/
def spIni (K : PySem.W.Frag) (C : Addr) (f : Str) : Sp := fun vs H Q _ => ∃ (a : Addr) (y : V), vs = [.ref a, y] ∧ H a = some (exo a C none) ∧ ∀ d, H d = none → d ≠ a → Q .non (upd (upd H d (exd d [(f, y)])) a (exo a C (some d)))
theorem mk_heap {H : Hp} {a d : Addr} {o1 o2 o3 o4 : HO} (ha : H a = none) (hd : d ≠ a) : upd (del (upd (upd (upd H a o1) d o2) a o3) a) d o4 = upd H d o4 := by
  funext b
  by_cases h1 : b = d
  · rw [h1, upd_same, upd_same]
  · rw [upd_ne h1, upd_ne h1]
    by_cases h2 : b = a
    · rw [h2, del_same, ha]
    · rw [del_ne h2, upd_ne h2, upd_ne h1, upd_ne h2]
/-- what raising such an error asks -/
theorem ini_of {K : PySem.W.Frag} {C : Addr} {f : Str} {y : V} {H : Hp} {Q : XK} (q : ∀ d, H d = none → Q (.ref C) (some d) (upd H d (.xd [(f, y)]))) : ∀ a, H a = none → spIni K C f (.ref a :: ([y] ++ [])) (upd H a (exo a C none))
    (fun v H2 => v = .non ∧ ∃ (d : Addr) (fs : List (Str × V)), H2 a = some (exo a C (some d)) ∧ H2 d = some (exd d fs) ∧ H d = none ∧ Q (.ref C) (some d) (upd (del H2 a) d (.xd fs))) (fun _ _ _ => False) := fun a ha =>
  ⟨a, y, rfl, upd_same, fun d hd hne => by
    have hd0 : H d = none := by
      rw [upd_ne hne] at hd
      exact hd
    refine ⟨rfl, d, [(f, y)], upd_same, by rw [upd_ne hne, upd_same], hd0, ?_⟩
    rw [mk_heap ha hne]
    exact q d hd0⟩
/-! ### methods that may raise -/
def tMethE (C : Addr) (m : Str) (sp : Sp) (E : L2.St → XK) (ta : TE) (t : TA) : TE := fun σ H Q => ta σ H fun x H1 => ∃ a dx fs, x = .ref a ∧ H1 a = some (.ins C dx fs) ∧ fs.lookup m = none ∧ t σ H1 fun vs H2 => sp (x :: vs) H2 Q (E σ)
theorem pe_methE {X : Cx} {CX : CXT} {k : Nat} {C f : Addr} {fd : FuncData} {ps : List Str} {m : Str} {sp : Sp} {E : L2.St → XK} {o e : Expr} {es : List Expr} {ta : TE} {t : TA} {apos pos : Pos} {pl : Sem Bool} (he : PE X o ta) (c : Cls X.K C) (hm : Meth X.K C m f)
    (F : FnOk X.prog X.w X.K X.mg X.base CX k f fd ps sp) (hr : Room k X.A) (hb : Binds X.K fd ps []) (hx : ∀ σ, PassesAt CX X σ (E σ)) (ha : PA X (e :: es) t)
    (hst : starEach (e :: es) X.env = (false, eval e X.env) :: starEach es X.env := by rfl) (hpl : (backTo pos (starEach es X.env)).any (·.1) = false := by rfl)
    (ht : eval (.Call (.Attribute o m apos) (e :: es) [] pos) X.env = (do
      let ov ← eval o X.env
      standAt apos.atName
      let (f, first) ← holding [ov] (getMethod ov m pl)
      callWith pos f first (backTo pos (starEach (e :: es) X.env)) (backToKw pos (keywordEach [] X.env))) := by rfl) :
    PE X (.Call (.Attribute o m apos) (e :: es) [] pos) (tMethE C m sp E ta t) := by
  refine ⟨fun pins s σ H Q I h => ?_⟩
  refine PySem.W.methodCall_KW (pl := pl) (thn (he.run pins s σ H _ I h) fun u s1 ⟨x, H1, I1, rx, a, dx, fs, ex, ea, l, q⟩ => ?_) ht
  subst ex
  obtain rfl : u = Value.ref a := rx
  refine getmeth_ok I1 ea c hm l ?_
  refine PySem.W.callWith_K (first := [.ref a]) (h₀ := X.base) I.ok.mod.kin hm.kp (thn (ha.run pos pins s1 σ H1 _ I1 q) fun us s2 ⟨vs, H2, I2, r, q2⟩ => ⟨I2.kIn, ?_⟩) hst hpl
  exact run_fnS (us := .ref a :: us) (vs := .ref a :: vs) F hr hb (hx σ) I2 (.cons rfl r) q2
theorem pe_methE0 {X : Cx} {CX : CXT} {k : Nat} {C f : Addr} {fd : FuncData} {ps : List Str} {m : Str} {sp : Sp} {E : L2.St → XK} {o : Expr} {ta : TE} {apos pos : Pos} {pl : Sem Bool} (he : PE X o ta) (c : Cls X.K C) (hm : Meth X.K C m f)
    (F : FnOk X.prog X.w X.K X.mg X.base CX k f fd ps sp) (hr : Room k X.A) (hb : Binds X.K fd ps []) (hx : ∀ σ, PassesAt CX X σ (E σ))
    (ht : eval (.Call (.Attribute o m apos) [] [] pos) X.env = (do
      let ov ← eval o X.env
      standAt apos.atName
      let (f, first) ← holding [ov] (getMethod ov m pl)
      callWith pos f first (backTo pos (starEach [] X.env)) (backToKw pos (keywordEach [] X.env))) := by rfl) :
    PE X (.Call (.Attribute o m apos) [] [] pos) (tMethE C m sp E ta tNil) := by
  refine ⟨fun pins s σ H Q I h => ?_⟩
  refine PySem.W.methodCall_KW (pl := pl) (thn (he.run pins s σ H _ I h) fun u s1 ⟨x, H1, I1, rx, a, dx, fs, ex, ea, l, q⟩ => ?_) ht
  subst ex
  obtain rfl : u = Value.ref a := rx
  refine getmeth_ok I1 ea c hm l ?_
  exact PySem.W.callWith_K0 (first := [.ref a]) I1.kIn hm.kp (run_fnS (us := [.ref a]) (vs := [.ref a]) F hr hb (hx σ) I1 (.cons rfl .nil) q)
theorem pe_fldK {X : Cx} {K : PySem.W.Frag} {e : Expr} {f : Str} {pos : Pos} {ta : TE} (h : X.K = K) (he : PE X e ta) (hb : attributeBase e f X.env (eval e X.env) = eval e X.env) : PE X (.Attribute e f pos) (tFld K ta f) := by
  subst h
  exact pe_fld he hb
theorem ps_fldK {X : Cx} {K : PySem.W.Frag} {o value : Expr} {f : Str} {pos pos' : Pos} {ta tv : TE} (h : X.K = K) (ha : PE X o ta) (hv : PE X value tv) (hs : swapsWith value (some (.Attribute o f pos')) pos.line X.env = pure false) : PS X (.Assign [.Attribute o f pos'] value pos) (sFld K ta tv f) := by
  subst h
  exact ps_fld ha hv hs
/-! ### texts -/
open SX (S S_len S_cat slice_to slice_from num_S int_S)
open PySem.NumText (digitsVal AllDigits)
open TL (numL)
def cap (c : Nat) : Bool := decide (65 ≤ c ∧ c ≤ 90)
def dig (c : Nat) : Bool := decide (48 ≤ c ∧ c ≤ 57)
theorem dig_mem (c : Nat) : decide (c ∈ ("0123456789" : Str).cps.toList) = dig c := by
  have e : ("0123456789" : Str).cps.toList = [48, 49, 50, 51, 52, 53, 54, 55, 56, 57] := by decide +kernel
  rw [e]
  unfold dig
  refine decide_eq_decide.mpr ?_
  simp only [List.mem_cons, List.not_mem_nil, or_false]
  omega
theorem cap_mem (c : Nat) : decide (c ∈ ("ABCDEFGHIJKLMNOPQRSTUVWXYZ" : Str).cps.toList) = cap c := by
  have e : ("ABCDEFGHIJKLMNOPQRSTUVWXYZ" : Str).cps.toList = [65, 66, 67, 68, 69, 70, 71, 72, 73, 74, 75, 76, 77, 78, 79, 80, 81, 82, 83, 84, 85, 86, 87, 88, 89, 90] := by decide +kernel
  rw [e]
  unfold cap
  refine decide_eq_decide.mpr ?_
  simp only [List.mem_cons, List.not_mem_nil, or_false]
  omega
theorem walk_S {a : List Nat} : Walk (Its (S a)) a.length (fun _ => True) (fun i H v H' => H' = H ∧ ∃ c, a[i]? = some c ∧ v = .str (S [c])) :=
  ⟨fun i _ hi _ => by show i < a.toArray.size; simpa using hi, fun _ _ => by show a.toArray.size ≤ a.length; simp, fun i H v H' _ _ y => by
    obtain ⟨e, c, h1, h2⟩ := y
    exact ⟨e, c, by simpa using h1, h2⟩⟩
theorem tw_len {p : Nat → Bool} : ∀ {a : List Nat} {i c : Nat}, (∀ x ∈ a.take i, p x = true) → a[i]? = some c → p c = false → (a.takeWhile p).length = i
  | [], i, c, _, e, _ => by simp at e
  | x :: r, 0, c, _, e, hc => by
    have e2 := Option.some.inj e
    rw [List.takeWhile_cons, e2, hc]
    rfl
  | x :: r, i + 1, c, h, e, hc => by
    have hx : p x = true := h x (by simp)
    rw [List.takeWhile_cons, hx]
    show ((r.takeWhile p).length + 1) = i + 1
    rw [tw_len (fun y hy => h y (by rw [List.take_succ_cons]; exact List.mem_cons_of_mem _ hy)) (by simpa using e) hc]
theorem tw_all {p : Nat → Bool} {a : List Nat} (h : ∀ x ∈ a, p x = true) : (a.takeWhile p).length = a.length := by
  induction a with
  | nil => rfl
  | cons x r ih =>
    rw [List.takeWhile_cons, h x List.mem_cons_self]
    show (r.takeWhile p).length + 1 = r.length + 1
    rw [ih fun y hy => h y (List.mem_cons_of_mem _ hy)]
theorem tw_self {p : Nat → Bool} : ∀ {a : List Nat}, (∀ x ∈ a, p x = true) → a.takeWhile p = a
  | [], _ => rfl
  | x :: r, h => by rw [List.takeWhile_cons, h x List.mem_cons_self, if_pos rfl, tw_self fun y hy => h y (List.mem_cons_of_mem _ hy)]
theorem tw_le {p : Nat → Bool} (a : List Nat) : (a.takeWhile p).length ≤ a.length := by
  induction a with
  | nil => exact Nat.le_refl _
  | cons x r ih =>
    rw [List.takeWhile_cons]
    split
    · exact Nat.succ_le_succ ih
    · exact Nat.zero_le _
theorem tw_take {p : Nat → Bool} : ∀ (a : List Nat), ∀ x ∈ a.take (a.takeWhile p).length, p x = true
  | [], x, h => by simp at h
  | y :: r, x, h => by
    rw [List.takeWhile_cons] at h
    split at h
    · rename_i hy
      rw [List.length_cons, List.take_succ_cons] at h
      rcases List.mem_cons.mp h with e | e
      · rw [e]
        exact hy
      · exact tw_take r x e
    · simp at h
theorem tw_full {p : Nat → Bool} {a : List Nat} (h : (a.takeWhile p).length = a.length) : ∀ x ∈ a, p x = true := fun x hx => tw_take a x (by rw [h, List.take_length]; exact hx)
theorem tw_congr {p q : Nat → Bool} (h : ∀ c, p c = q c) (a : List Nat) : a.takeWhile p = a.takeWhile q := by
  rw [show p = q from funext h]
theorem in12 (n : Int) : inV (.int n) [.int 1, .int 2] = decide (n = 1 ∨ n = 2) := by
  show ((1 : Int) == n || ((2 : Int) == n || false)) = _
  rw [Bool.eq_iff_iff]
  simp only [Bool.or_false, Bool.or_eq_true, beq_iff_eq, decide_eq_true_eq]
  omega
theorem sz100 {n : Nat} (h : n ≤ 100000) : n ≤ sizeLine := Nat.le_trans h (by decide)
theorem item_by {α : Type} (f : α → V) {xs : List α} {k : Int} (h0 : 0 ≤ k) (h1 : k < xs.length) : ∃ v ∈ xs, atI (xs.map f) k = some (f v) := by
  obtain ⟨j, rfl⟩ := Int.eq_ofNat_of_zero_le h0
  have hj : j < xs.length := by omega
  exact ⟨xs[j], List.getElem_mem hj, atI_nat (by rw [List.getElem?_map, List.getElem?_eq_getElem hj]; rfl)⟩
theorem dig_all {a : List Nat} (h : a.all dig = true) : AllDigits a := fun c hc => of_decide_eq_true (List.all_eq_true.mp h c hc)
theorem int_dig {a : List Nat} (h : a.all dig = true) (hne : a ≠ []) (hl : a.length ≤ 640) : intText? (S a) = some ((digitsVal a : Nat) : Int) := intText_digits (x := S a) (dig_all h) hne (by rw [S_len]; omega)
/-! ### a run of signs -/
def rn (z : Str) (a : List Nat) : Nat := (a.takeWhile fun c => decide (c ∈ z.cps.toList)).length
theorem ix_tupK {X : Cx} {K : PySem.W.Frag} (h : X.K = K) : IxR X (rIxT K) := by
  subst h
  exact ix_tup
theorem ix_listK {X : Cx} {K : PySem.W.Frag} (h : X.K = K) : IxR X (rIxL K) := by
  subst h
  exact ix_list
theorem call_len_seqK {X : Cx} {K : PySem.W.Frag} (h : X.K = K) : CallR X (.builtin "len") (fun xs H Q => ∃ p ys, xs = [.ref p] ∧ (SqL K H p ys ∨ SqT K H p ys) ∧ Q (.int ys.length) H) := by
  subst h
  exact call_len_seq
theorem units65 {k : Nat} {A : Around} (r : Room k A) : A.units + 65 < cLine := by
  have := r.un
  omega
def rCountD (K : PySem.W.Frag) : V → List V → Hp → VK → Prop := fun x xs H Q => ∃ (a : Addr) (y : V) (d : PyData) (ds : List PyData), x = V.ref a ∧ xs = [y] ∧ Dp K H (V.ref a) (.list ds) ∧ Dp K H y d ∧
  SeqAt.shaped (.list ds) = true ∧ SeqAt.shaped d = true ∧ Q (.int ((ds.countP fun z => PyData.eqv z d : Nat) : Int)) H
theorem mt_countD {X : Cx} (hu : X.A.units + 65 < cLine) : MtR X "list.count" (rCountD X.K) := by
  intro pins s σ H x xs v us Q I rx rxs h
  obtain ⟨a, y, d, ds, rfl, rfl, hl, hy, sl, sd, q⟩ := h
  cases rx
  cases rxs with
  | cons ry rt =>
    rename_i uy ut
    cases rt
    obtain ⟨bs, r1⟩ := Dp.reads I d y uy hy ry
    have hxs : PyData.canLayAll0 ds = true := SeqAt.canLay_of_shaped sl
    have hroom : X.A.units + 1 + min (PyData.depthAll ds) d.depth < cLine := room_in_shaped sd hu
    cases hl with
    | lst hs ha =>
      obtain ⟨its, rv, ⟨⟨cls, dd, data, sls⟩, n, ho, hc, hdn, hdt⟩, hlen⟩ := I.list hs
      simp only at hc hdt
      subst hc hdt
      obtain ⟨as, h4⟩ := Dp.readsAll I ds _ its ha rv
      have hmap : its.map (SeqAt.readOf s.heap) = ds := SeqAt.readsAll_map ds its as hxs h4
      have hc : its.countP (fun u => PyData.eqv (SeqAt.readOf s.heap u) d) = ds.countP fun z => PyData.eqv z d := by
        conv => rhs; rw [← hmap, List.countP_map]
        rfl
      refine call_meets PySem.F.slot_list_count ⟨_, ho, rfl⟩ PySem.F.entry_list_count (PySem.F.args_list_count_2 _ _)
        (SeqAt.list_countAt a its.toArray n dd sls uy (fun u => PyData.eqv (SeqAt.readOf s.heap u) d)) ⟨ho, SeqAt.items_eqAt (vs := its.toArray) (show ReadsAll s.heap its.toArray.toList ds as from h4) r1 hxs (SeqAt.canLay_of_shaped sd) hroom, ?_⟩
      refine ⟨.int _, H, I.tok _, ⟨_, rfl⟩, ?_⟩
      rw [List.toList_toArray, hc]
      exact q
/-! ### ids -/
def idD (z : Int × Int) : PyData := .tuple [.int z.1, .int z.2]
theorem idD_lay (z : Int × Int) : (idD z).canLay0 = true := by simp [idD, PyData.canLay0, PyData.canLayAll0]
theorem idD_depth (z : Int × Int) : (idD z).depth = 1 := by simp [idD, PyData.depth, PyData.depthAll]
theorem idDs_lay : ∀ zs : List (Int × Int), PyData.canLayAll0 (zs.map idD) = true
  | [] => by simp [PyData.canLayAll0]
  | z :: zs => by simp [PyData.canLayAll0, idD_lay z, idDs_lay zs]
theorem idDs_depth : ∀ zs : List (Int × Int), PyData.depthAll (zs.map idD) ≤ 1
  | [] => by simp [PyData.depthAll]
  | z :: zs => by
    have h1 := idDs_depth zs
    have h2 := idD_depth z
    simp only [List.map_cons, PyData.depthAll]
    omega
theorem idD_shaped (z : Int × Int) : SeqAt.shaped (idD z) = true := by
  have h := idD_depth z
  show ((idD z).canLay0 && decide ((idD z).depth ≤ 64)) = true
  rw [Bool.and_eq_true]
  exact ⟨idD_lay z, decide_eq_true (by omega)⟩
theorem idDs_shaped (zs : List (Int × Int)) : SeqAt.shaped (.list (zs.map idD)) = true := by
  have h1 := idDs_depth zs
  have h2 : PyData.depth (.list (zs.map idD)) ≤ 64 := by
    simp only [PyData.depth]
    omega
  show (PyData.canLay0 (.list (zs.map idD)) && decide (PyData.depth (.list (zs.map idD)) ≤ 64)) = true
  rw [Bool.and_eq_true]
  exact ⟨by simp only [PyData.canLay0]; exact idDs_lay zs, decide_eq_true h2⟩
theorem idD_eqv (z w : Int × Int) : PyData.eqv (idD z) (idD w) = decide (z = w) := by
  obtain ⟨a, b⟩ := z
  obtain ⟨a', b'⟩ := w
  have e : PyData.eqv (idD (a, b)) (idD (a', b')) = ((a == a') && ((b == b') && true)) := by simp only [idD, PyData.eqv, PyData.eqvAll]
  rw [e, Bool.eq_iff_iff]
  simp
theorem idDs_any (zs : List (Int × Int)) (w : Int × Int) : ((zs.map idD).any fun z => PyData.eqv z (idD w)) = decide (w ∈ zs) := by
  rw [Bool.eq_iff_iff, List.any_eq_true]
  constructor
  · rintro ⟨x, hx, hw⟩
    obtain ⟨z, hz, rfl⟩ := List.mem_map.mp hx
    rw [idD_eqv] at hw
    rw [← of_decide_eq_true hw]
    exact decide_eq_true hz
  · intro h
    exact ⟨idD w, List.mem_map.mpr ⟨w, of_decide_eq_true h, rfl⟩, by rw [idD_eqv]; exact decide_eq_true rfl⟩
theorem idDs_count (zs : List (Int × Int)) (w : Int × Int) : ((zs.map idD).countP fun z => PyData.eqv z (idD w)) = zs.countP fun z => decide (z = w) := by
  rw [List.countP_map]
  refine List.countP_congr fun z _ => ?_
  show PyData.eqv (idD z) (idD w) = true ↔ _
  rw [idD_eqv]
/-! ### edits -/
structure Ed where
  p : Nat
  n : Int
  v : List Int
def Ed.id (e : Ed) : Int × Int := (1 + (e.p : Int), e.n)
structure OkE (e : Ed) : Prop where
  p : e.p < 4
  n : 1 ≤ e.n
  v : e.v.length = 4
  nh : e.n ≤ 20
  vh : ∀ z ∈ e.v, 0 ≤ z ∧ z ≤ 20
theorem OkE.at_ {e : Ed} (h : OkE e) {j : Nat} (hj : j < 4) : 0 ≤ e.v.getD j 0 ∧ e.v.getD j 0 ≤ 20 := by
  have : j < e.v.length := by rw [h.v]; exact hj
  rw [List.getD_eq_getElem?_getD, List.getElem?_eq_getElem this]
  exact h.vh _ (List.getElem_mem this)
inductive RepI (H : Hp) : List V → List Ed → Prop where
  | nil : RepI H [] []
  | cons {a : Addr} {e : Ed} {vs : List V} {ds : List Ed} : H a = some (.tup [.int (1 + (e.p : Int)), .int e.n]) → RepI H vs ds → RepI H (.ref a :: vs) (e :: ds)
def TK (H H' : Hp) : Prop := ∀ q xs, H q = some (.tup xs) → H' q = some (.tup xs)
theorem TK.of {H H' : Hp} (s : Same H H') : TK H H' := fun q xs h => s q _ h
theorem TK.trans {H H1 H2 : Hp} (a : TK H H1) (b : TK H1 H2) : TK H H2 := fun q xs h => b q xs (a q xs h)
theorem TK.mut {H : Hp} {d : Addr} {xs : List V} {o : HO} (h : H d = some (.lst xs)) : TK H (upd H d o) := fun q ys hq => by
  have : q ≠ d := fun z => by
    rw [z, h] at hq
    cases hq
  rw [upd_ne this]
  exact hq
theorem RepI.mono {H H' : Hp} (s : TK H H') : ∀ {vs ds}, RepI H vs ds → RepI H' vs ds
  | _, _, .nil => .nil
  | _, _, .cons h r => .cons (s _ _ h) (r.mono s)
theorem RepI.snoc {H : Hp} {a : Addr} {e : Ed} (h : H a = some (.tup [.int (1 + (e.p : Int)), .int e.n])) : ∀ {vs ds}, RepI H vs ds → RepI H (vs ++ [.ref a]) (ds ++ [e])
  | _, _, .nil => .cons h .nil
  | _, _, .cons h2 r => .cons h2 (r.snoc h)
theorem dp_id {K : PySem.W.Frag} {H : Hp} {a : Addr} {x y : Int} (h : H a = some (.tup [.int x, .int y])) : Dp K H (.ref a) (idD (x, y)) := .tup (SqT.of h) (.cons (.int _) (.cons (.int _) .nil))
theorem RepI.dp {K : PySem.W.Frag} {H : Hp} : ∀ {vs ds}, RepI H vs ds → DpAll K H vs ((ds.map Ed.id).map idD)
  | _, _, .nil => .nil
  | _, _, .cons h r => .cons (dp_id h) r.dp
def EdAt (H : Hp) (x : V) (e : Ed) : Prop := ∃ (q a b : Addr) (c : V), x = .ref q ∧ H q = some (.tup [.ref a, .ref b, c]) ∧ H a = some (.tup [.int (1 + (e.p : Int)), .int e.n]) ∧ H b = some (.tup (e.v.map V.int))
theorem EdAt.mono {H H' : Hp} {x : V} {e : Ed} (s : TK H H') (h : EdAt H x e) : EdAt H' x e := by
  obtain ⟨q, a, b, c, h0, h1, h2, h3⟩ := h
  exact ⟨q, a, b, c, h0, s _ _ h1, s _ _ h2, s _ _ h3⟩
structure Rep (H : Hp) (rs : List V) (D : List Ed) : Prop where
  len : rs.length = D.length
  at_ : ∀ (i : Nat) (x : V) (e : Ed), rs[i]? = some x → D[i]? = some e → EdAt H x e
theorem Rep.mono {H H' : Hp} {rs : List V} {D : List Ed} (s : TK H H') (h : Rep H rs D) : Rep H' rs D := ⟨h.len, fun i x e h1 h2 => (h.at_ i x e h1 h2).mono s⟩
theorem Rep.nil {H : Hp} : Rep H [] [] := ⟨rfl, fun i x e h => by simp at h⟩
theorem Rep.snoc {H : Hp} {rs : List V} {D : List Ed} {x : V} {e : Ed} (h : Rep H rs D) (E : EdAt H x e) : Rep H (rs ++ [x]) (D ++ [e]) := by
  refine ⟨by rw [List.length_append, List.length_append, h.len]; rfl, fun i y f h1 h2 => ?_⟩
  rcases Nat.lt_or_ge i rs.length with z | z
  · rw [List.getElem?_append_left z] at h1
    rw [List.getElem?_append_left (by rw [← h.len]; exact z)] at h2
    exact h.at_ i y f h1 h2
  · rw [List.getElem?_append_right z] at h1
    rw [List.getElem?_append_right (by rw [← h.len]; exact z), ← h.len] at h2
    generalize i - rs.length = j at h1 h2
    rcases j with _ | j
    · simp at h1 h2
      rw [← h1, ← h2]
      exact E
    · simp at h1
theorem Rep.rev {H : Hp} {rs : List V} {D : List Ed} (h : Rep H rs D) : Rep H rs.reverse D.reverse := by
  refine ⟨by rw [List.length_reverse, List.length_reverse, h.len], fun i x e h1 h2 => ?_⟩
  have hi : i < rs.length := by
    have := (List.getElem?_eq_some_iff.mp h1).1
    rwa [List.length_reverse] at this
  rw [List.getElem?_reverse hi] at h1
  rw [List.getElem?_reverse (by rw [← h.len]; exact hi), ← h.len] at h2
  exact h.at_ _ x e h1 h2
theorem Rep.get {H : Hp} {rs : List V} {D : List Ed} (h : Rep H rs D) {i : Nat} {x : V} (hx : rs[i]? = some x) : ∃ e, D[i]? = some e ∧ EdAt H x e := by
  have hi := (List.getElem?_eq_some_iff.mp hx).1
  have hi2 : i < D.length := by rw [← h.len]; exact hi
  have hd : D[i]? = some D[i] := List.getElem?_eq_getElem hi2
  exact ⟨_, hd, h.at_ i x _ hx hd⟩
def nums (D : List Ed) (p : Nat) : List Int := (D.filter fun e => decide (e.p = p)).map Ed.n
theorem nums_step {D : List Ed} {i p : Nat} {e : Ed} (h : D[i]? = some e) : nums (D.take (i + 1)) p = nums (D.take i) p ++ if e.p = p then [e.n] else [] := by
  unfold nums
  rw [List.take_add_one, h, List.filter_append, List.map_append]
  congr 1
  by_cases z : e.p = p
  · simp [z]
  · simp [z]
theorem nums_len (D : List Ed) (p : Nat) : (nums D p).length ≤ D.length := by
  unfold nums
  rw [List.length_map]
  exact List.length_filter_le _ _
theorem mem_nums {D : List Ed} {p : Nat} {k : Int} : k ∈ nums D p ↔ ∃ e ∈ D, e.p = p ∧ e.n = k := by
  unfold nums
  rw [List.mem_map]
  constructor
  · rintro ⟨e, he, rfl⟩
    have := List.mem_filter.mp he
    exact ⟨e, this.1, of_decide_eq_true this.2, rfl⟩
  · rintro ⟨e, he, hp, rfl⟩
    exact ⟨e, List.mem_filter.mpr ⟨he, decide_eq_true hp⟩, rfl⟩
/-! ### sorted(xs), xs of data -/
theorem each_of_vals : ∀ {bs : List (V × PyData)} {vs : List Value}, Vals (bs.map Prod.fst) vs → PySem.W.EachIs (fun (v : Value) (b : V × PyData) => RelV b.1 v) vs bs
  | [], _, h => by
    cases h
    exact .nil
  | _ :: _, _, h => by
    cases h with
    | cons h r => exact .cons h (each_of_vals r)
theorem vals_of_each : ∀ {vs : List Value} {bs : List (V × PyData)}, PySem.W.EachIs (fun (v : Value) (b : V × PyData) => RelV b.1 v) vs bs → Vals (bs.map Prod.fst) vs
  | _, _, .nil => .nil
  | _, _, .cons h r => .cons h (vals_of_each r)
theorem reads_of_each {X : Cx} {pins : List (Addr × Obj)} {σ : L2.St} {H : Hp} {s : Shared} (I : Inv X pins σ H s) : ∀ {vs : List Value} {bs : List (V × PyData)}, PySem.W.EachIs (fun (v : Value) (b : V × PyData) => RelV b.1 v) vs bs → (∀ b ∈ bs, Dp X.K H b.1 b.2) → PySem.W.EachIs (fun (v : Value) (b : V × PyData) => ∃ as, Reads s.heap v b.2 as) vs bs
  | _, _, .nil, _ => .nil
  | _, _, .cons h r, d => .cons (Dp.reads I _ _ _ (d _ (List.mem_cons_self ..)) h) (reads_of_each I r fun b hb => d b (List.mem_cons_of_mem _ hb))
def rSortedD (K : PySem.W.Frag) : List V → Hp → VK → Prop := fun vs H Q => ∃ (a : Addr) (bs : List (V × PyData)), vs = [V.ref a] ∧ SqL K H a (bs.map Prod.fst) ∧ (∀ b ∈ bs, Dp K H b.1 b.2) ∧ PySem.W.AllAlike (bs.map Prod.snd) ∧ PySem.W.Sortable (bs.map Prod.snd) ∧ (∀ b ∈ bs, b.2.depth ≤ 50) ∧
  ∀ p, H p = none → Q (.ref p) (upd H p (.lst ((bs.mergeSort (PySem.W.dataLe false Prod.snd)).map Prod.fst)))
theorem cr_sortedD {X : Cx} (hu : X.A.units + 64 < cLine) : CallR X (.builtin "sorted") (rSortedD X.K) := by
  intro pins s σ H vs us Q I r h
  obtain ⟨a, bs, rfl, hs, hd, hal, hso, hdp, q⟩ := h
  obtain ⟨its, rv, hl, hz⟩ := I.list hs
  rw [Vals.ref1 r]
  have e := each_of_vals rv
  refine PySem.W.sorted_data (enc := Prod.snd) hl.isList e (reads_of_each I e hd) hal hso (by rw [List.length_map] at hz; exact hz) (fun b hb => ?_) fun out h1 h2 => ?_
  · have := hdp b hb
    omega
  obtain ⟨ep, he'⟩ := PyProof.Rows.sortedAll_at s.heap its out.toArray
  have hlen : ((bs.mergeSort (PySem.W.dataLe false Prod.snd)).map Prod.fst).length ≤ sizeLine := by
    rw [List.length_map, List.length_mergeSort]
    rw [List.length_map] at hz
    exact hz
  exact ⟨.ref _, upd H (s.heap.objs.size + 1) (.lst ((bs.mergeSort (PySem.W.dataLe false Prod.snd)).map Prod.fst)), I.laid (t' := s.toks) (fun _ _ => PyProof.Rows.sortedAll_old) (Nat.le_succ _) ⟨hlen, out, ep, vals_of_each h2, he'⟩, rfl, q _ (I.hok.fresh (Nat.le_succ _))⟩
open SX (S S_len S_cat slice_to slice_from num_S int_S)
open PySem.NumText (digitsVal AllDigits)
open TL (numL)
def spCell (K : PySem.W.Frag) : Sp := fun vs H Q _ => ∃ (a : Addr) (ns : List Int) (k : Int), vs = [.ref a, .int k] ∧ 0 ≤ k ∧ SqL K H a (ns.map V.int) ∧ ∀ v : Int, Q (.int v) H
theorem okLawCell (T : Txt K mg) : FnOk P w K mg base CX0 1 T.fLawCell T.fdLawCell ["script", "k"] (spCell K) := by
  refine T.FLawCell.ok scLawCell (fun vs H Q E h => ?_) (fun cdv A outer s H vs Q E hr h => ?_)
  · obtain ⟨a, ns, k, rfl, _⟩ := h
    rfl
  · obtain ⟨a, ns, k, rfl, h0, hS, q⟩ := h
    obtain ⟨k, rfl⟩ := Int.eq_ofNat_of_zero_le h0
    -- slots script=0 k=1
    refine ⟨_, (pss_cons (ps_if (pt_cmpR op_lt (pv 1) (pe_callB call_len_seq (by rfl) T.z_len PySem.boot_len (pa_cons (pv 0) pa_nil)) (nomark _))
          (pss_one (ps_ret (pe_ix ix_list (pv 0) (pv 1) (fun _ _ => rfl))))
          pss_nil)
        (pss_one (ps_ret pe_int))), ?_⟩
    refine ⟨_, rfl, _, rfl, a, _, rfl, .inl hS, _, _, rfl, rfl, _, rfl, ite2 (fun c => ?_) (fun c => ?_)⟩
    · have hk : k < ns.length := by
        have c2 := of_decide_eq_true c
        rw [List.length_map] at c2
        omega
      exact ⟨_, rfl, _, rfl, a, _, _, _, rfl, rfl, hS, atI_nat (getD_at hk), q _⟩
    · exact q 0
/-! ### numbers that a law draws -/
structure Dig (ds : List Int) (n : Nat) : Prop where
  all : ∀ x ∈ ds, 0 ≤ x ∧ x < 1000
  len : ds.length ≤ n
theorem Dig.nil : Dig [] 0 := ⟨fun _ h => (nomatch h), Nat.le_refl _⟩
theorem Dig.more {ds : List Int} {n m : Nat} (h : Dig ds n) (hm : n ≤ m) : Dig ds m := ⟨h.all, Nat.le_trans h.len hm⟩
theorem Dig.add {ds : List Int} {n : Nat} (h : Dig ds n) (x : Int) : Dig (ds ++ [x % 1000]) (n + 1) := by
  refine ⟨fun y hy => ?_, ?_⟩
  · rcases List.mem_append.mp hy with q | q
    · exact h.all y q
    · obtain rfl : y = x % 1000 := by simpa using q
      omega
  · rw [List.length_append]
    have := h.len
    simp only [List.length_singleton]
    omega
def spDigits (K : PySem.W.Frag) : Sp := fun vs H Q _ => ∃ (a : Addr) (ns : List Int) (lo : Nat) (hi : Nat), vs = [.ref a, .int (lo : Int), .int (hi : Int)] ∧ lo ≤ hi ∧ hi ≤ 1000 ∧ SqL K H a (ns.map V.int) ∧
  ∀ H' d ds, Same H H' → H d = none → H' d = some (.lst (ds.map V.int)) → Dig ds (60 * (hi - lo)) → Q (.ref d) H'
theorem okLawDigits (T : Txt K mg) : FnOk P w K mg base CX0 2 T.fLawDigits T.fdLawDigits ["script", "first", "last"] (spDigits K) := by
  refine T.FLawDigits.ok scLawDigits (fun vs H Q E h => ?_) (fun cdv A outer s H vs Q E hr h => ?_)
  · obtain ⟨a, ns, lo, hi, rfl, _⟩ := h
    rfl
  · obtain ⟨a, ns, lo, hi, rfl, hlh, hh, hS, q⟩ := h
    -- slots script=0 first=1 last=2 digits=3 k=4 cell=5 turn=6 seed=7
    refine ⟨_, (pss_cons (ps_set (i := 3) scLawDigits.nd rfl (Or.inl rfl) (pe_lst pa_nil))
        (pss_cons (ps_for PassesOwn.never rfl (pi_range2 rfl T.z_range (pa_cons (pv 1) (pa_cons (pv 2) pa_nil))) (pg_name (i := 4) scLawDigits.nd rfl (Or.inl rfl))
          (pss_cons (ps_set (i := 5) scLawDigits.nd rfl (Or.inl rfl) (pe_call (okLawCell T) (hr.mono (by decide)) (by rfl) T.gLawCell T.FLawCell.kp T.bLawCell .nil pass0 (pa_cons (pv 0) (pa_cons (pv 4) pa_nil))))
          (pss_cons (ps_if (pt_cmpR op_lt (pv 5) pe_int (nomark _))
            (pss_one (ps_set (i := 5) scLawDigits.nd rfl (Or.inl rfl) (pe_op op_sub pe_int (pe_op op_mul pe_int (pv 5)))))
            pss_nil)
          (pss_one (ps_if (pt_cmpR op_ge (pv 5) (pe_op op_pow pe_int pe_int) (nomark _))
            (pss_one (ps_for PassesOwn.never rfl (pi_range1 rfl T.z_range (pa_cons pe_int pa_nil)) (pg_name (i := 6) scLawDigits.nd rfl (Or.inl rfl))
              (pss_one (ps_if (pt_cmpR op_gt (pv 5) pe_int (nomark _))
                (pss_cons (ps_expr (pe_bm PySem.F.plainAttrs_list PySem.F.slot_list_append PySem.F.type_list_append mt_append (pv 3) (pa_cons (pe_op op_mod (pe_callTy call_int1 (by rfl) T.z_int (by decide +kernel) (pa_cons (pv 5) pa_nil)) pe_int) pa_nil)))
                (pss_one (ps_set (i := 5) scLawDigits.nd rfl (Or.inl rfl) (pe_op op_fdiv (pv 5) pe_int))))
                pss_nil))))
            (pss_cons (ps_set (i := 7) scLawDigits.nd rfl (Or.inl rfl) (pe_op op_mod (pe_callTy call_int1 (by rfl) T.z_int (by decide +kernel) (pa_cons (pe_op op_add (pe_op op_add (pe_op op_mul (pv 5) pe_int) (pe_op op_mul (pv 4) pe_int)) pe_int) pa_nil)) pe_int))
            (pss_one (ps_for PassesOwn.never rfl (pi_range1 rfl T.z_range (pa_cons pe_int pa_nil)) (pg_name (i := 6) scLawDigits.nd rfl (Or.inl rfl))
              (pss_cons (ps_set (i := 7) scLawDigits.nd rfl (Or.inl rfl) (pe_op op_mod (pe_callTy call_int1 (by rfl) T.z_int (by decide +kernel) (pa_cons (pe_op op_add (pe_op op_add (pe_op op_mul (pv 7) pe_int) (pe_op op_mul pe_int (pv 6))) pe_int) pa_nil)) pe_int))
              (pss_one (ps_expr (pe_bm PySem.F.plainAttrs_list PySem.F.slot_list_append PySem.F.type_list_append mt_append (pv 3) (pa_cons (pe_op op_mod (pe_callTy call_int1 (by rfl) T.z_int (by decide +kernel) (pa_cons (pe_op op_fdiv (pv 7) pe_int) pa_nil)) pe_int) pa_nil)))))))))))))
        (pss_one (ps_ret (pv 3))))), ?_⟩
    refine ⟨Nat.zero_le _, fun d hd => ?_⟩
    refine ⟨_, rfl, _, rfl, _, _, rfl, ⟨by omega, by omega, by omega, by omega⟩, ?_⟩
    refine for_range (lo := lo) (n := ((hi : Int) - lo).toNat) (fun i σ H' => ∃ ds c0 c1 c2 c3, σ = [some (.ref a), some (.int (lo : Int)), some (.int (hi : Int)), some (.ref d), c0, c1, c2, c3] ∧ Same H H' ∧ H' d = some (.lst (ds.map V.int)) ∧ Dig ds (60 * i))
      ⟨[], _, _, _, _, rfl, same_new hd, upd_same, Dig.nil⟩ ?_ ?_
    · rintro i σ H1 hi2 ⟨ds, c0, c1, c2, c3, rfl, s1, hd1, D⟩
      -- cell = _law_cell(script, k)
      refine ⟨_, rfl, _, rfl, a, ns, _, rfl, by omega, s1.seq hS, fun v => ?_⟩
      -- if cell < 0
      refine ⟨_, rfl, _, _, rfl, rfl, _, rfl, ite2 (fun _ => ?_) (fun _ => ?_)⟩
      · refine ⟨_, rfl, _, _, rfl, rfl, .inl ⟨by decide, by decide⟩, _, _, rfl, rfl, ?_⟩
        refine ⟨_, rfl, _, _, rfl, rfl, ⟨by decide, by decide, by decide⟩, _, _, rfl, rfl, _, rfl, ite2 (fun _ => ?_) (fun _ => ?_)⟩
        · refine ⟨60, rfl, by decide, by decide, for_range (lo := 0) (n := 60) (fun t σ H' => ∃ ds c c1, σ = [some (.ref a), some (.int (lo : Int)), some (.int (hi : Int)), some (.ref d), some (.int ((lo : Int) + i)), some (.int c), c1, c3] ∧ Same H H' ∧ H' d = some (.lst (ds.map V.int)) ∧ Dig ds (60 * i + t)) ⟨ds, _, _, rfl, s1, hd1, D⟩ ?_ ?_⟩
          · rintro t σ H2 ht ⟨ds, c, c1, rfl, s2, hd2, D2⟩
            refine ⟨_, rfl, _, _, rfl, rfl, _, rfl, ite2 (fun _ => ?_) (fun _ => ?_)⟩
            · refine ⟨_, rfl, .inl ⟨rfl, _, SqL.of hd2⟩, _, rfl, .inl ⟨_, rfl, _, _, rfl, rfl, (by show (0 : Int) < _; decide), d, _, _, rfl, rfl, hd2, ?_, _, rfl, _, _, rfl, rfl, ⟨by decide, by decide⟩, ?_⟩⟩
              · rw [List.length_map]
                exact Nat.lt_of_le_of_lt D2.len (Nat.lt_of_lt_of_le (show 60 * i + t < 100000 by omega) (by decide))
              · exact ⟨ds ++ [c % 1000], _, _, rfl, same_mut s2 hd, by rw [upd_same, List.map_append]; rfl, D2.add c⟩
            · exact ⟨ds, _, _, rfl, s2, hd2, D2.more (Nat.le_succ _)⟩
          · rintro σ H2 ⟨ds, c, c1, rfl, s2, hd2, D2⟩
            exact ⟨ds, _, _, _, _, rfl, s2, hd2, D2⟩
        · refine ⟨_, rfl, _, _, rfl, rfl, .inr ⟨by decide, by decide⟩, _, rfl, _, _, rfl, rfl, .inr ⟨by decide, by decide⟩, _, _, rfl, rfl, _, _, rfl, rfl, .inl ⟨_, rfl, _, _, rfl, rfl, (by show (0 : Int) < _; decide), ?_⟩⟩
          refine ⟨12, rfl, by decide, by decide, for_range (lo := 0) (n := 12) (fun t σ H' => ∃ ds c c1 sd, σ = [some (.ref a), some (.int (lo : Int)), some (.int (hi : Int)), some (.ref d), some (.int ((lo : Int) + i)), some (.int c), c1, some (.int sd)] ∧ Same H H' ∧ H' d = some (.lst (ds.map V.int)) ∧ Dig ds (60 * i + t)) ⟨ds, _, _, _, rfl, s1, hd1, D⟩ ?_ ?_⟩
          · rintro t σ H2 ht ⟨ds, c, c1, sd, rfl, s2, hd2, D2⟩
            refine ⟨_, rfl, _, _, rfl, rfl, .inr ⟨by decide, by decide⟩, _, rfl, _, _, rfl, rfl, .inl ⟨by decide, by decide⟩, _, _, rfl, rfl, _, _, rfl, rfl, .inl ⟨_, rfl, _, _, rfl, rfl, (by show (0 : Int) < _; decide), ?_⟩⟩
            refine ⟨_, rfl, .inl ⟨rfl, _, SqL.of hd2⟩, _, rfl, _, _, rfl, rfl, ⟨by decide, by decide⟩, .inl ⟨_, rfl, _, _, rfl, rfl, (by show (0 : Int) < _; decide), d, _, _, rfl, rfl, hd2, ?_, ?_⟩⟩
            · rw [List.length_map]
              exact Nat.lt_of_le_of_lt D2.len (Nat.lt_of_lt_of_le (show 60 * i + t < 100000 by omega) (by decide))
            · exact ⟨ds ++ [_ % 1000], _, _, _, rfl, same_mut s2 hd, by rw [upd_same, List.map_append]; rfl, D2.add _⟩
          · rintro σ H2 ⟨ds, c, c1, sd, rfl, s2, hd2, D2⟩
            exact ⟨ds, _, _, _, _, rfl, s2, hd2, D2.more (by omega)⟩
      · refine ⟨_, rfl, _, _, rfl, rfl, ⟨by decide, by decide, by decide⟩, _, _, rfl, rfl, _, rfl, ite2 (fun _ => ?_) (fun _ => ?_)⟩
        · refine ⟨60, rfl, by decide, by decide, for_range (lo := 0) (n := 60) (fun t σ H' => ∃ ds c c1, σ = [some (.ref a), some (.int (lo : Int)), some (.int (hi : Int)), some (.ref d), some (.int ((lo : Int) + i)), some (.int c), c1, c3] ∧ Same H H' ∧ H' d = some (.lst (ds.map V.int)) ∧ Dig ds (60 * i + t)) ⟨ds, _, _, rfl, s1, hd1, D⟩ ?_ ?_⟩
          · rintro t σ H2 ht ⟨ds, c, c1, rfl, s2, hd2, D2⟩
            refine ⟨_, rfl, _, _, rfl, rfl, _, rfl, ite2 (fun _ => ?_) (fun _ => ?_)⟩
            · refine ⟨_, rfl, .inl ⟨rfl, _, SqL.of hd2⟩, _, rfl, .inl ⟨_, rfl, _, _, rfl, rfl, (by show (0 : Int) < _; decide), d, _, _, rfl, rfl, hd2, ?_, _, rfl, _, _, rfl, rfl, ⟨by decide, by decide⟩, ?_⟩⟩
              · rw [List.length_map]
                exact Nat.lt_of_le_of_lt D2.len (Nat.lt_of_lt_of_le (show 60 * i + t < 100000 by omega) (by decide))
              · exact ⟨ds ++ [c % 1000], _, _, rfl, same_mut s2 hd, by rw [upd_same, List.map_append]; rfl, D2.add c⟩
            · exact ⟨ds, _, _, rfl, s2, hd2, D2.more (Nat.le_succ _)⟩
          · rintro σ H2 ⟨ds, c, c1, rfl, s2, hd2, D2⟩
            exact ⟨ds, _, _, _, _, rfl, s2, hd2, D2⟩
        · refine ⟨_, rfl, _, _, rfl, rfl, .inr ⟨by decide, by decide⟩, _, rfl, _, _, rfl, rfl, .inr ⟨by decide, by decide⟩, _, _, rfl, rfl, _, _, rfl, rfl, .inl ⟨_, rfl, _, _, rfl, rfl, (by show (0 : Int) < _; decide), ?_⟩⟩
          refine ⟨12, rfl, by decide, by decide, for_range (lo := 0) (n := 12) (fun t σ H' => ∃ ds c c1 sd, σ = [some (.ref a), some (.int (lo : Int)), some (.int (hi : Int)), some (.ref d), some (.int ((lo : Int) + i)), some (.int c), c1, some (.int sd)] ∧ Same H H' ∧ H' d = some (.lst (ds.map V.int)) ∧ Dig ds (60 * i + t)) ⟨ds, _, _, _, rfl, s1, hd1, D⟩ ?_ ?_⟩
          · rintro t σ H2 ht ⟨ds, c, c1, sd, rfl, s2, hd2, D2⟩
            refine ⟨_, rfl, _, _, rfl, rfl, .inr ⟨by decide, by decide⟩, _, rfl, _, _, rfl, rfl, .inl ⟨by decide, by decide⟩, _, _, rfl, rfl, _, _, rfl, rfl, .inl ⟨_, rfl, _, _, rfl, rfl, (by show (0 : Int) < _; decide), ?_⟩⟩
            refine ⟨_, rfl, .inl ⟨rfl, _, SqL.of hd2⟩, _, rfl, _, _, rfl, rfl, ⟨by decide, by decide⟩, .inl ⟨_, rfl, _, _, rfl, rfl, (by show (0 : Int) < _; decide), d, _, _, rfl, rfl, hd2, ?_, ?_⟩⟩
            · rw [List.length_map]
              exact Nat.lt_of_le_of_lt D2.len (Nat.lt_of_lt_of_le (show 60 * i + t < 100000 by omega) (by decide))
            · exact ⟨ds ++ [_ % 1000], _, _, _, rfl, same_mut s2 hd, by rw [upd_same, List.map_append]; rfl, D2.add _⟩
          · rintro σ H2 ⟨ds, c, c1, sd, rfl, s2, hd2, D2⟩
            exact ⟨ds, _, _, _, _, rfl, s2, hd2, D2.more (by omega)⟩
    · rintro σ H1 ⟨ds, c0, c1, c2, c3, rfl, s1, hd1, D⟩
      exact ⟨_, rfl, q _ d ds s1 hd hd1 (by rw [show ((hi : Int) - lo).toNat = hi - lo by omega] at D; exact D)⟩
/-- all but the box stays, and the box keeps its list -/
structure Kp (b : Addr) (H H' : Hp) : Prop where
  k : ∀ c o, c ≠ b → H c = some o → H' c = some o
  d : ∀ (x j : V), H b = some (.lst [x, j]) → ∃ j', H' b = some (.lst [x, j'])
instance {b : Addr} {H H' : Hp} : CoeFun (Kp b H H') (fun _ => ∀ c o, c ≠ b → H c = some o → H' c = some o) := ⟨Kp.k⟩
theorem Kp.refl {b : Addr} {H : Hp} : Kp b H H := ⟨fun _ _ _ h => h, fun _ j h => ⟨j, h⟩⟩
theorem Kp.trans {b : Addr} {H H1 H2 : Hp} (x : Kp b H H1) (y : Kp b H1 H2) : Kp b H H2 := ⟨fun c o n h => y.k c o n (x.k c o n h), fun v j h => by
  obtain ⟨j1, h1⟩ := x.d v j h
  exact y.d v j1 h1⟩
theorem Kp.of {b : Addr} {H H1 : Hp} (x : Same H H1) : Kp b H H1 := ⟨fun c o _ h => x c o h, fun _ j h => ⟨j, x _ _ h⟩⟩
theorem Kp.same {b : Addr} {H H1 H2 : Hp} (x : Same H H1) (h : H b = none) (y : Kp b H1 H2) : Same H H2 := fun c o e => y.k c o (ne_of_none e h) (x c o e)
/-- a box of drawn digits and the place of the next one -/
def Box (H : Hp) (b : Addr) : Prop := ∃ (d : Addr) (ds : List Int) (i : Nat), H b = some (.lst [.ref d, .int (i : Int)]) ∧ H d = some (.lst (ds.map V.int)) ∧ b ≠ d
theorem Box.same {H H' : Hp} {b : Addr} (s : Same H H') (h : Box H b) : Box H' b := by
  obtain ⟨d, ds, i, h1, h2, h3⟩ := h
  exact ⟨d, ds, i, s _ _ h1, s _ _ h2, h3⟩
def spDraw (K : PySem.W.Frag) : Sp := fun vs H Q _ => ∃ (b : Addr) (m : Int), vs = [.ref b, .int m] ∧ 0 < m ∧ Box H b ∧ ∀ x H', 0 ≤ x → x < m → Box H' b → Kp b H H' → Q (.int x) H'
theorem okLawDraw (T : Txt K mg) : FnOk P w K mg base CX0 1 T.fLawDraw T.fdLawDraw ["box", "many"] (spDraw K) := by
  refine T.FLawDraw.ok scLawDraw (fun vs H Q E h => ?_) (fun cdv A outer s H vs Q E hr h => ?_)
  · obtain ⟨b, m, rfl, _⟩ := h
    rfl
  · obtain ⟨b, m, rfl, hm, ⟨d, ds, i, hb, hd, nbd⟩, q⟩ := h
    -- slots box=0 many=1 at=2
    refine ⟨_, (pss_cons (ps_set (i := 2) scLawDraw.nd rfl (Or.inl rfl) (pe_ix ix_list (pv 0) pe_int (fun _ _ => rfl)))
        (pss_cons (ps_asg (pe_op op_add (pv 2) pe_int) (pg_sub (pv 0) pe_int set_list))
        (pss_cons (ps_if (pt_cmpR op_lt (pv 2) (pe_callB call_len_seq (by rfl) T.z_len PySem.boot_len (pa_cons (pe_ix ix_list (pv 0) pe_int (fun _ _ => rfl)) pa_nil)) (nomark _))
          (pss_one (ps_ret (pe_op op_mod (pe_callTy call_int1 (by rfl) T.z_int (by decide +kernel) (pa_cons (pe_ix ix_list (pe_ix ix_list (pv 0) pe_int (fun _ _ => rfl)) (pv 2) (fun _ _ => rfl)) pa_nil)) (pv 1))))
          pss_nil)
        (pss_one (ps_ret pe_int))))), ?_⟩
    refine ⟨_, rfl, b, _, _, _, rfl, rfl, SqL.of hb, atI_nat (j := 1) rfl, _, rfl, _, _, rfl, rfl, _, rfl, b, _, _, 1, rfl, rfl, hb, rfl, ?_⟩
    have hb' : (upd H b (.lst ([.ref d, .int (i : Int)].set 1 (.int ((i : Int) + 1))))) b = some (.lst [.ref d, .int ((i : Int) + 1)]) := upd_same
    have hd' : (upd H b (.lst ([.ref d, .int (i : Int)].set 1 (.int ((i : Int) + 1))))) d = some (.lst (ds.map V.int)) := by
      rw [upd_ne nbd.symm]
      exact hd
    have kp : Kp b H (upd H b (.lst ([.ref d, .int (i : Int)].set 1 (.int ((i : Int) + 1))))) := ⟨fun c o n e => by
      rw [upd_ne n]
      exact e, fun x j h => by
      rw [hb] at h
      cases h
      exact ⟨_, hb'⟩⟩
    refine ⟨_, rfl, _, rfl, b, _, _, _, rfl, rfl, SqL.of hb', atI_nat (j := 0) rfl, d, _, rfl, .inl (SqL.of hd'), _, _, rfl, rfl, _, rfl, ite2 (fun c => ?_) (fun c => ?_)⟩
    · have hk : i < ds.length := by
        have c2 := of_decide_eq_true c
        rw [List.length_map] at c2
        omega
      refine ⟨_, rfl, b, _, _, _, rfl, rfl, SqL.of hb', atI_nat (j := 0) rfl, _, rfl, d, _, _, _, rfl, rfl, SqL.of hd', atI_nat (getD_at hk), .inl ⟨_, rfl, _, rfl, _, _, rfl, rfl, hm, ?_⟩⟩
      exact q _ _ (Int.emod_nonneg _ (by omega)) (Int.emod_lt_of_pos _ hm) ⟨d, ds, i + 1, hb', hd', nbd⟩ kp
    · exact q _ _ (Int.le_refl _) hm ⟨d, ds, i + 1, hb', hd', nbd⟩ kp
/-! ### the law's own comparison -/
def Scal : V → Prop
  | .non => True
  | .bl _ => True
  | .int _ => True
  | .str _ => True
  | _ => False
def Lk (H : Hp) : Nat → V → V → Prop
  | 0, x, y => x = y ∧ Scal y
  | n + 1, x, y => (x = y ∧ Scal y) ∨
    (∃ a b xs ys, x = .ref a ∧ y = .ref b ∧ H a = some (.tup xs) ∧ H b = some (.tup ys) ∧ xs.length = ys.length ∧ xs.length ≤ 100000 ∧ ∀ (i : Nat) u v, xs[i]? = some u → ys[i]? = some v → Lk H n u v) ∨
    (∃ a b xs ys, x = .ref a ∧ y = .ref b ∧ H a = some (.lst xs) ∧ H b = some (.lst ys) ∧ xs.length = ys.length ∧ xs.length ≤ 100000 ∧ ∀ (i : Nat) u v, xs[i]? = some u → ys[i]? = some v → Lk H n u v)
/-- a tuple that stands: tracked, or one of the text's own -/
def TP (K : PySem.W.Frag) (H : Hp) (a : Addr) (xs : List V) : Prop := H a = some (.tup xs) ∨ ((∀ H', SqT K H' a xs) ∧ ∃ o, K.lookup a = some o ∧ o.cls = .type "tuple")
theorem TP.sq {K : PySem.W.Frag} {H : Hp} {a : Addr} {xs : List V} (h : TP K H a xs) : SqT K H a xs := by
  rcases h with h | ⟨h, _⟩
  · exact SqT.of h
  · exact h H
theorem TP.ty {K : PySem.W.Frag} {H : Hp} {a : Addr} {xs : List V} (h : TP K H a xs) : TyX K H (.ref a) (.type "tuple") := by
  rcases h with h | ⟨_, o, e, c⟩
  · exact .base (.tup h)
  · exact .kTuple e c
def LkK (K : PySem.W.Frag) (H : Hp) : Nat → V → V → Prop
  | 0, x, y => x = y ∧ Scal y
  | n + 1, x, y => (x = y ∧ Scal y) ∨
    (∃ a b xs ys, x = .ref a ∧ y = .ref b ∧ TP K H a xs ∧ TP K H b ys ∧ xs.length = ys.length ∧ xs.length ≤ 100000 ∧ ∀ (i : Nat) u v, xs[i]? = some u → ys[i]? = some v → LkK K H n u v) ∨
    (∃ a b xs ys, x = .ref a ∧ y = .ref b ∧ H a = some (.lst xs) ∧ H b = some (.lst ys) ∧ xs.length = ys.length ∧ xs.length ≤ 100000 ∧ ∀ (i : Nat) u v, xs[i]? = some u → ys[i]? = some v → LkK K H n u v)
theorem Lk.k {K : PySem.W.Frag} {H : Hp} : ∀ {n : Nat} {x y : V}, Lk H n x y → LkK K H n x y
  | 0, _, _, h => h
  | n + 1, x, y, h => by
    rcases h with h | ⟨a, b, xs, ys, e1, e2, h1, h2, h3, h4, h5⟩ | ⟨a, b, xs, ys, e1, e2, h1, h2, h3, h4, h5⟩
    · exact .inl h
    · exact .inr (.inl ⟨a, b, xs, ys, e1, e2, .inl h1, .inl h2, h3, h4, fun i u v g1 g2 => (h5 i u v g1 g2).k⟩)
    · exact .inr (.inr ⟨a, b, xs, ys, e1, e2, h1, h2, h3, h4, fun i u v g1 g2 => (h5 i u v g1 g2).k⟩)
theorem isi {K : PySem.W.Frag} {H : Hp} {x : V} {t c : String} {b : Bool} {Q : VK} (ty : TyX K H x (.type t)) (h : kitB t c = some b) (q : Q (.bl b) H) : rIsi K [x, .ty c] H Q := ⟨x, .ty c, _, _, b, rfl, .ty c, ty, kit_ty h, q⟩
def spSame (K : PySem.W.Frag) (n : Nat) : Sp := fun vs H Q _ => ∃ (x y : V), vs = [x, y] ∧ LkK K H n x y ∧ Q (.bl true) H
theorem okLawSame (T : Txt K mg) : ∀ n : Nat, FnOk P w K mg base CX0 (n + 1) T.fLawSame T.fdLawSame ["actual", "due"] (spSame K n)
  | 0 => by
    refine T.FLawSame.ok scLawSame (fun vs H Q E h => ?_) (fun cdv A outer s H vs Q E hr h => ?_)
    · obtain ⟨x, y, rfl, _⟩ := h
      rfl
    · obtain ⟨x, y, rfl, ⟨rfl, sy⟩, q⟩ := h
      -- slots actual=0 due=1 k=2
      refine ⟨_, (pss_cons (ps_if (PW.pt (pw_or (pt_val (pe_callB call_isi (by rfl) T.z_isinstance (by decide +kernel) (pa_cons (pv 1) (pa_cons (pe_bltn (v := .ty "list") (by rfl) T.z_list (by decide +kernel) rfl) pa_nil)))) (pw_or1 (pt_val (pe_callB call_isi (by rfl) T.z_isinstance (by decide +kernel) (pa_cons (pv 1) (pa_cons (pe_bltn (v := .ty "tuple") (by rfl) T.z_tuple (by decide +kernel) rfl) pa_nil)))))))
            (pss_cons ps_never
            (pss_cons ps_never
            (pss_cons ps_never
            (pss_one ps_never))))
            pss_nil)
          (pss_cons (ps_if (pt_cmpR op_isN (pv 1) pe_non (nomark _))
            (pss_one (ps_ret (pe_cmpR op_isN (pv 0) pe_non (nomark _))))
            pss_nil)
          (pss_cons (ps_if (pt_val (pe_callB call_isi (by rfl) T.z_isinstance (by decide +kernel) (pa_cons (pv 1) (pa_cons (pe_bltn (v := .ty "bool") (by rfl) T.z_bool (by decide +kernel) rfl) pa_nil))))
            (pss_one (ps_ret (pe_and (pe_callB call_isi (by rfl) T.z_isinstance (by decide +kernel) (pa_cons (pv 0) (pa_cons (pe_bltn (v := .ty "bool") (by rfl) T.z_bool (by decide +kernel) rfl) pa_nil))) (pe_one (pe_cmpR op_eq (pv 0) (pv 1) (nomark _))))))
            pss_nil)
          (pss_cons (ps_if (pt_val (pe_callB call_isi (by rfl) T.z_isinstance (by decide +kernel) (pa_cons (pv 1) (pa_cons (pe_bltn (v := .ty "str") (by rfl) T.z_str (by decide +kernel) rfl) pa_nil))))
            (pss_one (ps_ret (pe_and (pe_callB call_isi (by rfl) T.z_isinstance (by decide +kernel) (pa_cons (pv 0) (pa_cons (pe_bltn (v := .ty "str") (by rfl) T.z_str (by decide +kernel) rfl) pa_nil))) (pe_one (pe_cmpR op_eq (pv 0) (pv 1) (nomark _))))))
            pss_nil)
          (pss_one (ps_ret (pe_and (pe_callB call_isi (by rfl) T.z_isinstance (by decide +kernel) (pa_cons (pv 0) (pa_cons (pe_bltn (v := .ty "int") (by rfl) T.z_int (by decide +kernel) rfl) pa_nil))) (pe_and (pe_not (pe_callB call_isi (by rfl) T.z_isinstance (by decide +kernel) (pa_cons (pv 0) (pa_cons (pe_bltn (v := .ty "bool") (by rfl) T.z_bool (by decide +kernel) rfl) pa_nil)))) (pe_one (pe_cmpR op_eq (pv 0) (pv 1) (nomark _))))))))))), ?_⟩
      cases x with
      | non =>
        refine ⟨_, rfl, _, _, _, _, false, rfl, .ty _, .base (.non), kit_ty (by decide +kernel), _, rfl, iteF ⟨_, rfl, _, _, _, _, false, rfl, .ty _, .base (.non), kit_ty (by decide +kernel), _, rfl, iteF ?_⟩⟩
        refine ⟨_, rfl, rfl, _, rfl, ite2 (fun _ => ?_) (fun c => absurd (decide_eq_true rfl) c)⟩
        refine ⟨_, rfl, rfl, ?_⟩
        rw [decide_eq_true rfl]
        exact q
      | bl v =>
        refine ⟨_, rfl, _, _, _, _, false, rfl, .ty _, .base (.bl v), kit_ty (by decide +kernel), _, rfl, iteF ⟨_, rfl, _, _, _, _, false, rfl, .ty _, .base (.bl v), kit_ty (by decide +kernel), _, rfl, iteF ?_⟩⟩
        refine ⟨_, rfl, rfl, _, rfl, ite2 (fun c => (nomatch (of_decide_eq_true c))) (fun _ => ?_)⟩
        refine ⟨_, rfl, _, _, _, _, true, rfl, .ty _, .base (.bl v), kit_ty (by decide +kernel), _, rfl, iteT ?_⟩
        refine ⟨_, rfl, _, _, _, _, true, rfl, .ty _, .base (.bl v), kit_ty (by decide +kernel), _, rfl, iteT ?_⟩
        refine ⟨_, rfl, _, rfl, rfl, ?_⟩
        rw [decide_eq_true rfl]
        exact q
      | int v =>
        refine ⟨_, rfl, _, _, _, _, false, rfl, .ty _, .base (.int v), kit_ty (by decide +kernel), _, rfl, iteF ⟨_, rfl, _, _, _, _, false, rfl, .ty _, .base (.int v), kit_ty (by decide +kernel), _, rfl, iteF ?_⟩⟩
        refine ⟨_, rfl, rfl, _, rfl, ite2 (fun c => (nomatch (of_decide_eq_true c))) (fun _ => ?_)⟩
        refine ⟨_, rfl, _, _, _, _, false, rfl, .ty _, .base (.int v), kit_ty (by decide +kernel), _, rfl, iteF ?_⟩
        refine ⟨_, rfl, _, _, _, _, false, rfl, .ty _, .base (.int v), kit_ty (by decide +kernel), _, rfl, iteF ?_⟩
        refine ⟨_, rfl, _, _, _, _, true, rfl, .ty _, .base (.int v), kit_ty (by decide +kernel), _, rfl, iteT ?_⟩
        refine ⟨_, rfl, _, _, _, _, false, rfl, .ty _, .base (.int v), kit_ty (by decide +kernel), _, rfl, _, rfl, iteT ?_⟩
        refine ⟨_, rfl, _, rfl, rfl, ?_⟩
        rw [decide_eq_true rfl]
        exact q
      | str v =>
        refine ⟨_, rfl, _, _, _, _, false, rfl, .ty _, .base (.str v), kit_ty (by decide +kernel), _, rfl, iteF ⟨_, rfl, _, _, _, _, false, rfl, .ty _, .base (.str v), kit_ty (by decide +kernel), _, rfl, iteF ?_⟩⟩
        refine ⟨_, rfl, rfl, _, rfl, ite2 (fun c => (nomatch (of_decide_eq_true c))) (fun _ => ?_)⟩
        refine ⟨_, rfl, _, _, _, _, false, rfl, .ty _, .base (.str v), kit_ty (by decide +kernel), _, rfl, iteF ?_⟩
        refine ⟨_, rfl, _, _, _, _, true, rfl, .ty _, .base (.str v), kit_ty (by decide +kernel), _, rfl, iteT ?_⟩
        refine ⟨_, rfl, _, _, _, _, true, rfl, .ty _, .base (.str v), kit_ty (by decide +kernel), _, rfl, iteT ?_⟩
        refine ⟨_, rfl, _, rfl, rfl, ?_⟩
        rw [decide_eq_true rfl]
        exact q
      | _ => exact sy.elim
  | n + 1 => by
    have IH := okLawSame T n
    refine T.FLawSame.ok scLawSame (fun vs H Q E h => ?_) (fun cdv A outer s H vs Q E hr h => ?_)
    · obtain ⟨x, y, rfl, _⟩ := h
      rfl
    · obtain ⟨x, y, rfl, hL, q⟩ := h
      -- slots actual=0 due=1 k=2
      refine ⟨_, (pss_cons (ps_if (PW.pt (pw_or (pt_val (pe_callB call_isi (by rfl) T.z_isinstance (by decide +kernel) (pa_cons (pv 1) (pa_cons (pe_bltn (v := .ty "list") (by rfl) T.z_list (by decide +kernel) rfl) pa_nil)))) (pw_or1 (pt_val (pe_callB call_isi (by rfl) T.z_isinstance (by decide +kernel) (pa_cons (pv 1) (pa_cons (pe_bltn (v := .ty "tuple") (by rfl) T.z_tuple (by decide +kernel) rfl) pa_nil)))))))
            (pss_cons (ps_if (PW.pt (pw_or (pt_cmpR op_ne (pe_callB call_isi (by rfl) T.z_isinstance (by decide +kernel) (pa_cons (pv 1) (pa_cons (pe_bltn (v := .ty "list") (by rfl) T.z_list (by decide +kernel) rfl) pa_nil))) (pe_callB call_isi (by rfl) T.z_isinstance (by decide +kernel) (pa_cons (pv 0) (pa_cons (pe_bltn (v := .ty "list") (by rfl) T.z_list (by decide +kernel) rfl) pa_nil))) (nomark _)) (pw_or1 (pt_cmpR op_ne (pe_callB call_isi (by rfl) T.z_isinstance (by decide +kernel) (pa_cons (pv 1) (pa_cons (pe_bltn (v := .ty "tuple") (by rfl) T.z_tuple (by decide +kernel) rfl) pa_nil))) (pe_callB call_isi (by rfl) T.z_isinstance (by decide +kernel) (pa_cons (pv 0) (pa_cons (pe_bltn (v := .ty "tuple") (by rfl) T.z_tuple (by decide +kernel) rfl) pa_nil))) (nomark _)))))
              (pss_one (ps_ret pe_bl))
              pss_nil)
            (pss_cons (ps_if (pt_cmpR op_ne (pe_callB call_len_seq (by rfl) T.z_len PySem.boot_len (pa_cons (pv 0) pa_nil)) (pe_callB call_len_seq (by rfl) T.z_len PySem.boot_len (pa_cons (pv 1) pa_nil)) (nomark _))
              (pss_one (ps_ret pe_bl))
              pss_nil)
            (pss_cons (ps_for PassesOwn.never rfl (pi_range1 rfl T.z_range (pa_cons (pe_callB call_len_seq (by rfl) T.z_len PySem.boot_len (pa_cons (pv 1) pa_nil)) pa_nil)) (pg_name (i := 2) scLawSame.nd rfl (Or.inl rfl))
              (pss_one (ps_if (pt_not (pt_val (pe_call IH (hr.mono (Nat.le_refl _)) (by rfl) T.gLawSame T.FLawSame.kp T.bLawSame .nil pass0 (pa_cons (pe_ix ix_seq (pv 0) (pv 2) (fun _ _ => rfl)) (pa_cons (pe_ix ix_seq (pv 1) (pv 2) (fun _ _ => rfl)) pa_nil)))))
                (pss_one (ps_ret pe_bl))
                pss_nil)))
            (pss_one (ps_ret pe_bl)))))
            pss_nil)
          (pss_cons (ps_if (pt_cmpR op_isN (pv 1) pe_non (nomark _))
            (pss_one (ps_ret (pe_cmpR op_isN (pv 0) pe_non (nomark _))))
            pss_nil)
          (pss_cons (ps_if (pt_val (pe_callB call_isi (by rfl) T.z_isinstance (by decide +kernel) (pa_cons (pv 1) (pa_cons (pe_bltn (v := .ty "bool") (by rfl) T.z_bool (by decide +kernel) rfl) pa_nil))))
            (pss_one (ps_ret (pe_and (pe_callB call_isi (by rfl) T.z_isinstance (by decide +kernel) (pa_cons (pv 0) (pa_cons (pe_bltn (v := .ty "bool") (by rfl) T.z_bool (by decide +kernel) rfl) pa_nil))) (pe_one (pe_cmpR op_eq (pv 0) (pv 1) (nomark _))))))
            pss_nil)
          (pss_cons (ps_if (pt_val (pe_callB call_isi (by rfl) T.z_isinstance (by decide +kernel) (pa_cons (pv 1) (pa_cons (pe_bltn (v := .ty "str") (by rfl) T.z_str (by decide +kernel) rfl) pa_nil))))
            (pss_one (ps_ret (pe_and (pe_callB call_isi (by rfl) T.z_isinstance (by decide +kernel) (pa_cons (pv 0) (pa_cons (pe_bltn (v := .ty "str") (by rfl) T.z_str (by decide +kernel) rfl) pa_nil))) (pe_one (pe_cmpR op_eq (pv 0) (pv 1) (nomark _))))))
            pss_nil)
          (pss_one (ps_ret (pe_and (pe_callB call_isi (by rfl) T.z_isinstance (by decide +kernel) (pa_cons (pv 0) (pa_cons (pe_bltn (v := .ty "int") (by rfl) T.z_int (by decide +kernel) rfl) pa_nil))) (pe_and (pe_not (pe_callB call_isi (by rfl) T.z_isinstance (by decide +kernel) (pa_cons (pv 0) (pa_cons (pe_bltn (v := .ty "bool") (by rfl) T.z_bool (by decide +kernel) rfl) pa_nil)))) (pe_one (pe_cmpR op_eq (pv 0) (pv 1) (nomark _))))))))))), ?_⟩
      rcases hL with ⟨rfl, sy⟩ | ⟨a, b, xs, ys, rfl, rfl, ha, hb, hl, hz, hi⟩ | ⟨a, b, xs, ys, rfl, rfl, ha, hb, hl, hz, hi⟩
      · cases x with
        | non =>
          refine ⟨_, rfl, _, _, _, _, false, rfl, .ty _, .base (.non), kit_ty (by decide +kernel), _, rfl, iteF ⟨_, rfl, _, _, _, _, false, rfl, .ty _, .base (.non), kit_ty (by decide +kernel), _, rfl, iteF ?_⟩⟩
          refine ⟨_, rfl, rfl, _, rfl, ite2 (fun _ => ?_) (fun c => absurd (decide_eq_true rfl) c)⟩
          refine ⟨_, rfl, rfl, ?_⟩
          rw [decide_eq_true rfl]
          exact q
        | bl v =>
          refine ⟨_, rfl, _, _, _, _, false, rfl, .ty _, .base (.bl v), kit_ty (by decide +kernel), _, rfl, iteF ⟨_, rfl, _, _, _, _, false, rfl, .ty _, .base (.bl v), kit_ty (by decide +kernel), _, rfl, iteF ?_⟩⟩
          refine ⟨_, rfl, rfl, _, rfl, ite2 (fun c => (nomatch (of_decide_eq_true c))) (fun _ => ?_)⟩
          refine ⟨_, rfl, _, _, _, _, true, rfl, .ty _, .base (.bl v), kit_ty (by decide +kernel), _, rfl, iteT ?_⟩
          refine ⟨_, rfl, _, _, _, _, true, rfl, .ty _, .base (.bl v), kit_ty (by decide +kernel), _, rfl, iteT ?_⟩
          refine ⟨_, rfl, _, rfl, rfl, ?_⟩
          rw [decide_eq_true rfl]
          exact q
        | int v =>
          refine ⟨_, rfl, _, _, _, _, false, rfl, .ty _, .base (.int v), kit_ty (by decide +kernel), _, rfl, iteF ⟨_, rfl, _, _, _, _, false, rfl, .ty _, .base (.int v), kit_ty (by decide +kernel), _, rfl, iteF ?_⟩⟩
          refine ⟨_, rfl, rfl, _, rfl, ite2 (fun c => (nomatch (of_decide_eq_true c))) (fun _ => ?_)⟩
          refine ⟨_, rfl, _, _, _, _, false, rfl, .ty _, .base (.int v), kit_ty (by decide +kernel), _, rfl, iteF ?_⟩
          refine ⟨_, rfl, _, _, _, _, false, rfl, .ty _, .base (.int v), kit_ty (by decide +kernel), _, rfl, iteF ?_⟩
          refine ⟨_, rfl, _, _, _, _, true, rfl, .ty _, .base (.int v), kit_ty (by decide +kernel), _, rfl, iteT ?_⟩
          refine ⟨_, rfl, _, _, _, _, false, rfl, .ty _, .base (.int v), kit_ty (by decide +kernel), _, rfl, _, rfl, iteT ?_⟩
          refine ⟨_, rfl, _, rfl, rfl, ?_⟩
          rw [decide_eq_true rfl]
          exact q
        | str v =>
          refine ⟨_, rfl, _, _, _, _, false, rfl, .ty _, .base (.str v), kit_ty (by decide +kernel), _, rfl, iteF ⟨_, rfl, _, _, _, _, false, rfl, .ty _, .base (.str v), kit_ty (by decide +kernel), _, rfl, iteF ?_⟩⟩
          refine ⟨_, rfl, rfl, _, rfl, ite2 (fun c => (nomatch (of_decide_eq_true c))) (fun _ => ?_)⟩
          refine ⟨_, rfl, _, _, _, _, false, rfl, .ty _, .base (.str v), kit_ty (by decide +kernel), _, rfl, iteF ?_⟩
          refine ⟨_, rfl, _, _, _, _, true, rfl, .ty _, .base (.str v), kit_ty (by decide +kernel), _, rfl, iteT ?_⟩
          refine ⟨_, rfl, _, _, _, _, true, rfl, .ty _, .base (.str v), kit_ty (by decide +kernel), _, rfl, iteT ?_⟩
          refine ⟨_, rfl, _, rfl, rfl, ?_⟩
          rw [decide_eq_true rfl]
          exact q
        | _ => exact sy.elim
      · refine ⟨_, rfl, _, _, _, _, false, rfl, .ty _, hb.ty, kit_ty (by decide +kernel), _, rfl, iteF ⟨_, rfl, _, _, _, _, true, rfl, .ty _, hb.ty, kit_ty (by decide +kernel), _, rfl, iteT ?_⟩⟩
        refine ⟨_, rfl, _, _, _, _, false, rfl, .ty _, hb.ty, kit_ty (by decide +kernel), _, rfl, _, _, _, _, false, rfl, .ty _, ha.ty, kit_ty (by decide +kernel), rfl, _, rfl, iteNS rfl ?_⟩
        refine ⟨_, rfl, _, _, _, _, true, rfl, .ty _, hb.ty, kit_ty (by decide +kernel), _, rfl, _, _, _, _, true, rfl, .ty _, ha.ty, kit_ty (by decide +kernel), rfl, _, rfl, iteNS rfl ?_⟩
        refine ⟨_, rfl, a, _, rfl, .inr (ha.sq), _, rfl, b, _, rfl, .inr (hb.sq), rfl, _, rfl, iteNS (by rw [hl]) ?_⟩
        refine ⟨_, rfl, b, _, rfl, .inr (hb.sq), _, rfl, by omega, by omega, for_range (lo := 0) (n := ys.length) (fun i σ H' => H' = H ∧ ∃ k, σ = [some (.ref a), some (.ref b), k]) ⟨rfl, _, rfl⟩ ?_ ?_⟩
        · rintro i σ H1 hi2 ⟨rfl, k, rfl⟩
          have e1 : xs[i]? = some xs[i] := List.getElem?_eq_getElem (by omega)
          have e2 : ys[i]? = some ys[i] := List.getElem?_eq_getElem hi2
          have z : (0 : Int) + (i : Int) = ((i : Nat) : Int) := Int.zero_add _
          refine ⟨_, rfl, _, rfl, .inr (.inl ⟨a, _, _, _, rfl, rfl, ha.sq, by rw [z]; exact atI_nat e1, _, rfl, _, rfl, .inr (.inl ⟨b, _, _, _, rfl, rfl, hb.sq, by rw [z]; exact atI_nat e2, ?_⟩)⟩)⟩
          exact ⟨_, _, rfl, hi i _ _ e1 e2, _, rfl, iteF ⟨rfl, _, rfl⟩⟩
        · rintro σ H1 ⟨rfl, k, rfl⟩
          exact q
      · refine ⟨_, rfl, _, _, _, _, true, rfl, .ty _, .base (.lst hb), kit_ty (by decide +kernel), _, rfl, iteT ?_⟩
        refine ⟨_, rfl, _, _, _, _, true, rfl, .ty _, .base (.lst hb), kit_ty (by decide +kernel), _, rfl, _, _, _, _, true, rfl, .ty _, .base (.lst ha), kit_ty (by decide +kernel), rfl, _, rfl, iteNS rfl ?_⟩
        refine ⟨_, rfl, _, _, _, _, false, rfl, .ty _, .base (.lst hb), kit_ty (by decide +kernel), _, rfl, _, _, _, _, false, rfl, .ty _, .base (.lst ha), kit_ty (by decide +kernel), rfl, _, rfl, iteNS rfl ?_⟩
        refine ⟨_, rfl, a, _, rfl, .inl (SqL.of ha), _, rfl, b, _, rfl, .inl (SqL.of hb), rfl, _, rfl, iteNS (by rw [hl]) ?_⟩
        refine ⟨_, rfl, b, _, rfl, .inl (SqL.of hb), _, rfl, by omega, by omega, for_range (lo := 0) (n := ys.length) (fun i σ H' => H' = H ∧ ∃ k, σ = [some (.ref a), some (.ref b), k]) ⟨rfl, _, rfl⟩ ?_ ?_⟩
        · rintro i σ H1 hi2 ⟨rfl, k, rfl⟩
          have e1 : xs[i]? = some xs[i] := List.getElem?_eq_getElem (by omega)
          have e2 : ys[i]? = some ys[i] := List.getElem?_eq_getElem hi2
          have z : (0 : Int) + (i : Int) = ((i : Nat) : Int) := Int.zero_add _
          refine ⟨_, rfl, _, rfl, .inl (⟨a, _, _, _, rfl, rfl, SqL.of ha, by rw [z]; exact atI_nat e1, _, rfl, _, rfl, .inl (⟨b, _, _, _, rfl, rfl, SqL.of hb, by rw [z]; exact atI_nat e2, ?_⟩)⟩)⟩
          exact ⟨_, _, rfl, hi i _ _ e1 e2, _, rfl, iteF ⟨rfl, _, rfl⟩⟩
        · rintro σ H1 ⟨rfl, k, rfl⟩
          exact q
/-! ### trees -/
abbrev OkS : Type := {w : Str // PyData.strOk w = true}
inductive Ar where
  | gone
  | name (w : OkS)
  | block (a b c d : Int)
inductive Tr where
  | gone
  | num (x y : Int)
  | cell (r c : Int)
  | neg (t : Tr)
  | op (s : Str) (l r : Tr)
  | call (n : Str) (as : List Ar)
def ArAt (H : Hp) (v : V) : Ar → Prop
  | .gone => ∃ q, v = .ref q ∧ H q = some (.tup [.str "gone"])
  | .name w => ∃ q, v = .ref q ∧ H q = some (.tup [.str "name", .str w.1])
  | .block a b c d => ∃ q, v = .ref q ∧ H q = some (.tup [.str "block", .int a, .int b, .int c, .int d])
inductive Ars (H : Hp) : List V → List Ar → Prop where
  | nil : Ars H [] []
  | cons {v : V} {a : Ar} {vs : List V} {as : List Ar} : ArAt H v a → Ars H vs as → Ars H (v :: vs) (a :: as)
def TrAt (H : Hp) : V → Tr → Prop
  | v, .gone => ∃ q, v = .ref q ∧ H q = some (.tup [.str "gone"])
  | v, .num x y => ∃ q p, v = .ref q ∧ H q = some (.tup [.str "num", .ref p]) ∧ H p = some (.tup [.int x, .int y])
  | v, .cell r c => ∃ q, v = .ref q ∧ H q = some (.tup [.str "cell", .int r, .int c])
  | v, .neg t => ∃ q u, v = .ref q ∧ H q = some (.tup [.str "neg", u]) ∧ TrAt H u t
  | v, .op s l r => ∃ q u w, v = .ref q ∧ H q = some (.tup [.str "op", .str s, u, w]) ∧ TrAt H u l ∧ TrAt H w r
  | v, .call n as => ∃ q p vs, v = .ref q ∧ H q = some (.tup [.str "call", .str n, .ref p]) ∧ H p = some (.tup vs) ∧ Ars H vs as
theorem ArAt.mono {H H' : Hp} (s : TK H H') {v : V} : ∀ {a : Ar}, ArAt H v a → ArAt H' v a
  | .gone, ⟨q, h, h1⟩ => ⟨q, h, s _ _ h1⟩
  | .name _, ⟨q, h, h1⟩ => ⟨q, h, s _ _ h1⟩
  | .block _ _ _ _, ⟨q, h, h1⟩ => ⟨q, h, s _ _ h1⟩
theorem Ars.mono {H H' : Hp} (s : TK H H') : ∀ {vs as}, Ars H vs as → Ars H' vs as
  | _, _, .nil => .nil
  | _, _, .cons h r => .cons (h.mono s) (r.mono s)
theorem Ars.len {H : Hp} : ∀ {vs as}, Ars H vs as → vs.length = as.length
  | _, _, .nil => rfl
  | _, _, .cons _ r => congrArg (· + 1) r.len
theorem Ars.app {H : Hp} {us : List V} {bs : List Ar} (h : Ars H us bs) : ∀ {vs as}, Ars H vs as → Ars H (vs ++ us) (as ++ bs)
  | _, _, .nil => h
  | _, _, .cons h2 r => .cons h2 (Ars.app h r)
theorem Ars.get {H : Hp} : ∀ {vs as}, Ars H vs as → ∀ (i : Nat) x, vs[i]? = some x → ∃ a, as[i]? = some a ∧ ArAt H x a
  | _, _, .nil, i, x, h => by simp at h
  | _, _, .cons (a := a) h r, 0, x, e => ⟨a, rfl, by cases e; exact h⟩
  | _, _, .cons h r, i + 1, x, e => r.get i x (by simpa using e)
theorem TrAt.mono {H H' : Hp} (s : TK H H') : ∀ {t : Tr} {v : V}, TrAt H v t → TrAt H' v t
  | .gone, _, ⟨q, h, h1⟩ => ⟨q, h, s _ _ h1⟩
  | .num _ _, _, ⟨q, p, h, h1, h2⟩ => ⟨q, p, h, s _ _ h1, s _ _ h2⟩
  | .cell _ _, _, ⟨q, h, h1⟩ => ⟨q, h, s _ _ h1⟩
  | .neg _, _, ⟨q, u, h, h1, h2⟩ => ⟨q, u, h, s _ _ h1, h2.mono s⟩
  | .op _ _ _, _, ⟨q, u, w, h, h1, h2, h3⟩ => ⟨q, u, w, h, s _ _ h1, h2.mono s, h3.mono s⟩
  | .call _ _, _, ⟨q, p, vs, h, h1, h2, h3⟩ => ⟨q, p, vs, h, s _ _ h1, s _ _ h2, h3.mono s⟩
def Tr.h : Tr → Nat
  | .neg t => t.h + 1
  | .op _ l r => max l.h r.h + 1
  | _ => 0
def Tr.ok (m : Nat) : Tr → Prop
  | .neg t => t.ok m
  | .op _ l r => l.ok m ∧ r.ok m
  | .call _ as => as.length ≤ m
  | _ => True
def sz : Tr → Int
  | .neg t => 1 + sz t
  | .op _ l r => 1 + sz l + sz r
  | .call _ as => 1 + (as.length : Int)
  | _ => 1
def tcells : Tr → List (Int × Int)
  | .cell r c => [(r, c)]
  | .neg t => tcells t
  | .op _ l r => tcells l ++ tcells r
  | _ => []
def tareas : Tr → List Ar
  | .call _ as => as
  | .neg t => tareas t
  | .op _ l r => tareas l ++ tareas r
  | _ => []
def mr : Ar → List Ar
  | .gone => []
  | .name w => [.name w]
  | .block a b c d => [.gone, .block a b (c + 2) d]
def orGone : List Ar → List Ar
  | [] => [.gone]
  | as => as
def dn (r c : Int) : Tr := if r > 5 then .gone else .cell (r + 1) c
def mp : Tr → Tr
  | .cell r c => dn r c
  | .neg t => .neg (mp t)
  | .op s l r => .op s (mp l) (mp r)
  | .call n as => .call n (orGone (as.flatMap mr))
  | t => t
theorem ifN {a b : Str} {A B : Prop} (h : a ≠ b) (q : B) : if decide (V.str a = V.str b) = true then A else B := by
  rw [if_neg fun z => h (V.str.inj (of_decide_eq_true z))]
  exact q
theorem ifY {a : Str} {A B : Prop} (q : A) : if decide (V.str a = V.str a) = true then A else B := by
  rw [if_pos (decide_eq_true rfl)]
  exact q
theorem w1 : ("gone" : Str) ≠ "neg" ∧ ("gone" : Str) ≠ "op" ∧ ("gone" : Str) ≠ "call" ∧ ("gone" : Str) ≠ "cell" ∧ ("gone" : Str) ≠ "name" := by decide +kernel
theorem w2 : ("num" : Str) ≠ "neg" ∧ ("num" : Str) ≠ "op" ∧ ("num" : Str) ≠ "call" ∧ ("num" : Str) ≠ "cell" := by decide +kernel
theorem w3 : ("cell" : Str) ≠ "neg" ∧ ("cell" : Str) ≠ "op" ∧ ("cell" : Str) ≠ "call" := by decide +kernel
theorem w4 : ("neg" : Str) ≠ "op" ∧ ("neg" : Str) ≠ "call" ∧ ("neg" : Str) ≠ "cell" := by decide +kernel
theorem w5 : ("op" : Str) ≠ "neg" ∧ ("op" : Str) ≠ "call" ∧ ("op" : Str) ≠ "cell" := by decide +kernel
theorem w6 : ("call" : Str) ≠ "neg" ∧ ("call" : Str) ≠ "op" ∧ ("call" : Str) ≠ "cell" := by decide +kernel
theorem w7 : ("name" : Str) ≠ "gone" ∧ ("block" : Str) ≠ "gone" ∧ ("block" : Str) ≠ "name" := by decide +kernel
theorem hop {s : Str} {l r : Tr} {n : Nat} (h : (Tr.op s l r).h < n + 1) : l.h < n ∧ r.h < n := by
  have : max l.h r.h + 1 < n + 1 := h
  omega
theorem hneg {t : Tr} {n : Nat} (h : (Tr.neg t).h < n + 1) : t.h < n := by
  have : t.h + 1 < n + 1 := h
  omega
theorem pow_le {n : Nat} (h : n ≤ 8) : 2 ^ n ≤ 256 := Nat.le_trans (Nat.pow_le_pow_right (by decide) h) (by decide)
theorem tcells_len : ∀ {t : Tr} {n : Nat}, t.h < n + 1 → (tcells t).length ≤ 2 ^ n
  | .gone, n, _ => Nat.zero_le _
  | .num _ _, n, _ => Nat.zero_le _
  | .cell _ _, n, _ => Nat.one_le_two_pow
  | .call _ _, n, _ => Nat.zero_le _
  | .neg t, 0, h => absurd (hneg h) (Nat.not_lt_zero _)
  | .neg t, n + 1, h => Nat.le_trans (tcells_len (t := t) (hneg h)) (Nat.pow_le_pow_right (by decide) (Nat.le_succ n))
  | .op s l r, 0, h => absurd (hop h).1 (Nat.not_lt_zero _)
  | .op s l r, n + 1, h => by
    have a := tcells_len (hop h).1
    have b := tcells_len (hop h).2
    show (tcells l ++ tcells r).length ≤ _
    rw [List.length_append, Nat.pow_succ]
    omega
theorem tareas_len {m : Nat} : ∀ {t : Tr} {n : Nat}, t.h < n + 1 → t.ok m → (tareas t).length ≤ m * 2 ^ n
  | .gone, n, _, _ => Nat.zero_le _
  | .num _ _, n, _, _ => Nat.zero_le _
  | .cell _ _, n, _, _ => Nat.zero_le _
  | .call _ as, n, _, o => Nat.le_trans o (Nat.le_mul_of_pos_right _ Nat.one_le_two_pow)
  | .neg t, 0, h, _ => absurd (hneg h) (Nat.not_lt_zero _)
  | .neg t, n + 1, h, o => Nat.le_trans (tareas_len (t := t) (hneg h) o) (Nat.mul_le_mul_left _ (Nat.pow_le_pow_right (by decide) (Nat.le_succ n)))
  | .op s l r, 0, h, _ => absurd (hop h).1 (Nat.not_lt_zero _)
  | .op s l r, n + 1, h, o => by
    have a := tareas_len (hop h).1 o.1
    have b := tareas_len (hop h).2 o.2
    show (tareas l ++ tareas r).length ≤ _
    rw [List.length_append, Nat.pow_succ, ← Nat.mul_assoc]
    omega
inductive Cls (H : Hp) : List V → List (Int × Int) → Prop where
  | nil : Cls H [] []
  | cons {q : Addr} {z : Int × Int} {vs : List V} {zs : List (Int × Int)} : H q = some (.tup [.int z.1, .int z.2]) → Cls H vs zs → Cls H (.ref q :: vs) (z :: zs)
theorem Cls.mono {H H' : Hp} (s : TK H H') : ∀ {vs zs}, Cls H vs zs → Cls H' vs zs
  | _, _, .nil => .nil
  | _, _, .cons h r => .cons (s _ _ h) (r.mono s)
theorem Cls.len {H : Hp} : ∀ {vs zs}, Cls H vs zs → vs.length = zs.length
  | _, _, .nil => rfl
  | _, _, .cons _ r => congrArg (· + 1) r.len
theorem Cls.app {H : Hp} {us : List V} {ys : List (Int × Int)} (h : Cls H us ys) : ∀ {vs zs}, Cls H vs zs → Cls H (vs ++ us) (zs ++ ys)
  | _, _, .nil => h
  | _, _, .cons h2 r => .cons h2 (Cls.app h r)
def spCells (K : PySem.W.Frag) (n : Nat) : Sp := fun vs H Q _ => ∃ (v : V) (t : Tr), vs = [v] ∧ t.h < n ∧ n ≤ 9 ∧ TrAt H v t ∧ ∀ (H' : Hp) (l : Addr) (us : List V), Same H H' → H l = none → H' l = some (.lst us) → Cls H' us (tcells t) → Q (.ref l) H'
def spAreas (K : PySem.W.Frag) (n : Nat) : Sp := fun vs H Q _ => ∃ (v : V) (t : Tr), vs = [v] ∧ t.h < n ∧ n ≤ 9 ∧ t.ok 8 ∧ TrAt H v t ∧ ∀ (H' : Hp) (l : Addr) (us : List V), Same H H' → H l = none → H' l = some (.lst us) → Ars H' us (tareas t) → Q (.ref l) H'
/-- a fraction in range -/
structure Fr (n d : Int) : Prop where
  lo : -1000000000000000000 ≤ n
  hi : n ≤ 1000000000000000000
  pos : 0 < d
  top : d ≤ 1000000000000000000
/-- in range and in lowest terms -/
def Fl (n d : Int) : Prop := Fr n d ∧ Nat.gcd n.natAbs d.natAbs = 1
/-! ### the greatest common divisor by Euclid's steps -/
theorem half_step {a b : Nat} (hb : 0 < b) (hba : b ≤ a) : 2 * (b * (a % b)) ≤ a * b := by
  have h1 := Nat.mod_lt a hb
  have h2 : b + a % b ≤ a := by
    have e := Nat.div_add_mod a b
    have q : 1 ≤ a / b := (Nat.one_le_div_iff hb).mpr hba
    have z : b * 1 ≤ b * (a / b) := Nat.mul_le_mul_left b q
    omega
  have h3 : 2 * (a % b) ≤ a := by omega
  calc 2 * (b * (a % b)) = b * (2 * (a % b)) := by rw [Nat.mul_left_comm]
    _ ≤ b * a := Nat.mul_le_mul_left b h3
    _ = a * b := Nat.mul_comm b a
def spGcd (K : PySem.W.Frag) : Sp := fun vs H Q _ => ∃ (x y : Int), vs = [.int x, .int y] ∧ x.natAbs * y.natAbs < 2 ^ 890 ∧ Q (.int ((Nat.gcd x.natAbs y.natAbs : Nat) : Int)) H
theorem abs_eq (x : Int) : (if x < 0 then -x else x) = ((x.natAbs : Nat) : Int) := by
  split <;> omega
theorem okLawGcd (T : Txt K mg) : FnOk P w K mg base CX0 1 T.fLawGcd T.fdLawGcd ["a", "b"] (spGcd K) := by
  refine T.FLawGcd.ok scLawGcd (fun vs H Q E h => ?_) (fun cdv A outer s H vs Q E hr h => ?_)
  · obtain ⟨x, y, rfl, _⟩ := h
    rfl
  · obtain ⟨x, y, rfl, hz, q⟩ := h
    -- slots a=0 b=1 turn=2 rest=3
    refine ⟨_, (pss_cons (ps_set (i := 0) scLawGcd.nd rfl (Or.inl rfl) (pe_callB call_abs (by rfl) T.z_abs (by decide +kernel) (pa_cons (pv 0) pa_nil)))
        (pss_cons (ps_set (i := 1) scLawGcd.nd rfl (Or.inl rfl) (pe_callB call_abs (by rfl) T.z_abs (by decide +kernel) (pa_cons (pv 1) pa_nil)))
        (pss_cons (ps_for PassesOwn.never rfl (pi_range1 rfl T.z_range (pa_cons pe_int pa_nil)) (pg_name (i := 2) scLawGcd.nd rfl (Or.inl rfl))
          (pss_cons (ps_if (pt_cmpR op_eq (pv 1) pe_int (nomark _))
            (pss_one ps_break)
            pss_nil)
          (pss_cons (ps_set (i := 3) scLawGcd.nd rfl (Or.inl rfl) (pe_op op_mod (pe_callTy call_int1 (by rfl) T.z_int (by decide +kernel) (pa_cons (pv 0) pa_nil)) (pv 1)))
          (pss_cons (ps_set (i := 0) scLawGcd.nd rfl (Or.inl rfl) (pv 1))
          (pss_one (ps_set (i := 1) scLawGcd.nd rfl (Or.inl rfl) (pv 3)))))))
        (pss_one (ps_ret (pv 0)))))), ?_⟩
    refine ⟨_, rfl, _, rfl, ?_⟩
    refine ⟨_, rfl, _, rfl, ?_⟩
    rw [abs_eq, abs_eq]
    generalize x.natAbs = a0 at hz q ⊢
    generalize y.natAbs = b0 at hz q ⊢
    refine ⟨900, rfl, by decide, by decide, for_range (lo := 0) (n := 900) (fun t σ H' => ∃ (a b : Nat) (c c1 : Option V), σ = [some (.int (a : Int)), some (.int (b : Int)), c, c1] ∧ H' = H ∧ Nat.gcd a b = Nat.gcd a0 b0 ∧ (t = 0 ∨ b ≤ a) ∧ (a * b) * 2 ^ (t - 1) < 2 ^ 890) ⟨a0, b0, _, _, rfl, rfl, rfl, .inl rfl, by simpa using hz⟩ ?_ ?_⟩
    · rintro t σ H1 ht ⟨a, b, c, c1, rfl, rfl, hg, ho, hs⟩
      refine ⟨_, rfl, rfl, _, rfl, ite2 (fun e => ?_) (fun e => ?_)⟩
      · have e2 : b = 0 := by
          have e3 := V.int.inj (of_decide_eq_true e)
          omega
        subst e2
        rw [Nat.gcd_zero_right] at hg
        refine ⟨_, rfl, ?_⟩
        rw [hg]
        exact q
      · have hb : 0 < b := by
          rcases Nat.eq_zero_or_pos b with z | z
          · subst z
            exact absurd (decide_eq_true rfl) e
          · exact z
        refine ⟨_, rfl, .inl ⟨_, rfl, _, rfl, _, _, rfl, rfl, (by show (0 : Int) < (b : Int); omega), ?_⟩⟩
        refine ⟨_, rfl, _, rfl, b, a % b, _, _, rfl, rfl, ?_, .inr (Nat.le_of_lt (Nat.mod_lt a hb)), ?_⟩
        · rw [← hg, Nat.gcd_comm a b, Nat.gcd_rec b a, Nat.gcd_comm]
        · rcases ho with z | z
          · subst z
            rw [show (2 : Nat) ^ (0 + 1 - 1) = 2 ^ (0 - 1) from rfl]
            refine Nat.lt_of_le_of_lt (Nat.mul_le_mul_right _ ?_) hs
            rw [Nat.mul_comm a b]
            exact Nat.mul_le_mul_left b (Nat.mod_le a b)
          · have h2 := half_step hb z
            rcases t with _ | t
            · refine Nat.lt_of_le_of_lt (Nat.mul_le_mul_right _ ?_) hs
              omega
            · show b * (a % b) * 2 ^ (t + 1) < 2 ^ 890
              refine Nat.lt_of_le_of_lt ?_ (show (a * b) * 2 ^ t < 2 ^ 890 from hs)
              rw [Nat.pow_succ, Nat.mul_comm (2 ^ t) 2, ← Nat.mul_assoc]
              refine Nat.mul_le_mul_right _ ?_
              rw [Nat.mul_comm]
              exact h2
    · rintro σ H1 ⟨a, b, c, c1, rfl, rfl, hg, ho, hs⟩
      have hb : a * b = 0 := by
        rcases Nat.eq_zero_or_pos (a * b) with z | z
        · exact z
        · exfalso
          have h1 : 1 * 2 ^ (900 - 1) ≤ (a * b) * 2 ^ (900 - 1) := Nat.mul_le_mul_right _ z
          have h2 : (2 : Nat) ^ 890 ≤ 1 * 2 ^ (900 - 1) := by decide
          omega
      have hb0 : b = 0 := by
        rcases Nat.mul_eq_zero.mp hb with z | z
        · rcases ho with w | w <;> omega
        · exact z
      subst hb0
      rw [Nat.gcd_zero_right] at hg
      refine ⟨_, rfl, ?_⟩
      rw [hg]
      exact q
/-! ### fractions in lowest terms -/
theorem op_fdivZ {X : Cx} : OpR X (binaryOp .FloorDiv) (rI (fun _ j => j ≠ 0 ∧ j.natAbs.log2 < 9000) fun i j => .int (i.fdiv j)) := opI fun i j _ _ _ _ _ hc q => floordiv_int hc.1 q (.inl (PyProof.noPylong_of_log2 hc.2))
structure Low (n d x y : Int) : Prop where
  pos : 0 < y
  eq : x * d = n * y
  cop : Nat.gcd x.natAbs y.natAbs = 1
  lx : x.natAbs ≤ n.natAbs
  ly : y.natAbs ≤ d.natAbs
def cmn (n d : Int) : Int := if d < 0 then -((Nat.gcd n.natAbs d.natAbs : Nat) : Int) else ((Nat.gcd n.natAbs d.natAbs : Nat) : Int)
theorem cmn_abs (n d : Int) : (cmn n d).natAbs = Nat.gcd n.natAbs d.natAbs := by
  unfold cmn
  split <;> omega
theorem low_of {n d : Int} (hd : d ≠ 0) : Low n d (n.fdiv (cmn n d)) (d.fdiv (cmn n d)) := by
  have hg : 0 < Nat.gcd n.natAbs d.natAbs := Nat.gcd_pos_of_pos_right _ (by omega)
  have ha := cmn_abs n d
  have hc : cmn n d ≠ 0 := by omega
  have d1 : cmn n d ∣ n := Int.natAbs_dvd_natAbs.mp (by rw [ha]; exact Nat.gcd_dvd_left _ _)
  have d2 : cmn n d ∣ d := Int.natAbs_dvd_natAbs.mp (by rw [ha]; exact Nat.gcd_dvd_right _ _)
  have sg : 0 < d → 0 < cmn n d := fun h => by
    unfold cmn
    rw [if_neg (by omega)]
    omega
  have sg2 : d < 0 → cmn n d < 0 := fun h => by
    unfold cmn
    rw [if_pos h]
    omega
  obtain ⟨x, hx⟩ := d1
  obtain ⟨y, hy⟩ := d2
  generalize cmn n d = c at *
  have e1 : n.fdiv c = x := by rw [hx]; exact Int.mul_fdiv_cancel_left _ hc
  have e2 : d.fdiv c = y := by rw [hy]; exact Int.mul_fdiv_cancel_left _ hc
  rw [e1, e2]
  have y0 : 0 < y := by
    rcases Int.lt_trichotomy d 0 with h | h | h
    · have hc2 := sg2 h
      rcases Int.lt_trichotomy y 0 with z | z | z
      · have := Int.mul_pos_of_neg_of_neg hc2 z
        omega
      · subst z
        simp at hy
        omega
      · exact z
    · exact absurd h hd
    · have hc2 := sg h
      rcases Int.lt_trichotomy y 0 with z | z | z
      · have := Int.mul_neg_of_pos_of_neg hc2 z
        omega
      · subst z
        simp at hy
        omega
      · exact z
  have en : n.natAbs = c.natAbs * x.natAbs := by rw [hx, Int.natAbs_mul]
  have ed : d.natAbs = c.natAbs * y.natAbs := by rw [hy, Int.natAbs_mul]
  refine ⟨y0, ?_, ?_, ?_, ?_⟩
  · rw [hx, hy, Int.mul_assoc, Int.mul_comm x, Int.mul_assoc, Int.mul_comm x]
  · rw [en, ed, Nat.gcd_mul_left] at ha
    rw [en, ed, Nat.gcd_mul_left] at hg
    have z : c.natAbs * 1 = c.natAbs * Nat.gcd x.natAbs y.natAbs := by rw [Nat.mul_one]; exact ha
    exact (Nat.eq_of_mul_eq_mul_left (by omega) z).symm
  · rw [en]
    exact Nat.le_mul_of_pos_left _ (by omega)
  · rw [ed]
    exact Nat.le_mul_of_pos_left _ (by omega)
def spLowest (K : PySem.W.Frag) : Sp := fun vs H Q _ => ∃ (n d : Int), vs = [.int n, .int d] ∧ d ≠ 0 ∧ n.natAbs < 2 ^ 400 ∧ d.natAbs < 2 ^ 400 ∧ ∀ p x y, H p = none → Low n d x y → Q (.ref p) (upd H p (.tup [.int x, .int y]))
theorem okLawLowest (T : Txt K mg) : FnOk P w K mg base CX0 2 T.fLawLowest T.fdLawLowest ["n", "d"] (spLowest K) := by
  refine T.FLawLowest.ok scLawLowest (fun vs H Q E h => ?_) (fun cdv A outer s H vs Q E hr h => ?_)
  · obtain ⟨n, d, rfl, _⟩ := h
    rfl
  · obtain ⟨n, d, rfl, hd, zn, zd, q⟩ := h
    -- slots n=0 d=1 common=2
    refine ⟨_, (C8.pss_cut (ps_if (pt_cmpR op_lt (pv 1) pe_int (nomark _))
          (pss_cons (ps_set (i := 0) scLawLowest.nd rfl (Or.inl rfl) (pe_op op_sub pe_int (pv 0)))
          (pss_one (ps_set (i := 1) scLawLowest.nd rfl (Or.inl rfl) (pe_op op_sub pe_int (pv 1)))))
          pss_nil)
        (pss_cons (ps_set (i := 2) scLawLowest.nd rfl (Or.inl rfl) (pe_call (okLawGcd T) (hr.mono (by decide)) (by rfl) T.gLawGcd T.FLawGcd.kp T.bLawGcd .nil pass0 (pa_cons (pv 0) (pa_cons (pv 1) pa_nil))))
        (pss_one (ps_ret (pe_tup (pa_cons (pe_op op_fdivZ (pv 0) (pv 2)) (pa_cons (pe_op op_fdivZ (pv 1) (pv 2)) pa_nil))))))), ?_⟩
    refine ⟨fun σ H' => H' = H ∧ ∃ n2 d2 : Int, σ = [some (.int n2), some (.int d2), none] ∧ 0 < d2 ∧ n2.natAbs = n.natAbs ∧ d2.natAbs = d.natAbs ∧ ∀ x y, Low n2 d2 x y → Low n d x y, ?_, ?_⟩
    · refine ⟨_, rfl, _, _, rfl, rfl, _, rfl, ite2 (fun c => ?_) (fun c => ?_)⟩
      · have c2 : d < 0 := of_decide_eq_true c
        refine ⟨_, rfl, _, _, rfl, rfl, _, rfl, _, _, rfl, rfl, rfl, 0 - n, 0 - d, rfl, by omega, by omega, by omega, fun x y L => ?_⟩
        refine ⟨L.pos, ?_, L.cop, by have := L.lx; omega, by have := L.ly; omega⟩
        have e := L.eq
        rw [Int.zero_sub, Int.zero_sub, Int.mul_neg, Int.neg_mul] at e
        omega
      · have c2 : ¬ d < 0 := fun z => c (decide_eq_true z)
        exact ⟨rfl, n, d, rfl, by omega, rfl, rfl, fun _ _ L => L⟩
    · rintro σ H' ⟨rfl, n2, d2, rfl, h0, hn, hd2, hL⟩
      have hz : n2.natAbs * d2.natAbs < 2 ^ 890 := by
        rw [hn, hd2]
        exact Nat.lt_of_le_of_lt (Nat.mul_le_mul (Nat.le_of_lt zn) (Nat.le_of_lt zd)) (by decide)
      have hc : cmn n2 d2 = ((Nat.gcd n2.natAbs d2.natAbs : Nat) : Int) := by
        unfold cmn
        rw [if_neg (by omega)]
      have hg : 0 < Nat.gcd n2.natAbs d2.natAbs := Nat.gcd_pos_of_pos_right _ (by omega)
      have hb : (((Nat.gcd n2.natAbs d2.natAbs : Nat) : Int)).natAbs.log2 < 9000 := by
        refine Nat.lt_of_lt_of_le (PySem.Flt.log2_lt_of (k := 400) (by decide) ?_) (by decide)
        rw [Int.natAbs_natCast]
        refine Nat.lt_of_le_of_lt (Nat.le_of_dvd (by omega) (Nat.gcd_dvd_right _ _)) ?_
        rw [hd2]
        exact zd
      refine ⟨_, rfl, _, rfl, n2, d2, rfl, hz, ?_⟩
      have hne : (((Nat.gcd n2.natAbs d2.natAbs : Nat) : Int)) ≠ 0 := by omega
      refine ⟨_, rfl, _, rfl, _, _, rfl, rfl, ⟨hne, hb⟩, _, rfl, _, rfl, _, _, rfl, rfl, ⟨hne, hb⟩, (by show 2 ≤ sizeLine; decide), fun p hp => ?_⟩
      have L := low_of (n := n2) (d := d2) (by omega)
      rw [hc] at L
      exact q p _ _ hp (hL _ _ L)
theorem fold_lt : ∀ (a : List Nat) (acc : Nat), a.all dig = true → a.foldl (fun acc c => acc * 10 + (c - 48)) acc < (acc + 1) * 10 ^ a.length
  | [], acc, _ => by simp
  | c :: r, acc, h => by
    rw [List.all_cons, Bool.and_eq_true] at h
    have hc : 48 ≤ c ∧ c ≤ 57 := of_decide_eq_true h.1
    refine Nat.lt_of_lt_of_le (fold_lt r (acc * 10 + (c - 48)) h.2) ?_
    rw [List.length_cons, Nat.pow_succ, Nat.mul_comm (10 ^ r.length) 10, ← Nat.mul_assoc]
    exact Nat.mul_le_mul_right _ (by omega)
theorem val_lt {a : List Nat} (h : a.all dig = true) : digitsVal a < 10 ^ a.length := by
  have := fold_lt a 0 h
  rw [Nat.zero_add, Nat.one_mul] at this
  exact this
theorem emp_S : ("" : Str) = S [] := by decide +kernel
theorem at_mem {xs : List Nat} {k : Int} (h0 : 0 ≤ k) (h1 : k < xs.length) : ∃ v ∈ xs, atI xs k = some v := by
  obtain ⟨j, rfl⟩ := Int.eq_ofNat_of_zero_le h0
  exact ⟨xs[j]'(by omega), List.getElem_mem _, atI_nat (List.getElem?_eq_getElem _)⟩
theorem len_add {u v : List Nat} (h1 : u.length ≤ 1000) (h2 : v.length ≤ 1000) : (S u).length + (S v).length ≤ sizeLine := by
  rw [S_len, S_len]
  exact sz100 (by omega)
def spDText (K : PySem.W.Frag) : Sp := fun vs H Q _ => ∃ (b : Addr) (m : Int), vs = [.ref b, .int m] ∧ 0 ≤ m ∧ m ≤ 100 ∧ Box H b ∧ ∀ t H', t.length = m.toNat → t.all dig = true → Box H' b → Kp b H H' → Q (.str (S t)) H'
theorem okLawDigitText (T : Txt K mg) : FnOk P w K mg base CX0 2 T.fLawDigitText T.fdLawDigitText ["box", "many"] (spDText K) := by
  refine T.FLawDigitText.ok scLawDigitText (fun vs H Q E h => ?_) (fun cdv A outer s H vs Q E hr h => ?_)
  · obtain ⟨b, m, rfl, _⟩ := h
    rfl
  · obtain ⟨b, m, rfl, m0, m1, B, q⟩ := h
    obtain ⟨m, rfl⟩ := Int.eq_ofNat_of_zero_le m0
    rw [Int.toNat_natCast] at q
    -- slots box=0 many=1 text=2 k=3
    refine ⟨_, (pss_cons (ps_set (i := 2) scLawDigitText.nd rfl (Or.inl rfl) pe_str)
        (pss_cons (ps_for PassesOwn.never rfl (pi_range1 rfl T.z_range (pa_cons (pv 1) pa_nil)) (pg_name (i := 3) scLawDigitText.nd rfl (Or.inl rfl))
          (pss_one (ps_set (i := 2) scLawDigitText.nd rfl (Or.inl rfl) (pe_op op_add_str (pv 2) (pe_ix ix_str pe_str (pe_call (okLawDraw T) (hr.mono (by decide)) (by rfl) T.gLawDraw T.FLawDraw.kp T.bLawDraw .nil pass0 (pa_cons (pv 0) (pa_cons pe_int pa_nil))) (fun _ _ => rfl))))))
        (pss_one (ps_ret (pv 2))))), ?_⟩
    refine ⟨_, rfl, _, rfl, by omega, by omega, for_range (lo := 0) (n := m) (fun i σ H' => ∃ (t : List Nat) (c3 : Option V), σ = [some (.ref b), some (.int (m : Int)), some (.str (S t)), c3] ∧ t.length = i ∧ t.all dig = true ∧ Box H' b ∧ Kp b H H') ⟨[], none, by rw [← emp_S]; rfl, rfl, rfl, B, Kp.refl⟩ ?_ ?_⟩
    · rintro i σ H1 hi ⟨t, c3, rfl, ht, hd, B1, w1⟩
      refine ⟨_, rfl, _, rfl, b, 10, rfl, by decide, B1, fun k H2 k0 k1 B2 w2 => ?_⟩
      obtain ⟨c, hm, hc⟩ := at_mem (xs := ("0123456789" : Str).cps.toList) k0 (Int.lt_of_lt_of_le k1 (by decide +kernel))
      have hdc : dig c = true := by rw [← dig_mem]; exact decide_eq_true hm
      refine ⟨_, k, c, rfl, rfl, by decide +kernel, hc, S t, S [c], rfl, rfl, len_add (by omega) (by simp), t ++ [c], some (.int (0 + (i : Int))), ?_, by rw [List.length_append, ht]; rfl, ?_, B2, w1.trans w2⟩
      · rw [S_cat]
        rfl
      · rw [List.all_append, hd]
        show (true && (dig c && true)) = true
        rw [hdc]
        rfl
    · rintro σ H1 ⟨t, c3, rfl, ht, hd, B1, w1⟩
      exact ⟨_, rfl, q t H1 ht hd B1 w1⟩
def lets (c : Nat) : List Nat := if c < 26 then [65 + c] else [65 + (c / 26 - 1), 65 + c % 26]
def addr (row col : Nat) : List Nat := lets col ++ numL (row + 1)
theorem lets_len (c : Nat) : (lets c).length ≤ 2 := by
  unfold lets
  split <;> simp
theorem caps_at {k : Int} (h0 : 0 ≤ k) (h1 : k < 26) : atI ("ABCDEFGHIJKLMNOPQRSTUVWXYZ" : Str).cps.toList k = some (65 + k.toNat) := by
  obtain ⟨j, rfl⟩ := Int.eq_ofNat_of_zero_le h0
  have all : ∀ j : Fin 26, ("ABCDEFGHIJKLMNOPQRSTUVWXYZ" : Str).cps.toList[j.val]? = some (65 + j.val) := by decide +kernel
  exact atI_nat (all ⟨j, by omega⟩)
def spWrite (K : PySem.W.Frag) : Sp := fun vs H Q _ => ∃ (row col : Nat), vs = [.int (row : Int), .int (col : Int)] ∧ row < 99 ∧ col < 702 ∧ ∀ H', Same H H' → Q (.str (S (addr row col))) H'
theorem log_small {n : Int} (h0 : 0 ≤ n) (h : n < 10 ^ 18) : n.natAbs.log2 < 1920 := Nat.lt_of_lt_of_le (PySem.Flt.log2_lt_of (k := 100) (by decide) (Nat.lt_trans (show n.natAbs < 10 ^ 18 by omega) (by decide))) (by decide)
theorem num_len {row : Nat} (h : row < 99) : (numL (row + 1)).length ≤ 2 := TL.numL_len (by decide) (by omega)
theorem okLawAddress (T : Txt K mg) : FnOk P w K mg base CX0 1 T.fLawAddress T.fdLawAddress ["row", "column"] (spWrite K) := by
  refine T.FLawAddress.ok scLawAddress (fun vs H Q E h => ?_) (fun cdv A outer s H vs Q E hr h => ?_)
  · obtain ⟨row, col, rfl, _⟩ := h
    rfl
  · obtain ⟨row, col, rfl, hr1, hc1, q⟩ := h
    -- slots row=0 column=1 letters=2 text=3
    refine ⟨_, (pss_cons (ps_set (i := 2) scLawAddress.nd rfl (Or.inl rfl) pe_str)
        (pss_cons (ps_set (i := 3) scLawAddress.nd rfl (Or.inl rfl) (pe_ix ix_str (pv 2) (pe_op op_mod (pe_callTy call_int1 (by rfl) T.z_int (by decide +kernel) (pa_cons (pv 1) pa_nil)) pe_int) (fun _ _ => rfl)))
        (C8.pss_cut (ps_if (pt_cmpR op_ge (pv 1) pe_int (nomark _))
          (pss_one (ps_set (i := 3) scLawAddress.nd rfl (Or.inl rfl) (pe_op op_add_str (pe_ix ix_str (pv 2) (pe_op op_mod (pe_callTy call_int1 (by rfl) T.z_int (by decide +kernel) (pa_cons (pe_op op_sub (pe_op op_fdiv (pv 1) pe_int) pe_int) pa_nil)) pe_int) (fun _ _ => rfl)) (pv 3))))
          pss_nil)
        (pss_one (ps_ret (pe_op op_add_str (pv 3) (pe_callTy call_str_int (by rfl) T.z_str (by decide +kernel) (pa_cons (pe_op op_add (pv 0) pe_int) pa_nil)))))))), ?_⟩
    have l2 := lets_len col
    have n2 := num_len hr1
    refine ⟨_, rfl, _, rfl, .inl ⟨_, rfl, _, _, rfl, rfl, (by show (0 : Int) < _; decide), _, _, 65 + col % 26, rfl, rfl, by decide +kernel, ?_, ?_⟩⟩
    · have := caps_at (k := (col : Int) % 26) (by omega) (by omega)
      rw [show ((col : Int) % 26).toNat = col % 26 by omega] at this
      exact this
    refine ⟨fun σ H' => H' = H ∧ σ = [some (.int (row : Int)), some (.int (col : Int)), some (.str ("ABCDEFGHIJKLMNOPQRSTUVWXYZ" : Str)), some (.str (S (lets col)))], ?_, ?_⟩
    · refine ⟨_, rfl, _, _, rfl, rfl, _, rfl, ite2 (fun c => ?_) (fun c => ?_)⟩
      · have c2 : 26 ≤ col := by
          have := of_decide_eq_true c
          omega
        refine ⟨_, rfl, _, rfl, _, _, rfl, rfl, ⟨by decide, by decide⟩, _, _, rfl, rfl, .inl ⟨_, rfl, _, _, rfl, rfl, (by show (0 : Int) < _; decide), _, _, 65 + (col / 26 - 1), rfl, rfl, by decide +kernel, ?_, _, rfl, S [65 + (col / 26 - 1)], S [65 + col % 26], rfl, rfl, ?_, rfl, ?_⟩⟩
        · have := caps_at (k := ((col : Int) / 26 - 1) % 26) (by omega) (by omega)
          rw [show (((col : Int) / 26 - 1) % 26).toNat = col / 26 - 1 by omega] at this
          exact this
        · rw [S_len, S_len]
          show 1 + 1 ≤ sizeLine
          decide
        · unfold lets
          rw [if_neg (by omega), S_cat]
          rfl
      · have c2 : col < 26 := by
          rcases Nat.lt_or_ge col 26 with h | h
          · exact h
          · exact absurd (decide_eq_true (show (26 : Int) ≤ (col : Int) by omega)) c
        refine ⟨rfl, ?_⟩
        unfold lets
        rw [if_pos c2, show col % 26 = col by omega]
        rfl
    rintro σ H1 ⟨rfl, rfl⟩
    refine ⟨_, rfl, _, rfl, _, _, rfl, rfl, _, rfl, log_small (by omega) (by omega), S (lets col), S (numL (row + 1)), rfl, ?_, ?_, ?_⟩
    · exact congrArg V.str (num_S (row + 1))
    · rw [S_len, S_len]
      exact sz100 (by omega)
    · rw [S_cat]
      exact q _ (Same.refl _)
def sml (c : Nat) : Bool := decide (97 ≤ c ∧ c ≤ 122)
theorem sml_mem (c : Nat) : decide (c ∈ ("abcdefghijklmnopqrstuvwxyz" : Str).cps.toList) = sml c := by
  have e : ("abcdefghijklmnopqrstuvwxyz" : Str).cps.toList = [97, 98, 99, 100, 101, 102, 103, 104, 105, 106, 107, 108, 109, 110, 111, 112, 113, 114, 115, 116, 117, 118, 119, 120, 121, 122] := by decide +kernel
  rw [e]
  unfold sml
  refine decide_eq_decide.mpr ?_
  simp only [List.mem_cons, List.not_mem_nil, or_false]
  omega
theorem dot_S : ("." : Str) = S [46] := by decide +kernel
/-! ### words -/
def five : List Str := ["sum", "count", "min", "max", "gone"]
structure IsW (a : List Nat) : Prop where
  lo : 2 ≤ a.length
  hi : a.length ≤ 8
  no : S a ∉ five
  all : a.all sml = true
theorem inV_strs (s : Str) : ∀ xs : List Str, inV (.str s) (xs.map V.str) = decide (s ∈ xs)
  | [] => rfl
  | x :: xs => by
    have e : inV (.str s) ((x :: xs).map V.str) = ((x == s) || inV (.str s) (xs.map V.str)) := rfl
    rw [e, inV_strs s xs, Bool.eq_iff_iff]
    simp only [Bool.or_eq_true, beq_iff_eq, decide_eq_true_iff, List.mem_cons]
    exact ⟨fun h => h.elim (fun z => .inl z.symm) .inr, fun h => h.elim (fun z => .inl z.symm) .inr⟩
/-! ### drawn trees -/
theorem TK.kp {b : Addr} {H H' : Hp} (w : Kp b H H') (hb : Box H b) : TK H H' := fun q xs h => by
  refine w q _ (fun z => ?_) h
  obtain ⟨_, _, _, h2, _, _⟩ := hb
  rw [z, h2] at h
  cases h
theorem box_ne {H : Hp} {b l : Addr} (B : Box H b) (h : H l = none) : l ≠ b := fun z => by
  obtain ⟨_, _, _, h2, _, _⟩ := B
  rw [z, h2] at h
  cases h
def NodeAt (H : Hp) (b l : Addr) (d : Nat) (t : Tr) : Prop := ∃ (v : V) (tl : Addr) (ts : List V) (k : Int), H l = some (.lst [v, .ref tl, .int k]) ∧ H tl = some (.lst ts) ∧ ts.length ≤ 20 * 3 ^ d ∧ TrAt H v t ∧ l ≠ b ∧ tl ≠ b
theorem NodeAt.kp {H H' : Hp} {b l : Addr} {d : Nat} {t : Tr} (w : Kp b H H') (B : Box H b) (h : NodeAt H b l d t) : NodeAt H' b l d t := by
  obtain ⟨v, tl, ts, k, h1, h2, h3, h4, h5, h6⟩ := h
  exact ⟨v, tl, ts, k, w _ _ h5 h1, w _ _ h6 h2, h3, h4.mono (TK.kp w B), h5, h6⟩
theorem node_mk {H : Hp} {b l tl : Addr} {v : V} {ts : List V} {k : Int} {d : Nat} {t : Tr} (B : Box H b) (ht : TrAt H v t) (h2 : H tl = some (.lst ts)) (nt : tl ≠ b) (hl : H l = none) (z : ts.length ≤ 20 * 3 ^ d) : NodeAt (upd H l (.lst [v, .ref tl, .int k])) b l d t :=
  ⟨v, tl, ts, k, upd_same, (same_new hl) _ _ h2, z, ht.mono (TK.of (same_new hl)), box_ne B hl, nt⟩
theorem NodeAt.up {H : Hp} {b l : Addr} {t : Tr} {d e : Nat} (h : NodeAt H b l 0 t) : NodeAt H b l e t := by
  obtain ⟨v, tl, ts, k, h1, h2, h3, h4, h5, h6⟩ := h
  exact ⟨v, tl, ts, k, h1, h2, Nat.le_trans h3 (Nat.mul_le_mul_left 20 (Nat.one_le_pow e 3 (by decide))), h4, h5, h6⟩
theorem pow_pos3 (d : Nat) : 1 ≤ 3 ^ d := Nat.one_le_pow d 3 (by decide)
theorem S_self (s : Str) : S s.cps.toList = s := by
  show (⟨s.cps.toList.toArray⟩ : Str) = s
  rw [Array.toArray_toList]
theorem strOk_sml {a : List Nat} (h : a.all sml = true) : PyData.strOk (S a) = true := by
  show (a.toArray).all (fun c => decide (c < 0x110000)) = true
  rw [List.all_toArray, List.all_eq_true]
  intro c hc
  have : 97 ≤ c ∧ c ≤ 122 := of_decide_eq_true (List.all_eq_true.mp h c hc)
  exact decide_eq_true (by omega)
def spWord (K : PySem.W.Frag) : Sp := fun vs H Q _ => ∃ (b : Addr), vs = [.ref b] ∧ Box H b ∧ ∀ (a : List Nat) (H' : Hp), a.length ≤ 9 → PyData.strOk (S a) = true → Box H' b → Kp b H H' → Q (.str (S a)) H'
theorem okLawWord (T : Txt K mg) : FnOk P w K mg base CX0 2 T.fLawWord T.fdLawWord ["box"] (spWord K) := by
  refine T.FLawWord.ok scLawWord (fun vs H Q E h => ?_) (fun cdv A outer s H vs Q E hr h => ?_)
  · obtain ⟨b, rfl, _⟩ := h
    rfl
  · obtain ⟨b, rfl, B, q⟩ := h
    -- slots box=0 letters=1 word=2 k=3
    refine ⟨_, (pss_cons (ps_set (i := 1) scLawWord.nd rfl (Or.inl rfl) pe_str)
        (pss_cons (ps_if (pt_cmpR op_eq (pe_call (okLawDraw T) (hr.mono (by decide)) (by rfl) T.gLawDraw T.FLawDraw.kp T.bLawDraw .nil pass0 (pa_cons (pv 0) (pa_cons pe_int pa_nil))) pe_int (nomark _))
          (pss_one (ps_ret (pe_ix ix_list (pe_lst (pa_cons pe_str (pa_cons pe_str (pa_cons pe_str (pa_cons pe_str (pa_cons pe_str (pa_cons pe_str (pa_cons pe_str pa_nil)))))))) (pe_call (okLawDraw T) (hr.mono (by decide)) (by rfl) T.gLawDraw T.FLawDraw.kp T.bLawDraw .nil pass0 (pa_cons (pv 0) (pa_cons pe_int pa_nil))) (fun _ _ => rfl))))
          pss_nil)
        (pss_cons (ps_set (i := 2) scLawWord.nd rfl (Or.inl rfl) pe_str)
        (pss_cons (ps_for PassesOwn.never rfl (pi_range1 rfl T.z_range (pa_cons (pe_op op_add pe_int (pe_call (okLawDraw T) (hr.mono (by decide)) (by rfl) T.gLawDraw T.FLawDraw.kp T.bLawDraw .nil pass0 (pa_cons (pv 0) (pa_cons pe_int pa_nil)))) pa_nil)) (pg_name (i := 3) scLawWord.nd rfl (Or.inl rfl))
          (pss_one (ps_set (i := 2) scLawWord.nd rfl (Or.inl rfl) (pe_op op_add_str (pv 2) (pe_ix ix_str (pv 1) (pe_call (okLawDraw T) (hr.mono (by decide)) (by rfl) T.gLawDraw T.FLawDraw.kp T.bLawDraw .nil pass0 (pa_cons (pv 0) (pa_cons pe_int pa_nil))) (fun _ _ => rfl))))))
        (pss_cons (ps_if (pt_cmpR op_in_seq (pv 2) (pe_lst (pa_cons pe_str (pa_cons pe_str (pa_cons pe_str (pa_cons pe_str (pa_cons pe_str pa_nil)))))) rfl)
          (pss_one (ps_ret (pe_op op_add_str (pv 2) pe_str)))
          pss_nil)
        (pss_one (ps_ret (pv 2)))))))), ?_⟩
    refine ⟨_, rfl, b, 2, rfl, by decide, B, fun m H1 _ _ B1 w1 => ⟨rfl, _, rfl, ite2 (fun _ => ?_) (fun _ => ?_)⟩⟩
    · refine ⟨(by show 7 ≤ sizeLine; decide), fun l hl => ?_⟩
      have B2 := B1.same (same_new (o := .lst [.str "ab", .str "total", .str "summe", .str "counts", .str "goner", .str "mi", .str "maxmaxma"]) hl)
      refine ⟨_, rfl, b, 7, rfl, by decide, B2, fun m H2 m0 m1 B3 w3 => ?_⟩
      obtain ⟨v, hv, ev⟩ := item_by V.str (xs := ["ab", "total", "summe", "counts", "goner", "mi", "maxmaxma"]) m0 (by show m < 7; exact m1)
      have hl3 := w3 _ _ (box_ne B1 hl) upd_same
      refine ⟨l, _, _, _, rfl, rfl, SqL.of hl3, ev, ?_⟩
      have all : ∀ v ∈ (["ab", "total", "summe", "counts", "goner", "mi", "maxmaxma"] : List Str), v.cps.toList.length ≤ 9 ∧ PyData.strOk v = true := by decide +kernel
      have hv2 := all v hv
      rw [← S_self v]
      exact q _ H2 hv2.1 (by rw [S_self]; exact hv2.2) B3 ((w1.trans (Kp.of (same_new hl))).trans w3)
    refine ⟨_, rfl, b, 7, rfl, by decide, B1, fun m H2 m0 m1 B2 w2 => ⟨_, _, rfl, rfl, 2 + m, rfl, by omega, by omega, for_range (lo := 0) (n := (2 + m).toNat) (fun i σ H' => ∃ (a : List Nat) (c3 : Option V), σ = [some (.ref b), some (.str ("abcdefghijklmnopqrstuvwxyz" : Str)), some (.str (S a)), c3] ∧ a.length = i ∧ a.all sml = true ∧ Box H' b ∧ Kp b H H') ⟨[], _, by rw [← emp_S]; rfl, rfl, rfl, B2, w1.trans w2⟩ ?_ ?_⟩⟩
    · rintro i σ H3 hi ⟨a, c3, rfl, al, hd, B3, w3⟩
      refine ⟨_, rfl, _, rfl, _, rfl, b, 26, rfl, by decide, B3, fun k H4 k0 k1 B4 w4 => ?_⟩
      obtain ⟨c, hm, hc⟩ := at_mem (xs := ("abcdefghijklmnopqrstuvwxyz" : Str).cps.toList) k0 (Int.lt_of_lt_of_le k1 (by decide +kernel))
      have hdc : sml c = true := by rw [← sml_mem]; exact decide_eq_true hm
      refine ⟨_, k, c, rfl, rfl, by decide +kernel, hc, S a, S [c], rfl, rfl, len_add (by omega) (by simp), a ++ [c], some (.int (0 + (i : Int))), ?_, by rw [List.length_append, al]; rfl, ?_, B4, w3.trans w4⟩
      · rw [S_cat]
        rfl
      · rw [List.all_append, hd]
        show (true && (sml c && true)) = true
        rw [hdc]
        rfl
    · rintro σ H3 ⟨a, c3, rfl, al, hd, B3, w3⟩
      refine ⟨_, rfl, (by show 5 ≤ sizeLine; decide), fun l hl => ⟨l, _, rfl, .inl (SqL.of upd_same), rfl, rfl, _, rfl, ite2 (fun c => ?_) (fun c => ?_)⟩⟩
      · have ex : ("x" : Str) = S [120] := by decide +kernel
        have hx : (a ++ [120]).all sml = true := by
          rw [List.all_append, hd]
          decide
        refine ⟨_, rfl, S a, "x", rfl, rfl, by rw [ex]; exact len_add (by omega) (by simp), ?_⟩
        rw [ex, S_cat]
        exact q _ _ (by rw [List.length_append, al]; show (2 + m).toNat + 1 ≤ 9; omega) (strOk_sml hx) (B3.same (same_new hl)) (w3.trans (Kp.of (same_new hl)))
      · exact ⟨_, rfl, q _ _ (by omega) (strOk_sml hd) (B3.same (same_new hl)) (w3.trans (Kp.of (same_new hl)))⟩
def Ar.ins (R C : Int) : Ar → Prop
  | .block a b c d => 0 ≤ a ∧ a ≤ c ∧ c < R ∧ 0 ≤ b ∧ b ≤ d ∧ d < C
  | .name w => w.1.length ≤ 1000
  | .gone => True
def signsL : List Str := ["+", "-", "*", "/"]
def fnsL : List Str := ["sum", "count", "min", "max"]
theorem signs_at : ∀ c ∈ ("+-*/" : Str).cps.toList, S [c] ∈ signsL := by decide +kernel
def Tr.okR (R C : Int) : Tr → Prop
  | .num x y => Fl x y
  | .cell r c => 0 ≤ r ∧ r < R ∧ 0 ≤ c ∧ c < C
  | .neg t => t.okR R C
  | .op s l r => l.okR R C ∧ r.okR R C ∧ s ∈ signsL
  | .call n as => as.length ≤ 3 ∧ (∀ a ∈ as, a.ins R C) ∧ n ∈ fnsL
  | _ => True
theorem okR_ok {R C : Int} : ∀ {t : Tr}, t.okR R C → t.ok 3
  | .gone, _ => trivial
  | .num _ _, _ => trivial
  | .cell _ _, _ => trivial
  | .neg t, o => okR_ok (t := t) o
  | .op s l r, o => ⟨okR_ok o.1, okR_ok o.2.1⟩
  | .call n as, o => o.1
/-- sizes of a grid -/
structure RC (R C : Int) : Prop where
  r0 : 0 < R
  r1 : R ≤ 50
  c0 : 0 < C
  c1 : C ≤ 50
def spLeaf (K : PySem.W.Frag) : Sp := fun vs H Q _ => ∃ (b : Addr) (R C : Int), vs = [.ref b, .int R, .int C] ∧ RC R C ∧ Box H b ∧ ∀ (l : Addr) (t : Tr) (d : Nat) (H' : Hp), Box H' b → Kp b H H' → NodeAt H' b l 0 t → t.h = 0 → t.okR R C → Q (.ref l) H'
theorem okLawLeaf (T : Txt K mg) : FnOk P w K mg base CX0 3 T.fLawLeaf T.fdLawLeaf ["box", "rows", "columns"] (spLeaf K) := by
  refine T.FLawLeaf.ok scLawLeaf (fun vs H Q E h => ?_) (fun cdv A outer s H vs Q E hr h => ?_)
  · obtain ⟨b, R, C, rfl, _⟩ := h
    rfl
  · obtain ⟨b, R, C, rfl, rc, B, q⟩ := h
    have rc0 := rc.r0
    have rc1 := rc.r1
    have rc2 := rc.c0
    have rc3 := rc.c1
    -- slots box=0 rows=1 columns=2 kind=3 whole=4 more=5 row=6 column=7
    refine ⟨_, (pss_cons (ps_set (i := 3) scLawLeaf.nd rfl (Or.inl rfl) (pe_call (okLawDraw T) (hr.mono (by decide)) (by rfl) T.gLawDraw T.FLawDraw.kp T.bLawDraw .nil pass0 (pa_cons (pv 0) (pa_cons pe_int pa_nil))))
        (pss_cons (ps_if (pt_cmpR op_eq (pv 3) pe_int (nomark _))
          (pss_one (ps_ret (pe_lst (pa_cons (pe_tup (pa_cons pe_str pa_nil)) (pa_cons (pe_lst (pa_cons pe_str pa_nil)) (pa_cons pe_int pa_nil))))))
          pss_nil)
        (pss_cons (ps_if (pt_cmpR op_eq (pv 3) pe_int (nomark _))
          (pss_cons (ps_set (i := 4) scLawLeaf.nd rfl (Or.inl rfl) (pe_call (okLawDigitText T) (hr.mono (by decide)) (by rfl) T.gLawDigitText T.FLawDigitText.kp T.bLawDigitText .nil pass0 (pa_cons (pv 0) (pa_cons (pe_op op_add pe_int (pe_call (okLawDraw T) (hr.mono (by decide)) (by rfl) T.gLawDraw T.FLawDraw.kp T.bLawDraw .nil pass0 (pa_cons (pv 0) (pa_cons pe_int pa_nil)))) pa_nil))))
          (pss_one (ps_ret (pe_lst (pa_cons (pe_tup (pa_cons pe_str (pa_cons (pe_tup (pa_cons (pe_callTy call_int_str (by rfl) T.z_int (by decide +kernel) (pa_cons (pv 4) pa_nil)) (pa_cons pe_int pa_nil))) pa_nil))) (pa_cons (pe_lst (pa_cons (pv 4) pa_nil)) (pa_cons pe_int pa_nil)))))))
          pss_nil)
        (pss_cons (ps_if (pt_cmpR op_eq (pv 3) pe_int (nomark _))
          (pss_cons (ps_set (i := 4) scLawLeaf.nd rfl (Or.inl rfl) (pe_call (okLawDigitText T) (hr.mono (by decide)) (by rfl) T.gLawDigitText T.FLawDigitText.kp T.bLawDigitText .nil pass0 (pa_cons (pv 0) (pa_cons (pe_op op_add pe_int (pe_call (okLawDraw T) (hr.mono (by decide)) (by rfl) T.gLawDraw T.FLawDraw.kp T.bLawDraw .nil pass0 (pa_cons (pv 0) (pa_cons pe_int pa_nil)))) pa_nil))))
          (pss_cons (ps_set (i := 5) scLawLeaf.nd rfl (Or.inl rfl) (pe_call (okLawDigitText T) (hr.mono (by decide)) (by rfl) T.gLawDigitText T.FLawDigitText.kp T.bLawDigitText .nil pass0 (pa_cons (pv 0) (pa_cons (pe_op op_add pe_int (pe_call (okLawDraw T) (hr.mono (by decide)) (by rfl) T.gLawDraw T.FLawDraw.kp T.bLawDraw .nil pass0 (pa_cons (pv 0) (pa_cons pe_int pa_nil)))) pa_nil))))
          (pss_one (ps_ret (pe_lst (pa_cons (pe_tup (pa_cons pe_str (pa_cons (pe_call (okLawLowest T) (hr.mono (by decide)) (by rfl) T.gLawLowest T.FLawLowest.kp T.bLawLowest .nil pass0 (pa_cons (pe_callTy call_int_str (by rfl) T.z_int (by decide +kernel) (pa_cons (pe_op op_add_str (pv 4) (pv 5)) pa_nil)) (pa_cons (pe_ix ix_list (pe_lst (pa_cons pe_int (pa_cons pe_int (pa_cons pe_int (pa_cons pe_int pa_nil))))) (pe_callB call_len_str (by rfl) T.z_len PySem.boot_len (pa_cons (pv 5) pa_nil)) (fun _ _ => rfl)) pa_nil))) pa_nil))) (pa_cons (pe_lst (pa_cons (pe_op op_add_str (pe_op op_add_str (pv 4) pe_str) (pv 5)) pa_nil)) (pa_cons pe_int pa_nil))))))))
          pss_nil)
        (pss_cons (ps_set (i := 6) scLawLeaf.nd rfl (Or.inl rfl) (pe_call (okLawDraw T) (hr.mono (by decide)) (by rfl) T.gLawDraw T.FLawDraw.kp T.bLawDraw .nil pass0 (pa_cons (pv 0) (pa_cons (pv 1) pa_nil))))
        (pss_cons (ps_set (i := 7) scLawLeaf.nd rfl (Or.inl rfl) (pe_call (okLawDraw T) (hr.mono (by decide)) (by rfl) T.gLawDraw T.FLawDraw.kp T.bLawDraw .nil pass0 (pa_cons (pv 0) (pa_cons (pv 2) pa_nil))))
        (pss_one (ps_ret (pe_lst (pa_cons (pe_tup (pa_cons pe_str (pa_cons (pv 6) (pa_cons (pv 7) pa_nil)))) (pa_cons (pe_lst (pa_cons (pe_call (okLawAddress T) (hr.mono (by decide)) (by rfl) T.gLawAddress T.FLawAddress.kp T.bLawAddress .nil pass0 (pa_cons (pv 6) (pa_cons (pv 7) pa_nil))) pa_nil)) (pa_cons pe_int pa_nil)))))))))))), ?_⟩
    have fin : ∀ (H3 : Hp) (v : V) (t : Tr) (tl l : Addr) (ts : List V), Box H3 b → Kp b H H3 → TrAt H3 v t → H3 tl = some (.lst ts) → tl ≠ b → ts.length ≤ 20 → H3 l = none → t.h = 0 → t.okR R C → Q (.ref l) (upd H3 l (.lst [v, .ref tl, .int 4])) := fun H3 v t tl l ts B3 w3 ht h2 nt z hl h0 ok =>
      q l t 0 _ (B3.same (same_new hl)) (w3.trans (Kp.of (same_new hl))) (node_mk B3 ht h2 nt hl (by omega)) h0 ok
    refine ⟨_, rfl, b, 5, rfl, by decide, B, fun kd H1 kd0 kd1 B1 w1 => ?_⟩
    refine ⟨_, rfl, rfl, _, rfl, ite2 (fun _ => ?_) (fun _ => ?_)⟩
    · refine ⟨(by show 1 ≤ sizeLine; decide), fun u hu => ⟨(by show 1 ≤ sizeLine; decide), fun tl htl => ⟨(by show 3 ≤ sizeLine; decide), fun l hl => ?_⟩⟩⟩
      have s1 := same_new (o := .tup [.str "gone"]) hu
      have s2 := same_new (o := .lst [.str "gone"]) htl
      exact fin _ _ .gone tl l _ ((B1.same s1).same s2) ((w1.trans (Kp.of s1)).trans (Kp.of s2)) ⟨u, rfl, s2 _ _ upd_same⟩ upd_same (box_ne (B1.same s1) htl) (by simp) hl rfl trivial
    refine ⟨_, rfl, rfl, _, rfl, ite2 (fun _ => ?_) (fun _ => ?_)⟩
    · refine ⟨_, rfl, _, rfl, b, 4, rfl, by decide, B1, fun m H2 m0 m1 B2 w2 => ⟨_, _, rfl, rfl, b, 1 + m, rfl, by omega, by omega, B2, fun t H3 tl td B3 w3 => ?_⟩⟩
      have tne : t ≠ [] := fun z => by
        rw [z] at tl
        simp at tl
        omega
      refine ⟨_, rfl, S t, _, rfl, int_dig td tne (by omega), by rw [S_len]; omega, (by show 2 ≤ sizeLine; decide), fun p hp => ⟨(by show 2 ≤ sizeLine; decide), fun u hu => ⟨_, rfl, (by show 1 ≤ sizeLine; decide), fun tl htl => ⟨(by show 3 ≤ sizeLine; decide), fun l hl => ?_⟩⟩⟩⟩
      have s1 := same_new (o := .tup [.int ((digitsVal t : Nat) : Int), .int 1]) hp
      have s2 := same_new (o := .tup [.str "num", .ref p]) hu
      have s3 := same_new (o := .lst [.str (S t)]) htl
      exact fin _ _ (.num _ 1) tl l _ (((B3.same s1).same s2).same s3) ((((w1.trans w2).trans w3).trans (Kp.of (s1.trans s2))).trans (Kp.of s3)) ⟨u, p, rfl, s3 _ _ upd_same, (s2.trans s3) _ _ upd_same⟩ upd_same (box_ne ((B3.same s1).same s2) htl) (by simp) hl rfl (by
        have hv := val_lt td
        have h4 : 10 ^ t.length ≤ 10 ^ 4 := Nat.pow_le_pow_right (by decide) (by omega)
        exact ⟨⟨by omega, by omega, by decide, by decide⟩, Nat.gcd_one_right _⟩)
    refine ⟨_, rfl, rfl, _, rfl, ite2 (fun _ => ?_) (fun _ => ?_)⟩
    · refine ⟨_, rfl, _, rfl, b, 3, rfl, by decide, B1, fun m H2 m0 m1 B2 w2 => ⟨_, _, rfl, rfl, b, 1 + m, rfl, by omega, by omega, B2, fun t1 H3 tl1 td1 B3 w3 => ?_⟩⟩
      refine ⟨_, rfl, _, rfl, b, 3, rfl, by decide, B3, fun m2 H4 m20 m21 B4 w4 => ⟨_, _, rfl, rfl, b, 1 + m2, rfl, by omega, by omega, B4, fun t2 H5 tl2 td2 B5 w5 => ?_⟩⟩
      have wA := ((w1.trans w2).trans w3).trans (w4.trans w5)
      have da : (t1 ++ t2).all dig = true := by
        rw [List.all_append, td1, td2]
        rfl
      have la : (t1 ++ t2).length ≤ 6 := by
        rw [List.length_append]
        omega
      have na : t1 ++ t2 ≠ [] := fun z => by
        rw [List.append_eq_nil_iff] at z
        rw [z.1] at tl1
        simp at tl1
        omega
      refine ⟨_, rfl, _, rfl, S t1, S t2, rfl, rfl, len_add (by omega) (by omega), ?_⟩
      rw [S_cat]
      refine ⟨S (t1 ++ t2), _, rfl, int_dig da na (by omega), by rw [S_len]; omega, (by show 4 ≤ sizeLine; decide), fun z hz => ?_⟩
      have s1 := same_new (o := .lst [.int 1, .int 10, .int 100, .int 1000]) hz
      obtain ⟨v, hv, ev⟩ := item_by V.int (xs := [1, 10, 100, 1000]) (k := (t2.length : Int)) (by omega) (by show (t2.length : Int) < 4; omega)
      have hvb : 1 ≤ v ∧ v ≤ 1000 := by
        simp only [List.mem_cons, List.not_mem_nil, or_false] at hv
        omega
      refine ⟨_, rfl, S t2, rfl, by rw [S_len]; exact sz100 (by omega), z, _, _, .int v, rfl, rfl, SqL.of upd_same, by rw [S_len]; exact ev, ?_⟩
      have hlt := val_lt da
      have hlt2 : digitsVal (t1 ++ t2) < 10 ^ 6 := Nat.lt_of_lt_of_le hlt (Nat.pow_le_pow_right (by decide) la)
      refine ⟨_, v, rfl, by omega, by rw [Int.natAbs_natCast]; exact Nat.lt_trans hlt2 (by decide), Nat.lt_of_le_of_lt (show v.natAbs ≤ 1000 by omega) (by decide), fun p x y hp L => ⟨(by show 2 ≤ sizeLine; decide), fun u hu => ?_⟩⟩
      have s2 := same_new (o := .tup [.int x, .int y]) hp
      have s3 := same_new (o := .tup [.str "num", .ref p]) hu
      refine ⟨_, rfl, S t1, ".", rfl, rfl, by rw [dot_S]; exact len_add (by omega) (by simp), _, rfl, _, S t2, rfl, rfl, by rw [dot_S, S_cat]; exact len_add (by rw [List.length_append]; simp; omega) (by omega), (by show 1 ≤ sizeLine; decide), fun tl htl => ⟨(by show 3 ≤ sizeLine; decide), fun l hl => ?_⟩⟩
      have B8 := ((B5.same s1).same s2).same s3
      have s4 := same_new (o := .lst [.str (S t1 ++ "." ++ S t2)]) htl
      exact fin _ _ (.num x y) tl l _ (B8.same s4) ((wA.trans (Kp.of ((s1.trans s2).trans s3))).trans (Kp.of s4)) ⟨u, p, rfl, s4 _ _ upd_same, (s3.trans s4) _ _ upd_same⟩ upd_same (box_ne B8 htl) (by simp) hl rfl (by
        have h1 := L.lx
        have h2 := L.ly
        have h3 := L.pos
        rw [Int.natAbs_natCast] at h1
        exact ⟨⟨by omega, by omega, h3, by omega⟩, L.cop⟩)
    refine ⟨_, rfl, _, rfl, b, R, rfl, rc.r0, B1, fun r H2 r0 r1 B2 w2 => ⟨_, rfl, _, rfl, b, C, rfl, rc.c0, B2, fun c H3 c0 c1 B3 w3 => ?_⟩⟩
    obtain ⟨r, rfl⟩ := Int.eq_ofNat_of_zero_le r0
    obtain ⟨c, rfl⟩ := Int.eq_ofNat_of_zero_le c0
    refine ⟨_, rfl, _, rfl, (by show 3 ≤ sizeLine; decide), fun u hu => ?_⟩
    have s1 := same_new (o := .tup [.str "cell", .int (r : Int), .int (c : Int)]) hu
    refine ⟨_, rfl, _, rfl, r, c, rfl, by omega, by omega, fun H4 s2 => ⟨(by show 1 ≤ sizeLine; decide), fun tl htl => ⟨(by show 3 ≤ sizeLine; decide), fun l hl => ?_⟩⟩⟩
    have s3 := same_new (o := .lst [.str (S (addr r c))]) htl
    exact fin _ _ (.cell _ _) tl l _ (((B3.same s1).same s2).same s3) ((((w1.trans w2).trans w3).trans (Kp.of (s1.trans s2))).trans (Kp.of s3)) ⟨u, rfl, (s2.trans s3) _ _ upd_same⟩ upd_same (box_ne ((B3.same s1).same s2) htl) (by simp) hl rfl ⟨by omega, by omega, by omega, by omega⟩
def AreaAt (H0 H : Hp) (b l : Addr) (a : Ar) : Prop := ∃ (v : V) (tl : Addr) (ts : List V), H l = some (.lst [v, .ref tl]) ∧ H tl = some (.lst ts) ∧ ts.length ≤ 3 ∧ ArAt H v a ∧ H0 l = none ∧ H0 tl = none
theorem none_back {H H' : Hp} {b l : Addr} (w : Kp b H H') (h : H' l = none) (B : Box H' b) : H l = none := by
  cases e : H l with
  | none => rfl
  | some o =>
    have := w _ _ (box_ne B h) e
    rw [h] at this
    cases this
def spArea (K : PySem.W.Frag) : Sp := fun vs H Q _ => ∃ (b : Addr) (R C : Int), vs = [.ref b, .int R, .int C] ∧ RC R C ∧ Box H b ∧ ∀ (l : Addr) (a : Ar) (H' : Hp), Box H' b → Kp b H H' → AreaAt H H' b l a → a.ins R C → Q (.ref l) H'
theorem okLawArea (T : Txt K mg) : FnOk P w K mg base CX0 3 T.fLawArea T.fdLawArea ["box", "rows", "columns"] (spArea K) := by
  refine T.FLawArea.ok scLawArea (fun vs H Q E h => ?_) (fun cdv A outer s H vs Q E hr h => ?_)
  · obtain ⟨b, R, C, rfl, _⟩ := h
    rfl
  · obtain ⟨b, R, C, rfl, rc, B, q⟩ := h
    have rc0 := rc.r0
    have rc1 := rc.r1
    have rc2 := rc.c0
    have rc3 := rc.c1
    -- slots box=0 rows=1 columns=2 kind=3 word=4 row=5 column=6 other=7 side=8 block=9
    refine ⟨_, (pss_cons (ps_set (i := 3) scLawArea.nd rfl (Or.inl rfl) (pe_call (okLawDraw T) (hr.mono (by decide)) (by rfl) T.gLawDraw T.FLawDraw.kp T.bLawDraw .nil pass0 (pa_cons (pv 0) (pa_cons pe_int pa_nil))))
        (pss_cons (ps_if (pt_cmpR op_eq (pv 3) pe_int (nomark _))
          (pss_one (ps_ret (pe_lst (pa_cons (pe_tup (pa_cons pe_str pa_nil)) (pa_cons (pe_lst (pa_cons pe_str pa_nil)) pa_nil)))))
          pss_nil)
        (pss_cons (ps_if (pt_cmpR op_eq (pv 3) pe_int (nomark _))
          (pss_cons (ps_set (i := 4) scLawArea.nd rfl (Or.inl rfl) (pe_call (okLawWord T) (hr.mono (by decide)) (by rfl) T.gLawWord T.FLawWord.kp T.bLawWord .nil pass0 (pa_cons (pv 0) pa_nil)))
          (pss_one (ps_ret (pe_lst (pa_cons (pe_tup (pa_cons pe_str (pa_cons (pv 4) pa_nil))) (pa_cons (pe_lst (pa_cons (pv 4) pa_nil)) pa_nil))))))
          pss_nil)
        (pss_cons (ps_set (i := 5) scLawArea.nd rfl (Or.inl rfl) (pe_call (okLawDraw T) (hr.mono (by decide)) (by rfl) T.gLawDraw T.FLawDraw.kp T.bLawDraw .nil pass0 (pa_cons (pv 0) (pa_cons (pv 1) pa_nil))))
        (pss_cons (ps_set (i := 6) scLawArea.nd rfl (Or.inl rfl) (pe_call (okLawDraw T) (hr.mono (by decide)) (by rfl) T.gLawDraw T.FLawDraw.kp T.bLawDraw .nil pass0 (pa_cons (pv 0) (pa_cons (pv 2) pa_nil))))
        (pss_cons (ps_if (pt_cmpR op_eq (pv 3) pe_int (nomark _))
          (pss_one (ps_ret (pe_lst (pa_cons (pe_tup (pa_cons pe_str (pa_cons (pv 5) (pa_cons (pv 6) (pa_cons (pv 5) (pa_cons (pv 6) pa_nil)))))) (pa_cons (pe_lst (pa_cons (pe_call (okLawAddress T) (hr.mono (by decide)) (by rfl) T.gLawAddress T.FLawAddress.kp T.bLawAddress .nil pass0 (pa_cons (pv 5) (pa_cons (pv 6) pa_nil))) pa_nil)) pa_nil)))))
          pss_nil)
        (pss_cons (ps_set (i := 7) scLawArea.nd rfl (Or.inl rfl) (pe_call (okLawDraw T) (hr.mono (by decide)) (by rfl) T.gLawDraw T.FLawDraw.kp T.bLawDraw .nil pass0 (pa_cons (pv 0) (pa_cons (pv 1) pa_nil))))
        (pss_cons (ps_set (i := 8) scLawArea.nd rfl (Or.inl rfl) (pe_call (okLawDraw T) (hr.mono (by decide)) (by rfl) T.gLawDraw T.FLawDraw.kp T.bLawDraw .nil pass0 (pa_cons (pv 0) (pa_cons (pv 2) pa_nil))))
        (pss_cons (ps_set (i := 9) scLawArea.nd rfl (Or.inl rfl) (pe_tup (pa_cons pe_str (pa_cons (pe_callB (call_min2 rfl) (by rfl) T.z_min (by decide +kernel) (pa_cons (pv 5) (pa_cons (pv 7) pa_nil))) (pa_cons (pe_callB (call_min2 rfl) (by rfl) T.z_min (by decide +kernel) (pa_cons (pv 6) (pa_cons (pv 8) pa_nil))) (pa_cons (pe_callB (call_max2 rfl) (by rfl) T.z_max (by decide +kernel) (pa_cons (pv 5) (pa_cons (pv 7) pa_nil))) (pa_cons (pe_callB (call_max2 rfl) (by rfl) T.z_max (by decide +kernel) (pa_cons (pv 6) (pa_cons (pv 8) pa_nil))) pa_nil)))))))
        (pss_one (ps_ret (pe_lst (pa_cons (pv 9) (pa_cons (pe_lst (pa_cons (pe_call (okLawAddress T) (hr.mono (by decide)) (by rfl) T.gLawAddress T.FLawAddress.kp T.bLawAddress .nil pass0 (pa_cons (pv 5) (pa_cons (pv 6) pa_nil))) (pa_cons pe_str (pa_cons (pe_call (okLawAddress T) (hr.mono (by decide)) (by rfl) T.gLawAddress T.FLawAddress.kp T.bLawAddress .nil pass0 (pa_cons (pv 7) (pa_cons (pv 8) pa_nil))) pa_nil)))) pa_nil)))))))))))))), ?_⟩
    have fin : ∀ (H3 : Hp) (v : V) (t : Ar) (tl l : Addr) (ts : List V), Box H3 b → Kp b H H3 → ArAt H3 v t → H3 tl = some (.lst ts) → H tl = none → ts.length ≤ 3 → H3 l = none → t.ins R C → Q (.ref l) (upd H3 l (.lst [v, .ref tl])) := fun H3 v t tl l ts B3 w3 ht h2 nt z hl ins =>
      q l t _ (B3.same (same_new hl)) (w3.trans (Kp.of (same_new hl))) ⟨v, tl, ts, upd_same, (same_new hl) _ _ h2, z, ht.mono (TK.of (same_new hl)), none_back w3 hl B3, nt⟩ ins
    refine ⟨_, rfl, b, 7, rfl, by decide, B, fun kd H1 kd0 kd1 B1 w1 => ?_⟩
    refine ⟨_, rfl, rfl, _, rfl, ite2 (fun _ => ?_) (fun _ => ?_)⟩
    · refine ⟨(by show 1 ≤ sizeLine; decide), fun u hu => ⟨(by show 1 ≤ sizeLine; decide), fun tl htl => ⟨(by show 2 ≤ sizeLine; decide), fun l hl => ?_⟩⟩⟩
      have s1 := same_new (o := .tup [.str "gone"]) hu
      have s2 := same_new (o := .lst [.str "gone"]) htl
      exact fin _ _ .gone tl l _ ((B1.same s1).same s2) ((w1.trans (Kp.of s1)).trans (Kp.of s2)) ⟨u, rfl, s2 _ _ upd_same⟩ upd_same (none_back (w1.trans (Kp.of s1)) htl (B1.same s1)) (by decide) hl trivial
    refine ⟨_, rfl, rfl, _, rfl, ite2 (fun _ => ?_) (fun _ => ?_)⟩
    · refine ⟨_, rfl, b, rfl, B1, fun a H2 al aok B2 w2 => ⟨_, rfl, (by show 2 ≤ sizeLine; decide), fun u hu => ⟨_, rfl, (by show 1 ≤ sizeLine; decide), fun tl htl => ⟨(by show 2 ≤ sizeLine; decide), fun l hl => ?_⟩⟩⟩⟩
      have s1 := same_new (o := .tup [.str "name", .str (S a)]) hu
      have s2 := same_new (o := .lst [.str (S a)]) htl
      exact fin _ _ (.name ⟨S a, aok⟩) tl l _ ((B2.same s1).same s2) (((w1.trans w2).trans (Kp.of s1)).trans (Kp.of s2)) ⟨u, rfl, s2 _ _ upd_same⟩ upd_same (none_back ((w1.trans w2).trans (Kp.of s1)) htl (B2.same s1)) (by simp) hl (by show (S a).length ≤ 1000; rw [S_len]; omega)
    refine ⟨_, rfl, _, rfl, b, R, rfl, rc.r0, B1, fun r H2 r0 r1 B2 w2 => ⟨_, rfl, _, rfl, b, C, rfl, rc.c0, B2, fun c H3 c0 c1 B3 w3 => ?_⟩⟩
    obtain ⟨r, rfl⟩ := Int.eq_ofNat_of_zero_le r0
    obtain ⟨c, rfl⟩ := Int.eq_ofNat_of_zero_le c0
    have w13 := (w1.trans w2).trans w3
    refine ⟨_, rfl, rfl, _, rfl, ite2 (fun _ => ?_) (fun _ => ?_)⟩
    · refine ⟨_, rfl, _, rfl, _, rfl, _, rfl, (by show 5 ≤ sizeLine; decide), fun u hu => ⟨_, rfl, _, rfl, r, c, rfl, by omega, by omega, fun H4 s2 => ⟨(by show 1 ≤ sizeLine; decide), fun tl htl => ⟨(by show 2 ≤ sizeLine; decide), fun l hl => ?_⟩⟩⟩⟩
      have s1 := same_new (o := .tup [.str "block", .int (r : Int), .int (c : Int), .int (r : Int), .int (c : Int)]) hu
      have s3 := same_new (o := .lst [.str (S (addr r c))]) htl
      exact fin _ _ (.block _ _ _ _) tl l _ (((B3.same s1).same s2).same s3) ((w13.trans (Kp.of (s1.trans s2))).trans (Kp.of s3)) ⟨u, rfl, (s2.trans s3) _ _ upd_same⟩ upd_same (none_back (w13.trans (Kp.of (s1.trans s2))) htl ((B3.same s1).same s2)) (by simp) hl ⟨by omega, by omega, by omega, by omega, by omega, by omega⟩
    refine ⟨_, rfl, _, rfl, b, R, rfl, rc.r0, B3, fun o H4 o0 o1 B4 w4 => ⟨_, rfl, _, rfl, b, C, rfl, rc.c0, B4, fun e H5 e0 e1 B5 w5 => ?_⟩⟩
    obtain ⟨o, rfl⟩ := Int.eq_ofNat_of_zero_le o0
    obtain ⟨e, rfl⟩ := Int.eq_ofNat_of_zero_le e0
    have w15 := (w13.trans w4).trans w5
    refine ⟨_, rfl, _, rfl, _, _, rfl, _, rfl, _, rfl, _, _, rfl, _, rfl, _, rfl, _, _, rfl, _, rfl, _, rfl, _, _, rfl, (by show 5 ≤ sizeLine; decide), fun u hu => ?_⟩
    have s1 := same_new (o := .tup [.str "block", .int (if (o : Int) < r then o else r), .int (if (e : Int) < c then e else c), .int (if (o : Int) > r then o else r), .int (if (e : Int) > c then e else c)]) hu
    refine ⟨_, rfl, _, rfl, _, rfl, r, c, rfl, by omega, by omega, fun H6 s2 => ⟨_, rfl, _, rfl, o, e, rfl, by omega, by omega, fun H7 s3 => ⟨(by show 3 ≤ sizeLine; decide), fun tl htl => ⟨(by show 2 ≤ sizeLine; decide), fun l hl => ?_⟩⟩⟩⟩
    have s4 := same_new (o := .lst [.str (S (addr r c)), .str ":", .str (S (addr o e))]) htl
    have B8 := ((B5.same s1).same s2).same s3
    exact fin _ _ (.block _ _ _ _) tl l _ (B8.same s4) ((w15.trans (Kp.of ((s1.trans s2).trans s3))).trans (Kp.of s4)) ⟨u, rfl, ((s2.trans s3).trans s4) _ _ upd_same⟩ upd_same (none_back (w15.trans (Kp.of ((s1.trans s2).trans s3))) htl B8) (by simp) hl ⟨by split <;> omega, by split <;> split <;> omega, by split <;> omega, by split <;> omega, by split <;> split <;> omega, by split <;> omega⟩
theorem pow3_le {d : Nat} (h : d ≤ 6) : 3 ^ d ≤ 729 := Nat.le_trans (Nat.pow_le_pow_right (by decide) h) (by decide)
def spInside (K : PySem.W.Frag) : Sp := fun vs H Q _ => ∃ (b l : Addr) (d : Nat) (t : Tr) (k : Int), vs = [.ref b, .ref l, .int k] ∧ Box H b ∧ d ≤ 6 ∧ NodeAt H b l d t ∧ ∀ (tl : Addr) (ts : List V) (H' : Hp), Box H' b → Kp b H H' → H' tl = some (.lst ts) → ts.length ≤ 20 * 3 ^ d + 2 → tl ≠ b → Q (.ref tl) H'
theorem okLawInside (T : Txt K mg) : FnOk P w K mg base CX0 2 T.fLawInside T.fdLawInside ["box", "node", "least"] (spInside K) := by
  refine T.FLawInside.ok scLawInside (fun vs H Q E h => ?_) (fun cdv A outer s H vs Q E hr h => ?_)
  · obtain ⟨b, l, d, t, k, rfl, _⟩ := h
    rfl
  · obtain ⟨b, l, d, t, k, rfl, B, hd, ⟨v, tl, ts, k2, h1, h2, z, _, n1, n2⟩, q⟩ := h
    -- slots box=0 node=1 least=2
    refine ⟨_, (pss_cons (ps_if (PW.pt (pw_or (pt_cmpR op_lt (pe_ix ix_list (pv 1) pe_int (fun _ _ => rfl)) (pv 2) (nomark _)) (pw_or1 (pt_cmpR op_eq (pe_call (okLawDraw T) (hr.mono (by decide)) (by rfl) T.gLawDraw T.FLawDraw.kp T.bLawDraw .nil pass0 (pa_cons (pv 0) (pa_cons pe_int pa_nil))) pe_int (nomark _)))))
          (pss_one (ps_ret (pe_op op_cat (pe_op op_cat (pe_lst (pa_cons pe_str pa_nil)) (pe_ix ix_list (pv 1) pe_int (fun _ _ => rfl))) (pe_lst (pa_cons pe_str pa_nil)))))
          pss_nil)
        (pss_one (ps_ret (pe_ix ix_list (pv 1) pe_int (fun _ _ => rfl))))), ?_⟩
    have p3 := pow3_le hd
    refine ⟨_, rfl, l, _, _, _, rfl, rfl, SqL.of h1, atI_nat (j := 2) rfl, _, rfl, _, _, rfl, rfl, _, rfl, ite2 (fun _ => ?_) (fun _ => ⟨_, rfl, b, 6, rfl, by decide, B, fun m H1 _ _ B1 w1 => ⟨rfl, _, rfl, ite2 (fun _ => ?_) (fun _ => ?_)⟩⟩)⟩
    · refine ⟨(by show 1 ≤ sizeLine; decide), fun x hx => ?_⟩
      have s1 := same_new (o := .lst [.str "("]) hx
      refine ⟨_, rfl, l, _, _, _, rfl, rfl, SqL.of (s1 _ _ h1), atI_nat (j := 1) rfl, x, tl, _, _, rfl, rfl, upd_same, s1 _ _ h2, sz100 (by show 1 + ts.length ≤ 100000; omega), fun y hy => ⟨(by show 1 ≤ sizeLine; decide), fun w hw => ?_⟩⟩
      have s2 := same_new (o := .lst ([.str "("] ++ ts)) hy
      have s3 := same_new (o := .lst [.str ")"]) hw
      refine ⟨y, w, _, _, rfl, rfl, s3 _ _ upd_same, upd_same, sz100 (by simp; omega), fun r hr => ?_⟩
      have s4 := same_new (o := .lst ([.str "("] ++ ts ++ [.str ")"])) hr
      have B5 := ((B.same s1).same s2).same s3
      exact q r _ _ (B5.same s4) (Kp.of (((s1.trans s2).trans s3).trans s4)) upd_same (by simp; omega) (box_ne B5 hr)
    · have h1' := w1 _ _ n1 h1
      have h2' := w1 _ _ n2 h2
      refine ⟨(by show 1 ≤ sizeLine; decide), fun x hx => ?_⟩
      have s1 := same_new (o := .lst [.str "("]) hx
      refine ⟨_, rfl, l, _, _, _, rfl, rfl, SqL.of (s1 _ _ h1'), atI_nat (j := 1) rfl, x, tl, _, _, rfl, rfl, upd_same, s1 _ _ h2', sz100 (by show 1 + ts.length ≤ 100000; omega), fun y hy => ⟨(by show 1 ≤ sizeLine; decide), fun w hw => ?_⟩⟩
      have s2 := same_new (o := .lst ([.str "("] ++ ts)) hy
      have s3 := same_new (o := .lst [.str ")"]) hw
      refine ⟨y, w, _, _, rfl, rfl, s3 _ _ upd_same, upd_same, sz100 (by simp; omega), fun r hr => ?_⟩
      have s4 := same_new (o := .lst ([.str "("] ++ ts ++ [.str ")"])) hr
      have B5 := ((B1.same s1).same s2).same s3
      exact q r _ _ (B5.same s4) (w1.trans (Kp.of (((s1.trans s2).trans s3).trans s4))) upd_same (by simp; omega) (box_ne B5 hr)
    · have h1' := w1 _ _ n1 h1
      exact ⟨_, rfl, l, _, _, _, rfl, rfl, SqL.of h1', atI_nat (j := 1) rfl, q tl ts H1 B1 w1 (w1 _ _ n2 h2) (by omega) n2⟩
theorem kp_mut {b : Addr} {H H' : Hp} {ad : Addr} {o : HO} (w : Kp b H H') (h : H ad = none) (n : ad ≠ b) : Kp b H (upd H' ad o) := by
  refine ⟨fun c x nc hc => ?_, fun x j hb => ?_⟩
  · rw [upd_ne (ne_of_none hc h)]
    exact w _ _ nc hc
  · obtain ⟨j', hj⟩ := w.d x j hb
    exact ⟨j', by rw [upd_ne n.symm]; exact hj⟩
theorem box_mut {H : Hp} {b ad d0 : Addr} {j : V} {o : HO} (B : Box H b) (hb : H b = some (.lst [.ref d0, j])) (n1 : ad ≠ b) (n2 : ad ≠ d0) : Box (upd H ad o) b := by
  obtain ⟨d, ds, i, h1, h2, h3⟩ := B
  rw [h1] at hb
  have e0 : d = d0 := V.ref.inj (List.cons.inj (HO.lst.inj (Option.some.inj hb))).1
  rw [← e0] at n2
  exact ⟨d, ds, i, by rw [upd_ne n1.symm]; exact h1, by rw [upd_ne n2.symm]; exact h2, h3⟩
theorem Ars.snoc {H : Hp} {vs : List V} {as : List Ar} {v : V} {a : Ar} (h : Ars H vs as) (ha : ArAt H v a) : Ars H (vs ++ [v]) (as ++ [a]) := Ars.app (.cons ha .nil) h
def spCall (K : PySem.W.Frag) : Sp := fun vs H Q _ => ∃ (b : Addr) (R C : Int), vs = [.ref b, .int R, .int C] ∧ RC R C ∧ Box H b ∧ ∀ (l : Addr) (t : Tr) (d : Nat) (H' : Hp), Box H' b → Kp b H H' → NodeAt H' b l 0 t → t.h = 0 → t.okR R C → Q (.ref l) H'
theorem okLawCall (T : Txt K mg) : FnOk P w K mg base CX0 4 T.fLawCall T.fdLawCall ["box", "rows", "columns"] (spCall K) := by
  refine T.FLawCall.ok scLawCall (fun vs H Q E h => ?_) (fun cdv A outer s H vs Q E hr h => ?_)
  · obtain ⟨b, R, C, rfl, _⟩ := h
    rfl
  · obtain ⟨b, R, C, rfl, rc, B, q⟩ := h
    have rc0 := rc.r0
    have rc1 := rc.r1
    have rc2 := rc.c0
    have rc3 := rc.c1
    -- slots box=0 rows=1 columns=2 name=3 areas=4 texts=5 k=6 area=7
    refine ⟨_, (pss_cons (ps_set (i := 3) scLawCall.nd rfl (Or.inl rfl) (pe_ix ix_list (pe_lst (pa_cons pe_str (pa_cons pe_str (pa_cons pe_str (pa_cons pe_str pa_nil))))) (pe_call (okLawDraw T) (hr.mono (by decide)) (by rfl) T.gLawDraw T.FLawDraw.kp T.bLawDraw .nil pass0 (pa_cons (pv 0) (pa_cons pe_int pa_nil))) (fun _ _ => rfl)))
        (pss_cons (ps_set (i := 4) scLawCall.nd rfl (Or.inl rfl) (pe_lst pa_nil))
        (pss_cons (ps_set (i := 5) scLawCall.nd rfl (Or.inl rfl) (pe_lst (pa_cons (pv 3) (pa_cons pe_str pa_nil))))
        (pss_cons (ps_for PassesOwn.never rfl (pi_range1 rfl T.z_range (pa_cons (pe_op op_add pe_int (pe_call (okLawDraw T) (hr.mono (by decide)) (by rfl) T.gLawDraw T.FLawDraw.kp T.bLawDraw .nil pass0 (pa_cons (pv 0) (pa_cons pe_int pa_nil)))) pa_nil)) (pg_name (i := 6) scLawCall.nd rfl (Or.inl rfl))
          (pss_cons (ps_set (i := 7) scLawCall.nd rfl (Or.inl rfl) (pe_call (okLawArea T) (hr.mono (by decide)) (by rfl) T.gLawArea T.FLawArea.kp T.bLawArea .nil pass0 (pa_cons (pv 0) (pa_cons (pv 1) (pa_cons (pv 2) pa_nil)))))
          (C8.pss_cut (ps_if (pt_cmpR op_gt (pv 6) pe_int (nomark _))
            (pss_one (ps_set (i := 5) scLawCall.nd rfl (Or.inl rfl) (pe_op op_cat (pv 5) (pe_lst (pa_cons pe_str pa_nil)))))
            pss_nil)
          (pss_cons (ps_expr (pe_bm PySem.F.plainAttrs_list PySem.F.slot_list_append PySem.F.type_list_append mt_append (pv 4) (pa_cons (pe_ix ix_list (pv 7) pe_int (fun _ _ => rfl)) pa_nil)))
          (pss_one (ps_set (i := 5) scLawCall.nd rfl (Or.inl rfl) (pe_op op_cat (pv 5) (pe_ix ix_list (pv 7) pe_int (fun _ _ => rfl)))))))))
        (pss_one (ps_ret (pe_lst (pa_cons (pe_tup (pa_cons pe_str (pa_cons (pv 3) (pa_cons (pe_callTy call_tuple_of (by rfl) T.z_tuple (by decide +kernel) (pa_cons (pv 4) pa_nil)) pa_nil)))) (pa_cons (pe_op op_cat (pv 5) (pe_lst (pa_cons pe_str pa_nil))) (pa_cons pe_int pa_nil)))))))))), ?_⟩
    refine ⟨(by show 4 ≤ sizeLine; decide), fun z hz => ?_⟩
    have sz := same_new (o := .lst [.str "sum", .str "count", .str "min", .str "max"]) hz
    have Bz := B.same sz
    refine ⟨_, rfl, b, 4, rfl, by decide, Bz, fun m H1 m0 m1 B1 w1 => ?_⟩
    obtain ⟨nm, nmem, ev⟩ := item_by V.str (xs := ["sum", "count", "min", "max"]) m0 (by show m < 4; exact m1)
    refine ⟨z, _, _, _, rfl, rfl, SqL.of (w1 _ _ (box_ne B hz) upd_same), ev, ?_⟩
    have wz := (Kp.of (b := b) sz).trans w1
    refine ⟨Nat.zero_le _, fun ad had => ?_⟩
    have s2 := same_new (o := .lst []) had
    have B2 := B1.same s2
    have nab := box_ne B1 had
    obtain ⟨d0, ds0, j0, hb0, hd0, _⟩ := id B1
    have nad : ad ≠ d0 := fun y => by
      rw [y, hd0] at had
      cases had
    have h2 : (upd H1 ad (.lst [])) ad = some (.lst []) := upd_same
    have hb2 := s2 _ _ hb0
    have w2 := wz.trans (Kp.of s2)
    have k2 : Kp b H1 (upd H1 ad (.lst [])) := Kp.of s2
    generalize upd H1 ad (.lst []) = H2 at s2 B2 h2 hb2 w2 k2
    refine ⟨_, rfl, (by show 2 ≤ sizeLine; decide), fun tl htl => ?_⟩
    have s3 := same_new (o := .lst [.str nm, .str "("]) htl
    have B3 := B2.same s3
    refine ⟨_, rfl, b, 3, rfl, by decide, B3, fun k H4 k0 k1 B4 w4 => ?_⟩
    have ntb := box_ne B2 htl
    have nta : tl ≠ ad := fun y => by
      rw [y, h2] at htl
      cases htl
    have k4 := (k2.trans (Kp.of s3)).trans w4
    have h4 := w4 _ _ nab (s3 _ _ h2)
    have t4 := w4 _ _ ntb upd_same
    obtain ⟨j4, hb4⟩ := w4.d _ _ (s3 _ _ hb2)
    refine ⟨_, _, rfl, rfl, 1 + k, rfl, by omega, by omega, for_range (lo := 0) (n := (1 + k).toNat) (fun i σ H' => ∃ (c6 c7 : Option V) (xs : List V) (as : List Ar) (tl : Addr) (ts : List V), σ = [some (.ref b), some (.int R), some (.int C), some (.str nm), some (.ref ad), some (.ref tl), c6, c7] ∧ Box H' b ∧ Kp b H1 H' ∧ (∃ j, H' b = some (.lst [.ref d0, j])) ∧ H' ad = some (.lst xs) ∧ Ars H' xs as ∧ (as.length ≤ i ∧ ∀ a ∈ as, a.ins R C) ∧ H' tl = some (.lst ts) ∧ ts.length ≤ 2 + 4 * i ∧ tl ≠ b ∧ tl ≠ ad) ⟨_, _, [], [], tl, _, rfl, B4, k4, ⟨j4, hb4⟩, h4, .nil, ⟨Nat.le_refl _, fun _ h => nomatch h⟩, t4, by simp, ntb, nta⟩ ?_ ?_⟩
    · rintro i σ H5 hi ⟨c6, c7, xs, as, tl, ts, rfl, B5, k5, ⟨j5, hb5⟩, h5, ar5, ⟨al, ai⟩, t5, tz, ntb, nta⟩
      refine ⟨_, rfl, _, rfl, _, rfl, b, R, C, rfl, rc, B5, fun l a H6 B6 w6 ⟨v, el, es, e1, e2, e3, e4, e5, e6⟩ ains => ?_⟩
      have h6 := w6 _ _ nab h5
      have t6 := w6 _ _ ntb t5
      have k6 := k5.trans w6
      obtain ⟨j6, hb6⟩ := w6.d _ _ hb5
      have ar6 := ar5.mono (TK.kp w6 B5)
      have nla : l ≠ ad := fun y => by
        rw [y, h5] at e5
        cases e5
      have nea : el ≠ ad := fun y => by
        rw [y, h5] at e6
        cases e6
      refine ⟨fun σ H' => ∃ (tl : Addr) (ts : List V), σ = [some (.ref b), some (.int R), some (.int C), some (.str nm), some (.ref ad), some (.ref tl), some (.int (0 + (i : Int))), some (.ref l)] ∧ Same H6 H' ∧ H' tl = some (.lst ts) ∧ ts.length ≤ 3 + 4 * i ∧ tl ≠ b ∧ tl ≠ ad, ?_, ?_⟩
      · refine ⟨_, rfl, _, _, rfl, rfl, _, rfl, ite2 (fun _ => ?_) (fun _ => ⟨tl, ts, rfl, Same.refl _, t6, by omega, ntb, nta⟩)⟩
        refine ⟨_, rfl, (by show 1 ≤ sizeLine; decide), fun x hx => ?_⟩
        have s7 := same_new (o := .lst [.str ","]) hx
        refine ⟨tl, x, _, _, rfl, rfl, s7 _ _ t6, upd_same, sz100 (by simp; have : (1 + k).toNat ≤ 3 := (by omega); omega), fun y hy => ?_⟩
        exact ⟨y, _, rfl, s7.trans (same_new hy), upd_same, by simp; omega, box_ne (B6.same s7) hy, fun z => by rw [z, s7 _ _ h6] at hy; cases hy⟩
      rintro σ H7 ⟨tl, ts, rfl, s7, t7, tz, ntb, nta⟩
      have h7 := s7 _ _ h6
      have e17 := s7 _ _ e1
      refine ⟨_, rfl, .inl ⟨rfl, _, SqL.of h7⟩, _, rfl, l, _, _, _, rfl, rfl, SqL.of e17, atI_nat (j := 0) rfl, ad, _, _, rfl, rfl, h7, ?_, ?_⟩
      · rw [ar6.len]
        exact small1000 (by omega)
      have B7 := B6.same s7
      have hb7 := s7 _ _ hb6
      have u2 : (upd H7 ad (.lst (xs ++ [v]))) l = some (.lst [v, .ref el]) := by
        rw [upd_ne nla]
        exact e17
      have u3 : (upd H7 ad (.lst (xs ++ [v]))) el = some (.lst es) := by
        rw [upd_ne nea]
        exact s7 _ _ e2
      have u4 : (upd H7 ad (.lst (xs ++ [v]))) tl = some (.lst ts) := by
        rw [upd_ne nta]
        exact t7
      have B8 := box_mut (o := .lst (xs ++ [v])) B7 hb7 nab nad
      refine ⟨_, rfl, _, rfl, l, _, _, _, rfl, rfl, SqL.of u2, atI_nat (j := 1) rfl, tl, el, _, _, rfl, rfl, u4, u3, sz100 (by have : (1 + k).toNat ≤ 3 := (by omega); omega), fun y hy => ?_⟩
      have s9 := same_new (o := .lst (ts ++ es)) hy
      refine ⟨_, _, xs ++ [v], as ++ [a], y, _, rfl, B8.same s9, (kp_mut (k6.trans (Kp.of s7)) had nab).trans (Kp.of s9), ⟨j6, s9 _ _ (by rw [upd_ne nab.symm]; exact hb7)⟩, s9 _ _ upd_same, ?_, ?_, upd_same, ?_, box_ne B8 hy, ?_⟩
      · exact ((ar6.snoc e4).mono ((TK.of s7).trans (TK.mut h7))).mono (TK.of s9)
      · refine ⟨by rw [List.length_append]; exact Nat.add_le_add_right al 1, fun x hx => ?_⟩
        rcases List.mem_append.mp hx with h | h
        · exact ai x h
        · rw [List.mem_singleton.mp h]
          exact ains
      · rw [List.length_append]
        omega
      · exact fun z => by
          rw [z, upd_same] at hy
          cases hy
    · rintro σ H5 ⟨c6, c7, xs, as, tl, ts, rfl, B5, k5, ⟨j5, hb5⟩, h5, ar5, ⟨al, ai⟩, t5, tz, ntb, nta⟩
      refine ⟨_, rfl, _, rfl, ad, _, rfl, .inl ⟨SqL.of h5, fun p hp => ⟨(by show 3 ≤ sizeLine; decide), fun u hu => ?_⟩⟩⟩
      have s6 := same_new (o := .tup xs) hp
      have s7 := same_new (o := .tup [.str "call", .str nm, .ref p]) hu
      refine ⟨_, rfl, (by show 1 ≤ sizeLine; decide), fun x hx => ?_⟩
      have s8 := same_new (o := .lst [.str ")"]) hx
      refine ⟨tl, x, _, _, rfl, rfl, ((s6.trans s7).trans s8) _ _ t5, upd_same, sz100 (by simp; have : (1 + k).toNat ≤ 3 := (by omega); omega), fun y hy => ⟨(by show 3 ≤ sizeLine; decide), fun l hl => ?_⟩⟩
      have s9 := same_new (o := .lst (ts ++ [.str ")"])) hy
      have B8 := ((B5.same s6).same s7).same s8
      have s69 := ((s6.trans s7).trans s8).trans s9
      refine q l (.call nm as) 0 _ ((B8.same s9).same (same_new hl)) (((wz.trans k5).trans (Kp.of s69)).trans (Kp.of (same_new hl))) (node_mk (B8.same s9) ⟨u, p, xs, rfl, (s8.trans s9) _ _ upd_same, ((s7.trans s8).trans s9) _ _ upd_same, ar5.mono (TK.of s69)⟩ upd_same (box_ne B8 hy) hl ?_) rfl ?_
      · simp
        have : (1 + k).toNat ≤ 3 := by omega
        omega
      · exact ⟨by omega, ai, nmem⟩
theorem NodeAt.same {H H' : Hp} {b l : Addr} {d : Nat} {t : Tr} (s : Same H H') (h : NodeAt H b l d t) : NodeAt H' b l d t := by
  obtain ⟨v, tl, ts, k, h1, h2, h3, h4, h5, h6⟩ := h
  exact ⟨v, tl, ts, k, s _ _ h1, s _ _ h2, h3, h4.mono (TK.of s), h5, h6⟩
def spNode (K : PySem.W.Frag) (n : Nat) : Sp := fun vs H Q _ => ∃ (b : Addr) (d : Nat) (R C : Int), vs = [.ref b, .int R, .int C, .int (d : Int)] ∧ RC R C ∧ d < n ∧ d ≤ 5 ∧ Box H b ∧ ∀ (l : Addr) (t : Tr) (H' : Hp), Box H' b → Kp b H H' → NodeAt H' b l d t → t.h ≤ d → t.okR R C → Q (.ref l) H'
theorem okLawNode (T : Txt K mg) : ∀ n : Nat, FnOk P w K mg base CX0 (n + 6) T.fLawNode T.fdLawNode ["box", "rows", "columns", "depth"] (spNode K n)
  | 0 => by
    refine T.FLawNode.ok scLawNode (fun vs H Q E h => ?_) (fun cdv A outer s H vs Q E hr h => ?_)
    · obtain ⟨b, d, R, C, rfl, rc, hh, _⟩ := h
      rfl
    · obtain ⟨b, d, R, C, rfl, rc, hh, _⟩ := h
      exact absurd hh (Nat.not_lt_zero _)
  | n + 1 => by
    have IH := okLawNode T n
    refine T.FLawNode.ok scLawNode (fun vs H Q E h => ?_) (fun cdv A outer s H vs Q E hr h => ?_)
    · obtain ⟨b, d, R, C, rfl, _⟩ := h
      rfl
    · obtain ⟨b, d, R, C, rfl, rc, hh, hd, B, q⟩ := h
      -- slots box=0 rows=1 columns=2 depth=3 kind=4 left=5 right=6 sign=7 strength=8 texts=9
      refine ⟨_, (pss_cons (ps_set (i := 4) scLawNode.nd rfl (Or.inl rfl) (pe_call (okLawDraw T) (hr.mono (by omega)) (by rfl) T.gLawDraw T.FLawDraw.kp T.bLawDraw .nil pass0 (pa_cons (pv 0) (pa_cons pe_int pa_nil))))
          (pss_cons (ps_if (PW.pt (pw_or (pt_cmpR op_eq (pv 3) pe_int (nomark _)) (pw_or1 (pt_cmpR op_lt (pv 4) pe_int (nomark _)))))
            (pss_one (ps_ret (pe_call (okLawLeaf T) (hr.mono (by omega)) (by rfl) T.gLawLeaf T.FLawLeaf.kp T.bLawLeaf .nil pass0 (pa_cons (pv 0) (pa_cons (pv 1) (pa_cons (pv 2) pa_nil))))))
            pss_nil)
          (pss_cons (ps_if (pt_cmpR op_eq (pv 4) pe_int (nomark _))
            (pss_one (ps_ret (pe_call (okLawCall T) (hr.mono (by omega)) (by rfl) T.gLawCall T.FLawCall.kp T.bLawCall .nil pass0 (pa_cons (pv 0) (pa_cons (pv 1) (pa_cons (pv 2) pa_nil))))))
            pss_nil)
          (pss_cons (ps_set (i := 5) scLawNode.nd rfl (Or.inl rfl) (pe_call IH (hr.mono (by omega)) (by rfl) T.gLawNode T.FLawNode.kp T.bLawNode .nil pass0 (pa_cons (pv 0) (pa_cons (pv 1) (pa_cons (pv 2) (pa_cons (pe_op op_sub (pv 3) pe_int) pa_nil))))))
          (pss_cons (ps_if (pt_cmpR op_eq (pv 4) pe_int (nomark _))
            (pss_one (ps_ret (pe_lst (pa_cons (pe_tup (pa_cons pe_str (pa_cons (pe_ix ix_list (pv 5) pe_int (fun _ _ => rfl)) pa_nil))) (pa_cons (pe_op op_cat (pe_lst (pa_cons pe_str pa_nil)) (pe_call (okLawInside T) (hr.mono (by omega)) (by rfl) T.gLawInside T.FLawInside.kp T.bLawInside .nil pass0 (pa_cons (pv 0) (pa_cons (pv 5) (pa_cons pe_int pa_nil))))) (pa_cons pe_int pa_nil))))))
            pss_nil)
          (pss_cons (ps_set (i := 6) scLawNode.nd rfl (Or.inl rfl) (pe_call IH (hr.mono (by omega)) (by rfl) T.gLawNode T.FLawNode.kp T.bLawNode .nil pass0 (pa_cons (pv 0) (pa_cons (pv 1) (pa_cons (pv 2) (pa_cons (pe_op op_sub (pv 3) pe_int) pa_nil))))))
          (pss_cons (ps_set (i := 7) scLawNode.nd rfl (Or.inl rfl) (pe_ix ix_str pe_str (pe_call (okLawDraw T) (hr.mono (by omega)) (by rfl) T.gLawDraw T.FLawDraw.kp T.bLawDraw .nil pass0 (pa_cons (pv 0) (pa_cons pe_int pa_nil))) (fun _ _ => rfl)))
          (pss_cons (ps_set (i := 8) scLawNode.nd rfl (Or.inl rfl) pe_int)
          (C8.pss_cut (ps_if (pt_cmpR op_in_sign (pv 7) pe_str rfl)
            (pss_one (ps_set (i := 8) scLawNode.nd rfl (Or.inl rfl) pe_int))
            pss_nil)
          (pss_cons (ps_set (i := 9) scLawNode.nd rfl (Or.inl rfl) (pe_op op_cat (pe_op op_cat (pe_call (okLawInside T) (hr.mono (by omega)) (by rfl) T.gLawInside T.FLawInside.kp T.bLawInside .nil pass0 (pa_cons (pv 0) (pa_cons (pv 5) (pa_cons (pv 8) pa_nil)))) (pe_lst (pa_cons (pv 7) pa_nil))) (pe_call (okLawInside T) (hr.mono (by omega)) (by rfl) T.gLawInside T.FLawInside.kp T.bLawInside .nil pass0 (pa_cons (pv 0) (pa_cons (pv 6) (pa_cons (pe_op op_add (pv 8) pe_int) pa_nil))))))
          (pss_one (ps_ret (pe_lst (pa_cons (pe_tup (pa_cons pe_str (pa_cons (pv 7) (pa_cons (pe_ix ix_list (pv 5) pe_int (fun _ _ => rfl)) (pa_cons (pe_ix ix_list (pv 6) pe_int (fun _ _ => rfl)) pa_nil))))) (pa_cons (pv 9) (pa_cons (pv 8) pa_nil)))))))))))))))), ?_⟩
      refine ⟨_, rfl, b, 7, rfl, by decide, B, fun kd H1 kd0 kd1 B1 w1 => ?_⟩
      refine ⟨_, rfl, rfl, _, rfl, ite2 (fun _ => ?_) (fun c0 => ⟨_, rfl, _, _, rfl, rfl, _, rfl, ite2 (fun _ => ?_) (fun _ => ?_)⟩)⟩
      · exact ⟨_, rfl, _, rfl, _, rfl, b, R, C, rfl, rc, B1, fun l t d' H2 B2 w2 N h0 ok => q l t H2 B2 (w1.trans w2) (N.up (d := d')) (by omega) ok⟩
      · exact ⟨_, rfl, _, rfl, _, rfl, b, R, C, rfl, rc, B1, fun l t d' H2 B2 w2 N h0 ok => q l t H2 B2 (w1.trans w2) (N.up (d := d')) (by omega) ok⟩
      have hd1 : 1 ≤ d := by
        rcases Nat.eq_zero_or_pos d with z | z
        · exact absurd (decide_eq_true (by rw [z]; rfl)) c0
        · exact z
      obtain ⟨e, rfl⟩ : ∃ e, d = e + 1 := ⟨d - 1, by omega⟩
      have ed : [V.ref b, V.int R, V.int C, V.int (((e + 1 : Nat) : Int) - 1)] = [V.ref b, V.int R, V.int C, V.int (e : Int)] := by
        rw [show ((e + 1 : Nat) : Int) - 1 = (e : Int) by omega]
      refine ⟨_, rfl, rfl, _, rfl, ite2 (fun _ => ?_) (fun _ => ?_)⟩
      · exact ⟨_, rfl, _, rfl, _, rfl, b, R, C, rfl, rc, B1, fun l t d' H2 B2 w2 N h0 ok => q l t H2 B2 (w1.trans w2) (N.up (d := d')) (by omega) ok⟩
      have p3 := pow3_le (d := e) (by omega)
      have p33 : 3 ^ (e + 1) = 3 * 3 ^ e := by rw [Nat.pow_succ, Nat.mul_comm]
      have pp := pow_pos3 e
      refine ⟨_, rfl, _, rfl, _, rfl, _, rfl, _, _, rfl, rfl, b, e, R, C, ed, rc, by omega, by omega, B1, fun l1 t1 H2 B2 w2 N1 h1 ok1 => ?_⟩
      refine ⟨_, rfl, rfl, _, rfl, ite2 (fun _ => ?_) (fun _ => ?_)⟩
      · -- a minus
        obtain ⟨v, tl, ts, k, e1, e2, e3, e4, e5, e6⟩ := id N1
        refine ⟨_, rfl, l1, _, _, _, rfl, rfl, SqL.of e1, atI_nat (j := 0) rfl, (by show 2 ≤ sizeLine; decide), fun u hu => ⟨(by show 1 ≤ sizeLine; decide), fun x hx => ?_⟩⟩
        have s3 := same_new (o := .tup [.str "neg", v]) hu
        have s4 := same_new (o := .lst [.str "-"]) hx
        have B4 := (B2.same s3).same s4
        refine ⟨_, rfl, _, rfl, b, l1, e, t1, 4, rfl, B4, by omega, N1.same (s3.trans s4), fun tl5 ts5 H5 B5 w5 h5 z5 n5 => ?_⟩
        refine ⟨x, tl5, _, _, rfl, rfl, w5 _ _ (box_ne (B2.same s3) hx) upd_same, h5, sz100 (by show 1 + ts5.length ≤ 100000; omega), fun y hy => ⟨(by show 3 ≤ sizeLine; decide), fun l hl => ?_⟩⟩
        have s6 := same_new (o := .lst ([.str "-"] ++ ts5)) hy
        have kk := TK.trans (TK.of s4) (TK.trans (TK.kp w5 B4) (TK.of s6))
        refine q l (.neg t1) _ ((B5.same s6).same (same_new hl)) (((((w1.trans w2).trans (Kp.of (s3.trans s4))).trans w5).trans (Kp.of s6)).trans (Kp.of (same_new hl))) (node_mk (B5.same s6) ⟨u, v, rfl, kk _ _ upd_same, e4.mono (TK.trans (TK.of s3) kk)⟩ upd_same (box_ne B5 hy) hl ?_) ?_ ok1
        · rw [List.length_append]
          show 1 + ts5.length ≤ 20 * 3 ^ (e + 1)
          omega
        · show t1.h + 1 ≤ _
          omega
      refine ⟨_, rfl, _, rfl, _, rfl, _, rfl, _, _, rfl, rfl, b, e, R, C, ed, rc, by omega, by omega, B2, fun l2 t2 H3 B3 w3 N2 h2 ok2 => ?_⟩
      have N1' := N1.kp w3 B2
      refine ⟨_, rfl, b, 4, rfl, by decide, B3, fun m H4 m0 m1 B4 w4 => ?_⟩
      obtain ⟨c, hcm, hc⟩ := at_mem (xs := ("+-*/" : Str).cps.toList) m0 (Int.lt_of_lt_of_le m1 (by decide +kernel))
      refine ⟨_, m, c, rfl, rfl, by decide +kernel, hc, ?_⟩
      refine ⟨fun σ H' => H' = H4 ∧ ∃ (k : Int) (c9 : Option V), σ = [some (.ref b), some (.int R), some (.int C), some (.int ((e + 1 : Nat) : Int)), some (.int kd), some (.ref l1), some (.ref l2), some (.str (S [c])), some (.int k), c9], ?_, ?_⟩
      · refine ⟨_, rfl, c, _, rfl, rfl, _, rfl, ite2 (fun _ => ⟨rfl, 2, _, rfl⟩) (fun _ => ⟨rfl, 1, _, rfl⟩)⟩
      rintro σ H5 ⟨rfl, k, c9, rfl⟩
      have N14 := N1'.kp w4 B3
      have N24 := N2.kp w4 B3
      refine ⟨_, rfl, _, rfl, _, rfl, b, l1, e, t1, k, rfl, B4, by omega, N14, fun tl5 ts5 H6 B6 w6 h6 z6 n6 => ?_⟩
      refine ⟨_, rfl, (by show 1 ≤ sizeLine; decide), fun x hx => ?_⟩
      have s7 := same_new (o := .lst [.str (S [c])]) hx
      refine ⟨tl5, x, _, _, rfl, rfl, s7 _ _ h6, upd_same, sz100 (by simp; omega), fun y hy => ?_⟩
      have s8 := same_new (o := .lst (ts5 ++ [.str (S [c])])) hy
      have B8 := (B6.same s7).same s8
      have N18 := (N14.kp w6 B4).same (s7.trans s8)
      have N28 := (N24.kp w6 B4).same (s7.trans s8)
      refine ⟨_, rfl, _, rfl, _, rfl, _, _, rfl, rfl, b, l2, e, t2, k + 1, rfl, B8, by omega, N28, fun tl9 ts9 H9 B9 w9 h9 z9 n9 => ?_⟩
      refine ⟨y, tl9, _, _, rfl, rfl, w9 _ _ (box_ne (B6.same s7) hy) upd_same, h9, sz100 (by simp; omega), fun z hz => ?_⟩
      have sA := same_new (o := .lst ((ts5 ++ [.str (S [c])]) ++ ts9)) hz
      have N1A := (N18.kp w9 B8).same sA
      have N2A := (N28.kp w9 B8).same sA
      have wA := (((((w1.trans w2).trans w3).trans w4).trans w6).trans (Kp.of (s7.trans s8))).trans (w9.trans (Kp.of sA))
      obtain ⟨v1, _, _, _, e1, _, _, e4, _, _⟩ := N1A
      obtain ⟨v2, _, _, _, f1, _, _, f4, _, _⟩ := N2A
      refine ⟨_, rfl, _, rfl, l1, _, _, _, rfl, rfl, SqL.of e1, atI_nat (j := 0) rfl, _, rfl, l2, _, _, _, rfl, rfl, SqL.of f1, atI_nat (j := 0) rfl, (by show 4 ≤ sizeLine; decide), fun u hu => ⟨_, rfl, _, rfl, (by show 3 ≤ sizeLine; decide), fun l hl => ?_⟩⟩
      have sB := same_new (o := .tup [.str "op", .str (S [c]), v1, v2]) hu
      have BA := B9.same sA
      refine q l (.op (S [c]) t1 t2) _ ((BA.same sB).same (same_new hl)) ((wA.trans (Kp.of sB)).trans (Kp.of (same_new hl))) (node_mk (BA.same sB) ⟨u, v1, v2, rfl, upd_same, e4.mono (TK.of sB), f4.mono (TK.of sB)⟩ (sB _ _ upd_same) (box_ne B9 hz) hl ?_) ?_ ⟨ok1, ok2, signs_at c hcm⟩
      · simp
        omega
      · show max t1.h t2.h + 1 ≤ _
        omega
/-! ### sorted(d), d a dict with keys of two ints -/
section
variable {prog : Program} {A : Around} {E : Value → Shared → Prop} {s : Shared} {Ty : String} {r d : Addr} {n : Nat} {PP : Nat → Value → Prop} {OK : Heap → Prop}
open PySem.W PySem.Calls PyProof.V in
/-- the list that a walk over a dict fills, and that the heap has grown -/
theorem collectK {w : World} {R : List Value → Shared → Prop} (Src : PySem.W.KdlSrc prog w Ty r d n PP OK) (hh : A.handled = none) (hok : OK s.heap) (hn : n ≤ sizeLine)
    (h : ∀ (h' : Heap) (tk : Nat) (acc : Array Value), (∀ b o, s.heap.get? b = some o → h'.get? b = some o) → s.heap.objs.size < h'.objs.size → ItemsOf PP acc n → R acc.toList { s with heap := h', toks := tk }) :
    wpAny (model prog w) A (collect (.ref r)) R E s := by
  obtain ⟨rl, dl⟩ := Src.there _ hok
  have up : ∀ {o : Obj} b u, s.heap.get? b = some u → (s.heap.push o).get? b = some u := fun b u e => Heap.get?_push_of_some _ e
  -- what stands when the walk is over
  have Full : ∃ F : Shared → Prop, (∀ s', F s' → wpAny (model prog w) A (load s.heap.objs.size >>= fun o => match o.data with
      | .seq items _ => pure items.toList
      | _ => unsupported "internal:collect") R E s') ∧ (∀ (h' : Heap) tk acc c, (∀ b u, s.heap.get? b = some u → h'.get? b = some u) → h'.get? s.heap.objs.size = some { cls := .type "list", dict := none, data := .seq acc c, slots := #[] } → ItemsOf PP acc n → F { s with heap := h', toks := tk }) :=
    ⟨fun s' => ∃ h' tk acc c, s' = { s with heap := h', toks := tk } ∧ (∀ b u, s.heap.get? b = some u → h'.get? b = some u) ∧ h'.get? s.heap.objs.size = some { cls := .type "list", dict := none, data := .seq acc c, slots := #[] } ∧ ItemsOf PP acc n,
      fun s' ⟨h', tk, acc, c, e, k, a, it⟩ => e ▸ wpAny_bind (wpAny_load a (wpAny_pure (h h' tk acc k (Heap.lt_size a) it))), fun h' tk acc c k a it => ⟨h', tk, acc, c, rfl, k, a, it⟩⟩
  obtain ⟨F, tail, fill⟩ := Full
  unfold collect
  refine wpAny_bind (wpAny_runValue (codeAny_builtin entry_proto_collect' ?_))
  rw [Around.under_plainId PySem.F.plain_proto_collect _]
  show wpAny _ A.in1 (newList [] >>= fun l => again (.builtin "list.__iadd__" ⟨[l, .ref r], []⟩)) _ _ s
  refine wpAny_bind (wpAny_newObj_type (wpAny_pure ⟨plainId_quiet PySem.F.plain_list_iadd _, codeAny_builtin entry_list_iadd' ?_⟩))
  rw [Around.under_plainId PySem.F.plain_list_iadd _]
  have lay : (s.heap.push { cls := .type "list", data := .seq ([] : List Value).toArray }).get? s.heap.objs.size = some { cls := .type "list", data := .seq #[] } := Heap.get?_push_size _ rfl
  refine wpAny_mono (kdl_extend (A := A) (R := fun q s' => q = .ok (.ret (.ref s.heap.objs.size)) ∧ F s') Src hh (Src.keep _ _ hok fun b _ _ e => up b _ e) s.heap.objs.size (Nat.ne_of_gt rl) (Nat.ne_of_gt dl) (.ref s.heap.objs.size) 0 lay (fun h' tk acc c k a it => ⟨rfl, fill h' tk acc c (fun b u e => k b u (Nat.ne_of_lt (Heap.lt_size e)) (up b u e)) a it⟩) hn) (fun fin s' x => ?_) fun e s' x => nomatch x.1
  cases fin with
  | done f =>
    obtain ⟨e, x⟩ := x
    cases e
    exact tail s' x
  | again c =>
    refine ⟨x.1, codeAny_mono x.2 fun q s2 y => ?_⟩
    obtain ⟨rfl, y⟩ := y
    exact tail s2 y
end
/-- the keys of entries, read off one by one -/
theorem keys_listed {prog : Program} {w : World} {κ : Type} [DecidableEq κ] {knd : HeapKind prog w κ} {es : Array DictEntry} {ks : List (κ × Addr × Value)} {acc : Array Value} (he : es.toList = ks.map (entryOfKey knd)) (hn : acc.size = es.size) (at_ : ∀ (i : Nat) (v : Value), acc[i]? = some v → ∃ en : DictEntry, es[i]? = some en ∧ v = en.key) :
    acc.toList = (ks.map fun x => x.2.1).map Value.ref := by
  have e1 : acc.toList = es.toList.map fun en => en.key := by
    refine List.ext_getElem (by rw [List.length_map, Array.length_toList, Array.length_toList, hn]) fun i h1 h2 => ?_
    have hi : i < acc.size := by rwa [Array.length_toList] at h1
    obtain ⟨en, h3, h4⟩ := at_ i acc[i] (Array.getElem?_eq_getElem hi)
    obtain ⟨_, h5⟩ := Array.getElem?_eq_some_iff.mp h3
    rw [List.getElem_map, Array.getElem_toList, Array.getElem_toList, h4, h5]
  rw [e1, he, List.map_map, List.map_map]
  rfl
def idK (z : Int × Int) : List Key := [.inl z.1, .inl z.2]
def ltK (z w : Int × Int) : Prop := z.1 < w.1 ∨ (z.1 = w.1 ∧ z.2 < w.2)
def leD (d e : PyData) : Bool := PySem.W.dataLe false id d e
theorem leD_idD {z w : Int × Int} (h : leD (idD z) (idD w) = true) : ¬ ltK w z := by
  have h : (!PySem.W.dataLt (idD w) (idD z)) = true := h
  unfold idD at h
  rw [PySem.W.dataLt_ii] at h
  have h := of_decide_eq_false (Bool.not_eq_true' _ ▸ h)
  exact h
def gK (z : V × (Int × Int)) : V × PyData := (z.1, idD z.2)
theorem sortK (zs : List (V × (Int × Int))) : ∃ Zs : List (V × (Int × Int)), ((zs.map gK).mergeSort (PySem.W.dataLe false Prod.snd)).map Prod.fst = Zs.map Prod.fst ∧ Zs.Perm zs ∧ (Zs.map Prod.snd).Pairwise fun a b => ¬ ltK b a := by
  refine ⟨zs.mergeSort fun a b => leD (idD a.2) (idD b.2), ?_, List.mergeSort_perm _ _, ?_⟩
  · rw [← List.map_mergeSort (f := gK) (r := fun a b => leD (idD a.2) (idD b.2)) (s := PySem.W.dataLe false Prod.snd) fun _ _ _ _ => rfl, List.map_map]
    rfl
  · have t : PySem.W.TotalLe leD := PySem.W.sortLe_total _ false _
    rw [List.pairwise_map]
    exact (List.pairwise_mergeSort (le := fun a b : V × (Int × Int) => leD (idD a.2) (idD b.2)) (fun a b c h1 h2 => t.trans _ _ _ h1 h2) (fun a b => by
      rw [Bool.or_eq_true]
      exact t.total _ _) zs).imp fun h => leD_idD h
theorem alikeI (z w : Int × Int) : PySem.W.alike (idD z) (idD w) = true := by simp [idD, PySem.W.alike, PySem.W.alikeAll]
theorem keysDp {K : PySem.W.Frag} {H : Hp} : ∀ {kvs : List (List Key × V)} {bs : List Addr} {zs : List (Int × Int)}, Paired (fun p b => H b = some (.tup (p.1.map kV))) kvs bs → kvs.map Prod.fst = zs.map idK → ∀ y ∈ (bs.map V.ref).zip zs, Dp K H y.1 (idD y.2)
  | _, _, [], _, _, y, hy => by
    rw [List.zip_nil_right] at hy
    cases hy
  | _, _, z :: zs, .nil, e, y, hy => by cases hy
  | _, _, z :: zs, .cons h t, e, y, hy => by
    rw [List.map_cons, List.map_cons] at e
    have e1 := (List.cons.inj e).1
    have e2 := (List.cons.inj e).2
    rw [List.map_cons, List.zip_cons_cons] at hy
    rcases List.mem_cons.mp hy with y1 | y1
    · rw [y1]
      rw [e1] at h
      exact .tup (SqT.of h) (.cons (.int _) (.cons (.int _) .nil))
    · exact keysDp t e2 y y1
/-- a tracked tuple of two ints -/
def TuAt (H : Hp) (v : V) (z : Int × Int) : Prop := ∃ b, v = .ref b ∧ H b = some (.tup [.int z.1, .int z.2])
theorem TuAt.dp {K : PySem.W.Frag} {H : Hp} {v : V} {z : Int × Int} (h : TuAt H v z) : Dp K H v (idD z) := by
  obtain ⟨b, rfl, hb⟩ := h
  exact .tup (SqT.of hb) (.cons (.int _) (.cons (.int _) .nil))
theorem keysTu {H : Hp} : ∀ {kvs : List (List Key × V)} {bs : List Addr} {zs : List (Int × Int)}, Paired (fun p b => H b = some (.tup (p.1.map kV))) kvs bs → kvs.map Prod.fst = zs.map idK → ∀ y ∈ (bs.map V.ref).zip zs, TuAt H y.1 y.2
  | _, _, [], _, _, y, hy => by
    rw [List.zip_nil_right] at hy
    cases hy
  | _, _, z :: zs, .nil, e, y, hy => by cases hy
  | _, _, z :: zs, .cons h t, e, y, hy => by
    rw [List.map_cons, List.map_cons] at e
    have e1 := (List.cons.inj e).1
    have e2 := (List.cons.inj e).2
    rw [List.map_cons, List.zip_cons_cons] at hy
    rcases List.mem_cons.mp hy with y1 | y1
    · rw [y1]
      rw [e1] at h
      exact ⟨_, rfl, h⟩
    · exact keysTu t e2 y y1
def rSortedDT (K : PySem.W.Frag) : List V → Hp → VK → Prop := fun vs H Q => ∃ (d : Addr) (kvs : List (List Key × V)) (zs : List (Int × Int)), vs = [.ref d] ∧ H d = some (.dT kvs) ∧ kvs.map Prod.fst = zs.map idK ∧
  ∀ (p : Addr) (Zs : List (V × (Int × Int))), H p = none → (Zs.map Prod.snd).Perm zs → (Zs.map Prod.snd).Pairwise (fun a b => ¬ ltK b a) → (∀ z ∈ Zs, TuAt H z.1 z.2) → Q (.ref p) (upd H p (.lst (Zs.map Prod.fst)))
open PySem.W PySem.Calls PyProof.V in
theorem cr_sortedDT {X : Cx} (hc : X.calm = true) (hu : X.A.units + 64 < cLine) : CallR X (.builtin "sorted") (rSortedDT X.K) := by
  intro pins s σ H xs us Q I r h
  obtain ⟨d, kvs, zs, rfl, hd, ek, q⟩ := h
  rw [Vals.ref1 r]
  obtain ⟨z, hs, ks, pr, o, es, ep, ho, hx, hdt, he, hn⟩ := (show ObjOk X.prog X.w H s.heap d (.dT kvs) from I.hok d _ hd)
  have l1 : es.size = ks.length := size_of_entries he
  have l2 : kvs.length = ks.length := Paired.length pr
  have l3 : zs.length = ks.length := by
    have := congrArg List.length ek
    rw [List.length_map, List.length_map] at this
    omega
  refine call_function_entry kind_sorted plain_sorted entry_sorted (args_sorted1 _) ?_
  unfold Builtin.«sorted»
  refine wpAny_bind (m := checkCount "sorted" 1 1 _) (wpAny_pure ?_)
  refine wpAny_bind (collectK (A := X.A.in1) (kdl_raw hs hx hdt) (I.ok.hd hc) ho (by omega) fun h' tk acc kp hlt it => ?_)
  have eb := keys_listed he it.1 it.2
  rw [eb]
  have pk := isKeys_of pr
  generalize hrf : (ks.map fun x => x.2.1) = rf at pk
  have lrf : rf.length = ks.length := by rw [← hrf, List.length_map]
  have mz : ((rf.map V.ref).zip zs).map Prod.fst = rf.map V.ref := List.map_fst_zip (by rw [List.length_map]; omega)
  have mz2 : ((rf.map V.ref).zip zs).map Prod.snd = zs := List.map_snd_zip (by rw [List.length_map]; omega)
  have mg1 : (((rf.map V.ref).zip zs).map gK).map Prod.fst = rf.map V.ref := by
    rw [List.map_map]
    exact mz
  have rv : Vals ((((rf.map V.ref).zip zs).map gK).map Prod.fst) (rf.map Value.ref) := by
    rw [mg1]
    exact vals_refs rf
  have e := each_of_vals rv
  have hdp : ∀ b ∈ ((rf.map V.ref).zip zs).map gK, Dp X.K H b.1 b.2 := fun b hb => by
    obtain ⟨y, hy, rfl⟩ := List.mem_map.mp hb
    exact keysDp pk ek y hy
  have er := reads_of_each I e hdp
  have hal : PySem.W.AllAlike ((((rf.map V.ref).zip zs).map gK).map Prod.snd) := fun d1 h1 d2 h2 => by
    obtain ⟨b1, g1, rfl⟩ := List.mem_map.mp h1
    obtain ⟨b2, g2, rfl⟩ := List.mem_map.mp h2
    obtain ⟨y1, _, rfl⟩ := List.mem_map.mp g1
    obtain ⟨y2, _, rfl⟩ := List.mem_map.mp g2
    exact alikeI _ _
  have hso : PySem.W.Sortable ((((rf.map V.ref).zip zs).map gK).map Prod.snd) := .inl fun d1 h1 => by
    obtain ⟨b1, g1, rfl⟩ := List.mem_map.mp h1
    obtain ⟨y1, _, rfl⟩ := List.mem_map.mp g1
    exact ⟨_, _, rfl⟩
  have hdep : ∀ b ∈ ((rf.map V.ref).zip zs).map gK, b.2.depth = 1 := fun b hb => by
    obtain ⟨y, _, rfl⟩ := List.mem_map.mp hb
    exact idD_depth _
  have lz : (rf.map Value.ref).length ≤ sizeLine := by rw [List.length_map]; omega
  refine wpAny_bind (wpAny_newList ?_ lz)
  have ho' : (h'.push { cls := .type "list", data := .seq (rf.map Value.ref).toArray }).get? h'.objs.size = some (seqObj "list" (rf.map Value.ref).toArray 0) := Heap.get?_push_size _ rfl
  have up : ∀ b o, s.heap.get? b = some o → (h'.push { cls := .type "list", data := .seq (rf.map Value.ref).toArray }).get? b = some o := fun b o e => Heap.get?_push_of_some _ (kp _ _ e)
  generalize h'.push { cls := .type "list", data := .seq (rf.map Value.ref).toArray } = hp at ho' up
  have nb : ∀ {b o}, s.heap.get? b = some o → b ≠ h'.objs.size := fun e => Nat.ne_of_lt (Nat.lt_trans (Heap.lt_size e) hlt)
  have er' : EachIs (fun (v : Value) (b : V × PyData) => ∃ as, Reads (sortingHeap hp h'.objs.size (rf.map Value.ref)) v b.2 as) (rf.map Value.ref) (((rf.map V.ref).zip zs).map gK) := er.mono fun _ _ ⟨as, r⟩ => ⟨as, Reads.keeps (fun b o e => sortingHeap_old (nb e) (up _ _ e)) r⟩
  refine wpAny_bind (wpAny_holding (wpAny_call_entry slot_list_sort ⟨_, ho', rfl⟩ entry_list_sort (list_sort_vals (κ := dataKind (sortingHeap hp h'.objs.size (rf.map Value.ref)) ((((rf.map V.ref).zip zs).map gK).map Prod.snd)) ho' (SortsAt.data (s := { s with heap := sortingHeap hp h'.objs.size (rf.map Value.ref), toks := tk }) (each_map (R := fun v d => ∃ as, Reads (sortingHeap hp h'.objs.size (rf.map Value.ref)) v d as) Prod.snd er') hal hso ?_) lz ⟨.none, rfl, ?_⟩) (args_list_sort _)))
  · intro d1 h1
    obtain ⟨b1, g1, rfl⟩ := List.mem_map.mp h1
    rw [hdep b1 g1]
    show X.A.units + 1 + 1 + 1 < cLine
    omega
  · have eo := sortVals_data false e er' hal
    obtain ⟨Zs, z1, z2, z3⟩ := sortK ((rf.map V.ref).zip zs)
    obtain ⟨ep2, at2⟩ := sortedHeap_at (out := (sortVals (dataKind (sortingHeap hp h'.objs.size (rf.map Value.ref)) ((((rf.map V.ref).zip zs).map gK).map Prod.snd)) false (rf.map Value.ref) (rf.map Value.ref)).toArray) ho'
    have ov := vals_of_each eo
    rw [z1] at ov
    have zp : (Zs.map Prod.snd).Perm zs := by
      have := z2.map Prod.snd
      rwa [mz2] at this
    refine wpAny_pure ⟨_, rfl, .ref h'.objs.size, upd H h'.objs.size (.lst (Zs.map Prod.fst)), I.laid (t' := tk) (fun b o e => ?_) (Nat.le_of_lt hlt) ⟨?_, _, ep2, ov, at2⟩, rfl, q _ Zs (I.hok.fresh (Nat.le_of_lt hlt)) zp z3 fun y hy => keysTu pk ek y (z2.mem_iff.mp hy)⟩
    · rw [sortedHeap_old (nb e) (Heap.lt_size (up _ _ e))]
      exact up _ _ e
    · rw [List.length_map]
      have := zp.length_eq
      rw [List.length_map] at this
      omega
/-! ### sorted(d), d a dict with words as keys -/
def sK (w : Str) : V × PyData := (.str w, .str w)
theorem sortS (ws : List Str) : ∃ W : List Str, ((ws.map sK).mergeSort (PySem.W.dataLe false Prod.snd)).map Prod.fst = W.map V.str ∧ W.Perm ws ∧ W.Pairwise fun a b => ¬ b.cps.toList < a.cps.toList := by
  refine ⟨ws.mergeSort fun a b => leD (.str a) (.str b), ?_, List.mergeSort_perm _ _, ?_⟩
  · rw [← List.map_mergeSort (f := sK) (r := fun a b => leD (.str a) (.str b)) (s := PySem.W.dataLe false Prod.snd) fun _ _ _ _ => rfl, List.map_map]
    rfl
  · have t : PySem.W.TotalLe leD := PySem.W.sortLe_total _ false _
    refine (List.pairwise_mergeSort (le := fun a b : Str => leD (.str a) (.str b)) (fun a b c h1 h2 => t.trans _ _ _ h1 h2) (fun a b => by
      rw [Bool.or_eq_true]
      exact t.total _ _) ws).imp fun {a b} h => ?_
    have h : (!PySem.W.dataLt (.str b) (.str a)) = true := h
    rw [PySem.W.dataLt_str] at h
    have h := of_decide_eq_false (Bool.not_eq_true' _ ▸ h)
    exact h
def rSortedDK : List V → Hp → VK → Prop := fun vs H Q => ∃ (d : Addr) (kvs : List (Key × V)) (ws : List Str), vs = [.ref d] ∧ H d = some (.dK kvs) ∧ kvs.map Prod.fst = ws.map Sum.inr ∧
  ∀ (p : Addr) (W : List Str), H p = none → W.Perm ws → W.Pairwise (fun a b => ¬ b.cps.toList < a.cps.toList) → Q (.ref p) (upd H p (.lst (W.map V.str)))
open PySem.W PySem.Calls PyProof.V in
theorem cr_sortedDK {X : Cx} (hc : X.calm = true) (hu : X.A.units + 64 < cLine) : CallR X (.builtin "sorted") rSortedDK := by
  intro pins s σ H xs us Q I r h
  obtain ⟨d, kvs, ws, rfl, hd, ek, q⟩ := h
  rw [Vals.ref1 r]
  obtain ⟨z, lo, vs, rk, hdo⟩ := (show ObjOk X.prog X.w H s.heap d (.dK kvs) from I.hok d _ hd)
  obtain ⟨ep, hat⟩ := hdo.dictAt
  have hl : kvs.length = vs.length := Paired.length rk
  have l3 : ws.length = kvs.length := by
    have := congrArg List.length ek
    rw [List.length_map, List.length_map] at this
    exact this.symm
  refine call_function_entry kind_sorted plain_sorted entry_sorted (args_sorted1 _) ?_
  unfold Builtin.«sorted»
  refine wpAny_bind (m := checkCount "sorted" 1 1 _) (wpAny_pure ?_)
  refine wpAny_bind (collectK (A := X.A.in1) (PySem.W.kdl_dict (knd := mixKind X.prog X.w) (kvs := vs) (ep := ep) lo) (I.ok.hd hc) hat (by rw [← hl]; exact z) fun h' tk acc kp hlt hacc => ?_)
  have mg1 : (ws.map sK).map Prod.fst = kvs.map fun kv => kV kv.1 := by
    have e3 : (kvs.map fun kv => kV kv.1) = (kvs.map Prod.fst).map kV := by rw [List.map_map]; rfl
    rw [e3, ek, List.map_map, List.map_map]
    rfl
  have rv : Vals ((ws.map sK).map Prod.fst) acc.toList := by
    rw [mg1]
    have el : acc.toList.length = acc.size := by simp
    refine vals_of_at (by rw [List.length_map, el, hacc.1, hl]) fun j x w h1 h2 => ?_
    obtain ⟨k, y, hky, hi⟩ := hacc.2 j w (by rw [← Array.getElem?_toList]; exact h2)
    have e1 : (kvs.map (·.1))[j]? = some k := by
      rw [KV.keys rk, List.getElem?_map, hky] <;> rfl
    have e2 : (kvs.map fun kv => kV kv.1)[j]? = some (kV k) := by
      have e3 : (kvs.map fun kv => kV kv.1) = (kvs.map (·.1)).map kV := by rw [List.map_map] <;> rfl
      rw [e3, List.getElem?_map, e1] <;> rfl
    rw [e2] at h1
    cases h1
    exact keyIs_rel hi
  have lacc : acc.toList.length ≤ sizeLine := by
    rw [← rv.length, List.length_map, List.length_map]
    omega
  generalize acc.toList = al at rv lacc
  have e := each_of_vals rv
  have hdp : ∀ b ∈ ws.map sK, Dp X.K H b.1 b.2 := fun b hb => by
    obtain ⟨y, hy, rfl⟩ := List.mem_map.mp hb
    exact .str _
  have er := reads_of_each I e hdp
  have hal : PySem.W.AllAlike ((ws.map sK).map Prod.snd) := fun d1 h1 d2 h2 => by
    obtain ⟨b1, g1, rfl⟩ := List.mem_map.mp h1
    obtain ⟨b2, g2, rfl⟩ := List.mem_map.mp h2
    obtain ⟨y1, _, rfl⟩ := List.mem_map.mp g1
    obtain ⟨y2, _, rfl⟩ := List.mem_map.mp g2
    simp [sK, PySem.W.alike]
  have hso : PySem.W.Sortable ((ws.map sK).map Prod.snd) := ?_
  · have ho' : (h'.push { cls := .type "list", data := .seq al.toArray }).get? h'.objs.size = some (seqObj "list" al.toArray 0) := Heap.get?_push_size _ rfl
    have up : ∀ b o, s.heap.get? b = some o → (h'.push { cls := .type "list", data := .seq al.toArray }).get? b = some o := fun b o e => Heap.get?_push_of_some _ (kp _ _ e)
    refine wpAny_bind (wpAny_newList ?_ lacc)
    generalize h'.push { cls := .type "list", data := .seq al.toArray } = hp at ho' up
    have nb : ∀ {b o}, s.heap.get? b = some o → b ≠ h'.objs.size := fun e => Nat.ne_of_lt (Nat.lt_trans (Heap.lt_size e) hlt)
    have er' : EachIs (fun (v : Value) (b : V × PyData) => ∃ as, Reads (sortingHeap hp h'.objs.size al) v b.2 as) al (ws.map sK) := er.mono fun _ _ ⟨as, r⟩ => ⟨as, Reads.keeps (fun b o e => sortingHeap_old (nb e) (up _ _ e)) r⟩
    refine wpAny_bind (wpAny_holding (wpAny_call_entry slot_list_sort ⟨_, ho', rfl⟩ entry_list_sort (list_sort_vals (κ := dataKind (sortingHeap hp h'.objs.size al) ((ws.map sK).map Prod.snd)) ho' (SortsAt.data (s := { s with heap := sortingHeap hp h'.objs.size al, toks := tk }) (each_map (R := fun v d => ∃ as, Reads (sortingHeap hp h'.objs.size al) v d as) Prod.snd er') hal hso ?_) lacc ⟨.none, rfl, ?_⟩) (args_list_sort _)))
    · intro d1 h1
      obtain ⟨b1, g1, rfl⟩ := List.mem_map.mp h1
      obtain ⟨y1, _, rfl⟩ := List.mem_map.mp g1
      show X.A.units + 1 + 1 + 0 < cLine
      omega
    · have eo := sortVals_data false e er' hal
      obtain ⟨W, z1, z2, z3⟩ := sortS ws
      obtain ⟨ep2, at2⟩ := sortedHeap_at (out := (sortVals (dataKind (sortingHeap hp h'.objs.size al) ((ws.map sK).map Prod.snd)) false al al).toArray) ho'
      have ov := vals_of_each eo
      rw [z1] at ov
      refine wpAny_pure ⟨_, rfl, .ref h'.objs.size, upd H h'.objs.size (.lst (W.map V.str)), I.laid (t' := tk) (fun b o e => ?_) (Nat.le_of_lt hlt) ⟨?_, _, ep2, ov, at2⟩, rfl, q _ W (I.hok.fresh (Nat.le_of_lt hlt)) z2 z3⟩
      · rw [sortedHeap_old (nb e) (Heap.lt_size (up _ _ e))]
        exact up _ _ e
      · rw [List.length_map]
        have := z2.length_eq
        omega
  · refine .inr fun d1 h1 => ?_
    obtain ⟨b1, g1, rfl⟩ := List.mem_map.mp h1
    obtain ⟨y1, _, rfl⟩ := List.mem_map.mp g1
    exact ⟨fun z => (by cases z), fun xs z => (by cases z)⟩
/-! ### what a grid holds -/
theorem units2 {k : Nat} {A : Around} (r : Room k A) : A.units + 1 < cLine := by
  have := units65 r
  omega
structure RepP {α β : Type} (At : α → β → Prop) (rs : List α) (D : List β) : Prop where
  len : rs.length = D.length
  at_ : ∀ (i : Nat) (x : α) (e : β), rs[i]? = some x → D[i]? = some e → At x e
theorem RepP.nil {α β : Type} {At : α → β → Prop} : RepP At [] [] := ⟨rfl, fun i x e h => by simp at h⟩
theorem RepP.imp {α β : Type} {At At' : α → β → Prop} {rs : List α} {D : List β} (h : RepP At rs D) (f : ∀ x e, At x e → At' x e) : RepP At' rs D := ⟨h.len, fun i x e h1 h2 => f x e (h.at_ i x e h1 h2)⟩
theorem RepP.cons {α β : Type} {At : α → β → Prop} {x : α} {e : β} {rs : List α} {D : List β} (h0 : At x e) (h : RepP At rs D) : RepP At (x :: rs) (e :: D) := by
  refine ⟨by rw [List.length_cons, List.length_cons, h.len], fun i y f h1 h2 => ?_⟩
  cases i with
  | zero =>
    obtain rfl := Option.some.inj h1
    obtain rfl := Option.some.inj h2
    exact h0
  | succ i => exact h.at_ i y f h1 h2
theorem RepP.un {α β : Type} {At : α → β → Prop} {x : α} {e : β} {rs : List α} {D : List β} (h : RepP At (x :: rs) (e :: D)) : At x e ∧ RepP At rs D :=
  ⟨h.at_ 0 x e rfl rfl, by have := h.len; rw [List.length_cons, List.length_cons] at this; omega, fun i y f h1 h2 => h.at_ (i + 1) y f h1 h2⟩
theorem idK_inj {z w : Int × Int} (h : idK z = idK w) : z = w := by
  have h1 := (List.cons.inj h).1
  have h2 := (List.cons.inj (List.cons.inj h).2).1
  exact Prod.ext (Sum.inl.inj h1) (Sum.inl.inj h2)
/-- what a dict of told entries is: the value of a key, the entry put, the entry dropped -/
def getE {κ β : Type} [DecidableEq κ] (D : List (κ × β)) (k : κ) : Option β := (D.find? fun e => decide (e.1 = k)).map (·.2)
def putE {κ β : Type} [DecidableEq κ] (D : List (κ × β)) (k : κ) (v : β) : List (κ × β) := if (D.any fun e => decide (e.1 = k)) = true then D.map (fun e => if e.1 = k then (e.1, v) else e) else D ++ [(k, v)]
def dropE {κ β : Type} [DecidableEq κ] (D : List (κ × β)) (k : κ) : List (κ × β) := D.filter fun e => decide (e.1 ≠ k)
section
variable {κ ι β : Type} [DecidableEq κ] [DecidableEq ι] {f : ι → κ} {At : V → β → Prop}
/-- the entries: keys by f, values by At -/
def Ents (f : ι → κ) (At : V → β → Prop) : List (κ × V) → List (ι × β) → Prop := RepP fun kv e => kv.1 = f e.1 ∧ At kv.2 e.2
theorem ents_get (hf : ∀ a b, f a = f b → a = b) : ∀ {kvs : List (κ × V)} {D : List (ι × β)}, Ents f At kvs D → ∀ k, (getE D k = none → valV kvs (f k) = none) ∧ ∀ b, getE D k = some b → ∃ v, valV kvs (f k) = some v ∧ At v b
  | [], [], _, k => ⟨fun _ => rfl, fun b h => by cases h⟩
  | kv :: kvs, [], h, k => by have := h.len; simp at this
  | [], e :: D, h, k => by have := h.len; simp at this
  | kv :: kvs, e :: D, h, k => by
    obtain ⟨⟨h1, h2⟩, h3⟩ := RepP.un h
    have ih := ents_get hf h3 k
    by_cases z : e.1 = k
    · have z2 : kv.1 = f k := by rw [h1, z]
      have e1 : getE (e :: D) k = some e.2 := by simp [getE, z]
      have e2 : valV (kv :: kvs) (f k) = some kv.2 := by simp [valV, z2]
      rw [e1, e2]
      exact ⟨fun y => (by cases y), fun b y => ⟨kv.2, rfl, by rw [← Option.some.inj y]; exact h2⟩⟩
    · have z2 : kv.1 ≠ f k := fun y => z (hf _ _ (h1.symm.trans y))
      have e1 : getE (e :: D) k = getE D k := by simp [getE, z]
      have e2 : valV (kv :: kvs) (f k) = valV kvs (f k) := by simp [valV, z2]
      rw [e1, e2]
      exact ih
theorem ents_any (hf : ∀ a b, f a = f b → a = b) : ∀ {kvs : List (κ × V)} {D : List (ι × β)}, Ents f At kvs D → ∀ k, (kvs.any fun kv => decide (kv.1 = f k)) = D.any fun e => decide (e.1 = k)
  | [], [], _, k => rfl
  | kv :: kvs, [], h, k => by have := h.len; simp at this
  | [], e :: D, h, k => by have := h.len; simp at this
  | kv :: kvs, e :: D, h, k => by
    obtain ⟨⟨h1, h2⟩, h3⟩ := RepP.un h
    rw [List.any_cons, List.any_cons, ents_any hf h3 k]
    have : decide (kv.1 = f k) = decide (e.1 = k) := by
      rw [h1]
      exact decide_eq_decide.mpr ⟨hf _ _, fun y => by rw [y]⟩
    rw [this]
theorem ents_snoc {kvs : List (κ × V)} {D : List (ι × β)} {k : ι} {v : V} {b : β} (h : Ents f At kvs D) (hv : At v b) : Ents f At (kvs ++ [(f k, v)]) (D ++ [(k, b)]) := by
  refine ⟨by rw [List.length_append, List.length_append, h.len]; rfl, fun i y e h1 h2 => ?_⟩
  rcases Nat.lt_or_ge i kvs.length with z | z
  · rw [List.getElem?_append_left z] at h1
    rw [List.getElem?_append_left (by rw [← h.len]; exact z)] at h2
    exact h.at_ i y e h1 h2
  · rw [List.getElem?_append_right z] at h1
    rw [List.getElem?_append_right (by rw [← h.len]; exact z)] at h2
    rw [← h.len] at h2
    cases hi : i - kvs.length with
    | zero =>
      rw [hi] at h1 h2
      obtain rfl := Option.some.inj h1
      obtain rfl := Option.some.inj h2
      exact ⟨rfl, hv⟩
    | succ j =>
      rw [hi] at h1
      simp at h1
theorem ents_put (hf : ∀ a b, f a = f b → a = b) {kvs : List (κ × V)} {D : List (ι × β)} {k : ι} {v : V} {b : β} (h : Ents f At kvs D) (hv : At v b) : Ents f At (putK kvs (f k) v) (putE D k b) := by
  unfold putK putE
  rw [ents_any hf h k]
  by_cases c : (D.any fun e => decide (e.1 = k)) = true
  · rw [if_pos c, if_pos c]
    refine ⟨by rw [List.length_map, List.length_map, h.len], fun i y e h1 h2 => ?_⟩
    rw [List.getElem?_map] at h1 h2
    cases h3 : kvs[i]? with
    | none =>
      rw [h3] at h1
      cases h1
    | some kv =>
      cases h4 : D[i]? with
      | none =>
        rw [h4] at h2
        cases h2
      | some d =>
        obtain ⟨g1, g2⟩ := h.at_ i kv d h3 h4
        rw [h3] at h1
        rw [h4] at h2
        have h1 : (if kv.1 = f k then (kv.1, v) else kv) = y := Option.some.inj h1
        have h2 : (if d.1 = k then (d.1, b) else d) = e := Option.some.inj h2
        by_cases z : d.1 = k
        · rw [if_pos z] at h2
          rw [if_pos (by rw [g1, z])] at h1
          rw [← h1, ← h2]
          exact ⟨g1, hv⟩
        · rw [if_neg z] at h2
          rw [if_neg (fun y => z (hf _ _ (g1.symm.trans y)))] at h1
          rw [← h1, ← h2]
          exact ⟨g1, g2⟩
  · rw [if_neg c, if_neg c]
    exact ents_snoc h hv
theorem ents_drop (hf : ∀ a b, f a = f b → a = b) : ∀ {kvs : List (κ × V)} {D : List (ι × β)} {k : ι}, Ents f At kvs D → Ents f At (dropK kvs (f k)) (dropE D k)
  | [], [], _, _ => RepP.nil
  | kv :: kvs, [], _, h => by have := h.len; simp at this
  | [], e :: D, _, h => by have := h.len; simp at this
  | kv :: kvs, e :: D, k, h => by
    obtain ⟨⟨h1, h2⟩, h3⟩ := RepP.un h
    have ih := ents_drop hf (k := k) h3
    unfold dropK dropE at ih ⊢
    by_cases z : e.1 = k
    · have z2 : kv.1 = f k := by rw [h1, z]
      rw [List.filter_cons_of_neg (by simp [z2]), List.filter_cons_of_neg (by simp [z])]
      exact ih
    · have z2 : kv.1 ≠ f k := fun y => z (hf _ _ (h1.symm.trans y))
      rw [List.filter_cons_of_pos (by simp [z2]), List.filter_cons_of_pos (by simp [z])]
      exact RepP.cons ⟨h1, h2⟩ ih
end
/-! ### the grid -/
mutual
theorem dp_same {K : PySem.W.Frag} {H H' : Hp} (e : Same H H') : ∀ {v : V} {d : PyData}, Dp K H v d → Dp K H' v d
  | _, _, .non => .non
  | _, _, .bl b => .bl b
  | _, _, .int i => .int i
  | _, _, .str x => .str x
  | _, _, .lst h r => .lst (e.seq h) (dpAll_same e r)
  | _, _, .tup h r => .tup (Same.tup e h) (dpAll_same e r)
theorem dpAll_same {K : PySem.W.Frag} {H H' : Hp} (e : Same H H') : ∀ {vs : List V} {ds : List PyData}, DpAll K H vs ds → DpAll K H' vs ds
  | _, _, .nil => .nil
  | _, _, .cons h r => .cons (dp_same e h) (dpAll_same e r)
end
-- data of none, bools, ints, texts and tracked tuples
mutual
inductive Dt (H : Hp) : V → PyData → Prop
  | non : Dt H .non .none
  | bl (b : Bool) : Dt H (.bl b) (.bool b)
  | int (i : Int) : Dt H (.int i) (.int i)
  | str (x : Str) : Dt H (.str x) (.str x)
  | tup {a : Addr} {xs : List V} {ds : List PyData} : H a = some (.tup xs) → DtAll H xs ds → Dt H (.ref a) (.tuple ds)
inductive DtAll (H : Hp) : List V → List PyData → Prop
  | nil : DtAll H [] []
  | cons {x : V} {d : PyData} {xs : List V} {ds : List PyData} : Dt H x d → DtAll H xs ds → DtAll H (x :: xs) (d :: ds)
end
mutual
theorem Dt.dp {K : PySem.W.Frag} {H : Hp} : ∀ {v : V} {d : PyData}, Dt H v d → Dp K H v d
  | _, _, .non => .non
  | _, _, .bl b => .bl b
  | _, _, .int i => .int i
  | _, _, .str x => .str x
  | _, _, .tup h r => .tup (SqT.of h) r.dp
theorem DtAll.dp {K : PySem.W.Frag} {H : Hp} : ∀ {vs : List V} {ds : List PyData}, DtAll H vs ds → DpAll K H vs ds
  | _, _, .nil => .nil
  | _, _, .cons h r => .cons h.dp r.dp
end
/-- tuples stay -/
def TT (H H' : Hp) : Prop := ∀ a xs, H a = some (.tup xs) → H' a = some (.tup xs)
theorem TT.of {H H' : Hp} (s : Same H H') : TT H H' := fun a xs h => s a _ h
theorem TT.trans {H H1 H2 : Hp} (x : TT H H1) (y : TT H1 H2) : TT H H2 := fun a xs h => y a xs (x a xs h)
mutual
theorem Dt.tt {H H' : Hp} (e : TT H H') : ∀ {v : V} {d : PyData}, Dt H v d → Dt H' v d
  | _, _, .non => .non
  | _, _, .bl b => .bl b
  | _, _, .int i => .int i
  | _, _, .str x => .str x
  | _, _, .tup h r => .tup (e _ _ h) (r.tt e)
theorem DtAll.tt {H H' : Hp} (e : TT H H') : ∀ {vs : List V} {ds : List PyData}, DtAll H vs ds → DtAll H' vs ds
  | _, _, .nil => .nil
  | _, _, .cons h r => .cons (h.tt e) (r.tt e)
end
theorem dtA_same {H H' : Hp} {vs : List V} {ds : List PyData} (s : Same H H') (h : DtAll H vs ds) : DtAll H' vs ds := h.tt (TT.of s)
structure Gr where
  G : Addr
  cd : Addr
  nd : Addr
  r : Int
  c : Int
abbrev Cells : Type := List ((Int × Int) × List PyData)
abbrev Names : Type := List (Str × Option (List PyData))
def gridO (C dx : Addr) (g : Gr) : HO := .ins C dx [("rows", .int g.r), ("columns", .int g.c), ("_contents", .ref g.cd), ("_names", .ref g.nd)]
def LAt (K : PySem.W.Frag) (H : Hp) (v : V) (ds : List PyData) : Prop := ∃ l us, v = .ref l ∧ H l = some (.lst us) ∧ DtAll H us ds
def NAt (K : PySem.W.Frag) (H : Hp) (v : V) : Option (List PyData) → Prop
  | none => v = .non
  | some ds => LAt K H v ds
def keyW (w : Str) : Key := .inr w
theorem keyW_inj {a b : Str} (h : keyW a = keyW b) : a = b := Sum.inr.inj h
structure GD (K : PySem.W.Frag) (C : Addr) (H : Hp) (g : Gr) (cells : Cells) (names : Names) : Prop where
  ins : ∃ dx, H g.G = some (gridO C dx g)
  cs : ∃ kvs, H g.cd = some (.dT kvs) ∧ Ents idK (LAt K H) kvs cells ∧ kvs.length ≤ 900
  ns : ∃ nvs, H g.nd = some (.dK nvs) ∧ Ents keyW (NAt K H) nvs names ∧ nvs.length ≤ 900
/-- all but the grid's two dicts stays -/
def KG (g : Gr) (H H' : Hp) : Prop := ∀ a o, a ≠ g.cd → a ≠ g.nd → H a = some o → H' a = some o
theorem KG.of {g : Gr} {H H' : Hp} (s : Same H H') : KG g H H' := fun a o _ _ h => s a o h
theorem KG.trans {g : Gr} {H H1 H2 : Hp} (a : KG g H H1) (b : KG g H1 H2) : KG g H H2 := fun x o n1 n2 h => b x o n1 n2 (a x o n1 n2 h)
def spShown (K : PySem.W.Frag) (C : Addr) : Sp := fun vs H Q _ => ∃ (g : Gr) (cells : Cells) (names : Names) (a : Addr) (z : Int × Int), vs = [.ref g.G, .ref a] ∧ GD K C H g cells names ∧ H a = some (.tup [.int z.1, .int z.2]) ∧ ∀ (p : Addr) (us : List V) (H' : Hp), Same H H' → H' p = some (.lst us) → DtAll H' us ((getE cells z).getD []) → H p = none → Q (.ref p) H'
theorem okGrid_Shown (T : Txt K mg) : FnOk P w K mg base CX0 1 T.fGrid_Shown T.fdGrid_Shown ["self", "cell"] (spShown K T.cGrid) := by
  refine T.FGrid_Shown.ok scGrid_Shown (fun vs H Q E h => ?_) (fun cdv A outer s H vs Q E hr h => ?_)
  · obtain ⟨g, cells, names, a, z, rfl, _⟩ := h
    rfl
  · obtain ⟨g, cells, names, a, z, rfl, ⟨⟨dx, hG⟩, ⟨kvs, hC, eC, _⟩, _⟩, ha, q⟩ := h
    -- slots self=0 cell=1
    refine ⟨_, (pss_one (ps_ret (pe_callTy call_list_of (by rfl) T.z_list (by decide +kernel) (pa_cons (pe_dget2 (units2 hr) (pe_fld (pv 0) rfl) (pv 1) (pe_lst pa_nil) ⟨rfl, rfl, rfl, rfl⟩) pa_nil)))), ?_⟩
    refine ⟨_, rfl, g.G, T.cGrid, dx, _, _, rfl, hG, T.clGrid, T.naGrid__contents, rfl, g.cd, rfl, .inr ⟨kvs, .inl hC⟩, _, rfl, Nat.zero_le _, fun l0 hl0 => ?_⟩
    have s0 := same_new (o := .lst []) hl0
    obtain ⟨e1, e2⟩ := ents_get (fun _ _ => idK_inj) eC z
    have dg := DGet.t (k := idK z) (s0 _ _ hC) (s0 _ _ ha)
    cases hg : getE cells z with
    | none =>
      rw [e1 hg] at dg
      refine ⟨none, dg, l0, [], rfl, .inl (SqL.of upd_same), fun p hp => ?_⟩
      refine q p [] _ (s0.trans (same_new hp)) upd_same ?_ (s0.free hp)
      rw [hg]
      exact .nil
    | some ds =>
      obtain ⟨v, ev, l, us, rfl, hl, dp⟩ := e2 ds hg
      rw [ev] at dg
      refine ⟨_, dg, l, us, rfl, .inl (SqL.of (s0 _ _ hl)), fun p hp => ?_⟩
      have s1 := s0.trans (same_new (o := .lst us) hp)
      refine q p us _ s1 upd_same ?_ (s0.free hp)
      rw [hg]
      exact dtA_same s1 dp
theorem GD.same {K : PySem.W.Frag} {C : Addr} {H H' : Hp} {g : Gr} {cells : Cells} {names : Names} (s : Same H H') (h : GD K C H g cells names) : GD K C H' g cells names := by
  obtain ⟨⟨dx, h1⟩, ⟨kvs, h2, h3, h4⟩, ⟨nvs, h5, h6, h7⟩⟩ := h
  refine ⟨⟨dx, s _ _ h1⟩, ⟨kvs, s _ _ h2, h3.imp fun kv e hh => ⟨hh.1, ?_⟩, h4⟩, ⟨nvs, s _ _ h5, h6.imp fun kv e hh => ⟨hh.1, ?_⟩, h7⟩⟩
  · obtain ⟨_, l, us, g1, g2, g3⟩ := hh
    exact ⟨l, us, g1, s _ _ g2, dtA_same s g3⟩
  · obtain ⟨_, g1⟩ := hh
    cases he : e.2 with
    | none =>
      rw [he] at g1
      exact g1
    | some ds =>
      rw [he] at g1
      obtain ⟨l, us, g1, g2, g3⟩ := g1
      exact ⟨l, us, g1, s _ _ g2, dtA_same s g3⟩
def isD : HO → Bool
  | .dT _ => true
  | .dK _ => true
  | _ => false
/-- all but dicts stays -/
def KD (H H' : Hp) : Prop := ∀ q o, isD o = false → H q = some o → H' q = some o
theorem KD.of {H H' : Hp} (s : Same H H') : KD H H' := fun q o _ h => s q o h
theorem KD.trans {H H1 H2 : Hp} (a : KD H H1) (b : KD H1 H2) : KD H H2 := fun q o n h => b q o n (a q o n h)
theorem KD.put {H : Hp} {L : Addr} {o o' : HO} (hL : H L = some o) (hd : isD o = true) : KD H (upd H L o') := fun q u n h => by
  rw [upd_ne fun z => ?_]
  · exact h
  · rw [z, hL] at h
    rw [← Option.some.inj h, hd] at n
    cases n
theorem KD.seq {K : PySem.W.Frag} {H H' : Hp} {a : Addr} {xs : List V} (e : KD H H') (h : SqL K H a xs) : SqL K H' a xs := by
  rcases h with (h | ⟨o, h⟩) | h
  · exact .inl (.inl (e _ _ rfl h))
  · exact .inl (.inr ⟨o, e _ _ rfl h⟩)
  · exact .inr h
theorem KD.tup {K : PySem.W.Frag} {H H' : Hp} {a : Addr} {xs : List V} (e : KD H H') (h : SqT K H a xs) : SqT K H' a xs := by
  rcases h with (h | ⟨o, h⟩) | h
  · exact .inl (.inl (e _ _ rfl h))
  · exact .inl (.inr ⟨o, e _ _ rfl h⟩)
  · exact .inr h
mutual
theorem dp_kd {K : PySem.W.Frag} {H H' : Hp} (e : KD H H') : ∀ {v : V} {d : PyData}, Dp K H v d → Dp K H' v d
  | _, _, .non => .non
  | _, _, .bl b => .bl b
  | _, _, .int i => .int i
  | _, _, .str x => .str x
  | _, _, .lst h r => .lst (e.seq h) (dpA_kd e r)
  | _, _, .tup h r => .tup (e.tup h) (dpA_kd e r)
theorem dpA_kd {K : PySem.W.Frag} {H H' : Hp} (e : KD H H') : ∀ {vs : List V} {ds : List PyData}, DpAll K H vs ds → DpAll K H' vs ds
  | _, _, .nil => .nil
  | _, _, .cons h r => .cons (dp_kd e h) (dpA_kd e r)
end
theorem TT.kd {H H' : Hp} (e : KD H H') : TT H H' := fun a xs h => e a _ rfl h
theorem dtA_kd {H H' : Hp} {vs : List V} {ds : List PyData} (e : KD H H') (h : DtAll H vs ds) : DtAll H' vs ds := h.tt (TT.kd e)
theorem LAt.kd {K : PySem.W.Frag} {H H' : Hp} {v : V} {ds : List PyData} (e : KD H H') (h : LAt K H v ds) : LAt K H' v ds := by
  obtain ⟨l, us, g1, g2, g3⟩ := h
  exact ⟨l, us, g1, e _ _ rfl g2, dtA_kd e g3⟩
theorem NAt.kd {K : PySem.W.Frag} {H H' : Hp} {v : V} {d : Option (List PyData)} (e : KD H H') (h : NAt K H v d) : NAt K H' v d := by
  cases d with
  | none => exact h
  | some ds => exact LAt.kd (K := K) e h
theorem ents_kd {κ ι : Type} {f : ι → κ} {K : PySem.W.Frag} {H H' : Hp} {kvs : List (κ × V)} {D : List (ι × List PyData)} (e : KD H H') (h : Ents f (LAt K H) kvs D) : Ents f (LAt K H') kvs D := h.imp fun kv d hh => ⟨hh.1, LAt.kd (K := K) e hh.2⟩
theorem entsN_kd {κ ι : Type} {f : ι → κ} {K : PySem.W.Frag} {H H' : Hp} {kvs : List (κ × V)} {D : List (ι × Option (List PyData))} (e : KD H H') (h : Ents f (NAt K H) kvs D) : Ents f (NAt K H') kvs D := h.imp fun kv d hh => ⟨hh.1, NAt.kd e hh.2⟩
theorem GD.ne {K : PySem.W.Frag} {C : Addr} {H : Hp} {g : Gr} {cells : Cells} {names : Names} (h : GD K C H g cells names) : g.cd ≠ g.G ∧ g.nd ≠ g.G ∧ g.cd ≠ g.nd := by
  obtain ⟨⟨dx, h1⟩, ⟨kvs, h2, _⟩, ⟨nvs, h5, _⟩⟩ := h
  refine ⟨fun z => ?_, fun z => ?_, fun z => ?_⟩
  · rw [z, h1] at h2
    cases h2
  · rw [z, h1] at h5
    cases h5
  · rw [z, h5] at h2
    cases h2
/-- the dict of the contents changes -/
theorem GD.setC {K : PySem.W.Frag} {C : Addr} {H : Hp} {g : Gr} {cells cells' : Cells} {names : Names} {kvs' : List (List Key × V)} (h : GD K C H g cells names) (e : Ents idK (LAt K H) kvs' cells') (hl : kvs'.length ≤ 900) : GD K C (upd H g.cd (.dT kvs')) g cells' names ∧ KD H (upd H g.cd (.dT kvs')) ∧ KG g H (upd H g.cd (.dT kvs')) := by
  have ne := h.ne
  obtain ⟨⟨dx, h1⟩, ⟨kvs, h2, _⟩, ⟨nvs, h5, h6, h7⟩⟩ := h
  have kd : KD H (upd H g.cd (.dT kvs')) := KD.put h2 rfl
  exact ⟨⟨⟨dx, by rw [upd_ne ne.1.symm]; exact h1⟩, ⟨kvs', upd_same, ents_kd kd e, hl⟩, ⟨nvs, by rw [upd_ne ne.2.2.symm]; exact h5, entsN_kd kd h6, h7⟩⟩, kd, fun a o n1 n2 e => by rw [upd_ne n1]; exact e⟩
/-- the dict of the names changes -/
theorem GD.setN {K : PySem.W.Frag} {C : Addr} {H : Hp} {g : Gr} {cells : Cells} {names names' : Names} {nvs' : List (Key × V)} (h : GD K C H g cells names) (e : Ents keyW (NAt K H) nvs' names') (hl : nvs'.length ≤ 900) : GD K C (upd H g.nd (.dK nvs')) g cells names' ∧ KD H (upd H g.nd (.dK nvs')) ∧ KG g H (upd H g.nd (.dK nvs')) := by
  have ne := h.ne
  obtain ⟨⟨dx, h1⟩, ⟨kvs, h2, h3, h4⟩, ⟨nvs, h5, _⟩⟩ := h
  have kd : KD H (upd H g.nd (.dK nvs')) := KD.put h5 rfl
  exact ⟨⟨⟨dx, by rw [upd_ne ne.2.1.symm]; exact h1⟩, ⟨kvs, by rw [upd_ne ne.2.2]; exact h2, ents_kd kd h3, h4⟩, ⟨nvs', upd_same, entsN_kd kd e, hl⟩⟩, kd, fun a o n1 n2 e => by rw [upd_ne n2]; exact e⟩
theorem putK_len {κ : Type} [DecidableEq κ] (kvs : List (κ × V)) (k : κ) (v : V) : (putK kvs k v).length ≤ kvs.length + 1 := by
  unfold putK
  split
  · rw [List.length_map]
    omega
  · rw [List.length_append]
    exact Nat.le_refl _
theorem dropK_len {κ : Type} [DecidableEq κ] (kvs : List (κ × V)) (k : κ) : (dropK kvs k).length ≤ kvs.length := List.length_filter_le _ _
theorem dropE_no {κ β : Type} [DecidableEq κ] {D : List (κ × β)} {k : κ} (h : getE D k = none) : dropE D k = D := by
  unfold dropE
  rw [List.filter_eq_self]
  intro e he
  refine decide_eq_true fun z => ?_
  have h2 : D.find? (fun e => decide (e.1 = k)) = none := by
    unfold getE at h
    exact Option.map_eq_none_iff.mp h
  exact absurd (decide_eq_true z) (by simpa using List.find?_eq_none.mp h2 e he)
def rmS (S : List Addr) (H : Hp) : Hp := fun a => if a ∈ S then none else H a
theorem rmS_nil {H : Hp} : rmS [] H = H := by
  funext a
  exact if_neg (fun h => nomatch h)
theorem rmS_of {S : List Addr} {H : Hp} {a : Addr} (n : a ∉ S) : rmS S H a = H a := if_neg n
theorem rmS_some {S : List Addr} {H : Hp} {a : Addr} {o : HO} (h : rmS S H a = some o) : a ∉ S ∧ H a = some o := by
  by_cases z : a ∈ S
  · have : rmS S H a = none := if_pos z
    rw [this] at h
    cases h
  · exact ⟨z, (rmS_of z).symm.trans h⟩
theorem rmS_le {S : List Addr} {H : Hp} : Same (rmS S H) H := fun _ _ h => (rmS_some h).2
theorem rmS_same {S : List Addr} {H H' : Hp} (s : Same H H') : Same (rmS S H) (rmS S H') := fun a o h => by
  obtain ⟨n, e⟩ := rmS_some h
  rw [rmS_of n]
  exact s a o e
theorem rmS_upd {S : List Addr} {H : Hp} {a : Addr} {o : HO} (n : a ∉ S) : rmS S (upd H a o) = upd (rmS S H) a o := by
  funext c
  by_cases z : c = a
  · rw [z, upd_same, rmS_of n, upd_same]
  · rw [upd_ne z]
    by_cases y : c ∈ S
    · exact (if_pos y).trans (if_pos y).symm
    · rw [rmS_of y, rmS_of y, upd_ne z]
/-- lists only -/
def Ls (S : List Addr) (H : Hp) : Prop := ∀ x ∈ S, ∃ us, H x = some (.lst us)
theorem Ls.nil {H : Hp} : Ls [] H := fun _ h => nomatch h
theorem Ls.same {S : List Addr} {H H' : Hp} (l : Ls S H) (s : Same H H') : Ls S H' := fun x h => by
  obtain ⟨us, e⟩ := l x h
  exact ⟨us, s _ _ e⟩
theorem Ls.fresh {S : List Addr} {H : Hp} {p : Addr} (l : Ls S H) (h : H p = none) : p ∉ S := fun z => by
  obtain ⟨us, e⟩ := l p z
  rw [h] at e
  cases e
theorem Ls.tt {S : List Addr} {H : Hp} (l : Ls S H) : TT H (rmS S H) := fun a xs h => by
  rw [rmS_of fun z => ?_]
  · exact h
  · obtain ⟨us, e⟩ := l a z
    rw [h] at e
    cases e
def spName (K : PySem.W.Frag) (C : Addr) : Sp := fun vs H Q _ => ∃ (S : List Addr) (g : Gr) (cells : Cells) (names : Names) (w : Str) (v : V) (d : Option (List PyData)), vs = [.ref g.G, .str w, v] ∧ Ls S H ∧ GD K C (rmS S H) g cells names ∧ names.length ≤ 800 ∧ NAt K H v d ∧ ∀ H', KG g H H' → KD H H' → GD K C (rmS S H') g cells (putE names w d) → Q .non H'
theorem okGrid_Name (T : Txt K mg) : FnOk P w K mg base CX0 1 T.fGrid_Name T.fdGrid_Name ["self", "word", "areas"] (spName K T.cGrid) := by
  refine T.FGrid_Name.ok scGrid_Name (fun vs H Q E h => ?_) (fun cdv A outer s H vs Q E hr h => ?_)
  · obtain ⟨S, g, cells, names, w, v, d, rfl, _⟩ := h
    rfl
  · obtain ⟨S, g, cells, names, w, v, d, rfl, ls, G0, hz, hv, q⟩ := h
    -- slots self=0 word=1 areas=2
    refine ⟨_, (pss_one (ps_dput (units2 hr) (pe_fld (pv 0) rfl) (pv 1) (pe_ifExp (pt_cmpR op_isN (pv 2) pe_non (nomark _)) pe_non (pe_callTy call_list_of (by rfl) T.z_list (by decide +kernel) (pa_cons (pv 2) pa_nil))) rfl)), ?_⟩
    obtain ⟨⟨dx, hGr⟩, _, ⟨nvs, hNr, eN, hl⟩⟩ := id G0
    obtain ⟨nS, hN⟩ := rmS_some hNr
    have hG := (rmS_some hGr).2
    have main : ∀ (y : V) (H1 : Hp), Same H H1 → NAt K (rmS S H1) y d → Q .non (upd H1 g.nd (.dK (putK nvs (keyW w) y))) := fun y H1 s1 ny => by
      obtain ⟨g1, _, _⟩ := (G0.same (rmS_same s1)).setN (ents_put (fun _ _ => keyW_inj) (k := w) (entsN_kd (KD.of (rmS_same s1)) eN) ny) (by have := putK_len nvs (keyW w) y; have := eN.len; omega)
      rw [← rmS_upd nS] at g1
      exact q _ ((KG.of s1).trans fun a o n1 n2 e => by rw [upd_ne n2]; exact e) ((KD.of s1).trans (KD.put (s1 _ _ hN) rfl)) g1
    cases d with
    | none =>
      obtain rfl := hv
      refine ⟨_, rfl, rfl, _, rfl, ite2 (fun _ => ?_) (fun c => absurd (decide_eq_true rfl) c)⟩
      exact ⟨_, rfl, g.G, T.cGrid, dx, _, _, rfl, hG, T.clGrid, T.naGrid__names, rfl, _, rfl, g.nd, _, rfl, DPut.k (k := keyW w) hN (small1000 (by omega)), main .non H (Same.refl _) rfl⟩
    | some ds =>
      obtain ⟨l, us, rfl, hlv, dp⟩ := hv
      refine ⟨_, rfl, rfl, _, rfl, ite2 (fun c => (nomatch (of_decide_eq_true c))) (fun _ => ?_)⟩
      refine ⟨_, rfl, l, us, rfl, .inl (SqL.of hlv), fun p hp => ?_⟩
      have s1 := same_new (o := .lst us) hp
      have hN1 := s1 _ _ hN
      exact ⟨_, rfl, g.G, T.cGrid, dx, _, _, rfl, s1 _ _ hG, T.clGrid, T.naGrid__names, rfl, _, rfl, g.nd, _, rfl, DPut.k (k := keyW w) hN1 (small1000 (by omega)), main (.ref p) _ s1 ⟨p, us, rfl, (rmS_of (ls.fresh hp)).trans upd_same, (dtA_same s1 dp).tt (ls.same s1).tt⟩⟩
def blankD : PyData := .list [.tuple [.str "blank"]]
def isBl (ds : List PyData) : Bool := PyData.eqv (.list ds) (.list []) || PyData.eqv (.list ds) blankD
def setCell (cells : Cells) (z : Int × Int) (ds : List PyData) : Cells := if isBl ds = true then dropE cells z else putE cells z ds
def spPut (K : PySem.W.Frag) (C : Addr) : Sp := fun vs H Q _ => ∃ (S : List Addr) (g : Gr) (cells : Cells) (names : Names) (a l : Addr) (z : Int × Int) (us : List V) (ds : List PyData), vs = [.ref g.G, .ref a, .ref l] ∧ Ls S H ∧ GD K C (rmS S H) g cells names ∧ cells.length ≤ 800 ∧ H a = some (.tup [.int z.1, .int z.2]) ∧ H l = some (.lst us) ∧ DtAll H us ds ∧ SeqAt.shaped (.list ds) = true ∧
  ∀ H', KG g H H' → KD H H' → GD K C (rmS S H') g (setCell cells z ds) names → Q .non H'
theorem okGrid_Put (T : Txt K mg) : FnOk P w K mg base CX0 1 T.fGrid_Put T.fdGrid_Put ["self", "cell", "shown"] (spPut K T.cGrid) := by
  refine T.FGrid_Put.ok scGrid_Put (fun vs H Q E h => ?_) (fun cdv A outer s H vs Q E hr h => ?_)
  · obtain ⟨S, g, cells, names, a, l, z, us, ds, rfl, _⟩ := h
    rfl
  · obtain ⟨S, g, cells, names, a, l, z, us, ds, rfl, ls, G0, hz, ha, hl, dp, sh, q⟩ := h
    -- slots self=0 cell=1 shown=2
    refine ⟨_, (pss_one (ps_if (PW.pt (pw_or (pt_cmpR (op_eqD hr.units) (pv 2) (pe_lst pa_nil) (nomark _)) (pw_or1 (pt_cmpR (op_eqD hr.units) (pv 2) (pe_lst (pa_cons (pe_tup (pa_cons pe_str pa_nil)) pa_nil)) (nomark _)))))
          (pss_one (ps_expr (pe_bm PySem.F.plainAttrs_dict PySem.F.slot_dict_pop PySem.F.type_dict_pop (L2.DX.mt_popT (units2 hr)) (pe_fld (pv 0) rfl) (pa_cons (pv 1) (pa_cons pe_non pa_nil)))))
          (pss_one (ps_dput (units2 hr) (pe_fld (pv 0) rfl) (pv 1) (pe_callTy call_list_of (by rfl) T.z_list (by decide +kernel) (pa_cons (pv 2) pa_nil)) rfl)))), ?_⟩
    have st : ∀ b : Bool, isBl ds = b → setCell cells z ds = if b = true then dropE cells z else putE cells z ds := fun b e => by
      unfold setCell
      rw [e]
    obtain ⟨⟨dx, hGr⟩, ⟨kvs, hCr, eC, hl2⟩, _⟩ := id G0
    obtain ⟨nS, hC⟩ := rmS_some hCr
    have hG := (rmS_some hGr).2
    have pop : ∀ H1, Same H H1 → isBl ds = true → L2.DX.rPopT (.ref g.cd) [.ref a, .non] H1 (fun _ H' => Q .non H') := fun H1 s1 hb => by
      have G1 := G0.same (rmS_same s1)
      have eC1 := ents_kd (KD.of (rmS_same (S := S) s1)) eC
      obtain ⟨e1, e2⟩ := ents_get (fun _ _ => idK_inj) eC1 z
      refine ⟨g.cd, kvs, idK z, a, .non, rfl, rfl, s1 _ _ hC, s1 _ _ ha, fun v ev => ?_, fun ev => ?_⟩
      · obtain ⟨g1, _, _⟩ := G1.setC (ents_drop (fun _ _ => idK_inj) (k := z) eC1) (by have := dropK_len kvs (idK z); omega)
        rw [← rmS_upd nS] at g1
        exact q _ ((KG.of s1).trans fun a o n1 n2 e => by rw [upd_ne n1]; exact e) ((KD.of s1).trans (KD.put (s1 _ _ hC) rfl)) (by rw [st true hb, if_pos rfl]; exact g1)
      · have : getE cells z = none := by
          cases hg : getE cells z with
          | none => rfl
          | some b =>
            obtain ⟨v, e3, _⟩ := e2 b hg
            rw [e3] at ev
            cases ev
        exact q _ (KG.of s1) (KD.of s1) (by rw [st true hb, if_pos rfl, dropE_no this]; exact G1)
    refine ⟨_, rfl, Nat.zero_le _, fun l0 hl0 => ?_⟩
    have s0 := same_new (o := .lst []) hl0
    refine ⟨.list ds, .list [], .lst (SqL.of (s0 _ _ hl)) (dtA_same s0 dp).dp, .lst (SqL.of upd_same) .nil, sh, by decide +kernel, _, rfl, ite2 (fun c => ?_) (fun c => ?_)⟩
    · refine (if_pos rfl).mpr ?_
      exact ⟨_, rfl, g.G, T.cGrid, dx, _, _, rfl, s0 _ _ hG, T.clGrid, T.naGrid__contents, rfl, .inr (.inr (.inl ⟨rfl, .inr ⟨kvs, s0 _ _ hC⟩⟩)), _, rfl, pop _ s0 (by unfold isBl; rw [show PyData.eqv (.list ds) (.list []) = true from c]; rfl)⟩
    · refine ⟨_, rfl, (by show 1 ≤ sizeLine; decide), fun t ht => ⟨(by show 1 ≤ sizeLine; decide), fun l1 hl1 => ?_⟩⟩
      have s1 := (s0.trans (same_new (o := .tup [.str "blank"]) ht)).trans (same_new (o := .lst [.ref t]) hl1)
      have ht2 : (upd (upd (upd H l0 (.lst [])) t (.tup [.str "blank"])) l1 (.lst [.ref t])) t = some (.tup [.str "blank"]) := same_new hl1 _ _ upd_same
      refine ⟨.list ds, blankD, .lst (SqL.of (s1 _ _ hl)) (dtA_same s1 dp).dp, .lst (SqL.of upd_same) (.cons (.tup (SqT.of ht2) (.cons (.str _) .nil)) .nil), sh, by decide +kernel, _, rfl, ite2 (fun c2 => ?_) (fun c2 => ?_)⟩
      · have hb : isBl ds = true := by
          unfold isBl
          rw [show PyData.eqv (.list ds) blankD = true from c2, Bool.or_true]
        exact ⟨_, rfl, g.G, T.cGrid, dx, _, _, rfl, s1 _ _ hG, T.clGrid, T.naGrid__contents, rfl, .inr (.inr (.inl ⟨rfl, .inr ⟨kvs, s1 _ _ hC⟩⟩)), _, rfl, pop _ s1 hb⟩
      · have hb : isBl ds = false := by
          unfold isBl
          rw [Bool.or_eq_false_iff]
          exact ⟨Bool.eq_false_iff.mpr c, Bool.eq_false_iff.mpr c2⟩
        refine ⟨_, rfl, l, us, rfl, .inl (SqL.of (s1 _ _ hl)), fun p hp => ?_⟩
        have ls1 := ls.same s1
        have s2 := s1.trans (same_new (o := .lst us) hp)
        have G2 := G0.same (rmS_same s2)
        have eC2 := ents_kd (KD.of (rmS_same (S := S) s2)) eC
        refine ⟨_, rfl, g.G, T.cGrid, dx, _, _, rfl, s2 _ _ hG, T.clGrid, T.naGrid__contents, rfl, _, rfl, g.cd, _, rfl, DPut.t (k := idK z) (s2 _ _ hC) (s2 _ _ ha) (small1000 (by omega)), ?_⟩
        obtain ⟨g1, _, _⟩ := G2.setC (ents_put (fun _ _ => idK_inj) (k := z) (v := .ref p) eC2 ⟨p, us, rfl, (rmS_of (ls1.fresh hp)).trans upd_same, (dtA_same s2 dp).tt (ls.same s2).tt⟩) (by have := putK_len kvs (idK z) (.ref p); have := eC.len; omega)
        rw [← rmS_upd nS] at g1
        exact q _ ((KG.of s2).trans fun a o n1 n2 e => by rw [upd_ne n1]; exact e) ((KD.of s2).trans (KD.put (s2 _ _ hC) rfl)) (by rw [st false hb, if_neg Bool.false_ne_true]; exact g1)
theorem units65b {k : Nat} {A : Around} (r : Room k A) : A.units + 64 < cLine := by
  have := r.un
  omega
theorem ents_keys {κ ι β : Type} {f : ι → κ} {At : V → β → Prop} : ∀ {kvs : List (κ × V)} {D : List (ι × β)}, Ents f At kvs D → kvs.map Prod.fst = (D.map Prod.fst).map f
  | [], [], _ => rfl
  | kv :: kvs, [], h => by have := h.len; simp at this
  | [], e :: D, h => by have := h.len; simp at this
  | kv :: kvs, e :: D, h => by
    obtain ⟨⟨h1, _⟩, h3⟩ := RepP.un h
    rw [List.map_cons, List.map_cons, List.map_cons, h1, ents_keys h3]
def rmG (H : Hp) (F : Addr) : Hp := fun a => if a = F then none else H a
/-- a new grid -/
def spGInit (K : PySem.W.Frag) (C : Addr) : Sp := fun vs H Q _ => ∃ (G dx : Addr) (r c : Int), vs = [.ref G, .int r, .int c] ∧ H G = some (.ins C dx []) ∧ ∀ (g : Gr) (H' : Hp), g.G = G → g.r = r → g.c = c → Same (rmG H G) H' → rmG H G g.cd = none → rmG H G g.nd = none → GD K C H' g [] [] → Q .non H'
theorem okGrid_Init (T : Txt K mg) : FnOk P w K mg base CX0 1 T.fGrid_Init T.fdGrid_Init ["self", "rows", "columns"] (spGInit K T.cGrid) := by
  refine T.FGrid_Init.ok scGrid_Init (fun vs H Q E h => ?_) (fun cdv A outer s H vs Q E hr h => ?_)
  · obtain ⟨G, dx, r, c, rfl, _⟩ := h
    rfl
  · obtain ⟨G, dx, r, c, rfl, hG, q⟩ := h
    -- slots self=0 rows=1 columns=2
    refine ⟨_, (pss_cons (ps_fld (pv 0) (pv 1) rfl)
        (pss_cons (ps_fld (pv 0) (pv 2) rfl)
        (pss_cons (ps_fld (pv 0) pe_dnewT rfl)
        (pss_one (ps_fld (pv 0) pe_dnewK rfl))))), ?_⟩
    refine ⟨_, rfl, _, rfl, G, T.cGrid, dx, _, rfl, hG, T.clGrid, T.naGrid_rows, (by show 0 < 1000; decide), _, rfl, _, rfl, G, T.cGrid, dx, _, rfl, upd_same, T.clGrid, T.naGrid_columns, (by show 1 < 1000; decide), ?_⟩
    have k2 : Same (rmG H G) (upd (upd H G (.ins T.cGrid dx [("rows", .int r)])) G (.ins T.cGrid dx [("rows", .int r), ("columns", .int c)])) := fun a o e => by
      have n : a ≠ G := fun z => by
        rw [z] at e
        have : rmG H G G = none := if_pos rfl
        rw [this] at e
        cases e
      have e2 : rmG H G a = H a := if_neg n
      rw [upd_ne n, upd_ne n, ← e2]
      exact e
    have g2 : (upd (upd H G (.ins T.cGrid dx [("rows", .int r)])) G (.ins T.cGrid dx [("rows", .int r), ("columns", .int c)])) G = some (.ins T.cGrid dx [("rows", .int r), ("columns", .int c)]) := upd_same
    have fin : ∀ H2, Same (rmG H G) H2 → H2 G = some (.ins T.cGrid dx [("rows", .int r), ("columns", .int c)]) → ∀ cd, H2 cd = none → ∀ nd, (upd (upd H2 cd (.dT [])) G (.ins T.cGrid dx [("rows", .int r), ("columns", .int c), ("_contents", .ref cd)])) nd = none → Q .non (upd (upd (upd (upd H2 cd (.dT [])) G (.ins T.cGrid dx [("rows", .int r), ("columns", .int c), ("_contents", .ref cd)])) nd (.dK [])) G (gridO T.cGrid dx ⟨G, cd, nd, r, c⟩)) := fun H2 k2 g2 cd hcd nd hnd => by
      have n1 : cd ≠ G := fun z => by
        rw [z, g2] at hcd
        cases hcd
      have n2 : nd ≠ G := fun z => by
        rw [z, upd_same] at hnd
        cases hnd
      have n3 : cd ≠ nd := fun z => by
        rw [← z, upd_ne n1, upd_same] at hnd
        cases hnd
      have hnd2 : H2 nd = none := by
        rw [upd_ne n2, upd_ne n3.symm] at hnd
        exact hnd
      have free : ∀ {a : Addr}, H2 a = none → rmG H G a = none := fun {a} e => by
        cases z : rmG H G a with
        | none => rfl
        | some u =>
          rw [k2 a u z] at e
          cases e
      refine q ⟨G, cd, nd, r, c⟩ _ rfl rfl rfl (fun a o e => ?_) (free hcd) (free hnd2) ⟨⟨dx, upd_same⟩, ⟨[], ?_, RepP.nil, Nat.zero_le _⟩, ⟨[], ?_, RepP.nil, Nat.zero_le _⟩⟩
      · have n : a ≠ G := fun z => by
          rw [z] at e
          have : rmG H G G = none := if_pos rfl
          rw [this] at e
          cases e
        have e2 := k2 a o e
        have m1 : a ≠ cd := fun z => by
          rw [z, hcd] at e2
          cases e2
        have m2 : a ≠ nd := fun z => by
          rw [z, hnd2] at e2
          cases e2
        rw [upd_ne n, upd_ne m2, upd_ne n, upd_ne m1]
        exact e2
      · rw [upd_ne n1, upd_ne n3, upd_ne n1, upd_same]
      · rw [upd_ne n2, upd_same]
    refine fun cd hcd => ⟨_, rfl, G, T.cGrid, dx, [("rows", .int r), ("columns", .int c)], rfl, ?_, T.clGrid, T.naGrid__contents, (by show 2 < 1000; decide), fun nd hnd => ⟨_, rfl, G, T.cGrid, dx, [("rows", .int r), ("columns", .int c), ("_contents", .ref cd)], rfl, ?_, T.clGrid, T.naGrid__names, (by show 3 < 1000; decide), fin _ k2 g2 cd hcd nd hnd⟩⟩
    · rw [upd_ne fun z => ?_]
      · exact g2
      · rw [← z] at hcd
        rw [upd_same] at hcd
        cases hcd
    · rw [upd_ne fun z => ?_, upd_same]
      · rfl
      · rw [← z, upd_same] at hnd
        cases hnd
theorem okUnknownName_Init (T : Txt K mg) : FnOk P w K mg base CX0 1 T.fUnknownName_Init T.fdUnknownName_Init ["self", "word"] (spIni K T.cUnknownName "word") := by
  refine T.FUnknownName_Init.ok scUnknownName_Init (fun vs H Q E h => ?_) (fun cdv A outer s H vs Q E hr h => ?_)
  · obtain ⟨a, y, rfl, _⟩ := h
    rfl
  · obtain ⟨a, y, rfl, ha, q⟩ := h
    -- slots self=0 word=1
    refine ⟨_, (pss_one (ps_ost (pv 0) (pv 1))), ?_⟩
    exact ⟨_, rfl, _, rfl, a, T.cUnknownName, rfl, T.oKUnknownName, T.nKUnknownName_word, .inl ⟨ha, q⟩⟩
def spGAreas (K : PySem.W.Frag) (C CE : Addr) : Sp := fun vs H Q E => ∃ (g : Gr) (cells : Cells) (names : Names) (w : Str), vs = [.ref g.G, .str w] ∧ GD K C H g cells names ∧
  (getE names w = none → ∀ d, H d = none → E (.ref CE) (some d) (upd H d (.xd [("word", .str w)]))) ∧ (getE names w = some none → Q .non H) ∧
  ∀ ds, getE names w = some (some ds) → ∀ (p : Addr) (us : List V) (H' : Hp), Same H H' → H p = none → H' p = some (.lst us) → DtAll H' us ds → Q (.ref p) H'
theorem okGrid_Areas (T : Txt K mg) : FnOk P w K mg base (L2N.CX P w) 3 T.fGrid_Areas T.fdGrid_Areas ["self", "word"] (spGAreas K T.cGrid T.cUnknownName) := by
  refine okN T.FGrid_Areas scGrid_Areas (fun vs H Q E h => ?_) (fun cdv A outer s H vs Q E hr h => ?_)
  · obtain ⟨g, cells, names, w, rfl, _⟩ := h
    rfl
  · obtain ⟨g, cells, names, w, rfl, G0, q1, q2, q3⟩ := h
    -- slots self=0 word=1 areas=2
    refine ⟨_, (pss_cons (ps_if (pt_cmp (pc_dnotin (units2 hr) (pv 1) (pe_fld (pv 0) rfl)))
          (pss_one (L2N.ps_raise rfl (L2N.takes_of rfl rfl rfl rfl) (mkN T.oKUnknownName T.iKUnknownName T.tKUnknownName (okUnknownName_Init T) (hr.mono (by decide)) T.bUnknownName_Init pass0 (by rfl) T.gKUnknownName (pa_cons (pv 1) pa_nil))))
          pss_nil)
        (pss_cons (ps_set (i := 2) scGrid_Areas.nd rfl (Or.inl rfl) (pe_dget (units2 hr) (pe_fld (pv 0) rfl) (pv 1) (fun _ _ => rfl)))
        (pss_one (ps_ret (pe_ifExp (pt_cmpR op_isN (pv 2) pe_non (nomark _)) pe_non (pe_callTy call_list_of (by rfl) T.z_list (by decide +kernel) (pa_cons (pv 2) pa_nil))))))), ?_⟩
    obtain ⟨⟨dx, hG⟩, _, ⟨nvs, hN, eN, hl⟩⟩ := id G0
    obtain ⟨e1, e2⟩ := ents_get (fun _ _ => keyW_inj) eN w
    have dg := DGet.k (k := keyW w) hN
    refine ⟨_, rfl, _, rfl, g.G, T.cGrid, dx, _, _, rfl, hG, T.clGrid, T.naGrid__names, rfl, g.nd, _, rfl, dg, _, rfl, ?_⟩
    cases hg : getE names w with
    | none =>
      rw [e1 hg]
      exact iteT ⟨_, rfl, (by show 1 ≤ 1000; decide), ini_of (q1 hg)⟩
    | some b =>
      obtain ⟨v, ev, hv⟩ := e2 b hg
      rw [ev] at dg ⊢
      refine iteF ⟨_, rfl, g.G, T.cGrid, dx, _, _, rfl, hG, T.clGrid, T.naGrid__names, rfl, _, rfl, g.nd, v, rfl, dg, ?_⟩
      cases b with
      | none =>
        obtain rfl := hv
        exact ⟨_, rfl, rfl, _, rfl, ite2 (fun _ => q2 hg) (fun c => absurd (decide_eq_true rfl) c)⟩
      | some ds =>
        obtain ⟨l, us, rfl, hlv, dp⟩ := hv
        refine ⟨_, rfl, rfl, _, rfl, ite2 (fun c => (nomatch (of_decide_eq_true c))) (fun _ => ?_)⟩
        exact ⟨_, rfl, l, us, rfl, .inl (SqL.of hlv), fun p hp => q3 ds hg p us _ (same_new hp) hp upd_same (dtA_same (same_new hp) dp)⟩
/-! ### a copy -/
def nmD : Option (List PyData) → PyData
  | none => .none
  | some ds => .list ds
structure Good (cells : Cells) (names : Names) : Prop where
  nc : (cells.map Prod.fst).Nodup
  nn : (names.map Prod.fst).Nodup
  sh : ∀ e ∈ cells, SeqAt.shaped (.list e.2) = true ∧ isBl e.2 = false
  shn : ∀ e ∈ names, SeqAt.shaped (nmD e.2) = true
  wk : ∀ e ∈ names, PyData.strOk e.1 = true
  lc : cells.length ≤ 800
  ln : names.length ≤ 800
theorem getE_mem {κ β : Type} [DecidableEq κ] : ∀ {D : List (κ × β)}, (D.map Prod.fst).Nodup → ∀ e ∈ D, getE D e.1 = some e.2
  | [], _, e, h => nomatch h
  | d :: D, nd, e, h => by
    obtain ⟨n1, n2⟩ := List.nodup_cons.mp nd
    rcases List.mem_cons.mp h with z | z
    · rw [z]
      simp [getE]
    · have ne : ¬ d.1 = e.1 := fun y => n1 (by rw [y]; exact List.mem_map.mpr ⟨e, z, rfl⟩)
      have ih := getE_mem n2 e z
      unfold getE at ih ⊢
      rw [List.find?_cons_of_neg (by simpa using ne)]
      exact ih
theorem putE_new {κ β : Type} [DecidableEq κ] {D : List (κ × β)} {k : κ} {v : β} (h : ∀ e ∈ D, e.1 ≠ k) : putE D k v = D ++ [(k, v)] := by
  unfold putE
  rw [if_neg]
  rw [List.any_eq_true]
  rintro ⟨e, he, z⟩
  exact h e he (of_decide_eq_true z)
theorem take_new {κ β : Type} [DecidableEq κ] {D : List (κ × β)} (nd : (D.map Prod.fst).Nodup) {j : Nat} {e : κ × β} (h : D[j]? = some e) : (∀ d ∈ D.take j, d.1 ≠ e.1) ∧ D.take (j + 1) = D.take j ++ [e] := by
  refine ⟨fun d hd z => ?_, by rw [List.take_add_one, h]; rfl⟩
  obtain ⟨i, hi⟩ := List.mem_iff_getElem?.mp hd
  have hij : i < j := by
    have := (List.getElem?_eq_some_iff.mp hi).1
    rw [List.length_take] at this
    omega
  rw [List.getElem?_take_of_lt hij] at hi
  obtain ⟨g1, g2⟩ := List.getElem?_eq_some_iff.mp hi
  obtain ⟨g3, g4⟩ := List.getElem?_eq_some_iff.mp h
  have := List.pairwise_iff_getElem.mp nd i j (by rw [List.length_map]; exact g1) (by rw [List.length_map]; exact g3) hij
  rw [List.getElem_map, List.getElem_map, g2, g4] at this
  exact this z
/-- a grid's objects: what another one's dicts leave alone -/
structure Apart (g o : Gr) : Prop where
  a1 : g.G ≠ o.cd
  a2 : g.G ≠ o.nd
  a3 : g.cd ≠ o.cd
  a4 : g.cd ≠ o.nd
  a5 : g.nd ≠ o.cd
  a6 : g.nd ≠ o.nd
/-- lists and tuples stay -/
structure LT (H H' : Hp) : Prop where
  l : ∀ q xs, Rd H q (.lst xs) → Rd H' q (.lst xs)
  t : ∀ q xs, Rd H q (.tup xs) → Rd H' q (.tup xs)
mutual
theorem dp_lt {K : PySem.W.Frag} {H H' : Hp} (e : LT H H') : ∀ {v : V} {d : PyData}, Dp K H v d → Dp K H' v d
  | _, _, .non => .non
  | _, _, .bl b => .bl b
  | _, _, .int i => .int i
  | _, _, .str x => .str x
  | _, _, .lst h r => .lst (h.imp (e.l _ _) id) (dpA_lt e r)
  | _, _, .tup h r => .tup (h.imp (e.t _ _) id) (dpA_lt e r)
theorem dpA_lt {K : PySem.W.Frag} {H H' : Hp} (e : LT H H') : ∀ {vs : List V} {ds : List PyData}, DpAll K H vs ds → DpAll K H' vs ds
  | _, _, .nil => .nil
  | _, _, .cons h r => .cons (dp_lt e h) (dpA_lt e r)
end
theorem LT.upd {H : Hp} {d : Addr} {o0 o : HO} (h : H d = some o0) (n1 : ∀ xs, o0 ≠ .lst xs) (n2 : ∀ u xs, o0 ≠ .frz u (.lst xs)) (n3 : ∀ xs, o0 ≠ .tup xs) (n4 : ∀ u xs, o0 ≠ .frz u (.tup xs)) : LT H (upd H d o) := by
  have ne : ∀ {q : Addr} {u : HO}, H q = some u → u ≠ o0 → q ≠ d := fun e n z => by
    rw [z, h] at e
    exact n (Option.some.inj e).symm
  refine ⟨fun q xs r => ?_, fun q xs r => ?_⟩
  · rcases r with e | ⟨u, e⟩
    · exact .inl (by rw [upd_ne (ne e fun z => n1 xs z.symm)]; exact e)
    · exact .inr ⟨u, by rw [upd_ne (ne e fun z => n2 u xs z.symm)]; exact e⟩
  · rcases r with e | ⟨u, e⟩
    · exact .inl (by rw [upd_ne (ne e fun z => n3 xs z.symm)]; exact e)
    · exact .inr ⟨u, by rw [upd_ne (ne e fun z => n4 u xs z.symm)]; exact e⟩
/-- another object changes, no list and no tuple -/
theorem GD.lt {K : PySem.W.Frag} {C : Addr} {H : Hp} {g : Gr} {cells : Cells} {names : Names} {d : Addr} {o0 o : HO} (G : GD K C H g cells names) (h : H d = some o0) (n1 : ∀ xs, o0 ≠ .lst xs) (n2 : ∀ u xs, o0 ≠ .frz u (.lst xs)) (n3 : ∀ xs, o0 ≠ .tup xs) (n4 : ∀ u xs, o0 ≠ .frz u (.tup xs)) (a1 : d ≠ g.G) (a2 : d ≠ g.cd) (a3 : d ≠ g.nd) : GD K C (upd H d o) g cells names := by
  have tt : TT H (L2.upd H d o) := fun q xs e => by
    rw [upd_ne fun z => ?_]
    · exact e
    · rw [z, h] at e
      exact n3 xs (Option.some.inj e)
  obtain ⟨⟨dx, w1⟩, ⟨ks, w2, w3, w4⟩, ⟨ns, w5, w6, w7⟩⟩ := G
  have la : ∀ {v ds}, LAt K H v ds → LAt K (L2.upd H d o) v ds := fun {v ds} ⟨l, us, e, hl, dp⟩ => ⟨l, us, e, by
    rw [upd_ne fun z => ?_]
    · exact hl
    · rw [z, h] at hl
      exact n1 us (Option.some.inj hl), dp.tt tt⟩
  refine ⟨⟨dx, by rw [upd_ne a1.symm]; exact w1⟩, ⟨ks, by rw [upd_ne a2.symm]; exact w2, w3.imp fun kv e hh => ⟨hh.1, la hh.2⟩, w4⟩, ⟨ns, by rw [upd_ne a3.symm]; exact w5, w6.imp fun kv e hh => ⟨hh.1, ?_⟩, w7⟩⟩
  have hv := hh.2
  cases he : e.2 with
  | none =>
    rw [he] at hv
    exact hv
  | some ds =>
    rw [he] at hv
    exact la hv
theorem passN {P : Program} {w : World} {X : Cx} {σ : L2.St} : PassesAt (L2N.CX P w) X σ (fun _ _ _ => False) := fun _ _ _ _ _ _ z => by
  obtain ⟨_, _, _, _, _, _, _, _, _, _, _, _, _, _, _, _, no⟩ := z
theorem op_eqDK {X : Cx} {K : PySem.W.Frag} (h : X.K = K) (hu : X.A.units + 64 < cLine) : OpR X (compareOp .Eq) (rEqD K) := by
  subst h
  exact op_eqD hu
theorem op_neDK {X : Cx} {K : PySem.W.Frag} (h : X.K = K) (hu : X.A.units + 64 < cLine) : OpR X (compareOp .NotEq) (rNeD K) := by
  subst h
  exact op_neD hu
/-! ### whether two tables are the same -/
theorem eqvAll_inj {α : Type} [DecidableEq α] {f : α → PyData} (hf : ∀ a b, PyData.eqv (f a) (f b) = decide (a = b)) : ∀ xs ys : List α, PyData.eqvAll (xs.map f) (ys.map f) = decide (xs = ys)
  | [], [] => by simp [PyData.eqvAll]
  | [], y :: ys => by simp [PyData.eqvAll]
  | x :: xs, [] => by simp [PyData.eqvAll]
  | x :: xs, y :: ys => by
    rw [List.map_cons, List.map_cons, PySem.W.eqv_all_cons, hf, eqvAll_inj hf xs ys, Bool.eq_iff_iff]
    simp
theorem eqvL {α : Type} [DecidableEq α] {f : α → PyData} (hf : ∀ a b, PyData.eqv (f a) (f b) = decide (a = b)) (xs ys : List α) : PyData.eqv (.list (xs.map f)) (.list (ys.map f)) = decide (xs = ys) := by
  have : PyData.eqv (.list (xs.map f)) (.list (ys.map f)) = PyData.eqvAll (xs.map f) (ys.map f) := by simp only [PyData.eqv]
  rw [this, eqvAll_inj hf]
theorem lays {β : Type} {k : β → PyData} (h : ∀ b, (k b).canLay0 = true) : ∀ D : List β, PyData.canLayAll0 (D.map k) = true
  | [] => by simp [PyData.canLayAll0]
  | b :: D => by simp [PyData.canLayAll0, h b, lays h D]
theorem depths {β : Type} {k : β → PyData} {n : Nat} (h : ∀ b, (k b).depth ≤ n) : ∀ D : List β, PyData.depthAll (D.map k) ≤ n
  | [] => by simp [PyData.depthAll]
  | b :: D => by
    have h1 := h b
    have h2 := depths h D
    simp only [List.map_cons, PyData.depthAll]
    omega
theorem shapeds {β : Type} {k : β → PyData} {n : Nat} (h1 : ∀ b, (k b).canLay0 = true) (h2 : ∀ b, (k b).depth ≤ n) (hn : n ≤ 63) (D : List β) : SeqAt.shaped (.list (D.map k)) = true := by
  have e := depths h2 D
  show (PyData.canLay0 (.list (D.map k)) && decide (PyData.depth (.list (D.map k)) ≤ 64)) = true
  rw [Bool.and_eq_true]
  refine ⟨by simp only [PyData.canLay0]; exact lays h1 D, decide_eq_true ?_⟩
  simp only [PyData.depth]
  omega
theorem str_eqv (a b : Str) : PyData.eqv (.str a) (.str b) = decide (a = b) := by
  simp only [PyData.eqv]
  rw [Bool.eq_iff_iff]
  simp
theorem strs_lay : ∀ W : List Str, (∀ x ∈ W, PyData.strOk x = true) → PyData.canLayAll0 (W.map PyData.str) = true
  | [], _ => by simp [PyData.canLayAll0]
  | x :: W, h => by
    have h1 := h x List.mem_cons_self
    have h2 := strs_lay W fun y hy => h y (List.mem_cons_of_mem _ hy)
    simp only [List.map_cons, PyData.canLayAll0, PyData.canLay0, h1, h2]
    rfl
theorem strs_shaped (W : List Str) (h : ∀ x ∈ W, PyData.strOk x = true) : SeqAt.shaped (.list (W.map PyData.str)) = true := by
  have e := depths (k := PyData.str) (n := 0) (fun b => by simp [PyData.depth]) W
  show (PyData.canLay0 (.list (W.map PyData.str)) && decide (PyData.depth (.list (W.map PyData.str)) ≤ 64)) = true
  rw [Bool.and_eq_true]
  refine ⟨by simp only [PyData.canLay0]; exact strs_lay W h, decide_eq_true ?_⟩
  simp only [PyData.depth]
  omega
theorem dpStrs {K : PySem.W.Frag} {H : Hp} : ∀ W : List Str, DpAll K H (W.map V.str) (W.map PyData.str)
  | [] => .nil
  | x :: W => .cons (.str x) (dpStrs W)
theorem dpTu {K : PySem.W.Frag} {H : Hp} : ∀ Zs : List (V × (Int × Int)), (∀ z ∈ Zs, TuAt H z.1 z.2) → DpAll K H (Zs.map Prod.fst) ((Zs.map Prod.snd).map idD)
  | [], _ => .nil
  | z :: Zs, h => .cons (h z List.mem_cons_self).dp (dpTu Zs fun y hy => h y (List.mem_cons_of_mem _ hy))
theorem TuAt.same {H H' : Hp} {v : V} {z : Int × Int} (s : Same H H') (h : TuAt H v z) : TuAt H' v z := by
  obtain ⟨b, e, hb⟩ := h
  exact ⟨b, e, s _ _ hb⟩
theorem sorted_eq {α : Type} {R : α → α → Prop} (anti : ∀ a b, R a b → R b a → a = b) : ∀ {xs ys : List α}, xs.Perm ys → xs.Pairwise R → ys.Pairwise R → xs = ys
  | [], ys, h, _, _ => (List.Perm.nil_eq h)
  | x :: xs, [], h, _, _ => by have := h.length_eq; simp at this
  | x :: xs, y :: ys, h, h1, h2 => by
    obtain ⟨a1, a2⟩ := List.pairwise_cons.mp h1
    obtain ⟨b1, b2⟩ := List.pairwise_cons.mp h2
    have e : x = y := by
      rcases List.mem_cons.mp (h.mem_iff.mp List.mem_cons_self) with z | z
      · exact z
      · rcases List.mem_cons.mp (h.mem_iff.mpr (List.mem_cons_self (a := y) (l := ys))) with u | u
        · exact u.symm
        · exact anti _ _ (a1 _ u) (b1 _ z)
    subst e
    rw [sorted_eq anti (List.Perm.cons_inv h) a2 b2]
theorem antiK (a b : Int × Int) (h1 : ¬ ltK b a) (h2 : ¬ ltK a b) : a = b := by
  unfold ltK at h1 h2
  exact Prod.ext (by omega) (by omega)
theorem antiS (a b : Str) (h1 : ¬ b.cps.toList < a.cps.toList) (h2 : ¬ a.cps.toList < b.cps.toList) : a = b := by
  have e : a.cps.toList = b.cps.toList := List.le_antisymm h1 h2
  cases a
  cases b
  simp_all
theorem perm_of_sub {α : Type} [DecidableEq α] : ∀ {xs ys : List α}, xs.Nodup → xs.length = ys.length → (∀ x ∈ xs, x ∈ ys) → xs.Perm ys
  | [], ys, _, hl, _ => by
    have : ys = [] := List.length_eq_zero_iff.mp hl.symm
    rw [this]
  | x :: xs, ys, nd, hl, h => by
    obtain ⟨n1, n2⟩ := List.nodup_cons.mp nd
    have hx := h x List.mem_cons_self
    have p := List.perm_cons_erase hx
    refine (List.Perm.cons x (perm_of_sub n2 ?_ fun y hy => ?_)).trans p.symm
    · have := p.length_eq
      rw [List.length_cons] at this hl
      omega
    · have ne : y ≠ x := fun z => n1 (z ▸ hy)
      exact (List.mem_erase_of_ne ne).mpr (h y (List.mem_cons_of_mem _ hy))
section
variable {κ β : Type} [DecidableEq κ]
theorem getE_key {D : List (κ × β)} {k : κ} {b : β} (h : getE D k = some b) : (k, b) ∈ D := by
  unfold getE at h
  cases hf : D.find? (fun e => decide (e.1 = k)) with
  | none =>
    rw [hf] at h
    cases h
  | some e =>
    rw [hf] at h
    have h1 := List.mem_of_find?_eq_some hf
    have h2 : e.1 = k := by
      have := List.find?_some hf
      exact of_decide_eq_true this
    have h3 : e.2 = b := Option.some.inj h
    rw [← h2, ← h3]
    exact h1
theorem getE_none {D : List (κ × β)} {k : κ} (h : getE D k = none) : k ∉ D.map Prod.fst := fun z => by
  obtain ⟨e, he, rfl⟩ := List.mem_map.mp z
  unfold getE at h
  have := List.find?_eq_none.mp (Option.map_eq_none_iff.mp h) e he
  exact this (decide_eq_true rfl)
def eqE (v : β → PyData) (D D' : List (κ × β)) : Bool := D.length == D'.length && D.all fun e => match getE D' e.1 with
  | some b => PyData.eqv (v e.2) (v b)
  | none => false
def cmpE (v : β → PyData) (D D' : List (κ × β)) (k : κ) : Bool := match getE D k, getE D' k with
  | some a, some b => PyData.eqv (v a) (v b)
  | _, _ => false
theorem eqE_perm {v : β → PyData} {D D' : List (κ × β)} (nd : (D.map Prod.fst).Nodup) (h : eqE v D D' = true) : (D.map Prod.fst).Perm (D'.map Prod.fst) := by
  unfold eqE at h
  rw [Bool.and_eq_true, List.all_eq_true] at h
  refine perm_of_sub nd (by rw [List.length_map, List.length_map]; exact of_decide_eq_true h.1) fun x hx => ?_
  obtain ⟨e, he, rfl⟩ := List.mem_map.mp hx
  have := h.2 e he
  cases hg : getE D' e.1 with
  | none =>
    rw [hg] at this
    cases this
  | some b => exact List.mem_map.mpr ⟨_, getE_key hg, rfl⟩
theorem eqE_all {v : β → PyData} {D D' : List (κ × β)} {Ks : List κ} (nd : (D.map Prod.fst).Nodup) (h : (D.map Prod.fst).Perm (D'.map Prod.fst)) (hk : Ks.Perm (D.map Prod.fst)) : eqE v D D' = Ks.all (cmpE v D D') := by
  have e1 : (D.length == D'.length) = true := by
    have := h.length_eq
    rw [List.length_map, List.length_map] at this
    rw [this]
    exact beq_self_eq_true _
  have key : ∀ e ∈ D, cmpE v D D' e.1 = match getE D' e.1 with
      | some b => PyData.eqv (v e.2) (v b)
      | none => false := fun e he => by
    unfold cmpE
    rw [getE_mem nd e he]
    cases getE D' e.1 <;> rfl
  unfold eqE
  rw [e1, Bool.true_and, Bool.eq_iff_iff, List.all_eq_true, List.all_eq_true]
  constructor
  · intro hh k hk2
    obtain ⟨e, he, rfl⟩ := List.mem_map.mp (hk.mem_iff.mp hk2)
    rw [key e he]
    exact hh e he
  · intro hh e he
    have := hh e.1 (hk.mem_iff.mpr (List.mem_map.mpr ⟨e, he, rfl⟩))
    rw [key e he] at this
    exact this
end
theorem cmp_cells {cells cells' : Cells} {z : Int × Int} (h1 : z ∈ cells.map Prod.fst) (h2 : z ∈ cells'.map Prod.fst) : cmpE PyData.list cells cells' z = PyData.eqv (.list ((getE cells z).getD [])) (.list ((getE cells' z).getD [])) := by
  unfold cmpE
  cases e1 : getE cells z with
  | none => exact absurd h1 (getE_none e1)
  | some a =>
    cases e2 : getE cells' z with
    | none => exact absurd h2 (getE_none e2)
    | some b => rfl
theorem shD {cells : Cells} {names : Names} (gd : Good cells names) (z : Int × Int) : SeqAt.shaped (.list ((getE cells z).getD [])) = true := by
  cases e : getE cells z with
  | none => decide +kernel
  | some ds => exact (gd.sh _ (getE_key e)).1
/-- what areas hands out -/
def NewA (K : PySem.W.Frag) (H H' : Hp) (v : V) : Option (List PyData) → Prop
  | none => v = .non
  | some ds => ∃ p us, v = .ref p ∧ H p = none ∧ H' p = some (.lst us) ∧ DtAll H' us ds
theorem NewA.dp {K : PySem.W.Frag} {H H' H2 : Hp} {v : V} {b : Option (List PyData)} (h : NewA K H H' v b) (s : Same H' H2) : Dp K H2 v (nmD b) := by
  cases b with
  | none =>
    obtain rfl := h
    exact .non
  | some ds =>
    obtain ⟨p, us, rfl, _, hp, dp⟩ := h
    exact .lst (SqL.of (s _ _ hp)) (dtA_same s dp).dp
theorem area_of {K : PySem.W.Frag} {C CE : Addr} {H : Hp} {Q : VK} {E : XK} {g : Gr} {cells : Cells} {names : Names} {w : Str} {b : Option (List PyData)} (G : GD K C H g cells names) (hb : getE names w = some b)
    (q : ∀ v H', Same H H' → NewA K H H' v b → Q v H') : spGAreas K C CE [.ref g.G, .str w] H Q E := by
  refine ⟨g, cells, names, w, rfl, G, fun e => (by rw [hb] at e; cases e), fun e => ?_, fun ds e p us H' s hp hl dp => ?_⟩
  · rw [hb] at e
    obtain rfl := Option.some.inj e
    exact q _ H (Same.refl _) rfl
  · rw [hb] at e
    obtain rfl := Option.some.inj e
    exact q _ H' s ⟨p, us, rfl, hp, hl, dp⟩
theorem shN {cells : Cells} {names : Names} (gd : Good cells names) {w : Str} {b : Option (List PyData)} (h : getE names w = some b) : SeqAt.shaped (nmD b) = true := gd.shn _ (getE_key h)
theorem get_of_key {κ β : Type} [DecidableEq κ] {D : List (κ × β)} {k : κ} (h : k ∈ D.map Prod.fst) : ∃ b, getE D k = some b := by
  cases e : getE D k with
  | none => exact absurd h (getE_none e)
  | some b => exact ⟨b, rfl⟩
/-! ### trees as data -/
def arD : Ar → PyData
  | .gone => .tuple [.str "gone"]
  | .name w => .tuple [.str "name", .str w.1]
  | .block a b c d => .tuple [.str "block", .int a, .int b, .int c, .int d]
def trD : Tr → PyData
  | .gone => .tuple [.str "gone"]
  | .num x y => .tuple [.str "num", .tuple [.int x, .int y]]
  | .cell r c => .tuple [.str "cell", .int r, .int c]
  | .neg t => .tuple [.str "neg", trD t]
  | .op s l r => .tuple [.str "op", .str s, trD l, trD r]
  | .call n as => .tuple [.str "call", .str n, .tuple (as.map arD)]
theorem ArAt.dt {H : Hp} {v : V} : ∀ {a : Ar}, ArAt H v a → Dt H v (arD a)
  | .gone, ⟨q, e, h⟩ => e ▸ .tup h (.cons (.str _) .nil)
  | .name w, ⟨q, e, h⟩ => e ▸ .tup h (.cons (.str _) (.cons (.str _) .nil))
  | .block _ _ _ _, ⟨q, e, h⟩ => e ▸ .tup h (.cons (.str _) (.cons (.int _) (.cons (.int _) (.cons (.int _) (.cons (.int _) .nil)))))
theorem Ars.dt {H : Hp} : ∀ {vs : List V} {as : List Ar}, Ars H vs as → DtAll H vs (as.map arD)
  | _, _, .nil => .nil
  | _, _, .cons h r => .cons h.dt r.dt
theorem TrAt.dt {H : Hp} : ∀ {t : Tr} {v : V}, TrAt H v t → Dt H v (trD t)
  | .gone, _, ⟨q, e, h⟩ => e ▸ .tup h (.cons (.str _) .nil)
  | .num _ _, _, ⟨q, p, e, h, h2⟩ => e ▸ .tup h (.cons (.str _) (.cons (.tup h2 (.cons (.int _) (.cons (.int _) .nil))) .nil))
  | .cell _ _, _, ⟨q, e, h⟩ => e ▸ .tup h (.cons (.str _) (.cons (.int _) (.cons (.int _) .nil)))
  | .neg _, _, ⟨q, u, e, h, h2⟩ => e ▸ .tup h (.cons (.str _) (.cons h2.dt .nil))
  | .op _ _ _, _, ⟨q, u, w, e, h, h2, h3⟩ => e ▸ .tup h (.cons (.str _) (.cons (.str _) (.cons h2.dt (.cons h3.dt .nil))))
  | .call _ _, _, ⟨q, p, vs, e, h, h2, h3⟩ => e ▸ .tup h (.cons (.str _) (.cons (.str _) (.cons (.tup h2 h3.dt) .nil)))
theorem Dt.tup_inv {H : Hp} {v : V} {ds : List PyData} (h : Dt H v (.tuple ds)) : ∃ a xs, v = .ref a ∧ H a = some (.tup xs) ∧ DtAll H xs ds := by
  cases h with
  | tup h r => exact ⟨_, _, rfl, h, r⟩
theorem DtAll.un {H : Hp} {xs : List V} {d : PyData} {ds : List PyData} (h : DtAll H xs (d :: ds)) : ∃ x r, xs = x :: r ∧ Dt H x d ∧ DtAll H r ds := by
  cases h with
  | cons h r => exact ⟨_, _, rfl, h, r⟩
theorem DtAll.end_ {H : Hp} {xs : List V} (h : DtAll H xs []) : xs = [] := by
  cases h
  rfl
theorem Dt.str_inv {H : Hp} {v : V} {s : Str} (h : Dt H v (.str s)) : v = .str s := by
  cases h
  rfl
theorem Dt.int_inv {H : Hp} {v : V} {i : Int} (h : Dt H v (.int i)) : v = .int i := by
  cases h
  rfl
theorem dt_ar {H : Hp} {v : V} : ∀ {a : Ar}, Dt H v (arD a) → ArAt H v a
  | .gone, h => by
    obtain ⟨q, xs, rfl, hq, r⟩ := h.tup_inv
    obtain ⟨x1, r1, rfl, h1, r⟩ := r.un
    obtain rfl := r.end_
    obtain rfl := h1.str_inv
    exact ⟨q, rfl, hq⟩
  | .name w, h => by
    obtain ⟨q, xs, rfl, hq, r⟩ := h.tup_inv
    obtain ⟨_, _, rfl, h1, r⟩ := r.un
    obtain ⟨_, _, rfl, h2, r⟩ := r.un
    obtain rfl := r.end_
    rw [h1.str_inv, h2.str_inv] at hq
    exact ⟨q, rfl, hq⟩
  | .block a b c d, h => by
    obtain ⟨q, xs, rfl, hq, r⟩ := h.tup_inv
    obtain ⟨_, _, rfl, h1, r⟩ := r.un
    obtain ⟨_, _, rfl, h2, r⟩ := r.un
    obtain ⟨_, _, rfl, h3, r⟩ := r.un
    obtain ⟨_, _, rfl, h4, r⟩ := r.un
    obtain ⟨_, _, rfl, h5, r⟩ := r.un
    obtain rfl := r.end_
    rw [h1.str_inv, h2.int_inv, h3.int_inv, h4.int_inv, h5.int_inv] at hq
    exact ⟨q, rfl, hq⟩
theorem dt_ars {H : Hp} : ∀ {as : List Ar} {vs : List V}, DtAll H vs (as.map arD) → Ars H vs as
  | [], vs, h => by
    rw [h.end_]
    exact .nil
  | a :: as, vs, h => by
    obtain ⟨x, r, rfl, h1, h2⟩ := h.un
    exact .cons (dt_ar h1) (dt_ars h2)
theorem dt_tr {H : Hp} : ∀ {t : Tr} {v : V}, Dt H v (trD t) → TrAt H v t
  | .gone, v, h => by
    obtain ⟨q, xs, rfl, hq, r⟩ := h.tup_inv
    obtain ⟨x1, r1, rfl, h1, r⟩ := r.un
    obtain rfl := r.end_
    obtain rfl := h1.str_inv
    exact ⟨q, rfl, hq⟩
  | .num x y, v, h => by
    obtain ⟨q, xs, rfl, hq, ra⟩ := h.tup_inv
    obtain ⟨_, _, rfl, h1, rb⟩ := ra.un
    obtain ⟨u, w, rfl, h2, rc⟩ := rb.un
    obtain ⟨p, ys, rfl, hp, rd⟩ := h2.tup_inv
    obtain ⟨_, _, rfl, h3, re⟩ := rd.un
    obtain ⟨_, _, rfl, h4, rf⟩ := re.un
    obtain rfl := rc.end_
    obtain rfl := rf.end_
    rw [h1.str_inv] at hq
    rw [h3.int_inv, h4.int_inv] at hp
    exact ⟨q, p, rfl, hq, hp⟩
  | .cell r0 c0, v, h => by
    obtain ⟨q, xs, rfl, hq, r⟩ := h.tup_inv
    obtain ⟨_, _, rfl, h1, r⟩ := r.un
    obtain ⟨_, _, rfl, h2, r⟩ := r.un
    obtain ⟨_, _, rfl, h3, r⟩ := r.un
    obtain rfl := r.end_
    rw [h1.str_inv, h2.int_inv, h3.int_inv] at hq
    exact ⟨q, rfl, hq⟩
  | .neg t, v, h => by
    obtain ⟨q, xs, rfl, hq, r⟩ := h.tup_inv
    obtain ⟨_, _, rfl, h1, r⟩ := r.un
    obtain ⟨u, _, rfl, h2, r⟩ := r.un
    obtain rfl := r.end_
    rw [h1.str_inv] at hq
    exact ⟨q, u, rfl, hq, dt_tr h2⟩
  | .op s l r0, v, h => by
    obtain ⟨q, xs, rfl, hq, r⟩ := h.tup_inv
    obtain ⟨_, _, rfl, h1, r⟩ := r.un
    obtain ⟨_, _, rfl, h2, r⟩ := r.un
    obtain ⟨u, _, rfl, h3, r⟩ := r.un
    obtain ⟨w, _, rfl, h4, r⟩ := r.un
    obtain rfl := r.end_
    rw [h1.str_inv, h2.str_inv] at hq
    exact ⟨q, u, w, rfl, hq, dt_tr h3, dt_tr h4⟩
  | .call n as, v, h => by
    obtain ⟨q, xs, rfl, hq, ra⟩ := h.tup_inv
    obtain ⟨_, _, rfl, h1, rb⟩ := ra.un
    obtain ⟨_, _, rfl, h2, rc⟩ := rb.un
    obtain ⟨u, _, rfl, h3, rd⟩ := rc.un
    obtain ⟨p, ys, rfl, hp, re⟩ := h3.tup_inv
    obtain rfl := rd.end_
    rw [h1.str_inv, h2.str_inv] at hq
    exact ⟨q, p, ys, rfl, hq, hp, dt_ars re⟩
/-! ### the cells of a block -/
structure Bk where
  t : Int
  l : Int
  b : Int
  r : Int
def Bk.ok (R C : Int) (k : Bk) : Prop := 0 ≤ k.t ∧ k.t ≤ k.b ∧ k.b < R ∧ 0 ≤ k.l ∧ k.l ≤ k.r ∧ k.r < C
def rowOf (k : Bk) (i : Nat) : List (Int × Int) := (List.range (k.r + 1 - k.l).toNat).map fun (j : Nat) => (k.t + (i : Int), k.l + (j : Int))
def cellsOf (k : Bk) : List (Int × Int) := (List.range (k.b + 1 - k.t).toNat).flatMap (rowOf k)
/-- a walk whose turns do anything (a loop of a comprehension of two) -/
theorem walk_any {J : It} {n : Nat} {G : Hp → Prop} {Y : Nat → Hp → V → Hp → Prop} (w : Walk J n G Y) {B : (Hp → Prop) → V → Hp → Prop} {H0 : Hp} {Qd : Hp → Prop} (Pv : Nat → Hp → Prop) (h0 : Pv 0 H0) (hG : ∀ i H, i ≤ n → Pv i H → G H)
    (hs : ∀ i x H H', i < n → Pv i H → Y i H x H' → B (Pv (i + 1)) x H') (hd : ∀ H, Pv n H → Qd H) :
    ∃ W : Nat → Nat → Hp → Prop, (∃ m, W 0 m H0) ∧ ∀ i m H, W i m H → (J.stop i H ∧ Qd H) ∨ (J.go i H ∧ ∃ Nx : Hp → Prop, (∀ H', Nx H' → ∃ m', m' < m ∧ W (i + 1) m' H') ∧ ∀ x H', J.yld i H x H' → B Nx x H') := by
  refine ⟨fun i m H => i + m = n ∧ Pv i H, ⟨n, Nat.zero_add n, h0⟩, fun i m H ⟨e, p⟩ => ?_⟩
  cases m with
  | zero =>
    have ei : i = n := e
    rw [ei] at p ⊢
    exact .inl ⟨w.stops H (hG n H (Nat.le_refl n) p), hd H p⟩
  | succ m =>
    have lt : i < n := by omega
    have gH := hG i H (by omega) p
    exact .inr ⟨w.goes i H lt gH, Pv (i + 1), fun H' p' => ⟨m, Nat.lt_succ_self m, by omega, p'⟩, fun x H' y => hs i x H H' lt p (w.yields i H x H' lt gH y)⟩
theorem Cls.snoc {H : Hp} {vs : List V} {zs : List (Int × Int)} {q : Addr} {z : Int × Int} (h : Cls H vs zs) (hq : H q = some (.tup [.int z.1, .int z.2])) : Cls H (vs ++ [.ref q]) (zs ++ [z]) := Cls.app (.cons hq .nil) h
theorem rowOf_len (k : Bk) (i : Nat) : (rowOf k i).length = (k.r + 1 - k.l).toNat := by
  unfold rowOf
  rw [List.length_map, List.length_range]
theorem range_flat {α : Type} (f : Nat → List α) (n : Nat) : (List.range (n + 1)).flatMap f = (List.range n).flatMap f ++ f n := by
  rw [List.range_succ, List.flatMap_append]
  simp
def spCellsOf (K : PySem.W.Frag) : Sp := fun vs H Q _ => ∃ (q : Addr) (k : Bk), vs = [.ref q] ∧ H q = some (.tup [.int k.t, .int k.l, .int k.b, .int k.r]) ∧ k.ok 50 50 ∧ ∀ (H' : Hp) (p : Addr) (us : List V), Same H H' → H p = none → H' p = some (.lst us) → Cls H' us (cellsOf k) → Q (.ref p) H'
theorem okCellsOf (T : Txt K mg) : FnOk P w K mg base CX0 1 T.fCellsOf T.fdCellsOf ["block"] (spCellsOf K) := by
  refine T.FCellsOf.ok scCellsOf (fun vs H Q E h => ?_) (fun cdv A outer s H vs Q E hr h => ?_)
  · obtain ⟨q, k, rfl, _⟩ := h
    rfl
  · obtain ⟨q0, k, rfl, hq, kok, q⟩ := h
    -- slots block=0 top=1 left=2 bottom=3 right=4 row=5 column=6
    refine ⟨_, (pss_cons (ps_asg (pv 0) (pg_tup rfl (pgs_cons (pg_name (i := 1) scCellsOf.nd rfl (Or.inl rfl)) (pgs_cons (pg_name (i := 2) scCellsOf.nd rfl (Or.inr rfl)) (pgs_cons (pg_name (i := 3) scCellsOf.nd rfl (Or.inl rfl)) (pgs_cons (pg_name (i := 4) scCellsOf.nd rfl (Or.inr rfl)) pgs_nil))))))
        (pss_one (ps_ret (pe_lc2 (own := [("row", 5), ("column", 6)]) (vs1 := [6]) (g := gName 5) (g1 := gName 6) (tt := tYes) (tt1 := tYes) rfl scCellsOf.nd (pi_range2 rfl T.z_range (pa_cons (pv 1) (pa_cons (pe_op op_add (pv 3) pe_int) pa_nil))) (blkOk_by (own := [("row", 5), ("column", 6)]) (N := ["block", "top", "left", "bottom", "right", "row", "column"]) (sc := defScope sCellsOf) (by decide +kernel)) (by decide +kernel) (fun _ _ _ _ _ => (pg_name (i := 5) scCellsOf.nd rfl (Or.inl rfl))) (fun _ _ _ _ _ => pts_nil) (fun _ _ _ _ _ => (pi_range2 rfl T.z_range (pa_cons (pv 2) (pa_cons (pe_op op_add (pv 4) pe_int) pa_nil)))) (fun _ _ _ _ _ => (pg_name (i := 6) scCellsOf.nd rfl (Or.inl rfl))) (fun _ _ _ _ _ => pts_nil) (fun _ _ _ _ _ => (pe_tup (pa_cons (pv 5) (pa_cons (pv 6) pa_nil)))))))), ?_⟩
    refine ⟨_, rfl, q0, _, rfl, SqT.of hq, rfl, _, _, rfl, _, _, rfl, _, _, rfl, _, _, rfl, rfl, ?_⟩
    obtain ⟨k1, k2, k3, k4, k5, k6⟩ := kok
    refine ⟨_, rfl, _, rfl, _, _, rfl, rfl, _, _, rfl, ⟨by omega, by omega, by omega, by omega⟩, fun D hD => ?_⟩
    refine walk_any (walk_range (lo := k.t) (n := (k.b + 1 - k.t).toNat)) (fun i H' => Same H H' ∧ ∃ us, H' D = some (.lst us) ∧ us.length ≤ 50 * i ∧ Cls H' us ((List.range i).flatMap (rowOf k))) ⟨same_new hD, [], upd_same, Nat.zero_le _, .nil⟩ (fun _ _ _ _ => trivial) ?_ ?_
    · rintro i x H1 H2 hi ⟨s1, us, hus, ul, cl⟩ ⟨rfl, rfl⟩
      refine ⟨rfl, yesT ?_⟩
      refine ⟨_, rfl, _, rfl, _, _, rfl, rfl, _, _, rfl, ⟨by omega, by omega, by omega, by omega⟩, ?_⟩
      refine walk_any (walk_range (lo := k.l) (n := (k.r + 1 - k.l).toNat)) (fun j H' => Same H H' ∧ ∃ us, H' D = some (.lst us) ∧ us.length ≤ 50 * i + j ∧ Cls H' us ((List.range i).flatMap (rowOf k) ++ (rowOf k i).take j)) ⟨s1, us, hus, ul, by rw [List.take_zero, List.append_nil]; exact cl⟩ (fun _ _ _ _ => trivial) ?_ ?_
      · rintro j x H3 H4 hj ⟨s3, ws, hws, wl, cw⟩ ⟨rfl, rfl⟩
        refine ⟨rfl, yesT ⟨_, rfl, _, rfl, (by show 2 ≤ sizeLine; decide), fun t ht => ?_⟩⟩
        have st := same_new (o := .tup [.int (k.t + (i : Int)), .int (k.l + (j : Int))]) ht
        have hw2 := st _ _ hws
        have hj2 : (rowOf k i)[j]? = some (k.t + (i : Int), k.l + (j : Int)) := by
          unfold rowOf
          rw [List.getElem?_map, List.getElem?_range hj]
          rfl
        refine ⟨ws, hw2, sz100 (by omega), same_mut (s3.trans st) hD, ws ++ [.ref t], upd_same, by rw [List.length_append]; exact Nat.add_le_add_right wl 1, ?_⟩
        rw [List.take_add_one, hj2, ← List.append_assoc]
        exact ((cw.mono (TK.of st)).snoc upd_same).mono (TK.mut hw2)
      · rintro H3 ⟨s3, ws, hws, wl, cw⟩
        refine ⟨s3, ws, hws, by omega, ?_⟩
        rw [List.take_of_length_le (by rw [rowOf_len]; exact Nat.le_refl _)] at cw
        rw [range_flat]
        exact cw
    · rintro H1 ⟨s1, us, hus, ul, cl⟩
      exact q H1 D us s1 hD hus cl
/-! ### == of dicts with tuple keys -/
section
open PySem PySem.Calls PyProof.Rows PyProof.V PySem.Spec
variable {prog : Program} {w : World} {κ : Type} [DecidableEq κ] {knd : HeapKind prog w κ} {A : Around} {E : Value → Shared → Prop} {s : Shared}
/-- what the other dict answers to an entry: nothing, or a value and whether it is equal -/
def Ask (prog : Program) (w : World) (A : Around) (s : Shared) (xb : List (κ × Addr × Value)) (x : κ × Addr × Value) (b : Bool) : Prop :=
  (atKey xb x.1 = none ∧ b = false) ∨ ∃ q, atKey xb x.1 = some q ∧ SeqAt.EqP prog w A s x.2.2 q.2 b
/-- the answers to all entries, up to the first no -/
inductive HitsH {κ : Type} [DecidableEq κ] (prog : Program) (w : World) (A : Around) (s : Shared) (xb : List (κ × Addr × Value)) : List (κ × Addr × Value) → Bool → Prop
  | nil : HitsH prog w A s xb [] true
  | cons {x : κ × Addr × Value} {r : List (κ × Addr × Value)} {e b : Bool} : Ask prog w A s xb x e → (e = true → HitsH prog w A s xb r b) → HitsH prog w A s xb (x :: r) (e && b)
theorem HitsH.head {xb : List (κ × Addr × Value)} {x : κ × Addr × Value} {r : List (κ × Addr × Value)} {c : Bool} (h : HitsH prog w A s xb (x :: r) c) : ∃ e, Ask prog w A s xb x e ∧ (e = false → c = false) ∧ (e = true → HitsH prog w A s xb r c) := by
  cases h with
  | @cons _ _ e b ha hr => exact ⟨e, ha, fun z => by rw [z]; rfl, fun z => by rw [z, Bool.true_and]; exact hr z⟩
/-- where the loop stands: n entries are behind it, r is what is to come -/
structure Stand (prog : Program) (w : World) (A : Around) (s : Shared) (xa xb : List (κ × Addr × Value)) (c : Bool) (todo : List Nat) : Prop where
  ex : ∃ past rest, xa = past ++ rest ∧ todo = List.range' past.length rest.length ∧ HitsH prog w A s xb rest c
theorem Stand.start {xa xb : List (κ × Addr × Value)} {c : Bool} (h : HitsH prog w A s xb xa c) : Stand prog w A s xa xb c (List.range' 0 xa.length) := ⟨⟨[], xa, rfl, rfl, h⟩⟩
theorem Stand.next {xa xb : List (κ × Addr × Value)} {c : Bool} {i : Nat} {todo : List Nat} (h : Stand prog w A s xa xb c (i :: todo)) : ∃ x e, xa[i]? = some x ∧ Ask prog w A s xb x e ∧ (e = false → c = false) ∧ (e = true → Stand prog w A s xa xb c todo) := by
  obtain ⟨past, rest, e1, e2, hh⟩ := h.ex
  cases rest with
  | nil => cases e2
  | cons x rest =>
    rw [List.length_cons, List.range'_succ] at e2
    obtain ⟨rfl, rfl⟩ := List.cons.inj e2
    obtain ⟨e, ha, h1, h2⟩ := hh.head
    refine ⟨x, e, ?_, ha, h1, fun z => ⟨⟨past ++ [x], rest, by rw [e1, List.append_assoc]; rfl, by rw [List.length_append]; rfl, h2 z⟩⟩⟩
    rw [e1, List.getElem?_append_right (Nat.le_refl _), Nat.sub_self]
    rfl
theorem Stand.stop {xa xb : List (κ × Addr × Value)} {c : Bool} (h : Stand prog w A s xa xb c []) : c = true := by
  obtain ⟨past, rest, _, e2, hh⟩ := h.ex
  cases rest with
  | nil =>
    cases hh
    rfl
  | cons x rest =>
    rw [List.length_cons, List.range'_succ] at e2
    cases e2
theorem samePairsH {nm : String} {a b : Addr} {xa xb : List (κ × Addr × Value)} {c : Bool} {Q : Bool → Shared → Prop} (hu : knd.room A) (ha : (a == sysModules) = false) (hb : (b == sysModules) = false)
    (da : s.heap.DictOfH knd a xa) (db : s.heap.DictOfH knd b xb) (hits : xa.length = xb.length → HitsH prog w A s xb xa c) (h : Q (xa.length == xb.length && c) s) :
    wpAny (model prog w) A (Builtin.Dict.samePairs nm a b) Q E s := by
  have na : ¬ (a == sysModules) = true := fun z => Bool.false_ne_true (ha.symm.trans z)
  have nb : ¬ (b == sysModules) = true := fun z => Bool.false_ne_true (hb.symm.trans z)
  obtain ⟨oa, ea, pa, goa, _, dta, la, isa, _⟩ := da
  obtain ⟨ob, eb, pb, gob, _, dtb, lb, isb, ndb⟩ := db
  have za := size_of_entries la
  have zb := size_of_entries lb
  unfold Builtin.Dict.samePairs Builtin.Dict.showsAll
  rw [if_neg na, if_neg nb]
  refine wpAny_bind (wpAny_pure (wpAny_bind (wpAny_pure (wpAny_bind (wpAny_dictEntries goa dta ?_)))))
  dsimp only
  refine wpAny_bind (wpAny_dictEntries gob dtb ?_)
  by_cases same : ea.size = eb.size
  · have hl : xa.length = xb.length := by omega
    have hq : Q c s := by
      rw [hl, beq_self_eq_true, Bool.true_and] at h
      exact h
    rw [if_neg (by rw [same]; simp)]
    refine wpAny_bind (wpAny_dictEpoch goa dta (wpAny_bind ?_))
    rw [Std.Legacy.Range.forIn_eq_forIn_range']
    simp only [Std.Legacy.Range.size, Nat.sub_zero, Nat.add_sub_cancel, Nat.div_one]
    rw [za]
    refine wpAny_forIn_list _ (fun todo q s' => s' = s ∧ q = (none, ()) ∧ Stand prog w A s xa xb c todo) _ ?step ?last _ _ ⟨rfl, rfl, Stand.start (hits hl)⟩
    case last =>
      rintro q _ ⟨rfl, rfl, st⟩
      rw [st.stop] at hq
      exact wpAny_pure hq
    case step =>
      rintro i todo q s1 ⟨es, rfl, st⟩
      obtain ⟨⟨k, p⟩, e, hx, ask, no, yes⟩ := st.next
      rw [es]
      have hen : ea[i]? = some (entryOfKey knd (k, p)) := by rw [entry_at la i, hx] <;> rfl
      refine wpAny_bind (wpAny_dictEntries goa dta ?_)
      rw [hen]
      show wpAny _ _ (holding [(entryOfKey knd (k, p)).key, (entryOfKey knd (k, p)).val] _ >>= _) _ _ _
      refine wpAny_bind (wpAny_holding (wpAny_bind (wpAny_dictFind_heap (knd := knd) hu (isa _ (List.mem_of_getElem? hx)) gob dtb lb isb ndb (fun gone => ?_) fun j q there => ?_)))
      · -- the other has no such key
        have e0 : e = false := by
          rcases ask with ⟨_, z⟩ | ⟨q, z, _⟩
          · exact z
          · exact nomatch (atKey_none_of_get gone).symm.trans z
        rw [no e0] at hq
        exact wpAny_pure (wpAny_pure (wpAny_pure hq))
      · have found := atKey_of_get ndb there
        have eq : SeqAt.EqP prog w A s p.2 q.2 e := by
          rcases ask with ⟨z, _⟩ | ⟨y, z, t⟩
          · exact nomatch z.symm.trans found
          · rw [Option.some.inj (found.symm.trans z)]
            exact t
        have hej : eb[j]? = some (entryOfKey knd (k, q)) := by rw [entry_at lb j, there] <;> rfl
        refine wpAny_bind (wpAny_dictEntries gob dtb ?_)
        rw [hej]
        refine wpAny_holding (eq _ _ ?_)
        cases e with
        | false =>
          rw [no rfl] at hq
          exact wpAny_pure (wpAny_pure hq)
        | true =>
          refine wpAny_bind (wpAny_dictEpoch goa dta ?_)
          rw [if_neg (by simp)]
          exact wpAny_pure ⟨rfl, rfl, yes rfl⟩
  · have nl : (xa.length == xb.length) = false := by
      rw [← za, ← zb]
      simpa using same
    rw [nl, Bool.false_and] at h
    rw [if_pos (by simpa using same)]
    exact wpAny_bind (wpAny_rule (wpAny_pure h))
theorem rcP_dictsH {a b : Addr} {xa xb : List (κ × Addr × Value)} {c : Bool} (hk : knd.room A.in1) (ha : (a == sysModules) = false) (hb : (b == sysModules) = false)
    (da : s.heap.DictOfH knd a xa) (db : s.heap.DictOfH knd b xb) (hu : A.units < cLine) (hits : xa.length = xb.length → HitsH prog w A.in1 s xb xa c) (E Q : Value → Shared → Prop) (h : Q (.bool (xa.length == xb.length && c)) s) : wpAny (model prog w) A (richCompare .Eq (.ref a) (.ref b)) Q E s := by
  have ta := da.typeIs
  have tb := db.typeIs
  have body : wpAny (model prog w) A.in1 (Builtin.Dict.samePairs (toString "dict." ++ toString "__eq__") a b) (fun r s' => Q (.bool r) s') E s := samePairsH hk ha hb da db hits h
  refine wpAny_richCompare_same_room (op := .Eq) ta tb PySem.F.slot_dict_eq (wpAny_call_entry PySem.F.slot_dict_eq ta PySem.F.entry_dict_eq ?_ (PySem.F.args_dict_eq_2 _ _)) hu
  show wpAny _ _ (Builtin.Dict.dictSlotArgs "__eq__" ⟨[.ref a, .ref b], []⟩ >>= _) _ _ s
  unfold Builtin.Dict.dictSlotArgs
  have args : ∀ (R : Value × Value → Shared → Prop), R (.ref a, .ref b) s → wpAny (model prog w) A.in1 (pure (Value.ref a, Value.ref b)) R E s := fun R r => wpAny_pure r
  refine wpAny_bind (wpAny_bind (wpAny_notOrdered_dict ta (args _ ?_)))
  refine wpAny_bind (wpAny_isInstance (T := "dict") tb PySem.F.sub_dict_dict ?_)
  rw [if_neg (by decide)]
  refine wpAny_bind (wpAny_pure (wpAny_bind (wpAny_pure (wpAny_bind ?_))))
  refine wpAny_mono body (fun r s' hq => wpAny_pure ⟨_, rfl, (fun z => nomatch z), ?_⟩) fun _ _ z => z
  rw [show (r == true) = r by cases r <;> rfl]
  exact hq
end
section
variable {X : Cx} {pins : List (Addr × Obj)} {σ : L2.St} {H : Hp} {s : Shared}
theorem eqP_dp (I : Inv X pins σ H s) {A : Around} (hu : A.units + 64 < cLine) {x y : V} {v u : Value} {d e : PyData} (hd : Dp X.K H x d) (he : Dp X.K H y e) (rx : RelV x v) (ry : RelV y u) (sd : SeqAt.shaped d = true) (se : SeqAt.shaped e = true) : SeqAt.EqP X.prog X.w A s v u (PyData.eqv d e) := by
  obtain ⟨as, r1⟩ := Dp.reads I d x v hd rx
  obtain ⟨bs, r2⟩ := Dp.reads I e y u he ry
  exact (SeqAt.eqAt_reads d e A s v u as bs r1 r2 (SeqAt.canLay_of_shaped sd) (SeqAt.canLay_of_shaped se) (SeqAt.room_of_shaped sd hu)).eqP
def DpAs {β : Type} (K : PySem.W.Frag) (H : Hp) (vd : β → PyData) (v : V) (b : β) : Prop := Dp K H v (vd b)
theorem hitsT {ι β : Type} [DecidableEq ι] {f : ι → List Key} (hf : ∀ a b, f a = f b → a = b) {vd : β → PyData} (I : Inv X pins σ H s) {A : Around} (hu : A.units + 64 < cLine) {ls : List (List Key × V)} {xb : List (List Key × Addr × Value)} {D' : List (ι × β)}
    (rb : KT H ls xb) (e' : Ents f (DpAs X.K H vd) ls D') (s' : ∀ e ∈ D', SeqAt.shaped (vd e.2) = true) : ∀ {ks : List (List Key × V)} {xa : List (List Key × Addr × Value)} {D : List (ι × β)}, KT H ks xa → Ents f (DpAs X.K H vd) ks D → (∀ e ∈ D, SeqAt.shaped (vd e.2) = true) →
    HitsH X.prog X.w A s xb xa (D.all fun e => match getE D' e.1 with
      | some b => PyData.eqv (vd e.2) (vd b)
      | none => false)
  | [], _, [], .nil, _, _ => .nil
  | [], _, _ :: _, _, h, _ => by have := h.len; simp at this
  | _ :: _, _, [], _, h, _ => by have := h.len; simp at this
  | kv :: ks, _, e :: D, .cons (b := y) h t, en, sh => by
    obtain ⟨⟨h1, h2⟩, h3⟩ := RepP.un en
    have ih := hitsT hf I hu rb e' s' t h3 fun z hz => sh z (List.mem_cons_of_mem _ hz)
    obtain ⟨k, p⟩ := y
    have ek : kv.1 = k := h.1
    obtain ⟨g1, g2⟩ := ents_get hf e' e.1
    have r := rb.val k
    rw [← ek, h1] at r
    rw [List.all_cons]
    cases hg : getE D' e.1 with
    | none =>
      rw [g1 hg] at r
      dsimp only
      rw [Bool.false_and]
      refine HitsH.cons (e := false) (b := true) (.inl ⟨?_, rfl⟩) (fun z => nomatch z)
      show atKey xb k = none
      rw [← ek, h1]
      cases ea : atKey xb (f e.1) with
      | none => rfl
      | some q =>
        rw [ea] at r
        exact (show False from r).elim
    | some b =>
      obtain ⟨v, ev, hv⟩ := g2 b hg
      rw [ev] at r
      dsimp only
      cases ea : atKey xb (f e.1) with
      | none =>
        rw [ea] at r
        exact (show False from r).elim
      | some q =>
        rw [ea] at r
        refine HitsH.cons (.inr ⟨q, ?_, eqP_dp I hu h2 hv h.2.2 r (sh e List.mem_cons_self) (s' _ (getE_key hg))⟩) (fun _ => ih)
        show atKey xb k = some q
        rw [← ek, h1]
        exact ea
def rEqT (K : PySem.W.Frag) {ι β : Type} [DecidableEq ι] (f : ι → List Key) (vd : β → PyData) : R2 := fun x y H Q => ∃ a b ks ls D D', x = .ref a ∧ y = .ref b ∧ H a = some (.dT ks) ∧ H b = some (.dT ls) ∧ Ents f (DpAs K H vd) ks D ∧ Ents f (DpAs K H vd) ls D' ∧ (∀ e ∈ D, SeqAt.shaped (vd e.2) = true) ∧ (∀ e ∈ D', SeqAt.shaped (vd e.2) = true) ∧ Q (.bl (eqE vd D D')) H
theorem op_eqT {ι β : Type} [DecidableEq ι] {f : ι → List Key} (hf : ∀ a b, f a = f b → a = b) {vd : β → PyData} (hu : X.A.units + 65 < cLine) : OpR X (compareOp .Eq) (rEqT X.K f vd) := by
  intro pins s σ H x y v u Q I rx ry h
  obtain ⟨a, b, ks, ls, D, D', rfl, rfl, ea, eb, en, en', sh, sh', q⟩ := h
  obtain rfl : v = Value.ref a := rx
  obtain rfl : u = Value.ref b := ry
  obtain ⟨_, ya, xa, ra, da⟩ := dt_of I.hok ea
  obtain ⟨_, yb, xb, rb, db⟩ := dt_of I.hok eb
  refine rcP_dictsH (knd := tupleKind (mixKind X.prog X.w)) (A := X.A) (by show X.A.units + 1 < cLine; omega) ya yb da db (by omega) (fun _ => hitsT hf I (A := X.A.in1) (by show X.A.units + 1 + 64 < cLine; omega) rb en' sh' ra en sh) _ _ ?_
  have e1 : xa.length = D.length := by rw [← en.len, Paired.length ra]
  have e2 : xb.length = D'.length := by rw [← en'.len, Paired.length rb]
  rw [e1, e2]
  exact ⟨.bl _, H, I, rfl, q⟩
theorem hitsK {ι β : Type} [DecidableEq ι] {f : ι → Key} (hf : ∀ a b, f a = f b → a = b) {vd : β → PyData} (I : Inv X pins σ H s) {A : Around} (hu : A.units + 64 < cLine) {ls : List (Key × V)} {xb : List (Key × Value)} {D' : List (ι × β)}
    (rb : KV ls xb) (e' : Ents f (DpAs X.K H vd) ls D') (s' : ∀ e ∈ D', SeqAt.shaped (vd e.2) = true) : ∀ {ks : List (Key × V)} {xa : List (Key × Value)} {D : List (ι × β)}, KV ks xa → Ents f (DpAs X.K H vd) ks D → (∀ e ∈ D, SeqAt.shaped (vd e.2) = true) →
    PySem.W.KeqHitsP X.prog X.w A s xb xa (D.all fun e => match getE D' e.1 with
      | some b => PyData.eqv (vd e.2) (vd b)
      | none => false)
  | [], _, [], .nil, _, _ => .nil
  | [], _, _ :: _, _, h, _ => by have := h.len; simp at this
  | _ :: _, _, [], _, h, _ => by have := h.len; simp at this
  | kv :: ks, _, e :: D, .cons (b := y) h t, en, sh => by
    obtain ⟨⟨h1, h2⟩, h3⟩ := RepP.un en
    have ih := hitsK hf I hu rb e' s' t h3 fun z hz => sh z (List.mem_cons_of_mem _ hz)
    obtain ⟨k, p⟩ := y
    have ek : kv.1 = k := h.1
    obtain ⟨g1, g2⟩ := ents_get hf e' e.1
    have r : RelO (valV ls (f e.1)) (valueAt xb (f e.1)) := rb.val _
    rw [List.all_cons]
    cases hg : getE D' e.1 with
    | none =>
      rw [g1 hg] at r
      dsimp only
      rw [Bool.false_and]
      refine .miss ?_
      rw [← ek, h1]
      cases ea : valueAt xb (f e.1) with
      | none => rfl
      | some q =>
        rw [ea] at r
        cases r
    | some b =>
      obtain ⟨v, ev, hv⟩ := g2 b hg
      rw [ev] at r
      dsimp only
      obtain ⟨y, hy, ry⟩ := r.some_of
      refine .hit (y := y) (by rw [← ek, h1]; exact hy) (eqP_dp I hu h2 hv h.2 ry (sh e List.mem_cons_self) (s' _ (getE_key hg))) ih
def rEqK (K : PySem.W.Frag) {ι β : Type} [DecidableEq ι] (f : ι → Key) (vd : β → PyData) : R2 := fun x y H Q => ∃ a b ks ls D D', x = .ref a ∧ y = .ref b ∧ H a = some (.dK ks) ∧ H b = some (.dK ls) ∧ Ents f (DpAs K H vd) ks D ∧ Ents f (DpAs K H vd) ls D' ∧ (∀ e ∈ D, SeqAt.shaped (vd e.2) = true) ∧ (∀ e ∈ D', SeqAt.shaped (vd e.2) = true) ∧ Q (.bl (eqE vd D D')) H
theorem op_eqK {ι β : Type} [DecidableEq ι] {f : ι → Key} (hf : ∀ a b, f a = f b → a = b) {vd : β → PyData} (hu : X.A.units + 65 < cLine) : OpR X (compareOp .Eq) (rEqK X.K f vd) := by
  intro pins s σ H x y v u Q I rx ry h
  obtain ⟨a, b, ks, ls, D, D', rfl, rfl, ea, eb, en, en', sh, sh', q⟩ := h
  obtain rfl : v = Value.ref a := rx
  obtain rfl : u = Value.ref b := ry
  obtain ⟨_, ya, xa, ra, da⟩ := (show ObjOk X.prog X.w H s.heap a (.dK ks) from I.hok a _ ea)
  obtain ⟨_, yb, xb, rb, db⟩ := (show ObjOk X.prog X.w H s.heap b (.dK ls) from I.hok b _ eb)
  refine PySem.W.rcP_dicts (knd := mixKind X.prog X.w) (A := X.A) ya yb da db (by omega) (fun _ => hitsK hf I (A := X.A.in1) (by show X.A.units + 1 + 64 < cLine; omega) rb en' sh' ra en sh) _ _ ?_
  have e1 : xa.length = D.length := by rw [← en.len, Paired.length ra]
  have e2 : xb.length = D'.length := by rw [← en'.len, Paired.length rb]
  rw [e1, e2]
  exact ⟨.bl _, H, I, rfl, q⟩
end
/-! ### list(d.keys()) -/
def keysO (p d : Addr) : HO := .ext fun h => PySem.W.KdlKeysView h p d
theorem keysO_ok {P : Program} {w : World} {H : Hp} {h : Heap} {p d : Addr} (e : h.get? p = some { cls := .type "dict_keys", data := .fields #[.ref d] }) : ObjOk P w H h p (keysO p d) :=
  ⟨⟨_, e, rfl, rfl⟩, ⟨_, e⟩, fun h1 h2 x k => let ⟨o, ho, r⟩ := x; ⟨o, k o ho, r⟩⟩
section
open PySem PySem.Calls PyProof.Rows PyProof.V PySem.Spec
variable {X : Cx}
def rKeys : V → List V → Hp → VK → Prop := fun x xs H Q => ∃ (a : Addr), x = .ref a ∧ xs = [] ∧ ((∃ kvs, H a = some (.dT kvs)) ∨ ∃ kvs, H a = some (.dK kvs)) ∧ ∀ p, H p = none → Q (.ref p) (upd H p (keysO p a))
theorem mt_keys : MtR X "dict.keys" rKeys := by
  intro pins s σ H x xs v us Q I rx rxs h
  obtain ⟨a, rfl, rfl, ha, q⟩ := h
  cases rx
  cases rxs
  obtain ⟨hd, es, ep, raw⟩ : (a == sysModules) = false ∧ ∃ es ep, s.heap.DictRaw a es ep := by
    rcases ha with ⟨kvs, ha⟩ | ⟨kvs, ha⟩
    · obtain ⟨z, hd, xs', rel, o, es, ep, ho, hx, hdat, _⟩ := dt_of I.hok ha
      exact ⟨hd, es, ep, o, ho, hx, hdat⟩
    · obtain ⟨z, hd, vs, rel, o, es, ep, ho, hx, hdat, _⟩ := (show ObjOk X.prog X.w H s.heap a (.dK kvs) from I.hok a _ ha)
      exact ⟨hd, es, ep, o, ho, hx, hdat⟩
  refine call_meetsIn PySem.F.slot_dict_keys raw.typeIs PySem.F.entry_dict_keys (PySem.F.args_dict_keys_1 _) (meets_dict_keys_raw a hd) ⟨⟨es, ep, raw⟩, ?_⟩
  have hf : H s.heap.objs.size = none := I.hok.fresh (Nat.le_refl _)
  exact ⟨.ref s.heap.objs.size, upd H s.heap.objs.size (keysO s.heap.objs.size a), I.laid (t' := s.toks) (fun b u e => Heap.get?_push_of_some _ e) (Nat.le_refl _) (keysO_ok (Heap.get?_push_size _ rfl)), rfl, q _ hf⟩
def rListKeys : List V → Hp → VK → Prop := fun xs H Q => ∃ (p d : Addr), xs = [.ref p] ∧ H p = some (keysO p d) ∧
  ((∃ kvs, H d = some (.dT kvs) ∧ ∀ q bs, H q = none → IsKeys H kvs bs → Q (.ref q) (upd H q (.lst (bs.map V.ref)))) ∨ ∃ kvs, H d = some (.dK kvs) ∧ ∀ q, H q = none → Q (.ref q) (upd H q (.lst (kvs.map fun kv => kV kv.1))))
theorem call_list_keys (hc : X.calm = true) : CallR X (.type "list") rListKeys := by
  intro pins s σ H xs us Q I r h
  obtain ⟨p, d, rfl, hp, h⟩ := h
  obtain ⟨u, rfl, rx⟩ := r.one
  cases rx
  obtain ⟨hv, _⟩ := (show ObjOk X.prog X.w H s.heap p (keysO p d) from I.hok p _ hp)
  rcases h with ⟨kvs, hd, q⟩ | ⟨kvs, hd, q⟩
  · obtain ⟨z, hs, ks, pr, o, es, ep, ho, hx, hdt, he, hn⟩ := (show ObjOk X.prog X.w H s.heap d (.dT kvs) from I.hok d _ hd)
    have l1 : es.size = ks.length := size_of_entries he
    have l2 : kvs.length = ks.length := Paired.length pr
    refine PySem.W.kdl_call (KdlSrc.rawKeys (es := es) (ep := ep)) (I.ok.hd hc) ⟨hv, o, ho, hx, hdt⟩ (by omega) fun h' tk acc' c' kp e it => ?_
    have eb := keys_listed he it.1 fun i v hv => (by
      obtain ⟨hi, hv⟩ := it.2 i v hv
      exact ⟨_, Array.getElem?_eq_getElem hi, hv⟩)
    have rv : Vals ((ks.map fun x => x.2.1).map V.ref) acc'.toList := by rw [eb]; exact vals_refs _
    have hz : ((ks.map fun x => x.2.1).map V.ref).length ≤ sizeLine := by rw [List.length_map, List.length_map]; omega
    refine ⟨.ref s.heap.objs.size, _, I.laid (t' := tk) (o := .lst ((ks.map fun x => x.2.1).map V.ref)) kp (Nat.le_refl _) ?_, rfl, q _ _ (I.hok.fresh (Nat.le_refl _)) (isKeys_of pr)⟩
    exact ⟨hz, acc'.toList, c', rv, by rw [Array.toArray_toList]; exact e⟩
  · obtain ⟨z, lo, vs, rk, hdo⟩ := (show ObjOk X.prog X.w H s.heap d (.dK kvs) from I.hok d _ hd)
    obtain ⟨ep, hat⟩ := hdo.dictAt
    have hl : kvs.length = vs.length := Paired.length rk
    refine PySem.W.kdl_call (PySem.W.kdl_keys (knd := mixKind X.prog X.w) (kvs := vs) (ep := ep)) (I.ok.hd hc) ⟨hv, hat⟩ (by omega) fun h' tk acc c' kp e hacc => ?_
    have rv : Vals (kvs.map fun kv => kV kv.1) acc.toList := by
      have el : acc.toList.length = acc.size := by simp
      refine vals_of_at (by rw [List.length_map, el, hacc.1, hl]) fun j x w h1 h2 => ?_
      obtain ⟨k, y, hky, hi⟩ := hacc.2 j w (by rw [← Array.getElem?_toList]; exact h2)
      have e1 : (kvs.map (·.1))[j]? = some k := by
        rw [KV.keys rk, List.getElem?_map, hky] <;> rfl
      have e2 : (kvs.map fun kv => kV kv.1)[j]? = some (kV k) := by
        have e3 : (kvs.map fun kv => kV kv.1) = (kvs.map (·.1)).map kV := by rw [List.map_map] <;> rfl
        rw [e3, List.getElem?_map, e1] <;> rfl
      rw [e2] at h1
      cases h1
      exact keyIs_rel hi
    have hz : (kvs.map fun kv => kV kv.1).length ≤ sizeLine := by rw [List.length_map]; omega
    refine ⟨.ref s.heap.objs.size, _, I.laid (t' := tk) (o := .lst (kvs.map fun kv => kV kv.1)) kp (Nat.le_refl _) ?_, rfl, q _ (I.hok.fresh (Nat.le_refl _))⟩
    exact ⟨hz, acc.toList, c', rv, by rw [Array.toArray_toList]; exact e⟩
end
def scalD : PyData → Bool
  | .none => true
  | .bool _ => true
  | .int _ => true
  | .str _ => true
  | _ => false
def tiny : Nat → PyData → Prop
  | 0, d => scalD d = true
  | n + 1, d => scalD d = true ∨ ∃ ds, d = .tuple ds ∧ ds.length ≤ 100 ∧ ∀ x ∈ ds, tiny n x
theorem DtAll.length {H : Hp} : ∀ {vs : List V} {ds : List PyData}, DtAll H vs ds → vs.length = ds.length
  | _, _, .nil => rfl
  | _, _, .cons _ r => by rw [List.length_cons, List.length_cons, r.length]
theorem DtAll.at_ {H : Hp} : ∀ {vs : List V} {ds : List PyData}, DtAll H vs ds → ∀ (i : Nat) v d, vs[i]? = some v → ds[i]? = some d → Dt H v d
  | _, _, .nil, i, v, d, h, _ => by simp at h
  | _, _, .cons h r, 0, v, d, h1, h2 => by
    obtain rfl := Option.some.inj h1
    obtain rfl := Option.some.inj h2
    exact h
  | _, _, .cons h r, i + 1, v, d, h1, h2 => r.at_ i v d h1 h2
theorem scal_dt {H : Hp} {x y : V} {d : PyData} (h : scalD d = true) (hx : Dt H x d) (hy : Dt H y d) : x = y ∧ Scal y := by
  cases hx <;> cases hy <;> first | exact ⟨rfl, trivial⟩ | cases h
theorem Lk.scal {H : Hp} {n : Nat} {x y : V} (h : x = y ∧ Scal y) : Lk H n x y := by
  cases n with
  | zero => exact h
  | succ n => exact .inl h
theorem lk_dt {H : Hp} : ∀ (n : Nat) {x y : V} {d : PyData}, tiny n d → Dt H x d → Dt H y d → Lk H n x y
  | 0, x, y, d, t, hx, hy => scal_dt t hx hy
  | n + 1, x, y, d, t, hx, hy => by
    rcases t with t | ⟨ds, rfl, hl, hi⟩
    · exact .inl (scal_dt t hx hy)
    · cases hx with
      | tup ha ra =>
        cases hy with
        | tup hb rb =>
          refine .inr (.inl ⟨_, _, _, _, rfl, rfl, ha, hb, by rw [ra.length, rb.length], by rw [ra.length]; omega, fun i u v h1 h2 => ?_⟩)
          have hlt : i < ds.length := by
            have := (List.getElem?_eq_some_iff.mp h1).1
            rw [ra.length] at this
            exact this
          have e := List.getElem?_eq_getElem hlt
          exact lk_dt n (hi _ (List.getElem_mem hlt)) (ra.at_ i _ _ h1 e) (rb.at_ i _ _ h2 e)
def Sm (ds : List PyData) : Prop := ds.length ≤ 100 ∧ ∀ d ∈ ds, tiny 2 d
theorem lk_lists {H : Hp} {p q : Addr} {us ws : List V} {ds : List PyData} (s : Sm ds) (hp : H p = some (.lst us)) (hq : H q = some (.lst ws)) (hu : DtAll H us ds) (hw : DtAll H ws ds) : Lk H 3 (.ref p) (.ref q) := by
  refine .inr (.inr ⟨_, _, _, _, rfl, rfl, hp, hq, by rw [hu.length, hw.length], by rw [hu.length]; have := s.1; omega, fun i u v h1 h2 => ?_⟩)
  have hlt : i < ds.length := by
    have := (List.getElem?_eq_some_iff.mp h1).1
    rw [hu.length] at this
    exact this
  have e := List.getElem?_eq_getElem hlt
  exact lk_dt 2 (s.2 _ (List.getElem_mem hlt)) (hu.at_ i _ _ h1 e) (hw.at_ i _ _ h2 e)
/-- what is told of cells and names -/
structure Fn (cells : Cells) (names : Names) : Prop where
  g : Good cells names
  c : ∀ e ∈ cells, Sm e.2
  n : ∀ e ∈ names, ∀ ds, e.2 = some ds → Sm ds
/-- the law's own two dicts -/
structure TD (K : PySem.W.Frag) (H : Hp) (cd nd : Addr) (cells : Cells) (names : Names) : Prop where
  cs : ∃ kvs, H cd = some (.dT kvs) ∧ Ents idK (LAt K H) kvs cells ∧ kvs.length ≤ 900
  ns : ∃ nvs, H nd = some (.dK nvs) ∧ Ents keyW (NAt K H) nvs names ∧ nvs.length ≤ 900
theorem TD.same {K : PySem.W.Frag} {H H' : Hp} {cd nd : Addr} {cells : Cells} {names : Names} (s : Same H H') (h : TD K H cd nd cells names) : TD K H' cd nd cells names := by
  obtain ⟨⟨kvs, h2, h3, h4⟩, ⟨nvs, h5, h6, h7⟩⟩ := h
  exact ⟨⟨kvs, s _ _ h2, ents_kd (KD.of s) h3, h4⟩, ⟨nvs, s _ _ h5, entsN_kd (KD.of s) h6, h7⟩⟩
theorem lk_tu {H : Hp} : ∀ {xs ys : List (V × (Int × Int))}, xs.map Prod.snd = ys.map Prod.snd → (∀ z ∈ xs, TuAt H z.1 z.2) → (∀ z ∈ ys, TuAt H z.1 z.2) → ∀ (i : Nat) u v, (xs.map Prod.fst)[i]? = some u → (ys.map Prod.fst)[i]? = some v → Lk H 2 u v := fun {xs ys} e hx hy i u v h1 h2 => by
  rw [List.getElem?_map] at h1 h2
  obtain ⟨x, hx1, rfl⟩ := Option.map_eq_some_iff.mp h1
  obtain ⟨y, hy1, rfl⟩ := Option.map_eq_some_iff.mp h2
  have es : x.2 = y.2 := by
    have this : (List.map Prod.snd xs)[i]? = (List.map Prod.snd ys)[i]? := by rw [e]
    rw [List.getElem?_map, List.getElem?_map, hx1, hy1] at this
    exact Option.some.inj this
  obtain ⟨a, ea, ha⟩ := hx x (List.mem_of_getElem? hx1)
  obtain ⟨b, eb, hb⟩ := hy y (List.mem_of_getElem? hy1)
  rw [ea, eb]
  rw [← es] at hb
  refine lk_dt 2 (d := idD x.2) (.inr ⟨_, rfl, (by show 2 ≤ 100; decide), fun d hd => ?_⟩) (.tup ha (.cons (.int _) (.cons (.int _) .nil))) (.tup hb (.cons (.int _) (.cons (.int _) .nil)))
  left
  simp at hd
  rcases hd with rfl | rfl <;> rfl
theorem smE (cells : Cells) (names : Names) (f : Fn cells names) (z : Int × Int) : Sm ((getE cells z).getD []) := by
  cases e : getE cells z with
  | none => exact ⟨Nat.zero_le _, fun _ h => nomatch h⟩
  | some ds => exact f.c _ (getE_key e)
/-- sorted of the key tuples of a dict -/
theorem keys_zip {H : Hp} {kvs : List (List Key × V)} {bs : List Addr} {cells : Cells} (hk : IsKeys H kvs bs) (e : kvs.map Prod.fst = (cells.map Prod.fst).map idK) : ∃ zs : List (V × (Int × Int)), zs.map Prod.fst = bs.map V.ref ∧ zs.map Prod.snd = cells.map Prod.fst ∧ ∀ z ∈ zs, TuAt H z.1 z.2 := by
  have l1 := Paired.length hk
  have l2 := congrArg List.length e
  rw [List.length_map, List.length_map, List.length_map] at l2
  refine ⟨(bs.map V.ref).zip (cells.map Prod.fst), List.map_fst_zip (by rw [List.length_map, List.length_map]; omega), List.map_snd_zip (by rw [List.length_map, List.length_map]; omega), keysTu hk e⟩
theorem zs_alike (zs : List (V × (Int × Int))) : PySem.W.AllAlike ((zs.map gK).map Prod.snd) ∧ PySem.W.Sortable ((zs.map gK).map Prod.snd) ∧ ∀ b ∈ zs.map gK, b.2.depth ≤ 50 := by
  refine ⟨fun d1 h1 d2 h2 => ?_, .inl fun d1 h1 => ?_, fun b hb => ?_⟩
  · obtain ⟨b1, g1, rfl⟩ := List.mem_map.mp h1
    obtain ⟨b2, g2, rfl⟩ := List.mem_map.mp h2
    obtain ⟨y1, _, rfl⟩ := List.mem_map.mp g1
    obtain ⟨y2, _, rfl⟩ := List.mem_map.mp g2
    exact alikeI _ _
  · obtain ⟨b1, g1, rfl⟩ := List.mem_map.mp h1
    obtain ⟨y1, _, rfl⟩ := List.mem_map.mp g1
    exact ⟨_, _, rfl⟩
  · obtain ⟨y, _, rfl⟩ := List.mem_map.mp hb
    have := idD_depth y.2
    show (idD y.2).depth ≤ 50
    omega
theorem ws_alike (ws : List Str) : PySem.W.AllAlike ((ws.map sK).map Prod.snd) ∧ PySem.W.Sortable ((ws.map sK).map Prod.snd) ∧ ∀ b ∈ ws.map sK, b.2.depth ≤ 50 := by
  refine ⟨fun d1 h1 d2 h2 => ?_, .inr fun d1 h1 => ?_, fun b hb => ?_⟩
  · obtain ⟨b1, g1, rfl⟩ := List.mem_map.mp h1
    obtain ⟨b2, g2, rfl⟩ := List.mem_map.mp h2
    obtain ⟨y1, _, rfl⟩ := List.mem_map.mp g1
    obtain ⟨y2, _, rfl⟩ := List.mem_map.mp g2
    simp [sK, PySem.W.alike]
  · obtain ⟨b1, g1, rfl⟩ := List.mem_map.mp h1
    obtain ⟨y1, _, rfl⟩ := List.mem_map.mp g1
    exact ⟨(fun z => nomatch z), (fun xs z => nomatch z)⟩
  · obtain ⟨y, _, rfl⟩ := List.mem_map.mp hb
    simp [sK, PyData.depth]
theorem lk_strs {H : Hp} {W : List Str} : ∀ (i : Nat) u v, (W.map V.str)[i]? = some u → (W.map V.str)[i]? = some v → Lk H 2 u v := fun i u v h1 h2 => by
  rw [h1] at h2
  obtain rfl := Option.some.inj h2
  rw [List.getElem?_map] at h1
  obtain ⟨x, _, rfl⟩ := Option.map_eq_some_iff.mp h1
  exact Lk.scal ⟨rfl, trivial⟩
/-- cells.get(cell, []) of the law's own dict -/
theorem TD.got {K : PySem.W.Frag} {H : Hp} {cd nd : Addr} {cells : Cells} {names : Names} {tb l0 : Addr} {z : Int × Int} (D : TD K H cd nd cells names) (ht : H tb = some (.tup [.int z.1, .int z.2])) (hl : H l0 = some (.lst [])) :
    ∃ r, DGet H cd (.ref tb) r ∧ ∃ l ws, r.getD (.ref l0) = .ref l ∧ H l = some (.lst ws) ∧ DtAll H ws ((getE cells z).getD []) := by
  obtain ⟨⟨kvs, hC, eC, _⟩, _⟩ := D
  obtain ⟨e1, e2⟩ := ents_get (fun _ _ => idK_inj) eC z
  have dg := DGet.t (k := idK z) hC ht
  cases hg : getE cells z with
  | none =>
    rw [e1 hg] at dg
    exact ⟨none, dg, l0, [], rfl, hl, .nil⟩
  | some ds =>
    obtain ⟨v, ev, l, us, rfl, hl2, dp⟩ := e2 ds hg
    rw [ev] at dg
    exact ⟨_, dg, l, us, rfl, hl2, dp⟩
theorem TD.gotN {K : PySem.W.Frag} {H : Hp} {cd nd : Addr} {cells : Cells} {names : Names} {w : Str} {b : Option (List PyData)} (D : TD K H cd nd cells names) (hb : getE names w = some b) : ∃ v, DGet H nd (.str w) (some v) ∧ NAt K H v b := by
  obtain ⟨_, ⟨nvs, hN, eN, _⟩⟩ := D
  obtain ⟨e1, e2⟩ := ents_get (fun _ _ => keyW_inj) eN w
  have dg := DGet.k (k := keyW w) hN
  obtain ⟨v, ev, hv⟩ := e2 b hb
  rw [ev] at dg
  exact ⟨v, dg, hv⟩
theorem TD.goneN {K : PySem.W.Frag} {H : Hp} {cd nd : Addr} {cells : Cells} {names : Names} {w : Str} (D : TD K H cd nd cells names) (hb : getE names w = none) : DGet H nd (.str w) none := by
  obtain ⟨_, ⟨nvs, hN, eN, _⟩⟩ := D
  obtain ⟨e1, e2⟩ := ents_get (fun _ _ => keyW_inj) eN w
  have dg := DGet.k (k := keyW w) hN
  rw [e1 hb] at dg
  exact dg
theorem lk_new {K : PySem.W.Frag} {H H' H2 : Hp} {v1 v : V} {b : Option (List PyData)} (n : NewA K H H' v1 b) (s : Same H' H2) (h : NAt K H2 v b) (sm : ∀ ds, b = some ds → Sm ds) : Lk H2 3 v1 v := by
  cases b with
  | none =>
    obtain rfl := n
    obtain rfl := h
    exact Lk.scal ⟨rfl, trivial⟩
  | some ds =>
    obtain ⟨p, us, rfl, _, hp, dt⟩ := n
    obtain ⟨l, ws, rfl, hl, dl⟩ := h
    exact lk_lists (sm ds rfl) (s _ _ hp) hl (dtA_same s dt) dl
theorem sl_tupK {X : Cx} {K : PySem.W.Frag} (h : X.K = K) : SlR X (rSlT K) := by
  subst h
  exact sl_tup
theorem ifNeY {a : Str} {A B : Prop} (q : B) : if (!decide (V.str a = V.str a)) = true then A else B := by
  rw [decide_eq_true rfl]
  exact q
theorem ifNe {a b : Str} {A B : Prop} (h : a ≠ b) (q : A) : if (!decide (V.str a = V.str b)) = true then A else B := by
  rw [decide_eq_false fun z => h (V.str.inj z)]
  exact q
theorem ok4 : PyData.strOk (Str.ofString "gone") = true ∧ PyData.strOk (Str.ofString "name") = true ∧ PyData.strOk (Str.ofString "block") = true := by decide +kernel
theorem arD_lay (a : Ar) : (arD a).canLay0 = true := by
  cases a with
  | gone => simp [arD, PyData.canLay0, PyData.canLayAll0, ok4]
  | name w => simp [arD, PyData.canLay0, PyData.canLayAll0, ok4, w.2]
  | block a b c d => simp [arD, PyData.canLay0, PyData.canLayAll0, ok4]
theorem arD_depth (a : Ar) : (arD a).depth = 1 := by cases a <;> simp [arD, PyData.depth, PyData.depthAll]
theorem arDs_lay : ∀ zs : List Ar, PyData.canLayAll0 (zs.map arD) = true
  | [] => by simp [PyData.canLayAll0]
  | z :: zs => by simp [PyData.canLayAll0, arD_lay z, arDs_lay zs]
theorem arDs_depth : ∀ zs : List Ar, PyData.depthAll (zs.map arD) ≤ 1
  | [] => by simp [PyData.depthAll]
  | z :: zs => by
    have h1 := arDs_depth zs
    have h2 := arD_depth z
    simp only [List.map_cons, PyData.depthAll]
    omega
theorem arDs_shaped (zs : List Ar) : SeqAt.shaped (.list (zs.map arD)) = true := by
  have h1 := arDs_depth zs
  have h2 : PyData.depth (.list (zs.map arD)) ≤ 64 := by
    simp only [PyData.depth]
    omega
  show (PyData.canLay0 (.list (zs.map arD)) && decide (PyData.depth (.list (zs.map arD)) ≤ 64)) = true
  rw [Bool.and_eq_true]
  exact ⟨by simp only [PyData.canLay0]; exact arDs_lay zs, decide_eq_true h2⟩
/-! ### areas of words, blocks of areas -/
theorem ok4b : ("gone" : Str) ≠ "block" ∧ ("name" : Str) ≠ "block" := by decide +kernel
def spTold (K : PySem.W.Frag) (C : Addr) : Sp := fun vs H Q _ => ∃ (g : Gr) (cells : Cells) (names : Names) (w : Str), vs = [.ref g.G, .str w] ∧ GD K C H g cells names ∧
  (∀ H', Same H H' → getE names w = none → Q (.str "none") H') ∧ ∀ b v H', getE names w = some b → Same H H' → NewA K H H' v b → Q v H'
theorem okToldOf (T : Txt K mg) : FnOk P w K mg base CX0 4 T.fToldOf T.fdToldOf ["grid", "word"] (spTold K T.cGrid) := by
  refine T.FToldOf.ok scToldOf (fun vs H Q E h => ?_) (fun cdv A outer s H vs Q E hr h => ?_)
  · obtain ⟨g, cells, names, w, rfl, _⟩ := h
    rfl
  · obtain ⟨g, cells, names, w, rfl, G, q1, q2⟩ := h
    -- slots grid=0 word=1
    refine ⟨_, (pss_one (L2N.ps_try_many rfl rfl takesN (fun W pn xe tk po =>
          (pss_one (ps_ret (pe_methE (pv 0) T.clGrid T.meGrid_Areas (okGrid_Areas T) (hr.mono (by decide)) T.bGrid_Areas (fun σ => L2N.passAt tk σ) (pa_cons (pv 1) pa_nil)))))
        (.cons ⟨rfl, by decide, .inl T.gKUnknownName⟩ (fun a oe cls d pn hz hf =>
          (pss_one (ps_ret (pe_glob (v := (.str "none")) rfl T.g_NO_NAME ⟨_, rfl⟩)))) .nil))), ?_⟩
    obtain ⟨⟨dx, hG⟩, _⟩ := id G
    refine ⟨_, rfl, g.G, dx, _, rfl, hG, rfl, _, rfl, ?_⟩
    dsimp only [tNil]
    refine ⟨g, cells, names, w, rfl, G, fun hn d hd => ?_, fun e => q2 none _ H e (Same.refl _) rfl, fun ds e p us H' s hp hl dt => q2 (some ds) _ H' e s ⟨p, us, rfl, hp, hl, dt⟩⟩
    refine ⟨true, T.mKUnknownName_UnknownName, fun _ a ha => ?_, fun z => nomatch z⟩
    exact q1 _ (same_new hd) hn
abbrev NA : Type := List (Str × Option (List Ar))
def nmA (N : NA) : Names := N.map fun e => (e.1, e.2.map fun as => as.map arD)
theorem getE_nmA : ∀ (N : NA) (w : Str), getE (nmA N) w = (getE N w).map fun o => o.map fun as => as.map arD
  | [], w => rfl
  | e :: N, w => by
    have ih := getE_nmA N w
    unfold getE nmA at ih ⊢
    rw [List.map_cons]
    by_cases z : e.1 = w
    · rw [List.find?_cons_of_pos (by simpa using z), List.find?_cons_of_pos (by simpa using z)]
      rfl
    · rw [List.find?_cons_of_neg (by simpa using z), List.find?_cons_of_neg (by simpa using z)]
      exact ih
def bkOf : Ar → Option Bk
  | .block a b c d => some ⟨a, b, c, d⟩
  | _ => none
def blksOf (N : NA) : Ar → List Bk
  | .name w => match getE N w.1 with
    | some (some as) => as.filterMap bkOf
    | _ => []
  | a => [a].filterMap bkOf
theorem blks_name (N : NA) (w : OkS) : blksOf N (.name w) = match getE N w.1 with
    | some (some as) => as.filterMap bkOf
    | _ => [] := rfl
inductive Bks (H : Hp) : List V → List Bk → Prop where
  | nil : Bks H [] []
  | cons {q : Addr} {k : Bk} {vs : List V} {ks : List Bk} : H q = some (.tup [.int k.t, .int k.l, .int k.b, .int k.r]) → Bks H vs ks → Bks H (.ref q :: vs) (k :: ks)
theorem Bks.mono {H H' : Hp} (s : TK H H') : ∀ {vs ks}, Bks H vs ks → Bks H' vs ks
  | _, _, .nil => .nil
  | _, _, .cons h r => .cons (s _ _ h) (r.mono s)
theorem Bks.len {H : Hp} : ∀ {vs ks}, Bks H vs ks → vs.length = ks.length
  | _, _, .nil => rfl
  | _, _, .cons _ r => congrArg (· + 1) r.len
theorem Bks.app {H : Hp} {us : List V} {bs : List Bk} (h : Bks H us bs) : ∀ {vs ks}, Bks H vs ks → Bks H (vs ++ us) (ks ++ bs)
  | _, _, .nil => h
  | _, _, .cons h2 r => .cons h2 (Bks.app h r)
theorem Bks.get {H : Hp} : ∀ {vs ks}, Bks H vs ks → ∀ (i : Nat) x, vs[i]? = some x → ∃ q k, x = .ref q ∧ ks[i]? = some k ∧ H q = some (.tup [.int k.t, .int k.l, .int k.b, .int k.r])
  | _, _, .nil, i, x, h => by simp at h
  | _, _, .cons (q := q) (k := k) h r, 0, x, e => ⟨q, k, by cases e; rfl, rfl, h⟩
  | _, _, .cons h r, i + 1, x, e => r.get i x (by simpa using e)
/-- names of areas: few in each -/
def NOk (N : NA) : Prop := ∀ e ∈ N, ∀ as, e.2 = some as → as.length ≤ 10
theorem cut1_no (x : V) (us : List V) : ¬ (HT.sIx (x :: us).length 0 (some 1) = 0 ∧ HT.sIx (x :: us).length (x :: us).length none = (x :: us).length) := by
  rintro ⟨h, _⟩
  simp [HT.sIx] at h
theorem cut1 (x : V) (us : List V) : cutV (x :: us) (some 1) none = us := by
  unfold cutV
  have h : HT.sIx (x :: us).length 0 (some 1) = 1 := by
    simp [HT.sIx]
  rw [h]
  show (us.take ((us.length + 1) - 1)) = us
  rw [Nat.add_sub_cancel, List.take_length]
def spBlocksOf (K : PySem.W.Frag) (C : Addr) : Sp := fun vs H Q _ => ∃ (g : Gr) (cells : Cells) (N : NA) (v : V) (a : Ar), vs = [.ref g.G, v] ∧ GD K C H g cells (nmA N) ∧ NOk N ∧ ArAt H v a ∧
  ∀ (H' : Hp) (p : Addr) (us : List V), Same H H' → H p = none → H' p = some (.lst us) → Bks H' us (blksOf N a) → Q (.ref p) H'
theorem fm_snoc (as : List Ar) (i : Nat) (a : Ar) (h : as[i]? = some a) : (as.take (i + 1)).filterMap bkOf = (as.take i).filterMap bkOf ++ [a].filterMap bkOf := by
  rw [List.take_add_one, h, List.filterMap_append]
  rfl
/-! ### what is shown in a cell -/
inductive Ct where
  | text (s : OkS)
  | num (x y : Int)
  | form (t : Tr)
  | blank
def ctD : Ct → PyData
  | .text s => .tuple [.str "text", .str s.1]
  | .num x y => .tuple [.str "number", .tuple [.int x, .int y]]
  | .form t => .tuple [.str "formula", trD t]
  | .blank => .tuple [.str "blank"]
abbrev WC : Type := List ((Int × Int) × List Ct)
def cdW (W : WC) : Cells := W.map fun e => (e.1, e.2.map ctD)
theorem getE_cdW : ∀ (W : WC) (z : Int × Int), getE (cdW W) z = (getE W z).map fun cs => cs.map ctD
  | [], _ => rfl
  | e :: W, z => by
    have ih := getE_cdW W z
    unfold getE cdW at ih ⊢
    rw [List.map_cons]
    by_cases y : e.1 = z
    · rw [List.find?_cons_of_pos (by simpa using y), List.find?_cons_of_pos (by simpa using y)]
      rfl
    · rw [List.find?_cons_of_neg (by simpa using y), List.find?_cons_of_neg (by simpa using y)]
      exact ih
def formOf : List Ct → Option Tr
  | [.form t] => some t
  | _ => none
def formulaAt (W : WC) (z : Int × Int) : Option Tr := formOf ((getE W z).getD [])
theorem shown_data (W : WC) (z : Int × Int) : (getE (cdW W) z).getD [] = ((getE W z).getD []).map ctD := by
  rw [getE_cdW]
  cases getE W z <;> rfl
theorem okw : ("text" : Str) ≠ "formula" ∧ ("number" : Str) ≠ "formula" ∧ ("blank" : Str) ≠ "formula" := by decide +kernel
def spFormula (K : PySem.W.Frag) (C : Addr) : Sp := fun vs H Q _ => ∃ (g : Gr) (W : WC) (names : Names) (a : Addr) (z : Int × Int), vs = [.ref g.G, .ref a] ∧ GD K C H g (cdW W) names ∧ H a = some (.tup [.int z.1, .int z.2]) ∧
  (∀ H', Same H H' → formulaAt W z = none → Q .non H') ∧ ∀ H' v t, Same H H' → formulaAt W z = some t → TrAt H' v t → Q v H'
theorem okFormulaOf (T : Txt K mg) : FnOk P w K mg base CX0 2 T.fFormulaOf T.fdFormulaOf ["grid", "cell"] (spFormula K T.cGrid) := by
  refine T.FFormulaOf.ok scFormulaOf (fun vs H Q E h => ?_) (fun cdv A outer s H vs Q E hr h => ?_)
  · obtain ⟨g, W, names, a, z, rfl, _⟩ := h
    rfl
  · obtain ⟨g, W, names, a, z, rfl, G, ha, q1, q2⟩ := h
    -- slots grid=0 cell=1 shown=2
    refine ⟨_, (pss_cons (ps_set (i := 2) scFormulaOf.nd rfl (Or.inl rfl) (pe_meth (pv 0) T.clGrid T.meGrid_Shown (okGrid_Shown T) (hr.mono (by decide)) T.bGrid_Shown .nil pass0 (pa_cons (pv 1) pa_nil)))
        (pss_cons (ps_if (PW.pt (pw_and (pt_cmpR op_eq (pe_callB call_len_seq (by rfl) T.z_len PySem.boot_len (pa_cons (pv 2) pa_nil)) pe_int (nomark _)) (pw_and1 (pt_cmpR op_eq (pe_ix ix_tup (pe_ix ix_list (pv 2) pe_int (fun _ _ => rfl)) pe_int (fun _ _ => rfl)) pe_str (nomark _)))))
          (pss_one (ps_ret (pe_ix ix_tup (pe_ix ix_list (pv 2) pe_int (fun _ _ => rfl)) pe_int (fun _ _ => rfl))))
          pss_nil)
        (pss_one (ps_ret pe_non)))), ?_⟩
    obtain ⟨⟨dx, hG⟩, _⟩ := id G
    refine ⟨_, rfl, g.G, dx, _, rfl, hG, rfl, _, rfl, g, cdW W, names, a, z, rfl, G, ha, fun p us H1 s1 hp dt hpn => ?_⟩
    rw [shown_data] at dt
    have ef : formulaAt W z = formOf ((getE W z).getD []) := rfl
    generalize (getE W z).getD [] = cs at dt ef
    have ln := dt.length
    rw [List.length_map] at ln
    cases cs with
    | nil =>
      rw [dt.end_] at hp
      exact ⟨_, rfl, p, _, rfl, .inl (SqL.of hp), rfl, _, rfl, ite2 (fun c => nomatch (of_decide_eq_true c)) (fun _ => iteF (q1 _ s1 ef))⟩
    | cons c cs =>
      cases cs with
      | cons c2 cs =>
        have e2 : formulaAt W z = none := by
          rw [ef]
          cases c <;> rfl
        refine ⟨_, rfl, p, _, rfl, .inl (SqL.of hp), rfl, _, rfl, ite2 (fun y => ?_) (fun _ => iteF (q1 _ s1 e2))⟩
        have y := V.int.inj (of_decide_eq_true y)
        rw [ln, List.length_cons, List.length_cons] at y
        omega
      | nil =>
        obtain ⟨x, r, rfl, hd, r2⟩ := dt.un
        obtain rfl := r2.end_
        cases c with
        | form t =>
          obtain ⟨q0, xs, rfl, hq, ra⟩ := hd.tup_inv
          obtain ⟨_, _, rfl, h1, rb⟩ := ra.un
          obtain ⟨v, _, rfl, h2, rc⟩ := rb.un
          obtain rfl := rc.end_
          rw [h1.str_inv] at hq
          refine ⟨_, rfl, p, _, rfl, .inl (SqL.of hp), rfl, _, rfl, iteT ⟨_, rfl, p, _, _, _, rfl, rfl, SqL.of hp, atI_nat (j := 0) rfl, q0, _, _, _, rfl, rfl, SqT.of hq, atI_nat (j := 0) rfl, rfl, _, rfl, ifY ?_⟩⟩
          exact ⟨_, rfl, p, _, _, _, rfl, rfl, SqL.of hp, atI_nat (j := 0) rfl, q0, _, _, _, rfl, rfl, SqT.of hq, atI_nat (j := 1) rfl, q2 _ v t s1 ef (dt_tr h2)⟩
        | text w =>
          obtain ⟨q0, xs, rfl, hq, ra⟩ := hd.tup_inv
          obtain ⟨_, _, rfl, h1, rb⟩ := ra.un
          rw [h1.str_inv] at hq
          exact ⟨_, rfl, p, _, rfl, .inl (SqL.of hp), rfl, _, rfl, iteT ⟨_, rfl, p, _, _, _, rfl, rfl, SqL.of hp, atI_nat (j := 0) rfl, q0, _, _, _, rfl, rfl, SqT.of hq, atI_nat (j := 0) rfl, rfl, _, rfl, ifN okw.1 (q1 _ s1 ef)⟩⟩
        | num x y =>
          obtain ⟨q0, xs, rfl, hq, ra⟩ := hd.tup_inv
          obtain ⟨_, _, rfl, h1, rb⟩ := ra.un
          rw [h1.str_inv] at hq
          exact ⟨_, rfl, p, _, rfl, .inl (SqL.of hp), rfl, _, rfl, iteT ⟨_, rfl, p, _, _, _, rfl, rfl, SqL.of hp, atI_nat (j := 0) rfl, q0, _, _, _, rfl, rfl, SqT.of hq, atI_nat (j := 0) rfl, rfl, _, rfl, ifN okw.2.1 (q1 _ s1 ef)⟩⟩
        | blank =>
          obtain ⟨q0, xs, rfl, hq, ra⟩ := hd.tup_inv
          obtain ⟨_, _, rfl, h1, rb⟩ := ra.un
          rw [h1.str_inv] at hq
          exact ⟨_, rfl, p, _, rfl, .inl (SqL.of hp), rfl, _, rfl, iteT ⟨_, rfl, p, _, _, _, rfl, rfl, SqL.of hp, atI_nat (j := 0) rfl, q0, _, _, _, rfl, rfl, SqT.of hq, atI_nat (j := 0) rfl, rfl, _, rfl, ifN okw.2.2 (q1 _ s1 ef)⟩⟩
theorem ok_up : ∀ t : Tr, t.ok 3 → t.ok 8
  | .gone, _ => trivial
  | .num _ _, _ => trivial
  | .cell _ _, _ => trivial
  | .call n as, o => Nat.le_trans o (by decide)
  | .neg t, o => ok_up t o
  | .op s l r, o => ⟨ok_up l o.1, ok_up r o.2⟩
/-! ### the cells that a cell reads -/
def readsT (N : NA) (t : Tr) : List (Int × Int) := tcells t ++ (tareas t).flatMap fun a => (blksOf N a).flatMap cellsOf
def readsOf (W : WC) (N : NA) (z : Int × Int) : List (Int × Int) := match formulaAt W z with
  | some t => readsT N t
  | none => []
def fz (N : NA) (a : Ar) : List (Int × Int) := (blksOf N a).flatMap cellsOf
theorem flat_len_le {α β : Type} {f : α → List β} {m : Nat} : ∀ l : List α, (∀ x ∈ l, (f x).length ≤ m) → (l.flatMap f).length ≤ l.length * m
  | [], _ => Nat.zero_le _
  | x :: l, h => by
    have h1 := h x List.mem_cons_self
    have h2 := flat_len_le l fun y hy => h y (List.mem_cons_of_mem _ hy)
    rw [List.flatMap_cons, List.length_append, List.length_cons, Nat.succ_mul]
    omega
theorem mem_cellsOf {k : Bk} {y : Int × Int} : y ∈ cellsOf k ↔ k.t ≤ y.1 ∧ y.1 ≤ k.b ∧ k.l ≤ y.2 ∧ y.2 ≤ k.r := by
  unfold cellsOf rowOf
  rw [List.mem_flatMap]
  constructor
  · rintro ⟨i, hi, h⟩
    obtain ⟨j, hj, rfl⟩ := List.mem_map.mp h
    rw [List.mem_range] at hi hj
    refine ⟨?_, ?_, ?_, ?_⟩ <;> dsimp only <;> omega
  · rintro ⟨h1, h2, h3, h4⟩
    refine ⟨(y.1 - k.t).toNat, List.mem_range.mpr (by omega), List.mem_map.mpr ⟨(y.2 - k.l).toNat, List.mem_range.mpr (by omega), ?_⟩⟩
    refine Prod.ext ?_ ?_ <;> dsimp only <;> omega
theorem cellsOf_len {R C : Int} {k : Bk} (h : k.ok R C) (hf : R * C ≤ 60) : (cellsOf k).length ≤ 60 := by
  obtain ⟨h1, h2, h3, h4, h5, h6⟩ := h
  have a := flat_len_le (f := rowOf k) (m := (k.r + 1 - k.l).toNat) (List.range (k.b + 1 - k.t).toNat) fun i _ => by rw [rowOf_len]; exact Nat.le_refl _
  rw [List.length_range] at a
  have b : (k.b + 1 - k.t).toNat * (k.r + 1 - k.l).toNat ≤ R.toNat * C.toNat := Nat.mul_le_mul (by omega) (by omega)
  have c : ((R.toNat * C.toNat : Nat) : Int) = R * C := by
    rw [Int.natCast_mul, Int.toNat_of_nonneg (by omega), Int.toNat_of_nonneg (by omega)]
  have : (cellsOf k).length ≤ (k.b + 1 - k.t).toNat * (k.r + 1 - k.l).toNat := a
  omega
/-- all inside a grid of R rows and C columns -/
structure Wld (R C : Int) (W : WC) (N : NA) : Prop where
  rc : RC R C
  few : R * C ≤ 60
  tr : ∀ z t, formulaAt W z = some t → t.okR R C ∧ t.h < 5
  nm : ∀ e ∈ N, ∀ as, e.2 = some as → as.length ≤ 10 ∧ ∀ a ∈ as, a.ins R C
theorem tareas_ins {R C : Int} : ∀ {t : Tr}, t.okR R C → ∀ a ∈ tareas t, a.ins R C
  | .gone, _, a, h => nomatch h
  | .num _ _, _, a, h => nomatch h
  | .cell _ _, _, a, h => nomatch h
  | .neg t, o, a, h => tareas_ins (t := t) o a h
  | .op s l r, o, a, h => by
    rcases List.mem_append.mp h with h | h
    · exact tareas_ins o.1 a h
    · exact tareas_ins o.2.1 a h
  | .call n as, o, a, h => o.2.1 a h
theorem bk_ins {R C : Int} {as : List Ar} (h : ∀ a ∈ as, a.ins R C) : ∀ k ∈ as.filterMap bkOf, k.ok R C := fun k hk => by
  obtain ⟨a, ha, e⟩ := List.mem_filterMap.mp hk
  have hi := h a ha
  cases a with
  | gone => cases e
  | name w => cases e
  | block t l b r =>
    obtain rfl := Option.some.inj e
    exact hi
theorem blks_ok {R C : Int} {W : WC} {N : NA} (wl : Wld R C W N) {a : Ar} (ha : a.ins R C) : (∀ k ∈ blksOf N a, k.ok R C) ∧ (blksOf N a).length ≤ 10 := by
  have one : (∀ k ∈ [a].filterMap bkOf, k.ok R C) ∧ ([a].filterMap bkOf).length ≤ 10 := ⟨bk_ins fun x hx => by rw [List.mem_singleton.mp hx]; exact ha, Nat.le_trans (List.length_filterMap_le _ _) (by show 1 ≤ 10; decide)⟩
  cases a with
  | gone => exact one
  | block t l b r => exact one
  | name w =>
    rw [blks_name]
    cases e : getE N w.1 with
    | none => exact ⟨(fun _ h => nomatch h), Nat.zero_le _⟩
    | some o =>
      cases o with
      | none => exact ⟨(fun _ h => nomatch h), Nat.zero_le _⟩
      | some as =>
        have := wl.nm _ (getE_key e) as rfl
        exact ⟨bk_ins this.2, Nat.le_trans (List.length_filterMap_le _ _) this.1⟩
theorem flat_take {α β : Type} (f : α → List β) {l : List α} {i : Nat} {a : α} (h : l[i]? = some a) : (l.take (i + 1)).flatMap f = (l.take i).flatMap f ++ f a := by
  rw [List.take_add_one, h, List.flatMap_append]
  simp
def pairL (z : Int × Int) : List Int := [z.1, z.2]
def unL (l : List Int) : Int × Int := (l.getD 0 0, l.getD 1 0)
theorem unL_pair (z : Int × Int) : unL (pairL z) = z := rfl
theorem cls_rows {H : Hp} : ∀ {vs : List V} {zs : List (Int × Int)}, Cls H vs zs → ∃ ks : List (Addr × List Int), vs = ks.map (fun p => V.ref p.1) ∧ ks.map (·.2) = zs.map pairL ∧ ∀ p ∈ ks, H p.1 = some (.tup (p.2.map V.int))
  | _, _, .nil => ⟨[], rfl, rfl, fun _ h => nomatch h⟩
  | _, _, .cons (q := q) (z := z) h r => by
    obtain ⟨ks, e1, e2, e3⟩ := cls_rows r
    refine ⟨(q, pairL z) :: ks, by rw [e1]; rfl, by rw [List.map_cons, e2]; rfl, fun p hp => ?_⟩
    rcases List.mem_cons.mp hp with e | hp
    · rw [e]
      exact h
    · exact e3 p hp
theorem tcells_ins {R C : Int} : ∀ {t : Tr}, t.okR R C → ∀ y ∈ tcells t, 0 ≤ y.1 ∧ y.1 < R ∧ 0 ≤ y.2 ∧ y.2 < C
  | .gone, _, y, h => nomatch h
  | .num _ _, _, y, h => nomatch h
  | .call _ _, _, y, h => nomatch h
  | .cell r c, o, y, h => by
    rw [List.mem_singleton.mp h]
    exact o
  | .neg t, o, y, h => tcells_ins (t := t) o y h
  | .op s l r, o, y, h => by
    rcases List.mem_append.mp h with h | h
    · exact tcells_ins o.1 y h
    · exact tcells_ins o.2.1 y h
theorem reads_ins {R C : Int} {W : WC} {N : NA} (wl : Wld R C W N) {t : Tr} (tk : t.okR R C) : ∀ y ∈ readsT N t, 0 ≤ y.1 ∧ y.1 < R ∧ 0 ≤ y.2 ∧ y.2 < C := fun y hy => by
  rcases List.mem_append.mp hy with h | h
  · exact tcells_ins tk y h
  · obtain ⟨a, ha, h⟩ := List.mem_flatMap.mp h
    obtain ⟨k, hk, h⟩ := List.mem_flatMap.mp h
    obtain ⟨o1, o2, o3, o4, o5, o6⟩ := (blks_ok wl (tareas_ins tk a ha)).1 k hk
    have m := mem_cellsOf.mp h
    omega
/-- all cells of a grid -/
def gridB (R C : Int) : Bk := ⟨0, 0, R - 1, C - 1⟩
theorem gridB_ok {R C : Int} (rc : RC R C) : (gridB R C).ok R C := by
  have h1 := rc.r0
  have h2 := rc.c0
  refine ⟨?_, ?_, ?_, ?_, ?_, ?_⟩ <;> show _ <;> simp only [gridB] <;> omega
def spReads (K : PySem.W.Frag) (C0 : Addr) : Sp := fun vs H Q _ => ∃ (g : Gr) (W : WC) (N : NA) (R C : Int) (a : Addr) (z : Int × Int), vs = [.ref g.G, .ref a] ∧ GD K C0 H g (cdW W) (nmA N) ∧ Wld R C W N ∧ H a = some (.tup [.int z.1, .int z.2]) ∧
  ∀ (p : Addr) (Zs : List (V × (Int × Int))) (H' : Hp), Same H H' → H p = none → H' p = some (.lst (Zs.map Prod.fst)) → (∀ y ∈ Zs, TuAt H' y.1 y.2) → (Zs.map Prod.snd).Nodup → (Zs.map Prod.snd).Pairwise (fun a b => ¬ ltK b a) → (∀ y, y ∈ Zs.map Prod.snd ↔ y ∈ readsOf W N z) → Q (.ref p) H'
/-! ### trees with the names of the grid -/
theorem fourW : ∀ k : Nat, k < 4 → ∃ w : OkS, [V.str "ab", .str "total", .str "goner", .str "mi"][k]? = some (.str w.1) ∧ w.1.length ≤ 1000
  | 0, _ => ⟨⟨"ab", by decide +kernel⟩, rfl, by decide +kernel⟩
  | 1, _ => ⟨⟨"total", by decide +kernel⟩, rfl, by decide +kernel⟩
  | 2, _ => ⟨⟨"goner", by decide +kernel⟩, rfl, by decide +kernel⟩
  | 3, _ => ⟨⟨"mi", by decide +kernel⟩, rfl, by decide +kernel⟩
def spNear (K : PySem.W.Frag) (n : Nat) : Sp := fun vs H Q _ => ∃ (v : V) (t : Tr) (R C : Int), vs = [v] ∧ t.h < n ∧ TrAt H v t ∧ t.okR R C ∧ ∀ (H' : Hp) (v' : V) (t' : Tr), Same H H' → TrAt H' v' t' → t'.h = t.h → t'.okR R C → Q v' H'
theorem okLawNear (T : Txt K mg) : ∀ n : Nat, FnOk P w K mg base CX0 (n + 2) T.fLawNear T.fdLawNear ["tree"] (spNear K n)
  | 0 => by
    refine T.FLawNear.ok scLawNear (fun vs H Q E h => ?_) (fun cdv A outer s H vs Q E hr h => ?_)
    · obtain ⟨v, t, R, C, rfl, hh, _⟩ := h
      rfl
    · obtain ⟨v, t, R, C, rfl, hh, _⟩ := h
      exact absurd hh (Nat.not_lt_zero _)
  | n + 1 => by
    have IH := okLawNear T n
    refine T.FLawNear.ok scLawNear (fun vs H Q E h => ?_) (fun cdv A outer s H vs Q E hr h => ?_)
    · obtain ⟨v, t, R, C, rfl, _⟩ := h
      rfl
    · obtain ⟨v, t, R, C, rfl, hh, ht, ok, q⟩ := h
      -- slots tree=0 areas=1 area=2
      refine ⟨_, (pss_cons (ps_if (pt_cmpR op_eq (pe_ix ix_tup (pv 0) pe_int (fun _ _ => rfl)) pe_str (nomark _))
            (pss_one (ps_ret (pe_tup (pa_cons pe_str (pa_cons (pe_call IH (hr.mono (by omega)) (by rfl) T.gLawNear T.FLawNear.kp T.bLawNear .nil pass0 (pa_cons (pe_ix ix_tup (pv 0) pe_int (fun _ _ => rfl)) pa_nil)) pa_nil)))))
            pss_nil)
          (pss_cons (ps_if (pt_cmpR op_eq (pe_ix ix_tup (pv 0) pe_int (fun _ _ => rfl)) pe_str (nomark _))
            (pss_one (ps_ret (pe_tup (pa_cons pe_str (pa_cons (pe_ix ix_tup (pv 0) pe_int (fun _ _ => rfl)) (pa_cons (pe_call IH (hr.mono (by omega)) (by rfl) T.gLawNear T.FLawNear.kp T.bLawNear .nil pass0 (pa_cons (pe_ix ix_tup (pv 0) pe_int (fun _ _ => rfl)) pa_nil)) (pa_cons (pe_call IH (hr.mono (by omega)) (by rfl) T.gLawNear T.FLawNear.kp T.bLawNear .nil pass0 (pa_cons (pe_ix ix_tup (pv 0) pe_int (fun _ _ => rfl)) pa_nil)) pa_nil)))))))
            pss_nil)
          (pss_cons (ps_if (pt_cmpR op_eq (pe_ix ix_tup (pv 0) pe_int (fun _ _ => rfl)) pe_str (nomark _))
            (pss_cons (ps_set (i := 1) scLawNear.nd rfl (Or.inl rfl) (pe_lst pa_nil))
            (pss_cons (ps_for PassesOwn.never rfl (pi_tup (pe_ix ix_tup (pv 0) pe_int (fun _ _ => rfl))) (pg_name (i := 2) scLawNear.nd rfl (Or.inl rfl))
              (C8.pss_cut (ps_if (pt_cmpR op_eq (pe_ix ix_tup (pv 2) pe_int (fun _ _ => rfl)) pe_str (nomark _))
                (pss_one (ps_set (i := 2) scLawNear.nd rfl (Or.inl rfl) (pe_tup (pa_cons pe_str (pa_cons (pe_ix ix_list (pe_lst (pa_cons pe_str (pa_cons pe_str (pa_cons pe_str (pa_cons pe_str pa_nil))))) (pe_op op_mod (pe_callTy call_int1 (by rfl) T.z_int (by decide +kernel) (pa_cons (pe_callB call_len_str (by rfl) T.z_len PySem.boot_len (pa_cons (pe_ix ix_tup (pv 2) pe_int (fun _ _ => rfl)) pa_nil)) pa_nil)) pe_int) (fun _ _ => rfl)) pa_nil)))))
                pss_nil)
              (pss_one (ps_expr (pe_bm PySem.F.plainAttrs_list PySem.F.slot_list_append PySem.F.type_list_append mt_append (pv 1) (pa_cons (pv 2) pa_nil))))))
            (pss_one (ps_ret (pe_tup (pa_cons pe_str (pa_cons (pe_ix ix_tup (pv 0) pe_int (fun _ _ => rfl)) (pa_cons (pe_callTy call_tuple_of (by rfl) T.z_tuple (by decide +kernel) (pa_cons (pv 1) pa_nil)) pa_nil))))))))
            pss_nil)
          (pss_one (ps_ret (pv 0)))))), ?_⟩
      cases t with
      | gone =>
        obtain ⟨p, rfl, h1⟩ := id ht
        exact ⟨_, rfl, _, _, _, _, rfl, rfl, SqT.of h1, atI_nat (j := 0) rfl, rfl, _, rfl, ifN w1.1 ⟨_, rfl, _, _, _, _, rfl, rfl, SqT.of h1, atI_nat (j := 0) rfl, rfl, _, rfl, ifN w1.2.1 ⟨_, rfl, _, _, _, _, rfl, rfl, SqT.of h1, atI_nat (j := 0) rfl, rfl, _, rfl, ifN w1.2.2.1 ⟨_, rfl, q H _ .gone (Same.refl _) ht rfl trivial⟩⟩⟩⟩
      | num x y =>
        obtain ⟨p, p2, rfl, h1, _⟩ := id ht
        exact ⟨_, rfl, _, _, _, _, rfl, rfl, SqT.of h1, atI_nat (j := 0) rfl, rfl, _, rfl, ifN w2.1 ⟨_, rfl, _, _, _, _, rfl, rfl, SqT.of h1, atI_nat (j := 0) rfl, rfl, _, rfl, ifN w2.2.1 ⟨_, rfl, _, _, _, _, rfl, rfl, SqT.of h1, atI_nat (j := 0) rfl, rfl, _, rfl, ifN w2.2.2.1 ⟨_, rfl, q H _ (.num x y) (Same.refl _) ht rfl ok⟩⟩⟩⟩
      | cell r c =>
        obtain ⟨p, rfl, h1⟩ := id ht
        exact ⟨_, rfl, _, _, _, _, rfl, rfl, SqT.of h1, atI_nat (j := 0) rfl, rfl, _, rfl, ifN w3.1 ⟨_, rfl, _, _, _, _, rfl, rfl, SqT.of h1, atI_nat (j := 0) rfl, rfl, _, rfl, ifN w3.2.1 ⟨_, rfl, _, _, _, _, rfl, rfl, SqT.of h1, atI_nat (j := 0) rfl, rfl, _, rfl, ifN w3.2.2 ⟨_, rfl, q H _ (.cell r c) (Same.refl _) ht rfl ok⟩⟩⟩⟩
      | neg t =>
        obtain ⟨p, u, rfl, h1, h2⟩ := ht
        exact ⟨_, rfl, _, _, _, _, rfl, rfl, SqT.of h1, atI_nat (j := 0) rfl, rfl, _, rfl, ifY ⟨_, rfl, _, _, _, _, rfl, rfl, SqT.of h1, atI_nat (j := 1) rfl, u, t, R, C, rfl, hneg hh, h2, ok, fun H1 v1 t1 s1 g1 e1 ok1 => ⟨(by show 2 ≤ sizeLine; decide), fun z hz => q _ (.ref z) (.neg t1) (s1.trans (same_new hz)) ⟨z, v1, rfl, upd_same, g1.mono (TK.of (same_new hz))⟩ (congrArg (· + 1) e1) ok1⟩⟩⟩
      | op s l r =>
        obtain ⟨p, u, w, rfl, h1, h2, h3⟩ := ht
        refine ⟨_, rfl, _, _, _, _, rfl, rfl, SqT.of h1, atI_nat (j := 0) rfl, rfl, _, rfl, ifN w5.1 ⟨_, rfl, _, _, _, _, rfl, rfl, SqT.of h1, atI_nat (j := 0) rfl, rfl, _, rfl, ifY ⟨_, rfl, _, _, _, _, rfl, rfl, SqT.of h1, atI_nat (j := 1) rfl, _, rfl, _, _, _, _, rfl, rfl, SqT.of h1, atI_nat (j := 2) rfl, u, l, R, C, rfl, (hop hh).1, h2, ok.1, fun H1 v1 t1 s1 g1 e1 ok1 => ?_⟩⟩⟩
        have h1' := s1 _ _ h1
        refine ⟨_, rfl, _, _, _, _, rfl, rfl, SqT.of h1', atI_nat (j := 3) rfl, w, r, R, C, rfl, (hop hh).2, h3.mono (TK.of s1), ok.2.1, fun H2 v2 t2 s2 g2 e2 ok2 => ⟨(by show 4 ≤ sizeLine; decide), fun z hz => ?_⟩⟩
        refine q _ (.ref z) (.op s t1 t2) ((s1.trans s2).trans (same_new hz)) ⟨z, v1, v2, rfl, upd_same, g1.mono (TK.of (s2.trans (same_new hz))), g2.mono (TK.of (same_new hz))⟩ ?_ ⟨ok1, ok2, ok.2.2⟩
        show max t1.h t2.h + 1 = max l.h r.h + 1
        rw [e1, e2]
      | call m as =>
        obtain ⟨p, p2, vs, rfl, h1, h2, h3⟩ := ht
        refine ⟨_, rfl, _, _, _, _, rfl, rfl, SqT.of h1, atI_nat (j := 0) rfl, rfl, _, rfl, ifN w6.1 ⟨_, rfl, _, _, _, _, rfl, rfl, SqT.of h1, atI_nat (j := 0) rfl, rfl, _, rfl, ifN w6.2.1 ⟨_, rfl, _, _, _, _, rfl, rfl, SqT.of h1, atI_nat (j := 0) rfl, rfl, _, rfl, ifY ⟨Nat.zero_le _, fun L hL => ?_⟩⟩⟩⟩
        have sL := same_new (o := .lst []) hL
        have h1' := sL _ _ h1
        have h2' := sL _ _ h2
        have lv := h3.len
        have l3 : as.length ≤ 3 := ok.1
        refine ⟨_, rfl, _, _, _, _, rfl, rfl, SqT.of h1', atI_nat (j := 2) rfl, p2, rfl, ⟨vs, SqT.of h2'⟩, for_it (walk_tup (a := p2) (xs := vs)) (fun i σ H' => ∃ (k2 : Option V) (us : List V) (bs : List Ar), σ = [some (.ref p), some (.ref L), k2] ∧ Same H H' ∧ H' L = some (.lst us) ∧ Ars H' us bs ∧ bs.length = i ∧ ∀ a ∈ bs, a.ins R C) ⟨_, [], [], rfl, sL, upd_same, .nil, rfl, fun _ h => nomatch h⟩ (fun i σ H' _ ⟨_, _, _, _, s, _⟩ => SqT.of (s _ _ h2)) ?_ ?_⟩
        · rintro i x σ HX H1 hi ⟨k2, us, bs, rfl, s1, hL1, ar1, bl, bi⟩ ⟨rfl, hx⟩
          obtain ⟨a0, ha0, at0⟩ := h3.get i x hx
          have ains := ok.2.1 a0 (List.mem_of_getElem? ha0)
          have at1 := at0.mono (TK.of s1)
          have put : ∀ (H3 : Hp) (v3 : V) (a3 : Ar), Same H1 H3 → ArAt H3 v3 a3 → a3.ins R C → ∃ (k2 : Option V) (us' : List V) (bs' : List Ar), [some (V.ref p), some (.ref L), some v3] = [some (.ref p), some (.ref L), k2] ∧ Same H (upd H3 L (.lst (us ++ [v3]))) ∧ (upd H3 L (.lst (us ++ [v3]))) L = some (.lst us') ∧ Ars (upd H3 L (.lst (us ++ [v3]))) us' bs' ∧ bs'.length = i + 1 ∧ ∀ a ∈ bs', a.ins R C := fun H3 v3 a3 s3 g3 i3 => by
            refine ⟨_, us ++ [v3], bs ++ [a3], rfl, same_mut (s1.trans s3) hL, upd_same, ((ar1.mono (TK.of s3)).snoc g3).mono (TK.mut (s3 _ _ hL1)), by rw [List.length_append, bl]; rfl, fun x hx => ?_⟩
            rcases List.mem_append.mp hx with h | h
            · exact bi x h
            · rw [List.mem_singleton.mp h]
              exact i3
          have ul := ar1.len
          refine ⟨fun σ H' => ∃ (v3 : V) (a3 : Ar), σ = [some (.ref p), some (.ref L), some v3] ∧ Same H1 H' ∧ ArAt H' v3 a3 ∧ a3.ins R C, ?_, ?_⟩
          · cases a0 with
            | gone =>
              obtain ⟨q0, rfl, hq⟩ := id at1
              exact ⟨_, rfl, q0, _, _, _, rfl, rfl, SqT.of hq, atI_nat (j := 0) rfl, rfl, _, rfl, ifN w1.2.2.2.2 ⟨_, _, rfl, Same.refl _, at1, trivial⟩⟩
            | block a b c d =>
              obtain ⟨q0, rfl, hq⟩ := id at1
              exact ⟨_, rfl, q0, _, _, _, rfl, rfl, SqT.of hq, atI_nat (j := 0) rfl, rfl, _, rfl, ifN w7.2.2 ⟨_, _, rfl, Same.refl _, at1, ains⟩⟩
            | name w =>
              obtain ⟨q0, rfl, hq⟩ := id at1
              refine ⟨_, rfl, q0, _, _, _, rfl, rfl, SqT.of hq, atI_nat (j := 0) rfl, rfl, _, rfl, ifY ⟨(by show 4 ≤ sizeLine; decide), fun z hz => ?_⟩⟩
              have sz := same_new (o := .lst [.str "ab", .str "total", .str "goner", .str "mi"]) hz
              have k0 : 0 ≤ (w.1.length : Int) % 4 := Int.emod_nonneg _ (by decide)
              have k1 : (w.1.length : Int) % 4 < 4 := Int.emod_lt_of_pos _ (by decide)
              obtain ⟨kn, hk⟩ := Int.eq_ofNat_of_zero_le k0
              obtain ⟨w', hw', wl⟩ := fourW kn (by omega)
              refine ⟨_, rfl, q0, _, _, _, rfl, rfl, SqT.of (sz _ _ hq), atI_nat (j := 1) rfl, w.1, rfl, sz100 (Nat.le_trans ains (by decide)), .inl ⟨_, rfl, _, _, rfl, rfl, (by show (0 : Int) < 4; decide), z, _, _, _, rfl, rfl, SqL.of upd_same, by rw [hk]; exact atI_nat hw', (by show 2 ≤ sizeLine; decide), fun u hu => ?_⟩⟩
              exact ⟨_, .name w', rfl, sz.trans (same_new hu), ⟨u, rfl, upd_same⟩, wl⟩
          · rintro σ H3 ⟨v3, a3, rfl, s3, g3, i3⟩
            exact ⟨_, rfl, .inl ⟨rfl, _, SqL.of (s3 _ _ hL1)⟩, _, rfl, L, _, _, rfl, rfl, s3 _ _ hL1, sz100 (by have hi := hi; omega), put H3 v3 a3 s3 g3 i3⟩
        · rintro σ H1 ⟨k2, us, bs, rfl, s1, hL1, ar1, bl, bi⟩
          have h1'' := s1 _ _ h1
          refine ⟨_, rfl, _, _, _, _, rfl, rfl, SqT.of h1'', atI_nat (j := 1) rfl, _, rfl, L, us, rfl, .inl ⟨SqL.of hL1, fun y hy => ⟨(by show 3 ≤ sizeLine; decide), fun z hz => ?_⟩⟩⟩
          have sy := same_new (o := .tup us) hy
          have sz := same_new (o := .tup [.str "call", .str m, .ref y]) hz
          exact q _ (.ref z) (.call m bs) ((s1.trans sy).trans sz) ⟨z, y, us, rfl, upd_same, sz _ _ upd_same, ar1.mono (TK.of (sy.trans sz))⟩ rfl ⟨by show bs.length ≤ 3; omega, bi, ok.2.2⟩
def OkC (R C : Int) : Ct → Prop
  | .form t => t.okR R C ∧ t.h < 5
  | .num x y => Fl x y
  | _ => True
def spContent (K : PySem.W.Frag) : Sp := fun vs H Q _ => ∃ (b : Addr) (R C : Int) (d : Nat), vs = [.ref b, .int R, .int C, .int (d : Int)] ∧ RC R C ∧ d ≤ 4 ∧ Box H b ∧ ∀ (v : V) (c : Ct) (H' : Hp), Box H' b → Kp b H H' → Dt H' v (ctD c) → OkC R C c → c ≠ .blank → Q v H'
theorem textsW : ∀ k : Nat, k < 4 → ∃ w : OkS, [V.str "x", .str "tea", .str "0x", .str "a b"][k]? = some (.str w.1)
  | 0, _ => ⟨⟨"x", by decide +kernel⟩, rfl⟩
  | 1, _ => ⟨⟨"tea", by decide +kernel⟩, rfl⟩
  | 2, _ => ⟨⟨"0x", by decide +kernel⟩, rfl⟩
  | 3, _ => ⟨⟨"a b", by decide +kernel⟩, rfl⟩
theorem densW : ∀ k : Nat, k < 5 → ∃ n : Int, [V.int 1, .int 2, .int 4, .int 5, .int 8][k]? = some (.int n) ∧ 0 < n ∧ n ≤ 8
  | 0, _ => ⟨1, rfl, by decide, by decide⟩
  | 1, _ => ⟨2, rfl, by decide, by decide⟩
  | 2, _ => ⟨4, rfl, by decide, by decide⟩
  | 3, _ => ⟨5, rfl, by decide, by decide⟩
  | 4, _ => ⟨8, rfl, by decide, by decide⟩
theorem okLawContent (T : Txt K mg) : FnOk P w K mg base CX0 12 T.fLawContent T.fdLawContent ["box", "rows", "columns", "depth"] (spContent K) := by
  refine T.FLawContent.ok scLawContent (fun vs H Q E h => ?_) (fun cdv A outer s H vs Q E hr h => ?_)
  · obtain ⟨b, R, C, d, rfl, _⟩ := h
    rfl
  · obtain ⟨b, R, C, d, rfl, rc, hd, B, q⟩ := h
    -- slots box=0 rows=1 columns=2 depth=3 kind=4
    refine ⟨_, (pss_cons (ps_set (i := 4) scLawContent.nd rfl (Or.inl rfl) (pe_call (okLawDraw T) (hr.mono (by decide)) (by rfl) T.gLawDraw T.FLawDraw.kp T.bLawDraw .nil pass0 (pa_cons (pv 0) (pa_cons pe_int pa_nil))))
        (pss_cons (ps_if (pt_cmpR op_eq (pv 4) pe_int (nomark _))
          (pss_one (ps_ret (pe_tup (pa_cons pe_str (pa_cons (pe_ix ix_list (pe_lst (pa_cons pe_str (pa_cons pe_str (pa_cons pe_str (pa_cons pe_str pa_nil))))) (pe_call (okLawDraw T) (hr.mono (by decide)) (by rfl) T.gLawDraw T.FLawDraw.kp T.bLawDraw .nil pass0 (pa_cons (pv 0) (pa_cons pe_int pa_nil))) (fun _ _ => rfl)) pa_nil)))))
          pss_nil)
        (pss_cons (ps_if (pt_cmpR op_eq (pv 4) pe_int (nomark _))
          (pss_one (ps_ret (pe_tup (pa_cons pe_str (pa_cons (pe_call (okLawLowest T) (hr.mono (by decide)) (by rfl) T.gLawLowest T.FLawLowest.kp T.bLawLowest .nil pass0 (pa_cons (pe_op op_sub (pe_call (okLawDraw T) (hr.mono (by decide)) (by rfl) T.gLawDraw T.FLawDraw.kp T.bLawDraw .nil pass0 (pa_cons (pv 0) (pa_cons pe_int pa_nil))) pe_int) (pa_cons (pe_ix ix_list (pe_lst (pa_cons pe_int (pa_cons pe_int (pa_cons pe_int (pa_cons pe_int (pa_cons pe_int pa_nil)))))) (pe_call (okLawDraw T) (hr.mono (by decide)) (by rfl) T.gLawDraw T.FLawDraw.kp T.bLawDraw .nil pass0 (pa_cons (pv 0) (pa_cons pe_int pa_nil))) (fun _ _ => rfl)) pa_nil))) pa_nil)))))
          pss_nil)
        (pss_one (ps_ret (pe_tup (pa_cons pe_str (pa_cons (pe_call (okLawNear T 5) (hr.mono (by decide)) (by rfl) T.gLawNear T.FLawNear.kp T.bLawNear .nil pass0 (pa_cons (pe_ix ix_list (pe_call (okLawNode T 5) (hr.mono (by decide)) (by rfl) T.gLawNode T.FLawNode.kp T.bLawNode .nil pass0 (pa_cons (pv 0) (pa_cons (pv 1) (pa_cons (pv 2) (pa_cons (pv 3) pa_nil))))) pe_int (fun _ _ => rfl)) pa_nil)) pa_nil)))))))), ?_⟩
    refine ⟨_, rfl, b, 6, rfl, by decide, B, fun kd H1 _ _ B1 k1 => ⟨_, rfl, rfl, _, rfl, ite2 (fun _ => ?_) (fun _ => ⟨_, rfl, rfl, _, rfl, ite2 (fun _ => ?_) (fun _ => ?_)⟩)⟩⟩
    · refine ⟨(by show 4 ≤ sizeLine; decide), fun z hz => ⟨_, rfl, b, 4, rfl, by decide, B1.same (same_new hz), fun k H2 k0 k4 B2 k2 => ?_⟩⟩
      obtain ⟨kn, rfl⟩ := Int.eq_ofNat_of_zero_le k0
      obtain ⟨w, hw⟩ := textsW kn (by omega)
      refine ⟨z, _, _, _, rfl, rfl, SqL.of (k2 _ _ (box_ne B1 hz) upd_same), atI_nat hw, (by show 2 ≤ sizeLine; decide), fun u hu => ?_⟩
      exact q _ (.text w) _ (B2.same (same_new hu)) (((k1.trans (Kp.of (same_new hz))).trans k2).trans (Kp.of (same_new hu))) (.tup upd_same (.cons (.str _) (.cons (.str _) .nil))) trivial (fun e => nomatch e)
    · refine ⟨_, rfl, b, 40, rfl, by decide, B1, fun x H2 x0 x1 B2 k2 => ⟨_, _, rfl, rfl, (by show 5 ≤ sizeLine; decide), fun z hz => ⟨_, rfl, b, 5, rfl, by decide, B2.same (same_new hz), fun k H3 y0 y1 B3 k3 => ?_⟩⟩⟩
      obtain ⟨kn, rfl⟩ := Int.eq_ofNat_of_zero_le y0
      obtain ⟨dn, hw, d0, d1⟩ := densW kn (by omega)
      refine ⟨z, _, _, _, rfl, rfl, SqL.of (k3 _ _ (box_ne B2 hz) upd_same), atI_nat hw, _, dn, rfl, by omega, ?_, ?_, fun p x' y' hp lw => ⟨(by show 2 ≤ sizeLine; decide), fun u hu => ?_⟩⟩
      · exact Nat.lt_of_lt_of_le (show (x - 20).natAbs < 100 by omega) (by decide)
      · exact Nat.lt_of_lt_of_le (show dn.natAbs < 100 by omega) (by decide)
      · exact q _ (.num x' y') _ ((B3.same (same_new hp)).same (same_new hu)) ((((k1.trans k2).trans (Kp.of (same_new hz))).trans k3).trans (Kp.of ((same_new hp).trans (same_new hu)))) (.tup upd_same (.cons (.str _) (.cons (.tup ((same_new hu) _ _ upd_same) (.cons (.int _) (.cons (.int _) .nil))) .nil))) (by have h1 := lw.lx; have h2 := lw.ly; exact ⟨⟨by omega, by omega, lw.pos, by omega⟩, lw.cop⟩) (fun e => nomatch e)
    · refine ⟨_, rfl, _, rfl, _, rfl, _, rfl, b, d, R, C, rfl, rc, by omega, by omega, B1, fun l t H2 B2 k2 ⟨v, tl, ts, k, h1, h2, _, ht, _, _⟩ hh ok => ?_⟩
      refine ⟨l, _, _, _, rfl, rfl, SqL.of h1, atI_nat (j := 0) rfl, v, t, R, C, rfl, by omega, ht, ok, fun H3 v' t' s3 ht' e' ok' => ⟨(by show 2 ≤ sizeLine; decide), fun u hu => ?_⟩⟩
      have s4 := same_new (o := .tup [.str "formula", v']) hu
      exact q _ (.form t') _ ((B2.same s3).same s4) ((k1.trans k2).trans (Kp.of (s3.trans s4))) (.tup upd_same (.cons (.str _) (.cons (ht'.mono (TK.of s4)).dt .nil))) ⟨ok', by omega⟩ (fun e => nomatch e)
/-! ### the names of the world -/
theorem kp_rm {b : Addr} {H H' : Hp} (k : Kp b H H') : Same (rmS [b] H) (rmS [b] H') := fun a o e => by
  obtain ⟨n, e⟩ := rmS_some e
  rw [rmS_of n]
  exact k _ _ (fun z => n (List.mem_singleton.mpr z)) e
theorem Box.ls {b : Addr} {H : Hp} (B : Box H b) : Ls [b] H := fun x hx => by
  obtain ⟨d, ds, i, h1, _⟩ := B
  rw [List.mem_singleton.mp hx]
  exact ⟨_, h1⟩
theorem box_new {H0 H : Hp} {b L : Addr} {o : HO} (k : Kp b H0 H) (B0 : Box H0 b) (B : Box H b) (hL : H0 L = none) : Box (upd H L o) b := by
  obtain ⟨d, ds, i, h1, h2, h3⟩ := B0
  obtain ⟨d', ds', i', g1, g2, g3⟩ := B
  obtain ⟨j', e⟩ := k.d _ _ h1
  rw [g1] at e
  have ed : d' = d := V.ref.inj (List.cons.inj (HO.lst.inj (Option.some.inj e))).1
  have n1 : L ≠ b := fun z => by
    rw [z, h1] at hL
    cases hL
  have n2 : L ≠ d' := fun z => by
    rw [z, ed, h2] at hL
    cases hL
  exact ⟨d', ds', i', by rw [upd_ne n1.symm]; exact g1, by rw [upd_ne n2.symm]; exact g2, g3⟩
def wordsN : List Str := ["ab", "total", "goner", "mi"]
theorem wordsN_nd : wordsN.Nodup := by decide +kernel
theorem wnew {i : Nat} {w : Str} (h : wordsN[i]? = some w) : w ∉ wordsN.take i := fun z => by
  obtain ⟨j, hj⟩ := List.mem_iff_getElem?.mp z
  have hij : j < i := by
    have := (List.getElem?_eq_some_iff.mp hj).1
    rw [List.length_take] at this
    omega
  rw [List.getElem?_take_of_lt hij] at hj
  obtain ⟨g1, g2⟩ := List.getElem?_eq_some_iff.mp hj
  obtain ⟨g3, g4⟩ := List.getElem?_eq_some_iff.mp h
  exact List.pairwise_iff_getElem.mp wordsN_nd j i g1 g3 hij (g2.trans g4.symm)
/-- the areas of one name -/
def OkAs (R C : Int) (as : List Ar) : Prop := as.length ≤ 3 ∧ ∀ a ∈ as, a.ins R C ∧ ∀ w, a ≠ .name w
structure NmOk (R C : Int) (ws : List Str) (N : NA) : Prop where
  nd : (N.map Prod.fst).Nodup
  kw : ∀ e ∈ N, e.1 ∈ ws
  ar : ∀ e ∈ N, ∀ as, e.2 = some as → OkAs R C as
theorem NmOk.snoc {R C : Int} {ws : List Str} {N : NA} {w : Str} {d : Option (List Ar)} (h : NmOk R C ws N) (n : w ∉ ws) (hd : ∀ as, d = some as → OkAs R C as) : NmOk R C (ws ++ [w]) (N ++ [(w, d)]) := by
  refine ⟨?_, fun e he => ?_, fun e he => ?_⟩
  · rw [List.map_append, List.nodup_append]
    refine ⟨h.nd, by simp, fun a ha b hb z => ?_⟩
    have hb : b = w := by simpa using hb
    obtain ⟨e, he, e1⟩ := List.mem_map.mp ha
    exact n (by rw [← hb, ← z, ← e1]; exact h.kw e he)
  · rcases List.mem_append.mp he with he | he
    · exact List.mem_append_left _ (h.kw e he)
    · rw [List.mem_singleton.mp he]
      exact List.mem_append_right _ (List.mem_singleton.mpr rfl)
  · rcases List.mem_append.mp he with he | he
    · exact h.ar e he
    · rw [List.mem_singleton.mp he]
      exact hd
theorem NmOk.more {R C : Int} {ws ws' : List Str} {N : NA} (h : NmOk R C ws N) (m : ∀ w ∈ ws, w ∈ ws') : NmOk R C ws' N := ⟨h.nd, fun e he => m _ (h.kw e he), h.ar⟩
theorem nmA_snoc (N : NA) (w : Str) (d : Option (List Ar)) : nmA (N ++ [(w, d)]) = nmA N ++ [(w, d.map fun as => as.map arD)] := by
  unfold nmA
  rw [List.map_append]
  rfl
theorem nmA_keys (N : NA) : (nmA N).map Prod.fst = N.map Prod.fst := by
  unfold nmA
  rw [List.map_map]
  rfl
def spNames (K : PySem.W.Frag) : Sp := fun vs H Q _ => ∃ (b : Addr) (R C : Int), vs = [.ref b, .int R, .int C] ∧ RC R C ∧ Box H b ∧
  ∀ (nd : Addr) (N : NA) (nvs : List (Key × V)) (H' : Hp), Box H' b → Kp b H H' → H nd = none → nd ≠ b → H' nd = some (.dK nvs) → Ents keyW (NAt K (rmS [b] H')) nvs (nmA N) → nvs.length ≤ 4 → NmOk R C wordsN N → Q (.ref nd) H'
theorem Ars.dtr {H : Hp} {vs : List V} {as : List Ar} {S : List Addr} (l : Ls S H) (h : Ars H vs as) : DtAll (rmS S H) vs (as.map arD) := h.dt.tt l.tt
theorem okLawNames (T : Txt K mg) : FnOk P w K mg base CX0 4 T.fLawNames T.fdLawNames ["box", "rows", "columns"] (spNames K) := by
  refine T.FLawNames.ok scLawNames (fun vs H Q E h => ?_) (fun cdv A outer s H vs Q E hr h => ?_)
  · obtain ⟨b, R, C, rfl, _⟩ := h
    rfl
  · obtain ⟨b, R, C, rfl, rc, B, q⟩ := h
    -- slots box=0 rows=1 columns=2 names=3 word=4 kind=5 areas=6 k=7 area=8
    refine ⟨_, (pss_cons (ps_set (i := 3) scLawNames.nd rfl (Or.inl rfl) pe_dnewK)
        (pss_cons (ps_for PassesOwn.never rfl (pi_list (pe_lst (pa_cons pe_str (pa_cons pe_str (pa_cons pe_str (pa_cons pe_str pa_nil)))))) (pg_name (i := 4) scLawNames.nd rfl (Or.inl rfl))
          (pss_cons (ps_set (i := 5) scLawNames.nd rfl (Or.inl rfl) (pe_call (okLawDraw T) (hr.mono (by decide)) (by rfl) T.gLawDraw T.FLawDraw.kp T.bLawDraw .nil pass0 (pa_cons (pv 0) (pa_cons pe_int pa_nil))))
          (pss_cons (ps_if (pt_cmpR op_eq (pv 5) pe_int (nomark _))
            (pss_one (ps_dput (units2 hr) (pv 3) (pv 4) pe_non rfl))
            pss_nil)
          (pss_one (ps_if (pt_cmpR op_in_seq (pv 5) (pe_lst (pa_cons pe_int (pa_cons pe_int pa_nil))) rfl)
            (pss_cons (ps_set (i := 6) scLawNames.nd rfl (Or.inl rfl) (pe_lst pa_nil))
            (pss_cons (ps_for PassesOwn.never rfl (pi_range1 rfl T.z_range (pa_cons (pe_op op_add pe_int (pe_call (okLawDraw T) (hr.mono (by decide)) (by rfl) T.gLawDraw T.FLawDraw.kp T.bLawDraw .nil pass0 (pa_cons (pv 0) (pa_cons pe_int pa_nil)))) pa_nil)) (pg_name (i := 7) scLawNames.nd rfl (Or.inl rfl))
              (pss_cons (ps_set (i := 8) scLawNames.nd rfl (Or.inl rfl) (pe_ix ix_list (pe_call (okLawArea T) (hr.mono (by decide)) (by rfl) T.gLawArea T.FLawArea.kp T.bLawArea .nil pass0 (pa_cons (pv 0) (pa_cons (pv 1) (pa_cons (pv 2) pa_nil)))) pe_int (fun _ _ => rfl)))
              (pss_one (ps_if (pt_cmpR op_ne (pe_ix ix_tup (pv 8) pe_int (fun _ _ => rfl)) pe_str (nomark _))
                (pss_one (ps_expr (pe_bm PySem.F.plainAttrs_list PySem.F.slot_list_append PySem.F.type_list_append mt_append (pv 6) (pa_cons (pv 8) pa_nil))))
                pss_nil))))
            (pss_one (ps_dput (units2 hr) (pv 3) (pv 4) (pe_op op_cat (pv 6) (pe_op op_rep (pe_lst (pa_cons (pe_tup (pa_cons pe_str pa_nil)) pa_nil)) (pe_callTy call_int1 (by rfl) T.z_int (by decide +kernel) (pa_cons (pe_cmpR op_eq (pe_callB call_len_seq (by rfl) T.z_len PySem.boot_len (pa_cons (pv 6) pa_nil)) pe_int (nomark _)) pa_nil)))) rfl))))
            pss_nil)))))
        (pss_one (ps_ret (pv 3))))), ?_⟩
    refine fun nd hnd => ⟨(by show 4 ≤ sizeLine; decide), fun lw hlw => ?_⟩
    have nb : nd ≠ b := box_ne B hnd
    have s1 := same_new (o := .dK []) hnd
    have nlb : lw ≠ b := box_ne (B.same s1) hlw
    have nln : lw ≠ nd := fun z => by
      rw [z, upd_same] at hlw
      cases hlw
    have s2 := same_new (o := .lst [.str "ab", .str "total", .str "goner", .str "mi"]) hlw
    have hlw2 : (upd (upd H nd (.dK [])) lw (.lst [.str "ab", .str "total", .str "goner", .str "mi"])) lw = some (.lst [.str "ab", .str "total", .str "goner", .str "mi"]) := upd_same
    have hnd2 := s2 _ _ (show (upd H nd (.dK [])) nd = some (.dK []) from upd_same)
    refine ⟨lw, rfl, ⟨_, SqL.of hlw2⟩, for_it (walk_list (a := lw) (xs := wordsN.map V.str)) (fun i σ H' => ∃ (k4 k5 k6 k7 k8 : Option V) (N : NA) (nvs : List (Key × V)), σ = [some (.ref b), some (.int R), some (.int C), some (.ref nd), k4, k5, k6, k7, k8] ∧ Box H' b ∧ Kp b H H' ∧ H' lw = some (.lst (wordsN.map V.str)) ∧ H' nd = some (.dK nvs) ∧ Ents keyW (NAt K (rmS [b] H')) nvs (nmA N) ∧ nvs.length ≤ i ∧ NmOk R C (wordsN.take i) N)
      ⟨_, _, _, _, _, [], [], rfl, B.same (s1.trans s2), Kp.of (s1.trans s2), hlw2, hnd2, RepP.nil, Nat.zero_le _, ⟨List.nodup_nil, (fun _ h => nomatch h), (fun _ h => nomatch h)⟩⟩ (fun i σ H' _ ⟨_, _, _, _, _, _, _, _, _, _, hl, _⟩ => SqL.of hl) ?_ ?_⟩
    · rintro i x σ HX H3 hi ⟨k4, k5, k6, k7, k8, N, nvs, rfl, B3, kp3, hl3, hn3, en3, nl3, ok3⟩ ⟨rfl, hx⟩
      have hi : i < 4 := hi
      rw [List.getElem?_map] at hx
      obtain ⟨w, hw, rfl⟩ := Option.map_eq_some_iff.mp hx
      have wn := wnew hw
      have tk : wordsN.take (i + 1) = wordsN.take i ++ [w] := by
        rw [List.take_add_one, hw]
        rfl
      have gn : ∀ e ∈ nmA N, e.1 ≠ w := fun e he z => by
        have : e.1 ∈ (nmA N).map Prod.fst := List.mem_map.mpr ⟨e, he, rfl⟩
        rw [nmA_keys] at this
        obtain ⟨e2, he2, z2⟩ := List.mem_map.mp this
        exact wn (by rw [← z, ← z2]; exact ok3.kw e2 he2)
      have put : ∀ (J : Hp) (k5 k6 k7 k8 : Option V) (v : V) (d : Option (List Ar)), Box J b → Kp b H3 J → NAt K (rmS [b] J) v (d.map fun as => as.map arD) → (∀ as, d = some as → OkAs R C as) →
          ∃ (k4' k5' k6' k7' k8' : Option V) (N' : NA) (nvs' : List (Key × V)), [some (V.ref b), some (.int R), some (.int C), some (.ref nd), some (.str w), k5, k6, k7, k8] = [some (.ref b), some (.int R), some (.int C), some (.ref nd), k4', k5', k6', k7', k8'] ∧ Box (upd J nd (.dK (putK nvs (keyW w) v))) b ∧ Kp b H (upd J nd (.dK (putK nvs (keyW w) v))) ∧ (upd J nd (.dK (putK nvs (keyW w) v))) lw = some (.lst (wordsN.map V.str)) ∧ (upd J nd (.dK (putK nvs (keyW w) v))) nd = some (.dK nvs') ∧ Ents keyW (NAt K (rmS [b] (upd J nd (.dK (putK nvs (keyW w) v))))) nvs' (nmA N') ∧ nvs'.length ≤ i + 1 ∧ NmOk R C (wordsN.take (i + 1)) N' := fun J k5 k6 k7 k8 v d BJ kJ hv hd => by
        have hJ := kJ _ _ nb hn3
        have nS : nd ∉ [b] := fun z => nb (List.mem_singleton.mp z)
        have hJr : (rmS [b] J) nd = some (.dK nvs) := (rmS_of nS).trans hJ
        have kd : KD (rmS [b] J) (rmS [b] (upd J nd (.dK (putK nvs (keyW w) v)))) := by
          rw [rmS_upd nS]
          exact KD.put hJr rfl
        have e1 := ents_put (fun _ _ => keyW_inj) (k := w) (entsN_kd (KD.of (kp_rm kJ)) en3) hv
        rw [putE_new gn, ← nmA_snoc] at e1
        refine ⟨_, _, _, _, _, N ++ [(w, d)], _, rfl, ?_, kp_mut (kp3.trans kJ) hnd nb, ?_, upd_same, entsN_kd kd e1, ?_, ?_⟩
        · exact box_new (kp3.trans kJ) B BJ hnd
        · rw [upd_ne nln]
          exact kJ _ _ nlb hl3
        · have := putK_len nvs (keyW w) v
          omega
        · rw [tk]
          exact ok3.snoc wn hd
      have skip : ∀ (J : Hp) (k5 k6 k7 k8 : Option V), Box J b → Kp b H3 J →
          ∃ (k4' k5' k6' k7' k8' : Option V) (N' : NA) (nvs' : List (Key × V)), [some (V.ref b), some (.int R), some (.int C), some (.ref nd), some (.str w), k5, k6, k7, k8] = [some (.ref b), some (.int R), some (.int C), some (.ref nd), k4', k5', k6', k7', k8'] ∧ Box J b ∧ Kp b H J ∧ J lw = some (.lst (wordsN.map V.str)) ∧ J nd = some (.dK nvs') ∧ Ents keyW (NAt K (rmS [b] J)) nvs' (nmA N') ∧ nvs'.length ≤ i + 1 ∧ NmOk R C (wordsN.take (i + 1)) N' := fun J k5 k6 k7 k8 BJ kJ => by
        refine ⟨_, _, _, _, _, N, nvs, rfl, BJ, kp3.trans kJ, kJ _ _ nlb hl3, kJ _ _ nb hn3, entsN_kd (KD.of (kp_rm kJ)) en3, Nat.le_succ_of_le nl3, ?_⟩
        rw [tk]
        exact ok3.more fun x hx => List.mem_append_left _ hx
      refine ⟨_, rfl, b, 5, rfl, by decide, B3, fun kd H5 _ _ B5 kp5 => ?_⟩
      refine ⟨_, rfl, rfl, _, rfl, ite2 (fun z => ?_) (fun _ => ?_)⟩
      · obtain rfl : kd = 0 := V.int.inj (of_decide_eq_true z)
        have hn5 := kp5 _ _ nb hn3
        refine ⟨_, rfl, _, rfl, nd, _, rfl, DPut.k (k := keyW w) hn5 (small1000 (by omega)), ?_⟩
        have kk : Kp b H3 H5 := kp5
        have P := put H5 (some (.int 0)) k6 k7 k8 .non none B5 kp5 rfl (fun _ h => nomatch h)
        generalize upd H5 nd (.dK (putK nvs (keyW w) .non)) = H6 at P
        obtain ⟨k4', k5', k6', k7', k8', N', nvs', e, B6, kp6, hl6, hn6, en6, nl6, ok6⟩ := P
        refine ⟨_, rfl, (by show 2 ≤ sizeLine; decide), fun ll hll => ⟨ll, [.int 1, .int 2], rfl, .inl (SqL.of upd_same), rfl, rfl, _, rfl, iteF ?_⟩⟩
        have sl := same_new (o := .lst [.int 1, .int 2]) hll
        exact ⟨k4', k5', k6', k7', k8', N', nvs', e, B6.same sl, kp6.trans (Kp.of sl), sl _ _ hl6, sl _ _ hn6, entsN_kd (KD.of (rmS_same sl)) en6, nl6, ok6⟩
      · refine ⟨_, rfl, (by show 2 ≤ sizeLine; decide), fun ll hll => ⟨ll, [.int 1, .int 2], rfl, .inl (SqL.of upd_same), rfl, rfl, _, rfl, ?_⟩⟩
        have sl := same_new (o := .lst [.int 1, .int 2]) hll
        have B6 := B5.same sl
        have kp6 := kp5.trans (Kp.of sl)
        generalize upd H5 ll (.lst [.int 1, .int 2]) = H6 at B6 kp6
        refine ite2 (fun _ => ?_) (fun _ => skip H6 _ _ _ _ B6 kp6)
        refine ⟨Nat.zero_le _, fun ad had => ?_⟩
        have nab : ad ≠ b := box_ne B6 had
        have sa := same_new (o := .lst []) had
        have ha6 : (upd H6 ad (.lst [])) ad = some (.lst []) := upd_same
        refine ⟨_, rfl, b, 3, rfl, by decide, B6.same sa, fun x H7 x0 x1 B7 kp7 => ?_⟩
        have k67 := (Kp.of sa).trans kp7
        refine ⟨_, _, rfl, rfl, 1 + x, rfl, by omega, by omega, for_range (lo := 0) (n := (1 + x).toNat) (fun j σ H' => ∃ (k7 k8 : Option V) (xs : List V) (as : List Ar), σ = [some (.ref b), some (.int R), some (.int C), some (.ref nd), some (.str w), some (.int kd), some (.ref ad), k7, k8] ∧ Box H' b ∧ Kp b H6 H' ∧ H' ad = some (.lst xs) ∧ Ars H' xs as ∧ as.length ≤ j ∧ ∀ a ∈ as, a.ins R C ∧ ∀ w, a ≠ .name w) ⟨_, _, [], [], rfl, B7, k67, kp7 _ _ nab ha6, .nil, Nat.le_refl _, fun _ h => nomatch h⟩ ?_ ?_⟩
        · rintro j σ H8 hj ⟨k7, k8, xs, as, rfl, B8, k8p, ha8, ar8, al8, ai8⟩
          refine ⟨_, rfl, _, rfl, _, rfl, b, R, C, rfl, rc, B8, fun l a H9 B9 k9 ⟨v, tl, ts, e1, e2, e3, e4, e5, e6⟩ ains => ?_⟩
          refine ⟨l, _, _, _, rfl, rfl, SqL.of e1, atI_nat (j := 0) rfl, ?_⟩
          have ha9 := k9 _ _ nab ha8
          have ar9 := ar8.mono (TK.kp k9 B8)
          have xl := ar9.len
          have app : (∀ w, a ≠ .name w) → ∃ (k7 k8 : Option V) (xs' : List V) (as' : List Ar), [some (V.ref b), some (.int R), some (.int C), some (.ref nd), some (.str w), some (.int kd), some (.ref ad), some (.int (0 + (j : Int))), some v] = [some (.ref b), some (.int R), some (.int C), some (.ref nd), some (.str w), some (.int kd), some (.ref ad), k7, k8] ∧ Box (upd H9 ad (.lst (xs ++ [v]))) b ∧ Kp b H6 (upd H9 ad (.lst (xs ++ [v]))) ∧ (upd H9 ad (.lst (xs ++ [v]))) ad = some (.lst xs') ∧ Ars (upd H9 ad (.lst (xs ++ [v]))) xs' as' ∧ as'.length ≤ j + 1 ∧ ∀ a ∈ as', a.ins R C ∧ ∀ w, a ≠ .name w := fun na => by
            refine ⟨_, _, xs ++ [v], as ++ [a], rfl, box_new (k8p.trans k9) B6 B9 had, kp_mut (k8p.trans k9) had nab, upd_same, (ar9.snoc e4).mono (TK.mut ha9), by rw [List.length_append]; exact Nat.add_le_add_right al8 1, fun y hy => ?_⟩
            rcases List.mem_append.mp hy with h | h
            · exact ai8 y h
            · rw [List.mem_singleton.mp h]
              exact ⟨ains, na⟩
          cases a with
          | gone =>
            obtain ⟨q0, rfl, hq⟩ := id e4
            exact ⟨_, rfl, q0, _, _, _, rfl, rfl, SqT.of hq, atI_nat (j := 0) rfl, rfl, _, rfl, ifNe w1.2.2.2.2 ⟨_, rfl, .inl ⟨rfl, _, SqL.of ha9⟩, _, rfl, ad, _, _, rfl, rfl, ha9, sz100 (by omega), app (fun w z => nomatch z)⟩⟩
          | block t l b r =>
            obtain ⟨q0, rfl, hq⟩ := id e4
            exact ⟨_, rfl, q0, _, _, _, rfl, rfl, SqT.of hq, atI_nat (j := 0) rfl, rfl, _, rfl, ifNe w7.2.2 ⟨_, rfl, .inl ⟨rfl, _, SqL.of ha9⟩, _, rfl, ad, _, _, rfl, rfl, ha9, sz100 (by omega), app (fun w z => nomatch z)⟩⟩
          | name w2 =>
            obtain ⟨q0, rfl, hq⟩ := id e4
            exact ⟨_, rfl, q0, _, _, _, rfl, rfl, SqT.of hq, atI_nat (j := 0) rfl, rfl, _, rfl, ifNeY ⟨_, _, xs, as, rfl, B9, k8p.trans k9, ha9, ar9, Nat.le_succ_of_le al8, ai8⟩⟩
        · rintro σ H8 ⟨k7, k8, xs, as, rfl, B8, k8p, ha8, ar8, al8, ai8⟩
          have xl := ar8.len
          refine ⟨_, rfl, (by show 1 ≤ sizeLine; decide), fun u hu => ⟨(by show 1 ≤ sizeLine; decide), fun z hz => ?_⟩⟩
          have su := same_new (o := .tup [.str "gone"]) hu
          have szz := same_new (o := .lst [.ref u]) hz
          have s8 := su.trans szz
          refine ⟨_, rfl, ad, xs, rfl, .inl (SqL.of (s8 _ _ ha8)), rfl, .inr ⟨_, rfl, ?_⟩⟩
          have hk : ∃ m : Nat, (if (decide (V.int (xs.length : Int) = V.int 0)) then (1 : Int) else 0) = (m : Int) ∧ m ≤ 1 ∧ (xs.length + m ≤ 3) := by
            by_cases c : xs.length = 0
            · exact ⟨1, by rw [c]; rfl, Nat.le_refl _, by omega⟩
            · refine ⟨0, ?_, by omega, by omega⟩
              rw [if_neg]
              · rfl
              · intro h
                have := V.int.inj (of_decide_eq_true h)
                omega
          obtain ⟨m, hm, m1, m3⟩ := hk
          refine ⟨z, _, [.ref u], rfl, rfl, upd_same, ?_, ?_, ?_, fun p hp => ?_⟩
          · rw [hm]
            omega
          · rw [hm]
            omega
          · rw [hm]
            show 1 * m ≤ sizeLine
            exact sz100 (by omega)
          rw [hm, Int.toNat_natCast] at *
          have sp := same_new (o := .lst (List.replicate m [V.ref u]).flatten) hp
          have sA := s8.trans sp
          have rl : ∀ m : Nat, ((List.replicate m [V.ref u]).flatten).length = m := fun m => by simp
          refine ⟨ad, p, _, _, rfl, rfl, sA _ _ ha8, upd_same, sz100 (by rw [rl]; omega), fun y hy => ?_⟩
          have sy := same_new (o := .lst (xs ++ (List.replicate m [V.ref u]).flatten)) hy
          have sB := sA.trans sy
          have hgu : ArAt (upd (upd (upd (upd H8 u (.tup [.str "gone"])) z (.lst [.ref u])) p (.lst (List.replicate m [V.ref u]).flatten)) y (.lst (xs ++ (List.replicate m [V.ref u]).flatten))) (.ref u) .gone := ⟨u, rfl, ((szz.trans sp).trans sy) _ _ upd_same⟩
          have nyb : y ≠ b := box_ne (((B8.same su).same szz).same sp) hy
          have hyJ : (upd (upd (upd (upd H8 u (.tup [.str "gone"])) z (.lst [.ref u])) p (.lst (List.replicate m [V.ref u]).flatten)) y (.lst (xs ++ (List.replicate m [V.ref u]).flatten))) y = some (.lst (xs ++ (List.replicate m [V.ref u]).flatten)) := upd_same
          generalize upd (upd (upd (upd H8 u (.tup [.str "gone"])) z (.lst [.ref u])) p (.lst (List.replicate m [V.ref u]).flatten)) y (.lst (xs ++ (List.replicate m [V.ref u]).flatten)) = J at sB hgu hyJ
          have arm : ∀ m : Nat, Ars J ((List.replicate m [V.ref u]).flatten) (List.replicate m .gone) := fun m => by
            induction m with
            | zero => exact .nil
            | succ m ih =>
              rw [List.replicate_succ, List.replicate_succ, List.flatten_cons]
              exact .cons hgu ih
          have BJ := B8.same sB
          have kJ := (kp6.trans k8p).trans (Kp.of sB)
          have hnJ := kJ _ _ nb hn3
          have la : NAt K (rmS [b] J) (.ref y) ((some (as ++ List.replicate m Ar.gone)).map fun as => as.map arD) := ⟨y, _, rfl, (rmS_of fun z => nyb (List.mem_singleton.mp z)).trans hyJ, (Ars.app (arm m) (ar8.mono (TK.of sB))).dtr BJ.ls⟩
          refine ⟨_, rfl, _, rfl, nd, _, rfl, DPut.k (k := keyW w) hnJ (small1000 (by omega)), ?_⟩
          refine put J _ _ _ _ (.ref y) (some (as ++ List.replicate m Ar.gone)) BJ kJ la fun as' e => ?_
          obtain rfl := Option.some.inj e
          refine ⟨by rw [List.length_append, List.length_replicate]; omega, fun a ha => ?_⟩
          rcases List.mem_append.mp ha with h | h
          · exact ai8 a h
          · rw [(List.mem_replicate.mp h).2]
            exact ⟨trivial, fun w z => nomatch z⟩
    · rintro σ H5 ⟨k4, k5, k6, k7, k8, N, nvs, rfl, B5, kp5, hl5, hn5, en5, nl5, ok5⟩
      exact ⟨_, rfl, q nd N nvs H5 B5 kp5 hnd nb hn5 en5 nl5 (ok5.more fun x hx => List.mem_of_mem_take hx)⟩
/-! ### the world -/
theorem cdW_snoc (W : WC) (z : Int × Int) (cs : List Ct) : cdW (W ++ [(z, cs)]) = cdW W ++ [(z, cs.map ctD)] := by
  unfold cdW
  rw [List.map_append]
  rfl
theorem cdW_keys (W : WC) : (cdW W).map Prod.fst = W.map Prod.fst := by
  unfold cdW
  rw [List.map_map]
  rfl
theorem td_setC {K : PySem.W.Frag} {H : Hp} {cd nd : Addr} {cells cells' : Cells} {names : Names} {kvs' : List (List Key × V)} (D : TD K H cd nd cells names) (n : cd ≠ nd) (e : Ents idK (LAt K H) kvs' cells') (hl : kvs'.length ≤ 900) : TD K (upd H cd (.dT kvs')) cd nd cells' names := by
  obtain ⟨⟨kc, v1, e1, l1⟩, ⟨kn, v2, e2, l2⟩⟩ := D
  have kd : KD H (upd H cd (.dT kvs')) := KD.put v1 rfl
  exact ⟨⟨kvs', upd_same, ents_kd kd e, hl⟩, ⟨kn, by rw [upd_ne n.symm]; exact v2, entsN_kd kd e2, l2⟩⟩
/-- what is told for one cell -/
structure OkSh (R C : Int) (cs : List Ct) : Prop where
  all : ∀ c ∈ cs, OkC R C c
  first : ∃ c r, cs = c :: r ∧ c ≠ .blank ∧ r.length ≤ 1
structure WOk (R C : Int) (W : WC) : Prop where
  nd : (W.map Prod.fst).Nodup
  ins : ∀ e ∈ W, 0 ≤ e.1.1 ∧ e.1.1 < R ∧ 0 ≤ e.1.2 ∧ e.1.2 < C
  sh : ∀ e ∈ W, OkSh R C e.2
theorem ltK_ne {a b : Int × Int} (h : ltK a b) : a ≠ b := fun z => by
  subst z
  rcases h with h | ⟨_, h⟩ <;> omega
theorem WOk.snoc {R C : Int} {W : WC} {z : Int × Int} {cs : List Ct} (h : WOk R C W) (n : ∀ e ∈ W, e.1 ≠ z) (iz : 0 ≤ z.1 ∧ z.1 < R ∧ 0 ≤ z.2 ∧ z.2 < C) (hs : OkSh R C cs) : WOk R C (W ++ [(z, cs)]) := by
  refine ⟨?_, fun e he => ?_, fun e he => ?_⟩
  · rw [List.map_append, List.nodup_append]
    refine ⟨h.nd, by simp, fun a ha b hb y => ?_⟩
    have hb : b = z := by simpa using hb
    obtain ⟨e, he, e1⟩ := List.mem_map.mp ha
    exact n e he (by rw [e1, y, hb])
  · rcases List.mem_append.mp he with he | he
    · exact h.ins e he
    · rw [List.mem_singleton.mp he]
      exact iz
  · rcases List.mem_append.mp he with he | he
    · exact h.sh e he
    · rw [List.mem_singleton.mp he]
      exact hs
def WInv (K : PySem.W.Frag) (b : Addr) (R C : Int) (nd cd : Addr) (N : NA) (H0 : Hp) (n : Nat) (z : Int × Int) (H : Hp) : Prop := ∃ W : WC, Box H b ∧ Kp b H0 H ∧ TD K (rmS [b] H) cd nd (cdW W) (nmA N) ∧ WOk R C W ∧ W.length ≤ n ∧ ∀ e ∈ W, ltK e.1 z
theorem WInv.up {K : PySem.W.Frag} {b : Addr} {R C : Int} {nd cd : Addr} {N : NA} {H0 H H' : Hp} {n m : Nat} {z y : Int × Int} (h : WInv K b R C nd cd N H0 n z H) (k : Kp b H H') (B : Box H' b) (nm : n ≤ m) (zy : ∀ x, ltK x z → ltK x y) : WInv K b R C nd cd N H0 m y H' := by
  obtain ⟨W, B0, k0, td, ok, l, lt⟩ := h
  exact ⟨W, B, k0.trans k, td.same (kp_rm k), ok, Nat.le_trans l nm, fun e he => zy _ (lt e he)⟩
theorem WInv.put {K : PySem.W.Frag} {b : Addr} {R C : Int} {nd cd : Addr} {N : NA} {H0 H J : Hp} {n : Nat} {z y : Int × Int} {L : Addr} {us : List V} {cs : List Ct} (h : WInv K b R C nd cd N H0 n z H) (k : Kp b H J) (B0 : Box H0 b) (B : Box J b) (n1 : n < 800) (hcd : H0 cd = none) (ncn : cd ≠ nd)
    (hL : (rmS [b] J) L = some (.lst us)) (dt : DtAll (rmS [b] J) us (cs.map ctD)) (iz : 0 ≤ z.1 ∧ z.1 < R ∧ 0 ≤ z.2 ∧ z.2 < C) (hs : OkSh R C cs) (zy : ∀ x, ltK x z ∨ x = z → ltK x y) :
    ∃ kvs, J cd = some (.dT kvs) ∧ kvs.length ≤ 900 ∧ WInv K b R C nd cd N H0 (n + 1) y (upd J cd (.dT (putK kvs (idK z) (.ref L)))) := by
  obtain ⟨W, _, k0, td, ok, l, lt⟩ := h
  have td1 := td.same (kp_rm k)
  obtain ⟨⟨kvs, h1, e1, l1⟩, _⟩ := id td1
  obtain ⟨nS, hJ⟩ := rmS_some h1
  have ncb : cd ≠ b := box_ne B0 hcd
  have new : ∀ e ∈ W, e.1 ≠ z := fun e he => ltK_ne (lt e he)
  have newc : ∀ e ∈ cdW W, e.1 ≠ z := fun e he y => by
    obtain ⟨e2, he2, rfl⟩ := List.mem_map.mp he
    exact new e2 he2 y
  have kl := e1.len
  have wl : (cdW W).length = W.length := by
    unfold cdW
    rw [List.length_map]
  refine ⟨kvs, hJ, l1, W ++ [(z, cs)], box_new (k0.trans k) B0 B hcd, kp_mut (k0.trans k) hcd ncb, ?_, ok.snoc new iz hs, by rw [List.length_append]; exact Nat.add_le_add_right l 1, fun e he => ?_⟩
  · rw [rmS_upd nS, cdW_snoc, ← putE_new newc]
    refine td_setC td1 ncn (ents_put (fun _ _ => idK_inj) e1 ⟨L, us, rfl, hL, dt⟩) ?_
    have := putK_len kvs (idK z) (.ref L)
    omega
  · rcases List.mem_append.mp he with he | he
    · exact zy _ (.inl (lt e he))
    · rw [List.mem_singleton.mp he]
      exact zy _ (.inr rfl)
def spWorld (K : PySem.W.Frag) : Sp := fun vs H Q _ => ∃ (b : Addr), vs = [.ref b] ∧ Box H b ∧
  ∀ (w0 nd cd : Addr) (R C : Int) (W : WC) (N : NA) (H' : Hp), Box H' b → Kp b H H' → H w0 = none → w0 ≠ b → H' w0 = some (.lst [.int R, .int C, .ref nd, .ref cd]) → RC R C → R * C ≤ 60 → TD K (rmS [b] H') cd nd (cdW W) (nmA N) → W.length ≤ 60 → WOk R C W → NmOk R C wordsN N → Q (.ref w0) H'
theorem okLawWorld (T : Txt K mg) : FnOk P w K mg base CX0 13 T.fLawWorld T.fdLawWorld ["box"] (spWorld K) := by
  refine T.FLawWorld.ok scLawWorld (fun vs H Q E h => ?_) (fun cdv A outer s H vs Q E hr h => ?_)
  · obtain ⟨b, rfl, _⟩ := h
    rfl
  · obtain ⟨b, rfl, B, q⟩ := h
    -- slots box=0 rows=1 columns=2 names=3 cells=4 row=5 column=6 shown=7
    refine ⟨_, (pss_cons (ps_set (i := 1) scLawWorld.nd rfl (Or.inl rfl) (pe_op op_add pe_int (pe_call (okLawDraw T) (hr.mono (by decide)) (by rfl) T.gLawDraw T.FLawDraw.kp T.bLawDraw .nil pass0 (pa_cons (pv 0) (pa_cons pe_int pa_nil)))))
        (pss_cons (ps_set (i := 2) scLawWorld.nd rfl (Or.inl rfl) (pe_op op_add pe_int (pe_call (okLawDraw T) (hr.mono (by decide)) (by rfl) T.gLawDraw T.FLawDraw.kp T.bLawDraw .nil pass0 (pa_cons (pv 0) (pa_cons pe_int pa_nil)))))
        (C8.pss_cut (ps_if (pt_cmpR op_eq (pe_call (okLawDraw T) (hr.mono (by decide)) (by rfl) T.gLawDraw T.FLawDraw.kp T.bLawDraw .nil pass0 (pa_cons (pv 0) (pa_cons pe_int pa_nil))) pe_int (nomark _))
          (pss_one (ps_set (i := 1) scLawWorld.nd rfl (Or.inl rfl) pe_int))
          pss_nil)
        (pss_cons (ps_set (i := 3) scLawWorld.nd rfl (Or.inl rfl) (pe_call (okLawNames T) (hr.mono (by decide)) (by rfl) T.gLawNames T.FLawNames.kp T.bLawNames .nil pass0 (pa_cons (pv 0) (pa_cons (pv 1) (pa_cons (pv 2) pa_nil)))))
        (pss_cons (ps_set (i := 4) scLawWorld.nd rfl (Or.inl rfl) pe_dnewT)
        (pss_cons (ps_for PassesOwn.never rfl (pi_range1 rfl T.z_range (pa_cons (pv 1) pa_nil)) (pg_name (i := 5) scLawWorld.nd rfl (Or.inl rfl))
          (pss_one (ps_for PassesOwn.never rfl (pi_range1 rfl T.z_range (pa_cons (pv 2) pa_nil)) (pg_name (i := 6) scLawWorld.nd rfl (Or.inl rfl))
            (pss_one (ps_if (pt_cmpR op_gt (pe_call (okLawDraw T) (hr.mono (by decide)) (by rfl) T.gLawDraw T.FLawDraw.kp T.bLawDraw .nil pass0 (pa_cons (pv 0) (pa_cons pe_int pa_nil))) pe_int (nomark _))
              (pss_cons (ps_set (i := 7) scLawWorld.nd rfl (Or.inl rfl) (pe_lst (pa_cons (pe_call (okLawContent T) (hr.mono (by decide)) (by rfl) T.gLawContent T.FLawContent.kp T.bLawContent .nil pass0 (pa_cons (pv 0) (pa_cons (pv 1) (pa_cons (pv 2) (pa_cons (pe_call (okLawDraw T) (hr.mono (by decide)) (by rfl) T.gLawDraw T.FLawDraw.kp T.bLawDraw .nil pass0 (pa_cons (pv 0) (pa_cons pe_int pa_nil))) pa_nil))))) pa_nil)))
              (C8.pss_cut (ps_if (pt_cmpR op_eq (pe_call (okLawDraw T) (hr.mono (by decide)) (by rfl) T.gLawDraw T.FLawDraw.kp T.bLawDraw .nil pass0 (pa_cons (pv 0) (pa_cons pe_int pa_nil))) pe_int (nomark _))
                (pss_one (ps_expr (pe_bm PySem.F.plainAttrs_list PySem.F.slot_list_append PySem.F.type_list_append mt_append (pv 7) (pa_cons (pe_ix ix_list (pe_lst (pa_cons (pe_tup (pa_cons pe_str pa_nil)) (pa_cons (pe_tup (pa_cons pe_str (pa_cons pe_str pa_nil))) pa_nil))) (pe_call (okLawDraw T) (hr.mono (by decide)) (by rfl) T.gLawDraw T.FLawDraw.kp T.bLawDraw .nil pass0 (pa_cons (pv 0) (pa_cons pe_int pa_nil))) (fun _ _ => rfl)) pa_nil))))
                pss_nil)
              (pss_one (ps_dput (units2 hr) (pv 4) (pe_tup (pa_cons (pv 5) (pa_cons (pv 6) pa_nil))) (pv 7) rfl))))
              pss_nil)))))
        (pss_one (ps_ret (pe_lst (pa_cons (pv 1) (pa_cons (pv 2) (pa_cons (pv 3) (pa_cons (pv 4) pa_nil))))))))))))), ?_⟩
    refine ⟨_, rfl, b, 4, rfl, by decide, B, fun x H1 x0 x1 B1 k1 => ⟨_, _, rfl, rfl, ⟨_, rfl, b, 3, rfl, by decide, B1, fun y H2 y0 y1 B2 k2 => ⟨_, _, rfl, rfl, ?_⟩⟩⟩⟩
    refine ⟨fun σ H' => ∃ R : Int, 0 < R ∧ R ≤ 9 ∧ σ = [some (.ref b), some (.int R), some (.int (1 + y)), none, none, none, none, none] ∧ Box H' b ∧ Kp b H H', ?_, ?_⟩
    · refine ⟨_, rfl, b, 12, rfl, by decide, B2, fun u H3 _ _ B3 k3 => ⟨rfl, _, rfl, ite2 (fun _ => ?_) (fun _ => ?_)⟩⟩
      · exact ⟨9, by decide, by decide, rfl, B3, (k1.trans k2).trans k3⟩
      · exact ⟨1 + x, by omega, by omega, rfl, B3, (k1.trans k2).trans k3⟩
    rintro σ H3 ⟨R, R0, R1, rfl, B3, k3⟩
    have rc : RC R (1 + y) := ⟨R0, by omega, by omega, by omega⟩
    have cc : 1 + y ≤ 3 := by omega
    generalize 1 + y = C at rc cc
    refine ⟨_, rfl, _, rfl, _, rfl, b, R, C, rfl, rc, B3, fun nd N nvs H4 B4 k4 hnd nnb hn4 en4 nl4 ok4 => ?_⟩
    refine fun cd hcd => ?_
    have ncb : cd ≠ b := box_ne B4 hcd
    have ncn : cd ≠ nd := fun z => by
      rw [z, hn4] at hcd
      cases hcd
    have s5 := same_new (o := .dT []) hcd
    have B5 := B4.same s5
    have k45 := k4.trans (Kp.of s5)
    have hc5 : (upd H4 cd (.dT [])) cd = some (.dT []) := upd_same
    have hcd3 : H3 cd = none := none_back k4 hcd B4
    have nS : cd ∉ [b] := fun z => ncb (List.mem_singleton.mp z)
    have nN : nd ∉ [b] := fun z => nnb (List.mem_singleton.mp z)
    have I5 : WInv K b R C nd cd N H3 0 (0, 0) (upd H4 cd (.dT [])) := ⟨[], B5, k45, ⟨⟨[], (rmS_of nS).trans hc5, RepP.nil, Nat.zero_le _⟩, ⟨nvs, (rmS_of nN).trans (s5 _ _ hn4), entsN_kd (KD.of (rmS_same s5)) en4, by omega⟩⟩, ⟨List.nodup_nil, (fun _ h => nomatch h), (fun _ h => nomatch h)⟩, Nat.le_refl _, fun _ h => nomatch h⟩
    have rc0 := rc.c0
    generalize upd H4 cd (.dT []) = H5 at I5
    refine ⟨_, rfl, _, rfl, by omega, by omega, for_range (lo := 0) (n := R.toNat) (fun i σ H' => ∃ (c5 c6 c7 : Option V), σ = [some (.ref b), some (.int R), some (.int C), some (.ref nd), some (.ref cd), c5, c6, c7] ∧ WInv K b R C nd cd N H3 (3 * i) ((i : Int), 0) H') ⟨_, _, _, rfl, I5⟩ ?_ ?_⟩
    · rintro i σ H6 hi ⟨c5, c6, c7, rfl, I6⟩
      rw [show (0 : Int) + (i : Int) = (i : Int) from Int.zero_add _]
      refine ⟨_, rfl, _, rfl, by omega, by omega, for_range (lo := 0) (n := C.toNat) (fun j σ H' => ∃ (c6 c7 : Option V), σ = [some (.ref b), some (.int R), some (.int C), some (.ref nd), some (.ref cd), some (.int (i : Int)), c6, c7] ∧ WInv K b R C nd cd N H3 (3 * i + j) ((i : Int), (j : Int)) H') ⟨_, _, rfl, I6⟩ ?_ ?_⟩
      · rintro j σ H7 hj ⟨c6, c7, rfl, I7⟩
        rw [show (0 : Int) + (j : Int) = (j : Int) from Int.zero_add _]
        have nxt : ∀ x : Int × Int, ltK x ((i : Int), (j : Int)) ∨ x = ((i : Int), (j : Int)) → ltK x ((i : Int), ((j + 1 : Nat) : Int)) := fun x h => by
          rcases h with h | rfl
          · rcases h with h | ⟨h, h2⟩
            · exact .inl h
            · exact .inr ⟨h, by show x.2 < ((j + 1 : Nat) : Int); have : x.2 < (j : Int) := h2; omega⟩
          · exact .inr ⟨rfl, by show (j : Int) < ((j + 1 : Nat) : Int); omega⟩
        obtain ⟨W7, B7, _⟩ := id I7
        refine ⟨_, rfl, b, 5, rfl, by decide, B7, fun u H8 _ _ B8 k8 => ⟨_, _, rfl, rfl, _, rfl, ite2 (fun _ => ?_) (fun _ => ?_)⟩⟩
        rotate_left
        · exact ⟨_, _, rfl, I7.up k8 B8 (Nat.le_succ _) fun x h => nxt x (.inl h)⟩
        refine ⟨_, rfl, _, rfl, _, rfl, _, rfl, b, 3, rfl, by decide, B8, fun d H9 d0 d1 B9 k9 => ?_⟩
        obtain ⟨dn, rfl⟩ := Int.eq_ofNat_of_zero_le d0
        refine ⟨b, R, C, dn, rfl, rc, by omega, B9, fun v c HA BA kA dA okA nbl => ⟨(by show 1 ≤ sizeLine; decide), fun L hL => ?_⟩⟩
        have sL := same_new (o := .lst [v]) hL
        have nLb : L ≠ b := box_ne BA hL
        have kL := ((k8.trans k9).trans kA).trans (Kp.of sL)
        have hLA : (upd HA L (.lst [v])) L = some (.lst [v]) := upd_same
        have nLS : L ∉ [b] := fun z => nLb (List.mem_singleton.mp z)
        have BL := BA.same sL
        have dL : Dt (upd HA L (.lst [v])) v (ctD c) := dA.tt (TT.of sL)
        refine ⟨fun σ H' => ∃ (us : List V) (cs : List Ct), σ = [some (.ref b), some (.int R), some (.int C), some (.ref nd), some (.ref cd), some (.int (i : Int)), some (.int (j : Int)), some (.ref L)] ∧ Box H' b ∧ Kp b H7 H' ∧ H' L = some (.lst us) ∧ DtAll H' us (cs.map ctD) ∧ OkSh R C cs, ?_, ?_⟩
        · refine ⟨_, rfl, b, 12, rfl, by decide, BL, fun u HB _ _ BB kB => ⟨rfl, _, rfl, ite2 (fun _ => ?_) (fun _ => ?_)⟩⟩
          rotate_left
          · exact ⟨[v], [c], rfl, BB, kL.trans kB, kB _ _ nLb hLA, .cons (dL.tt (TK.kp kB BL)) .nil, ⟨fun x hx => by rw [List.mem_singleton.mp hx]; exact okA, c, [], rfl, nbl, Nat.zero_le _⟩⟩
          have hLB := kB _ _ nLb hLA
          refine ⟨_, rfl, .inl ⟨rfl, _, SqL.of hLB⟩, (by show 1 ≤ sizeLine; decide), fun t1 h1 => ⟨(by show 2 ≤ sizeLine; decide), fun t2 h2 => ⟨(by show 2 ≤ sizeLine; decide), fun z hz => ?_⟩⟩⟩
          have s1 := same_new (o := .tup [.str "blank"]) h1
          have s2 := same_new (o := .tup [.str "text", .str "y"]) h2
          have s3 := same_new (o := .lst [.ref t1, .ref t2]) hz
          have BC := ((BB.same s1).same s2).same s3
          have nzb : z ≠ b := box_ne ((BB.same s1).same s2) hz
          refine ⟨_, rfl, b, 2, rfl, by decide, BC, fun e HD e0 e1 BD kD => ?_⟩
          have g1 := kD _ _ (fun z => by rw [z] at h1; exact absurd h1 (by obtain ⟨_, _, _, y, _⟩ := BB; rw [y]; exact fun w => nomatch w)) ((s2.trans s3) _ _ (show (upd HB t1 (.tup [.str "blank"])) t1 = some (.tup [.str "blank"]) from upd_same))
          have g2 := kD _ _ (fun z => by rw [z] at h2; exact absurd h2 (by obtain ⟨_, _, _, y, _⟩ := BB.same s1; rw [y]; exact fun w => nomatch w)) (s3 _ _ (show (upd (upd HB t1 (.tup [.str "blank"])) t2 (.tup [.str "text", .str "y"])) t2 = some (.tup [.str "text", .str "y"]) from upd_same))
          have gz := kD _ _ nzb upd_same
          have kBD := (Kp.of (b := b) ((s1.trans s2).trans s3)).trans kD
          have hLD := kBD _ _ nLb hLB
          have tD : TT HB HD := TK.kp kBD BB
          obtain ⟨x, cx, hx, dx⟩ : ∃ (x : V) (cx : Ct), atI [V.ref t1, .ref t2] e = some x ∧ Dt HD x (ctD cx) ∧ OkC R C cx := by
            obtain ⟨en, rfl⟩ := Int.eq_ofNat_of_zero_le e0
            match en, e1 with
            | 0, _ => exact ⟨_, .blank, atI_nat rfl, .tup g1 (.cons (.str _) .nil), trivial⟩
            | 1, _ => exact ⟨_, .text ⟨"y", by decide +kernel⟩, atI_nat rfl, .tup g2 (.cons (.str _) (.cons (.str _) .nil)), trivial⟩
            | n + 2, h => exact absurd h (by omega)
          refine ⟨z, _, _, _, rfl, rfl, SqL.of gz, hx, L, _, _, rfl, rfl, hLD, (by show 1 < sizeLine; decide), ?_⟩
          have hm : TT HD (upd HD L (.lst ([v] ++ [x]))) := TK.mut hLD
          refine ⟨[v] ++ [x], [c, cx], rfl, box_new ((kL.trans kB).trans kBD) B7 BD ?_, kp_mut ((kL.trans kB).trans kBD) ?_ nLb, upd_same, .cons ((((dL.tt (TK.kp kB BL)).tt tD)).tt hm) (.cons (dx.1.tt hm) .nil), ⟨fun y hy => ?_, c, [cx], rfl, nbl, Nat.le_refl _⟩⟩
          · exact none_back ((k8.trans k9).trans kA) hL BA
          · exact none_back ((k8.trans k9).trans kA) hL BA
          · rcases List.mem_cons.mp hy with h | h
            · rw [h]
              exact okA
            · rw [List.mem_singleton.mp h]
              exact dx.2
        · rintro σ HB ⟨us, cs, rfl, BB, kB, hLB, dB, okB⟩
          refine ⟨_, rfl, _, rfl, _, rfl, _, rfl, (by show 2 ≤ sizeLine; decide), fun t ht => ?_⟩
          have st := same_new (o := .tup [.int (i : Int), .int (j : Int)]) ht
          have htA : (upd HB t (.tup [.int (i : Int), .int (j : Int)])) t = some (.tup [.int (i : Int), .int (j : Int)]) := upd_same
          have kC := kB.trans (Kp.of st)
          have BC := BB.same st
          have hLC := st _ _ hLB
          have dC := dB.tt (TT.of st)
          generalize upd HB t (.tup [.int (i : Int), .int (j : Int)]) = HC at htA kC BC hLC dC
          obtain ⟨kvs, hk, lk, I'⟩ := I7.put (L := L) (us := us) (cs := cs) (y := ((i : Int), ((j + 1 : Nat) : Int))) kC B3 BC (by omega) hcd3 ncn ((rmS_of nLS).trans hLC) (dC.tt BC.ls.tt) (by show 0 ≤ (i : Int) ∧ (i : Int) < R ∧ 0 ≤ (j : Int) ∧ (j : Int) < C; omega) okB nxt
          exact ⟨cd, _, rfl, DPut.t (k := idK ((i : Int), (j : Int))) hk htA (small1000 (by omega)), _, _, rfl, I'⟩
      · rintro σ H7 ⟨c6, c7, rfl, I7⟩
        obtain ⟨_, B7, _⟩ := id I7
        refine ⟨_, _, _, rfl, I7.up Kp.refl B7 (by omega) fun x h => ?_⟩
        rcases h with h | ⟨h, h2⟩
        · exact .inl (by show x.1 < ((i + 1 : Nat) : Int); have : x.1 < (i : Int) := h; omega)
        · exact .inl (by show x.1 < ((i + 1 : Nat) : Int); have : x.1 = (i : Int) := h; omega)
    · rintro σ H6 ⟨c5, c6, c7, rfl, I6⟩
      refine ⟨_, rfl, _, rfl, _, rfl, _, rfl, (by show 4 ≤ sizeLine; decide), fun w0 hw0 => ?_⟩
      obtain ⟨W, B6, k6, td6, ok6, l6, _⟩ := I6
      have sw := same_new (o := .lst [.int R, .int C, .ref nd, .ref cd]) hw0
      refine q w0 nd cd R C W N _ (B6.same sw) ((k3.trans k6).trans (Kp.of sw)) (none_back (k3.trans k6) hw0 B6) (box_ne B6 hw0) upd_same rc ?_ (td6.same (rmS_same sw)) (by omega) ok6 ok4
      have : R * C ≤ 9 * 3 := Int.mul_le_mul R1 cc (by omega) (by decide)
      omega
/-! ### the grid of the world -/
theorem signs_ok : ∀ s ∈ signsL, PyData.strOk s = true := by decide +kernel
theorem fns_ok : ∀ s ∈ fnsL, PyData.strOk s = true := by decide +kernel
theorem okw6 : PyData.strOk ("gone" : Str) = true ∧ PyData.strOk ("num" : Str) = true ∧ PyData.strOk ("cell" : Str) = true ∧ PyData.strOk ("neg" : Str) = true ∧ PyData.strOk ("op" : Str) = true ∧ PyData.strOk ("call" : Str) = true := by decide +kernel
theorem okw4 : PyData.strOk ("text" : Str) = true ∧ PyData.strOk ("number" : Str) = true ∧ PyData.strOk ("formula" : Str) = true ∧ PyData.strOk ("blank" : Str) = true := by decide +kernel
theorem trD_lay {R C : Int} : ∀ {t : Tr}, t.okR R C → (trD t).canLay0 = true
  | .gone, _ => by simp [trD, PyData.canLay0, PyData.canLayAll0, okw6]
  | .num x y, _ => by simp [trD, PyData.canLay0, PyData.canLayAll0, okw6]
  | .cell r c, _ => by simp [trD, PyData.canLay0, PyData.canLayAll0, okw6]
  | .neg t, o => by simp [trD, PyData.canLay0, PyData.canLayAll0, okw6, trD_lay (t := t) o]
  | .op s l r, o => by simp [trD, PyData.canLay0, PyData.canLayAll0, okw6, trD_lay (t := l) o.1, trD_lay (t := r) o.2.1, signs_ok s o.2.2]
  | .call n as, o => by simp [trD, PyData.canLay0, PyData.canLayAll0, okw6, arDs_lay as, fns_ok n o.2.2]
theorem trD_depth : ∀ t : Tr, (trD t).depth ≤ t.h + 3
  | .gone => by simp [trD, PyData.depth, PyData.depthAll]
  | .num x y => by simp [trD, PyData.depth, PyData.depthAll, Tr.h]
  | .cell r c => by simp [trD, PyData.depth, PyData.depthAll]
  | .neg t => by
    have := trD_depth t
    simp only [trD, PyData.depth, PyData.depthAll, Tr.h]
    omega
  | .op s l r => by
    have := trD_depth l
    have := trD_depth r
    simp only [trD, PyData.depth, PyData.depthAll, Tr.h]
    omega
  | .call n as => by
    have := arDs_depth as
    simp only [trD, PyData.depth, PyData.depthAll, Tr.h]
    omega
theorem ctD_lay {R C : Int} {c : Ct} (o : OkC R C c) : (ctD c).canLay0 = true := by
  cases c with
  | text w => simp [ctD, PyData.canLay0, PyData.canLayAll0, okw4, w.2]
  | num x y => simp [ctD, PyData.canLay0, PyData.canLayAll0, okw4]
  | blank => simp [ctD, PyData.canLay0, PyData.canLayAll0, okw4]
  | form t => simp [ctD, PyData.canLay0, PyData.canLayAll0, okw4, trD_lay (t := t) o.1]
theorem ctD_depth {R C : Int} {c : Ct} (o : OkC R C c) : (ctD c).depth ≤ 9 := by
  cases c with
  | text w => simp [ctD, PyData.depth, PyData.depthAll]
  | num x y => simp [ctD, PyData.depth, PyData.depthAll]
  | blank => simp [ctD, PyData.depth, PyData.depthAll]
  | form t =>
    have := trD_depth t
    have := o.2
    simp only [ctD, PyData.depth, PyData.depthAll]
    omega
theorem cts_shaped {R C : Int} : ∀ cs : List Ct, (∀ c ∈ cs, OkC R C c) → PyData.canLayAll0 (cs.map ctD) = true ∧ PyData.depthAll (cs.map ctD) ≤ 9
  | [], _ => by simp [PyData.canLayAll0, PyData.depthAll]
  | c :: cs, h => by
    obtain ⟨h1, h2⟩ := cts_shaped cs fun x hx => h x (List.mem_cons_of_mem _ hx)
    have h3 := ctD_depth (h c List.mem_cons_self)
    refine ⟨by simp [PyData.canLayAll0, ctD_lay (h c List.mem_cons_self), h1], ?_⟩
    simp only [List.map_cons, PyData.depthAll]
    omega
theorem OkSh.shaped {R C : Int} {cs : List Ct} (h : OkSh R C cs) : SeqAt.shaped (.list (cs.map ctD)) = true := by
  obtain ⟨h1, h2⟩ := cts_shaped cs h.all
  show (PyData.canLay0 (.list (cs.map ctD)) && decide (PyData.depth (.list (cs.map ctD)) ≤ 64)) = true
  rw [Bool.and_eq_true]
  refine ⟨by simp only [PyData.canLay0]; exact h1, decide_eq_true ?_⟩
  simp only [PyData.depth]
  omega
theorem nbl4 : ("text" : Str) ≠ "blank" ∧ ("number" : Str) ≠ "blank" ∧ ("formula" : Str) ≠ "blank" := by decide +kernel
theorem OkSh.notBl {R C : Int} {cs : List Ct} (h : OkSh R C cs) : isBl (cs.map ctD) = false := by
  obtain ⟨c, r, rfl, nb, _⟩ := h.first
  unfold isBl blankD
  cases c with
  | blank => exact absurd rfl nb
  | text w => simp [ctD, PyData.eqv, PyData.eqvAll, nbl4]
  | num x y => simp [ctD, PyData.eqv, PyData.eqvAll, nbl4]
  | form t => simp [ctD, PyData.eqv, PyData.eqvAll, nbl4]
theorem kd_rmS {S : List Addr} {H H' : Hp} (k : KD H H') : KD (rmS S H) (rmS S H') := fun a o n h => by
  obtain ⟨m, e⟩ := rmS_some h
  rw [rmS_of m]
  exact k a o n e
theorem getE_snoc {κ β : Type} [DecidableEq κ] (D : List (κ × β)) (k : κ) (v : β) (j : κ) : getE (D ++ [(k, v)]) j = (getE D j).or (if k = j then some v else none) := by
  unfold getE
  rw [List.find?_append]
  cases D.find? (fun e => decide (e.1 = j)) with
  | some e => rfl
  | none =>
    by_cases z : k = j
    · simp [z]
    · simp [z]
def setW : List Str := ["total", "mi", "ab", "goner"]
theorem setW_nd : setW.Nodup := by decide +kernel
theorem setW_all : ∀ w ∈ wordsN, w ∈ setW := by decide +kernel
theorem snew {i : Nat} {w : Str} (h : setW[i]? = some w) : w ∉ setW.take i := fun z => by
  obtain ⟨j, hj⟩ := List.mem_iff_getElem?.mp z
  have hij : j < i := by
    have := (List.getElem?_eq_some_iff.mp hj).1
    rw [List.length_take] at this
    omega
  rw [List.getElem?_take_of_lt hij] at hj
  obtain ⟨g1, g2⟩ := List.getElem?_eq_some_iff.mp hj
  obtain ⟨g3, g4⟩ := List.getElem?_eq_some_iff.mp h
  exact List.pairwise_iff_getElem.mp setW_nd j i g1 g3 hij (g2.trans g4.symm)
def NS (K : PySem.W.Frag) (S : List Addr) (H : Hp) (nd : Addr) (N : NA) : Prop := ∃ nvs, (rmS S H) nd = some (.dK nvs) ∧ Ents keyW (NAt K (rmS S H)) nvs (nmA N)
theorem Ls.kd {S : List Addr} {H H' : Hp} (l : Ls S H) (k : KD H H') : Ls S H' := fun x h => by
  obtain ⟨us, e⟩ := l x h
  exact ⟨us, k _ _ rfl e⟩
/-- the names that the grid gets, in its own order -/
structure SameN (N N' : NA) : Prop where
  get : ∀ w, getE N' w = getE N w
  sub : ∀ e ∈ N', e ∈ N
  len : N'.length ≤ 4
def spSetNames (K : PySem.W.Frag) (C0 : Addr) : Sp := fun vs H Q _ => ∃ (S : List Addr) (g : Gr) (cells : Cells) (N : NA) (nd : Addr), vs = [.ref g.G, .ref nd] ∧ Ls S H ∧ GD K C0 (rmS S H) g cells [] ∧ NS K S H nd N ∧ nd ≠ g.nd ∧ (∀ e ∈ N, e.1 ∈ wordsN) ∧ NOk N ∧
  ∀ (H' : Hp) (N' : NA), KG g H H' → KD H H' → GD K C0 (rmS S H') g cells (nmA N') → SameN N N' → Q .non H'
theorem okLawSetNames (T : Txt K mg) : FnOk P w K mg base CX0 2 T.fLawSetNames T.fdLawSetNames ["grid", "names"] (spSetNames K T.cGrid) := by
  refine T.FLawSetNames.ok scLawSetNames (fun vs H Q E h => ?_) (fun cdv A outer s H vs Q E hr h => ?_)
  · obtain ⟨S, g, cells, N, nd, rfl, _⟩ := h
    rfl
  · obtain ⟨S, g, cells, N, nd, rfl, ls, G, ns, nn, kw, nok, q⟩ := h
    -- slots grid=0 names=1 word=2 area=3
    refine ⟨_, (pss_one (ps_for PassesOwn.never rfl (pi_list (pe_lst (pa_cons pe_str (pa_cons pe_str (pa_cons pe_str (pa_cons pe_str pa_nil)))))) (pg_name (i := 2) scLawSetNames.nd rfl (Or.inl rfl))
          (pss_one (ps_if (pt_cmp (pc_din (units2 hr) (pv 2) (pv 1)))
            (pss_one (ps_if (pt_cmpR op_isN (pe_dget (units2 hr) (pv 1) (pv 2) (fun _ _ => rfl)) pe_non (nomark _))
              (pss_one (ps_expr (pe_meth (pv 0) T.clGrid T.meGrid_Name (okGrid_Name T) (hr.mono (by decide)) T.bGrid_Name .nil pass0 (pa_cons (pv 2) (pa_cons pe_non pa_nil)))))
              (pss_one (ps_expr (pe_meth (pv 0) T.clGrid T.meGrid_Name (okGrid_Name T) (hr.mono (by decide)) T.bGrid_Name .nil pass0 (pa_cons (pv 2) (pa_cons (pe_lc (own := [("area", 3)]) (g := gName 3) (tt := tYes) rfl scLawSetNames.nd (pi_list (pe_dget (units2 hr) (pv 1) (pv 2) (fun _ _ => rfl))) (blkOk_by (own := [("area", 3)]) (N := ["grid", "names", "word", "area"]) (sc := defScope sLawSetNames) (by decide +kernel)) (fun _ _ _ _ _ => (pg_name (i := 3) scLawSetNames.nd rfl (Or.inl rfl))) (fun _ _ _ _ _ => pts_nil) (fun _ _ _ _ _ => (pv 3))) pa_nil)))))))
            pss_nil)))), ?_⟩
    refine ⟨(by show 4 ≤ sizeLine; decide), fun lw hlw => ?_⟩
    have sw := same_new (o := .lst [.str "total", .str "mi", .str "ab", .str "goner"]) hlw
    have hlw1 : (upd H lw (.lst [.str "total", .str "mi", .str "ab", .str "goner"])) lw = some (.lst [.str "total", .str "mi", .str "ab", .str "goner"]) := upd_same
    have G1 := G.same (rmS_same sw)
    have ls1 := ls.same sw
    have ncd : nd ≠ g.cd := fun z => by
      obtain ⟨nvs, h1, _⟩ := ns
      obtain ⟨_, ⟨kvs, h2, _⟩, _⟩ := G
      rw [z, h2] at h1
      cases h1
    generalize upd H lw (.lst [.str "total", .str "mi", .str "ab", .str "goner"]) = H1 at sw hlw1 G1 ls1
    have nsAt : ∀ J, KG g H1 J → KD H1 J → NS K S J nd N := fun J kg kd => by
      obtain ⟨nvs, h1, e1⟩ := ns
      obtain ⟨m, e⟩ := rmS_some h1
      exact ⟨nvs, by rw [rmS_of m]; exact kg nd _ ncd nn (sw _ _ e), entsN_kd (kd_rmS ((KD.of sw).trans kd)) e1⟩
    refine ⟨lw, rfl, ⟨_, SqL.of hlw1⟩, for_it (walk_list (a := lw) (xs := setW.map V.str)) (fun i σ H' => ∃ (k2 k3 : Option V) (N' : NA), σ = [some (.ref g.G), some (.ref nd), k2, k3] ∧ KG g H1 H' ∧ KD H1 H' ∧ GD K T.cGrid (rmS S H') g cells (nmA N') ∧ N'.length ≤ i ∧ (∀ w ∈ setW.take i, getE N' w = getE N w) ∧ (∀ w, w ∉ setW.take i → getE N' w = none) ∧ ∀ e ∈ N', e ∈ N)
      ⟨_, _, [], rfl, KG.of (Same.refl _), KD.of (Same.refl _), G1, Nat.le_refl _, (fun _ h => nomatch h), (fun _ _ => rfl), fun _ h => nomatch h⟩ (fun i σ H' _ ⟨_, _, _, _, _, kd, _⟩ => SqL.of (kd _ _ rfl hlw1)) ?_ ?_⟩
    · rintro i x σ HX H2 hi ⟨k2, k3, N', rfl, kg, kd, G2, nl, a1, a2, a3⟩ ⟨rfl, hx⟩
      have hi : i < 4 := hi
      rw [List.getElem?_map] at hx
      obtain ⟨w, hw, rfl⟩ := Option.map_eq_some_iff.mp hx
      have wn := snew hw
      have tk : setW.take (i + 1) = setW.take i ++ [w] := by
        rw [List.take_add_one, hw]
        rfl
      obtain ⟨nvs, hnr, en⟩ := nsAt H2 kg kd
      obtain ⟨nS, hn⟩ := rmS_some hnr
      obtain ⟨e1, e2⟩ := ents_get (fun _ _ => keyW_inj) en w
      have dg := DGet.k (k := keyW w) hn
      rw [getE_nmA] at e1 e2
      have gn := a2 w wn
      have new : ∀ e ∈ nmA N', e.1 ≠ w := fun e he z => by
        have : e.1 ∈ (nmA N').map Prod.fst := List.mem_map.mpr ⟨e, he, rfl⟩
        rw [nmA_keys, z] at this
        exact getE_none gn this
      -- behind the put
      have fin : ∀ (d : Option (List Ar)) (J : Hp) (k3 : Option V), getE N w = some d → KG g H2 J → KD H2 J → GD K T.cGrid (rmS S J) g cells (putE (nmA N') w (d.map fun as => as.map arD)) →
          ∃ (k2' k3' : Option V) (N' : NA), [some (V.ref g.G), some (.ref nd), some (.str w), k3] = [some (.ref g.G), some (.ref nd), k2', k3'] ∧ KG g H1 J ∧ KD H1 J ∧ GD K T.cGrid (rmS S J) g cells (nmA N') ∧ N'.length ≤ i + 1 ∧ (∀ w ∈ setW.take (i + 1), getE N' w = getE N w) ∧ (∀ w, w ∉ setW.take (i + 1) → getE N' w = none) ∧ ∀ e ∈ N', e ∈ N := fun d J k3 hg kg3 kd3 G3 => by
        rw [putE_new new, ← nmA_snoc] at G3
        refine ⟨_, _, N' ++ [(w, d)], rfl, kg.trans kg3, kd.trans kd3, G3, by rw [List.length_append]; exact Nat.add_le_add_right nl 1, fun w2 h2 => ?_, fun w2 h2 => ?_, fun e he => ?_⟩
        · rw [tk] at h2
          rw [getE_snoc]
          by_cases z : w = w2
          · rw [← z, gn, hg, if_pos rfl]
            rfl
          · rw [if_neg z, Option.or_none]
            rcases List.mem_append.mp h2 with h | h
            · exact a1 w2 h
            · exact absurd (List.mem_singleton.mp h).symm z
        · rw [tk] at h2
          rw [getE_snoc, a2 w2 fun z => h2 (List.mem_append_left _ z), if_neg fun z => h2 (List.mem_append_right _ (List.mem_singleton.mpr z.symm))]
          rfl
        · rcases List.mem_append.mp he with h | h
          · exact a3 e h
          · rw [List.mem_singleton.mp h]
            exact getE_key hg
      obtain ⟨⟨dx, hGr⟩, _⟩ := id G2
      have hG := (rmS_some hGr).2
      have ls2 := ls1.kd kd
      have nl8 : (nmA N').length ≤ 800 := by
        unfold nmA
        rw [List.length_map]
        omega
      refine ⟨_, rfl, _, rfl, nd, _, rfl, dg, _, rfl, ?_⟩
      cases hg : getE N w with
      | none =>
        rw [e1 (by rw [hg]; rfl)]
        refine iteF ⟨_, _, N', rfl, kg, kd, G2, Nat.le_succ_of_le nl, fun w2 h2 => ?_, fun w2 h2 => a2 w2 fun z => h2 (by rw [tk]; exact List.mem_append_left _ z), a3⟩
        rw [tk] at h2
        rcases List.mem_append.mp h2 with h | h
        · exact a1 w2 h
        · rw [List.mem_singleton.mp h, gn, hg]
      | some d =>
        obtain ⟨v, ev, hv⟩ := e2 _ (by rw [hg]; rfl)
        rw [ev] at dg ⊢
        refine iteT ?_
        cases d with
        | none =>
          obtain rfl := hv
          refine ⟨_, rfl, _, rfl, nd, .non, rfl, dg, rfl, _, rfl, ite2 (fun _ => ?_) (fun c => absurd (decide_eq_true rfl) c)⟩
          exact ⟨_, rfl, g.G, dx, _, rfl, hG, rfl, _, rfl, S, g, cells, nmA N', w, .non, none, rfl, ls2, G2, nl8, rfl, fun H3 kg3 kd3 G3 => fin none H3 _ hg kg3 kd3 G3⟩
        | some as =>
          obtain ⟨l, us, rfl, hlr, dt⟩ := hv
          obtain ⟨lS, hl⟩ := rmS_some hlr
          have ul := dt.length
          refine ⟨_, rfl, _, rfl, nd, .ref l, rfl, dg, rfl, _, rfl, ite2 (fun c => nomatch (of_decide_eq_true c)) (fun _ => ?_)⟩
          refine ⟨_, rfl, g.G, dx, _, rfl, hG, rfl, _, rfl, _, rfl, _, rfl, nd, .ref l, rfl, dg, l, rfl, ⟨_, SqL.of hl⟩, fun M hM => ?_⟩
          refine lc_it (walk_list (a := l) (xs := us)) (fun j H' => Same H2 H' ∧ H' M = some (.lst (us.take j))) ⟨same_new hM, upd_same⟩ (fun i H' _ h => h.1.seq (SqL.of hl)) ?_ ?_
          · rintro j y H8 H9 hj ⟨s8, hM8⟩ ⟨rfl, hy⟩
            refine ⟨rfl, yesT ⟨_, rfl, _, hM8, ?_, same_mut s8 hM, ?_⟩⟩
            · rw [List.length_take, ul, List.length_map]
              have := nok _ (getE_key hg) as rfl
              exact sz100 (by omega)
            · rw [upd_same, List.take_add_one, hy]
              rfl
          · rintro H8 ⟨s8, hM8⟩
            rw [List.take_of_length_le (Nat.le_refl _)] at hM8
            refine ⟨S, g, cells, nmA N', w, .ref M, some (as.map arD), rfl, ls2.same s8, G2.same (rmS_same s8), nl8, ⟨M, us, rfl, hM8, dt.tt (TT.of (rmS_le.trans s8))⟩, fun H3 kg3 kd3 G3 => fin (some as) H3 _ hg ((KG.of s8).trans kg3) ((KD.of s8).trans kd3) G3⟩
    · rintro σ H2 ⟨k2, k3, N', rfl, kg, kd, G2, nl, a1, a2, a3⟩
      refine q H2 N' ((KG.of sw).trans kg) ((KD.of sw).trans kd) G2 ⟨fun w => ?_, a3, nl⟩
      by_cases z : w ∈ setW
      · exact a1 w z
      · rw [a2 w fun y => z (List.mem_of_mem_take y)]
        cases hg : getE N w with
        | none => rfl
        | some d => exact absurd (setW_all w (kw _ (getE_key hg))) z
/-- a new grid of nothing -/
theorem new_grid {K : PySem.W.Frag} {C : Addr} {H : Hp} {x dy : Addr} {o : Gr} {H1 : Hp} (hx : H x = none) (hdy : H dy = none) (hne : dy ≠ x) (eo : o.G = x) (s1 : Same (rmG (upd (upd H dy (HO.own x)) x (HO.ins C dy [])) x) H1) (n1 : rmG (upd (upd H dy (HO.own x)) x (HO.ins C dy [])) x o.cd = none) (n2 : rmG (upd (upd H dy (HO.own x)) x (HO.ins C dy [])) x o.nd = none) (Go : GD K C H1 o [] []) :
    Same H H1 ∧ H o.G = none ∧ H o.cd = none ∧ H o.nd = none := by
  obtain ⟨o1, o2, o3⟩ := Go.ne
  have s0 : Same H H1 := fun b u e => by
    have m1 : b ≠ x := ne_of_none e hx
    have m2 : b ≠ dy := ne_of_none e hdy
    refine s1 b u ?_
    show (if b = x then none else _) = _
    rw [if_neg m1, upd_ne m1, upd_ne m2]
    exact e
  have free : ∀ {b : Addr}, b ≠ x → rmG (upd (upd H dy (HO.own x)) x (HO.ins C dy [])) x b = none → H b = none := fun {b} m1 e => by
    have e : (if b = x then none else (upd (upd H dy (HO.own x)) x (HO.ins C dy [])) b) = none := e
    rw [if_neg m1, upd_ne m1] at e
    by_cases z : b = dy
    · rw [z, upd_same] at e
      cases e
    · rw [upd_ne z] at e
      exact e
  exact ⟨s0, by rw [eo]; exact hx, free (by rw [← eo]; exact o1) n1, free (by rw [← eo]; exact o2) n2⟩
def spLawGrid (K : PySem.W.Frag) (C0 : Addr) : Sp := fun vs H Q _ => ∃ (S : List Addr) (w0 nd cd : Addr) (R C : Int) (W : WC) (N : NA), vs = [.ref w0] ∧ Ls S H ∧ H w0 = some (.lst [.int R, .int C, .ref nd, .ref cd]) ∧ TD K (rmS S H) cd nd (cdW W) (nmA N) ∧ WOk R C W ∧ W.length ≤ 60 ∧ (∀ e ∈ N, e.1 ∈ wordsN) ∧ NOk N ∧
  ∀ (g : Gr) (N' : NA) (H' : Hp), Same H H' → H g.G = none → H g.cd = none → H g.nd = none → g.r = R → g.c = C → GD K C0 (rmS S H') g (cdW W) (nmA N') → SameN N N' → Q (.ref g.G) H'
theorem okLawGrid (T : Txt K mg) : FnOk P w K mg base CX0 3 T.fLawGrid T.fdLawGrid ["world"] (spLawGrid K T.cGrid) := by
  refine T.FLawGrid.ok scLawGrid (fun vs H Q E h => ?_) (fun cdv A outer s H vs Q E hr h => ?_)
  · obtain ⟨S, w0, nd, cd, R, C, W, N, rfl, _⟩ := h
    rfl
  · obtain ⟨S, w0, nd, cd, R, C, W, N, rfl, ls, hw, td, wok, wl, kw, nok, q⟩ := h
    -- slots world=0 grid=1 cell=2 content=3
    refine ⟨_, (pss_cons (ps_set (i := 1) scLawGrid.nd rfl (Or.inl rfl) (pe_make T.mkGrid (okGrid_Init T) (hr.mono (by decide)) (by rfl) T.gKGrid T.bGrid_Init .nil pass0 (pa_cons (pe_ix ix_list (pv 0) pe_int (fun _ _ => rfl)) (pa_cons (pe_ix ix_list (pv 0) pe_int (fun _ _ => rfl)) pa_nil))))
        (pss_cons (ps_lock (ps_for PassesOwn.never rfl (pi_keys (pe_ix ix_list (pv 0) pe_int (fun _ _ => rfl))) (pg_name (i := 2) scLawGrid.nd rfl (Or.inl rfl))
          (pss_one (ps_expr (pe_meth (pv 1) T.clGrid T.meGrid_Put (okGrid_Put T) (hr.mono (by decide)) T.bGrid_Put .nil pass0 (pa_cons (pv 2) (pa_cons (pe_lc (own := [("content", 3)]) (g := gName 3) (tt := tYes) rfl scLawGrid.nd (pi_list (pe_dget (units2 hr) (pe_ix (ix_listK (K := K) rfl) (pv 0) pe_int (fun _ _ => rfl)) (pv 2) (fun _ _ => rfl))) (blkOk_by (own := [("content", 3)]) (N := ["world", "grid", "cell", "content"]) (sc := defScope sLawGrid) (by decide +kernel)) (fun _ _ _ _ _ => (pg_name (i := 3) scLawGrid.nd rfl (Or.inl rfl))) (fun _ _ _ _ _ => pts_nil) (fun _ _ _ _ _ => (pv 3))) pa_nil)))))))
        (pss_cons (ps_expr (pe_call (okLawSetNames T) (hr.mono (by decide)) (by rfl) T.gLawSetNames T.FLawSetNames.kp T.bLawSetNames .nil pass0 (pa_cons (pv 1) (pa_cons (pe_ix ix_list (pv 0) pe_int (fun _ _ => rfl)) pa_nil))))
        (pss_one (ps_ret (pv 1)))))), ?_⟩
    refine ⟨_, rfl, w0, _, _, _, rfl, rfl, SqL.of hw, atI_nat (j := 0) rfl, _, rfl, w0, _, _, _, rfl, rfl, SqL.of hw, atI_nat (j := 1) rfl, ?_⟩
    refine fun x dy hx hdy hne => ⟨x, dy, R, C, rfl, upd_same, fun g H1 eg er ec s1 n1 n2 G0 => ⟨rfl, ?_⟩⟩
    obtain ⟨s5, f0, f1, f2⟩ := new_grid hx hdy hne eg s1 n1 n2 G0
    subst eg
    clear s1 n1 n2 hx hdy hne
    obtain ⟨⟨kvs, hcr, eC, _⟩, ⟨nvs, hnr, eN, _⟩⟩ := id td
    obtain ⟨cS, hc⟩ := rmS_some hcr
    obtain ⟨nS, hn⟩ := rmS_some hnr
    have ap : ∀ {b : Addr} {u : HO}, H b = some u → b ≠ g.cd ∧ b ≠ g.nd ∧ b ≠ g.G := fun e => ⟨ne_of_none e f1, ne_of_none e f2, ne_of_none e f0⟩
    -- the grid's things stand outside of S
    have G1 : GD K T.cGrid (rmS S H1) g [] [] := by
      have off : ∀ {a : Addr}, H a = none → a ∉ S := fun e => ls.fresh e
      obtain ⟨⟨dx, h1⟩, ⟨ks, h2, h3, h4⟩, ⟨ns, h5, h6, h7⟩⟩ := G0
      have k0 : ks = [] := List.eq_nil_of_length_eq_zero (by rw [h3.len]; rfl)
      have n0 : ns = [] := List.eq_nil_of_length_eq_zero (by rw [h6.len]; rfl)
      subst k0 n0
      exact ⟨⟨dx, (rmS_of (off f0)).trans h1⟩, ⟨[], (rmS_of (off f1)).trans h2, RepP.nil, h4⟩, ⟨[], (rmS_of (off f2)).trans h5, RepP.nil, h7⟩⟩
    have hc1 := s5 _ _ hc
    refine ⟨cd, _, hc1, trivial, fun od => ?_⟩
    have nw : w0 ≠ cd := fun z => by
      rw [z, hc] at hw
      cases hw
    have tf : ∀ b u, H b = some u → b ≠ cd → (upd H1 cd (.frz od (.dT kvs))) b = some u := fun b u e n => by
      rw [upd_ne n]
      exact s5 _ _ e
    have Gf : GD K T.cGrid (rmS S (upd H1 cd (.frz od (.dT kvs)))) g [] [] := by
      rw [rmS_upd cS]
      exact G1.lt ((rmS_of cS).trans hc1) (fun _ z => by cases z) (fun _ _ z => by cases z) (fun _ z => by cases z) (fun _ _ z => by cases z) (ap hc).2.2 (ap hc).1 (ap hc).2.1
    have hF : (upd H1 cd (.frz od (.dT kvs))) cd = some (.frz od (.dT kvs)) := upd_same
    have lsF : Ls S (upd H1 cd (.frz od (.dT kvs))) := fun y hy => by
      obtain ⟨us, e⟩ := ls y hy
      exact ⟨us, tf _ _ e fun z => cS (z ▸ hy)⟩
    have tn0 := tf _ _ hw nw
    have same_end : ∀ J, KG g (upd H1 cd (.frz od (.dT kvs))) J → Same H (upd J cd (.dT kvs)) := fun J kg b u e => by
      by_cases z : b = cd
      · rw [z, upd_same]
        rw [z, hc] at e
        exact e
      · rw [upd_ne z]
        exact kg b u (ap e).1 (ap e).2.1 (tf b u e z)
    have kdf : ∀ J, KG g (upd H1 cd (.frz od (.dT kvs))) J → KD H J := fun J kg b u n e => kg b u (ap e).1 (ap e).2.1 (tf b u e fun z => by
      rw [z, hc] at e
      rw [← Option.some.inj e] at n
      cases n)
    have kcd : ∀ J, KG g (upd H1 cd (.frz od (.dT kvs))) J → J cd = some (.frz od (.dT kvs)) := fun J kg => kg _ _ (ap hc).1 (ap hc).2.1 hF
    generalize hFd : upd H1 cd (.frz od (.dT kvs)) = F at Gf lsF same_end kdf kcd tn0
    refine ⟨_, rfl, w0, _, _, _, rfl, rfl, SqL.of tn0, atI_nat (j := 3) rfl, cd, od, rfl, .inr ⟨kvs, by rw [← hFd]; exact upd_same, for_it (walk_keysT (d := cd) (o := od) (kvs := kvs)) (fun j σ H' => ∃ c2 c3 : Option V, σ = [some (.ref w0), some (.ref g.G), c2, c3] ∧ KG g F H' ∧ KD F H' ∧ GD K T.cGrid (rmS S H') g ((cdW W).take j) []) ⟨_, _, rfl, KG.of (Same.refl _), KD.of (Same.refl _), Gf⟩ (fun j σ H' _ ⟨_, _, _, kg, _⟩ => kcd _ kg) ?_ ?_⟩⟩
    · rintro j y σ HX H3 hj ⟨c2, c3, rfl, kg, kdd, G2⟩ ⟨rfl, k, v, q0, hkv, rfl, hq⟩
      have hl3 := eC.len
      obtain ⟨e, he⟩ : ∃ e, (cdW W)[j]? = some e := ⟨_, List.getElem?_eq_getElem (by omega)⟩
      obtain ⟨ek, _⟩ := eC.at_ j _ e hkv he
      have ek : k = idK e.1 := ek
      subst ek
      have em := List.mem_of_getElem? he
      have ndc : ((cdW W).map Prod.fst).Nodup := by
        rw [cdW_keys]
        exact wok.nd
      obtain ⟨v', ev, l, us, rfl, hlr, dp⟩ := (ents_get (fun _ _ => idK_inj) eC e.1).2 e.2 (getE_mem ndc e em)
      have hl0 := (rmS_some hlr).2
      have kd := kdf _ kg
      have hl : H3 l = some (.lst us) := kd _ _ rfl hl0
      have hw3 := kd _ _ rfl hw
      obtain ⟨⟨dz, w1r⟩, _, _⟩ := id G2
      have w1 := (rmS_some w1r).2
      have dg : DGet H3 cd (.ref q0) (some (.ref l)) := by
        rw [← ev]
        exact .inr ⟨kvs, idK e.1, q0, .inr ⟨od, kcd _ kg⟩, rfl, hq, rfl⟩
      obtain ⟨tn, te⟩ := take_new ndc he
      obtain ⟨e0, he0, rfl⟩ := List.mem_map.mp em
      have sh := wok.sh e0 he0
      have ul := dp.length
      have us2 : us.length ≤ 2 := by
        obtain ⟨c, r, ec, _, hr⟩ := sh.first
        rw [ul]
        show (e0.2.map ctD).length ≤ 2
        rw [List.length_map, ec]
        exact Nat.succ_le_succ hr
      have lt : ((cdW W).take j).length ≤ 800 := by
        rw [List.length_take]
        unfold cdW
        rw [List.length_map]
        omega
      refine ⟨_, rfl, g.G, dz, _, rfl, w1, rfl, _, rfl, _, rfl, w0, _, _, _, rfl, rfl, SqL.of hw3, atI_nat (j := 3) rfl, _, rfl, cd, .ref l, rfl, dg, l, rfl, ⟨_, SqL.of hl⟩, fun M hM => ?_⟩
      refine lc_it (walk_list (a := l) (xs := us)) (fun j H' => Same H3 H' ∧ H' M = some (.lst (us.take j))) ⟨same_new hM, upd_same⟩ (fun i H' _ h => h.1.seq (SqL.of hl)) ?_ ?_
      · rintro j y H8 H9 hj ⟨s8, hM8⟩ ⟨rfl, hy⟩
        refine ⟨rfl, yesT ⟨_, rfl, _, hM8, small1000 (by rw [List.length_take]; omega), same_mut s8 hM, ?_⟩⟩
        rw [upd_same, List.take_add_one, hy]
        rfl
      · rintro H8 ⟨s8, hM8⟩
        rw [List.take_of_length_le (Nat.le_refl _)] at hM8
        have kg8 := kg.trans (KG.of s8)
        have kd8 := kdd.trans (KD.of s8)
        refine ⟨S, g, (cdW W).take j, [], q0, M, e0.1, us, e0.2.map ctD, rfl, lsF.kd kd8, G2.same (rmS_same s8), lt, s8 _ _ hq, hM8, dp.tt (TT.of (rmS_le.trans (Same.refl _)) |>.trans (TT.kd (kdf _ kg8))), sh.shaped, fun H4 kg4 kd4 G4 => ?_⟩
        refine ⟨_, _, rfl, kg8.trans kg4, kd8.trans kd4, ?_⟩
        have es : setCell ((cdW W).take j) e0.1 (e0.2.map ctD) = (cdW W).take (j + 1) := by
          unfold setCell
          rw [sh.notBl, if_neg Bool.false_ne_true, putE_new tn, te]
        rw [← es]
        exact G4
    · rintro σ H2 ⟨c2, c3, rfl, kg, kdd, G2⟩
      have ek : (cdW W).take kvs.length = cdW W := List.take_of_length_le (by rw [eC.len]; exact Nat.le_refl _)
      rw [ek] at G2
      have hft := kcd _ kg
      refine ⟨hft, ?_⟩
      have G3 : GD K T.cGrid (rmS S (upd H2 cd (.dT kvs))) g (cdW W) [] := by
        rw [rmS_upd cS]
        exact G2.lt ((rmS_of cS).trans hft) (fun _ z => by cases z) (fun _ _ z => by cases z) (fun _ z => by cases z) (fun _ _ z => by cases z) (ap hc).2.2 (ap hc).1 (ap hc).2.1
      have s3 := same_end _ kg
      generalize upd H2 cd (.dT kvs) = H3 at G3 s3
      refine ⟨_, rfl, _, rfl, w0, _, _, _, rfl, rfl, SqL.of (s3 _ _ hw), atI_nat (j := 2) rfl, S, g, cdW W, N, nd, rfl, ls.same s3, G3, ⟨nvs, rmS_same s3 _ _ hnr, entsN_kd (KD.of (rmS_same s3)) eN⟩, (ap hn).2.1, kw, nok, fun H4 N' kg4 kd4 G4 sn => ?_⟩
      refine ⟨_, rfl, q g N' H4 (fun b u e => kg4 b u (ap e).1 (ap e).2.1 (s3 b u e)) f0 f1 f2 er ec G4 sn⟩
/-! ### != of dicts with tuple keys -/
section
open PySem PySem.Calls PyProof.Rows PyProof.V PySem.Spec
variable {prog : Program} {w : World} {κ : Type} [DecidableEq κ] {knd : HeapKind prog w κ} {A : Around} {s : Shared}
theorem rcN_dictsH {a b : Addr} {xa xb : List (κ × Addr × Value)} {c : Bool} (hk : knd.room A.in1) (ha : (a == sysModules) = false) (hb : (b == sysModules) = false)
    (da : s.heap.DictOfH knd a xa) (db : s.heap.DictOfH knd b xb) (hu : A.units < cLine) (hits : xa.length = xb.length → HitsH prog w A.in1 s xb xa c) (E Q : Value → Shared → Prop) (h : Q (.bool (!(xa.length == xb.length && c))) s) : wpAny (model prog w) A (compareOp .NotEq (.ref a) (.ref b)) Q E s := by
  have ta := da.typeIs
  have tb := db.typeIs
  have body : wpAny (model prog w) A.in1 (Builtin.Dict.samePairs (toString "dict." ++ toString "__ne__") a b) (fun r s' => Q (.bool (!r)) s') E s := samePairsH hk ha hb da db hits h
  refine wpAny_richCompare_same_room (op := .NotEq) ta tb PySem.F.slot_dict_ne (wpAny_call_entry PySem.F.slot_dict_ne ta PySem.F.entry_dict_ne ?_ (PySem.F.args_dict_ne_2 _ _)) hu
  show wpAny _ _ (Builtin.Dict.dictSlotArgs "__ne__" ⟨[.ref a, .ref b], []⟩ >>= _) _ _ s
  unfold Builtin.Dict.dictSlotArgs
  have args : ∀ (R : Value × Value → Shared → Prop), R (.ref a, .ref b) s → wpAny (model prog w) A.in1 (pure (Value.ref a, Value.ref b)) R E s := fun R r => wpAny_pure r
  refine wpAny_bind (wpAny_bind (wpAny_notOrdered_dict ta (args _ ?_)))
  refine wpAny_bind (wpAny_isInstance (T := "dict") tb PySem.F.sub_dict_dict ?_)
  rw [if_neg (by decide)]
  refine wpAny_bind (wpAny_pure (wpAny_bind (wpAny_pure (wpAny_bind ?_))))
  refine wpAny_mono body (fun r s' hq => wpAny_pure ⟨_, rfl, (fun z => nomatch z), ?_⟩) fun _ _ z => z
  rw [show (r == false) = !r by cases r <;> rfl]
  exact hq
end
section
variable {X : Cx}
def rNeT (K : PySem.W.Frag) {ι β : Type} [DecidableEq ι] (f : ι → List Key) (vd : β → PyData) : R2 := fun x y H Q => ∃ a b ks ls D D', x = .ref a ∧ y = .ref b ∧ H a = some (.dT ks) ∧ H b = some (.dT ls) ∧ Ents f (DpAs K H vd) ks D ∧ Ents f (DpAs K H vd) ls D' ∧ (∀ e ∈ D, SeqAt.shaped (vd e.2) = true) ∧ (∀ e ∈ D', SeqAt.shaped (vd e.2) = true) ∧ Q (.bl (!eqE vd D D')) H
theorem op_neT {ι β : Type} [DecidableEq ι] {f : ι → List Key} (hf : ∀ a b, f a = f b → a = b) {vd : β → PyData} (hu : X.A.units + 65 < cLine) : OpR X (compareOp .NotEq) (rNeT X.K f vd) := by
  intro pins s σ H x y v u Q I rx ry h
  obtain ⟨a, b, ks, ls, D, D', rfl, rfl, ea, eb, en, en', sh, sh', q⟩ := h
  obtain rfl : v = Value.ref a := rx
  obtain rfl : u = Value.ref b := ry
  obtain ⟨_, ya, xa, ra, da⟩ := dt_of I.hok ea
  obtain ⟨_, yb, xb, rb, db⟩ := dt_of I.hok eb
  refine rcN_dictsH (knd := tupleKind (mixKind X.prog X.w)) (A := X.A) (by show X.A.units + 1 < cLine; omega) ya yb da db (by omega) (fun _ => hitsT hf I (A := X.A.in1) (by show X.A.units + 1 + 64 < cLine; omega) rb en' sh' ra en sh) _ _ ?_
  have e1 : xa.length = D.length := by rw [← en.len, Paired.length ra]
  have e2 : xb.length = D'.length := by rw [← en'.len, Paired.length rb]
  rw [e1, e2]
  exact ⟨.bl _, H, I, rfl, q⟩
/-- for x in xs, xs a list or a tuple -/
theorem pi_or {tg l : Expr} {t1 t2 : TI} (h1 : PI X tg l t1) (h2 : PI X tg l t2) : PI X tg l (fun σ H R => t1 σ H R ∨ t2 σ H R) := ⟨fun pins s σ H R I h => h.elim (h1.run pins s σ H R I) (h2.run pins s σ H R I)⟩
end
/-! ### data with tuples of the text's own -/
mutual
inductive Dk (K : PySem.W.Frag) (H : Hp) : V → PyData → Prop
  | non : Dk K H .non .none
  | bl (b : Bool) : Dk K H (.bl b) (.bool b)
  | int (i : Int) : Dk K H (.int i) (.int i)
  | str (x : Str) : Dk K H (.str x) (.str x)
  | tup {a : Addr} {xs : List V} {ds : List PyData} : TP K H a xs → DkAll K H xs ds → Dk K H (.ref a) (.tuple ds)
inductive DkAll (K : PySem.W.Frag) (H : Hp) : List V → List PyData → Prop
  | nil : DkAll K H [] []
  | cons {x : V} {d : PyData} {xs : List V} {ds : List PyData} : Dk K H x d → DkAll K H xs ds → DkAll K H (x :: xs) (d :: ds)
end
theorem TP.tt {K : PySem.W.Frag} {H H' : Hp} {a : Addr} {xs : List V} (e : TT H H') (h : TP K H a xs) : TP K H' a xs := h.imp (e a xs) id
theorem tp_of {K : PySem.W.Frag} {H : Hp} {a : Addr} {xs : List V} (k : ∀ H, SqT K H a xs) (w : ∃ o, K.lookup a = some o ∧ o.cls = .type "tuple" ∧ o.dict = none) : TP K H a xs := .inr ⟨k, by
  obtain ⟨o, e, c, _⟩ := w
  exact ⟨o, e, c⟩⟩
mutual
theorem Dk.tt {K : PySem.W.Frag} {H H' : Hp} (e : TT H H') : ∀ {v : V} {d : PyData}, Dk K H v d → Dk K H' v d
  | _, _, .non => .non
  | _, _, .bl b => .bl b
  | _, _, .int i => .int i
  | _, _, .str x => .str x
  | _, _, .tup h r => .tup (h.tt e) (r.tt e)
theorem DkAll.tt {K : PySem.W.Frag} {H H' : Hp} (e : TT H H') : ∀ {vs : List V} {ds : List PyData}, DkAll K H vs ds → DkAll K H' vs ds
  | _, _, .nil => .nil
  | _, _, .cons h r => .cons (h.tt e) (r.tt e)
end
mutual
theorem Dk.dp {K : PySem.W.Frag} {H : Hp} : ∀ {v : V} {d : PyData}, Dk K H v d → Dp K H v d
  | _, _, .non => .non
  | _, _, .bl b => .bl b
  | _, _, .int i => .int i
  | _, _, .str x => .str x
  | _, _, .tup h r => .tup h.sq r.dp
theorem DkAll.dp {K : PySem.W.Frag} {H : Hp} : ∀ {vs : List V} {ds : List PyData}, DkAll K H vs ds → DpAll K H vs ds
  | _, _, .nil => .nil
  | _, _, .cons h r => .cons h.dp r.dp
end
mutual
theorem Dt.dk {K : PySem.W.Frag} {H : Hp} : ∀ {v : V} {d : PyData}, Dt H v d → Dk K H v d
  | _, _, .non => .non
  | _, _, .bl b => .bl b
  | _, _, .int i => .int i
  | _, _, .str x => .str x
  | _, _, .tup h r => .tup (.inl h) r.dk
theorem DtAll.dk {K : PySem.W.Frag} {H : Hp} : ∀ {vs : List V} {ds : List PyData}, DtAll H vs ds → DkAll K H vs ds
  | _, _, .nil => .nil
  | _, _, .cons h r => .cons h.dk r.dk
end
theorem DkAll.length {K : PySem.W.Frag} {H : Hp} : ∀ {vs : List V} {ds : List PyData}, DkAll K H vs ds → vs.length = ds.length
  | _, _, .nil => rfl
  | _, _, .cons _ r => by rw [List.length_cons, List.length_cons, r.length]
theorem DkAll.at_ {K : PySem.W.Frag} {H : Hp} : ∀ {vs : List V} {ds : List PyData}, DkAll K H vs ds → ∀ (i : Nat) v d, vs[i]? = some v → ds[i]? = some d → Dk K H v d
  | _, _, .nil, i, v, d, h, _ => by simp at h
  | _, _, .cons h r, 0, v, d, h1, h2 => by
    obtain rfl := Option.some.inj h1
    obtain rfl := Option.some.inj h2
    exact h
  | _, _, .cons h r, i + 1, v, d, h1, h2 => r.at_ i v d h1 h2
theorem scal_dk {K : PySem.W.Frag} {H : Hp} {x y : V} {d : PyData} (h : scalD d = true) (hx : Dk K H x d) (hy : Dk K H y d) : x = y ∧ Scal y := by
  cases hx <;> cases hy <;> first | exact ⟨rfl, trivial⟩ | cases h
theorem LkK.scal {K : PySem.W.Frag} {H : Hp} {n : Nat} {x y : V} (h : x = y ∧ Scal y) : LkK K H n x y := by
  cases n with
  | zero => exact h
  | succ n => exact .inl h
theorem lk_dk {K : PySem.W.Frag} {H : Hp} : ∀ (n : Nat) {x y : V} {d : PyData}, tiny n d → Dk K H x d → Dk K H y d → LkK K H n x y
  | 0, x, y, d, t, hx, hy => scal_dk t hx hy
  | n + 1, x, y, d, t, hx, hy => by
    rcases t with t | ⟨ds, rfl, hl, hi⟩
    · exact .inl (scal_dk t hx hy)
    · cases hx with
      | tup ha ra =>
        cases hy with
        | tup hb rb =>
          refine .inr (.inl ⟨_, _, _, _, rfl, rfl, ha, hb, by rw [ra.length, rb.length], by rw [ra.length]; omega, fun i u v h1 h2 => ?_⟩)
          have hlt : i < ds.length := by
            have := (List.getElem?_eq_some_iff.mp h1).1
            rw [ra.length] at this
            exact this
          have e := List.getElem?_eq_getElem hlt
          exact lk_dk n (hi _ (List.getElem_mem hlt)) (ra.at_ i _ _ h1 e) (rb.at_ i _ _ h2 e)
theorem Dk.tup_inv {K : PySem.W.Frag} {H : Hp} {v : V} {ds : List PyData} (h : Dk K H v (.tuple ds)) : ∃ a xs, v = .ref a ∧ TP K H a xs ∧ DkAll K H xs ds := by
  cases h with
  | tup h r => exact ⟨_, _, rfl, h, r⟩
theorem DkAll.un {K : PySem.W.Frag} {H : Hp} {xs : List V} {d : PyData} {ds : List PyData} (h : DkAll K H xs (d :: ds)) : ∃ x r, xs = x :: r ∧ Dk K H x d ∧ DkAll K H r ds := by
  cases h with
  | cons h r => exact ⟨_, _, rfl, h, r⟩
theorem DkAll.end_ {K : PySem.W.Frag} {H : Hp} {xs : List V} (h : DkAll K H xs []) : xs = [] := by
  cases h
  rfl
theorem Dk.str_inv {K : PySem.W.Frag} {H : Hp} {v : V} {s : Str} (h : Dk K H v (.str s)) : v = .str s := by
  cases h
  rfl
theorem Dk.int_inv {K : PySem.W.Frag} {H : Hp} {v : V} {i : Int} (h : Dk K H v (.int i)) : v = .int i := by
  cases h
  rfl
/-! ### values -/
inductive Val where
  | blank
  | text (s : OkS)
  | fault (s : OkS)
  | num (x y : Int)
def frD (x y : Int) : PyData := .tuple [.int x, .int y]
def valD : Val → PyData
  | .blank => .tuple [.str "blank"]
  | .text s => .tuple [.str "text", .str s.1]
  | .fault s => .tuple [.str "fault", .str s.1]
  | .num x y => .tuple [.str "number", frD x y]
/-- the value v stands at the heap -/
def VA (K : PySem.W.Frag) (H : Hp) (v : V) (x : Val) : Prop := Dk K H v (valD x)
theorem VA.tt {K : PySem.W.Frag} {H H' : Hp} {v : V} {x : Val} (e : TT H H') (h : VA K H v x) : VA K H' v x := Dk.tt e h
theorem VA.same {K : PySem.W.Frag} {H H' : Hp} {v : V} {x : Val} (e : Same H H') (h : VA K H v x) : VA K H' v x := Dk.tt (TT.of e) h
theorem VA.two {K : PySem.W.Frag} {H : Hp} {v : V} {s t : Str} (h : Dk K H v (.tuple [.str s, .str t])) : ∃ a, v = .ref a ∧ TP K H a [.str s, .str t] := by
  obtain ⟨a, xs, rfl, ha, r⟩ := h.tup_inv
  obtain ⟨_, _, rfl, h1, r⟩ := r.un
  obtain ⟨_, _, rfl, h2, r⟩ := r.un
  obtain rfl := r.end_
  rw [h1.str_inv, h2.str_inv] at ha
  exact ⟨a, rfl, ha⟩
theorem VA.blank {K : PySem.W.Frag} {H : Hp} {v : V} (h : VA K H v .blank) : ∃ a, v = .ref a ∧ TP K H a [.str "blank"] := by
  obtain ⟨a, xs, rfl, ha, r⟩ := h.tup_inv
  obtain ⟨_, _, rfl, h1, r⟩ := r.un
  obtain rfl := r.end_
  rw [h1.str_inv] at ha
  exact ⟨a, rfl, ha⟩
theorem VA.num {K : PySem.W.Frag} {H : Hp} {v : V} {x y : Int} (h : VA K H v (.num x y)) : ∃ a p, v = .ref a ∧ TP K H a [.str "number", .ref p] ∧ TP K H p [.int x, .int y] := by
  obtain ⟨a, xs, rfl, ha, r⟩ := h.tup_inv
  obtain ⟨_, _, rfl, h1, r⟩ := r.un
  obtain ⟨_, _, rfl, h2, r⟩ := r.un
  obtain rfl := r.end_
  obtain ⟨p, ys, rfl, hp, r2⟩ := Dk.tup_inv h2
  obtain ⟨_, _, rfl, h3, r2⟩ := r2.un
  obtain ⟨_, _, rfl, h4, r2⟩ := r2.un
  obtain rfl := r2.end_
  rw [h1.str_inv] at ha
  rw [h3.int_inv, h4.int_inv] at hp
  exact ⟨a, p, rfl, ha, hp⟩
theorem VA.mkNum {K : PySem.W.Frag} {H : Hp} {a p : Addr} {x y : Int} (ha : TP K H a [.str "number", .ref p]) (hp : TP K H p [.int x, .int y]) : VA K H (.ref a) (.num x y) := .tup ha (.cons (.str _) (.cons (.tup hp (.cons (.int _) (.cons (.int _) .nil))) .nil))
theorem VA.mkFault {K : PySem.W.Frag} {H : Hp} {a : Addr} {s : OkS} (ha : TP K H a [.str "fault", .str s.1]) : VA K H (.ref a) (.fault s) := .tup ha (.cons (.str _) (.cons (.str _) .nil))
theorem okv4 : PyData.strOk ("blank" : Str) = true ∧ PyData.strOk ("text" : Str) = true ∧ PyData.strOk ("fault" : Str) = true ∧ PyData.strOk ("number" : Str) = true := by decide +kernel
theorem valD_shaped (x : Val) : SeqAt.shaped (valD x) = true := by
  show (PyData.canLay0 (valD x) && decide (PyData.depth (valD x) ≤ 64)) = true
  rw [Bool.and_eq_true]
  cases x with
  | blank => exact ⟨by simp [valD, PyData.canLay0, PyData.canLayAll0, okv4], by simp [valD, PyData.depth, PyData.depthAll]⟩
  | text s => exact ⟨by simp [valD, PyData.canLay0, PyData.canLayAll0, okv4, s.2], by simp [valD, PyData.depth, PyData.depthAll]⟩
  | fault s => exact ⟨by simp [valD, PyData.canLay0, PyData.canLayAll0, okv4, s.2], by simp [valD, PyData.depth, PyData.depthAll]⟩
  | num x y => exact ⟨by simp [valD, frD, PyData.canLay0, PyData.canLayAll0, okv4], by simp [valD, frD, PyData.depth, PyData.depthAll]⟩
theorem valD_tiny (x : Val) : tiny 2 (valD x) := by
  cases x with
  | blank => exact .inr ⟨_, rfl, (by show 1 ≤ 100; decide), fun d hd => by simp at hd; subst hd; exact .inl rfl⟩
  | text s => exact .inr ⟨_, rfl, (by show 2 ≤ 100; decide), fun d hd => by simp at hd; rcases hd with rfl | rfl <;> exact .inl rfl⟩
  | fault s => exact .inr ⟨_, rfl, (by show 2 ≤ 100; decide), fun d hd => by simp at hd; rcases hd with rfl | rfl <;> exact .inl rfl⟩
  | num x y =>
    refine .inr ⟨_, rfl, (by show 2 ≤ 100; decide), fun d hd => ?_⟩
    simp at hd
    rcases hd with rfl | rfl
    · exact .inl rfl
    · refine .inr ⟨_, rfl, (by show 2 ≤ 100; decide), fun d hd => ?_⟩
      simp at hd
      rcases hd with rfl | rfl <;> rfl
theorem va_same {K : PySem.W.Frag} {H : Hp} {u v : V} {x : Val} (h1 : VA K H u x) (h2 : VA K H v x) : LkK K H 2 u v := lk_dk 2 (valD_tiny x) h1 h2
def spFraction (K : PySem.W.Frag) : Sp := fun vs H Q _ => ∃ (n d : Int), vs = [.int n, .int d] ∧ d ≠ 0 ∧ d.natAbs < 2 ^ 900 ∧ ∀ p x y, H p = none → Low n d x y → Q (.ref p) (upd H p (.tup [.int x, .int y]))
theorem okFraction (T : Txt K mg) : FnOk P w K mg base CX0 1 T.fFraction T.fdFraction ["n", "d"] (spFraction K) := by
  refine T.FFraction.ok scFraction (fun vs H Q E h => ?_) (fun cdv A outer s H vs Q E hr h => ?_)
  · obtain ⟨n, d, rfl, _⟩ := h
    rfl
  · obtain ⟨n, d, rfl, hd, hz, q⟩ := h
    -- slots n=0 d=1 common=2
    refine ⟨_, (pss_cons (ps_set (i := 2) scFraction.nd rfl (Or.inl rfl) (pe_callBfun cr_gcd (by rfl) T.g_gcd (pa_cons (pv 0) (pa_cons (pv 1) pa_nil))))
        (C8.pss_cut (ps_if (pt_cmpR op_lt (pv 1) pe_int (nomark _))
          (pss_one (ps_set (i := 2) scFraction.nd rfl (Or.inl rfl) (pe_un un_neg (pv 2))))
          pss_nil)
        (pss_one (ps_ret (pe_tup (pa_cons (pe_op op_fdivZ (pv 0) (pv 2)) (pa_cons (pe_op op_fdivZ (pv 1) (pv 2)) pa_nil))))))), ?_⟩
    have hb : (cmn n d).natAbs < 2 ^ 900 := by
      rw [cmn_abs]
      exact Nat.lt_of_le_of_lt (Nat.le_of_dvd (by omega) (Nat.gcd_dvd_right _ _)) hz
    have hl : (cmn n d).natAbs.log2 < 9000 := Nat.lt_of_lt_of_le (PySem.Flt.log2_lt_of (by decide) hb) (by decide)
    have h0 : cmn n d ≠ 0 := by
      have := cmn_abs n d
      have hg : 0 < Nat.gcd n.natAbs d.natAbs := Nat.gcd_pos_of_pos_right _ (by omega)
      omega
    refine ⟨_, rfl, _, rfl, _, _, rfl, ?_⟩
    refine ⟨fun σ H' => H' = H ∧ σ = [some (.int n), some (.int d), some (.int (cmn n d))], ?_, ?_⟩
    · refine ⟨_, rfl, _, _, rfl, rfl, _, rfl, ite2 (fun c => ?_) (fun c => ?_)⟩
      · refine ⟨_, rfl, _, rfl, rfl, ?_⟩
        have c2 : d < 0 := of_decide_eq_true c
        unfold cmn
        rw [if_pos c2]
        rfl
      · refine ⟨rfl, ?_⟩
        have c2 : ¬ d < 0 := fun z => c (decide_eq_true z)
        unfold cmn
        rw [if_neg c2]
        rfl
    · rintro σ H' ⟨rfl, rfl⟩
      refine ⟨_, rfl, _, rfl, _, _, rfl, rfl, ⟨h0, hl⟩, _, rfl, _, rfl, _, _, rfl, rfl, ⟨h0, hl⟩, (by show 2 ≤ sizeLine; decide), fun p hp => ?_⟩
      exact q p _ _ hp (low_of hd)
theorem low_one {n d x y x2 y2 : Int} (hd : d ≠ 0) (a : Low n d x y) (b : Low n d x2 y2) : x = x2 ∧ y = y2 := by
  have h : x * y2 = x2 * y := by
    have h1 : (x * y2) * d = (x2 * y) * d := by
      rw [Int.mul_assoc, Int.mul_comm y2, ← Int.mul_assoc, a.eq, Int.mul_assoc x2, Int.mul_comm y d, ← Int.mul_assoc, b.eq, Int.mul_assoc, Int.mul_assoc, Int.mul_comm y]
    exact Int.eq_of_mul_eq_mul_right hd h1
  have hN : x.natAbs * y2.natAbs = x2.natAbs * y.natAbs := by
    rw [← Int.natAbs_mul, ← Int.natAbs_mul, h]
  have c1 : Nat.Coprime x.natAbs y.natAbs := a.cop
  have c2 : Nat.Coprime x2.natAbs y2.natAbs := b.cop
  have d1 : y.natAbs ∣ y2.natAbs := c1.symm.dvd_of_dvd_mul_left (by rw [hN]; exact Nat.dvd_mul_left _ _)
  have d2 : y2.natAbs ∣ y.natAbs := c2.symm.dvd_of_dvd_mul_left (by rw [← hN]; exact Nat.dvd_mul_left _ _)
  have ey : y.natAbs = y2.natAbs := Nat.dvd_antisymm d1 d2
  have p1 := a.pos
  have p2 := b.pos
  have e : y = y2 := by omega
  subst e
  exact ⟨Int.eq_of_mul_eq_mul_right (by omega) h, rfl⟩
/-! ### in range -/
def inR (n d : Int) : Bool := decide (-1000000000000000000 ≤ n) && decide (n ≤ 1000000000000000000) && decide (d ≤ 1000000000000000000)
def spInRange (K : PySem.W.Frag) : Sp := fun vs H Q _ => ∃ (a : Addr) (n d : Int), vs = [.ref a] ∧ SqT K H a [.int n, .int d] ∧ Q (.bl (inR n d)) H
theorem okInRange (T : Txt K mg) : FnOk P w K mg base CX0 1 T.fInRange T.fdInRange ["x"] (spInRange K) := by
  refine T.FInRange.ok scInRange (fun vs H Q E h => ?_) (fun cdv A outer s H vs Q E hr h => ?_)
  · obtain ⟨a, n, d, rfl, _⟩ := h
    rfl
  · obtain ⟨a, n, d, rfl, ha, q⟩ := h
    -- slots x=0
    refine ⟨_, (pss_one (ps_ret (pe_and (pe_chain op_le op_le (pe_un un_neg (pe_glob (v := (.int 1000000000000000000)) rfl T.g_LIMIT ⟨_, rfl⟩)) (pe_ix ix_tup (pv 0) pe_int (fun _ _ => rfl)) (pe_glob (v := (.int 1000000000000000000)) rfl T.g_LIMIT ⟨_, rfl⟩)) (pe_one (pe_cmpR op_le (pe_ix ix_tup (pv 0) pe_int (fun _ _ => rfl)) (pe_glob (v := (.int 1000000000000000000)) rfl T.g_LIMIT ⟨_, rfl⟩) (nomark _)))))), ?_⟩
    refine ⟨_, rfl, _, rfl, a, _, _, _, rfl, rfl, ha, atI_nat (j := 0) rfl, _, _, rfl, rfl, _, rfl, ?_⟩
    unfold inR at q
    refine ite2 (fun c => ?_) (fun c => ?_)
    · have e : decide (-1000000000000000000 ≤ n) = true := c
      rw [e, Bool.true_and] at q
      refine ⟨_, _, rfl, rfl, _, rfl, ?_⟩
      refine ite2 (fun c2 => ?_) (fun c2 => ?_)
      · have e2 : decide (n ≤ 1000000000000000000) = true := c2
        rw [e2, Bool.true_and] at q
        exact ⟨_, rfl, a, _, _, _, rfl, rfl, ha, atI_nat (j := 1) rfl, _, _, rfl, rfl, q⟩
      · have e2 : decide (n ≤ 1000000000000000000) = false := Bool.eq_false_iff.mpr c2
        rw [e2] at q
        exact q
    · have e : decide (-1000000000000000000 ≤ n) = false := Bool.eq_false_iff.mpr c
      rw [e] at q
      exact ⟨_, rfl, iteF q⟩
def spRes (n d : Int) (H : Hp) (Q : VK) : Prop := (∀ p x y H', Same H H' → H' p = some (.tup [.int x, .int y]) → Low n d x y → inR x y = true → Q (.ref p) H') ∧ (∀ x y H', Same H H' → Low n d x y → inR x y = false → Q .non H')
def spResult (K : PySem.W.Frag) : Sp := fun vs H Q _ => ∃ (n d : Int), vs = [.int n, .int d] ∧ d ≠ 0 ∧ d.natAbs < 2 ^ 900 ∧ spRes n d H Q
theorem okResult (T : Txt K mg) : FnOk P w K mg base CX0 2 T.fResult T.fdResult ["n", "d"] (spResult K) := by
  refine T.FResult.ok scResult (fun vs H Q E h => ?_) (fun cdv A outer s H vs Q E hr h => ?_)
  · obtain ⟨n, d, rfl, _⟩ := h
    rfl
  · obtain ⟨n, d, rfl, hd, hz, q1, q2⟩ := h
    -- slots n=0 d=1 x=2
    refine ⟨_, (pss_cons (ps_set (i := 2) scResult.nd rfl (Or.inl rfl) (pe_call (okFraction T) (hr.mono (by decide)) (by rfl) T.gFraction T.FFraction.kp T.bFraction .nil pass0 (pa_cons (pv 0) (pa_cons (pv 1) pa_nil))))
        (pss_one (ps_ret (pe_ifExp (pt_val (pe_call (okInRange T) (hr.mono (by decide)) (by rfl) T.gInRange T.FInRange.kp T.bInRange .nil pass0 (pa_cons (pv 2) pa_nil))) (pv 2) pe_non)))), ?_⟩
    refine ⟨_, rfl, _, rfl, n, d, rfl, hd, hz, fun p x y hp L => ?_⟩
    refine ⟨_, rfl, p, x, y, rfl, SqT.of upd_same, _, rfl, ?_⟩
    cases e : inR x y with
    | true => exact iteT ⟨_, rfl, q1 p x y _ (same_new hp) upd_same L e⟩
    | false => exact iteF (q2 x y _ (same_new hp) L e)
theorem mul_lt900 {a b : Int} (ha : a.natAbs ≤ 10 ^ 18) (hb : b.natAbs ≤ 10 ^ 18) : (a * b).natAbs < 2 ^ 900 := by
  rw [Int.natAbs_mul]
  exact Nat.lt_of_le_of_lt (Nat.mul_le_mul ha hb) (by decide)
def spOp2 (K : PySem.W.Frag) (f g : Int → Int → Int → Int → Int) (ok : Int → Prop) : Sp := fun vs H Q _ => ∃ (a b : Addr) (n d m e : Int), vs = [.ref a, .ref b] ∧ SqT K H a [.int n, .int d] ∧ SqT K H b [.int m, .int e] ∧ Fr n d ∧ Fr m e ∧ ok m ∧ spRes (f n d m e) (g n d m e) H Q
theorem okAdd (T : Txt K mg) : FnOk P w K mg base CX0 3 T.fAdd T.fdAdd ["x", "y"] (spOp2 K (fun n d m e => n * e + m * d) (fun n d m e => d * e) (fun m => True)) := by
  refine T.FAdd.ok scAdd (fun vs H Q E h => ?_) (fun cdv A outer s H vs Q E hr h => ?_)
  · obtain ⟨a, b, n, d, m, e, rfl, _⟩ := h
    rfl
  · obtain ⟨a, b, n, d, m, e, rfl, ha, hb, ⟨n1, n2, d1, d2⟩, ⟨m1, m2, e1, e2⟩, hm, q⟩ := h
    -- slots x=0 y=1
    refine ⟨_, (pss_one (ps_ret (pe_call (okResult T) (hr.mono (by decide)) (by rfl) T.gResult T.FResult.kp T.bResult .nil pass0 (pa_cons (pe_op op_add (pe_op op_mul (pe_ix ix_tup (pv 0) pe_int (fun _ _ => rfl)) (pe_ix ix_tup (pv 1) pe_int (fun _ _ => rfl))) (pe_op op_mul (pe_ix ix_tup (pv 1) pe_int (fun _ _ => rfl)) (pe_ix ix_tup (pv 0) pe_int (fun _ _ => rfl)))) (pa_cons (pe_op op_mul (pe_ix ix_tup (pv 0) pe_int (fun _ _ => rfl)) (pe_ix ix_tup (pv 1) pe_int (fun _ _ => rfl))) pa_nil))))), ?_⟩
    refine ⟨_, rfl, a, _, _, _, rfl, rfl, ha, atI_nat (j := 0) rfl, _, rfl, b, _, _, _, rfl, rfl, hb, atI_nat (j := 1) rfl, _, _, rfl, rfl, .inl ⟨by omega, by omega⟩, _, rfl, b, _, _, _, rfl, rfl, hb, atI_nat (j := 0) rfl, _, rfl, a, _, _, _, rfl, rfl, ha, atI_nat (j := 1) rfl, _, _, rfl, rfl, .inl ⟨by omega, by omega⟩, _, _, rfl, rfl, _, rfl, a, _, _, _, rfl, rfl, ha, atI_nat (j := 1) rfl, _, rfl, b, _, _, _, rfl, rfl, hb, atI_nat (j := 1) rfl, _, _, rfl, rfl, .inl ⟨by omega, by omega⟩, _, _, rfl, ?_, mul_lt900 (by omega) (by omega), q⟩
    exact Int.mul_ne_zero (by omega) (by omega)
theorem okSubtract (T : Txt K mg) : FnOk P w K mg base CX0 3 T.fSubtract T.fdSubtract ["x", "y"] (spOp2 K (fun n d m e => n * e - m * d) (fun n d m e => d * e) (fun m => True)) := by
  refine T.FSubtract.ok scSubtract (fun vs H Q E h => ?_) (fun cdv A outer s H vs Q E hr h => ?_)
  · obtain ⟨a, b, n, d, m, e, rfl, _⟩ := h
    rfl
  · obtain ⟨a, b, n, d, m, e, rfl, ha, hb, ⟨n1, n2, d1, d2⟩, ⟨m1, m2, e1, e2⟩, hm, q⟩ := h
    -- slots x=0 y=1
    refine ⟨_, (pss_one (ps_ret (pe_call (okResult T) (hr.mono (by decide)) (by rfl) T.gResult T.FResult.kp T.bResult .nil pass0 (pa_cons (pe_op op_sub (pe_op op_mul (pe_ix ix_tup (pv 0) pe_int (fun _ _ => rfl)) (pe_ix ix_tup (pv 1) pe_int (fun _ _ => rfl))) (pe_op op_mul (pe_ix ix_tup (pv 1) pe_int (fun _ _ => rfl)) (pe_ix ix_tup (pv 0) pe_int (fun _ _ => rfl)))) (pa_cons (pe_op op_mul (pe_ix ix_tup (pv 0) pe_int (fun _ _ => rfl)) (pe_ix ix_tup (pv 1) pe_int (fun _ _ => rfl))) pa_nil))))), ?_⟩
    refine ⟨_, rfl, a, _, _, _, rfl, rfl, ha, atI_nat (j := 0) rfl, _, rfl, b, _, _, _, rfl, rfl, hb, atI_nat (j := 1) rfl, _, _, rfl, rfl, .inl ⟨by omega, by omega⟩, _, rfl, b, _, _, _, rfl, rfl, hb, atI_nat (j := 0) rfl, _, rfl, a, _, _, _, rfl, rfl, ha, atI_nat (j := 1) rfl, _, _, rfl, rfl, .inl ⟨by omega, by omega⟩, _, _, rfl, rfl, _, rfl, a, _, _, _, rfl, rfl, ha, atI_nat (j := 1) rfl, _, rfl, b, _, _, _, rfl, rfl, hb, atI_nat (j := 1) rfl, _, _, rfl, rfl, .inl ⟨by omega, by omega⟩, _, _, rfl, ?_, mul_lt900 (by omega) (by omega), q⟩
    exact Int.mul_ne_zero (by omega) (by omega)
theorem okMultiply (T : Txt K mg) : FnOk P w K mg base CX0 3 T.fMultiply T.fdMultiply ["x", "y"] (spOp2 K (fun n d m e => n * m) (fun n d m e => d * e) (fun m => True)) := by
  refine T.FMultiply.ok scMultiply (fun vs H Q E h => ?_) (fun cdv A outer s H vs Q E hr h => ?_)
  · obtain ⟨a, b, n, d, m, e, rfl, _⟩ := h
    rfl
  · obtain ⟨a, b, n, d, m, e, rfl, ha, hb, ⟨n1, n2, d1, d2⟩, ⟨m1, m2, e1, e2⟩, hm, q⟩ := h
    -- slots x=0 y=1
    refine ⟨_, (pss_one (ps_ret (pe_call (okResult T) (hr.mono (by decide)) (by rfl) T.gResult T.FResult.kp T.bResult .nil pass0 (pa_cons (pe_op op_mul (pe_ix ix_tup (pv 0) pe_int (fun _ _ => rfl)) (pe_ix ix_tup (pv 1) pe_int (fun _ _ => rfl))) (pa_cons (pe_op op_mul (pe_ix ix_tup (pv 0) pe_int (fun _ _ => rfl)) (pe_ix ix_tup (pv 1) pe_int (fun _ _ => rfl))) pa_nil))))), ?_⟩
    refine ⟨_, rfl, a, _, _, _, rfl, rfl, ha, atI_nat (j := 0) rfl, _, rfl, b, _, _, _, rfl, rfl, hb, atI_nat (j := 0) rfl, _, _, rfl, rfl, .inl ⟨by omega, by omega⟩, _, rfl, a, _, _, _, rfl, rfl, ha, atI_nat (j := 1) rfl, _, rfl, b, _, _, _, rfl, rfl, hb, atI_nat (j := 1) rfl, _, _, rfl, rfl, .inl ⟨by omega, by omega⟩, _, _, rfl, ?_, mul_lt900 (by omega) (by omega), q⟩
    exact Int.mul_ne_zero (by omega) (by omega)
theorem okDivide (T : Txt K mg) : FnOk P w K mg base CX0 3 T.fDivide T.fdDivide ["x", "y"] (spOp2 K (fun n d m e => n * e) (fun n d m e => d * m) (fun m => m ≠ 0)) := by
  refine T.FDivide.ok scDivide (fun vs H Q E h => ?_) (fun cdv A outer s H vs Q E hr h => ?_)
  · obtain ⟨a, b, n, d, m, e, rfl, _⟩ := h
    rfl
  · obtain ⟨a, b, n, d, m, e, rfl, ha, hb, ⟨n1, n2, d1, d2⟩, ⟨m1, m2, e1, e2⟩, hm, q⟩ := h
    -- slots x=0 y=1
    refine ⟨_, (pss_one (ps_ret (pe_call (okResult T) (hr.mono (by decide)) (by rfl) T.gResult T.FResult.kp T.bResult .nil pass0 (pa_cons (pe_op op_mul (pe_ix ix_tup (pv 0) pe_int (fun _ _ => rfl)) (pe_ix ix_tup (pv 1) pe_int (fun _ _ => rfl))) (pa_cons (pe_op op_mul (pe_ix ix_tup (pv 0) pe_int (fun _ _ => rfl)) (pe_ix ix_tup (pv 1) pe_int (fun _ _ => rfl))) pa_nil))))), ?_⟩
    refine ⟨_, rfl, a, _, _, _, rfl, rfl, ha, atI_nat (j := 0) rfl, _, rfl, b, _, _, _, rfl, rfl, hb, atI_nat (j := 1) rfl, _, _, rfl, rfl, .inl ⟨by omega, by omega⟩, _, rfl, a, _, _, _, rfl, rfl, ha, atI_nat (j := 1) rfl, _, rfl, b, _, _, _, rfl, rfl, hb, atI_nat (j := 0) rfl, _, _, rfl, rfl, .inl ⟨by omega, by omega⟩, _, _, rfl, ?_, mul_lt900 (by omega) (by omega), q⟩
    exact Int.mul_ne_zero (by omega) (by omega)
def spLess (K : PySem.W.Frag) : Sp := fun vs H Q _ => ∃ (a b : Addr) (n d m e : Int), vs = [.ref a, .ref b] ∧ SqT K H a [.int n, .int d] ∧ SqT K H b [.int m, .int e] ∧ Fr n d ∧ Fr m e ∧ Q (.bl (decide (n * e < m * d))) H
theorem okLess (T : Txt K mg) : FnOk P w K mg base CX0 1 T.fLess T.fdLess ["x", "y"] (spLess K) := by
  refine T.FLess.ok scLess (fun vs H Q E h => ?_) (fun cdv A outer s H vs Q E hr h => ?_)
  · obtain ⟨a, b, n, d, m, e, rfl, _⟩ := h
    rfl
  · obtain ⟨a, b, n, d, m, e, rfl, ha, hb, ⟨n1, n2, d1, d2⟩, ⟨m1, m2, e1, e2⟩, q⟩ := h
    -- slots x=0 y=1
    refine ⟨_, (pss_one (ps_ret (pe_cmpR op_lt (pe_op op_mul (pe_ix ix_tup (pv 0) pe_int (fun _ _ => rfl)) (pe_ix ix_tup (pv 1) pe_int (fun _ _ => rfl))) (pe_op op_mul (pe_ix ix_tup (pv 1) pe_int (fun _ _ => rfl)) (pe_ix ix_tup (pv 0) pe_int (fun _ _ => rfl))) (nomark _)))), ?_⟩
    exact ⟨_, rfl, a, _, _, _, rfl, rfl, ha, atI_nat (j := 0) rfl, _, rfl, b, _, _, _, rfl, rfl, hb, atI_nat (j := 1) rfl, _, _, rfl, rfl, .inl ⟨by omega, by omega⟩, _, rfl, b, _, _, _, rfl, rfl, hb, atI_nat (j := 0) rfl, _, rfl, a, _, _, _, rfl, rfl, ha, atI_nat (j := 1) rfl, _, _, rfl, rfl, .inl ⟨by omega, by omega⟩, _, _, rfl, rfl, q⟩
/-! ### the values that are reckoned -/
def fClash : Val := .fault ⟨"clash", by decide +kernel⟩
def fGone : Val := .fault ⟨"gone", by decide +kernel⟩
def fUnknown : Val := .fault ⟨"unknown", by decide +kernel⟩
def fKind : Val := .fault ⟨"kind", by decide +kernel⟩
def fZero : Val := .fault ⟨"zero", by decide +kernel⟩
def fRange : Val := .fault ⟨"range", by decide +kernel⟩
def fNone : Val := .fault ⟨"none", by decide +kernel⟩
def isR : Val → Prop
  | .fault _ => True
  | .num x y => Fl x y
  | _ => False
def loF (n d : Int) : Int × Int := (n.fdiv (cmn n d), d.fdiv (cmn n d))
theorem lo_eq {n d x y : Int} (hd : d ≠ 0) (L : Low n d x y) : x = (loF n d).1 ∧ y = (loF n d).2 := low_one hd L (low_of hd)
def resO (n d : Int) : Option (Int × Int) := if inR (loF n d).1 (loF n d).2 = true then some (loF n d) else none
def ofR : Option (Int × Int) → Val
  | none => fRange
  | some z => .num z.1 z.2
def resV (n d : Int) : Val := ofR (resO n d)
theorem inR_iff {n d : Int} : inR n d = true ↔ -1000000000000000000 ≤ n ∧ n ≤ 1000000000000000000 ∧ d ≤ 1000000000000000000 := by
  unfold inR
  simp only [Bool.and_eq_true, decide_eq_true_eq]
  exact ⟨fun ⟨⟨a, b⟩, c⟩ => ⟨a, b, c⟩, fun ⟨a, b, c⟩ => ⟨⟨a, b⟩, c⟩⟩
theorem resO_fl {n d : Int} (hd : d ≠ 0) {z : Int × Int} (h : resO n d = some z) : Fl z.1 z.2 := by
  unfold resO at h
  have L := low_of (n := n) hd
  by_cases c : inR (loF n d).1 (loF n d).2 = true
  · rw [if_pos c] at h
    obtain rfl := Option.some.inj h
    obtain ⟨a, b, e⟩ := inR_iff.mp c
    exact ⟨⟨a, b, L.pos, e⟩, L.cop⟩
  · rw [if_neg c] at h
    cases h
theorem resV_r {n d : Int} (hd : d ≠ 0) : isR (resV n d) := by
  unfold resV
  cases e : resO n d with
  | none => trivial
  | some z => exact resO_fl hd e
theorem resO_yes {n d x y : Int} (hd : d ≠ 0) (L : Low n d x y) (h : inR x y = true) : resO n d = some (x, y) := by
  obtain ⟨h1, h2⟩ := lo_eq hd L
  unfold resO
  rw [← h1, ← h2, if_pos h]
  exact congrArg some (Prod.ext h1.symm h2.symm)
theorem resO_no {n d x y : Int} (hd : d ≠ 0) (L : Low n d x y) (h : inR x y = false) : resO n d = none := by
  obtain ⟨h1, h2⟩ := lo_eq hd L
  unfold resO
  rw [← h1, ← h2, h]
  rfl
def arV (s : Str) (n d m e : Int) : Val := if s = "+" then resV (n * e + m * d) (d * e) else if s = "-" then resV (n * e - m * d) (d * e) else if s = "*" then resV (n * m) (d * e) else if m = 0 then fZero else resV (n * e) (d * m)
def calcV (s : Str) (l r : Val) : Val := match l with
  | .fault a => .fault a
  | .num n d => (match r with
    | .fault b => .fault b
    | .num m e => arV s n d m e
    | x => x)
  | x => x
theorem arV_r {s : Str} {n d m e : Int} (h1 : 0 < d) (h2 : 0 < e) : isR (arV s n d m e) := by
  have de : d * e ≠ 0 := Int.mul_ne_zero (by omega) (by omega)
  unfold arV
  split
  · exact resV_r de
  · split
    · exact resV_r de
    · split
      · exact resV_r de
      · split
        · trivial
        · exact resV_r (Int.mul_ne_zero (by omega) (by assumption))
theorem calcV_r {s : Str} {l r : Val} (hl : isR l) (hr : isR r) : isR (calcV s l r) := by
  cases l with
  | blank => exact hl.elim
  | text t => exact hl.elim
  | fault a => exact hl
  | num n d =>
    cases r with
    | blank => exact hr.elim
    | text t => exact hr.elim
    | fault a => exact hr
    | num m e => exact arV_r hl.1.pos hr.1.pos
def negV : Val → Val
  | .num x y => .num (-x) y
  | x => x
theorem negV_r {x : Val} (h : isR x) : isR (negV x) := by
  cases x with
  | num x y =>
    obtain ⟨⟨a, b, c, d⟩, e⟩ := h
    exact ⟨⟨by omega, by omega, c, d⟩, by rw [Int.natAbs_neg]; exact e⟩
  | _ => exact h
def cellN : Val → Val
  | .blank => .num 0 1
  | .text _ => fKind
  | x => x
/-- a value that is told of a cell -/
def isV : Val → Prop
  | .num x y => Fl x y
  | _ => True
theorem fl01 : Fl 0 1 := ⟨⟨by decide, by decide, by decide, by decide⟩, by decide⟩
theorem cellN_r {x : Val} (h : isV x) : isR (cellN x) := by
  cases x with
  | blank => exact fl01
  | text s => trivial
  | fault s => trivial
  | num x y => exact h
def spIsF (K : PySem.W.Frag) : Sp := fun vs H Q _ => ∃ (a : Addr) (s : Str) (xs : List V), vs = [.ref a] ∧ SqT K H a (.str s :: xs) ∧ Q (.bl (decide (V.str s = V.str "fault"))) H
theorem okIsFault (T : Txt K mg) : FnOk P w K mg base CX0 1 T.fIsFault T.fdIsFault ["value"] (spIsF K) := by
  refine T.FIsFault.ok scIsFault (fun vs H Q E h => ?_) (fun cdv A outer s H vs Q E hr h => ?_)
  · obtain ⟨a, s, xs, rfl, _⟩ := h
    rfl
  · obtain ⟨a, s, xs, rfl, ha, q⟩ := h
    -- slots value=0
    refine ⟨_, (pss_one (ps_ret (pe_cmpR op_eq (pe_ix ix_tup (pv 0) pe_int (fun _ _ => rfl)) pe_str (nomark _)))), ?_⟩
    exact ⟨_, rfl, a, _, _, _, rfl, rfl, ha, atI_nat (j := 0) rfl, rfl, q⟩
def FrA (K : PySem.W.Frag) (H : Hp) (v : V) : Option (Int × Int) → Prop
  | none => v = .non
  | some z => Dk K H v (frD z.1 z.2)
theorem FrA.inv {K : PySem.W.Frag} {H : Hp} {v : V} {x y : Int} (h : Dk K H v (frD x y)) : ∃ p, v = .ref p ∧ TP K H p [.int x, .int y] := by
  obtain ⟨p, ys, rfl, hp, r2⟩ := Dk.tup_inv h
  obtain ⟨_, _, rfl, h3, r2⟩ := r2.un
  obtain ⟨_, _, rfl, h4, r2⟩ := r2.un
  obtain rfl := r2.end_
  rw [h3.int_inv, h4.int_inv] at hp
  exact ⟨p, rfl, hp⟩
theorem frD_mk {K : PySem.W.Frag} {H : Hp} {p : Addr} {x y : Int} (h : TP K H p [.int x, .int y]) : Dk K H (.ref p) (frD x y) := .tup h (.cons (.int _) (.cons (.int _) .nil))
def spNumV (K : PySem.W.Frag) : Sp := fun vs H Q _ => ∃ (x : V) (r : Option (Int × Int)), vs = [x] ∧ FrA K H x r ∧ ∀ (v : V) (H' : Hp), Same H H' → VA K H' v (ofR r) → Q v H'
theorem okNumberValue (T : Txt K mg) : FnOk P w K mg base CX0 1 T.fNumberValue T.fdNumberValue ["x"] (spNumV K) := by
  refine T.FNumberValue.ok scNumberValue (fun vs H Q E h => ?_) (fun cdv A outer s H vs Q E hr h => ?_)
  · obtain ⟨x, r, rfl, _⟩ := h
    rfl
  · obtain ⟨x, r, rfl, hx, q⟩ := h
    -- slots x=0
    refine ⟨_, (pss_one (ps_ret (pe_ifExp (pt_cmpR op_isN (pv 0) pe_non (nomark _)) (pe_glob (v := (.ref T.p_NOT_IN_RANGE)) rfl T.g_NOT_IN_RANGE rfl) (pe_tup (pa_cons pe_str (pa_cons (pv 0) pa_nil)))))), ?_⟩
    cases r with
    | none =>
      obtain rfl := hx
      exact ⟨_, rfl, rfl, _, rfl, ite2 (fun _ => q _ H (Same.refl _) (VA.mkFault (tp_of T.k_NOT_IN_RANGE T.w_NOT_IN_RANGE))) (fun c => absurd (decide_eq_true rfl) c)⟩
    | some z =>
      obtain ⟨p, rfl, hp⟩ := FrA.inv hx
      exact ⟨_, rfl, rfl, _, rfl, ite2 (fun c => nomatch (of_decide_eq_true c)) (fun _ => ⟨_, rfl, (by show 2 ≤ sizeLine; decide), fun u hu => q _ _ (same_new hu) (VA.mkNum (.inl upd_same) (hp.tt (TT.of (same_new hu))))⟩)⟩
theorem vw : ("fault" : Str) ≠ "number" ∧ ("number" : Str) ≠ "fault" ∧ ("number" : Str) ≠ "text" ∧ ("fault" : Str) ≠ "text" ∧ ("blank" : Str) ≠ "text" ∧ ("text" : Str) ≠ "fault" ∧ ("blank" : Str) ≠ "fault" ∧ ("text" : Str) ≠ "number" ∧ ("blank" : Str) ≠ "number" ∧ ("text" : Str) ≠ "blank" ∧ ("fault" : Str) ≠ "blank" ∧ ("number" : Str) ≠ "blank" := by decide +kernel
theorem eqv_blank (x : Val) : PyData.eqv (valD x) (valD .blank) = true ↔ x = .blank := by
  cases x with
  | blank => exact ⟨fun _ => rfl, fun _ => eqv_same (valD_shaped .blank)⟩
  | text s => exact ⟨fun h => by simp [valD, PyData.eqv, PyData.eqvAll] at h, fun h => nomatch h⟩
  | fault s => exact ⟨fun h => by simp [valD, PyData.eqv, PyData.eqvAll] at h, fun h => nomatch h⟩
  | num x y => exact ⟨fun h => by simp [valD, PyData.eqv, PyData.eqvAll] at h, fun h => nomatch h⟩
def spCellN (K : PySem.W.Frag) : Sp := fun vs H Q _ => ∃ (v : V) (x : Val), vs = [v] ∧ VA K H v x ∧ ∀ (v' : V) (H' : Hp), Same H H' → VA K H' v' (cellN x) → Q v' H'
theorem okCellNumber (T : Txt K mg) : FnOk P w K mg base CX0 1 T.fCellNumber T.fdCellNumber ["value"] (spCellN K) := by
  refine T.FCellNumber.ok scCellNumber (fun vs H Q E h => ?_) (fun cdv A outer s H vs Q E hr h => ?_)
  · obtain ⟨v, x, rfl, _⟩ := h
    rfl
  · obtain ⟨v, x, rfl, hv, q⟩ := h
    -- slots value=0
    refine ⟨_, (pss_cons (ps_if (pt_cmpR (op_eqD hr.units) (pv 0) (pe_glob (v := (.ref T.p_BLANK)) rfl T.g_BLANK rfl) (nomark _))
          (pss_one (ps_ret (pe_tup (pa_cons pe_str (pa_cons (pe_glob (v := (.ref T.p_ZERO)) rfl T.g_ZERO rfl) pa_nil)))))
          pss_nil)
        (pss_one (ps_ret (pe_ifExp (pt_cmpR op_eq (pe_ix ix_tup (pv 0) pe_int (fun _ _ => rfl)) pe_str (nomark _)) (pe_glob (v := (.ref T.p_NO_NUMBER)) rfl T.g_NO_NUMBER rfl) (pv 0))))), ?_⟩
    have hb : VA K H (.ref T.p_BLANK) .blank := .tup (tp_of T.k_BLANK T.w_BLANK) (.cons (.str _) .nil)
    refine ⟨_, rfl, valD x, valD .blank, hv.dp, hb.dp, valD_shaped _, valD_shaped _, _, rfl, ite2 (fun c => ?_) (fun c => ?_)⟩
    · obtain rfl := (eqv_blank x).mp c
      exact ⟨(by show 2 ≤ sizeLine; decide), fun u hu => q _ _ (same_new hu) (VA.mkNum (.inl upd_same) (tp_of T.k_ZERO T.w_ZERO))⟩
    · have nb : x ≠ .blank := fun z => c ((eqv_blank x).mpr z)
      cases x with
      | blank => exact absurd rfl nb
      | text s =>
        obtain ⟨a, rfl, ha⟩ := VA.two hv
        exact ⟨_, rfl, a, _, _, _, rfl, rfl, ha.sq, atI_nat (j := 0) rfl, rfl, _, rfl, ifY (q _ H (Same.refl _) (VA.mkFault (tp_of T.k_NO_NUMBER T.w_NO_NUMBER)))⟩
      | fault s =>
        obtain ⟨a, rfl, ha⟩ := VA.two hv
        exact ⟨_, rfl, a, _, _, _, rfl, rfl, ha.sq, atI_nat (j := 0) rfl, rfl, _, rfl, ifN vw.2.2.2.1 ⟨_, rfl, q _ H (Same.refl _) hv⟩⟩
      | num x y =>
        obtain ⟨a, p, rfl, ha, hp⟩ := VA.num hv
        exact ⟨_, rfl, a, _, _, _, rfl, rfl, ha.sq, atI_nat (j := 0) rfl, rfl, _, rfl, ifN vw.2.2.1 ⟨_, rfl, q _ H (Same.refl _) hv⟩⟩
def spNegV (K : PySem.W.Frag) : Sp := fun vs H Q _ => ∃ (v : V) (x : Val), vs = [v] ∧ isR x ∧ VA K H v x ∧ ∀ (v' : V) (H' : Hp), Same H H' → VA K H' v' (negV x) → Q v' H'
theorem okNegated (T : Txt K mg) : FnOk P w K mg base CX0 2 T.fNegated T.fdNegated ["value"] (spNegV K) := by
  refine T.FNegated.ok scNegated (fun vs H Q E h => ?_) (fun cdv A outer s H vs Q E hr h => ?_)
  · obtain ⟨v, x, rfl, _⟩ := h
    rfl
  · obtain ⟨v, x, rfl, hR, hv, q⟩ := h
    -- slots value=0
    refine ⟨_, (pss_one (ps_ret (pe_ifExp (pt_val (pe_call (okIsFault T) (hr.mono (by decide)) (by rfl) T.gIsFault T.FIsFault.kp T.bIsFault .nil pass0 (pa_cons (pv 0) pa_nil))) (pv 0) (pe_tup (pa_cons pe_str (pa_cons (pe_tup (pa_cons (pe_un un_neg (pe_ix ix_tup (pe_ix ix_tup (pv 0) pe_int (fun _ _ => rfl)) pe_int (fun _ _ => rfl))) (pa_cons (pe_ix ix_tup (pe_ix ix_tup (pv 0) pe_int (fun _ _ => rfl)) pe_int (fun _ _ => rfl)) pa_nil))) pa_nil)))))), ?_⟩
    cases x with
    | blank => exact hR.elim
    | text s => exact hR.elim
    | fault s =>
      obtain ⟨a, rfl, ha⟩ := VA.two hv
      exact ⟨_, rfl, a, _, _, rfl, ha.sq, _, rfl, ifY ⟨_, rfl, q _ H (Same.refl _) hv⟩⟩
    | num x y =>
      obtain ⟨a, p, rfl, ha, hp⟩ := VA.num hv
      refine ⟨_, rfl, a, _, _, rfl, ha.sq, _, rfl, ifN vw.2.1 ?_⟩
      refine ⟨_, rfl, a, _, _, _, rfl, rfl, ha.sq, atI_nat (j := 1) rfl, p, _, _, _, rfl, rfl, hp.sq, atI_nat (j := 0) rfl, _, rfl, _, rfl, a, _, _, _, rfl, rfl, ha.sq, atI_nat (j := 1) rfl, p, _, _, _, rfl, rfl, hp.sq, atI_nat (j := 1) rfl, (by show 2 ≤ sizeLine; decide), fun t ht => ⟨(by show 2 ≤ sizeLine; decide), fun u hu => ?_⟩⟩
      exact q _ _ ((same_new ht).trans (same_new hu)) (VA.mkNum (.inl upd_same) (.inl ((same_new hu) _ _ upd_same)))
theorem eqv_fr (x y m e : Int) : PyData.eqv (frD x y) (frD m e) = decide (x = m ∧ y = e) := by
  unfold frD
  simp only [PyData.eqv, PyData.eqvAll, Bool.and_true]
  rw [Bool.eq_iff_iff]
  simp
theorem frD_shaped (x y : Int) : SeqAt.shaped (frD x y) = true := shaped_tup [x, y]
theorem sg4 : ("-" : Str) ≠ "+" ∧ ("*" : Str) ≠ "+" ∧ ("*" : Str) ≠ "-" ∧ ("/" : Str) ≠ "+" ∧ ("/" : Str) ≠ "-" ∧ ("/" : Str) ≠ "*" := by decide +kernel
def spCalc (K : PySem.W.Frag) : Sp := fun vs H Q _ => ∃ (s : Str) (vl vr : V) (l r : Val), vs = [.str s, vl, vr] ∧ s ∈ signsL ∧ isR l ∧ isR r ∧ VA K H vl l ∧ VA K H vr r ∧ ∀ (v' : V) (H' : Hp), Same H H' → VA K H' v' (calcV s l r) → Q v' H'
theorem okCalculated (T : Txt K mg) : FnOk P w K mg base CX0 4 T.fCalculated T.fdCalculated ["sign", "left", "right"] (spCalc K) := by
  refine T.FCalculated.ok scCalculated (fun vs H Q E h => ?_) (fun cdv A outer s H vs Q E hr h => ?_)
  · obtain ⟨s, vl, vr, l, r, rfl, _⟩ := h
    rfl
  · obtain ⟨s, vl, vr, l, r, rfl, hs, hl, hR, al, ar, q⟩ := h
    -- slots sign=0 left=1 right=2 x=3 y=4
    refine ⟨_, (pss_cons (ps_if (pt_val (pe_call (okIsFault T) (hr.mono (by decide)) (by rfl) T.gIsFault T.FIsFault.kp T.bIsFault .nil pass0 (pa_cons (pv 1) pa_nil)))
          (pss_one (ps_ret (pv 1)))
          pss_nil)
        (pss_cons (ps_if (pt_val (pe_call (okIsFault T) (hr.mono (by decide)) (by rfl) T.gIsFault T.FIsFault.kp T.bIsFault .nil pass0 (pa_cons (pv 2) pa_nil)))
          (pss_one (ps_ret (pv 2)))
          pss_nil)
        (pss_cons (ps_set (i := 3) scCalculated.nd rfl (Or.inl rfl) (pe_ix ix_tup (pv 1) pe_int (fun _ _ => rfl)))
        (pss_cons (ps_set (i := 4) scCalculated.nd rfl (Or.inl rfl) (pe_ix ix_tup (pv 2) pe_int (fun _ _ => rfl)))
        (pss_cons (ps_if (pt_cmpR op_eq (pv 0) pe_str (nomark _))
          (pss_one (ps_ret (pe_call (okNumberValue T) (hr.mono (by decide)) (by rfl) T.gNumberValue T.FNumberValue.kp T.bNumberValue .nil pass0 (pa_cons (pe_call (okAdd T) (hr.mono (by decide)) (by rfl) T.gAdd T.FAdd.kp T.bAdd .nil pass0 (pa_cons (pv 3) (pa_cons (pv 4) pa_nil))) pa_nil))))
          pss_nil)
        (pss_cons (ps_if (pt_cmpR op_eq (pv 0) pe_str (nomark _))
          (pss_one (ps_ret (pe_call (okNumberValue T) (hr.mono (by decide)) (by rfl) T.gNumberValue T.FNumberValue.kp T.bNumberValue .nil pass0 (pa_cons (pe_call (okSubtract T) (hr.mono (by decide)) (by rfl) T.gSubtract T.FSubtract.kp T.bSubtract .nil pass0 (pa_cons (pv 3) (pa_cons (pv 4) pa_nil))) pa_nil))))
          pss_nil)
        (pss_cons (ps_if (pt_cmpR op_eq (pv 0) pe_str (nomark _))
          (pss_one (ps_ret (pe_call (okNumberValue T) (hr.mono (by decide)) (by rfl) T.gNumberValue T.FNumberValue.kp T.bNumberValue .nil pass0 (pa_cons (pe_call (okMultiply T) (hr.mono (by decide)) (by rfl) T.gMultiply T.FMultiply.kp T.bMultiply .nil pass0 (pa_cons (pv 3) (pa_cons (pv 4) pa_nil))) pa_nil))))
          pss_nil)
        (pss_one (ps_ret (pe_ifExp (pt_cmpR (op_eqD hr.units) (pv 4) (pe_glob (v := (.ref T.p_ZERO)) rfl T.g_ZERO rfl) (nomark _)) (pe_glob (v := (.ref T.p_BY_ZERO)) rfl T.g_BY_ZERO rfl) (pe_call (okNumberValue T) (hr.mono (by decide)) (by rfl) T.gNumberValue T.FNumberValue.kp T.bNumberValue .nil pass0 (pa_cons (pe_call (okDivide T) (hr.mono (by decide)) (by rfl) T.gDivide T.FDivide.kp T.bDivide .nil pass0 (pa_cons (pv 3) (pa_cons (pv 4) pa_nil))) pa_nil)))))))))))), ?_⟩
    cases l with
    | blank => exact hl.elim
    | text t => exact hl.elim
    | fault t =>
      obtain ⟨a, rfl, ha⟩ := VA.two al
      exact ⟨_, rfl, a, _, _, rfl, ha.sq, _, rfl, ifY ⟨_, rfl, q _ H (Same.refl _) al⟩⟩
    | num n d =>
      obtain ⟨a, p1, rfl, ha, hp1⟩ := VA.num al
      refine ⟨_, rfl, a, _, _, rfl, ha.sq, _, rfl, ifN vw.2.1 ?_⟩
      cases r with
      | blank => exact hR.elim
      | text t => exact hR.elim
      | fault t =>
        obtain ⟨b, rfl, hb⟩ := VA.two ar
        exact ⟨_, rfl, b, _, _, rfl, hb.sq, _, rfl, ifY ⟨_, rfl, q _ H (Same.refl _) ar⟩⟩
      | num m e =>
        obtain ⟨b, p2, rfl, hb, hp2⟩ := VA.num ar
        obtain ⟨F1, g1⟩ := hl
        obtain ⟨F2, g2⟩ := hR
        have d0 : d ≠ 0 := by have := F1.pos; omega
        have e0 : e ≠ 0 := by have := F2.pos; omega
        have de0 : d * e ≠ 0 := Int.mul_ne_zero d0 e0
        refine ⟨_, rfl, b, _, _, rfl, hb.sq, _, rfl, ifN vw.2.1 ?_⟩
        refine ⟨_, rfl, a, _, _, _, rfl, rfl, ha.sq, atI_nat (j := 1) rfl, _, rfl, b, _, _, _, rfl, rfl, hb.sq, atI_nat (j := 1) rfl, ?_⟩
        have q : ∀ (v' : V) (H' : Hp), Same H H' → VA K H' v' (arV s n d m e) → Q v' H' := q
        have yes : ∀ (f g : Int) (p : Addr) (x y : Int) (H5 : Hp), g ≠ 0 → arV s n d m e = resV f g → Same H H5 → H5 p = some (.tup [.int x, .int y]) → Low f g x y → inR x y = true → spNumV K [.ref p] H5 Q (fun _ _ _ => False) := fun f g p x y H5 g0 ea s5 t5 L5 r5 =>
          ⟨.ref p, some (x, y), rfl, frD_mk (.inl t5), fun v H' s' hv => q v H' (s5.trans s') (by rw [ea]; unfold resV; rw [resO_yes g0 L5 r5]; exact hv)⟩
        have no : ∀ (f g : Int) (x y : Int) (H5 : Hp), g ≠ 0 → arV s n d m e = resV f g → Same H H5 → Low f g x y → inR x y = false → spNumV K [.non] H5 Q (fun _ _ _ => False) := fun f g x y H5 g0 ea s5 L5 r5 =>
          ⟨.non, none, rfl, rfl, fun v H' s' hv => q v H' (s5.trans s') (by rw [ea]; unfold resV; rw [resO_no g0 L5 r5]; exact hv)⟩
        simp only [signsL, List.mem_cons, List.not_mem_nil, or_false] at hs
        rcases hs with rfl | rfl | rfl | rfl
        · refine ⟨_, rfl, rfl, _, rfl, ifY ?_⟩
          have ea : arV "+" n d m e = resV (n * e + m * d) (d * e) := if_pos rfl
          exact ⟨_, rfl, _, rfl, p1, p2, n, d, m, e, rfl, hp1.sq, hp2.sq, F1, F2, trivial, fun p x y H5 s5 t5 L5 r5 => yes _ _ p x y H5 de0 ea s5 t5 L5 r5, fun x y H5 s5 L5 r5 => no _ _ x y H5 de0 ea s5 L5 r5⟩
        · refine ⟨_, rfl, rfl, _, rfl, ifN sg4.1 ⟨_, rfl, rfl, _, rfl, ifY ?_⟩⟩
          have ea : arV "-" n d m e = resV (n * e - m * d) (d * e) := (if_neg sg4.1).trans (if_pos rfl)
          exact ⟨_, rfl, _, rfl, p1, p2, n, d, m, e, rfl, hp1.sq, hp2.sq, F1, F2, trivial, fun p x y H5 s5 t5 L5 r5 => yes _ _ p x y H5 de0 ea s5 t5 L5 r5, fun x y H5 s5 L5 r5 => no _ _ x y H5 de0 ea s5 L5 r5⟩
        · refine ⟨_, rfl, rfl, _, rfl, ifN sg4.2.1 ⟨_, rfl, rfl, _, rfl, ifN sg4.2.2.1 ⟨_, rfl, rfl, _, rfl, ifY ?_⟩⟩⟩
          have ea : arV "*" n d m e = resV (n * m) (d * e) := (if_neg sg4.2.1).trans ((if_neg sg4.2.2.1).trans (if_pos rfl))
          exact ⟨_, rfl, _, rfl, p1, p2, n, d, m, e, rfl, hp1.sq, hp2.sq, F1, F2, trivial, fun p x y H5 s5 t5 L5 r5 => yes _ _ p x y H5 de0 ea s5 t5 L5 r5, fun x y H5 s5 L5 r5 => no _ _ x y H5 de0 ea s5 L5 r5⟩
        · refine ⟨_, rfl, rfl, _, rfl, ifN sg4.2.2.2.1 ⟨_, rfl, rfl, _, rfl, ifN sg4.2.2.2.2.1 ⟨_, rfl, rfl, _, rfl, ifN sg4.2.2.2.2.2 ?_⟩⟩⟩
          have ea0 : arV "/" n d m e = if m = 0 then fZero else resV (n * e) (d * m) := (if_neg sg4.2.2.2.1).trans ((if_neg sg4.2.2.2.2.1).trans (if_neg sg4.2.2.2.2.2))
          have hz : Dk K H (.ref T.p_ZERO) (frD 0 1) := frD_mk (tp_of T.k_ZERO T.w_ZERO)
          refine ⟨_, rfl, frD m e, frD 0 1, (frD_mk hp2).dp, hz.dp, frD_shaped _ _, frD_shaped _ _, _, rfl, ?_⟩
          rw [eqv_fr]
          by_cases c : m = 0
          · have e1 : e = 1 := by
              have := F2.pos
              rw [c] at g2
              simp at g2
              omega
            rw [decide_eq_true (⟨c, e1⟩ : m = 0 ∧ e = 1)]
            refine iteT (q _ H (Same.refl _) ?_)
            rw [ea0, if_pos c]
            exact VA.mkFault (tp_of T.k_BY_ZERO T.w_BY_ZERO)
          · rw [decide_eq_false (fun z => c z.1)]
            have ea : arV "/" n d m e = resV (n * e) (d * m) := ea0.trans (if_neg c)
            have dm0 : d * m ≠ 0 := Int.mul_ne_zero d0 c
            exact iteF ⟨_, rfl, _, rfl, p1, p2, n, d, m, e, rfl, hp1.sq, hp2.sq, F1, F2, c, fun p x y H5 s5 t5 L5 r5 => yes _ _ p x y H5 dm0 ea s5 t5 L5 r5, fun x y H5 s5 L5 r5 => no _ _ x y H5 dm0 ea s5 L5 r5⟩
theorem Cls.get {H : Hp} : ∀ {vs : List V} {zs : List (Int × Int)}, Cls H vs zs → ∀ (i : Nat) x, vs[i]? = some x → ∃ q z, x = .ref q ∧ zs[i]? = some z ∧ H q = some (.tup [.int z.1, .int z.2])
  | _, _, .nil, i, x, h => by simp at h
  | _, _, .cons (q := q) (z := z) h r, 0, x, e => ⟨q, z, by cases e; rfl, rfl, h⟩
  | _, _, .cons h r, i + 1, x, e => r.get i x (by simpa using e)
/-! ### what a call visits -/
inductive Pt where
  | ar (a : Ar)
  | flt (f : OkS)
def ptD : Pt → PyData
  | .ar a => arD a
  | .flt f => .tuple [.str "fault", .str f.1]
def wUnknown : OkS := ⟨"unknown", by decide +kernel⟩
def wClash : OkS := ⟨"clash", by decide +kernel⟩
def partsOf (N : NA) : Ar → List Pt
  | .name w => match getE N w.1 with
    | none => [.flt wUnknown]
    | some none => [.flt wClash]
    | some (some as) => as.map .ar
  | a => [.ar a]
theorem parts_name (N : NA) (w : OkS) : partsOf N (.name w) = match getE N w.1 with
    | none => [.flt wUnknown]
    | some none => [.flt wClash]
    | some (some as) => as.map .ar := rfl
def spNamedA (K : PySem.W.Frag) (C : Addr) : Sp := fun vs H Q _ => ∃ (g : Gr) (cells : Cells) (N : NA) (w : OkS), vs = [.ref g.G, .str w.1] ∧ GD K C H g cells (nmA N) ∧ NOk N ∧
  ∀ (H' : Hp) (p : Addr) (us : List V), Same H H' → H p = none → H' p = some (.lst us) → DkAll K H' us ((partsOf N (.name w)).map ptD) → Q (.ref p) H'
theorem okNamedAreas (T : Txt K mg) : FnOk P w K mg base CX0 5 T.fNamedAreas T.fdNamedAreas ["grid", "word"] (spNamedA K T.cGrid) := by
  refine T.FNamedAreas.ok scNamedAreas (fun vs H Q E h => ?_) (fun cdv A outer s H vs Q E hr h => ?_)
  · obtain ⟨g, cells, N, w, rfl, _⟩ := h
    rfl
  · obtain ⟨g, cells, N, w, rfl, G, nok, q⟩ := h
    -- slots grid=0 word=1 told=2
    refine ⟨_, (pss_cons (ps_set (i := 2) scNamedAreas.nd rfl (Or.inl rfl) (pe_call (okToldOf T) (hr.mono (by decide)) (by rfl) T.gToldOf T.FToldOf.kp T.bToldOf .nil pass0 (pa_cons (pv 0) (pa_cons (pv 1) pa_nil))))
        (pss_cons (ps_if (pt_cmpR (op_eqD hr.units) (pv 2) (pe_glob (v := (.str "none")) rfl T.g_NO_NAME ⟨_, rfl⟩) (nomark _))
          (pss_one (ps_ret (pe_lst (pa_cons (pe_glob (v := (.ref T.p_UNKNOWN)) rfl T.g_UNKNOWN rfl) pa_nil))))
          pss_nil)
        (pss_one (ps_ret (pe_ifExp (pt_cmpR op_isN (pv 2) pe_non (nomark _)) (pe_lst (pa_cons (pe_glob (v := (.ref T.p_CLASH)) rfl T.g_CLASH rfl) pa_nil)) (pv 2)))))), ?_⟩
    refine ⟨_, rfl, _, rfl, g, cells, nmA N, w.1, rfl, G, fun H1 s1 hn => ?_, fun b v H1 hb s1 nv => ?_⟩
    · have gn : getE N w.1 = none := by
        rw [getE_nmA] at hn
        cases e : getE N w.1 with
        | none => rfl
        | some o =>
          rw [e] at hn
          cases hn
      refine ⟨_, rfl, .str "none", .str "none", .str _, .str _, by decide +kernel, by decide +kernel, _, rfl, ?_⟩
      rw [str_eqv, decide_eq_true rfl]
      refine iteT ⟨(by show 1 ≤ sizeLine; decide), fun p hp => q _ p _ (s1.trans (same_new hp)) (s1.free hp) upd_same ?_⟩
      rw [parts_name, gn]
      exact .cons (.tup (tp_of T.k_UNKNOWN T.w_UNKNOWN) (.cons (.str _) (.cons (.str _) .nil))) .nil
    · rw [getE_nmA] at hb
      cases e : getE N w.1 with
      | none =>
        rw [e] at hb
        cases hb
      | some o =>
        rw [e] at hb
        obtain rfl := Option.some.inj hb
        cases o with
        | none =>
          obtain rfl := nv
          refine ⟨_, rfl, .none, .str "none", .non, .str _, by decide +kernel, by decide +kernel, _, rfl, ?_⟩
          rw [show PyData.eqv .none (.str "none") = false by simp [PyData.eqv]]
          refine iteF ⟨_, rfl, rfl, _, rfl, ite2 (fun _ => ?_) (fun c => absurd (decide_eq_true rfl) c)⟩
          refine ⟨(by show 1 ≤ sizeLine; decide), fun p hp => q _ p _ (s1.trans (same_new hp)) (s1.free hp) upd_same ?_⟩
          rw [parts_name, e]
          exact .cons (.tup (tp_of T.k_CLASH T.w_CLASH) (.cons (.str _) (.cons (.str _) .nil))) .nil
        | some as =>
          obtain ⟨p, us, rfl, hpn, hp, dt⟩ := nv
          refine ⟨_, rfl, .list (as.map arD), .str "none", .lst (SqL.of hp) dt.dp, .str _, arDs_shaped as, by decide +kernel, _, rfl, ?_⟩
          rw [show PyData.eqv (.list (as.map arD)) (.str "none") = false by simp [PyData.eqv]]
          refine iteF ⟨_, rfl, rfl, _, rfl, ite2 (fun c => nomatch (of_decide_eq_true c)) (fun _ => ⟨_, rfl, q _ p us s1 hpn hp ?_⟩)⟩
          rw [parts_name, e]
          show DkAll K H1 us ((as.map Pt.ar).map ptD)
          rw [List.map_map]
          exact dt.dk
/-- the dict of known values -/
abbrev KD2 : Type := List ((Int × Int) × Val)
def kn (D : KD2) (z : Int × Int) : Val := (getE D z).getD .blank
def KnA (K : PySem.W.Frag) (H : Hp) (kd : Addr) (D : KD2) : Prop := ∃ kvs, H kd = some (.dT kvs) ∧ Ents idK (VA K H) kvs D
theorem KnA.same {K : PySem.W.Frag} {H H' : Hp} {kd : Addr} {D : KD2} (h : KnA K H kd D) (s : Same H H') : KnA K H' kd D := by
  obtain ⟨kvs, h1, e1⟩ := h
  exact ⟨kvs, s _ _ h1, e1.imp fun kv e hh => ⟨hh.1, hh.2.same s⟩⟩
theorem KnA.get {K : PySem.W.Frag} {H : Hp} {kd : Addr} {D : KD2} {tb : Addr} {z : Int × Int} {w : V} (h : KnA K H kd D) (ht : H tb = some (.tup [.int z.1, .int z.2])) (hw : VA K H w .blank) : ∃ r, DGet H kd (.ref tb) r ∧ VA K H (r.getD w) (kn D z) := by
  obtain ⟨kvs, h1, e1⟩ := h
  obtain ⟨g1, g2⟩ := ents_get (fun _ _ => idK_inj) e1 z
  have dg := DGet.t (k := idK z) h1 ht
  unfold kn
  cases e : getE D z with
  | none =>
    rw [g1 e] at dg
    exact ⟨none, dg, hw⟩
  | some x =>
    obtain ⟨v, ev, hv⟩ := g2 x e
    rw [ev] at dg
    exact ⟨_, dg, hv⟩
def isVD (D : KD2) : Prop := ∀ e ∈ D, isV e.2
theorem kn_v {D : KD2} (h : isVD D) (z : Int × Int) : isV (kn D z) := by
  unfold kn
  cases e : getE D z with
  | none => trivial
  | some x => exact h _ (getE_key e)
def visP (D : KD2) : Pt → List Val
  | .ar (.block a b c d) => (cellsOf ⟨a, b, c, d⟩).map (kn D)
  | .ar _ => [fGone]
  | .flt f => [.fault f]
def visV (N : NA) (D : KD2) (as : List Ar) : List Val := (as.flatMap (partsOf N)).flatMap (visP D)
theorem DkAll.app {K : PySem.W.Frag} {H : Hp} {us : List V} {es : List PyData} (h : DkAll K H us es) : ∀ {vs : List V} {ds : List PyData}, DkAll K H vs ds → DkAll K H (vs ++ us) (ds ++ es)
  | _, _, .nil => h
  | _, _, .cons h2 r => .cons h2 (DkAll.app h r)
theorem DkAll.snoc {K : PySem.W.Frag} {H : Hp} {vs : List V} {ds : List PyData} {v : V} {d : PyData} (h : DkAll K H vs ds) (h2 : Dk K H v d) : DkAll K H (vs ++ [v]) (ds ++ [d]) := DkAll.app (.cons h2 .nil) h
theorem parts_len {N : NA} (nok : NOk N) (a : Ar) : (partsOf N a).length ≤ 10 := by
  cases a with
  | gone => exact (by decide : 1 ≤ 10)
  | block a b c d => exact (by decide : 1 ≤ 10)
  | name w =>
    rw [parts_name]
    cases e : getE N w.1 with
    | none => exact (by decide : 1 ≤ 10)
    | some o =>
      cases o with
      | none => exact (by decide : 1 ≤ 10)
      | some as =>
        show (as.map Pt.ar).length ≤ 10
        rw [List.length_map]
        exact nok _ (getE_key e) as rfl
def Pt.ins (R C : Int) : Pt → Prop
  | .ar a => a.ins R C
  | .flt _ => True
theorem parts_ins {R C : Int} {W : WC} {N : NA} (wl : Wld R C W N) {a : Ar} (ha : a.ins R C) : ∀ p ∈ partsOf N a, p.ins R C := by
  cases a with
  | gone => exact fun p hp => by rw [List.mem_singleton.mp hp]; exact ha
  | block a b c d => exact fun p hp => by rw [List.mem_singleton.mp hp]; exact ha
  | name w =>
    rw [parts_name]
    cases e : getE N w.1 with
    | none => exact fun p hp => by rw [List.mem_singleton.mp hp]; trivial
    | some o =>
      cases o with
      | none => exact fun p hp => by rw [List.mem_singleton.mp hp]; trivial
      | some as =>
        intro p hp
        obtain ⟨x, hx, rfl⟩ := List.mem_map.mp hp
        exact (wl.nm _ (getE_key e) as rfl).2 x hx
theorem visP_len {R C : Int} {D : KD2} {p : Pt} (few : R * C ≤ 60) (h : p.ins R C) : (visP D p).length ≤ 60 := by
  cases p with
  | flt f => exact (by decide : 1 ≤ 60)
  | ar a =>
    cases a with
    | gone => exact (by decide : 1 ≤ 60)
    | name w => exact (by decide : 1 ≤ 60)
    | block a b c d =>
      show ((cellsOf ⟨a, b, c, d⟩).map (kn D)).length ≤ 60
      rw [List.length_map]
      exact cellsOf_len (R := R) (C := C) h few
theorem ptD_first (p : Pt) : ∃ (s : Str) (ds : List PyData), ptD p = .tuple (.str s :: ds) := by
  cases p with
  | flt f => exact ⟨_, _, rfl⟩
  | ar a => cases a <;> exact ⟨_, _, rfl⟩
theorem Dk.first {K : PySem.W.Frag} {H : Hp} {v : V} {s : Str} {ds : List PyData} (h : Dk K H v (.tuple (.str s :: ds))) : ∃ a xs, v = .ref a ∧ TP K H a (.str s :: xs) ∧ DkAll K H xs ds := by
  obtain ⟨a, xs, rfl, ha, r⟩ := h.tup_inv
  obtain ⟨_, ys, rfl, h1, r⟩ := r.un
  rw [h1.str_inv] at ha
  exact ⟨a, ys, rfl, ha, r⟩
theorem ptw : ("fault" : Str) ≠ "block" ∧ ("gone" : Str) ≠ "fault" ∧ ("name" : Str) ≠ "fault" := by decide +kernel
def spVisited (K : PySem.W.Frag) (C0 : Addr) : Sp := fun vs H Q _ => ∃ (g : Gr) (cells : Cells) (N : NA) (kd at_ : Addr) (D : KD2) (R C : Int) (avs : List V) (as : List Ar), vs = [.ref g.G, .ref at_, .ref kd] ∧ GD K C0 H g cells (nmA N) ∧ Wld R C [] N ∧ H at_ = some (.tup avs) ∧ Ars H avs as ∧ as.length ≤ 3 ∧ (∀ a ∈ as, a.ins R C) ∧ KnA K H kd D ∧
  ∀ (H' : Hp) (p : Addr) (us : List V), Same H H' → H p = none → H' p = some (.lst us) → DkAll K H' us ((visV N D as).map valD) → us.length ≤ 1800 → Q (.ref p) H'
theorem okVisited (T : Txt K mg) : FnOk P w K mg base CX0 6 T.fVisited T.fdVisited ["grid", "areas", "known"] (spVisited K T.cGrid) := by
  refine T.FVisited.ok scVisited (fun vs H Q E h => ?_) (fun cdv A outer s H vs Q E hr h => ?_)
  · obtain ⟨g, cells, N, kd, at_, D, R, C, avs, as, rfl, _⟩ := h
    rfl
  · obtain ⟨g, cells, N, kd, at_, D, R, C, avs, as, rfl, G, wl, hat, ars, al, ai, kna, q⟩ := h
    -- slots grid=0 areas=1 known=2 parts=3 area=4 values=5 part=6 cell=7
    refine ⟨_, (pss_cons (ps_set (i := 3) scVisited.nd rfl (Or.inl rfl) (pe_lst pa_nil))
        (pss_cons (ps_for PassesOwn.never rfl (pi_tup (pv 1)) (pg_name (i := 4) scVisited.nd rfl (Or.inl rfl))
          (pss_one (ps_expr (pe_bm PySem.F.plainAttrs_list PySem.F.slot_list_extend PySem.F.type_list_extend mt_extend (pv 3) (pa_cons (pe_ifExp (pt_cmpR op_eq (pe_ix ix_tup (pv 4) pe_int (fun _ _ => rfl)) pe_str (nomark _)) (pe_call (okNamedAreas T) (hr.mono (by decide)) (by rfl) T.gNamedAreas T.FNamedAreas.kp T.bNamedAreas .nil pass0 (pa_cons (pv 0) (pa_cons (pe_ix ix_tup (pv 4) pe_int (fun _ _ => rfl)) pa_nil))) (pe_lst (pa_cons (pv 4) pa_nil))) pa_nil)))))
        (pss_cons (ps_set (i := 5) scVisited.nd rfl (Or.inl rfl) (pe_lst pa_nil))
        (pss_cons (ps_for PassesOwn.never rfl (pi_list (pv 3)) (pg_name (i := 6) scVisited.nd rfl (Or.inl rfl))
          (pss_one (ps_if (pt_cmpR op_eq (pe_ix ix_tup (pv 6) pe_int (fun _ _ => rfl)) pe_str (nomark _))
            (pss_one (ps_expr (pe_bm PySem.F.plainAttrs_list PySem.F.slot_list_extend PySem.F.type_list_extend mt_extend (pv 5) (pa_cons (pe_lc (own := [("cell", 7)]) (g := gName 7) (tt := tYes) rfl scVisited.nd (pi_list (pe_call (okCellsOf T) (hr.mono (by decide)) (by rfl) T.gCellsOf T.FCellsOf.kp T.bCellsOf .nil pass0 (pa_cons (pe_slice (sl_tupK (K := K) rfl) (pv 6) (po_some pe_int) po_none) pa_nil))) (blkOk_by (own := [("cell", 7)]) (N := ["grid", "areas", "known", "parts", "area", "values", "part", "cell"]) (sc := defScope sVisited) (by decide +kernel)) (fun _ _ _ _ _ => (pg_name (i := 7) scVisited.nd rfl (Or.inl rfl))) (fun _ _ _ _ _ => pts_nil) (fun _ _ _ _ _ => (pe_dget2 (units2 hr) (pv 2) (pv 7) (pe_glob (v := (.ref T.p_BLANK)) rfl T.g_BLANK rfl) ⟨rfl, rfl, rfl, rfl⟩))) pa_nil))))
            (pss_one (ps_expr (pe_bm PySem.F.plainAttrs_list PySem.F.slot_list_append PySem.F.type_list_append mt_append (pv 5) (pa_cons (pe_ifExp (pt_val (pe_call (okIsFault T) (hr.mono (by decide)) (by rfl) T.gIsFault T.FIsFault.kp T.bIsFault .nil pass0 (pa_cons (pv 6) pa_nil))) (pv 6) (pe_glob (v := (.ref T.p_GONE_FAULT)) rfl T.g_GONE_FAULT rfl)) pa_nil)))))))
        (pss_one (ps_ret (pv 5))))))), ?_⟩
    have nok : NOk N := fun e he z hz => (wl.nm e he z hz).1
    have lv := ars.len
    refine ⟨Nat.zero_le _, fun PL hPL => ?_⟩
    have s1 := same_new (o := .lst []) hPL
    have hP1 : (upd H PL (.lst [])) PL = some (.lst []) := upd_same
    have npa : at_ ≠ PL := ne_of_none hat hPL
    refine ⟨_, rfl, at_, rfl, ⟨avs, SqT.of (s1 _ _ hat)⟩, for_it (walk_tup (a := at_) (xs := avs)) (fun i σ H' => ∃ (k4 k5 k6 k7 : Option V) (us : List V), σ = [some (.ref g.G), some (.ref at_), some (.ref kd), some (.ref PL), k4, k5, k6, k7] ∧ Same H H' ∧ H' PL = some (.lst us) ∧ us.length ≤ 10 * i ∧ DkAll K H' us (((as.take i).flatMap (partsOf N)).map ptD)) ⟨_, _, _, _, [], rfl, s1, hP1, Nat.zero_le _, .nil⟩ (fun i σ H' _ ⟨_, _, _, _, _, _, s, _⟩ => SqT.of (s _ _ hat)) ?_ ?_⟩
    · rintro i x σ HX H2 hi ⟨k4, k5, k6, k7, us, rfl, s2, hP2, ul, dk2⟩ ⟨rfl, hx⟩
      obtain ⟨a0, ha0, at0⟩ := ars.get i x hx
      have at2 := at0.mono (TK.of s2)
      have fin : ∀ (H3 : Hp) (pc : Addr) (cs : List V), Same H2 H3 → H3 pc = some (.lst cs) → DkAll K H3 cs ((partsOf N a0).map ptD) →
          us.length + cs.length ≤ 100000 ∧ ∃ (j4 j5 j6 j7 : Option V) (us'' : List V), [some (V.ref g.G), some (.ref at_), some (.ref kd), some (.ref PL), some x, k5, k6, k7] = [some (V.ref g.G), some (.ref at_), some (.ref kd), some (.ref PL), j4, j5, j6, j7] ∧ Same H (upd H3 PL (.lst (us ++ cs))) ∧ (upd H3 PL (.lst (us ++ cs))) PL = some (.lst us'') ∧ us''.length ≤ 10 * (i + 1) ∧ DkAll K (upd H3 PL (.lst (us ++ cs))) us'' (((as.take (i + 1)).flatMap (partsOf N)).map ptD) := fun H3 pc cs s3 hpc dkc => by
        have cl := dkc.length
        rw [List.length_map] at cl
        have pl := parts_len nok a0
        have hP3 := s3 _ _ hP2
        refine ⟨by omega, _, _, _, _, us ++ cs, rfl, same_mut (s2.trans s3) hPL, upd_same, by rw [List.length_append]; omega, ?_⟩
        rw [flat_take (partsOf N) ha0, List.map_append]
        exact (DkAll.app dkc (dk2.tt (TT.of s3))).tt (TK.mut hP3)
      refine ⟨_, rfl, .inl ⟨rfl, _, SqL.of hP2⟩, ?_⟩
      cases a0 with
      | gone =>
        obtain ⟨q0, rfl, hq⟩ := id at2
        exact ⟨_, rfl, q0, _, _, _, rfl, rfl, SqT.of hq, atI_nat (j := 0) rfl, rfl, _, rfl, ifN w1.2.2.2.2 ⟨_, rfl, (by show 1 ≤ sizeLine; decide), fun z hz => have F := fin _ z _ (same_new hz) upd_same (.cons (Dt.dk (ArAt.dt (a := .gone) (at2.mono (TK.of (same_new hz))))) .nil); ⟨PL, z, _, _, rfl, rfl, (same_new hz) _ _ hP2, upd_same, sz100 F.1, F.2⟩⟩⟩
      | block a b c d =>
        obtain ⟨q0, rfl, hq⟩ := id at2
        exact ⟨_, rfl, q0, _, _, _, rfl, rfl, SqT.of hq, atI_nat (j := 0) rfl, rfl, _, rfl, ifN w7.2.2 ⟨_, rfl, (by show 1 ≤ sizeLine; decide), fun z hz => have F := fin _ z _ (same_new hz) upd_same (.cons (Dt.dk (ArAt.dt (a := .block a b c d) (at2.mono (TK.of (same_new hz))))) .nil); ⟨PL, z, _, _, rfl, rfl, (same_new hz) _ _ hP2, upd_same, sz100 F.1, F.2⟩⟩⟩
      | name w =>
        obtain ⟨q0, rfl, hq⟩ := id at2
        exact ⟨_, rfl, q0, _, _, _, rfl, rfl, SqT.of hq, atI_nat (j := 0) rfl, rfl, _, rfl, ifY ⟨_, rfl, _, rfl, q0, _, _, _, rfl, rfl, SqT.of hq, atI_nat (j := 1) rfl, g, cells, N, w, rfl, G.same s2, nok, fun H3 pc cs s3 _ hpc dkc => have F := fin H3 pc cs s3 hpc dkc; ⟨PL, pc, _, _, rfl, rfl, s3 _ _ hP2, hpc, sz100 F.1, F.2⟩⟩⟩
    · rintro σ H2 ⟨k4, k5, k6, k7, us, rfl, s2, hP2, ul, dk2⟩
      have full : as.take avs.length = as := List.take_of_length_le (by omega)
      rw [full] at dk2
      have ul30 : us.length ≤ 30 := by omega
      refine ⟨Nat.zero_le _, fun VL hVL => ?_⟩
      have s3 := same_new (o := .lst []) hVL
      have hV3 : (upd H2 VL (.lst [])) VL = some (.lst []) := upd_same
      have dk3 := dk2.tt (TT.of s3)
      have nPV : PL ≠ VL := ne_of_none hP2 hVL
      have hP3 := s3 _ _ hP2
      have kna3 := (kna.same s2).same s3
      have ins : ∀ p ∈ as.flatMap (partsOf N), p.ins R C := fun p hp => by
        obtain ⟨a, ha, hp⟩ := List.mem_flatMap.mp hp
        exact parts_ins wl (ai a ha) p hp
      generalize hps : as.flatMap (partsOf N) = ps at dk2 dk3 ins
      have pl := dk2.length
      rw [List.length_map] at pl
      generalize hH3 : upd H2 VL (.lst []) = H3 at s3 hV3 dk3 hP3 kna3
      refine ⟨_, rfl, PL, rfl, ⟨us, SqL.of hP3⟩, for_it (walk_list (a := PL) (xs := us)) (fun i σ H' => ∃ (k4 k6 k7 : Option V) (vs : List V), σ = [some (.ref g.G), some (.ref at_), some (.ref kd), some (.ref PL), k4, some (.ref VL), k6, k7] ∧ Same (rmS [VL] H3) H' ∧ H' VL = some (.lst vs) ∧ vs.length ≤ 60 * i ∧ DkAll K H' vs (((ps.take i).flatMap (visP D)).map valD)) ⟨_, _, _, [], rfl, rmS_le, hV3, Nat.zero_le _, .nil⟩ (fun i σ H' _ ⟨_, _, _, _, _, m, _⟩ => SqL.of (m _ _ ((rmS_of (fun z => nPV (List.mem_singleton.mp z))).trans hP3))) ?_ ?_⟩
      · rintro i x σ HX H4 hi ⟨k4, k6, k7, vs, rfl, m4, hV4, vl, dk4⟩ ⟨rfl, hx⟩
        obtain ⟨p, hp⟩ : ∃ p, ps[i]? = some p := ⟨_, List.getElem?_eq_getElem (by omega)⟩
        have lsV : Ls [VL] H3 := fun y hy => by
          rw [List.mem_singleton.mp hy]
          exact ⟨_, hV3⟩
        have tt34 : TT H3 H4 := TT.trans lsV.tt (TT.of m4)
        have pins := ins p (List.mem_of_getElem? hp)
        have dp : Dk K H4 x (ptD p) := (dk3.at_ i x (ptD p) hx (by rw [List.getElem?_map, hp]; rfl)).tt tt34
        have pvl := visP_len (D := D) wl.few pins
        have kna4 : KnA K H4 kd D := by
          obtain ⟨kvs, h1, e1⟩ := kna3
          have nk : kd ≠ VL := fun z => by
            rw [z, hV3] at h1
            cases h1
          exact ⟨kvs, m4 _ _ ((rmS_of (fun z => nk (List.mem_singleton.mp z))).trans h1), e1.imp fun kv e hh => ⟨hh.1, hh.2.tt tt34⟩⟩
        -- one more value
        have one : ∀ (H5 : Hp) (v : V) (y : Val), Same H4 H5 → visP D p = [y] → VA K H5 v y → ∃ (j4 j6 j7 : Option V) (vs' : List V), [some (V.ref g.G), some (.ref at_), some (.ref kd), some (.ref PL), k4, some (.ref VL), some x, k7] = [some (V.ref g.G), some (.ref at_), some (.ref kd), some (.ref PL), j4, some (.ref VL), j6, j7] ∧ Same (rmS [VL] H3) (upd H5 VL (.lst (vs ++ [v]))) ∧ (upd H5 VL (.lst (vs ++ [v]))) VL = some (.lst vs') ∧ vs'.length ≤ 60 * (i + 1) ∧ DkAll K (upd H5 VL (.lst (vs ++ [v]))) vs' (((ps.take (i + 1)).flatMap (visP D)).map valD) := fun H5 v y s5 ey hv => by
          have hV5 := s5 _ _ hV4
          refine ⟨_, _, _, vs ++ [v], rfl, fun b u e => ?_, upd_same, by rw [List.length_append]; show vs.length + 1 ≤ _; omega, ?_⟩
          · obtain ⟨nb, _⟩ := rmS_some e
            rw [upd_ne fun z => nb (List.mem_singleton.mpr z)]
            exact s5 _ _ (m4 b u e)
          · rw [flat_take (visP D) hp, ey, List.map_append]
            exact ((dk4.tt (TT.of s5)).snoc hv).tt (TK.mut hV5)
        cases p with
        | flt f =>
          obtain ⟨a, xs, rfl, ha, _⟩ := Dk.first dp
          refine ⟨_, rfl, a, _, _, _, rfl, rfl, ha.sq, atI_nat (j := 0) rfl, rfl, _, rfl, ifN ptw.1 ?_⟩
          exact ⟨_, rfl, .inl ⟨rfl, _, SqL.of hV4⟩, _, rfl, a, _, xs, rfl, ha.sq, _, rfl, ifY ⟨_, rfl, VL, _, _, rfl, rfl, hV4, sz100 (by omega), one H4 _ (.fault f) (Same.refl _) rfl dp⟩⟩
        | ar a0 =>
          cases a0 with
          | gone =>
            obtain ⟨a, xs, rfl, ha, _⟩ := Dk.first dp
            refine ⟨_, rfl, a, _, _, _, rfl, rfl, ha.sq, atI_nat (j := 0) rfl, rfl, _, rfl, ifN ok4b.1 ?_⟩
            exact ⟨_, rfl, .inl ⟨rfl, _, SqL.of hV4⟩, _, rfl, a, _, xs, rfl, ha.sq, _, rfl, ifN ptw.2.1 ⟨VL, _, _, rfl, rfl, hV4, sz100 (by omega), one H4 _ fGone (Same.refl _) rfl (VA.mkFault (tp_of T.k_GONE_FAULT T.w_GONE_FAULT))⟩⟩
          | name w =>
            obtain ⟨a, xs, rfl, ha, _⟩ := Dk.first dp
            refine ⟨_, rfl, a, _, _, _, rfl, rfl, ha.sq, atI_nat (j := 0) rfl, rfl, _, rfl, ifN ok4b.2 ?_⟩
            exact ⟨_, rfl, .inl ⟨rfl, _, SqL.of hV4⟩, _, rfl, a, _, xs, rfl, ha.sq, _, rfl, ifN ptw.2.2 ⟨VL, _, _, rfl, rfl, hV4, sz100 (by omega), one H4 _ fGone (Same.refl _) rfl (VA.mkFault (tp_of T.k_GONE_FAULT T.w_GONE_FAULT))⟩⟩
          | block t l b r =>
            obtain ⟨a, xs, rfl, ha, rx⟩ := Dk.first dp
            obtain ⟨_, _, rfl, g1, rx⟩ := rx.un
            obtain ⟨_, _, rfl, g2, rx⟩ := rx.un
            obtain ⟨_, _, rfl, g3, rx⟩ := rx.un
            obtain ⟨_, _, rfl, g4, rx⟩ := rx.un
            obtain rfl := rx.end_
            rw [g1.int_inv, g2.int_inv, g3.int_inv, g4.int_inv] at ha
            refine ⟨_, rfl, a, _, _, _, rfl, rfl, ha.sq, atI_nat (j := 0) rfl, rfl, _, rfl, ifY ?_⟩
            have rc1 := wl.rc.r1
            have rc3 := wl.rc.c1
            obtain ⟨o1, o2, o3, o4, o5, o6⟩ := (show 0 ≤ t ∧ t ≤ b ∧ b < R ∧ 0 ≤ l ∧ l ≤ r ∧ r < C from pins)
            refine ⟨_, rfl, .inl ⟨rfl, _, SqL.of hV4⟩, _, rfl, 1, rfl, a, _, rfl, ha.sq, cut1_no _ _, fun pb hpb => ?_⟩
            rw [cut1]
            have s5 := same_new (o := .tup [.int t, .int l, .int b, .int r]) hpb
            refine ⟨pb, ⟨t, l, b, r⟩, rfl, upd_same, ⟨o1, o2, by show b < 50; omega, o4, o5, by show r < 50; omega⟩, fun H6 pc cs s6 hpcn hpc cls => ⟨pc, rfl, ⟨cs, SqL.of hpc⟩, fun M hM => ?_⟩⟩
            have cl := cls.len
            have c60 := cellsOf_len (R := R) (C := C) (k := ⟨t, l, b, r⟩) ⟨o1, o2, o3, o4, o5, o6⟩ wl.few
            have s46 := s5.trans s6
            have kna6 := kna4.same s46
            refine lc_it (walk_list (a := pc) (xs := cs)) (fun j H' => Same H6 H' ∧ ∃ ws, H' M = some (.lst ws) ∧ ws.length = j ∧ DkAll K H' ws ((((cellsOf ⟨t, l, b, r⟩).take j).map (kn D)).map valD)) ⟨same_new hM, [], upd_same, rfl, by rw [List.take_zero]; exact .nil⟩ (fun j H' _ h => h.1.seq (SqL.of hpc)) ?_ ?_
            · rintro j y HY H7 hj ⟨s7, ws, hws, wl2, dk7⟩ ⟨rfl, hy⟩
              obtain ⟨qx, z, rfl, hz, hqx⟩ := cls.get j y hy
              obtain ⟨kvs, hk1, _⟩ := kna6.same s7
              obtain ⟨r', dg, hv⟩ := (kna6.same s7).get (w := .ref T.p_BLANK) (s7 _ _ hqx) (.tup (tp_of T.k_BLANK T.w_BLANK) (.cons (.str _) .nil))
              refine ⟨rfl, yesT ⟨_, rfl, kd, rfl, .inr ⟨kvs, .inl hk1⟩, _, rfl, r', dg, ws, hws, small1000 (by omega), same_mut s7 hM, ws ++ [r'.getD (.ref T.p_BLANK)], upd_same, by rw [List.length_append, wl2]; rfl, ?_⟩⟩
              rw [List.take_add_one, hz, List.map_append, List.map_append]
              exact (dk7.snoc hv).tt (TK.mut hws)
            · rintro H7 ⟨s7, ws, hws, wl2, dk7⟩
              rw [List.take_of_length_le (by omega)] at dk7
              have s47 := s46.trans s7
              have hV7 := s47 _ _ hV4
              refine ⟨VL, M, vs, ws, rfl, rfl, hV7, hws, sz100 (by omega), _, _, _, vs ++ ws, rfl, fun b u e => ?_, upd_same, by rw [List.length_append]; omega, ?_⟩
              · obtain ⟨nb, _⟩ := rmS_some e
                rw [upd_ne fun z => nb (List.mem_singleton.mpr z)]
                exact s47 _ _ (m4 b u e)
              · rw [flat_take (visP D) hp, List.map_append]
                exact (DkAll.app dk7 (dk4.tt (TT.of s47))).tt (TK.mut hV7)
      · rintro σ H4 ⟨k4, k6, k7, vs, rfl, m4, hV4, vl, dk4⟩
        rw [List.take_of_length_le (by omega)] at dk4
        refine ⟨_, rfl, q H4 VL vs (fun b u e => m4 b u ?_) (s2.free hVL) hV4 ?_ (by omega)⟩
        · have e2 := s2 b u e
          rw [rmS_of fun z => ne_of_none e2 hVL (List.mem_singleton.mp z)]
          exact s3 _ _ e2
        · unfold visV
          rw [hps]
          exact dk4
/-! ### calls -/
def addO (x y : Int × Int) : Option (Int × Int) := resO (x.1 * y.2 + y.1 * x.2) (x.2 * y.2)
def sumO : Int × Int → List (Int × Int) → Option (Int × Int)
  | acc, [] => some acc
  | acc, z :: r => match addO acc z with
    | none => none
    | some a => sumO a r
def lessF (x y : Int × Int) : Bool := decide (x.1 * y.2 < y.1 * x.2)
def bestS (n : Str) (b x : Int × Int) : Int × Int := if (n = "min" ∧ lessF x b = true) ∨ (n = "max" ∧ lessF b x = true) then x else b
def bestF (n : Str) : List (Int × Int) → Int × Int
  | [] => (0, 1)
  | z :: r => (z :: r).foldl (bestS n) z
def scan : List Val → List (Int × Int) × Option OkS
  | [] => ([], none)
  | .fault f :: _ => ([], some f)
  | .num x y :: r => ((x, y) :: (scan r).1, (scan r).2)
  | _ :: r => scan r
def numsV (n : Str) (ns : List (Int × Int)) : Val := if n = "sum" then ofR (sumO (0, 1) ns) else if n = "count" then .num (ns.length : Int) 1 else if ns = [] then fNone else .num (bestF n ns).1 (bestF n ns).2
def callV (n : Str) (vals : List Val) : Val := match (scan vals).2 with
  | some f => .fault f
  | none => numsV n (scan vals).1
theorem fl_pos {x y : Int} (h : Fl x y) : y ≠ 0 := by
  have := h.1.pos
  omega
theorem addO_fl {x y z : Int × Int} (hx : Fl x.1 x.2) (hy : Fl y.1 y.2) (h : addO x y = some z) : Fl z.1 z.2 := resO_fl (Int.mul_ne_zero (fl_pos hx) (fl_pos hy)) h
theorem sumO_fl : ∀ {ns : List (Int × Int)} {acc z : Int × Int}, Fl acc.1 acc.2 → (∀ x ∈ ns, Fl x.1 x.2) → sumO acc ns = some z → Fl z.1 z.2
  | [], acc, z, h, _, e => by
    obtain rfl := Option.some.inj e
    exact h
  | x :: r, acc, z, h, hn, e => by
    unfold sumO at e
    cases ea : addO acc x with
    | none =>
      rw [ea] at e
      cases e
    | some a =>
      rw [ea] at e
      exact sumO_fl (addO_fl h (hn x List.mem_cons_self) ea) (fun y hy => hn y (List.mem_cons_of_mem _ hy)) e
theorem scan_fl : ∀ {vals : List Val}, (∀ x ∈ vals, isV x) → ∀ z ∈ (scan vals).1, Fl z.1 z.2
  | [], _, z, h => nomatch h
  | .fault f :: r, _, z, h => nomatch h
  | .num x y :: r, hv, z, h => by
    rcases List.mem_cons.mp h with h | h
    · rw [h]
      exact hv _ List.mem_cons_self
    · exact scan_fl (fun y hy => hv y (List.mem_cons_of_mem _ hy)) z h
  | .blank :: r, hv, z, h => scan_fl (vals := r) (fun y hy => hv y (List.mem_cons_of_mem _ hy)) z h
  | .text t :: r, hv, z, h => scan_fl (vals := r) (fun y hy => hv y (List.mem_cons_of_mem _ hy)) z h
theorem scan_len : ∀ vals : List Val, (scan vals).1.length ≤ vals.length
  | [] => Nat.le_refl _
  | .fault f :: r => Nat.zero_le _
  | .num x y :: r => Nat.succ_le_succ (scan_len r)
  | .blank :: r => Nat.le_succ_of_le (scan_len r)
  | .text t :: r => Nat.le_succ_of_le (scan_len r)
theorem bestS_or (n : Str) (b x : Int × Int) : bestS n b x = x ∨ bestS n b x = b := by
  unfold bestS
  split
  · exact .inl rfl
  · exact .inr rfl
theorem fold_mem (n : Str) : ∀ (l : List (Int × Int)) (b : Int × Int), l.foldl (bestS n) b = b ∨ l.foldl (bestS n) b ∈ l
  | [], b => .inl rfl
  | x :: l, b => by
    rw [List.foldl_cons]
    rcases fold_mem n l (bestS n b x) with h | h
    · rw [h]
      rcases bestS_or n b x with e | e
      · rw [e]
        exact .inr List.mem_cons_self
      · exact .inl e
    · exact .inr (List.mem_cons_of_mem _ h)
theorem bestF_mem (n : Str) {ns : List (Int × Int)} (h : ns ≠ []) : bestF n ns ∈ ns := by
  cases ns with
  | nil => exact absurd rfl h
  | cons z r =>
    rcases fold_mem n (z :: r) z with e | e
    · rw [show bestF n (z :: r) = z from e]
      exact List.mem_cons_self
    · exact e
theorem ofR_r {r : Option (Int × Int)} (h : ∀ z, r = some z → Fl z.1 z.2) : isR (ofR r) := by
  cases r with
  | none => trivial
  | some z => exact h z rfl
theorem numsV_r (n : Str) {ns : List (Int × Int)} (h : ∀ z ∈ ns, Fl z.1 z.2) (hl : ns.length ≤ 1000000) : isR (numsV n ns) := by
  unfold numsV
  split
  · exact ofR_r fun z e => sumO_fl (acc := (0, 1)) fl01 h e
  · split
    · exact ⟨⟨by omega, by omega, by decide, by decide⟩, Nat.gcd_one_right _⟩
    · split
      · trivial
      · rename_i c
        exact h _ (bestF_mem n c)
theorem callV_r (n : Str) {vals : List Val} (h : ∀ x ∈ vals, isV x) (hl : vals.length ≤ 1000000) : isR (callV n vals) := by
  unfold callV
  cases (scan vals).2 with
  | some f => trivial
  | none => exact numsV_r n (scan_fl h) (Nat.le_trans (scan_len vals) hl)
theorem visV_v {N : NA} {D : KD2} (hd : isVD D) (as : List Ar) : ∀ x ∈ visV N D as, isV x := fun x hx => by
  obtain ⟨p, _, hx⟩ := List.mem_flatMap.mp hx
  cases p with
  | flt f =>
    rw [List.mem_singleton.mp hx]
    trivial
  | ar a =>
    cases a with
    | gone =>
      rw [List.mem_singleton.mp hx]
      trivial
    | name w =>
      rw [List.mem_singleton.mp hx]
      trivial
    | block a b c d =>
      obtain ⟨z, _, rfl⟩ := List.mem_map.mp hx
      exact kn_v hd z
def frZ (z : Int × Int) : PyData := frD z.1 z.2
def spTotal (K : PySem.W.Frag) : Sp := fun vs H Q _ => ∃ (l : Addr) (us : List V) (ns : List (Int × Int)), vs = [.ref l] ∧ H l = some (.lst us) ∧ DkAll K H us (ns.map frZ) ∧ (∀ z ∈ ns, Fl z.1 z.2) ∧ ∀ (v : V) (H' : Hp), Same H H' → FrA K H' v (sumO (0, 1) ns) → Q v H'
theorem okTotal (T : Txt K mg) : FnOk P w K mg base CX0 4 T.fTotal T.fdTotal ["numbers"] (spTotal K) := by
  refine T.FTotal.ok scTotal (fun vs H Q E h => ?_) (fun cdv A outer s H vs Q E hr h => ?_)
  · obtain ⟨l, us, ns, rfl, _⟩ := h
    rfl
  · obtain ⟨l, us, ns, rfl, hL, dk, fl, q⟩ := h
    -- slots numbers=0 total=1 x=2
    refine ⟨_, (pss_cons (ps_set (i := 1) scTotal.nd rfl (Or.inl rfl) (pe_glob (v := (.ref T.p_ZERO)) rfl T.g_ZERO rfl))
        (pss_cons (ps_for PassesOwn.never rfl (pi_list (pv 0)) (pg_name (i := 2) scTotal.nd rfl (Or.inl rfl))
          (pss_cons (ps_set (i := 1) scTotal.nd rfl (Or.inl rfl) (pe_call (okAdd T) (hr.mono (by decide)) (by rfl) T.gAdd T.FAdd.kp T.bAdd .nil pass0 (pa_cons (pv 1) (pa_cons (pv 2) pa_nil))))
          (pss_one (ps_if (pt_cmpR op_isN (pv 1) pe_non (nomark _))
            (pss_one (ps_ret pe_non))
            pss_nil))))
        (pss_one (ps_ret (pv 1))))), ?_⟩
    have ln := dk.length
    rw [List.length_map] at ln
    refine ⟨_, rfl, l, rfl, ⟨us, SqL.of hL⟩, for_it (walk_list (a := l) (xs := us)) (fun i σ H' => ∃ (k2 : Option V) (v : V) (acc : Int × Int), σ = [some (.ref l), some v, k2] ∧ Same H H' ∧ Dk K H' v (frZ acc) ∧ Fl acc.1 acc.2 ∧ sumO (0, 1) ns = sumO acc (ns.drop i)) ⟨_, _, (0, 1), rfl, Same.refl _, frD_mk (tp_of T.k_ZERO T.w_ZERO), fl01, rfl⟩ (fun i σ H' _ ⟨_, _, _, _, s, _⟩ => SqL.of (s _ _ hL)) ?_ ?_⟩
    · rintro i x σ HX H2 hi ⟨k2, v, acc, rfl, s2, dv, fa, es⟩ ⟨rfl, hx⟩
      obtain ⟨z, hz⟩ : ∃ z, ns[i]? = some z := ⟨_, List.getElem?_eq_getElem (by omega)⟩
      have dx : Dk K H2 x (frZ z) := (dk.at_ i x (frZ z) hx (by rw [List.getElem?_map, hz]; rfl)).tt (TT.of s2)
      obtain ⟨p1, rfl, hp1⟩ := FrA.inv dv
      obtain ⟨p2, rfl, hp2⟩ := FrA.inv dx
      have fz := fl z (List.mem_of_getElem? hz)
      have de0 : acc.2 * z.2 ≠ 0 := Int.mul_ne_zero (fl_pos fa) (fl_pos fz)
      have ed : ns.drop i = z :: ns.drop (i + 1) := by
        obtain ⟨h1, h2⟩ := List.getElem?_eq_some_iff.mp hz
        rw [List.drop_eq_getElem_cons h1, h2]
      rw [ed, show sumO acc (z :: ns.drop (i + 1)) = match addO acc z with
        | none => none
        | some a => sumO a (ns.drop (i + 1)) from rfl] at es
      refine ⟨_, rfl, _, rfl, p1, p2, acc.1, acc.2, z.1, z.2, rfl, hp1.sq, hp2.sq, fa.1, fz.1, trivial, fun p x y H5 s5 t5 L5 r5 => ?_, fun x y H5 s5 L5 r5 => ?_⟩
      · have ea : addO acc z = some (x, y) := resO_yes de0 L5 r5
        rw [ea] at es
        exact ⟨_, rfl, rfl, _, rfl, ite2 (fun c => nomatch (of_decide_eq_true c)) (fun _ => ⟨_, _, (x, y), rfl, s2.trans s5, frD_mk (.inl t5), addO_fl fa fz ea, es⟩)⟩
      · have ea : addO acc z = none := resO_no de0 L5 r5
        rw [ea] at es
        exact ⟨_, rfl, rfl, _, rfl, ite2 (fun _ => q _ H5 (s2.trans s5) (by rw [es]; rfl)) (fun c => absurd (decide_eq_true rfl) c)⟩
    · rintro σ H2 ⟨k2, v, acc, rfl, s2, dv, fa, es⟩
      rw [List.drop_of_length_le (by omega)] at es
      exact ⟨_, rfl, q v H2 s2 (by rw [es]; exact dv)⟩
theorem minmax : ("min" : Str) ≠ "max" := by decide +kernel
def spOuter (K : PySem.W.Frag) : Sp := fun vs H Q _ => ∃ (n : Str) (l : Addr) (us : List V) (ns : List (Int × Int)), vs = [.str n, .ref l] ∧ H l = some (.lst us) ∧ DkAll K H us (ns.map frZ) ∧ (∀ z ∈ ns, Fl z.1 z.2) ∧ ns ≠ [] ∧ ∀ (v : V), Dk K H v (frZ (bestF n ns)) → Q v H
theorem okOutermost (T : Txt K mg) : FnOk P w K mg base CX0 2 T.fOutermost T.fdOutermost ["name", "numbers"] (spOuter K) := by
  refine T.FOutermost.ok scOutermost (fun vs H Q E h => ?_) (fun cdv A outer s H vs Q E hr h => ?_)
  · obtain ⟨n, l, us, ns, rfl, _⟩ := h
    rfl
  · obtain ⟨n, l, us, ns, rfl, hL, dk, fl, ne, q⟩ := h
    -- slots name=0 numbers=1 best=2 x=3
    refine ⟨_, (pss_cons (ps_set (i := 2) scOutermost.nd rfl (Or.inl rfl) (pe_ix ix_list (pv 1) pe_int (fun _ _ => rfl)))
        (pss_cons (ps_for PassesOwn.never rfl (pi_list (pv 1)) (pg_name (i := 3) scOutermost.nd rfl (Or.inl rfl))
          (pss_one (ps_if (PW.pt (pw_or (PW.pt (pw_and (pt_cmpR op_eq (pv 0) pe_str (nomark _)) (pw_and1 (pt_val (pe_call (okLess T) (hr.mono (by decide)) (by rfl) T.gLess T.FLess.kp T.bLess .nil pass0 (pa_cons (pv 3) (pa_cons (pv 2) pa_nil))))))) (pw_or1 (PW.pt (pw_and (pt_cmpR op_eq (pv 0) pe_str (nomark _)) (pw_and1 (pt_val (pe_call (okLess T) (hr.mono (by decide)) (by rfl) T.gLess T.FLess.kp T.bLess .nil pass0 (pa_cons (pv 2) (pa_cons (pv 3) pa_nil))))))))))
            (pss_one (ps_set (i := 2) scOutermost.nd rfl (Or.inl rfl) (pv 3)))
            pss_nil)))
        (pss_one (ps_ret (pv 2))))), ?_⟩
    have ln := dk.length
    rw [List.length_map] at ln
    cases ns with
    | nil => exact absurd rfl ne
    | cons z0 r0 =>
      obtain ⟨u0, ur, rfl, d0, dr⟩ := id dk.un
      refine ⟨_, rfl, l, _, _, _, rfl, rfl, SqL.of hL, atI_nat (j := 0) rfl, _, rfl, l, rfl, ⟨_, SqL.of hL⟩, for_it (walk_list (a := l) (xs := u0 :: ur)) (fun i σ H' => ∃ (k3 : Option V) (v : V), σ = [some (.str n), some (.ref l), some v, k3] ∧ H' = H ∧ Dk K H v (frZ (((z0 :: r0).take i).foldl (bestS n) z0)) ∧ Fl (((z0 :: r0).take i).foldl (bestS n) z0).1 (((z0 :: r0).take i).foldl (bestS n) z0).2) ⟨_, _, rfl, rfl, d0, fl z0 List.mem_cons_self⟩ (fun i σ H' _ ⟨_, _, _, e, _⟩ => by rw [e]; exact SqL.of hL) ?_ ?_⟩
      · rintro i x σ HX H2 hi ⟨k3, v, rfl, rfl, dv, fv⟩ ⟨rfl, hx⟩
        obtain ⟨z, hz⟩ : ∃ z, (z0 :: r0)[i]? = some z := ⟨_, List.getElem?_eq_getElem (by omega)⟩
        have dx : Dk K H2 x (frZ z) := dk.at_ i x (frZ z) hx (by rw [List.getElem?_map, hz]; rfl)
        have fz := fl z (List.mem_of_getElem? hz)
        have et : ((z0 :: r0).take (i + 1)).foldl (bestS n) z0 = bestS n (((z0 :: r0).take i).foldl (bestS n) z0) z := by
          rw [List.take_add_one, hz, List.foldl_append]
          rfl
        rw [et]
        generalize ((z0 :: r0).take i).foldl (bestS n) z0 = b at dv fv
        obtain ⟨p1, rfl, hp1⟩ := FrA.inv dv
        obtain ⟨p2, rfl, hp2⟩ := FrA.inv dx
        have yes : bestS n b z = z → ∃ (k3' : Option V) (v' : V), [some (.str n), some (.ref l), some (.ref p2), some (V.ref p2)] = [some (.str n), some (.ref l), some v', k3'] ∧ H2 = H2 ∧ Dk K H2 v' (frZ (bestS n b z)) ∧ Fl (bestS n b z).1 (bestS n b z).2 := fun e => ⟨_, _, rfl, rfl, by rw [e]; exact dx, by rw [e]; exact fz⟩
        have no : bestS n b z = b → ∃ (k3' : Option V) (v' : V), [some (.str n), some (.ref l), some (.ref p1), some (V.ref p2)] = [some (.str n), some (.ref l), some v', k3'] ∧ H2 = H2 ∧ Dk K H2 v' (frZ (bestS n b z)) ∧ Fl (bestS n b z).1 (bestS n b z).2 := fun e => ⟨_, _, rfl, rfl, by rw [e]; exact dv, by rw [e]; exact fv⟩
        refine ⟨_, rfl, rfl, _, rfl, ite2 (fun c => ?_) (fun c => ?_)⟩
        · obtain rfl : n = "min" := V.str.inj (of_decide_eq_true c)
          refine ⟨_, rfl, _, rfl, p2, p1, z.1, z.2, b.1, b.2, rfl, hp2.sq, hp1.sq, fz.1, fv.1, _, rfl, ite2 (fun lt => ?_) (fun lt => ?_)⟩
          · exact iteT ⟨_, rfl, yes (if_pos (.inl ⟨rfl, lt⟩))⟩
          · refine ⟨_, rfl, rfl, _, rfl, ifN minmax (iteF (no (if_neg ?_)))⟩
            rintro (⟨_, h⟩ | ⟨h, _⟩)
            · exact lt h
            · exact minmax h
        · have nm : n ≠ "min" := fun e => c (decide_eq_true (congrArg V.str e))
          refine iteF ⟨_, rfl, rfl, _, rfl, ite2 (fun c2 => ?_) (fun c2 => ?_)⟩
          · obtain rfl : n = "max" := V.str.inj (of_decide_eq_true c2)
            refine ⟨_, rfl, _, rfl, p1, p2, b.1, b.2, z.1, z.2, rfl, hp1.sq, hp2.sq, fv.1, fz.1, _, rfl, ite2 (fun lt => ?_) (fun lt => ?_)⟩
            · exact ⟨_, rfl, yes (if_pos (.inr ⟨rfl, lt⟩))⟩
            · refine no (if_neg ?_)
              rintro (⟨h, _⟩ | ⟨_, h⟩)
              · exact minmax h.symm
              · exact lt h
          · have nx : n ≠ "max" := fun e => c2 (decide_eq_true (congrArg V.str e))
            refine iteF (no (if_neg ?_))
            rintro (⟨h, _⟩ | ⟨h, _⟩)
            · exact nm h
            · exact nx h
      · rintro σ H2 ⟨k3, v, rfl, rfl, dv, fv⟩
        rw [List.take_of_length_le (by omega)] at dv
        exact ⟨_, rfl, q v dv⟩
theorem fn4 : ("count" : Str) ≠ "sum" ∧ ("min" : Str) ≠ "sum" ∧ ("max" : Str) ≠ "sum" ∧ ("min" : Str) ≠ "count" ∧ ("max" : Str) ≠ "count" := by decide +kernel
theorem frZ_lay : ∀ zs : List (Int × Int), PyData.canLayAll0 (zs.map frZ) = true
  | [] => by simp [PyData.canLayAll0]
  | z :: zs => by
    rw [List.map_cons]
    simp [PyData.canLayAll0, frZ, frD, PyData.canLay0, frZ_lay zs]
theorem frZ_depth : ∀ zs : List (Int × Int), PyData.depthAll (zs.map frZ) ≤ 1
  | [] => by simp [PyData.depthAll]
  | z :: zs => by
    have := frZ_depth zs
    simp only [List.map_cons, PyData.depthAll, frZ, frD, PyData.depth] at this ⊢
    omega
theorem frZ_shaped (zs : List (Int × Int)) : SeqAt.shaped (.list (zs.map frZ)) = true := by
  have h1 := frZ_depth zs
  show (PyData.canLay0 (.list (zs.map frZ)) && decide (PyData.depth (.list (zs.map frZ)) ≤ 64)) = true
  rw [Bool.and_eq_true]
  refine ⟨by simp only [PyData.canLay0]; exact frZ_lay zs, decide_eq_true ?_⟩
  simp only [PyData.depth]
  omega
theorem eqv_nil {ds : List PyData} : PyData.eqv (.list ds) (.list []) = decide (ds = []) := by
  cases ds with
  | nil => simp [PyData.eqv, PyData.eqvAll]
  | cons d ds => simp [PyData.eqv, PyData.eqvAll]
theorem valD_first (x : Val) : ∃ (s : Str) (ds : List PyData), valD x = .tuple (.str s :: ds) ∧ (s = "fault" ↔ ∃ f, x = .fault f) ∧ (s = "number" ↔ ∃ a b, x = .num a b) ∧ (s = "text" ↔ ∃ t, x = .text t) ∧ (s = "blank" ↔ x = .blank) := by
  cases x with
  | blank => exact ⟨_, _, rfl, ⟨fun h => absurd h vw.2.2.2.2.2.2.1, fun ⟨_, h⟩ => nomatch h⟩, ⟨fun h => absurd h vw.2.2.2.2.2.2.2.2.1, fun ⟨_, _, h⟩ => nomatch h⟩, ⟨fun h => absurd h vw.2.2.2.2.1, fun ⟨_, h⟩ => nomatch h⟩, ⟨fun _ => rfl, fun _ => rfl⟩⟩
  | text t => exact ⟨_, _, rfl, ⟨fun h => absurd h vw.2.2.2.2.2.1, fun ⟨_, h⟩ => nomatch h⟩, ⟨fun h => absurd h vw.2.2.2.2.2.2.2.1, fun ⟨_, _, h⟩ => nomatch h⟩, ⟨fun _ => ⟨t, rfl⟩, fun _ => rfl⟩, ⟨fun h => absurd h vw.2.2.2.2.2.2.2.2.2.1, fun h => nomatch h⟩⟩
  | fault f => exact ⟨_, _, rfl, ⟨fun _ => ⟨f, rfl⟩, fun _ => rfl⟩, ⟨fun h => absurd h vw.1, fun ⟨_, _, h⟩ => nomatch h⟩, ⟨fun h => absurd h vw.2.2.2.1, fun ⟨_, h⟩ => nomatch h⟩, ⟨fun h => absurd h vw.2.2.2.2.2.2.2.2.2.2.1, fun h => nomatch h⟩⟩
  | num a b => exact ⟨_, _, rfl, ⟨fun h => absurd h vw.2.1, fun ⟨_, h⟩ => nomatch h⟩, ⟨fun _ => ⟨a, b, rfl⟩, fun _ => rfl⟩, ⟨fun h => absurd h vw.2.2.1, fun ⟨_, h⟩ => nomatch h⟩, ⟨fun h => absurd h vw.2.2.2.2.2.2.2.2.2.2.2, fun h => nomatch h⟩⟩
theorem VA.first {K : PySem.W.Frag} {H : Hp} {v : V} {x : Val} (h : VA K H v x) : ∃ (a : Addr) (s : Str) (xs : List V), v = .ref a ∧ TP K H a (.str s :: xs) ∧ (s = "fault" ↔ ∃ f, x = .fault f) ∧ (s = "number" ↔ ∃ a b, x = .num a b) ∧ (s = "text" ↔ ∃ t, x = .text t) ∧ (s = "blank" ↔ x = .blank) := by
  obtain ⟨s, ds, e, r⟩ := valD_first x
  have h : Dk K H v (valD x) := h
  rw [e] at h
  obtain ⟨a, xs, rfl, ha, _⟩ := h.first
  exact ⟨a, s, xs, rfl, ha, r⟩
def numL1 : Val → List (Int × Int)
  | .num x y => [(x, y)]
  | _ => []
theorem scan_take : ∀ {vals : List Val} {i : Nat}, (∀ x ∈ vals.take i, ∀ f, x ≠ .fault f) → (scan vals).2 = (scan (vals.drop i)).2
  | [], i, _ => by simp
  | x :: r, 0, _ => rfl
  | x :: r, i + 1, h => by
    have h1 := h x (by simp)
    have ih := scan_take (vals := r) (i := i) fun y hy => h y (by simp [hy])
    rw [List.drop_succ_cons, ← ih]
    cases x with
    | fault f => exact absurd rfl (h1 f)
    | _ => rfl
def spCalled (K : PySem.W.Frag) : Sp := fun vs H Q _ => ∃ (n : Str) (l : Addr) (us : List V) (vals : List Val), vs = [.str n, .ref l] ∧ H l = some (.lst us) ∧ DkAll K H us (vals.map valD) ∧ (∀ x ∈ vals, isV x) ∧ us.length ≤ 1800 ∧ ∀ (v : V) (H' : Hp), Same H H' → VA K H' v (callV n vals) → Q v H'
theorem okCalled (T : Txt K mg) : FnOk P w K mg base CX0 5 T.fCalled T.fdCalled ["name", "values"] (spCalled K) := by
  refine T.FCalled.ok scCalled (fun vs H Q E h => ?_) (fun cdv A outer s H vs Q E hr h => ?_)
  · obtain ⟨n, l, us, vals, rfl, _⟩ := h
    rfl
  · obtain ⟨n, l, us, vals, rfl, hL, dk, iv, ul, q⟩ := h
    -- slots name=0 values=1 value=2 numbers=3
    refine ⟨_, (pss_cons (ps_for PassesOwn.never rfl (pi_list (pv 1)) (pg_name (i := 2) scCalled.nd rfl (Or.inl rfl))
          (pss_one (ps_if (pt_val (pe_call (okIsFault T) (hr.mono (by decide)) (by rfl) T.gIsFault T.FIsFault.kp T.bIsFault .nil pass0 (pa_cons (pv 2) pa_nil)))
            (pss_one (ps_ret (pv 2)))
            pss_nil)))
        (pss_cons (ps_setLc (i := 3) (own := [("value", 2)]) (g := gName 2) rfl scCalled.nd rfl rfl (sw_true rfl rfl rfl (by decide +kernel)) (pi_list (pv 1)) (blkOk_by (own := [("value", 2)]) (N := ["name", "values", "value", "numbers"]) (sc := defScope sCalled) (by decide +kernel)) (fun _ _ _ _ _ => (pg_name (i := 2) scCalled.nd rfl (Or.inl rfl))) (fun _ _ _ _ _ => (pts_one (pt_cmpR op_eq (pe_ix (ix_tupK (K := K) rfl) (pv 2) pe_int (fun _ _ => rfl)) pe_str (nomark _)))) (fun _ _ _ _ _ => (pe_ix (ix_tupK (K := K) rfl) (pv 2) pe_int (fun _ _ => rfl))))
        (pss_cons (ps_if (pt_cmpR op_eq (pv 0) pe_str (nomark _))
          (pss_one (ps_ret (pe_call (okNumberValue T) (hr.mono (by decide)) (by rfl) T.gNumberValue T.FNumberValue.kp T.bNumberValue .nil pass0 (pa_cons (pe_call (okTotal T) (hr.mono (by decide)) (by rfl) T.gTotal T.FTotal.kp T.bTotal .nil pass0 (pa_cons (pv 3) pa_nil)) pa_nil))))
          pss_nil)
        (pss_cons (ps_if (pt_cmpR op_eq (pv 0) pe_str (nomark _))
          (pss_one (ps_ret (pe_tup (pa_cons pe_str (pa_cons (pe_tup (pa_cons (pe_callB call_len_seq (by rfl) T.z_len PySem.boot_len (pa_cons (pv 3) pa_nil)) (pa_cons pe_int pa_nil))) pa_nil)))))
          pss_nil)
        (pss_one (ps_ret (pe_ifExp (pt_cmpR (op_eqD hr.units) (pv 3) (pe_lst pa_nil) (nomark _)) (pe_glob (v := (.ref T.p_OF_NONE)) rfl T.g_OF_NONE rfl) (pe_tup (pa_cons pe_str (pa_cons (pe_call (okOutermost T) (hr.mono (by decide)) (by rfl) T.gOutermost T.FOutermost.kp T.bOutermost .nil pass0 (pa_cons (pv 0) (pa_cons (pv 3) pa_nil))) pa_nil)))))))))), ?_⟩
    have ln := dk.length
    rw [List.length_map] at ln
    refine ⟨_, rfl, l, rfl, ⟨us, SqL.of hL⟩, for_it (walk_list (a := l) (xs := us)) (fun i σ H' => ∃ (k2 k3 : Option V), σ = [some (.str n), some (.ref l), k2, k3] ∧ H' = H ∧ ∀ x ∈ vals.take i, ∀ f, x ≠ .fault f) ⟨_, _, rfl, rfl, fun _ h => nomatch h⟩ (fun i σ H' _ ⟨_, _, _, e, _⟩ => by rw [e]; exact SqL.of hL) ?_ ?_⟩
    · rintro i x σ HX H2 hi ⟨k2, k3, rfl, rfl, nf⟩ ⟨rfl, hx⟩
      obtain ⟨z, hz⟩ : ∃ z, vals[i]? = some z := ⟨_, List.getElem?_eq_getElem (by omega)⟩
      have dx : VA K H2 x z := dk.at_ i x (valD z) hx (by rw [List.getElem?_map, hz]; rfl)
      obtain ⟨a, s, xs, rfl, ha, f1, _⟩ := dx.first
      refine ⟨_, rfl, a, s, xs, rfl, ha.sq, _, rfl, ite2 (fun c => ?_) (fun c => ?_)⟩
      · obtain ⟨f, rfl⟩ := f1.mp (V.str.inj (of_decide_eq_true c))
        refine ⟨_, rfl, q _ H2 (Same.refl _) ?_⟩
        have e : (scan vals).2 = some f := by
          rw [scan_take nf]
          obtain ⟨h1, h2⟩ := List.getElem?_eq_some_iff.mp hz
          rw [List.drop_eq_getElem_cons h1, h2]
          rfl
        unfold callV
        rw [e]
        exact dx
      · refine ⟨_, _, rfl, rfl, fun y hy f => ?_⟩
        rw [List.take_add_one, hz] at hy
        rcases List.mem_append.mp hy with h | h
        · exact nf y h f
        · have h : y = z := by simpa using h
          intro e
          exact c (decide_eq_true (congrArg V.str (f1.mpr ⟨f, h.symm.trans e⟩)))
    · rintro σ H2 ⟨k2, k3, rfl, rfl, nf⟩
      rw [List.take_of_length_le (by omega)] at nf
      have es : (scan vals).2 = none := by
        rw [scan_take (i := vals.length) fun x hx => nf x (List.mem_of_mem_take hx), List.drop_of_length_le (Nat.le_refl _)]
        rfl
      have q : ∀ (v : V) (H' : Hp), Same H2 H' → VA K H' v (numsV n (scan vals).1) → Q v H' := fun v H' s hv => q v H' s (by unfold callV; rw [es]; exact hv)
      -- the numbers
      have scan_snoc : ∀ (i : Nat) (z : Val), vals[i]? = some z → (scan (vals.take (i + 1))).1 = (scan (vals.take i)).1 ++ numL1 z := fun i z hz => by
        have key : ∀ (l : List Val), (∀ x ∈ l, ∀ f, x ≠ .fault f) → ∀ z : Val, (∀ f, z ≠ .fault f) → (scan (l ++ [z])).1 = (scan l).1 ++ numL1 z := by
          intro l
          induction l with
          | nil =>
            intro _ z hz
            cases z with
            | fault f => exact absurd rfl (hz f)
            | _ => rfl
          | cons x l ih =>
            intro h z hz
            have := ih (fun y hy => h y (List.mem_cons_of_mem _ hy)) z hz
            cases x with
            | fault f => exact absurd rfl (h _ List.mem_cons_self f)
            | num a b =>
              show (a, b) :: (scan (l ++ [z])).1 = _
              rw [this]
              rfl
            | blank => exact this
            | text t => exact this
        rw [List.take_add_one, hz]
        exact key _ (fun x hx => nf x (List.mem_of_mem_take hx)) z (nf z (List.mem_of_getElem? hz))
      refine ⟨_, rfl, l, rfl, ⟨us, SqL.of hL⟩, fun M hM => ?_⟩
      refine lc_it (walk_list (a := l) (xs := us)) (fun j H' => Same H2 H' ∧ ∃ ws, H' M = some (.lst ws) ∧ ws.length ≤ j ∧ DkAll K H' ws ((scan (vals.take j)).1.map frZ)) ⟨same_new hM, [], upd_same, Nat.le_refl _, .nil⟩ (fun j H' _ h => h.1.seq (SqL.of hL)) ?_ ?_
      · rintro j x HX H3 hj ⟨s3, ws, hws, wl, dk3⟩ ⟨rfl, hx⟩
        obtain ⟨z, hz⟩ : ∃ z, vals[j]? = some z := ⟨_, List.getElem?_eq_getElem (by omega)⟩
        have dx : VA K H3 x z := (dk.at_ j x (valD z) hx (by rw [List.getElem?_map, hz]; rfl)).tt (TT.of s3)
        have sn := scan_snoc j z hz
        obtain ⟨a, s, xs, rfl, ha, _, f2, _⟩ := dx.first
        refine ⟨rfl, _, rfl, a, _, _, _, rfl, rfl, ha.sq, atI_nat (j := 0) rfl, rfl, _, rfl, ite2 (fun c => ?_) (fun c => ?_)⟩
        · obtain ⟨x, y, rfl⟩ := f2.mp (V.str.inj (of_decide_eq_true c))
          obtain ⟨a', p, e, ha', hp⟩ := VA.num dx
          obtain rfl := V.ref.inj e
          refine ⟨_, rfl, a, _, _, _, rfl, rfl, ha'.sq, atI_nat (j := 1) rfl, ws, hws, sz100 (by omega), same_mut s3 hM, ws ++ [.ref p], upd_same, by rw [List.length_append]; exact Nat.add_le_add_right wl 1, ?_⟩
          rw [sn, List.map_append]
          exact (dk3.snoc (frD_mk hp)).tt (TK.mut hws)
        · have : numL1 z = [] := by
            cases z with
            | num x y => exact absurd (decide_eq_true (congrArg V.str (f2.mpr ⟨x, y, rfl⟩))) c
            | _ => rfl
          rw [this, List.append_nil] at sn
          exact ⟨s3, ws, hws, Nat.le_succ_of_le wl, by rw [sn]; exact dk3⟩
      · rintro H3 ⟨s3, ws, hws, wl, dk3⟩
        rw [List.take_of_length_le (by omega)] at dk3
        have fl := scan_fl iv
        have wl2 := dk3.length
        rw [List.length_map] at wl2
        generalize (scan vals).1 = ns at q dk3 fl wl2
        refine ⟨_, rfl, rfl, _, rfl, ite2 (fun c => ?_) (fun c => ?_)⟩
        · obtain rfl : n = "sum" := V.str.inj (of_decide_eq_true c)
          exact ⟨_, rfl, M, ws, ns, rfl, hws, dk3, fl, fun v H4 s4 fv => ⟨v, _, rfl, fv, fun v' H5 s5 hv => q v' H5 ((s3.trans s4).trans s5) (by unfold numsV; rw [if_pos rfl]; exact hv)⟩⟩
        have n1 : n ≠ "sum" := fun e => c (decide_eq_true (congrArg V.str e))
        refine ⟨_, rfl, rfl, _, rfl, ite2 (fun c2 => ?_) (fun c2 => ?_)⟩
        · obtain rfl : n = "count" := V.str.inj (of_decide_eq_true c2)
          refine ⟨_, rfl, M, ws, rfl, .inl (SqL.of hws), (by show 2 ≤ sizeLine; decide), fun t ht => ⟨(by show 2 ≤ sizeLine; decide), fun u hu => q _ _ ((s3.trans (same_new ht)).trans (same_new hu)) ?_⟩⟩
          unfold numsV
          rw [if_neg n1, if_pos rfl, ← wl2]
          exact VA.mkNum (.inl upd_same) (.inl ((same_new hu) _ _ upd_same))
        have n2 : n ≠ "count" := fun e => c2 (decide_eq_true (congrArg V.str e))
        have e3 : numsV n ns = if ns = [] then fNone else .num (bestF n ns).1 (bestF n ns).2 := (if_neg n1).trans (if_neg n2)
        refine ⟨_, rfl, Nat.zero_le _, fun z hz => ?_⟩
        have sz := same_new (o := .lst []) hz
        refine ⟨.list (ns.map frZ), .list [], .lst (SqL.of (sz _ _ hws)) (dk3.tt (TT.of sz)).dp, .lst (SqL.of upd_same) .nil, frZ_shaped ns, by decide +kernel, _, rfl, ?_⟩
        rw [eqv_nil]
        by_cases en : ns = []
        · rw [decide_eq_true (by rw [en]; rfl)]
          refine iteT (q _ _ (s3.trans sz) ?_)
          rw [e3, if_pos en]
          exact VA.mkFault (tp_of T.k_OF_NONE T.w_OF_NONE)
        · rw [decide_eq_false fun e => en (List.map_eq_nil_iff.mp e)]
          refine iteF ⟨_, rfl, _, rfl, n, M, ws, ns, rfl, sz _ _ hws, dk3.tt (TT.of sz), fl, en, fun v hv => ⟨(by show 2 ≤ sizeLine; decide), fun u hu => q _ _ ((s3.trans sz).trans (same_new hu)) ?_⟩⟩
          rw [e3, if_neg en]
          obtain ⟨p, rfl, hp⟩ := FrA.inv hv
          exact VA.mkNum (.inl upd_same) (hp.tt (TT.of (same_new hu)))
/-! ### trees -/
def evN (N : NA) (D : KD2) : Tr → Val
  | .gone => fGone
  | .num x y => .num x y
  | .cell r c => cellN (kn D (r, c))
  | .neg t => negV (evN N D t)
  | .op s l r => calcV s (evN N D l) (evN N D r)
  | .call n as => callV n (visV N D as)
theorem visV_len {R C : Int} {W : WC} {N : NA} (wl : Wld R C W N) (D : KD2) {as : List Ar} (al : as.length ≤ 3) (ai : ∀ a ∈ as, a.ins R C) : (visV N D as).length ≤ 1800 := by
  have nok : NOk N := fun e he z hz => (wl.nm e he z hz).1
  have h1 := flat_len_le (f := partsOf N) (m := 10) as fun a _ => parts_len nok a
  have h2 := flat_len_le (f := visP D) (m := 60) (as.flatMap (partsOf N)) fun p hp => by
    obtain ⟨a, ha, hp⟩ := List.mem_flatMap.mp hp
    exact visP_len wl.few (parts_ins wl (ai a ha) p hp)
  show ((as.flatMap (partsOf N)).flatMap (visP D)).length ≤ 1800
  omega
theorem evN_r {R C : Int} {W : WC} {N : NA} (wl : Wld R C W N) {D : KD2} (hd : isVD D) : ∀ {t : Tr}, t.okR R C → isR (evN N D t)
  | .gone, _ => trivial
  | .num x y, o => o
  | .cell r c, _ => cellN_r (kn_v hd _)
  | .neg t, o => negV_r (evN_r wl hd (t := t) o)
  | .op s l r, o => calcV_r (evN_r wl hd (t := l) o.1) (evN_r wl hd (t := r) o.2.1)
  | .call n as, o => callV_r n (visV_v hd as) (Nat.le_trans (visV_len wl D o.1 o.2.1) (by decide))
theorem kw6 : ("cell" : Str) ≠ "num" ∧ ("neg" : Str) ≠ "num" ∧ ("op" : Str) ≠ "num" ∧ ("call" : Str) ≠ "num" ∧ ("gone" : Str) ≠ "num" := by decide +kernel
def spOperand (K : PySem.W.Frag) (C0 : Addr) (n : Nat) : Sp := fun vs H Q _ => ∃ (g : Gr) (cells : Cells) (N : NA) (kd : Addr) (D : KD2) (R C : Int) (v : V) (t : Tr), vs = [.ref g.G, v, .ref kd] ∧ t.h < n ∧ GD K C0 H g cells (nmA N) ∧ Wld R C [] N ∧ KnA K H kd D ∧ isVD D ∧ TrAt H v t ∧ t.okR R C ∧
  ∀ (v' : V) (H' : Hp), Same H H' → VA K H' v' (evN N D t) → Q v' H'
theorem okOperand (T : Txt K mg) : ∀ n : Nat, FnOk P w K mg base CX0 (n + 10) T.fOperand T.fdOperand ["grid", "tree", "known"] (spOperand K T.cGrid n)
  | 0 => by
    refine T.FOperand.ok scOperand (fun vs H Q E h => ?_) (fun cdv A outer s H vs Q E hr h => ?_)
    · obtain ⟨g, cells, N, kd, D, R, C, v, t, rfl, hh, _⟩ := h
      rfl
    · obtain ⟨g, cells, N, kd, D, R, C, v, t, rfl, hh, _⟩ := h
      exact absurd hh (Nat.not_lt_zero _)
  | n + 1 => by
    have IH := okOperand T n
    refine T.FOperand.ok scOperand (fun vs H Q E h => ?_) (fun cdv A outer s H vs Q E hr h => ?_)
    · obtain ⟨g, cells, N, kd, D, R, C, v, t, rfl, _⟩ := h
      rfl
    · obtain ⟨g, cells, N, kd, D, R, C, v, t, rfl, hh, G, wl, kna, hd, ht, ok, q⟩ := h
      -- slots grid=0 tree=1 known=2 kind=3
      refine ⟨_, (pss_cons (ps_set (i := 3) scOperand.nd rfl (Or.inl rfl) (pe_ix ix_tup (pv 1) pe_int (fun _ _ => rfl)))
          (pss_cons (ps_if (pt_cmpR op_eq (pv 3) pe_str (nomark _))
            (pss_one (ps_ret (pe_tup (pa_cons pe_str (pa_cons (pe_ix ix_tup (pv 1) pe_int (fun _ _ => rfl)) pa_nil)))))
            pss_nil)
          (pss_cons (ps_if (pt_cmpR op_eq (pv 3) pe_str (nomark _))
            (pss_one (ps_ret (pe_call (okCellNumber T) (hr.mono (by omega)) (by rfl) T.gCellNumber T.FCellNumber.kp T.bCellNumber .nil pass0 (pa_cons (pe_dget2 (units2 hr) (pv 2) (pe_tup (pa_cons (pe_ix ix_tup (pv 1) pe_int (fun _ _ => rfl)) (pa_cons (pe_ix ix_tup (pv 1) pe_int (fun _ _ => rfl)) pa_nil))) (pe_glob (v := (.ref T.p_BLANK)) rfl T.g_BLANK rfl) ⟨rfl, rfl, rfl, rfl⟩) pa_nil))))
            pss_nil)
          (pss_cons (ps_if (pt_cmpR op_eq (pv 3) pe_str (nomark _))
            (pss_one (ps_ret (pe_call (okNegated T) (hr.mono (by omega)) (by rfl) T.gNegated T.FNegated.kp T.bNegated .nil pass0 (pa_cons (pe_call IH (hr.mono (by omega)) (by rfl) T.gOperand T.FOperand.kp T.bOperand .nil pass0 (pa_cons (pv 0) (pa_cons (pe_ix ix_tup (pv 1) pe_int (fun _ _ => rfl)) (pa_cons (pv 2) pa_nil)))) pa_nil))))
            pss_nil)
          (pss_cons (ps_if (pt_cmpR op_eq (pv 3) pe_str (nomark _))
            (pss_one (ps_ret (pe_call (okCalculated T) (hr.mono (by omega)) (by rfl) T.gCalculated T.FCalculated.kp T.bCalculated .nil pass0 (pa_cons (pe_ix ix_tup (pv 1) pe_int (fun _ _ => rfl)) (pa_cons (pe_call IH (hr.mono (by omega)) (by rfl) T.gOperand T.FOperand.kp T.bOperand .nil pass0 (pa_cons (pv 0) (pa_cons (pe_ix ix_tup (pv 1) pe_int (fun _ _ => rfl)) (pa_cons (pv 2) pa_nil)))) (pa_cons (pe_call IH (hr.mono (by omega)) (by rfl) T.gOperand T.FOperand.kp T.bOperand .nil pass0 (pa_cons (pv 0) (pa_cons (pe_ix ix_tup (pv 1) pe_int (fun _ _ => rfl)) (pa_cons (pv 2) pa_nil)))) pa_nil))))))
            pss_nil)
          (pss_cons (ps_if (pt_cmpR op_eq (pv 3) pe_str (nomark _))
            (pss_one (ps_ret (pe_call (okCalled T) (hr.mono (by omega)) (by rfl) T.gCalled T.FCalled.kp T.bCalled .nil pass0 (pa_cons (pe_ix ix_tup (pv 1) pe_int (fun _ _ => rfl)) (pa_cons (pe_call (okVisited T) (hr.mono (by omega)) (by rfl) T.gVisited T.FVisited.kp T.bVisited .nil pass0 (pa_cons (pv 0) (pa_cons (pe_ix ix_tup (pv 1) pe_int (fun _ _ => rfl)) (pa_cons (pv 2) pa_nil)))) pa_nil)))))
            pss_nil)
          (pss_one (ps_ret (pe_glob (v := (.ref T.p_GONE_FAULT)) rfl T.g_GONE_FAULT rfl))))))))), ?_⟩
      cases t with
      | gone =>
        obtain ⟨p, rfl, h1⟩ := ht
        exact ⟨_, rfl, _, _, _, _, rfl, rfl, SqT.of h1, atI_nat (j := 0) rfl, _, rfl, rfl, _, rfl, ifN kw6.2.2.2.2 ⟨_, rfl, rfl, _, rfl, ifN w1.2.2.2.1 ⟨_, rfl, rfl, _, rfl, ifN w1.1 ⟨_, rfl, rfl, _, rfl, ifN w1.2.1 ⟨_, rfl, rfl, _, rfl, ifN w1.2.2.1 (q _ H (Same.refl _) (VA.mkFault (tp_of T.k_GONE_FAULT T.w_GONE_FAULT)))⟩⟩⟩⟩⟩
      | num x y =>
        obtain ⟨p, p2, rfl, h1, h2⟩ := ht
        exact ⟨_, rfl, _, _, _, _, rfl, rfl, SqT.of h1, atI_nat (j := 0) rfl, _, rfl, rfl, _, rfl, ifY ⟨_, rfl, _, _, _, _, rfl, rfl, SqT.of h1, atI_nat (j := 1) rfl, (by show 2 ≤ sizeLine; decide), fun u hu => q _ _ (same_new hu) (VA.mkNum (.inl upd_same) (.inl ((same_new hu) _ _ h2)))⟩⟩
      | cell r c =>
        obtain ⟨p, rfl, h1⟩ := ht
        refine ⟨_, rfl, _, _, _, _, rfl, rfl, SqT.of h1, atI_nat (j := 0) rfl, _, rfl, rfl, _, rfl, ifN kw6.1 ⟨_, rfl, rfl, _, rfl, ifY ?_⟩⟩
        obtain ⟨kvs, hk, _⟩ := id kna
        refine ⟨_, rfl, kd, rfl, .inr ⟨kvs, .inl hk⟩, _, rfl, _, _, _, _, rfl, rfl, SqT.of h1, atI_nat (j := 1) rfl, _, rfl, _, _, _, _, rfl, rfl, SqT.of h1, atI_nat (j := 2) rfl, (by show 2 ≤ sizeLine; decide), fun z hz => ?_⟩
        have sz := same_new (o := .tup [.int r, .int c]) hz
        obtain ⟨r', dg, hv⟩ := (kna.same sz).get (z := (r, c)) (w := .ref T.p_BLANK) upd_same (.tup (tp_of T.k_BLANK T.w_BLANK) (.cons (.str _) .nil))
        exact ⟨r', dg, _, _, rfl, hv, fun v' H' s' hv' => q v' H' (sz.trans s') hv'⟩
      | neg t =>
        obtain ⟨p, u, rfl, h1, h2⟩ := ht
        refine ⟨_, rfl, _, _, _, _, rfl, rfl, SqT.of h1, atI_nat (j := 0) rfl, _, rfl, rfl, _, rfl, ifN kw6.2.1 ⟨_, rfl, rfl, _, rfl, ifN w4.2.2 ⟨_, rfl, rfl, _, rfl, ifY ?_⟩⟩⟩
        exact ⟨_, rfl, _, rfl, _, _, _, _, rfl, rfl, SqT.of h1, atI_nat (j := 1) rfl, _, rfl, g, cells, N, kd, D, R, C, u, t, rfl, hneg hh, G, wl, kna, hd, h2, ok, fun v1 H1 s1 hv1 => ⟨v1, _, rfl, evN_r wl hd (t := t) ok, hv1, fun v2 H2 s2 hv2 => q v2 H2 (s1.trans s2) hv2⟩⟩
      | op s l r =>
        obtain ⟨p, u, w, rfl, h1, h2, h3⟩ := ht
        refine ⟨_, rfl, _, _, _, _, rfl, rfl, SqT.of h1, atI_nat (j := 0) rfl, _, rfl, rfl, _, rfl, ifN kw6.2.2.1 ⟨_, rfl, rfl, _, rfl, ifN w5.2.2 ⟨_, rfl, rfl, _, rfl, ifN w5.1 ⟨_, rfl, rfl, _, rfl, ifY ?_⟩⟩⟩⟩
        refine ⟨_, rfl, _, _, _, _, rfl, rfl, SqT.of h1, atI_nat (j := 1) rfl, _, rfl, _, rfl, _, _, _, _, rfl, rfl, SqT.of h1, atI_nat (j := 2) rfl, _, rfl, g, cells, N, kd, D, R, C, u, l, rfl, (hop hh).1, G, wl, kna, hd, h2, ok.1, fun v1 H1 s1 hv1 => ?_⟩
        have h1' := s1 _ _ h1
        refine ⟨_, rfl, _, rfl, _, _, _, _, rfl, rfl, SqT.of h1', atI_nat (j := 3) rfl, _, rfl, g, cells, N, kd, D, R, C, w, r, rfl, (hop hh).2, G.same s1, wl, kna.same s1, hd, h3.mono (TK.of s1), ok.2.1, fun v2 H2 s2 hv2 => ?_⟩
        exact ⟨s, v1, v2, _, _, rfl, ok.2.2, evN_r wl hd (t := l) ok.1, evN_r wl hd (t := r) ok.2.1, hv1.same s2, hv2, fun v3 H3 s3 hv3 => q v3 H3 ((s1.trans s2).trans s3) hv3⟩
      | call n as =>
        obtain ⟨p, p2, vs, rfl, h1, h2, h3⟩ := ht
        refine ⟨_, rfl, _, _, _, _, rfl, rfl, SqT.of h1, atI_nat (j := 0) rfl, _, rfl, rfl, _, rfl, ifN kw6.2.2.2.1 ⟨_, rfl, rfl, _, rfl, ifN w6.2.2 ⟨_, rfl, rfl, _, rfl, ifN w6.1 ⟨_, rfl, rfl, _, rfl, ifN w6.2.1 ⟨_, rfl, rfl, _, rfl, ifY ?_⟩⟩⟩⟩⟩
        refine ⟨_, rfl, _, _, _, _, rfl, rfl, SqT.of h1, atI_nat (j := 1) rfl, _, rfl, _, rfl, _, _, _, _, rfl, rfl, SqT.of h1, atI_nat (j := 2) rfl, _, rfl, g, cells, N, kd, p2, D, R, C, vs, as, rfl, G, wl, h2, h3, ok.1, ok.2.1, kna, fun H1 l us s1 _ hl dk ul => ?_⟩
        exact ⟨n, l, us, _, rfl, hl, dk, visV_v hd as, ul, fun v2 H2 s2 hv2 => q v2 H2 (s1.trans s2) hv2⟩
def evW (N : NA) (D : KD2) (t : Tr) : Val := match t with
  | .cell r c => (match kn D (r, c) with
    | .text s => .text s
    | _ => evN N D t)
  | _ => evN N D t
def spEval (K : PySem.W.Frag) (C0 : Addr) : Sp := fun vs H Q _ => ∃ (g : Gr) (cells : Cells) (N : NA) (kd : Addr) (D : KD2) (R C : Int) (v : V) (t : Tr), vs = [.ref g.G, v, .ref kd] ∧ t.h < 5 ∧ GD K C0 H g cells (nmA N) ∧ Wld R C [] N ∧ KnA K H kd D ∧ isVD D ∧ TrAt H v t ∧ t.okR R C ∧
  ∀ (v' : V) (H' : Hp), Same H H' → VA K H' v' (evW N D t) → Q v' H'
theorem evW_text {N : NA} {D : KD2} {r c : Int} {s : OkS} (h : kn D (r, c) = .text s) : evW N D (.cell r c) = .text s := by
  show (match kn D (r, c) with
    | .text s => Val.text s
    | _ => evN N D (.cell r c)) = _
  rw [h]
theorem evW_else {N : NA} {D : KD2} {r c : Int} (h : ∀ s, kn D (r, c) ≠ .text s) : evW N D (.cell r c) = evN N D (.cell r c) := by
  show (match kn D (r, c) with
    | .text s => Val.text s
    | _ => evN N D (.cell r c)) = _
  cases e : kn D (r, c) with
  | text s => exact absurd e (h s)
  | _ => rfl
theorem evW_of {N : NA} {D : KD2} {t : Tr} (h : ∀ r c, t ≠ .cell r c) : evW N D t = evN N D t := by
  cases t with
  | cell r c => exact absurd rfl (h r c)
  | _ => rfl
theorem okEvaluate (T : Txt K mg) : FnOk P w K mg base CX0 16 T.fEvaluate T.fdEvaluate ["grid", "tree", "known"] (spEval K T.cGrid) := by
  refine T.FEvaluate.ok scEvaluate (fun vs H Q E h => ?_) (fun cdv A outer s H vs Q E hr h => ?_)
  · obtain ⟨g, cells, N, kd, D, R, C, v, t, rfl, _⟩ := h
    rfl
  · obtain ⟨g, cells, N, kd, D, R, C, v, t, rfl, hh, G, wl, kna, hd, ht, ok, q⟩ := h
    -- slots grid=0 tree=1 known=2 value=3
    refine ⟨_, (pss_cons (ps_if (pt_cmpR op_eq (pe_ix ix_tup (pv 1) pe_int (fun _ _ => rfl)) pe_str (nomark _))
          (pss_cons (ps_set (i := 3) scEvaluate.nd rfl (Or.inl rfl) (pe_dget2 (units2 hr) (pv 2) (pe_tup (pa_cons (pe_ix ix_tup (pv 1) pe_int (fun _ _ => rfl)) (pa_cons (pe_ix ix_tup (pv 1) pe_int (fun _ _ => rfl)) pa_nil))) (pe_glob (v := (.ref T.p_BLANK)) rfl T.g_BLANK rfl) ⟨rfl, rfl, rfl, rfl⟩))
          (pss_one (ps_if (pt_cmpR op_eq (pe_ix ix_tup (pv 3) pe_int (fun _ _ => rfl)) pe_str (nomark _))
            (pss_one (ps_ret (pv 3)))
            pss_nil)))
          pss_nil)
        (pss_one (ps_ret (pe_call (okOperand T 5) (hr.mono (by decide)) (by rfl) T.gOperand T.FOperand.kp T.bOperand .nil pass0 (pa_cons (pv 0) (pa_cons (pv 1) (pa_cons (pv 2) pa_nil))))))), ?_⟩
    have go : ∀ (H1 : Hp), Same H H1 → evW N D t = evN N D t → spOperand K T.cGrid 5 [.ref g.G, v, .ref kd] H1 Q (fun _ _ _ => False) := fun H1 s1 e =>
      ⟨g, cells, N, kd, D, R, C, v, t, rfl, hh, G.same s1, wl, kna.same s1, hd, ht.mono (TK.of s1), ok, fun v' H' s' hv => q v' H' (s1.trans s') (by rw [e]; exact hv)⟩
    cases t with
    | gone =>
      obtain ⟨p, rfl, h1⟩ := id ht
      exact ⟨_, rfl, _, _, _, _, rfl, rfl, SqT.of h1, atI_nat (j := 0) rfl, rfl, _, rfl, ifN w1.2.2.2.1 ⟨_, rfl, _, rfl, _, rfl, go H (Same.refl _) rfl⟩⟩
    | num x y =>
      obtain ⟨p, p2, rfl, h1, h2⟩ := id ht
      exact ⟨_, rfl, _, _, _, _, rfl, rfl, SqT.of h1, atI_nat (j := 0) rfl, rfl, _, rfl, ifN w2.2.2.2 ⟨_, rfl, _, rfl, _, rfl, go H (Same.refl _) rfl⟩⟩
    | neg t =>
      obtain ⟨p, u, rfl, h1, h2⟩ := id ht
      exact ⟨_, rfl, _, _, _, _, rfl, rfl, SqT.of h1, atI_nat (j := 0) rfl, rfl, _, rfl, ifN w4.2.2 ⟨_, rfl, _, rfl, _, rfl, go H (Same.refl _) rfl⟩⟩
    | op s l r =>
      obtain ⟨p, u, w, rfl, h1, h2, h3⟩ := id ht
      exact ⟨_, rfl, _, _, _, _, rfl, rfl, SqT.of h1, atI_nat (j := 0) rfl, rfl, _, rfl, ifN w5.2.2 ⟨_, rfl, _, rfl, _, rfl, go H (Same.refl _) rfl⟩⟩
    | call n as =>
      obtain ⟨p, p2, vs, rfl, h1, h2, h3⟩ := id ht
      exact ⟨_, rfl, _, _, _, _, rfl, rfl, SqT.of h1, atI_nat (j := 0) rfl, rfl, _, rfl, ifN w6.2.2 ⟨_, rfl, _, rfl, _, rfl, go H (Same.refl _) rfl⟩⟩
    | cell r c =>
      obtain ⟨p, rfl, h1⟩ := id ht
      obtain ⟨kvs, hk, _⟩ := id kna
      refine ⟨_, rfl, _, _, _, _, rfl, rfl, SqT.of h1, atI_nat (j := 0) rfl, rfl, _, rfl, ifY ⟨_, rfl, kd, rfl, .inr ⟨kvs, .inl hk⟩, _, rfl, _, _, _, _, rfl, rfl, SqT.of h1, atI_nat (j := 1) rfl, _, rfl, _, _, _, _, rfl, rfl, SqT.of h1, atI_nat (j := 2) rfl, (by show 2 ≤ sizeLine; decide), fun z hz => ?_⟩⟩
      have sz := same_new (o := .tup [.int r, .int c]) hz
      obtain ⟨r', dg, hv⟩ := (kna.same sz).get (z := (r, c)) (w := .ref T.p_BLANK) upd_same (.tup (tp_of T.k_BLANK T.w_BLANK) (.cons (.str _) .nil))
      refine ⟨r', dg, ?_⟩
      obtain ⟨a, s, xs, ea, ha, _, _, f3, _⟩ := hv.first
      rw [ea] at hv ⊢
      refine ⟨_, rfl, a, _, _, _, rfl, rfl, ha.sq, atI_nat (j := 0) rfl, rfl, _, rfl, ite2 (fun c => ?_) (fun c => ?_)⟩
      · obtain ⟨t, et⟩ := f3.mp (V.str.inj (of_decide_eq_true c))
        refine ⟨_, rfl, q _ _ sz ?_⟩
        rw [evW_text et]
        rw [et] at hv
        exact hv
      · refine ⟨_, rfl, _, rfl, _, rfl, go _ sz (evW_else fun t et => c (decide_eq_true (congrArg V.str (f3.mpr ⟨t, et⟩))))⟩
theorem abs_le {n : Int} : ((if n < 0 then -n else n) ≤ 1000000000000000000) ↔ (-1000000000000000000 ≤ n ∧ n ≤ 1000000000000000000) := by
  split <;> omega
def spLawIn (K : PySem.W.Frag) : Sp := fun vs H Q _ => ∃ (a : Addr) (n d : Int), vs = [.ref a] ∧ SqT K H a [.int n, .int d] ∧ Q (.bl (inR n d)) H
theorem okLawInRange (T : Txt K mg) : FnOk P w K mg base CX0 1 T.fLawInRange T.fdLawInRange ["x"] (spLawIn K) := by
  refine T.FLawInRange.ok scLawInRange (fun vs H Q E h => ?_) (fun cdv A outer s H vs Q E hr h => ?_)
  · obtain ⟨a, n, d, rfl, _⟩ := h
    rfl
  · obtain ⟨a, n, d, rfl, ha, q⟩ := h
    -- slots x=0
    refine ⟨_, (pss_one (ps_ret (pe_and (pe_cmpR op_le (pe_callB call_abs (by rfl) T.z_abs (by decide +kernel) (pa_cons (pe_ix ix_tup (pv 0) pe_int (fun _ _ => rfl)) pa_nil)) (pe_op op_pow pe_int pe_int) (nomark _)) (pe_one (pe_cmpR op_le (pe_ix ix_tup (pv 0) pe_int (fun _ _ => rfl)) (pe_op op_pow pe_int pe_int) (nomark _)))))), ?_⟩
    have e : ∀ b : Bool, (decide ((if n < 0 then -n else n) ≤ 1000000000000000000) && b) = (decide (-1000000000000000000 ≤ n) && decide (n ≤ 1000000000000000000) && b) := fun b => by
      congr 1
      rw [← Bool.decide_and]
      exact decide_eq_decide.mpr abs_le
    unfold inR at q
    rw [← e] at q
    refine ⟨_, rfl, a, _, _, _, rfl, rfl, ha, atI_nat (j := 0) rfl, _, rfl, _, _, rfl, rfl, ⟨by decide, by decide, by decide⟩, _, _, rfl, rfl, _, rfl, ?_⟩
    refine ite2 (fun c => ?_) (fun c => ?_)
    · have c2 : decide ((if n < 0 then -n else n) ≤ 1000000000000000000) = true := c
      rw [c2, Bool.true_and] at q
      exact ⟨_, rfl, a, _, _, _, rfl, rfl, ha, atI_nat (j := 1) rfl, _, _, rfl, rfl, ⟨by decide, by decide, by decide⟩, _, _, rfl, rfl, q⟩
    · have c2 : decide ((if n < 0 then -n else n) ≤ 1000000000000000000) = false := Bool.eq_false_iff.mpr c
      rw [c2, Bool.false_and] at q
      exact q
/-! ### the value of a cell -/
def contV : Ct → Val
  | .text s => .text s
  | .num x y => .num x y
  | _ => .blank
def vfC (N : NA) (D : KD2) (cs : List Ct) : Val := match cs with
  | [] => .blank
  | [.form t] => evW N D t
  | [c] => contV c
  | _ => fClash
def vfW (W : WC) (N : NA) (D : KD2) (z : Int × Int) : Val := vfC N D ((getE W z).getD [])
def spVF (K : PySem.W.Frag) (C0 : Addr) : Sp := fun vs H Q _ => ∃ (g : Gr) (W : WC) (N : NA) (kd : Addr) (D : KD2) (R C : Int) (a : Addr) (z : Int × Int), vs = [.ref g.G, .ref a, .ref kd] ∧ GD K C0 H g (cdW W) (nmA N) ∧ Wld R C [] N ∧ (∀ e ∈ W, OkSh R C e.2) ∧ KnA K H kd D ∧ isVD D ∧ H a = some (.tup [.int z.1, .int z.2]) ∧
  ∀ (v' : V) (H' : Hp), Same H H' → VA K H' v' (vfW W N D z) → Q v' H'
theorem okValueFrom (T : Txt K mg) : FnOk P w K mg base CX0 17 T.fValueFrom T.fdValueFrom ["grid", "cell", "known"] (spVF K T.cGrid) := by
  refine T.FValueFrom.ok scValueFrom (fun vs H Q E h => ?_) (fun cdv A outer s H vs Q E hr h => ?_)
  · obtain ⟨g, W, N, kd, D, R, C, a, z, rfl, _⟩ := h
    rfl
  · obtain ⟨g, W, N, kd, D, R, C, a, z, rfl, G, wl, shs, kna, hd, ha, q⟩ := h
    -- slots grid=0 cell=1 known=2 shown=3 tree=4
    refine ⟨_, (pss_cons (ps_set (i := 3) scValueFrom.nd rfl (Or.inl rfl) (pe_meth (pv 0) T.clGrid T.meGrid_Shown (okGrid_Shown T) (hr.mono (by decide)) T.bGrid_Shown .nil pass0 (pa_cons (pv 1) pa_nil)))
        (pss_cons (ps_if (pt_cmpR (op_eqD hr.units) (pv 3) (pe_lst pa_nil) (nomark _))
          (pss_one (ps_ret (pe_glob (v := (.ref T.p_BLANK)) rfl T.g_BLANK rfl)))
          pss_nil)
        (pss_cons (ps_if (pt_cmpR op_gt (pe_callB call_len_seq (by rfl) T.z_len PySem.boot_len (pa_cons (pv 3) pa_nil)) pe_int (nomark _))
          (pss_one (ps_ret (pe_glob (v := (.ref T.p_CLASH)) rfl T.g_CLASH rfl)))
          pss_nil)
        (pss_cons (ps_set (i := 4) scValueFrom.nd rfl (Or.inl rfl) (pe_call (okFormulaOf T) (hr.mono (by decide)) (by rfl) T.gFormulaOf T.FFormulaOf.kp T.bFormulaOf .nil pass0 (pa_cons (pv 0) (pa_cons (pv 1) pa_nil))))
        (pss_one (ps_ret (pe_ifExp (pt_cmpR op_isN (pv 4) pe_non (nomark _)) (pe_ix ix_list (pv 3) pe_int (fun _ _ => rfl)) (pe_call (okEvaluate T) (hr.mono (by decide)) (by rfl) T.gEvaluate T.FEvaluate.kp T.bEvaluate .nil pass0 (pa_cons (pv 0) (pa_cons (pv 4) (pa_cons (pv 2) pa_nil))))))))))), ?_⟩
    obtain ⟨⟨dx, hG⟩, _⟩ := id G
    refine ⟨_, rfl, g.G, dx, _, rfl, hG, rfl, _, rfl, g, cdW W, nmA N, a, z, rfl, G, ha, fun p us H1 s1 hp dt hpn => ?_⟩
    rw [shown_data] at dt
    have ef : formulaAt W z = formOf ((getE W z).getD []) := rfl
    have ok : ∀ c ∈ (getE W z).getD [], OkC R C c := fun c hc => by
      cases e : getE W z with
      | none =>
        rw [e] at hc
        cases hc
      | some cs =>
        rw [e] at hc
        exact (shs _ (getE_key e)).all c hc
    have q : ∀ (v' : V) (H' : Hp), Same H H' → VA K H' v' (vfC N D ((getE W z).getD [])) → Q v' H' := q
    generalize (getE W z).getD [] = cs at dt ef ok q
    have ln := dt.length
    rw [List.length_map] at ln
    have sh : SeqAt.shaped (.list (cs.map ctD)) = true := by
      obtain ⟨h1, h2⟩ := cts_shaped cs ok
      show (PyData.canLay0 (.list (cs.map ctD)) && decide (PyData.depth (.list (cs.map ctD)) ≤ 64)) = true
      rw [Bool.and_eq_true]
      refine ⟨by simp only [PyData.canLay0]; exact h1, decide_eq_true ?_⟩
      simp only [PyData.depth]
      omega
    refine ⟨_, rfl, Nat.zero_le _, fun l0 hl0 => ?_⟩
    have s0 := same_new (o := .lst []) hl0
    have s2 := s1.trans s0
    have hp2 := s0 _ _ hp
    have dt2 := dtA_same s0 dt
    refine ⟨.list (cs.map ctD), .list [], .lst (SqL.of hp2) dt2.dp, .lst (SqL.of upd_same) .nil, sh, by decide +kernel, _, rfl, ?_⟩
    rw [eqv_nil]
    generalize upd H1 l0 (.lst []) = H2 at s0 s2 hp2 dt2
    cases cs with
    | nil =>
      rw [decide_eq_true (show ([] : List Ct).map ctD = [] from rfl)]
      exact iteT (q _ _ s2 (.tup (tp_of T.k_BLANK T.w_BLANK) (.cons (.str _) .nil)))
    | cons c cs =>
      rw [decide_eq_false (by simp)]
      refine iteF ⟨_, rfl, p, _, rfl, .inl (SqL.of hp2), _, _, rfl, rfl, _, rfl, ite2 (fun y => ?_) (fun y => ?_)⟩
      · have y := of_decide_eq_true y
        rw [ln, List.length_cons] at y
        cases cs with
        | nil => exact absurd y (by decide)
        | cons c2 cs =>
          refine q _ _ s2 ?_
          have e : vfC N D (c :: c2 :: cs) = fClash := by cases c <;> rfl
          rw [e]
          exact VA.mkFault (tp_of T.k_CLASH T.w_CLASH)
      · cases cs with
        | cons c2 cs =>
          exfalso
          apply y
          apply decide_eq_true
          rw [ln, List.length_cons, List.length_cons]
          omega
        | nil =>
          obtain ⟨x, r2, rfl, hx, re⟩ := dt2.un
          obtain rfl := re.end_
          have plain : formulaAt W z = none → vfC N D [c] = contV c → ctD c = valD (contV c) → ∀ H3, Same H2 H3 → Q x H3 := fun e e2 e3 H3 s3 => q _ _ (s2.trans s3) (by
            rw [e2]
            unfold VA
            rw [← e3]
            exact (hx.tt (TT.of s3)).dk)
          refine ⟨_, rfl, _, rfl, g, W, nmA N, a, z, rfl, G.same s2, s2 _ _ ha, fun H3 s3 en => ?_, fun H3 v t s3 es ht => ?_⟩
          · refine ⟨_, rfl, rfl, _, rfl, ite2 (fun _ => ?_) (fun cc => absurd (decide_eq_true rfl) cc)⟩
            refine ⟨_, rfl, p, _, _, _, rfl, rfl, SqL.of (s3 _ _ hp2), atI_nat (j := 0) rfl, ?_⟩
            cases c with
            | form t =>
              rw [ef] at en
              cases en
            | text w => exact plain en rfl rfl H3 s3
            | num x y => exact plain en rfl rfl H3 s3
            | blank => exact plain en rfl rfl H3 s3
          · have nv : v ≠ .non := fun e => by
              rw [e] at ht
              have := ht.dt
              cases t <;> cases this
            refine ⟨_, rfl, rfl, _, rfl, ite2 (fun cc => absurd (of_decide_eq_true cc) nv) (fun _ => ?_)⟩
            cases c with
            | text w =>
              rw [ef] at es
              cases es
            | num x y =>
              rw [ef] at es
              cases es
            | blank =>
              rw [ef] at es
              cases es
            | form t2 =>
              rw [ef] at es
              obtain rfl : t2 = t := Option.some.inj es
              obtain ⟨tok, th⟩ := ok _ List.mem_cons_self
              have s3' := s2.trans s3
              exact ⟨_, rfl, _, rfl, _, rfl, g, cdW W, N, kd, D, R, C, v, t2, rfl, th, G.same s3', wl, kna.same s3', hd, ht, tok, fun v' H' s' hv => q v' H' (s3'.trans s') hv⟩
/-! ### the law's own reckoning -/
theorem pl3 : ("+" : Str) ≠ "/" ∧ ("+" : Str) ≠ "-" ∧ ("+" : Str) ≠ "*" := by decide +kernel
theorem mi3 : ("-" : Str) ≠ "/" ∧ ("-" : Str) ≠ "*" := by decide +kernel
theorem st2 : ("*" : Str) ≠ "/" := by decide +kernel
def spLOp (K : PySem.W.Frag) : Sp := fun vs H Q _ => ∃ (s : Str) (vl vr : V) (l r : Val), vs = [.str s, vl, vr] ∧ s ∈ signsL ∧ isR l ∧ isR r ∧ VA K H vl l ∧ VA K H vr r ∧ ∀ (v' : V) (H' : Hp), Same H H' → VA K H' v' (calcV s l r) → Q v' H'
theorem okLawOperate (T : Txt K mg) : FnOk P w K mg base CX0 3 T.fLawOperate T.fdLawOperate ["sign", "left", "right"] (spLOp K) := by
  refine T.FLawOperate.ok scLawOperate (fun vs H Q E h => ?_) (fun cdv A outer s H vs Q E hr h => ?_)
  · obtain ⟨s, vl, vr, l, r, rfl, _⟩ := h
    rfl
  · obtain ⟨s, vl, vr, l, r, rfl, hs, hl, hR, al, ar, q⟩ := h
    -- slots sign=0 left=1 right=2 x=3 y=4 n=5 d=6 result=7
    refine ⟨_, (pss_cons (ps_if (pt_cmpR op_eq (pe_ix ix_tup (pv 1) pe_int (fun _ _ => rfl)) pe_str (nomark _))
          (pss_one (ps_ret (pv 1)))
          pss_nil)
        (pss_cons (ps_if (pt_cmpR op_eq (pe_ix ix_tup (pv 2) pe_int (fun _ _ => rfl)) pe_str (nomark _))
          (pss_one (ps_ret (pv 2)))
          pss_nil)
        (pss_cons (ps_set (i := 3) scLawOperate.nd rfl (Or.inl rfl) (pe_ix ix_tup (pv 1) pe_int (fun _ _ => rfl)))
        (pss_cons (ps_set (i := 4) scLawOperate.nd rfl (Or.inl rfl) (pe_ix ix_tup (pv 2) pe_int (fun _ _ => rfl)))
        (pss_cons (ps_if (PW.pt (pw_and (pt_cmpR op_eq (pv 0) pe_str (nomark _)) (pw_and1 (pt_cmpR op_eq (pe_ix ix_tup (pv 4) pe_int (fun _ _ => rfl)) pe_int (nomark _)))))
          (pss_one (ps_ret (pe_tup (pa_cons pe_str (pa_cons pe_str pa_nil)))))
          pss_nil)
        (pss_cons (ps_set (i := 5) scLawOperate.nd rfl (Or.inl rfl) (pe_op op_add (pe_op op_mul (pe_ix ix_tup (pv 3) pe_int (fun _ _ => rfl)) (pe_ix ix_tup (pv 4) pe_int (fun _ _ => rfl))) (pe_op op_mul (pe_ix ix_tup (pv 4) pe_int (fun _ _ => rfl)) (pe_ix ix_tup (pv 3) pe_int (fun _ _ => rfl)))))
        (pss_cons (ps_set (i := 6) scLawOperate.nd rfl (Or.inl rfl) (pe_op op_mul (pe_ix ix_tup (pv 3) pe_int (fun _ _ => rfl)) (pe_ix ix_tup (pv 4) pe_int (fun _ _ => rfl))))
        (pss_cons (ps_if (pt_cmpR op_eq (pv 0) pe_str (nomark _))
          (pss_one (ps_set (i := 5) scLawOperate.nd rfl (Or.inl rfl) (pe_op op_sub (pe_op op_mul (pe_ix ix_tup (pv 3) pe_int (fun _ _ => rfl)) (pe_ix ix_tup (pv 4) pe_int (fun _ _ => rfl))) (pe_op op_mul (pe_ix ix_tup (pv 4) pe_int (fun _ _ => rfl)) (pe_ix ix_tup (pv 3) pe_int (fun _ _ => rfl))))))
          pss_nil)
        (pss_cons (ps_if (pt_cmpR op_eq (pv 0) pe_str (nomark _))
          (pss_one (ps_set (i := 5) scLawOperate.nd rfl (Or.inl rfl) (pe_op op_mul (pe_ix ix_tup (pv 3) pe_int (fun _ _ => rfl)) (pe_ix ix_tup (pv 4) pe_int (fun _ _ => rfl)))))
          pss_nil)
        (pss_cons (ps_if (pt_cmpR op_eq (pv 0) pe_str (nomark _))
          (pss_cons (ps_set (i := 5) scLawOperate.nd rfl (Or.inl rfl) (pe_op op_mul (pe_ix ix_tup (pv 3) pe_int (fun _ _ => rfl)) (pe_ix ix_tup (pv 4) pe_int (fun _ _ => rfl))))
          (pss_one (ps_set (i := 6) scLawOperate.nd rfl (Or.inl rfl) (pe_op op_mul (pe_ix ix_tup (pv 3) pe_int (fun _ _ => rfl)) (pe_ix ix_tup (pv 4) pe_int (fun _ _ => rfl))))))
          pss_nil)
        (pss_cons (ps_set (i := 7) scLawOperate.nd rfl (Or.inl rfl) (pe_call (okLawLowest T) (hr.mono (by decide)) (by rfl) T.gLawLowest T.FLawLowest.kp T.bLawLowest .nil pass0 (pa_cons (pv 5) (pa_cons (pv 6) pa_nil))))
        (pss_cons (ps_if (pt_not (pt_val (pe_call (okLawInRange T) (hr.mono (by decide)) (by rfl) T.gLawInRange T.FLawInRange.kp T.bLawInRange .nil pass0 (pa_cons (pv 7) pa_nil))))
          (pss_one (ps_ret (pe_tup (pa_cons pe_str (pa_cons pe_str pa_nil)))))
          pss_nil)
        (pss_one (ps_ret (pe_tup (pa_cons pe_str (pa_cons (pv 7) pa_nil))))))))))))))))), ?_⟩
    cases l with
    | blank => exact hl.elim
    | text t => exact hl.elim
    | fault t =>
      obtain ⟨a, rfl, ha⟩ := VA.two al
      exact ⟨_, rfl, a, _, _, _, rfl, rfl, ha.sq, atI_nat (j := 0) rfl, rfl, _, rfl, ifY ⟨_, rfl, q _ H (Same.refl _) al⟩⟩
    | num n d =>
      obtain ⟨a, p1, rfl, ha, hp1⟩ := VA.num al
      refine ⟨_, rfl, a, _, _, _, rfl, rfl, ha.sq, atI_nat (j := 0) rfl, rfl, _, rfl, ifN vw.2.1 ?_⟩
      cases r with
      | blank => exact hR.elim
      | text t => exact hR.elim
      | fault t =>
        obtain ⟨b, rfl, hb⟩ := VA.two ar
        exact ⟨_, rfl, b, _, _, _, rfl, rfl, hb.sq, atI_nat (j := 0) rfl, rfl, _, rfl, ifY ⟨_, rfl, q _ H (Same.refl _) ar⟩⟩
      | num m e =>
        obtain ⟨b, p2, rfl, hb, hp2⟩ := VA.num ar
        obtain ⟨⟨n1, n2, d1, d2⟩, g1⟩ := hl
        obtain ⟨⟨m1, m2, e1, e2⟩, g2⟩ := hR
        have de0 : d * e ≠ 0 := Int.mul_ne_zero (by omega) (by omega)
        refine ⟨_, rfl, b, _, _, _, rfl, rfl, hb.sq, atI_nat (j := 0) rfl, rfl, _, rfl, ifN vw.2.1 ?_⟩
        refine ⟨_, rfl, a, _, _, _, rfl, rfl, ha.sq, atI_nat (j := 1) rfl, _, rfl, b, _, _, _, rfl, rfl, hb.sq, atI_nat (j := 1) rfl, ?_⟩
        have q : ∀ (v' : V) (H' : Hp), Same H H' → VA K H' v' (arV s n d m e) → Q v' H' := q
        have hn : n.natAbs ≤ 10 ^ 18 := by omega
        have hm : m.natAbs ≤ 10 ^ 18 := by omega
        have hdd : d.natAbs ≤ 10 ^ 18 := by omega
        have he : e.natAbs ≤ 10 ^ 18 := by omega
        have m4 : ∀ {a b : Int}, a.natAbs ≤ 10 ^ 18 → b.natAbs ≤ 10 ^ 18 → (a * b).natAbs < 2 ^ 200 := fun h1 h2 => by
          rw [Int.natAbs_mul]
          exact Nat.lt_of_le_of_lt (Nat.mul_le_mul h1 h2) (by decide)
        have up : ∀ {a : Int}, a.natAbs < 2 ^ 200 → a.natAbs < 2 ^ 400 := fun h => Nat.lt_trans h (by decide)
        have up2 : ∀ {a b : Int}, a.natAbs < 2 ^ 200 → b.natAbs < 2 ^ 200 → (a + b).natAbs < 2 ^ 400 := fun {a b} h1 h2 => by
          refine Nat.lt_of_le_of_lt (Int.natAbs_add_le a b) ?_
          exact Nat.lt_of_lt_of_le (Nat.add_lt_add h1 h2) (by decide)
        have up3 : ∀ {a b : Int}, a.natAbs < 2 ^ 200 → b.natAbs < 2 ^ 200 → (a - b).natAbs < 2 ^ 400 := fun {a b} h1 h2 => by
          rw [Int.sub_eq_add_neg]
          exact up2 h1 (by rw [Int.natAbs_neg]; exact h2)
        have fin : ∀ (f g : Int), g ≠ 0 → arV s n d m e = resV f g → ∀ p x y, H p = none → Low f g x y → (inR x y = true → ∀ u, (upd H p (.tup [.int x, .int y])) u = none → Q (.ref u) (upd (upd H p (.tup [.int x, .int y])) u (.tup [.str "number", .ref p]))) ∧ (inR x y = false → ∀ u, (upd H p (.tup [.int x, .int y])) u = none → Q (.ref u) (upd (upd H p (.tup [.int x, .int y])) u (.tup [.str "fault", .str "range"]))) := fun f g g0 ea p x y hp L => by
          have sp := same_new (o := .tup [.int x, .int y]) hp
          refine ⟨fun r u hu => q _ _ (sp.trans (same_new hu)) ?_, fun r u hu => q _ _ (sp.trans (same_new hu)) ?_⟩
          · rw [ea]
            unfold resV
            rw [resO_yes g0 L r]
            exact VA.mkNum (.inl upd_same) (.inl ((same_new hu) _ _ upd_same))
          · rw [ea]
            unfold resV
            rw [resO_no g0 L r]
            exact VA.mkFault (.inl upd_same)
        simp only [signsL, List.mem_cons, List.not_mem_nil, or_false] at hs
        rcases hs with rfl | rfl | rfl | rfl
        · have ea : arV "+" n d m e = resV (n * e + m * d) (d * e) := if_pos rfl
          refine ⟨_, rfl, rfl, _, rfl, ifN pl3.1 (iteF ⟨_, rfl, _, _, _, _, rfl, rfl, hp1.sq, atI_nat (j := 0) rfl, _, rfl, _, _, _, _, rfl, rfl, hp2.sq, atI_nat (j := 1) rfl, _, _, rfl, rfl, .inl ⟨by omega, by omega⟩, _, rfl, _, _, _, _, rfl, rfl, hp2.sq, atI_nat (j := 0) rfl, _, rfl, _, _, _, _, rfl, rfl, hp1.sq, atI_nat (j := 1) rfl, _, _, rfl, rfl, .inl ⟨by omega, by omega⟩, _, _, rfl, rfl, _, rfl, _, _, _, _, rfl, rfl, hp1.sq, atI_nat (j := 1) rfl, _, rfl, _, _, _, _, rfl, rfl, hp2.sq, atI_nat (j := 1) rfl, _, _, rfl, rfl, .inl ⟨by omega, by omega⟩, ?_⟩)⟩
          refine ⟨_, rfl, rfl, _, rfl, ifN pl3.2.1 ⟨_, rfl, rfl, _, rfl, ifN pl3.2.2 ⟨_, rfl, rfl, _, rfl, ifN pl3.1 ?_⟩⟩⟩
          refine ⟨_, rfl, _, rfl, _, _, rfl, de0, up2 (m4 hn he) (m4 hm hdd), up (m4 hdd he), fun p x y hp L => ⟨_, rfl, p, x, y, rfl, SqT.of upd_same, _, rfl, ?_⟩⟩
          obtain ⟨f1, f2⟩ := fin _ _ de0 ea p x y hp L
          cases e5 : inR x y with
          | true => exact iteF ⟨_, rfl, (by show 2 ≤ sizeLine; decide), f1 e5⟩
          | false => exact iteT ⟨(by show 2 ≤ sizeLine; decide), f2 e5⟩
        · have ea : arV "-" n d m e = resV (n * e - m * d) (d * e) := (if_neg sg4.1).trans (if_pos rfl)
          refine ⟨_, rfl, rfl, _, rfl, ifN mi3.1 (iteF ⟨_, rfl, _, _, _, _, rfl, rfl, hp1.sq, atI_nat (j := 0) rfl, _, rfl, _, _, _, _, rfl, rfl, hp2.sq, atI_nat (j := 1) rfl, _, _, rfl, rfl, .inl ⟨by omega, by omega⟩, _, rfl, _, _, _, _, rfl, rfl, hp2.sq, atI_nat (j := 0) rfl, _, rfl, _, _, _, _, rfl, rfl, hp1.sq, atI_nat (j := 1) rfl, _, _, rfl, rfl, .inl ⟨by omega, by omega⟩, _, _, rfl, rfl, _, rfl, _, _, _, _, rfl, rfl, hp1.sq, atI_nat (j := 1) rfl, _, rfl, _, _, _, _, rfl, rfl, hp2.sq, atI_nat (j := 1) rfl, _, _, rfl, rfl, .inl ⟨by omega, by omega⟩, ?_⟩)⟩
          refine ⟨_, rfl, rfl, _, rfl, ifY ⟨_, rfl, _, _, _, _, rfl, rfl, hp1.sq, atI_nat (j := 0) rfl, _, rfl, _, _, _, _, rfl, rfl, hp2.sq, atI_nat (j := 1) rfl, _, _, rfl, rfl, .inl ⟨by omega, by omega⟩, _, rfl, _, _, _, _, rfl, rfl, hp2.sq, atI_nat (j := 0) rfl, _, rfl, _, _, _, _, rfl, rfl, hp1.sq, atI_nat (j := 1) rfl, _, _, rfl, rfl, .inl ⟨by omega, by omega⟩, _, _, rfl, rfl, _, rfl, rfl, _, rfl, ifN mi3.2 ⟨_, rfl, rfl, _, rfl, ifN mi3.1 ?_⟩⟩⟩
          refine ⟨_, rfl, _, rfl, _, _, rfl, de0, up3 (m4 hn he) (m4 hm hdd), up (m4 hdd he), fun p x y hp L => ⟨_, rfl, p, x, y, rfl, SqT.of upd_same, _, rfl, ?_⟩⟩
          obtain ⟨f1, f2⟩ := fin _ _ de0 ea p x y hp L
          cases e5 : inR x y with
          | true => exact iteF ⟨_, rfl, (by show 2 ≤ sizeLine; decide), f1 e5⟩
          | false => exact iteT ⟨(by show 2 ≤ sizeLine; decide), f2 e5⟩
        · have ea : arV "*" n d m e = resV (n * m) (d * e) := (if_neg sg4.2.1).trans ((if_neg sg4.2.2.1).trans (if_pos rfl))
          refine ⟨_, rfl, rfl, _, rfl, ifN st2 (iteF ⟨_, rfl, _, _, _, _, rfl, rfl, hp1.sq, atI_nat (j := 0) rfl, _, rfl, _, _, _, _, rfl, rfl, hp2.sq, atI_nat (j := 1) rfl, _, _, rfl, rfl, .inl ⟨by omega, by omega⟩, _, rfl, _, _, _, _, rfl, rfl, hp2.sq, atI_nat (j := 0) rfl, _, rfl, _, _, _, _, rfl, rfl, hp1.sq, atI_nat (j := 1) rfl, _, _, rfl, rfl, .inl ⟨by omega, by omega⟩, _, _, rfl, rfl, _, rfl, _, _, _, _, rfl, rfl, hp1.sq, atI_nat (j := 1) rfl, _, rfl, _, _, _, _, rfl, rfl, hp2.sq, atI_nat (j := 1) rfl, _, _, rfl, rfl, .inl ⟨by omega, by omega⟩, ?_⟩)⟩
          refine ⟨_, rfl, rfl, _, rfl, ifN sg4.2.2.1 ⟨_, rfl, rfl, _, rfl, ifY ⟨_, rfl, _, _, _, _, rfl, rfl, hp1.sq, atI_nat (j := 0) rfl, _, rfl, _, _, _, _, rfl, rfl, hp2.sq, atI_nat (j := 0) rfl, _, _, rfl, rfl, .inl ⟨by omega, by omega⟩, _, rfl, rfl, _, rfl, ifN st2 ?_⟩⟩⟩
          refine ⟨_, rfl, _, rfl, _, _, rfl, de0, up (m4 hn hm), up (m4 hdd he), fun p x y hp L => ⟨_, rfl, p, x, y, rfl, SqT.of upd_same, _, rfl, ?_⟩⟩
          obtain ⟨f1, f2⟩ := fin _ _ de0 ea p x y hp L
          cases e5 : inR x y with
          | true => exact iteF ⟨_, rfl, (by show 2 ≤ sizeLine; decide), f1 e5⟩
          | false => exact iteT ⟨(by show 2 ≤ sizeLine; decide), f2 e5⟩
        · have ea0 : arV "/" n d m e = if m = 0 then fZero else resV (n * e) (d * m) := (if_neg sg4.2.2.2.1).trans ((if_neg sg4.2.2.2.2.1).trans (if_neg sg4.2.2.2.2.2))
          refine ⟨_, rfl, rfl, _, rfl, ifY ⟨_, rfl, _, _, _, _, rfl, rfl, hp2.sq, atI_nat (j := 0) rfl, rfl, _, rfl, ite2 (fun c => ?_) (fun c => ?_)⟩⟩
          · have c := V.int.inj (of_decide_eq_true c)
            refine ⟨(by show 2 ≤ sizeLine; decide), fun u hu => q _ _ (same_new hu) ?_⟩
            rw [ea0, if_pos c]
            exact VA.mkFault (.inl upd_same)
          · have c : m ≠ 0 := fun z => c (decide_eq_true (congrArg V.int z))
            have ea : arV "/" n d m e = resV (n * e) (d * m) := ea0.trans (if_neg c)
            have dm0 : d * m ≠ 0 := Int.mul_ne_zero (by omega) c
            refine ⟨_, rfl, _, _, _, _, rfl, rfl, hp1.sq, atI_nat (j := 0) rfl, _, rfl, _, _, _, _, rfl, rfl, hp2.sq, atI_nat (j := 1) rfl, _, _, rfl, rfl, .inl ⟨by omega, by omega⟩, _, rfl, _, _, _, _, rfl, rfl, hp2.sq, atI_nat (j := 0) rfl, _, rfl, _, _, _, _, rfl, rfl, hp1.sq, atI_nat (j := 1) rfl, _, _, rfl, rfl, .inl ⟨by omega, by omega⟩, _, _, rfl, rfl, _, rfl, _, _, _, _, rfl, rfl, hp1.sq, atI_nat (j := 1) rfl, _, rfl, _, _, _, _, rfl, rfl, hp2.sq, atI_nat (j := 1) rfl, _, _, rfl, rfl, .inl ⟨by omega, by omega⟩, ?_⟩
            refine ⟨_, rfl, rfl, _, rfl, ifN sg4.2.2.2.2.1 ⟨_, rfl, rfl, _, rfl, ifN sg4.2.2.2.2.2 ⟨_, rfl, rfl, _, rfl, ifY ⟨_, rfl, _, _, _, _, rfl, rfl, hp1.sq, atI_nat (j := 0) rfl, _, rfl, _, _, _, _, rfl, rfl, hp2.sq, atI_nat (j := 1) rfl, _, _, rfl, rfl, .inl ⟨by omega, by omega⟩, _, rfl, _, _, _, _, rfl, rfl, hp1.sq, atI_nat (j := 1) rfl, _, rfl, _, _, _, _, rfl, rfl, hp2.sq, atI_nat (j := 0) rfl, _, _, rfl, rfl, .inl ⟨by omega, by omega⟩, ?_⟩⟩⟩⟩
            refine ⟨_, rfl, _, rfl, _, _, rfl, dm0, up (m4 hn he), up (m4 hdd hm), fun p x y hp L => ⟨_, rfl, p, x, y, rfl, SqT.of upd_same, _, rfl, ?_⟩⟩
            obtain ⟨f1, f2⟩ := fin _ _ dm0 ea p x y hp L
            cases e5 : inR x y with
            | true => exact iteF ⟨_, rfl, (by show 2 ≤ sizeLine; decide), f1 e5⟩
            | false => exact iteT ⟨(by show 2 ≤ sizeLine; decide), f2 e5⟩
theorem row_take (k : Bk) (i j : Nat) (hj : j < (k.r + 1 - k.l).toNat) : (rowOf k i).take (j + 1) = (rowOf k i).take j ++ [(k.t + (i : Int), k.l + (j : Int))] := by
  have hj2 : (rowOf k i)[j]? = some (k.t + (i : Int), k.l + (j : Int)) := by
    unfold rowOf
    rw [List.getElem?_map, List.getElem?_range hj]
    rfl
  rw [List.take_add_one, hj2]
  rfl
/-! ### the law's own visit -/
theorem rmS_mv {S : List Addr} {H H' : Hp} {nl : Addr} (hS : nl ∈ S) (m : Same (rmS [nl] H) H') : Same (rmS S H) (rmS S H') := fun a o e => by
  obtain ⟨n, e⟩ := rmS_some e
  rw [rmS_of n]
  exact m a o ((rmS_of fun z => n (by rw [List.mem_singleton.mp z]; exact hS)).trans e)
theorem rmS_new {S : List Addr} {H H' : Hp} {nl : Addr} (s : Same H H') (h : H nl = none) : Same (rmS S H) (rmS (nl :: S) H') := fun a o e => by
  obtain ⟨n, e⟩ := rmS_some e
  rw [rmS_of fun z => ?_]
  · exact s a o e
  · rcases List.mem_cons.mp z with z | z
    · rw [z, h] at e
      cases e
    · exact n z
theorem NS.mv {K : PySem.W.Frag} {S S' : List Addr} {H H' : Hp} {nd : Addr} {N : NA} (h : NS K S H nd N) (s : Same (rmS S H) (rmS S' H')) : NS K S' H' nd N := by
  obtain ⟨nvs, h1, e1⟩ := h
  exact ⟨nvs, s _ _ h1, entsN_kd (KD.of s) e1⟩
theorem tt_mv {H H' : Hp} {nl : Addr} {us : List V} (h : H nl = some (.lst us)) (m : Same (rmS [nl] H) H') : TT H H' := by
  have ls : Ls [nl] H := fun y hy => by
    rw [List.mem_singleton.mp hy]
    exact ⟨_, h⟩
  exact TT.trans ls.tt (TT.of m)
theorem KnA.mv {K : PySem.W.Frag} {H H' : Hp} {kd nl : Addr} {us : List V} {D : KD2} (k : KnA K H kd D) (h : H nl = some (.lst us)) (m : Same (rmS [nl] H) H') : KnA K H' kd D := by
  obtain ⟨kvs, h1, e1⟩ := k
  have nk : kd ≠ nl := fun z => by
    rw [z, h] at h1
    cases h1
  exact ⟨kvs, m _ _ ((rmS_of fun z => nk (List.mem_singleton.mp z)).trans h1), e1.imp fun kv e hh => ⟨hh.1, hh.2.tt (tt_mv h m)⟩⟩
theorem mv_trans {H H1 H2 : Hp} {nl : Addr} (a : Same (rmS [nl] H) H1) (b : Same (rmS [nl] H1) H2) : Same (rmS [nl] H) H2 := fun x o e => by
  have n := (rmS_some e).1
  exact b x o ((rmS_of n).trans (a x o e))
theorem mv_same {H H1 H2 : Hp} {nl : Addr} (a : Same (rmS [nl] H) H1) (b : Same H1 H2) : Same (rmS [nl] H) H2 := fun x o e => b x o (a x o e)
theorem mv_upd {H H1 : Hp} {nl : Addr} {o : HO} (a : Same (rmS [nl] H) H1) : Same (rmS [nl] H) (upd H1 nl o) := fun x u e => by
  have n := (rmS_some e).1
  rw [upd_ne fun z => n (List.mem_singleton.mpr z)]
  exact a x u e
theorem mv_pre {H0 H H1 : Hp} {nl : Addr} (s : Same H0 H) (h : H0 nl = none) (a : Same (rmS [nl] H) H1) : Same H0 H1 := fun x o e => a x o ((rmS_of fun z => ne_of_none e h (List.mem_singleton.mp z)).trans (s x o e))
def depA (as : List Ar) : Nat := if (as.any fun a => match a with
  | .name _ => true
  | _ => false) = true then 1 else 0
theorem depA_no {as : List Ar} (h : ∀ a ∈ as, ∀ w, a ≠ .name w) : depA as = 0 := by
  unfold depA
  rw [if_neg]
  rw [List.any_eq_true]
  rintro ⟨a, ha, e⟩
  cases a with
  | name w => exact h _ ha w rfl
  | gone => cases e
  | block a b c d => cases e
theorem depA_one {as : List Ar} {w : OkS} (h : Ar.name w ∈ as) : depA as = 1 := by
  unfold depA
  rw [if_pos]
  exact List.any_eq_true.mpr ⟨_, h, rfl⟩
theorem scan_app {u v : List Val} (h : (scan u).2 = none) : scan (u ++ v) = ((scan u).1 ++ (scan v).1, (scan v).2) := by
  induction u with
  | nil => rfl
  | cons x u ih =>
    cases x with
    | fault f => cases h
    | num a b =>
      have h2 : (scan u).2 = none := h
      show ((a, b) :: (scan (u ++ v)).1, (scan (u ++ v)).2) = _
      rw [ih h2]
      rfl
    | blank => exact ih h
    | text t => exact ih h
theorem scan_hit {u w : List Val} {f : OkS} (h : (scan u).2 = none) : scan (u ++ .fault f :: w) = ((scan u).1, some f) := by
  rw [scan_app h]
  show ((scan u).1 ++ [], some f) = _
  rw [List.append_nil]
theorem scan_stop {u v : List Val} {f : OkS} (h : (scan u).2 = some f) : scan (u ++ v) = scan u := by
  induction u with
  | nil => cases h
  | cons x u ih =>
    cases x with
    | fault f => rfl
    | num a b =>
      have h2 : (scan u).2 = some f := h
      show ((a, b) :: (scan (u ++ v)).1, (scan (u ++ v)).2) = _
      rw [ih h2]
      rfl
    | blank => exact ih h
    | text t => exact ih h
theorem visV_app (N : NA) (D : KD2) (u v : List Ar) : visV N D (u ++ v) = visV N D u ++ visV N D v := by
  unfold visV
  rw [List.flatMap_append, List.flatMap_append]
theorem visV_split {N : NA} {D : KD2} {as : List Ar} {i : Nat} {a : Ar} (h : as[i]? = some a) : visV N D as = (visV N D (as.take i) ++ visV N D [a]) ++ visV N D (as.drop (i + 1)) := by
  rw [← visV_app, ← visV_app]
  obtain ⟨h1, h2⟩ := List.getElem?_eq_some_iff.mp h
  have : as = as.take i ++ as.drop i := (List.take_append_drop i as).symm
  rw [List.drop_eq_getElem_cons h1, h2] at this
  rw [List.append_assoc]
  exact congrArg _ this
theorem visV_take {N : NA} {D : KD2} {as : List Ar} {i : Nat} {a : Ar} (h : as[i]? = some a) : visV N D (as.take (i + 1)) = visV N D (as.take i) ++ visV N D [a] := by
  rw [List.take_add_one, h, visV_app]
  rfl
theorem flat_parts {N : NA} : ∀ as : List Ar, (∀ a ∈ as, ∀ w, a ≠ .name w) → as.flatMap (partsOf N) = as.map .ar
  | [], _ => rfl
  | a :: as, h => by
    rw [List.flatMap_cons, flat_parts as fun x hx => h x (List.mem_cons_of_mem _ hx)]
    cases a with
    | name w => exact absurd rfl (h _ List.mem_cons_self w)
    | gone => rfl
    | block a b c d => rfl
theorem visV_name {N : NA} {D : KD2} {w : OkS} {as : List Ar} (h : getE N w.1 = some (some as)) (nn : ∀ a ∈ as, ∀ w, a ≠ .name w) : visV N D [.name w] = visV N D as := by
  unfold visV
  rw [flat_parts as nn]
  have : ([Ar.name w]).flatMap (partsOf N) = as.map .ar := by
    show partsOf N (.name w) ++ [] = _
    rw [List.append_nil, parts_name, h]
  rw [this]
theorem cells_split {k : Bk} {a c : Nat} (ha : a < (k.b + 1 - k.t).toNat) (hc : c < (k.r + 1 - k.l).toNat) : ∃ rest, cellsOf k = ((List.range a).flatMap (rowOf k) ++ (rowOf k a).take c) ++ (k.t + (a : Int), k.l + (c : Int)) :: rest := by
  obtain ⟨tr, er⟩ : ∃ tr, rowOf k a = (rowOf k a).take c ++ (k.t + (a : Int), k.l + (c : Int)) :: tr := by
    have e2 : (rowOf k a)[c]? = some (k.t + (a : Int), k.l + (c : Int)) := by
      unfold rowOf
      rw [List.getElem?_map, List.getElem?_range hc]
      rfl
    obtain ⟨h1, h2⟩ := List.getElem?_eq_some_iff.mp e2
    have : rowOf k a = (rowOf k a).take c ++ (rowOf k a).drop c := (List.take_append_drop c _).symm
    rw [List.drop_eq_getElem_cons h1, h2] at this
    exact ⟨_, this⟩
  obtain ⟨tl, en⟩ : ∃ tl, List.range (k.b + 1 - k.t).toNat = List.range a ++ a :: tl := by
    have hl : a < (List.range (k.b + 1 - k.t).toNat).length := by rw [List.length_range]; exact ha
    have : List.range (k.b + 1 - k.t).toNat = (List.range (k.b + 1 - k.t).toNat).take a ++ (List.range (k.b + 1 - k.t).toNat).drop a := (List.take_append_drop a _).symm
    rw [List.drop_eq_getElem_cons hl, List.getElem_range, List.take_range, Nat.min_eq_left (Nat.le_of_lt ha)] at this
    exact ⟨_, this⟩
  refine ⟨tr ++ tl.flatMap (rowOf k), ?_⟩
  unfold cellsOf
  rw [en, List.flatMap_append, List.flatMap_cons]
  generalize (rowOf k a).take c = pre at er
  rw [er]
  simp [List.append_assoc]
def optV : Option OkS → V
  | none => .non
  | some f => .str f.1
/-- the names' areas have no names -/
def NoN (N : NA) : Prop := ∀ e ∈ N, ∀ as, e.2 = some as → as.length ≤ 3 ∧ ∀ a ∈ as, ∀ w, a ≠ .name w
def spVisit (K : PySem.W.Frag) (n : Nat) : Sp := fun vs H Q _ => ∃ (S : List Addr) (nd at_ kd nl : Addr) (N : NA) (avs : List V) (as : List Ar) (D : KD2) (us : List V) (ns : List (Int × Int)) (R C : Int), vs = [.ref nd, .ref at_, .ref kd, .ref nl] ∧ depA as < n ∧ nl ∈ S ∧ NS K S H nd N ∧ NoN N ∧ Wld R C [] N ∧
  (H at_ = some (.tup avs) ∨ (H at_ = some (.lst avs) ∧ at_ ≠ nl)) ∧ Ars H avs as ∧ as.length ≤ 3 ∧ (∀ a ∈ as, a.ins R C) ∧ KnA K H kd D ∧ H nl = some (.lst us) ∧ DkAll K H us (ns.map frZ) ∧ us.length + 2000 * n ≤ 6000 ∧
  ∀ (H' : Hp) (us' : List V), Same (rmS [nl] H) H' → H' nl = some (.lst us') → DkAll K H' us' ((ns ++ (scan (visV N D as)).1).map frZ) → Q (optV (scan (visV N D as)).2) H'
theorem bw3 : ("block" : Str) ≠ "gone" ∧ ("block" : Str) ≠ "name" ∧ ("name" : Str) ≠ "gone" ∧ ("name" : Str) ≠ "block" := by decide +kernel
theorem okLawVisit (T : Txt K mg) : ∀ n : Nat, FnOk P w K mg base CX0 (n + 2) T.fLawVisit T.fdLawVisit ["names", "areas", "known", "numbers"] (spVisit K n)
  | 0 => by
    refine T.FLawVisit.ok scLawVisit (fun vs H Q E h => ?_) (fun cdv A outer s H vs Q E hr h => ?_)
    · obtain ⟨S, nd, at_, kd, nl, N, avs, as, D, us, ns, R, C, rfl, hh, _⟩ := h
      rfl
    · obtain ⟨S, nd, at_, kd, nl, N, avs, as, D, us, ns, R, C, rfl, hh, _⟩ := h
      exact absurd hh (Nat.not_lt_zero _)
  | n + 1 => by
    have IH := okLawVisit T n
    refine T.FLawVisit.ok scLawVisit (fun vs H Q E h => ?_) (fun cdv A outer s H vs Q E hr h => ?_)
    · obtain ⟨S, nd, at_, kd, nl, N, avs, as, D, us, ns, R, C, rfl, _⟩ := h
      rfl
    · obtain ⟨S, nd, at_, kd, nl, N, avs, as, D, us, ns, R, C, rfl, hh, hS, hns, non, wl, hat, ars, al, ai, kna, hnl, dk, ul, q⟩ := h
      -- slots names=0 areas=1 known=2 numbers=3 area=4 found=5 row=6 column=7 value=8
      refine ⟨_, (pss_cons (ps_for PassesOwn.never rfl (pi_or (pi_list (pv 1)) (pi_tup (pv 1))) (pg_name (i := 4) scLawVisit.nd rfl (Or.inl rfl))
            (pss_cons (ps_if (pt_cmpR op_eq (pe_ix ix_tup (pv 4) pe_int (fun _ _ => rfl)) pe_str (nomark _))
              (pss_one (ps_ret pe_str))
              pss_nil)
            (pss_cons (ps_if (pt_cmpR op_eq (pe_ix ix_tup (pv 4) pe_int (fun _ _ => rfl)) pe_str (nomark _))
              (pss_cons (ps_if (pt_cmp (pc_dnotin (units2 hr) (pe_ix ix_tup (pv 4) pe_int (fun _ _ => rfl)) (pv 0)))
                (pss_one (ps_ret pe_str))
                pss_nil)
              (pss_cons (ps_if (pt_cmpR op_isN (pe_dget (units2 hr) (pv 0) (pe_ix ix_tup (pv 4) pe_int (fun _ _ => rfl)) (fun _ _ => rfl)) pe_non (nomark _))
                (pss_one (ps_ret pe_str))
                pss_nil)
              (pss_cons (ps_set (i := 5) scLawVisit.nd rfl (Or.inl rfl) (pe_call IH (hr.mono (by omega)) (by rfl) T.gLawVisit T.FLawVisit.kp T.bLawVisit .nil pass0 (pa_cons (pv 0) (pa_cons (pe_dget (units2 hr) (pv 0) (pe_ix ix_tup (pv 4) pe_int (fun _ _ => rfl)) (fun _ _ => rfl)) (pa_cons (pv 2) (pa_cons (pv 3) pa_nil))))))
              (pss_one (ps_if (pt_cmpR op_notN (pv 5) pe_non (nomark _))
                (pss_one (ps_ret (pv 5)))
                pss_nil)))))
              pss_nil)
            (pss_one (ps_if (pt_cmpR op_eq (pe_ix ix_tup (pv 4) pe_int (fun _ _ => rfl)) pe_str (nomark _))
              (pss_one (ps_for PassesOwn.never rfl (pi_range2 rfl T.z_range (pa_cons (pe_ix ix_tup (pv 4) pe_int (fun _ _ => rfl)) (pa_cons (pe_op op_add (pe_ix ix_tup (pv 4) pe_int (fun _ _ => rfl)) pe_int) pa_nil))) (pg_name (i := 6) scLawVisit.nd rfl (Or.inl rfl))
                (pss_one (ps_for PassesOwn.never rfl (pi_range2 rfl T.z_range (pa_cons (pe_ix ix_tup (pv 4) pe_int (fun _ _ => rfl)) (pa_cons (pe_op op_add (pe_ix ix_tup (pv 4) pe_int (fun _ _ => rfl)) pe_int) pa_nil))) (pg_name (i := 7) scLawVisit.nd rfl (Or.inl rfl))
                  (pss_cons (ps_set (i := 8) scLawVisit.nd rfl (Or.inl rfl) (pe_dget2 (units2 hr) (pv 2) (pe_tup (pa_cons (pv 6) (pa_cons (pv 7) pa_nil))) (pe_tup (pa_cons pe_str pa_nil)) ⟨rfl, rfl, rfl, rfl⟩))
                  (pss_cons (ps_if (pt_cmpR op_eq (pe_ix ix_tup (pv 8) pe_int (fun _ _ => rfl)) pe_str (nomark _))
                    (pss_one (ps_ret (pe_ix ix_tup (pv 8) pe_int (fun _ _ => rfl))))
                    pss_nil)
                  (pss_one (ps_if (pt_cmpR op_eq (pe_ix ix_tup (pv 8) pe_int (fun _ _ => rfl)) pe_str (nomark _))
                    (pss_one (ps_expr (pe_bm PySem.F.plainAttrs_list PySem.F.slot_list_append PySem.F.type_list_append mt_append (pv 3) (pa_cons (pe_ix ix_tup (pv 8) pe_int (fun _ _ => rfl)) pa_nil))))
                    pss_nil))))))))
              pss_nil)))))
          (pss_one (ps_ret pe_non))), ?_⟩
      have nok : NOk N := fun e he z hz => (wl.nm e he z hz).1
      have lv := ars.len
      have rc1 := wl.rc.r1
      have rc3 := wl.rc.c1
      have vl : ∀ i, (visV N D (as.take i)).length ≤ 1800 := fun i => visV_len wl D (by rw [List.length_take]; omega) fun a ha => ai a (List.mem_of_mem_take ha)
      have lsN : Ls [nl] H := fun y hy => by
        rw [List.mem_singleton.mp hy]
        exact ⟨_, hnl⟩
      -- the end of the walk, and its start
      have fin : ∀ (k4 k5 k6 k7 k8 : Option V) (H1 : Hp) (us1 : List V), Same (rmS [nl] H) H1 → H1 nl = some (.lst us1) → (scan (visV N D (as.take avs.length))).2 = none → DkAll K H1 us1 ((ns ++ (scan (visV N D (as.take avs.length))).1).map frZ) → Q .non H1 := fun _ _ _ _ _ H1 us1 m1 hn1 e1 d1 => by
        rw [List.take_of_length_le (by omega)] at e1 d1
        have := q H1 us1 m1 hn1 d1
        rw [e1] at this
        exact this
      let INV : Nat → L2.St → Hp → Prop := fun i σ H' => ∃ (k4 k5 k6 k7 k8 : Option V) (us1 : List V), σ = [some (.ref nd), some (.ref at_), some (.ref kd), some (.ref nl), k4, k5, k6, k7, k8] ∧ Same (rmS [nl] H) H' ∧ H' nl = some (.lst us1) ∧ (scan (visV N D (as.take i))).2 = none ∧ DkAll K H' us1 ((ns ++ (scan (visV N D (as.take i))).1).map frZ)
      have start : INV 0 [some (.ref nd), some (.ref at_), some (.ref kd), some (.ref nl), none, none, none, none, none] H := ⟨_, _, _, _, _, us, rfl, rmS_le, hnl, rfl, by rw [List.take_zero]; show DkAll K H us ((ns ++ []).map frZ); rw [List.append_nil]; exact dk⟩
      rcases hat with hat | ⟨hat, nat⟩
      · refine .inr ⟨_, rfl, at_, rfl, ⟨avs, SqT.of hat⟩, for_it (walk_tup (a := at_) (xs := avs)) INV start (fun i σ H' _ ⟨_, _, _, _, _, _, _, m, _⟩ => SqT.of (m _ _ (lsN.tt _ _ hat))) ?_ (fun σ H' ⟨k4, k5, k6, k7, k8, us1, e, m1, hn1, e1, d1⟩ => fin k4 k5 k6 k7 k8 H' us1 m1 hn1 e1 d1)⟩
        skip
        rintro i x σ HX H1 hi ⟨k4, k5, k6, k7, k8, us1, rfl, m1, hn1, e1, d1⟩ ⟨rfl, hx⟩
        obtain ⟨a0, ha0, at0⟩ := ars.get i x hx
        have tt1 := tt_mv hnl m1
        have at1 := at0.mono tt1
        have vi := vl i
        have sl1 := scan_len (visV N D (as.take i))
        have d1l := d1.length
        have dl := dk.length
        rw [List.length_map, List.length_append] at d1l
        rw [List.length_map] at dl
        have sp := visV_split (N := N) (D := D) ha0
        have tk := visV_take (N := N) (D := D) ha0
        have kna1 := kna.mv hnl m1
        have ns1 := hns.mv (rmS_mv hS m1)
        -- a fault ahead of the end
        have stop : ∀ (H2 : Hp) (us2 : List V) (f : OkS) (u w : List Val), Same (rmS [nl] H) H2 → H2 nl = some (.lst us2) → visV N D [a0] = u ++ .fault f :: w → (scan u).2 = none → DkAll K H2 us2 ((ns ++ ((scan (visV N D (as.take i))).1 ++ (scan u).1)).map frZ) → Q (.str f.1) H2 := fun H2 us2 f u w m2 hn2 ea eu d2 => by
          have e : scan (visV N D as) = ((scan (visV N D (as.take i))).1 ++ (scan u).1, some f) := by
            rw [sp, ea]
            have e0 : (visV N D (as.take i) ++ (u ++ Val.fault f :: w)) ++ visV N D (as.drop (i + 1)) = (visV N D (as.take i) ++ u) ++ Val.fault f :: (w ++ visV N D (as.drop (i + 1))) := by
              simp [List.append_assoc]
            rw [e0, scan_hit (by rw [scan_app e1]; exact eu), scan_app e1]
          have := q H2 us2 m2 hn2 (by rw [e]; exact d2)
          rw [e] at this
          exact this
        have next : ∀ (k4 k5 k6 k7 k8 : Option V) (H2 : Hp) (us2 : List V), Same (rmS [nl] H) H2 → H2 nl = some (.lst us2) → (scan (visV N D [a0])).2 = none → DkAll K H2 us2 ((ns ++ ((scan (visV N D (as.take i))).1 ++ (scan (visV N D [a0])).1)).map frZ) → INV (i + 1) [some (.ref nd), some (.ref at_), some (.ref kd), some (.ref nl), k4, k5, k6, k7, k8] H2 := fun k4 k5 k6 k7 k8 H2 us2 m2 hn2 ea d2 =>
          ⟨k4, k5, k6, k7, k8, us2, rfl, m2, hn2, by rw [tk, scan_app e1]; exact ea, by rw [tk, scan_app e1]; exact d2⟩
        cases a0 with
        | gone =>
          obtain ⟨q0, rfl, hq⟩ := at1
          refine ⟨_, rfl, _, _, _, _, rfl, rfl, SqT.of hq, atI_nat (j := 0) rfl, rfl, _, rfl, ifY ?_⟩
          exact stop H1 us1 ⟨"gone", by decide +kernel⟩ [] [] m1 hn1 rfl rfl (by show DkAll K H1 us1 ((ns ++ ((scan (visV N D (as.take i))).1 ++ [])).map frZ); rw [List.append_nil]; exact d1)
        | name w =>
          obtain ⟨q0, rfl, hq⟩ := at1
          refine ⟨_, rfl, _, _, _, _, rfl, rfl, SqT.of hq, atI_nat (j := 0) rfl, rfl, _, rfl, ifN bw3.2.2.1 ⟨_, rfl, _, _, _, _, rfl, rfl, SqT.of hq, atI_nat (j := 0) rfl, rfl, _, rfl, ifY ?_⟩⟩
          obtain ⟨nvs, hnr, en⟩ := id ns1
          obtain ⟨nS, hn⟩ := rmS_some hnr
          obtain ⟨g1, g2⟩ := ents_get (fun _ _ => keyW_inj) en w.1
          have dg := DGet.k (k := keyW w.1) hn
          rw [getE_nmA] at g1 g2
          refine ⟨_, rfl, _, _, _, _, rfl, rfl, SqT.of hq, atI_nat (j := 1) rfl, _, rfl, nd, _, rfl, dg, _, rfl, ?_⟩
          cases hg : getE N w.1 with
          | none =>
            rw [g1 (by rw [hg]; rfl)]
            refine iteT (stop H1 us1 wUnknown [] [] m1 hn1 ?_ rfl (by show DkAll K H1 us1 ((ns ++ ((scan (visV N D (as.take i))).1 ++ [])).map frZ); rw [List.append_nil]; exact d1))
            show (partsOf N (.name w) ++ []).flatMap (visP D) = _
            rw [parts_name, hg]
            rfl
          | some d =>
            obtain ⟨v, ev, hv⟩ := g2 _ (by rw [hg]; rfl)
            rw [ev] at dg ⊢
            refine iteF ⟨_, rfl, _, rfl, _, _, _, _, rfl, rfl, SqT.of hq, atI_nat (j := 1) rfl, nd, v, rfl, dg, rfl, _, rfl, ?_⟩
            cases d with
            | none =>
              obtain rfl := hv
              refine ite2 (fun _ => ?_) (fun c => absurd (decide_eq_true rfl) c)
              refine stop H1 us1 wClash [] [] m1 hn1 ?_ rfl (by show DkAll K H1 us1 ((ns ++ ((scan (visV N D (as.take i))).1 ++ [])).map frZ); rw [List.append_nil]; exact d1)
              show (partsOf N (.name w) ++ []).flatMap (visP D) = _
              rw [parts_name, hg]
              rfl
            | some bs =>
              obtain ⟨l, ws, rfl, hlr, dt⟩ := hv
              obtain ⟨lS, hl⟩ := rmS_some hlr
              have arb : Ars H1 ws bs := (dt_ars dt).mono (TK.of rmS_le)
              obtain ⟨b3, bnn⟩ := non _ (getE_key hg) bs rfl
              have bi := (wl.nm _ (getE_key hg) bs rfl).2
              have ev1 := visV_name (D := D) hg bnn
              have d1n : depA as = 1 := depA_one (List.mem_of_getElem? ha0)
              refine ite2 (fun c => nomatch (of_decide_eq_true c)) (fun _ => ?_)
              refine ⟨_, rfl, _, rfl, _, rfl, _, _, _, _, rfl, rfl, SqT.of hq, atI_nat (j := 1) rfl, nd, .ref l, rfl, dg, _, rfl, _, rfl, S, nd, l, kd, nl, N, ws, bs, D, us1, ns ++ (scan (visV N D (as.take i))).1, R, C, rfl, by rw [depA_no bnn]; omega, hS, ns1, non, wl, .inr ⟨hl, fun z => lS (z ▸ hS)⟩, arb, b3, bi, kna1, hn1, d1, by omega, fun H2 us2 m2 hn2 d2 => ?_⟩
              have m12 := mv_trans m1 m2
              rw [List.append_assoc] at d2
              cases es : (scan (visV N D bs)).2 with
              | some f =>
                refine ⟨_, rfl, rfl, _, rfl, iteT ⟨_, rfl, ?_⟩⟩
                have e : scan (visV N D as) = ((scan (visV N D (as.take i))).1 ++ (scan (visV N D bs)).1, some f) := by
                  rw [sp, ev1, List.append_assoc, scan_app e1, scan_stop es, es]
                have := q H2 us2 m12 hn2 (by rw [e]; exact d2)
                rw [e] at this
                exact this
              | none =>
                refine ⟨_, rfl, rfl, _, rfl, iteF ?_⟩
                have hq2 := tt_mv hn1 m2 _ _ hq
                exact ⟨_, rfl, _, _, _, _, rfl, rfl, SqT.of hq2, atI_nat (j := 0) rfl, rfl, _, rfl, ifN bw3.2.2.2 (next _ _ _ _ _ H2 us2 m12 hn2 (by rw [ev1]; exact es) (by rw [ev1]; exact d2))⟩
        | block t l b r =>
          obtain ⟨q0, rfl, hq⟩ := at1
          refine ⟨_, rfl, _, _, _, _, rfl, rfl, SqT.of hq, atI_nat (j := 0) rfl, rfl, _, rfl, ifN bw3.1 ⟨_, rfl, _, _, _, _, rfl, rfl, SqT.of hq, atI_nat (j := 0) rfl, rfl, _, rfl, ifN bw3.2.1 ⟨_, rfl, _, _, _, _, rfl, rfl, SqT.of hq, atI_nat (j := 0) rfl, rfl, _, rfl, ifY ?_⟩⟩⟩
          obtain ⟨o1, o2, o3, o4, o5, o6⟩ := (show 0 ≤ t ∧ t ≤ b ∧ b < R ∧ 0 ≤ l ∧ l ≤ r ∧ r < C from ai _ (List.mem_of_getElem? ha0))
          have ev1 : visV N D [.block t l b r] = (cellsOf ⟨t, l, b, r⟩).map (kn D) := by
            show ([Pt.ar (.block t l b r)] ++ []).flatMap (visP D) = _
            show (cellsOf ⟨t, l, b, r⟩).map (kn D) ++ [] = _
            rw [List.append_nil]
          have c60 := cellsOf_len (R := R) (C := C) (k := ⟨t, l, b, r⟩) ⟨o1, o2, o3, o4, o5, o6⟩ wl.few
          refine ⟨_, rfl, _, _, _, _, rfl, rfl, SqT.of hq, atI_nat (j := 1) rfl, _, rfl, _, _, _, _, rfl, rfl, SqT.of hq, atI_nat (j := 3) rfl, _, _, rfl, rfl, ?_⟩
          refine ⟨_, _, rfl, ⟨by omega, by omega, by omega, by omega⟩, for_range (lo := t) (n := (b + 1 - t).toNat) (fun y σ H' => ∃ (k5 k6 k7 k8 : Option V) (us2 : List V), σ = [some (.ref nd), some (.ref at_), some (.ref kd), some (.ref nl), some (.ref q0), k5, k6, k7, k8] ∧ Same (rmS [nl] H1) H' ∧ H' nl = some (.lst us2) ∧ (scan (((List.range y).flatMap (rowOf ⟨t, l, b, r⟩)).map (kn D))).2 = none ∧ DkAll K H' us2 ((ns ++ ((scan (visV N D (as.take i))).1 ++ (scan (((List.range y).flatMap (rowOf ⟨t, l, b, r⟩)).map (kn D))).1)).map frZ)) ⟨_, _, _, _, us1, rfl, rmS_le, hn1, rfl, by show DkAll K H1 us1 ((ns ++ ((scan (visV N D (as.take i))).1 ++ [])).map frZ); rw [List.append_nil]; exact d1⟩ ?_ ?_⟩
          · rintro y σ H2 hy ⟨k5, k6, k7, k8, us2, rfl, m2, hn2, e2, d2⟩
            have hq2 := tt_mv hn1 m2 _ _ hq
            refine ⟨_, rfl, _, _, _, _, rfl, rfl, SqT.of hq2, atI_nat (j := 2) rfl, _, rfl, _, _, _, _, rfl, rfl, SqT.of hq2, atI_nat (j := 4) rfl, _, _, rfl, rfl, ?_⟩
            refine ⟨_, _, rfl, ⟨by omega, by omega, by omega, by omega⟩, for_range (lo := l) (n := (r + 1 - l).toNat) (fun z σ H' => ∃ (k6 k7 k8 : Option V) (us2 : List V), σ = [some (.ref nd), some (.ref at_), some (.ref kd), some (.ref nl), some (.ref q0), k5, k6, k7, k8] ∧ Same (rmS [nl] H1) H' ∧ H' nl = some (.lst us2) ∧ (scan (((List.range y).flatMap (rowOf ⟨t, l, b, r⟩) ++ (rowOf ⟨t, l, b, r⟩ y).take z).map (kn D))).2 = none ∧ k6 = some (.int (t + (y : Int))) ∧ DkAll K H' us2 ((ns ++ ((scan (visV N D (as.take i))).1 ++ (scan (((List.range y).flatMap (rowOf ⟨t, l, b, r⟩) ++ (rowOf ⟨t, l, b, r⟩ y).take z).map (kn D))).1)).map frZ)) ⟨_, _, _, us2, rfl, m2, hn2, by rw [List.take_zero, List.append_nil]; exact e2, rfl, by rw [List.take_zero, List.append_nil]; exact d2⟩ ?_ ?_⟩
            · rintro z σ H3 hz ⟨k6, k7, k8, us3, rfl, m3, hn3, e3, rfl, d3⟩
              have m13 := mv_trans m1 m3
              have kna3 := kna1.mv hn1 m3
              obtain ⟨kvs, hk, _⟩ := id kna3
              refine ⟨_, rfl, kd, rfl, .inr ⟨kvs, .inl hk⟩, _, rfl, _, rfl, (by show 2 ≤ sizeLine; decide), fun tb htb => ⟨(by show 1 ≤ sizeLine; decide), fun tw htw => ?_⟩⟩
              have s4 := (same_new (o := .tup [.int (t + (y : Int)), .int (l + (z : Int))]) htb).trans (same_new (o := .tup [.str "blank"]) htw)
              have htb4 := (same_new (o := .tup [.str "blank"]) htw) _ _ (show (upd H3 tb (.tup [.int (t + (y : Int)), .int (l + (z : Int))])) tb = some (.tup [.int (t + (y : Int)), .int (l + (z : Int))]) from upd_same)
              have htw4 : (upd (upd H3 tb (.tup [.int (t + (y : Int)), .int (l + (z : Int))])) tw (.tup [.str "blank"])) tw = some (.tup [.str "blank"]) := upd_same
              generalize upd (upd H3 tb (.tup [.int (t + (y : Int)), .int (l + (z : Int))])) tw (.tup [.str "blank"]) = H4 at s4 htb4 htw4
              obtain ⟨r', dg, hv⟩ := (kna3.same s4).get (z := (t + (y : Int), l + (z : Int))) (w := .ref tw) htb4 (.tup (.inl htw4) (.cons (.str _) .nil))
              refine ⟨r', dg, ?_⟩
              obtain ⟨p, s, xs, ea, hp, f1, f2, _⟩ := hv.first
              rw [ea] at hv ⊢
              have hn4 := s4 _ _ hn3
              have m14 := mv_same m13 s4
              have d4 := d3.tt (TT.of s4)
              obtain ⟨rest, csp⟩ := cells_split (k := ⟨t, l, b, r⟩) hy hz
              have rt := row_take ⟨t, l, b, r⟩ y z hz
              refine ⟨_, rfl, p, _, _, _, rfl, rfl, hp.sq, atI_nat (j := 0) rfl, rfl, _, rfl, ite2 (fun c => ?_) (fun c => ?_)⟩
              · obtain ⟨f, ef⟩ := f1.mp (V.str.inj (of_decide_eq_true c))
                rw [ef] at hv
                obtain ⟨p', e, hp'⟩ := VA.two hv
                obtain rfl := V.ref.inj e
                refine ⟨_, rfl, _, _, _, _, rfl, rfl, hp'.sq, atI_nat (j := 1) rfl, stop H4 us3 f _ (rest.map (kn D)) m14 hn4 ?_ e3 d4⟩
                rw [ev1, csp, List.map_append, List.map_cons, ef]
              · have nf : ∀ f, kn D (t + (y : Int), l + (z : Int)) ≠ .fault f := fun f e => c (decide_eq_true (congrArg V.str (f1.mpr ⟨f, e⟩)))
                refine ⟨_, rfl, p, _, _, _, rfl, rfl, hp.sq, atI_nat (j := 0) rfl, rfl, _, rfl, ite2 (fun c2 => ?_) (fun c2 => ?_)⟩
                · obtain ⟨n0, n1, en⟩ := f2.mp (V.str.inj (of_decide_eq_true c2))
                  rw [en] at hv
                  obtain ⟨p', p2, e, hp', hp2⟩ := VA.num hv
                  obtain rfl := V.ref.inj e
                  have d4l := d4.length
                  rw [List.length_map, List.length_append, List.length_append] at d4l
                  have sl3 := scan_len (((List.range y).flatMap (rowOf ⟨t, l, b, r⟩) ++ (rowOf ⟨t, l, b, r⟩ y).take z).map (kn D))
                  rw [List.length_map] at sl3
                  have pre : ((List.range y).flatMap (rowOf ⟨t, l, b, r⟩) ++ (rowOf ⟨t, l, b, r⟩ y).take z).length ≤ 60 := by
                    rw [csp, List.length_append] at c60
                    omega
                  refine ⟨_, rfl, .inl ⟨rfl, _, SqL.of hn4⟩, _, rfl, _, _, _, _, rfl, rfl, hp'.sq, atI_nat (j := 1) rfl, nl, _, _, rfl, rfl, hn4, sz100 (by omega), ?_⟩
                  refine ⟨_, _, _, us3 ++ [.ref p2], rfl, mv_upd (mv_same m3 s4), upd_same, ?_, rfl, ?_⟩
                  · rw [rt, ← List.append_assoc, List.map_append, scan_app e3]
                    show (scan [kn D (t + (y : Int), l + (z : Int))]).2 = none
                    rw [en]
                    rfl
                  · have es : (scan (((List.range y).flatMap (rowOf ⟨t, l, b, r⟩) ++ (rowOf ⟨t, l, b, r⟩ y).take (z + 1)).map (kn D))).1 = (scan (((List.range y).flatMap (rowOf ⟨t, l, b, r⟩) ++ (rowOf ⟨t, l, b, r⟩ y).take z).map (kn D))).1 ++ [(n0, n1)] := by
                      rw [rt, ← List.append_assoc, List.map_append, scan_app e3]
                      show _ ++ (scan [kn D (t + (y : Int), l + (z : Int))]).1 = _
                      rw [en]
                      rfl
                    rw [es, ← List.append_assoc, ← List.append_assoc, List.map_append, List.append_assoc]
                    exact (d4.snoc (frD_mk hp2)).tt (TK.mut hn4)
                · have es : scan (((List.range y).flatMap (rowOf ⟨t, l, b, r⟩) ++ (rowOf ⟨t, l, b, r⟩ y).take (z + 1)).map (kn D)) = scan (((List.range y).flatMap (rowOf ⟨t, l, b, r⟩) ++ (rowOf ⟨t, l, b, r⟩ y).take z).map (kn D)) := by
                    rw [rt, ← List.append_assoc, List.map_append, scan_app e3]
                    have : scan [kn D (t + (y : Int), l + (z : Int))] = ([], none) := by
                      cases ek : kn D (t + (y : Int), l + (z : Int)) with
                      | fault f => exact absurd ek (nf f)
                      | num n0 n1 => exact absurd (decide_eq_true (congrArg V.str (f2.mpr ⟨n0, n1, ek⟩))) c2
                      | _ => rfl
                    show ((scan _).1 ++ (scan [kn D (t + (y : Int), l + (z : Int))]).1, (scan [kn D (t + (y : Int), l + (z : Int))]).2) = _
                    rw [this, List.append_nil]
                    exact Prod.ext rfl e3.symm
                  exact ⟨_, _, _, us3, rfl, mv_same m3 s4, hn4, by rw [es]; exact e3, rfl, by rw [es]; exact d4⟩
            · rintro σ H3 ⟨k6, k7, k8, us3, rfl, m3, hn3, e3, rfl, d3⟩
              rw [show (rowOf ⟨t, l, b, r⟩ y).take (r + 1 - l).toNat = rowOf ⟨t, l, b, r⟩ y from List.take_of_length_le (by rw [rowOf_len]; exact Nat.le_refl _)] at e3 d3
              rw [← range_flat] at e3 d3
              exact ⟨_, _, _, _, us3, rfl, m3, hn3, e3, d3⟩
          · rintro σ H2 ⟨k5, k6, k7, k8, us2, rfl, m2, hn2, e2, d2⟩
            exact next _ _ _ _ _ H2 us2 (mv_trans m1 m2) hn2 (by rw [ev1]; exact e2) (by rw [ev1]; exact d2)
      · refine .inl ⟨_, rfl, at_, rfl, ⟨avs, SqL.of hat⟩, for_it (walk_list (a := at_) (xs := avs)) INV start (fun i σ H' _ ⟨_, _, _, _, _, _, _, m, _⟩ => SqL.of (m _ _ ((rmS_of fun z => nat (List.mem_singleton.mp z)).trans hat))) ?_ (fun σ H' ⟨k4, k5, k6, k7, k8, us1, e, m1, hn1, e1, d1⟩ => fin k4 k5 k6 k7 k8 H' us1 m1 hn1 e1 d1)⟩
        skip
        rintro i x σ HX H1 hi ⟨k4, k5, k6, k7, k8, us1, rfl, m1, hn1, e1, d1⟩ ⟨rfl, hx⟩
        obtain ⟨a0, ha0, at0⟩ := ars.get i x hx
        have tt1 := tt_mv hnl m1
        have at1 := at0.mono tt1
        have vi := vl i
        have sl1 := scan_len (visV N D (as.take i))
        have d1l := d1.length
        have dl := dk.length
        rw [List.length_map, List.length_append] at d1l
        rw [List.length_map] at dl
        have sp := visV_split (N := N) (D := D) ha0
        have tk := visV_take (N := N) (D := D) ha0
        have kna1 := kna.mv hnl m1
        have ns1 := hns.mv (rmS_mv hS m1)
        -- a fault ahead of the end
        have stop : ∀ (H2 : Hp) (us2 : List V) (f : OkS) (u w : List Val), Same (rmS [nl] H) H2 → H2 nl = some (.lst us2) → visV N D [a0] = u ++ .fault f :: w → (scan u).2 = none → DkAll K H2 us2 ((ns ++ ((scan (visV N D (as.take i))).1 ++ (scan u).1)).map frZ) → Q (.str f.1) H2 := fun H2 us2 f u w m2 hn2 ea eu d2 => by
          have e : scan (visV N D as) = ((scan (visV N D (as.take i))).1 ++ (scan u).1, some f) := by
            rw [sp, ea]
            have e0 : (visV N D (as.take i) ++ (u ++ Val.fault f :: w)) ++ visV N D (as.drop (i + 1)) = (visV N D (as.take i) ++ u) ++ Val.fault f :: (w ++ visV N D (as.drop (i + 1))) := by
              simp [List.append_assoc]
            rw [e0, scan_hit (by rw [scan_app e1]; exact eu), scan_app e1]
          have := q H2 us2 m2 hn2 (by rw [e]; exact d2)
          rw [e] at this
          exact this
        have next : ∀ (k4 k5 k6 k7 k8 : Option V) (H2 : Hp) (us2 : List V), Same (rmS [nl] H) H2 → H2 nl = some (.lst us2) → (scan (visV N D [a0])).2 = none → DkAll K H2 us2 ((ns ++ ((scan (visV N D (as.take i))).1 ++ (scan (visV N D [a0])).1)).map frZ) → INV (i + 1) [some (.ref nd), some (.ref at_), some (.ref kd), some (.ref nl), k4, k5, k6, k7, k8] H2 := fun k4 k5 k6 k7 k8 H2 us2 m2 hn2 ea d2 =>
          ⟨k4, k5, k6, k7, k8, us2, rfl, m2, hn2, by rw [tk, scan_app e1]; exact ea, by rw [tk, scan_app e1]; exact d2⟩
        cases a0 with
        | gone =>
          obtain ⟨q0, rfl, hq⟩ := at1
          refine ⟨_, rfl, _, _, _, _, rfl, rfl, SqT.of hq, atI_nat (j := 0) rfl, rfl, _, rfl, ifY ?_⟩
          exact stop H1 us1 ⟨"gone", by decide +kernel⟩ [] [] m1 hn1 rfl rfl (by show DkAll K H1 us1 ((ns ++ ((scan (visV N D (as.take i))).1 ++ [])).map frZ); rw [List.append_nil]; exact d1)
        | name w =>
          obtain ⟨q0, rfl, hq⟩ := at1
          refine ⟨_, rfl, _, _, _, _, rfl, rfl, SqT.of hq, atI_nat (j := 0) rfl, rfl, _, rfl, ifN bw3.2.2.1 ⟨_, rfl, _, _, _, _, rfl, rfl, SqT.of hq, atI_nat (j := 0) rfl, rfl, _, rfl, ifY ?_⟩⟩
          obtain ⟨nvs, hnr, en⟩ := id ns1
          obtain ⟨nS, hn⟩ := rmS_some hnr
          obtain ⟨g1, g2⟩ := ents_get (fun _ _ => keyW_inj) en w.1
          have dg := DGet.k (k := keyW w.1) hn
          rw [getE_nmA] at g1 g2
          refine ⟨_, rfl, _, _, _, _, rfl, rfl, SqT.of hq, atI_nat (j := 1) rfl, _, rfl, nd, _, rfl, dg, _, rfl, ?_⟩
          cases hg : getE N w.1 with
          | none =>
            rw [g1 (by rw [hg]; rfl)]
            refine iteT (stop H1 us1 wUnknown [] [] m1 hn1 ?_ rfl (by show DkAll K H1 us1 ((ns ++ ((scan (visV N D (as.take i))).1 ++ [])).map frZ); rw [List.append_nil]; exact d1))
            show (partsOf N (.name w) ++ []).flatMap (visP D) = _
            rw [parts_name, hg]
            rfl
          | some d =>
            obtain ⟨v, ev, hv⟩ := g2 _ (by rw [hg]; rfl)
            rw [ev] at dg ⊢
            refine iteF ⟨_, rfl, _, rfl, _, _, _, _, rfl, rfl, SqT.of hq, atI_nat (j := 1) rfl, nd, v, rfl, dg, rfl, _, rfl, ?_⟩
            cases d with
            | none =>
              obtain rfl := hv
              refine ite2 (fun _ => ?_) (fun c => absurd (decide_eq_true rfl) c)
              refine stop H1 us1 wClash [] [] m1 hn1 ?_ rfl (by show DkAll K H1 us1 ((ns ++ ((scan (visV N D (as.take i))).1 ++ [])).map frZ); rw [List.append_nil]; exact d1)
              show (partsOf N (.name w) ++ []).flatMap (visP D) = _
              rw [parts_name, hg]
              rfl
            | some bs =>
              obtain ⟨l, ws, rfl, hlr, dt⟩ := hv
              obtain ⟨lS, hl⟩ := rmS_some hlr
              have arb : Ars H1 ws bs := (dt_ars dt).mono (TK.of rmS_le)
              obtain ⟨b3, bnn⟩ := non _ (getE_key hg) bs rfl
              have bi := (wl.nm _ (getE_key hg) bs rfl).2
              have ev1 := visV_name (D := D) hg bnn
              have d1n : depA as = 1 := depA_one (List.mem_of_getElem? ha0)
              refine ite2 (fun c => nomatch (of_decide_eq_true c)) (fun _ => ?_)
              refine ⟨_, rfl, _, rfl, _, rfl, _, _, _, _, rfl, rfl, SqT.of hq, atI_nat (j := 1) rfl, nd, .ref l, rfl, dg, _, rfl, _, rfl, S, nd, l, kd, nl, N, ws, bs, D, us1, ns ++ (scan (visV N D (as.take i))).1, R, C, rfl, by rw [depA_no bnn]; omega, hS, ns1, non, wl, .inr ⟨hl, fun z => lS (z ▸ hS)⟩, arb, b3, bi, kna1, hn1, d1, by omega, fun H2 us2 m2 hn2 d2 => ?_⟩
              have m12 := mv_trans m1 m2
              rw [List.append_assoc] at d2
              cases es : (scan (visV N D bs)).2 with
              | some f =>
                refine ⟨_, rfl, rfl, _, rfl, iteT ⟨_, rfl, ?_⟩⟩
                have e : scan (visV N D as) = ((scan (visV N D (as.take i))).1 ++ (scan (visV N D bs)).1, some f) := by
                  rw [sp, ev1, List.append_assoc, scan_app e1, scan_stop es, es]
                have := q H2 us2 m12 hn2 (by rw [e]; exact d2)
                rw [e] at this
                exact this
              | none =>
                refine ⟨_, rfl, rfl, _, rfl, iteF ?_⟩
                have hq2 := tt_mv hn1 m2 _ _ hq
                exact ⟨_, rfl, _, _, _, _, rfl, rfl, SqT.of hq2, atI_nat (j := 0) rfl, rfl, _, rfl, ifN bw3.2.2.2 (next _ _ _ _ _ H2 us2 m12 hn2 (by rw [ev1]; exact es) (by rw [ev1]; exact d2))⟩
        | block t l b r =>
          obtain ⟨q0, rfl, hq⟩ := at1
          refine ⟨_, rfl, _, _, _, _, rfl, rfl, SqT.of hq, atI_nat (j := 0) rfl, rfl, _, rfl, ifN bw3.1 ⟨_, rfl, _, _, _, _, rfl, rfl, SqT.of hq, atI_nat (j := 0) rfl, rfl, _, rfl, ifN bw3.2.1 ⟨_, rfl, _, _, _, _, rfl, rfl, SqT.of hq, atI_nat (j := 0) rfl, rfl, _, rfl, ifY ?_⟩⟩⟩
          obtain ⟨o1, o2, o3, o4, o5, o6⟩ := (show 0 ≤ t ∧ t ≤ b ∧ b < R ∧ 0 ≤ l ∧ l ≤ r ∧ r < C from ai _ (List.mem_of_getElem? ha0))
          have ev1 : visV N D [.block t l b r] = (cellsOf ⟨t, l, b, r⟩).map (kn D) := by
            show ([Pt.ar (.block t l b r)] ++ []).flatMap (visP D) = _
            show (cellsOf ⟨t, l, b, r⟩).map (kn D) ++ [] = _
            rw [List.append_nil]
          have c60 := cellsOf_len (R := R) (C := C) (k := ⟨t, l, b, r⟩) ⟨o1, o2, o3, o4, o5, o6⟩ wl.few
          refine ⟨_, rfl, _, _, _, _, rfl, rfl, SqT.of hq, atI_nat (j := 1) rfl, _, rfl, _, _, _, _, rfl, rfl, SqT.of hq, atI_nat (j := 3) rfl, _, _, rfl, rfl, ?_⟩
          refine ⟨_, _, rfl, ⟨by omega, by omega, by omega, by omega⟩, for_range (lo := t) (n := (b + 1 - t).toNat) (fun y σ H' => ∃ (k5 k6 k7 k8 : Option V) (us2 : List V), σ = [some (.ref nd), some (.ref at_), some (.ref kd), some (.ref nl), some (.ref q0), k5, k6, k7, k8] ∧ Same (rmS [nl] H1) H' ∧ H' nl = some (.lst us2) ∧ (scan (((List.range y).flatMap (rowOf ⟨t, l, b, r⟩)).map (kn D))).2 = none ∧ DkAll K H' us2 ((ns ++ ((scan (visV N D (as.take i))).1 ++ (scan (((List.range y).flatMap (rowOf ⟨t, l, b, r⟩)).map (kn D))).1)).map frZ)) ⟨_, _, _, _, us1, rfl, rmS_le, hn1, rfl, by show DkAll K H1 us1 ((ns ++ ((scan (visV N D (as.take i))).1 ++ [])).map frZ); rw [List.append_nil]; exact d1⟩ ?_ ?_⟩
          · rintro y σ H2 hy ⟨k5, k6, k7, k8, us2, rfl, m2, hn2, e2, d2⟩
            have hq2 := tt_mv hn1 m2 _ _ hq
            refine ⟨_, rfl, _, _, _, _, rfl, rfl, SqT.of hq2, atI_nat (j := 2) rfl, _, rfl, _, _, _, _, rfl, rfl, SqT.of hq2, atI_nat (j := 4) rfl, _, _, rfl, rfl, ?_⟩
            refine ⟨_, _, rfl, ⟨by omega, by omega, by omega, by omega⟩, for_range (lo := l) (n := (r + 1 - l).toNat) (fun z σ H' => ∃ (k6 k7 k8 : Option V) (us2 : List V), σ = [some (.ref nd), some (.ref at_), some (.ref kd), some (.ref nl), some (.ref q0), k5, k6, k7, k8] ∧ Same (rmS [nl] H1) H' ∧ H' nl = some (.lst us2) ∧ (scan (((List.range y).flatMap (rowOf ⟨t, l, b, r⟩) ++ (rowOf ⟨t, l, b, r⟩ y).take z).map (kn D))).2 = none ∧ k6 = some (.int (t + (y : Int))) ∧ DkAll K H' us2 ((ns ++ ((scan (visV N D (as.take i))).1 ++ (scan (((List.range y).flatMap (rowOf ⟨t, l, b, r⟩) ++ (rowOf ⟨t, l, b, r⟩ y).take z).map (kn D))).1)).map frZ)) ⟨_, _, _, us2, rfl, m2, hn2, by rw [List.take_zero, List.append_nil]; exact e2, rfl, by rw [List.take_zero, List.append_nil]; exact d2⟩ ?_ ?_⟩
            · rintro z σ H3 hz ⟨k6, k7, k8, us3, rfl, m3, hn3, e3, rfl, d3⟩
              have m13 := mv_trans m1 m3
              have kna3 := kna1.mv hn1 m3
              obtain ⟨kvs, hk, _⟩ := id kna3
              refine ⟨_, rfl, kd, rfl, .inr ⟨kvs, .inl hk⟩, _, rfl, _, rfl, (by show 2 ≤ sizeLine; decide), fun tb htb => ⟨(by show 1 ≤ sizeLine; decide), fun tw htw => ?_⟩⟩
              have s4 := (same_new (o := .tup [.int (t + (y : Int)), .int (l + (z : Int))]) htb).trans (same_new (o := .tup [.str "blank"]) htw)
              have htb4 := (same_new (o := .tup [.str "blank"]) htw) _ _ (show (upd H3 tb (.tup [.int (t + (y : Int)), .int (l + (z : Int))])) tb = some (.tup [.int (t + (y : Int)), .int (l + (z : Int))]) from upd_same)
              have htw4 : (upd (upd H3 tb (.tup [.int (t + (y : Int)), .int (l + (z : Int))])) tw (.tup [.str "blank"])) tw = some (.tup [.str "blank"]) := upd_same
              generalize upd (upd H3 tb (.tup [.int (t + (y : Int)), .int (l + (z : Int))])) tw (.tup [.str "blank"]) = H4 at s4 htb4 htw4
              obtain ⟨r', dg, hv⟩ := (kna3.same s4).get (z := (t + (y : Int), l + (z : Int))) (w := .ref tw) htb4 (.tup (.inl htw4) (.cons (.str _) .nil))
              refine ⟨r', dg, ?_⟩
              obtain ⟨p, s, xs, ea, hp, f1, f2, _⟩ := hv.first
              rw [ea] at hv ⊢
              have hn4 := s4 _ _ hn3
              have m14 := mv_same m13 s4
              have d4 := d3.tt (TT.of s4)
              obtain ⟨rest, csp⟩ := cells_split (k := ⟨t, l, b, r⟩) hy hz
              have rt := row_take ⟨t, l, b, r⟩ y z hz
              refine ⟨_, rfl, p, _, _, _, rfl, rfl, hp.sq, atI_nat (j := 0) rfl, rfl, _, rfl, ite2 (fun c => ?_) (fun c => ?_)⟩
              · obtain ⟨f, ef⟩ := f1.mp (V.str.inj (of_decide_eq_true c))
                rw [ef] at hv
                obtain ⟨p', e, hp'⟩ := VA.two hv
                obtain rfl := V.ref.inj e
                refine ⟨_, rfl, _, _, _, _, rfl, rfl, hp'.sq, atI_nat (j := 1) rfl, stop H4 us3 f _ (rest.map (kn D)) m14 hn4 ?_ e3 d4⟩
                rw [ev1, csp, List.map_append, List.map_cons, ef]
              · have nf : ∀ f, kn D (t + (y : Int), l + (z : Int)) ≠ .fault f := fun f e => c (decide_eq_true (congrArg V.str (f1.mpr ⟨f, e⟩)))
                refine ⟨_, rfl, p, _, _, _, rfl, rfl, hp.sq, atI_nat (j := 0) rfl, rfl, _, rfl, ite2 (fun c2 => ?_) (fun c2 => ?_)⟩
                · obtain ⟨n0, n1, en⟩ := f2.mp (V.str.inj (of_decide_eq_true c2))
                  rw [en] at hv
                  obtain ⟨p', p2, e, hp', hp2⟩ := VA.num hv
                  obtain rfl := V.ref.inj e
                  have d4l := d4.length
                  rw [List.length_map, List.length_append, List.length_append] at d4l
                  have sl3 := scan_len (((List.range y).flatMap (rowOf ⟨t, l, b, r⟩) ++ (rowOf ⟨t, l, b, r⟩ y).take z).map (kn D))
                  rw [List.length_map] at sl3
                  have pre : ((List.range y).flatMap (rowOf ⟨t, l, b, r⟩) ++ (rowOf ⟨t, l, b, r⟩ y).take z).length ≤ 60 := by
                    rw [csp, List.length_append] at c60
                    omega
                  refine ⟨_, rfl, .inl ⟨rfl, _, SqL.of hn4⟩, _, rfl, _, _, _, _, rfl, rfl, hp'.sq, atI_nat (j := 1) rfl, nl, _, _, rfl, rfl, hn4, sz100 (by omega), ?_⟩
                  refine ⟨_, _, _, us3 ++ [.ref p2], rfl, mv_upd (mv_same m3 s4), upd_same, ?_, rfl, ?_⟩
                  · rw [rt, ← List.append_assoc, List.map_append, scan_app e3]
                    show (scan [kn D (t + (y : Int), l + (z : Int))]).2 = none
                    rw [en]
                    rfl
                  · have es : (scan (((List.range y).flatMap (rowOf ⟨t, l, b, r⟩) ++ (rowOf ⟨t, l, b, r⟩ y).take (z + 1)).map (kn D))).1 = (scan (((List.range y).flatMap (rowOf ⟨t, l, b, r⟩) ++ (rowOf ⟨t, l, b, r⟩ y).take z).map (kn D))).1 ++ [(n0, n1)] := by
                      rw [rt, ← List.append_assoc, List.map_append, scan_app e3]
                      show _ ++ (scan [kn D (t + (y : Int), l + (z : Int))]).1 = _
                      rw [en]
                      rfl
                    rw [es, ← List.append_assoc, ← List.append_assoc, List.map_append, List.append_assoc]
                    exact (d4.snoc (frD_mk hp2)).tt (TK.mut hn4)
                · have es : scan (((List.range y).flatMap (rowOf ⟨t, l, b, r⟩) ++ (rowOf ⟨t, l, b, r⟩ y).take (z + 1)).map (kn D)) = scan (((List.range y).flatMap (rowOf ⟨t, l, b, r⟩) ++ (rowOf ⟨t, l, b, r⟩ y).take z).map (kn D)) := by
                    rw [rt, ← List.append_assoc, List.map_append, scan_app e3]
                    have : scan [kn D (t + (y : Int), l + (z : Int))] = ([], none) := by
                      cases ek : kn D (t + (y : Int), l + (z : Int)) with
                      | fault f => exact absurd ek (nf f)
                      | num n0 n1 => exact absurd (decide_eq_true (congrArg V.str (f2.mpr ⟨n0, n1, ek⟩))) c2
                      | _ => rfl
                    show ((scan _).1 ++ (scan [kn D (t + (y : Int), l + (z : Int))]).1, (scan [kn D (t + (y : Int), l + (z : Int))]).2) = _
                    rw [this, List.append_nil]
                    exact Prod.ext rfl e3.symm
                  exact ⟨_, _, _, us3, rfl, mv_same m3 s4, hn4, by rw [es]; exact e3, rfl, by rw [es]; exact d4⟩
            · rintro σ H3 ⟨k6, k7, k8, us3, rfl, m3, hn3, e3, rfl, d3⟩
              rw [show (rowOf ⟨t, l, b, r⟩ y).take (r + 1 - l).toNat = rowOf ⟨t, l, b, r⟩ y from List.take_of_length_le (by rw [rowOf_len]; exact Nat.le_refl _)] at e3 d3
              rw [← range_flat] at e3 d3
              exact ⟨_, _, _, _, us3, rfl, m3, hn3, e3, d3⟩
          · rintro σ H2 ⟨k5, k6, k7, k8, us2, rfl, m2, hn2, e2, d2⟩
            exact next _ _ _ _ _ H2 us2 (mv_trans m1 m2) hn2 (by rw [ev1]; exact e2) (by rw [ev1]; exact d2)
theorem NS.same {K : PySem.W.Frag} {S : List Addr} {H H' : Hp} {nd : Addr} {N : NA} (h : NS K S H nd N) (s : Same H H') : NS K S H' nd N := h.mv (rmS_same s)
theorem depA_le (as : List Ar) : depA as < 2 := by
  unfold depA
  split <;> decide
def spOwnCall (K : PySem.W.Frag) : Sp := fun vs H Q _ => ∃ (S : List Addr) (nd kd : Addr) (N : NA) (v : V) (n : Str) (as : List Ar) (D : KD2) (R C : Int), vs = [.ref nd, v, .ref kd] ∧ NS K S H nd N ∧ NoN N ∧ Wld R C [] N ∧ KnA K H kd D ∧ isVD D ∧ TrAt H v (.call n as) ∧ (Tr.call n as).okR R C ∧
  ∀ (v' : V) (H' : Hp), Same H H' → VA K H' v' (callV n (visV N D as)) → Q v' H'
theorem okLawOwnCall (T : Txt K mg) : FnOk P w K mg base CX0 5 T.fLawOwnCall T.fdLawOwnCall ["names", "tree", "known"] (spOwnCall K) := by
  refine T.FLawOwnCall.ok scLawOwnCall (fun vs H Q E h => ?_) (fun cdv A outer s H vs Q E hr h => ?_)
  · obtain ⟨S, nd, kd, N, v, n, as, D, R, C, rfl, _⟩ := h
    rfl
  · obtain ⟨S, nd, kd, N, v, n, as, D, R, C, rfl, hns, non, wl, kna, hd, ⟨qt, p2, vs, rfl, h1, h2, h3⟩, ok, q⟩ := h
    -- slots names=0 tree=1 known=2 numbers=3 found=4 total=5 x=6 best=7 below=8 above=9
    refine ⟨_, (pss_cons (ps_set (i := 3) scLawOwnCall.nd rfl (Or.inl rfl) (pe_lst pa_nil))
        (pss_cons (ps_set (i := 4) scLawOwnCall.nd rfl (Or.inl rfl) (pe_call (okLawVisit T 2) (hr.mono (by decide)) (by rfl) T.gLawVisit T.FLawVisit.kp T.bLawVisit .nil pass0 (pa_cons (pv 0) (pa_cons (pe_ix ix_tup (pv 1) pe_int (fun _ _ => rfl)) (pa_cons (pv 2) (pa_cons (pv 3) pa_nil))))))
        (pss_cons (ps_if (pt_cmpR op_notN (pv 4) pe_non (nomark _))
          (pss_one (ps_ret (pe_tup (pa_cons pe_str (pa_cons (pv 4) pa_nil)))))
          pss_nil)
        (pss_cons (ps_if (pt_cmpR op_eq (pe_ix ix_tup (pv 1) pe_int (fun _ _ => rfl)) pe_str (nomark _))
          (pss_one (ps_ret (pe_tup (pa_cons pe_str (pa_cons (pe_tup (pa_cons (pe_callB call_len_seq (by rfl) T.z_len PySem.boot_len (pa_cons (pv 3) pa_nil)) (pa_cons pe_int pa_nil))) pa_nil)))))
          pss_nil)
        (pss_cons (ps_if (pt_cmpR op_eq (pe_ix ix_tup (pv 1) pe_int (fun _ _ => rfl)) pe_str (nomark _))
          (pss_cons (ps_set (i := 5) scLawOwnCall.nd rfl (Or.inl rfl) (pe_tup (pa_cons pe_str (pa_cons (pe_tup (pa_cons pe_int (pa_cons pe_int pa_nil))) pa_nil))))
          (pss_cons (ps_for PassesOwn.never rfl (pi_list (pv 3)) (pg_name (i := 6) scLawOwnCall.nd rfl (Or.inl rfl))
            (pss_one (ps_set (i := 5) scLawOwnCall.nd rfl (Or.inl rfl) (pe_call (okLawOperate T) (hr.mono (by decide)) (by rfl) T.gLawOperate T.FLawOperate.kp T.bLawOperate .nil pass0 (pa_cons pe_str (pa_cons (pv 5) (pa_cons (pe_tup (pa_cons pe_str (pa_cons (pv 6) pa_nil))) pa_nil)))))))
          (pss_one (ps_ret (pv 5)))))
          pss_nil)
        (pss_cons (ps_if (pt_cmpR op_eq (pe_callB call_len_seq (by rfl) T.z_len PySem.boot_len (pa_cons (pv 3) pa_nil)) pe_int (nomark _))
          (pss_one (ps_ret (pe_tup (pa_cons pe_str (pa_cons pe_str pa_nil)))))
          pss_nil)
        (pss_cons (ps_set (i := 7) scLawOwnCall.nd rfl (Or.inl rfl) (pe_ix ix_list (pv 3) pe_int (fun _ _ => rfl)))
        (pss_cons (ps_for PassesOwn.never rfl (pi_list (pv 3)) (pg_name (i := 6) scLawOwnCall.nd rfl (Or.inl rfl))
          (pss_cons (ps_set (i := 8) scLawOwnCall.nd rfl (Or.inl rfl) (pe_cmpR op_lt (pe_op op_mul (pe_ix ix_tup (pv 6) pe_int (fun _ _ => rfl)) (pe_ix ix_tup (pv 7) pe_int (fun _ _ => rfl))) (pe_op op_mul (pe_ix ix_tup (pv 7) pe_int (fun _ _ => rfl)) (pe_ix ix_tup (pv 6) pe_int (fun _ _ => rfl))) (nomark _)))
          (pss_cons (ps_set (i := 9) scLawOwnCall.nd rfl (Or.inl rfl) (pe_cmpR op_gt (pe_op op_mul (pe_ix ix_tup (pv 6) pe_int (fun _ _ => rfl)) (pe_ix ix_tup (pv 7) pe_int (fun _ _ => rfl))) (pe_op op_mul (pe_ix ix_tup (pv 7) pe_int (fun _ _ => rfl)) (pe_ix ix_tup (pv 6) pe_int (fun _ _ => rfl))) (nomark _)))
          (pss_one (ps_if (PW.pt (pw_or (PW.pt (pw_and (pt_cmpR op_eq (pe_ix ix_tup (pv 1) pe_int (fun _ _ => rfl)) pe_str (nomark _)) (pw_and1 (pt_val (pv 8))))) (pw_or1 (PW.pt (pw_and (pt_cmpR op_eq (pe_ix ix_tup (pv 1) pe_int (fun _ _ => rfl)) pe_str (nomark _)) (pw_and1 (pt_val (pv 9))))))))
            (pss_one (ps_set (i := 7) scLawOwnCall.nd rfl (Or.inl rfl) (pv 6)))
            pss_nil)))))
        (pss_one (ps_ret (pe_tup (pa_cons pe_str (pa_cons (pv 7) pa_nil))))))))))))), ?_⟩
    refine ⟨Nat.zero_le _, fun nl hnl => ?_⟩
    have s1 := same_new (o := .lst []) hnl
    have h1' := s1 _ _ h1
    refine ⟨_, rfl, _, rfl, _, _, _, _, rfl, rfl, SqT.of h1', atI_nat (j := 2) rfl, _, rfl, _, rfl, nl :: S, nd, p2, kd, nl, N, vs, as, D, [], [], R, C, rfl, depA_le as, List.mem_cons_self, hns.mv (rmS_new s1 hnl), non, wl, .inl (s1 _ _ h2), h3.mono (TK.of s1), ok.1, ok.2.1, kna.same s1, upd_same, .nil, (by decide), fun H2 us m2 hn2 d2 => ?_⟩
    have s2 : Same H H2 := mv_pre s1 hnl m2
    have iv := visV_v hd as (N := N)
    have vl := visV_len wl D ok.1 ok.2.1
    have sl := scan_len (visV N D as)
    have q : ∀ (v' : V) (H' : Hp), Same H2 H' → VA K H' v' (callV n (visV N D as)) → Q v' H' := fun v' H' s hv => q v' H' (s2.trans s) hv
    rw [List.nil_append] at d2
    have h1 := s2 _ _ h1
    unfold callV at q
    clear m2 h1' s1
    cases es : (scan (visV N D as)).2 with
    | some f =>
      rw [es] at q
      refine ⟨_, rfl, rfl, _, rfl, iteT ⟨_, rfl, (by show 2 ≤ sizeLine; decide), fun u hu => q _ _ (same_new hu) (VA.mkFault (.inl upd_same))⟩⟩
    | none =>
      rw [es] at q
      have fl := scan_fl iv
      refine ⟨_, rfl, rfl, _, rfl, iteF ?_⟩
      generalize (scan (visV N D as)).1 = ns at q d2 fl sl
      have q : ∀ (v' : V) (H' : Hp), Same H2 H' → VA K H' v' (numsV n ns) → Q v' H' := q
      have ln := d2.length
      rw [List.length_map] at ln
      refine ⟨_, rfl, _, _, _, _, rfl, rfl, SqT.of h1, atI_nat (j := 1) rfl, rfl, _, rfl, ite2 (fun c => ?_) (fun c => ?_)⟩
      · obtain rfl : n = "count" := V.str.inj (of_decide_eq_true c)
        refine ⟨_, rfl, nl, us, rfl, .inl (SqL.of hn2), (by show 2 ≤ sizeLine; decide), fun t ht => ⟨(by show 2 ≤ sizeLine; decide), fun u hu => q _ _ ((same_new ht).trans (same_new hu)) ?_⟩⟩
        unfold numsV
        rw [if_neg fn4.1, if_pos rfl, ← ln]
        exact VA.mkNum (.inl upd_same) (.inl ((same_new hu) _ _ upd_same))
      have n2 : n ≠ "count" := fun e => c (decide_eq_true (congrArg V.str e))
      refine ⟨_, rfl, _, _, _, _, rfl, rfl, SqT.of h1, atI_nat (j := 1) rfl, rfl, _, rfl, ite2 (fun c => ?_) (fun c => ?_)⟩
      · obtain rfl : n = "sum" := V.str.inj (of_decide_eq_true c)
        have es : numsV "sum" ns = ofR (sumO (0, 1) ns) := if_pos rfl
        rw [es] at q
        refine ⟨(by show 2 ≤ sizeLine; decide), fun t ht => ⟨(by show 2 ≤ sizeLine; decide), fun u hu => ?_⟩⟩
        have s3 := (same_new (o := .tup [.int 0, .int 1]) ht).trans (same_new (o := .tup [.str "number", .ref t]) hu)
        have hn3 := s3 _ _ hn2
        have hv3 : VA K (upd (upd H2 t (.tup [.int 0, .int 1])) u (.tup [.str "number", .ref t])) (.ref u) (.num 0 1) := VA.mkNum (.inl upd_same) (.inl ((same_new hu) _ _ upd_same))
        refine ⟨_, rfl, nl, rfl, ⟨us, SqL.of hn3⟩, for_it (walk_list (a := nl) (xs := us)) (fun i σ H' => ∃ (k4 k6 k7 k8 k9 : Option V) (v : V) (o : Option (Int × Int)), σ = [some (.ref nd), some (.ref qt), some (.ref kd), some (.ref nl), k4, some v, k6, k7, k8, k9] ∧ Same H2 H' ∧ VA K H' v (ofR o) ∧ (∀ z, o = some z → Fl z.1 z.2) ∧ sumO (0, 1) ns = (match o with
          | none => none
          | some a => sumO a (ns.drop i))) ⟨_, _, _, _, _, _, some (0, 1), rfl, s3, hv3, fun z e => by cases e; exact fl01, rfl⟩ (fun i σ H' _ ⟨_, _, _, _, _, _, _, _, s, _⟩ => SqL.of (s _ _ hn2)) ?_ ?_⟩
        · rintro i x σ HX H4 hi ⟨k4, k6, k7, k8, k9, v, o, rfl, s4, hv, fo, eo⟩ ⟨rfl, hx⟩
          obtain ⟨z, hz⟩ : ∃ z, ns[i]? = some z := ⟨_, List.getElem?_eq_getElem (by omega)⟩
          have fz := fl z (List.mem_of_getElem? hz)
          have dx : Dk K H4 x (frZ z) := (d2.at_ i x (frZ z) hx (by rw [List.getElem?_map, hz]; rfl)).tt (TT.of s4)
          obtain ⟨px, rfl, hpx⟩ := FrA.inv dx
          have ed : ns.drop i = z :: ns.drop (i + 1) := by
            obtain ⟨e1, e2⟩ := List.getElem?_eq_some_iff.mp hz
            rw [List.drop_eq_getElem_cons e1, e2]
          refine ⟨_, rfl, _, rfl, (by show 2 ≤ sizeLine; decide), fun w hw => ?_⟩
          have s5 := same_new (o := .tup [.str "number", .ref px]) hw
          refine ⟨"+", v, .ref w, ofR o, .num z.1 z.2, rfl, (by simp [signsL]), ofR_r fo, fz, hv.same s5, VA.mkNum (.inl upd_same) (hpx.tt (TT.of s5)), fun v2 H6 s6 hv2 => ?_⟩
          cases o with
          | none => exact ⟨_, _, _, _, _, v2, none, rfl, (s4.trans s5).trans s6, hv2, (fun z e => nomatch e), eo⟩
          | some a =>
            have ea : calcV "+" (ofR (some a)) (.num z.1 z.2) = ofR (addO a z) := show arV "+" a.1 a.2 z.1 z.2 = ofR (addO a z) from if_pos rfl
            rw [ea] at hv2
            have eo : sumO (0, 1) ns = sumO a (ns.drop i) := eo
            rw [ed, show sumO a (z :: ns.drop (i + 1)) = match addO a z with
              | none => none
              | some b => sumO b (ns.drop (i + 1)) from rfl] at eo
            exact ⟨_, _, _, _, _, v2, addO a z, rfl, (s4.trans s5).trans s6, hv2, fun y e => addO_fl (fo a rfl) fz e, eo⟩
        · rintro σ H4 ⟨k4, k6, k7, k8, k9, v, o, rfl, s4, hv, fo, eo⟩
          rw [List.drop_of_length_le (by omega)] at eo
          have : sumO (0, 1) ns = o := by
            rw [eo]
            cases o <;> rfl
          exact ⟨_, rfl, q v H4 s4 (by rw [this]; exact hv)⟩
      have n1 : n ≠ "sum" := fun e => c (decide_eq_true (congrArg V.str e))
      have e3 : numsV n ns = if ns = [] then fNone else .num (bestF n ns).1 (bestF n ns).2 := (if_neg n1).trans (if_neg n2)
      rw [e3] at q
      refine ⟨_, rfl, nl, us, rfl, .inl (SqL.of hn2), rfl, _, rfl, ite2 (fun c => ?_) (fun c => ?_)⟩
      · have c := V.int.inj (of_decide_eq_true c)
        have en : ns = [] := List.eq_nil_of_length_eq_zero (by omega)
        rw [if_pos en] at q
        exact ⟨(by show 2 ≤ sizeLine; decide), fun u hu => q _ _ (same_new hu) (VA.mkFault (.inl upd_same))⟩
      · cases ns with
        | nil => exact absurd (decide_eq_true (by rw [ln]; rfl)) c
        | cons z0 r0 =>
          rw [if_neg (by simp)] at q
          obtain ⟨u0, ur, rfl, d0, dr⟩ := id d2.un
          refine ⟨_, rfl, nl, _, _, _, rfl, rfl, SqL.of hn2, atI_nat (j := 0) rfl, _, rfl, nl, rfl, ⟨_, SqL.of hn2⟩, for_it (walk_list (a := nl) (xs := u0 :: ur)) (fun i σ H' => ∃ (k4 k5 k6 k8 k9 : Option V) (v : V), σ = [some (.ref nd), some (.ref qt), some (.ref kd), some (.ref nl), k4, k5, k6, some v, k8, k9] ∧ H' = H2 ∧ Dk K H2 v (frZ (((z0 :: r0).take i).foldl (bestS n) z0)) ∧ Fl (((z0 :: r0).take i).foldl (bestS n) z0).1 (((z0 :: r0).take i).foldl (bestS n) z0).2) ⟨_, _, _, _, _, _, rfl, rfl, d0, fl z0 List.mem_cons_self⟩ (fun i σ H' _ ⟨_, _, _, _, _, _, _, e, _⟩ => by rw [e]; exact SqL.of hn2) ?_ ?_⟩
          · rintro i x σ HX H4 hi ⟨k4, k5, k6, k8, k9, v, rfl, e4, dv, fv⟩ ⟨e5, hx⟩
            obtain rfl : HX = H2 := e4
            obtain rfl : H4 = HX := e5
            obtain ⟨z, hz⟩ : ∃ z, (z0 :: r0)[i]? = some z := ⟨_, List.getElem?_eq_getElem (by omega)⟩
            have dx : Dk K H4 x (frZ z) := d2.at_ i x (frZ z) hx (by rw [List.getElem?_map, hz]; rfl)
            have fz := fl z (List.mem_of_getElem? hz)
            have et : ((z0 :: r0).take (i + 1)).foldl (bestS n) z0 = bestS n (((z0 :: r0).take i).foldl (bestS n) z0) z := by
              rw [List.take_add_one, hz, List.foldl_append]
              rfl
            rw [et]
            generalize ((z0 :: r0).take i).foldl (bestS n) z0 = b at dv fv
            obtain ⟨p1, rfl, hp1⟩ := FrA.inv dv
            obtain ⟨px, rfl, hpx⟩ := FrA.inv dx
            obtain ⟨⟨b1, b2, b3, b4⟩, _⟩ := id fv
            obtain ⟨⟨x1, x2, x3, x4⟩, _⟩ := id fz
            have yes : bestS n b z = z → ∀ (k8 k9 : Option V), ∃ (j4 j5 j6 j8 j9 : Option V) (v' : V), [some (V.ref nd), some (.ref qt), some (.ref kd), some (.ref nl), k4, k5, some (.ref px), some (.ref px), k8, k9] = [some (.ref nd), some (.ref qt), some (.ref kd), some (.ref nl), j4, j5, j6, some v', j8, j9] ∧ H4 = H4 ∧ Dk K H4 v' (frZ (bestS n b z)) ∧ Fl (bestS n b z).1 (bestS n b z).2 := fun e k8 k9 => ⟨_, _, _, _, _, _, rfl, rfl, by rw [e]; exact dx, by rw [e]; exact fz⟩
            have no : bestS n b z = b → ∀ (k8 k9 : Option V), ∃ (j4 j5 j6 j8 j9 : Option V) (v' : V), [some (V.ref nd), some (.ref qt), some (.ref kd), some (.ref nl), k4, k5, some (.ref px), some (.ref p1), k8, k9] = [some (.ref nd), some (.ref qt), some (.ref kd), some (.ref nl), j4, j5, j6, some v', j8, j9] ∧ H4 = H4 ∧ Dk K H4 v' (frZ (bestS n b z)) ∧ Fl (bestS n b z).1 (bestS n b z).2 := fun e k8 k9 => ⟨_, _, _, _, _, _, rfl, rfl, by rw [e]; exact dv, by rw [e]; exact fv⟩
            refine ⟨_, rfl, _, _, _, _, rfl, rfl, hpx.sq, atI_nat (j := 0) rfl, _, rfl, _, _, _, _, rfl, rfl, hp1.sq, atI_nat (j := 1) rfl, _, _, rfl, rfl, .inl ⟨by omega, by omega⟩, _, rfl, _, _, _, _, rfl, rfl, hp1.sq, atI_nat (j := 0) rfl, _, rfl, _, _, _, _, rfl, rfl, hpx.sq, atI_nat (j := 1) rfl, _, _, rfl, rfl, .inl ⟨by omega, by omega⟩, _, _, rfl, rfl, _, rfl, _, _, _, _, rfl, rfl, hpx.sq, atI_nat (j := 0) rfl, _, rfl, _, _, _, _, rfl, rfl, hp1.sq, atI_nat (j := 1) rfl, _, _, rfl, rfl, .inl ⟨by omega, by omega⟩, _, rfl, _, _, _, _, rfl, rfl, hp1.sq, atI_nat (j := 0) rfl, _, rfl, _, _, _, _, rfl, rfl, hpx.sq, atI_nat (j := 1) rfl, _, _, rfl, rfl, .inl ⟨by omega, by omega⟩, _, _, rfl, rfl, ?_⟩
            refine ⟨_, rfl, _, _, _, _, rfl, rfl, SqT.of h1, atI_nat (j := 1) rfl, rfl, _, rfl, ite2 (fun c => ?_) (fun c => ?_)⟩
            · obtain rfl : n = "min" := V.str.inj (of_decide_eq_true c)
              refine ⟨_, rfl, _, rfl, ite2 (fun lt => ?_) (fun lt => ?_)⟩
              · exact iteT ⟨_, rfl, yes (if_pos (.inl ⟨rfl, lt⟩)) _ _⟩
              · refine ⟨_, rfl, _, _, _, _, rfl, rfl, SqT.of h1, atI_nat (j := 1) rfl, rfl, _, rfl, ifN minmax (iteF (no (if_neg ?_) _ _))⟩
                rintro (⟨_, h⟩ | ⟨h, _⟩)
                · exact lt h
                · exact minmax h
            · have nm : n ≠ "min" := fun e => c (decide_eq_true (congrArg V.str e))
              refine iteF ⟨_, rfl, _, _, _, _, rfl, rfl, SqT.of h1, atI_nat (j := 1) rfl, rfl, _, rfl, ite2 (fun c2 => ?_) (fun c2 => ?_)⟩
              · obtain rfl : n = "max" := V.str.inj (of_decide_eq_true c2)
                refine ⟨_, rfl, _, rfl, ite2 (fun lt => ?_) (fun lt => ?_)⟩
                · exact ⟨_, rfl, yes (if_pos (.inr ⟨rfl, lt⟩)) _ _⟩
                · refine no (if_neg ?_) _ _
                  rintro (⟨h, _⟩ | ⟨_, h⟩)
                  · exact minmax h.symm
                  · exact lt h
              · have nx : n ≠ "max" := fun e => c2 (decide_eq_true (congrArg V.str e))
                refine iteF (no (if_neg ?_) _ _)
                rintro (⟨h, _⟩ | ⟨h, _⟩)
                · exact nm h
                · exact nx h
          · rintro σ H4 ⟨k4, k5, k6, k8, k9, v, rfl, rfl, dv, fv⟩
            rw [List.take_of_length_le (by omega)] at dv
            obtain ⟨p1, rfl, hp1⟩ := FrA.inv dv
            exact ⟨_, rfl, (by show 2 ≤ sizeLine; decide), fun u hu => q _ _ (same_new hu) (VA.mkNum (.inl upd_same) (hp1.tt (TT.of (same_new hu))))⟩
def spNumOf (K : PySem.W.Frag) (n : Nat) : Sp := fun vs H Q _ => ∃ (S : List Addr) (nd kd : Addr) (N : NA) (v : V) (t : Tr) (D : KD2) (R C : Int), vs = [.ref nd, v, .ref kd] ∧ t.h < n ∧ NS K S H nd N ∧ NoN N ∧ Wld R C [] N ∧ KnA K H kd D ∧ isVD D ∧ TrAt H v t ∧ t.okR R C ∧
  ∀ (v' : V) (H' : Hp), Same H H' → VA K H' v' (evN N D t) → Q v' H'
theorem kw7 : ("num" : Str) ≠ "gone" ∧ ("cell" : Str) ≠ "gone" ∧ ("neg" : Str) ≠ "gone" ∧ ("op" : Str) ≠ "gone" ∧ ("call" : Str) ≠ "gone" := by decide +kernel
theorem okLawNumberOf (T : Txt K mg) : ∀ n : Nat, FnOk P w K mg base CX0 (n + 10) T.fLawNumberOf T.fdLawNumberOf ["names", "tree", "known"] (spNumOf K n)
  | 0 => by
    refine T.FLawNumberOf.ok scLawNumberOf (fun vs H Q E h => ?_) (fun cdv A outer s H vs Q E hr h => ?_)
    · obtain ⟨S, nd, kd, N, v, t, D, R, C, rfl, hh, _⟩ := h
      rfl
    · obtain ⟨S, nd, kd, N, v, t, D, R, C, rfl, hh, _⟩ := h
      exact absurd hh (Nat.not_lt_zero _)
  | n + 1 => by
    have IH := okLawNumberOf T n
    refine T.FLawNumberOf.ok scLawNumberOf (fun vs H Q E h => ?_) (fun cdv A outer s H vs Q E hr h => ?_)
    · obtain ⟨S, nd, kd, N, v, t, D, R, C, rfl, _⟩ := h
      rfl
    · obtain ⟨S, nd, kd, N, v, t, D, R, C, rfl, hh, hns, non, wl, kna, hd, ht, ok, q⟩ := h
      -- slots names=0 tree=1 known=2 value=3 left=4
      refine ⟨_, (pss_cons (ps_if (pt_cmpR op_eq (pe_ix ix_tup (pv 1) pe_int (fun _ _ => rfl)) pe_str (nomark _))
            (pss_one (ps_ret (pe_tup (pa_cons pe_str (pa_cons (pe_ix ix_tup (pv 1) pe_int (fun _ _ => rfl)) pa_nil)))))
            pss_nil)
          (pss_cons (ps_if (pt_cmpR op_eq (pe_ix ix_tup (pv 1) pe_int (fun _ _ => rfl)) pe_str (nomark _))
            (pss_one (ps_ret (pe_tup (pa_cons pe_str (pa_cons pe_str pa_nil)))))
            pss_nil)
          (pss_cons (ps_if (pt_cmpR op_eq (pe_ix ix_tup (pv 1) pe_int (fun _ _ => rfl)) pe_str (nomark _))
            (pss_cons (ps_set (i := 3) scLawNumberOf.nd rfl (Or.inl rfl) (pe_dget2 (units2 hr) (pv 2) (pe_tup (pa_cons (pe_ix ix_tup (pv 1) pe_int (fun _ _ => rfl)) (pa_cons (pe_ix ix_tup (pv 1) pe_int (fun _ _ => rfl)) pa_nil))) (pe_tup (pa_cons pe_str pa_nil)) ⟨rfl, rfl, rfl, rfl⟩))
            (pss_cons (ps_if (pt_cmpR op_eq (pe_ix ix_tup (pv 3) pe_int (fun _ _ => rfl)) pe_str (nomark _))
              (pss_one (ps_ret (pe_tup (pa_cons pe_str (pa_cons (pe_tup (pa_cons pe_int (pa_cons pe_int pa_nil))) pa_nil)))))
              pss_nil)
            (pss_cons (ps_if (pt_cmpR op_eq (pe_ix ix_tup (pv 3) pe_int (fun _ _ => rfl)) pe_str (nomark _))
              (pss_one (ps_ret (pe_tup (pa_cons pe_str (pa_cons pe_str pa_nil)))))
              pss_nil)
            (pss_one (ps_ret (pv 3))))))
            pss_nil)
          (pss_cons (ps_if (pt_cmpR op_eq (pe_ix ix_tup (pv 1) pe_int (fun _ _ => rfl)) pe_str (nomark _))
            (pss_cons (ps_set (i := 3) scLawNumberOf.nd rfl (Or.inl rfl) (pe_call IH (hr.mono (by omega)) (by rfl) T.gLawNumberOf T.FLawNumberOf.kp T.bLawNumberOf .nil pass0 (pa_cons (pv 0) (pa_cons (pe_ix ix_tup (pv 1) pe_int (fun _ _ => rfl)) (pa_cons (pv 2) pa_nil)))))
            (pss_cons (ps_if (pt_cmpR op_eq (pe_ix ix_tup (pv 3) pe_int (fun _ _ => rfl)) pe_str (nomark _))
              (pss_one (ps_ret (pe_tup (pa_cons pe_str (pa_cons (pe_tup (pa_cons (pe_op op_sub pe_int (pe_ix ix_tup (pe_ix ix_tup (pv 3) pe_int (fun _ _ => rfl)) pe_int (fun _ _ => rfl))) (pa_cons (pe_ix ix_tup (pe_ix ix_tup (pv 3) pe_int (fun _ _ => rfl)) pe_int (fun _ _ => rfl)) pa_nil))) pa_nil)))))
              pss_nil)
            (pss_one (ps_ret (pv 3)))))
            pss_nil)
          (pss_cons (ps_if (pt_cmpR op_eq (pe_ix ix_tup (pv 1) pe_int (fun _ _ => rfl)) pe_str (nomark _))
            (pss_one (ps_ret (pe_call (okLawOwnCall T) (hr.mono (by omega)) (by rfl) T.gLawOwnCall T.FLawOwnCall.kp T.bLawOwnCall .nil pass0 (pa_cons (pv 0) (pa_cons (pv 1) (pa_cons (pv 2) pa_nil))))))
            pss_nil)
          (pss_cons (ps_set (i := 4) scLawNumberOf.nd rfl (Or.inl rfl) (pe_call IH (hr.mono (by omega)) (by rfl) T.gLawNumberOf T.FLawNumberOf.kp T.bLawNumberOf .nil pass0 (pa_cons (pv 0) (pa_cons (pe_ix ix_tup (pv 1) pe_int (fun _ _ => rfl)) (pa_cons (pv 2) pa_nil)))))
          (pss_one (ps_ret (pe_call (okLawOperate T) (hr.mono (by omega)) (by rfl) T.gLawOperate T.FLawOperate.kp T.bLawOperate .nil pass0 (pa_cons (pe_ix ix_tup (pv 1) pe_int (fun _ _ => rfl)) (pa_cons (pv 4) (pa_cons (pe_call IH (hr.mono (by omega)) (by rfl) T.gLawNumberOf T.FLawNumberOf.kp T.bLawNumberOf .nil pass0 (pa_cons (pv 0) (pa_cons (pe_ix ix_tup (pv 1) pe_int (fun _ _ => rfl)) (pa_cons (pv 2) pa_nil)))) pa_nil)))))))))))), ?_⟩
      cases t with
      | num x y =>
        obtain ⟨p, p2, rfl, h1, h2⟩ := ht
        exact ⟨_, rfl, _, _, _, _, rfl, rfl, SqT.of h1, atI_nat (j := 0) rfl, rfl, _, rfl, ifY ⟨_, rfl, _, _, _, _, rfl, rfl, SqT.of h1, atI_nat (j := 1) rfl, (by show 2 ≤ sizeLine; decide), fun u hu => q _ _ (same_new hu) (VA.mkNum (.inl upd_same) (.inl ((same_new hu) _ _ h2)))⟩⟩
      | gone =>
        obtain ⟨p, rfl, h1⟩ := ht
        exact ⟨_, rfl, _, _, _, _, rfl, rfl, SqT.of h1, atI_nat (j := 0) rfl, rfl, _, rfl, ifN kw6.2.2.2.2 ⟨_, rfl, _, _, _, _, rfl, rfl, SqT.of h1, atI_nat (j := 0) rfl, rfl, _, rfl, ifY ⟨(by show 2 ≤ sizeLine; decide), fun u hu => q _ _ (same_new hu) (VA.mkFault (s := ⟨"gone", by decide +kernel⟩) (.inl upd_same))⟩⟩⟩
      | cell r c =>
        obtain ⟨p, rfl, h1⟩ := ht
        obtain ⟨kvs, hk, _⟩ := id kna
        refine ⟨_, rfl, _, _, _, _, rfl, rfl, SqT.of h1, atI_nat (j := 0) rfl, rfl, _, rfl, ifN kw6.1 ⟨_, rfl, _, _, _, _, rfl, rfl, SqT.of h1, atI_nat (j := 0) rfl, rfl, _, rfl, ifN kw7.2.1 ⟨_, rfl, _, _, _, _, rfl, rfl, SqT.of h1, atI_nat (j := 0) rfl, rfl, _, rfl, ifY ⟨_, rfl, kd, rfl, .inr ⟨kvs, .inl hk⟩, _, rfl, _, _, _, _, rfl, rfl, SqT.of h1, atI_nat (j := 1) rfl, _, rfl, _, _, _, _, rfl, rfl, SqT.of h1, atI_nat (j := 2) rfl, (by show 2 ≤ sizeLine; decide), fun tb htb => ⟨(by show 1 ≤ sizeLine; decide), fun tw htw => ?_⟩⟩⟩⟩⟩
        have s4 := (same_new (o := .tup [.int r, .int c]) htb).trans (same_new (o := .tup [.str "blank"]) htw)
        have htb4 := (same_new (o := .tup [.str "blank"]) htw) _ _ (show (upd H tb (.tup [.int r, .int c])) tb = some (.tup [.int r, .int c]) from upd_same)
        have htw4 : (upd (upd H tb (.tup [.int r, .int c])) tw (.tup [.str "blank"])) tw = some (.tup [.str "blank"]) := upd_same
        generalize upd (upd H tb (.tup [.int r, .int c])) tw (.tup [.str "blank"]) = H4 at s4 htb4 htw4
        obtain ⟨r', dg, hv⟩ := (kna.same s4).get (z := (r, c)) (w := .ref tw) htb4 (.tup (.inl htw4) (.cons (.str _) .nil))
        refine ⟨r', dg, ?_⟩
        have q : ∀ (v' : V) (H' : Hp), Same H4 H' → VA K H' v' (cellN (kn D (r, c))) → Q v' H' := fun v' H' s hv => q v' H' (s4.trans s) hv
        generalize kn D (r, c) = x at hv q
        obtain ⟨p5, s, xs, ea, hp5, f1, f2, f3, f4⟩ := hv.first
        rw [ea] at hv ⊢
        refine ⟨_, rfl, p5, _, _, _, rfl, rfl, hp5.sq, atI_nat (j := 0) rfl, rfl, _, rfl, ite2 (fun c1 => ?_) (fun c1 => ?_)⟩
        · obtain rfl := f4.mp (V.str.inj (of_decide_eq_true c1))
          exact ⟨(by show 2 ≤ sizeLine; decide), fun t ht => ⟨(by show 2 ≤ sizeLine; decide), fun u hu => q _ _ ((same_new ht).trans (same_new hu)) (VA.mkNum (.inl upd_same) (.inl ((same_new hu) _ _ upd_same)))⟩⟩
        refine ⟨_, rfl, p5, _, _, _, rfl, rfl, hp5.sq, atI_nat (j := 0) rfl, rfl, _, rfl, ite2 (fun c2 => ?_) (fun c2 => ?_)⟩
        · obtain ⟨t, rfl⟩ := f3.mp (V.str.inj (of_decide_eq_true c2))
          exact ⟨(by show 2 ≤ sizeLine; decide), fun u hu => q _ _ (same_new hu) (VA.mkFault (s := ⟨"kind", by decide +kernel⟩) (.inl upd_same))⟩
        · refine ⟨_, rfl, q _ _ (Same.refl _) ?_⟩
          cases x with
          | blank => exact absurd (decide_eq_true (congrArg V.str (f4.mpr rfl))) c1
          | text t => exact absurd (decide_eq_true (congrArg V.str (f3.mpr ⟨t, rfl⟩))) c2
          | fault f => exact hv
          | num a b => exact hv
      | neg t =>
        obtain ⟨p, u, rfl, h1, h2⟩ := ht
        refine ⟨_, rfl, _, _, _, _, rfl, rfl, SqT.of h1, atI_nat (j := 0) rfl, rfl, _, rfl, ifN kw6.2.1 ⟨_, rfl, _, _, _, _, rfl, rfl, SqT.of h1, atI_nat (j := 0) rfl, rfl, _, rfl, ifN kw7.2.2.1 ⟨_, rfl, _, _, _, _, rfl, rfl, SqT.of h1, atI_nat (j := 0) rfl, rfl, _, rfl, ifN w4.2.2 ⟨_, rfl, _, _, _, _, rfl, rfl, SqT.of h1, atI_nat (j := 0) rfl, rfl, _, rfl, ifY ?_⟩⟩⟩⟩
        refine ⟨_, rfl, _, rfl, _, _, _, _, rfl, rfl, SqT.of h1, atI_nat (j := 1) rfl, _, rfl, S, nd, kd, N, u, t, D, R, C, rfl, hneg hh, hns, non, wl, kna, hd, h2, ok, fun v1 H1 s1 hv => ?_⟩
        have r1 := evN_r wl hd (t := t) ok
        have q : ∀ (v' : V) (H' : Hp), Same H1 H' → VA K H' v' (negV (evN N D t)) → Q v' H' := fun v' H' s hv => q v' H' (s1.trans s) hv
        generalize evN N D t = x at hv r1 q
        cases x with
        | blank => exact r1.elim
        | text t => exact r1.elim
        | fault f =>
          obtain ⟨a, rfl, ha⟩ := VA.two hv
          exact ⟨_, rfl, _, _, _, _, rfl, rfl, ha.sq, atI_nat (j := 0) rfl, rfl, _, rfl, ifN vw.1 ⟨_, rfl, q _ _ (Same.refl _) hv⟩⟩
        | num x y =>
          obtain ⟨a, pn, rfl, ha, hp⟩ := VA.num hv
          refine ⟨_, rfl, _, _, _, _, rfl, rfl, ha.sq, atI_nat (j := 0) rfl, rfl, _, rfl, ifY ⟨_, rfl, _, _, _, _, rfl, rfl, ha.sq, atI_nat (j := 1) rfl, pn, _, _, _, rfl, rfl, hp.sq, atI_nat (j := 0) rfl, _, _, rfl, rfl, _, rfl, _, _, _, _, rfl, rfl, ha.sq, atI_nat (j := 1) rfl, pn, _, _, _, rfl, rfl, hp.sq, atI_nat (j := 1) rfl, (by show 2 ≤ sizeLine; decide), fun t ht => ⟨(by show 2 ≤ sizeLine; decide), fun u hu => q _ _ ((same_new ht).trans (same_new hu)) ?_⟩⟩⟩
          show VA K _ _ (.num (-x) y)
          rw [← Int.zero_sub]
          exact VA.mkNum (.inl upd_same) (.inl ((same_new hu) _ _ upd_same))
      | call n as =>
        obtain ⟨p, p2, vs, rfl, h1, h2, h3⟩ := id ht
        exact ⟨_, rfl, _, _, _, _, rfl, rfl, SqT.of h1, atI_nat (j := 0) rfl, rfl, _, rfl, ifN kw6.2.2.2.1 ⟨_, rfl, _, _, _, _, rfl, rfl, SqT.of h1, atI_nat (j := 0) rfl, rfl, _, rfl, ifN kw7.2.2.2.2 ⟨_, rfl, _, _, _, _, rfl, rfl, SqT.of h1, atI_nat (j := 0) rfl, rfl, _, rfl, ifN w6.2.2 ⟨_, rfl, _, _, _, _, rfl, rfl, SqT.of h1, atI_nat (j := 0) rfl, rfl, _, rfl, ifN w6.1 ⟨_, rfl, _, _, _, _, rfl, rfl, SqT.of h1, atI_nat (j := 0) rfl, rfl, _, rfl, ifY ⟨_, rfl, _, rfl, _, rfl, S, nd, kd, N, _, n, as, D, R, C, rfl, hns, non, wl, kna, hd, ht, ok, q⟩⟩⟩⟩⟩⟩
      | op s l r =>
        obtain ⟨p, u, w, rfl, h1, h2, h3⟩ := ht
        refine ⟨_, rfl, _, _, _, _, rfl, rfl, SqT.of h1, atI_nat (j := 0) rfl, rfl, _, rfl, ifN kw6.2.2.1 ⟨_, rfl, _, _, _, _, rfl, rfl, SqT.of h1, atI_nat (j := 0) rfl, rfl, _, rfl, ifN kw7.2.2.2.1 ⟨_, rfl, _, _, _, _, rfl, rfl, SqT.of h1, atI_nat (j := 0) rfl, rfl, _, rfl, ifN w5.2.2 ⟨_, rfl, _, _, _, _, rfl, rfl, SqT.of h1, atI_nat (j := 0) rfl, rfl, _, rfl, ifN w5.1 ⟨_, rfl, _, _, _, _, rfl, rfl, SqT.of h1, atI_nat (j := 0) rfl, rfl, _, rfl, ifN w5.2.1 ?_⟩⟩⟩⟩⟩
        refine ⟨_, rfl, _, rfl, _, _, _, _, rfl, rfl, SqT.of h1, atI_nat (j := 2) rfl, _, rfl, S, nd, kd, N, u, l, D, R, C, rfl, (hop hh).1, hns, non, wl, kna, hd, h2, ok.1, fun v1 H1 s1 hv1 => ?_⟩
        have h1' := s1 _ _ h1
        refine ⟨_, rfl, _, _, _, _, rfl, rfl, SqT.of h1', atI_nat (j := 1) rfl, _, rfl, _, rfl, _, rfl, _, _, _, _, rfl, rfl, SqT.of h1', atI_nat (j := 3) rfl, _, rfl, S, nd, kd, N, w, r, D, R, C, rfl, (hop hh).2, hns.same s1, non, wl, kna.same s1, hd, h3.mono (TK.of s1), ok.2.1, fun v2 H2 s2 hv2 => ?_⟩
        exact ⟨s, v1, v2, _, _, rfl, ok.2.2, evN_r wl hd (t := l) ok.1, evN_r wl hd (t := r) ok.2.1, hv1.same s2, hv2, fun v3 H3 s3 hv3 => q v3 H3 ((s1.trans s2).trans s3) hv3⟩
def spOwnVal (K : PySem.W.Frag) : Sp := fun vs H Q _ => ∃ (S : List Addr) (nd kd : Addr) (N : NA) (v : V) (t : Tr) (D : KD2) (R C : Int), vs = [.ref nd, v, .ref kd] ∧ t.h < 5 ∧ NS K S H nd N ∧ NoN N ∧ Wld R C [] N ∧ KnA K H kd D ∧ isVD D ∧ TrAt H v t ∧ t.okR R C ∧
  ∀ (v' : V) (H' : Hp), Same H H' → VA K H' v' (evW N D t) → Q v' H'
theorem okLawOwnValue (T : Txt K mg) : FnOk P w K mg base CX0 16 T.fLawOwnValue T.fdLawOwnValue ["names", "tree", "known"] (spOwnVal K) := by
  refine T.FLawOwnValue.ok scLawOwnValue (fun vs H Q E h => ?_) (fun cdv A outer s H vs Q E hr h => ?_)
  · obtain ⟨S, nd, kd, N, v, t, D, R, C, rfl, _⟩ := h
    rfl
  · obtain ⟨S, nd, kd, N, v, t, D, R, C, rfl, hh, hns, non, wl, kna, hd, ht, ok, q⟩ := h
    -- slots names=0 tree=1 known=2 value=3
    refine ⟨_, (pss_cons (ps_if (pt_cmpR op_eq (pe_ix ix_tup (pv 1) pe_int (fun _ _ => rfl)) pe_str (nomark _))
          (pss_cons (ps_set (i := 3) scLawOwnValue.nd rfl (Or.inl rfl) (pe_dget2 (units2 hr) (pv 2) (pe_tup (pa_cons (pe_ix ix_tup (pv 1) pe_int (fun _ _ => rfl)) (pa_cons (pe_ix ix_tup (pv 1) pe_int (fun _ _ => rfl)) pa_nil))) (pe_tup (pa_cons pe_str pa_nil)) ⟨rfl, rfl, rfl, rfl⟩))
          (pss_one (ps_if (pt_cmpR op_eq (pe_ix ix_tup (pv 3) pe_int (fun _ _ => rfl)) pe_str (nomark _))
            (pss_one (ps_ret (pv 3)))
            pss_nil)))
          pss_nil)
        (pss_one (ps_ret (pe_call (okLawNumberOf T 5) (hr.mono (by decide)) (by rfl) T.gLawNumberOf T.FLawNumberOf.kp T.bLawNumberOf .nil pass0 (pa_cons (pv 0) (pa_cons (pv 1) (pa_cons (pv 2) pa_nil))))))), ?_⟩
    have go : ∀ (H1 : Hp), Same H H1 → evW N D t = evN N D t → spNumOf K 5 [.ref nd, v, .ref kd] H1 Q (fun _ _ _ => False) := fun H1 s1 e =>
      ⟨S, nd, kd, N, v, t, D, R, C, rfl, hh, hns.same s1, non, wl, kna.same s1, hd, ht.mono (TK.of s1), ok, fun v' H' s' hv => q v' H' (s1.trans s') (by rw [e]; exact hv)⟩
    cases t with
    | gone =>
      obtain ⟨p, rfl, h1⟩ := id ht
      exact ⟨_, rfl, _, _, _, _, rfl, rfl, SqT.of h1, atI_nat (j := 0) rfl, rfl, _, rfl, ifN w1.2.2.2.1 ⟨_, rfl, _, rfl, _, rfl, go H (Same.refl _) rfl⟩⟩
    | num x y =>
      obtain ⟨p, p2, rfl, h1, h2⟩ := id ht
      exact ⟨_, rfl, _, _, _, _, rfl, rfl, SqT.of h1, atI_nat (j := 0) rfl, rfl, _, rfl, ifN w2.2.2.2 ⟨_, rfl, _, rfl, _, rfl, go H (Same.refl _) rfl⟩⟩
    | neg t =>
      obtain ⟨p, u, rfl, h1, h2⟩ := id ht
      exact ⟨_, rfl, _, _, _, _, rfl, rfl, SqT.of h1, atI_nat (j := 0) rfl, rfl, _, rfl, ifN w4.2.2 ⟨_, rfl, _, rfl, _, rfl, go H (Same.refl _) rfl⟩⟩
    | op s l r =>
      obtain ⟨p, u, w, rfl, h1, h2, h3⟩ := id ht
      exact ⟨_, rfl, _, _, _, _, rfl, rfl, SqT.of h1, atI_nat (j := 0) rfl, rfl, _, rfl, ifN w5.2.2 ⟨_, rfl, _, rfl, _, rfl, go H (Same.refl _) rfl⟩⟩
    | call n as =>
      obtain ⟨p, p2, vs, rfl, h1, h2, h3⟩ := id ht
      exact ⟨_, rfl, _, _, _, _, rfl, rfl, SqT.of h1, atI_nat (j := 0) rfl, rfl, _, rfl, ifN w6.2.2 ⟨_, rfl, _, rfl, _, rfl, go H (Same.refl _) rfl⟩⟩
    | cell r c =>
      obtain ⟨p, rfl, h1⟩ := id ht
      obtain ⟨kvs, hk, _⟩ := id kna
      refine ⟨_, rfl, _, _, _, _, rfl, rfl, SqT.of h1, atI_nat (j := 0) rfl, rfl, _, rfl, ifY ⟨_, rfl, kd, rfl, .inr ⟨kvs, .inl hk⟩, _, rfl, _, _, _, _, rfl, rfl, SqT.of h1, atI_nat (j := 1) rfl, _, rfl, _, _, _, _, rfl, rfl, SqT.of h1, atI_nat (j := 2) rfl, (by show 2 ≤ sizeLine; decide), fun tb htb => ⟨(by show 1 ≤ sizeLine; decide), fun tw htw => ?_⟩⟩⟩
      have s4 := (same_new (o := .tup [.int r, .int c]) htb).trans (same_new (o := .tup [.str "blank"]) htw)
      have htb4 := (same_new (o := .tup [.str "blank"]) htw) _ _ (show (upd H tb (.tup [.int r, .int c])) tb = some (.tup [.int r, .int c]) from upd_same)
      have htw4 : (upd (upd H tb (.tup [.int r, .int c])) tw (.tup [.str "blank"])) tw = some (.tup [.str "blank"]) := upd_same
      generalize upd (upd H tb (.tup [.int r, .int c])) tw (.tup [.str "blank"]) = H4 at s4 htb4 htw4
      obtain ⟨r', dg, hv⟩ := (kna.same s4).get (z := (r, c)) (w := .ref tw) htb4 (.tup (.inl htw4) (.cons (.str _) .nil))
      refine ⟨r', dg, ?_⟩
      obtain ⟨a, s, xs, ea, ha, _, _, f3, _⟩ := hv.first
      rw [ea] at hv ⊢
      refine ⟨_, rfl, a, _, _, _, rfl, rfl, ha.sq, atI_nat (j := 0) rfl, rfl, _, rfl, ite2 (fun c => ?_) (fun c => ?_)⟩
      · obtain ⟨t, et⟩ := f3.mp (V.str.inj (of_decide_eq_true c))
        refine ⟨_, rfl, q _ _ s4 ?_⟩
        rw [evW_text et]
        rw [et] at hv
        exact hv
      · exact ⟨_, rfl, _, rfl, _, rfl, go _ s4 (evW_else fun t et => c (decide_eq_true (congrArg V.str (f3.mpr ⟨t, et⟩))))⟩
def spBig (K : PySem.W.Frag) : Sp := fun vs H Q _ => ∃ (b : Addr) (m : Int), vs = [.ref b, .int m] ∧ 0 ≤ m ∧ m ≤ 1000 ∧ Box H b ∧ ∀ x H', 0 ≤ x → x < 1000 ^ m.toNat → Box H' b → Kp b H H' → Q (.int x) H'
theorem okLawBig (T : Txt K mg) : FnOk P w K mg base CX0 2 T.fLawBig T.fdLawBig ["box", "size"] (spBig K) := by
  refine T.FLawBig.ok scLawBig (fun vs H Q E h => ?_) (fun cdv A outer s H vs Q E hr h => ?_)
  · obtain ⟨b, m, rfl, _⟩ := h
    rfl
  · obtain ⟨b, m, rfl, hm0, hm, hB, q⟩ := h
    obtain ⟨m, rfl⟩ := Int.eq_ofNat_of_zero_le hm0
    rw [Int.toNat_natCast] at q
    -- slots box=0 size=1 number=2 k=3
    refine ⟨_, (pss_cons (ps_set (i := 2) scLawBig.nd rfl (Or.inl rfl) pe_int)
        (pss_cons (ps_for PassesOwn.never rfl (pi_range1 rfl T.z_range (pa_cons (pv 1) pa_nil)) (pg_name (i := 3) scLawBig.nd rfl (Or.inl rfl))
          (pss_one (ps_set (i := 2) scLawBig.nd rfl (Or.inl rfl) (pe_op op_add (pe_op op_mul (pv 2) pe_int) (pe_call (okLawDraw T) (hr.mono (by decide)) (by rfl) T.gLawDraw T.FLawDraw.kp T.bLawDraw .nil pass0 (pa_cons (pv 0) (pa_cons pe_int pa_nil)))))))
        (pss_one (ps_ret (pv 2))))), ?_⟩
    refine ⟨_, rfl, _, rfl, by omega, by omega, for_range (lo := 0) (n := m) (fun t σ H' => ∃ x c, σ = [some (.ref b), some (.int (m : Int)), some (.int x), c] ∧ 0 ≤ x ∧ x < 1000 ^ t ∧ Box H' b ∧ Kp b H H') ⟨0, _, rfl, by decide, by decide, hB, Kp.refl⟩ ?_ ?_⟩
    · rintro t σ H1 ht ⟨x, c, rfl, h0, h1, hB1, k1⟩
      refine ⟨_, rfl, _, _, rfl, rfl, .inr ⟨by decide, by decide⟩, _, rfl, b, 1000, rfl, by decide, hB1, fun y H2 y0 y1 hB2 k2 => ?_⟩
      refine ⟨_, _, rfl, rfl, x * 1000 + y, _, rfl, by omega, ?_, hB2, k1.trans k2⟩
      rw [Int.pow_succ]
      omega
    · rintro σ H1 ⟨x, c, rfl, h0, h1, hB1, k1⟩
      exact ⟨_, rfl, q x _ h0 h1 hB1 k1⟩
theorem item_of {ns : List Int} {k : Int} (h0 : 0 ≤ k) (h1 : k < ns.length) : ∃ v ∈ ns, atI (ns.map V.int) k = some (.int v) := by
  obtain ⟨j, rfl⟩ := Int.eq_ofNat_of_zero_le h0
  have hj : j < ns.length := by omega
  exact ⟨ns.getD j 0, by rw [List.getD_eq_getElem?_getD, List.getElem?_eq_getElem hj]; exact List.getElem_mem hj, atI_nat (getD_at hj)⟩
def spFrac (K : PySem.W.Frag) : Sp := fun vs H Q _ => ∃ (b : Addr), vs = [.ref b] ∧ Box H b ∧ ∀ p x y H', Box H' b → Kp b H H' → H' p = some (.tup [.int x, .int y]) → Fr x y → Nat.gcd x.natAbs y.natAbs = 1 → p ≠ b → Q (.ref p) H'
theorem okLawFraction (T : Txt K mg) : FnOk P w K mg base CX0 3 T.fLawFraction T.fdLawFraction ["box"] (spFrac K) := by
  refine T.FLawFraction.ok scLawFraction (fun vs H Q E h => ?_) (fun cdv A outer s H vs Q E hr h => ?_)
  · obtain ⟨b, rfl, _⟩ := h
    rfl
  · obtain ⟨b, rfl, B, q⟩ := h
    -- slots box=0 kind=1 n=2 d=3
    refine ⟨_, (pss_cons (ps_set (i := 1) scLawFraction.nd rfl (Or.inl rfl) (pe_call (okLawDraw T) (hr.mono (by decide)) (by rfl) T.gLawDraw T.FLawDraw.kp T.bLawDraw .nil pass0 (pa_cons (pv 0) (pa_cons pe_int pa_nil))))
        (pss_cons (ps_set (i := 2) scLawFraction.nd rfl (Or.inl rfl) (pe_call (okLawBig T) (hr.mono (by decide)) (by rfl) T.gLawBig T.FLawBig.kp T.bLawBig .nil pass0 (pa_cons (pv 0) (pa_cons (pe_ix ix_list (pe_lst (pa_cons pe_int (pa_cons pe_int (pa_cons pe_int (pa_cons pe_int (pa_cons pe_int (pa_cons pe_int pa_nil))))))) (pv 1) (fun _ _ => rfl)) pa_nil))))
        (pss_cons (ps_set (i := 3) scLawFraction.nd rfl (Or.inl rfl) (pe_op op_add pe_int (pe_call (okLawBig T) (hr.mono (by decide)) (by rfl) T.gLawBig T.FLawBig.kp T.bLawBig .nil pass0 (pa_cons (pv 0) (pa_cons (pe_ix ix_list (pe_lst (pa_cons pe_int (pa_cons pe_int (pa_cons pe_int (pa_cons pe_int (pa_cons pe_int (pa_cons pe_int pa_nil))))))) (pv 1) (fun _ _ => rfl)) pa_nil)))))
        (C8.pss_cut (ps_if (pt_cmpR op_eq (pv 1) pe_int (nomark _))
          (pss_one (ps_set (i := 2) scLawFraction.nd rfl (Or.inl rfl) (pe_op op_mod (pe_callTy call_int1 (by rfl) T.z_int (by decide +kernel) (pa_cons (pv 2) pa_nil)) pe_int)))
          pss_nil)
        (C8.pss_cut (ps_if (pt_cmpR op_eq (pv 1) pe_int (nomark _))
          (pss_cons (ps_set (i := 2) scLawFraction.nd rfl (Or.inl rfl) (pe_op op_sub (pe_op op_pow pe_int pe_int) (pe_call (okLawDraw T) (hr.mono (by decide)) (by rfl) T.gLawDraw T.FLawDraw.kp T.bLawDraw .nil pass0 (pa_cons (pv 0) (pa_cons pe_int pa_nil)))))
          (pss_one (ps_set (i := 3) scLawFraction.nd rfl (Or.inl rfl) (pe_ix ix_list (pe_lst (pa_cons pe_int (pa_cons pe_int (pa_cons pe_int (pa_cons (pe_op op_pow pe_int pe_int) pa_nil))))) (pe_call (okLawDraw T) (hr.mono (by decide)) (by rfl) T.gLawDraw T.FLawDraw.kp T.bLawDraw .nil pass0 (pa_cons (pv 0) (pa_cons pe_int pa_nil))) (fun _ _ => rfl)))))
          pss_nil)
        (C8.pss_cut (ps_if (pt_cmpR op_eq (pe_call (okLawDraw T) (hr.mono (by decide)) (by rfl) T.gLawDraw T.FLawDraw.kp T.bLawDraw .nil pass0 (pa_cons (pv 0) (pa_cons pe_int pa_nil))) pe_int (nomark _))
          (pss_one (ps_set (i := 2) scLawFraction.nd rfl (Or.inl rfl) (pe_op op_sub pe_int (pv 2))))
          pss_nil)
        (pss_one (ps_ret (pe_call (okLawLowest T) (hr.mono (by decide)) (by rfl) T.gLawLowest T.FLawLowest.kp T.bLawLowest .nil pass0 (pa_cons (pv 2) (pa_cons (pv 3) pa_nil))))))))))), ?_⟩
    have pw : ∀ m : Int, 0 ≤ m → m ≤ 6 → (1000 : Int) ^ m.toNat ≤ 10 ^ 18 := fun m h0 h1 => by
      have e : m = 0 ∨ m = 1 ∨ m = 2 ∨ m = 3 ∨ m = 4 ∨ m = 5 ∨ m = 6 := by omega
      rcases e with rfl | rfl | rfl | rfl | rfl | rfl | rfl <;> decide
    refine ⟨_, rfl, b, 6, rfl, by decide, B, fun kd H1 k0 k6 B1 w1 => ?_⟩
    -- n
    refine ⟨_, rfl, (by show 6 ≤ sizeLine; decide), fun l hl => ?_⟩
    obtain ⟨v, hv, ev⟩ := item_of (ns := [1, 1, 2, 3, 6, 6]) k0 k6
    have v06 : 0 ≤ v ∧ v ≤ 6 := by
      simp only [List.mem_cons, List.not_mem_nil, or_false] at hv
      omega
    refine ⟨_, rfl, l, _, _, _, rfl, rfl, SqL.of upd_same, ev, b, v, rfl, v06.1, by omega, B1.same (same_new hl), fun n H2 n0 n1 B2 w2 => ?_⟩
    have w12 := (w1.trans (Kp.of (same_new hl))).trans w2
    have bn := pw v v06.1 v06.2
    -- d
    refine ⟨_, rfl, (by show 6 ≤ sizeLine; decide), fun l2 hl2 => ?_⟩
    obtain ⟨v2, hv2, ev2⟩ := item_of (ns := [0, 1, 1, 2, 6, 2]) k0 k6
    have v26 : 0 ≤ v2 ∧ v2 ≤ 6 := by
      simp only [List.mem_cons, List.not_mem_nil, or_false] at hv2
      omega
    refine ⟨_, rfl, l2, _, _, _, rfl, rfl, SqL.of upd_same, ev2, b, v2, rfl, v26.1, by omega, B2.same (same_new hl2), fun d H3 d0 d1 B3 w3 => ⟨_, _, rfl, rfl, ?_⟩⟩
    have w13 := (w12.trans (Kp.of (same_new hl2))).trans w3
    have bd := pw v2 v26.1 v26.2
    -- if kind == 0
    refine ⟨fun σ H' => H' = H3 ∧ ∃ n : Int, σ = [some (.ref b), some (.int kd), some (.int n), some (.int (1 + d))] ∧ 0 ≤ n ∧ n ≤ 10 ^ 18, ?_, ?_⟩
    · refine ⟨_, rfl, rfl, _, rfl, ite2 (fun c => ?_) (fun c => ?_)⟩
      · exact ⟨_, rfl, .inl ⟨_, rfl, _, _, rfl, rfl, (by show (0 : Int) < _; decide), rfl, _, rfl, by omega, by omega⟩⟩
      · exact ⟨rfl, n, rfl, n0, by omega⟩
    clear n0 n1 bn
    rintro σ H4 ⟨rfl, n, rfl, n0, n1⟩
    -- if kind == 5
    refine ⟨fun σ H' => Box H' b ∧ Kp b H H' ∧ ∃ n d : Int, σ = [some (.ref b), some (.int kd), some (.int n), some (.int d)] ∧ 0 ≤ n ∧ n ≤ 10 ^ 18 ∧ 1 ≤ d ∧ d ≤ 10 ^ 18, ?_, ?_⟩
    · refine ⟨_, rfl, rfl, _, rfl, ite2 (fun c => ?_) (fun c => ?_)⟩
      · refine ⟨_, _, rfl, rfl, ⟨by decide, by decide, by decide⟩, _, rfl, b, 3, rfl, by decide, B3, fun e H5 e0 e3 B5 w5 => ⟨_, _, rfl, rfl, ?_⟩⟩
        refine ⟨_, _, rfl, rfl, ⟨by decide, by decide, by decide⟩, (by show 4 ≤ sizeLine; decide), fun l3 hl3 => ?_⟩
        refine ⟨_, rfl, b, 4, rfl, by decide, B5.same (same_new hl3), fun k4 H6 f0 f4 B6 w6 => ?_⟩
        obtain ⟨v3, hv3, ev3⟩ := item_of (ns := [1, 2, 3, 10 ^ 18]) f0 f4
        have v36 : 1 ≤ v3 ∧ v3 ≤ 10 ^ 18 := by
          simp only [List.mem_cons, List.not_mem_nil, or_false] at hv3
          omega
        have nb3 : l3 ≠ b := fun z => by
          obtain ⟨_, _, _, hb, _, _⟩ := B5
          rw [z, hb] at hl3
          cases hl3
        refine ⟨l3, _, _, _, rfl, rfl, SqL.of (w6 _ _ nb3 upd_same), ev3, ?_⟩
        exact ⟨B6, ((w13.trans w5).trans (Kp.of (same_new hl3))).trans w6, _, _, rfl, by show (0 : Int) ≤ 10 ^ 18 - e; omega, by show (10 ^ 18 : Int) - e ≤ 10 ^ 18; omega, v36.1, v36.2⟩
      · exact ⟨B3, w13, n, 1 + d, rfl, n0, n1, by omega, by omega⟩
    clear n0 n1 bd d0 d1
    rintro σ H7 ⟨B7, w7, n, d, rfl, n0, n1, d0, d1⟩
    -- if _law_draw(box, 2) == 1
    refine ⟨fun σ H' => Box H' b ∧ Kp b H H' ∧ ∃ n : Int, σ = [some (.ref b), some (.int kd), some (.int n), some (.int d)] ∧ -10 ^ 18 ≤ n ∧ n ≤ 10 ^ 18, ?_, ?_⟩
    · refine ⟨_, rfl, b, 2, rfl, by decide, B7, fun y H8 y0 y1 B8 w8 => ⟨rfl, _, rfl, ite2 (fun _ => ?_) (fun _ => ?_)⟩⟩
      · exact ⟨_, rfl, _, _, rfl, rfl, B8, w7.trans w8, 0 - n, rfl, by omega, by omega⟩
      · exact ⟨B8, w7.trans w8, n, rfl, by omega, n1⟩
    clear n0 n1
    rintro σ H9 ⟨B9, w9, n, rfl, n0, n1⟩
    have zn : n.natAbs < 2 ^ 400 := Nat.lt_trans (show n.natAbs < 2 ^ 61 by omega) (by decide)
    have zd : d.natAbs < 2 ^ 400 := Nat.lt_trans (show d.natAbs < 2 ^ 61 by omega) (by decide)
    refine ⟨_, rfl, _, rfl, n, d, rfl, by omega, zn, zd, fun p x y hp L => ?_⟩
    have nb : p ≠ b := fun z => by
      obtain ⟨_, _, _, hb, _, _⟩ := B9
      rw [z, hb] at hp
      cases hp
    refine q p x y _ (B9.same (same_new hp)) (w9.trans (Kp.of (same_new hp))) upd_same ⟨?_, ?_, L.pos, ?_⟩ L.cop nb
    · have := L.lx
      omega
    · have := L.lx
      omega
    · have := L.ly
      omega
/-! ### drawn values -/
theorem op_mul_str {X : Cx} : OpR X (binaryOp .Mult) (fun x y H Q => ∃ (z : Str) (k : Int), x = .str z ∧ y = .int k ∧ MulOk z k ∧ Q (.str (Txt.mul z k)) H) := by
  intro pins s σ H x y v u Q I rx ry h
  obtain ⟨z, k, rfl, rfl, hk, q⟩ := h
  obtain ⟨t, rfl⟩ := rx
  obtain ⟨t2, rfl⟩ := ry
  exact PySem.SB.mul hk fun t' k' => ⟨.str _, H, I.tok k', ⟨t', rfl⟩, q⟩
theorem vtexts : ∀ k m : Nat, k < 4 → m < 2 → ∃ s : Str, [V.str "", .str "x", .str "12", .str "gone"][k]? = some (.str s) ∧ s.length ≤ 10 ∧ MulOk ("a" : Str) (m : Int) ∧ (Txt.mul ("a" : Str) (m : Int)).length ≤ 10 ∧ PyData.strOk (s ++ Txt.mul ("a" : Str) (m : Int)) = true
  | 0, 0, _, _ => ⟨_, rfl, by decide +kernel, by unfold MulOk; decide +kernel, by decide +kernel, by decide +kernel⟩
  | 1, 0, _, _ => ⟨_, rfl, by decide +kernel, by unfold MulOk; decide +kernel, by decide +kernel, by decide +kernel⟩
  | 2, 0, _, _ => ⟨_, rfl, by decide +kernel, by unfold MulOk; decide +kernel, by decide +kernel, by decide +kernel⟩
  | 3, 0, _, _ => ⟨_, rfl, by decide +kernel, by unfold MulOk; decide +kernel, by decide +kernel, by decide +kernel⟩
  | 0, 1, _, _ => ⟨_, rfl, by decide +kernel, by unfold MulOk; decide +kernel, by decide +kernel, by decide +kernel⟩
  | 1, 1, _, _ => ⟨_, rfl, by decide +kernel, by unfold MulOk; decide +kernel, by decide +kernel, by decide +kernel⟩
  | 2, 1, _, _ => ⟨_, rfl, by decide +kernel, by unfold MulOk; decide +kernel, by decide +kernel, by decide +kernel⟩
  | 3, 1, _, _ => ⟨_, rfl, by decide +kernel, by unfold MulOk; decide +kernel, by decide +kernel, by decide +kernel⟩
theorem vfaults : ∀ k : Nat, k < 8 → ∃ w : OkS, [V.str "clash", .str "ring", .str "gone", .str "unknown", .str "kind", .str "zero", .str "range", .str "none"][k]? = some (.str w.1)
  | 0, _ => ⟨⟨"clash", by decide +kernel⟩, rfl⟩
  | 1, _ => ⟨⟨"ring", by decide +kernel⟩, rfl⟩
  | 2, _ => ⟨⟨"gone", by decide +kernel⟩, rfl⟩
  | 3, _ => ⟨⟨"unknown", by decide +kernel⟩, rfl⟩
  | 4, _ => ⟨⟨"kind", by decide +kernel⟩, rfl⟩
  | 5, _ => ⟨⟨"zero", by decide +kernel⟩, rfl⟩
  | 6, _ => ⟨⟨"range", by decide +kernel⟩, rfl⟩
  | 7, _ => ⟨⟨"none", by decide +kernel⟩, rfl⟩
def spValue (K : PySem.W.Frag) : Sp := fun vs H Q _ => ∃ (b : Addr), vs = [.ref b] ∧ Box H b ∧ ∀ (v : V) (x : Val) (H' : Hp), Box H' b → Kp b H H' → Dt H' v (valD x) → isV x → Q v H'
theorem okLawValue (T : Txt K mg) : FnOk P w K mg base CX0 4 T.fLawValue T.fdLawValue ["box"] (spValue K) := by
  refine T.FLawValue.ok scLawValue (fun vs H Q E h => ?_) (fun cdv A outer s H vs Q E hr h => ?_)
  · obtain ⟨b, rfl, _⟩ := h
    rfl
  · obtain ⟨b, rfl, B, q⟩ := h
    -- slots box=0 kind=1 x=2
    refine ⟨_, (pss_cons (ps_set (i := 1) scLawValue.nd rfl (Or.inl rfl) (pe_call (okLawDraw T) (hr.mono (by decide)) (by rfl) T.gLawDraw T.FLawDraw.kp T.bLawDraw .nil pass0 (pa_cons (pv 0) (pa_cons pe_int pa_nil))))
        (pss_cons (ps_if (pt_cmpR op_eq (pv 1) pe_int (nomark _))
          (pss_one (ps_ret (pe_tup (pa_cons pe_str (pa_cons (pe_op op_add_str (pe_ix ix_list (pe_lst (pa_cons pe_str (pa_cons pe_str (pa_cons pe_str (pa_cons pe_str pa_nil))))) (pe_call (okLawDraw T) (hr.mono (by decide)) (by rfl) T.gLawDraw T.FLawDraw.kp T.bLawDraw .nil pass0 (pa_cons (pv 0) (pa_cons pe_int pa_nil))) (fun _ _ => rfl)) (pe_op op_mul_str pe_str (pe_call (okLawDraw T) (hr.mono (by decide)) (by rfl) T.gLawDraw T.FLawDraw.kp T.bLawDraw .nil pass0 (pa_cons (pv 0) (pa_cons pe_int pa_nil))))) pa_nil)))))
          pss_nil)
        (pss_cons (ps_if (pt_cmpR op_eq (pv 1) pe_int (nomark _))
          (pss_one (ps_ret (pe_tup (pa_cons pe_str (pa_cons (pe_ix ix_list (pe_lst (pa_cons pe_str (pa_cons pe_str (pa_cons pe_str (pa_cons pe_str (pa_cons pe_str (pa_cons pe_str (pa_cons pe_str (pa_cons pe_str pa_nil))))))))) (pe_call (okLawDraw T) (hr.mono (by decide)) (by rfl) T.gLawDraw T.FLawDraw.kp T.bLawDraw .nil pass0 (pa_cons (pv 0) (pa_cons pe_int pa_nil))) (fun _ _ => rfl)) pa_nil)))))
          pss_nil)
        (pss_cons (ps_if (pt_cmpR op_eq (pv 1) pe_int (nomark _))
          (pss_one (ps_ret (pe_tup (pa_cons pe_str pa_nil))))
          pss_nil)
        (pss_cons (ps_set (i := 2) scLawValue.nd rfl (Or.inl rfl) (pe_call (okLawFraction T) (hr.mono (by decide)) (by rfl) T.gLawFraction T.FLawFraction.kp T.bLawFraction .nil pass0 (pa_cons (pv 0) pa_nil)))
        (C8.pss_cut (ps_if (PW.pt (pw_or (pt_cmpR op_eq (pe_call (okLawDraw T) (hr.mono (by decide)) (by rfl) T.gLawDraw T.FLawDraw.kp T.bLawDraw .nil pass0 (pa_cons (pv 0) (pa_cons pe_int pa_nil))) pe_int (nomark _)) (pw_or1 (pt_not (pt_val (pe_call (okLawInRange T) (hr.mono (by decide)) (by rfl) T.gLawInRange T.FLawInRange.kp T.bLawInRange .nil pass0 (pa_cons (pv 2) pa_nil)))))))
          (pss_one (ps_set (i := 2) scLawValue.nd rfl (Or.inl rfl) (pe_call (okLawLowest T) (hr.mono (by decide)) (by rfl) T.gLawLowest T.FLawLowest.kp T.bLawLowest .nil pass0 (pa_cons (pe_op op_sub (pe_call (okLawDraw T) (hr.mono (by decide)) (by rfl) T.gLawDraw T.FLawDraw.kp T.bLawDraw .nil pass0 (pa_cons (pv 0) (pa_cons pe_int pa_nil))) pe_int) (pa_cons (pe_op op_add pe_int (pe_call (okLawDraw T) (hr.mono (by decide)) (by rfl) T.gLawDraw T.FLawDraw.kp T.bLawDraw .nil pass0 (pa_cons (pv 0) (pa_cons pe_int pa_nil)))) pa_nil)))))
          pss_nil)
        (pss_one (ps_ret (pe_tup (pa_cons pe_str (pa_cons (pv 2) pa_nil))))))))))), ?_⟩
    refine ⟨_, rfl, b, 6, rfl, by decide, B, fun kd H1 _ _ B1 k1 => ⟨_, rfl, rfl, _, rfl, ite2 (fun _ => ?_) (fun _ => ⟨_, rfl, rfl, _, rfl, ite2 (fun _ => ?_) (fun _ => ⟨_, rfl, rfl, _, rfl, ite2 (fun _ => ?_) (fun _ => ?_)⟩)⟩)⟩⟩
    · refine ⟨(by show 4 ≤ sizeLine; decide), fun z hz => ⟨_, rfl, b, 4, rfl, by decide, B1.same (same_new hz), fun k H2 k0 k4 B2 k2 => ?_⟩⟩
      obtain ⟨kn, rfl⟩ := Int.eq_ofNat_of_zero_le k0
      have hz2 := k2 _ _ (box_ne B1 hz) (show (upd H1 z (.lst [.str "", .str "x", .str "12", .str "gone"])) z = some (.lst [.str "", .str "x", .str "12", .str "gone"]) from upd_same)
      obtain ⟨s0, hs0, _⟩ := vtexts kn 0 (by omega) (by decide)
      refine ⟨z, _, _, _, rfl, rfl, SqL.of hz2, atI_nat hs0, _, rfl, b, 2, rfl, by decide, B2, fun m H3 m0 m2 B3 k3 => ?_⟩
      obtain ⟨mn, rfl⟩ := Int.eq_ofNat_of_zero_le m0
      obtain ⟨s, hs, l1, mo, l2, ok⟩ := vtexts kn mn (by omega) (by omega)
      rw [hs0] at hs
      obtain rfl : s0 = s := V.str.inj (Option.some.inj hs)
      refine ⟨_, _, rfl, rfl, mo, _, _, rfl, rfl, sz100 (by omega), (by show 2 ≤ sizeLine; decide), fun u hu => ?_⟩
      exact q _ (.text ⟨_, ok⟩) _ (B3.same (same_new hu)) ((((k1.trans (Kp.of (same_new hz))).trans k2).trans k3).trans (Kp.of (same_new hu))) (.tup upd_same (.cons (.str _) (.cons (.str _) .nil))) trivial
    · refine ⟨(by show 8 ≤ sizeLine; decide), fun z hz => ⟨_, rfl, b, 8, rfl, by decide, B1.same (same_new hz), fun k H2 k0 k4 B2 k2 => ?_⟩⟩
      obtain ⟨kn, rfl⟩ := Int.eq_ofNat_of_zero_le k0
      obtain ⟨w, hw⟩ := vfaults kn (by omega)
      refine ⟨z, _, _, _, rfl, rfl, SqL.of (k2 _ _ (box_ne B1 hz) upd_same), atI_nat hw, (by show 2 ≤ sizeLine; decide), fun u hu => ?_⟩
      exact q _ (.fault w) _ (B2.same (same_new hu)) (((k1.trans (Kp.of (same_new hz))).trans k2).trans (Kp.of (same_new hu))) (.tup upd_same (.cons (.str _) (.cons (.str _) .nil))) trivial
    · refine ⟨(by show 1 ≤ sizeLine; decide), fun u hu => ?_⟩
      exact q _ .blank _ (B1.same (same_new hu)) (k1.trans (Kp.of (same_new hu))) (.tup upd_same (.cons (.str _) .nil)) trivial
    · refine ⟨_, rfl, b, rfl, B1, fun p x y H2 B2 k2 hp fr g1 npb => ?_⟩
      refine ⟨fun σ H' => ∃ (p : Addr) (x y : Int), σ = [some (.ref b), some (.int kd), some (.ref p)] ∧ Box H' b ∧ Kp b H H' ∧ H' p = some (.tup [.int x, .int y]) ∧ Fl x y, ?_, ?_⟩
      · have draw : ∀ (H3 : Hp), Box H3 b → Kp b H H3 → spDraw K [.ref b, .int 13] H3 (fun v H4 => ∃ a, v = .int a ∧ 0 ≤ a ∧ a < 13 ∧ Box H4 b ∧ Kp b H H4) (fun _ _ _ => False) := fun H3 B3 k3 => ⟨b, 13, rfl, by decide, B3, fun a H4 a0 a1 B4 k4 => ⟨a, rfl, a0, a1, B4, k3.trans k4⟩⟩
        have low : ∀ (H3 : Hp) (a d : Int), 0 ≤ a → a < 13 → 0 ≤ d → d < 4 → Box H3 b → Kp b H H3 → ∀ p x y, H3 p = none → Low (a - 6) (1 + d) x y → ∃ (p' : Addr) (x' y' : Int), [some (V.ref b), some (.int kd), some (.ref p)] = [some (.ref b), some (.int kd), some (.ref p')] ∧ Box (upd H3 p (.tup [.int x, .int y])) b ∧ Kp b H (upd H3 p (.tup [.int x, .int y])) ∧ (upd H3 p (.tup [.int x, .int y])) p' = some (.tup [.int x', .int y']) ∧ Fl x' y' := fun H3 a d a0 a1 d0 d1 B3 k3 p x y hp L => ⟨p, x, y, rfl, B3.same (same_new hp), k3.trans (Kp.of (same_new hp)), upd_same, by
          have h1 := L.lx
          have h2 := L.ly
          exact ⟨⟨by omega, by omega, L.pos, by omega⟩, L.cop⟩⟩
        have small : ∀ a : Int, -10 ≤ a → a ≤ 10 → a.natAbs < 2 ^ 400 := fun a h1 h2 => Nat.lt_of_lt_of_le (show a.natAbs < 100 by omega) (by decide)
        refine ⟨_, rfl, b, 2, rfl, by decide, B2, fun m H3 _ _ B3 k3 => ⟨rfl, _, rfl, ite2 (fun _ => ?_) (fun _ => ?_)⟩⟩
        · refine ⟨_, rfl, b, 13, rfl, by decide, B3, fun a H4 a0 a1 B4 k4 => ⟨_, _, rfl, rfl, _, rfl, b, 4, rfl, by decide, B4, fun d H5 d0 d1 B5 k5 => ⟨_, _, rfl, rfl, a - 6, 1 + d, rfl, by omega, small _ (by omega) (by omega), small _ (by omega) (by omega), ?_⟩⟩⟩
          exact low H5 a d a0 a1 d0 d1 B5 ((((k1.trans k2).trans k3).trans k4).trans k5)
        · refine ⟨_, rfl, p, x, y, rfl, SqT.of (k3 _ _ npb hp), _, rfl, ?_⟩
          cases e : inR x y with
          | true => exact iteF ⟨p, x, y, rfl, B3, (k1.trans k2).trans k3, k3 _ _ npb hp, fr, g1⟩
          | false =>
            refine iteT ⟨_, rfl, b, 13, rfl, by decide, B3, fun a H4 a0 a1 B4 k4 => ⟨_, _, rfl, rfl, _, rfl, b, 4, rfl, by decide, B4, fun d H5 d0 d1 B5 k5 => ⟨_, _, rfl, rfl, a - 6, 1 + d, rfl, by omega, small _ (by omega) (by omega), small _ (by omega) (by omega), ?_⟩⟩⟩
            exact low H5 a d a0 a1 d0 d1 B5 ((((k1.trans k2).trans k3).trans k4).trans k5)
      · rintro σ H3 ⟨p, x, y, rfl, B3, k3, hp3, f3⟩
        refine ⟨_, rfl, (by show 2 ≤ sizeLine; decide), fun u hu => ?_⟩
        exact q _ (.num x y) _ (B3.same (same_new hu)) (k3.trans (Kp.of (same_new hu))) (.tup upd_same (.cons (.str _) (.cons (.tup ((same_new hu) _ _ hp3) (.cons (.int _) (.cons (.int _) .nil))) .nil))) f3
/-! ### the known values -/
structure DOk (R C : Int) (D : KD2) : Prop where
  nd : (D.map Prod.fst).Nodup
  v : isVD D
theorem DOk.snoc {R C : Int} {D : KD2} {z : Int × Int} {x : Val} (h : DOk R C D) (n : ∀ e ∈ D, e.1 ≠ z) (hx : isV x) : DOk R C (D ++ [(z, x)]) := by
  refine ⟨?_, fun e he => ?_⟩
  · rw [List.map_append, List.nodup_append]
    refine ⟨h.nd, by simp, fun a ha b hb y => ?_⟩
    have hb : b = z := by simpa using hb
    obtain ⟨e, he, e1⟩ := List.mem_map.mp ha
    exact n e he (by rw [e1, y, hb])
  · rcases List.mem_append.mp he with he | he
    · exact h.v e he
    · rw [List.mem_singleton.mp he]
      exact hx
def KInv (K : PySem.W.Frag) (b : Addr) (R C : Int) (kd : Addr) (H0 : Hp) (n : Nat) (z : Int × Int) (H : Hp) : Prop := ∃ D : KD2, Box H b ∧ Kp b H0 H ∧ KnA K H kd D ∧ DOk R C D ∧ D.length ≤ n ∧ ∀ e ∈ D, ltK e.1 z
theorem KnA.kp {K : PySem.W.Frag} {H H' : Hp} {b kd : Addr} {D : KD2} (h : KnA K H kd D) (k : Kp b H H') (B : Box H b) (n : kd ≠ b) : KnA K H' kd D := by
  obtain ⟨kvs, h1, e1⟩ := h
  exact ⟨kvs, k _ _ n h1, e1.imp fun kv e hh => ⟨hh.1, hh.2.tt (TK.kp k B)⟩⟩
theorem KInv.up {K : PySem.W.Frag} {b : Addr} {R C : Int} {kd : Addr} {H0 H H' : Hp} {n m : Nat} {z y : Int × Int} (h : KInv K b R C kd H0 n z H) (k : Kp b H H') (B : Box H' b) (ne : kd ≠ b) (nm : n ≤ m) (zy : ∀ x, ltK x z → ltK x y) : KInv K b R C kd H0 m y H' := by
  obtain ⟨D, B0, k0, ka, ok, l, lt⟩ := h
  exact ⟨D, B, k0.trans k, ka.kp k B0 ne, ok, Nat.le_trans l nm, fun e he => zy _ (lt e he)⟩
theorem KInv.put {K : PySem.W.Frag} {b : Addr} {R C : Int} {kd : Addr} {H0 H J : Hp} {n : Nat} {z y : Int × Int} {v : V} {x : Val} (h : KInv K b R C kd H0 n z H) (k : Kp b H J) (B0 : Box H0 b) (B : Box J b) (hkd : H0 kd = none)
    (hv : VA K J v x) (hx : isV x) (zy : ∀ x, ltK x z ∨ x = z → ltK x y) :
    ∃ kvs, J kd = some (.dT kvs) ∧ kvs.length ≤ n ∧ KInv K b R C kd H0 (n + 1) y (upd J kd (.dT (putK kvs (idK z) v))) := by
  have ncb : kd ≠ b := box_ne B0 hkd
  obtain ⟨D, BH, k0, ka, ok, l, lt⟩ := h
  obtain ⟨kvs, h1, e1⟩ := ka.kp k BH ncb
  have new : ∀ e ∈ D, e.1 ≠ z := fun e he => ltK_ne (lt e he)
  have kl := e1.len
  have tt : TT J (upd J kd (.dT (putK kvs (idK z) v))) := TT.kd (KD.put h1 rfl)
  refine ⟨kvs, h1, by omega, D ++ [(z, x)], box_new (k0.trans k) B0 B hkd, kp_mut (k0.trans k) hkd ncb, ⟨_, upd_same, ?_⟩, ok.snoc new hx, by rw [List.length_append]; exact Nat.add_le_add_right l 1, fun e he => ?_⟩
  · rw [← putE_new new]
    exact (ents_put (fun _ _ => idK_inj) e1 hv).imp fun kv e hh => ⟨hh.1, hh.2.tt tt⟩
  · rcases List.mem_append.mp he with he | he
    · exact zy _ (.inl (lt e he))
    · rw [List.mem_singleton.mp he]
      exact zy _ (.inr rfl)
def spKnown (K : PySem.W.Frag) : Sp := fun vs H Q _ => ∃ (b : Addr) (R C : Int), vs = [.ref b, .int R, .int C] ∧ RC R C ∧ Box H b ∧
  ∀ (kd : Addr) (D : KD2) (H' : Hp), Box H' b → Kp b H H' → H kd = none → KnA K H' kd D → DOk R C D → D.length ≤ 2500 → Q (.ref kd) H'
theorem okLawKnown (T : Txt K mg) : FnOk P w K mg base CX0 5 T.fLawKnown T.fdLawKnown ["box", "rows", "columns"] (spKnown K) := by
  refine T.FLawKnown.ok scLawKnown (fun vs H Q E h => ?_) (fun cdv A outer s H vs Q E hr h => ?_)
  · obtain ⟨b, R, C, rfl, _⟩ := h
    rfl
  · obtain ⟨b, R, C, rfl, rc, B, q⟩ := h
    -- slots box=0 rows=1 columns=2 known=3 row=4 column=5 value=6
    refine ⟨_, (pss_cons (ps_set (i := 3) scLawKnown.nd rfl (Or.inl rfl) pe_dnewT)
        (pss_cons (ps_for PassesOwn.never rfl (pi_range1 rfl T.z_range (pa_cons (pv 1) pa_nil)) (pg_name (i := 4) scLawKnown.nd rfl (Or.inl rfl))
          (pss_one (ps_for PassesOwn.never rfl (pi_range1 rfl T.z_range (pa_cons (pv 2) pa_nil)) (pg_name (i := 5) scLawKnown.nd rfl (Or.inl rfl))
            (pss_one (ps_if (pt_cmpR op_gt (pe_call (okLawDraw T) (hr.mono (by decide)) (by rfl) T.gLawDraw T.FLawDraw.kp T.bLawDraw .nil pass0 (pa_cons (pv 0) (pa_cons pe_int pa_nil))) pe_int (nomark _))
              (pss_cons (ps_set (i := 6) scLawKnown.nd rfl (Or.inl rfl) (pe_call (okLawValue T) (hr.mono (by decide)) (by rfl) T.gLawValue T.FLawValue.kp T.bLawValue .nil pass0 (pa_cons (pv 0) pa_nil)))
              (C8.pss_cut (ps_if (pt_cmpR op_gt (pe_call (okLawDraw T) (hr.mono (by decide)) (by rfl) T.gLawDraw T.FLawDraw.kp T.bLawDraw .nil pass0 (pa_cons (pv 0) (pa_cons pe_int pa_nil))) pe_int (nomark _))
                (pss_one (ps_set (i := 6) scLawKnown.nd rfl (Or.inl rfl) (pe_tup (pa_cons pe_str (pa_cons (pe_tup (pa_cons (pe_op op_sub (pe_call (okLawDraw T) (hr.mono (by decide)) (by rfl) T.gLawDraw T.FLawDraw.kp T.bLawDraw .nil pass0 (pa_cons (pv 0) (pa_cons pe_int pa_nil))) pe_int) (pa_cons pe_int pa_nil))) pa_nil)))))
                pss_nil)
              (pss_one (ps_dput (units2 hr) (pv 3) (pe_tup (pa_cons (pv 4) (pa_cons (pv 5) pa_nil))) (pv 6) rfl))))
              pss_nil)))))
        (pss_one (ps_ret (pv 3))))), ?_⟩
    have r0 := rc.r0
    have r1 := rc.r1
    have c0 := rc.c0
    have c1 := rc.c1
    refine fun kd hkd => ?_
    have ncb : kd ≠ b := box_ne B hkd
    have s1 := same_new (o := .dT []) hkd
    have I1 : KInv K b R C kd H 0 (0, 0) (upd H kd (.dT [])) := ⟨[], B.same s1, Kp.of s1, ⟨[], upd_same, RepP.nil⟩, ⟨List.nodup_nil, fun _ h => nomatch h⟩, Nat.le_refl _, fun _ h => nomatch h⟩
    generalize upd H kd (.dT []) = H1 at I1
    refine ⟨_, rfl, _, rfl, by omega, by omega, for_range (lo := 0) (n := R.toNat) (fun i σ H' => ∃ (k4 k5 k6 : Option V), σ = [some (.ref b), some (.int R), some (.int C), some (.ref kd), k4, k5, k6] ∧ KInv K b R C kd H (50 * i) ((i : Int), 0) H') ⟨_, _, _, rfl, I1⟩ ?_ ?_⟩
    · rintro i σ H2 hi ⟨k4, k5, k6, rfl, I2⟩
      rw [show (0 : Int) + (i : Int) = (i : Int) from Int.zero_add _]
      refine ⟨_, rfl, _, rfl, by omega, by omega, for_range (lo := 0) (n := C.toNat) (fun j σ H' => ∃ (k5 k6 : Option V), σ = [some (.ref b), some (.int R), some (.int C), some (.ref kd), some (.int (i : Int)), k5, k6] ∧ KInv K b R C kd H (50 * i + j) ((i : Int), (j : Int)) H') ⟨_, _, rfl, I2⟩ ?_ ?_⟩
      · rintro j σ H3 hj ⟨k5, k6, rfl, I3⟩
        rw [show (0 : Int) + (j : Int) = (j : Int) from Int.zero_add _]
        have nxt : ∀ x : Int × Int, ltK x ((i : Int), (j : Int)) ∨ x = ((i : Int), (j : Int)) → ltK x ((i : Int), ((j + 1 : Nat) : Int)) := fun x h => by
          rcases h with h | rfl
          · rcases h with h | ⟨h, h2⟩
            · exact .inl h
            · exact .inr ⟨h, by show x.2 < ((j + 1 : Nat) : Int); have : x.2 < (j : Int) := h2; omega⟩
          · exact .inr ⟨rfl, by show (j : Int) < ((j + 1 : Nat) : Int); omega⟩
        obtain ⟨D3, B3, _⟩ := id I3
        refine ⟨_, rfl, b, 4, rfl, by decide, B3, fun u H4 _ _ B4 k4 => ⟨_, _, rfl, rfl, _, rfl, ite2 (fun _ => ?_) (fun _ => ⟨_, _, rfl, I3.up k4 B4 ncb (Nat.le_succ _) fun x h => nxt x (.inl h)⟩)⟩⟩
        refine ⟨_, rfl, b, rfl, B4, fun v x H5 B5 k5 dv iv => ?_⟩
        have k35 := k4.trans k5
        refine ⟨fun σ H' => ∃ (v : V) (x : Val), σ = [some (.ref b), some (.int R), some (.int C), some (.ref kd), some (.int (i : Int)), some (.int (j : Int)), some v] ∧ Box H' b ∧ Kp b H3 H' ∧ VA K H' v x ∧ isV x, ?_, ?_⟩
        · refine ⟨_, rfl, b, 3, rfl, by decide, B5, fun m H6 _ _ B6 k6 => ⟨_, _, rfl, rfl, _, rfl, ite2 (fun _ => ?_) (fun _ => ⟨v, x, rfl, B6, k35.trans k6, (dv.tt (TK.kp k6 B5)).dk, iv⟩)⟩⟩
          refine ⟨_, rfl, b, 9, rfl, by decide, B6, fun a H7 a0 a1 B7 k7 => ⟨_, _, rfl, rfl, (by show 2 ≤ sizeLine; decide), fun t ht => ⟨(by show 2 ≤ sizeLine; decide), fun u hu => ?_⟩⟩⟩
          have s8 := (same_new (o := .tup [.int (a - 3), .int 1]) ht).trans (same_new (o := .tup [.str "number", .ref t]) hu)
          exact ⟨_, .num (a - 3) 1, rfl, B7.same s8, ((k35.trans k6).trans k7).trans (Kp.of s8), VA.mkNum (.inl upd_same) (.inl ((same_new hu) _ _ upd_same)), ⟨by omega, by omega, by decide, by decide⟩, Nat.gcd_one_right _⟩
        · rintro σ H6 ⟨v, x, rfl, B6, k36, hv, iv⟩
          refine ⟨_, rfl, _, rfl, _, rfl, _, rfl, (by show 2 ≤ sizeLine; decide), fun t ht => ?_⟩
          have st := same_new (o := .tup [.int (i : Int), .int (j : Int)]) ht
          obtain ⟨kvs, hk, lk, I'⟩ := I3.put (v := v) (x := x) (y := ((i : Int), ((j + 1 : Nat) : Int))) (k36.trans (Kp.of st)) B (B6.same st) hkd (hv.same st) iv nxt
          exact ⟨kd, _, rfl, DPut.t (k := idK ((i : Int), (j : Int))) hk upd_same (sz100 (by omega)), _, _, rfl, I'⟩
      · rintro σ H3 ⟨k5, k6, rfl, I3⟩
        obtain ⟨_, B3, _⟩ := id I3
        refine ⟨_, _, _, rfl, I3.up Kp.refl B3 ncb (by omega) fun x h => ?_⟩
        rcases h with h | ⟨h, h2⟩
        · exact .inl (by show x.1 < ((i + 1 : Nat) : Int); have : x.1 < (i : Int) := h; omega)
        · exact .inl (by show x.1 < ((i + 1 : Nat) : Int); have : x.1 = (i : Int) := h; omega)
    · rintro σ H2 ⟨k4, k5, k6, rfl, I2⟩
      obtain ⟨D, B2, k2, ka, ok, l, _⟩ := I2
      exact ⟨_, rfl, q kd D H2 B2 k2 hkd ka ok (by omega)⟩
/-! ### the law -/
section
variable {κ : Type} [DecidableEq κ]
theorem valV_mem : ∀ {kvs : List (κ × V)}, (kvs.map Prod.fst).Nodup → ∀ e ∈ kvs, valV kvs e.1 = some e.2
  | [], _, e, h => nomatch h
  | d :: D, nd, e, h => by
    obtain ⟨n1, n2⟩ := List.nodup_cons.mp nd
    rcases List.mem_cons.mp h with z | z
    · rw [z]
      simp [valV]
    · have ne : d.1 ≠ e.1 := fun y => n1 (by rw [y]; exact List.mem_map.mpr ⟨e, z, rfl⟩)
      have ih := valV_mem n2 e z
      simp [valV, ne] at ih ⊢
      exact ih
theorem putK_new {kvs : List (κ × V)} {k : κ} {v : V} (h : ∀ e ∈ kvs, e.1 ≠ k) : putK kvs k v = kvs ++ [(k, v)] := by
  unfold putK
  rw [if_neg]
  rw [List.any_eq_true]
  rintro ⟨e, he, z⟩
  exact h e he (of_decide_eq_true z)
end
theorem nodup_map {α β : Type} {f : α → β} (hf : ∀ a b, f a = f b → a = b) : ∀ {l : List α}, l.Nodup → (l.map f).Nodup
  | [], _ => List.nodup_nil
  | a :: l, h => by
    obtain ⟨h1, h2⟩ := List.nodup_cons.mp h
    rw [List.map_cons]
    refine List.nodup_cons.mpr ⟨fun z => ?_, nodup_map hf h2⟩
    obtain ⟨b, hb, e⟩ := List.mem_map.mp z
    exact h1 (hf _ _ e ▸ hb)
theorem eqE_refl {D : KD2} (nd : (D.map Prod.fst).Nodup) : eqE valD D D = true := by
  unfold eqE
  rw [beq_self_eq_true, Bool.true_and]
  refine List.all_eq_true.mpr fun e he => ?_
  rw [getE_mem nd e he]
  exact eqv_same (valD_shaped e.2)
theorem parts_same {N N' : NA} (h : ∀ w, getE N' w = getE N w) (a : Ar) : partsOf N' a = partsOf N a := by
  cases a with
  | gone => rfl
  | block t l b r => rfl
  | name w => rw [parts_name, parts_name, h]
theorem evN_same {N N' : NA} (h : ∀ w, getE N' w = getE N w) (D : KD2) : ∀ t : Tr, evN N' D t = evN N D t
  | .gone => rfl
  | .num _ _ => rfl
  | .cell _ _ => rfl
  | .neg t => by
    show negV (evN N' D t) = negV (evN N D t)
    rw [evN_same h D t]
  | .op s l r => by
    show calcV s (evN N' D l) (evN N' D r) = calcV s (evN N D l) (evN N D r)
    rw [evN_same h D l, evN_same h D r]
  | .call n as => by
    have e : partsOf N' = partsOf N := funext (parts_same h)
    show callV n (visV N' D as) = callV n (visV N D as)
    unfold visV
    rw [e]
theorem evW_same {N N' : NA} (h : ∀ w, getE N' w = getE N w) (D : KD2) (t : Tr) : evW N' D t = evW N D t := by
  cases t with
  | cell r c =>
    show (match kn D (r, c) with
      | .text s => Val.text s
      | _ => evN N' D (.cell r c)) = (match kn D (r, c) with
      | .text s => Val.text s
      | _ => evN N D (.cell r c))
    rw [evN_same h D]
  | _ => exact evN_same h D _
theorem vfW_same {N N' : NA} (h : ∀ w, getE N' w = getE N w) (W : WC) (D : KD2) (z : Int × Int) : vfW W N' D z = vfW W N D z := by
  unfold vfW
  cases (getE W z).getD [] with
  | nil => rfl
  | cons c r =>
    cases r with
    | nil =>
      cases c with
      | form t => exact evW_same h D t
      | _ => rfl
    | cons c2 r => cases c <;> rfl
theorem vfW_bl (W : WC) (N : NA) (D : KD2) (z : Int × Int) : vfW W N D z = vfC N D ((getE W z).getD [.blank]) := by
  unfold vfW
  cases getE W z with
  | none => rfl
  | some cs => rfl
theorem TD.got2 {K : PySem.W.Frag} {H : Hp} {cd nd : Addr} {W : WC} {names : Names} {tb l0 : Addr} {z : Int × Int} {cs0 : List Ct} {us0 : List V} (D : TD K H cd nd (cdW W) names) (ht : H tb = some (.tup [.int z.1, .int z.2])) (hl : H l0 = some (.lst us0)) (d0 : DtAll H us0 (cs0.map ctD)) :
    ∃ r, DGet H cd (.ref tb) r ∧ ∃ l ws, r.getD (.ref l0) = .ref l ∧ H l = some (.lst ws) ∧ DtAll H ws (((getE W z).getD cs0).map ctD) := by
  obtain ⟨⟨kvs, hC, eC, _⟩, _⟩ := D
  obtain ⟨e1, e2⟩ := ents_get (fun _ _ => idK_inj) eC z
  have dg := DGet.t (k := idK z) hC ht
  rw [getE_cdW] at e1 e2
  cases hg : getE W z with
  | none =>
    rw [e1 (by rw [hg]; rfl)] at dg
    exact ⟨none, dg, l0, us0, rfl, hl, d0⟩
  | some cs =>
    obtain ⟨v, ev, l, us, rfl, hl2, dp⟩ := e2 (cs.map ctD) (by rw [hg]; rfl)
    rw [ev] at dg
    exact ⟨_, dg, l, us, rfl, hl2, dp⟩
theorem wld_of {R C : Int} {W : WC} {N : NA} (rc : RC R C) (few : R * C ≤ 60) (wok : WOk R C W) (nm : NmOk R C wordsN N) : Wld R C W N := by
  refine ⟨rc, few, fun z t h => ?_, fun e he as ea => ?_⟩
  · unfold formulaAt at h
    cases e : getE W z with
    | none =>
      rw [e] at h
      cases h
    | some cs =>
      rw [e] at h
      have sh := (wok.sh _ (getE_key e)).all
      have h : formOf cs = some t := h
      match cs, h, sh with
      | [.form t], rfl, sh => exact sh _ List.mem_cons_self
  · obtain ⟨h1, h2⟩ := nm.ar e he as ea
    exact ⟨by omega, fun a ha => (h2 a ha).1⟩
def spLaw (K : PySem.W.Frag) : Sp := fun vs H Q _ => ∃ (a : Addr) (ns : List Int), vs = [.ref a] ∧ SqL K H a (ns.map V.int) ∧ ns.length ≤ 63 ∧ ∀ H', Q (.bl true) H'
theorem okLaw (T : Txt K mg) : FnOk P w K mg base CX0 18 T.fLaw T.fdLaw ["script"] (spLaw K) := by
  refine T.FLaw.ok scLaw (fun vs H Q E h => ?_) (fun cdv A outer s H vs Q E hr h => ?_)
  · obtain ⟨a, ns, rfl, _⟩ := h
    rfl
  · obtain ⟨a, ns, rfl, hS, hlen, q⟩ := h
    -- slots script=0 box=1 world=2 grid=3 known=4 row=5 column=6 shown=7 due=8 copy=9 cell=10
    refine ⟨_, (pss_cons (ps_set (i := 1) scLaw.nd rfl (Or.inl rfl) (pe_lst (pa_cons (pe_call (okLawDigits T) (hr.mono (by decide)) (by rfl) T.gLawDigits T.FLawDigits.kp T.bLawDigits .nil pass0 (pa_cons (pv 0) (pa_cons pe_int (pa_cons pe_int pa_nil)))) (pa_cons pe_int pa_nil))))
        (pss_cons (ps_set (i := 2) scLaw.nd rfl (Or.inl rfl) (pe_call (okLawWorld T) (hr.mono (by decide)) (by rfl) T.gLawWorld T.FLawWorld.kp T.bLawWorld .nil pass0 (pa_cons (pv 1) pa_nil)))
        (pss_cons (ps_set (i := 3) scLaw.nd rfl (Or.inl rfl) (pe_call (okLawGrid T) (hr.mono (by decide)) (by rfl) T.gLawGrid T.FLawGrid.kp T.bLawGrid .nil pass0 (pa_cons (pv 2) pa_nil)))
        (pss_cons (ps_set (i := 4) scLaw.nd rfl (Or.inl rfl) (pe_call (okLawKnown T) (hr.mono (by decide)) (by rfl) T.gLawKnown T.FLawKnown.kp T.bLawKnown .nil pass0 (pa_cons (pv 1) (pa_cons (pe_callB (call_min2 rfl) (by rfl) T.z_min (by decide +kernel) (pa_cons (pe_ix ix_list (pv 2) pe_int (fun _ _ => rfl)) (pa_cons pe_int pa_nil))) (pa_cons (pe_ix ix_list (pv 2) pe_int (fun _ _ => rfl)) pa_nil)))))
        (pss_cons (ps_for PassesOwn.never rfl (pi_range1 rfl T.z_range (pa_cons (pe_ix ix_list (pv 2) pe_int (fun _ _ => rfl)) pa_nil)) (pg_name (i := 5) scLaw.nd rfl (Or.inl rfl))
          (pss_one (ps_for PassesOwn.never rfl (pi_range1 rfl T.z_range (pa_cons (pe_ix ix_list (pv 2) pe_int (fun _ _ => rfl)) pa_nil)) (pg_name (i := 6) scLaw.nd rfl (Or.inl rfl))
            (pss_cons (ps_set (i := 7) scLaw.nd rfl (Or.inl rfl) (pe_dget2 (units2 hr) (pe_ix ix_list (pv 2) pe_int (fun _ _ => rfl)) (pe_tup (pa_cons (pv 5) (pa_cons (pv 6) pa_nil))) (pe_lst (pa_cons (pe_tup (pa_cons pe_str pa_nil)) pa_nil)) ⟨rfl, rfl, rfl, rfl⟩))
            (pss_cons (ps_set (i := 8) scLaw.nd rfl (Or.inl rfl) (pe_ix ix_list (pv 7) pe_int (fun _ _ => rfl)))
            (C8.pss_cut (ps_if (pt_cmpR op_gt (pe_callB call_len_seq (by rfl) T.z_len PySem.boot_len (pa_cons (pv 7) pa_nil)) pe_int (nomark _))
              (pss_one (ps_set (i := 8) scLaw.nd rfl (Or.inl rfl) (pe_tup (pa_cons pe_str (pa_cons pe_str pa_nil)))))
              pss_nil)
            (C8.pss_cut (ps_if (PW.pt (pw_and (pt_cmpR op_eq (pe_callB call_len_seq (by rfl) T.z_len PySem.boot_len (pa_cons (pv 7) pa_nil)) pe_int (nomark _)) (pw_and1 (pt_cmpR op_eq (pe_ix ix_tup (pe_ix ix_list (pv 7) pe_int (fun _ _ => rfl)) pe_int (fun _ _ => rfl)) pe_str (nomark _)))))
              (pss_one (ps_set (i := 8) scLaw.nd rfl (Or.inl rfl) (pe_call (okLawOwnValue T) (hr.mono (by decide)) (by rfl) T.gLawOwnValue T.FLawOwnValue.kp T.bLawOwnValue .nil pass0 (pa_cons (pe_ix ix_list (pv 2) pe_int (fun _ _ => rfl)) (pa_cons (pe_ix ix_tup (pe_ix ix_list (pv 7) pe_int (fun _ _ => rfl)) pe_int (fun _ _ => rfl)) (pa_cons (pv 4) pa_nil))))))
              pss_nil)
            (pss_cons (ps_set (i := 9) scLaw.nd rfl (Or.inl rfl) pe_dnewT)
            (pss_cons (ps_lock (ps_for PassesOwn.never rfl (pi_keys (pv 4)) (pg_name (i := 10) scLaw.nd rfl (Or.inl rfl))
              (pss_one (ps_dput (units2 hr) (pv 9) (pv 10) (pe_dget (units2 hr) (pv 4) (pv 10) (fun _ _ => rfl)) rfl))))
            (pss_one (ps_if (PW.pt (pw_or (pt_not (pt_val (pe_call (okLawSame T 2) (hr.mono (by decide)) (by rfl) T.gLawSame T.FLawSame.kp T.bLawSame .nil pass0 (pa_cons (pe_call (okValueFrom T) (hr.mono (by decide)) (by rfl) T.gValueFrom T.FValueFrom.kp T.bValueFrom .nil pass0 (pa_cons (pv 3) (pa_cons (pe_tup (pa_cons (pv 5) (pa_cons (pv 6) pa_nil))) (pa_cons (pv 9) pa_nil)))) (pa_cons (pv 8) pa_nil))))) (pw_or1 (pt_cmpR (op_neT (vd := valD) (fun _ _ => idK_inj) (units65 hr)) (pv 9) (pv 4) (nomark _)))))
              (pss_one (ps_ret pe_bl))
              pss_nil)))))))))))
        (pss_one (ps_ret pe_bl))))))), ?_⟩
    refine ⟨_, rfl, a, ns, 0, 63, rfl, by decide, by decide, hS, fun H1 d0 ds s1 hdn hd0 _ => ⟨by show 2 ≤ sizeLine; decide, fun b hb => ?_⟩⟩
    have hb2 : b ≠ d0 := fun z => by
      rw [z, hd0] at hb
      cases hb
    have B0 : Box (upd H1 b (.lst [.ref d0, .int 0])) b := ⟨d0, ds, 0, upd_same, by rw [upd_ne hb2.symm]; exact hd0, hb2⟩
    generalize upd H1 b (.lst [.ref d0, .int 0]) = H2 at B0
    clear s1 hdn hd0 hb hb2 hS
    refine ⟨_, rfl, b, rfl, B0, fun w0 nd cd R C W N H3 B3 k3 hw0n nwb hw rc few td wl wok nmok => ?_⟩
    have wld := wld_of rc few wok nmok
    have nok : NOk N := fun e he as ea => (wld.nm e he as ea).1
    have non : NoN N := fun e he as ea => ⟨(nmok.ar e he as ea).1, fun a ha => ((nmok.ar e he as ea).2 a ha).2⟩
    refine ⟨_, rfl, [b], w0, nd, cd, R, C, W, N, rfl, B3.ls, hw, td, wok, wl, nmok.kw, nok, fun g N' H5 s5 _ _ _ er ec G5 sn => ?_⟩
    have wldN : Wld R C [] N := ⟨wld.rc, wld.few, (fun _ _ h => nomatch h), wld.nm⟩
    have wldN' : Wld R C [] N' := ⟨wld.rc, wld.few, (fun _ _ h => nomatch h), fun e he as ea => wld.nm e (sn.sub e he) as ea⟩
    have B5 := B3.same s5
    have hw5 := s5 _ _ hw
    have td5 := td.same (rmS_same s5)
    have r0 := rc.r0
    have r1 := rc.r1
    have c0 := rc.c0
    have c1 := rc.c1
    refine ⟨_, rfl, _, rfl, w0, _, _, _, rfl, rfl, SqL.of hw5, atI_nat (j := 0) rfl, _, _, rfl, _, rfl, w0, _, _, _, rfl, rfl, SqL.of hw5, atI_nat (j := 1) rfl, b, _, C, rfl, ⟨by split <;> omega, by split <;> omega, c0, c1⟩, B5, fun kd D H6 B6 k6 hkd kna dok dl => ?_⟩
    have hw6 := k6 _ _ nwb hw5
    have td6 := td5.same (kp_rm k6)
    have G6 := G5.same (kp_rm k6)
    clear td td5 G5 hw hw5 k3 k6 s5
    refine ⟨_, rfl, w0, _, _, _, rfl, rfl, SqL.of hw6, atI_nat (j := 0) rfl, _, rfl, by omega, by omega, for_range (lo := 0) (n := R.toNat) (fun i σ H' => ∃ (k5 k6 k7 k8 k9 k10 : Option V), σ = [some (.ref a), some (.ref b), some (.ref w0), some (.ref g.G), some (.ref kd), k5, k6, k7, k8, k9, k10] ∧ Same H6 H') ⟨_, _, _, _, _, _, rfl, Same.refl _⟩ ?_ ?_⟩
    · rintro i σ H7 hi ⟨k5, k6, k7, k8, k9, k10, rfl, s7⟩
      refine ⟨_, rfl, w0, _, _, _, rfl, rfl, SqL.of (s7 _ _ hw6), atI_nat (j := 1) rfl, _, rfl, by omega, by omega, for_range (lo := 0) (n := C.toNat) (fun j σ H' => ∃ (k6 k7 k8 k9 k10 : Option V), σ = [some (.ref a), some (.ref b), some (.ref w0), some (.ref g.G), some (.ref kd), some (.int (0 + (i : Int))), k6, k7, k8, k9, k10] ∧ Same H6 H') ⟨_, _, _, _, _, rfl, s7⟩ ?_ ?_⟩
      · rintro j σ H8 hj ⟨k6, k7, k8, k9, k10, rfl, s8⟩
        have hw8 := s8 _ _ hw6
        have td8 := td6.same (rmS_same s8)
        obtain ⟨⟨kvc, hcr, _⟩, ⟨nvs, hnr, eN, _⟩⟩ := id td8
        have hc8 := (rmS_some hcr).2
        have ns8 : NS K [b] H8 nd N := ⟨nvs, hnr, eN⟩
        generalize hz : (((0 : Int) + (i : Int), (0 : Int) + (j : Int)) : Int × Int) = z
        have hz1 : (0 : Int) + (i : Int) = z.1 := by rw [← hz]
        have hz2 : (0 : Int) + (j : Int) = z.2 := by rw [← hz]
        rw [hz1, hz2]
        refine ⟨_, rfl, w0, _, _, _, rfl, rfl, SqL.of hw8, atI_nat (j := 3) rfl, cd, rfl, .inr ⟨kvc, .inl hc8⟩, _, rfl, _, rfl, (by show 2 ≤ sizeLine; decide), fun tb htb => ⟨(by show 1 ≤ sizeLine; decide), fun t1 h1 => ⟨(by show 1 ≤ sizeLine; decide), fun l1 hl1 => ?_⟩⟩⟩
        have sa := same_new (o := .tup [.int z.1, .int z.2]) htb
        have sb := same_new (o := .tup [.str "blank"]) h1
        have sc := same_new (o := .lst [.ref t1]) hl1
        have s9 := (s8.trans sa).trans (sb.trans sc)
        have s89 := sa.trans (sb.trans sc)
        obtain ⟨r, dg, l, ws, er2, hl, dt⟩ := ((td8.same rmS_le).same s89).got2 (z := z) (cs0 := [.blank]) ((sb.trans sc) _ _ upd_same) upd_same (.cons (.tup (sc _ _ upd_same) (.cons (.str _) .nil)) .nil)
        refine ⟨r, dg, ?_⟩
        rw [er2]
        have ev := vfW_bl W N D z
        have oc : (∀ c ∈ (getE W z).getD [.blank], OkC R C c) ∧ ∃ c r, (getE W z).getD [.blank] = c :: r := by
          cases e : getE W z with
          | none => exact ⟨fun c hc => by rw [List.mem_singleton.mp hc]; trivial, _, _, rfl⟩
          | some cs =>
            have sh := wok.sh _ (getE_key e)
            obtain ⟨c, r, e2, _⟩ := sh.first
            exact ⟨sh.all, c, r, e2⟩
        generalize (getE W z).getD [.blank] = cs at dt ev oc
        obtain ⟨ok, c, rs, rfl⟩ := oc
        have ns9 := ns8.same s89
        have kna9 := kna.same s9
        have hw9 := s9 _ _ hw6
        generalize upd (upd (upd H8 tb (.tup [.int z.1, .int z.2])) t1 (.tup [.str "blank"])) l1 (.lst [.ref t1]) = H9 at s9 hl dt ns9 kna9 hw9
        clear sa sb sc s89 dg er2
        obtain ⟨x, wr, rfl, hx, hr0⟩ := dt.un
        have lr := hr0.length
        rw [List.length_map] at lr
        refine ⟨_, rfl, l, _, _, _, rfl, rfl, SqL.of hl, atI_nat (j := 0) rfl, ?_⟩
        refine ⟨fun σ H' => ∃ (v1 : V), σ = [some (.ref a), some (.ref b), some (.ref w0), some (.ref g.G), some (.ref kd), some (.int z.1), some (.int z.2), some (.ref l), some v1, k9, k10] ∧ Same H9 H' ∧ (rs = [] → v1 = x) ∧ (rs ≠ [] → VA K H' v1 fClash), ?_, ?_⟩
        · refine ⟨_, rfl, l, _, rfl, .inl (SqL.of hl), _, _, rfl, rfl, _, rfl, ite2 (fun y => ?_) (fun y => ?_)⟩
          · have y := of_decide_eq_true y
            rw [List.length_cons] at y
            refine ⟨(by show 2 ≤ sizeLine; decide), fun u hu => ⟨_, rfl, same_new hu, fun e => ?_, fun _ => VA.mkFault (.inl upd_same)⟩⟩
            rw [e] at lr
            rw [lr] at y
            exact absurd y (by decide)
          · refine ⟨x, rfl, Same.refl _, fun _ => rfl, fun e => ?_⟩
            exfalso
            apply y
            apply decide_eq_true
            have : rs.length ≠ 0 := fun z => e (List.eq_nil_of_length_eq_zero z)
            rw [List.length_cons]
            omega
        · rintro σ HA ⟨v1, rfl, sA, hv1, hv2⟩
          have hlA := sA _ _ hl
          refine ⟨fun σ H' => ∃ (v2 : V), σ = [some (.ref a), some (.ref b), some (.ref w0), some (.ref g.G), some (.ref kd), some (.int z.1), some (.int z.2), some (.ref l), some v2, k9, k10] ∧ Same H9 H' ∧ VA K H' v2 (vfW W N D z), ?_, ?_⟩
          · rw [ev]
            refine ⟨_, rfl, l, _, rfl, .inl (SqL.of hlA), rfl, _, rfl, ite2 (fun y => ?_) (fun y => ?_)⟩
            · have y := V.int.inj (of_decide_eq_true y)
              rw [List.length_cons] at y
              obtain rfl : rs = [] := List.eq_nil_of_length_eq_zero (by omega)
              obtain rfl := hr0.end_
              obtain rfl := hv1 rfl
              have hxA : Dt HA v1 (ctD c) := hx.tt (TT.of sA)
              have plain : vfC N D [c] = contV c → ctD c = valD (contV c) → ∃ (v2 : V), [some (.ref a), some (.ref b), some (.ref w0), some (.ref g.G), some (.ref kd), some (.int z.1), some (.int z.2), some (.ref l), some v1, k9, k10] = [some (V.ref a), some (.ref b), some (.ref w0), some (.ref g.G), some (.ref kd), some (.int z.1), some (.int z.2), some (.ref l), some v2, k9, k10] ∧ Same H9 HA ∧ VA K HA v2 (vfC N D [c]) := fun e2 e3 => ⟨v1, rfl, sA, by
                rw [e2]
                unfold VA
                rw [← e3]
                exact hxA.dk⟩
              cases c with
              | text w =>
                obtain ⟨q0, xs, rfl, hq, ra⟩ := id hxA.tup_inv
                obtain ⟨_, _, rfl, g1, rb⟩ := ra.un
                rw [g1.str_inv] at hq
                exact ⟨_, rfl, l, _, _, _, rfl, rfl, SqL.of hlA, atI_nat (j := 0) rfl, q0, _, _, _, rfl, rfl, SqT.of hq, atI_nat (j := 0) rfl, rfl, _, rfl, ifN okw.1 (plain rfl rfl)⟩
              | num x y =>
                obtain ⟨q0, xs, rfl, hq, ra⟩ := id hxA.tup_inv
                obtain ⟨_, _, rfl, g1, rb⟩ := ra.un
                rw [g1.str_inv] at hq
                exact ⟨_, rfl, l, _, _, _, rfl, rfl, SqL.of hlA, atI_nat (j := 0) rfl, q0, _, _, _, rfl, rfl, SqT.of hq, atI_nat (j := 0) rfl, rfl, _, rfl, ifN okw.2.1 (plain rfl rfl)⟩
              | blank =>
                obtain ⟨q0, xs, rfl, hq, ra⟩ := id hxA.tup_inv
                obtain ⟨_, _, rfl, g1, rb⟩ := ra.un
                rw [g1.str_inv] at hq
                exact ⟨_, rfl, l, _, _, _, rfl, rfl, SqL.of hlA, atI_nat (j := 0) rfl, q0, _, _, _, rfl, rfl, SqT.of hq, atI_nat (j := 0) rfl, rfl, _, rfl, ifN okw.2.2 (plain rfl rfl)⟩
              | form t =>
                obtain ⟨q0, xs, rfl, hq, ra⟩ := id hxA.tup_inv
                obtain ⟨_, _, rfl, g1, rb⟩ := ra.un
                obtain ⟨v, _, rfl, g2, rc2⟩ := rb.un
                obtain rfl := rc2.end_
                rw [g1.str_inv] at hq
                obtain ⟨tok, th⟩ := ok _ List.mem_cons_self
                refine ⟨_, rfl, l, _, _, _, rfl, rfl, SqL.of hlA, atI_nat (j := 0) rfl, q0, _, _, _, rfl, rfl, SqT.of hq, atI_nat (j := 0) rfl, rfl, _, rfl, ifY ?_⟩
                refine ⟨_, rfl, w0, _, _, _, rfl, rfl, SqL.of (sA _ _ hw9), atI_nat (j := 2) rfl, _, rfl, l, _, _, _, rfl, rfl, SqL.of hlA, atI_nat (j := 0) rfl, q0, _, _, _, rfl, rfl, SqT.of hq, atI_nat (j := 1) rfl, _, rfl, [b], nd, kd, N, v, t, D, R, C, rfl, th, ns9.same sA, non, wldN, kna9.same sA, dok.v, dt_tr g2, tok, fun v' HB sB hv => ⟨v', rfl, sA.trans sB, hv⟩⟩
            · cases rs with
              | nil =>
                exfalso
                apply y
                rw [show (x :: wr).length = 1 by rw [List.length_cons, lr]; rfl]
                exact decide_eq_true rfl
              | cons c2 rs2 =>
                have e : vfC N D (c :: c2 :: rs2) = fClash := by cases c <;> rfl
                exact iteF ⟨v1, rfl, sA, by rw [e]; exact hv2 (by simp)⟩
          · rintro σ HB ⟨v2, rfl, sB, hdue⟩
            have s6B := s9.trans sB
            have knaB := kna.same s6B
            obtain ⟨kvs, hk, eK⟩ := id knaB
            have kl := eK.len
            have ndk : (kvs.map Prod.fst).Nodup := by
              rw [ents_keys eK]
              exact nodup_map (fun _ _ => idK_inj) dok.nd
            refine fun cp hcp => ?_
            have s1 := same_new (o := .dT []) hcp
            have npa : kd ≠ cp := ne_of_none hk hcp
            have hp1 : (upd HB cp (.dT [])) cp = some (.dT []) := upd_same
            have hk1 := s1 _ _ hk
            generalize upd HB cp (.dT []) = HC at s1 hp1 hk1
            refine ⟨kd, _, hk1, trivial, fun od => ?_⟩
            have tf : ∀ c u, HB c = some u → c ≠ kd → (upd HC kd (.frz od (.dT kvs))) c = some u := fun c u e n => by
              rw [upd_ne n]
              exact s1 _ _ e
            refine ⟨_, rfl, kd, od, rfl, .inr ⟨kvs, upd_same, for_it (walk_keysT (d := kd) (o := od) (kvs := kvs)) (fun y σ H' => ∃ (c10 : Option V), σ = [some (.ref a), some (.ref b), some (.ref w0), some (.ref g.G), some (.ref kd), some (.int z.1), some (.int z.2), some (.ref l), some v2, some (.ref cp), c10] ∧ (∀ c u, HB c = some u → c ≠ kd → H' c = some u) ∧ H' kd = some (.frz od (.dT kvs)) ∧ H' cp = some (.dT (kvs.take y))) ⟨_, rfl, tf, upd_same, by rw [upd_ne npa.symm]; exact hp1⟩ (fun y σ H' _ ⟨_, _, _, h, _⟩ => h) ?_ ?_⟩⟩
            · rintro y x2 σ HX HD hy ⟨c10, rfl, m1, m2, m3⟩ ⟨rfl, k, v, q0, hkv, rfl, hq⟩
              have em := List.mem_of_getElem? hkv
              have evv := valV_mem ndk _ em
              have dg : DGet HD kd (.ref q0) (some v) := by
                rw [← evv]
                exact .inr ⟨kvs, k, q0, .inr ⟨od, m2⟩, rfl, hq, rfl⟩
              obtain ⟨tn, te⟩ := take_new ndk hkv
              refine ⟨_, rfl, _, rfl, kd, v, rfl, dg, _, rfl, _, rfl, cp, _, rfl, DPut.t (k := k) m3 hq (sz100 (by rw [List.length_take]; omega)), ?_⟩
              refine ⟨_, rfl, fun c u e n => ?_, ?_, ?_⟩
              · rw [upd_ne (ne_of_none e hcp)]
                exact m1 c u e n
              · rw [upd_ne npa]
                exact m2
              · rw [upd_same, putK_new tn, te]
            · rintro σ HD ⟨c10, rfl, m1, m2, m3⟩
              rw [List.take_of_length_le (Nat.le_refl _)] at m3
              refine ⟨m2, ?_⟩
              have sBE : Same HB (upd HD kd (.dT kvs)) := fun c u e => by
                by_cases y : c = kd
                · rw [y, upd_same]
                  rw [y, hk] at e
                  exact e
                · rw [upd_ne y]
                  exact m1 c u e y
              have hcE : (upd HD kd (.dT kvs)) cp = some (.dT kvs) := by
                rw [upd_ne npa.symm]
                exact m3
              generalize upd HD kd (.dT kvs) = HE at sBE hcE
              have s6E := s6B.trans sBE
              have eE : Ents idK (VA K HE) kvs D := eK.imp fun kv e hh => ⟨hh.1, hh.2.same sBE⟩
              refine ⟨_, rfl, _, rfl, _, rfl, (by show 2 ≤ sizeLine; decide), fun t2 ht2 => ?_⟩
              have sF := same_new (o := .tup [.int z.1, .int z.2]) ht2
              have s6F := s6E.trans sF
              refine ⟨_, rfl, g, W, N', cp, D, R, C, t2, z, rfl, (G6.same (rmS_same s6F)).same rmS_le, wldN', wok.sh, ⟨kvs, sF _ _ hcE, eE.imp fun kv e hh => ⟨hh.1, hh.2.same sF⟩⟩, dok.v, upd_same, fun v' HG sG hv => ?_⟩
              rw [vfW_same sn.get] at hv
              have sEG := sF.trans sG
              have s6G := s6F.trans sG
              refine ⟨_, rfl, _, _, rfl, va_same hv (hdue.same (sBE.trans sEG)), _, rfl, iteF ?_⟩
              have eG : Ents idK (DpAs K HG valD) kvs D := eE.imp fun kv e hh => ⟨hh.1, (hh.2.same sEG).dp⟩
              have hkG := (sBE.trans sEG) _ _ hk
              refine ⟨_, rfl, _, rfl, cp, kd, kvs, kvs, D, D, rfl, rfl, sEG _ _ hcE, hkG, eG, eG, fun e _ => valD_shaped _, fun e _ => valD_shaped _, _, rfl, ?_⟩
              rw [eqE_refl dok.nd]
              exact iteF ⟨_, _, _, _, _, rfl, s6G⟩
      · rintro σ H8 ⟨k6, k7, k8, k9, k10, rfl, s8⟩
        exact ⟨_, _, _, _, _, _, rfl, s8⟩
    · rintro σ H7 ⟨k5, k6, k7, k8, k9, k10, rfl, s7⟩
      exact q H7
end
set_option maxHeartbeats 0 in
theorem all_mk {l : PySem.W.OpenLaw} {w : World} {K : PySem.W.Frag} {h : Heap} {mg : Str → Option Value} {fa f1 f2 f3 f4 f5 f6 f7 f8 f9 f10 f11 f12 f13 f14 f15 f16 f17 f18 f19 f20 f21 f22 f23 f24 f25 f26 f27 f28 f29 f30 f31 f32 f33 f34 f35 f36 f37 f38 f39 f40 f41 f42 f43 f44 f45 f46 f47 f48 f49 f50 f51 f52 f53 f54 f55 f56 : Addr} {t_NO_NAME : Nat} {t_LIMIT : Nat} (X : K.In h) (G : h.Ns mainGlobals mg) (hfa : mg "law" = some (.ref fa))
    {od1 an1 od2 an2 od3 an3 od4 an4 od5 an5 od6 an6 od7 an7 od8 an8 od9 an9 od10 an10 od11 an11 od12 an12 od13 an13 od14 an14 od15 an15 od16 an16 od17 an17 od18 an18 od19 an19 od20 an20 od21 an21 od22 an22 od23 an23 od24 an24 od25 an25 od26 an26 od27 an27 od28 an28 od29 an29 od30 an30 od31 an31 od32 an32 od33 an33 od34 an34 od35 an35 od36 an36 od37 an37 od38 an38 od39 an39 od40 an40 od41 an41 od42 an42 od43 an43 od44 an44 od45 an45 od46 an46 od47 an47 od48 an48 od49 an49 od50 an50 od51 an51 od52 an52 od53 an53 od54 an54 od55 an55 od56 an56 : Option Addr} {sl1 sl2 sl3 sl4 sl5 sl6 sl7 sl8 sl9 sl10 sl11 sl12 sl13 sl14 sl15 sl16 sl17 sl18 sl19 sl20 sl21 sl22 sl23 sl24 sl25 sl26 sl27 sl28 sl29 sl30 sl31 sl32 sl33 sl34 sl35 sl36 sl37 sl38 sl39 sl40 sl41 sl42 sl43 sl44 sl45 sl46 sl47 sl48 sl49 sl50 sl51 sl52 sl53 sl54 sl55 sl56 : Array (Option Value)} {oc1 kV1 dc1 pm1 cd1 ct1 oc2 kV2 dc2 pm2 cd2 ct2 oc3 kV3 dc3 pm3 cd3 ct3 oc4 kV4 dc4 pm4 cd4 ct4 oc5 kV5 dc5 pm5 cd5 ct5 oc6 kV6 dc6 pm6 cd6 ct6 oc7 kV7 dc7 pm7 cd7 ct7 oc8 kV8 dc8 pm8 cd8 ct8 oc9 kV9 dc9 pm9 cd9 ct9 oc10 kV10 dc10 pm10 cd10 ct10 oc11 kV11 dc11 pm11 cd11 ct11 oc12 kV12 dc12 pm12 cd12 ct12 oc13 kV13 dc13 pm13 cd13 ct13 oc14 kV14 dc14 pm14 cd14 ct14 oc15 kV15 dc15 pm15 cd15 ct15 oc16 kV16 dc16 pm16 cd16 ct16 oc17 kV17 dc17 pm17 cd17 ct17 oc18 kV18 dc18 pm18 cd18 ct18 oc19 kV19 dc19 pm19 cd19 ct19 oc20 kV20 dc20 pm20 cd20 ct20 oc21 kV21 dc21 pm21 cd21 ct21 oc22 kV22 dc22 pm22 cd22 ct22 oc23 kV23 dc23 pm23 cd23 ct23 oc24 kV24 dc24 pm24 cd24 ct24 oc25 kV25 dc25 pm25 cd25 ct25 oc26 kV26 dc26 pm26 cd26 ct26 oc27 kV27 dc27 pm27 cd27 ct27 oc28 kV28 dc28 pm28 cd28 ct28 oc29 kV29 dc29 pm29 cd29 ct29 oc30 kV30 dc30 pm30 cd30 ct30 oc31 kV31 dc31 pm31 cd31 ct31 oc32 kV32 dc32 pm32 cd32 ct32 oc33 kV33 dc33 pm33 cd33 ct33 oc34 kV34 dc34 pm34 cd34 ct34 oc35 kV35 dc35 pm35 cd35 ct35 oc36 kV36 dc36 pm36 cd36 ct36 oc37 kV37 dc37 pm37 cd37 ct37 oc38 kV38 dc38 pm38 cd38 ct38 oc39 kV39 dc39 pm39 cd39 ct39 oc40 kV40 dc40 pm40 cd40 ct40 oc41 kV41 dc41 pm41 cd41 ct41 oc42 kV42 dc42 pm42 cd42 ct42 oc43 kV43 dc43 pm43 cd43 ct43 oc44 kV44 dc44 pm44 cd44 ct44 oc45 kV45 dc45 pm45 cd45 ct45 oc46 kV46 dc46 pm46 cd46 ct46 oc47 kV47 dc47 pm47 cd47 ct47 oc48 kV48 dc48 pm48 cd48 ct48 oc49 kV49 dc49 pm49 cd49 ct49 oc50 kV50 dc50 pm50 cd50 ct50 oc51 kV51 dc51 pm51 cd51 ct51 oc52 kV52 dc52 pm52 cd52 ct52 oc53 kV53 dc53 pm53 cd53 ct53 oc54 kV54 dc54 pm54 cd54 ct54 oc55 kV55 dc55 pm55 cd55 ct55 oc56 kV56 dc56 pm56 cd56 ct56 : Value}
    (a1 : PySem.W.nsIn K mainGlobals "_wall" = some (some (.ref f1))) (l1 : K.lookup f1 = some ⟨oc1, od1, .func (PySem.W.fnOf "_wall" "_wall" (defArgs sWall) (defBody sWall) (defScope sWall) .none kV1 dc1 pm1 an1 cd1 ct1), sl1⟩) (c1 : PySem.W.codeIn K cd1 "_wall" = true) (k1 : PySem.W.keepIn K (.ref f1) = true)
    (a2 : PySem.W.nsIn K mainGlobals "fraction" = some (some (.ref f2))) (l2 : K.lookup f2 = some ⟨oc2, od2, .func (PySem.W.fnOf "fraction" "fraction" (defArgs sFraction) (defBody sFraction) (defScope sFraction) .none kV2 dc2 pm2 an2 cd2 ct2), sl2⟩) (c2 : PySem.W.codeIn K cd2 "fraction" = true) (k2 : PySem.W.keepIn K (.ref f2) = true)
    (a3 : PySem.W.nsIn K mainGlobals "in_range" = some (some (.ref f3))) (l3 : K.lookup f3 = some ⟨oc3, od3, .func (PySem.W.fnOf "in_range" "in_range" (defArgs sInRange) (defBody sInRange) (defScope sInRange) .none kV3 dc3 pm3 an3 cd3 ct3), sl3⟩) (c3 : PySem.W.codeIn K cd3 "in_range" = true) (k3 : PySem.W.keepIn K (.ref f3) = true)
    (a4 : PySem.W.nsIn K mainGlobals "_result" = some (some (.ref f4))) (l4 : K.lookup f4 = some ⟨oc4, od4, .func (PySem.W.fnOf "_result" "_result" (defArgs sResult) (defBody sResult) (defScope sResult) .none kV4 dc4 pm4 an4 cd4 ct4), sl4⟩) (c4 : PySem.W.codeIn K cd4 "_result" = true) (k4 : PySem.W.keepIn K (.ref f4) = true)
    (a5 : PySem.W.nsIn K mainGlobals "add" = some (some (.ref f5))) (l5 : K.lookup f5 = some ⟨oc5, od5, .func (PySem.W.fnOf "add" "add" (defArgs sAdd) (defBody sAdd) (defScope sAdd) .none kV5 dc5 pm5 an5 cd5 ct5), sl5⟩) (c5 : PySem.W.codeIn K cd5 "add" = true) (k5 : PySem.W.keepIn K (.ref f5) = true)
    (a6 : PySem.W.nsIn K mainGlobals "subtract" = some (some (.ref f6))) (l6 : K.lookup f6 = some ⟨oc6, od6, .func (PySem.W.fnOf "subtract" "subtract" (defArgs sSubtract) (defBody sSubtract) (defScope sSubtract) .none kV6 dc6 pm6 an6 cd6 ct6), sl6⟩) (c6 : PySem.W.codeIn K cd6 "subtract" = true) (k6 : PySem.W.keepIn K (.ref f6) = true)
    (a7 : PySem.W.nsIn K mainGlobals "multiply" = some (some (.ref f7))) (l7 : K.lookup f7 = some ⟨oc7, od7, .func (PySem.W.fnOf "multiply" "multiply" (defArgs sMultiply) (defBody sMultiply) (defScope sMultiply) .none kV7 dc7 pm7 an7 cd7 ct7), sl7⟩) (c7 : PySem.W.codeIn K cd7 "multiply" = true) (k7 : PySem.W.keepIn K (.ref f7) = true)
    (a8 : PySem.W.nsIn K mainGlobals "divide" = some (some (.ref f8))) (l8 : K.lookup f8 = some ⟨oc8, od8, .func (PySem.W.fnOf "divide" "divide" (defArgs sDivide) (defBody sDivide) (defScope sDivide) .none kV8 dc8 pm8 an8 cd8 ct8), sl8⟩) (c8 : PySem.W.codeIn K cd8 "divide" = true) (k8 : PySem.W.keepIn K (.ref f8) = true)
    (a9 : PySem.W.nsIn K mainGlobals "less" = some (some (.ref f9))) (l9 : K.lookup f9 = some ⟨oc9, od9, .func (PySem.W.fnOf "less" "less" (defArgs sLess) (defBody sLess) (defScope sLess) .none kV9 dc9 pm9 an9 cd9 ct9), sl9⟩) (c9 : PySem.W.codeIn K cd9 "less" = true) (k9 : PySem.W.keepIn K (.ref f9) = true)
    (a10 : PySem.W.nsIn K mainGlobals "told_of" = some (some (.ref f10))) (l10 : K.lookup f10 = some ⟨oc10, od10, .func (PySem.W.fnOf "told_of" "told_of" (defArgs sToldOf) (defBody sToldOf) (defScope sToldOf) .none kV10 dc10 pm10 an10 cd10 ct10), sl10⟩) (c10 : PySem.W.codeIn K cd10 "told_of" = true) (k10 : PySem.W.keepIn K (.ref f10) = true)
    (a11 : PySem.W.nsIn K mainGlobals "cells_of" = some (some (.ref f11))) (l11 : K.lookup f11 = some ⟨oc11, od11, .func (PySem.W.fnOf "cells_of" "cells_of" (defArgs sCellsOf) (defBody sCellsOf) (defScope sCellsOf) .none kV11 dc11 pm11 an11 cd11 ct11), sl11⟩) (c11 : PySem.W.codeIn K cd11 "cells_of" = true) (k11 : PySem.W.keepIn K (.ref f11) = true)
    (a12 : PySem.W.nsIn K mainGlobals "formula_of" = some (some (.ref f12))) (l12 : K.lookup f12 = some ⟨oc12, od12, .func (PySem.W.fnOf "formula_of" "formula_of" (defArgs sFormulaOf) (defBody sFormulaOf) (defScope sFormulaOf) .none kV12 dc12 pm12 an12 cd12 ct12), sl12⟩) (c12 : PySem.W.codeIn K cd12 "formula_of" = true) (k12 : PySem.W.keepIn K (.ref f12) = true)
    (a13 : PySem.W.nsIn K mainGlobals "_is_fault" = some (some (.ref f13))) (l13 : K.lookup f13 = some ⟨oc13, od13, .func (PySem.W.fnOf "_is_fault" "_is_fault" (defArgs sIsFault) (defBody sIsFault) (defScope sIsFault) .none kV13 dc13 pm13 an13 cd13 ct13), sl13⟩) (c13 : PySem.W.codeIn K cd13 "_is_fault" = true) (k13 : PySem.W.keepIn K (.ref f13) = true)
    (a14 : PySem.W.nsIn K mainGlobals "_number_value" = some (some (.ref f14))) (l14 : K.lookup f14 = some ⟨oc14, od14, .func (PySem.W.fnOf "_number_value" "_number_value" (defArgs sNumberValue) (defBody sNumberValue) (defScope sNumberValue) .none kV14 dc14 pm14 an14 cd14 ct14), sl14⟩) (c14 : PySem.W.codeIn K cd14 "_number_value" = true) (k14 : PySem.W.keepIn K (.ref f14) = true)
    (a15 : PySem.W.nsIn K mainGlobals "_cell_number" = some (some (.ref f15))) (l15 : K.lookup f15 = some ⟨oc15, od15, .func (PySem.W.fnOf "_cell_number" "_cell_number" (defArgs sCellNumber) (defBody sCellNumber) (defScope sCellNumber) .none kV15 dc15 pm15 an15 cd15 ct15), sl15⟩) (c15 : PySem.W.codeIn K cd15 "_cell_number" = true) (k15 : PySem.W.keepIn K (.ref f15) = true)
    (a16 : PySem.W.nsIn K mainGlobals "_negated" = some (some (.ref f16))) (l16 : K.lookup f16 = some ⟨oc16, od16, .func (PySem.W.fnOf "_negated" "_negated" (defArgs sNegated) (defBody sNegated) (defScope sNegated) .none kV16 dc16 pm16 an16 cd16 ct16), sl16⟩) (c16 : PySem.W.codeIn K cd16 "_negated" = true) (k16 : PySem.W.keepIn K (.ref f16) = true)
    (a17 : PySem.W.nsIn K mainGlobals "_calculated" = some (some (.ref f17))) (l17 : K.lookup f17 = some ⟨oc17, od17, .func (PySem.W.fnOf "_calculated" "_calculated" (defArgs sCalculated) (defBody sCalculated) (defScope sCalculated) .none kV17 dc17 pm17 an17 cd17 ct17), sl17⟩) (c17 : PySem.W.codeIn K cd17 "_calculated" = true) (k17 : PySem.W.keepIn K (.ref f17) = true)
    (a18 : PySem.W.nsIn K mainGlobals "_named_areas" = some (some (.ref f18))) (l18 : K.lookup f18 = some ⟨oc18, od18, .func (PySem.W.fnOf "_named_areas" "_named_areas" (defArgs sNamedAreas) (defBody sNamedAreas) (defScope sNamedAreas) .none kV18 dc18 pm18 an18 cd18 ct18), sl18⟩) (c18 : PySem.W.codeIn K cd18 "_named_areas" = true) (k18 : PySem.W.keepIn K (.ref f18) = true)
    (a19 : PySem.W.nsIn K mainGlobals "_visited" = some (some (.ref f19))) (l19 : K.lookup f19 = some ⟨oc19, od19, .func (PySem.W.fnOf "_visited" "_visited" (defArgs sVisited) (defBody sVisited) (defScope sVisited) .none kV19 dc19 pm19 an19 cd19 ct19), sl19⟩) (c19 : PySem.W.codeIn K cd19 "_visited" = true) (k19 : PySem.W.keepIn K (.ref f19) = true)
    (a20 : PySem.W.nsIn K mainGlobals "_total" = some (some (.ref f20))) (l20 : K.lookup f20 = some ⟨oc20, od20, .func (PySem.W.fnOf "_total" "_total" (defArgs sTotal) (defBody sTotal) (defScope sTotal) .none kV20 dc20 pm20 an20 cd20 ct20), sl20⟩) (c20 : PySem.W.codeIn K cd20 "_total" = true) (k20 : PySem.W.keepIn K (.ref f20) = true)
    (a21 : PySem.W.nsIn K mainGlobals "_outermost" = some (some (.ref f21))) (l21 : K.lookup f21 = some ⟨oc21, od21, .func (PySem.W.fnOf "_outermost" "_outermost" (defArgs sOutermost) (defBody sOutermost) (defScope sOutermost) .none kV21 dc21 pm21 an21 cd21 ct21), sl21⟩) (c21 : PySem.W.codeIn K cd21 "_outermost" = true) (k21 : PySem.W.keepIn K (.ref f21) = true)
    (a22 : PySem.W.nsIn K mainGlobals "_called" = some (some (.ref f22))) (l22 : K.lookup f22 = some ⟨oc22, od22, .func (PySem.W.fnOf "_called" "_called" (defArgs sCalled) (defBody sCalled) (defScope sCalled) .none kV22 dc22 pm22 an22 cd22 ct22), sl22⟩) (c22 : PySem.W.codeIn K cd22 "_called" = true) (k22 : PySem.W.keepIn K (.ref f22) = true)
    (a23 : PySem.W.nsIn K mainGlobals "_operand" = some (some (.ref f23))) (l23 : K.lookup f23 = some ⟨oc23, od23, .func (PySem.W.fnOf "_operand" "_operand" (defArgs sOperand) (defBody sOperand) (defScope sOperand) .none kV23 dc23 pm23 an23 cd23 ct23), sl23⟩) (c23 : PySem.W.codeIn K cd23 "_operand" = true) (k23 : PySem.W.keepIn K (.ref f23) = true)
    (a24 : PySem.W.nsIn K mainGlobals "evaluate" = some (some (.ref f24))) (l24 : K.lookup f24 = some ⟨oc24, od24, .func (PySem.W.fnOf "evaluate" "evaluate" (defArgs sEvaluate) (defBody sEvaluate) (defScope sEvaluate) .none kV24 dc24 pm24 an24 cd24 ct24), sl24⟩) (c24 : PySem.W.codeIn K cd24 "evaluate" = true) (k24 : PySem.W.keepIn K (.ref f24) = true)
    (a25 : PySem.W.nsIn K mainGlobals "value_from" = some (some (.ref f25))) (l25 : K.lookup f25 = some ⟨oc25, od25, .func (PySem.W.fnOf "value_from" "value_from" (defArgs sValueFrom) (defBody sValueFrom) (defScope sValueFrom) .none kV25 dc25 pm25 an25 cd25 ct25), sl25⟩) (c25 : PySem.W.codeIn K cd25 "value_from" = true) (k25 : PySem.W.keepIn K (.ref f25) = true)
    (a26 : PySem.W.nsIn K mainGlobals "_law_cell" = some (some (.ref f26))) (l26 : K.lookup f26 = some ⟨oc26, od26, .func (PySem.W.fnOf "_law_cell" "_law_cell" (defArgs sLawCell) (defBody sLawCell) (defScope sLawCell) .none kV26 dc26 pm26 an26 cd26 ct26), sl26⟩) (c26 : PySem.W.codeIn K cd26 "_law_cell" = true) (k26 : PySem.W.keepIn K (.ref f26) = true)
    (a27 : PySem.W.nsIn K mainGlobals "_law_digits" = some (some (.ref f27))) (l27 : K.lookup f27 = some ⟨oc27, od27, .func (PySem.W.fnOf "_law_digits" "_law_digits" (defArgs sLawDigits) (defBody sLawDigits) (defScope sLawDigits) .none kV27 dc27 pm27 an27 cd27 ct27), sl27⟩) (c27 : PySem.W.codeIn K cd27 "_law_digits" = true) (k27 : PySem.W.keepIn K (.ref f27) = true)
    (a28 : PySem.W.nsIn K mainGlobals "_law_draw" = some (some (.ref f28))) (l28 : K.lookup f28 = some ⟨oc28, od28, .func (PySem.W.fnOf "_law_draw" "_law_draw" (defArgs sLawDraw) (defBody sLawDraw) (defScope sLawDraw) .none kV28 dc28 pm28 an28 cd28 ct28), sl28⟩) (c28 : PySem.W.codeIn K cd28 "_law_draw" = true) (k28 : PySem.W.keepIn K (.ref f28) = true)
    (a29 : PySem.W.nsIn K mainGlobals "_law_gcd" = some (some (.ref f29))) (l29 : K.lookup f29 = some ⟨oc29, od29, .func (PySem.W.fnOf "_law_gcd" "_law_gcd" (defArgs sLawGcd) (defBody sLawGcd) (defScope sLawGcd) .none kV29 dc29 pm29 an29 cd29 ct29), sl29⟩) (c29 : PySem.W.codeIn K cd29 "_law_gcd" = true) (k29 : PySem.W.keepIn K (.ref f29) = true)
    (a30 : PySem.W.nsIn K mainGlobals "_law_lowest" = some (some (.ref f30))) (l30 : K.lookup f30 = some ⟨oc30, od30, .func (PySem.W.fnOf "_law_lowest" "_law_lowest" (defArgs sLawLowest) (defBody sLawLowest) (defScope sLawLowest) .none kV30 dc30 pm30 an30 cd30 ct30), sl30⟩) (c30 : PySem.W.codeIn K cd30 "_law_lowest" = true) (k30 : PySem.W.keepIn K (.ref f30) = true)
    (a31 : PySem.W.nsIn K mainGlobals "_law_digit_text" = some (some (.ref f31))) (l31 : K.lookup f31 = some ⟨oc31, od31, .func (PySem.W.fnOf "_law_digit_text" "_law_digit_text" (defArgs sLawDigitText) (defBody sLawDigitText) (defScope sLawDigitText) .none kV31 dc31 pm31 an31 cd31 ct31), sl31⟩) (c31 : PySem.W.codeIn K cd31 "_law_digit_text" = true) (k31 : PySem.W.keepIn K (.ref f31) = true)
    (a32 : PySem.W.nsIn K mainGlobals "_law_address" = some (some (.ref f32))) (l32 : K.lookup f32 = some ⟨oc32, od32, .func (PySem.W.fnOf "_law_address" "_law_address" (defArgs sLawAddress) (defBody sLawAddress) (defScope sLawAddress) .none kV32 dc32 pm32 an32 cd32 ct32), sl32⟩) (c32 : PySem.W.codeIn K cd32 "_law_address" = true) (k32 : PySem.W.keepIn K (.ref f32) = true)
    (a33 : PySem.W.nsIn K mainGlobals "_law_word" = some (some (.ref f33))) (l33 : K.lookup f33 = some ⟨oc33, od33, .func (PySem.W.fnOf "_law_word" "_law_word" (defArgs sLawWord) (defBody sLawWord) (defScope sLawWord) .none kV33 dc33 pm33 an33 cd33 ct33), sl33⟩) (c33 : PySem.W.codeIn K cd33 "_law_word" = true) (k33 : PySem.W.keepIn K (.ref f33) = true)
    (a34 : PySem.W.nsIn K mainGlobals "_law_leaf" = some (some (.ref f34))) (l34 : K.lookup f34 = some ⟨oc34, od34, .func (PySem.W.fnOf "_law_leaf" "_law_leaf" (defArgs sLawLeaf) (defBody sLawLeaf) (defScope sLawLeaf) .none kV34 dc34 pm34 an34 cd34 ct34), sl34⟩) (c34 : PySem.W.codeIn K cd34 "_law_leaf" = true) (k34 : PySem.W.keepIn K (.ref f34) = true)
    (a35 : PySem.W.nsIn K mainGlobals "_law_area" = some (some (.ref f35))) (l35 : K.lookup f35 = some ⟨oc35, od35, .func (PySem.W.fnOf "_law_area" "_law_area" (defArgs sLawArea) (defBody sLawArea) (defScope sLawArea) .none kV35 dc35 pm35 an35 cd35 ct35), sl35⟩) (c35 : PySem.W.codeIn K cd35 "_law_area" = true) (k35 : PySem.W.keepIn K (.ref f35) = true)
    (a36 : PySem.W.nsIn K mainGlobals "_law_inside" = some (some (.ref f36))) (l36 : K.lookup f36 = some ⟨oc36, od36, .func (PySem.W.fnOf "_law_inside" "_law_inside" (defArgs sLawInside) (defBody sLawInside) (defScope sLawInside) .none kV36 dc36 pm36 an36 cd36 ct36), sl36⟩) (c36 : PySem.W.codeIn K cd36 "_law_inside" = true) (k36 : PySem.W.keepIn K (.ref f36) = true)
    (a37 : PySem.W.nsIn K mainGlobals "_law_call" = some (some (.ref f37))) (l37 : K.lookup f37 = some ⟨oc37, od37, .func (PySem.W.fnOf "_law_call" "_law_call" (defArgs sLawCall) (defBody sLawCall) (defScope sLawCall) .none kV37 dc37 pm37 an37 cd37 ct37), sl37⟩) (c37 : PySem.W.codeIn K cd37 "_law_call" = true) (k37 : PySem.W.keepIn K (.ref f37) = true)
    (a38 : PySem.W.nsIn K mainGlobals "_law_node" = some (some (.ref f38))) (l38 : K.lookup f38 = some ⟨oc38, od38, .func (PySem.W.fnOf "_law_node" "_law_node" (defArgs sLawNode) (defBody sLawNode) (defScope sLawNode) .none kV38 dc38 pm38 an38 cd38 ct38), sl38⟩) (c38 : PySem.W.codeIn K cd38 "_law_node" = true) (k38 : PySem.W.keepIn K (.ref f38) = true)
    (a39 : PySem.W.nsIn K mainGlobals "_law_big" = some (some (.ref f39))) (l39 : K.lookup f39 = some ⟨oc39, od39, .func (PySem.W.fnOf "_law_big" "_law_big" (defArgs sLawBig) (defBody sLawBig) (defScope sLawBig) .none kV39 dc39 pm39 an39 cd39 ct39), sl39⟩) (c39 : PySem.W.codeIn K cd39 "_law_big" = true) (k39 : PySem.W.keepIn K (.ref f39) = true)
    (a40 : PySem.W.nsIn K mainGlobals "_law_same" = some (some (.ref f40))) (l40 : K.lookup f40 = some ⟨oc40, od40, .func (PySem.W.fnOf "_law_same" "_law_same" (defArgs sLawSame) (defBody sLawSame) (defScope sLawSame) .none kV40 dc40 pm40 an40 cd40 ct40), sl40⟩) (c40 : PySem.W.codeIn K cd40 "_law_same" = true) (k40 : PySem.W.keepIn K (.ref f40) = true)
    (a41 : PySem.W.nsIn K mainGlobals "_law_fraction" = some (some (.ref f41))) (l41 : K.lookup f41 = some ⟨oc41, od41, .func (PySem.W.fnOf "_law_fraction" "_law_fraction" (defArgs sLawFraction) (defBody sLawFraction) (defScope sLawFraction) .none kV41 dc41 pm41 an41 cd41 ct41), sl41⟩) (c41 : PySem.W.codeIn K cd41 "_law_fraction" = true) (k41 : PySem.W.keepIn K (.ref f41) = true)
    (a42 : PySem.W.nsIn K mainGlobals "_law_in_range" = some (some (.ref f42))) (l42 : K.lookup f42 = some ⟨oc42, od42, .func (PySem.W.fnOf "_law_in_range" "_law_in_range" (defArgs sLawInRange) (defBody sLawInRange) (defScope sLawInRange) .none kV42 dc42 pm42 an42 cd42 ct42), sl42⟩) (c42 : PySem.W.codeIn K cd42 "_law_in_range" = true) (k42 : PySem.W.keepIn K (.ref f42) = true)
    (a43 : PySem.W.nsIn K mainGlobals "_law_operate" = some (some (.ref f43))) (l43 : K.lookup f43 = some ⟨oc43, od43, .func (PySem.W.fnOf "_law_operate" "_law_operate" (defArgs sLawOperate) (defBody sLawOperate) (defScope sLawOperate) .none kV43 dc43 pm43 an43 cd43 ct43), sl43⟩) (c43 : PySem.W.codeIn K cd43 "_law_operate" = true) (k43 : PySem.W.keepIn K (.ref f43) = true)
    (a44 : PySem.W.nsIn K mainGlobals "_law_visit" = some (some (.ref f44))) (l44 : K.lookup f44 = some ⟨oc44, od44, .func (PySem.W.fnOf "_law_visit" "_law_visit" (defArgs sLawVisit) (defBody sLawVisit) (defScope sLawVisit) .none kV44 dc44 pm44 an44 cd44 ct44), sl44⟩) (c44 : PySem.W.codeIn K cd44 "_law_visit" = true) (k44 : PySem.W.keepIn K (.ref f44) = true)
    (a45 : PySem.W.nsIn K mainGlobals "_law_own_call" = some (some (.ref f45))) (l45 : K.lookup f45 = some ⟨oc45, od45, .func (PySem.W.fnOf "_law_own_call" "_law_own_call" (defArgs sLawOwnCall) (defBody sLawOwnCall) (defScope sLawOwnCall) .none kV45 dc45 pm45 an45 cd45 ct45), sl45⟩) (c45 : PySem.W.codeIn K cd45 "_law_own_call" = true) (k45 : PySem.W.keepIn K (.ref f45) = true)
    (a46 : PySem.W.nsIn K mainGlobals "_law_number_of" = some (some (.ref f46))) (l46 : K.lookup f46 = some ⟨oc46, od46, .func (PySem.W.fnOf "_law_number_of" "_law_number_of" (defArgs sLawNumberOf) (defBody sLawNumberOf) (defScope sLawNumberOf) .none kV46 dc46 pm46 an46 cd46 ct46), sl46⟩) (c46 : PySem.W.codeIn K cd46 "_law_number_of" = true) (k46 : PySem.W.keepIn K (.ref f46) = true)
    (a47 : PySem.W.nsIn K mainGlobals "_law_own_value" = some (some (.ref f47))) (l47 : K.lookup f47 = some ⟨oc47, od47, .func (PySem.W.fnOf "_law_own_value" "_law_own_value" (defArgs sLawOwnValue) (defBody sLawOwnValue) (defScope sLawOwnValue) .none kV47 dc47 pm47 an47 cd47 ct47), sl47⟩) (c47 : PySem.W.codeIn K cd47 "_law_own_value" = true) (k47 : PySem.W.keepIn K (.ref f47) = true)
    (a48 : PySem.W.nsIn K mainGlobals "_law_names" = some (some (.ref f48))) (l48 : K.lookup f48 = some ⟨oc48, od48, .func (PySem.W.fnOf "_law_names" "_law_names" (defArgs sLawNames) (defBody sLawNames) (defScope sLawNames) .none kV48 dc48 pm48 an48 cd48 ct48), sl48⟩) (c48 : PySem.W.codeIn K cd48 "_law_names" = true) (k48 : PySem.W.keepIn K (.ref f48) = true)
    (a49 : PySem.W.nsIn K mainGlobals "_law_set_names" = some (some (.ref f49))) (l49 : K.lookup f49 = some ⟨oc49, od49, .func (PySem.W.fnOf "_law_set_names" "_law_set_names" (defArgs sLawSetNames) (defBody sLawSetNames) (defScope sLawSetNames) .none kV49 dc49 pm49 an49 cd49 ct49), sl49⟩) (c49 : PySem.W.codeIn K cd49 "_law_set_names" = true) (k49 : PySem.W.keepIn K (.ref f49) = true)
    (a50 : PySem.W.nsIn K mainGlobals "_law_content" = some (some (.ref f50))) (l50 : K.lookup f50 = some ⟨oc50, od50, .func (PySem.W.fnOf "_law_content" "_law_content" (defArgs sLawContent) (defBody sLawContent) (defScope sLawContent) .none kV50 dc50 pm50 an50 cd50 ct50), sl50⟩) (c50 : PySem.W.codeIn K cd50 "_law_content" = true) (k50 : PySem.W.keepIn K (.ref f50) = true)
    (a51 : PySem.W.nsIn K mainGlobals "_law_near" = some (some (.ref f51))) (l51 : K.lookup f51 = some ⟨oc51, od51, .func (PySem.W.fnOf "_law_near" "_law_near" (defArgs sLawNear) (defBody sLawNear) (defScope sLawNear) .none kV51 dc51 pm51 an51 cd51 ct51), sl51⟩) (c51 : PySem.W.codeIn K cd51 "_law_near" = true) (k51 : PySem.W.keepIn K (.ref f51) = true)
    (a52 : PySem.W.nsIn K mainGlobals "_law_world" = some (some (.ref f52))) (l52 : K.lookup f52 = some ⟨oc52, od52, .func (PySem.W.fnOf "_law_world" "_law_world" (defArgs sLawWorld) (defBody sLawWorld) (defScope sLawWorld) .none kV52 dc52 pm52 an52 cd52 ct52), sl52⟩) (c52 : PySem.W.codeIn K cd52 "_law_world" = true) (k52 : PySem.W.keepIn K (.ref f52) = true)
    (a53 : PySem.W.nsIn K mainGlobals "_law_grid" = some (some (.ref f53))) (l53 : K.lookup f53 = some ⟨oc53, od53, .func (PySem.W.fnOf "_law_grid" "_law_grid" (defArgs sLawGrid) (defBody sLawGrid) (defScope sLawGrid) .none kV53 dc53 pm53 an53 cd53 ct53), sl53⟩) (c53 : PySem.W.codeIn K cd53 "_law_grid" = true) (k53 : PySem.W.keepIn K (.ref f53) = true)
    (a54 : PySem.W.nsIn K mainGlobals "_law_value" = some (some (.ref f54))) (l54 : K.lookup f54 = some ⟨oc54, od54, .func (PySem.W.fnOf "_law_value" "_law_value" (defArgs sLawValue) (defBody sLawValue) (defScope sLawValue) .none kV54 dc54 pm54 an54 cd54 ct54), sl54⟩) (c54 : PySem.W.codeIn K cd54 "_law_value" = true) (k54 : PySem.W.keepIn K (.ref f54) = true)
    (a55 : PySem.W.nsIn K mainGlobals "_law_known" = some (some (.ref f55))) (l55 : K.lookup f55 = some ⟨oc55, od55, .func (PySem.W.fnOf "_law_known" "_law_known" (defArgs sLawKnown) (defBody sLawKnown) (defScope sLawKnown) .none kV55 dc55 pm55 an55 cd55 ct55), sl55⟩) (c55 : PySem.W.codeIn K cd55 "_law_known" = true) (k55 : PySem.W.keepIn K (.ref f55) = true)
    (a56 : PySem.W.nsIn K mainGlobals "law" = some (some (.ref f56))) (l56 : K.lookup f56 = some ⟨oc56, od56, .func (PySem.W.fnOf "law" "law" (defArgs sLaw) (defBody sLaw) (defScope sLaw) .none kV56 dc56 pm56 an56 cd56 ct56), sl56⟩) (c56 : PySem.W.codeIn K cd56 "law" = true) (k56 : PySem.W.keepIn K (.ref f56) = true)
    (z_range : PySem.W.nsIn K mainGlobals "range" = some none)
    (z_abs : PySem.W.nsIn K mainGlobals "abs" = some none)
    (z_isinstance : PySem.W.nsIn K mainGlobals "isinstance" = some none)
    (z_bool : PySem.W.nsIn K mainGlobals "bool" = some none)
    (z_str : PySem.W.nsIn K mainGlobals "str" = some none)
    (z_sorted : PySem.W.nsIn K mainGlobals "sorted" = some none)
    (z_len : PySem.W.nsIn K mainGlobals "len" = some none)
    (z_list : PySem.W.nsIn K mainGlobals "list" = some none)
    (z_min : PySem.W.nsIn K mainGlobals "min" = some none)
    (z_max : PySem.W.nsIn K mainGlobals "max" = some none)
    (z_tuple : PySem.W.nsIn K mainGlobals "tuple" = some none)
    (z_int : PySem.W.nsIn K mainGlobals "int" = some none)
    (x_NO_NAME : PySem.W.nsIn K mainGlobals "NO_NAME" = some (some (.str "none" t_NO_NAME)))
    (x_gcd : PySem.W.nsIn K mainGlobals "gcd" = some (some (.builtin "math.gcd")))
    (x_LIMIT : PySem.W.nsIn K mainGlobals "LIMIT" = some (some (.int 1000000000000000000 t_LIMIT)))
    {ap_BLANK : Addr} {n_BLANK : Nat} {sl_BLANK : Array (Option Value)} {t_BLANK_0 : Nat} (x_BLANK : PySem.W.nsIn K mainGlobals "BLANK" = some (some (.ref ap_BLANK))) (y_BLANK : K.lookup ap_BLANK = some ⟨.type "tuple", none, .seq ⟨[.str "blank" t_BLANK_0]⟩ n_BLANK, sl_BLANK⟩)
    {ap_ZERO : Addr} {n_ZERO : Nat} {sl_ZERO : Array (Option Value)} {t_ZERO_0 t_ZERO_1 : Nat} (x_ZERO : PySem.W.nsIn K mainGlobals "ZERO" = some (some (.ref ap_ZERO))) (y_ZERO : K.lookup ap_ZERO = some ⟨.type "tuple", none, .seq ⟨[.int 0 t_ZERO_0, .int 1 t_ZERO_1]⟩ n_ZERO, sl_ZERO⟩)
    {ap_CLASH : Addr} {n_CLASH : Nat} {sl_CLASH : Array (Option Value)} {t_CLASH_0 t_CLASH_1 : Nat} (x_CLASH : PySem.W.nsIn K mainGlobals "CLASH" = some (some (.ref ap_CLASH))) (y_CLASH : K.lookup ap_CLASH = some ⟨.type "tuple", none, .seq ⟨[.str "fault" t_CLASH_0, .str "clash" t_CLASH_1]⟩ n_CLASH, sl_CLASH⟩)
    {ap_GONE_FAULT : Addr} {n_GONE_FAULT : Nat} {sl_GONE_FAULT : Array (Option Value)} {t_GONE_FAULT_0 t_GONE_FAULT_1 : Nat} (x_GONE_FAULT : PySem.W.nsIn K mainGlobals "GONE_FAULT" = some (some (.ref ap_GONE_FAULT))) (y_GONE_FAULT : K.lookup ap_GONE_FAULT = some ⟨.type "tuple", none, .seq ⟨[.str "fault" t_GONE_FAULT_0, .str "gone" t_GONE_FAULT_1]⟩ n_GONE_FAULT, sl_GONE_FAULT⟩)
    {ap_UNKNOWN : Addr} {n_UNKNOWN : Nat} {sl_UNKNOWN : Array (Option Value)} {t_UNKNOWN_0 t_UNKNOWN_1 : Nat} (x_UNKNOWN : PySem.W.nsIn K mainGlobals "UNKNOWN" = some (some (.ref ap_UNKNOWN))) (y_UNKNOWN : K.lookup ap_UNKNOWN = some ⟨.type "tuple", none, .seq ⟨[.str "fault" t_UNKNOWN_0, .str "unknown" t_UNKNOWN_1]⟩ n_UNKNOWN, sl_UNKNOWN⟩)
    {ap_NO_NUMBER : Addr} {n_NO_NUMBER : Nat} {sl_NO_NUMBER : Array (Option Value)} {t_NO_NUMBER_0 t_NO_NUMBER_1 : Nat} (x_NO_NUMBER : PySem.W.nsIn K mainGlobals "NO_NUMBER" = some (some (.ref ap_NO_NUMBER))) (y_NO_NUMBER : K.lookup ap_NO_NUMBER = some ⟨.type "tuple", none, .seq ⟨[.str "fault" t_NO_NUMBER_0, .str "kind" t_NO_NUMBER_1]⟩ n_NO_NUMBER, sl_NO_NUMBER⟩)
    {ap_BY_ZERO : Addr} {n_BY_ZERO : Nat} {sl_BY_ZERO : Array (Option Value)} {t_BY_ZERO_0 t_BY_ZERO_1 : Nat} (x_BY_ZERO : PySem.W.nsIn K mainGlobals "BY_ZERO" = some (some (.ref ap_BY_ZERO))) (y_BY_ZERO : K.lookup ap_BY_ZERO = some ⟨.type "tuple", none, .seq ⟨[.str "fault" t_BY_ZERO_0, .str "zero" t_BY_ZERO_1]⟩ n_BY_ZERO, sl_BY_ZERO⟩)
    {ap_NOT_IN_RANGE : Addr} {n_NOT_IN_RANGE : Nat} {sl_NOT_IN_RANGE : Array (Option Value)} {t_NOT_IN_RANGE_0 t_NOT_IN_RANGE_1 : Nat} (x_NOT_IN_RANGE : PySem.W.nsIn K mainGlobals "NOT_IN_RANGE" = some (some (.ref ap_NOT_IN_RANGE))) (y_NOT_IN_RANGE : K.lookup ap_NOT_IN_RANGE = some ⟨.type "tuple", none, .seq ⟨[.str "fault" t_NOT_IN_RANGE_0, .str "range" t_NOT_IN_RANGE_1]⟩ n_NOT_IN_RANGE, sl_NOT_IN_RANGE⟩)
    {ap_OF_NONE : Addr} {n_OF_NONE : Nat} {sl_OF_NONE : Array (Option Value)} {t_OF_NONE_0 t_OF_NONE_1 : Nat} (x_OF_NONE : PySem.W.nsIn K mainGlobals "OF_NONE" = some (some (.ref ap_OF_NONE))) (y_OF_NONE : K.lookup ap_OF_NONE = some ⟨.type "tuple", none, .seq ⟨[.str "fault" t_OF_NONE_0, .str "none" t_OF_NONE_1]⟩ n_OF_NONE, sl_OF_NONE⟩)
    {cGrid : Addr} (kaGrid : PySem.W.nsIn K mainGlobals "Grid" = some (some (.ref cGrid))) (kbGrid : PySem.W.plainGet K cGrid Str.empty = true) (kcGrid : PySem.W.hasDictIn K cGrid = true) (kdGrid : PySem.W.plainOver K cGrid = true) (keGrid : PySem.W.findIn K (.ref cGrid) "__setattr__" = some (some (.builtin "object.__setattr__"))) (kfGrid : PySem.W.makesIn K cGrid = true) (kgGrid : PySem.W.keepIn K (.ref cGrid) = true)
    {fGrid_Init : Addr} {oc_Grid_Init kV_Grid_Init dc_Grid_Init pm_Grid_Init cd_Grid_Init ct_Grid_Init : Value} {od_Grid_Init an_Grid_Init : Option Addr} {sl_Grid_Init : Array (Option Value)}
    (miGrid_Init : PySem.W.findIn K (.ref cGrid) "__init__" = some (some (.ref fGrid_Init))) (mfGrid_Init : PySem.W.isFn K (.ref fGrid_Init) = true) (mkGrid_Init : PySem.W.keepIn K (.ref fGrid_Init) = true)
    (mlGrid_Init : K.lookup fGrid_Init = some ⟨oc_Grid_Init, od_Grid_Init, .func (PySem.W.fnOf "__init__" "Grid.__init__" (defArgs sGrid_Init) (defBody sGrid_Init) (defScope sGrid_Init) .none kV_Grid_Init dc_Grid_Init pm_Grid_Init an_Grid_Init cd_Grid_Init ct_Grid_Init), sl_Grid_Init⟩) (mdGrid_Init : PySem.W.codeIn K cd_Grid_Init "Grid.__init__" = true)
    {fGrid_Put : Addr} {oc_Grid_Put kV_Grid_Put dc_Grid_Put pm_Grid_Put cd_Grid_Put ct_Grid_Put : Value} {od_Grid_Put an_Grid_Put : Option Addr} {sl_Grid_Put : Array (Option Value)}
    (miGrid_Put : PySem.W.findIn K (.ref cGrid) "put" = some (some (.ref fGrid_Put))) (mfGrid_Put : PySem.W.isFn K (.ref fGrid_Put) = true) (mkGrid_Put : PySem.W.keepIn K (.ref fGrid_Put) = true)
    (mlGrid_Put : K.lookup fGrid_Put = some ⟨oc_Grid_Put, od_Grid_Put, .func (PySem.W.fnOf "put" "Grid.put" (defArgs sGrid_Put) (defBody sGrid_Put) (defScope sGrid_Put) .none kV_Grid_Put dc_Grid_Put pm_Grid_Put an_Grid_Put cd_Grid_Put ct_Grid_Put), sl_Grid_Put⟩) (mdGrid_Put : PySem.W.codeIn K cd_Grid_Put "Grid.put" = true)
    {fGrid_Shown : Addr} {oc_Grid_Shown kV_Grid_Shown dc_Grid_Shown pm_Grid_Shown cd_Grid_Shown ct_Grid_Shown : Value} {od_Grid_Shown an_Grid_Shown : Option Addr} {sl_Grid_Shown : Array (Option Value)}
    (miGrid_Shown : PySem.W.findIn K (.ref cGrid) "shown" = some (some (.ref fGrid_Shown))) (mfGrid_Shown : PySem.W.isFn K (.ref fGrid_Shown) = true) (mkGrid_Shown : PySem.W.keepIn K (.ref fGrid_Shown) = true)
    (mlGrid_Shown : K.lookup fGrid_Shown = some ⟨oc_Grid_Shown, od_Grid_Shown, .func (PySem.W.fnOf "shown" "Grid.shown" (defArgs sGrid_Shown) (defBody sGrid_Shown) (defScope sGrid_Shown) .none kV_Grid_Shown dc_Grid_Shown pm_Grid_Shown an_Grid_Shown cd_Grid_Shown ct_Grid_Shown), sl_Grid_Shown⟩) (mdGrid_Shown : PySem.W.codeIn K cd_Grid_Shown "Grid.shown" = true)
    {fGrid_Name : Addr} {oc_Grid_Name kV_Grid_Name dc_Grid_Name pm_Grid_Name cd_Grid_Name ct_Grid_Name : Value} {od_Grid_Name an_Grid_Name : Option Addr} {sl_Grid_Name : Array (Option Value)}
    (miGrid_Name : PySem.W.findIn K (.ref cGrid) "name" = some (some (.ref fGrid_Name))) (mfGrid_Name : PySem.W.isFn K (.ref fGrid_Name) = true) (mkGrid_Name : PySem.W.keepIn K (.ref fGrid_Name) = true)
    (mlGrid_Name : K.lookup fGrid_Name = some ⟨oc_Grid_Name, od_Grid_Name, .func (PySem.W.fnOf "name" "Grid.name" (defArgs sGrid_Name) (defBody sGrid_Name) (defScope sGrid_Name) .none kV_Grid_Name dc_Grid_Name pm_Grid_Name an_Grid_Name cd_Grid_Name ct_Grid_Name), sl_Grid_Name⟩) (mdGrid_Name : PySem.W.codeIn K cd_Grid_Name "Grid.name" = true)
    {fGrid_Areas : Addr} {oc_Grid_Areas kV_Grid_Areas dc_Grid_Areas pm_Grid_Areas cd_Grid_Areas ct_Grid_Areas : Value} {od_Grid_Areas an_Grid_Areas : Option Addr} {sl_Grid_Areas : Array (Option Value)}
    (miGrid_Areas : PySem.W.findIn K (.ref cGrid) "areas" = some (some (.ref fGrid_Areas))) (mfGrid_Areas : PySem.W.isFn K (.ref fGrid_Areas) = true) (mkGrid_Areas : PySem.W.keepIn K (.ref fGrid_Areas) = true)
    (mlGrid_Areas : K.lookup fGrid_Areas = some ⟨oc_Grid_Areas, od_Grid_Areas, .func (PySem.W.fnOf "areas" "Grid.areas" (defArgs sGrid_Areas) (defBody sGrid_Areas) (defScope sGrid_Areas) .none kV_Grid_Areas dc_Grid_Areas pm_Grid_Areas an_Grid_Areas cd_Grid_Areas ct_Grid_Areas), sl_Grid_Areas⟩) (mdGrid_Areas : PySem.W.codeIn K cd_Grid_Areas "Grid.areas" = true)
    {fGrid_Cells : Addr} {oc_Grid_Cells kV_Grid_Cells dc_Grid_Cells pm_Grid_Cells cd_Grid_Cells ct_Grid_Cells : Value} {od_Grid_Cells an_Grid_Cells : Option Addr} {sl_Grid_Cells : Array (Option Value)}
    (miGrid_Cells : PySem.W.findIn K (.ref cGrid) "cells" = some (some (.ref fGrid_Cells))) (mfGrid_Cells : PySem.W.isFn K (.ref fGrid_Cells) = true) (mkGrid_Cells : PySem.W.keepIn K (.ref fGrid_Cells) = true)
    (mlGrid_Cells : K.lookup fGrid_Cells = some ⟨oc_Grid_Cells, od_Grid_Cells, .func (PySem.W.fnOf "cells" "Grid.cells" (defArgs sGrid_Cells) (defBody sGrid_Cells) (defScope sGrid_Cells) .none kV_Grid_Cells dc_Grid_Cells pm_Grid_Cells an_Grid_Cells cd_Grid_Cells ct_Grid_Cells), sl_Grid_Cells⟩) (mdGrid_Cells : PySem.W.codeIn K cd_Grid_Cells "Grid.cells" = true)
    {fGrid_Copy : Addr} {oc_Grid_Copy kV_Grid_Copy dc_Grid_Copy pm_Grid_Copy cd_Grid_Copy ct_Grid_Copy : Value} {od_Grid_Copy an_Grid_Copy : Option Addr} {sl_Grid_Copy : Array (Option Value)}
    (miGrid_Copy : PySem.W.findIn K (.ref cGrid) "copy" = some (some (.ref fGrid_Copy))) (mfGrid_Copy : PySem.W.isFn K (.ref fGrid_Copy) = true) (mkGrid_Copy : PySem.W.keepIn K (.ref fGrid_Copy) = true)
    (mlGrid_Copy : K.lookup fGrid_Copy = some ⟨oc_Grid_Copy, od_Grid_Copy, .func (PySem.W.fnOf "copy" "Grid.copy" (defArgs sGrid_Copy) (defBody sGrid_Copy) (defScope sGrid_Copy) .none kV_Grid_Copy dc_Grid_Copy pm_Grid_Copy an_Grid_Copy cd_Grid_Copy ct_Grid_Copy), sl_Grid_Copy⟩) (mdGrid_Copy : PySem.W.codeIn K cd_Grid_Copy "Grid.copy" = true)
    (knGrid_rows : PySem.W.findIn K (.ref cGrid) "rows" = some none)
    (knGrid_columns : PySem.W.findIn K (.ref cGrid) "columns" = some none)
    (knGrid__contents : PySem.W.findIn K (.ref cGrid) "_contents" = some none)
    (knGrid__names : PySem.W.findIn K (.ref cGrid) "_names" = some none)
    {cTableError : Addr} (yaTableError : PySem.W.nsIn K mainGlobals "TableError" = some (some (.ref cTableError))) (ytTableError : PySem.W.typeIn K (.ref cTableError) = some (.type "type")) (yhTableError : PySem.W.hasDictIn K cTableError = true) (yeTableError : PySem.W.subIn K (.ref cTableError) (.type "BaseException") = some true)
    {cUnknownName : Addr} (yaUnknownName : PySem.W.nsIn K mainGlobals "UnknownName" = some (some (.ref cUnknownName))) (ytUnknownName : PySem.W.typeIn K (.ref cUnknownName) = some (.type "type")) (yhUnknownName : PySem.W.hasDictIn K cUnknownName = true) (yeUnknownName : PySem.W.subIn K (.ref cUnknownName) (.type "BaseException") = some true)
    {nm_UnknownName qn_UnknownName : Str} {N_UnknownName : Addr} {bs_UnknownName : List Value} {sn_UnknownName : List Str} {sb_UnknownName : List Value} {ab_UnknownName : Bool} {co_UnknownName : Option Bool} {dd_UnknownName : Option Addr} {m0_UnknownName m1_UnknownName m2_UnknownName m3_UnknownName m5_UnknownName : Option Value}
    (ycUnknownName : K.lookup cUnknownName = some (excClassObj nm_UnknownName qn_UnknownName cUnknownName N_UnknownName bs_UnknownName [.ref cTableError, .type "ValueError", .type "Exception", .type "BaseException", .type "object"] true sn_UnknownName sb_UnknownName ab_UnknownName co_UnknownName dd_UnknownName m0_UnknownName m1_UnknownName m2_UnknownName m3_UnknownName m5_UnknownName "ValueError.__new__"))
    (y1UnknownName : PySem.W.findIn K (.ref cUnknownName) "__setattr__" = some (some (.builtin "object.__setattr__"))) (y2UnknownName : PySem.W.findIn K (.ref cUnknownName) "__getattribute__" = some (some (.builtin "BaseException.__getattribute__"))) (y3UnknownName : PySem.W.findIn K (.ref cUnknownName) "__getattr__" = some none)
    (y4UnknownName : PySem.W.findIn K (.ref cUnknownName) "__class__" = some (some (.builtin "object.__class__"))) (y5UnknownName : PySem.W.specialIn K (.builtin "object.__class__") "__get__" = some (some (.builtin "getset_descriptor.__get__"))) (y6UnknownName : PySem.W.takesIn K (.builtin "object.__class__") = some true) (y7UnknownName : PySem.W.mroIn K cUnknownName (.type "object") = some true) (y8UnknownName : PySem.W.isClsIn K cUnknownName = true) (y9UnknownName : PySem.W.keepIn K (.ref cUnknownName) = true)
    {fUnknownName_Init : Addr} (yiUnknownName : PySem.W.findIn K (.ref cUnknownName) "__init__" = some (some (.ref fUnknownName_Init))) (yjUnknownName : PySem.W.typeIn K (.ref fUnknownName_Init) = some (.type "function"))
    {oc_UnknownName kV_UnknownName dc_UnknownName pm_UnknownName cd_UnknownName ct_UnknownName : Value} {od_UnknownName an_UnknownName : Option Addr} {sl_UnknownName : Array (Option Value)}
    (ylUnknownName : K.lookup fUnknownName_Init = some ⟨oc_UnknownName, od_UnknownName, .func (PySem.W.fnOf "__init__" "UnknownName.__init__" (defArgs sUnknownName_Init) (defBody sUnknownName_Init) (defScope sUnknownName_Init) .none kV_UnknownName dc_UnknownName pm_UnknownName an_UnknownName cd_UnknownName ct_UnknownName), sl_UnknownName⟩) (ydUnknownName : PySem.W.codeIn K cd_UnknownName "UnknownName.__init__" = true) (ykUnknownName : PySem.W.keepIn K (.ref fUnknownName_Init) = true)
    (ynUnknownName_word : PySem.W.findIn K (.ref cUnknownName) "word" = some none)
    (ysUnknownName_TableError : PySem.W.subIn K (.ref cUnknownName) (.ref cTableError) = some true)
    (ysUnknownName_UnknownName : PySem.W.subIn K (.ref cUnknownName) (.ref cUnknownName) = some true)
    : ∃ fd : FuncData, (∀ (s : Shared) (v : Value), BindsTo s fd ⟨[v], []⟩ [("script", v)]) ∧ ∀ base : Heap, K.In base → base.Ns mainGlobals mg → FnOk l.prog w K mg base CX0 18 fa fd ["script"] (spLaw K) := by
  have e := hfa.symm.trans (PySem.W.mg_of X G a56)
  cases e
  have F1 := fun_mk (st := sWall) l1 c1 k1
  have b1 := F1.binds (ps := ["k"]) fun _ _ _ _ _ _ us hl => match us, hl with | [_], _ => rfl
  have F2 := fun_mk (st := sFraction) l2 c2 k2
  have b2 := F2.binds (ps := ["n", "d"]) fun _ _ _ _ _ _ us hl => match us, hl with | [_, _], _ => rfl
  have F3 := fun_mk (st := sInRange) l3 c3 k3
  have b3 := F3.binds (ps := ["x"]) fun _ _ _ _ _ _ us hl => match us, hl with | [_], _ => rfl
  have F4 := fun_mk (st := sResult) l4 c4 k4
  have b4 := F4.binds (ps := ["n", "d"]) fun _ _ _ _ _ _ us hl => match us, hl with | [_, _], _ => rfl
  have F5 := fun_mk (st := sAdd) l5 c5 k5
  have b5 := F5.binds (ps := ["x", "y"]) fun _ _ _ _ _ _ us hl => match us, hl with | [_, _], _ => rfl
  have F6 := fun_mk (st := sSubtract) l6 c6 k6
  have b6 := F6.binds (ps := ["x", "y"]) fun _ _ _ _ _ _ us hl => match us, hl with | [_, _], _ => rfl
  have F7 := fun_mk (st := sMultiply) l7 c7 k7
  have b7 := F7.binds (ps := ["x", "y"]) fun _ _ _ _ _ _ us hl => match us, hl with | [_, _], _ => rfl
  have F8 := fun_mk (st := sDivide) l8 c8 k8
  have b8 := F8.binds (ps := ["x", "y"]) fun _ _ _ _ _ _ us hl => match us, hl with | [_, _], _ => rfl
  have F9 := fun_mk (st := sLess) l9 c9 k9
  have b9 := F9.binds (ps := ["x", "y"]) fun _ _ _ _ _ _ us hl => match us, hl with | [_, _], _ => rfl
  have F10 := fun_mk (st := sToldOf) l10 c10 k10
  have b10 := F10.binds (ps := ["grid", "word"]) fun _ _ _ _ _ _ us hl => match us, hl with | [_, _], _ => rfl
  have F11 := fun_mk (st := sCellsOf) l11 c11 k11
  have b11 := F11.binds (ps := ["block"]) fun _ _ _ _ _ _ us hl => match us, hl with | [_], _ => rfl
  have F12 := fun_mk (st := sFormulaOf) l12 c12 k12
  have b12 := F12.binds (ps := ["grid", "cell"]) fun _ _ _ _ _ _ us hl => match us, hl with | [_, _], _ => rfl
  have F13 := fun_mk (st := sIsFault) l13 c13 k13
  have b13 := F13.binds (ps := ["value"]) fun _ _ _ _ _ _ us hl => match us, hl with | [_], _ => rfl
  have F14 := fun_mk (st := sNumberValue) l14 c14 k14
  have b14 := F14.binds (ps := ["x"]) fun _ _ _ _ _ _ us hl => match us, hl with | [_], _ => rfl
  have F15 := fun_mk (st := sCellNumber) l15 c15 k15
  have b15 := F15.binds (ps := ["value"]) fun _ _ _ _ _ _ us hl => match us, hl with | [_], _ => rfl
  have F16 := fun_mk (st := sNegated) l16 c16 k16
  have b16 := F16.binds (ps := ["value"]) fun _ _ _ _ _ _ us hl => match us, hl with | [_], _ => rfl
  have F17 := fun_mk (st := sCalculated) l17 c17 k17
  have b17 := F17.binds (ps := ["sign", "left", "right"]) fun _ _ _ _ _ _ us hl => match us, hl with | [_, _, _], _ => rfl
  have F18 := fun_mk (st := sNamedAreas) l18 c18 k18
  have b18 := F18.binds (ps := ["grid", "word"]) fun _ _ _ _ _ _ us hl => match us, hl with | [_, _], _ => rfl
  have F19 := fun_mk (st := sVisited) l19 c19 k19
  have b19 := F19.binds (ps := ["grid", "areas", "known"]) fun _ _ _ _ _ _ us hl => match us, hl with | [_, _, _], _ => rfl
  have F20 := fun_mk (st := sTotal) l20 c20 k20
  have b20 := F20.binds (ps := ["numbers"]) fun _ _ _ _ _ _ us hl => match us, hl with | [_], _ => rfl
  have F21 := fun_mk (st := sOutermost) l21 c21 k21
  have b21 := F21.binds (ps := ["name", "numbers"]) fun _ _ _ _ _ _ us hl => match us, hl with | [_, _], _ => rfl
  have F22 := fun_mk (st := sCalled) l22 c22 k22
  have b22 := F22.binds (ps := ["name", "values"]) fun _ _ _ _ _ _ us hl => match us, hl with | [_, _], _ => rfl
  have F23 := fun_mk (st := sOperand) l23 c23 k23
  have b23 := F23.binds (ps := ["grid", "tree", "known"]) fun _ _ _ _ _ _ us hl => match us, hl with | [_, _, _], _ => rfl
  have F24 := fun_mk (st := sEvaluate) l24 c24 k24
  have b24 := F24.binds (ps := ["grid", "tree", "known"]) fun _ _ _ _ _ _ us hl => match us, hl with | [_, _, _], _ => rfl
  have F25 := fun_mk (st := sValueFrom) l25 c25 k25
  have b25 := F25.binds (ps := ["grid", "cell", "known"]) fun _ _ _ _ _ _ us hl => match us, hl with | [_, _, _], _ => rfl
  have F26 := fun_mk (st := sLawCell) l26 c26 k26
  have b26 := F26.binds (ps := ["script", "k"]) fun _ _ _ _ _ _ us hl => match us, hl with | [_, _], _ => rfl
  have F27 := fun_mk (st := sLawDigits) l27 c27 k27
  have b27 := F27.binds (ps := ["script", "first", "last"]) fun _ _ _ _ _ _ us hl => match us, hl with | [_, _, _], _ => rfl
  have F28 := fun_mk (st := sLawDraw) l28 c28 k28
  have b28 := F28.binds (ps := ["box", "many"]) fun _ _ _ _ _ _ us hl => match us, hl with | [_, _], _ => rfl
  have F29 := fun_mk (st := sLawGcd) l29 c29 k29
  have b29 := F29.binds (ps := ["a", "b"]) fun _ _ _ _ _ _ us hl => match us, hl with | [_, _], _ => rfl
  have F30 := fun_mk (st := sLawLowest) l30 c30 k30
  have b30 := F30.binds (ps := ["n", "d"]) fun _ _ _ _ _ _ us hl => match us, hl with | [_, _], _ => rfl
  have F31 := fun_mk (st := sLawDigitText) l31 c31 k31
  have b31 := F31.binds (ps := ["box", "many"]) fun _ _ _ _ _ _ us hl => match us, hl with | [_, _], _ => rfl
  have F32 := fun_mk (st := sLawAddress) l32 c32 k32
  have b32 := F32.binds (ps := ["row", "column"]) fun _ _ _ _ _ _ us hl => match us, hl with | [_, _], _ => rfl
  have F33 := fun_mk (st := sLawWord) l33 c33 k33
  have b33 := F33.binds (ps := ["box"]) fun _ _ _ _ _ _ us hl => match us, hl with | [_], _ => rfl
  have F34 := fun_mk (st := sLawLeaf) l34 c34 k34
  have b34 := F34.binds (ps := ["box", "rows", "columns"]) fun _ _ _ _ _ _ us hl => match us, hl with | [_, _, _], _ => rfl
  have F35 := fun_mk (st := sLawArea) l35 c35 k35
  have b35 := F35.binds (ps := ["box", "rows", "columns"]) fun _ _ _ _ _ _ us hl => match us, hl with | [_, _, _], _ => rfl
  have F36 := fun_mk (st := sLawInside) l36 c36 k36
  have b36 := F36.binds (ps := ["box", "node", "least"]) fun _ _ _ _ _ _ us hl => match us, hl with | [_, _, _], _ => rfl
  have F37 := fun_mk (st := sLawCall) l37 c37 k37
  have b37 := F37.binds (ps := ["box", "rows", "columns"]) fun _ _ _ _ _ _ us hl => match us, hl with | [_, _, _], _ => rfl
  have F38 := fun_mk (st := sLawNode) l38 c38 k38
  have b38 := F38.binds (ps := ["box", "rows", "columns", "depth"]) fun _ _ _ _ _ _ us hl => match us, hl with | [_, _, _, _], _ => rfl
  have F39 := fun_mk (st := sLawBig) l39 c39 k39
  have b39 := F39.binds (ps := ["box", "size"]) fun _ _ _ _ _ _ us hl => match us, hl with | [_, _], _ => rfl
  have F40 := fun_mk (st := sLawSame) l40 c40 k40
  have b40 := F40.binds (ps := ["actual", "due"]) fun _ _ _ _ _ _ us hl => match us, hl with | [_, _], _ => rfl
  have F41 := fun_mk (st := sLawFraction) l41 c41 k41
  have b41 := F41.binds (ps := ["box"]) fun _ _ _ _ _ _ us hl => match us, hl with | [_], _ => rfl
  have F42 := fun_mk (st := sLawInRange) l42 c42 k42
  have b42 := F42.binds (ps := ["x"]) fun _ _ _ _ _ _ us hl => match us, hl with | [_], _ => rfl
  have F43 := fun_mk (st := sLawOperate) l43 c43 k43
  have b43 := F43.binds (ps := ["sign", "left", "right"]) fun _ _ _ _ _ _ us hl => match us, hl with | [_, _, _], _ => rfl
  have F44 := fun_mk (st := sLawVisit) l44 c44 k44
  have b44 := F44.binds (ps := ["names", "areas", "known", "numbers"]) fun _ _ _ _ _ _ us hl => match us, hl with | [_, _, _, _], _ => rfl
  have F45 := fun_mk (st := sLawOwnCall) l45 c45 k45
  have b45 := F45.binds (ps := ["names", "tree", "known"]) fun _ _ _ _ _ _ us hl => match us, hl with | [_, _, _], _ => rfl
  have F46 := fun_mk (st := sLawNumberOf) l46 c46 k46
  have b46 := F46.binds (ps := ["names", "tree", "known"]) fun _ _ _ _ _ _ us hl => match us, hl with | [_, _, _], _ => rfl
  have F47 := fun_mk (st := sLawOwnValue) l47 c47 k47
  have b47 := F47.binds (ps := ["names", "tree", "known"]) fun _ _ _ _ _ _ us hl => match us, hl with | [_, _, _], _ => rfl
  have F48 := fun_mk (st := sLawNames) l48 c48 k48
  have b48 := F48.binds (ps := ["box", "rows", "columns"]) fun _ _ _ _ _ _ us hl => match us, hl with | [_, _, _], _ => rfl
  have F49 := fun_mk (st := sLawSetNames) l49 c49 k49
  have b49 := F49.binds (ps := ["grid", "names"]) fun _ _ _ _ _ _ us hl => match us, hl with | [_, _], _ => rfl
  have F50 := fun_mk (st := sLawContent) l50 c50 k50
  have b50 := F50.binds (ps := ["box", "rows", "columns", "depth"]) fun _ _ _ _ _ _ us hl => match us, hl with | [_, _, _, _], _ => rfl
  have F51 := fun_mk (st := sLawNear) l51 c51 k51
  have b51 := F51.binds (ps := ["tree"]) fun _ _ _ _ _ _ us hl => match us, hl with | [_], _ => rfl
  have F52 := fun_mk (st := sLawWorld) l52 c52 k52
  have b52 := F52.binds (ps := ["box"]) fun _ _ _ _ _ _ us hl => match us, hl with | [_], _ => rfl
  have F53 := fun_mk (st := sLawGrid) l53 c53 k53
  have b53 := F53.binds (ps := ["world"]) fun _ _ _ _ _ _ us hl => match us, hl with | [_], _ => rfl
  have F54 := fun_mk (st := sLawValue) l54 c54 k54
  have b54 := F54.binds (ps := ["box"]) fun _ _ _ _ _ _ us hl => match us, hl with | [_], _ => rfl
  have F55 := fun_mk (st := sLawKnown) l55 c55 k55
  have b55 := F55.binds (ps := ["box", "rows", "columns"]) fun _ _ _ _ _ _ us hl => match us, hl with | [_, _, _], _ => rfl
  have F56 := fun_mk (st := sLaw) l56 c56 k56
  have b56 := F56.binds (ps := ["script"]) fun _ _ _ _ _ _ us hl => match us, hl with | [_], _ => rfl
  have FGrid_Init := fun_mk (st := sGrid_Init) mlGrid_Init mdGrid_Init mkGrid_Init
  have bGrid_Init := FGrid_Init.binds (ps := ["self", "rows", "columns"]) fun _ _ _ _ _ _ us hl => match us, hl with | [_, _, _], _ => rfl
  have FGrid_Put := fun_mk (st := sGrid_Put) mlGrid_Put mdGrid_Put mkGrid_Put
  have bGrid_Put := FGrid_Put.binds (ps := ["self", "cell", "shown"]) fun _ _ _ _ _ _ us hl => match us, hl with | [_, _, _], _ => rfl
  have FGrid_Shown := fun_mk (st := sGrid_Shown) mlGrid_Shown mdGrid_Shown mkGrid_Shown
  have bGrid_Shown := FGrid_Shown.binds (ps := ["self", "cell"]) fun _ _ _ _ _ _ us hl => match us, hl with | [_, _], _ => rfl
  have FGrid_Name := fun_mk (st := sGrid_Name) mlGrid_Name mdGrid_Name mkGrid_Name
  have bGrid_Name := FGrid_Name.binds (ps := ["self", "word", "areas"]) fun _ _ _ _ _ _ us hl => match us, hl with | [_, _, _], _ => rfl
  have FGrid_Areas := fun_mk (st := sGrid_Areas) mlGrid_Areas mdGrid_Areas mkGrid_Areas
  have bGrid_Areas := FGrid_Areas.binds (ps := ["self", "word"]) fun _ _ _ _ _ _ us hl => match us, hl with | [_, _], _ => rfl
  have FGrid_Cells := fun_mk (st := sGrid_Cells) mlGrid_Cells mdGrid_Cells mkGrid_Cells
  have bGrid_Cells := FGrid_Cells.binds (ps := ["self"]) fun _ _ _ _ _ _ us hl => match us, hl with | [_], _ => rfl
  have FGrid_Copy := fun_mk (st := sGrid_Copy) mlGrid_Copy mdGrid_Copy mkGrid_Copy
  have bGrid_Copy := FGrid_Copy.binds (ps := ["self"]) fun _ _ _ _ _ _ us hl => match us, hl with | [_], _ => rfl
  have FUnknownName_Init := fun_mk (st := sUnknownName_Init) ylUnknownName ydUnknownName ykUnknownName
  have bUnknownName_Init := FUnknownName_Init.binds (ps := ["self", "word"]) fun _ _ _ _ _ _ us hl => match us, hl with | [_, _], _ => rfl
  exact ⟨PySem.W.fnOf "law" "law" (defArgs sLaw) (defBody sLaw) (defScope sLaw) .none kV56 dc56 pm56 an56 cd56 ct56, fun s v => .of_eq rfl, fun base _ _ => okLaw (P := l.prog) (w := w) (base := base) (⟨f1, _, F1, b1, PySem.W.mg_of X G a1, f2, _, F2, b2, PySem.W.mg_of X G a2, f3, _, F3, b3, PySem.W.mg_of X G a3, f4, _, F4, b4, PySem.W.mg_of X G a4, f5, _, F5, b5, PySem.W.mg_of X G a5, f6, _, F6, b6, PySem.W.mg_of X G a6, f7, _, F7, b7, PySem.W.mg_of X G a7, f8, _, F8, b8, PySem.W.mg_of X G a8, f9, _, F9, b9, PySem.W.mg_of X G a9, f10, _, F10, b10, PySem.W.mg_of X G a10, f11, _, F11, b11, PySem.W.mg_of X G a11, f12, _, F12, b12, PySem.W.mg_of X G a12, f13, _, F13, b13, PySem.W.mg_of X G a13, f14, _, F14, b14, PySem.W.mg_of X G a14, f15, _, F15, b15, PySem.W.mg_of X G a15, f16, _, F16, b16, PySem.W.mg_of X G a16, f17, _, F17, b17, PySem.W.mg_of X G a17, f18, _, F18, b18, PySem.W.mg_of X G a18, f19, _, F19, b19, PySem.W.mg_of X G a19, f20, _, F20, b20, PySem.W.mg_of X G a20, f21, _, F21, b21, PySem.W.mg_of X G a21, f22, _, F22, b22, PySem.W.mg_of X G a22, f23, _, F23, b23, PySem.W.mg_of X G a23, f24, _, F24, b24, PySem.W.mg_of X G a24, f25, _, F25, b25, PySem.W.mg_of X G a25, f26, _, F26, b26, PySem.W.mg_of X G a26, f27, _, F27, b27, PySem.W.mg_of X G a27, f28, _, F28, b28, PySem.W.mg_of X G a28, f29, _, F29, b29, PySem.W.mg_of X G a29, f30, _, F30, b30, PySem.W.mg_of X G a30, f31, _, F31, b31, PySem.W.mg_of X G a31, f32, _, F32, b32, PySem.W.mg_of X G a32, f33, _, F33, b33, PySem.W.mg_of X G a33, f34, _, F34, b34, PySem.W.mg_of X G a34, f35, _, F35, b35, PySem.W.mg_of X G a35, f36, _, F36, b36, PySem.W.mg_of X G a36, f37, _, F37, b37, PySem.W.mg_of X G a37, f38, _, F38, b38, PySem.W.mg_of X G a38, f39, _, F39, b39, PySem.W.mg_of X G a39, f40, _, F40, b40, PySem.W.mg_of X G a40, f41, _, F41, b41, PySem.W.mg_of X G a41, f42, _, F42, b42, PySem.W.mg_of X G a42, f43, _, F43, b43, PySem.W.mg_of X G a43, f44, _, F44, b44, PySem.W.mg_of X G a44, f45, _, F45, b45, PySem.W.mg_of X G a45, f46, _, F46, b46, PySem.W.mg_of X G a46, f47, _, F47, b47, PySem.W.mg_of X G a47, f48, _, F48, b48, PySem.W.mg_of X G a48, f49, _, F49, b49, PySem.W.mg_of X G a49, f50, _, F50, b50, PySem.W.mg_of X G a50, f51, _, F51, b51, PySem.W.mg_of X G a51, f52, _, F52, b52, PySem.W.mg_of X G a52, f53, _, F53, b53, PySem.W.mg_of X G a53, f54, _, F54, b54, PySem.W.mg_of X G a54, f55, _, F55, b55, PySem.W.mg_of X G a55, fa, _, F56, b56, PySem.W.mg_of X G a56, PySem.W.mg_none_of X G z_range, PySem.W.mg_none_of X G z_abs, PySem.W.mg_none_of X G z_isinstance, PySem.W.mg_none_of X G z_bool, PySem.W.mg_none_of X G z_str, PySem.W.mg_none_of X G z_sorted, PySem.W.mg_none_of X G z_len, PySem.W.mg_none_of X G z_list, PySem.W.mg_none_of X G z_min, PySem.W.mg_none_of X G z_max, PySem.W.mg_none_of X G z_tuple, PySem.W.mg_none_of X G z_int, t_NO_NAME, PySem.W.mg_of X G x_NO_NAME, PySem.W.mg_of X G x_gcd, t_LIMIT, PySem.W.mg_of X G x_LIMIT, ap_BLANK, PySem.W.mg_of X G x_BLANK, fun H => .inr ⟨_, _, _, y_BLANK, rfl, rfl, (by show 1 ≤ sizeLine; decide), (.cons ⟨_, rfl⟩ .nil)⟩, ⟨_, y_BLANK, rfl, rfl⟩, ap_ZERO, PySem.W.mg_of X G x_ZERO, fun H => .inr ⟨_, _, _, y_ZERO, rfl, rfl, (by show 2 ≤ sizeLine; decide), (.cons ⟨_, rfl⟩ (.cons ⟨_, rfl⟩ .nil))⟩, ⟨_, y_ZERO, rfl, rfl⟩, ap_CLASH, PySem.W.mg_of X G x_CLASH, fun H => .inr ⟨_, _, _, y_CLASH, rfl, rfl, (by show 2 ≤ sizeLine; decide), (.cons ⟨_, rfl⟩ (.cons ⟨_, rfl⟩ .nil))⟩, ⟨_, y_CLASH, rfl, rfl⟩, ap_GONE_FAULT, PySem.W.mg_of X G x_GONE_FAULT, fun H => .inr ⟨_, _, _, y_GONE_FAULT, rfl, rfl, (by show 2 ≤ sizeLine; decide), (.cons ⟨_, rfl⟩ (.cons ⟨_, rfl⟩ .nil))⟩, ⟨_, y_GONE_FAULT, rfl, rfl⟩, ap_UNKNOWN, PySem.W.mg_of X G x_UNKNOWN, fun H => .inr ⟨_, _, _, y_UNKNOWN, rfl, rfl, (by show 2 ≤ sizeLine; decide), (.cons ⟨_, rfl⟩ (.cons ⟨_, rfl⟩ .nil))⟩, ⟨_, y_UNKNOWN, rfl, rfl⟩, ap_NO_NUMBER, PySem.W.mg_of X G x_NO_NUMBER, fun H => .inr ⟨_, _, _, y_NO_NUMBER, rfl, rfl, (by show 2 ≤ sizeLine; decide), (.cons ⟨_, rfl⟩ (.cons ⟨_, rfl⟩ .nil))⟩, ⟨_, y_NO_NUMBER, rfl, rfl⟩, ap_BY_ZERO, PySem.W.mg_of X G x_BY_ZERO, fun H => .inr ⟨_, _, _, y_BY_ZERO, rfl, rfl, (by show 2 ≤ sizeLine; decide), (.cons ⟨_, rfl⟩ (.cons ⟨_, rfl⟩ .nil))⟩, ⟨_, y_BY_ZERO, rfl, rfl⟩, ap_NOT_IN_RANGE, PySem.W.mg_of X G x_NOT_IN_RANGE, fun H => .inr ⟨_, _, _, y_NOT_IN_RANGE, rfl, rfl, (by show 2 ≤ sizeLine; decide), (.cons ⟨_, rfl⟩ (.cons ⟨_, rfl⟩ .nil))⟩, ⟨_, y_NOT_IN_RANGE, rfl, rfl⟩, ap_OF_NONE, PySem.W.mg_of X G x_OF_NONE, fun H => .inr ⟨_, _, _, y_OF_NONE, rfl, rfl, (by show 2 ≤ sizeLine; decide), (.cons ⟨_, rfl⟩ (.cons ⟨_, rfl⟩ .nil))⟩, ⟨_, y_OF_NONE, rfl, rfl⟩, cGrid, PySem.W.mg_of X G kaGrid, ⟨kbGrid, kcGrid, kdGrid, keGrid⟩, fGrid_Init, _, FGrid_Init, bGrid_Init, ⟨miGrid_Init, mfGrid_Init, mkGrid_Init⟩, fGrid_Put, _, FGrid_Put, bGrid_Put, ⟨miGrid_Put, mfGrid_Put, mkGrid_Put⟩, fGrid_Shown, _, FGrid_Shown, bGrid_Shown, ⟨miGrid_Shown, mfGrid_Shown, mkGrid_Shown⟩, fGrid_Name, _, FGrid_Name, bGrid_Name, ⟨miGrid_Name, mfGrid_Name, mkGrid_Name⟩, fGrid_Areas, _, FGrid_Areas, bGrid_Areas, ⟨miGrid_Areas, mfGrid_Areas, mkGrid_Areas⟩, fGrid_Cells, _, FGrid_Cells, bGrid_Cells, ⟨miGrid_Cells, mfGrid_Cells, mkGrid_Cells⟩, fGrid_Copy, _, FGrid_Copy, bGrid_Copy, ⟨miGrid_Copy, mfGrid_Copy, mkGrid_Copy⟩, ⟨kfGrid, miGrid_Init, mfGrid_Init, kgGrid⟩, knGrid_rows, knGrid_columns, knGrid__contents, knGrid__names, cTableError, PySem.W.mg_of X G yaTableError, cUnknownName, PySem.W.mg_of X G yaUnknownName, ⟨⟨_, _, _, _, _, _, _, _, _, _, _, _, _, _, _, ycUnknownName, by first | rfl | decide +kernel⟩, y1UnknownName, yeUnknownName, ytUnknownName, y9UnknownName⟩, ⟨y2UnknownName, y3UnknownName, yeUnknownName, yhUnknownName⟩, ⟨y8UnknownName, ⟨y2UnknownName, y3UnknownName, yeUnknownName, yhUnknownName⟩, y4UnknownName, y5UnknownName, y6UnknownName, y7UnknownName⟩, fUnknownName_Init, _, FUnknownName_Init, bUnknownName_Init, yiUnknownName, yjUnknownName, ynUnknownName_word, PySem.W.exm_ref yeTableError yhTableError ytTableError ysUnknownName_TableError, PySem.W.exm_ref yeUnknownName yhUnknownName ytUnknownName ysUnknownName_UnknownName, kit_self⟩ : Txt K mg)⟩
theorem walk {l : PySem.W.OpenLaw} {q : Program} {loose : List Str} {XP : (Str → Option Value) → Heap → Prop} {YP : World → Heap → Prop} {d : DefRec} {K : Params → PySem.W.Frag} (hn : l.most = some 63) (hdf : d.params.defaults = [])
    (hY : ∀ (w : World) (h : Heap), YP w h → (K w.params).In h)
    (F : ∀ (w : World) (mg : Str → Option Value) (fa : Addr) (h : Heap), (K w.params).In h → h.Ns mainGlobals mg → mg d.name = some (.ref fa) →
      ∃ fd : FuncData, (∀ (s : Shared) (u : Value), BindsTo s fd ⟨[u], []⟩ [("script", u)]) ∧ ∀ base : Heap, (K w.params).In base → base.Ns mainGlobals mg → FnOk l.prog w (K w.params) mg base CX0 18 fa fd ["script"] (spLaw (K w.params))) :
    PySem.W.WalkO q loose XP YP l.row.toRowW d [] (fun f vs => PySem.call f vs) :=
  L2.walk_of (n := 63) (k := 18) (x := "script") (CX := fun _ => CX0) (sp := fun w => spLaw (K w.params)) hn (by decide) hdf ⟨rfl, by decide, by decide⟩ hY F (fun _ _ a ns hl _ hS => ⟨a, ns, rfl, hS, hl, fun _ => rfl⟩) fun _ _ _ _ _ z => z
end My
open PySem PySem.W PyProof.Rows
set_option maxRecDepth 100000 in
set_option maxHeartbeats 0 in
theorem PySem.Challenge.cw_tablemates_k21_value_of_a_cell_holds : PySem.Challenge.rw_tablemates_k21_value_of_a_cell.Holds := by
  w_on; o_law; k_head; (case hw => w_witness2)
  k_fill
  refine My.walk (l := PySem.Challenge.rw_tablemates_k21_value_of_a_cell) rfl rfl (fun w h Y => PySem.W.kIn_of Y) ?F
  case F =>
    intro w mg fa h KX G hmg
    refine' My.all_mk KX G hmg ?a1 ?l1 ?c1 ?k1 ?a2 ?l2 ?c2 ?k2 ?a3 ?l3 ?c3 ?k3 ?a4 ?l4 ?c4 ?k4 ?a5 ?l5 ?c5 ?k5 ?a6 ?l6 ?c6 ?k6 ?a7 ?l7 ?c7 ?k7 ?a8 ?l8 ?c8 ?k8 ?a9 ?l9 ?c9 ?k9 ?a10 ?l10 ?c10 ?k10 ?a11 ?l11 ?c11 ?k11 ?a12 ?l12 ?c12 ?k12 ?a13 ?l13 ?c13 ?k13 ?a14 ?l14 ?c14 ?k14 ?a15 ?l15 ?c15 ?k15 ?a16 ?l16 ?c16 ?k16 ?a17 ?l17 ?c17 ?k17 ?a18 ?l18 ?c18 ?k18 ?a19 ?l19 ?c19 ?k19 ?a20 ?l20 ?c20 ?k20 ?a21 ?l21 ?c21 ?k21 ?a22 ?l22 ?c22 ?k22 ?a23 ?l23 ?c23 ?k23 ?a24 ?l24 ?c24 ?k24 ?a25 ?l25 ?c25 ?k25 ?a26 ?l26 ?c26 ?k26 ?a27 ?l27 ?c27 ?k27 ?a28 ?l28 ?c28 ?k28 ?a29 ?l29 ?c29 ?k29 ?a30 ?l30 ?c30 ?k30 ?a31 ?l31 ?c31 ?k31 ?a32 ?l32 ?c32 ?k32 ?a33 ?l33 ?c33 ?k33 ?a34 ?l34 ?c34 ?k34 ?a35 ?l35 ?c35 ?k35 ?a36 ?l36 ?c36 ?k36 ?a37 ?l37 ?c37 ?k37 ?a38 ?l38 ?c38 ?k38 ?a39 ?l39 ?c39 ?k39 ?a40 ?l40 ?c40 ?k40 ?a41 ?l41 ?c41 ?k41 ?a42 ?l42 ?c42 ?k42 ?a43 ?l43 ?c43 ?k43 ?a44 ?l44 ?c44 ?k44 ?a45 ?l45 ?c45 ?k45 ?a46 ?l46 ?c46 ?k46 ?a47 ?l47 ?c47 ?k47 ?a48 ?l48 ?c48 ?k48 ?a49 ?l49 ?c49 ?k49 ?a50 ?l50 ?c50 ?k50 ?a51 ?l51 ?c51 ?k51 ?a52 ?l52 ?c52 ?k52 ?a53 ?l53 ?c53 ?k53 ?a54 ?l54 ?c54 ?k54 ?a55 ?l55 ?c55 ?k55 ?a56 ?l56 ?c56 ?k56 ?z_range ?z_abs ?z_isinstance ?z_bool ?z_str ?z_sorted ?z_len ?z_list ?z_min ?z_max ?z_tuple ?z_int ?x_NO_NAME ?x_gcd ?x_LIMIT ?x_BLANK ?y_BLANK ?x_ZERO ?y_ZERO ?x_CLASH ?y_CLASH ?x_GONE_FAULT ?y_GONE_FAULT ?x_UNKNOWN ?y_UNKNOWN ?x_NO_NUMBER ?y_NO_NUMBER ?x_BY_ZERO ?y_BY_ZERO ?x_NOT_IN_RANGE ?y_NOT_IN_RANGE ?x_OF_NONE ?y_OF_NONE ?kaGrid ?kbGrid ?kcGrid ?kdGrid ?keGrid ?kfGrid ?kgGrid ?miGrid_Init ?mfGrid_Init ?mkGrid_Init ?mlGrid_Init ?mdGrid_Init ?miGrid_Put ?mfGrid_Put ?mkGrid_Put ?mlGrid_Put ?mdGrid_Put ?miGrid_Shown ?mfGrid_Shown ?mkGrid_Shown ?mlGrid_Shown ?mdGrid_Shown ?miGrid_Name ?mfGrid_Name ?mkGrid_Name ?mlGrid_Name ?mdGrid_Name ?miGrid_Areas ?mfGrid_Areas ?mkGrid_Areas ?mlGrid_Areas ?mdGrid_Areas ?miGrid_Cells ?mfGrid_Cells ?mkGrid_Cells ?mlGrid_Cells ?mdGrid_Cells ?miGrid_Copy ?mfGrid_Copy ?mkGrid_Copy ?mlGrid_Copy ?mdGrid_Copy ?knGrid_rows ?knGrid_columns ?knGrid__contents ?knGrid__names ?yaTableError ?ytTableError ?yhTableError ?yeTableError ?yaUnknownName ?ytUnknownName ?yhUnknownName ?yeUnknownName ?ycUnknownName ?y1UnknownName ?y2UnknownName ?y3UnknownName ?y4UnknownName ?y5UnknownName ?y6UnknownName ?y7UnknownName ?y8UnknownName ?y9UnknownName ?yiUnknownName ?yjUnknownName ?ylUnknownName ?ydUnknownName ?ykUnknownName ?ynUnknownName_word ?ysUnknownName_TableError ?ysUnknownName_UnknownName
    (case a1 => k_is); (case l1 => k_is); (case c1 => k_is); (case k1 => k_is); (case a2 => k_is); (case l2 => k_is); (case c2 => k_is); (case k2 => k_is); (case a3 => k_is); (case l3 => k_is); (case c3 => k_is); (case k3 => k_is); (case a4 => k_is); (case l4 => k_is); (case c4 => k_is); (case k4 => k_is); (case a5 => k_is); (case l5 => k_is); (case c5 => k_is); (case k5 => k_is); (case a6 => k_is); (case l6 => k_is); (case c6 => k_is); (case k6 => k_is); (case a7 => k_is); (case l7 => k_is); (case c7 => k_is); (case k7 => k_is); (case a8 => k_is); (case l8 => k_is); (case c8 => k_is); (case k8 => k_is); (case a9 => k_is); (case l9 => k_is); (case c9 => k_is); (case k9 => k_is); (case a10 => k_is); (case l10 => k_is); (case c10 => k_is); (case k10 => k_is); (case a11 => k_is); (case l11 => k_is); (case c11 => k_is); (case k11 => k_is); (case a12 => k_is); (case l12 => k_is); (case c12 => k_is); (case k12 => k_is); (case a13 => k_is); (case l13 => k_is); (case c13 => k_is); (case k13 => k_is); (case a14 => k_is); (case l14 => k_is); (case c14 => k_is); (case k14 => k_is); (case a15 => k_is); (case l15 => k_is); (case c15 => k_is); (case k15 => k_is); (case a16 => k_is); (case l16 => k_is); (case c16 => k_is); (case k16 => k_is); (case a17 => k_is); (case l17 => k_is); (case c17 => k_is); (case k17 => k_is); (case a18 => k_is); (case l18 => k_is); (case c18 => k_is); (case k18 => k_is); (case a19 => k_is); (case l19 => k_is); (case c19 => k_is); (case k19 => k_is); (case a20 => k_is); (case l20 => k_is); (case c20 => k_is); (case k20 => k_is); (case a21 => k_is); (case l21 => k_is); (case c21 => k_is); (case k21 => k_is); (case a22 => k_is); (case l22 => k_is); (case c22 => k_is); (case k22 => k_is); (case a23 => k_is); (case l23 => k_is); (case c23 => k_is); (case k23 => k_is); (case a24 => k_is); (case l24 => k_is); (case c24 => k_is); (case k24 => k_is); (case a25 => k_is); (case l25 => k_is); (case c25 => k_is); (case k25 => k_is); (case a26 => k_is); (case l26 => k_is); (case c26 => k_is); (case k26 => k_is); (case a27 => k_is); (case l27 => k_is); (case c27 => k_is); (case k27 => k_is); (case a28 => k_is); (case l28 => k_is); (case c28 => k_is); (case k28 => k_is); (case a29 => k_is); (case l29 => k_is); (case c29 => k_is); (case k29 => k_is); (case a30 => k_is); (case l30 => k_is); (case c30 => k_is); (case k30 => k_is); (case a31 => k_is); (case l31 => k_is); (case c31 => k_is); (case k31 => k_is); (case a32 => k_is); (case l32 => k_is); (case c32 => k_is); (case k32 => k_is); (case a33 => k_is); (case l33 => k_is); (case c33 => k_is); (case k33 => k_is); (case a34 => k_is); (case l34 => k_is); (case c34 => k_is); (case k34 => k_is); (case a35 => k_is); (case l35 => k_is); (case c35 => k_is); (case k35 => k_is); (case a36 => k_is); (case l36 => k_is); (case c36 => k_is); (case k36 => k_is); (case a37 => k_is); (case l37 => k_is); (case c37 => k_is); (case k37 => k_is); (case a38 => k_is); (case l38 => k_is); (case c38 => k_is); (case k38 => k_is); (case a39 => k_is); (case l39 => k_is); (case c39 => k_is); (case k39 => k_is); (case a40 => k_is); (case l40 => k_is); (case c40 => k_is); (case k40 => k_is); (case a41 => k_is); (case l41 => k_is); (case c41 => k_is); (case k41 => k_is); (case a42 => k_is); (case l42 => k_is); (case c42 => k_is); (case k42 => k_is); (case a43 => k_is); (case l43 => k_is); (case c43 => k_is); (case k43 => k_is); (case a44 => k_is); (case l44 => k_is); (case c44 => k_is); (case k44 => k_is); (case a45 => k_is); (case l45 => k_is); (case c45 => k_is); (case k45 => k_is); (case a46 => k_is); (case l46 => k_is); (case c46 => k_is); (case k46 => k_is); (case a47 => k_is); (case l47 => k_is); (case c47 => k_is); (case k47 => k_is); (case a48 => k_is); (case l48 => k_is); (case c48 => k_is); (case k48 => k_is); (case a49 => k_is); (case l49 => k_is); (case c49 => k_is); (case k49 => k_is); (case a50 => k_is); (case l50 => k_is); (case c50 => k_is); (case k50 => k_is); (case a51 => k_is); (case l51 => k_is); (case c51 => k_is); (case k51 => k_is); (case a52 => k_is); (case l52 => k_is); (case c52 => k_is); (case k52 => k_is); (case a53 => k_is); (case l53 => k_is); (case c53 => k_is); (case k53 => k_is); (case a54 => k_is); (case l54 => k_is); (case c54 => k_is); (case k54 => k_is); (case a55 => k_is); (case l55 => k_is); (case c55 => k_is); (case k55 => k_is); (case a56 => k_is); (case l56 => k_is); (case c56 => k_is); (case k56 => k_is); (case z_range => k_is); (case z_abs => k_is); (case z_isinstance => k_is); (case z_bool => k_is); (case z_str => k_is); (case z_sorted => k_is); (case z_len => k_is); (case z_list => k_is); (case z_min => k_is); (case z_max => k_is); (case z_tuple => k_is); (case z_int => k_is); (case x_NO_NAME => k_is); (case x_gcd => k_is); (case x_LIMIT => k_is); (case x_BLANK => k_is); (case y_BLANK => k_is); (case x_ZERO => k_is); (case y_ZERO => k_is); (case x_CLASH => k_is); (case y_CLASH => k_is); (case x_GONE_FAULT => k_is); (case y_GONE_FAULT => k_is); (case x_UNKNOWN => k_is); (case y_UNKNOWN => k_is); (case x_NO_NUMBER => k_is); (case y_NO_NUMBER => k_is); (case x_BY_ZERO => k_is); (case y_BY_ZERO => k_is); (case x_NOT_IN_RANGE => k_is); (case y_NOT_IN_RANGE => k_is); (case x_OF_NONE => k_is); (case y_OF_NONE => k_is); (case kaGrid => k_is); (case kbGrid => k_is); (case kcGrid => k_is); (case kdGrid => k_is); (case keGrid => k_is); (case kfGrid => k_is); (case kgGrid => k_is); (case miGrid_Init => k_is); (case mfGrid_Init => k_is); (case mkGrid_Init => k_is); (case mlGrid_Init => k_is); (case mdGrid_Init => k_is); (case miGrid_Put => k_is); (case mfGrid_Put => k_is); (case mkGrid_Put => k_is); (case mlGrid_Put => k_is); (case mdGrid_Put => k_is); (case miGrid_Shown => k_is); (case mfGrid_Shown => k_is); (case mkGrid_Shown => k_is); (case mlGrid_Shown => k_is); (case mdGrid_Shown => k_is); (case miGrid_Name => k_is); (case mfGrid_Name => k_is); (case mkGrid_Name => k_is); (case mlGrid_Name => k_is); (case mdGrid_Name => k_is); (case miGrid_Areas => k_is); (case mfGrid_Areas => k_is); (case mkGrid_Areas => k_is); (case mlGrid_Areas => k_is); (case mdGrid_Areas => k_is); (case miGrid_Cells => k_is); (case mfGrid_Cells => k_is); (case mkGrid_Cells => k_is); (case mlGrid_Cells => k_is); (case mdGrid_Cells => k_is); (case miGrid_Copy => k_is); (case mfGrid_Copy => k_is); (case mkGrid_Copy => k_is); (case mlGrid_Copy => k_is); (case mdGrid_Copy => k_is); (case knGrid_rows => k_is); (case knGrid_columns => k_is); (case knGrid__contents => k_is); (case knGrid__names => k_is); (case yaTableError => k_is); (case ytTableError => k_is); (case yhTableError => k_is); (case yeTableError => k_is); (case yaUnknownName => k_is); (case ytUnknownName => k_is); (case yhUnknownName => k_is); (case yeUnknownName => k_is); (case ycUnknownName => k_is); (case y1UnknownName => k_is); (case y2UnknownName => k_is); (case y3UnknownName => k_is); (case y4UnknownName => k_is); (case y5UnknownName => k_is); (case y6UnknownName => k_is); (case y7UnknownName => k_is); (case y8UnknownName => k_is); (case y9UnknownName => k_is); (case yiUnknownName => k_is); (case yjUnknownName => k_is); (case ylUnknownName => k_is); (case ydUnknownName => k_is); (case ykUnknownName => k_is); (case ynUnknownName_word => k_is); (case ysUnknownName_TableError => first | rfl | k_is | kit_is); (case ysUnknownName_UnknownName => first | rfl | k_is | kit_is)

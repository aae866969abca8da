import PyProof.Rows.All
import Wide.All
import OpenK.AllK
import Wide.FinOn
import HandS.ForMost
import HandS.Zip
import HandS.Walk
import HandS.Deep
import HandS.Conv
import HandS.Style
import HandS.SortInts
import HandS.Codes
import KE.KEqDeep
import HandS.SortKw
import KE.SortKeyHeap
import KE.SortData
import KE.LtData
import HandS.TupSets
import KE.KTupSum
import HandS.StrMore
import HandS.WordsExc
import HandS.Strs
import HandS.DictTup
import HandS.Words
import KE.DataCmp
import HandS.Dict
import HandS.DictEq
import HandS.IsInst
import HandS.ExcInit
import HandS.ExcField
import HandS.ExcIs
import HandS.ExcOwn
import HandS.ExcCtx
import HandS.HotCalls
import HandS.ExcInitHot
import KE.KExcIs
import KE.IntTextText
import KE.KDictCopyH
import PySem.Challenge.RW_tablemates_k18_deeds_of_a_grid
set_option Elab.async false
set_option linter.all false
set_option maxRecDepth 100000
namespace My
open PySem PySem.Spec PyProof.Rows L2 RZ
def topS (i : Nat) : Stmt := PySem.Challenge.pw_tablemates_k18_deeds_of_a_grid.main.body.getD i (.Pass ⟨0, 0, 0, 0⟩)
abbrev sSame : Stmt := topS 5
abbrev sLawCell : Stmt := topS 7
abbrev sLawDigits : Stmt := topS 8
abbrev sLawDraw : Stmt := topS 9
abbrev sLawSame : Stmt := topS 10
abbrev sLawShown : Stmt := topS 11
abbrev sLawAreas : Stmt := topS 12
abbrev sLawSameGrid : Stmt := topS 13
abbrev sLawDeed : Stmt := topS 14
abbrev sLawCopied : Stmt := topS 15
abbrev sLaw : Stmt := topS 16
abbrev sUnknownName_Init : Stmt := inClass (topS 2) 0
theorem scUnknownName_Init : FnScope ["self", "word"] ["self", "word"] (defScope sUnknownName_Init) := ⟨rfl, rfl, rfl, by decide +kernel, rfl, by decide +kernel, by decide +kernel⟩
abbrev sGrid_Init : Stmt := inClass (topS 4) 0
theorem scGrid_Init : FnScope ["self", "rows", "columns"] ["self", "rows", "columns"] (defScope sGrid_Init) := ⟨rfl, rfl, rfl, by decide +kernel, rfl, by decide +kernel, by decide +kernel⟩
abbrev sGrid_Put : Stmt := inClass (topS 4) 1
theorem scGrid_Put : FnScope ["self", "cell", "shown"] ["self", "cell", "shown"] (defScope sGrid_Put) := ⟨rfl, rfl, rfl, by decide +kernel, rfl, by decide +kernel, by decide +kernel⟩
abbrev sGrid_Shown : Stmt := inClass (topS 4) 2
theorem scGrid_Shown : FnScope ["self", "cell"] ["self", "cell"] (defScope sGrid_Shown) := ⟨rfl, rfl, rfl, by decide +kernel, rfl, by decide +kernel, by decide +kernel⟩
abbrev sGrid_Name : Stmt := inClass (topS 4) 3
theorem scGrid_Name : FnScope ["self", "word", "areas"] ["self", "word", "areas"] (defScope sGrid_Name) := ⟨rfl, rfl, rfl, by decide +kernel, rfl, by decide +kernel, by decide +kernel⟩
abbrev sGrid_Unname : Stmt := inClass (topS 4) 4
theorem scGrid_Unname : FnScope ["self", "word"] ["self", "word"] (defScope sGrid_Unname) := ⟨rfl, rfl, rfl, by decide +kernel, rfl, by decide +kernel, by decide +kernel⟩
abbrev sGrid_Areas : Stmt := inClass (topS 4) 5
theorem scGrid_Areas : FnScope ["self", "word", "areas"] ["self", "word"] (defScope sGrid_Areas) := ⟨rfl, rfl, rfl, by decide +kernel, rfl, by decide +kernel, by decide +kernel⟩
abbrev sGrid_Cells : Stmt := inClass (topS 4) 6
theorem scGrid_Cells : FnScope ["self"] ["self"] (defScope sGrid_Cells) := ⟨rfl, rfl, rfl, by decide +kernel, rfl, by decide +kernel, by decide +kernel⟩
abbrev sGrid_Words : Stmt := inClass (topS 4) 7
theorem scGrid_Words : FnScope ["self"] ["self"] (defScope sGrid_Words) := ⟨rfl, rfl, rfl, by decide +kernel, rfl, by decide +kernel, by decide +kernel⟩
abbrev sGrid_Copy : Stmt := inClass (topS 4) 8
theorem scGrid_Copy : FnScope ["self", "other", "cell", "word"] ["self"] (defScope sGrid_Copy) := ⟨rfl, rfl, rfl, by decide +kernel, rfl, by decide +kernel, by decide +kernel⟩
/-! ### error classes with fields -/
structure ExK (K : PySem.W.Frag) (C : Addr) : Prop where
  cl : PySem.W.isClsIn K C = true
  x : XfC K C
  cc : PySem.W.findIn K (.ref C) "__class__" = some (some (.builtin "object.__class__"))
  cn : PySem.W.specialIn K (.builtin "object.__class__") "__get__" = some (some (.builtin "getset_descriptor.__get__"))
  ct : PySem.W.takesIn K (.builtin "object.__class__") = some true
  cm : PySem.W.mroIn K C (.type "object") = some true
theorem kit_self {K : PySem.W.Frag} {t : Value} : PySem.W.kitOne K t t = some true := if_pos (beq_self_eq_true t)
theorem scSame : FnScope ["grid", "other", "cell", "word"] ["grid", "other"] (defScope sSame) := ⟨rfl, rfl, rfl, by decide +kernel, rfl, by decide +kernel, by decide +kernel⟩
theorem scLawCell : FnScope ["script", "k"] ["script", "k"] (defScope sLawCell) := ⟨rfl, rfl, rfl, by decide +kernel, rfl, by decide +kernel, by decide +kernel⟩
theorem scLawDigits : FnScope ["script", "first", "last", "digits", "k", "cell", "turn", "seed"] ["script", "first", "last"] (defScope sLawDigits) := ⟨rfl, rfl, rfl, by decide +kernel, rfl, by decide +kernel, by decide +kernel⟩
theorem scLawDraw : FnScope ["box", "many", "at"] ["box", "many"] (defScope sLawDraw) := ⟨rfl, rfl, rfl, by decide +kernel, rfl, by decide +kernel, by decide +kernel⟩
theorem scLawSame : FnScope ["actual", "due", "k"] ["actual", "due"] (defScope sLawSame) := ⟨rfl, rfl, rfl, by decide +kernel, rfl, by decide +kernel, by decide +kernel⟩
theorem scLawShown : FnScope ["box", "kind"] ["box"] (defScope sLawShown) := ⟨rfl, rfl, rfl, by decide +kernel, rfl, by decide +kernel, by decide +kernel⟩
theorem scLawAreas : FnScope ["box", "empty", "kind"] ["box", "empty"] (defScope sLawAreas) := ⟨rfl, rfl, rfl, by decide +kernel, rfl, by decide +kernel, by decide +kernel⟩
theorem scLawSameGrid : FnScope ["grid", "rows", "columns", "cells", "names", "row", "column", "told", "word", "wrong"] ["grid", "rows", "columns", "cells", "names"] (defScope sLawSameGrid) := ⟨rfl, rfl, rfl, by decide +kernel, rfl, by decide +kernel, by decide +kernel⟩
theorem scLawDeed : FnScope ["box", "grid", "rows", "columns", "cells", "names", "word", "kind", "cell", "shown", "kept", "areas", "content", "area"] ["box", "grid", "rows", "columns", "cells", "names"] (defScope sLawDeed) := ⟨rfl, rfl, rfl, by decide +kernel, rfl, by decide +kernel, by decide +kernel⟩
theorem scLawCopied : FnScope ["table", "copy", "key"] ["table"] (defScope sLawCopied) := ⟨rfl, rfl, rfl, by decide +kernel, rfl, by decide +kernel, by decide +kernel⟩
theorem scLaw : FnScope ["script", "box", "rows", "columns", "grid", "cells", "names", "turn", "other", "more", "told"] ["script"] (defScope sLaw) := ⟨rfl, rfl, rfl, by decide +kernel, rfl, by decide +kernel, by decide +kernel⟩
set_option maxHeartbeats 0 in
structure Txt (K : PySem.W.Frag) (mg : Str → Option Value) where
  fSame : Addr
  fdSame : FuncData
  FSame : Fun K "same" "same" sSame fSame fdSame
  bSame : Binds K fdSame ["grid", "other"] []
  gSame : mg "same" = some (.ref fSame)
  fLawCell : Addr
  fdLawCell : FuncData
  FLawCell : Fun K "_law_cell" "_law_cell" sLawCell fLawCell fdLawCell
  bLawCell : Binds K fdLawCell ["script", "k"] []
  gLawCell : mg "_law_cell" = some (.ref fLawCell)
  fLawDigits : Addr
  fdLawDigits : FuncData
  FLawDigits : Fun K "_law_digits" "_law_digits" sLawDigits fLawDigits fdLawDigits
  bLawDigits : Binds K fdLawDigits ["script", "first", "last"] []
  gLawDigits : mg "_law_digits" = some (.ref fLawDigits)
  fLawDraw : Addr
  fdLawDraw : FuncData
  FLawDraw : Fun K "_law_draw" "_law_draw" sLawDraw fLawDraw fdLawDraw
  bLawDraw : Binds K fdLawDraw ["box", "many"] []
  gLawDraw : mg "_law_draw" = some (.ref fLawDraw)
  fLawSame : Addr
  fdLawSame : FuncData
  FLawSame : Fun K "_law_same" "_law_same" sLawSame fLawSame fdLawSame
  bLawSame : Binds K fdLawSame ["actual", "due"] []
  gLawSame : mg "_law_same" = some (.ref fLawSame)
  fLawShown : Addr
  fdLawShown : FuncData
  FLawShown : Fun K "_law_shown" "_law_shown" sLawShown fLawShown fdLawShown
  bLawShown : Binds K fdLawShown ["box"] []
  gLawShown : mg "_law_shown" = some (.ref fLawShown)
  fLawAreas : Addr
  fdLawAreas : FuncData
  FLawAreas : Fun K "_law_areas" "_law_areas" sLawAreas fLawAreas fdLawAreas
  bLawAreas : Binds K fdLawAreas ["box", "empty"] []
  gLawAreas : mg "_law_areas" = some (.ref fLawAreas)
  fLawSameGrid : Addr
  fdLawSameGrid : FuncData
  FLawSameGrid : Fun K "_law_same_grid" "_law_same_grid" sLawSameGrid fLawSameGrid fdLawSameGrid
  bLawSameGrid : Binds K fdLawSameGrid ["grid", "rows", "columns", "cells", "names"] []
  gLawSameGrid : mg "_law_same_grid" = some (.ref fLawSameGrid)
  fLawDeed : Addr
  fdLawDeed : FuncData
  FLawDeed : Fun K "_law_deed" "_law_deed" sLawDeed fLawDeed fdLawDeed
  bLawDeed : Binds K fdLawDeed ["box", "grid", "rows", "columns", "cells", "names"] []
  gLawDeed : mg "_law_deed" = some (.ref fLawDeed)
  fLawCopied : Addr
  fdLawCopied : FuncData
  FLawCopied : Fun K "_law_copied" "_law_copied" sLawCopied fLawCopied fdLawCopied
  bLawCopied : Binds K fdLawCopied ["table"] []
  gLawCopied : mg "_law_copied" = some (.ref fLawCopied)
  fLaw : Addr
  fdLaw : FuncData
  FLaw : Fun K "law" "law" sLaw fLaw fdLaw
  bLaw : Binds K fdLaw ["script"] []
  gLaw : mg "law" = some (.ref fLaw)
  z_all : mg "all" = none
  z_range : mg "range" = none
  z_isinstance : mg "isinstance" = none
  z_bool : mg "bool" = none
  z_str : mg "str" = none
  z_list : mg "list" = none
  z_sorted : mg "sorted" = none
  z_len : mg "len" = none
  z_tuple : mg "tuple" = none
  z_int : mg "int" = none
  cGrid : Addr
  gKGrid : mg "Grid" = some (.ref cGrid)
  clGrid : Cls K cGrid
  fGrid_Init : Addr
  fdGrid_Init : FuncData
  FGrid_Init : Fun K "__init__" "Grid.__init__" sGrid_Init fGrid_Init fdGrid_Init
  bGrid_Init : Binds K fdGrid_Init ["self", "rows", "columns"] []
  meGrid_Init : Meth K cGrid "__init__" fGrid_Init
  fGrid_Put : Addr
  fdGrid_Put : FuncData
  FGrid_Put : Fun K "put" "Grid.put" sGrid_Put fGrid_Put fdGrid_Put
  bGrid_Put : Binds K fdGrid_Put ["self", "cell", "shown"] []
  meGrid_Put : Meth K cGrid "put" fGrid_Put
  fGrid_Shown : Addr
  fdGrid_Shown : FuncData
  FGrid_Shown : Fun K "shown" "Grid.shown" sGrid_Shown fGrid_Shown fdGrid_Shown
  bGrid_Shown : Binds K fdGrid_Shown ["self", "cell"] []
  meGrid_Shown : Meth K cGrid "shown" fGrid_Shown
  fGrid_Name : Addr
  fdGrid_Name : FuncData
  FGrid_Name : Fun K "name" "Grid.name" sGrid_Name fGrid_Name fdGrid_Name
  bGrid_Name : Binds K fdGrid_Name ["self", "word", "areas"] []
  meGrid_Name : Meth K cGrid "name" fGrid_Name
  fGrid_Unname : Addr
  fdGrid_Unname : FuncData
  FGrid_Unname : Fun K "unname" "Grid.unname" sGrid_Unname fGrid_Unname fdGrid_Unname
  bGrid_Unname : Binds K fdGrid_Unname ["self", "word"] []
  meGrid_Unname : Meth K cGrid "unname" fGrid_Unname
  fGrid_Areas : Addr
  fdGrid_Areas : FuncData
  FGrid_Areas : Fun K "areas" "Grid.areas" sGrid_Areas fGrid_Areas fdGrid_Areas
  bGrid_Areas : Binds K fdGrid_Areas ["self", "word"] []
  meGrid_Areas : Meth K cGrid "areas" fGrid_Areas
  fGrid_Cells : Addr
  fdGrid_Cells : FuncData
  FGrid_Cells : Fun K "cells" "Grid.cells" sGrid_Cells fGrid_Cells fdGrid_Cells
  bGrid_Cells : Binds K fdGrid_Cells ["self"] []
  meGrid_Cells : Meth K cGrid "cells" fGrid_Cells
  fGrid_Words : Addr
  fdGrid_Words : FuncData
  FGrid_Words : Fun K "words" "Grid.words" sGrid_Words fGrid_Words fdGrid_Words
  bGrid_Words : Binds K fdGrid_Words ["self"] []
  meGrid_Words : Meth K cGrid "words" fGrid_Words
  fGrid_Copy : Addr
  fdGrid_Copy : FuncData
  FGrid_Copy : Fun K "copy" "Grid.copy" sGrid_Copy fGrid_Copy fdGrid_Copy
  bGrid_Copy : Binds K fdGrid_Copy ["self"] []
  meGrid_Copy : Meth K cGrid "copy" fGrid_Copy
  mkGrid : Mk K cGrid fGrid_Init
  naGrid_rows : NoAttr K cGrid "rows"
  naGrid_columns : NoAttr K cGrid "columns"
  naGrid__contents : NoAttr K cGrid "_contents"
  naGrid__names : NoAttr K cGrid "_names"
  cTableError : Addr
  gKTableError : mg "TableError" = some (.ref cTableError)
  cUnknownName : Addr
  gKUnknownName : mg "UnknownName" = some (.ref cUnknownName)
  oKUnknownName : OexC K cUnknownName
  xKUnknownName : XfC K cUnknownName
  eKUnknownName : ExK K cUnknownName
  fUnknownName_Init : Addr
  fdUnknownName_Init : FuncData
  FUnknownName_Init : Fun K "__init__" "UnknownName.__init__" sUnknownName_Init fUnknownName_Init fdUnknownName_Init
  bUnknownName_Init : Binds K fdUnknownName_Init ["self", "word"] []
  iKUnknownName : PySem.W.findIn K (.ref cUnknownName) "__init__" = some (some (.ref fUnknownName_Init))
  tKUnknownName : PySem.W.typeIn K (.ref fUnknownName_Init) = some (.type "function")
  nKUnknownName_word : PySem.W.findIn K (.ref cUnknownName) "word" = some none
  mKUnknownName_TableError : PySem.W.exmOne K (.ref cUnknownName) (.ref cTableError) = some true
  mKUnknownName_UnknownName : PySem.W.exmOne K (.ref cUnknownName) (.ref cUnknownName) = some true
  kKUnknownName_UnknownName : PySem.W.kitOne K (.ref cUnknownName) (.ref cUnknownName) = some true
section
variable {P : Program} {w : World} {K : PySem.W.Frag} {mg : Str → Option Value} {base : Heap}
/-! ### heaps -/
theorem _root_.L2.Same.tup {K : PySem.W.Frag} {H H' : Hp} {a : Addr} {xs : List V} (e : Same H H') (h : SqT K H a xs) : SqT K H' a xs := by
  rcases h with (h | ⟨o, h⟩) | h
  · exact .inl (.inl (e _ _ h))
  · exact .inl (.inr ⟨o, e _ _ h⟩)
  · exact .inr h
theorem same_new {H : Hp} {p : Addr} {o : HO} (h : H p = none) : Same H (upd H p o) := fun b x e => by
  rw [upd_ne (ne_of_none e h)]
  exact e
theorem same_mut {H H' : Hp} {p : Addr} {o : HO} (e : Same H H') (h : H p = none) : Same H (upd H' p o) := fun b x ha => by
  rw [upd_ne (ne_of_none ha h)]
  exact e b x ha
theorem walk_zipT {K : PySem.W.Frag} {a b : Addr} {xs ys : List V} {n : Nat} (hn : n = min xs.length ys.length) : Walk (ItzT K a b) n (fun H => SqT K H a xs ∧ SqT K H b ys) (YPair (fun i => xs[i]?) (fun i => ys[i]?)) := by
  subst hn
  refine ⟨fun i _ hi q => ?_, fun _ q => ⟨xs, ys, q.1, q.2, by omega⟩, fun i H v H' _ q y => ?_⟩
  · have h1 : i < xs.length := by omega
    have h2 : i < ys.length := by omega
    exact ⟨xs, ys, xs[i], ys[i], q.1, q.2, by simp [h1], by simp [h2]⟩
  · obtain ⟨T, x, z, h1, h2, h3, h4, h5⟩ := y
    exact ⟨T, x, z, h1, h2, h3, h4 xs q.1, h5 ys q.2⟩
/-- a function that hands back a bool or an int and changes nothing -/
theorem getD_at {ns : List Int} {i : Nat} (h : i < ns.length) : (ns.map V.int)[i]? = some (.int (ns.getD i 0)) := by
  rw [List.getElem?_map, List.getElem?_eq_getElem h, List.getD_eq_getElem?_getD, List.getElem?_eq_getElem h]
  rfl
theorem dp_ints {K : PySem.W.Frag} {H : Hp} : ∀ ns : List Int, DpAll K H (ns.map V.int) (ns.map PyData.int)
  | [] => .nil
  | n :: r => .cons (.int n) (dp_ints r)
theorem shaped_tup (ns : List Int) : SeqAt.shaped (.tuple (ns.map PyData.int)) = true := by
  simp [SeqAt.shaped, PyData.canLay0, PyData.depth, PySem.W.ke_canLayAll0, PySem.W.ke_depthAll]
theorem shaped_lst (ns : List Int) : SeqAt.shaped (.list (ns.map PyData.int)) = true := PySem.W.ke_shaped_ints ns
theorem eqv_same {d : PyData} (h : SeqAt.shaped d = true) : PyData.eqv d d = true := by
  refine SeqAt.eqv_refl d ?_
  unfold SeqAt.shaped at h
  exact (Bool.and_eq_true _ _ ▸ h).1
theorem yesT {σ : L2.St} {H : Hp} {A B : Hp → Prop} (h : A H) : tYes σ H (fun b H3 => if b = true then A H3 else B H3) := iteT (A := A H) (B := B H) h
open L2H
/-! ### errors: made, raised, caught -/
theorem takesN {X : Cx} : L2N.Takes X (fun _ _ _ _ => False) := fun _ _ z => by
  obtain ⟨_, _, _, _, _, _, _, _, _, _, _, _, _, _, _, _, no⟩ := z
  exact no.elim
theorem hot_of {X : Cx} {a : Addr} {oe : Obj} {cls : Value} {d : Option Addr} {pn : List (Addr × Obj)} (hz : L2N.Zn cls d oe) (hf : ∃ vs, oe.data = .fields vs) : HotC (X.suite a ((a, oe) :: pn)) := by
  obtain ⟨vs, hv⟩ := hf
  exact ⟨(a, oe), ⟨rfl, vs, hv, hz.2.2 vs hv⟩, List.mem_cons_self ..⟩
theorem okN {x qual : Str} {st : Stmt} {f : Addr} {fd : FuncData} {N ps : List Str} {k : Nat} {sp : Sp} (F : Fun K x qual st f fd) (S : FnScope N ps (defScope st)) (len : ∀ vs H Q E, sp vs H Q E → vs.length = ps.length)
    (go : ∀ (cdv : Value) (A : Around) (outer : List Env) (s : Shared) (H : Hp) (vs : List V) (Q : VK) (E : XK), Room k (A.deeper (envOfC qual (defScope st) s.heap.objs.size f cdv)) → sp vs H Q E →
      ∃ t, PSs (cxOf (L2N.CX P w) P w K mg base N qual (defScope st) f cdv A outer s H E) (defBody st) t ∧ t { nx := fun _ G => Q .non G, rt := Q } (start N vs) H) : FnOk P w K mg base (L2N.CX P w) (k + 1) f fd ps sp := by
  obtain ⟨oc, od, kV, doc, pm, an, cdv, ct, osl, rfl, look, code⟩ := F.ex
  exact fn_of look code S len fun A outer s H vs Q E room h => go cdv A outer s H vs Q E room h
theorem okHot {x qual : Str} {st : Stmt} {f : Addr} {fd : FuncData} {N ps : List Str} {k : Nat} {sp : Sp} (F : Fun K x qual st f fd) (S : FnScope N ps (defScope st)) (len : ∀ vs H Q E, sp vs H Q E → vs.length = ps.length)
    (go : ∀ (cdv : Value) (A : Around) (outer : List Env) (s : Shared) (H : Hp) (vs : List V) (Q : VK) (E : XK) (p : Addr × Obj), Hot1 A p → RoomH k (A.deeper (envOfC qual (defScope st) s.heap.objs.size f cdv)) → sp vs H Q E →
      ∃ t, PSs (cxH CX0 P w K mg base N qual (defScope st) f cdv A outer s H E p) (defBody st) t ∧ t { nx := fun _ G => Q .non G, rt := Q } (start N vs) H) : FnH P w K mg base CX0 (k + 1) f fd ps sp := by
  obtain ⟨oc, od, kV, doc, pm, an, cdv, ct, osl, rfl, look, code⟩ := F.ex
  exact fn_ofH look code S len fun A outer s H vs Q E p hot room h => go cdv A outer s H vs Q E p hot room h
/-- isinstance(e, D) of the error that the suite holds -/
def rIsX (K : PySem.W.Frag) (a C : Addr) (cls : Value) (d : Option Addr) : List V → Hp → VK → Prop := fun xs H Q => ∃ (D dd : Addr) (fs : List (Str × V)) (b : Bool), xs = [.ref a, .ref D] ∧ cls = .ref C ∧ d = some dd ∧ H dd = some (.xd fs) ∧ PySem.W.kitOne K (.ref C) (.ref D) = some b ∧ Q (.bl b) H
theorem cr_isX {X : Cx} {a C : Addr} {cls : Value} {d : Option Addr} {oe : Obj} {pn : List (Addr × Obj)} (Z : ExK X.K C) (hz : Zc cls d oe) (hf : ∃ vs, oe.data = .fields vs) : CallR (X.suite a ((a, oe) :: pn)) (.builtin "isinstance") (rIsX X.K a C cls d) := by
  intro pins s σ H xs us Q I r h
  obtain ⟨D, dd, fs, b, rfl, rfl, rfl, hd, e, q⟩ := h
  cases r with
  | cons r1 rr =>
    cases rr with
    | cons r2 rr =>
      cases rr
      cases r1
      cases r2
      have there := (I.pin (a, oe) (List.mem_append_left _ (List.mem_cons_self ..))).1
      obtain ⟨vs, hv⟩ := hf
      have ox : ObjOk X.prog X.w H s.heap dd (.xd fs) := I.hok dd _ hd
      obtain ⟨m, hn, _⟩ := ox
      obtain ⟨od, ho, _⟩ := lookIn_ns hn
      have J : PySem.W.InstAt s.heap a oe C (some od) := ⟨there, hz.1, by unfold PySem.W.notCls; rw [hv] <;> rfl, by rw [hz.2]; exact ho⟩
      exact PySem.W.kia_one (PySem.W.kitx_exc Z.cl Z.x.ga Z.x.gg Z.x.exC Z.cc Z.cn Z.ct Z.cm) I.kIn J e (fun z => nomatch z) fun tk => ⟨.bl b, H, I.tok tk, rfl, q⟩
/-- C(e, ..), made where nothing is handled -/
theorem mkN {X : Cx} {CX : CXT} {nm : Str} {C g : Addr} {j : Nat} {fd : FuncData} {pz : List Str} {sp : Sp} {e0 : Expr} {er : List Expr} {tg : TA} {p1 p2 : Pos} (O : OexC X.K C) (hI : PySem.W.findIn X.K (.ref C) "__init__" = some (some (.ref g)))
    (hT : PySem.W.typeIn X.K (.ref g) = some (.type "function")) (G : FnOk X.prog X.w X.K X.mg X.base CX j g fd pz sp) (rm : Room (j + 1) X.A) (bn : Binds X.K fd pz []) (no : Passes CX X (fun _ _ _ => False)) (gl : Gl X nm) (at_ : X.mg nm = some (.ref C)) (as : PA X (e0 :: er) tg)
    (nd : (nm == ("__debug__" : Str)) = false := by decide) (st : starEach (e0 :: er) X.env = (false, eval e0 X.env) :: starEach er X.env := by rfl) (pl : (backTo p2 (starEach er X.env)).any (·.1) = false := by rfl) :
    L2N.PMk X (.Call (.Name nm p1) (e0 :: er) [] p2) (tMkO C sp [] tg) := by
  intro pins s σ H Q I h
  obtain ⟨n1, n2, n3, n4, bm, n5, n6, n7, n8, n9, m0, m1, m2, m3, m5, hC, hbm⟩ := O.cls
  refine wpAny_Call_Name_kw (ld_glob I gl at_ ?_ nd)
  refine PySem.W.callWith_K (h₀ := X.base) I.ok.mod.kin O.kC (thn (as.run p2 pins s σ H _ I h) fun us s1 ⟨vs, H1, J1, r1, hz, q1⟩ => ⟨J1.kIn, ?_⟩) st pl
  show wpAny _ _ (call (.ref C) us) _ _ _
  obtain ⟨hp, gs, dr, tok, os⟩ := s1
  have up1 : hp.objs.size ≤ hp.objs.size + 1 := Nat.le_succ _
  have hq := q1 (hp.objs.size + 1) (J1.hok.fresh up1)
  have old : ∀ b o, hp.get? b = some o → ((hp.push (PySem.W.kdv_tup us)).push (PySem.HandSPX.excO C hp.objs.size)).get? b = some o := fun b o z => Heap.get?_push_of_some _ (Heap.get?_push_of_some _ z)
  have new : ((hp.push (PySem.W.kdv_tup us)).push (PySem.HandSPX.excO C hp.objs.size)).get? (hp.objs.size + 1) = some (PySem.HandSPX.excO C hp.objs.size) := by heap_get
  have J2 : Inv X pins σ (upd H1 (hp.objs.size + 1) (exo (hp.objs.size + 1) C none)) ⟨(hp.push (PySem.W.kdv_tup us)).push (PySem.HandSPX.excO C hp.objs.size), gs, dr, tok, os⟩ := J1.laid (t' := tok) old up1 (exo_ok new)
  rw [List.append_nil] at hq
  have r2 : Vals (V.ref (hp.objs.size + 1) :: vs) (Value.ref (hp.objs.size + 1) :: us) := .cons rfl r1
  have nl : (Value.ref (hp.objs.size + 1) :: us).length = pz.length := r2.length.symm.trans (G.len _ _ _ _ hq)
  have bd := bn ⟨(hp.push (PySem.W.kdv_tup us)).push (PySem.HandSPX.excO C hp.objs.size), gs, dr, tok, os⟩ (Value.ref (hp.objs.size + 1) :: us) J2.kIn (by rw [List.append_nil]; exact nl)
  rw [List.append_nil] at bd
  have sz : us.length ≤ sizeLine := by
    rw [← r1.length, sizeLine_eq]
    omega
  refine wpAny_call (PySem.HandSPX.call_own F.excBase_ValueError (fun z => PySem.HandSPX.refsVE_contains z bm hbm) (J1.kIn _ _ hC) (PySem.W.looks_findIn J1.kIn hI) (fun z => PySem.W.bind_fn J1.kIn z hT) sz (codeAny_mono (G.run _ X.stack _ _ ⟨Value.ref (hp.objs.size + 1) :: us, []⟩ _ _ _ (fun _ _ _ => False) (rm.make C us []) (J2.env0.make C us []) bd r2 hq) fun r s2 w => ?_))
  cases r with
  | error er => exact no pins σ _ _ er s2 J2 w
  | ok fl =>
    cases fl with
    | ret u =>
      obtain ⟨v, H2, os2, bare2, un2, hok2, rv, ev, d, fs, ea, ed, hd1, q2⟩ := w
      subst ev
      obtain ⟨h2, gs2, dr2, tok2, os3⟩ := s2
      obtain ⟨t0, G2, J, _, ge, hoe, na⟩ := mk_end0 (d2 := dr2) (t2 := tok2) J1 up1 old un2 hok2 os2 bare2 ea ed hd1
      have kG : ∀ b o, G2.get? b = some o → h2.get? b = some o := by assumption
      exact ⟨rv, hp.objs.size + 1, _, _, ⟨G2, gs2, dr2, tok2, os3⟩, _, .ref C, some d, rfl, J, kG, ge, hoe, ⟨rfl, rfl, fun vs hv => by cases hv; rfl⟩, rfl, rfl, na, rfl, bare2, raises_own O.exC O.tyC, q2⟩
    | next => exact w.elim
    | brk => exact w.elim
    | cont => exact w.elim
/-- the promise of an __init__ that keeps its one argument -/
def spIni (K : PySem.W.Frag) (C : Addr) (f : Str) : Sp := fun vs H Q _ => ∃ (a : Addr) (y : V), vs = [.ref a, y] ∧ H a = some (exo a C none) ∧ ∀ d, H d = none → d ≠ a → Q .non (upd (upd H d (exd d [(f, y)])) a (exo a C (some d)))
theorem mk_heap {H : Hp} {a d : Addr} {o1 o2 o3 o4 : HO} (ha : H a = none) (hd : d ≠ a) : upd (del (upd (upd (upd H a o1) d o2) a o3) a) d o4 = upd H d o4 := by
  funext b
  by_cases h1 : b = d
  · rw [h1, upd_same, upd_same]
  · rw [upd_ne h1, upd_ne h1]
    by_cases h2 : b = a
    · rw [h2, del_same, ha]
    · rw [del_ne h2, upd_ne h2, upd_ne h1, upd_ne h2]
/-- what raising such an error asks -/
theorem ini_of {K : PySem.W.Frag} {C : Addr} {f : Str} {y : V} {H : Hp} {Q : XK} (q : ∀ d, H d = none → Q (.ref C) (some d) (upd H d (.xd [(f, y)]))) : ∀ a, H a = none → spIni K C f (.ref a :: ([y] ++ [])) (upd H a (exo a C none))
    (fun v H2 => v = .non ∧ ∃ (d : Addr) (fs : List (Str × V)), H2 a = some (exo a C (some d)) ∧ H2 d = some (exd d fs) ∧ H d = none ∧ Q (.ref C) (some d) (upd (del H2 a) d (.xd fs))) (fun _ _ _ => False) := fun a ha =>
  ⟨a, y, rfl, upd_same, fun d hd hne => by
    have hd0 : H d = none := by
      rw [upd_ne hne] at hd
      exact hd
    refine ⟨rfl, d, [(f, y)], upd_same, by rw [upd_ne hne, upd_same], hd0, ?_⟩
    rw [mk_heap ha hne]
    exact q d hd0⟩
/-! ### methods that may raise -/
def tMethE (C : Addr) (m : Str) (sp : Sp) (E : L2.St → XK) (ta : TE) (t : TA) : TE := fun σ H Q => ta σ H fun x H1 => ∃ a dx fs, x = .ref a ∧ H1 a = some (.ins C dx fs) ∧ fs.lookup m = none ∧ t σ H1 fun vs H2 => sp (x :: vs) H2 Q (E σ)
theorem pe_methE {X : Cx} {CX : CXT} {k : Nat} {C f : Addr} {fd : FuncData} {ps : List Str} {m : Str} {sp : Sp} {E : L2.St → XK} {o e : Expr} {es : List Expr} {ta : TE} {t : TA} {apos pos : Pos} {pl : Sem Bool} (he : PE X o ta) (c : Cls X.K C) (hm : Meth X.K C m f)
    (F : FnOk X.prog X.w X.K X.mg X.base CX k f fd ps sp) (hr : Room k X.A) (hb : Binds X.K fd ps []) (hx : ∀ σ, PassesAt CX X σ (E σ)) (ha : PA X (e :: es) t)
    (hst : starEach (e :: es) X.env = (false, eval e X.env) :: starEach es X.env := by rfl) (hpl : (backTo pos (starEach es X.env)).any (·.1) = false := by rfl)
    (ht : eval (.Call (.Attribute o m apos) (e :: es) [] pos) X.env = (do
      let ov ← eval o X.env
      standAt apos.atName
      let (f, first) ← holding [ov] (getMethod ov m pl)
      callWith pos f first (backTo pos (starEach (e :: es) X.env)) (backToKw pos (keywordEach [] X.env))) := by rfl) :
    PE X (.Call (.Attribute o m apos) (e :: es) [] pos) (tMethE C m sp E ta t) := by
  refine ⟨fun pins s σ H Q I h => ?_⟩
  refine PySem.W.methodCall_KW (pl := pl) (thn (he.run pins s σ H _ I h) fun u s1 ⟨x, H1, I1, rx, a, dx, fs, ex, ea, l, q⟩ => ?_) ht
  subst ex
  obtain rfl : u = Value.ref a := rx
  refine getmeth_ok I1 ea c hm l ?_
  refine PySem.W.callWith_K (first := [.ref a]) (h₀ := X.base) I.ok.mod.kin hm.kp (thn (ha.run pos pins s1 σ H1 _ I1 q) fun us s2 ⟨vs, H2, I2, r, q2⟩ => ⟨I2.kIn, ?_⟩) hst hpl
  exact run_fnS (us := .ref a :: us) (vs := .ref a :: vs) F hr hb (hx σ) I2 (.cons rfl r) q2
theorem pe_methE0 {X : Cx} {CX : CXT} {k : Nat} {C f : Addr} {fd : FuncData} {ps : List Str} {m : Str} {sp : Sp} {E : L2.St → XK} {o : Expr} {ta : TE} {apos pos : Pos} {pl : Sem Bool} (he : PE X o ta) (c : Cls X.K C) (hm : Meth X.K C m f)
    (F : FnOk X.prog X.w X.K X.mg X.base CX k f fd ps sp) (hr : Room k X.A) (hb : Binds X.K fd ps []) (hx : ∀ σ, PassesAt CX X σ (E σ))
    (ht : eval (.Call (.Attribute o m apos) [] [] pos) X.env = (do
      let ov ← eval o X.env
      standAt apos.atName
      let (f, first) ← holding [ov] (getMethod ov m pl)
      callWith pos f first (backTo pos (starEach [] X.env)) (backToKw pos (keywordEach [] X.env))) := by rfl) :
    PE X (.Call (.Attribute o m apos) [] [] pos) (tMethE C m sp E ta tNil) := by
  refine ⟨fun pins s σ H Q I h => ?_⟩
  refine PySem.W.methodCall_KW (pl := pl) (thn (he.run pins s σ H _ I h) fun u s1 ⟨x, H1, I1, rx, a, dx, fs, ex, ea, l, q⟩ => ?_) ht
  subst ex
  obtain rfl : u = Value.ref a := rx
  refine getmeth_ok I1 ea c hm l ?_
  exact PySem.W.callWith_K0 (first := [.ref a]) I1.kIn hm.kp (run_fnS (us := [.ref a]) (vs := [.ref a]) F hr hb (hx σ) I1 (.cons rfl .nil) q)
theorem pe_fldK {X : Cx} {K : PySem.W.Frag} {e : Expr} {f : Str} {pos : Pos} {ta : TE} (h : X.K = K) (he : PE X e ta) (hb : attributeBase e f X.env (eval e X.env) = eval e X.env) : PE X (.Attribute e f pos) (tFld K ta f) := by
  subst h
  exact pe_fld he hb
theorem ps_fldK {X : Cx} {K : PySem.W.Frag} {o value : Expr} {f : Str} {pos pos' : Pos} {ta tv : TE} (h : X.K = K) (ha : PE X o ta) (hv : PE X value tv) (hs : swapsWith value (some (.Attribute o f pos')) pos.line X.env = pure false) : PS X (.Assign [.Attribute o f pos'] value pos) (sFld K ta tv f) := by
  subst h
  exact ps_fld ha hv hs
/-! ### texts -/
open SX (S S_len S_cat slice_to slice_from num_S int_S)
open PySem.NumText (digitsVal AllDigits)
open TL (numL)
def cap (c : Nat) : Bool := decide (65 ≤ c ∧ c ≤ 90)
def dig (c : Nat) : Bool := decide (48 ≤ c ∧ c ≤ 57)
theorem dig_mem (c : Nat) : decide (c ∈ ("0123456789" : Str).cps.toList) = dig c := by
  have e : ("0123456789" : Str).cps.toList = [48, 49, 50, 51, 52, 53, 54, 55, 56, 57] := by decide +kernel
  rw [e]
  unfold dig
  refine decide_eq_decide.mpr ?_
  simp only [List.mem_cons, List.not_mem_nil, or_false]
  omega
theorem cap_mem (c : Nat) : decide (c ∈ ("ABCDEFGHIJKLMNOPQRSTUVWXYZ" : Str).cps.toList) = cap c := by
  have e : ("ABCDEFGHIJKLMNOPQRSTUVWXYZ" : Str).cps.toList = [65, 66, 67, 68, 69, 70, 71, 72, 73, 74, 75, 76, 77, 78, 79, 80, 81, 82, 83, 84, 85, 86, 87, 88, 89, 90] := by decide +kernel
  rw [e]
  unfold cap
  refine decide_eq_decide.mpr ?_
  simp only [List.mem_cons, List.not_mem_nil, or_false]
  omega
theorem walk_S {a : List Nat} : Walk (Its (S a)) a.length (fun _ => True) (fun i H v H' => H' = H ∧ ∃ c, a[i]? = some c ∧ v = .str (S [c])) :=
  ⟨fun i _ hi _ => by show i < a.toArray.size; simpa using hi, fun _ _ => by show a.toArray.size ≤ a.length; simp, fun i H v H' _ _ y => by
    obtain ⟨e, c, h1, h2⟩ := y
    exact ⟨e, c, by simpa using h1, h2⟩⟩
theorem tw_len {p : Nat → Bool} : ∀ {a : List Nat} {i c : Nat}, (∀ x ∈ a.take i, p x = true) → a[i]? = some c → p c = false → (a.takeWhile p).length = i
  | [], i, c, _, e, _ => by simp at e
  | x :: r, 0, c, _, e, hc => by
    have e2 := Option.some.inj e
    rw [List.takeWhile_cons, e2, hc]
    rfl
  | x :: r, i + 1, c, h, e, hc => by
    have hx : p x = true := h x (by simp)
    rw [List.takeWhile_cons, hx]
    show ((r.takeWhile p).length + 1) = i + 1
    rw [tw_len (fun y hy => h y (by rw [List.take_succ_cons]; exact List.mem_cons_of_mem _ hy)) (by simpa using e) hc]
theorem tw_all {p : Nat → Bool} {a : List Nat} (h : ∀ x ∈ a, p x = true) : (a.takeWhile p).length = a.length := by
  induction a with
  | nil => rfl
  | cons x r ih =>
    rw [List.takeWhile_cons, h x List.mem_cons_self]
    show (r.takeWhile p).length + 1 = r.length + 1
    rw [ih fun y hy => h y (List.mem_cons_of_mem _ hy)]
theorem tw_self {p : Nat → Bool} : ∀ {a : List Nat}, (∀ x ∈ a, p x = true) → a.takeWhile p = a
  | [], _ => rfl
  | x :: r, h => by rw [List.takeWhile_cons, h x List.mem_cons_self, if_pos rfl, tw_self fun y hy => h y (List.mem_cons_of_mem _ hy)]
theorem tw_le {p : Nat → Bool} (a : List Nat) : (a.takeWhile p).length ≤ a.length := by
  induction a with
  | nil => exact Nat.le_refl _
  | cons x r ih =>
    rw [List.takeWhile_cons]
    split
    · exact Nat.succ_le_succ ih
    · exact Nat.zero_le _
theorem tw_take {p : Nat → Bool} : ∀ (a : List Nat), ∀ x ∈ a.take (a.takeWhile p).length, p x = true
  | [], x, h => by simp at h
  | y :: r, x, h => by
    rw [List.takeWhile_cons] at h
    split at h
    · rename_i hy
      rw [List.length_cons, List.take_succ_cons] at h
      rcases List.mem_cons.mp h with e | e
      · rw [e]
        exact hy
      · exact tw_take r x e
    · simp at h
theorem tw_full {p : Nat → Bool} {a : List Nat} (h : (a.takeWhile p).length = a.length) : ∀ x ∈ a, p x = true := fun x hx => tw_take a x (by rw [h, List.take_length]; exact hx)
theorem tw_congr {p q : Nat → Bool} (h : ∀ c, p c = q c) (a : List Nat) : a.takeWhile p = a.takeWhile q := by
  rw [show p = q from funext h]
theorem in12 (n : Int) : inV (.int n) [.int 1, .int 2] = decide (n = 1 ∨ n = 2) := by
  show ((1 : Int) == n || ((2 : Int) == n || false)) = _
  rw [Bool.eq_iff_iff]
  simp only [Bool.or_false, Bool.or_eq_true, beq_iff_eq, decide_eq_true_eq]
  omega
theorem sz100 {n : Nat} (h : n ≤ 100000) : n ≤ sizeLine := Nat.le_trans h (by decide)
theorem item_by {α : Type} (f : α → V) {xs : List α} {k : Int} (h0 : 0 ≤ k) (h1 : k < xs.length) : ∃ v ∈ xs, atI (xs.map f) k = some (f v) := by
  obtain ⟨j, rfl⟩ := Int.eq_ofNat_of_zero_le h0
  have hj : j < xs.length := by omega
  exact ⟨xs[j], List.getElem_mem hj, atI_nat (by rw [List.getElem?_map, List.getElem?_eq_getElem hj]; rfl)⟩
theorem dig_all {a : List Nat} (h : a.all dig = true) : AllDigits a := fun c hc => of_decide_eq_true (List.all_eq_true.mp h c hc)
theorem int_dig {a : List Nat} (h : a.all dig = true) (hne : a ≠ []) (hl : a.length ≤ 640) : intText? (S a) = some ((digitsVal a : Nat) : Int) := intText_digits (x := S a) (dig_all h) hne (by rw [S_len]; omega)
/-! ### a run of signs -/
def rn (z : Str) (a : List Nat) : Nat := (a.takeWhile fun c => decide (c ∈ z.cps.toList)).length
theorem ix_tupK {X : Cx} {K : PySem.W.Frag} (h : X.K = K) : IxR X (rIxT K) := by
  subst h
  exact ix_tup
theorem ix_listK {X : Cx} {K : PySem.W.Frag} (h : X.K = K) : IxR X (rIxL K) := by
  subst h
  exact ix_list
theorem call_len_seqK {X : Cx} {K : PySem.W.Frag} (h : X.K = K) : CallR X (.builtin "len") (fun xs H Q => ∃ p ys, xs = [.ref p] ∧ (SqL K H p ys ∨ SqT K H p ys) ∧ Q (.int ys.length) H) := by
  subst h
  exact call_len_seq
theorem units65 {k : Nat} {A : Around} (r : Room k A) : A.units + 65 < cLine := by
  have := r.un
  omega
def rCountD (K : PySem.W.Frag) : V → List V → Hp → VK → Prop := fun x xs H Q => ∃ (a : Addr) (y : V) (d : PyData) (ds : List PyData), x = V.ref a ∧ xs = [y] ∧ Dp K H (V.ref a) (.list ds) ∧ Dp K H y d ∧
  SeqAt.shaped (.list ds) = true ∧ SeqAt.shaped d = true ∧ Q (.int ((ds.countP fun z => PyData.eqv z d : Nat) : Int)) H
theorem mt_countD {X : Cx} (hu : X.A.units + 65 < cLine) : MtR X "list.count" (rCountD X.K) := by
  intro pins s σ H x xs v us Q I rx rxs h
  obtain ⟨a, y, d, ds, rfl, rfl, hl, hy, sl, sd, q⟩ := h
  cases rx
  cases rxs with
  | cons ry rt =>
    rename_i uy ut
    cases rt
    obtain ⟨bs, r1⟩ := Dp.reads I d y uy hy ry
    have hxs : PyData.canLayAll0 ds = true := SeqAt.canLay_of_shaped sl
    have hroom : X.A.units + 1 + min (PyData.depthAll ds) d.depth < cLine := room_in_shaped sd hu
    cases hl with
    | lst hs ha =>
      obtain ⟨its, rv, ⟨⟨cls, dd, data, sls⟩, n, ho, hc, hdn, hdt⟩, hlen⟩ := I.list hs
      simp only at hc hdt
      subst hc hdt
      obtain ⟨as, h4⟩ := Dp.readsAll I ds _ its ha rv
      have hmap : its.map (SeqAt.readOf s.heap) = ds := SeqAt.readsAll_map ds its as hxs h4
      have hc : its.countP (fun u => PyData.eqv (SeqAt.readOf s.heap u) d) = ds.countP fun z => PyData.eqv z d := by
        conv => rhs; rw [← hmap, List.countP_map]
        rfl
      refine call_meets PySem.F.slot_list_count ⟨_, ho, rfl⟩ PySem.F.entry_list_count (PySem.F.args_list_count_2 _ _)
        (SeqAt.list_countAt a its.toArray n dd sls uy (fun u => PyData.eqv (SeqAt.readOf s.heap u) d)) ⟨ho, SeqAt.items_eqAt (vs := its.toArray) (show ReadsAll s.heap its.toArray.toList ds as from h4) r1 hxs (SeqAt.canLay_of_shaped sd) hroom, ?_⟩
      refine ⟨.int _, H, I.tok _, ⟨_, rfl⟩, ?_⟩
      rw [List.toList_toArray, hc]
      exact q
/-! ### ids -/
def idD (z : Int × Int) : PyData := .tuple [.int z.1, .int z.2]
theorem idD_lay (z : Int × Int) : (idD z).canLay0 = true := by simp [idD, PyData.canLay0, PyData.canLayAll0]
theorem idD_depth (z : Int × Int) : (idD z).depth = 1 := by simp [idD, PyData.depth, PyData.depthAll]
theorem idDs_lay : ∀ zs : List (Int × Int), PyData.canLayAll0 (zs.map idD) = true
  | [] => by simp [PyData.canLayAll0]
  | z :: zs => by simp [PyData.canLayAll0, idD_lay z, idDs_lay zs]
theorem idDs_depth : ∀ zs : List (Int × Int), PyData.depthAll (zs.map idD) ≤ 1
  | [] => by simp [PyData.depthAll]
  | z :: zs => by
    have h1 := idDs_depth zs
    have h2 := idD_depth z
    simp only [List.map_cons, PyData.depthAll]
    omega
theorem idD_shaped (z : Int × Int) : SeqAt.shaped (idD z) = true := by
  have h := idD_depth z
  show ((idD z).canLay0 && decide ((idD z).depth ≤ 64)) = true
  rw [Bool.and_eq_true]
  exact ⟨idD_lay z, decide_eq_true (by omega)⟩
theorem idDs_shaped (zs : List (Int × Int)) : SeqAt.shaped (.list (zs.map idD)) = true := by
  have h1 := idDs_depth zs
  have h2 : PyData.depth (.list (zs.map idD)) ≤ 64 := by
    simp only [PyData.depth]
    omega
  show (PyData.canLay0 (.list (zs.map idD)) && decide (PyData.depth (.list (zs.map idD)) ≤ 64)) = true
  rw [Bool.and_eq_true]
  exact ⟨by simp only [PyData.canLay0]; exact idDs_lay zs, decide_eq_true h2⟩
theorem idD_eqv (z w : Int × Int) : PyData.eqv (idD z) (idD w) = decide (z = w) := by
  obtain ⟨a, b⟩ := z
  obtain ⟨a', b'⟩ := w
  have e : PyData.eqv (idD (a, b)) (idD (a', b')) = ((a == a') && ((b == b') && true)) := by simp only [idD, PyData.eqv, PyData.eqvAll]
  rw [e, Bool.eq_iff_iff]
  simp
theorem idDs_any (zs : List (Int × Int)) (w : Int × Int) : ((zs.map idD).any fun z => PyData.eqv z (idD w)) = decide (w ∈ zs) := by
  rw [Bool.eq_iff_iff, List.any_eq_true]
  constructor
  · rintro ⟨x, hx, hw⟩
    obtain ⟨z, hz, rfl⟩ := List.mem_map.mp hx
    rw [idD_eqv] at hw
    rw [← of_decide_eq_true hw]
    exact decide_eq_true hz
  · intro h
    exact ⟨idD w, List.mem_map.mpr ⟨w, of_decide_eq_true h, rfl⟩, by rw [idD_eqv]; exact decide_eq_true rfl⟩
theorem idDs_count (zs : List (Int × Int)) (w : Int × Int) : ((zs.map idD).countP fun z => PyData.eqv z (idD w)) = zs.countP fun z => decide (z = w) := by
  rw [List.countP_map]
  refine List.countP_congr fun z _ => ?_
  show PyData.eqv (idD z) (idD w) = true ↔ _
  rw [idD_eqv]
/-! ### edits -/
structure Ed where
  p : Nat
  n : Int
  v : List Int
def Ed.id (e : Ed) : Int × Int := (1 + (e.p : Int), e.n)
structure OkE (e : Ed) : Prop where
  p : e.p < 4
  n : 1 ≤ e.n
  v : e.v.length = 4
  nh : e.n ≤ 20
  vh : ∀ z ∈ e.v, 0 ≤ z ∧ z ≤ 20
theorem OkE.at_ {e : Ed} (h : OkE e) {j : Nat} (hj : j < 4) : 0 ≤ e.v.getD j 0 ∧ e.v.getD j 0 ≤ 20 := by
  have : j < e.v.length := by rw [h.v]; exact hj
  rw [List.getD_eq_getElem?_getD, List.getElem?_eq_getElem this]
  exact h.vh _ (List.getElem_mem this)
inductive RepI (H : Hp) : List V → List Ed → Prop where
  | nil : RepI H [] []
  | cons {a : Addr} {e : Ed} {vs : List V} {ds : List Ed} : H a = some (.tup [.int (1 + (e.p : Int)), .int e.n]) → RepI H vs ds → RepI H (.ref a :: vs) (e :: ds)
def TK (H H' : Hp) : Prop := ∀ q xs, H q = some (.tup xs) → H' q = some (.tup xs)
theorem TK.of {H H' : Hp} (s : Same H H') : TK H H' := fun q xs h => s q _ h
theorem TK.trans {H H1 H2 : Hp} (a : TK H H1) (b : TK H1 H2) : TK H H2 := fun q xs h => b q xs (a q xs h)
theorem TK.mut {H : Hp} {d : Addr} {xs : List V} {o : HO} (h : H d = some (.lst xs)) : TK H (upd H d o) := fun q ys hq => by
  have : q ≠ d := fun z => by
    rw [z, h] at hq
    cases hq
  rw [upd_ne this]
  exact hq
theorem RepI.mono {H H' : Hp} (s : TK H H') : ∀ {vs ds}, RepI H vs ds → RepI H' vs ds
  | _, _, .nil => .nil
  | _, _, .cons h r => .cons (s _ _ h) (r.mono s)
theorem RepI.snoc {H : Hp} {a : Addr} {e : Ed} (h : H a = some (.tup [.int (1 + (e.p : Int)), .int e.n])) : ∀ {vs ds}, RepI H vs ds → RepI H (vs ++ [.ref a]) (ds ++ [e])
  | _, _, .nil => .cons h .nil
  | _, _, .cons h2 r => .cons h2 (r.snoc h)
theorem dp_id {K : PySem.W.Frag} {H : Hp} {a : Addr} {x y : Int} (h : H a = some (.tup [.int x, .int y])) : Dp K H (.ref a) (idD (x, y)) := .tup (SqT.of h) (.cons (.int _) (.cons (.int _) .nil))
theorem RepI.dp {K : PySem.W.Frag} {H : Hp} : ∀ {vs ds}, RepI H vs ds → DpAll K H vs ((ds.map Ed.id).map idD)
  | _, _, .nil => .nil
  | _, _, .cons h r => .cons (dp_id h) r.dp
def EdAt (H : Hp) (x : V) (e : Ed) : Prop := ∃ (q a b : Addr) (c : V), x = .ref q ∧ H q = some (.tup [.ref a, .ref b, c]) ∧ H a = some (.tup [.int (1 + (e.p : Int)), .int e.n]) ∧ H b = some (.tup (e.v.map V.int))
theorem EdAt.mono {H H' : Hp} {x : V} {e : Ed} (s : TK H H') (h : EdAt H x e) : EdAt H' x e := by
  obtain ⟨q, a, b, c, h0, h1, h2, h3⟩ := h
  exact ⟨q, a, b, c, h0, s _ _ h1, s _ _ h2, s _ _ h3⟩
structure Rep (H : Hp) (rs : List V) (D : List Ed) : Prop where
  len : rs.length = D.length
  at_ : ∀ (i : Nat) (x : V) (e : Ed), rs[i]? = some x → D[i]? = some e → EdAt H x e
theorem Rep.mono {H H' : Hp} {rs : List V} {D : List Ed} (s : TK H H') (h : Rep H rs D) : Rep H' rs D := ⟨h.len, fun i x e h1 h2 => (h.at_ i x e h1 h2).mono s⟩
theorem Rep.nil {H : Hp} : Rep H [] [] := ⟨rfl, fun i x e h => by simp at h⟩
theorem Rep.snoc {H : Hp} {rs : List V} {D : List Ed} {x : V} {e : Ed} (h : Rep H rs D) (E : EdAt H x e) : Rep H (rs ++ [x]) (D ++ [e]) := by
  refine ⟨by rw [List.length_append, List.length_append, h.len]; rfl, fun i y f h1 h2 => ?_⟩
  rcases Nat.lt_or_ge i rs.length with z | z
  · rw [List.getElem?_append_left z] at h1
    rw [List.getElem?_append_left (by rw [← h.len]; exact z)] at h2
    exact h.at_ i y f h1 h2
  · rw [List.getElem?_append_right z] at h1
    rw [List.getElem?_append_right (by rw [← h.len]; exact z), ← h.len] at h2
    generalize i - rs.length = j at h1 h2
    rcases j with _ | j
    · simp at h1 h2
      rw [← h1, ← h2]
      exact E
    · simp at h1
theorem Rep.rev {H : Hp} {rs : List V} {D : List Ed} (h : Rep H rs D) : Rep H rs.reverse D.reverse := by
  refine ⟨by rw [List.length_reverse, List.length_reverse, h.len], fun i x e h1 h2 => ?_⟩
  have hi : i < rs.length := by
    have := (List.getElem?_eq_some_iff.mp h1).1
    rwa [List.length_reverse] at this
  rw [List.getElem?_reverse hi] at h1
  rw [List.getElem?_reverse (by rw [← h.len]; exact hi), ← h.len] at h2
  exact h.at_ _ x e h1 h2
theorem Rep.get {H : Hp} {rs : List V} {D : List Ed} (h : Rep H rs D) {i : Nat} {x : V} (hx : rs[i]? = some x) : ∃ e, D[i]? = some e ∧ EdAt H x e := by
  have hi := (List.getElem?_eq_some_iff.mp hx).1
  have hi2 : i < D.length := by rw [← h.len]; exact hi
  have hd : D[i]? = some D[i] := List.getElem?_eq_getElem hi2
  exact ⟨_, hd, h.at_ i x _ hx hd⟩
def nums (D : List Ed) (p : Nat) : List Int := (D.filter fun e => decide (e.p = p)).map Ed.n
theorem nums_step {D : List Ed} {i p : Nat} {e : Ed} (h : D[i]? = some e) : nums (D.take (i + 1)) p = nums (D.take i) p ++ if e.p = p then [e.n] else [] := by
  unfold nums
  rw [List.take_add_one, h, List.filter_append, List.map_append]
  congr 1
  by_cases z : e.p = p
  · simp [z]
  · simp [z]
theorem nums_len (D : List Ed) (p : Nat) : (nums D p).length ≤ D.length := by
  unfold nums
  rw [List.length_map]
  exact List.length_filter_le _ _
theorem mem_nums {D : List Ed} {p : Nat} {k : Int} : k ∈ nums D p ↔ ∃ e ∈ D, e.p = p ∧ e.n = k := by
  unfold nums
  rw [List.mem_map]
  constructor
  · rintro ⟨e, he, rfl⟩
    have := List.mem_filter.mp he
    exact ⟨e, this.1, of_decide_eq_true this.2, rfl⟩
  · rintro ⟨e, he, hp, rfl⟩
    exact ⟨e, List.mem_filter.mpr ⟨he, decide_eq_true hp⟩, rfl⟩
/-! ### sorted(xs), xs of data -/
theorem each_of_vals : ∀ {bs : List (V × PyData)} {vs : List Value}, Vals (bs.map Prod.fst) vs → PySem.W.EachIs (fun (v : Value) (b : V × PyData) => RelV b.1 v) vs bs
  | [], _, h => by
    cases h
    exact .nil
  | _ :: _, _, h => by
    cases h with
    | cons h r => exact .cons h (each_of_vals r)
theorem vals_of_each : ∀ {vs : List Value} {bs : List (V × PyData)}, PySem.W.EachIs (fun (v : Value) (b : V × PyData) => RelV b.1 v) vs bs → Vals (bs.map Prod.fst) vs
  | _, _, .nil => .nil
  | _, _, .cons h r => .cons h (vals_of_each r)
theorem reads_of_each {X : Cx} {pins : List (Addr × Obj)} {σ : L2.St} {H : Hp} {s : Shared} (I : Inv X pins σ H s) : ∀ {vs : List Value} {bs : List (V × PyData)}, PySem.W.EachIs (fun (v : Value) (b : V × PyData) => RelV b.1 v) vs bs → (∀ b ∈ bs, Dp X.K H b.1 b.2) → PySem.W.EachIs (fun (v : Value) (b : V × PyData) => ∃ as, Reads s.heap v b.2 as) vs bs
  | _, _, .nil, _ => .nil
  | _, _, .cons h r, d => .cons (Dp.reads I _ _ _ (d _ (List.mem_cons_self ..)) h) (reads_of_each I r fun b hb => d b (List.mem_cons_of_mem _ hb))
def rSortedD (K : PySem.W.Frag) : List V → Hp → VK → Prop := fun vs H Q => ∃ (a : Addr) (bs : List (V × PyData)), vs = [V.ref a] ∧ SqL K H a (bs.map Prod.fst) ∧ (∀ b ∈ bs, Dp K H b.1 b.2) ∧ PySem.W.AllAlike (bs.map Prod.snd) ∧ PySem.W.Sortable (bs.map Prod.snd) ∧ (∀ b ∈ bs, b.2.depth ≤ 50) ∧
  ∀ p, H p = none → Q (.ref p) (upd H p (.lst ((bs.mergeSort (PySem.W.dataLe false Prod.snd)).map Prod.fst)))
theorem cr_sortedD {X : Cx} (hu : X.A.units + 64 < cLine) : CallR X (.builtin "sorted") (rSortedD X.K) := by
  intro pins s σ H vs us Q I r h
  obtain ⟨a, bs, rfl, hs, hd, hal, hso, hdp, q⟩ := h
  obtain ⟨its, rv, hl, hz⟩ := I.list hs
  rw [Vals.ref1 r]
  have e := each_of_vals rv
  refine PySem.W.sorted_data (enc := Prod.snd) hl.isList e (reads_of_each I e hd) hal hso (by rw [List.length_map] at hz; exact hz) (fun b hb => ?_) fun out h1 h2 => ?_
  · have := hdp b hb
    omega
  obtain ⟨ep, he'⟩ := PyProof.Rows.sortedAll_at s.heap its out.toArray
  have hlen : ((bs.mergeSort (PySem.W.dataLe false Prod.snd)).map Prod.fst).length ≤ sizeLine := by
    rw [List.length_map, List.length_mergeSort]
    rw [List.length_map] at hz
    exact hz
  exact ⟨.ref _, upd H (s.heap.objs.size + 1) (.lst ((bs.mergeSort (PySem.W.dataLe false Prod.snd)).map Prod.fst)), I.laid (t' := s.toks) (fun _ _ => PyProof.Rows.sortedAll_old) (Nat.le_succ _) ⟨hlen, out, ep, vals_of_each h2, he'⟩, rfl, q _ (I.hok.fresh (Nat.le_succ _))⟩
open SX (S S_len S_cat slice_to slice_from num_S int_S)
/-! ### sorted(d), d a dict with keys of two ints -/
section
variable {prog : Program} {A : Around} {E : Value → Shared → Prop} {s : Shared} {Ty : String} {r d : Addr} {n : Nat} {PP : Nat → Value → Prop} {OK : Heap → Prop}
open PySem.W PySem.Calls PyProof.V in
/-- the list that a walk over a dict fills, and that the heap has grown -/
theorem collectK {w : World} {R : List Value → Shared → Prop} (Src : PySem.W.KdlSrc prog w Ty r d n PP OK) (hh : A.handled = none) (hok : OK s.heap) (hn : n ≤ sizeLine)
    (h : ∀ (h' : Heap) (tk : Nat) (acc : Array Value), (∀ b o, s.heap.get? b = some o → h'.get? b = some o) → s.heap.objs.size < h'.objs.size → ItemsOf PP acc n → R acc.toList { s with heap := h', toks := tk }) :
    wpAny (model prog w) A (collect (.ref r)) R E s := by
  obtain ⟨rl, dl⟩ := Src.there _ hok
  have up : ∀ {o : Obj} b u, s.heap.get? b = some u → (s.heap.push o).get? b = some u := fun b u e => Heap.get?_push_of_some _ e
  -- what stands when the walk is over
  have Full : ∃ F : Shared → Prop, (∀ s', F s' → wpAny (model prog w) A (load s.heap.objs.size >>= fun o => match o.data with
      | .seq items _ => pure items.toList
      | _ => unsupported "internal:collect") R E s') ∧ (∀ (h' : Heap) tk acc c, (∀ b u, s.heap.get? b = some u → h'.get? b = some u) → h'.get? s.heap.objs.size = some { cls := .type "list", dict := none, data := .seq acc c, slots := #[] } → ItemsOf PP acc n → F { s with heap := h', toks := tk }) :=
    ⟨fun s' => ∃ h' tk acc c, s' = { s with heap := h', toks := tk } ∧ (∀ b u, s.heap.get? b = some u → h'.get? b = some u) ∧ h'.get? s.heap.objs.size = some { cls := .type "list", dict := none, data := .seq acc c, slots := #[] } ∧ ItemsOf PP acc n,
      fun s' ⟨h', tk, acc, c, e, k, a, it⟩ => e ▸ wpAny_bind (wpAny_load a (wpAny_pure (h h' tk acc k (Heap.lt_size a) it))), fun h' tk acc c k a it => ⟨h', tk, acc, c, rfl, k, a, it⟩⟩
  obtain ⟨F, tail, fill⟩ := Full
  unfold collect
  refine wpAny_bind (wpAny_runValue (codeAny_builtin entry_proto_collect' ?_))
  rw [Around.under_plainId PySem.F.plain_proto_collect _]
  show wpAny _ A.in1 (newList [] >>= fun l => again (.builtin "list.__iadd__" ⟨[l, .ref r], []⟩)) _ _ s
  refine wpAny_bind (wpAny_newObj_type (wpAny_pure ⟨plainId_quiet PySem.F.plain_list_iadd _, codeAny_builtin entry_list_iadd' ?_⟩))
  rw [Around.under_plainId PySem.F.plain_list_iadd _]
  have lay : (s.heap.push { cls := .type "list", data := .seq ([] : List Value).toArray }).get? s.heap.objs.size = some { cls := .type "list", data := .seq #[] } := Heap.get?_push_size _ rfl
  refine wpAny_mono (kdl_extend (A := A) (R := fun q s' => q = .ok (.ret (.ref s.heap.objs.size)) ∧ F s') Src hh (Src.keep _ _ hok fun b _ _ e => up b _ e) s.heap.objs.size (Nat.ne_of_gt rl) (Nat.ne_of_gt dl) (.ref s.heap.objs.size) 0 lay (fun h' tk acc c k a it => ⟨rfl, fill h' tk acc c (fun b u e => k b u (Nat.ne_of_lt (Heap.lt_size e)) (up b u e)) a it⟩) hn) (fun fin s' x => ?_) fun e s' x => nomatch x.1
  cases fin with
  | done f =>
    obtain ⟨e, x⟩ := x
    cases e
    exact tail s' x
  | again c =>
    refine ⟨x.1, codeAny_mono x.2 fun q s2 y => ?_⟩
    obtain ⟨rfl, y⟩ := y
    exact tail s2 y
end
/-- the keys of entries, read off one by one -/
theorem keys_listed {prog : Program} {w : World} {κ : Type} [DecidableEq κ] {knd : HeapKind prog w κ} {es : Array DictEntry} {ks : List (κ × Addr × Value)} {acc : Array Value} (he : es.toList = ks.map (entryOfKey knd)) (hn : acc.size = es.size) (at_ : ∀ (i : Nat) (v : Value), acc[i]? = some v → ∃ en : DictEntry, es[i]? = some en ∧ v = en.key) :
    acc.toList = (ks.map fun x => x.2.1).map Value.ref := by
  have e1 : acc.toList = es.toList.map fun en => en.key := by
    refine List.ext_getElem (by rw [List.length_map, Array.length_toList, Array.length_toList, hn]) fun i h1 h2 => ?_
    have hi : i < acc.size := by rwa [Array.length_toList] at h1
    obtain ⟨en, h3, h4⟩ := at_ i acc[i] (Array.getElem?_eq_getElem hi)
    obtain ⟨_, h5⟩ := Array.getElem?_eq_some_iff.mp h3
    rw [List.getElem_map, Array.getElem_toList, Array.getElem_toList, h4, h5]
  rw [e1, he, List.map_map, List.map_map]
  rfl
def idK (z : Int × Int) : List Key := [.inl z.1, .inl z.2]
def ltK (z w : Int × Int) : Prop := z.1 < w.1 ∨ (z.1 = w.1 ∧ z.2 < w.2)
def leD (d e : PyData) : Bool := PySem.W.dataLe false id d e
theorem leD_idD {z w : Int × Int} (h : leD (idD z) (idD w) = true) : ¬ ltK w z := by
  have h : (!PySem.W.dataLt (idD w) (idD z)) = true := h
  unfold idD at h
  rw [PySem.W.dataLt_ii] at h
  have h := of_decide_eq_false (Bool.not_eq_true' _ ▸ h)
  exact h
def gK (z : V × (Int × Int)) : V × PyData := (z.1, idD z.2)
theorem sortK (zs : List (V × (Int × Int))) : ∃ Zs : List (V × (Int × Int)), ((zs.map gK).mergeSort (PySem.W.dataLe false Prod.snd)).map Prod.fst = Zs.map Prod.fst ∧ Zs.Perm zs ∧ (Zs.map Prod.snd).Pairwise fun a b => ¬ ltK b a := by
  refine ⟨zs.mergeSort fun a b => leD (idD a.2) (idD b.2), ?_, List.mergeSort_perm _ _, ?_⟩
  · rw [← List.map_mergeSort (f := gK) (r := fun a b => leD (idD a.2) (idD b.2)) (s := PySem.W.dataLe false Prod.snd) fun _ _ _ _ => rfl, List.map_map]
    rfl
  · have t : PySem.W.TotalLe leD := PySem.W.sortLe_total _ false _
    rw [List.pairwise_map]
    exact (List.pairwise_mergeSort (le := fun a b : V × (Int × Int) => leD (idD a.2) (idD b.2)) (fun a b c h1 h2 => t.trans _ _ _ h1 h2) (fun a b => by
      rw [Bool.or_eq_true]
      exact t.total _ _) zs).imp fun h => leD_idD h
theorem alikeI (z w : Int × Int) : PySem.W.alike (idD z) (idD w) = true := by simp [idD, PySem.W.alike, PySem.W.alikeAll]
theorem keysDp {K : PySem.W.Frag} {H : Hp} : ∀ {kvs : List (List Key × V)} {bs : List Addr} {zs : List (Int × Int)}, Paired (fun p b => H b = some (.tup (p.1.map kV))) kvs bs → kvs.map Prod.fst = zs.map idK → ∀ y ∈ (bs.map V.ref).zip zs, Dp K H y.1 (idD y.2)
  | _, _, [], _, _, y, hy => by
    rw [List.zip_nil_right] at hy
    cases hy
  | _, _, z :: zs, .nil, e, y, hy => by cases hy
  | _, _, z :: zs, .cons h t, e, y, hy => by
    rw [List.map_cons, List.map_cons] at e
    have e1 := (List.cons.inj e).1
    have e2 := (List.cons.inj e).2
    rw [List.map_cons, List.zip_cons_cons] at hy
    rcases List.mem_cons.mp hy with y1 | y1
    · rw [y1]
      rw [e1] at h
      exact .tup (SqT.of h) (.cons (.int _) (.cons (.int _) .nil))
    · exact keysDp t e2 y y1
/-- a tracked tuple of two ints -/
def TuAt (H : Hp) (v : V) (z : Int × Int) : Prop := ∃ b, v = .ref b ∧ H b = some (.tup [.int z.1, .int z.2])
theorem TuAt.dp {K : PySem.W.Frag} {H : Hp} {v : V} {z : Int × Int} (h : TuAt H v z) : Dp K H v (idD z) := by
  obtain ⟨b, rfl, hb⟩ := h
  exact .tup (SqT.of hb) (.cons (.int _) (.cons (.int _) .nil))
theorem keysTu {H : Hp} : ∀ {kvs : List (List Key × V)} {bs : List Addr} {zs : List (Int × Int)}, Paired (fun p b => H b = some (.tup (p.1.map kV))) kvs bs → kvs.map Prod.fst = zs.map idK → ∀ y ∈ (bs.map V.ref).zip zs, TuAt H y.1 y.2
  | _, _, [], _, _, y, hy => by
    rw [List.zip_nil_right] at hy
    cases hy
  | _, _, z :: zs, .nil, e, y, hy => by cases hy
  | _, _, z :: zs, .cons h t, e, y, hy => by
    rw [List.map_cons, List.map_cons] at e
    have e1 := (List.cons.inj e).1
    have e2 := (List.cons.inj e).2
    rw [List.map_cons, List.zip_cons_cons] at hy
    rcases List.mem_cons.mp hy with y1 | y1
    · rw [y1]
      rw [e1] at h
      exact ⟨_, rfl, h⟩
    · exact keysTu t e2 y y1
def rSortedDT (K : PySem.W.Frag) : List V → Hp → VK → Prop := fun vs H Q => ∃ (d : Addr) (kvs : List (List Key × V)) (zs : List (Int × Int)), vs = [.ref d] ∧ H d = some (.dT kvs) ∧ kvs.map Prod.fst = zs.map idK ∧
  ∀ (p : Addr) (Zs : List (V × (Int × Int))), H p = none → (Zs.map Prod.snd).Perm zs → (Zs.map Prod.snd).Pairwise (fun a b => ¬ ltK b a) → (∀ z ∈ Zs, TuAt H z.1 z.2) → Q (.ref p) (upd H p (.lst (Zs.map Prod.fst)))
open PySem.W PySem.Calls PyProof.V in
theorem cr_sortedDT {X : Cx} (hc : X.calm = true) (hu : X.A.units + 64 < cLine) : CallR X (.builtin "sorted") (rSortedDT X.K) := by
  intro pins s σ H xs us Q I r h
  obtain ⟨d, kvs, zs, rfl, hd, ek, q⟩ := h
  rw [Vals.ref1 r]
  obtain ⟨z, hs, ks, pr, o, es, ep, ho, hx, hdt, he, hn⟩ := (show ObjOk X.prog X.w H s.heap d (.dT kvs) from I.hok d _ hd)
  have l1 : es.size = ks.length := size_of_entries he
  have l2 : kvs.length = ks.length := Paired.length pr
  have l3 : zs.length = ks.length := by
    have := congrArg List.length ek
    rw [List.length_map, List.length_map] at this
    omega
  refine call_function_entry kind_sorted plain_sorted entry_sorted (args_sorted1 _) ?_
  unfold Builtin.«sorted»
  refine wpAny_bind (m := checkCount "sorted" 1 1 _) (wpAny_pure ?_)
  refine wpAny_bind (collectK (A := X.A.in1) (kdl_raw hs hx hdt) (I.ok.hd hc) ho (by omega) fun h' tk acc kp hlt it => ?_)
  have eb := keys_listed he it.1 it.2
  rw [eb]
  have pk := isKeys_of pr
  generalize hrf : (ks.map fun x => x.2.1) = rf at pk
  have lrf : rf.length = ks.length := by rw [← hrf, List.length_map]
  have mz : ((rf.map V.ref).zip zs).map Prod.fst = rf.map V.ref := List.map_fst_zip (by rw [List.length_map]; omega)
  have mz2 : ((rf.map V.ref).zip zs).map Prod.snd = zs := List.map_snd_zip (by rw [List.length_map]; omega)
  have mg1 : (((rf.map V.ref).zip zs).map gK).map Prod.fst = rf.map V.ref := by
    rw [List.map_map]
    exact mz
  have rv : Vals ((((rf.map V.ref).zip zs).map gK).map Prod.fst) (rf.map Value.ref) := by
    rw [mg1]
    exact vals_refs rf
  have e := each_of_vals rv
  have hdp : ∀ b ∈ ((rf.map V.ref).zip zs).map gK, Dp X.K H b.1 b.2 := fun b hb => by
    obtain ⟨y, hy, rfl⟩ := List.mem_map.mp hb
    exact keysDp pk ek y hy
  have er := reads_of_each I e hdp
  have hal : PySem.W.AllAlike ((((rf.map V.ref).zip zs).map gK).map Prod.snd) := fun d1 h1 d2 h2 => by
    obtain ⟨b1, g1, rfl⟩ := List.mem_map.mp h1
    obtain ⟨b2, g2, rfl⟩ := List.mem_map.mp h2
    obtain ⟨y1, _, rfl⟩ := List.mem_map.mp g1
    obtain ⟨y2, _, rfl⟩ := List.mem_map.mp g2
    exact alikeI _ _
  have hso : PySem.W.Sortable ((((rf.map V.ref).zip zs).map gK).map Prod.snd) := .inl fun d1 h1 => by
    obtain ⟨b1, g1, rfl⟩ := List.mem_map.mp h1
    obtain ⟨y1, _, rfl⟩ := List.mem_map.mp g1
    exact ⟨_, _, rfl⟩
  have hdep : ∀ b ∈ ((rf.map V.ref).zip zs).map gK, b.2.depth = 1 := fun b hb => by
    obtain ⟨y, _, rfl⟩ := List.mem_map.mp hb
    exact idD_depth _
  have lz : (rf.map Value.ref).length ≤ sizeLine := by rw [List.length_map]; omega
  refine wpAny_bind (wpAny_newList ?_ lz)
  have ho' : (h'.push { cls := .type "list", data := .seq (rf.map Value.ref).toArray }).get? h'.objs.size = some (seqObj "list" (rf.map Value.ref).toArray 0) := Heap.get?_push_size _ rfl
  have up : ∀ b o, s.heap.get? b = some o → (h'.push { cls := .type "list", data := .seq (rf.map Value.ref).toArray }).get? b = some o := fun b o e => Heap.get?_push_of_some _ (kp _ _ e)
  generalize h'.push { cls := .type "list", data := .seq (rf.map Value.ref).toArray } = hp at ho' up
  have nb : ∀ {b o}, s.heap.get? b = some o → b ≠ h'.objs.size := fun e => Nat.ne_of_lt (Nat.lt_trans (Heap.lt_size e) hlt)
  have er' : EachIs (fun (v : Value) (b : V × PyData) => ∃ as, Reads (sortingHeap hp h'.objs.size (rf.map Value.ref)) v b.2 as) (rf.map Value.ref) (((rf.map V.ref).zip zs).map gK) := er.mono fun _ _ ⟨as, r⟩ => ⟨as, Reads.keeps (fun b o e => sortingHeap_old (nb e) (up _ _ e)) r⟩
  refine wpAny_bind (wpAny_holding (wpAny_call_entry slot_list_sort ⟨_, ho', rfl⟩ entry_list_sort (list_sort_vals (κ := dataKind (sortingHeap hp h'.objs.size (rf.map Value.ref)) ((((rf.map V.ref).zip zs).map gK).map Prod.snd)) ho' (SortsAt.data (s := { s with heap := sortingHeap hp h'.objs.size (rf.map Value.ref), toks := tk }) (each_map (R := fun v d => ∃ as, Reads (sortingHeap hp h'.objs.size (rf.map Value.ref)) v d as) Prod.snd er') hal hso ?_) lz ⟨.none, rfl, ?_⟩) (args_list_sort _)))
  · intro d1 h1
    obtain ⟨b1, g1, rfl⟩ := List.mem_map.mp h1
    rw [hdep b1 g1]
    show X.A.units + 1 + 1 + 1 < cLine
    omega
  · have eo := sortVals_data false e er' hal
    obtain ⟨Zs, z1, z2, z3⟩ := sortK ((rf.map V.ref).zip zs)
    obtain ⟨ep2, at2⟩ := sortedHeap_at (out := (sortVals (dataKind (sortingHeap hp h'.objs.size (rf.map Value.ref)) ((((rf.map V.ref).zip zs).map gK).map Prod.snd)) false (rf.map Value.ref) (rf.map Value.ref)).toArray) ho'
    have ov := vals_of_each eo
    rw [z1] at ov
    have zp : (Zs.map Prod.snd).Perm zs := by
      have := z2.map Prod.snd
      rwa [mz2] at this
    refine wpAny_pure ⟨_, rfl, .ref h'.objs.size, upd H h'.objs.size (.lst (Zs.map Prod.fst)), I.laid (t' := tk) (fun b o e => ?_) (Nat.le_of_lt hlt) ⟨?_, _, ep2, ov, at2⟩, rfl, q _ Zs (I.hok.fresh (Nat.le_of_lt hlt)) zp z3 fun y hy => keysTu pk ek y (z2.mem_iff.mp hy)⟩
    · rw [sortedHeap_old (nb e) (Heap.lt_size (up _ _ e))]
      exact up _ _ e
    · rw [List.length_map]
      have := zp.length_eq
      rw [List.length_map] at this
      omega
/-! ### sorted(d), d a dict with words as keys -/
def sK (w : Str) : V × PyData := (.str w, .str w)
theorem sortS (ws : List Str) : ∃ W : List Str, ((ws.map sK).mergeSort (PySem.W.dataLe false Prod.snd)).map Prod.fst = W.map V.str ∧ W.Perm ws ∧ W.Pairwise fun a b => ¬ b.cps.toList < a.cps.toList := by
  refine ⟨ws.mergeSort fun a b => leD (.str a) (.str b), ?_, List.mergeSort_perm _ _, ?_⟩
  · rw [← List.map_mergeSort (f := sK) (r := fun a b => leD (.str a) (.str b)) (s := PySem.W.dataLe false Prod.snd) fun _ _ _ _ => rfl, List.map_map]
    rfl
  · have t : PySem.W.TotalLe leD := PySem.W.sortLe_total _ false _
    refine (List.pairwise_mergeSort (le := fun a b : Str => leD (.str a) (.str b)) (fun a b c h1 h2 => t.trans _ _ _ h1 h2) (fun a b => by
      rw [Bool.or_eq_true]
      exact t.total _ _) ws).imp fun {a b} h => ?_
    have h : (!PySem.W.dataLt (.str b) (.str a)) = true := h
    rw [PySem.W.dataLt_str] at h
    have h := of_decide_eq_false (Bool.not_eq_true' _ ▸ h)
    exact h
def rSortedDK : List V → Hp → VK → Prop := fun vs H Q => ∃ (d : Addr) (kvs : List (Key × V)) (ws : List Str), vs = [.ref d] ∧ H d = some (.dK kvs) ∧ kvs.map Prod.fst = ws.map Sum.inr ∧
  ∀ (p : Addr) (W : List Str), H p = none → W.Perm ws → W.Pairwise (fun a b => ¬ b.cps.toList < a.cps.toList) → Q (.ref p) (upd H p (.lst (W.map V.str)))
open PySem.W PySem.Calls PyProof.V in
theorem cr_sortedDK {X : Cx} (hc : X.calm = true) (hu : X.A.units + 64 < cLine) : CallR X (.builtin "sorted") rSortedDK := by
  intro pins s σ H xs us Q I r h
  obtain ⟨d, kvs, ws, rfl, hd, ek, q⟩ := h
  rw [Vals.ref1 r]
  obtain ⟨z, lo, vs, rk, hdo⟩ := (show ObjOk X.prog X.w H s.heap d (.dK kvs) from I.hok d _ hd)
  obtain ⟨ep, hat⟩ := hdo.dictAt
  have hl : kvs.length = vs.length := Paired.length rk
  have l3 : ws.length = kvs.length := by
    have := congrArg List.length ek
    rw [List.length_map, List.length_map] at this
    exact this.symm
  refine call_function_entry kind_sorted plain_sorted entry_sorted (args_sorted1 _) ?_
  unfold Builtin.«sorted»
  refine wpAny_bind (m := checkCount "sorted" 1 1 _) (wpAny_pure ?_)
  refine wpAny_bind (collectK (A := X.A.in1) (PySem.W.kdl_dict (knd := mixKind X.prog X.w) (kvs := vs) (ep := ep) lo) (I.ok.hd hc) hat (by rw [← hl]; exact z) fun h' tk acc kp hlt hacc => ?_)
  have mg1 : (ws.map sK).map Prod.fst = kvs.map fun kv => kV kv.1 := by
    have e3 : (kvs.map fun kv => kV kv.1) = (kvs.map Prod.fst).map kV := by rw [List.map_map]; rfl
    rw [e3, ek, List.map_map, List.map_map]
    rfl
  have rv : Vals ((ws.map sK).map Prod.fst) acc.toList := by
    rw [mg1]
    have el : acc.toList.length = acc.size := by simp
    refine vals_of_at (by rw [List.length_map, el, hacc.1, hl]) fun j x w h1 h2 => ?_
    obtain ⟨k, y, hky, hi⟩ := hacc.2 j w (by rw [← Array.getElem?_toList]; exact h2)
    have e1 : (kvs.map (·.1))[j]? = some k := by
      rw [KV.keys rk, List.getElem?_map, hky] <;> rfl
    have e2 : (kvs.map fun kv => kV kv.1)[j]? = some (kV k) := by
      have e3 : (kvs.map fun kv => kV kv.1) = (kvs.map (·.1)).map kV := by rw [List.map_map] <;> rfl
      rw [e3, List.getElem?_map, e1] <;> rfl
    rw [e2] at h1
    cases h1
    exact keyIs_rel hi
  have lacc : acc.toList.length ≤ sizeLine := by
    rw [← rv.length, List.length_map, List.length_map]
    omega
  generalize acc.toList = al at rv lacc
  have e := each_of_vals rv
  have hdp : ∀ b ∈ ws.map sK, Dp X.K H b.1 b.2 := fun b hb => by
    obtain ⟨y, hy, rfl⟩ := List.mem_map.mp hb
    exact .str _
  have er := reads_of_each I e hdp
  have hal : PySem.W.AllAlike ((ws.map sK).map Prod.snd) := fun d1 h1 d2 h2 => by
    obtain ⟨b1, g1, rfl⟩ := List.mem_map.mp h1
    obtain ⟨b2, g2, rfl⟩ := List.mem_map.mp h2
    obtain ⟨y1, _, rfl⟩ := List.mem_map.mp g1
    obtain ⟨y2, _, rfl⟩ := List.mem_map.mp g2
    simp [sK, PySem.W.alike]
  have hso : PySem.W.Sortable ((ws.map sK).map Prod.snd) := ?_
  · have ho' : (h'.push { cls := .type "list", data := .seq al.toArray }).get? h'.objs.size = some (seqObj "list" al.toArray 0) := Heap.get?_push_size _ rfl
    have up : ∀ b o, s.heap.get? b = some o → (h'.push { cls := .type "list", data := .seq al.toArray }).get? b = some o := fun b o e => Heap.get?_push_of_some _ (kp _ _ e)
    refine wpAny_bind (wpAny_newList ?_ lacc)
    generalize h'.push { cls := .type "list", data := .seq al.toArray } = hp at ho' up
    have nb : ∀ {b o}, s.heap.get? b = some o → b ≠ h'.objs.size := fun e => Nat.ne_of_lt (Nat.lt_trans (Heap.lt_size e) hlt)
    have er' : EachIs (fun (v : Value) (b : V × PyData) => ∃ as, Reads (sortingHeap hp h'.objs.size al) v b.2 as) al (ws.map sK) := er.mono fun _ _ ⟨as, r⟩ => ⟨as, Reads.keeps (fun b o e => sortingHeap_old (nb e) (up _ _ e)) r⟩
    refine wpAny_bind (wpAny_holding (wpAny_call_entry slot_list_sort ⟨_, ho', rfl⟩ entry_list_sort (list_sort_vals (κ := dataKind (sortingHeap hp h'.objs.size al) ((ws.map sK).map Prod.snd)) ho' (SortsAt.data (s := { s with heap := sortingHeap hp h'.objs.size al, toks := tk }) (each_map (R := fun v d => ∃ as, Reads (sortingHeap hp h'.objs.size al) v d as) Prod.snd er') hal hso ?_) lacc ⟨.none, rfl, ?_⟩) (args_list_sort _)))
    · intro d1 h1
      obtain ⟨b1, g1, rfl⟩ := List.mem_map.mp h1
      obtain ⟨y1, _, rfl⟩ := List.mem_map.mp g1
      show X.A.units + 1 + 1 + 0 < cLine
      omega
    · have eo := sortVals_data false e er' hal
      obtain ⟨W, z1, z2, z3⟩ := sortS ws
      obtain ⟨ep2, at2⟩ := sortedHeap_at (out := (sortVals (dataKind (sortingHeap hp h'.objs.size al) ((ws.map sK).map Prod.snd)) false al al).toArray) ho'
      have ov := vals_of_each eo
      rw [z1] at ov
      refine wpAny_pure ⟨_, rfl, .ref h'.objs.size, upd H h'.objs.size (.lst (W.map V.str)), I.laid (t' := tk) (fun b o e => ?_) (Nat.le_of_lt hlt) ⟨?_, _, ep2, ov, at2⟩, rfl, q _ W (I.hok.fresh (Nat.le_of_lt hlt)) z2 z3⟩
      · rw [sortedHeap_old (nb e) (Heap.lt_size (up _ _ e))]
        exact up _ _ e
      · rw [List.length_map]
        have := z2.length_eq
        omega
  · refine .inr fun d1 h1 => ?_
    obtain ⟨b1, g1, rfl⟩ := List.mem_map.mp h1
    obtain ⟨y1, _, rfl⟩ := List.mem_map.mp g1
    exact ⟨fun z => (by cases z), fun xs z => (by cases z)⟩
/-! ### what a grid holds -/
theorem units2 {k : Nat} {A : Around} (r : Room k A) : A.units + 1 < cLine := by
  have := units65 r
  omega
structure RepP {α β : Type} (At : α → β → Prop) (rs : List α) (D : List β) : Prop where
  len : rs.length = D.length
  at_ : ∀ (i : Nat) (x : α) (e : β), rs[i]? = some x → D[i]? = some e → At x e
theorem RepP.nil {α β : Type} {At : α → β → Prop} : RepP At [] [] := ⟨rfl, fun i x e h => by simp at h⟩
theorem RepP.imp {α β : Type} {At At' : α → β → Prop} {rs : List α} {D : List β} (h : RepP At rs D) (f : ∀ x e, At x e → At' x e) : RepP At' rs D := ⟨h.len, fun i x e h1 h2 => f x e (h.at_ i x e h1 h2)⟩
theorem RepP.cons {α β : Type} {At : α → β → Prop} {x : α} {e : β} {rs : List α} {D : List β} (h0 : At x e) (h : RepP At rs D) : RepP At (x :: rs) (e :: D) := by
  refine ⟨by rw [List.length_cons, List.length_cons, h.len], fun i y f h1 h2 => ?_⟩
  cases i with
  | zero =>
    obtain rfl := Option.some.inj h1
    obtain rfl := Option.some.inj h2
    exact h0
  | succ i => exact h.at_ i y f h1 h2
theorem RepP.un {α β : Type} {At : α → β → Prop} {x : α} {e : β} {rs : List α} {D : List β} (h : RepP At (x :: rs) (e :: D)) : At x e ∧ RepP At rs D :=
  ⟨h.at_ 0 x e rfl rfl, by have := h.len; rw [List.length_cons, List.length_cons] at this; omega, fun i y f h1 h2 => h.at_ (i + 1) y f h1 h2⟩
theorem idK_inj {z w : Int × Int} (h : idK z = idK w) : z = w := by
  have h1 := (List.cons.inj h).1
  have h2 := (List.cons.inj (List.cons.inj h).2).1
  exact Prod.ext (Sum.inl.inj h1) (Sum.inl.inj h2)
/-- what a dict of told entries is: the value of a key, the entry put, the entry dropped -/
def getE {κ β : Type} [DecidableEq κ] (D : List (κ × β)) (k : κ) : Option β := (D.find? fun e => decide (e.1 = k)).map (·.2)
def putE {κ β : Type} [DecidableEq κ] (D : List (κ × β)) (k : κ) (v : β) : List (κ × β) := if (D.any fun e => decide (e.1 = k)) = true then D.map (fun e => if e.1 = k then (e.1, v) else e) else D ++ [(k, v)]
def dropE {κ β : Type} [DecidableEq κ] (D : List (κ × β)) (k : κ) : List (κ × β) := D.filter fun e => decide (e.1 ≠ k)
section
variable {κ ι β : Type} [DecidableEq κ] [DecidableEq ι] {f : ι → κ} {At : V → β → Prop}
/-- the entries: keys by f, values by At -/
def Ents (f : ι → κ) (At : V → β → Prop) : List (κ × V) → List (ι × β) → Prop := RepP fun kv e => kv.1 = f e.1 ∧ At kv.2 e.2
theorem ents_get (hf : ∀ a b, f a = f b → a = b) : ∀ {kvs : List (κ × V)} {D : List (ι × β)}, Ents f At kvs D → ∀ k, (getE D k = none → valV kvs (f k) = none) ∧ ∀ b, getE D k = some b → ∃ v, valV kvs (f k) = some v ∧ At v b
  | [], [], _, k => ⟨fun _ => rfl, fun b h => by cases h⟩
  | kv :: kvs, [], h, k => by have := h.len; simp at this
  | [], e :: D, h, k => by have := h.len; simp at this
  | kv :: kvs, e :: D, h, k => by
    obtain ⟨⟨h1, h2⟩, h3⟩ := RepP.un h
    have ih := ents_get hf h3 k
    by_cases z : e.1 = k
    · have z2 : kv.1 = f k := by rw [h1, z]
      have e1 : getE (e :: D) k = some e.2 := by simp [getE, z]
      have e2 : valV (kv :: kvs) (f k) = some kv.2 := by simp [valV, z2]
      rw [e1, e2]
      exact ⟨fun y => (by cases y), fun b y => ⟨kv.2, rfl, by rw [← Option.some.inj y]; exact h2⟩⟩
    · have z2 : kv.1 ≠ f k := fun y => z (hf _ _ (h1.symm.trans y))
      have e1 : getE (e :: D) k = getE D k := by simp [getE, z]
      have e2 : valV (kv :: kvs) (f k) = valV kvs (f k) := by simp [valV, z2]
      rw [e1, e2]
      exact ih
theorem ents_any (hf : ∀ a b, f a = f b → a = b) : ∀ {kvs : List (κ × V)} {D : List (ι × β)}, Ents f At kvs D → ∀ k, (kvs.any fun kv => decide (kv.1 = f k)) = D.any fun e => decide (e.1 = k)
  | [], [], _, k => rfl
  | kv :: kvs, [], h, k => by have := h.len; simp at this
  | [], e :: D, h, k => by have := h.len; simp at this
  | kv :: kvs, e :: D, h, k => by
    obtain ⟨⟨h1, h2⟩, h3⟩ := RepP.un h
    rw [List.any_cons, List.any_cons, ents_any hf h3 k]
    have : decide (kv.1 = f k) = decide (e.1 = k) := by
      rw [h1]
      exact decide_eq_decide.mpr ⟨hf _ _, fun y => by rw [y]⟩
    rw [this]
theorem ents_snoc {kvs : List (κ × V)} {D : List (ι × β)} {k : ι} {v : V} {b : β} (h : Ents f At kvs D) (hv : At v b) : Ents f At (kvs ++ [(f k, v)]) (D ++ [(k, b)]) := by
  refine ⟨by rw [List.length_append, List.length_append, h.len]; rfl, fun i y e h1 h2 => ?_⟩
  rcases Nat.lt_or_ge i kvs.length with z | z
  · rw [List.getElem?_append_left z] at h1
    rw [List.getElem?_append_left (by rw [← h.len]; exact z)] at h2
    exact h.at_ i y e h1 h2
  · rw [List.getElem?_append_right z] at h1
    rw [List.getElem?_append_right (by rw [← h.len]; exact z)] at h2
    rw [← h.len] at h2
    cases hi : i - kvs.length with
    | zero =>
      rw [hi] at h1 h2
      obtain rfl := Option.some.inj h1
      obtain rfl := Option.some.inj h2
      exact ⟨rfl, hv⟩
    | succ j =>
      rw [hi] at h1
      simp at h1
theorem ents_put (hf : ∀ a b, f a = f b → a = b) {kvs : List (κ × V)} {D : List (ι × β)} {k : ι} {v : V} {b : β} (h : Ents f At kvs D) (hv : At v b) : Ents f At (putK kvs (f k) v) (putE D k b) := by
  unfold putK putE
  rw [ents_any hf h k]
  by_cases c : (D.any fun e => decide (e.1 = k)) = true
  · rw [if_pos c, if_pos c]
    refine ⟨by rw [List.length_map, List.length_map, h.len], fun i y e h1 h2 => ?_⟩
    rw [List.getElem?_map] at h1 h2
    cases h3 : kvs[i]? with
    | none =>
      rw [h3] at h1
      cases h1
    | some kv =>
      cases h4 : D[i]? with
      | none =>
        rw [h4] at h2
        cases h2
      | some d =>
        obtain ⟨g1, g2⟩ := h.at_ i kv d h3 h4
        rw [h3] at h1
        rw [h4] at h2
        have h1 : (if kv.1 = f k then (kv.1, v) else kv) = y := Option.some.inj h1
        have h2 : (if d.1 = k then (d.1, b) else d) = e := Option.some.inj h2
        by_cases z : d.1 = k
        · rw [if_pos z] at h2
          rw [if_pos (by rw [g1, z])] at h1
          rw [← h1, ← h2]
          exact ⟨g1, hv⟩
        · rw [if_neg z] at h2
          rw [if_neg (fun y => z (hf _ _ (g1.symm.trans y)))] at h1
          rw [← h1, ← h2]
          exact ⟨g1, g2⟩
  · rw [if_neg c, if_neg c]
    exact ents_snoc h hv
theorem ents_drop (hf : ∀ a b, f a = f b → a = b) : ∀ {kvs : List (κ × V)} {D : List (ι × β)} {k : ι}, Ents f At kvs D → Ents f At (dropK kvs (f k)) (dropE D k)
  | [], [], _, _ => RepP.nil
  | kv :: kvs, [], _, h => by have := h.len; simp at this
  | [], e :: D, _, h => by have := h.len; simp at this
  | kv :: kvs, e :: D, k, h => by
    obtain ⟨⟨h1, h2⟩, h3⟩ := RepP.un h
    have ih := ents_drop hf (k := k) h3
    unfold dropK dropE at ih ⊢
    by_cases z : e.1 = k
    · have z2 : kv.1 = f k := by rw [h1, z]
      rw [List.filter_cons_of_neg (by simp [z2]), List.filter_cons_of_neg (by simp [z])]
      exact ih
    · have z2 : kv.1 ≠ f k := fun y => z (hf _ _ (h1.symm.trans y))
      rw [List.filter_cons_of_pos (by simp [z2]), List.filter_cons_of_pos (by simp [z])]
      exact RepP.cons ⟨h1, h2⟩ ih
end
/-! ### the grid -/
mutual
theorem dp_same {K : PySem.W.Frag} {H H' : Hp} (e : Same H H') : ∀ {v : V} {d : PyData}, Dp K H v d → Dp K H' v d
  | _, _, .non => .non
  | _, _, .bl b => .bl b
  | _, _, .int i => .int i
  | _, _, .str x => .str x
  | _, _, .lst h r => .lst (e.seq h) (dpAll_same e r)
  | _, _, .tup h r => .tup (Same.tup e h) (dpAll_same e r)
theorem dpAll_same {K : PySem.W.Frag} {H H' : Hp} (e : Same H H') : ∀ {vs : List V} {ds : List PyData}, DpAll K H vs ds → DpAll K H' vs ds
  | _, _, .nil => .nil
  | _, _, .cons h r => .cons (dp_same e h) (dpAll_same e r)
end
-- data of none, bools, ints, texts and tracked tuples
mutual
inductive Dt (H : Hp) : V → PyData → Prop
  | non : Dt H .non .none
  | bl (b : Bool) : Dt H (.bl b) (.bool b)
  | int (i : Int) : Dt H (.int i) (.int i)
  | str (x : Str) : Dt H (.str x) (.str x)
  | tup {a : Addr} {xs : List V} {ds : List PyData} : H a = some (.tup xs) → DtAll H xs ds → Dt H (.ref a) (.tuple ds)
inductive DtAll (H : Hp) : List V → List PyData → Prop
  | nil : DtAll H [] []
  | cons {x : V} {d : PyData} {xs : List V} {ds : List PyData} : Dt H x d → DtAll H xs ds → DtAll H (x :: xs) (d :: ds)
end
mutual
theorem Dt.dp {K : PySem.W.Frag} {H : Hp} : ∀ {v : V} {d : PyData}, Dt H v d → Dp K H v d
  | _, _, .non => .non
  | _, _, .bl b => .bl b
  | _, _, .int i => .int i
  | _, _, .str x => .str x
  | _, _, .tup h r => .tup (SqT.of h) r.dp
theorem DtAll.dp {K : PySem.W.Frag} {H : Hp} : ∀ {vs : List V} {ds : List PyData}, DtAll H vs ds → DpAll K H vs ds
  | _, _, .nil => .nil
  | _, _, .cons h r => .cons h.dp r.dp
end
/-- tuples stay -/
def TT (H H' : Hp) : Prop := ∀ a xs, H a = some (.tup xs) → H' a = some (.tup xs)
theorem TT.of {H H' : Hp} (s : Same H H') : TT H H' := fun a xs h => s a _ h
theorem TT.trans {H H1 H2 : Hp} (x : TT H H1) (y : TT H1 H2) : TT H H2 := fun a xs h => y a xs (x a xs h)
mutual
theorem Dt.tt {H H' : Hp} (e : TT H H') : ∀ {v : V} {d : PyData}, Dt H v d → Dt H' v d
  | _, _, .non => .non
  | _, _, .bl b => .bl b
  | _, _, .int i => .int i
  | _, _, .str x => .str x
  | _, _, .tup h r => .tup (e _ _ h) (r.tt e)
theorem DtAll.tt {H H' : Hp} (e : TT H H') : ∀ {vs : List V} {ds : List PyData}, DtAll H vs ds → DtAll H' vs ds
  | _, _, .nil => .nil
  | _, _, .cons h r => .cons (h.tt e) (r.tt e)
end
theorem dtA_same {H H' : Hp} {vs : List V} {ds : List PyData} (s : Same H H') (h : DtAll H vs ds) : DtAll H' vs ds := h.tt (TT.of s)
structure Gr where
  G : Addr
  cd : Addr
  nd : Addr
  r : Int
  c : Int
abbrev Cells : Type := List ((Int × Int) × List PyData)
abbrev Names : Type := List (Str × Option (List PyData))
def gridO (C dx : Addr) (g : Gr) : HO := .ins C dx [("rows", .int g.r), ("columns", .int g.c), ("_contents", .ref g.cd), ("_names", .ref g.nd)]
def LAt (K : PySem.W.Frag) (H : Hp) (v : V) (ds : List PyData) : Prop := ∃ l us, v = .ref l ∧ H l = some (.lst us) ∧ DtAll H us ds
def NAt (K : PySem.W.Frag) (H : Hp) (v : V) : Option (List PyData) → Prop
  | none => v = .non
  | some ds => LAt K H v ds
def keyW (w : Str) : Key := .inr w
theorem keyW_inj {a b : Str} (h : keyW a = keyW b) : a = b := Sum.inr.inj h
structure GD (K : PySem.W.Frag) (C : Addr) (H : Hp) (g : Gr) (cells : Cells) (names : Names) : Prop where
  ins : ∃ dx, H g.G = some (gridO C dx g)
  cs : ∃ kvs, H g.cd = some (.dT kvs) ∧ Ents idK (LAt K H) kvs cells ∧ kvs.length ≤ 900
  ns : ∃ nvs, H g.nd = some (.dK nvs) ∧ Ents keyW (NAt K H) nvs names ∧ nvs.length ≤ 900
/-- all but the grid's two dicts stays -/
def KG (g : Gr) (H H' : Hp) : Prop := ∀ a o, a ≠ g.cd → a ≠ g.nd → H a = some o → H' a = some o
theorem KG.of {g : Gr} {H H' : Hp} (s : Same H H') : KG g H H' := fun a o _ _ h => s a o h
theorem KG.trans {g : Gr} {H H1 H2 : Hp} (a : KG g H H1) (b : KG g H1 H2) : KG g H H2 := fun x o n1 n2 h => b x o n1 n2 (a x o n1 n2 h)
def spShown (K : PySem.W.Frag) (C : Addr) : Sp := fun vs H Q _ => ∃ (g : Gr) (cells : Cells) (names : Names) (a : Addr) (z : Int × Int), vs = [.ref g.G, .ref a] ∧ GD K C H g cells names ∧ H a = some (.tup [.int z.1, .int z.2]) ∧ ∀ (p : Addr) (us : List V) (H' : Hp), Same H H' → H' p = some (.lst us) → DtAll H' us ((getE cells z).getD []) → H p = none → Q (.ref p) H'
theorem okGrid_Shown (T : Txt K mg) : FnOk P w K mg base CX0 1 T.fGrid_Shown T.fdGrid_Shown ["self", "cell"] (spShown K T.cGrid) := by
  refine T.FGrid_Shown.ok scGrid_Shown (fun vs H Q E h => ?_) (fun cdv A outer s H vs Q E hr h => ?_)
  · obtain ⟨g, cells, names, a, z, rfl, _⟩ := h
    rfl
  · obtain ⟨g, cells, names, a, z, rfl, ⟨⟨dx, hG⟩, ⟨kvs, hC, eC, _⟩, _⟩, ha, q⟩ := h
    -- slots self=0 cell=1
    refine ⟨_, (pss_one (ps_ret (pe_callTy call_list_of (by rfl) T.z_list (by decide +kernel) (pa_cons (pe_dget2 (units2 hr) (pe_fld (pv 0) rfl) (pv 1) (pe_lst pa_nil) ⟨rfl, rfl, rfl, rfl⟩) pa_nil)))), ?_⟩
    refine ⟨_, rfl, g.G, T.cGrid, dx, _, _, rfl, hG, T.clGrid, T.naGrid__contents, rfl, g.cd, rfl, .inr ⟨kvs, .inl hC⟩, _, rfl, Nat.zero_le _, fun l0 hl0 => ?_⟩
    have s0 := same_new (o := .lst []) hl0
    obtain ⟨e1, e2⟩ := ents_get (fun _ _ => idK_inj) eC z
    have dg := DGet.t (k := idK z) (s0 _ _ hC) (s0 _ _ ha)
    cases hg : getE cells z with
    | none =>
      rw [e1 hg] at dg
      refine ⟨none, dg, l0, [], rfl, .inl (SqL.of upd_same), fun p hp => ?_⟩
      refine q p [] _ (s0.trans (same_new hp)) upd_same ?_ (s0.free hp)
      rw [hg]
      exact .nil
    | some ds =>
      obtain ⟨v, ev, l, us, rfl, hl, dp⟩ := e2 ds hg
      rw [ev] at dg
      refine ⟨_, dg, l, us, rfl, .inl (SqL.of (s0 _ _ hl)), fun p hp => ?_⟩
      have s1 := s0.trans (same_new (o := .lst us) hp)
      refine q p us _ s1 upd_same ?_ (s0.free hp)
      rw [hg]
      exact dtA_same s1 dp
theorem GD.same {K : PySem.W.Frag} {C : Addr} {H H' : Hp} {g : Gr} {cells : Cells} {names : Names} (s : Same H H') (h : GD K C H g cells names) : GD K C H' g cells names := by
  obtain ⟨⟨dx, h1⟩, ⟨kvs, h2, h3, h4⟩, ⟨nvs, h5, h6, h7⟩⟩ := h
  refine ⟨⟨dx, s _ _ h1⟩, ⟨kvs, s _ _ h2, h3.imp fun kv e hh => ⟨hh.1, ?_⟩, h4⟩, ⟨nvs, s _ _ h5, h6.imp fun kv e hh => ⟨hh.1, ?_⟩, h7⟩⟩
  · obtain ⟨_, l, us, g1, g2, g3⟩ := hh
    exact ⟨l, us, g1, s _ _ g2, dtA_same s g3⟩
  · obtain ⟨_, g1⟩ := hh
    cases he : e.2 with
    | none =>
      rw [he] at g1
      exact g1
    | some ds =>
      rw [he] at g1
      obtain ⟨l, us, g1, g2, g3⟩ := g1
      exact ⟨l, us, g1, s _ _ g2, dtA_same s g3⟩
def isD : HO → Bool
  | .dT _ => true
  | .dK _ => true
  | _ => false
/-- all but dicts stays -/
def KD (H H' : Hp) : Prop := ∀ q o, isD o = false → H q = some o → H' q = some o
theorem KD.of {H H' : Hp} (s : Same H H') : KD H H' := fun q o _ h => s q o h
theorem KD.trans {H H1 H2 : Hp} (a : KD H H1) (b : KD H1 H2) : KD H H2 := fun q o n h => b q o n (a q o n h)
theorem KD.put {H : Hp} {L : Addr} {o o' : HO} (hL : H L = some o) (hd : isD o = true) : KD H (upd H L o') := fun q u n h => by
  rw [upd_ne fun z => ?_]
  · exact h
  · rw [z, hL] at h
    rw [← Option.some.inj h, hd] at n
    cases n
theorem KD.seq {K : PySem.W.Frag} {H H' : Hp} {a : Addr} {xs : List V} (e : KD H H') (h : SqL K H a xs) : SqL K H' a xs := by
  rcases h with (h | ⟨o, h⟩) | h
  · exact .inl (.inl (e _ _ rfl h))
  · exact .inl (.inr ⟨o, e _ _ rfl h⟩)
  · exact .inr h
theorem KD.tup {K : PySem.W.Frag} {H H' : Hp} {a : Addr} {xs : List V} (e : KD H H') (h : SqT K H a xs) : SqT K H' a xs := by
  rcases h with (h | ⟨o, h⟩) | h
  · exact .inl (.inl (e _ _ rfl h))
  · exact .inl (.inr ⟨o, e _ _ rfl h⟩)
  · exact .inr h
mutual
theorem dp_kd {K : PySem.W.Frag} {H H' : Hp} (e : KD H H') : ∀ {v : V} {d : PyData}, Dp K H v d → Dp K H' v d
  | _, _, .non => .non
  | _, _, .bl b => .bl b
  | _, _, .int i => .int i
  | _, _, .str x => .str x
  | _, _, .lst h r => .lst (e.seq h) (dpA_kd e r)
  | _, _, .tup h r => .tup (e.tup h) (dpA_kd e r)
theorem dpA_kd {K : PySem.W.Frag} {H H' : Hp} (e : KD H H') : ∀ {vs : List V} {ds : List PyData}, DpAll K H vs ds → DpAll K H' vs ds
  | _, _, .nil => .nil
  | _, _, .cons h r => .cons (dp_kd e h) (dpA_kd e r)
end
theorem TT.kd {H H' : Hp} (e : KD H H') : TT H H' := fun a xs h => e a _ rfl h
theorem dtA_kd {H H' : Hp} {vs : List V} {ds : List PyData} (e : KD H H') (h : DtAll H vs ds) : DtAll H' vs ds := h.tt (TT.kd e)
theorem LAt.kd {K : PySem.W.Frag} {H H' : Hp} {v : V} {ds : List PyData} (e : KD H H') (h : LAt K H v ds) : LAt K H' v ds := by
  obtain ⟨l, us, g1, g2, g3⟩ := h
  exact ⟨l, us, g1, e _ _ rfl g2, dtA_kd e g3⟩
theorem NAt.kd {K : PySem.W.Frag} {H H' : Hp} {v : V} {d : Option (List PyData)} (e : KD H H') (h : NAt K H v d) : NAt K H' v d := by
  cases d with
  | none => exact h
  | some ds => exact LAt.kd (K := K) e h
theorem ents_kd {κ ι : Type} {f : ι → κ} {K : PySem.W.Frag} {H H' : Hp} {kvs : List (κ × V)} {D : List (ι × List PyData)} (e : KD H H') (h : Ents f (LAt K H) kvs D) : Ents f (LAt K H') kvs D := h.imp fun kv d hh => ⟨hh.1, LAt.kd (K := K) e hh.2⟩
theorem entsN_kd {κ ι : Type} {f : ι → κ} {K : PySem.W.Frag} {H H' : Hp} {kvs : List (κ × V)} {D : List (ι × Option (List PyData))} (e : KD H H') (h : Ents f (NAt K H) kvs D) : Ents f (NAt K H') kvs D := h.imp fun kv d hh => ⟨hh.1, NAt.kd e hh.2⟩
theorem GD.ne {K : PySem.W.Frag} {C : Addr} {H : Hp} {g : Gr} {cells : Cells} {names : Names} (h : GD K C H g cells names) : g.cd ≠ g.G ∧ g.nd ≠ g.G ∧ g.cd ≠ g.nd := by
  obtain ⟨⟨dx, h1⟩, ⟨kvs, h2, _⟩, ⟨nvs, h5, _⟩⟩ := h
  refine ⟨fun z => ?_, fun z => ?_, fun z => ?_⟩
  · rw [z, h1] at h2
    cases h2
  · rw [z, h1] at h5
    cases h5
  · rw [z, h5] at h2
    cases h2
/-- the dict of the contents changes -/
theorem GD.setC {K : PySem.W.Frag} {C : Addr} {H : Hp} {g : Gr} {cells cells' : Cells} {names : Names} {kvs' : List (List Key × V)} (h : GD K C H g cells names) (e : Ents idK (LAt K H) kvs' cells') (hl : kvs'.length ≤ 900) : GD K C (upd H g.cd (.dT kvs')) g cells' names ∧ KD H (upd H g.cd (.dT kvs')) ∧ KG g H (upd H g.cd (.dT kvs')) := by
  have ne := h.ne
  obtain ⟨⟨dx, h1⟩, ⟨kvs, h2, _⟩, ⟨nvs, h5, h6, h7⟩⟩ := h
  have kd : KD H (upd H g.cd (.dT kvs')) := KD.put h2 rfl
  exact ⟨⟨⟨dx, by rw [upd_ne ne.1.symm]; exact h1⟩, ⟨kvs', upd_same, ents_kd kd e, hl⟩, ⟨nvs, by rw [upd_ne ne.2.2.symm]; exact h5, entsN_kd kd h6, h7⟩⟩, kd, fun a o n1 n2 e => by rw [upd_ne n1]; exact e⟩
/-- the dict of the names changes -/
theorem GD.setN {K : PySem.W.Frag} {C : Addr} {H : Hp} {g : Gr} {cells : Cells} {names names' : Names} {nvs' : List (Key × V)} (h : GD K C H g cells names) (e : Ents keyW (NAt K H) nvs' names') (hl : nvs'.length ≤ 900) : GD K C (upd H g.nd (.dK nvs')) g cells names' ∧ KD H (upd H g.nd (.dK nvs')) ∧ KG g H (upd H g.nd (.dK nvs')) := by
  have ne := h.ne
  obtain ⟨⟨dx, h1⟩, ⟨kvs, h2, h3, h4⟩, ⟨nvs, h5, _⟩⟩ := h
  have kd : KD H (upd H g.nd (.dK nvs')) := KD.put h5 rfl
  exact ⟨⟨⟨dx, by rw [upd_ne ne.2.1.symm]; exact h1⟩, ⟨kvs, by rw [upd_ne ne.2.2]; exact h2, ents_kd kd h3, h4⟩, ⟨nvs', upd_same, entsN_kd kd e, hl⟩⟩, kd, fun a o n1 n2 e => by rw [upd_ne n2]; exact e⟩
theorem putK_len {κ : Type} [DecidableEq κ] (kvs : List (κ × V)) (k : κ) (v : V) : (putK kvs k v).length ≤ kvs.length + 1 := by
  unfold putK
  split
  · rw [List.length_map]
    omega
  · rw [List.length_append]
    exact Nat.le_refl _
theorem dropK_len {κ : Type} [DecidableEq κ] (kvs : List (κ × V)) (k : κ) : (dropK kvs k).length ≤ kvs.length := List.length_filter_le _ _
theorem dropE_no {κ β : Type} [DecidableEq κ] {D : List (κ × β)} {k : κ} (h : getE D k = none) : dropE D k = D := by
  unfold dropE
  rw [List.filter_eq_self]
  intro e he
  refine decide_eq_true fun z => ?_
  have h2 : D.find? (fun e => decide (e.1 = k)) = none := by
    unfold getE at h
    exact Option.map_eq_none_iff.mp h
  exact absurd (decide_eq_true z) (by simpa using List.find?_eq_none.mp h2 e he)
def rmS (S : List Addr) (H : Hp) : Hp := fun a => if a ∈ S then none else H a
theorem rmS_nil {H : Hp} : rmS [] H = H := by
  funext a
  exact if_neg (fun h => nomatch h)
theorem rmS_of {S : List Addr} {H : Hp} {a : Addr} (n : a ∉ S) : rmS S H a = H a := if_neg n
theorem rmS_some {S : List Addr} {H : Hp} {a : Addr} {o : HO} (h : rmS S H a = some o) : a ∉ S ∧ H a = some o := by
  by_cases z : a ∈ S
  · have : rmS S H a = none := if_pos z
    rw [this] at h
    cases h
  · exact ⟨z, (rmS_of z).symm.trans h⟩
theorem rmS_le {S : List Addr} {H : Hp} : Same (rmS S H) H := fun _ _ h => (rmS_some h).2
theorem rmS_same {S : List Addr} {H H' : Hp} (s : Same H H') : Same (rmS S H) (rmS S H') := fun a o h => by
  obtain ⟨n, e⟩ := rmS_some h
  rw [rmS_of n]
  exact s a o e
theorem rmS_upd {S : List Addr} {H : Hp} {a : Addr} {o : HO} (n : a ∉ S) : rmS S (upd H a o) = upd (rmS S H) a o := by
  funext c
  by_cases z : c = a
  · rw [z, upd_same, rmS_of n, upd_same]
  · rw [upd_ne z]
    by_cases y : c ∈ S
    · exact (if_pos y).trans (if_pos y).symm
    · rw [rmS_of y, rmS_of y, upd_ne z]
/-- lists only -/
def Ls (S : List Addr) (H : Hp) : Prop := ∀ x ∈ S, ∃ us, H x = some (.lst us)
theorem Ls.nil {H : Hp} : Ls [] H := fun _ h => nomatch h
theorem Ls.same {S : List Addr} {H H' : Hp} (l : Ls S H) (s : Same H H') : Ls S H' := fun x h => by
  obtain ⟨us, e⟩ := l x h
  exact ⟨us, s _ _ e⟩
theorem Ls.fresh {S : List Addr} {H : Hp} {p : Addr} (l : Ls S H) (h : H p = none) : p ∉ S := fun z => by
  obtain ⟨us, e⟩ := l p z
  rw [h] at e
  cases e
theorem Ls.tt {S : List Addr} {H : Hp} (l : Ls S H) : TT H (rmS S H) := fun a xs h => by
  rw [rmS_of fun z => ?_]
  · exact h
  · obtain ⟨us, e⟩ := l a z
    rw [h] at e
    cases e
def spName (K : PySem.W.Frag) (C : Addr) : Sp := fun vs H Q _ => ∃ (S : List Addr) (g : Gr) (cells : Cells) (names : Names) (w : Str) (v : V) (d : Option (List PyData)), vs = [.ref g.G, .str w, v] ∧ Ls S H ∧ GD K C (rmS S H) g cells names ∧ names.length ≤ 800 ∧ NAt K H v d ∧ ∀ H', KG g H H' → KD H H' → GD K C (rmS S H') g cells (putE names w d) → Q .non H'
theorem okGrid_Name (T : Txt K mg) : FnOk P w K mg base CX0 1 T.fGrid_Name T.fdGrid_Name ["self", "word", "areas"] (spName K T.cGrid) := by
  refine T.FGrid_Name.ok scGrid_Name (fun vs H Q E h => ?_) (fun cdv A outer s H vs Q E hr h => ?_)
  · obtain ⟨S, g, cells, names, w, v, d, rfl, _⟩ := h
    rfl
  · obtain ⟨S, g, cells, names, w, v, d, rfl, ls, G0, hz, hv, q⟩ := h
    -- slots self=0 word=1 areas=2
    refine ⟨_, (pss_one (ps_dput (units2 hr) (pe_fld (pv 0) rfl) (pv 1) (pe_ifExp (pt_cmpR op_isN (pv 2) pe_non (nomark _)) pe_non (pe_callTy call_list_of (by rfl) T.z_list (by decide +kernel) (pa_cons (pv 2) pa_nil))) rfl)), ?_⟩
    obtain ⟨⟨dx, hGr⟩, _, ⟨nvs, hNr, eN, hl⟩⟩ := id G0
    obtain ⟨nS, hN⟩ := rmS_some hNr
    have hG := (rmS_some hGr).2
    have main : ∀ (y : V) (H1 : Hp), Same H H1 → NAt K (rmS S H1) y d → Q .non (upd H1 g.nd (.dK (putK nvs (keyW w) y))) := fun y H1 s1 ny => by
      obtain ⟨g1, _, _⟩ := (G0.same (rmS_same s1)).setN (ents_put (fun _ _ => keyW_inj) (k := w) (entsN_kd (KD.of (rmS_same s1)) eN) ny) (by have := putK_len nvs (keyW w) y; have := eN.len; omega)
      rw [← rmS_upd nS] at g1
      exact q _ ((KG.of s1).trans fun a o n1 n2 e => by rw [upd_ne n2]; exact e) ((KD.of s1).trans (KD.put (s1 _ _ hN) rfl)) g1
    cases d with
    | none =>
      obtain rfl := hv
      refine ⟨_, rfl, rfl, _, rfl, ite2 (fun _ => ?_) (fun c => absurd (decide_eq_true rfl) c)⟩
      exact ⟨_, rfl, g.G, T.cGrid, dx, _, _, rfl, hG, T.clGrid, T.naGrid__names, rfl, _, rfl, g.nd, _, rfl, DPut.k (k := keyW w) hN (small1000 (by omega)), main .non H (Same.refl _) rfl⟩
    | some ds =>
      obtain ⟨l, us, rfl, hlv, dp⟩ := hv
      refine ⟨_, rfl, rfl, _, rfl, ite2 (fun c => (nomatch (of_decide_eq_true c))) (fun _ => ?_)⟩
      refine ⟨_, rfl, l, us, rfl, .inl (SqL.of hlv), fun p hp => ?_⟩
      have s1 := same_new (o := .lst us) hp
      have hN1 := s1 _ _ hN
      exact ⟨_, rfl, g.G, T.cGrid, dx, _, _, rfl, s1 _ _ hG, T.clGrid, T.naGrid__names, rfl, _, rfl, g.nd, _, rfl, DPut.k (k := keyW w) hN1 (small1000 (by omega)), main (.ref p) _ s1 ⟨p, us, rfl, (rmS_of (ls.fresh hp)).trans upd_same, (dtA_same s1 dp).tt (ls.same s1).tt⟩⟩
def spUnname (K : PySem.W.Frag) (C : Addr) : Sp := fun vs H Q _ => ∃ (S : List Addr) (g : Gr) (cells : Cells) (names : Names) (w : Str), vs = [.ref g.G, .str w] ∧ GD K C (rmS S H) g cells names ∧ ∀ H', KG g H H' → KD H H' → GD K C (rmS S H') g cells (dropE names w) → Q .non H'
theorem okGrid_Unname (T : Txt K mg) : FnOk P w K mg base CX0 1 T.fGrid_Unname T.fdGrid_Unname ["self", "word"] (spUnname K T.cGrid) := by
  refine T.FGrid_Unname.ok scGrid_Unname (fun vs H Q E h => ?_) (fun cdv A outer s H vs Q E hr h => ?_)
  · obtain ⟨S, g, cells, names, w, rfl, _⟩ := h
    rfl
  · obtain ⟨S, g, cells, names, w, rfl, G0, q⟩ := h
    -- slots self=0 word=1
    refine ⟨_, (pss_one (ps_expr (pe_dpop2 (pe_fld (pv 0) rfl) (pv 1) pe_non ⟨rfl, rfl, rfl, rfl⟩))), ?_⟩
    obtain ⟨⟨dx, hGr⟩, _, ⟨nvs, hNr, eN, hl⟩⟩ := id G0
    obtain ⟨nS, hN⟩ := rmS_some hNr
    have hG := (rmS_some hGr).2
    obtain ⟨e1, e2⟩ := ents_get (fun _ _ => keyW_inj) eN w
    refine ⟨_, rfl, g.G, T.cGrid, dx, _, _, rfl, hG, T.clGrid, T.naGrid__names, rfl, g.nd, rfl, .inl ⟨nvs, .inl hN⟩, _, rfl, nvs, keyW w, hN, rfl, fun v ev => ?_, fun ev => ?_⟩
    · obtain ⟨g1, g2, g3⟩ := G0.setN (ents_drop (fun _ _ => keyW_inj) (k := w) eN) (by have := dropK_len nvs (keyW w); omega)
      rw [← rmS_upd nS] at g1
      exact q _ (fun a o n1 n2 e => by rw [upd_ne n2]; exact e) (KD.put hN rfl) g1
    · have : getE names w = none := by
        cases hg : getE names w with
        | none => rfl
        | some b =>
          obtain ⟨v, e3, _⟩ := e2 b hg
          rw [e3] at ev
          cases ev
      exact q _ (KG.of (Same.refl _)) (KD.of (Same.refl _)) (by rw [dropE_no this]; exact G0)
def blankD : PyData := .list [.tuple [.str "blank"]]
def isBl (ds : List PyData) : Bool := PyData.eqv (.list ds) (.list []) || PyData.eqv (.list ds) blankD
def setCell (cells : Cells) (z : Int × Int) (ds : List PyData) : Cells := if isBl ds = true then dropE cells z else putE cells z ds
def spPut (K : PySem.W.Frag) (C : Addr) : Sp := fun vs H Q _ => ∃ (S : List Addr) (g : Gr) (cells : Cells) (names : Names) (a l : Addr) (z : Int × Int) (us : List V) (ds : List PyData), vs = [.ref g.G, .ref a, .ref l] ∧ Ls S H ∧ GD K C (rmS S H) g cells names ∧ cells.length ≤ 800 ∧ H a = some (.tup [.int z.1, .int z.2]) ∧ H l = some (.lst us) ∧ DtAll H us ds ∧ SeqAt.shaped (.list ds) = true ∧
  ∀ H', KG g H H' → KD H H' → GD K C (rmS S H') g (setCell cells z ds) names → Q .non H'
theorem okGrid_Put (T : Txt K mg) : FnOk P w K mg base CX0 1 T.fGrid_Put T.fdGrid_Put ["self", "cell", "shown"] (spPut K T.cGrid) := by
  refine T.FGrid_Put.ok scGrid_Put (fun vs H Q E h => ?_) (fun cdv A outer s H vs Q E hr h => ?_)
  · obtain ⟨S, g, cells, names, a, l, z, us, ds, rfl, _⟩ := h
    rfl
  · obtain ⟨S, g, cells, names, a, l, z, us, ds, rfl, ls, G0, hz, ha, hl, dp, sh, q⟩ := h
    -- slots self=0 cell=1 shown=2
    refine ⟨_, (pss_one (ps_if (PW.pt (pw_or (pt_cmpR (op_eqD hr.units) (pv 2) (pe_lst pa_nil) (nomark _)) (pw_or1 (pt_cmpR (op_eqD hr.units) (pv 2) (pe_lst (pa_cons (pe_tup (pa_cons pe_str pa_nil)) pa_nil)) (nomark _)))))
          (pss_one (ps_expr (pe_bm PySem.F.plainAttrs_dict PySem.F.slot_dict_pop PySem.F.type_dict_pop (L2.DX.mt_popT (units2 hr)) (pe_fld (pv 0) rfl) (pa_cons (pv 1) (pa_cons pe_non pa_nil)))))
          (pss_one (ps_dput (units2 hr) (pe_fld (pv 0) rfl) (pv 1) (pe_callTy call_list_of (by rfl) T.z_list (by decide +kernel) (pa_cons (pv 2) pa_nil)) rfl)))), ?_⟩
    have st : ∀ b : Bool, isBl ds = b → setCell cells z ds = if b = true then dropE cells z else putE cells z ds := fun b e => by
      unfold setCell
      rw [e]
    obtain ⟨⟨dx, hGr⟩, ⟨kvs, hCr, eC, hl2⟩, _⟩ := id G0
    obtain ⟨nS, hC⟩ := rmS_some hCr
    have hG := (rmS_some hGr).2
    have pop : ∀ H1, Same H H1 → isBl ds = true → L2.DX.rPopT (.ref g.cd) [.ref a, .non] H1 (fun _ H' => Q .non H') := fun H1 s1 hb => by
      have G1 := G0.same (rmS_same s1)
      have eC1 := ents_kd (KD.of (rmS_same (S := S) s1)) eC
      obtain ⟨e1, e2⟩ := ents_get (fun _ _ => idK_inj) eC1 z
      refine ⟨g.cd, kvs, idK z, a, .non, rfl, rfl, s1 _ _ hC, s1 _ _ ha, fun v ev => ?_, fun ev => ?_⟩
      · obtain ⟨g1, _, _⟩ := G1.setC (ents_drop (fun _ _ => idK_inj) (k := z) eC1) (by have := dropK_len kvs (idK z); omega)
        rw [← rmS_upd nS] at g1
        exact q _ ((KG.of s1).trans fun a o n1 n2 e => by rw [upd_ne n1]; exact e) ((KD.of s1).trans (KD.put (s1 _ _ hC) rfl)) (by rw [st true hb, if_pos rfl]; exact g1)
      · have : getE cells z = none := by
          cases hg : getE cells z with
          | none => rfl
          | some b =>
            obtain ⟨v, e3, _⟩ := e2 b hg
            rw [e3] at ev
            cases ev
        exact q _ (KG.of s1) (KD.of s1) (by rw [st true hb, if_pos rfl, dropE_no this]; exact G1)
    refine ⟨_, rfl, Nat.zero_le _, fun l0 hl0 => ?_⟩
    have s0 := same_new (o := .lst []) hl0
    refine ⟨.list ds, .list [], .lst (SqL.of (s0 _ _ hl)) (dtA_same s0 dp).dp, .lst (SqL.of upd_same) .nil, sh, by decide +kernel, _, rfl, ite2 (fun c => ?_) (fun c => ?_)⟩
    · refine (if_pos rfl).mpr ?_
      exact ⟨_, rfl, g.G, T.cGrid, dx, _, _, rfl, s0 _ _ hG, T.clGrid, T.naGrid__contents, rfl, .inr (.inr (.inl ⟨rfl, .inr ⟨kvs, s0 _ _ hC⟩⟩)), _, rfl, pop _ s0 (by unfold isBl; rw [show PyData.eqv (.list ds) (.list []) = true from c]; rfl)⟩
    · refine ⟨_, rfl, (by show 1 ≤ sizeLine; decide), fun t ht => ⟨(by show 1 ≤ sizeLine; decide), fun l1 hl1 => ?_⟩⟩
      have s1 := (s0.trans (same_new (o := .tup [.str "blank"]) ht)).trans (same_new (o := .lst [.ref t]) hl1)
      have ht2 : (upd (upd (upd H l0 (.lst [])) t (.tup [.str "blank"])) l1 (.lst [.ref t])) t = some (.tup [.str "blank"]) := same_new hl1 _ _ upd_same
      refine ⟨.list ds, blankD, .lst (SqL.of (s1 _ _ hl)) (dtA_same s1 dp).dp, .lst (SqL.of upd_same) (.cons (.tup (SqT.of ht2) (.cons (.str _) .nil)) .nil), sh, by decide +kernel, _, rfl, ite2 (fun c2 => ?_) (fun c2 => ?_)⟩
      · have hb : isBl ds = true := by
          unfold isBl
          rw [show PyData.eqv (.list ds) blankD = true from c2, Bool.or_true]
        exact ⟨_, rfl, g.G, T.cGrid, dx, _, _, rfl, s1 _ _ hG, T.clGrid, T.naGrid__contents, rfl, .inr (.inr (.inl ⟨rfl, .inr ⟨kvs, s1 _ _ hC⟩⟩)), _, rfl, pop _ s1 hb⟩
      · have hb : isBl ds = false := by
          unfold isBl
          rw [Bool.or_eq_false_iff]
          exact ⟨Bool.eq_false_iff.mpr c, Bool.eq_false_iff.mpr c2⟩
        refine ⟨_, rfl, l, us, rfl, .inl (SqL.of (s1 _ _ hl)), fun p hp => ?_⟩
        have ls1 := ls.same s1
        have s2 := s1.trans (same_new (o := .lst us) hp)
        have G2 := G0.same (rmS_same s2)
        have eC2 := ents_kd (KD.of (rmS_same (S := S) s2)) eC
        refine ⟨_, rfl, g.G, T.cGrid, dx, _, _, rfl, s2 _ _ hG, T.clGrid, T.naGrid__contents, rfl, _, rfl, g.cd, _, rfl, DPut.t (k := idK z) (s2 _ _ hC) (s2 _ _ ha) (small1000 (by omega)), ?_⟩
        obtain ⟨g1, _, _⟩ := G2.setC (ents_put (fun _ _ => idK_inj) (k := z) (v := .ref p) eC2 ⟨p, us, rfl, (rmS_of (ls1.fresh hp)).trans upd_same, (dtA_same s2 dp).tt (ls.same s2).tt⟩) (by have := putK_len kvs (idK z) (.ref p); have := eC.len; omega)
        rw [← rmS_upd nS] at g1
        exact q _ ((KG.of s2).trans fun a o n1 n2 e => by rw [upd_ne n1]; exact e) ((KD.of s2).trans (KD.put (s2 _ _ hC) rfl)) (by rw [st false hb, if_neg Bool.false_ne_true]; exact g1)
theorem units65b {k : Nat} {A : Around} (r : Room k A) : A.units + 64 < cLine := by
  have := r.un
  omega
theorem ents_keys {κ ι β : Type} {f : ι → κ} {At : V → β → Prop} : ∀ {kvs : List (κ × V)} {D : List (ι × β)}, Ents f At kvs D → kvs.map Prod.fst = (D.map Prod.fst).map f
  | [], [], _ => rfl
  | kv :: kvs, [], h => by have := h.len; simp at this
  | [], e :: D, h => by have := h.len; simp at this
  | kv :: kvs, e :: D, h => by
    obtain ⟨⟨h1, _⟩, h3⟩ := RepP.un h
    rw [List.map_cons, List.map_cons, List.map_cons, h1, ents_keys h3]
def spGCells (K : PySem.W.Frag) (C : Addr) : Sp := fun vs H Q _ => ∃ (g : Gr) (cells : Cells) (names : Names), vs = [.ref g.G] ∧ GD K C H g cells names ∧
  ∀ (p : Addr) (Zs : List (V × (Int × Int))), H p = none → (Zs.map Prod.snd).Perm (cells.map Prod.fst) → (Zs.map Prod.snd).Pairwise (fun a b => ¬ ltK b a) → (∀ z ∈ Zs, TuAt H z.1 z.2) → Q (.ref p) (upd H p (.lst (Zs.map Prod.fst)))
theorem okGrid_Cells (T : Txt K mg) : FnOk P w K mg base CX0 1 T.fGrid_Cells T.fdGrid_Cells ["self"] (spGCells K T.cGrid) := by
  refine T.FGrid_Cells.ok scGrid_Cells (fun vs H Q E h => ?_) (fun cdv A outer s H vs Q E hr h => ?_)
  · obtain ⟨g, cells, names, rfl, _⟩ := h
    rfl
  · obtain ⟨g, cells, names, rfl, ⟨⟨dx, hG⟩, ⟨kvs, hC, eC, _⟩, _⟩, q⟩ := h
    -- slots self=0
    refine ⟨_, (pss_one (ps_ret (pe_callB (cr_sortedDT rfl (units65b hr)) (by rfl) T.z_sorted (by decide +kernel) (pa_cons (pe_fld (pv 0) rfl) pa_nil)))), ?_⟩
    exact ⟨_, rfl, g.G, T.cGrid, dx, _, _, rfl, hG, T.clGrid, T.naGrid__contents, rfl, g.cd, kvs, cells.map Prod.fst, rfl, hC, ents_keys eC, q⟩
def spWords (K : PySem.W.Frag) (C : Addr) : Sp := fun vs H Q _ => ∃ (g : Gr) (cells : Cells) (names : Names), vs = [.ref g.G] ∧ GD K C H g cells names ∧
  ∀ (p : Addr) (W : List Str), H p = none → W.Perm (names.map Prod.fst) → W.Pairwise (fun a b => ¬ b.cps.toList < a.cps.toList) → Q (.ref p) (upd H p (.lst (W.map V.str)))
theorem okGrid_Words (T : Txt K mg) : FnOk P w K mg base CX0 1 T.fGrid_Words T.fdGrid_Words ["self"] (spWords K T.cGrid) := by
  refine T.FGrid_Words.ok scGrid_Words (fun vs H Q E h => ?_) (fun cdv A outer s H vs Q E hr h => ?_)
  · obtain ⟨g, cells, names, rfl, _⟩ := h
    rfl
  · obtain ⟨g, cells, names, rfl, ⟨⟨dx, hG⟩, _, ⟨nvs, hN, eN, _⟩⟩, q⟩ := h
    -- slots self=0
    refine ⟨_, (pss_one (ps_ret (pe_callB (cr_sortedDK rfl (units65b hr)) (by rfl) T.z_sorted (by decide +kernel) (pa_cons (pe_fld (pv 0) rfl) pa_nil)))), ?_⟩
    exact ⟨_, rfl, g.G, T.cGrid, dx, _, _, rfl, hG, T.clGrid, T.naGrid__names, rfl, g.nd, nvs, names.map Prod.fst, rfl, hN, ents_keys eN, q⟩
def rmG (H : Hp) (F : Addr) : Hp := fun a => if a = F then none else H a
/-- a new grid -/
def spGInit (K : PySem.W.Frag) (C : Addr) : Sp := fun vs H Q _ => ∃ (G dx : Addr) (r c : Int), vs = [.ref G, .int r, .int c] ∧ H G = some (.ins C dx []) ∧ ∀ (g : Gr) (H' : Hp), g.G = G → g.r = r → g.c = c → Same (rmG H G) H' → rmG H G g.cd = none → rmG H G g.nd = none → GD K C H' g [] [] → Q .non H'
theorem okGrid_Init (T : Txt K mg) : FnOk P w K mg base CX0 1 T.fGrid_Init T.fdGrid_Init ["self", "rows", "columns"] (spGInit K T.cGrid) := by
  refine T.FGrid_Init.ok scGrid_Init (fun vs H Q E h => ?_) (fun cdv A outer s H vs Q E hr h => ?_)
  · obtain ⟨G, dx, r, c, rfl, _⟩ := h
    rfl
  · obtain ⟨G, dx, r, c, rfl, hG, q⟩ := h
    -- slots self=0 rows=1 columns=2
    refine ⟨_, (pss_cons (ps_fld (pv 0) (pv 1) rfl)
        (pss_cons (ps_fld (pv 0) (pv 2) rfl)
        (pss_cons (ps_fld (pv 0) pe_dnewT rfl)
        (pss_one (ps_fld (pv 0) pe_dnewK rfl))))), ?_⟩
    refine ⟨_, rfl, _, rfl, G, T.cGrid, dx, _, rfl, hG, T.clGrid, T.naGrid_rows, (by show 0 < 1000; decide), _, rfl, _, rfl, G, T.cGrid, dx, _, rfl, upd_same, T.clGrid, T.naGrid_columns, (by show 1 < 1000; decide), ?_⟩
    have k2 : Same (rmG H G) (upd (upd H G (.ins T.cGrid dx [("rows", .int r)])) G (.ins T.cGrid dx [("rows", .int r), ("columns", .int c)])) := fun a o e => by
      have n : a ≠ G := fun z => by
        rw [z] at e
        have : rmG H G G = none := if_pos rfl
        rw [this] at e
        cases e
      have e2 : rmG H G a = H a := if_neg n
      rw [upd_ne n, upd_ne n, ← e2]
      exact e
    have g2 : (upd (upd H G (.ins T.cGrid dx [("rows", .int r)])) G (.ins T.cGrid dx [("rows", .int r), ("columns", .int c)])) G = some (.ins T.cGrid dx [("rows", .int r), ("columns", .int c)]) := upd_same
    have fin : ∀ H2, Same (rmG H G) H2 → H2 G = some (.ins T.cGrid dx [("rows", .int r), ("columns", .int c)]) → ∀ cd, H2 cd = none → ∀ nd, (upd (upd H2 cd (.dT [])) G (.ins T.cGrid dx [("rows", .int r), ("columns", .int c), ("_contents", .ref cd)])) nd = none → Q .non (upd (upd (upd (upd H2 cd (.dT [])) G (.ins T.cGrid dx [("rows", .int r), ("columns", .int c), ("_contents", .ref cd)])) nd (.dK [])) G (gridO T.cGrid dx ⟨G, cd, nd, r, c⟩)) := fun H2 k2 g2 cd hcd nd hnd => by
      have n1 : cd ≠ G := fun z => by
        rw [z, g2] at hcd
        cases hcd
      have n2 : nd ≠ G := fun z => by
        rw [z, upd_same] at hnd
        cases hnd
      have n3 : cd ≠ nd := fun z => by
        rw [← z, upd_ne n1, upd_same] at hnd
        cases hnd
      have hnd2 : H2 nd = none := by
        rw [upd_ne n2, upd_ne n3.symm] at hnd
        exact hnd
      have free : ∀ {a : Addr}, H2 a = none → rmG H G a = none := fun {a} e => by
        cases z : rmG H G a with
        | none => rfl
        | some u =>
          rw [k2 a u z] at e
          cases e
      refine q ⟨G, cd, nd, r, c⟩ _ rfl rfl rfl (fun a o e => ?_) (free hcd) (free hnd2) ⟨⟨dx, upd_same⟩, ⟨[], ?_, RepP.nil, Nat.zero_le _⟩, ⟨[], ?_, RepP.nil, Nat.zero_le _⟩⟩
      · have n : a ≠ G := fun z => by
          rw [z] at e
          have : rmG H G G = none := if_pos rfl
          rw [this] at e
          cases e
        have e2 := k2 a o e
        have m1 : a ≠ cd := fun z => by
          rw [z, hcd] at e2
          cases e2
        have m2 : a ≠ nd := fun z => by
          rw [z, hnd2] at e2
          cases e2
        rw [upd_ne n, upd_ne m2, upd_ne n, upd_ne m1]
        exact e2
      · rw [upd_ne n1, upd_ne n3, upd_ne n1, upd_same]
      · rw [upd_ne n2, upd_same]
    refine fun cd hcd => ⟨_, rfl, G, T.cGrid, dx, [("rows", .int r), ("columns", .int c)], rfl, ?_, T.clGrid, T.naGrid__contents, (by show 2 < 1000; decide), fun nd hnd => ⟨_, rfl, G, T.cGrid, dx, [("rows", .int r), ("columns", .int c), ("_contents", .ref cd)], rfl, ?_, T.clGrid, T.naGrid__names, (by show 3 < 1000; decide), fin _ k2 g2 cd hcd nd hnd⟩⟩
    · rw [upd_ne fun z => ?_]
      · exact g2
      · rw [← z] at hcd
        rw [upd_same] at hcd
        cases hcd
    · rw [upd_ne fun z => ?_, upd_same]
      · rfl
      · rw [← z, upd_same] at hnd
        cases hnd
theorem okUnknownName_Init (T : Txt K mg) : FnOk P w K mg base CX0 1 T.fUnknownName_Init T.fdUnknownName_Init ["self", "word"] (spIni K T.cUnknownName "word") := by
  refine T.FUnknownName_Init.ok scUnknownName_Init (fun vs H Q E h => ?_) (fun cdv A outer s H vs Q E hr h => ?_)
  · obtain ⟨a, y, rfl, _⟩ := h
    rfl
  · obtain ⟨a, y, rfl, ha, q⟩ := h
    -- slots self=0 word=1
    refine ⟨_, (pss_one (ps_ost (pv 0) (pv 1))), ?_⟩
    exact ⟨_, rfl, _, rfl, a, T.cUnknownName, rfl, T.oKUnknownName, T.nKUnknownName_word, .inl ⟨ha, q⟩⟩
def spGAreas (K : PySem.W.Frag) (C CE : Addr) : Sp := fun vs H Q E => ∃ (g : Gr) (cells : Cells) (names : Names) (w : Str), vs = [.ref g.G, .str w] ∧ GD K C H g cells names ∧
  (getE names w = none → ∀ d, H d = none → E (.ref CE) (some d) (upd H d (.xd [("word", .str w)]))) ∧ (getE names w = some none → Q .non H) ∧
  ∀ ds, getE names w = some (some ds) → ∀ (p : Addr) (us : List V) (H' : Hp), Same H H' → H p = none → H' p = some (.lst us) → DtAll H' us ds → Q (.ref p) H'
theorem okGrid_Areas (T : Txt K mg) : FnOk P w K mg base (L2N.CX P w) 3 T.fGrid_Areas T.fdGrid_Areas ["self", "word"] (spGAreas K T.cGrid T.cUnknownName) := by
  refine okN T.FGrid_Areas scGrid_Areas (fun vs H Q E h => ?_) (fun cdv A outer s H vs Q E hr h => ?_)
  · obtain ⟨g, cells, names, w, rfl, _⟩ := h
    rfl
  · obtain ⟨g, cells, names, w, rfl, G0, q1, q2, q3⟩ := h
    -- slots self=0 word=1 areas=2
    refine ⟨_, (pss_cons (ps_if (pt_cmp (pc_dnotin (units2 hr) (pv 1) (pe_fld (pv 0) rfl)))
          (pss_one (L2N.ps_raise rfl (L2N.takes_of rfl rfl rfl rfl) (mkN T.oKUnknownName T.iKUnknownName T.tKUnknownName (okUnknownName_Init T) (hr.mono (by decide)) T.bUnknownName_Init pass0 (by rfl) T.gKUnknownName (pa_cons (pv 1) pa_nil))))
          pss_nil)
        (pss_cons (ps_set (i := 2) scGrid_Areas.nd rfl (Or.inl rfl) (pe_dget (units2 hr) (pe_fld (pv 0) rfl) (pv 1) (fun _ _ => rfl)))
        (pss_one (ps_ret (pe_ifExp (pt_cmpR op_isN (pv 2) pe_non (nomark _)) pe_non (pe_callTy call_list_of (by rfl) T.z_list (by decide +kernel) (pa_cons (pv 2) pa_nil))))))), ?_⟩
    obtain ⟨⟨dx, hG⟩, _, ⟨nvs, hN, eN, hl⟩⟩ := id G0
    obtain ⟨e1, e2⟩ := ents_get (fun _ _ => keyW_inj) eN w
    have dg := DGet.k (k := keyW w) hN
    refine ⟨_, rfl, _, rfl, g.G, T.cGrid, dx, _, _, rfl, hG, T.clGrid, T.naGrid__names, rfl, g.nd, _, rfl, dg, _, rfl, ?_⟩
    cases hg : getE names w with
    | none =>
      rw [e1 hg]
      exact iteT ⟨_, rfl, (by show 1 ≤ 1000; decide), ini_of (q1 hg)⟩
    | some b =>
      obtain ⟨v, ev, hv⟩ := e2 b hg
      rw [ev] at dg ⊢
      refine iteF ⟨_, rfl, g.G, T.cGrid, dx, _, _, rfl, hG, T.clGrid, T.naGrid__names, rfl, _, rfl, g.nd, v, rfl, dg, ?_⟩
      cases b with
      | none =>
        obtain rfl := hv
        exact ⟨_, rfl, rfl, _, rfl, ite2 (fun _ => q2 hg) (fun c => absurd (decide_eq_true rfl) c)⟩
      | some ds =>
        obtain ⟨l, us, rfl, hlv, dp⟩ := hv
        refine ⟨_, rfl, rfl, _, rfl, ite2 (fun c => (nomatch (of_decide_eq_true c))) (fun _ => ?_)⟩
        exact ⟨_, rfl, l, us, rfl, .inl (SqL.of hlv), fun p hp => q3 ds hg p us _ (same_new hp) hp upd_same (dtA_same (same_new hp) dp)⟩
/-! ### a copy -/
def nmD : Option (List PyData) → PyData
  | none => .none
  | some ds => .list ds
structure Good (cells : Cells) (names : Names) : Prop where
  nc : (cells.map Prod.fst).Nodup
  nn : (names.map Prod.fst).Nodup
  sh : ∀ e ∈ cells, SeqAt.shaped (.list e.2) = true ∧ isBl e.2 = false
  shn : ∀ e ∈ names, SeqAt.shaped (nmD e.2) = true
  wk : ∀ e ∈ names, PyData.strOk e.1 = true
  lc : cells.length ≤ 800
  ln : names.length ≤ 800
theorem getE_mem {κ β : Type} [DecidableEq κ] : ∀ {D : List (κ × β)}, (D.map Prod.fst).Nodup → ∀ e ∈ D, getE D e.1 = some e.2
  | [], _, e, h => nomatch h
  | d :: D, nd, e, h => by
    obtain ⟨n1, n2⟩ := List.nodup_cons.mp nd
    rcases List.mem_cons.mp h with z | z
    · rw [z]
      simp [getE]
    · have ne : ¬ d.1 = e.1 := fun y => n1 (by rw [y]; exact List.mem_map.mpr ⟨e, z, rfl⟩)
      have ih := getE_mem n2 e z
      unfold getE at ih ⊢
      rw [List.find?_cons_of_neg (by simpa using ne)]
      exact ih
theorem putE_new {κ β : Type} [DecidableEq κ] {D : List (κ × β)} {k : κ} {v : β} (h : ∀ e ∈ D, e.1 ≠ k) : putE D k v = D ++ [(k, v)] := by
  unfold putE
  rw [if_neg]
  rw [List.any_eq_true]
  rintro ⟨e, he, z⟩
  exact h e he (of_decide_eq_true z)
theorem take_new {κ β : Type} [DecidableEq κ] {D : List (κ × β)} (nd : (D.map Prod.fst).Nodup) {j : Nat} {e : κ × β} (h : D[j]? = some e) : (∀ d ∈ D.take j, d.1 ≠ e.1) ∧ D.take (j + 1) = D.take j ++ [e] := by
  refine ⟨fun d hd z => ?_, by rw [List.take_add_one, h]; rfl⟩
  obtain ⟨i, hi⟩ := List.mem_iff_getElem?.mp hd
  have hij : i < j := by
    have := (List.getElem?_eq_some_iff.mp hi).1
    rw [List.length_take] at this
    omega
  rw [List.getElem?_take_of_lt hij] at hi
  obtain ⟨g1, g2⟩ := List.getElem?_eq_some_iff.mp hi
  obtain ⟨g3, g4⟩ := List.getElem?_eq_some_iff.mp h
  have := List.pairwise_iff_getElem.mp nd i j (by rw [List.length_map]; exact g1) (by rw [List.length_map]; exact g3) hij
  rw [List.getElem_map, List.getElem_map, g2, g4] at this
  exact this z
/-- a grid's objects: what another one's dicts leave alone -/
structure Apart (g o : Gr) : Prop where
  a1 : g.G ≠ o.cd
  a2 : g.G ≠ o.nd
  a3 : g.cd ≠ o.cd
  a4 : g.cd ≠ o.nd
  a5 : g.nd ≠ o.cd
  a6 : g.nd ≠ o.nd
/-- lists and tuples stay -/
structure LT (H H' : Hp) : Prop where
  l : ∀ q xs, Rd H q (.lst xs) → Rd H' q (.lst xs)
  t : ∀ q xs, Rd H q (.tup xs) → Rd H' q (.tup xs)
mutual
theorem dp_lt {K : PySem.W.Frag} {H H' : Hp} (e : LT H H') : ∀ {v : V} {d : PyData}, Dp K H v d → Dp K H' v d
  | _, _, .non => .non
  | _, _, .bl b => .bl b
  | _, _, .int i => .int i
  | _, _, .str x => .str x
  | _, _, .lst h r => .lst (h.imp (e.l _ _) id) (dpA_lt e r)
  | _, _, .tup h r => .tup (h.imp (e.t _ _) id) (dpA_lt e r)
theorem dpA_lt {K : PySem.W.Frag} {H H' : Hp} (e : LT H H') : ∀ {vs : List V} {ds : List PyData}, DpAll K H vs ds → DpAll K H' vs ds
  | _, _, .nil => .nil
  | _, _, .cons h r => .cons (dp_lt e h) (dpA_lt e r)
end
theorem LT.upd {H : Hp} {d : Addr} {o0 o : HO} (h : H d = some o0) (n1 : ∀ xs, o0 ≠ .lst xs) (n2 : ∀ u xs, o0 ≠ .frz u (.lst xs)) (n3 : ∀ xs, o0 ≠ .tup xs) (n4 : ∀ u xs, o0 ≠ .frz u (.tup xs)) : LT H (upd H d o) := by
  have ne : ∀ {q : Addr} {u : HO}, H q = some u → u ≠ o0 → q ≠ d := fun e n z => by
    rw [z, h] at e
    exact n (Option.some.inj e).symm
  refine ⟨fun q xs r => ?_, fun q xs r => ?_⟩
  · rcases r with e | ⟨u, e⟩
    · exact .inl (by rw [upd_ne (ne e fun z => n1 xs z.symm)]; exact e)
    · exact .inr ⟨u, by rw [upd_ne (ne e fun z => n2 u xs z.symm)]; exact e⟩
  · rcases r with e | ⟨u, e⟩
    · exact .inl (by rw [upd_ne (ne e fun z => n3 xs z.symm)]; exact e)
    · exact .inr ⟨u, by rw [upd_ne (ne e fun z => n4 u xs z.symm)]; exact e⟩
/-- another object changes, no list and no tuple -/
theorem GD.lt {K : PySem.W.Frag} {C : Addr} {H : Hp} {g : Gr} {cells : Cells} {names : Names} {d : Addr} {o0 o : HO} (G : GD K C H g cells names) (h : H d = some o0) (n1 : ∀ xs, o0 ≠ .lst xs) (n2 : ∀ u xs, o0 ≠ .frz u (.lst xs)) (n3 : ∀ xs, o0 ≠ .tup xs) (n4 : ∀ u xs, o0 ≠ .frz u (.tup xs)) (a1 : d ≠ g.G) (a2 : d ≠ g.cd) (a3 : d ≠ g.nd) : GD K C (upd H d o) g cells names := by
  have tt : TT H (L2.upd H d o) := fun q xs e => by
    rw [upd_ne fun z => ?_]
    · exact e
    · rw [z, h] at e
      exact n3 xs (Option.some.inj e)
  obtain ⟨⟨dx, w1⟩, ⟨ks, w2, w3, w4⟩, ⟨ns, w5, w6, w7⟩⟩ := G
  have la : ∀ {v ds}, LAt K H v ds → LAt K (L2.upd H d o) v ds := fun {v ds} ⟨l, us, e, hl, dp⟩ => ⟨l, us, e, by
    rw [upd_ne fun z => ?_]
    · exact hl
    · rw [z, h] at hl
      exact n1 us (Option.some.inj hl), dp.tt tt⟩
  refine ⟨⟨dx, by rw [upd_ne a1.symm]; exact w1⟩, ⟨ks, by rw [upd_ne a2.symm]; exact w2, w3.imp fun kv e hh => ⟨hh.1, la hh.2⟩, w4⟩, ⟨ns, by rw [upd_ne a3.symm]; exact w5, w6.imp fun kv e hh => ⟨hh.1, ?_⟩, w7⟩⟩
  have hv := hh.2
  cases he : e.2 with
  | none =>
    rw [he] at hv
    exact hv
  | some ds =>
    rw [he] at hv
    exact la hv
def spCopy (K : PySem.W.Frag) (C : Addr) : Sp := fun vs H Q _ => ∃ (g : Gr) (cells : Cells) (names : Names), vs = [.ref g.G] ∧ GD K C H g cells names ∧ Good cells names ∧
  ∀ (o : Gr) (H' : Hp), o.r = g.r → o.c = g.c → Same H H' → H o.G = none → H o.cd = none → H o.nd = none → GD K C H' o cells names → Q (.ref o.G) H'
theorem okGrid_Copy (T : Txt K mg) : FnOk P w K mg base CX0 3 T.fGrid_Copy T.fdGrid_Copy ["self"] (spCopy K T.cGrid) := by
  refine T.FGrid_Copy.ok scGrid_Copy (fun vs H Q E h => ?_) (fun cdv A outer s H vs Q E hr h => ?_)
  · obtain ⟨g, cells, names, rfl, _⟩ := h
    rfl
  · obtain ⟨g, cells, names, rfl, G0, gd, q⟩ := h
    -- slots self=0 other=1 cell=2 word=3
    refine ⟨_, (pss_cons (ps_set (i := 1) scGrid_Copy.nd rfl (Or.inl rfl) (pe_make T.mkGrid (okGrid_Init T) (hr.mono (by decide)) (by rfl) T.gKGrid T.bGrid_Init .nil pass0 (pa_cons (pe_fld (pv 0) rfl) (pa_cons (pe_fld (pv 0) rfl) pa_nil))))
        (pss_cons (ps_lock (ps_for PassesOwn.never rfl (pi_keys (pe_fld (pv 0) rfl)) (pg_name (i := 2) scGrid_Copy.nd rfl (Or.inl rfl))
          (pss_one (ps_expr (pe_meth (pv 1) T.clGrid T.meGrid_Put (okGrid_Put T) (hr.mono (by decide)) T.bGrid_Put .nil pass0 (pa_cons (pv 2) (pa_cons (pe_dget (units2 hr) (pe_fld (pv 0) rfl) (pv 2) (fun _ _ => rfl)) pa_nil)))))))
        (pss_cons (ps_lock (ps_for PassesOwn.never rfl (pi_keys (pe_fld (pv 0) rfl)) (pg_name (i := 3) scGrid_Copy.nd rfl (Or.inl rfl))
          (pss_one (ps_expr (pe_meth (pv 1) T.clGrid T.meGrid_Name (okGrid_Name T) (hr.mono (by decide)) T.bGrid_Name .nil pass0 (pa_cons (pv 3) (pa_cons (pe_dget (units2 hr) (pe_fld (pv 0) rfl) (pv 3) (fun _ _ => rfl)) pa_nil)))))))
        (pss_one (ps_ret (pv 1)))))), ?_⟩
    obtain ⟨⟨dx, hG⟩, ⟨kvs, hC, eC, hl2⟩, ⟨nvs, hN, eN, hl⟩⟩ := id G0
    refine ⟨_, rfl, g.G, T.cGrid, dx, _, _, rfl, hG, T.clGrid, T.naGrid_rows, rfl, _, rfl, g.G, T.cGrid, dx, _, _, rfl, hG, T.clGrid, T.naGrid_columns, rfl, fun x dy hx hdy hne => ?_⟩
    refine ⟨x, dy, g.r, g.c, rfl, upd_same, fun o H1 eo er ec s1 n1 n2 Go => ⟨rfl, ?_⟩⟩
    obtain ⟨o1, o2, o3⟩ := Go.ne
    have s0 : Same H H1 := fun b u e => by
      have m1 : b ≠ x := ne_of_none e hx
      have m2 : b ≠ dy := ne_of_none e hdy
      refine s1 b u ?_
      show (if b = x then none else _) = _
      rw [if_neg m1, upd_ne m1, upd_ne m2]
      exact e
    have free : ∀ {b : Addr}, b ≠ x → rmG (upd (upd H dy (HO.own x)) x (HO.ins T.cGrid dy [])) x b = none → H b = none := fun {b} m1 e => by
      have e : (if b = x then none else (upd (upd H dy (HO.own x)) x (HO.ins T.cGrid dy [])) b) = none := e
      rw [if_neg m1, upd_ne m1] at e
      by_cases z : b = dy
      · rw [z, upd_same] at e
        cases e
      · rw [upd_ne z] at e
        exact e
    have f1 : H o.cd = none := free (by rw [← eo]; exact o1) n1
    have f2 : H o.nd = none := free (by rw [← eo]; exact o2) n2
    have f0 : H o.G = none := by rw [eo]; exact hx
    have ap : ∀ {b : Addr} {u : HO}, H b = some u → b ≠ o.cd ∧ b ≠ o.nd ∧ b ≠ o.G := fun e => ⟨ne_of_none e f1, ne_of_none e f2, ne_of_none e f0⟩
    -- the cells
    have hC1 := s0 _ _ hC
    refine ⟨g.cd, _, hC1, trivial, fun od => ?_⟩
    have nGc : g.G ≠ g.cd := fun z => by
      rw [z, hC] at hG
      cases hG
    have tf : ∀ b u, H b = some u → b ≠ g.cd → (upd H1 g.cd (.frz od (.dT kvs))) b = some u := fun b u e n => by
      rw [upd_ne n]
      exact s0 _ _ e
    have Gf : GD K T.cGrid (upd H1 g.cd (.frz od (.dT kvs))) o [] [] := Go.lt hC1 (fun _ z => by cases z) (fun _ _ z => by cases z) (fun _ z => by cases z) (fun _ _ z => by cases z) (ap hC).2.2 (ap hC).1 (ap hC).2.1
    have kdf : ∀ H', KG o (upd H1 g.cd (.frz od (.dT kvs))) H' → KD H H' := fun H' kg b u nd e => kg b u (ap e).1 (ap e).2.1 (tf b u e fun z => by
      rw [z, hC] at e
      rw [← Option.some.inj e] at nd
      cases nd)
    refine ⟨_, rfl, g.G, T.cGrid, dx, _, _, rfl, tf _ _ hG nGc, T.clGrid, T.naGrid__contents, rfl, g.cd, od, rfl, .inr ⟨kvs, upd_same, for_it (walk_keysT (d := g.cd) (o := od) (kvs := kvs)) (fun j σ H' => ∃ c2 c3 : Option V, σ = [some (.ref g.G), some (.ref x), c2, c3] ∧ KG o (upd H1 g.cd (.frz od (.dT kvs))) H' ∧ GD K T.cGrid H' o (cells.take j) []) ⟨_, _, rfl, KG.of (Same.refl _), Gf⟩ (fun j σ H' _ ⟨_, _, _, kg, _⟩ => kg _ _ (ap hC).1 (ap hC).2.1 upd_same) ?_ ?_⟩⟩
    · rintro j y σ H2 H3 hj ⟨c2, c3, rfl, kg, G2⟩ ⟨rfl, k, v, q0, hkv, rfl, hq⟩
      have hl3 := eC.len
      obtain ⟨e, he⟩ : ∃ e, cells[j]? = some e := ⟨_, List.getElem?_eq_getElem (by omega)⟩
      obtain ⟨ek, _⟩ := eC.at_ j _ e hkv he
      have ek : k = idK e.1 := ek
      subst ek
      have em := List.mem_of_getElem? he
      obtain ⟨v', ev, l, us, rfl, hlv, dp⟩ := (ents_get (fun _ _ => idK_inj) eC e.1).2 e.2 (getE_mem gd.nc e em)
      have kd := kdf _ kg
      obtain ⟨⟨dz, w1⟩, _, _⟩ := id G2
      have hGt : H3 g.G = some (gridO T.cGrid dx g) := kg _ _ (ap hG).1 (ap hG).2.1 (tf _ _ hG nGc)
      have hft : H3 g.cd = some (.frz od (.dT kvs)) := kg _ _ (ap hC).1 (ap hC).2.1 upd_same
      have dg : DGet H3 g.cd (.ref q0) (some (.ref l)) := by
        rw [← ev]
        exact .inr ⟨kvs, idK e.1, q0, .inr ⟨od, hft⟩, rfl, hq, rfl⟩
      obtain ⟨tn, te⟩ := take_new gd.nc he
      have sh := gd.sh e em
      have lt : (cells.take j).length ≤ 800 := by
        rw [List.length_take]
        have := gd.lc
        omega
      rw [← eo]
      refine ⟨_, rfl, o.G, dz, _, rfl, w1, rfl, _, rfl, _, rfl, g.G, T.cGrid, dx, _, _, rfl, hGt, T.clGrid, T.naGrid__contents, rfl, _, rfl, g.cd, .ref l, rfl, dg, [], o, cells.take j, [], q0, l, e.1, us, e.2, rfl, Ls.nil, rmS_nil.symm ▸ G2, lt, hq, kd _ _ rfl hlv, dtA_kd kd dp, sh.1, fun H4 kg4 kd4 G4 => ?_⟩
      rw [rmS_nil] at G4
      refine ⟨_, _, rfl, kg.trans kg4, ?_⟩
      have es : setCell (cells.take j) e.1 e.2 = cells.take (j + 1) := by
        unfold setCell
        rw [sh.2, if_neg Bool.false_ne_true, putE_new tn, te]
      rw [← es]
      exact G4
    · rintro σ H2 ⟨c2, c3, rfl, kg, G2⟩
      have ek : cells.take kvs.length = cells := List.take_of_length_le (by rw [eC.len]; exact Nat.le_refl _)
      rw [ek] at G2
      have hft : H2 g.cd = some (.frz od (.dT kvs)) := kg _ _ (ap hC).1 (ap hC).2.1 upd_same
      refine ⟨hft, ?_⟩
      have G3 : GD K T.cGrid (upd H2 g.cd (.dT kvs)) o cells [] := G2.lt hft (fun _ z => by cases z) (fun _ _ z => by cases z) (fun _ z => by cases z) (fun _ _ z => by cases z) (ap hC).2.2 (ap hC).1 (ap hC).2.1
      have s3 : Same H (upd H2 g.cd (.dT kvs)) := fun b u e => by
        by_cases z : b = g.cd
        · rw [z, upd_same]
          rw [z, hC] at e
          exact e
        · rw [upd_ne z]
          exact kg b u (ap e).1 (ap e).2.1 (tf b u e z)
      generalize upd H2 g.cd (.dT kvs) = H3 at G3 s3
      -- the names
      have hN3 := s3 _ _ hN
      refine ⟨g.nd, _, hN3, trivial, fun oe => ?_⟩
      have nGn : g.G ≠ g.nd := fun z => by
        rw [z, hN] at hG
        cases hG
      have tf2 : ∀ b u, H b = some u → b ≠ g.nd → (upd H3 g.nd (.frz oe (.dK nvs))) b = some u := fun b u e n => by
        rw [upd_ne n]
        exact s3 _ _ e
      have Gf2 : GD K T.cGrid (upd H3 g.nd (.frz oe (.dK nvs))) o cells [] := G3.lt hN3 (fun _ z => by cases z) (fun _ _ z => by cases z) (fun _ z => by cases z) (fun _ _ z => by cases z) (ap hN).2.2 (ap hN).1 (ap hN).2.1
      have kdf2 : ∀ H', KG o (upd H3 g.nd (.frz oe (.dK nvs))) H' → KD H H' := fun H' kg b u nd e => kg b u (ap e).1 (ap e).2.1 (tf2 b u e fun z => by
        rw [z, hN] at e
        rw [← Option.some.inj e] at nd
        cases nd)
      refine ⟨_, rfl, g.G, T.cGrid, dx, _, _, rfl, tf2 _ _ hG nGn, T.clGrid, T.naGrid__names, rfl, g.nd, oe, rfl, .inl ⟨nvs, upd_same, for_it (walk_keys (d := g.nd) (o := oe) (kvs := nvs)) (fun j σ H' => ∃ c2 c3 : Option V, σ = [some (.ref g.G), some (.ref x), c2, c3] ∧ KG o (upd H3 g.nd (.frz oe (.dK nvs))) H' ∧ GD K T.cGrid H' o cells (names.take j)) ⟨_, _, rfl, KG.of (Same.refl _), Gf2⟩ (fun j σ H' _ ⟨_, _, _, kg, _⟩ => kg _ _ (ap hN).1 (ap hN).2.1 upd_same) ?_ ?_⟩⟩
      · rintro j y σ H4 H5 hj ⟨c2, c3, rfl, kg, G4⟩ ⟨rfl, k, v, hkv, rfl⟩
        have hl3 := eN.len
        obtain ⟨e, he⟩ : ∃ e, names[j]? = some e := ⟨_, List.getElem?_eq_getElem (by omega)⟩
        obtain ⟨ek, _⟩ := eN.at_ j _ e hkv he
        have ek : k = keyW e.1 := ek
        subst ek
        have em := List.mem_of_getElem? he
        obtain ⟨v', ev, hv⟩ := (ents_get (fun _ _ => keyW_inj) eN e.1).2 e.2 (getE_mem gd.nn e em)
        have kd := kdf2 _ kg
        obtain ⟨⟨dz, w1⟩, _, _⟩ := id G4
        have hGt : H5 g.G = some (gridO T.cGrid dx g) := kg _ _ (ap hG).1 (ap hG).2.1 (tf2 _ _ hG nGn)
        have hft : H5 g.nd = some (.frz oe (.dK nvs)) := kg _ _ (ap hN).1 (ap hN).2.1 upd_same
        have dg : DGet H5 g.nd (.str e.1) (some v') := by
          rw [← ev]
          exact .inl ⟨nvs, keyW e.1, .inr ⟨oe, hft⟩, rfl, rfl⟩
        obtain ⟨tn, te⟩ := take_new gd.nn he
        have lt : (names.take j).length ≤ 800 := by
          rw [List.length_take]
          have := gd.ln
          omega
        rw [← eo]
        refine ⟨_, rfl, o.G, dz, _, rfl, w1, rfl, _, rfl, _, rfl, g.G, T.cGrid, dx, _, _, rfl, hGt, T.clGrid, T.naGrid__names, rfl, _, rfl, g.nd, v', rfl, dg, [], o, cells, names.take j, e.1, v', e.2, rfl, Ls.nil, rmS_nil.symm ▸ G4, lt, NAt.kd kd hv, fun H6 kg4 kd4 G6 => ?_⟩
        rw [rmS_nil] at G6
        refine ⟨_, _, rfl, kg.trans kg4, ?_⟩
        rw [putE_new tn] at G6
        rw [te]
        exact G6
      · rintro σ H4 ⟨c2, c3, rfl, kg, G4⟩
        have ek2 : names.take nvs.length = names := List.take_of_length_le (by rw [eN.len]; exact Nat.le_refl _)
        rw [ek2] at G4
        have hft : H4 g.nd = some (.frz oe (.dK nvs)) := kg _ _ (ap hN).1 (ap hN).2.1 upd_same
        refine ⟨hft, ?_⟩
        have G5 : GD K T.cGrid (upd H4 g.nd (.dK nvs)) o cells names := G4.lt hft (fun _ z => by cases z) (fun _ _ z => by cases z) (fun _ z => by cases z) (fun _ _ z => by cases z) (ap hN).2.2 (ap hN).1 (ap hN).2.1
        have s5 : Same H (upd H4 g.nd (.dK nvs)) := fun b u e => by
          by_cases z : b = g.nd
          · rw [z, upd_same]
            rw [z, hN] at e
            exact e
          · rw [upd_ne z]
            exact kg b u (ap e).1 (ap e).2.1 (tf2 b u e z)
        rw [← eo]
        exact ⟨_, rfl, q o _ er ec s5 f0 f1 f2 G5⟩
theorem passN {P : Program} {w : World} {X : Cx} {σ : L2.St} : PassesAt (L2N.CX P w) X σ (fun _ _ _ => False) := fun _ _ _ _ _ _ z => by
  obtain ⟨_, _, _, _, _, _, _, _, _, _, _, _, _, _, _, _, no⟩ := z
theorem op_eqDK {X : Cx} {K : PySem.W.Frag} (h : X.K = K) (hu : X.A.units + 64 < cLine) : OpR X (compareOp .Eq) (rEqD K) := by
  subst h
  exact op_eqD hu
theorem op_neDK {X : Cx} {K : PySem.W.Frag} (h : X.K = K) (hu : X.A.units + 64 < cLine) : OpR X (compareOp .NotEq) (rNeD K) := by
  subst h
  exact op_neD hu
/-! ### whether two tables are the same -/
theorem eqvAll_inj {α : Type} [DecidableEq α] {f : α → PyData} (hf : ∀ a b, PyData.eqv (f a) (f b) = decide (a = b)) : ∀ xs ys : List α, PyData.eqvAll (xs.map f) (ys.map f) = decide (xs = ys)
  | [], [] => by simp [PyData.eqvAll]
  | [], y :: ys => by simp [PyData.eqvAll]
  | x :: xs, [] => by simp [PyData.eqvAll]
  | x :: xs, y :: ys => by
    rw [List.map_cons, List.map_cons, PySem.W.eqv_all_cons, hf, eqvAll_inj hf xs ys, Bool.eq_iff_iff]
    simp
theorem eqvL {α : Type} [DecidableEq α] {f : α → PyData} (hf : ∀ a b, PyData.eqv (f a) (f b) = decide (a = b)) (xs ys : List α) : PyData.eqv (.list (xs.map f)) (.list (ys.map f)) = decide (xs = ys) := by
  have : PyData.eqv (.list (xs.map f)) (.list (ys.map f)) = PyData.eqvAll (xs.map f) (ys.map f) := by simp only [PyData.eqv]
  rw [this, eqvAll_inj hf]
theorem lays {β : Type} {k : β → PyData} (h : ∀ b, (k b).canLay0 = true) : ∀ D : List β, PyData.canLayAll0 (D.map k) = true
  | [] => by simp [PyData.canLayAll0]
  | b :: D => by simp [PyData.canLayAll0, h b, lays h D]
theorem depths {β : Type} {k : β → PyData} {n : Nat} (h : ∀ b, (k b).depth ≤ n) : ∀ D : List β, PyData.depthAll (D.map k) ≤ n
  | [] => by simp [PyData.depthAll]
  | b :: D => by
    have h1 := h b
    have h2 := depths h D
    simp only [List.map_cons, PyData.depthAll]
    omega
theorem shapeds {β : Type} {k : β → PyData} {n : Nat} (h1 : ∀ b, (k b).canLay0 = true) (h2 : ∀ b, (k b).depth ≤ n) (hn : n ≤ 63) (D : List β) : SeqAt.shaped (.list (D.map k)) = true := by
  have e := depths h2 D
  show (PyData.canLay0 (.list (D.map k)) && decide (PyData.depth (.list (D.map k)) ≤ 64)) = true
  rw [Bool.and_eq_true]
  refine ⟨by simp only [PyData.canLay0]; exact lays h1 D, decide_eq_true ?_⟩
  simp only [PyData.depth]
  omega
theorem str_eqv (a b : Str) : PyData.eqv (.str a) (.str b) = decide (a = b) := by
  simp only [PyData.eqv]
  rw [Bool.eq_iff_iff]
  simp
theorem strs_lay : ∀ W : List Str, (∀ x ∈ W, PyData.strOk x = true) → PyData.canLayAll0 (W.map PyData.str) = true
  | [], _ => by simp [PyData.canLayAll0]
  | x :: W, h => by
    have h1 := h x List.mem_cons_self
    have h2 := strs_lay W fun y hy => h y (List.mem_cons_of_mem _ hy)
    simp only [List.map_cons, PyData.canLayAll0, PyData.canLay0, h1, h2]
    rfl
theorem strs_shaped (W : List Str) (h : ∀ x ∈ W, PyData.strOk x = true) : SeqAt.shaped (.list (W.map PyData.str)) = true := by
  have e := depths (k := PyData.str) (n := 0) (fun b => by simp [PyData.depth]) W
  show (PyData.canLay0 (.list (W.map PyData.str)) && decide (PyData.depth (.list (W.map PyData.str)) ≤ 64)) = true
  rw [Bool.and_eq_true]
  refine ⟨by simp only [PyData.canLay0]; exact strs_lay W h, decide_eq_true ?_⟩
  simp only [PyData.depth]
  omega
theorem dpStrs {K : PySem.W.Frag} {H : Hp} : ∀ W : List Str, DpAll K H (W.map V.str) (W.map PyData.str)
  | [] => .nil
  | x :: W => .cons (.str x) (dpStrs W)
theorem dpTu {K : PySem.W.Frag} {H : Hp} : ∀ Zs : List (V × (Int × Int)), (∀ z ∈ Zs, TuAt H z.1 z.2) → DpAll K H (Zs.map Prod.fst) ((Zs.map Prod.snd).map idD)
  | [], _ => .nil
  | z :: Zs, h => .cons (h z List.mem_cons_self).dp (dpTu Zs fun y hy => h y (List.mem_cons_of_mem _ hy))
theorem TuAt.same {H H' : Hp} {v : V} {z : Int × Int} (s : Same H H') (h : TuAt H v z) : TuAt H' v z := by
  obtain ⟨b, e, hb⟩ := h
  exact ⟨b, e, s _ _ hb⟩
theorem sorted_eq {α : Type} {R : α → α → Prop} (anti : ∀ a b, R a b → R b a → a = b) : ∀ {xs ys : List α}, xs.Perm ys → xs.Pairwise R → ys.Pairwise R → xs = ys
  | [], ys, h, _, _ => (List.Perm.nil_eq h)
  | x :: xs, [], h, _, _ => by have := h.length_eq; simp at this
  | x :: xs, y :: ys, h, h1, h2 => by
    obtain ⟨a1, a2⟩ := List.pairwise_cons.mp h1
    obtain ⟨b1, b2⟩ := List.pairwise_cons.mp h2
    have e : x = y := by
      rcases List.mem_cons.mp (h.mem_iff.mp List.mem_cons_self) with z | z
      · exact z
      · rcases List.mem_cons.mp (h.mem_iff.mpr (List.mem_cons_self (a := y) (l := ys))) with u | u
        · exact u.symm
        · exact anti _ _ (a1 _ u) (b1 _ z)
    subst e
    rw [sorted_eq anti (List.Perm.cons_inv h) a2 b2]
theorem antiK (a b : Int × Int) (h1 : ¬ ltK b a) (h2 : ¬ ltK a b) : a = b := by
  unfold ltK at h1 h2
  exact Prod.ext (by omega) (by omega)
theorem antiS (a b : Str) (h1 : ¬ b.cps.toList < a.cps.toList) (h2 : ¬ a.cps.toList < b.cps.toList) : a = b := by
  have e : a.cps.toList = b.cps.toList := List.le_antisymm h1 h2
  cases a
  cases b
  simp_all
theorem perm_of_sub {α : Type} [DecidableEq α] : ∀ {xs ys : List α}, xs.Nodup → xs.length = ys.length → (∀ x ∈ xs, x ∈ ys) → xs.Perm ys
  | [], ys, _, hl, _ => by
    have : ys = [] := List.length_eq_zero_iff.mp hl.symm
    rw [this]
  | x :: xs, ys, nd, hl, h => by
    obtain ⟨n1, n2⟩ := List.nodup_cons.mp nd
    have hx := h x List.mem_cons_self
    have p := List.perm_cons_erase hx
    refine (List.Perm.cons x (perm_of_sub n2 ?_ fun y hy => ?_)).trans p.symm
    · have := p.length_eq
      rw [List.length_cons] at this hl
      omega
    · have ne : y ≠ x := fun z => n1 (z ▸ hy)
      exact (List.mem_erase_of_ne ne).mpr (h y (List.mem_cons_of_mem _ hy))
section
variable {κ β : Type} [DecidableEq κ]
theorem getE_key {D : List (κ × β)} {k : κ} {b : β} (h : getE D k = some b) : (k, b) ∈ D := by
  unfold getE at h
  cases hf : D.find? (fun e => decide (e.1 = k)) with
  | none =>
    rw [hf] at h
    cases h
  | some e =>
    rw [hf] at h
    have h1 := List.mem_of_find?_eq_some hf
    have h2 : e.1 = k := by
      have := List.find?_some hf
      exact of_decide_eq_true this
    have h3 : e.2 = b := Option.some.inj h
    rw [← h2, ← h3]
    exact h1
theorem getE_none {D : List (κ × β)} {k : κ} (h : getE D k = none) : k ∉ D.map Prod.fst := fun z => by
  obtain ⟨e, he, rfl⟩ := List.mem_map.mp z
  unfold getE at h
  have := List.find?_eq_none.mp (Option.map_eq_none_iff.mp h) e he
  exact this (decide_eq_true rfl)
def eqE (v : β → PyData) (D D' : List (κ × β)) : Bool := D.length == D'.length && D.all fun e => match getE D' e.1 with
  | some b => PyData.eqv (v e.2) (v b)
  | none => false
def cmpE (v : β → PyData) (D D' : List (κ × β)) (k : κ) : Bool := match getE D k, getE D' k with
  | some a, some b => PyData.eqv (v a) (v b)
  | _, _ => false
theorem eqE_perm {v : β → PyData} {D D' : List (κ × β)} (nd : (D.map Prod.fst).Nodup) (h : eqE v D D' = true) : (D.map Prod.fst).Perm (D'.map Prod.fst) := by
  unfold eqE at h
  rw [Bool.and_eq_true, List.all_eq_true] at h
  refine perm_of_sub nd (by rw [List.length_map, List.length_map]; exact of_decide_eq_true h.1) fun x hx => ?_
  obtain ⟨e, he, rfl⟩ := List.mem_map.mp hx
  have := h.2 e he
  cases hg : getE D' e.1 with
  | none =>
    rw [hg] at this
    cases this
  | some b => exact List.mem_map.mpr ⟨_, getE_key hg, rfl⟩
theorem eqE_all {v : β → PyData} {D D' : List (κ × β)} {Ks : List κ} (nd : (D.map Prod.fst).Nodup) (h : (D.map Prod.fst).Perm (D'.map Prod.fst)) (hk : Ks.Perm (D.map Prod.fst)) : eqE v D D' = Ks.all (cmpE v D D') := by
  have e1 : (D.length == D'.length) = true := by
    have := h.length_eq
    rw [List.length_map, List.length_map] at this
    rw [this]
    exact beq_self_eq_true _
  have key : ∀ e ∈ D, cmpE v D D' e.1 = match getE D' e.1 with
      | some b => PyData.eqv (v e.2) (v b)
      | none => false := fun e he => by
    unfold cmpE
    rw [getE_mem nd e he]
    cases getE D' e.1 <;> rfl
  unfold eqE
  rw [e1, Bool.true_and, Bool.eq_iff_iff, List.all_eq_true, List.all_eq_true]
  constructor
  · intro hh k hk2
    obtain ⟨e, he, rfl⟩ := List.mem_map.mp (hk.mem_iff.mp hk2)
    rw [key e he]
    exact hh e he
  · intro hh e he
    have := hh e.1 (hk.mem_iff.mpr (List.mem_map.mpr ⟨e, he, rfl⟩))
    rw [key e he] at this
    exact this
end
theorem cmp_cells {cells cells' : Cells} {z : Int × Int} (h1 : z ∈ cells.map Prod.fst) (h2 : z ∈ cells'.map Prod.fst) : cmpE PyData.list cells cells' z = PyData.eqv (.list ((getE cells z).getD [])) (.list ((getE cells' z).getD [])) := by
  unfold cmpE
  cases e1 : getE cells z with
  | none => exact absurd h1 (getE_none e1)
  | some a =>
    cases e2 : getE cells' z with
    | none => exact absurd h2 (getE_none e2)
    | some b => rfl
theorem shD {cells : Cells} {names : Names} (gd : Good cells names) (z : Int × Int) : SeqAt.shaped (.list ((getE cells z).getD [])) = true := by
  cases e : getE cells z with
  | none => decide +kernel
  | some ds => exact (gd.sh _ (getE_key e)).1
/-- what areas hands out -/
def NewA (K : PySem.W.Frag) (H H' : Hp) (v : V) : Option (List PyData) → Prop
  | none => v = .non
  | some ds => ∃ p us, v = .ref p ∧ H p = none ∧ H' p = some (.lst us) ∧ DtAll H' us ds
theorem NewA.dp {K : PySem.W.Frag} {H H' H2 : Hp} {v : V} {b : Option (List PyData)} (h : NewA K H H' v b) (s : Same H' H2) : Dp K H2 v (nmD b) := by
  cases b with
  | none =>
    obtain rfl := h
    exact .non
  | some ds =>
    obtain ⟨p, us, rfl, _, hp, dp⟩ := h
    exact .lst (SqL.of (s _ _ hp)) (dtA_same s dp).dp
theorem area_of {K : PySem.W.Frag} {C CE : Addr} {H : Hp} {Q : VK} {E : XK} {g : Gr} {cells : Cells} {names : Names} {w : Str} {b : Option (List PyData)} (G : GD K C H g cells names) (hb : getE names w = some b)
    (q : ∀ v H', Same H H' → NewA K H H' v b → Q v H') : spGAreas K C CE [.ref g.G, .str w] H Q E := by
  refine ⟨g, cells, names, w, rfl, G, fun e => (by rw [hb] at e; cases e), fun e => ?_, fun ds e p us H' s hp hl dp => ?_⟩
  · rw [hb] at e
    obtain rfl := Option.some.inj e
    exact q _ H (Same.refl _) rfl
  · rw [hb] at e
    obtain rfl := Option.some.inj e
    exact q _ H' s ⟨p, us, rfl, hp, hl, dp⟩
theorem shN {cells : Cells} {names : Names} (gd : Good cells names) {w : Str} {b : Option (List PyData)} (h : getE names w = some b) : SeqAt.shaped (nmD b) = true := gd.shn _ (getE_key h)
theorem get_of_key {κ β : Type} [DecidableEq κ] {D : List (κ × β)} {k : κ} (h : k ∈ D.map Prod.fst) : ∃ b, getE D k = some b := by
  cases e : getE D k with
  | none => exact absurd h (getE_none e)
  | some b => exact ⟨b, rfl⟩
def spSameG (K : PySem.W.Frag) (C : Addr) : Sp := fun vs H Q _ => ∃ (g o : Gr) (cells cells' : Cells) (names names' : Names), vs = [.ref g.G, .ref o.G] ∧ GD K C H g cells names ∧ GD K C H o cells' names' ∧ Good cells names ∧ Good cells' names' ∧
  ∀ H', Same H H' → Q (.bl (decide (g.r = o.r ∧ g.c = o.c) && (eqE PyData.list cells cells' && eqE nmD names names'))) H'
theorem okSame (T : Txt K mg) : FnOk P w K mg base CX0 4 T.fSame T.fdSame ["grid", "other"] (spSameG K T.cGrid) := by
  refine T.FSame.ok scSame (fun vs H Q E h => ?_) (fun cdv A outer s H vs Q E hr h => ?_)
  · obtain ⟨g, o, cells, cells', names, names', rfl, _⟩ := h
    rfl
  · obtain ⟨g, o, cells, cells', names, names', rfl, G0, O0, gd, od, q⟩ := h
    -- slots grid=0 other=1 cell=2 word=3
    refine ⟨_, (pss_cons (ps_if (pt_cmpR (op_neD hr.units) (pe_tup (pa_cons (pe_fld (pv 0) rfl) (pa_cons (pe_fld (pv 0) rfl) pa_nil))) (pe_tup (pa_cons (pe_fld (pv 1) rfl) (pa_cons (pe_fld (pv 1) rfl) pa_nil))) (nomark _))
          (pss_one (ps_ret pe_bl))
          pss_nil)
        (pss_cons (ps_if (PW.pt (pw_or (pt_cmpR (op_neD hr.units) (pe_meth0 (pv 0) T.clGrid T.meGrid_Cells (okGrid_Cells T) (hr.mono (by decide)) T.bGrid_Cells .nil pass0) (pe_meth0 (pv 1) T.clGrid T.meGrid_Cells (okGrid_Cells T) (hr.mono (by decide)) T.bGrid_Cells .nil pass0) (nomark _)) (pw_or1 (pt_cmpR (op_neD hr.units) (pe_meth0 (pv 0) T.clGrid T.meGrid_Words (okGrid_Words T) (hr.mono (by decide)) T.bGrid_Words .nil pass0) (pe_meth0 (pv 1) T.clGrid T.meGrid_Words (okGrid_Words T) (hr.mono (by decide)) T.bGrid_Words .nil pass0) (nomark _)))))
          (pss_one (ps_ret pe_bl))
          pss_nil)
        (pss_cons (ps_if (pt_not (pt_val (pe_callB (cr_all rfl) (by rfl) T.z_all (by decide +kernel) (pa_cons (pe_lc (own := [("cell", 2)]) (g := gName 2) (tt := tYes) rfl scSame.nd (pi_list (pe_meth0 (pv 0) T.clGrid T.meGrid_Cells (okGrid_Cells T) (hr.mono (by decide)) T.bGrid_Cells .nil pass0)) (blkOk_by (own := [("cell", 2)]) (N := ["grid", "other", "cell", "word"]) (sc := defScope sSame) (by decide +kernel)) (fun _ _ _ _ _ => (pg_name (i := 2) scSame.nd rfl (Or.inl rfl))) (fun _ _ _ _ _ => pts_nil) (fun _ _ _ _ _ => (pe_cmpR (op_eqDK (K := K) rfl hr.units) (pe_meth (pv 0) T.clGrid T.meGrid_Shown (okGrid_Shown T) (hr.mono (by decide)) T.bGrid_Shown .nil pass0 (pa_cons (pv 2) pa_nil)) (pe_meth (pv 1) T.clGrid T.meGrid_Shown (okGrid_Shown T) (hr.mono (by decide)) T.bGrid_Shown .nil pass0 (pa_cons (pv 2) pa_nil)) (nomark _)))) pa_nil))))
          (pss_one (ps_ret pe_bl))
          pss_nil)
        (pss_one (ps_ret (pe_callB (cr_all rfl) (by rfl) T.z_all (by decide +kernel) (pa_cons (pe_lc (own := [("word", 3)]) (g := gName 3) (tt := tYes) rfl scSame.nd (pi_list (pe_meth0 (pv 0) T.clGrid T.meGrid_Words (okGrid_Words T) (hr.mono (by decide)) T.bGrid_Words .nil pass0)) (blkOk_by (own := [("word", 3)]) (N := ["grid", "other", "cell", "word"]) (sc := defScope sSame) (by decide +kernel)) (fun _ _ _ _ _ => (pg_name (i := 3) scSame.nd rfl (Or.inl rfl))) (fun _ _ _ _ _ => pts_nil) (fun _ _ _ _ _ => (pe_cmpR (op_eqDK (K := K) rfl hr.units) (pe_methE (pv 0) T.clGrid T.meGrid_Areas (okGrid_Areas T) (hr.mono (by decide)) T.bGrid_Areas (E := fun _ _ _ _ => False) (fun _ => passN) (pa_cons (pv 3) pa_nil)) (pe_methE (pv 1) T.clGrid T.meGrid_Areas (okGrid_Areas T) (hr.mono (by decide)) T.bGrid_Areas (E := fun _ _ _ _ => False) (fun _ => passN) (pa_cons (pv 3) pa_nil)) (nomark _)))) pa_nil))))))), ?_⟩
    obtain ⟨⟨dx, hG⟩, _⟩ := id G0
    obtain ⟨⟨dy, hO⟩, _⟩ := id O0
    refine ⟨_, rfl, g.G, T.cGrid, dx, _, _, rfl, hG, T.clGrid, T.naGrid_rows, rfl, _, rfl, g.G, T.cGrid, dx, _, _, rfl, hG, T.clGrid, T.naGrid_columns, rfl, (by show 2 ≤ sizeLine; decide), fun t1 ht1 => ?_⟩
    have s1 := same_new (o := .tup [.int g.r, .int g.c]) ht1
    refine ⟨_, rfl, o.G, T.cGrid, dy, _, _, rfl, s1 _ _ hO, T.clGrid, T.naGrid_rows, rfl, _, rfl, o.G, T.cGrid, dy, _, _, rfl, s1 _ _ hO, T.clGrid, T.naGrid_columns, rfl, (by show 2 ≤ sizeLine; decide), fun t2 ht2 => ?_⟩
    have s2 := s1.trans (same_new (o := .tup [.int o.r, .int o.c]) ht2)
    have ht1b : (upd (upd H t1 (.tup [.int g.r, .int g.c])) t2 (.tup [.int o.r, .int o.c])) t1 = some (.tup [.int g.r, .int g.c]) := same_new ht2 _ _ upd_same
    refine ⟨idD (g.r, g.c), idD (o.r, o.c), (TuAt.dp ⟨t1, rfl, ht1b⟩), (TuAt.dp ⟨t2, rfl, upd_same⟩), idD_shaped _, idD_shaped _, _, rfl, ?_⟩
    rw [idD_eqv]
    have G2 := G0.same s2
    have O2 := O0.same s2
    generalize (upd (upd H t1 (.tup [.int g.r, .int g.c])) t2 (.tup [.int o.r, .int o.c])) = H2 at s2 G2 O2
    by_cases c0 : g.r = o.r ∧ g.c = o.c
    · rw [decide_eq_true (show (g.r, g.c) = (o.r, o.c) by rw [c0.1, c0.2])]
      refine iteF ?_
      obtain ⟨⟨dx2, hG2⟩, _⟩ := id G2
      refine ⟨_, rfl, g.G, dx2, _, rfl, hG2, rfl, g, cells, names, rfl, G2, fun p1 Z1 hp1 z11 z12 z13 => ?_⟩
      have s3 := s2.trans (same_new (o := .lst (Z1.map Prod.fst)) hp1)
      have d1 : ∀ H', Same (upd H2 p1 (.lst (Z1.map Prod.fst))) H' → Dp K H' (.ref p1) (.list ((Z1.map Prod.snd).map idD)) := fun H' k => .lst (SqL.of (k _ _ upd_same)) (dpTu Z1 fun z hz => ((z13 z hz).same (same_new hp1)).same k)
      have z1s : Same H2 (upd H2 p1 (.lst (Z1.map Prod.fst))) := same_new hp1
      have G3 := G2.same z1s
      have O3 := O2.same z1s
      generalize upd H2 p1 (.lst (Z1.map Prod.fst)) = H3 at s3 d1 G3 O3 z1s
      obtain ⟨⟨dy3, hO3⟩, _⟩ := id O3
      refine ⟨_, rfl, o.G, dy3, _, rfl, hO3, rfl, o, cells', names', rfl, O3, fun p2 Z2 hp2 z21 z22 z23 => ?_⟩
      have s34 : Same H3 (upd H3 p2 (.lst (Z2.map Prod.fst))) := same_new hp2
      have d2 : Dp K (upd H3 p2 (.lst (Z2.map Prod.fst))) (.ref p2) (.list ((Z2.map Prod.snd).map idD)) := .lst (SqL.of upd_same) (dpTu Z2 fun z hz => (z23 z hz).same s34)
      have d1b := d1 _ s34
      have G4 := G3.same s34
      have O4 := O3.same s34
      have s4 := s3.trans s34
      generalize upd H3 p2 (.lst (Z2.map Prod.fst)) = H4 at s4 d2 G4 O4 d1b s34
      refine ⟨_, _, d1b, d2, idDs_shaped _, idDs_shaped _, _, rfl, ?_⟩
      rw [eqvL idD_eqv]
      have kc : (cells.map Prod.fst).Perm (cells'.map Prod.fst) ↔ Z1.map Prod.snd = Z2.map Prod.snd := ⟨fun p => sorted_eq antiK (z11.trans (p.trans z21.symm)) z12 z22, fun e => z11.symm.trans (e ▸ z21)⟩
      by_cases c1 : Z1.map Prod.snd = Z2.map Prod.snd
      · rw [decide_eq_true c1]
        refine iteF ?_
        obtain ⟨⟨dx4, hG4⟩, _⟩ := id G4
        refine ⟨_, rfl, g.G, dx4, _, rfl, hG4, rfl, g, cells, names, rfl, G4, fun p3 W1 hp3 w11 w12 => ?_⟩
        have s45 : Same H4 (upd H4 p3 (.lst (W1.map V.str))) := same_new hp3
        have e1 : ∀ H', Same (upd H4 p3 (.lst (W1.map V.str))) H' → Dp K H' (.ref p3) (.list (W1.map PyData.str)) := fun H' k => .lst (SqL.of (k _ _ upd_same)) (dpStrs W1)
        have G5 := G4.same s45
        have O5 := O4.same s45
        have s5 := s4.trans s45
        generalize upd H4 p3 (.lst (W1.map V.str)) = H5 at s5 e1 G5 O5 s45
        obtain ⟨⟨dy5, hO5⟩, _⟩ := id O5
        refine ⟨_, rfl, o.G, dy5, _, rfl, hO5, rfl, o, cells', names', rfl, O5, fun p4 W2 hp4 w21 w22 => ?_⟩
        have s56 : Same H5 (upd H5 p4 (.lst (W2.map V.str))) := same_new hp4
        have e2 : Dp K (upd H5 p4 (.lst (W2.map V.str))) (.ref p4) (.list (W2.map PyData.str)) := .lst (SqL.of upd_same) (dpStrs W2)
        have e1b := e1 _ s56
        have G6 := G5.same s56
        have O6 := O5.same s56
        have s6 := s5.trans s56
        generalize upd H5 p4 (.lst (W2.map V.str)) = H6 at s6 e2 G6 O6 e1b s56
        have wk : ∀ {nm : Names} {cl : Cells} {W : List Str}, Good cl nm → W.Perm (nm.map Prod.fst) → ∀ x ∈ W, PyData.strOk x = true := fun {nm cl W} gd pw x hx => by
          obtain ⟨e, he, rfl⟩ := List.mem_map.mp (pw.mem_iff.mp hx)
          exact gd.wk e he
        refine ⟨_, _, e1b, e2, strs_shaped _ (wk gd w11), strs_shaped _ (wk od w21), _, rfl, ?_⟩
        rw [eqvL str_eqv]
        have kw : (names.map Prod.fst).Perm (names'.map Prod.fst) ↔ W1 = W2 := ⟨fun p => sorted_eq antiS (w11.trans (p.trans w21.symm)) w12 w22, fun e => w11.symm.trans (e ▸ w21)⟩
        have pc := kc.mpr c1
        by_cases c2 : W1 = W2
        · rw [decide_eq_true c2]
          refine iteF ?_
          have pn := kw.mpr c2
          -- the cells
          obtain ⟨⟨dx6, hG6⟩, _⟩ := id G6
          refine ⟨_, rfl, g.G, dx6, _, rfl, hG6, rfl, g, cells, names, rfl, G6, fun p5 Z5 hp5 z51 z52 z53 => ?_⟩
          have s67 : Same H6 (upd H6 p5 (.lst (Z5.map Prod.fst))) := same_new hp5
          have hL : (upd H6 p5 (.lst (Z5.map Prod.fst))) p5 = some (.lst (Z5.map Prod.fst)) := upd_same
          have zz : ∀ z ∈ Z5, TuAt (upd H6 p5 (.lst (Z5.map Prod.fst))) z.1 z.2 := fun z hz => (z53 z hz).same s67
          have G7 := G6.same s67
          have O7 := O6.same s67
          have s7 := s6.trans s67
          have l5 : Z5.length ≤ 800 := by
            have := z51.length_eq
            rw [List.length_map, List.length_map] at this
            have := gd.lc
            omega
          generalize upd H6 p5 (.lst (Z5.map Prod.fst)) = H7 at s7 hL zz G7 O7 s67
          have ec : eqE PyData.list cells cells' = (Z5.map Prod.snd).all (cmpE PyData.list cells cells') := eqE_all gd.nc pc z51
          refine ⟨_, rfl, ⟨_, SqL.of hL⟩, fun N hN => ?_⟩
          refine lc_it (walk_list (a := p5) (xs := Z5.map Prod.fst)) (fun i H' => Same H7 H' ∧ H' N = some (.lst (((Z5.take i).map fun z => cmpE PyData.list cells cells' z.2).map V.bl))) ⟨same_new hN, upd_same⟩ (fun i H' _ h => h.1.seq (SqL.of hL)) ?_ ?_
          · rintro i x H8 H9 hi ⟨s8, hN8⟩ ⟨rfl, hx⟩
            rw [List.getElem?_map] at hx
            obtain ⟨z, hz, rfl⟩ := Option.map_eq_some_iff.mp hx
            have zm := List.mem_of_getElem? hz
            obtain ⟨b, eb, hb⟩ := zz z zm
            have m1 : z.2 ∈ cells.map Prod.fst := z51.mem_iff.mp (List.mem_map.mpr ⟨z, zm, rfl⟩)
            have m2 := pc.mem_iff.mp m1
            have G8 := G7.same s8
            have O8 := O7.same s8
            obtain ⟨⟨dx8, hG8⟩, _⟩ := id G8
            rw [eb]
            refine ⟨rfl, yesT ⟨_, rfl, g.G, dx8, _, rfl, hG8, rfl, _, rfl, g, cells, names, b, z.2, rfl, G8, s8 _ _ hb, fun q1 u1 H10 s10 hq1 dq1 _ => ?_⟩⟩
            have G10 := G8.same s10
            have O10 := O8.same s10
            obtain ⟨⟨dy10, hO10⟩, _⟩ := id O10
            refine ⟨_, rfl, o.G, dy10, _, rfl, hO10, rfl, _, rfl, o, cells', names', b, z.2, rfl, O10, s10 _ _ (s8 _ _ hb), fun q2 u2 H11 s11 hq2 dq2 _ => ?_⟩
            refine ⟨_, _, .lst (SqL.of (s11 _ _ hq1)) (dtA_same s11 dq1).dp, .lst (SqL.of hq2) dq2.dp, shD gd z.2, shD od z.2, ?_⟩
            rw [← cmp_cells m1 m2]
            refine ⟨_, s11 _ _ (s10 _ _ hN8), ?_, same_mut ((s8.trans s10).trans s11) hN, ?_⟩
            · rw [List.length_map, List.length_map, List.length_take]
              exact small1000 (by omega)
            · rw [upd_same, List.take_add_one, hz, List.map_append, List.map_append]
              rfl
          · rintro H8 ⟨s8, hN8⟩
            rw [List.take_of_length_le (by rw [List.length_map]; exact Nat.le_refl _)] at hN8
            refine ⟨N, _, rfl, SqL.of hN8, ?_⟩
            have ea : (Z5.map fun z => cmpE PyData.list cells cells' z.2).all id = eqE PyData.list cells cells' := by
              rw [ec, List.all_map, List.all_map]
              rfl
            rw [ea]
            refine ⟨_, rfl, ?_⟩
            cases ev : eqE PyData.list cells cells' with
            | false =>
              refine iteT ?_
              have := q H8 (s7.trans s8)
              rw [ev, Bool.false_and, Bool.and_false] at this
              exact this
            | true =>
              refine iteF ?_
              have G8 := G7.same s8
              have O8 := O7.same s8
              have s0 := s7.trans s8
              clear hN8 ea G7 O7 hL zz ec s7 s67 hN
              generalize H8 = J at G8 O8 s0
              obtain ⟨⟨dx9, hG9⟩, _⟩ := id G8
              refine ⟨_, rfl, g.G, dx9, _, rfl, hG9, rfl, g, cells, names, rfl, G8, fun p6 W hp6 w1 w2 => ?_⟩
              have sa : Same J (upd J p6 (.lst (W.map V.str))) := same_new hp6
              have hW : (upd J p6 (.lst (W.map V.str))) p6 = some (.lst (W.map V.str)) := upd_same
              have lw : W.length ≤ 800 := by
                have := w1.length_eq
                rw [List.length_map] at this
                have := gd.ln
                omega
              have G9 := G8.same sa
              have O9 := O8.same sa
              have s9 := s0.trans sa
              generalize upd J p6 (.lst (W.map V.str)) = J1 at sa hW G9 O9 s9
              have en : eqE nmD names names' = W.all (cmpE nmD names names') := eqE_all gd.nn pn w1
              refine ⟨_, rfl, ⟨_, SqL.of hW⟩, fun M hM => ?_⟩
              refine lc_it (walk_list (a := p6) (xs := W.map V.str)) (fun i H' => Same J1 H' ∧ H' M = some (.lst (((W.take i).map (cmpE nmD names names')).map V.bl))) ⟨same_new hM, upd_same⟩ (fun i H' _ h => h.1.seq (SqL.of hW)) ?_ ?_
              · rintro i x J2 J3 hi ⟨sb, hM2⟩ ⟨rfl, hx⟩
                rw [List.getElem?_map] at hx
                obtain ⟨w, hw, rfl⟩ := Option.map_eq_some_iff.mp hx
                have m1 : w ∈ names.map Prod.fst := w1.mem_iff.mp (List.mem_of_getElem? hw)
                obtain ⟨b1, hb1⟩ := get_of_key m1
                obtain ⟨b2, hb2⟩ := get_of_key (pn.mem_iff.mp m1)
                have ec : cmpE nmD names names' w = PyData.eqv (nmD b1) (nmD b2) := by
                  unfold cmpE
                  rw [hb1, hb2]
                have Ga := G9.same sb
                have Oa := O9.same sb
                obtain ⟨⟨dxa, hGa⟩, _⟩ := id Ga
                refine ⟨rfl, yesT ⟨_, rfl, g.G, dxa, _, rfl, hGa, rfl, _, rfl, ?_⟩⟩
                dsimp only [tNil]
                refine area_of Ga hb1 fun v1 J4 sc nv1 => ?_
                have Ob := Oa.same sc
                obtain ⟨⟨dyb, hOb⟩, _⟩ := id Ob
                refine ⟨_, rfl, o.G, dyb, _, rfl, hOb, rfl, _, rfl, ?_⟩
                dsimp only [tNil]
                refine area_of Ob hb2 fun v2 J5 sd nv2 => ?_
                refine ⟨_, _, nv1.dp sd, nv2.dp (Same.refl _), shN gd hb1, shN od hb2, ?_⟩
                rw [← ec]
                refine ⟨_, sd _ _ (sc _ _ hM2), ?_, same_mut ((sb.trans sc).trans sd) hM, ?_⟩
                · rw [List.length_map, List.length_map, List.length_take]
                  exact small1000 (by omega)
                · rw [upd_same, List.take_add_one, hw, List.map_append, List.map_append]
                  rfl
              · rintro J2 ⟨sb, hM2⟩
                rw [List.take_of_length_le (by rw [List.length_map]; exact Nat.le_refl _)] at hM2
                refine ⟨M, _, rfl, SqL.of hM2, ?_⟩
                have ea2 : (W.map (cmpE nmD names names')).all id = eqE nmD names names' := by
                  rw [en, List.all_map]
                  rfl
                rw [ea2]
                have := q J2 (s9.trans sb)
                rw [decide_eq_true c0, ev, Bool.true_and, Bool.true_and] at this
                exact this
        · rw [decide_eq_false c2]
          refine iteT ?_
          have := q H6 s6
          have en : eqE nmD names names' = false := Bool.eq_false_iff.mpr fun z => c2 (kw.mp (eqE_perm gd.nn z))
          rw [en, Bool.and_false, Bool.and_false] at this
          exact this
      · rw [decide_eq_false c1]
        refine iteT ?_
        have := q H4 s4
        have en : eqE PyData.list cells cells' = false := Bool.eq_false_iff.mpr fun z => c1 (kc.mp (eqE_perm gd.nc z))
        rw [en, Bool.false_and, Bool.and_false] at this
        exact this
    · rw [decide_eq_false (show ¬ (g.r, g.c) = (o.r, o.c) from fun z => c0 ⟨(Prod.mk.inj z).1, (Prod.mk.inj z).2⟩)]
      refine iteT ?_
      have := q H2 s2
      rw [decide_eq_false c0, Bool.false_and] at this
      exact this
/-! ### == of dicts with tuple keys -/
section
open PySem PySem.Calls PyProof.Rows PyProof.V PySem.Spec
variable {prog : Program} {w : World} {κ : Type} [DecidableEq κ] {knd : HeapKind prog w κ} {A : Around} {E : Value → Shared → Prop} {s : Shared}
/-- what the other dict answers to an entry: nothing, or a value and whether it is equal -/
def Ask (prog : Program) (w : World) (A : Around) (s : Shared) (xb : List (κ × Addr × Value)) (x : κ × Addr × Value) (b : Bool) : Prop :=
  (atKey xb x.1 = none ∧ b = false) ∨ ∃ q, atKey xb x.1 = some q ∧ SeqAt.EqP prog w A s x.2.2 q.2 b
/-- the answers to all entries, up to the first no -/
inductive HitsH {κ : Type} [DecidableEq κ] (prog : Program) (w : World) (A : Around) (s : Shared) (xb : List (κ × Addr × Value)) : List (κ × Addr × Value) → Bool → Prop
  | nil : HitsH prog w A s xb [] true
  | cons {x : κ × Addr × Value} {r : List (κ × Addr × Value)} {e b : Bool} : Ask prog w A s xb x e → (e = true → HitsH prog w A s xb r b) → HitsH prog w A s xb (x :: r) (e && b)
theorem HitsH.head {xb : List (κ × Addr × Value)} {x : κ × Addr × Value} {r : List (κ × Addr × Value)} {c : Bool} (h : HitsH prog w A s xb (x :: r) c) : ∃ e, Ask prog w A s xb x e ∧ (e = false → c = false) ∧ (e = true → HitsH prog w A s xb r c) := by
  cases h with
  | @cons _ _ e b ha hr => exact ⟨e, ha, fun z => by rw [z]; rfl, fun z => by rw [z, Bool.true_and]; exact hr z⟩
/-- where the loop stands: n entries are behind it, r is what is to come -/
structure Stand (prog : Program) (w : World) (A : Around) (s : Shared) (xa xb : List (κ × Addr × Value)) (c : Bool) (todo : List Nat) : Prop where
  ex : ∃ past rest, xa = past ++ rest ∧ todo = List.range' past.length rest.length ∧ HitsH prog w A s xb rest c
theorem Stand.start {xa xb : List (κ × Addr × Value)} {c : Bool} (h : HitsH prog w A s xb xa c) : Stand prog w A s xa xb c (List.range' 0 xa.length) := ⟨⟨[], xa, rfl, rfl, h⟩⟩
theorem Stand.next {xa xb : List (κ × Addr × Value)} {c : Bool} {i : Nat} {todo : List Nat} (h : Stand prog w A s xa xb c (i :: todo)) : ∃ x e, xa[i]? = some x ∧ Ask prog w A s xb x e ∧ (e = false → c = false) ∧ (e = true → Stand prog w A s xa xb c todo) := by
  obtain ⟨past, rest, e1, e2, hh⟩ := h.ex
  cases rest with
  | nil => cases e2
  | cons x rest =>
    rw [List.length_cons, List.range'_succ] at e2
    obtain ⟨rfl, rfl⟩ := List.cons.inj e2
    obtain ⟨e, ha, h1, h2⟩ := hh.head
    refine ⟨x, e, ?_, ha, h1, fun z => ⟨⟨past ++ [x], rest, by rw [e1, List.append_assoc]; rfl, by rw [List.length_append]; rfl, h2 z⟩⟩⟩
    rw [e1, List.getElem?_append_right (Nat.le_refl _), Nat.sub_self]
    rfl
theorem Stand.stop {xa xb : List (κ × Addr × Value)} {c : Bool} (h : Stand prog w A s xa xb c []) : c = true := by
  obtain ⟨past, rest, _, e2, hh⟩ := h.ex
  cases rest with
  | nil =>
    cases hh
    rfl
  | cons x rest =>
    rw [List.length_cons, List.range'_succ] at e2
    cases e2
theorem samePairsH {nm : String} {a b : Addr} {xa xb : List (κ × Addr × Value)} {c : Bool} {Q : Bool → Shared → Prop} (hu : knd.room A) (ha : (a == sysModules) = false) (hb : (b == sysModules) = false)
    (da : s.heap.DictOfH knd a xa) (db : s.heap.DictOfH knd b xb) (hits : xa.length = xb.length → HitsH prog w A s xb xa c) (h : Q (xa.length == xb.length && c) s) :
    wpAny (model prog w) A (Builtin.Dict.samePairs nm a b) Q E s := by
  have na : ¬ (a == sysModules) = true := fun z => Bool.false_ne_true (ha.symm.trans z)
  have nb : ¬ (b == sysModules) = true := fun z => Bool.false_ne_true (hb.symm.trans z)
  obtain ⟨oa, ea, pa, goa, _, dta, la, isa, _⟩ := da
  obtain ⟨ob, eb, pb, gob, _, dtb, lb, isb, ndb⟩ := db
  have za := size_of_entries la
  have zb := size_of_entries lb
  unfold Builtin.Dict.samePairs Builtin.Dict.showsAll
  rw [if_neg na, if_neg nb]
  refine wpAny_bind (wpAny_pure (wpAny_bind (wpAny_pure (wpAny_bind (wpAny_dictEntries goa dta ?_)))))
  dsimp only
  refine wpAny_bind (wpAny_dictEntries gob dtb ?_)
  by_cases same : ea.size = eb.size
  · have hl : xa.length = xb.length := by omega
    have hq : Q c s := by
      rw [hl, beq_self_eq_true, Bool.true_and] at h
      exact h
    rw [if_neg (by rw [same]; simp)]
    refine wpAny_bind (wpAny_dictEpoch goa dta (wpAny_bind ?_))
    rw [Std.Legacy.Range.forIn_eq_forIn_range']
    simp only [Std.Legacy.Range.size, Nat.sub_zero, Nat.add_sub_cancel, Nat.div_one]
    rw [za]
    refine wpAny_forIn_list _ (fun todo q s' => s' = s ∧ q = (none, ()) ∧ Stand prog w A s xa xb c todo) _ ?step ?last _ _ ⟨rfl, rfl, Stand.start (hits hl)⟩
    case last =>
      rintro q _ ⟨rfl, rfl, st⟩
      rw [st.stop] at hq
      exact wpAny_pure hq
    case step =>
      rintro i todo q s1 ⟨es, rfl, st⟩
      obtain ⟨⟨k, p⟩, e, hx, ask, no, yes⟩ := st.next
      rw [es]
      have hen : ea[i]? = some (entryOfKey knd (k, p)) := by rw [entry_at la i, hx] <;> rfl
      refine wpAny_bind (wpAny_dictEntries goa dta ?_)
      rw [hen]
      show wpAny _ _ (holding [(entryOfKey knd (k, p)).key, (entryOfKey knd (k, p)).val] _ >>= _) _ _ _
      refine wpAny_bind (wpAny_holding (wpAny_bind (wpAny_dictFind_heap (knd := knd) hu (isa _ (List.mem_of_getElem? hx)) gob dtb lb isb ndb (fun gone => ?_) fun j q there => ?_)))
      · -- the other has no such key
        have e0 : e = false := by
          rcases ask with ⟨_, z⟩ | ⟨q, z, _⟩
          · exact z
          · exact nomatch (atKey_none_of_get gone).symm.trans z
        rw [no e0] at hq
        exact wpAny_pure (wpAny_pure (wpAny_pure hq))
      · have found := atKey_of_get ndb there
        have eq : SeqAt.EqP prog w A s p.2 q.2 e := by
          rcases ask with ⟨z, _⟩ | ⟨y, z, t⟩
          · exact nomatch z.symm.trans found
          · rw [Option.some.inj (found.symm.trans z)]
            exact t
        have hej : eb[j]? = some (entryOfKey knd (k, q)) := by rw [entry_at lb j, there] <;> rfl
        refine wpAny_bind (wpAny_dictEntries gob dtb ?_)
        rw [hej]
        refine wpAny_holding (eq _ _ ?_)
        cases e with
        | false =>
          rw [no rfl] at hq
          exact wpAny_pure (wpAny_pure hq)
        | true =>
          refine wpAny_bind (wpAny_dictEpoch goa dta ?_)
          rw [if_neg (by simp)]
          exact wpAny_pure ⟨rfl, rfl, yes rfl⟩
  · have nl : (xa.length == xb.length) = false := by
      rw [← za, ← zb]
      simpa using same
    rw [nl, Bool.false_and] at h
    rw [if_pos (by simpa using same)]
    exact wpAny_bind (wpAny_rule (wpAny_pure h))
theorem rcP_dictsH {a b : Addr} {xa xb : List (κ × Addr × Value)} {c : Bool} (hk : knd.room A.in1) (ha : (a == sysModules) = false) (hb : (b == sysModules) = false)
    (da : s.heap.DictOfH knd a xa) (db : s.heap.DictOfH knd b xb) (hu : A.units < cLine) (hits : xa.length = xb.length → HitsH prog w A.in1 s xb xa c) (E Q : Value → Shared → Prop) (h : Q (.bool (xa.length == xb.length && c)) s) : wpAny (model prog w) A (richCompare .Eq (.ref a) (.ref b)) Q E s := by
  have ta := da.typeIs
  have tb := db.typeIs
  have body : wpAny (model prog w) A.in1 (Builtin.Dict.samePairs (toString "dict." ++ toString "__eq__") a b) (fun r s' => Q (.bool r) s') E s := samePairsH hk ha hb da db hits h
  refine wpAny_richCompare_same_room (op := .Eq) ta tb PySem.F.slot_dict_eq (wpAny_call_entry PySem.F.slot_dict_eq ta PySem.F.entry_dict_eq ?_ (PySem.F.args_dict_eq_2 _ _)) hu
  show wpAny _ _ (Builtin.Dict.dictSlotArgs "__eq__" ⟨[.ref a, .ref b], []⟩ >>= _) _ _ s
  unfold Builtin.Dict.dictSlotArgs
  have args : ∀ (R : Value × Value → Shared → Prop), R (.ref a, .ref b) s → wpAny (model prog w) A.in1 (pure (Value.ref a, Value.ref b)) R E s := fun R r => wpAny_pure r
  refine wpAny_bind (wpAny_bind (wpAny_notOrdered_dict ta (args _ ?_)))
  refine wpAny_bind (wpAny_isInstance (T := "dict") tb PySem.F.sub_dict_dict ?_)
  rw [if_neg (by decide)]
  refine wpAny_bind (wpAny_pure (wpAny_bind (wpAny_pure (wpAny_bind ?_))))
  refine wpAny_mono body (fun r s' hq => wpAny_pure ⟨_, rfl, (fun z => nomatch z), ?_⟩) fun _ _ z => z
  rw [show (r == true) = r by cases r <;> rfl]
  exact hq
end
section
variable {X : Cx} {pins : List (Addr × Obj)} {σ : L2.St} {H : Hp} {s : Shared}
theorem eqP_dp (I : Inv X pins σ H s) {A : Around} (hu : A.units + 64 < cLine) {x y : V} {v u : Value} {d e : PyData} (hd : Dp X.K H x d) (he : Dp X.K H y e) (rx : RelV x v) (ry : RelV y u) (sd : SeqAt.shaped d = true) (se : SeqAt.shaped e = true) : SeqAt.EqP X.prog X.w A s v u (PyData.eqv d e) := by
  obtain ⟨as, r1⟩ := Dp.reads I d x v hd rx
  obtain ⟨bs, r2⟩ := Dp.reads I e y u he ry
  exact (SeqAt.eqAt_reads d e A s v u as bs r1 r2 (SeqAt.canLay_of_shaped sd) (SeqAt.canLay_of_shaped se) (SeqAt.room_of_shaped sd hu)).eqP
def DpAs {β : Type} (K : PySem.W.Frag) (H : Hp) (vd : β → PyData) (v : V) (b : β) : Prop := Dp K H v (vd b)
theorem hitsT {ι β : Type} [DecidableEq ι] {f : ι → List Key} (hf : ∀ a b, f a = f b → a = b) {vd : β → PyData} (I : Inv X pins σ H s) {A : Around} (hu : A.units + 64 < cLine) {ls : List (List Key × V)} {xb : List (List Key × Addr × Value)} {D' : List (ι × β)}
    (rb : KT H ls xb) (e' : Ents f (DpAs X.K H vd) ls D') (s' : ∀ e ∈ D', SeqAt.shaped (vd e.2) = true) : ∀ {ks : List (List Key × V)} {xa : List (List Key × Addr × Value)} {D : List (ι × β)}, KT H ks xa → Ents f (DpAs X.K H vd) ks D → (∀ e ∈ D, SeqAt.shaped (vd e.2) = true) →
    HitsH X.prog X.w A s xb xa (D.all fun e => match getE D' e.1 with
      | some b => PyData.eqv (vd e.2) (vd b)
      | none => false)
  | [], _, [], .nil, _, _ => .nil
  | [], _, _ :: _, _, h, _ => by have := h.len; simp at this
  | _ :: _, _, [], _, h, _ => by have := h.len; simp at this
  | kv :: ks, _, e :: D, .cons (b := y) h t, en, sh => by
    obtain ⟨⟨h1, h2⟩, h3⟩ := RepP.un en
    have ih := hitsT hf I hu rb e' s' t h3 fun z hz => sh z (List.mem_cons_of_mem _ hz)
    obtain ⟨k, p⟩ := y
    have ek : kv.1 = k := h.1
    obtain ⟨g1, g2⟩ := ents_get hf e' e.1
    have r := rb.val k
    rw [← ek, h1] at r
    rw [List.all_cons]
    cases hg : getE D' e.1 with
    | none =>
      rw [g1 hg] at r
      dsimp only
      rw [Bool.false_and]
      refine HitsH.cons (e := false) (b := true) (.inl ⟨?_, rfl⟩) (fun z => nomatch z)
      show atKey xb k = none
      rw [← ek, h1]
      cases ea : atKey xb (f e.1) with
      | none => rfl
      | some q =>
        rw [ea] at r
        exact (show False from r).elim
    | some b =>
      obtain ⟨v, ev, hv⟩ := g2 b hg
      rw [ev] at r
      dsimp only
      cases ea : atKey xb (f e.1) with
      | none =>
        rw [ea] at r
        exact (show False from r).elim
      | some q =>
        rw [ea] at r
        refine HitsH.cons (.inr ⟨q, ?_, eqP_dp I hu h2 hv h.2.2 r (sh e List.mem_cons_self) (s' _ (getE_key hg))⟩) (fun _ => ih)
        show atKey xb k = some q
        rw [← ek, h1]
        exact ea
def rEqT (K : PySem.W.Frag) {ι β : Type} [DecidableEq ι] (f : ι → List Key) (vd : β → PyData) : R2 := fun x y H Q => ∃ a b ks ls D D', x = .ref a ∧ y = .ref b ∧ H a = some (.dT ks) ∧ H b = some (.dT ls) ∧ Ents f (DpAs K H vd) ks D ∧ Ents f (DpAs K H vd) ls D' ∧ (∀ e ∈ D, SeqAt.shaped (vd e.2) = true) ∧ (∀ e ∈ D', SeqAt.shaped (vd e.2) = true) ∧ Q (.bl (eqE vd D D')) H
theorem op_eqT {ι β : Type} [DecidableEq ι] {f : ι → List Key} (hf : ∀ a b, f a = f b → a = b) {vd : β → PyData} (hu : X.A.units + 65 < cLine) : OpR X (compareOp .Eq) (rEqT X.K f vd) := by
  intro pins s σ H x y v u Q I rx ry h
  obtain ⟨a, b, ks, ls, D, D', rfl, rfl, ea, eb, en, en', sh, sh', q⟩ := h
  obtain rfl : v = Value.ref a := rx
  obtain rfl : u = Value.ref b := ry
  obtain ⟨_, ya, xa, ra, da⟩ := dt_of I.hok ea
  obtain ⟨_, yb, xb, rb, db⟩ := dt_of I.hok eb
  refine rcP_dictsH (knd := tupleKind (mixKind X.prog X.w)) (A := X.A) (by show X.A.units + 1 < cLine; omega) ya yb da db (by omega) (fun _ => hitsT hf I (A := X.A.in1) (by show X.A.units + 1 + 64 < cLine; omega) rb en' sh' ra en sh) _ _ ?_
  have e1 : xa.length = D.length := by rw [← en.len, Paired.length ra]
  have e2 : xb.length = D'.length := by rw [← en'.len, Paired.length rb]
  rw [e1, e2]
  exact ⟨.bl _, H, I, rfl, q⟩
theorem hitsK {ι β : Type} [DecidableEq ι] {f : ι → Key} (hf : ∀ a b, f a = f b → a = b) {vd : β → PyData} (I : Inv X pins σ H s) {A : Around} (hu : A.units + 64 < cLine) {ls : List (Key × V)} {xb : List (Key × Value)} {D' : List (ι × β)}
    (rb : KV ls xb) (e' : Ents f (DpAs X.K H vd) ls D') (s' : ∀ e ∈ D', SeqAt.shaped (vd e.2) = true) : ∀ {ks : List (Key × V)} {xa : List (Key × Value)} {D : List (ι × β)}, KV ks xa → Ents f (DpAs X.K H vd) ks D → (∀ e ∈ D, SeqAt.shaped (vd e.2) = true) →
    PySem.W.KeqHitsP X.prog X.w A s xb xa (D.all fun e => match getE D' e.1 with
      | some b => PyData.eqv (vd e.2) (vd b)
      | none => false)
  | [], _, [], .nil, _, _ => .nil
  | [], _, _ :: _, _, h, _ => by have := h.len; simp at this
  | _ :: _, _, [], _, h, _ => by have := h.len; simp at this
  | kv :: ks, _, e :: D, .cons (b := y) h t, en, sh => by
    obtain ⟨⟨h1, h2⟩, h3⟩ := RepP.un en
    have ih := hitsK hf I hu rb e' s' t h3 fun z hz => sh z (List.mem_cons_of_mem _ hz)
    obtain ⟨k, p⟩ := y
    have ek : kv.1 = k := h.1
    obtain ⟨g1, g2⟩ := ents_get hf e' e.1
    have r : RelO (valV ls (f e.1)) (valueAt xb (f e.1)) := rb.val _
    rw [List.all_cons]
    cases hg : getE D' e.1 with
    | none =>
      rw [g1 hg] at r
      dsimp only
      rw [Bool.false_and]
      refine .miss ?_
      rw [← ek, h1]
      cases ea : valueAt xb (f e.1) with
      | none => rfl
      | some q =>
        rw [ea] at r
        cases r
    | some b =>
      obtain ⟨v, ev, hv⟩ := g2 b hg
      rw [ev] at r
      dsimp only
      obtain ⟨y, hy, ry⟩ := r.some_of
      refine .hit (y := y) (by rw [← ek, h1]; exact hy) (eqP_dp I hu h2 hv h.2 ry (sh e List.mem_cons_self) (s' _ (getE_key hg))) ih
def rEqK (K : PySem.W.Frag) {ι β : Type} [DecidableEq ι] (f : ι → Key) (vd : β → PyData) : R2 := fun x y H Q => ∃ a b ks ls D D', x = .ref a ∧ y = .ref b ∧ H a = some (.dK ks) ∧ H b = some (.dK ls) ∧ Ents f (DpAs K H vd) ks D ∧ Ents f (DpAs K H vd) ls D' ∧ (∀ e ∈ D, SeqAt.shaped (vd e.2) = true) ∧ (∀ e ∈ D', SeqAt.shaped (vd e.2) = true) ∧ Q (.bl (eqE vd D D')) H
theorem op_eqK {ι β : Type} [DecidableEq ι] {f : ι → Key} (hf : ∀ a b, f a = f b → a = b) {vd : β → PyData} (hu : X.A.units + 65 < cLine) : OpR X (compareOp .Eq) (rEqK X.K f vd) := by
  intro pins s σ H x y v u Q I rx ry h
  obtain ⟨a, b, ks, ls, D, D', rfl, rfl, ea, eb, en, en', sh, sh', q⟩ := h
  obtain rfl : v = Value.ref a := rx
  obtain rfl : u = Value.ref b := ry
  obtain ⟨_, ya, xa, ra, da⟩ := (show ObjOk X.prog X.w H s.heap a (.dK ks) from I.hok a _ ea)
  obtain ⟨_, yb, xb, rb, db⟩ := (show ObjOk X.prog X.w H s.heap b (.dK ls) from I.hok b _ eb)
  refine PySem.W.rcP_dicts (knd := mixKind X.prog X.w) (A := X.A) ya yb da db (by omega) (fun _ => hitsK hf I (A := X.A.in1) (by show X.A.units + 1 + 64 < cLine; omega) rb en' sh' ra en sh) _ _ ?_
  have e1 : xa.length = D.length := by rw [← en.len, Paired.length ra]
  have e2 : xb.length = D'.length := by rw [← en'.len, Paired.length rb]
  rw [e1, e2]
  exact ⟨.bl _, H, I, rfl, q⟩
end
/-! ### list(d.keys()) -/
def keysO (p d : Addr) : HO := .ext fun h => PySem.W.KdlKeysView h p d
theorem keysO_ok {P : Program} {w : World} {H : Hp} {h : Heap} {p d : Addr} (e : h.get? p = some { cls := .type "dict_keys", data := .fields #[.ref d] }) : ObjOk P w H h p (keysO p d) :=
  ⟨⟨_, e, rfl, rfl⟩, ⟨_, e⟩, fun h1 h2 x k => let ⟨o, ho, r⟩ := x; ⟨o, k o ho, r⟩⟩
section
open PySem PySem.Calls PyProof.Rows PyProof.V PySem.Spec
variable {X : Cx}
def rKeys : V → List V → Hp → VK → Prop := fun x xs H Q => ∃ (a : Addr), x = .ref a ∧ xs = [] ∧ ((∃ kvs, H a = some (.dT kvs)) ∨ ∃ kvs, H a = some (.dK kvs)) ∧ ∀ p, H p = none → Q (.ref p) (upd H p (keysO p a))
theorem mt_keys : MtR X "dict.keys" rKeys := by
  intro pins s σ H x xs v us Q I rx rxs h
  obtain ⟨a, rfl, rfl, ha, q⟩ := h
  cases rx
  cases rxs
  obtain ⟨hd, es, ep, raw⟩ : (a == sysModules) = false ∧ ∃ es ep, s.heap.DictRaw a es ep := by
    rcases ha with ⟨kvs, ha⟩ | ⟨kvs, ha⟩
    · obtain ⟨z, hd, xs', rel, o, es, ep, ho, hx, hdat, _⟩ := dt_of I.hok ha
      exact ⟨hd, es, ep, o, ho, hx, hdat⟩
    · obtain ⟨z, hd, vs, rel, o, es, ep, ho, hx, hdat, _⟩ := (show ObjOk X.prog X.w H s.heap a (.dK kvs) from I.hok a _ ha)
      exact ⟨hd, es, ep, o, ho, hx, hdat⟩
  refine call_meetsIn PySem.F.slot_dict_keys raw.typeIs PySem.F.entry_dict_keys (PySem.F.args_dict_keys_1 _) (meets_dict_keys_raw a hd) ⟨⟨es, ep, raw⟩, ?_⟩
  have hf : H s.heap.objs.size = none := I.hok.fresh (Nat.le_refl _)
  exact ⟨.ref s.heap.objs.size, upd H s.heap.objs.size (keysO s.heap.objs.size a), I.laid (t' := s.toks) (fun b u e => Heap.get?_push_of_some _ e) (Nat.le_refl _) (keysO_ok (Heap.get?_push_size _ rfl)), rfl, q _ hf⟩
def rListKeys : List V → Hp → VK → Prop := fun xs H Q => ∃ (p d : Addr), xs = [.ref p] ∧ H p = some (keysO p d) ∧
  ((∃ kvs, H d = some (.dT kvs) ∧ ∀ q bs, H q = none → IsKeys H kvs bs → Q (.ref q) (upd H q (.lst (bs.map V.ref)))) ∨ ∃ kvs, H d = some (.dK kvs) ∧ ∀ q, H q = none → Q (.ref q) (upd H q (.lst (kvs.map fun kv => kV kv.1))))
theorem call_list_keys (hc : X.calm = true) : CallR X (.type "list") rListKeys := by
  intro pins s σ H xs us Q I r h
  obtain ⟨p, d, rfl, hp, h⟩ := h
  obtain ⟨u, rfl, rx⟩ := r.one
  cases rx
  obtain ⟨hv, _⟩ := (show ObjOk X.prog X.w H s.heap p (keysO p d) from I.hok p _ hp)
  rcases h with ⟨kvs, hd, q⟩ | ⟨kvs, hd, q⟩
  · obtain ⟨z, hs, ks, pr, o, es, ep, ho, hx, hdt, he, hn⟩ := (show ObjOk X.prog X.w H s.heap d (.dT kvs) from I.hok d _ hd)
    have l1 : es.size = ks.length := size_of_entries he
    have l2 : kvs.length = ks.length := Paired.length pr
    refine PySem.W.kdl_call (KdlSrc.rawKeys (es := es) (ep := ep)) (I.ok.hd hc) ⟨hv, o, ho, hx, hdt⟩ (by omega) fun h' tk acc' c' kp e it => ?_
    have eb := keys_listed he it.1 fun i v hv => (by
      obtain ⟨hi, hv⟩ := it.2 i v hv
      exact ⟨_, Array.getElem?_eq_getElem hi, hv⟩)
    have rv : Vals ((ks.map fun x => x.2.1).map V.ref) acc'.toList := by rw [eb]; exact vals_refs _
    have hz : ((ks.map fun x => x.2.1).map V.ref).length ≤ sizeLine := by rw [List.length_map, List.length_map]; omega
    refine ⟨.ref s.heap.objs.size, _, I.laid (t' := tk) (o := .lst ((ks.map fun x => x.2.1).map V.ref)) kp (Nat.le_refl _) ?_, rfl, q _ _ (I.hok.fresh (Nat.le_refl _)) (isKeys_of pr)⟩
    exact ⟨hz, acc'.toList, c', rv, by rw [Array.toArray_toList]; exact e⟩
  · obtain ⟨z, lo, vs, rk, hdo⟩ := (show ObjOk X.prog X.w H s.heap d (.dK kvs) from I.hok d _ hd)
    obtain ⟨ep, hat⟩ := hdo.dictAt
    have hl : kvs.length = vs.length := Paired.length rk
    refine PySem.W.kdl_call (PySem.W.kdl_keys (knd := mixKind X.prog X.w) (kvs := vs) (ep := ep)) (I.ok.hd hc) ⟨hv, hat⟩ (by omega) fun h' tk acc c' kp e hacc => ?_
    have rv : Vals (kvs.map fun kv => kV kv.1) acc.toList := by
      have el : acc.toList.length = acc.size := by simp
      refine vals_of_at (by rw [List.length_map, el, hacc.1, hl]) fun j x w h1 h2 => ?_
      obtain ⟨k, y, hky, hi⟩ := hacc.2 j w (by rw [← Array.getElem?_toList]; exact h2)
      have e1 : (kvs.map (·.1))[j]? = some k := by
        rw [KV.keys rk, List.getElem?_map, hky] <;> rfl
      have e2 : (kvs.map fun kv => kV kv.1)[j]? = some (kV k) := by
        have e3 : (kvs.map fun kv => kV kv.1) = (kvs.map (·.1)).map kV := by rw [List.map_map] <;> rfl
        rw [e3, List.getElem?_map, e1] <;> rfl
      rw [e2] at h1
      cases h1
      exact keyIs_rel hi
    have hz : (kvs.map fun kv => kV kv.1).length ≤ sizeLine := by rw [List.length_map]; omega
    refine ⟨.ref s.heap.objs.size, _, I.laid (t' := tk) (o := .lst (kvs.map fun kv => kV kv.1)) kp (Nat.le_refl _) ?_, rfl, q _ (I.hok.fresh (Nat.le_refl _))⟩
    exact ⟨hz, acc.toList, c', rv, by rw [Array.toArray_toList]; exact e⟩
end
def spCell (K : PySem.W.Frag) : Sp := fun vs H Q _ => ∃ (a : Addr) (ns : List Int) (k : Int), vs = [.ref a, .int k] ∧ 0 ≤ k ∧ SqL K H a (ns.map V.int) ∧ ∀ v : Int, Q (.int v) H
theorem okLawCell (T : Txt K mg) : FnOk P w K mg base CX0 1 T.fLawCell T.fdLawCell ["script", "k"] (spCell K) := by
  refine T.FLawCell.ok scLawCell (fun vs H Q E h => ?_) (fun cdv A outer s H vs Q E hr h => ?_)
  · obtain ⟨a, ns, k, rfl, _⟩ := h
    rfl
  · obtain ⟨a, ns, k, rfl, h0, hS, q⟩ := h
    obtain ⟨k, rfl⟩ := Int.eq_ofNat_of_zero_le h0
    -- slots script=0 k=1
    refine ⟨_, (pss_cons (ps_if (pt_cmpR op_lt (pv 1) (pe_callB call_len_seq (by rfl) T.z_len PySem.boot_len (pa_cons (pv 0) pa_nil)) (nomark _))
          (pss_one (ps_ret (pe_ix ix_list (pv 0) (pv 1) (fun _ _ => rfl))))
          pss_nil)
        (pss_one (ps_ret pe_int))), ?_⟩
    refine ⟨_, rfl, _, rfl, a, _, rfl, .inl hS, _, _, rfl, rfl, _, rfl, ite2 (fun c => ?_) (fun c => ?_)⟩
    · have hk : k < ns.length := by
        have c2 := of_decide_eq_true c
        rw [List.length_map] at c2
        omega
      exact ⟨_, rfl, _, rfl, a, _, _, _, rfl, rfl, hS, atI_nat (getD_at hk), q _⟩
    · exact q 0
/-! ### numbers that a law draws -/
structure Dig (ds : List Int) (n : Nat) : Prop where
  all : ∀ x ∈ ds, 0 ≤ x ∧ x < 1000
  len : ds.length ≤ n
theorem Dig.nil : Dig [] 0 := ⟨fun _ h => (nomatch h), Nat.le_refl _⟩
theorem Dig.more {ds : List Int} {n m : Nat} (h : Dig ds n) (hm : n ≤ m) : Dig ds m := ⟨h.all, Nat.le_trans h.len hm⟩
theorem Dig.add {ds : List Int} {n : Nat} (h : Dig ds n) (x : Int) : Dig (ds ++ [x % 1000]) (n + 1) := by
  refine ⟨fun y hy => ?_, ?_⟩
  · rcases List.mem_append.mp hy with q | q
    · exact h.all y q
    · obtain rfl : y = x % 1000 := by simpa using q
      omega
  · rw [List.length_append]
    have := h.len
    simp only [List.length_singleton]
    omega
def spDigits (K : PySem.W.Frag) : Sp := fun vs H Q _ => ∃ (a : Addr) (ns : List Int) (lo : Nat) (hi : Nat), vs = [.ref a, .int (lo : Int), .int (hi : Int)] ∧ lo ≤ hi ∧ hi ≤ 1000 ∧ SqL K H a (ns.map V.int) ∧
  ∀ H' d ds, Same H H' → H d = none → H' d = some (.lst (ds.map V.int)) → Dig ds (60 * (hi - lo)) → Q (.ref d) H'
theorem okLawDigits (T : Txt K mg) : FnOk P w K mg base CX0 2 T.fLawDigits T.fdLawDigits ["script", "first", "last"] (spDigits K) := by
  refine T.FLawDigits.ok scLawDigits (fun vs H Q E h => ?_) (fun cdv A outer s H vs Q E hr h => ?_)
  · obtain ⟨a, ns, lo, hi, rfl, _⟩ := h
    rfl
  · obtain ⟨a, ns, lo, hi, rfl, hlh, hh, hS, q⟩ := h
    -- slots script=0 first=1 last=2 digits=3 k=4 cell=5 turn=6 seed=7
    refine ⟨_, (pss_cons (ps_set (i := 3) scLawDigits.nd rfl (Or.inl rfl) (pe_lst pa_nil))
        (pss_cons (ps_for PassesOwn.never rfl (pi_range2 rfl T.z_range (pa_cons (pv 1) (pa_cons (pv 2) pa_nil))) (pg_name (i := 4) scLawDigits.nd rfl (Or.inl rfl))
          (pss_cons (ps_set (i := 5) scLawDigits.nd rfl (Or.inl rfl) (pe_call (okLawCell T) (hr.mono (by decide)) (by rfl) T.gLawCell T.FLawCell.kp T.bLawCell .nil pass0 (pa_cons (pv 0) (pa_cons (pv 4) pa_nil))))
          (pss_cons (ps_if (pt_cmpR op_lt (pv 5) pe_int (nomark _))
            (pss_one (ps_set (i := 5) scLawDigits.nd rfl (Or.inl rfl) (pe_op op_sub pe_int (pe_op op_mul pe_int (pv 5)))))
            pss_nil)
          (pss_one (ps_if (pt_cmpR op_ge (pv 5) (pe_op op_pow pe_int pe_int) (nomark _))
            (pss_one (ps_for PassesOwn.never rfl (pi_range1 rfl T.z_range (pa_cons pe_int pa_nil)) (pg_name (i := 6) scLawDigits.nd rfl (Or.inl rfl))
              (pss_one (ps_if (pt_cmpR op_gt (pv 5) pe_int (nomark _))
                (pss_cons (ps_expr (pe_bm PySem.F.plainAttrs_list PySem.F.slot_list_append PySem.F.type_list_append mt_append (pv 3) (pa_cons (pe_op op_mod (pe_callTy call_int1 (by rfl) T.z_int (by decide +kernel) (pa_cons (pv 5) pa_nil)) pe_int) pa_nil)))
                (pss_one (ps_set (i := 5) scLawDigits.nd rfl (Or.inl rfl) (pe_op op_fdiv (pv 5) pe_int))))
                pss_nil))))
            (pss_cons (ps_set (i := 7) scLawDigits.nd rfl (Or.inl rfl) (pe_op op_mod (pe_callTy call_int1 (by rfl) T.z_int (by decide +kernel) (pa_cons (pe_op op_add (pe_op op_add (pe_op op_mul (pv 5) pe_int) (pe_op op_mul (pv 4) pe_int)) pe_int) pa_nil)) pe_int))
            (pss_one (ps_for PassesOwn.never rfl (pi_range1 rfl T.z_range (pa_cons pe_int pa_nil)) (pg_name (i := 6) scLawDigits.nd rfl (Or.inl rfl))
              (pss_cons (ps_set (i := 7) scLawDigits.nd rfl (Or.inl rfl) (pe_op op_mod (pe_callTy call_int1 (by rfl) T.z_int (by decide +kernel) (pa_cons (pe_op op_add (pe_op op_add (pe_op op_mul (pv 7) pe_int) (pe_op op_mul pe_int (pv 6))) pe_int) pa_nil)) pe_int))
              (pss_one (ps_expr (pe_bm PySem.F.plainAttrs_list PySem.F.slot_list_append PySem.F.type_list_append mt_append (pv 3) (pa_cons (pe_op op_mod (pe_callTy call_int1 (by rfl) T.z_int (by decide +kernel) (pa_cons (pe_op op_fdiv (pv 7) pe_int) pa_nil)) pe_int) pa_nil)))))))))))))
        (pss_one (ps_ret (pv 3))))), ?_⟩
    refine ⟨Nat.zero_le _, fun d hd => ?_⟩
    refine ⟨_, rfl, _, rfl, _, _, rfl, ⟨by omega, by omega, by omega, by omega⟩, ?_⟩
    refine for_range (lo := lo) (n := ((hi : Int) - lo).toNat) (fun i σ H' => ∃ ds c0 c1 c2 c3, σ = [some (.ref a), some (.int (lo : Int)), some (.int (hi : Int)), some (.ref d), c0, c1, c2, c3] ∧ Same H H' ∧ H' d = some (.lst (ds.map V.int)) ∧ Dig ds (60 * i))
      ⟨[], _, _, _, _, rfl, same_new hd, upd_same, Dig.nil⟩ ?_ ?_
    · rintro i σ H1 hi2 ⟨ds, c0, c1, c2, c3, rfl, s1, hd1, D⟩
      -- cell = _law_cell(script, k)
      refine ⟨_, rfl, _, rfl, a, ns, _, rfl, by omega, s1.seq hS, fun v => ?_⟩
      -- if cell < 0
      refine ⟨_, rfl, _, _, rfl, rfl, _, rfl, ite2 (fun _ => ?_) (fun _ => ?_)⟩
      · refine ⟨_, rfl, _, _, rfl, rfl, .inl ⟨by decide, by decide⟩, _, _, rfl, rfl, ?_⟩
        refine ⟨_, rfl, _, _, rfl, rfl, ⟨by decide, by decide, by decide⟩, _, _, rfl, rfl, _, rfl, ite2 (fun _ => ?_) (fun _ => ?_)⟩
        · refine ⟨60, rfl, by decide, by decide, for_range (lo := 0) (n := 60) (fun t σ H' => ∃ ds c c1, σ = [some (.ref a), some (.int (lo : Int)), some (.int (hi : Int)), some (.ref d), some (.int ((lo : Int) + i)), some (.int c), c1, c3] ∧ Same H H' ∧ H' d = some (.lst (ds.map V.int)) ∧ Dig ds (60 * i + t)) ⟨ds, _, _, rfl, s1, hd1, D⟩ ?_ ?_⟩
          · rintro t σ H2 ht ⟨ds, c, c1, rfl, s2, hd2, D2⟩
            refine ⟨_, rfl, _, _, rfl, rfl, _, rfl, ite2 (fun _ => ?_) (fun _ => ?_)⟩
            · refine ⟨_, rfl, .inl ⟨rfl, _, SqL.of hd2⟩, _, rfl, .inl ⟨_, rfl, _, _, rfl, rfl, (by show (0 : Int) < _; decide), d, _, _, rfl, rfl, hd2, ?_, _, rfl, _, _, rfl, rfl, ⟨by decide, by decide⟩, ?_⟩⟩
              · rw [List.length_map]
                exact Nat.lt_of_le_of_lt D2.len (Nat.lt_of_lt_of_le (show 60 * i + t < 100000 by omega) (by decide))
              · exact ⟨ds ++ [c % 1000], _, _, rfl, same_mut s2 hd, by rw [upd_same, List.map_append]; rfl, D2.add c⟩
            · exact ⟨ds, _, _, rfl, s2, hd2, D2.more (Nat.le_succ _)⟩
          · rintro σ H2 ⟨ds, c, c1, rfl, s2, hd2, D2⟩
            exact ⟨ds, _, _, _, _, rfl, s2, hd2, D2⟩
        · refine ⟨_, rfl, _, _, rfl, rfl, .inr ⟨by decide, by decide⟩, _, rfl, _, _, rfl, rfl, .inr ⟨by decide, by decide⟩, _, _, rfl, rfl, _, _, rfl, rfl, .inl ⟨_, rfl, _, _, rfl, rfl, (by show (0 : Int) < _; decide), ?_⟩⟩
          refine ⟨12, rfl, by decide, by decide, for_range (lo := 0) (n := 12) (fun t σ H' => ∃ ds c c1 sd, σ = [some (.ref a), some (.int (lo : Int)), some (.int (hi : Int)), some (.ref d), some (.int ((lo : Int) + i)), some (.int c), c1, some (.int sd)] ∧ Same H H' ∧ H' d = some (.lst (ds.map V.int)) ∧ Dig ds (60 * i + t)) ⟨ds, _, _, _, rfl, s1, hd1, D⟩ ?_ ?_⟩
          · rintro t σ H2 ht ⟨ds, c, c1, sd, rfl, s2, hd2, D2⟩
            refine ⟨_, rfl, _, _, rfl, rfl, .inr ⟨by decide, by decide⟩, _, rfl, _, _, rfl, rfl, .inl ⟨by decide, by decide⟩, _, _, rfl, rfl, _, _, rfl, rfl, .inl ⟨_, rfl, _, _, rfl, rfl, (by show (0 : Int) < _; decide), ?_⟩⟩
            refine ⟨_, rfl, .inl ⟨rfl, _, SqL.of hd2⟩, _, rfl, _, _, rfl, rfl, ⟨by decide, by decide⟩, .inl ⟨_, rfl, _, _, rfl, rfl, (by show (0 : Int) < _; decide), d, _, _, rfl, rfl, hd2, ?_, ?_⟩⟩
            · rw [List.length_map]
              exact Nat.lt_of_le_of_lt D2.len (Nat.lt_of_lt_of_le (show 60 * i + t < 100000 by omega) (by decide))
            · exact ⟨ds ++ [_ % 1000], _, _, _, rfl, same_mut s2 hd, by rw [upd_same, List.map_append]; rfl, D2.add _⟩
          · rintro σ H2 ⟨ds, c, c1, sd, rfl, s2, hd2, D2⟩
            exact ⟨ds, _, _, _, _, rfl, s2, hd2, D2.more (by omega)⟩
      · refine ⟨_, rfl, _, _, rfl, rfl, ⟨by decide, by decide, by decide⟩, _, _, rfl, rfl, _, rfl, ite2 (fun _ => ?_) (fun _ => ?_)⟩
        · refine ⟨60, rfl, by decide, by decide, for_range (lo := 0) (n := 60) (fun t σ H' => ∃ ds c c1, σ = [some (.ref a), some (.int (lo : Int)), some (.int (hi : Int)), some (.ref d), some (.int ((lo : Int) + i)), some (.int c), c1, c3] ∧ Same H H' ∧ H' d = some (.lst (ds.map V.int)) ∧ Dig ds (60 * i + t)) ⟨ds, _, _, rfl, s1, hd1, D⟩ ?_ ?_⟩
          · rintro t σ H2 ht ⟨ds, c, c1, rfl, s2, hd2, D2⟩
            refine ⟨_, rfl, _, _, rfl, rfl, _, rfl, ite2 (fun _ => ?_) (fun _ => ?_)⟩
            · refine ⟨_, rfl, .inl ⟨rfl, _, SqL.of hd2⟩, _, rfl, .inl ⟨_, rfl, _, _, rfl, rfl, (by show (0 : Int) < _; decide), d, _, _, rfl, rfl, hd2, ?_, _, rfl, _, _, rfl, rfl, ⟨by decide, by decide⟩, ?_⟩⟩
              · rw [List.length_map]
                exact Nat.lt_of_le_of_lt D2.len (Nat.lt_of_lt_of_le (show 60 * i + t < 100000 by omega) (by decide))
              · exact ⟨ds ++ [c % 1000], _, _, rfl, same_mut s2 hd, by rw [upd_same, List.map_append]; rfl, D2.add c⟩
            · exact ⟨ds, _, _, rfl, s2, hd2, D2.more (Nat.le_succ _)⟩
          · rintro σ H2 ⟨ds, c, c1, rfl, s2, hd2, D2⟩
            exact ⟨ds, _, _, _, _, rfl, s2, hd2, D2⟩
        · refine ⟨_, rfl, _, _, rfl, rfl, .inr ⟨by decide, by decide⟩, _, rfl, _, _, rfl, rfl, .inr ⟨by decide, by decide⟩, _, _, rfl, rfl, _, _, rfl, rfl, .inl ⟨_, rfl, _, _, rfl, rfl, (by show (0 : Int) < _; decide), ?_⟩⟩
          refine ⟨12, rfl, by decide, by decide, for_range (lo := 0) (n := 12) (fun t σ H' => ∃ ds c c1 sd, σ = [some (.ref a), some (.int (lo : Int)), some (.int (hi : Int)), some (.ref d), some (.int ((lo : Int) + i)), some (.int c), c1, some (.int sd)] ∧ Same H H' ∧ H' d = some (.lst (ds.map V.int)) ∧ Dig ds (60 * i + t)) ⟨ds, _, _, _, rfl, s1, hd1, D⟩ ?_ ?_⟩
          · rintro t σ H2 ht ⟨ds, c, c1, sd, rfl, s2, hd2, D2⟩
            refine ⟨_, rfl, _, _, rfl, rfl, .inr ⟨by decide, by decide⟩, _, rfl, _, _, rfl, rfl, .inl ⟨by decide, by decide⟩, _, _, rfl, rfl, _, _, rfl, rfl, .inl ⟨_, rfl, _, _, rfl, rfl, (by show (0 : Int) < _; decide), ?_⟩⟩
            refine ⟨_, rfl, .inl ⟨rfl, _, SqL.of hd2⟩, _, rfl, _, _, rfl, rfl, ⟨by decide, by decide⟩, .inl ⟨_, rfl, _, _, rfl, rfl, (by show (0 : Int) < _; decide), d, _, _, rfl, rfl, hd2, ?_, ?_⟩⟩
            · rw [List.length_map]
              exact Nat.lt_of_le_of_lt D2.len (Nat.lt_of_lt_of_le (show 60 * i + t < 100000 by omega) (by decide))
            · exact ⟨ds ++ [_ % 1000], _, _, _, rfl, same_mut s2 hd, by rw [upd_same, List.map_append]; rfl, D2.add _⟩
          · rintro σ H2 ⟨ds, c, c1, sd, rfl, s2, hd2, D2⟩
            exact ⟨ds, _, _, _, _, rfl, s2, hd2, D2.more (by omega)⟩
    · rintro σ H1 ⟨ds, c0, c1, c2, c3, rfl, s1, hd1, D⟩
      exact ⟨_, rfl, q _ d ds s1 hd hd1 (by rw [show ((hi : Int) - lo).toNat = hi - lo by omega] at D; exact D)⟩
/-- all but the box stays, and the box keeps its list -/
structure Kp (b : Addr) (H H' : Hp) : Prop where
  k : ∀ c o, c ≠ b → H c = some o → H' c = some o
  d : ∀ (x j : V), H b = some (.lst [x, j]) → ∃ j', H' b = some (.lst [x, j'])
instance {b : Addr} {H H' : Hp} : CoeFun (Kp b H H') (fun _ => ∀ c o, c ≠ b → H c = some o → H' c = some o) := ⟨Kp.k⟩
theorem Kp.refl {b : Addr} {H : Hp} : Kp b H H := ⟨fun _ _ _ h => h, fun _ j h => ⟨j, h⟩⟩
theorem Kp.trans {b : Addr} {H H1 H2 : Hp} (x : Kp b H H1) (y : Kp b H1 H2) : Kp b H H2 := ⟨fun c o n h => y.k c o n (x.k c o n h), fun v j h => by
  obtain ⟨j1, h1⟩ := x.d v j h
  exact y.d v j1 h1⟩
theorem Kp.of {b : Addr} {H H1 : Hp} (x : Same H H1) : Kp b H H1 := ⟨fun c o _ h => x c o h, fun _ j h => ⟨j, x _ _ h⟩⟩
theorem Kp.same {b : Addr} {H H1 H2 : Hp} (x : Same H H1) (h : H b = none) (y : Kp b H1 H2) : Same H H2 := fun c o e => y.k c o (ne_of_none e h) (x c o e)
/-- a box of drawn digits and the place of the next one -/
def Box (H : Hp) (b : Addr) : Prop := ∃ (d : Addr) (ds : List Int) (i : Nat), H b = some (.lst [.ref d, .int (i : Int)]) ∧ H d = some (.lst (ds.map V.int)) ∧ b ≠ d
theorem Box.same {H H' : Hp} {b : Addr} (s : Same H H') (h : Box H b) : Box H' b := by
  obtain ⟨d, ds, i, h1, h2, h3⟩ := h
  exact ⟨d, ds, i, s _ _ h1, s _ _ h2, h3⟩
def spDraw (K : PySem.W.Frag) : Sp := fun vs H Q _ => ∃ (b : Addr) (m : Int), vs = [.ref b, .int m] ∧ 0 < m ∧ Box H b ∧ ∀ x H', 0 ≤ x → x < m → Box H' b → Kp b H H' → Q (.int x) H'
theorem okLawDraw (T : Txt K mg) : FnOk P w K mg base CX0 1 T.fLawDraw T.fdLawDraw ["box", "many"] (spDraw K) := by
  refine T.FLawDraw.ok scLawDraw (fun vs H Q E h => ?_) (fun cdv A outer s H vs Q E hr h => ?_)
  · obtain ⟨b, m, rfl, _⟩ := h
    rfl
  · obtain ⟨b, m, rfl, hm, ⟨d, ds, i, hb, hd, nbd⟩, q⟩ := h
    -- slots box=0 many=1 at=2
    refine ⟨_, (pss_cons (ps_set (i := 2) scLawDraw.nd rfl (Or.inl rfl) (pe_ix ix_list (pv 0) pe_int (fun _ _ => rfl)))
        (pss_cons (ps_asg (pe_op op_add (pv 2) pe_int) (pg_sub (pv 0) pe_int set_list))
        (pss_cons (ps_if (pt_cmpR op_lt (pv 2) (pe_callB call_len_seq (by rfl) T.z_len PySem.boot_len (pa_cons (pe_ix ix_list (pv 0) pe_int (fun _ _ => rfl)) pa_nil)) (nomark _))
          (pss_one (ps_ret (pe_op op_mod (pe_callTy call_int1 (by rfl) T.z_int (by decide +kernel) (pa_cons (pe_ix ix_list (pe_ix ix_list (pv 0) pe_int (fun _ _ => rfl)) (pv 2) (fun _ _ => rfl)) pa_nil)) (pv 1))))
          pss_nil)
        (pss_one (ps_ret pe_int))))), ?_⟩
    refine ⟨_, rfl, b, _, _, _, rfl, rfl, SqL.of hb, atI_nat (j := 1) rfl, _, rfl, _, _, rfl, rfl, _, rfl, b, _, _, 1, rfl, rfl, hb, rfl, ?_⟩
    have hb' : (upd H b (.lst ([.ref d, .int (i : Int)].set 1 (.int ((i : Int) + 1))))) b = some (.lst [.ref d, .int ((i : Int) + 1)]) := upd_same
    have hd' : (upd H b (.lst ([.ref d, .int (i : Int)].set 1 (.int ((i : Int) + 1))))) d = some (.lst (ds.map V.int)) := by
      rw [upd_ne nbd.symm]
      exact hd
    have kp : Kp b H (upd H b (.lst ([.ref d, .int (i : Int)].set 1 (.int ((i : Int) + 1))))) := ⟨fun c o n e => by
      rw [upd_ne n]
      exact e, fun x j h => by
      rw [hb] at h
      cases h
      exact ⟨_, hb'⟩⟩
    refine ⟨_, rfl, _, rfl, b, _, _, _, rfl, rfl, SqL.of hb', atI_nat (j := 0) rfl, d, _, rfl, .inl (SqL.of hd'), _, _, rfl, rfl, _, rfl, ite2 (fun c => ?_) (fun c => ?_)⟩
    · have hk : i < ds.length := by
        have c2 := of_decide_eq_true c
        rw [List.length_map] at c2
        omega
      refine ⟨_, rfl, b, _, _, _, rfl, rfl, SqL.of hb', atI_nat (j := 0) rfl, _, rfl, d, _, _, _, rfl, rfl, SqL.of hd', atI_nat (getD_at hk), .inl ⟨_, rfl, _, rfl, _, _, rfl, rfl, hm, ?_⟩⟩
      exact q _ _ (Int.emod_nonneg _ (by omega)) (Int.emod_lt_of_pos _ hm) ⟨d, ds, i + 1, hb', hd', nbd⟩ kp
    · exact q _ _ (Int.le_refl _) hm ⟨d, ds, i + 1, hb', hd', nbd⟩ kp
/-! ### the law's own comparison -/
def Scal : V → Prop
  | .non => True
  | .bl _ => True
  | .int _ => True
  | .str _ => True
  | _ => False
def Lk (H : Hp) : Nat → V → V → Prop
  | 0, x, y => x = y ∧ Scal y
  | n + 1, x, y => (x = y ∧ Scal y) ∨
    (∃ a b xs ys, x = .ref a ∧ y = .ref b ∧ H a = some (.tup xs) ∧ H b = some (.tup ys) ∧ xs.length = ys.length ∧ xs.length ≤ 100000 ∧ ∀ (i : Nat) u v, xs[i]? = some u → ys[i]? = some v → Lk H n u v) ∨
    (∃ a b xs ys, x = .ref a ∧ y = .ref b ∧ H a = some (.lst xs) ∧ H b = some (.lst ys) ∧ xs.length = ys.length ∧ xs.length ≤ 100000 ∧ ∀ (i : Nat) u v, xs[i]? = some u → ys[i]? = some v → Lk H n u v)
theorem isi {K : PySem.W.Frag} {H : Hp} {x : V} {t c : String} {b : Bool} {Q : VK} (ty : TyX K H x (.type t)) (h : kitB t c = some b) (q : Q (.bl b) H) : rIsi K [x, .ty c] H Q := ⟨x, .ty c, _, _, b, rfl, .ty c, ty, kit_ty h, q⟩
def spSame (K : PySem.W.Frag) (n : Nat) : Sp := fun vs H Q _ => ∃ (x y : V), vs = [x, y] ∧ Lk H n x y ∧ Q (.bl true) H
theorem okLawSame (T : Txt K mg) : ∀ n : Nat, FnOk P w K mg base CX0 (n + 1) T.fLawSame T.fdLawSame ["actual", "due"] (spSame K n)
  | 0 => by
    refine T.FLawSame.ok scLawSame (fun vs H Q E h => ?_) (fun cdv A outer s H vs Q E hr h => ?_)
    · obtain ⟨x, y, rfl, _⟩ := h
      rfl
    · obtain ⟨x, y, rfl, ⟨rfl, sy⟩, q⟩ := h
      -- slots actual=0 due=1 k=2
      refine ⟨_, (pss_cons (ps_if (PW.pt (pw_or (pt_val (pe_callB call_isi (by rfl) T.z_isinstance (by decide +kernel) (pa_cons (pv 1) (pa_cons (pe_bltn (v := .ty "list") (by rfl) T.z_list (by decide +kernel) rfl) pa_nil)))) (pw_or1 (pt_val (pe_callB call_isi (by rfl) T.z_isinstance (by decide +kernel) (pa_cons (pv 1) (pa_cons (pe_bltn (v := .ty "tuple") (by rfl) T.z_tuple (by decide +kernel) rfl) pa_nil)))))))
            (pss_cons ps_never
            (pss_cons ps_never
            (pss_cons ps_never
            (pss_one ps_never))))
            pss_nil)
          (pss_cons (ps_if (pt_cmpR op_isN (pv 1) pe_non (nomark _))
            (pss_one (ps_ret (pe_cmpR op_isN (pv 0) pe_non (nomark _))))
            pss_nil)
          (pss_cons (ps_if (pt_val (pe_callB call_isi (by rfl) T.z_isinstance (by decide +kernel) (pa_cons (pv 1) (pa_cons (pe_bltn (v := .ty "bool") (by rfl) T.z_bool (by decide +kernel) rfl) pa_nil))))
            (pss_one (ps_ret (pe_and (pe_callB call_isi (by rfl) T.z_isinstance (by decide +kernel) (pa_cons (pv 0) (pa_cons (pe_bltn (v := .ty "bool") (by rfl) T.z_bool (by decide +kernel) rfl) pa_nil))) (pe_one (pe_cmpR op_eq (pv 0) (pv 1) (nomark _))))))
            pss_nil)
          (pss_cons (ps_if (pt_val (pe_callB call_isi (by rfl) T.z_isinstance (by decide +kernel) (pa_cons (pv 1) (pa_cons (pe_bltn (v := .ty "str") (by rfl) T.z_str (by decide +kernel) rfl) pa_nil))))
            (pss_one (ps_ret (pe_and (pe_callB call_isi (by rfl) T.z_isinstance (by decide +kernel) (pa_cons (pv 0) (pa_cons (pe_bltn (v := .ty "str") (by rfl) T.z_str (by decide +kernel) rfl) pa_nil))) (pe_one (pe_cmpR op_eq (pv 0) (pv 1) (nomark _))))))
            pss_nil)
          (pss_one (ps_ret (pe_and (pe_callB call_isi (by rfl) T.z_isinstance (by decide +kernel) (pa_cons (pv 0) (pa_cons (pe_bltn (v := .ty "int") (by rfl) T.z_int (by decide +kernel) rfl) pa_nil))) (pe_and (pe_not (pe_callB call_isi (by rfl) T.z_isinstance (by decide +kernel) (pa_cons (pv 0) (pa_cons (pe_bltn (v := .ty "bool") (by rfl) T.z_bool (by decide +kernel) rfl) pa_nil)))) (pe_one (pe_cmpR op_eq (pv 0) (pv 1) (nomark _))))))))))), ?_⟩
      cases x with
      | non =>
        refine ⟨_, rfl, _, _, _, _, false, rfl, .ty _, .base (.non), kit_ty (by decide +kernel), _, rfl, iteF ⟨_, rfl, _, _, _, _, false, rfl, .ty _, .base (.non), kit_ty (by decide +kernel), _, rfl, iteF ?_⟩⟩
        refine ⟨_, rfl, rfl, _, rfl, ite2 (fun _ => ?_) (fun c => absurd (decide_eq_true rfl) c)⟩
        refine ⟨_, rfl, rfl, ?_⟩
        rw [decide_eq_true rfl]
        exact q
      | bl v =>
        refine ⟨_, rfl, _, _, _, _, false, rfl, .ty _, .base (.bl v), kit_ty (by decide +kernel), _, rfl, iteF ⟨_, rfl, _, _, _, _, false, rfl, .ty _, .base (.bl v), kit_ty (by decide +kernel), _, rfl, iteF ?_⟩⟩
        refine ⟨_, rfl, rfl, _, rfl, ite2 (fun c => (nomatch (of_decide_eq_true c))) (fun _ => ?_)⟩
        refine ⟨_, rfl, _, _, _, _, true, rfl, .ty _, .base (.bl v), kit_ty (by decide +kernel), _, rfl, iteT ?_⟩
        refine ⟨_, rfl, _, _, _, _, true, rfl, .ty _, .base (.bl v), kit_ty (by decide +kernel), _, rfl, iteT ?_⟩
        refine ⟨_, rfl, _, rfl, rfl, ?_⟩
        rw [decide_eq_true rfl]
        exact q
      | int v =>
        refine ⟨_, rfl, _, _, _, _, false, rfl, .ty _, .base (.int v), kit_ty (by decide +kernel), _, rfl, iteF ⟨_, rfl, _, _, _, _, false, rfl, .ty _, .base (.int v), kit_ty (by decide +kernel), _, rfl, iteF ?_⟩⟩
        refine ⟨_, rfl, rfl, _, rfl, ite2 (fun c => (nomatch (of_decide_eq_true c))) (fun _ => ?_)⟩
        refine ⟨_, rfl, _, _, _, _, false, rfl, .ty _, .base (.int v), kit_ty (by decide +kernel), _, rfl, iteF ?_⟩
        refine ⟨_, rfl, _, _, _, _, false, rfl, .ty _, .base (.int v), kit_ty (by decide +kernel), _, rfl, iteF ?_⟩
        refine ⟨_, rfl, _, _, _, _, true, rfl, .ty _, .base (.int v), kit_ty (by decide +kernel), _, rfl, iteT ?_⟩
        refine ⟨_, rfl, _, _, _, _, false, rfl, .ty _, .base (.int v), kit_ty (by decide +kernel), _, rfl, _, rfl, iteT ?_⟩
        refine ⟨_, rfl, _, rfl, rfl, ?_⟩
        rw [decide_eq_true rfl]
        exact q
      | str v =>
        refine ⟨_, rfl, _, _, _, _, false, rfl, .ty _, .base (.str v), kit_ty (by decide +kernel), _, rfl, iteF ⟨_, rfl, _, _, _, _, false, rfl, .ty _, .base (.str v), kit_ty (by decide +kernel), _, rfl, iteF ?_⟩⟩
        refine ⟨_, rfl, rfl, _, rfl, ite2 (fun c => (nomatch (of_decide_eq_true c))) (fun _ => ?_)⟩
        refine ⟨_, rfl, _, _, _, _, false, rfl, .ty _, .base (.str v), kit_ty (by decide +kernel), _, rfl, iteF ?_⟩
        refine ⟨_, rfl, _, _, _, _, true, rfl, .ty _, .base (.str v), kit_ty (by decide +kernel), _, rfl, iteT ?_⟩
        refine ⟨_, rfl, _, _, _, _, true, rfl, .ty _, .base (.str v), kit_ty (by decide +kernel), _, rfl, iteT ?_⟩
        refine ⟨_, rfl, _, rfl, rfl, ?_⟩
        rw [decide_eq_true rfl]
        exact q
      | _ => exact sy.elim
  | n + 1 => by
    have IH := okLawSame T n
    refine T.FLawSame.ok scLawSame (fun vs H Q E h => ?_) (fun cdv A outer s H vs Q E hr h => ?_)
    · obtain ⟨x, y, rfl, _⟩ := h
      rfl
    · obtain ⟨x, y, rfl, hL, q⟩ := h
      -- slots actual=0 due=1 k=2
      refine ⟨_, (pss_cons (ps_if (PW.pt (pw_or (pt_val (pe_callB call_isi (by rfl) T.z_isinstance (by decide +kernel) (pa_cons (pv 1) (pa_cons (pe_bltn (v := .ty "list") (by rfl) T.z_list (by decide +kernel) rfl) pa_nil)))) (pw_or1 (pt_val (pe_callB call_isi (by rfl) T.z_isinstance (by decide +kernel) (pa_cons (pv 1) (pa_cons (pe_bltn (v := .ty "tuple") (by rfl) T.z_tuple (by decide +kernel) rfl) pa_nil)))))))
            (pss_cons (ps_if (PW.pt (pw_or (pt_cmpR op_ne (pe_callB call_isi (by rfl) T.z_isinstance (by decide +kernel) (pa_cons (pv 1) (pa_cons (pe_bltn (v := .ty "list") (by rfl) T.z_list (by decide +kernel) rfl) pa_nil))) (pe_callB call_isi (by rfl) T.z_isinstance (by decide +kernel) (pa_cons (pv 0) (pa_cons (pe_bltn (v := .ty "list") (by rfl) T.z_list (by decide +kernel) rfl) pa_nil))) (nomark _)) (pw_or1 (pt_cmpR op_ne (pe_callB call_isi (by rfl) T.z_isinstance (by decide +kernel) (pa_cons (pv 1) (pa_cons (pe_bltn (v := .ty "tuple") (by rfl) T.z_tuple (by decide +kernel) rfl) pa_nil))) (pe_callB call_isi (by rfl) T.z_isinstance (by decide +kernel) (pa_cons (pv 0) (pa_cons (pe_bltn (v := .ty "tuple") (by rfl) T.z_tuple (by decide +kernel) rfl) pa_nil))) (nomark _)))))
              (pss_one (ps_ret pe_bl))
              pss_nil)
            (pss_cons (ps_if (pt_cmpR op_ne (pe_callB call_len_seq (by rfl) T.z_len PySem.boot_len (pa_cons (pv 0) pa_nil)) (pe_callB call_len_seq (by rfl) T.z_len PySem.boot_len (pa_cons (pv 1) pa_nil)) (nomark _))
              (pss_one (ps_ret pe_bl))
              pss_nil)
            (pss_cons (ps_for PassesOwn.never rfl (pi_range1 rfl T.z_range (pa_cons (pe_callB call_len_seq (by rfl) T.z_len PySem.boot_len (pa_cons (pv 1) pa_nil)) pa_nil)) (pg_name (i := 2) scLawSame.nd rfl (Or.inl rfl))
              (pss_one (ps_if (pt_not (pt_val (pe_call IH (hr.mono (Nat.le_refl _)) (by rfl) T.gLawSame T.FLawSame.kp T.bLawSame .nil pass0 (pa_cons (pe_ix ix_seq (pv 0) (pv 2) (fun _ _ => rfl)) (pa_cons (pe_ix ix_seq (pv 1) (pv 2) (fun _ _ => rfl)) pa_nil)))))
                (pss_one (ps_ret pe_bl))
                pss_nil)))
            (pss_one (ps_ret pe_bl)))))
            pss_nil)
          (pss_cons (ps_if (pt_cmpR op_isN (pv 1) pe_non (nomark _))
            (pss_one (ps_ret (pe_cmpR op_isN (pv 0) pe_non (nomark _))))
            pss_nil)
          (pss_cons (ps_if (pt_val (pe_callB call_isi (by rfl) T.z_isinstance (by decide +kernel) (pa_cons (pv 1) (pa_cons (pe_bltn (v := .ty "bool") (by rfl) T.z_bool (by decide +kernel) rfl) pa_nil))))
            (pss_one (ps_ret (pe_and (pe_callB call_isi (by rfl) T.z_isinstance (by decide +kernel) (pa_cons (pv 0) (pa_cons (pe_bltn (v := .ty "bool") (by rfl) T.z_bool (by decide +kernel) rfl) pa_nil))) (pe_one (pe_cmpR op_eq (pv 0) (pv 1) (nomark _))))))
            pss_nil)
          (pss_cons (ps_if (pt_val (pe_callB call_isi (by rfl) T.z_isinstance (by decide +kernel) (pa_cons (pv 1) (pa_cons (pe_bltn (v := .ty "str") (by rfl) T.z_str (by decide +kernel) rfl) pa_nil))))
            (pss_one (ps_ret (pe_and (pe_callB call_isi (by rfl) T.z_isinstance (by decide +kernel) (pa_cons (pv 0) (pa_cons (pe_bltn (v := .ty "str") (by rfl) T.z_str (by decide +kernel) rfl) pa_nil))) (pe_one (pe_cmpR op_eq (pv 0) (pv 1) (nomark _))))))
            pss_nil)
          (pss_one (ps_ret (pe_and (pe_callB call_isi (by rfl) T.z_isinstance (by decide +kernel) (pa_cons (pv 0) (pa_cons (pe_bltn (v := .ty "int") (by rfl) T.z_int (by decide +kernel) rfl) pa_nil))) (pe_and (pe_not (pe_callB call_isi (by rfl) T.z_isinstance (by decide +kernel) (pa_cons (pv 0) (pa_cons (pe_bltn (v := .ty "bool") (by rfl) T.z_bool (by decide +kernel) rfl) pa_nil)))) (pe_one (pe_cmpR op_eq (pv 0) (pv 1) (nomark _))))))))))), ?_⟩
      rcases hL with ⟨rfl, sy⟩ | ⟨a, b, xs, ys, rfl, rfl, ha, hb, hl, hz, hi⟩ | ⟨a, b, xs, ys, rfl, rfl, ha, hb, hl, hz, hi⟩
      · cases x with
        | non =>
          refine ⟨_, rfl, _, _, _, _, false, rfl, .ty _, .base (.non), kit_ty (by decide +kernel), _, rfl, iteF ⟨_, rfl, _, _, _, _, false, rfl, .ty _, .base (.non), kit_ty (by decide +kernel), _, rfl, iteF ?_⟩⟩
          refine ⟨_, rfl, rfl, _, rfl, ite2 (fun _ => ?_) (fun c => absurd (decide_eq_true rfl) c)⟩
          refine ⟨_, rfl, rfl, ?_⟩
          rw [decide_eq_true rfl]
          exact q
        | bl v =>
          refine ⟨_, rfl, _, _, _, _, false, rfl, .ty _, .base (.bl v), kit_ty (by decide +kernel), _, rfl, iteF ⟨_, rfl, _, _, _, _, false, rfl, .ty _, .base (.bl v), kit_ty (by decide +kernel), _, rfl, iteF ?_⟩⟩
          refine ⟨_, rfl, rfl, _, rfl, ite2 (fun c => (nomatch (of_decide_eq_true c))) (fun _ => ?_)⟩
          refine ⟨_, rfl, _, _, _, _, true, rfl, .ty _, .base (.bl v), kit_ty (by decide +kernel), _, rfl, iteT ?_⟩
          refine ⟨_, rfl, _, _, _, _, true, rfl, .ty _, .base (.bl v), kit_ty (by decide +kernel), _, rfl, iteT ?_⟩
          refine ⟨_, rfl, _, rfl, rfl, ?_⟩
          rw [decide_eq_true rfl]
          exact q
        | int v =>
          refine ⟨_, rfl, _, _, _, _, false, rfl, .ty _, .base (.int v), kit_ty (by decide +kernel), _, rfl, iteF ⟨_, rfl, _, _, _, _, false, rfl, .ty _, .base (.int v), kit_ty (by decide +kernel), _, rfl, iteF ?_⟩⟩
          refine ⟨_, rfl, rfl, _, rfl, ite2 (fun c => (nomatch (of_decide_eq_true c))) (fun _ => ?_)⟩
          refine ⟨_, rfl, _, _, _, _, false, rfl, .ty _, .base (.int v), kit_ty (by decide +kernel), _, rfl, iteF ?_⟩
          refine ⟨_, rfl, _, _, _, _, false, rfl, .ty _, .base (.int v), kit_ty (by decide +kernel), _, rfl, iteF ?_⟩
          refine ⟨_, rfl, _, _, _, _, true, rfl, .ty _, .base (.int v), kit_ty (by decide +kernel), _, rfl, iteT ?_⟩
          refine ⟨_, rfl, _, _, _, _, false, rfl, .ty _, .base (.int v), kit_ty (by decide +kernel), _, rfl, _, rfl, iteT ?_⟩
          refine ⟨_, rfl, _, rfl, rfl, ?_⟩
          rw [decide_eq_true rfl]
          exact q
        | str v =>
          refine ⟨_, rfl, _, _, _, _, false, rfl, .ty _, .base (.str v), kit_ty (by decide +kernel), _, rfl, iteF ⟨_, rfl, _, _, _, _, false, rfl, .ty _, .base (.str v), kit_ty (by decide +kernel), _, rfl, iteF ?_⟩⟩
          refine ⟨_, rfl, rfl, _, rfl, ite2 (fun c => (nomatch (of_decide_eq_true c))) (fun _ => ?_)⟩
          refine ⟨_, rfl, _, _, _, _, false, rfl, .ty _, .base (.str v), kit_ty (by decide +kernel), _, rfl, iteF ?_⟩
          refine ⟨_, rfl, _, _, _, _, true, rfl, .ty _, .base (.str v), kit_ty (by decide +kernel), _, rfl, iteT ?_⟩
          refine ⟨_, rfl, _, _, _, _, true, rfl, .ty _, .base (.str v), kit_ty (by decide +kernel), _, rfl, iteT ?_⟩
          refine ⟨_, rfl, _, rfl, rfl, ?_⟩
          rw [decide_eq_true rfl]
          exact q
        | _ => exact sy.elim
      · refine ⟨_, rfl, _, _, _, _, false, rfl, .ty _, .base (.tup hb), kit_ty (by decide +kernel), _, rfl, iteF ⟨_, rfl, _, _, _, _, true, rfl, .ty _, .base (.tup hb), kit_ty (by decide +kernel), _, rfl, iteT ?_⟩⟩
        refine ⟨_, rfl, _, _, _, _, false, rfl, .ty _, .base (.tup hb), kit_ty (by decide +kernel), _, rfl, _, _, _, _, false, rfl, .ty _, .base (.tup ha), kit_ty (by decide +kernel), rfl, _, rfl, iteNS rfl ?_⟩
        refine ⟨_, rfl, _, _, _, _, true, rfl, .ty _, .base (.tup hb), kit_ty (by decide +kernel), _, rfl, _, _, _, _, true, rfl, .ty _, .base (.tup ha), kit_ty (by decide +kernel), rfl, _, rfl, iteNS rfl ?_⟩
        refine ⟨_, rfl, a, _, rfl, .inr (SqT.of ha), _, rfl, b, _, rfl, .inr (SqT.of hb), rfl, _, rfl, iteNS (by rw [hl]) ?_⟩
        refine ⟨_, rfl, b, _, rfl, .inr (SqT.of hb), _, rfl, by omega, by omega, for_range (lo := 0) (n := ys.length) (fun i σ H' => H' = H ∧ ∃ k, σ = [some (.ref a), some (.ref b), k]) ⟨rfl, _, rfl⟩ ?_ ?_⟩
        · rintro i σ H1 hi2 ⟨rfl, k, rfl⟩
          have e1 : xs[i]? = some xs[i] := List.getElem?_eq_getElem (by omega)
          have e2 : ys[i]? = some ys[i] := List.getElem?_eq_getElem hi2
          have z : (0 : Int) + (i : Int) = ((i : Nat) : Int) := Int.zero_add _
          refine ⟨_, rfl, _, rfl, .inr (.inl ⟨a, _, _, _, rfl, rfl, SqT.of ha, by rw [z]; exact atI_nat e1, _, rfl, _, rfl, .inr (.inl ⟨b, _, _, _, rfl, rfl, SqT.of hb, by rw [z]; exact atI_nat e2, ?_⟩)⟩)⟩
          exact ⟨_, _, rfl, hi i _ _ e1 e2, _, rfl, iteF ⟨rfl, _, rfl⟩⟩
        · rintro σ H1 ⟨rfl, k, rfl⟩
          exact q
      · refine ⟨_, rfl, _, _, _, _, true, rfl, .ty _, .base (.lst hb), kit_ty (by decide +kernel), _, rfl, iteT ?_⟩
        refine ⟨_, rfl, _, _, _, _, true, rfl, .ty _, .base (.lst hb), kit_ty (by decide +kernel), _, rfl, _, _, _, _, true, rfl, .ty _, .base (.lst ha), kit_ty (by decide +kernel), rfl, _, rfl, iteNS rfl ?_⟩
        refine ⟨_, rfl, _, _, _, _, false, rfl, .ty _, .base (.lst hb), kit_ty (by decide +kernel), _, rfl, _, _, _, _, false, rfl, .ty _, .base (.lst ha), kit_ty (by decide +kernel), rfl, _, rfl, iteNS rfl ?_⟩
        refine ⟨_, rfl, a, _, rfl, .inl (SqL.of ha), _, rfl, b, _, rfl, .inl (SqL.of hb), rfl, _, rfl, iteNS (by rw [hl]) ?_⟩
        refine ⟨_, rfl, b, _, rfl, .inl (SqL.of hb), _, rfl, by omega, by omega, for_range (lo := 0) (n := ys.length) (fun i σ H' => H' = H ∧ ∃ k, σ = [some (.ref a), some (.ref b), k]) ⟨rfl, _, rfl⟩ ?_ ?_⟩
        · rintro i σ H1 hi2 ⟨rfl, k, rfl⟩
          have e1 : xs[i]? = some xs[i] := List.getElem?_eq_getElem (by omega)
          have e2 : ys[i]? = some ys[i] := List.getElem?_eq_getElem hi2
          have z : (0 : Int) + (i : Int) = ((i : Nat) : Int) := Int.zero_add _
          refine ⟨_, rfl, _, rfl, .inl (⟨a, _, _, _, rfl, rfl, SqL.of ha, by rw [z]; exact atI_nat e1, _, rfl, _, rfl, .inl (⟨b, _, _, _, rfl, rfl, SqL.of hb, by rw [z]; exact atI_nat e2, ?_⟩)⟩)⟩
          exact ⟨_, _, rfl, hi i _ _ e1 e2, _, rfl, iteF ⟨rfl, _, rfl⟩⟩
        · rintro σ H1 ⟨rfl, k, rfl⟩
          exact q
theorem okHLawSame (T : Txt K mg) : FnH P w K mg base CX0 1 T.fLawSame T.fdLawSame ["actual", "due"] (spSame K 0) := by
  refine okHot T.FLawSame scLawSame (fun vs H Q E h => ?_) (fun cdv A outer s H vs Q E p hot hr h => ?_)
  · obtain ⟨x, y, rfl, _⟩ := h
    rfl
  · obtain ⟨x, y, rfl, ⟨rfl, sy⟩, q⟩ := h
    -- slots actual=0 due=1 k=2
    refine ⟨_, (pss_cons (ps_if (PW.pt (pw_or (pt_val (pe_callB call_isi (by rfl) T.z_isinstance (by decide +kernel) (pa_cons (pv 1) (pa_cons (pe_bltn (v := .ty "list") (by rfl) T.z_list (by decide +kernel) rfl) pa_nil)))) (pw_or1 (pt_val (pe_callB call_isi (by rfl) T.z_isinstance (by decide +kernel) (pa_cons (pv 1) (pa_cons (pe_bltn (v := .ty "tuple") (by rfl) T.z_tuple (by decide +kernel) rfl) pa_nil)))))))
          (pss_cons ps_never
          (pss_cons ps_never
          (pss_cons ps_never
          (pss_one ps_never))))
          pss_nil)
        (pss_cons (ps_if (pt_cmpR op_isN (pv 1) pe_non (nomark _))
          (pss_one (ps_ret (pe_cmpR op_isN (pv 0) pe_non (nomark _))))
          pss_nil)
        (pss_cons (ps_if (pt_val (pe_callB call_isi (by rfl) T.z_isinstance (by decide +kernel) (pa_cons (pv 1) (pa_cons (pe_bltn (v := .ty "bool") (by rfl) T.z_bool (by decide +kernel) rfl) pa_nil))))
          (pss_one (ps_ret (pe_and (pe_callB call_isi (by rfl) T.z_isinstance (by decide +kernel) (pa_cons (pv 0) (pa_cons (pe_bltn (v := .ty "bool") (by rfl) T.z_bool (by decide +kernel) rfl) pa_nil))) (pe_one (pe_cmpR op_eq (pv 0) (pv 1) (nomark _))))))
          pss_nil)
        (pss_cons (ps_if (pt_val (pe_callB call_isi (by rfl) T.z_isinstance (by decide +kernel) (pa_cons (pv 1) (pa_cons (pe_bltn (v := .ty "str") (by rfl) T.z_str (by decide +kernel) rfl) pa_nil))))
          (pss_one (ps_ret (pe_and (pe_callB call_isi (by rfl) T.z_isinstance (by decide +kernel) (pa_cons (pv 0) (pa_cons (pe_bltn (v := .ty "str") (by rfl) T.z_str (by decide +kernel) rfl) pa_nil))) (pe_one (pe_cmpR op_eq (pv 0) (pv 1) (nomark _))))))
          pss_nil)
        (pss_one (ps_ret (pe_and (pe_callB call_isi (by rfl) T.z_isinstance (by decide +kernel) (pa_cons (pv 0) (pa_cons (pe_bltn (v := .ty "int") (by rfl) T.z_int (by decide +kernel) rfl) pa_nil))) (pe_and (pe_not (pe_callB call_isi (by rfl) T.z_isinstance (by decide +kernel) (pa_cons (pv 0) (pa_cons (pe_bltn (v := .ty "bool") (by rfl) T.z_bool (by decide +kernel) rfl) pa_nil)))) (pe_one (pe_cmpR op_eq (pv 0) (pv 1) (nomark _))))))))))), ?_⟩
    cases x with
    | non =>
      refine ⟨_, rfl, _, _, _, _, false, rfl, .ty _, .base (.non), kit_ty (by decide +kernel), _, rfl, iteF ⟨_, rfl, _, _, _, _, false, rfl, .ty _, .base (.non), kit_ty (by decide +kernel), _, rfl, iteF ?_⟩⟩
      refine ⟨_, rfl, rfl, _, rfl, ite2 (fun _ => ?_) (fun c => absurd (decide_eq_true rfl) c)⟩
      refine ⟨_, rfl, rfl, ?_⟩
      rw [decide_eq_true rfl]
      exact q
    | bl v =>
      refine ⟨_, rfl, _, _, _, _, false, rfl, .ty _, .base (.bl v), kit_ty (by decide +kernel), _, rfl, iteF ⟨_, rfl, _, _, _, _, false, rfl, .ty _, .base (.bl v), kit_ty (by decide +kernel), _, rfl, iteF ?_⟩⟩
      refine ⟨_, rfl, rfl, _, rfl, ite2 (fun c => (nomatch (of_decide_eq_true c))) (fun _ => ?_)⟩
      refine ⟨_, rfl, _, _, _, _, true, rfl, .ty _, .base (.bl v), kit_ty (by decide +kernel), _, rfl, iteT ?_⟩
      refine ⟨_, rfl, _, _, _, _, true, rfl, .ty _, .base (.bl v), kit_ty (by decide +kernel), _, rfl, iteT ?_⟩
      refine ⟨_, rfl, _, rfl, rfl, ?_⟩
      rw [decide_eq_true rfl]
      exact q
    | int v =>
      refine ⟨_, rfl, _, _, _, _, false, rfl, .ty _, .base (.int v), kit_ty (by decide +kernel), _, rfl, iteF ⟨_, rfl, _, _, _, _, false, rfl, .ty _, .base (.int v), kit_ty (by decide +kernel), _, rfl, iteF ?_⟩⟩
      refine ⟨_, rfl, rfl, _, rfl, ite2 (fun c => (nomatch (of_decide_eq_true c))) (fun _ => ?_)⟩
      refine ⟨_, rfl, _, _, _, _, false, rfl, .ty _, .base (.int v), kit_ty (by decide +kernel), _, rfl, iteF ?_⟩
      refine ⟨_, rfl, _, _, _, _, false, rfl, .ty _, .base (.int v), kit_ty (by decide +kernel), _, rfl, iteF ?_⟩
      refine ⟨_, rfl, _, _, _, _, true, rfl, .ty _, .base (.int v), kit_ty (by decide +kernel), _, rfl, iteT ?_⟩
      refine ⟨_, rfl, _, _, _, _, false, rfl, .ty _, .base (.int v), kit_ty (by decide +kernel), _, rfl, _, rfl, iteT ?_⟩
      refine ⟨_, rfl, _, rfl, rfl, ?_⟩
      rw [decide_eq_true rfl]
      exact q
    | str v =>
      refine ⟨_, rfl, _, _, _, _, false, rfl, .ty _, .base (.str v), kit_ty (by decide +kernel), _, rfl, iteF ⟨_, rfl, _, _, _, _, false, rfl, .ty _, .base (.str v), kit_ty (by decide +kernel), _, rfl, iteF ?_⟩⟩
      refine ⟨_, rfl, rfl, _, rfl, ite2 (fun c => (nomatch (of_decide_eq_true c))) (fun _ => ?_)⟩
      refine ⟨_, rfl, _, _, _, _, false, rfl, .ty _, .base (.str v), kit_ty (by decide +kernel), _, rfl, iteF ?_⟩
      refine ⟨_, rfl, _, _, _, _, true, rfl, .ty _, .base (.str v), kit_ty (by decide +kernel), _, rfl, iteT ?_⟩
      refine ⟨_, rfl, _, _, _, _, true, rfl, .ty _, .base (.str v), kit_ty (by decide +kernel), _, rfl, iteT ?_⟩
      refine ⟨_, rfl, _, rfl, rfl, ?_⟩
      rw [decide_eq_true rfl]
      exact q
    | _ => exact sy.elim
def scalD : PyData → Bool
  | .none => true
  | .bool _ => true
  | .int _ => true
  | .str _ => true
  | _ => false
def tiny : Nat → PyData → Prop
  | 0, d => scalD d = true
  | n + 1, d => scalD d = true ∨ ∃ ds, d = .tuple ds ∧ ds.length ≤ 100 ∧ ∀ x ∈ ds, tiny n x
theorem DtAll.length {H : Hp} : ∀ {vs : List V} {ds : List PyData}, DtAll H vs ds → vs.length = ds.length
  | _, _, .nil => rfl
  | _, _, .cons _ r => by rw [List.length_cons, List.length_cons, r.length]
theorem DtAll.at_ {H : Hp} : ∀ {vs : List V} {ds : List PyData}, DtAll H vs ds → ∀ (i : Nat) v d, vs[i]? = some v → ds[i]? = some d → Dt H v d
  | _, _, .nil, i, v, d, h, _ => by simp at h
  | _, _, .cons h r, 0, v, d, h1, h2 => by
    obtain rfl := Option.some.inj h1
    obtain rfl := Option.some.inj h2
    exact h
  | _, _, .cons h r, i + 1, v, d, h1, h2 => r.at_ i v d h1 h2
theorem scal_dt {H : Hp} {x y : V} {d : PyData} (h : scalD d = true) (hx : Dt H x d) (hy : Dt H y d) : x = y ∧ Scal y := by
  cases hx <;> cases hy <;> first | exact ⟨rfl, trivial⟩ | cases h
theorem Lk.scal {H : Hp} {n : Nat} {x y : V} (h : x = y ∧ Scal y) : Lk H n x y := by
  cases n with
  | zero => exact h
  | succ n => exact .inl h
theorem lk_dt {H : Hp} : ∀ (n : Nat) {x y : V} {d : PyData}, tiny n d → Dt H x d → Dt H y d → Lk H n x y
  | 0, x, y, d, t, hx, hy => scal_dt t hx hy
  | n + 1, x, y, d, t, hx, hy => by
    rcases t with t | ⟨ds, rfl, hl, hi⟩
    · exact .inl (scal_dt t hx hy)
    · cases hx with
      | tup ha ra =>
        cases hy with
        | tup hb rb =>
          refine .inr (.inl ⟨_, _, _, _, rfl, rfl, ha, hb, by rw [ra.length, rb.length], by rw [ra.length]; omega, fun i u v h1 h2 => ?_⟩)
          have hlt : i < ds.length := by
            have := (List.getElem?_eq_some_iff.mp h1).1
            rw [ra.length] at this
            exact this
          have e := List.getElem?_eq_getElem hlt
          exact lk_dt n (hi _ (List.getElem_mem hlt)) (ra.at_ i _ _ h1 e) (rb.at_ i _ _ h2 e)
def Sm (ds : List PyData) : Prop := ds.length ≤ 100 ∧ ∀ d ∈ ds, tiny 2 d
theorem lk_lists {H : Hp} {p q : Addr} {us ws : List V} {ds : List PyData} (s : Sm ds) (hp : H p = some (.lst us)) (hq : H q = some (.lst ws)) (hu : DtAll H us ds) (hw : DtAll H ws ds) : Lk H 3 (.ref p) (.ref q) := by
  refine .inr (.inr ⟨_, _, _, _, rfl, rfl, hp, hq, by rw [hu.length, hw.length], by rw [hu.length]; have := s.1; omega, fun i u v h1 h2 => ?_⟩)
  have hlt : i < ds.length := by
    have := (List.getElem?_eq_some_iff.mp h1).1
    rw [hu.length] at this
    exact this
  have e := List.getElem?_eq_getElem hlt
  exact lk_dt 2 (s.2 _ (List.getElem_mem hlt)) (hu.at_ i _ _ h1 e) (hw.at_ i _ _ h2 e)
/-- what is told of cells and names -/
structure Fn (cells : Cells) (names : Names) : Prop where
  g : Good cells names
  c : ∀ e ∈ cells, Sm e.2
  n : ∀ e ∈ names, ∀ ds, e.2 = some ds → Sm ds
/-- the law's own two dicts -/
structure TD (K : PySem.W.Frag) (H : Hp) (cd nd : Addr) (cells : Cells) (names : Names) : Prop where
  cs : ∃ kvs, H cd = some (.dT kvs) ∧ Ents idK (LAt K H) kvs cells ∧ kvs.length ≤ 900
  ns : ∃ nvs, H nd = some (.dK nvs) ∧ Ents keyW (NAt K H) nvs names ∧ nvs.length ≤ 900
theorem TD.same {K : PySem.W.Frag} {H H' : Hp} {cd nd : Addr} {cells : Cells} {names : Names} (s : Same H H') (h : TD K H cd nd cells names) : TD K H' cd nd cells names := by
  obtain ⟨⟨kvs, h2, h3, h4⟩, ⟨nvs, h5, h6, h7⟩⟩ := h
  exact ⟨⟨kvs, s _ _ h2, ents_kd (KD.of s) h3, h4⟩, ⟨nvs, s _ _ h5, entsN_kd (KD.of s) h6, h7⟩⟩
theorem lk_tu {H : Hp} : ∀ {xs ys : List (V × (Int × Int))}, xs.map Prod.snd = ys.map Prod.snd → (∀ z ∈ xs, TuAt H z.1 z.2) → (∀ z ∈ ys, TuAt H z.1 z.2) → ∀ (i : Nat) u v, (xs.map Prod.fst)[i]? = some u → (ys.map Prod.fst)[i]? = some v → Lk H 2 u v := fun {xs ys} e hx hy i u v h1 h2 => by
  rw [List.getElem?_map] at h1 h2
  obtain ⟨x, hx1, rfl⟩ := Option.map_eq_some_iff.mp h1
  obtain ⟨y, hy1, rfl⟩ := Option.map_eq_some_iff.mp h2
  have es : x.2 = y.2 := by
    have this : (List.map Prod.snd xs)[i]? = (List.map Prod.snd ys)[i]? := by rw [e]
    rw [List.getElem?_map, List.getElem?_map, hx1, hy1] at this
    exact Option.some.inj this
  obtain ⟨a, ea, ha⟩ := hx x (List.mem_of_getElem? hx1)
  obtain ⟨b, eb, hb⟩ := hy y (List.mem_of_getElem? hy1)
  rw [ea, eb]
  rw [← es] at hb
  refine lk_dt 2 (d := idD x.2) (.inr ⟨_, rfl, (by show 2 ≤ 100; decide), fun d hd => ?_⟩) (.tup ha (.cons (.int _) (.cons (.int _) .nil))) (.tup hb (.cons (.int _) (.cons (.int _) .nil)))
  left
  simp at hd
  rcases hd with rfl | rfl <;> rfl
theorem smE (cells : Cells) (names : Names) (f : Fn cells names) (z : Int × Int) : Sm ((getE cells z).getD []) := by
  cases e : getE cells z with
  | none => exact ⟨Nat.zero_le _, fun _ h => nomatch h⟩
  | some ds => exact f.c _ (getE_key e)
/-- sorted of the key tuples of a dict -/
theorem keys_zip {H : Hp} {kvs : List (List Key × V)} {bs : List Addr} {cells : Cells} (hk : IsKeys H kvs bs) (e : kvs.map Prod.fst = (cells.map Prod.fst).map idK) : ∃ zs : List (V × (Int × Int)), zs.map Prod.fst = bs.map V.ref ∧ zs.map Prod.snd = cells.map Prod.fst ∧ ∀ z ∈ zs, TuAt H z.1 z.2 := by
  have l1 := Paired.length hk
  have l2 := congrArg List.length e
  rw [List.length_map, List.length_map, List.length_map] at l2
  refine ⟨(bs.map V.ref).zip (cells.map Prod.fst), List.map_fst_zip (by rw [List.length_map, List.length_map]; omega), List.map_snd_zip (by rw [List.length_map, List.length_map]; omega), keysTu hk e⟩
theorem zs_alike (zs : List (V × (Int × Int))) : PySem.W.AllAlike ((zs.map gK).map Prod.snd) ∧ PySem.W.Sortable ((zs.map gK).map Prod.snd) ∧ ∀ b ∈ zs.map gK, b.2.depth ≤ 50 := by
  refine ⟨fun d1 h1 d2 h2 => ?_, .inl fun d1 h1 => ?_, fun b hb => ?_⟩
  · obtain ⟨b1, g1, rfl⟩ := List.mem_map.mp h1
    obtain ⟨b2, g2, rfl⟩ := List.mem_map.mp h2
    obtain ⟨y1, _, rfl⟩ := List.mem_map.mp g1
    obtain ⟨y2, _, rfl⟩ := List.mem_map.mp g2
    exact alikeI _ _
  · obtain ⟨b1, g1, rfl⟩ := List.mem_map.mp h1
    obtain ⟨y1, _, rfl⟩ := List.mem_map.mp g1
    exact ⟨_, _, rfl⟩
  · obtain ⟨y, _, rfl⟩ := List.mem_map.mp hb
    have := idD_depth y.2
    show (idD y.2).depth ≤ 50
    omega
theorem ws_alike (ws : List Str) : PySem.W.AllAlike ((ws.map sK).map Prod.snd) ∧ PySem.W.Sortable ((ws.map sK).map Prod.snd) ∧ ∀ b ∈ ws.map sK, b.2.depth ≤ 50 := by
  refine ⟨fun d1 h1 d2 h2 => ?_, .inr fun d1 h1 => ?_, fun b hb => ?_⟩
  · obtain ⟨b1, g1, rfl⟩ := List.mem_map.mp h1
    obtain ⟨b2, g2, rfl⟩ := List.mem_map.mp h2
    obtain ⟨y1, _, rfl⟩ := List.mem_map.mp g1
    obtain ⟨y2, _, rfl⟩ := List.mem_map.mp g2
    simp [sK, PySem.W.alike]
  · obtain ⟨b1, g1, rfl⟩ := List.mem_map.mp h1
    obtain ⟨y1, _, rfl⟩ := List.mem_map.mp g1
    exact ⟨(fun z => nomatch z), (fun xs z => nomatch z)⟩
  · obtain ⟨y, _, rfl⟩ := List.mem_map.mp hb
    simp [sK, PyData.depth]
theorem lk_strs {H : Hp} {W : List Str} : ∀ (i : Nat) u v, (W.map V.str)[i]? = some u → (W.map V.str)[i]? = some v → Lk H 2 u v := fun i u v h1 h2 => by
  rw [h1] at h2
  obtain rfl := Option.some.inj h2
  rw [List.getElem?_map] at h1
  obtain ⟨x, _, rfl⟩ := Option.map_eq_some_iff.mp h1
  exact Lk.scal ⟨rfl, trivial⟩
/-- cells.get(cell, []) of the law's own dict -/
theorem TD.got {K : PySem.W.Frag} {H : Hp} {cd nd : Addr} {cells : Cells} {names : Names} {tb l0 : Addr} {z : Int × Int} (D : TD K H cd nd cells names) (ht : H tb = some (.tup [.int z.1, .int z.2])) (hl : H l0 = some (.lst [])) :
    ∃ r, DGet H cd (.ref tb) r ∧ ∃ l ws, r.getD (.ref l0) = .ref l ∧ H l = some (.lst ws) ∧ DtAll H ws ((getE cells z).getD []) := by
  obtain ⟨⟨kvs, hC, eC, _⟩, _⟩ := D
  obtain ⟨e1, e2⟩ := ents_get (fun _ _ => idK_inj) eC z
  have dg := DGet.t (k := idK z) hC ht
  cases hg : getE cells z with
  | none =>
    rw [e1 hg] at dg
    exact ⟨none, dg, l0, [], rfl, hl, .nil⟩
  | some ds =>
    obtain ⟨v, ev, l, us, rfl, hl2, dp⟩ := e2 ds hg
    rw [ev] at dg
    exact ⟨_, dg, l, us, rfl, hl2, dp⟩
theorem TD.gotN {K : PySem.W.Frag} {H : Hp} {cd nd : Addr} {cells : Cells} {names : Names} {w : Str} {b : Option (List PyData)} (D : TD K H cd nd cells names) (hb : getE names w = some b) : ∃ v, DGet H nd (.str w) (some v) ∧ NAt K H v b := by
  obtain ⟨_, ⟨nvs, hN, eN, _⟩⟩ := D
  obtain ⟨e1, e2⟩ := ents_get (fun _ _ => keyW_inj) eN w
  have dg := DGet.k (k := keyW w) hN
  obtain ⟨v, ev, hv⟩ := e2 b hb
  rw [ev] at dg
  exact ⟨v, dg, hv⟩
theorem TD.goneN {K : PySem.W.Frag} {H : Hp} {cd nd : Addr} {cells : Cells} {names : Names} {w : Str} (D : TD K H cd nd cells names) (hb : getE names w = none) : DGet H nd (.str w) none := by
  obtain ⟨_, ⟨nvs, hN, eN, _⟩⟩ := D
  obtain ⟨e1, e2⟩ := ents_get (fun _ _ => keyW_inj) eN w
  have dg := DGet.k (k := keyW w) hN
  rw [e1 hb] at dg
  exact dg
theorem lk_new {K : PySem.W.Frag} {H H' H2 : Hp} {v1 v : V} {b : Option (List PyData)} (n : NewA K H H' v1 b) (s : Same H' H2) (h : NAt K H2 v b) (sm : ∀ ds, b = some ds → Sm ds) : Lk H2 3 v1 v := by
  cases b with
  | none =>
    obtain rfl := n
    obtain rfl := h
    exact Lk.scal ⟨rfl, trivial⟩
  | some ds =>
    obtain ⟨p, us, rfl, _, hp, dt⟩ := n
    obtain ⟨l, ws, rfl, hl, dl⟩ := h
    exact lk_lists (sm ds rfl) (s _ _ hp) hl (dtA_same s dt) dl
def spSG (K : PySem.W.Frag) (C : Addr) : Sp := fun vs H Q _ => ∃ (g : Gr) (cells : Cells) (names : Names) (cd nd : Addr), vs = [.ref g.G, .int g.r, .int g.c, .ref cd, .ref nd] ∧ 0 ≤ g.r ∧ g.r ≤ 10 ∧ 0 ≤ g.c ∧ g.c ≤ 10 ∧ GD K C H g cells names ∧ TD K H cd nd cells names ∧ Fn cells names ∧
  ∀ H', Same H H' → Q (.bl true) H'
theorem okLawSameGrid (T : Txt K mg) : FnOk P w K mg base CX0 5 T.fLawSameGrid T.fdLawSameGrid ["grid", "rows", "columns", "cells", "names"] (spSG K T.cGrid) := by
  refine T.FLawSameGrid.ok scLawSameGrid (fun vs H Q E h => ?_) (fun cdv A outer s H vs Q E hr h => ?_)
  · obtain ⟨g, cells, names, cd, nd, rfl, _⟩ := h
    rfl
  · obtain ⟨g, cells, names, cd, nd, rfl, r0, r1, c0, c1, G0, D0, f, q⟩ := h
    -- slots grid=0 rows=1 columns=2 cells=3 names=4 row=5 column=6 told=7 word=8 wrong=9
    refine ⟨_, (pss_cons (ps_if (pt_not (pt_val (pe_call (okLawSame T 3) (hr.mono (by decide)) (by rfl) T.gLawSame T.FLawSame.kp T.bLawSame .nil pass0 (pa_cons (pe_lst (pa_cons (pe_fld (pv 0) rfl) (pa_cons (pe_fld (pv 0) rfl) pa_nil))) (pa_cons (pe_lst (pa_cons (pv 1) (pa_cons (pv 2) pa_nil))) pa_nil)))))
          (pss_one (ps_ret pe_bl))
          pss_nil)
        (pss_cons (ps_if (pt_not (pt_val (pe_call (okLawSame T 3) (hr.mono (by decide)) (by rfl) T.gLawSame T.FLawSame.kp T.bLawSame .nil pass0 (pa_cons (pe_meth0 (pv 0) T.clGrid T.meGrid_Cells (okGrid_Cells T) (hr.mono (by decide)) T.bGrid_Cells .nil pass0) (pa_cons (pe_callB (cr_sortedD hr.units) (by rfl) T.z_sorted (by decide +kernel) (pa_cons (pe_callTy (call_list_keys rfl) (by rfl) T.z_list (by decide +kernel) (pa_cons (pe_bm0 PySem.F.plainAttrs_dict PySem.F.slot_dict_keys PySem.F.type_dict_keys mt_keys (pv 3)) pa_nil)) pa_nil)) pa_nil)))))
          (pss_one (ps_ret pe_bl))
          pss_nil)
        (pss_cons (ps_if (pt_not (pt_val (pe_call (okLawSame T 3) (hr.mono (by decide)) (by rfl) T.gLawSame T.FLawSame.kp T.bLawSame .nil pass0 (pa_cons (pe_meth0 (pv 0) T.clGrid T.meGrid_Words (okGrid_Words T) (hr.mono (by decide)) T.bGrid_Words .nil pass0) (pa_cons (pe_callB (cr_sortedD hr.units) (by rfl) T.z_sorted (by decide +kernel) (pa_cons (pe_callTy (call_list_keys rfl) (by rfl) T.z_list (by decide +kernel) (pa_cons (pe_bm0 PySem.F.plainAttrs_dict PySem.F.slot_dict_keys PySem.F.type_dict_keys mt_keys (pv 4)) pa_nil)) pa_nil)) pa_nil)))))
          (pss_one (ps_ret pe_bl))
          pss_nil)
        (pss_cons (ps_for PassesOwn.never rfl (pi_range1 rfl T.z_range (pa_cons (pv 1) pa_nil)) (pg_name (i := 5) scLawSameGrid.nd rfl (Or.inl rfl))
          (pss_one (ps_for PassesOwn.never rfl (pi_range1 rfl T.z_range (pa_cons (pv 2) pa_nil)) (pg_name (i := 6) scLawSameGrid.nd rfl (Or.inl rfl))
            (pss_cons (ps_set (i := 7) scLawSameGrid.nd rfl (Or.inl rfl) (pe_meth (pv 0) T.clGrid T.meGrid_Shown (okGrid_Shown T) (hr.mono (by decide)) T.bGrid_Shown .nil pass0 (pa_cons (pe_tup (pa_cons (pv 5) (pa_cons (pv 6) pa_nil))) pa_nil)))
            (pss_cons (ps_if (pt_not (pt_val (pe_call (okLawSame T 3) (hr.mono (by decide)) (by rfl) T.gLawSame T.FLawSame.kp T.bLawSame .nil pass0 (pa_cons (pv 7) (pa_cons (pe_dget2 (units2 hr) (pv 3) (pe_tup (pa_cons (pv 5) (pa_cons (pv 6) pa_nil))) (pe_lst pa_nil) ⟨rfl, rfl, rfl, rfl⟩) pa_nil)))))
              (pss_one (ps_ret pe_bl))
              pss_nil)
            (pss_cons (ps_expr (pe_bm PySem.F.plainAttrs_list PySem.F.slot_list_append PySem.F.type_list_append mt_append (pv 7) (pa_cons (pe_tup (pa_cons pe_str (pa_cons pe_str pa_nil))) pa_nil)))
            (pss_one (ps_if (pt_not (pt_val (pe_call (okLawSame T 3) (hr.mono (by decide)) (by rfl) T.gLawSame T.FLawSame.kp T.bLawSame .nil pass0 (pa_cons (pe_meth (pv 0) T.clGrid T.meGrid_Shown (okGrid_Shown T) (hr.mono (by decide)) T.bGrid_Shown .nil pass0 (pa_cons (pe_tup (pa_cons (pv 5) (pa_cons (pv 6) pa_nil))) pa_nil)) (pa_cons (pe_dget2 (units2 hr) (pv 3) (pe_tup (pa_cons (pv 5) (pa_cons (pv 6) pa_nil))) (pe_lst pa_nil) ⟨rfl, rfl, rfl, rfl⟩) pa_nil)))))
              (pss_one (ps_ret pe_bl))
              pss_nil))))))))
        (pss_cons (ps_for PassesOwn.never rfl (pi_list (pe_lst (pa_cons pe_str (pa_cons pe_str (pa_cons pe_str pa_nil))))) (pg_name (i := 8) scLawSameGrid.nd rfl (Or.inl rfl))
          (pss_one (ps_if (pt_cmp (pc_din (units2 hr) (pv 8) (pv 4)))
            (pss_cons (ps_set (i := 7) scLawSameGrid.nd rfl (Or.inl rfl) (pe_methE (pv 0) T.clGrid T.meGrid_Areas (okGrid_Areas T) (hr.mono (by decide)) T.bGrid_Areas (E := fun _ _ _ _ => False) (fun _ => passN) (pa_cons (pv 8) pa_nil)))
            (pss_cons (ps_if (pt_not (pt_val (pe_call (okLawSame T 3) (hr.mono (by decide)) (by rfl) T.gLawSame T.FLawSame.kp T.bLawSame .nil pass0 (pa_cons (pv 7) (pa_cons (pe_dget (units2 hr) (pv 4) (pv 8) (fun _ _ => rfl)) pa_nil)))))
              (pss_one (ps_ret pe_bl))
              pss_nil)
            (pss_one (ps_if (pt_cmpR op_notN (pv 7) pe_non (nomark _))
              (pss_cons (ps_expr (pe_bm PySem.F.plainAttrs_list PySem.F.slot_list_append PySem.F.type_list_append mt_append (pv 7) (pa_cons (pe_tup (pa_cons pe_str pa_nil)) pa_nil)))
              (pss_one (ps_if (pt_not (pt_val (pe_call (okLawSame T 3) (hr.mono (by decide)) (by rfl) T.gLawSame T.FLawSame.kp T.bLawSame .nil pass0 (pa_cons (pe_methE (pv 0) T.clGrid T.meGrid_Areas (okGrid_Areas T) (hr.mono (by decide)) T.bGrid_Areas (E := fun _ _ _ _ => False) (fun _ => passN) (pa_cons (pv 8) pa_nil)) (pa_cons (pe_dget (units2 hr) (pv 4) (pv 8) (fun _ _ => rfl)) pa_nil)))))
                (pss_one (ps_ret pe_bl))
                pss_nil)))
              pss_nil))))
            (pss_one (L2N.ps_try_as (i := 9) rfl rfl scLawSameGrid.nd rfl rfl ⟨rfl, by decide, .inl T.gKTableError⟩ takesN (fun W pn xe tk po =>
              (pss_cons (ps_expr (pe_methE (pv 0) T.clGrid T.meGrid_Areas (okGrid_Areas T) (hr.mono (by decide)) T.bGrid_Areas (fun σ => L2N.passAt tk σ) (pa_cons (pv 8) pa_nil)))
              (pss_one (ps_ret pe_bl))))
            (fun a oe cls d pn hz hf =>
              (pss_one (ps_if (PW.pt (pw_or (pt_not (pt_val (pe_callB (cr_isX T.eKUnknownName hz.zc hf) (by rfl) T.z_isinstance (by decide +kernel) (pa_cons (pv 9) (pa_cons (pe_glob (v := .ref T.cUnknownName) rfl T.gKUnknownName rfl) pa_nil))))) (pw_or1 (pt_not (pt_val (pe_callH (E := fun _ => E0) (okHLawSame T) (roomH_mark (hr.mono (by decide)) _) (hot_of hz hf) (by rfl) T.gLawSame T.FLawSame.kp T.bLawSame (fun _ _ _ _ _ _ _ z => z.elim) (pa_cons (pe_xf T.xKUnknownName T.nKUnknownName_word hz.zc hf (pv 9)) (pa_cons (pv 8) pa_nil))))))))
                (pss_one (ps_ret pe_bl))
                pss_nil))))))))
        (pss_one (ps_ret pe_bl))))))), ?_⟩
    obtain ⟨⟨dx, hG⟩, _⟩ := id G0
    refine ⟨_, rfl, g.G, T.cGrid, dx, _, _, rfl, hG, T.clGrid, T.naGrid_rows, rfl, _, rfl, g.G, T.cGrid, dx, _, _, rfl, hG, T.clGrid, T.naGrid_columns, rfl, (by show 2 ≤ sizeLine; decide), fun l1 hl1 => ?_⟩
    have s1 := same_new (o := .lst [.int g.r, .int g.c]) hl1
    refine ⟨_, rfl, _, rfl, (by show 2 ≤ sizeLine; decide), fun l2 hl2 => ?_⟩
    have s2 := s1.trans (same_new (o := .lst [.int g.r, .int g.c]) hl2)
    have hl1b : (upd (upd H l1 (.lst [.int g.r, .int g.c])) l2 (.lst [.int g.r, .int g.c])) l1 = some (.lst [.int g.r, .int g.c]) := same_new hl2 _ _ upd_same
    refine ⟨_, _, rfl, lk_lists (ds := [.int g.r, .int g.c]) ⟨(by show 2 ≤ 100; decide), fun d hd => ?_⟩ hl1b upd_same (.cons (.int _) (.cons (.int _) .nil)) (.cons (.int _) (.cons (.int _) .nil)), _, rfl, iteF ?_⟩
    · left
      simp at hd
      rcases hd with rfl | rfl <;> rfl
    have G2 := G0.same s2
    have D2 := D0.same s2
    generalize (upd (upd H l1 (.lst [.int g.r, .int g.c])) l2 (.lst [.int g.r, .int g.c])) = H2 at s2 G2 D2
    -- the cells
    obtain ⟨⟨dx2, hG2⟩, _⟩ := id G2
    refine ⟨_, rfl, g.G, dx2, _, rfl, hG2, rfl, g, cells, names, rfl, G2, fun p1 Z1 hp1 z11 z12 z13 => ?_⟩
    have s3 := s2.trans (same_new (o := .lst (Z1.map Prod.fst)) hp1)
    have u3 : Same H2 (upd H2 p1 (.lst (Z1.map Prod.fst))) := same_new hp1
    have hp1b : (upd H2 p1 (.lst (Z1.map Prod.fst))) p1 = some (.lst (Z1.map Prod.fst)) := upd_same
    have G3 := G2.same u3
    have D3 := D2.same u3
    have t3 : ∀ z ∈ Z1, TuAt (upd H2 p1 (.lst (Z1.map Prod.fst))) z.1 z.2 := fun z hz => (z13 z hz).same u3
    generalize upd H2 p1 (.lst (Z1.map Prod.fst)) = H3 at s3 u3 hp1b G3 D3 t3
    obtain ⟨⟨kvs, hC, eC, lC⟩, _⟩ := id D3
    refine ⟨_, rfl, .inr (.inr (.inl ⟨rfl, .inr ⟨kvs, hC⟩⟩)), cd, rfl, rfl, .inl ⟨kvs, hC⟩, fun v hv => ?_⟩
    have u4 : Same H3 (upd H3 v (keysO v cd)) := same_new hv
    have s4 := s3.trans u4
    have hvb : (upd H3 v (keysO v cd)) v = some (keysO v cd) := upd_same
    have G4 := G3.same u4
    have D4 := D3.same u4
    have hp1c := u4 _ _ hp1b
    have t4 : ∀ z ∈ Z1, TuAt (upd H3 v (keysO v cd)) z.1 z.2 := fun z hz => (t3 z hz).same u4
    have hC4 := u4 _ _ hC
    generalize upd H3 v (keysO v cd) = H4 at s4 hvb G4 D4 hp1c t4 hC4
    refine ⟨v, cd, rfl, hvb, .inl ⟨kvs, hC4, fun l3 bs hl3 hk => ?_⟩⟩
    obtain ⟨zs, zf, zn, zt⟩ := keys_zip hk (ents_keys eC)
    have u5 : Same H4 (upd H4 l3 (.lst (bs.map V.ref))) := same_new hl3
    have s5 := s4.trans u5
    have hl3b : (upd H4 l3 (.lst (bs.map V.ref))) l3 = some (.lst (bs.map V.ref)) := upd_same
    have G5 := G4.same u5
    have D5 := D4.same u5
    have hp1d := u5 _ _ hp1c
    have t5 : ∀ z ∈ Z1, TuAt (upd H4 l3 (.lst (bs.map V.ref))) z.1 z.2 := fun z hz => (t4 z hz).same u5
    have zt5 : ∀ z ∈ zs, TuAt (upd H4 l3 (.lst (bs.map V.ref))) z.1 z.2 := fun z hz => (zt z hz).same u5
    generalize upd H4 l3 (.lst (bs.map V.ref)) = H5 at s5 hl3b G5 D5 hp1d t5 zt5
    obtain ⟨a1, a2, a3⟩ := zs_alike zs
    have mf : (zs.map gK).map Prod.fst = bs.map V.ref := by
      rw [← zf, List.map_map]
      rfl
    refine ⟨l3, zs.map gK, rfl, SqL.of (by rw [mf]; exact hl3b), fun b hb => ?_, a1, a2, a3, fun p2 hp2 => ?_⟩
    · obtain ⟨z, hz, rfl⟩ := List.mem_map.mp hb
      exact (zt5 z hz).dp
    obtain ⟨Z2, z21, z22, z23⟩ := sortK zs
    rw [z21]
    have u6 : Same H5 (upd H5 p2 (.lst (Z2.map Prod.fst))) := same_new hp2
    have s6 := s5.trans u6
    have hp2b : (upd H5 p2 (.lst (Z2.map Prod.fst))) p2 = some (.lst (Z2.map Prod.fst)) := upd_same
    have zp := z22.map Prod.snd
    rw [zn] at zp
    have ez : Z1.map Prod.snd = Z2.map Prod.snd := sorted_eq antiK (z11.trans zp.symm) z12 z23
    have lz1 := congrArg List.length ez
    have lz2 := zp.length_eq
    have lz3 := f.g.lc
    rw [List.length_map] at lz1 lz2
    rw [List.length_map] at lz1 lz2
    refine ⟨_, _, rfl, .inr (.inr ⟨p1, p2, _, _, rfl, rfl, u6 _ _ hp1d, hp2b, by rw [List.length_map, List.length_map]; omega, by rw [List.length_map]; omega, lk_tu ez (fun z hz => (t5 z hz).same u6) fun z hz => (zt5 z (z22.mem_iff.mp hz)).same u6⟩), _, rfl, iteF ?_⟩
    have G6 := G5.same u6
    have D6 := D5.same u6
    clear hp2b hp1d t5 zt5 hl3b a1 a2 a3 mf hk t4 zt hvb hC4 hC t3 hp1b hp1c
    generalize upd H5 p2 (.lst (Z2.map Prod.fst)) = J at s6 G6 D6
    -- the words
    obtain ⟨⟨dx6, hG6⟩, _⟩ := id G6
    refine ⟨_, rfl, g.G, dx6, _, rfl, hG6, rfl, g, cells, names, rfl, G6, fun p3 W1 hp3 w11 w12 => ?_⟩
    have u7 : Same J (upd J p3 (.lst (W1.map V.str))) := same_new hp3
    have s7 := s6.trans u7
    have hp3b : (upd J p3 (.lst (W1.map V.str))) p3 = some (.lst (W1.map V.str)) := upd_same
    have G7 := G6.same u7
    have D7 := D6.same u7
    generalize upd J p3 (.lst (W1.map V.str)) = J7 at s7 hp3b G7 D7
    obtain ⟨_, ⟨nvs, hN, eN, lN⟩⟩ := id D7
    refine ⟨_, rfl, .inr (.inr (.inl ⟨rfl, .inl ⟨nvs, hN⟩⟩)), nd, rfl, rfl, .inr ⟨nvs, hN⟩, fun v2 hv2 => ?_⟩
    have u8 : Same J7 (upd J7 v2 (keysO v2 nd)) := same_new hv2
    have s8 := s7.trans u8
    have hv2b : (upd J7 v2 (keysO v2 nd)) v2 = some (keysO v2 nd) := upd_same
    have G8 := G7.same u8
    have D8 := D7.same u8
    have hp3c := u8 _ _ hp3b
    have hN8 := u8 _ _ hN
    generalize upd J7 v2 (keysO v2 nd) = J8 at s8 hv2b G8 D8 hp3c hN8
    refine ⟨v2, nd, rfl, hv2b, .inr ⟨nvs, hN8, fun l4 hl4 => ?_⟩⟩
    have ek : (nvs.map fun kv => kV kv.1) = ((names.map Prod.fst).map sK).map Prod.fst := by
      have e1 := ents_keys eN
      have e2 : (nvs.map fun kv => kV kv.1) = (nvs.map Prod.fst).map kV := by rw [List.map_map]; rfl
      rw [e2, e1]
      simp only [List.map_map]
      rfl
    rw [ek]
    have u9 : Same J8 (upd J8 l4 (.lst (((names.map Prod.fst).map sK).map Prod.fst))) := same_new hl4
    have s9 := s8.trans u9
    have hl4b : (upd J8 l4 (.lst (((names.map Prod.fst).map sK).map Prod.fst))) l4 = some (.lst (((names.map Prod.fst).map sK).map Prod.fst)) := upd_same
    have G9 := G8.same u9
    have D9 := D8.same u9
    have hp3d := u9 _ _ hp3c
    generalize upd J8 l4 (.lst (((names.map Prod.fst).map sK).map Prod.fst)) = J9 at s9 hl4b G9 D9 hp3d
    obtain ⟨b1, b2, b3⟩ := ws_alike (names.map Prod.fst)
    refine ⟨l4, _, rfl, SqL.of hl4b, fun b hb => ?_, b1, b2, b3, fun p4 hp4 => ?_⟩
    · obtain ⟨z, hz, rfl⟩ := List.mem_map.mp hb
      exact .str _
    obtain ⟨W2, w21, w22, w23⟩ := sortS (names.map Prod.fst)
    rw [w21]
    have ew : W1 = W2 := sorted_eq antiS (w11.trans w22.symm) w12 w23
    have u10 : Same J9 (upd J9 p4 (.lst (W2.map V.str))) := same_new hp4
    have s10 := s9.trans u10
    have lw := w22.length_eq
    have lw2 := f.g.ln
    rw [List.length_map] at lw
    refine ⟨_, _, rfl, .inr (.inr ⟨p3, p4, _, _, rfl, rfl, u10 _ _ hp3d, upd_same, by rw [ew], by rw [List.length_map, ew]; omega, by rw [ew]; exact lk_strs⟩), _, rfl, iteF ?_⟩
    have G10 := G9.same u10
    have D10 := D9.same u10
    generalize upd J9 p4 (.lst (W2.map V.str)) = M at s10 G10 D10
    clear hp3d hl4b hp3c hv2b hN8 hp3b hN
    refine ⟨_, rfl, _, rfl, by omega, by omega, for_range (lo := 0) (n := g.r.toNat) (fun i σ H' => ∃ k5 k6 k7 k8 k9, σ = [some (.ref g.G), some (.int g.r), some (.int g.c), some (.ref cd), some (.ref nd), k5, k6, k7, k8, k9] ∧ Same M H') ⟨_, _, _, _, _, rfl, Same.refl _⟩ ?_ ?_⟩
    · rintro i σ H1 hi ⟨k5, k6, k7, k8, k9, rfl, m1⟩
      refine ⟨_, rfl, _, rfl, by omega, by omega, for_range (lo := 0) (n := g.c.toNat) (fun j σ H' => ∃ k6 k7 k8 k9, σ = [some (.ref g.G), some (.int g.r), some (.int g.c), some (.ref cd), some (.ref nd), some (.int (0 + (i : Int))), k6, k7, k8, k9] ∧ Same M H') ⟨_, _, _, _, rfl, m1⟩ ?_ ?_⟩
      · rintro j σ H2 hj ⟨k6, k7, k8, k9, rfl, m2⟩
        have GA := G10.same m2
        obtain ⟨⟨dxA, hGA⟩, _⟩ := id GA
        refine ⟨_, rfl, g.G, dxA, _, rfl, hGA, rfl, _, rfl, _, rfl, (by show 2 ≤ sizeLine; decide), fun ta hta => ?_⟩
        have m3 := m2.trans (same_new (o := .tup [.int (0 + (i : Int)), .int (0 + (j : Int))]) hta)
        refine ⟨g, cells, names, ta, (0 + (i : Int), 0 + (j : Int)), rfl, G10.same m3, upd_same, fun p us HB sB hpB dt hpn => ?_⟩
        have mB := m3.trans sB
        have hpM : M p = none := m3.free hpn
        have sm := smE cells names f (0 + (i : Int), 0 + (j : Int))
        have DB := D10.same mB
        obtain ⟨⟨kvB, hCB, _⟩, _⟩ := id DB
        refine ⟨_, rfl, _, rfl, cd, rfl, .inr ⟨kvB, .inl hCB⟩, _, rfl, _, rfl, (by show 2 ≤ sizeLine; decide), fun tb htb => ⟨Nat.zero_le _, fun l0 hl0 => ?_⟩⟩
        have s21 : Same HB (upd HB tb (.tup [.int (0 + (i : Int)), .int (0 + (j : Int))])) := same_new htb
        have s22 : Same (upd HB tb (.tup [.int (0 + (i : Int)), .int (0 + (j : Int))])) (upd (upd HB tb (.tup [.int (0 + (i : Int)), .int (0 + (j : Int))])) l0 (.lst [])) := same_new hl0
        have s2' := s21.trans s22
        obtain ⟨r, dg, l, ws, er, hl, dl⟩ := (DB.same s2').got (z := (0 + (i : Int), 0 + (j : Int))) (s22 _ _ upd_same) upd_same
        refine ⟨r, dg, ?_⟩
        rw [er]
        refine ⟨_, _, rfl, lk_lists sm (s2' _ _ hpB) hl (dtA_same s2' dt) dl, _, rfl, iteF ?_⟩
        have mC := mB.trans s2'
        have hpC := s2' _ _ hpB
        generalize upd (upd HB tb (.tup [.int (0 + (i : Int)), .int (0 + (j : Int))])) l0 (.lst []) = HC at mC hpC
        refine ⟨_, rfl, .inl ⟨rfl, _, SqL.of hpC⟩, (by show 2 ≤ sizeLine; decide), fun tc htc => ⟨p, _, _, rfl, rfl, same_new htc _ _ hpC, ?_, ?_⟩⟩
        · exact small1000 (by have := dt.length; have := sm.1; omega)
        · have mD : Same M (upd (upd HC tc (.tup [.str "text", .str "more"])) p (.lst (us ++ [.ref tc]))) := same_mut (mC.trans (same_new htc)) hpM
          generalize upd (upd HC tc (.tup [.str "text", .str "more"])) p (.lst (us ++ [.ref tc])) = HD at mD
          have GD2 := G10.same mD
          obtain ⟨⟨dxD, hGD⟩, _⟩ := id GD2
          refine ⟨_, rfl, g.G, dxD, _, rfl, hGD, rfl, _, rfl, _, rfl, (by show 2 ≤ sizeLine; decide), fun td htd => ?_⟩
          have m6 := mD.trans (same_new (o := .tup [.int (0 + (i : Int)), .int (0 + (j : Int))]) htd)
          refine ⟨g, cells, names, td, (0 + (i : Int), 0 + (j : Int)), rfl, G10.same m6, upd_same, fun p5 us5 HE sE hpE dt5 hpn5 => ?_⟩
          have mE := m6.trans sE
          have DE := D10.same mE
          obtain ⟨⟨kvE, hCE, _⟩, _⟩ := id DE
          refine ⟨_, rfl, cd, rfl, .inr ⟨kvE, .inl hCE⟩, _, rfl, _, rfl, (by show 2 ≤ sizeLine; decide), fun te hte => ⟨Nat.zero_le _, fun l9 hl9 => ?_⟩⟩
          have s31 : Same HE (upd HE te (.tup [.int (0 + (i : Int)), .int (0 + (j : Int))])) := same_new hte
          have s32 : Same (upd HE te (.tup [.int (0 + (i : Int)), .int (0 + (j : Int))])) (upd (upd HE te (.tup [.int (0 + (i : Int)), .int (0 + (j : Int))])) l9 (.lst [])) := same_new hl9
          have s3' := s31.trans s32
          obtain ⟨r5, dg5, l5, ws5, er5, hl5, dl5⟩ := (DE.same s3').got (z := (0 + (i : Int), 0 + (j : Int))) (s32 _ _ upd_same) upd_same
          refine ⟨r5, dg5, ?_⟩
          rw [er5]
          refine ⟨_, _, rfl, lk_lists sm (s3' _ _ hpE) hl5 (dtA_same s3' dt5) dl5, _, rfl, iteF ?_⟩
          exact ⟨_, _, _, _, rfl, mE.trans s3'⟩
      · rintro σ H2 ⟨k6, k7, k8, k9, rfl, m2⟩
        exact ⟨_, _, _, _, _, rfl, m2⟩
    · rintro σ H1 ⟨k5, k6, k7, k8, k9, rfl, m1⟩
      have G11 := G10.same m1
      have D11 := D10.same m1
      have s11 := s10.trans m1
      clear m1 G10 D10
      clear s10
      generalize H1 = N at G11 D11 s11
      refine ⟨(by show 3 ≤ sizeLine; decide), fun ll hll => ?_⟩
      have hLL : (upd N ll (.lst [.str "ab", .str "cd", .str "ef"])) ll = some (.lst [.str "ab", .str "cd", .str "ef"]) := upd_same
      have uL : Same N (upd N ll (.lst [.str "ab", .str "cd", .str "ef"])) := same_new hll
      have G12 := G11.same uL
      have D12 := D11.same uL
      have s12 := s11.trans uL
      generalize upd N ll (.lst [.str "ab", .str "cd", .str "ef"]) = N1 at hLL uL G12 D12 s12
      refine ⟨ll, rfl, ⟨_, SqL.of hLL⟩, for_it (walk_list (a := ll) (xs := [.str "ab", .str "cd", .str "ef"])) (fun i σ H' => ∃ k5 k6 k7 k8 k9, σ = [some (.ref g.G), some (.int g.r), some (.int g.c), some (.ref cd), some (.ref nd), k5, k6, k7, k8, k9] ∧ Same N1 H') ⟨_, _, _, _, _, rfl, Same.refl _⟩ (fun i σ H' _ ⟨_, _, _, _, _, _, m⟩ => m.seq (SqL.of hLL)) ?_ ?_⟩
      · rintro i x σ H2 H3 hi ⟨k5, k6, k7, k8, k9, rfl, m2⟩ ⟨rfl, hx⟩
        obtain ⟨w, rfl⟩ : ∃ w : Str, x = .str w := by
          match i, hi with
          | 0, _ => exact ⟨_, (Option.some.inj hx).symm⟩
          | 1, _ => exact ⟨_, (Option.some.inj hx).symm⟩
          | 2, _ => exact ⟨_, (Option.some.inj hx).symm⟩
        have GA := G12.same m2
        have DA := D12.same m2
        obtain ⟨⟨dxA, hGA⟩, _⟩ := id GA
        cases hg : getE names w with
        | some b =>
          have sm : ∀ ds, b = some ds → Sm ds := fun ds e => f.n _ (getE_key hg) ds e
          obtain ⟨v0, dg0, _⟩ := DA.gotN hg
          refine ⟨_, rfl, _, rfl, nd, _, rfl, dg0, _, rfl, iteT ?_⟩
          refine ⟨_, rfl, g.G, dxA, _, rfl, hGA, rfl, _, rfl, ?_⟩
          dsimp only [tNil]
          refine area_of GA hg fun v1 J2 sv nv => ?_
          have DB := DA.same sv
          obtain ⟨v2, dg2, nv2⟩ := DB.gotN hg
          refine ⟨_, rfl, _, rfl, _, rfl, nd, v2, rfl, dg2, _, _, rfl, lk_new nv (Same.refl _) nv2 sm, _, rfl, iteF ?_⟩
          have mB := m2.trans sv
          cases b with
          | none =>
            obtain rfl := nv
            refine ⟨_, rfl, rfl, _, rfl, ite2 (fun c => ?_) (fun _ => ?_)⟩
            · rw [decide_eq_true rfl] at c
              cases c
            · exact ⟨_, _, _, _, _, rfl, mB⟩
          | some ds =>
            obtain ⟨p, us, rfl, hpn, hp, dt⟩ := id nv
            refine ⟨_, rfl, rfl, _, rfl, ite2 (fun _ => ?_) (fun c => ?_)⟩
            · have hpM : N1 p = none := m2.free hpn
              refine ⟨_, rfl, .inl ⟨rfl, _, SqL.of hp⟩, (by show 1 ≤ sizeLine; decide), fun tc htc => ⟨p, _, _, rfl, rfl, same_new htc _ _ hp, small1000 (by have := dt.length; have := (sm _ rfl).1; omega), ?_⟩⟩
              have mD : Same N1 (upd (upd J2 tc (.tup [.str "gone"])) p (.lst (us ++ [.ref tc]))) := same_mut (mB.trans (same_new htc)) hpM
              generalize upd (upd J2 tc (.tup [.str "gone"])) p (.lst (us ++ [.ref tc])) = HD at mD
              have GD2 := G12.same mD
              obtain ⟨⟨dxD, hGD⟩, _⟩ := id GD2
              refine ⟨_, rfl, g.G, dxD, _, rfl, hGD, rfl, _, rfl, ?_⟩
              dsimp only [tNil]
              refine area_of GD2 hg fun v5 J5 s5 nv5 => ?_
              obtain ⟨v6, dg6, nv6⟩ := (D12.same (mD.trans s5)).gotN hg
              exact ⟨_, rfl, _, rfl, nd, v6, rfl, dg6, _, _, rfl, lk_new nv5 (Same.refl _) nv6 sm, _, rfl, iteF ⟨_, _, _, _, _, rfl, mD.trans s5⟩⟩
            · rw [decide_eq_false (by intro z; cases z)] at c
              exact absurd rfl c
        | none =>
          refine ⟨_, rfl, _, rfl, nd, _, rfl, DA.goneN hg, _, rfl, iteF ?_⟩
          refine ⟨_, rfl, g.G, dxA, _, rfl, hGA, rfl, _, rfl, ?_⟩
          dsimp only [tNil]
          refine ⟨g, cells, names, w, rfl, GA, fun _ d hd => ?_, fun e => ?_, fun ds e => ?_⟩
          · refine ⟨true, T.mKUnknownName_TableError, fun _ a ha => ?_, fun z => nomatch z⟩
            have mE := m2.trans (same_new (o := .xd [("word", .str w)]) hd)
            refine ⟨_, rfl, T.cUnknownName, d, _, true, rfl, rfl, rfl, upd_same, T.kKUnknownName_UnknownName, _, rfl, iteF ⟨_, rfl, rfl, rfl, d, _, _, rfl, upd_same, rfl, _, rfl, _, _, rfl, ⟨rfl, trivial⟩, _, rfl, iteF ?_⟩⟩
            exact ⟨_, _, _, _, _, rfl, mE⟩
          · rw [hg] at e
            cases e
          · rw [hg] at e
            cases e
      · rintro σ H2 ⟨k5, k6, k7, k8, k9, rfl, m2⟩
        exact q _ (s12.trans m2)
theorem Box.some_ {H : Hp} {b : Addr} (B : Box H b) : H b ≠ none := by
  obtain ⟨d, ds, i, h, _⟩ := B
  rw [h]
  exact fun z => nomatch z
theorem Kp.free {b p : Addr} {H H' : Hp} (k : Kp b H H') (B : Box H' b) (h : H' p = none) : H p = none := by
  cases e : H p with
  | none => rfl
  | some o =>
    have n : p ≠ b := fun z => B.some_ (by rw [← z]; exact h)
    rw [k p o n e] at h
    cases h
def textD (s : Str) : PyData := .tuple [.str "text", .str s]
def blankT : PyData := .tuple [.str "blank"]
theorem tiny_text (s : Str) (n : Nat) : tiny (n + 1) (textD s) := .inr ⟨_, rfl, (by show 2 ≤ 100; decide), fun x hx => by
  simp at hx
  rcases hx with rfl | rfl <;> (cases n with
    | zero => rfl
    | succ n => exact .inl rfl)⟩
theorem tiny_blank (n : Nat) : tiny (n + 1) blankT := .inr ⟨_, rfl, (by show 1 ≤ 100; decide), fun x hx => by
  simp at hx
  rcases hx with rfl
  cases n with
  | zero => rfl
  | succ n => exact .inl rfl⟩
theorem sm_blank : Sm [blankT] := ⟨(by show 1 ≤ 100; decide), fun d hd => by
  rw [List.mem_singleton.mp hd]
  exact tiny_blank 1⟩
theorem sm_two : Sm [textD "a", blankT] := ⟨(by show 2 ≤ 100; decide), fun d hd => by
  rcases List.mem_cons.mp hd with rfl | hd
  · exact tiny_text _ 1
  · rw [List.mem_singleton.mp hd]
    exact tiny_blank 1⟩
theorem sm_text (s : Str) : Sm [textD s] := ⟨(by show 1 ≤ 100; decide), fun d hd => by
  rw [List.mem_singleton.mp hd]
  exact tiny_text _ 1⟩
theorem sm_number (y : Int) : Sm [.tuple [.str "number", .tuple [.int y, .int 1]], textD "b"] := ⟨(by show 2 ≤ 100; decide), fun d hd => by
  rcases List.mem_cons.mp hd with rfl | hd
  · refine .inr ⟨_, rfl, (by show 2 ≤ 100; decide), fun x hx => ?_⟩
    simp at hx
    rcases hx with rfl | rfl
    · exact .inl rfl
    · refine .inr ⟨_, rfl, (by show 2 ≤ 100; decide), fun x hx => ?_⟩
      simp at hx
      rcases hx with rfl | rfl <;> rfl
  · rw [List.mem_singleton.mp hd]
    exact tiny_text _ 1⟩
theorem sh_number (y : Int) : SeqAt.shaped (.list [.tuple [.str "number", .tuple [.int y, .int 1]], textD "b"]) = true := by
  have h1 : PyData.strOk "number" = true := by decide +kernel
  have h2 : PyData.strOk "text" = true := by decide +kernel
  have h3 : PyData.strOk "b" = true := by decide +kernel
  simp [SeqAt.shaped, PyData.canLay0, PyData.canLayAll0, PyData.depth, PyData.depthAll, textD, h1, h2, h3]
def Lit (K : PySem.W.Frag) (b : Addr) (H : Hp) (Q : VK) : Prop := ∀ (L : Addr) (us : List V) (ds : List PyData) (H' : Hp), Kp b H H' → Box H' b → H L = none → H' L = some (.lst us) → DtAll H' us ds → SeqAt.shaped (.list ds) = true → Sm ds → Q (.ref L) H'
def spShL (K : PySem.W.Frag) : Sp := fun vs H Q _ => ∃ (b : Addr), vs = [.ref b] ∧ Box H b ∧ Lit K b H Q
theorem okLawShown (T : Txt K mg) : FnOk P w K mg base CX0 2 T.fLawShown T.fdLawShown ["box"] (spShL K) := by
  refine T.FLawShown.ok scLawShown (fun vs H Q E h => ?_) (fun cdv A outer s H vs Q E hr h => ?_)
  · obtain ⟨b, rfl, _⟩ := h
    rfl
  · obtain ⟨b, rfl, B, q⟩ := h
    -- slots box=0 kind=1
    refine ⟨_, (pss_cons (ps_set (i := 1) scLawShown.nd rfl (Or.inl rfl) (pe_call (okLawDraw T) (hr.mono (by decide)) (by rfl) T.gLawDraw T.FLawDraw.kp T.bLawDraw .nil pass0 (pa_cons (pv 0) (pa_cons pe_int pa_nil))))
        (pss_cons (ps_if (pt_cmpR op_eq (pv 1) pe_int (nomark _))
          (pss_one (ps_ret (pe_lst pa_nil)))
          pss_nil)
        (pss_cons (ps_if (pt_cmpR op_eq (pv 1) pe_int (nomark _))
          (pss_one (ps_ret (pe_lst (pa_cons (pe_tup (pa_cons pe_str pa_nil)) pa_nil))))
          pss_nil)
        (pss_cons (ps_if (pt_cmpR op_eq (pv 1) pe_int (nomark _))
          (pss_one (ps_ret (pe_lst (pa_cons (pe_tup (pa_cons pe_str (pa_cons pe_str pa_nil))) (pa_cons (pe_tup (pa_cons pe_str pa_nil)) pa_nil)))))
          pss_nil)
        (pss_cons (ps_if (pt_cmpR op_eq (pv 1) pe_int (nomark _))
          (pss_one (ps_ret (pe_lst (pa_cons (pe_tup (pa_cons pe_str (pa_cons (pe_tup (pa_cons (pe_call (okLawDraw T) (hr.mono (by decide)) (by rfl) T.gLawDraw T.FLawDraw.kp T.bLawDraw .nil pass0 (pa_cons (pv 0) (pa_cons pe_int pa_nil))) (pa_cons pe_int pa_nil))) pa_nil))) (pa_cons (pe_tup (pa_cons pe_str (pa_cons pe_str pa_nil))) pa_nil)))))
          pss_nil)
        (pss_one (ps_ret (pe_lst (pa_cons (pe_tup (pa_cons pe_str (pa_cons (pe_ix ix_list (pe_lst (pa_cons pe_str (pa_cons pe_str (pa_cons pe_str pa_nil)))) (pe_call (okLawDraw T) (hr.mono (by decide)) (by rfl) T.gLawDraw T.FLawDraw.kp T.bLawDraw .nil pass0 (pa_cons (pv 0) (pa_cons pe_int pa_nil))) (fun _ _ => rfl)) pa_nil))) pa_nil))))))))), ?_⟩
    refine ⟨_, rfl, b, _, rfl, (by decide), B, fun x H1 x0 x1 B1 k1 => ?_⟩
    refine ⟨_, rfl, rfl, _, rfl, ite2 (fun _ => ?_) (fun _ => ?_)⟩
    · refine ⟨Nat.zero_le _, fun L hL => ?_⟩
      exact q L [] [] _ (k1.trans (Kp.of (same_new hL))) (B1.same (same_new hL)) (k1.free B1 hL) upd_same .nil (by decide +kernel) ⟨Nat.zero_le _, fun _ h => nomatch h⟩
    refine ⟨_, rfl, rfl, _, rfl, ite2 (fun _ => ?_) (fun _ => ?_)⟩
    · refine ⟨(by show 1 ≤ sizeLine; decide), fun t ht => ⟨(by show 1 ≤ sizeLine; decide), fun L hL => ?_⟩⟩
      have s2 := (same_new (o := .tup [.str "blank"]) ht).trans (same_new (o := .lst [.ref t]) hL)
      have ht2 : (upd (upd H1 t (.tup [.str "blank"])) L (.lst [.ref t])) t = some (.tup [.str "blank"]) := same_new hL _ _ upd_same
      exact q L [.ref t] [blankT] _ (k1.trans (Kp.of s2)) (B1.same s2) (k1.free B1 ((same_new ht).free hL)) upd_same (.cons (.tup ht2 (.cons (.str _) .nil)) .nil) (by decide +kernel) sm_blank
    refine ⟨_, rfl, rfl, _, rfl, ite2 (fun _ => ?_) (fun _ => ?_)⟩
    · refine ⟨(by show 2 ≤ sizeLine; decide), fun t ht => ⟨(by show 1 ≤ sizeLine; decide), fun u hu => ⟨(by show 2 ≤ sizeLine; decide), fun L hL => ?_⟩⟩⟩
      have s1 := same_new (o := .tup [.str "text", .str "a"]) ht
      have s2 := s1.trans (same_new (o := .tup [.str "blank"]) hu)
      have s3 := s2.trans (same_new (o := .lst [.ref t, .ref u]) hL)
      exact q L [.ref t, .ref u] [textD "a", blankT] _ (k1.trans (Kp.of s3)) (B1.same s3) (k1.free B1 (s2.free hL)) upd_same (.cons (.tup (same_new hL _ _ (same_new hu _ _ upd_same)) (.cons (.str _) (.cons (.str _) .nil))) (.cons (.tup (same_new hL _ _ upd_same) (.cons (.str _) .nil)) .nil)) (by decide +kernel) sm_two
    refine ⟨_, rfl, rfl, _, rfl, ite2 (fun _ => ?_) (fun _ => ?_)⟩
    · refine ⟨_, rfl, b, _, rfl, (by decide), B1, fun y H2 y0 y1 B2 k2 => ?_⟩
      have k12 := k1.trans k2
      refine ⟨(by show 2 ≤ sizeLine; decide), fun t ht => ⟨(by show 2 ≤ sizeLine; decide), fun u hu => ⟨(by show 2 ≤ sizeLine; decide), fun v hv => ⟨(by show 2 ≤ sizeLine; decide), fun L hL => ?_⟩⟩⟩⟩
      have s1 := same_new (o := .tup [.int y, .int 1]) ht
      have s2 := s1.trans (same_new (o := .tup [.str "number", .ref t]) hu)
      have s3 := s2.trans (same_new (o := .tup [.str "text", .str "b"]) hv)
      have s4 := s3.trans (same_new (o := .lst [.ref u, .ref v]) hL)
      exact q L [.ref u, .ref v] [.tuple [.str "number", .tuple [.int y, .int 1]], textD "b"] _ (k12.trans (Kp.of s4)) (B2.same s4) (k12.free B2 (s3.free hL)) upd_same
        (.cons (.tup (same_new hL _ _ (same_new hv _ _ upd_same)) (.cons (.str _) (.cons (.tup (same_new hL _ _ (same_new hv _ _ (same_new hu _ _ upd_same))) (.cons (.int _) (.cons (.int _) .nil))) .nil))) (.cons (.tup (same_new hL _ _ upd_same) (.cons (.str _) (.cons (.str _) .nil))) .nil)) (sh_number y) (sm_number y)
    refine ⟨(by show 3 ≤ sizeLine; decide), fun w hw => ?_⟩
    have sw := same_new (o := .lst [.str "a", .str "b", .str "c"]) hw
    have hw2 : (upd H1 w (.lst [.str "a", .str "b", .str "c"])) w = some (.lst [.str "a", .str "b", .str "c"]) := upd_same
    have nwb : w ≠ b := fun z => B1.some_ (by rw [← z]; exact hw)
    refine ⟨_, rfl, b, _, rfl, (by decide), B1.same sw, fun y H2 y0 y1 B2 k2 => ?_⟩
    obtain ⟨n, rfl⟩ := Int.eq_ofNat_of_zero_le y0
    have hn : n < 3 := by omega
    obtain ⟨s, hs, sh⟩ : ∃ s : Str, [V.str "a", .str "b", .str "c"][n]? = some (.str s) ∧ SeqAt.shaped (.list [textD s]) = true := by
      match n, hn with
      | 0, _ => exact ⟨_, rfl, by decide +kernel⟩
      | 1, _ => exact ⟨_, rfl, by decide +kernel⟩
      | 2, _ => exact ⟨_, rfl, by decide +kernel⟩
    have k12 := (k1.trans (Kp.of sw)).trans k2
    refine ⟨w, _, _, _, rfl, rfl, SqL.of (k2 _ _ nwb hw2), atI_nat hs, ?_⟩
    refine ⟨(by show 2 ≤ sizeLine; decide), fun t ht => ⟨(by show 1 ≤ sizeLine; decide), fun L hL => ?_⟩⟩
    have s1 := same_new (o := .tup [.str "text", .str s]) ht
    have s2 := s1.trans (same_new (o := .lst [.ref t]) hL)
    exact q L [.ref t] [textD s] _ (k12.trans (Kp.of s2)) (B2.same s2) (k12.free B2 (s1.free hL)) upd_same (.cons (.tup (same_new hL _ _ upd_same) (.cons (.str _) (.cons (.str _) .nil))) .nil) sh (sm_text s)
def goneT : PyData := .tuple [.str "gone"]
def blockT : PyData := .tuple [.str "block", .int 0, .int 0, .int 0, .int 0]
theorem tiny_gone (n : Nat) : tiny (n + 1) goneT := .inr ⟨_, rfl, (by show 1 ≤ 100; decide), fun x hx => by
  simp at hx
  rcases hx with rfl
  cases n with
  | zero => rfl
  | succ n => exact .inl rfl⟩
theorem tiny_block (n : Nat) : tiny (n + 1) blockT := .inr ⟨_, rfl, (by show 5 ≤ 100; decide), fun x hx => by
  simp at hx
  rcases hx with rfl | rfl <;> (cases n with
    | zero => rfl
    | succ n => exact .inl rfl)⟩
theorem sm_gone : Sm [goneT] := ⟨(by show 1 ≤ 100; decide), fun d hd => by
  rw [List.mem_singleton.mp hd]
  exact tiny_gone 1⟩
def areasD (k m : Nat) : List PyData := List.replicate k blockT ++ List.replicate m goneT
theorem areas_ok {k m : Nat} (hk : k = 1 ∨ k = 2) (hm : m = 0 ∨ m = 1) : SeqAt.shaped (.list (areasD k m)) = true ∧ Sm (areasD k m) := by
  refine ⟨?_, ?_, fun d hd => ?_⟩
  · rcases hk with rfl | rfl <;> rcases hm with rfl | rfl <;> decide +kernel
  · unfold areasD
    rw [List.length_append, List.length_replicate, List.length_replicate]
    omega
  · rcases List.mem_append.mp hd with h | h
    · rw [(List.mem_replicate.mp h).2]
      exact tiny_block 1
    · rw [(List.mem_replicate.mp h).2]
      exact tiny_gone 1
theorem DtAll.append {H : Hp} : ∀ {vs ws : List V} {ds es : List PyData}, DtAll H vs ds → DtAll H ws es → DtAll H (vs ++ ws) (ds ++ es)
  | _, _, _, _, .nil, h => h
  | _, _, _, _, .cons x r, h => .cons x (r.append h)
theorem dt_rep {H : Hp} {v : V} {d : PyData} (h : Dt H v d) : ∀ k : Nat, DtAll H (List.replicate k [v]).flatten (List.replicate k d)
  | 0 => .nil
  | k + 1 => by
    rw [List.replicate_succ, List.replicate_succ, List.flatten_cons]
    exact .cons h (dt_rep h k)
def LitA (K : PySem.W.Frag) (b : Addr) (H : Hp) (Q : VK) : Prop := (∀ H', Kp b H H' → Box H' b → Q .non H') ∧ Lit K b H Q
def spArL (K : PySem.W.Frag) : Sp := fun vs H Q _ => ∃ (b : Addr) (e : Bool), vs = [.ref b, .bl e] ∧ Box H b ∧ LitA K b H Q
theorem okLawAreas (T : Txt K mg) : FnOk P w K mg base CX0 2 T.fLawAreas T.fdLawAreas ["box", "empty"] (spArL K) := by
  refine T.FLawAreas.ok scLawAreas (fun vs H Q E h => ?_) (fun cdv A outer s H vs Q E hr h => ?_)
  · obtain ⟨b, e, rfl, _⟩ := h
    rfl
  · obtain ⟨b, e, rfl, B, qn, q⟩ := h
    -- slots box=0 empty=1 kind=2
    refine ⟨_, (pss_cons (ps_set (i := 2) scLawAreas.nd rfl (Or.inl rfl) (pe_call (okLawDraw T) (hr.mono (by decide)) (by rfl) T.gLawDraw T.FLawDraw.kp T.bLawDraw .nil pass0 (pa_cons (pv 0) (pa_cons pe_int pa_nil))))
        (pss_cons (ps_if (pt_cmpR op_eq (pv 2) pe_int (nomark _))
          (pss_one (ps_ret pe_non))
          pss_nil)
        (pss_cons (ps_if (PW.pt (pw_or (pt_cmpR op_eq (pv 2) pe_int (nomark _)) (pw_or1 (pt_val (pv 1)))))
          (pss_one (ps_ret (pe_lst (pa_cons (pe_tup (pa_cons pe_str pa_nil)) pa_nil))))
          pss_nil)
        (pss_one (ps_ret (pe_op op_cat (pe_op op_rep (pe_lst (pa_cons (pe_tup (pa_cons pe_str (pa_cons pe_int (pa_cons pe_int (pa_cons pe_int (pa_cons pe_int pa_nil)))))) pa_nil)) (pe_op op_add pe_int (pe_call (okLawDraw T) (hr.mono (by decide)) (by rfl) T.gLawDraw T.FLawDraw.kp T.bLawDraw .nil pass0 (pa_cons (pv 0) (pa_cons pe_int pa_nil))))) (pe_op op_rep (pe_lst (pa_cons (pe_tup (pa_cons pe_str pa_nil)) pa_nil)) (pe_op op_sub (pv 2) pe_int)))))))), ?_⟩
    refine ⟨_, rfl, b, _, rfl, (by decide), B, fun x H1 x0 x1 B1 k1 => ?_⟩
    refine ⟨_, rfl, rfl, _, rfl, ite2 (fun _ => ?_) (fun c0 => ?_)⟩
    · exact qn _ k1 B1
    have one : ∀ H2, Same H1 H2 → tRet (tLst (tCons (tTup (tCons (tC (V.str "gone")) tNil)) tNil)) { nx := fun _ H' => Q V.non H', rt := Q } (List.set (L2.start ["box", "empty", "kind"] [V.ref b, V.bl e]) 2 (some (V.int x))) H1 := fun H2 _ => by
      refine ⟨(by show 1 ≤ sizeLine; decide), fun t ht => ⟨(by show 1 ≤ sizeLine; decide), fun L hL => ?_⟩⟩
      have s1 := same_new (o := .tup [.str "gone"]) ht
      have s2 := s1.trans (same_new (o := .lst [.ref t]) hL)
      exact q L [.ref t] [goneT] _ (k1.trans (Kp.of s2)) (B1.same s2) (k1.free B1 (s1.free hL)) upd_same (.cons (.tup (same_new hL _ _ upd_same) (.cons (.str _) .nil)) .nil) (by decide +kernel) sm_gone
    refine ⟨_, rfl, rfl, _, rfl, ite2 (fun _ => one H1 (Same.refl _)) (fun c1 => ⟨_, rfl, _, rfl, ite2 (fun _ => one H1 (Same.refl _)) (fun _ => ?_)⟩)⟩
    refine ⟨(by show 5 ≤ sizeLine; decide), fun t ht => ⟨(by show 1 ≤ sizeLine; decide), fun l1 hl1 => ?_⟩⟩
    have s1 := same_new (o := .tup [.str "block", .int 0, .int 0, .int 0, .int 0]) ht
    have s2 := s1.trans (same_new (o := .lst [.ref t]) hl1)
    have ht2 : (upd (upd H1 t (.tup [.str "block", .int 0, .int 0, .int 0, .int 0])) l1 (.lst [.ref t])) t = some (.tup [.str "block", .int 0, .int 0, .int 0, .int 0]) := same_new hl1 _ _ upd_same
    have hl2 : (upd (upd H1 t (.tup [.str "block", .int 0, .int 0, .int 0, .int 0])) l1 (.lst [.ref t])) l1 = some (.lst [.ref t]) := upd_same
    have n1 : l1 ≠ b := fun z => (B1.same s1).some_ (by rw [← z]; exact hl1)
    have n0 : t ≠ b := fun z => B1.some_ (by rw [← z]; exact ht)
    refine ⟨_, rfl, b, _, rfl, (by decide), B1.same s2, fun y H2 y0 y1 B2 k2 => ?_⟩
    have k12 := (k1.trans (Kp.of s2)).trans k2
    have ht3 := k2 _ _ n0 ht2
    have hl3 := k2 _ _ n1 hl2
    obtain ⟨k, hk, ek⟩ : ∃ k : Nat, (k = 1 ∨ k = 2) ∧ (1 + y).toNat = k := ⟨_, by omega, rfl⟩
    refine ⟨_, _, rfl, rfl, l1, _, _, rfl, rfl, hl3, by omega, by omega, (by rw [ek]; show 1 * k ≤ sizeLine; exact Nat.le_trans (by omega) (show 2 ≤ sizeLine by decide)), fun p hp => ?_⟩
    rw [ek]
    have e0 : x ≠ 0 := fun z => c0 (decide_eq_true (by rw [z]))
    have e1 : x ≠ 1 := fun z => c1 (decide_eq_true (by rw [z]))
    have s3 := same_new (o := .lst (List.replicate k [V.ref t]).flatten) hp
    have hp3 : (upd H2 p (.lst (List.replicate k [V.ref t]).flatten)) p = some (.lst (List.replicate k [V.ref t]).flatten) := upd_same
    have ht4 := s3 _ _ ht3
    have k13 := k12.trans (Kp.of s3)
    have B3 := B2.same s3
    generalize upd H2 p (.lst (List.replicate k [V.ref t]).flatten) = H3 at hp3 ht4 k13 B3
    refine ⟨(by show 1 ≤ sizeLine; decide), fun u hu => ⟨(by show 1 ≤ sizeLine; decide), fun l2 hl5 => ?_⟩⟩
    have s4 := same_new (o := .tup [.str "gone"]) hu
    have s5 := s4.trans (same_new (o := .lst [.ref u]) hl5)
    have hu5 : (upd (upd H3 u (.tup [.str "gone"])) l2 (.lst [.ref u])) u = some (.tup [.str "gone"]) := same_new hl5 _ _ upd_same
    have hl6 : (upd (upd H3 u (.tup [.str "gone"])) l2 (.lst [.ref u])) l2 = some (.lst [.ref u]) := upd_same
    have hp5 := s5 _ _ hp3
    have ht5 := s5 _ _ ht4
    have k14 := k13.trans (Kp.of s5)
    have B4 := B3.same s5
    generalize upd (upd H3 u (.tup [.str "gone"])) l2 (.lst [.ref u]) = H4 at hu5 hl6 hp5 ht5 k14 B4
    obtain ⟨m, hm, em⟩ : ∃ m : Nat, (m = 0 ∨ m = 1) ∧ (x - 2).toNat = m := ⟨_, by omega, rfl⟩
    refine ⟨_, rfl, _, _, rfl, rfl, l2, _, _, rfl, rfl, hl6, by omega, by omega, (by rw [em]; show 1 * m ≤ sizeLine; exact Nat.le_trans (by omega) (show 2 ≤ sizeLine by decide)), fun p2 hp2 => ?_⟩
    rw [em]
    have s6 := same_new (o := .lst (List.replicate m [V.ref u]).flatten) hp2
    have lk1 : (List.replicate k [V.ref t]).flatten.length = k := by simp
    have lm1 : (List.replicate m [V.ref u]).flatten.length = m := by simp
    refine ⟨p, p2, _, _, rfl, rfl, s6 _ _ hp5, upd_same, (by rw [lk1, lm1]; exact Nat.le_trans (by omega) (show 3 ≤ sizeLine by decide)), fun L hL => ?_⟩
    have s7 := s6.trans (same_new (o := .lst ((List.replicate k [V.ref t]).flatten ++ (List.replicate m [V.ref u]).flatten)) hL)
    obtain ⟨g1, g2⟩ := areas_ok hk hm
    have d0 := DtAll.append (dt_rep (H := H4) (v := .ref t) (d := blockT) (.tup ht5 (.cons (.str _) (.cons (.int _) (.cons (.int _) (.cons (.int _) (.cons (.int _) .nil)))))) k) (dt_rep (v := .ref u) (d := goneT) (.tup hu5 (.cons (.str _) .nil)) m)
    exact q L _ (areasD k m) _ (k14.trans (Kp.of s7)) (B4.same s7) (k14.free B4 (s6.free hL)) upd_same (dtA_same s7 d0) g1 g2
/-! ### one deed -/
section
variable {κ β : Type} [DecidableEq κ]
theorem mem_putE {D : List (κ × β)} {k : κ} {v : β} {e : κ × β} (h : e ∈ putE D k v) : e = (k, v) ∨ e ∈ D := by
  unfold putE at h
  split at h
  · obtain ⟨d, hd, rfl⟩ := List.mem_map.mp h
    by_cases z : d.1 = k
    · rw [if_pos z]
      exact .inl (by rw [← z])
    · rw [if_neg z]
      exact .inr hd
  · rcases List.mem_append.mp h with h | h
    · exact .inr h
    · exact .inl (List.mem_singleton.mp h)
theorem putE_keys {D : List (κ × β)} {k : κ} {v : β} (nd : (D.map Prod.fst).Nodup) : ((putE D k v).map Prod.fst).Nodup := by
  unfold putE
  split
  · rw [List.map_map]
    have : (D.map (Prod.fst ∘ fun e => if e.1 = k then (e.1, v) else e)) = D.map Prod.fst := List.map_congr_left fun e _ => by
      show (if e.1 = k then (e.1, v) else e).1 = e.1
      split <;> rfl
    rw [this]
    exact nd
  · rename_i c
    rw [List.map_append, List.nodup_append]
    refine ⟨nd, by simp, fun a ha b hb => ?_⟩
    have hb : b = k := by simpa using hb
    rw [hb]
    intro z
    obtain ⟨e, he, rfl⟩ := List.mem_map.mp ha
    exact c (List.any_eq_true.mpr ⟨e, he, decide_eq_true z⟩)
theorem putE_len (D : List (κ × β)) (k : κ) (v : β) : (putE D k v).length ≤ D.length + 1 := by
  unfold putE
  split
  · rw [List.length_map]
    omega
  · rw [List.length_append]
    exact Nat.le_refl _
theorem dropE_keys {D : List (κ × β)} {k : κ} (nd : (D.map Prod.fst).Nodup) : ((dropE D k).map Prod.fst).Nodup := nd.sublist (List.filter_sublist.map _)
theorem dropE_len (D : List (κ × β)) (k : κ) : (dropE D k).length ≤ D.length := List.length_filter_le _ _
theorem mem_dropE {D : List (κ × β)} {k : κ} {e : κ × β} (h : e ∈ dropE D k) : e ∈ D := (List.mem_filter.mp h).1
theorem putE_putE {D : List (κ × β)} {k : κ} {u v : β} : putE (putE D k u) k v = putE D k v := by
  by_cases c : (D.any fun e => decide (e.1 = k)) = true
  · have e1 : putE D k u = D.map (fun e => if e.1 = k then (e.1, u) else e) := if_pos c
    have e2 : putE D k v = D.map (fun e => if e.1 = k then (e.1, v) else e) := if_pos c
    have c2 : ((D.map (fun e => if e.1 = k then (e.1, u) else e)).any fun e => decide (e.1 = k)) = true := by
      obtain ⟨e, he, z⟩ := List.any_eq_true.mp c
      have z := of_decide_eq_true z
      exact List.any_eq_true.mpr ⟨_, List.mem_map.mpr ⟨e, he, rfl⟩, by rw [if_pos z]; exact decide_eq_true z⟩
    rw [e1, e2]
    unfold putE
    rw [if_pos c2, List.map_map]
    refine List.map_congr_left fun e _ => ?_
    show (if (if e.1 = k then (e.1, u) else e).1 = k then ((if e.1 = k then (e.1, u) else e).1, v) else (if e.1 = k then (e.1, u) else e)) = _
    by_cases z : e.1 = k
    · rw [if_pos z, if_pos z, if_pos z]
    · rw [if_neg z, if_neg z]
  · have no : ∀ e ∈ D, e.1 ≠ k := fun e he z => c (List.any_eq_true.mpr ⟨e, he, decide_eq_true z⟩)
    rw [putE_new no, putE_new no]
    unfold putE
    rw [if_pos (List.any_eq_true.mpr ⟨(k, u), by simp, decide_eq_true rfl⟩), List.map_append]
    have e1 : D.map (fun e => if e.1 = k then (e.1, v) else e) = D := by
      conv => rhs; rw [← List.map_id D]
      exact List.map_congr_left fun e he => by rw [if_neg (no e he)]; rfl
    rw [e1]
    simp
end
theorem Fn.cell {cells : Cells} {names : Names} {n : Nat} (f : Fn cells names) {z : Int × Int} {ds : List PyData} (sh : SeqAt.shaped (.list ds) = true) (sm : Sm ds) (hn : cells.length ≤ n) (h8 : n < 800) : Fn (setCell cells z ds) names ∧ (setCell cells z ds).length ≤ n + 1 := by
  unfold setCell
  cases hb : isBl ds with
  | true =>
    rw [if_pos rfl]
    have l := dropE_len cells z
    exact ⟨⟨⟨dropE_keys f.g.nc, f.g.nn, fun e he => f.g.sh e (mem_dropE he), f.g.shn, f.g.wk, by omega, f.g.ln⟩, fun e he => f.c e (mem_dropE he), f.n⟩, by omega⟩
  | false =>
    rw [if_neg Bool.false_ne_true]
    have l := putE_len cells z ds
    refine ⟨⟨⟨putE_keys f.g.nc, f.g.nn, fun e he => ?_, f.g.shn, f.g.wk, by omega, f.g.ln⟩, fun e he => ?_, f.n⟩, by omega⟩
    · rcases mem_putE he with rfl | he
      · exact ⟨sh, hb⟩
      · exact f.g.sh e he
    · rcases mem_putE he with rfl | he
      · exact sm
      · exact f.c e he
theorem Fn.name {cells : Cells} {names : Names} {n : Nat} (f : Fn cells names) {w : Str} {d : Option (List PyData)} (wk : PyData.strOk w = true) (sh : SeqAt.shaped (nmD d) = true) (sm : ∀ ds, d = some ds → Sm ds) (hn : names.length ≤ n) (h8 : n < 800) : Fn cells (putE names w d) ∧ (putE names w d).length ≤ n + 1 := by
  have l := putE_len names w d
  refine ⟨⟨⟨f.g.nc, putE_keys f.g.nn, f.g.sh, fun e he => ?_, fun e he => ?_, f.g.lc, by omega⟩, f.c, fun e he => ?_⟩, by omega⟩
  · rcases mem_putE he with rfl | he
    · exact sh
    · exact f.g.shn e he
  · rcases mem_putE he with rfl | he
    · exact wk
    · exact f.g.wk e he
  · rcases mem_putE he with rfl | he
    · exact sm
    · exact f.n e he
theorem Fn.gone {cells : Cells} {names : Names} {n : Nat} (f : Fn cells names) {w : Str} (hn : names.length ≤ n) (h8 : n < 800) : Fn cells (dropE names w) ∧ (dropE names w).length ≤ n + 1 := by
  have l := dropE_len names w
  exact ⟨⟨⟨f.g.nc, dropE_keys f.g.nn, f.g.sh, fun e he => f.g.shn e (mem_dropE he), fun e he => f.g.wk e (mem_dropE he), f.g.lc, by omega⟩, f.c, fun e he => f.n e (mem_dropE he)⟩, by omega⟩
theorem Fn.nil : Fn [] [] := ⟨⟨List.nodup_nil, List.nodup_nil, (fun _ h => nomatch h), (fun _ h => nomatch h), (fun _ h => nomatch h), Nat.zero_le _, Nat.zero_le _⟩, (fun _ h => nomatch h), (fun _ h => nomatch h)⟩
/-- all but the deed's own objects stays -/
def FrD (b : Addr) (g : Gr) (cd nd : Addr) (H H' : Hp) : Prop := ∀ a o, a ≠ b → a ≠ g.cd → a ≠ g.nd → a ≠ cd → a ≠ nd → H a = some o → H' a = some o
theorem FrD.of {b : Addr} {g : Gr} {cd nd : Addr} {H H' : Hp} (s : Same H H') : FrD b g cd nd H H' := fun a o _ _ _ _ _ h => s a o h
theorem FrD.kp {b : Addr} {g : Gr} {cd nd : Addr} {H H' : Hp} (s : Kp b H H') : FrD b g cd nd H H' := fun a o n _ _ _ _ h => s.k a o n h
theorem FrD.kg {b : Addr} {g : Gr} {cd nd : Addr} {H H' : Hp} (s : KG g H H') : FrD b g cd nd H H' := fun a o _ n1 n2 _ _ h => s a o n1 n2 h
theorem FrD.trans {b : Addr} {g : Gr} {cd nd : Addr} {H H1 H2 : Hp} (x : FrD b g cd nd H H1) (y : FrD b g cd nd H1 H2) : FrD b g cd nd H H2 := fun a o n1 n2 n3 n4 n5 h => y a o n1 n2 n3 n4 n5 (x a o n1 n2 n3 n4 n5 h)
theorem rmS_kp {b : Addr} {S : List Addr} {H H' : Hp} (hb : b ∈ S) (k : Kp b H H') : Same (rmS S H) (rmS S H') := fun a o h => by
  obtain ⟨n, e⟩ := rmS_some h
  rw [rmS_of n]
  exact k.k a o (fun z => n (z ▸ hb)) e
structure Dd (K : PySem.W.Frag) (C : Addr) (b : Addr) (g : Gr) (cd nd : Addr) (n m : Nat) (H : Hp) (cells : Cells) (names : Names) : Prop where
  gd : GD K C (rmS [b] H) g cells names
  td : TD K (rmS [b] H) cd nd cells names
  fn : Fn cells names
  lc : cells.length ≤ n
  ln : names.length ≤ m
theorem Dd.kp {K : PySem.W.Frag} {C b : Addr} {g : Gr} {cd nd : Addr} {n m : Nat} {H H' : Hp} {cells : Cells} {names : Names} (d : Dd K C b g cd nd n m H cells names) (k : Kp b H H') : Dd K C b g cd nd n m H' cells names :=
  ⟨d.gd.same (rmS_kp (List.mem_singleton.mpr rfl) k), d.td.same (rmS_kp (List.mem_singleton.mpr rfl) k), d.fn, d.lc, d.ln⟩
theorem rmS_sub {b L : Addr} {H : Hp} : Same (rmS [b, L] H) (rmS [b] H) := fun a o h => by
  obtain ⟨n, e⟩ := rmS_some h
  rw [rmS_of fun z => n (by rw [List.mem_singleton.mp z]; exact List.mem_cons_self)]
  exact e
theorem rmS_add {b L : Addr} {H H' : Hp} (k : Kp b H H') (h : H L = none) : Same (rmS [b] H) (rmS [b, L] H') := fun a o e => by
  obtain ⟨n, e⟩ := rmS_some e
  have nb : a ≠ b := fun z => n (List.mem_singleton.mpr z)
  have nl : a ≠ L := fun z => by
    rw [z, h] at e
    cases e
  rw [rmS_of fun z => ?_]
  · exact k.k a o nb e
  · rcases List.mem_cons.mp z with z | z
    · exact nb z
    · exact nl (List.mem_singleton.mp z)
/-- a list of S changes -/
theorem rmS_in {S : List Addr} {H : Hp} {L : Addr} {o : HO} (h : L ∈ S) : Same (rmS S H) (rmS S (upd H L o)) := fun a u e => by
  obtain ⟨n, e⟩ := rmS_some e
  have ne : a ≠ L := fun z => n (by rw [z]; exact h)
  rw [rmS_of n, upd_ne ne]
  exact e
theorem rmS_kd {S : List Addr} {H H' : Hp} (k : KD H H') : KD (rmS S H) (rmS S H') := fun a o d e => by
  obtain ⟨n, e⟩ := rmS_some e
  rw [rmS_of n]
  exact k a o d e
section
variable {K : PySem.W.Frag} {C : Addr} {H H' : Hp} {g : Gr} {cd nd : Addr} {cells cells' : Cells} {names names' : Names} {S : List Addr}
/-- the dicts of grid and law are not one -/
structure Ap (g : Gr) (cd nd : Addr) : Prop where
  c1 : cd ≠ g.G
  c2 : cd ≠ g.cd
  c3 : cd ≠ g.nd
  n1 : nd ≠ g.G
  n2 : nd ≠ g.cd
  n3 : nd ≠ g.nd
  cn : cd ≠ nd
theorem Ap.of {cells1 : Cells} {names1 : Names} {cells2 : Cells} {names2 : Names} (G : GD K C H g cells1 names1) (D : TD K H cd nd cells2 names2) (h1 : cd ≠ g.cd) (h2 : nd ≠ g.nd) : Ap g cd nd := by
  obtain ⟨⟨dx, w1⟩, ⟨ks, w2, _⟩, ⟨ns, w3, _⟩⟩ := G
  obtain ⟨⟨kc, v1, _⟩, ⟨kn, v2, _⟩⟩ := D
  refine ⟨fun z => ?_, h1, fun z => ?_, fun z => ?_, fun z => ?_, h2, fun z => ?_⟩
  · rw [z, w1] at v1
    cases v1
  · rw [z, w3] at v1
    cases v1
  · rw [z, w1] at v2
    cases v2
  · rw [z, w2] at v2
    cases v2
  · rw [z, v2] at v1
    cases v1
theorem TD.kg (D : TD K (rmS S H) cd nd cells names) (a : Ap g cd nd) (k : KG g H H') (kd : KD H H') : TD K (rmS S H') cd nd cells names := by
  obtain ⟨⟨kc, v1, e1, l1⟩, ⟨kn, v2, e2, l2⟩⟩ := D
  obtain ⟨m1, v1⟩ := rmS_some v1
  obtain ⟨m2, v2⟩ := rmS_some v2
  exact ⟨⟨kc, (rmS_of m1).trans (k _ _ a.c2 a.c3 v1), ents_kd (rmS_kd kd) e1, l1⟩, ⟨kn, (rmS_of m2).trans (k _ _ a.n2 a.n3 v2), entsN_kd (rmS_kd kd) e2, l2⟩⟩
theorem TD.setC {kvs' : List (List Key × V)} (D : TD K H cd nd cells names) (n : cd ≠ nd) (e : Ents idK (LAt K H) kvs' cells') (hl : kvs'.length ≤ 900) : TD K (upd H cd (.dT kvs')) cd nd cells' names := by
  obtain ⟨⟨kc, v1, e1, l1⟩, ⟨kn, v2, e2, l2⟩⟩ := D
  have kd : KD H (upd H cd (.dT kvs')) := KD.put v1 rfl
  exact ⟨⟨kvs', upd_same, ents_kd kd e, hl⟩, ⟨kn, by rw [upd_ne n.symm]; exact v2, entsN_kd kd e2, l2⟩⟩
theorem TD.setN {nvs' : List (Key × V)} (D : TD K H cd nd cells names) (n : cd ≠ nd) (e : Ents keyW (NAt K H) nvs' names') (hl : nvs'.length ≤ 900) : TD K (upd H nd (.dK nvs')) cd nd cells names' := by
  obtain ⟨⟨kc, v1, e1, l1⟩, ⟨kn, v2, e2, l2⟩⟩ := D
  have kd : KD H (upd H nd (.dK nvs')) := KD.put v2 rfl
  exact ⟨⟨kc, by rw [upd_ne n]; exact v1, ents_kd kd e1, l1⟩, ⟨nvs', upd_same, entsN_kd kd e, hl⟩⟩
theorem GD.updC {kvs kvs' : List (List Key × V)} (G : GD K C H g cells names) (a : Ap g cd nd) (h : H cd = some (.dT kvs)) : GD K C (upd H cd (.dT kvs')) g cells names := G.lt h (fun _ z => by cases z) (fun _ _ z => by cases z) (fun _ z => by cases z) (fun _ _ z => by cases z) a.c1 a.c2 a.c3
theorem GD.updN {kvs kvs' : List (Key × V)} (G : GD K C H g cells names) (a : Ap g cd nd) (h : H nd = some (.dK kvs)) : GD K C (upd H nd (.dK kvs')) g cells names := G.lt h (fun _ z => by cases z) (fun _ _ z => by cases z) (fun _ z => by cases z) (fun _ _ z => by cases z) a.n1 a.n2 a.n3
end
theorem Box.kd {b : Addr} {H H' : Hp} (k : KD H H') (B : Box H b) : Box H' b := by
  obtain ⟨d, ds, i, h1, h2, h3⟩ := B
  exact ⟨d, ds, i, k _ _ rfl h1, k _ _ rfl h2, h3⟩
theorem FrD.updC {b : Addr} {g : Gr} {cd nd : Addr} {H : Hp} {o : HO} : FrD b g cd nd H (upd H cd o) := fun a u _ _ _ n _ h => by
  rw [upd_ne n]
  exact h
theorem FrD.updN {b : Addr} {g : Gr} {cd nd : Addr} {H : Hp} {o : HO} : FrD b g cd nd H (upd H nd o) := fun a u _ _ _ _ n h => by
  rw [upd_ne n]
  exact h
def spDeed (K : PySem.W.Frag) (C : Addr) : Sp := fun vs H Q _ => ∃ (b : Addr) (g : Gr) (cd nd : Addr) (n : Nat) (cells : Cells) (names : Names), vs = [.ref b, .ref g.G, .int g.r, .int g.c, .ref cd, .ref nd] ∧ 0 ≤ g.r ∧ g.r ≤ 10 ∧ 0 ≤ g.c ∧ g.c ≤ 10 ∧ n ≤ 100 ∧ cd ≠ g.cd ∧ nd ≠ g.nd ∧ Box H b ∧ Dd K C b g cd nd n n H cells names ∧
  ∀ H' cells' names', FrD b g cd nd H H' → Box H' b → Dd K C b g cd nd (n + 1) (n + 1) H' cells' names' → Q .non H'
def MidD (K : PySem.W.Frag) (C : Addr) (b : Addr) (g : Gr) (cd nd : Addr) (n m : Nat) (w : Str) (kind : Int) (H : Hp) : L2.St → Hp → Prop := fun σ H' => ∃ k8 k9 k10 k11 k12 k13 cells' names', σ = [some (.ref b), some (.ref g.G), some (.int g.r), some (.int g.c), some (.ref cd), some (.ref nd), some (.str w), some (.int kind), k8, k9, k10, k11, k12, k13] ∧ FrD b g cd nd H H' ∧ Box H' b ∧ Dd K C b g cd nd n m H' cells' names'
theorem Ls.two {b L : Addr} {H : Hp} (B : Box H b) {us : List V} (h : H L = some (.lst us)) : Ls [b, L] H := fun x hx => by
  rcases List.mem_cons.mp hx with rfl | hx
  · obtain ⟨d, ds, i, h1, _⟩ := B
    exact ⟨_, h1⟩
  · rw [List.mem_singleton.mp hx]
    exact ⟨_, h⟩
/-- the box, apart from a list -/
def BoxL (H : Hp) (b L : Addr) : Prop := ∃ (d : Addr) (ds : List Int) (i : Nat), H b = some (.lst [.ref d, .int (i : Int)]) ∧ H d = some (.lst (ds.map V.int)) ∧ b ≠ d ∧ L ≠ d ∧ L ≠ b
theorem Box.off {b L : Addr} {H H' : Hp} (k : Kp b H H') (B : Box H b) (B' : Box H' b) (hL : H L = none) : BoxL H' b L := by
  obtain ⟨d, ds, i, h1, h2, h3⟩ := B
  obtain ⟨d', ds', i', g1, g2, g3⟩ := B'
  obtain ⟨j', e⟩ := k.d _ _ h1
  rw [g1] at e
  have ed : d' = d := by
    have := Option.some.inj e
    cases this
    rfl
  rw [ed] at g1 g2 g3
  refine ⟨d, ds', i', g1, g2, g3, fun z => ?_, fun z => ?_⟩
  · rw [z, h2] at hL
    cases hL
  · rw [z, h1] at hL
    cases hL
theorem BoxL.kd {b L : Addr} {H H' : Hp} (k : KD H H') (B : BoxL H b L) : BoxL H' b L := by
  obtain ⟨d, ds, i, h1, h2, h3, h4, h5⟩ := B
  exact ⟨d, ds, i, k _ _ rfl h1, k _ _ rfl h2, h3, h4, h5⟩
theorem BoxL.upd {b L : Addr} {H : Hp} {o : HO} (B : BoxL H b L) : Box (L2.upd H L o) b := by
  obtain ⟨d, ds, i, h1, h2, h3, h4, h5⟩ := B
  exact ⟨d, ds, i, by rw [upd_ne h5.symm]; exact h1, by rw [upd_ne h4.symm]; exact h2, h3⟩
theorem FrD.list {b : Addr} {g : Gr} {cd nd L : Addr} {H H' : Hp} {o : HO} (f : FrD b g cd nd H H') (h : H L = none) : FrD b g cd nd H (upd H' L o) := fun a u n1 n2 n3 n4 n5 e => by
  rw [upd_ne (ne_of_none e h)]
  exact f a u n1 n2 n3 n4 n5 e
theorem Ls.one {b : Addr} {H : Hp} (B : Box H b) : Ls [b] H := fun x hx => by
  rw [List.mem_singleton.mp hx]
  obtain ⟨d, ds, i, h1, _⟩ := B
  exact ⟨_, h1⟩
theorem okLawDeed (T : Txt K mg) : FnOk P w K mg base CX0 3 T.fLawDeed T.fdLawDeed ["box", "grid", "rows", "columns", "cells", "names"] (spDeed K T.cGrid) := by
  refine T.FLawDeed.ok scLawDeed (fun vs H Q E h => ?_) (fun cdv A outer s H vs Q E hr h => ?_)
  · obtain ⟨b, g, cd, nd, n, cells, names, rfl, _⟩ := h
    rfl
  · obtain ⟨b, g, cd, nd, n, cells, names, rfl, r0, r1, c0, c1, n1, a1, a2, B, D, q⟩ := h
    -- slots box=0 grid=1 rows=2 columns=3 cells=4 names=5 word=6 kind=7 cell=8 shown=9 kept=10 areas=11 content=12 area=13
    refine ⟨_, (pss_cons (ps_set (i := 6) scLawDeed.nd rfl (Or.inl rfl) (pe_ix ix_list (pe_lst (pa_cons pe_str (pa_cons pe_str (pa_cons pe_str pa_nil)))) (pe_call (okLawDraw T) (hr.mono (by decide)) (by rfl) T.gLawDraw T.FLawDraw.kp T.bLawDraw .nil pass0 (pa_cons (pv 0) (pa_cons pe_int pa_nil))) (fun _ _ => rfl)))
        (pss_cons (ps_set (i := 7) scLawDeed.nd rfl (Or.inl rfl) (pe_call (okLawDraw T) (hr.mono (by decide)) (by rfl) T.gLawDraw T.FLawDraw.kp T.bLawDraw .nil pass0 (pa_cons (pv 0) (pa_cons pe_int pa_nil))))
        (C8.pss_cut (ps_if (PW.pt (pw_and (pt_cmpR op_lt (pv 7) pe_int (nomark _)) (pw_and (pt_cmpR op_gt (pv 2) pe_int (nomark _)) (pw_and1 (pt_cmpR op_gt (pv 3) pe_int (nomark _))))))
          (pss_cons (ps_set (i := 8) scLawDeed.nd rfl (Or.inl rfl) (pe_tup (pa_cons (pe_call (okLawDraw T) (hr.mono (by decide)) (by rfl) T.gLawDraw T.FLawDraw.kp T.bLawDraw .nil pass0 (pa_cons (pv 0) (pa_cons (pv 2) pa_nil))) (pa_cons (pe_call (okLawDraw T) (hr.mono (by decide)) (by rfl) T.gLawDraw T.FLawDraw.kp T.bLawDraw .nil pass0 (pa_cons (pv 0) (pa_cons (pv 3) pa_nil))) pa_nil))))
          (pss_cons (ps_set (i := 9) scLawDeed.nd rfl (Or.inl rfl) (pe_call (okLawShown T) (hr.mono (by decide)) (by rfl) T.gLawShown T.FLawShown.kp T.bLawShown .nil pass0 (pa_cons (pv 0) pa_nil)))
          (pss_cons (ps_setLc (i := 10) (own := [("content", 12)]) (g := gName 12) (tt := tYes) rfl scLawDeed.nd rfl rfl (sw_true rfl rfl rfl (by decide +kernel)) (pi_list (pv 9)) (blkOk_by (own := [("content", 12)]) (N := ["box", "grid", "rows", "columns", "cells", "names", "word", "kind", "cell", "shown", "kept", "areas", "content", "area"]) (sc := defScope sLawDeed) (by decide +kernel)) (fun _ _ _ _ _ => (pg_name (i := 12) scLawDeed.nd rfl (Or.inl rfl))) (fun _ _ _ _ _ => pts_nil) (fun _ _ _ _ _ => (pv 12)))
          (pss_cons (ps_expr (pe_meth (pv 1) T.clGrid T.meGrid_Put (okGrid_Put T) (hr.mono (by decide)) T.bGrid_Put .nil pass0 (pa_cons (pv 8) (pa_cons (pv 9) pa_nil))))
          (pss_cons (ps_expr (pe_bm PySem.F.plainAttrs_list PySem.F.slot_list_append PySem.F.type_list_append mt_append (pv 9) (pa_cons (pe_tup (pa_cons pe_str (pa_cons pe_str pa_nil))) pa_nil)))
          (pss_one (ps_if (PW.pt (pw_or (pt_cmpR (op_eqD hr.units) (pv 10) (pe_lst pa_nil) (nomark _)) (pw_or1 (pt_cmpR (op_eqD hr.units) (pv 10) (pe_lst (pa_cons (pe_tup (pa_cons pe_str pa_nil)) pa_nil)) (nomark _)))))
            (pss_one (ps_expr (pe_bm PySem.F.plainAttrs_dict PySem.F.slot_dict_pop PySem.F.type_dict_pop (L2.DX.mt_popT (units2 hr)) (pv 4) (pa_cons (pv 8) (pa_cons pe_non pa_nil)))))
            (pss_one (ps_dput (units2 hr) (pv 4) (pv 8) (pv 10) rfl)))))))))
          pss_nil)
        (C8.pss_cut (ps_if (pt_cmpR op_in_seq (pv 7) (pe_lst (pa_cons pe_int (pa_cons pe_int pa_nil))) rfl)
          (pss_cons (ps_set (i := 11) scLawDeed.nd rfl (Or.inl rfl) (pe_call (okLawAreas T) (hr.mono (by decide)) (by rfl) T.gLawAreas T.FLawAreas.kp T.bLawAreas .nil pass0 (pa_cons (pv 0) (pa_cons (pe_cmpR op_eq (pe_op op_mul (pv 2) (pv 3)) pe_int (nomark _)) pa_nil))))
          (pss_cons (ps_dput (units2 hr) (pv 5) (pv 6) pe_non rfl)
          (pss_cons (ps_if (pt_cmpR op_notN (pv 11) pe_non (nomark _))
            (pss_one (ps_dput (units2 hr) (pv 5) (pv 6) (pe_lc (own := [("area", 13)]) (g := gName 13) (tt := tYes) rfl scLawDeed.nd (pi_list (pv 11)) (blkOk_by (own := [("area", 13)]) (N := ["box", "grid", "rows", "columns", "cells", "names", "word", "kind", "cell", "shown", "kept", "areas", "content", "area"]) (sc := defScope sLawDeed) (by decide +kernel)) (fun _ _ _ _ _ => (pg_name (i := 13) scLawDeed.nd rfl (Or.inl rfl))) (fun _ _ _ _ _ => pts_nil) (fun _ _ _ _ _ => (pv 13))) rfl))
            pss_nil)
          (pss_cons (ps_expr (pe_meth (pv 1) T.clGrid T.meGrid_Name (okGrid_Name T) (hr.mono (by decide)) T.bGrid_Name .nil pass0 (pa_cons (pv 6) (pa_cons (pv 11) pa_nil))))
          (pss_one (ps_if (pt_cmpR op_notN (pv 11) pe_non (nomark _))
            (pss_one (ps_expr (pe_bm PySem.F.plainAttrs_list PySem.F.slot_list_append PySem.F.type_list_append mt_append (pv 11) (pa_cons (pe_tup (pa_cons pe_str pa_nil)) pa_nil))))
            pss_nil))))))
          pss_nil)
        (pss_one (ps_if (pt_cmpR op_eq (pv 7) pe_int (nomark _))
          (pss_cons (ps_expr (pe_meth (pv 1) T.clGrid T.meGrid_Unname (okGrid_Unname T) (hr.mono (by decide)) T.bGrid_Unname .nil pass0 (pa_cons (pv 6) pa_nil)))
          (pss_one (ps_expr (pe_dpop2 (pv 5) (pv 6) pe_non ⟨rfl, rfl, rfl, rfl⟩))))
          pss_nil)))))), ?_⟩
    have ap : Ap g cd nd := Ap.of D.gd D.td a1 a2
    refine ⟨(by show 3 ≤ sizeLine; decide), fun lw hlw => ?_⟩
    have sw := same_new (o := .lst [.str "ab", .str "cd", .str "ef"]) hlw
    have hw2 : (upd H lw (.lst [.str "ab", .str "cd", .str "ef"])) lw = some (.lst [.str "ab", .str "cd", .str "ef"]) := upd_same
    have nwb : lw ≠ b := fun z => B.some_ (by rw [← z]; exact hlw)
    refine ⟨_, rfl, b, _, rfl, (by decide), B.same sw, fun y H1 y0 y1 B1 k1 => ?_⟩
    obtain ⟨yn, rfl⟩ := Int.eq_ofNat_of_zero_le y0
    have hn : yn < 3 := by omega
    obtain ⟨w, hs, wk⟩ : ∃ s : Str, [V.str "ab", .str "cd", .str "ef"][yn]? = some (.str s) ∧ PyData.strOk s = true := by
      match yn, hn with
      | 0, _ => exact ⟨_, rfl, by decide +kernel⟩
      | 1, _ => exact ⟨_, rfl, by decide +kernel⟩
      | 2, _ => exact ⟨_, rfl, by decide +kernel⟩
    refine ⟨lw, _, _, _, rfl, rfl, SqL.of (k1 _ _ nwb hw2), atI_nat hs, ?_⟩
    have kk1 := (Kp.of sw).trans k1
    refine ⟨_, rfl, b, _, rfl, (by decide), B1, fun kind H2 z0 z1 B2 k2 => ?_⟩
    have kk := kk1.trans k2
    have D2 := D.kp kk
    have F2 : FrD b g cd nd H H2 := FrD.kp kk
    clear hw2 k1 k2 kk kk1 sw D B B1 hlw
    refine ⟨MidD K T.cGrid b g cd nd (n + 1) n w kind H, ?_, ?_⟩
    · have skip : ∀ k8 k9 k10 k11 k12 k13, MidD K T.cGrid b g cd nd (n + 1) n w kind H [some (.ref b), some (.ref g.G), some (.int g.r), some (.int g.c), some (.ref cd), some (.ref nd), some (.str w), some (.int kind), k8, k9, k10, k11, k12, k13] H2 := fun _ _ _ _ _ _ => ⟨_, _, _, _, _, _, cells, names, rfl, F2, B2, ⟨D2.gd, D2.td, D2.fn, Nat.le_succ_of_le D2.lc, D2.ln⟩⟩
      refine ⟨_, rfl, _, _, rfl, rfl, _, rfl, ite2 (fun _ => ?_) (fun _ => iteF (skip _ _ _ _ _ _))⟩
      refine ⟨_, rfl, _, _, rfl, rfl, _, rfl, ite2 (fun p1 => ?_) (fun _ => iteF (skip _ _ _ _ _ _))⟩
      refine ⟨_, rfl, _, _, rfl, rfl, _, rfl, ite2 (fun p2 => ?_) (fun _ => skip _ _ _ _ _ _)⟩
      refine ⟨_, rfl, _, rfl, b, _, rfl, of_decide_eq_true p1, B2, fun u H4 u0 u1 B4 k4 => ?_⟩
      refine ⟨_, rfl, _, rfl, b, _, rfl, of_decide_eq_true p2, B4, fun v H5 v0 v1 B5 k5 => ⟨(by show 2 ≤ sizeLine; decide), fun t ht => ?_⟩⟩
      have st := same_new (o := .tup [.int u, .int v]) ht
      have k6 := (k4.trans k5).trans (Kp.of st)
      have B6 := B5.same st
      have ht6 : (upd H5 t (.tup [.int u, .int v])) t = some (.tup [.int u, .int v]) := upd_same
      generalize upd H5 t (.tup [.int u, .int v]) = H6 at k6 B6 ht6
      refine ⟨_, rfl, b, rfl, B6, fun L us ds H7 k7 B7 hL hL7 dt7 sh7 sm7 => ?_⟩
      have ntb : t ≠ b := fun z => by
        obtain ⟨d, _, _, h1, _⟩ := B6
        rw [← z, ht6] at h1
        cases h1
      have ht7 := k7.k _ _ ntb ht6
      have k27 := k6.trans k7
      have hL2 : H2 L = none := (show H2 L = none from by
        cases e : H2 L with
        | none => rfl
        | some o =>
          by_cases z : L = b
          · rw [z] at hL
            exact absurd hL B6.some_
          · rw [k6.k _ _ z e] at hL
            cases hL)
      refine ⟨_, rfl, L, rfl, ⟨_, SqL.of hL7⟩, fun M hM => ?_⟩
      refine lc_it (walk_list (a := L) (xs := us)) (fun i H' => Same H7 H' ∧ H' M = some (.lst (us.take i))) ⟨same_new hM, upd_same⟩ (fun i H' _ h => h.1.seq (SqL.of hL7)) ?_ ?_
      · rintro i x H8 H9 hi ⟨s8, hM8⟩ ⟨rfl, hx⟩
        refine ⟨rfl, yesT ⟨_, rfl, _, hM8, small1000 (by rw [List.length_take]; have := dt7.length; have := sm7.1; omega), same_mut s8 hM, ?_⟩⟩
        rw [upd_same, List.take_add_one, hx]
        rfl
      · rintro H8 ⟨s8, hM8⟩
        rw [List.take_of_length_le (Nat.le_refl _)] at hM8
        have k28 := k27.trans (Kp.of s8)
        have B8 := B7.same s8
        have BL8 := Box.off k28 B2 B8 hL2
        have hL8 := s8 _ _ hL7
        have ht8 := s8 _ _ ht7
        have dt8 := dtA_same s8 dt7
        have nML : L ≠ M := ne_of_none hL7 hM
        have G8 := D2.gd.same (rmS_add k28 hL2)
        have T8 := D2.td.same (rmS_add k28 hL2)
        obtain ⟨⟨dx, hG⟩, _⟩ := id (G8.same rmS_le)
        have l8 : cells.length ≤ 800 := D2.fn.g.lc
        refine ⟨_, rfl, g.G, dx, _, rfl, hG, rfl, _, rfl, _, rfl, [b, L], g, cells, names, t, L, (u, v), us, ds, rfl, Ls.two B8 hL8, G8, l8, ht8, hL8, dt8, sh7, fun H9 kg kd G9 => ?_⟩
        have T9 := T8.kg ap kg kd
        have BL9 := BL8.kd kd
        have hL9 := kd _ _ rfl hL8
        have hM9 := kd _ _ rfl hM8
        have ht9 := kd _ _ rfl ht8
        have dt9 := dtA_kd kd dt8
        have F9 : FrD b g cd nd H2 H9 := (FrD.kp k28).trans (FrD.kg kg)
        clear G8 T8 BL8 hL8 hM8 ht8 dt8 hG kg kd
        refine ⟨_, rfl, .inl ⟨rfl, _, SqL.of hL9⟩, (by show 2 ≤ sizeLine; decide), fun tl htl => ⟨L, _, _, rfl, rfl, same_new htl _ _ hL9, small1000 (by have := dt9.length; have := sm7.1; omega), ?_⟩⟩
        have sl := same_new (o := .tup [.str "text", .str "late"]) htl
        have mv : Same (rmS [b, L] H9) (rmS [b, L] (upd (upd H9 tl (.tup [.str "text", .str "late"])) L (.lst (us ++ [.ref tl])))) := (rmS_same sl).trans (rmS_in (List.mem_cons_of_mem _ List.mem_cons_self))
        have G11 := G9.same mv
        have T11 := T9.same mv
        have B11 : Box (upd (upd H9 tl (.tup [.str "text", .str "late"])) L (.lst (us ++ [.ref tl]))) b := (BL9.kd (KD.of sl)).upd
        have F11 : FrD b g cd nd H (upd (upd H9 tl (.tup [.str "text", .str "late"])) L (.lst (us ++ [.ref tl]))) := F2.trans ((F9.trans (FrD.of sl)).list hL2)
        have tt11 : TT H9 (upd (upd H9 tl (.tup [.str "text", .str "late"])) L (.lst (us ++ [.ref tl]))) := fun a xs e => by
          rw [upd_ne fun z => ?_]
          · exact sl _ _ e
          · rw [z, hL9] at e
            cases e
        have hM11 : (upd (upd H9 tl (.tup [.str "text", .str "late"])) L (.lst (us ++ [.ref tl]))) M = some (.lst us) := by
          rw [upd_ne nML.symm]
          exact sl _ _ hM9
        have hL11 : (upd (upd H9 tl (.tup [.str "text", .str "late"])) L (.lst (us ++ [.ref tl]))) L = some (.lst (us ++ [.ref tl])) := upd_same
        have ht11 := tt11 _ _ ht9
        have dt11 := dt9.tt tt11
        generalize upd (upd H9 tl (.tup [.str "text", .str "late"])) L (.lst (us ++ [.ref tl])) = J at G11 T11 B11 F11 hM11 ht11 dt11 hL11
        clear tt11 mv sl
        obtain ⟨f1, f2⟩ := D2.fn.cell (z := (u, v)) sh7 sm7 D2.lc (by omega)
        have ln := D2.ln
        -- the law's own dict
        have fin : ∀ J' k8 k9 k10 k11 k12 k13, FrD b g cd nd H J' → Box J' b → GD K T.cGrid (rmS [b, L] J') g (setCell cells (u, v) ds) names → TD K (rmS [b, L] J') cd nd (setCell cells (u, v) ds) names → MidD K T.cGrid b g cd nd (n + 1) n w kind H [some (.ref b), some (.ref g.G), some (.int g.r), some (.int g.c), some (.ref cd), some (.ref nd), some (.str w), some (.int kind), k8, k9, k10, k11, k12, k13] J' :=
          fun J' _ _ _ _ _ _ a b g t => ⟨_, _, _, _, _, _, _, names, rfl, a, b, ⟨g.same rmS_sub, t.same rmS_sub, f1, f2, ln⟩⟩
        have stt : ∀ bb : Bool, isBl ds = bb → setCell cells (u, v) ds = if bb = true then dropE cells (u, v) else putE cells (u, v) ds := fun bb e => by
          unfold setCell
          rw [e]
        have popF : ∀ J', Same J J' → isBl ds = true → ∃ kvs, J' cd = some (.dT kvs) ∧ (∀ x, valV kvs (idK (u, v)) = some x → FrD b g cd nd H (upd J' cd (.dT (dropK kvs (idK (u, v))))) ∧ Box (upd J' cd (.dT (dropK kvs (idK (u, v))))) b ∧ GD K T.cGrid (rmS [b, L] (upd J' cd (.dT (dropK kvs (idK (u, v)))))) g (setCell cells (u, v) ds) names ∧ TD K (rmS [b, L] (upd J' cd (.dT (dropK kvs (idK (u, v)))))) cd nd (setCell cells (u, v) ds) names) ∧
            (valV kvs (idK (u, v)) = none → FrD b g cd nd H J' ∧ Box J' b ∧ GD K T.cGrid (rmS [b, L] J') g (setCell cells (u, v) ds) names ∧ TD K (rmS [b, L] J') cd nd (setCell cells (u, v) ds) names) := fun J' sj hb => by
          have TJ := T11.same (rmS_same sj)
          have GJ := G11.same (rmS_same sj)
          obtain ⟨⟨kvs, hCr, eC, lC⟩, _⟩ := id TJ
          obtain ⟨nS, hC⟩ := rmS_some hCr
          obtain ⟨e1, e2⟩ := ents_get (fun _ _ => idK_inj) eC (u, v)
          refine ⟨kvs, hC, fun x ex => ?_, fun ex => ?_⟩
          · have T5 := TJ.setC ap.cn (ents_drop (fun _ _ => idK_inj) (k := (u, v)) eC) (by have := dropK_len kvs (idK (u, v)); omega)
            have G5 := GJ.updC (kvs' := dropK kvs (idK (u, v))) ap hCr
            rw [← rmS_upd nS] at T5 G5
            refine ⟨(F11.trans (FrD.of sj)).trans FrD.updC, (B11.same sj).kd (KD.put hC rfl), G5, ?_⟩
            rw [stt true hb, if_pos rfl]
            exact T5
          · have no : getE cells (u, v) = none := by
              cases hg : getE cells (u, v) with
              | none => rfl
              | some b =>
                obtain ⟨v, e3, _⟩ := e2 b hg
                rw [e3] at ex
                cases ex
            refine ⟨F11.trans (FrD.of sj), B11.same sj, GJ, ?_⟩
            rw [stt true hb, if_pos rfl, dropE_no no]
            exact TJ
        refine ⟨_, rfl, Nat.zero_le _, fun l0 hl0 => ?_⟩
        have s0 := same_new (o := .lst []) hl0
        refine ⟨.list ds, .list [], .lst (SqL.of (s0 _ _ hM11)) (dtA_same s0 dt11).dp, .lst (SqL.of upd_same) .nil, sh7, by decide +kernel, _, rfl, ite2 (fun c => ?_) (fun c => ?_)⟩
        · refine (if_pos rfl).mpr ?_
          have hb : isBl ds = true := by
            unfold isBl
            rw [show PyData.eqv (.list ds) (.list []) = true from c]
            rfl
          obtain ⟨kvs, hC, q1, q2⟩ := popF _ s0 hb
          exact ⟨_, rfl, .inr (.inr (.inl ⟨rfl, .inr ⟨kvs, hC⟩⟩)), _, rfl, cd, kvs, idK (u, v), t, .non, rfl, rfl, hC, s0 _ _ ht11, fun x ex => let ⟨w1, w2, w3, w4⟩ := q1 x ex; fin _ _ _ _ _ _ _ w1 w2 w3 w4, fun ex => let ⟨w1, w2, w3, w4⟩ := q2 ex; fin _ _ _ _ _ _ _ w1 w2 w3 w4⟩
        · refine ⟨_, rfl, (by show 1 ≤ sizeLine; decide), fun tb htb => ⟨(by show 1 ≤ sizeLine; decide), fun l1 hl1 => ?_⟩⟩
          have s1 := (s0.trans (same_new (o := .tup [.str "blank"]) htb)).trans (same_new (o := .lst [.ref tb]) hl1)
          have htb2 : (upd (upd (upd J l0 (.lst [])) tb (.tup [.str "blank"])) l1 (.lst [.ref tb])) tb = some (.tup [.str "blank"]) := same_new hl1 _ _ upd_same
          have hl1b : (upd (upd (upd J l0 (.lst [])) tb (.tup [.str "blank"])) l1 (.lst [.ref tb])) l1 = some (.lst [.ref tb]) := upd_same
          generalize upd (upd (upd J l0 (.lst [])) tb (.tup [.str "blank"])) l1 (.lst [.ref tb]) = J1 at s1 htb2 hl1b
          refine ⟨.list ds, blankD, .lst (SqL.of (s1 _ _ hM11)) (dtA_same s1 dt11).dp, .lst (SqL.of hl1b) (.cons (.tup (SqT.of htb2) (.cons (.str _) .nil)) .nil), sh7, by decide +kernel, _, rfl, ite2 (fun c2 => ?_) (fun c2 => ?_)⟩
          · have hb : isBl ds = true := by
              unfold isBl
              rw [show PyData.eqv (.list ds) blankD = true from c2, Bool.or_true]
            obtain ⟨kvs, hC, q1, q2⟩ := popF _ s1 hb
            exact ⟨_, rfl, .inr (.inr (.inl ⟨rfl, .inr ⟨kvs, hC⟩⟩)), _, rfl, cd, kvs, idK (u, v), t, .non, rfl, rfl, hC, s1 _ _ ht11, fun x ex => let ⟨w1, w2, w3, w4⟩ := q1 x ex; fin _ _ _ _ _ _ _ w1 w2 w3 w4, fun ex => let ⟨w1, w2, w3, w4⟩ := q2 ex; fin _ _ _ _ _ _ _ w1 w2 w3 w4⟩
          · have hb : isBl ds = false := by
              unfold isBl
              rw [Bool.or_eq_false_iff]
              exact ⟨Bool.eq_false_iff.mpr c, Bool.eq_false_iff.mpr c2⟩
            have TJ := T11.same (rmS_same s1)
            have GJ := G11.same (rmS_same s1)
            obtain ⟨⟨kvs, hCr, eC, lC⟩, _⟩ := id TJ
            obtain ⟨nS, hC⟩ := rmS_some hCr
            refine ⟨_, rfl, _, rfl, _, rfl, cd, _, rfl, DPut.t (k := idK (u, v)) hC (s1 _ _ ht11) (small1000 (by omega)), ?_⟩
            have hMS : (rmS [b, L] J1) M = some (.lst us) := by
              rw [rmS_of fun z => ?_]
              · exact s1 _ _ hM11
              · rcases List.mem_cons.mp z with z | z
                · exact B7.some_ (by rw [← z]; exact hM)
                · exact nML (List.mem_singleton.mp z).symm
            have T5 := TJ.setC ap.cn (ents_put (fun _ _ => idK_inj) (k := (u, v)) (v := .ref M) eC ⟨M, us, rfl, hMS, (dtA_same s1 dt11).tt (Ls.two (B11.same s1) (L := L) (s1 _ _ hL11)).tt⟩) (by have := putK_len kvs (idK (u, v)) (.ref M); have := eC.len; have := D2.lc; omega)
            have G5 := GJ.updC (kvs' := putK kvs (idK (u, v)) (.ref M)) ap hCr
            rw [← rmS_upd nS] at T5 G5
            refine fin _ _ _ _ _ _ _ ((F11.trans (FrD.of s1)).trans FrD.updC) ((B11.same s1).kd (KD.put hC rfl)) G5 ?_
            rw [stt false hb, if_neg Bool.false_ne_true]
            exact T5
    rintro σ H3 ⟨k8, k9, k10, k11, k12, k13, cells, names, rfl, F3, B3, D3⟩
    refine ⟨MidD K T.cGrid b g cd nd (n + 1) (n + 1) w kind H, ?_, ?_⟩
    · clear F2 B2 D2
      have skip : ∀ k8 k9 k10 k11 k12 k13, MidD K T.cGrid b g cd nd (n + 1) (n + 1) w kind H [some (.ref b), some (.ref g.G), some (.int g.r), some (.int g.c), some (.ref cd), some (.ref nd), some (.str w), some (.int kind), k8, k9, k10, k11, k12, k13] H3 := fun _ _ _ _ _ _ => ⟨_, _, _, _, _, _, cells, names, rfl, F3, B3, ⟨D3.gd, D3.td, D3.fn, D3.lc, Nat.le_succ_of_le D3.ln⟩⟩
      refine ⟨_, rfl, (by show 2 ≤ sizeLine; decide), fun ll hll => ⟨ll, [.int 3, .int 4], rfl, .inl (SqL.of upd_same), rfl, rfl, _, rfl, ?_⟩⟩
      have sl := same_new (o := .lst [.int 3, .int 4]) hll
      have F4 := F3.trans (FrD.of sl (b := b) (g := g) (cd := cd) (nd := nd))
      have B4 := B3.same sl
      have D4 := D3.kp (Kp.of sl)
      generalize upd H3 ll (.lst [.int 3, .int 4]) = H4 at F4 B4 D4
      refine ite2 (fun _ => ?_) (fun _ => ⟨_, _, _, _, _, _, cells, names, rfl, F4, B4, ⟨D4.gd, D4.td, D4.fn, D4.lc, Nat.le_succ_of_le D4.ln⟩⟩)
      refine ⟨_, rfl, _, rfl, _, rfl, _, _, rfl, rfl, .inl ⟨by omega, by omega⟩, rfl, b, _, rfl, B4, fun H5 k5 B5 => ?_, fun L us ds H5 k5 B5 hL hL5 dt5 sh5 sm5 => ?_⟩
      · have D5 := D4.kp k5
        have F5 := F4.trans (FrD.kp k5)
        obtain ⟨_, ⟨nvs, hNr, eN, lN⟩⟩ := id D5.td
        obtain ⟨nS, hN⟩ := rmS_some hNr
        obtain ⟨f1, f2⟩ := D5.fn.name (w := w) (d := none) wk (by decide +kernel) (fun _ z => nomatch z) D5.ln (by omega)
        refine ⟨_, rfl, _, rfl, nd, _, rfl, DPut.k (k := keyW w) hN (small1000 (by omega)), ?_⟩
        have T6 := D5.td.setN ap.cn (ents_put (fun _ _ => keyW_inj) (k := w) (v := .non) (b := none) eN rfl) (by have := putK_len nvs (keyW w) .non; have := eN.len; have := D5.ln; omega)
        have G6 := D5.gd.updN (kvs' := putK nvs (keyW w) .non) ap hNr
        rw [← rmS_upd nS] at T6 G6
        have B6 := B5.kd (KD.put (o' := .dK (putK nvs (keyW w) .non)) hN rfl)
        have F6 := F5.trans (FrD.updN (o := .dK (putK nvs (keyW w) .non)))
        have l6 := D5.fn.g.ln
        have lc6 := D5.lc
        clear D5 hNr hN eN lN F5 B5 k5
        generalize upd H5 nd (.dK (putK nvs (keyW w) .non)) = H6 at T6 G6 B6 F6
        refine ⟨_, rfl, rfl, _, rfl, ite2 (fun c => ?_) (fun _ => ?_)⟩
        · rw [decide_eq_true rfl] at c
          cases c
        obtain ⟨⟨dx, hG⟩, _⟩ := id (G6.same rmS_le)
        refine ⟨_, rfl, g.G, dx, _, rfl, hG, rfl, _, rfl, _, rfl, [b], g, cells, names, w, .non, none, rfl, Ls.one B6, G6, l6, rfl, fun H7 kg kd G7 => ?_⟩
        refine ⟨_, rfl, rfl, _, rfl, ite2 (fun c => ?_) (fun _ => ?_)⟩
        · rw [decide_eq_true rfl] at c
          cases c
        exact ⟨_, _, _, _, _, _, cells, _, rfl, F6.trans (FrD.kg kg), B6.kd kd, ⟨G7, T6.kg ap kg kd, f1, lc6, f2⟩⟩
      · have F5 := F4.trans (FrD.kp k5 (g := g) (cd := cd) (nd := nd))
        have G5 := D4.gd.same (rmS_add k5 hL)
        have T5 := D4.td.same (rmS_add k5 hL)
        have BL5 := Box.off k5 B4 B5 hL
        obtain ⟨_, ⟨nvs, hNr, eN, lN⟩⟩ := id T5
        obtain ⟨nS, hN⟩ := rmS_some hNr
        obtain ⟨f1, f2⟩ := D4.fn.name (w := w) (d := some ds) wk sh5 (fun ds' e => by rw [← Option.some.inj e]; exact sm5) D4.ln (by omega)
        have FL : FrD b g cd nd H4 H5 := FrD.kp k5
        refine ⟨_, rfl, _, rfl, nd, _, rfl, DPut.k (k := keyW w) hN (small1000 (by omega)), ?_⟩
        have T6 := T5.setN ap.cn (ents_put (fun _ _ => keyW_inj) (k := w) (v := .non) (b := none) eN rfl) (by have := putK_len nvs (keyW w) .non; have := eN.len; have := D4.ln; omega)
        have G6 := G5.updN (kvs' := putK nvs (keyW w) .non) ap hNr
        rw [← rmS_upd nS] at T6 G6
        have kd6 : KD H5 (upd H5 nd (.dK (putK nvs (keyW w) .non))) := KD.put hN rfl
        have BL6 := BL5.kd kd6
        have FL6 := FL.trans (FrD.updN (o := .dK (putK nvs (keyW w) .non)))
        have hL6 := kd6 _ _ rfl hL5
        have dt6 := dtA_kd kd6 dt5
        have l6 := D4.fn.g.ln
        have lc6 := D4.lc
        clear hNr hN eN lN F5 B5 k5 kd6 BL5 hL5 dt5 FL G5 T5
        generalize upd H5 nd (.dK (putK nvs (keyW w) .non)) = H6 at T6 G6 BL6 FL6 hL6 dt6
        refine ⟨_, rfl, rfl, _, rfl, ite2 (fun _ => ?_) (fun c => ?_)⟩
        rotate_left
        · rw [decide_eq_false (by intro z; cases z)] at c
          exact absurd rfl c
        refine ⟨_, rfl, L, rfl, ⟨_, SqL.of hL6⟩, fun M hM => ?_⟩
        refine lc_it (walk_list (a := L) (xs := us)) (fun i H' => Same H6 H' ∧ H' M = some (.lst (us.take i))) ⟨same_new hM, upd_same⟩ (fun i H' _ h => h.1.seq (SqL.of hL6)) ?_ ?_
        · rintro i x H8 H9 hi ⟨s8, hM8⟩ ⟨rfl, hx⟩
          refine ⟨rfl, yesT ⟨_, rfl, _, hM8, small1000 (by rw [List.length_take]; have := dt6.length; have := sm5.1; omega), same_mut s8 hM, ?_⟩⟩
          rw [upd_same, List.take_add_one, hx]
          rfl
        · rintro H8 ⟨s8, hM8⟩
          rw [List.take_of_length_le (Nat.le_refl _)] at hM8
          have T8 := T6.same (rmS_same s8)
          have G8 := G6.same (rmS_same s8)
          have BL8 := BL6.kd (KD.of s8)
          have FL8 := FL6.trans (FrD.of s8)
          have hL8 := s8 _ _ hL6
          have dt8 := dtA_same s8 dt6
          have nML : M ≠ L := (ne_of_none hL6 hM).symm
          have nMb : M ≠ b := fun z => by
            obtain ⟨d, _, _, h1, _⟩ := BL6
            rw [z, h1] at hM
            cases hM
          obtain ⟨_, ⟨nv2, hNr2, eN2, lN2⟩⟩ := id T8
          obtain ⟨nS2, hN2⟩ := rmS_some hNr2
          refine ⟨_, rfl, _, rfl, nd, _, rfl, DPut.k (k := keyW w) hN2 (small1000 (by omega)), ?_⟩
          have hMS : (rmS [b, L] H8) M = some (.lst us) := by
            rw [rmS_of fun z => ?_]
            · exact hM8
            · rcases List.mem_cons.mp z with z | z
              · exact nMb z
              · exact nML (List.mem_singleton.mp z)
          have BX8 : Box H8 b := by
            obtain ⟨d, ds, i, h1, h2, h3, _⟩ := BL8
            exact ⟨d, ds, i, h1, h2, h3⟩
          have T9 := T8.setN ap.cn (ents_put (fun _ _ => keyW_inj) (k := w) (v := .ref M) (b := some ds) eN2 ⟨M, us, rfl, hMS, dt8.tt (Ls.two BX8 hL8).tt⟩) (by have := putK_len nv2 (keyW w) (.ref M); have := eN2.len; have := putE_len names w none; have := D4.ln; omega)
          have G9 := G8.updN (kvs' := putK nv2 (keyW w) (.ref M)) ap hNr2
          rw [← rmS_upd nS2] at T9 G9
          rw [putE_putE] at T9
          have kd9 : KD H8 (upd H8 nd (.dK (putK nv2 (keyW w) (.ref M)))) := KD.put hN2 rfl
          have BL9 := BL8.kd kd9
          have BX9 := BX8.kd kd9
          have FL9 := FL8.trans (FrD.updN (o := .dK (putK nv2 (keyW w) (.ref M))))
          have hL9 := kd9 _ _ rfl hL8
          have dt9 := dtA_kd kd9 dt8
          generalize upd H8 nd (.dK (putK nv2 (keyW w) (.ref M))) = H9 at T9 G9 BL9 FL9 hL9 dt9 BX9
          obtain ⟨⟨dx, hG⟩, _⟩ := id (G9.same rmS_le)
          refine ⟨_, rfl, g.G, dx, _, rfl, hG, rfl, _, rfl, _, rfl, [b, L], g, cells, names, w, .ref L, some ds, rfl, Ls.two BX9 hL9, G9, l6, ⟨L, us, rfl, hL9, dt9⟩, fun H10 kg kd G10 => ?_⟩
          have T10 := T9.kg ap kg kd
          have BL10 := BL9.kd kd
          have hL10 := kd _ _ rfl hL9
          have FL10 := FL9.trans (FrD.kg kg)
          refine ⟨_, rfl, rfl, _, rfl, ite2 (fun _ => ?_) (fun c => ?_)⟩
          rotate_left
          · rw [decide_eq_false (by intro z; cases z)] at c
            exact absurd rfl c
          refine ⟨_, rfl, .inl ⟨rfl, _, SqL.of hL10⟩, (by show 1 ≤ sizeLine; decide), fun tl htl => ⟨L, _, _, rfl, rfl, same_new htl _ _ hL10, small1000 (by have := dt9.length; have := sm5.1; omega), ?_⟩⟩
          have sl := same_new (o := .tup [.str "gone"]) htl
          have mv : Same (rmS [b, L] H10) (rmS [b, L] (upd (upd H10 tl (.tup [.str "gone"])) L (.lst (us ++ [.ref tl])))) := (rmS_same sl).trans (rmS_in (List.mem_cons_of_mem _ List.mem_cons_self))
          exact ⟨_, _, _, _, _, _, cells, _, rfl, F4.trans ((FL10.trans (FrD.of sl)).list hL), (BL10.kd (KD.of sl)).upd, ⟨(G10.same mv).same rmS_sub, (T10.same mv).same rmS_sub, f1, lc6, f2⟩⟩
    rintro σ H3 ⟨k8, k9, k10, k11, k12, k13, cells, names, rfl, F3, B3, D3⟩
    refine ⟨_, rfl, rfl, _, rfl, ite2 (fun _ => ?_) (fun _ => q H3 cells names F3 B3 D3)⟩
    obtain ⟨⟨dx, hG⟩, _⟩ := id (D3.gd.same rmS_le)
    refine ⟨_, rfl, g.G, dx, _, rfl, hG, rfl, _, rfl, [b], g, cells, names, w, rfl, D3.gd, fun H4 kg kd G4 => ?_⟩
    have T4 := D3.td.kg ap kg kd
    have B4 := B3.kd kd
    have F4 := F3.trans (FrD.kg kg)
    obtain ⟨_, ⟨nvs, hNr, eN, lN⟩⟩ := id T4
    obtain ⟨nS, hN⟩ := rmS_some hNr
    obtain ⟨e1, e2⟩ := ents_get (fun _ _ => keyW_inj) eN w
    obtain ⟨f1, f2⟩ := D3.fn.gone (w := w) D3.ln (by omega)
    have ld := dropE_len names w
    refine ⟨_, rfl, nd, rfl, .inl ⟨nvs, .inl hN⟩, _, rfl, nvs, keyW w, hN, rfl, fun v ev => ?_, fun ev => ?_⟩
    · have T5 := T4.setN ap.cn (ents_drop (fun _ _ => keyW_inj) (k := w) eN) (by have := dropK_len nvs (keyW w); omega)
      have G5 := G4.updN (kvs' := dropK nvs (keyW w)) ap hNr
      rw [← rmS_upd nS] at T5 G5
      exact q _ cells (dropE names w) (F4.trans FrD.updN) (B4.kd (KD.put hN rfl)) ⟨G5, T5, f1, D3.lc, by have := D3.ln; omega⟩
    · have no : getE names w = none := by
        cases hg : getE names w with
        | none => rfl
        | some b =>
          obtain ⟨v, e3, _⟩ := e2 b hg
          rw [e3] at ev
          cases ev
      rw [dropE_no no] at G4
      exact q _ cells names F4 B4 ⟨G4, T4, D3.fn, D3.lc, D3.ln⟩
/-! ### a copied dict -/
section
variable {κ : Type} [DecidableEq κ]
theorem valV_mem : ∀ {kvs : List (κ × V)}, (kvs.map Prod.fst).Nodup → ∀ e ∈ kvs, valV kvs e.1 = some e.2
  | [], _, e, h => nomatch h
  | d :: D, nd, e, h => by
    obtain ⟨n1, n2⟩ := List.nodup_cons.mp nd
    rcases List.mem_cons.mp h with z | z
    · rw [z]
      simp [valV]
    · have ne : d.1 ≠ e.1 := fun y => n1 (by rw [y]; exact List.mem_map.mpr ⟨e, z, rfl⟩)
      have ih := valV_mem n2 e z
      simp [valV, ne] at ih ⊢
      exact ih
theorem putK_new {kvs : List (κ × V)} {k : κ} {v : V} (h : ∀ e ∈ kvs, e.1 ≠ k) : putK kvs k v = kvs ++ [(k, v)] := by
  unfold putK
  rw [if_neg]
  rw [List.any_eq_true]
  rintro ⟨e, he, z⟩
  exact h e he (of_decide_eq_true z)
end
def spCopied (K : PySem.W.Frag) : Sp := fun vs H Q _ => ∃ (a : Addr), vs = [.ref a] ∧ ((∃ kvs, H a = some (.dT kvs) ∧ (kvs.map Prod.fst).Nodup ∧ kvs.length ≤ 900 ∧ ∀ p H', Same H H' → H p = none → H' p = some (.dT kvs) → Q (.ref p) H') ∨
  ∃ kvs, H a = some (.dK kvs) ∧ (kvs.map Prod.fst).Nodup ∧ kvs.length ≤ 900 ∧ ∀ p H', Same H H' → H p = none → H' p = some (.dK kvs) → Q (.ref p) H')
theorem okLawCopied (T : Txt K mg) : FnOk P w K mg base CX0 1 T.fLawCopied T.fdLawCopied ["table"] (spCopied K) := by
  refine T.FLawCopied.ok scLawCopied (fun vs H Q E h => ?_) (fun cdv A outer s H vs Q E hr h => ?_)
  · obtain ⟨a, rfl, _⟩ := h
    rfl
  · obtain ⟨a, rfl, h⟩ := h
    rcases h with ⟨kvs, ha, nd, hl, q⟩ | ⟨kvs, ha, nd, hl, q⟩
    · skip
      -- slots table=0 copy=1 key=2
      refine ⟨_, (pss_cons (ps_set (i := 1) scLawCopied.nd rfl (Or.inl rfl) pe_dnewT)
          (pss_cons (ps_lock (ps_for PassesOwn.never rfl (pi_keys (pv 0)) (pg_name (i := 2) scLawCopied.nd rfl (Or.inl rfl))
            (pss_one (ps_dput (units2 hr) (pv 1) (pv 2) (pe_dget (units2 hr) (pv 0) (pv 2) (fun _ _ => rfl)) rfl))))
          (pss_one (ps_ret (pv 1))))), ?_⟩
      refine fun p hp => ?_
      have s1 := same_new (o := .dT []) hp
      have npa : a ≠ p := ne_of_none ha hp
      have hp1 : (upd H p (.dT [])) p = some (.dT []) := upd_same
      have ha1 := s1 _ _ ha
      generalize upd H p (.dT []) = H1 at s1 hp1 ha1
      refine ⟨a, _, ha1, trivial, fun od => ?_⟩
      have tf : ∀ c u, H c = some u → c ≠ a → (upd H1 a (.frz od (.dT kvs))) c = some u := fun c u e n => by
        rw [upd_ne n]
        exact s1 _ _ e
      refine ⟨_, rfl, a, od, rfl, .inr ⟨kvs, upd_same, for_it (walk_keysT (d := a) (o := od) (kvs := kvs)) (fun j σ H' => ∃ c2 : Option V, σ = [some (.ref a), some (.ref p), c2] ∧ (∀ c u, H c = some u → c ≠ a → H' c = some u) ∧ H' a = some (.frz od (.dT kvs)) ∧ H' p = some (.dT (kvs.take j))) ⟨_, rfl, tf, upd_same, by rw [upd_ne npa.symm]; exact hp1⟩ (fun j σ H' _ ⟨_, _, _, h, _⟩ => h) ?_ ?_⟩⟩
      · rintro j y σ H2 H3 hj ⟨c2, rfl, k1, k2, k3⟩ ⟨rfl, k, v, q0, hkv, rfl, hq⟩
        have em := List.mem_of_getElem? hkv
        have ev := valV_mem nd _ em
        have dg : DGet H3 a (.ref q0) (some v) := by
          rw [← ev]
          exact .inr ⟨kvs, k, q0, .inr ⟨od, k2⟩, rfl, hq, rfl⟩
        obtain ⟨tn, te⟩ := take_new nd hkv
        refine ⟨_, rfl, _, rfl, a, v, rfl, dg, _, rfl, _, rfl, p, _, rfl, DPut.t (k := k) k3 hq (small1000 (by rw [List.length_take]; omega)), ?_⟩
        refine ⟨_, rfl, fun c u e n => ?_, ?_, ?_⟩
        · rw [upd_ne (ne_of_none e hp)]
          exact k1 c u e n
        · rw [upd_ne npa]
          exact k2
        · rw [upd_same, putK_new tn, te]
      · rintro σ H2 ⟨c2, rfl, k1, k2, k3⟩
        rw [List.take_of_length_le (Nat.le_refl _)] at k3
        refine ⟨k2, ?_⟩
        refine ⟨_, rfl, q p _ (fun c u e => ?_) hp (by rw [upd_ne npa.symm]; exact k3)⟩
        by_cases z : c = a
        · rw [z, upd_same]
          rw [z, ha] at e
          exact e
        · rw [upd_ne z]
          exact k1 c u e z
    · skip
      -- slots table=0 copy=1 key=2
      refine ⟨_, (pss_cons (ps_set (i := 1) scLawCopied.nd rfl (Or.inl rfl) pe_dnewK)
          (pss_cons (ps_lock (ps_for PassesOwn.never rfl (pi_keys (pv 0)) (pg_name (i := 2) scLawCopied.nd rfl (Or.inl rfl))
            (pss_one (ps_dput (units2 hr) (pv 1) (pv 2) (pe_dget (units2 hr) (pv 0) (pv 2) (fun _ _ => rfl)) rfl))))
          (pss_one (ps_ret (pv 1))))), ?_⟩
      refine fun p hp => ?_
      have s1 := same_new (o := .dK []) hp
      have npa : a ≠ p := ne_of_none ha hp
      have hp1 : (upd H p (.dK [])) p = some (.dK []) := upd_same
      have ha1 := s1 _ _ ha
      generalize upd H p (.dK []) = H1 at s1 hp1 ha1
      refine ⟨a, _, ha1, trivial, fun od => ?_⟩
      have tf : ∀ c u, H c = some u → c ≠ a → (upd H1 a (.frz od (.dK kvs))) c = some u := fun c u e n => by
        rw [upd_ne n]
        exact s1 _ _ e
      refine ⟨_, rfl, a, od, rfl, .inl ⟨kvs, upd_same, for_it (walk_keys (d := a) (o := od) (kvs := kvs)) (fun j σ H' => ∃ c2 : Option V, σ = [some (.ref a), some (.ref p), c2] ∧ (∀ c u, H c = some u → c ≠ a → H' c = some u) ∧ H' a = some (.frz od (.dK kvs)) ∧ H' p = some (.dK (kvs.take j))) ⟨_, rfl, tf, upd_same, by rw [upd_ne npa.symm]; exact hp1⟩ (fun j σ H' _ ⟨_, _, _, h, _⟩ => h) ?_ ?_⟩⟩
      · rintro j y σ H2 H3 hj ⟨c2, rfl, k1, k2, k3⟩ ⟨rfl, k, v, hkv, rfl⟩
        have em := List.mem_of_getElem? hkv
        have ev := valV_mem nd _ em
        have dg : DGet H3 a (kV k) (some v) := by
          rw [← ev]
          exact .inl ⟨kvs, k, .inr ⟨od, k2⟩, rfl, rfl⟩
        obtain ⟨tn, te⟩ := take_new nd hkv
        refine ⟨_, rfl, _, rfl, a, v, rfl, dg, _, rfl, _, rfl, p, _, rfl, DPut.k (k := k) k3 (small1000 (by rw [List.length_take]; omega)), ?_⟩
        refine ⟨_, rfl, fun c u e n => ?_, ?_, ?_⟩
        · rw [upd_ne (ne_of_none e hp)]
          exact k1 c u e n
        · rw [upd_ne npa]
          exact k2
        · rw [upd_same, putK_new tn, te]
      · rintro σ H2 ⟨c2, rfl, k1, k2, k3⟩
        rw [List.take_of_length_le (Nat.le_refl _)] at k3
        refine ⟨k2, ?_⟩
        refine ⟨_, rfl, q p _ (fun c u e => ?_) hp (by rw [upd_ne npa.symm]; exact k3)⟩
        by_cases z : c = a
        · rw [z, upd_same]
          rw [z, ha] at e
          exact e
        · rw [upd_ne z]
          exact k1 c u e z
/-! ### the law -/
theorem eqE_self {κ β : Type} [DecidableEq κ] {v : β → PyData} {D : List (κ × β)} (nd : (D.map Prod.fst).Nodup) (sh : ∀ e ∈ D, SeqAt.shaped (v e.2) = true) : eqE v D D = true := by
  unfold eqE
  rw [Bool.and_eq_true, List.all_eq_true]
  refine ⟨beq_self_eq_true _, fun e he => ?_⟩
  rw [getE_mem nd e he]
  exact eqv_same (sh e he)
theorem nodup_inj {α β : Type} {f : α → β} (hf : ∀ a b, f a = f b → a = b) {l : List α} (h : l.Nodup) : (l.map f).Nodup := List.pairwise_map.mpr (h.imp fun n z => n (hf _ _ z))
section
variable {K : PySem.W.Frag} {C : Addr} {H H' : Hp} {g o : Gr} {cd nd md td b : Addr} {cells cells' : Cells} {names names' : Names}
theorem LAt.unbox {v : V} {ds : List PyData} (B : Box H b) (h : LAt K H v ds) : LAt K (rmS [b] H) v ds := by
  obtain ⟨l, us, rfl, hl, dt⟩ := h
  refine ⟨l, us, rfl, ?_, dt.tt (Ls.one B).tt⟩
  rw [rmS_of fun z => ?_]
  · exact hl
  · rw [List.mem_singleton.mp z] at hl
    obtain ⟨d, es, i, h1, h2, _⟩ := B
    rw [h1] at hl
    have e := HO.lst.inj (Option.some.inj hl)
    rw [← e] at dt
    cases dt with
    | cons x _ =>
      cases x with
      | tup h _ =>
        rw [h2] at h
        cases h
theorem NAt.unbox {v : V} {d : Option (List PyData)} (B : Box H b) (h : NAt K H v d) : NAt K (rmS [b] H) v d := by
  cases d with
  | none => exact h
  | some ds => exact LAt.unbox (K := K) B h
theorem Box.not {a : Addr} {u : HO} (B : Box H b) (h : H a = some u) (n : ∀ us, u ≠ .lst us) : a ∉ [b] := fun z => by
  rw [List.mem_singleton.mp z] at h
  obtain ⟨d, es, i, h1, _⟩ := B
  rw [h1] at h
  exact n _ (Option.some.inj h).symm
theorem GD.unbox (B : Box H b) (G : GD K C H g cells names) : GD K C (rmS [b] H) g cells names := by
  obtain ⟨⟨dx, h1⟩, ⟨kvs, h2, h3, h4⟩, ⟨nvs, h5, h6, h7⟩⟩ := G
  refine ⟨⟨dx, (rmS_of (B.not h1 fun _ z => by cases z)).trans h1⟩, ⟨kvs, (rmS_of (B.not h2 fun _ z => by cases z)).trans h2, h3.imp fun kv e hh => ⟨hh.1, LAt.unbox (K := K) B hh.2⟩, h4⟩, ⟨nvs, (rmS_of (B.not h5 fun _ z => by cases z)).trans h5, h6.imp fun kv e hh => ⟨hh.1, NAt.unbox (K := K) B hh.2⟩, h7⟩⟩
theorem TD.unbox (B : Box H b) (D : TD K H cd nd cells names) : TD K (rmS [b] H) cd nd cells names := by
  obtain ⟨⟨kvs, h2, h3, h4⟩, ⟨nvs, h5, h6, h7⟩⟩ := D
  refine ⟨⟨kvs, (rmS_of (B.not h2 fun _ z => by cases z)).trans h2, h3.imp fun kv e hh => ⟨hh.1, LAt.unbox (K := K) B hh.2⟩, h4⟩, ⟨nvs, (rmS_of (B.not h5 fun _ z => by cases z)).trans h5, h6.imp fun kv e hh => ⟨hh.1, NAt.unbox (K := K) B hh.2⟩, h7⟩⟩
/-- two grids and their tables do not share dicts -/
structure Ap2 (g : Gr) (cd nd : Addr) (o : Gr) (md td : Addr) : Prop where
  a1 : g.cd ≠ o.cd
  a2 : g.cd ≠ md
  a3 : g.nd ≠ o.nd
  a4 : g.nd ≠ td
  a5 : cd ≠ o.cd
  a6 : cd ≠ md
  a7 : nd ≠ o.nd
  a8 : nd ≠ td
theorem keep2 (F : FrD b o md td H H') (Go : GD K C (rmS [b] H) o cells' names') (To : TD K (rmS [b] H) md td cells' names') (a : Ap2 g cd nd o md td) (G : GD K C (rmS [b] H) g cells names) (D : TD K (rmS [b] H) cd nd cells names) :
    GD K C (rmS [b] H') g cells names ∧ TD K (rmS [b] H') cd nd cells names := by
  obtain ⟨_, ⟨k1, o1, _⟩, ⟨k2, o2, _⟩⟩ := Go
  obtain ⟨⟨k3, o3, _⟩, ⟨k4, o4, _⟩⟩ := To
  have key : ∀ c u, (rmS [b] H) c = some u → c ≠ o.cd → c ≠ o.nd → c ≠ md → c ≠ td → (rmS [b] H') c = some u := fun c u h n1 n2 n3 n4 => by
    obtain ⟨n, e⟩ := rmS_some h
    rw [rmS_of n]
    exact F c u (fun z => n (List.mem_singleton.mpr z)) n1 n2 n3 n4 e
  have ty : ∀ {c : Addr} {u u' : HO} {x : Addr}, (rmS [b] H) c = some u → (rmS [b] H) x = some u' → u ≠ u' → c ≠ x := fun h1 h2 n z => by
    rw [z, h2] at h1
    exact n (Option.some.inj h1).symm
  have kd : KD (rmS [b] H) (rmS [b] H') := fun c u d h => key c u h (ty h o1 (by rintro rfl; cases d)) (ty h o2 (by rintro rfl; cases d)) (ty h o3 (by rintro rfl; cases d)) (ty h o4 (by rintro rfl; cases d))
  obtain ⟨⟨dx, h1⟩, ⟨kvs, h2, h3, h4⟩, ⟨nvs, h5, h6, h7⟩⟩ := G
  obtain ⟨⟨kv2, g2, g3, g4⟩, ⟨nv2, g5, g6, g7⟩⟩ := D
  exact ⟨⟨⟨dx, kd _ _ rfl h1⟩, ⟨kvs, key _ _ h2 a.a1 (ty h2 o2 (by simp)) a.a2 (ty h2 o4 (by simp)), ents_kd kd h3, h4⟩, ⟨nvs, key _ _ h5 (ty h5 o1 (by simp)) a.a3 (ty h5 o3 (by simp)) a.a4, entsN_kd kd h6, h7⟩⟩,
    ⟨⟨kv2, key _ _ g2 a.a5 (ty g2 o2 (by simp)) a.a6 (ty g2 o4 (by simp)), ents_kd kd g3, g4⟩, ⟨nv2, key _ _ g5 (ty g5 o1 (by simp)) a.a7 (ty g5 o3 (by simp)) a.a8, entsN_kd kd g6, g7⟩⟩⟩
theorem lat_dp {kvs : List (List Key × V)} (h : Ents idK (LAt K H) kvs cells) : Ents idK (DpAs K H PyData.list) kvs cells := h.imp fun kv e hh => ⟨hh.1, by
  obtain ⟨l, us, e, hl, dt⟩ := hh.2
  rw [e]
  exact .lst (SqL.of hl) dt.dp⟩
theorem nat_dp {nvs : List (Key × V)} (h : Ents keyW (NAt K H) nvs names) : Ents keyW (DpAs K H nmD) nvs names := h.imp fun kv e hh => ⟨hh.1, by
  have hv := hh.2
  unfold DpAs
  cases he : e.2 with
  | none =>
    rw [he] at hv
    have hv : kv.2 = .non := hv
    rw [hv]
    exact .non
  | some ds =>
    rw [he] at hv
    obtain ⟨l, us, e, hl, dt⟩ := hv
    rw [e]
    exact .lst (SqL.of hl) dt.dp⟩
/-- a new grid of nothing -/
theorem new_grid {x dy : Addr} {o : Gr} {H1 : Hp} (hx : H x = none) (hdy : H dy = none) (hne : dy ≠ x) (eo : o.G = x) (s1 : Same (rmG (upd (upd H dy (HO.own x)) x (HO.ins C dy [])) x) H1) (n1 : rmG (upd (upd H dy (HO.own x)) x (HO.ins C dy [])) x o.cd = none) (n2 : rmG (upd (upd H dy (HO.own x)) x (HO.ins C dy [])) x o.nd = none) (Go : GD K C H1 o [] []) :
    Same H H1 ∧ H o.G = none ∧ H o.cd = none ∧ H o.nd = none := by
  obtain ⟨o1, o2, o3⟩ := Go.ne
  have s0 : Same H H1 := fun b u e => by
    have m1 : b ≠ x := ne_of_none e hx
    have m2 : b ≠ dy := ne_of_none e hdy
    refine s1 b u ?_
    show (if b = x then none else _) = _
    rw [if_neg m1, upd_ne m1, upd_ne m2]
    exact e
  have free : ∀ {b : Addr}, b ≠ x → rmG (upd (upd H dy (HO.own x)) x (HO.ins C dy [])) x b = none → H b = none := fun {b} m1 e => by
    have e : (if b = x then none else (upd (upd H dy (HO.own x)) x (HO.ins C dy [])) b) = none := e
    rw [if_neg m1, upd_ne m1] at e
    by_cases z : b = dy
    · rw [z, upd_same] at e
      cases e
    · rw [upd_ne z] at e
      exact e
  exact ⟨s0, by rw [eo]; exact hx, free (by rw [← eo]; exact o1) n1, free (by rw [← eo]; exact o2) n2⟩
end
def spLaw (K : PySem.W.Frag) : Sp := fun vs H Q _ => ∃ (a : Addr) (ns : List Int), vs = [.ref a] ∧ SqL K H a (ns.map V.int) ∧ ns.length ≤ 63 ∧ ∀ H', Q (.bl true) H'
theorem okLaw (T : Txt K mg) : FnOk P w K mg base CX0 6 T.fLaw T.fdLaw ["script"] (spLaw K) := by
  refine T.FLaw.ok scLaw (fun vs H Q E h => ?_) (fun cdv A outer s H vs Q E hr h => ?_)
  · obtain ⟨a, ns, rfl, _⟩ := h
    rfl
  · obtain ⟨a, ns, rfl, hS, hlen, q⟩ := h
    -- slots script=0 box=1 rows=2 columns=3 grid=4 cells=5 names=6 turn=7 other=8 more=9 told=10
    refine ⟨_, (pss_cons (ps_set (i := 1) scLaw.nd rfl (Or.inl rfl) (pe_lst (pa_cons (pe_call (okLawDigits T) (hr.mono (by decide)) (by rfl) T.gLawDigits T.FLawDigits.kp T.bLawDigits .nil pass0 (pa_cons (pv 0) (pa_cons pe_int (pa_cons pe_int pa_nil)))) (pa_cons pe_int pa_nil))))
        (pss_cons (ps_set (i := 2) scLaw.nd rfl (Or.inl rfl) (pe_call (okLawDraw T) (hr.mono (by decide)) (by rfl) T.gLawDraw T.FLawDraw.kp T.bLawDraw .nil pass0 (pa_cons (pv 1) (pa_cons pe_int pa_nil))))
        (pss_cons (ps_set (i := 3) scLaw.nd rfl (Or.inl rfl) (pe_call (okLawDraw T) (hr.mono (by decide)) (by rfl) T.gLawDraw T.FLawDraw.kp T.bLawDraw .nil pass0 (pa_cons (pv 1) (pa_cons pe_int pa_nil))))
        (pss_cons (ps_set (i := 4) scLaw.nd rfl (Or.inl rfl) (pe_make T.mkGrid (okGrid_Init T) (hr.mono (by decide)) (by rfl) T.gKGrid T.bGrid_Init .nil pass0 (pa_cons (pv 2) (pa_cons (pv 3) pa_nil))))
        (pss_cons (ps_set (i := 5) scLaw.nd rfl (Or.inl rfl) pe_dnewT)
        (pss_cons (ps_set (i := 6) scLaw.nd rfl (Or.inl rfl) pe_dnewK)
        (pss_cons (ps_for PassesOwn.never rfl (pi_range1 rfl T.z_range (pa_cons (pe_call (okLawDraw T) (hr.mono (by decide)) (by rfl) T.gLawDraw T.FLawDraw.kp T.bLawDraw .nil pass0 (pa_cons (pv 1) (pa_cons pe_int pa_nil))) pa_nil)) (pg_name (i := 7) scLaw.nd rfl (Or.inl rfl))
          (pss_one (ps_expr (pe_call (okLawDeed T) (hr.mono (by decide)) (by rfl) T.gLawDeed T.FLawDeed.kp T.bLawDeed .nil pass0 (pa_cons (pv 1) (pa_cons (pv 4) (pa_cons (pv 2) (pa_cons (pv 3) (pa_cons (pv 5) (pa_cons (pv 6) pa_nil))))))))))
        (pss_cons (ps_if (pt_not (pt_val (pe_call (okLawSameGrid T) (hr.mono (by decide)) (by rfl) T.gLawSameGrid T.FLawSameGrid.kp T.bLawSameGrid .nil pass0 (pa_cons (pv 4) (pa_cons (pv 2) (pa_cons (pv 3) (pa_cons (pv 5) (pa_cons (pv 6) pa_nil))))))))
          (pss_one (ps_ret pe_bl))
          pss_nil)
        (pss_cons (ps_set (i := 8) scLaw.nd rfl (Or.inl rfl) (pe_meth0 (pv 4) T.clGrid T.meGrid_Copy (okGrid_Copy T) (hr.mono (by decide)) T.bGrid_Copy .nil pass0))
        (pss_cons (ps_set (i := 9) scLaw.nd rfl (Or.inl rfl) (pe_call (okLawCopied T) (hr.mono (by decide)) (by rfl) T.gLawCopied T.FLawCopied.kp T.bLawCopied .nil pass0 (pa_cons (pv 5) pa_nil)))
        (pss_cons (ps_set (i := 10) scLaw.nd rfl (Or.inl rfl) (pe_call (okLawCopied T) (hr.mono (by decide)) (by rfl) T.gLawCopied T.FLawCopied.kp T.bLawCopied .nil pass0 (pa_cons (pv 6) pa_nil)))
        (pss_cons (ps_if (PW.pt (pw_or (pt_not (pt_val (pe_call (okLawSame T 3) (hr.mono (by decide)) (by rfl) T.gLawSame T.FLawSame.kp T.bLawSame .nil pass0 (pa_cons (pe_call (okSame T) (hr.mono (by decide)) (by rfl) T.gSame T.FSame.kp T.bSame .nil pass0 (pa_cons (pv 4) (pa_cons (pv 8) pa_nil))) (pa_cons pe_bl pa_nil))))) (pw_or1 (pt_not (pt_val (pe_call (okLawSame T 3) (hr.mono (by decide)) (by rfl) T.gLawSame T.FLawSame.kp T.bLawSame .nil pass0 (pa_cons (pe_call (okSame T) (hr.mono (by decide)) (by rfl) T.gSame T.FSame.kp T.bSame .nil pass0 (pa_cons (pv 4) (pa_cons (pe_make T.mkGrid (okGrid_Init T) (hr.mono (by decide)) (by rfl) T.gKGrid T.bGrid_Init .nil pass0 (pa_cons (pv 2) (pa_cons (pe_op op_add (pv 3) pe_int) pa_nil))) pa_nil))) (pa_cons pe_bl pa_nil))))))))
          (pss_one (ps_ret pe_bl))
          pss_nil)
        (pss_cons (ps_for PassesOwn.never rfl (pi_range1 rfl T.z_range (pa_cons (pe_op op_add pe_int (pe_call (okLawDraw T) (hr.mono (by decide)) (by rfl) T.gLawDraw T.FLawDraw.kp T.bLawDraw .nil pass0 (pa_cons (pv 1) (pa_cons pe_int pa_nil)))) pa_nil)) (pg_name (i := 7) scLaw.nd rfl (Or.inl rfl))
          (pss_one (ps_expr (pe_call (okLawDeed T) (hr.mono (by decide)) (by rfl) T.gLawDeed T.FLawDeed.kp T.bLawDeed .nil pass0 (pa_cons (pv 1) (pa_cons (pv 8) (pa_cons (pv 2) (pa_cons (pv 3) (pa_cons (pv 9) (pa_cons (pv 10) pa_nil))))))))))
        (pss_cons (ps_if (pt_not (pt_val (pe_call (okLawSame T 3) (hr.mono (by decide)) (by rfl) T.gLawSame T.FLawSame.kp T.bLawSame .nil pass0 (pa_cons (pe_call (okSame T) (hr.mono (by decide)) (by rfl) T.gSame T.FSame.kp T.bSame .nil pass0 (pa_cons (pv 4) (pa_cons (pv 8) pa_nil))) (pa_cons (pe_and (pe_cmpR (op_eqT (vd := PyData.list) (fun _ _ => idK_inj) (units65 hr)) (pv 5) (pv 9) (nomark _)) (pe_one (pe_cmpR (op_eqK (vd := nmD) (fun _ _ => keyW_inj) (units65 hr)) (pv 6) (pv 10) (nomark _)))) pa_nil)))))
          (pss_one (ps_ret pe_bl))
          pss_nil)
        (pss_cons (ps_if (pt_not (pt_val (pe_call (okLawSameGrid T) (hr.mono (by decide)) (by rfl) T.gLawSameGrid T.FLawSameGrid.kp T.bLawSameGrid .nil pass0 (pa_cons (pv 8) (pa_cons (pv 2) (pa_cons (pv 3) (pa_cons (pv 9) (pa_cons (pv 10) pa_nil))))))))
          (pss_one (ps_ret pe_bl))
          pss_nil)
        (pss_one (ps_ret (pe_call (okLawSameGrid T) (hr.mono (by decide)) (by rfl) T.gLawSameGrid T.FLawSameGrid.kp T.bLawSameGrid .nil pass0 (pa_cons (pv 4) (pa_cons (pv 2) (pa_cons (pv 3) (pa_cons (pv 5) (pa_cons (pv 6) pa_nil))))))))))))))))))))))), ?_⟩
    refine ⟨_, rfl, a, ns, 0, 63, rfl, by decide, by decide, hS, fun H1 d0 ds s1 hdn hd0 _ => ⟨by show 2 ≤ sizeLine; decide, fun b hb => ?_⟩⟩
    have hb2 : b ≠ d0 := fun z => by
      rw [z, hd0] at hb
      cases hb
    have B0 : Box (upd H1 b (.lst [.ref d0, .int 0])) b := ⟨d0, ds, 0, upd_same, by rw [upd_ne hb2.symm]; exact hd0, hb2⟩
    generalize upd H1 b (.lst [.ref d0, .int 0]) = H2 at B0
    clear s1 hdn hd0 hb hb2 hS
    refine ⟨_, rfl, b, _, rfl, (by decide), B0, fun r H3 r0 r1 B3 _ => ?_⟩
    refine ⟨_, rfl, b, _, rfl, (by decide), B3, fun c H4 c0 c1 B4 _ => ?_⟩
    skip
    refine ⟨_, rfl, _, rfl, fun x dy hx hdy hne => ⟨x, dy, r, c, rfl, upd_same, fun g H5 eg er ec s1 n1 n2 G0 => ⟨rfl, ?_⟩⟩⟩
    obtain ⟨s5, f0, f1, f2⟩ := new_grid hx hdy hne eg s1 n1 n2 G0
    have B5 := B4.same s5
    subst er ec eg
    clear s1 n1 n2 f0 f1 f2 s5 hx hdy hne B4
    refine fun cd hcd => ?_
    refine fun nd hnd => ?_
    have a1 : cd ≠ g.cd := by
      obtain ⟨_, ⟨kvs, h2, _⟩, _⟩ := G0
      exact (ne_of_none h2 hcd).symm
    have u1 := same_new (o := .dT []) hcd
    have u2 := same_new (o := .dK []) hnd
    have u3 := u1.trans u2
    have a2 : nd ≠ g.nd := by
      obtain ⟨_, _, ⟨nvs, h2, _⟩⟩ := G0.same u1
      exact (ne_of_none h2 hnd).symm
    have T0 : TD K (upd (upd H5 cd (.dT [])) nd (.dK [])) cd nd [] [] := ⟨⟨[], u2 _ _ upd_same, RepP.nil, Nat.zero_le _⟩, ⟨[], upd_same, RepP.nil, Nat.zero_le _⟩⟩
    have G7 := G0.same u3
    have B7 := B5.same u3
    generalize upd (upd H5 cd (.dT [])) nd (.dK []) = H7 at T0 G7 B7
    clear u1 u2 u3 hcd hnd G0 B5
    have D7 : Dd K T.cGrid b g cd nd 0 0 H7 [] [] := ⟨G7.unbox B7, T0.unbox B7, Fn.nil, Nat.le_refl _, Nat.le_refl _⟩
    refine ⟨_, rfl, b, _, rfl, (by decide), B7, fun m H8 m0 m1 B8 k8 => ?_⟩
    have D8 := D7.kp k8
    refine ⟨_, rfl, by omega, by omega, for_range (lo := 0) (n := m.toNat) (fun i σ H' => ∃ k7 cells names, σ = [some (.ref a), some (.ref b), some (.int g.r), some (.int g.c), some (.ref g.G), some (.ref cd), some (.ref nd), k7, none, none, none] ∧ Box H' b ∧ Dd K T.cGrid b g cd nd i i H' cells names) ⟨_, _, _, rfl, B8, D8⟩ ?_ ?_⟩
    · rintro i σ H' hi ⟨k7, cells, names, rfl, B, D⟩
      exact ⟨_, rfl, _, rfl, _, rfl, _, rfl, _, rfl, _, rfl, b, g, cd, nd, i, cells, names, rfl, r0, by omega, c0, by omega, by omega, a1, a2, B, D, fun H9 cells' names' _ B9 D9 => ⟨_, cells', names', rfl, B9, D9⟩⟩
    rintro σ H' ⟨k7, cells, names, rfl, B, D⟩
    clear B8 D8 k8 D7 B7 G7 T0
    refine ⟨_, rfl, _, rfl, _, rfl, _, rfl, _, rfl, g, cells, names, cd, nd, rfl, r0, by omega, c0, by omega, D.gd.same rmS_le, D.td.same rmS_le, D.fn, fun H9 s9 => ⟨_, rfl, iteF ?_⟩⟩
    have B9 := B.same s9
    have D9 := D.kp (Kp.of s9)
    clear B D
    have G9 := D9.gd.same rmS_le
    obtain ⟨⟨dx, hG⟩, _⟩ := id G9
    refine ⟨_, rfl, g.G, dx, _, rfl, hG, rfl, g, cells, names, rfl, G9, D9.fn.g, fun o H10 er ec s10 f0 f1 f2 Go => ?_⟩
    have B10 := B9.same s10
    have D10 := D9.kp (Kp.of s10)
    have Go := Go.unbox B10
    have p1 : g.cd ≠ o.cd := by
      obtain ⟨_, ⟨kvs, h2, _⟩, _⟩ := G9
      exact ne_of_none h2 f1
    have p2 : g.nd ≠ o.nd := by
      obtain ⟨_, _, ⟨kvs, h2, _⟩⟩ := G9
      exact ne_of_none h2 f2
    have p3 : cd ≠ o.cd := by
      obtain ⟨⟨kvs, h2, _⟩, _⟩ := D9.td
      exact ne_of_none (rmS_some h2).2 f1
    have p4 : nd ≠ o.nd := by
      obtain ⟨_, ⟨kvs, h2, _⟩⟩ := D9.td
      exact ne_of_none (rmS_some h2).2 f2
    clear s10 f0 f1 f2 D9 B9 G9 hG
    obtain ⟨⟨kvs, hCr, eC, lC⟩, _⟩ := id D10.td
    have hC := (rmS_some hCr).2
    refine ⟨_, rfl, cd, rfl, .inl ⟨kvs, hC, by rw [ents_keys eC]; exact nodup_inj (fun _ _ => idK_inj) D10.fn.g.nc, lC, fun md H11 s11 hmd hmd1 => ?_⟩⟩
    have q1 : g.cd ≠ md := by
      obtain ⟨_, ⟨kvs, h2, _⟩, _⟩ := D10.gd
      exact ne_of_none (rmS_some h2).2 hmd
    have q2 : cd ≠ md := ne_of_none hC hmd
    have q3 : md ≠ o.cd := by
      obtain ⟨_, ⟨kvs, h2, _⟩, _⟩ := Go
      exact (ne_of_none (rmS_some h2).2 hmd).symm
    have B11 := B10.same s11
    have D11 := D10.kp (Kp.of s11)
    have Go11 := Go.same (rmS_kp (List.mem_singleton.mpr rfl) (Kp.of s11))
    have eC11 := ents_kd (rmS_kd (KD.of s11)) eC
    clear D10 B10 Go hCr hC eC
    obtain ⟨_, ⟨nvs, hNr, eN, lN⟩⟩ := id D11.td
    have hN := (rmS_some hNr).2
    refine ⟨_, rfl, nd, rfl, .inr ⟨nvs, hN, by rw [ents_keys eN]; exact nodup_inj (fun _ _ => keyW_inj) D11.fn.g.nn, lN, fun td H12 s12 htd htd1 => ?_⟩⟩
    have q4 : g.nd ≠ td := by
      obtain ⟨_, _, ⟨kvs, h2, _⟩⟩ := D11.gd
      exact ne_of_none (rmS_some h2).2 htd
    have q5 : nd ≠ td := ne_of_none hN htd
    have q6 : td ≠ o.nd := by
      obtain ⟨_, _, ⟨kvs, h2, _⟩⟩ := Go11
      exact (ne_of_none (rmS_some h2).2 htd).symm
    have B12 := B11.same s12
    have D12 := D11.kp (Kp.of s12)
    have Go12 := Go11.same (rmS_kp (List.mem_singleton.mpr rfl) (Kp.of s12))
    have T12 : TD K (rmS [b] H12) md td cells names := ⟨⟨kvs, (rmS_of (B12.not (s12 _ _ hmd1) fun _ z => by cases z)).trans (s12 _ _ hmd1), ents_kd (rmS_kd (KD.of s12)) eC11, lC⟩, ⟨nvs, (rmS_of (B12.not htd1 fun _ z => by cases z)).trans htd1, entsN_kd (rmS_kd (KD.of s12)) eN, lN⟩⟩
    have ap2 : Ap2 g cd nd o md td := ⟨p1, q1, p2, q4, p3, q2, p4, q5⟩
    clear D11 B11 Go11 hNr hN eN eC11 s11 s12 hmd hmd1 htd htd1
    have fn := D12.fn
    have ge1 : eqE PyData.list cells cells = true := eqE_self fn.g.nc fun e he => (fn.g.sh e he).1
    have ge2 : eqE nmD names names = true := eqE_self fn.g.nn fn.g.shn
    refine ⟨_, rfl, _, rfl, g, o, cells, cells, names, names, rfl, D12.gd.same rmS_le, Go12.same rmS_le, fn.g, fn.g, fun H13 s13 => ?_⟩
    rw [decide_eq_true (show g.r = o.r ∧ g.c = o.c from ⟨er.symm, ec.symm⟩), ge1, ge2]
    refine ⟨_, _, rfl, Lk.scal ⟨rfl, trivial⟩, _, rfl, iteF ?_⟩
    refine ⟨_, rfl, _, rfl, _, rfl, _, _, rfl, rfl, fun x dy hx hdy hne => ⟨x, dy, g.r, g.c + 1, rfl, upd_same, fun o2 H14 eg er2 ec2 s1 n1 n2 G2 => ⟨rfl, ?_⟩⟩⟩
    obtain ⟨s14, _, _, _⟩ := new_grid hx hdy hne eg s1 n1 n2 G2
    have s34 := s13.trans s14
    subst eg
    refine ⟨g, o2, cells, [], names, [], rfl, (D12.gd.same rmS_le).same s34, G2, fn.g, Fn.nil.g, fun H15 s15 => ?_⟩
    rw [decide_eq_false (show ¬ (g.r = o2.r ∧ g.c = o2.c) from fun z => by have := z.2; omega), Bool.false_and]
    refine ⟨_, _, rfl, Lk.scal ⟨rfl, trivial⟩, _, rfl, iteF ?_⟩
    have s25 := s34.trans s15
    have k25 : Kp b H12 H15 := Kp.of s25
    have B15 := B12.same s25
    have D15 := D12.kp k25
    have Go15 := Go12.same (rmS_kp (List.mem_singleton.mpr rfl) k25)
    have T15 := T12.same (rmS_kp (List.mem_singleton.mpr rfl) k25)
    clear s25 k25 s34 s14 s15 s13 B12 D12 Go12 T12 s1 n1 n2 hx hdy hne G2
    refine ⟨_, rfl, b, _, rfl, (by decide), B15, fun m2 H16 w0 w1 B16 k16 => ?_⟩
    have D16 := D15.kp k16
    have Do16 : Dd K T.cGrid b o md td (m.toNat + 0) (m.toNat + 0) H16 cells names := ⟨Go15.same (rmS_kp (List.mem_singleton.mpr rfl) k16), T15.same (rmS_kp (List.mem_singleton.mpr rfl) k16), fn, D16.lc, D16.ln⟩
    refine ⟨_, _, rfl, rfl, _, rfl, by omega, by omega, for_range (lo := 0) (n := (1 + m2).toNat) (fun i σ H' => ∃ k7 cells' names', σ = [some (.ref a), some (.ref b), some (.int g.r), some (.int g.c), some (.ref g.G), some (.ref cd), some (.ref nd), k7, some (.ref o.G), some (.ref md), some (.ref td)] ∧ Box H' b ∧ Dd K T.cGrid b o md td (m.toNat + i) (m.toNat + i) H' cells' names' ∧ GD K T.cGrid (rmS [b] H') g cells names ∧ TD K (rmS [b] H') cd nd cells names) ⟨_, _, _, rfl, B16, Do16, D16.gd, D16.td⟩ ?_ ?_⟩
    · rintro i σ H' hi ⟨k7, cells', names', rfl, B, D, G, Tg⟩
      refine ⟨_, rfl, _, rfl, _, rfl, _, rfl, _, rfl, _, rfl, b, o, md, td, m.toNat + i, cells', names', by rw [er, ec]; rfl, by rw [er]; exact r0, by rw [er]; omega, by rw [ec]; exact c0, by rw [ec]; omega, by omega, q3, q6, B, D, fun H9 cells'' names'' F9 B9 D9 => ?_⟩
      obtain ⟨G9, T9⟩ := keep2 F9 D.gd D.td ap2 G Tg
      exact ⟨_, cells'', names'', rfl, B9, D9, G9, T9⟩
    rintro σ H' ⟨k7, cells', names', rfl, B, D, G, Tg⟩
    have fn' := D.fn
    obtain ⟨⟨kvs1, hCr, eC, lC⟩, ⟨nvs1, hNr, eN, lN⟩⟩ := id Tg
    obtain ⟨⟨kvs2, hCr2, eC2, lC2⟩, ⟨nvs2, hNr2, eN2, lN2⟩⟩ := id D.td
    refine ⟨_, rfl, _, rfl, g, o, cells, cells', names, names', rfl, G.same rmS_le, D.gd.same rmS_le, fn.g, fn'.g, fun H17 s17 => ?_⟩
    rw [decide_eq_true (show g.r = o.r ∧ g.c = o.c from ⟨er.symm, ec.symm⟩), Bool.true_and]
    have lift : ∀ {c : Addr} {u : HO}, (rmS [b] H') c = some u → H17 c = some u := fun h => s17 _ _ (rmS_some h).2
    have up : Same (rmS [b] H') H17 := fun _ _ h => lift h
    refine ⟨_, rfl, _, rfl, cd, md, kvs1, kvs2, cells, cells', rfl, rfl, lift hCr, lift hCr2, lat_dp (ents_kd (KD.of up) eC), lat_dp (ents_kd (KD.of up) eC2), fun e he => (fn.g.sh e he).1, fun e he => (fn'.g.sh e he).1, _, rfl, ?_⟩
    have B17 := B.same s17
    have D17 := D.kp (Kp.of s17)
    have G17 := G.same (rmS_kp (List.mem_singleton.mpr rfl) (Kp.of s17))
    have T17 := Tg.same (rmS_kp (List.mem_singleton.mpr rfl) (Kp.of s17))
    cases e1 : eqE PyData.list cells cells' with
    | false =>
      refine iteF ⟨_, _, rfl, Lk.scal ⟨rfl, trivial⟩, _, rfl, iteF ?_⟩
      · skip
        refine ⟨_, rfl, _, rfl, _, rfl, _, rfl, _, rfl, o, cells', names', md, td, by rw [er, ec]; rfl, by rw [er]; exact r0, by rw [er]; omega, by rw [ec]; exact c0, by rw [ec]; omega, D17.gd.same rmS_le, D17.td.same rmS_le, fn', fun H18 s18 => ⟨_, rfl, iteF ?_⟩⟩
        exact ⟨_, rfl, _, rfl, _, rfl, _, rfl, _, rfl, g, cells, names, cd, nd, rfl, r0, by omega, c0, by omega, (G17.same rmS_le).same s18, (T17.same rmS_le).same s18, fn, fun H19 _ => q _⟩
    | true =>
      refine iteT ⟨_, rfl, _, rfl, nd, td, nvs1, nvs2, names, names', rfl, rfl, lift hNr, lift hNr2, nat_dp (entsN_kd (KD.of up) eN), nat_dp (entsN_kd (KD.of up) eN2), fn.g.shn, fn'.g.shn, ?_⟩
      refine ⟨_, _, rfl, Lk.scal ⟨by rw [Bool.true_and], trivial⟩, _, rfl, iteF ?_⟩
      · skip
        refine ⟨_, rfl, _, rfl, _, rfl, _, rfl, _, rfl, o, cells', names', md, td, by rw [er, ec]; rfl, by rw [er]; exact r0, by rw [er]; omega, by rw [ec]; exact c0, by rw [ec]; omega, D17.gd.same rmS_le, D17.td.same rmS_le, fn', fun H18 s18 => ⟨_, rfl, iteF ?_⟩⟩
        exact ⟨_, rfl, _, rfl, _, rfl, _, rfl, _, rfl, g, cells, names, cd, nd, rfl, r0, by omega, c0, by omega, (G17.same rmS_le).same s18, (T17.same rmS_le).same s18, fn, fun H19 _ => q _⟩
end
set_option maxHeartbeats 0 in
theorem all_mk {l : PySem.W.OpenLaw} {w : World} {K : PySem.W.Frag} {h : Heap} {mg : Str → Option Value} {fa f1 f2 f3 f4 f5 f6 f7 f8 f9 f10 f11 : Addr} (X : K.In h) (G : h.Ns mainGlobals mg) (hfa : mg "law" = some (.ref fa))
    {od1 an1 od2 an2 od3 an3 od4 an4 od5 an5 od6 an6 od7 an7 od8 an8 od9 an9 od10 an10 od11 an11 : Option Addr} {sl1 sl2 sl3 sl4 sl5 sl6 sl7 sl8 sl9 sl10 sl11 : Array (Option Value)} {oc1 kV1 dc1 pm1 cd1 ct1 oc2 kV2 dc2 pm2 cd2 ct2 oc3 kV3 dc3 pm3 cd3 ct3 oc4 kV4 dc4 pm4 cd4 ct4 oc5 kV5 dc5 pm5 cd5 ct5 oc6 kV6 dc6 pm6 cd6 ct6 oc7 kV7 dc7 pm7 cd7 ct7 oc8 kV8 dc8 pm8 cd8 ct8 oc9 kV9 dc9 pm9 cd9 ct9 oc10 kV10 dc10 pm10 cd10 ct10 oc11 kV11 dc11 pm11 cd11 ct11 : Value}
    (a1 : PySem.W.nsIn K mainGlobals "same" = some (some (.ref f1))) (l1 : K.lookup f1 = some ⟨oc1, od1, .func (PySem.W.fnOf "same" "same" (defArgs sSame) (defBody sSame) (defScope sSame) .none kV1 dc1 pm1 an1 cd1 ct1), sl1⟩) (c1 : PySem.W.codeIn K cd1 "same" = true) (k1 : PySem.W.keepIn K (.ref f1) = true)
    (a2 : PySem.W.nsIn K mainGlobals "_law_cell" = some (some (.ref f2))) (l2 : K.lookup f2 = some ⟨oc2, od2, .func (PySem.W.fnOf "_law_cell" "_law_cell" (defArgs sLawCell) (defBody sLawCell) (defScope sLawCell) .none kV2 dc2 pm2 an2 cd2 ct2), sl2⟩) (c2 : PySem.W.codeIn K cd2 "_law_cell" = true) (k2 : PySem.W.keepIn K (.ref f2) = true)
    (a3 : PySem.W.nsIn K mainGlobals "_law_digits" = some (some (.ref f3))) (l3 : K.lookup f3 = some ⟨oc3, od3, .func (PySem.W.fnOf "_law_digits" "_law_digits" (defArgs sLawDigits) (defBody sLawDigits) (defScope sLawDigits) .none kV3 dc3 pm3 an3 cd3 ct3), sl3⟩) (c3 : PySem.W.codeIn K cd3 "_law_digits" = true) (k3 : PySem.W.keepIn K (.ref f3) = true)
    (a4 : PySem.W.nsIn K mainGlobals "_law_draw" = some (some (.ref f4))) (l4 : K.lookup f4 = some ⟨oc4, od4, .func (PySem.W.fnOf "_law_draw" "_law_draw" (defArgs sLawDraw) (defBody sLawDraw) (defScope sLawDraw) .none kV4 dc4 pm4 an4 cd4 ct4), sl4⟩) (c4 : PySem.W.codeIn K cd4 "_law_draw" = true) (k4 : PySem.W.keepIn K (.ref f4) = true)
    (a5 : PySem.W.nsIn K mainGlobals "_law_same" = some (some (.ref f5))) (l5 : K.lookup f5 = some ⟨oc5, od5, .func (PySem.W.fnOf "_law_same" "_law_same" (defArgs sLawSame) (defBody sLawSame) (defScope sLawSame) .none kV5 dc5 pm5 an5 cd5 ct5), sl5⟩) (c5 : PySem.W.codeIn K cd5 "_law_same" = true) (k5 : PySem.W.keepIn K (.ref f5) = true)
    (a6 : PySem.W.nsIn K mainGlobals "_law_shown" = some (some (.ref f6))) (l6 : K.lookup f6 = some ⟨oc6, od6, .func (PySem.W.fnOf "_law_shown" "_law_shown" (defArgs sLawShown) (defBody sLawShown) (defScope sLawShown) .none kV6 dc6 pm6 an6 cd6 ct6), sl6⟩) (c6 : PySem.W.codeIn K cd6 "_law_shown" = true) (k6 : PySem.W.keepIn K (.ref f6) = true)
    (a7 : PySem.W.nsIn K mainGlobals "_law_areas" = some (some (.ref f7))) (l7 : K.lookup f7 = some ⟨oc7, od7, .func (PySem.W.fnOf "_law_areas" "_law_areas" (defArgs sLawAreas) (defBody sLawAreas) (defScope sLawAreas) .none kV7 dc7 pm7 an7 cd7 ct7), sl7⟩) (c7 : PySem.W.codeIn K cd7 "_law_areas" = true) (k7 : PySem.W.keepIn K (.ref f7) = true)
    (a8 : PySem.W.nsIn K mainGlobals "_law_same_grid" = some (some (.ref f8))) (l8 : K.lookup f8 = some ⟨oc8, od8, .func (PySem.W.fnOf "_law_same_grid" "_law_same_grid" (defArgs sLawSameGrid) (defBody sLawSameGrid) (defScope sLawSameGrid) .none kV8 dc8 pm8 an8 cd8 ct8), sl8⟩) (c8 : PySem.W.codeIn K cd8 "_law_same_grid" = true) (k8 : PySem.W.keepIn K (.ref f8) = true)
    (a9 : PySem.W.nsIn K mainGlobals "_law_deed" = some (some (.ref f9))) (l9 : K.lookup f9 = some ⟨oc9, od9, .func (PySem.W.fnOf "_law_deed" "_law_deed" (defArgs sLawDeed) (defBody sLawDeed) (defScope sLawDeed) .none kV9 dc9 pm9 an9 cd9 ct9), sl9⟩) (c9 : PySem.W.codeIn K cd9 "_law_deed" = true) (k9 : PySem.W.keepIn K (.ref f9) = true)
    (a10 : PySem.W.nsIn K mainGlobals "_law_copied" = some (some (.ref f10))) (l10 : K.lookup f10 = some ⟨oc10, od10, .func (PySem.W.fnOf "_law_copied" "_law_copied" (defArgs sLawCopied) (defBody sLawCopied) (defScope sLawCopied) .none kV10 dc10 pm10 an10 cd10 ct10), sl10⟩) (c10 : PySem.W.codeIn K cd10 "_law_copied" = true) (k10 : PySem.W.keepIn K (.ref f10) = true)
    (a11 : PySem.W.nsIn K mainGlobals "law" = some (some (.ref f11))) (l11 : K.lookup f11 = some ⟨oc11, od11, .func (PySem.W.fnOf "law" "law" (defArgs sLaw) (defBody sLaw) (defScope sLaw) .none kV11 dc11 pm11 an11 cd11 ct11), sl11⟩) (c11 : PySem.W.codeIn K cd11 "law" = true) (k11 : PySem.W.keepIn K (.ref f11) = true)
    (z_all : PySem.W.nsIn K mainGlobals "all" = some none)
    (z_range : PySem.W.nsIn K mainGlobals "range" = some none)
    (z_isinstance : PySem.W.nsIn K mainGlobals "isinstance" = some none)
    (z_bool : PySem.W.nsIn K mainGlobals "bool" = some none)
    (z_str : PySem.W.nsIn K mainGlobals "str" = some none)
    (z_list : PySem.W.nsIn K mainGlobals "list" = some none)
    (z_sorted : PySem.W.nsIn K mainGlobals "sorted" = some none)
    (z_len : PySem.W.nsIn K mainGlobals "len" = some none)
    (z_tuple : PySem.W.nsIn K mainGlobals "tuple" = some none)
    (z_int : PySem.W.nsIn K mainGlobals "int" = some none)
    {cGrid : Addr} (kaGrid : PySem.W.nsIn K mainGlobals "Grid" = some (some (.ref cGrid))) (kbGrid : PySem.W.plainGet K cGrid Str.empty = true) (kcGrid : PySem.W.hasDictIn K cGrid = true) (kdGrid : PySem.W.plainOver K cGrid = true) (keGrid : PySem.W.findIn K (.ref cGrid) "__setattr__" = some (some (.builtin "object.__setattr__"))) (kfGrid : PySem.W.makesIn K cGrid = true) (kgGrid : PySem.W.keepIn K (.ref cGrid) = true)
    {fGrid_Init : Addr} {oc_Grid_Init kV_Grid_Init dc_Grid_Init pm_Grid_Init cd_Grid_Init ct_Grid_Init : Value} {od_Grid_Init an_Grid_Init : Option Addr} {sl_Grid_Init : Array (Option Value)}
    (miGrid_Init : PySem.W.findIn K (.ref cGrid) "__init__" = some (some (.ref fGrid_Init))) (mfGrid_Init : PySem.W.isFn K (.ref fGrid_Init) = true) (mkGrid_Init : PySem.W.keepIn K (.ref fGrid_Init) = true)
    (mlGrid_Init : K.lookup fGrid_Init = some ⟨oc_Grid_Init, od_Grid_Init, .func (PySem.W.fnOf "__init__" "Grid.__init__" (defArgs sGrid_Init) (defBody sGrid_Init) (defScope sGrid_Init) .none kV_Grid_Init dc_Grid_Init pm_Grid_Init an_Grid_Init cd_Grid_Init ct_Grid_Init), sl_Grid_Init⟩) (mdGrid_Init : PySem.W.codeIn K cd_Grid_Init "Grid.__init__" = true)
    {fGrid_Put : Addr} {oc_Grid_Put kV_Grid_Put dc_Grid_Put pm_Grid_Put cd_Grid_Put ct_Grid_Put : Value} {od_Grid_Put an_Grid_Put : Option Addr} {sl_Grid_Put : Array (Option Value)}
    (miGrid_Put : PySem.W.findIn K (.ref cGrid) "put" = some (some (.ref fGrid_Put))) (mfGrid_Put : PySem.W.isFn K (.ref fGrid_Put) = true) (mkGrid_Put : PySem.W.keepIn K (.ref fGrid_Put) = true)
    (mlGrid_Put : K.lookup fGrid_Put = some ⟨oc_Grid_Put, od_Grid_Put, .func (PySem.W.fnOf "put" "Grid.put" (defArgs sGrid_Put) (defBody sGrid_Put) (defScope sGrid_Put) .none kV_Grid_Put dc_Grid_Put pm_Grid_Put an_Grid_Put cd_Grid_Put ct_Grid_Put), sl_Grid_Put⟩) (mdGrid_Put : PySem.W.codeIn K cd_Grid_Put "Grid.put" = true)
    {fGrid_Shown : Addr} {oc_Grid_Shown kV_Grid_Shown dc_Grid_Shown pm_Grid_Shown cd_Grid_Shown ct_Grid_Shown : Value} {od_Grid_Shown an_Grid_Shown : Option Addr} {sl_Grid_Shown : Array (Option Value)}
    (miGrid_Shown : PySem.W.findIn K (.ref cGrid) "shown" = some (some (.ref fGrid_Shown))) (mfGrid_Shown : PySem.W.isFn K (.ref fGrid_Shown) = true) (mkGrid_Shown : PySem.W.keepIn K (.ref fGrid_Shown) = true)
    (mlGrid_Shown : K.lookup fGrid_Shown = some ⟨oc_Grid_Shown, od_Grid_Shown, .func (PySem.W.fnOf "shown" "Grid.shown" (defArgs sGrid_Shown) (defBody sGrid_Shown) (defScope sGrid_Shown) .none kV_Grid_Shown dc_Grid_Shown pm_Grid_Shown an_Grid_Shown cd_Grid_Shown ct_Grid_Shown), sl_Grid_Shown⟩) (mdGrid_Shown : PySem.W.codeIn K cd_Grid_Shown "Grid.shown" = true)
    {fGrid_Name : Addr} {oc_Grid_Name kV_Grid_Name dc_Grid_Name pm_Grid_Name cd_Grid_Name ct_Grid_Name : Value} {od_Grid_Name an_Grid_Name : Option Addr} {sl_Grid_Name : Array (Option Value)}
    (miGrid_Name : PySem.W.findIn K (.ref cGrid) "name" = some (some (.ref fGrid_Name))) (mfGrid_Name : PySem.W.isFn K (.ref fGrid_Name) = true) (mkGrid_Name : PySem.W.keepIn K (.ref fGrid_Name) = true)
    (mlGrid_Name : K.lookup fGrid_Name = some ⟨oc_Grid_Name, od_Grid_Name, .func (PySem.W.fnOf "name" "Grid.name" (defArgs sGrid_Name) (defBody sGrid_Name) (defScope sGrid_Name) .none kV_Grid_Name dc_Grid_Name pm_Grid_Name an_Grid_Name cd_Grid_Name ct_Grid_Name), sl_Grid_Name⟩) (mdGrid_Name : PySem.W.codeIn K cd_Grid_Name "Grid.name" = true)
    {fGrid_Unname : Addr} {oc_Grid_Unname kV_Grid_Unname dc_Grid_Unname pm_Grid_Unname cd_Grid_Unname ct_Grid_Unname : Value} {od_Grid_Unname an_Grid_Unname : Option Addr} {sl_Grid_Unname : Array (Option Value)}
    (miGrid_Unname : PySem.W.findIn K (.ref cGrid) "unname" = some (some (.ref fGrid_Unname))) (mfGrid_Unname : PySem.W.isFn K (.ref fGrid_Unname) = true) (mkGrid_Unname : PySem.W.keepIn K (.ref fGrid_Unname) = true)
    (mlGrid_Unname : K.lookup fGrid_Unname = some ⟨oc_Grid_Unname, od_Grid_Unname, .func (PySem.W.fnOf "unname" "Grid.unname" (defArgs sGrid_Unname) (defBody sGrid_Unname) (defScope sGrid_Unname) .none kV_Grid_Unname dc_Grid_Unname pm_Grid_Unname an_Grid_Unname cd_Grid_Unname ct_Grid_Unname), sl_Grid_Unname⟩) (mdGrid_Unname : PySem.W.codeIn K cd_Grid_Unname "Grid.unname" = true)
    {fGrid_Areas : Addr} {oc_Grid_Areas kV_Grid_Areas dc_Grid_Areas pm_Grid_Areas cd_Grid_Areas ct_Grid_Areas : Value} {od_Grid_Areas an_Grid_Areas : Option Addr} {sl_Grid_Areas : Array (Option Value)}
    (miGrid_Areas : PySem.W.findIn K (.ref cGrid) "areas" = some (some (.ref fGrid_Areas))) (mfGrid_Areas : PySem.W.isFn K (.ref fGrid_Areas) = true) (mkGrid_Areas : PySem.W.keepIn K (.ref fGrid_Areas) = true)
    (mlGrid_Areas : K.lookup fGrid_Areas = some ⟨oc_Grid_Areas, od_Grid_Areas, .func (PySem.W.fnOf "areas" "Grid.areas" (defArgs sGrid_Areas) (defBody sGrid_Areas) (defScope sGrid_Areas) .none kV_Grid_Areas dc_Grid_Areas pm_Grid_Areas an_Grid_Areas cd_Grid_Areas ct_Grid_Areas), sl_Grid_Areas⟩) (mdGrid_Areas : PySem.W.codeIn K cd_Grid_Areas "Grid.areas" = true)
    {fGrid_Cells : Addr} {oc_Grid_Cells kV_Grid_Cells dc_Grid_Cells pm_Grid_Cells cd_Grid_Cells ct_Grid_Cells : Value} {od_Grid_Cells an_Grid_Cells : Option Addr} {sl_Grid_Cells : Array (Option Value)}
    (miGrid_Cells : PySem.W.findIn K (.ref cGrid) "cells" = some (some (.ref fGrid_Cells))) (mfGrid_Cells : PySem.W.isFn K (.ref fGrid_Cells) = true) (mkGrid_Cells : PySem.W.keepIn K (.ref fGrid_Cells) = true)
    (mlGrid_Cells : K.lookup fGrid_Cells = some ⟨oc_Grid_Cells, od_Grid_Cells, .func (PySem.W.fnOf "cells" "Grid.cells" (defArgs sGrid_Cells) (defBody sGrid_Cells) (defScope sGrid_Cells) .none kV_Grid_Cells dc_Grid_Cells pm_Grid_Cells an_Grid_Cells cd_Grid_Cells ct_Grid_Cells), sl_Grid_Cells⟩) (mdGrid_Cells : PySem.W.codeIn K cd_Grid_Cells "Grid.cells" = true)
    {fGrid_Words : Addr} {oc_Grid_Words kV_Grid_Words dc_Grid_Words pm_Grid_Words cd_Grid_Words ct_Grid_Words : Value} {od_Grid_Words an_Grid_Words : Option Addr} {sl_Grid_Words : Array (Option Value)}
    (miGrid_Words : PySem.W.findIn K (.ref cGrid) "words" = some (some (.ref fGrid_Words))) (mfGrid_Words : PySem.W.isFn K (.ref fGrid_Words) = true) (mkGrid_Words : PySem.W.keepIn K (.ref fGrid_Words) = true)
    (mlGrid_Words : K.lookup fGrid_Words = some ⟨oc_Grid_Words, od_Grid_Words, .func (PySem.W.fnOf "words" "Grid.words" (defArgs sGrid_Words) (defBody sGrid_Words) (defScope sGrid_Words) .none kV_Grid_Words dc_Grid_Words pm_Grid_Words an_Grid_Words cd_Grid_Words ct_Grid_Words), sl_Grid_Words⟩) (mdGrid_Words : PySem.W.codeIn K cd_Grid_Words "Grid.words" = true)
    {fGrid_Copy : Addr} {oc_Grid_Copy kV_Grid_Copy dc_Grid_Copy pm_Grid_Copy cd_Grid_Copy ct_Grid_Copy : Value} {od_Grid_Copy an_Grid_Copy : Option Addr} {sl_Grid_Copy : Array (Option Value)}
    (miGrid_Copy : PySem.W.findIn K (.ref cGrid) "copy" = some (some (.ref fGrid_Copy))) (mfGrid_Copy : PySem.W.isFn K (.ref fGrid_Copy) = true) (mkGrid_Copy : PySem.W.keepIn K (.ref fGrid_Copy) = true)
    (mlGrid_Copy : K.lookup fGrid_Copy = some ⟨oc_Grid_Copy, od_Grid_Copy, .func (PySem.W.fnOf "copy" "Grid.copy" (defArgs sGrid_Copy) (defBody sGrid_Copy) (defScope sGrid_Copy) .none kV_Grid_Copy dc_Grid_Copy pm_Grid_Copy an_Grid_Copy cd_Grid_Copy ct_Grid_Copy), sl_Grid_Copy⟩) (mdGrid_Copy : PySem.W.codeIn K cd_Grid_Copy "Grid.copy" = true)
    (knGrid_rows : PySem.W.findIn K (.ref cGrid) "rows" = some none)
    (knGrid_columns : PySem.W.findIn K (.ref cGrid) "columns" = some none)
    (knGrid__contents : PySem.W.findIn K (.ref cGrid) "_contents" = some none)
    (knGrid__names : PySem.W.findIn K (.ref cGrid) "_names" = some none)
    {cTableError : Addr} (yaTableError : PySem.W.nsIn K mainGlobals "TableError" = some (some (.ref cTableError))) (ytTableError : PySem.W.typeIn K (.ref cTableError) = some (.type "type")) (yhTableError : PySem.W.hasDictIn K cTableError = true) (yeTableError : PySem.W.subIn K (.ref cTableError) (.type "BaseException") = some true)
    {cUnknownName : Addr} (yaUnknownName : PySem.W.nsIn K mainGlobals "UnknownName" = some (some (.ref cUnknownName))) (ytUnknownName : PySem.W.typeIn K (.ref cUnknownName) = some (.type "type")) (yhUnknownName : PySem.W.hasDictIn K cUnknownName = true) (yeUnknownName : PySem.W.subIn K (.ref cUnknownName) (.type "BaseException") = some true)
    {nm_UnknownName qn_UnknownName : Str} {N_UnknownName : Addr} {bs_UnknownName : List Value} {sn_UnknownName : List Str} {sb_UnknownName : List Value} {ab_UnknownName : Bool} {co_UnknownName : Option Bool} {dd_UnknownName : Option Addr} {m0_UnknownName m1_UnknownName m2_UnknownName m3_UnknownName m5_UnknownName : Option Value}
    (ycUnknownName : K.lookup cUnknownName = some (excClassObj nm_UnknownName qn_UnknownName cUnknownName N_UnknownName bs_UnknownName [.ref cTableError, .type "ValueError", .type "Exception", .type "BaseException", .type "object"] true sn_UnknownName sb_UnknownName ab_UnknownName co_UnknownName dd_UnknownName m0_UnknownName m1_UnknownName m2_UnknownName m3_UnknownName m5_UnknownName "ValueError.__new__"))
    (y1UnknownName : PySem.W.findIn K (.ref cUnknownName) "__setattr__" = some (some (.builtin "object.__setattr__"))) (y2UnknownName : PySem.W.findIn K (.ref cUnknownName) "__getattribute__" = some (some (.builtin "BaseException.__getattribute__"))) (y3UnknownName : PySem.W.findIn K (.ref cUnknownName) "__getattr__" = some none)
    (y4UnknownName : PySem.W.findIn K (.ref cUnknownName) "__class__" = some (some (.builtin "object.__class__"))) (y5UnknownName : PySem.W.specialIn K (.builtin "object.__class__") "__get__" = some (some (.builtin "getset_descriptor.__get__"))) (y6UnknownName : PySem.W.takesIn K (.builtin "object.__class__") = some true) (y7UnknownName : PySem.W.mroIn K cUnknownName (.type "object") = some true) (y8UnknownName : PySem.W.isClsIn K cUnknownName = true) (y9UnknownName : PySem.W.keepIn K (.ref cUnknownName) = true)
    {fUnknownName_Init : Addr} (yiUnknownName : PySem.W.findIn K (.ref cUnknownName) "__init__" = some (some (.ref fUnknownName_Init))) (yjUnknownName : PySem.W.typeIn K (.ref fUnknownName_Init) = some (.type "function"))
    {oc_UnknownName kV_UnknownName dc_UnknownName pm_UnknownName cd_UnknownName ct_UnknownName : Value} {od_UnknownName an_UnknownName : Option Addr} {sl_UnknownName : Array (Option Value)}
    (ylUnknownName : K.lookup fUnknownName_Init = some ⟨oc_UnknownName, od_UnknownName, .func (PySem.W.fnOf "__init__" "UnknownName.__init__" (defArgs sUnknownName_Init) (defBody sUnknownName_Init) (defScope sUnknownName_Init) .none kV_UnknownName dc_UnknownName pm_UnknownName an_UnknownName cd_UnknownName ct_UnknownName), sl_UnknownName⟩) (ydUnknownName : PySem.W.codeIn K cd_UnknownName "UnknownName.__init__" = true) (ykUnknownName : PySem.W.keepIn K (.ref fUnknownName_Init) = true)
    (ynUnknownName_word : PySem.W.findIn K (.ref cUnknownName) "word" = some none)
    (ysUnknownName_TableError : PySem.W.subIn K (.ref cUnknownName) (.ref cTableError) = some true)
    (ysUnknownName_UnknownName : PySem.W.subIn K (.ref cUnknownName) (.ref cUnknownName) = some true)
    : ∃ fd : FuncData, (∀ (s : Shared) (v : Value), BindsTo s fd ⟨[v], []⟩ [("script", v)]) ∧ ∀ base : Heap, K.In base → base.Ns mainGlobals mg → FnOk l.prog w K mg base CX0 6 fa fd ["script"] (spLaw K) := by
  have e := hfa.symm.trans (PySem.W.mg_of X G a11)
  cases e
  have F1 := fun_mk (st := sSame) l1 c1 k1
  have b1 := F1.binds (ps := ["grid", "other"]) fun _ _ _ _ _ _ us hl => match us, hl with | [_, _], _ => rfl
  have F2 := fun_mk (st := sLawCell) l2 c2 k2
  have b2 := F2.binds (ps := ["script", "k"]) fun _ _ _ _ _ _ us hl => match us, hl with | [_, _], _ => rfl
  have F3 := fun_mk (st := sLawDigits) l3 c3 k3
  have b3 := F3.binds (ps := ["script", "first", "last"]) fun _ _ _ _ _ _ us hl => match us, hl with | [_, _, _], _ => rfl
  have F4 := fun_mk (st := sLawDraw) l4 c4 k4
  have b4 := F4.binds (ps := ["box", "many"]) fun _ _ _ _ _ _ us hl => match us, hl with | [_, _], _ => rfl
  have F5 := fun_mk (st := sLawSame) l5 c5 k5
  have b5 := F5.binds (ps := ["actual", "due"]) fun _ _ _ _ _ _ us hl => match us, hl with | [_, _], _ => rfl
  have F6 := fun_mk (st := sLawShown) l6 c6 k6
  have b6 := F6.binds (ps := ["box"]) fun _ _ _ _ _ _ us hl => match us, hl with | [_], _ => rfl
  have F7 := fun_mk (st := sLawAreas) l7 c7 k7
  have b7 := F7.binds (ps := ["box", "empty"]) fun _ _ _ _ _ _ us hl => match us, hl with | [_, _], _ => rfl
  have F8 := fun_mk (st := sLawSameGrid) l8 c8 k8
  have b8 := F8.binds (ps := ["grid", "rows", "columns", "cells", "names"]) fun _ _ _ _ _ _ us hl => match us, hl with | [_, _, _, _, _], _ => rfl
  have F9 := fun_mk (st := sLawDeed) l9 c9 k9
  have b9 := F9.binds (ps := ["box", "grid", "rows", "columns", "cells", "names"]) fun _ _ _ _ _ _ us hl => match us, hl with | [_, _, _, _, _, _], _ => rfl
  have F10 := fun_mk (st := sLawCopied) l10 c10 k10
  have b10 := F10.binds (ps := ["table"]) fun _ _ _ _ _ _ us hl => match us, hl with | [_], _ => rfl
  have F11 := fun_mk (st := sLaw) l11 c11 k11
  have b11 := F11.binds (ps := ["script"]) fun _ _ _ _ _ _ us hl => match us, hl with | [_], _ => rfl
  have FGrid_Init := fun_mk (st := sGrid_Init) mlGrid_Init mdGrid_Init mkGrid_Init
  have bGrid_Init := FGrid_Init.binds (ps := ["self", "rows", "columns"]) fun _ _ _ _ _ _ us hl => match us, hl with | [_, _, _], _ => rfl
  have FGrid_Put := fun_mk (st := sGrid_Put) mlGrid_Put mdGrid_Put mkGrid_Put
  have bGrid_Put := FGrid_Put.binds (ps := ["self", "cell", "shown"]) fun _ _ _ _ _ _ us hl => match us, hl with | [_, _, _], _ => rfl
  have FGrid_Shown := fun_mk (st := sGrid_Shown) mlGrid_Shown mdGrid_Shown mkGrid_Shown
  have bGrid_Shown := FGrid_Shown.binds (ps := ["self", "cell"]) fun _ _ _ _ _ _ us hl => match us, hl with | [_, _], _ => rfl
  have FGrid_Name := fun_mk (st := sGrid_Name) mlGrid_Name mdGrid_Name mkGrid_Name
  have bGrid_Name := FGrid_Name.binds (ps := ["self", "word", "areas"]) fun _ _ _ _ _ _ us hl => match us, hl with | [_, _, _], _ => rfl
  have FGrid_Unname := fun_mk (st := sGrid_Unname) mlGrid_Unname mdGrid_Unname mkGrid_Unname
  have bGrid_Unname := FGrid_Unname.binds (ps := ["self", "word"]) fun _ _ _ _ _ _ us hl => match us, hl with | [_, _], _ => rfl
  have FGrid_Areas := fun_mk (st := sGrid_Areas) mlGrid_Areas mdGrid_Areas mkGrid_Areas
  have bGrid_Areas := FGrid_Areas.binds (ps := ["self", "word"]) fun _ _ _ _ _ _ us hl => match us, hl with | [_, _], _ => rfl
  have FGrid_Cells := fun_mk (st := sGrid_Cells) mlGrid_Cells mdGrid_Cells mkGrid_Cells
  have bGrid_Cells := FGrid_Cells.binds (ps := ["self"]) fun _ _ _ _ _ _ us hl => match us, hl with | [_], _ => rfl
  have FGrid_Words := fun_mk (st := sGrid_Words) mlGrid_Words mdGrid_Words mkGrid_Words
  have bGrid_Words := FGrid_Words.binds (ps := ["self"]) fun _ _ _ _ _ _ us hl => match us, hl with | [_], _ => rfl
  have FGrid_Copy := fun_mk (st := sGrid_Copy) mlGrid_Copy mdGrid_Copy mkGrid_Copy
  have bGrid_Copy := FGrid_Copy.binds (ps := ["self"]) fun _ _ _ _ _ _ us hl => match us, hl with | [_], _ => rfl
  have FUnknownName_Init := fun_mk (st := sUnknownName_Init) ylUnknownName ydUnknownName ykUnknownName
  have bUnknownName_Init := FUnknownName_Init.binds (ps := ["self", "word"]) fun _ _ _ _ _ _ us hl => match us, hl with | [_, _], _ => rfl
  exact ⟨PySem.W.fnOf "law" "law" (defArgs sLaw) (defBody sLaw) (defScope sLaw) .none kV11 dc11 pm11 an11 cd11 ct11, fun s v => .of_eq rfl, fun base _ _ => okLaw (P := l.prog) (w := w) (base := base) (⟨f1, _, F1, b1, PySem.W.mg_of X G a1, f2, _, F2, b2, PySem.W.mg_of X G a2, f3, _, F3, b3, PySem.W.mg_of X G a3, f4, _, F4, b4, PySem.W.mg_of X G a4, f5, _, F5, b5, PySem.W.mg_of X G a5, f6, _, F6, b6, PySem.W.mg_of X G a6, f7, _, F7, b7, PySem.W.mg_of X G a7, f8, _, F8, b8, PySem.W.mg_of X G a8, f9, _, F9, b9, PySem.W.mg_of X G a9, f10, _, F10, b10, PySem.W.mg_of X G a10, fa, _, F11, b11, PySem.W.mg_of X G a11, PySem.W.mg_none_of X G z_all, PySem.W.mg_none_of X G z_range, PySem.W.mg_none_of X G z_isinstance, PySem.W.mg_none_of X G z_bool, PySem.W.mg_none_of X G z_str, PySem.W.mg_none_of X G z_list, PySem.W.mg_none_of X G z_sorted, PySem.W.mg_none_of X G z_len, PySem.W.mg_none_of X G z_tuple, PySem.W.mg_none_of X G z_int, cGrid, PySem.W.mg_of X G kaGrid, ⟨kbGrid, kcGrid, kdGrid, keGrid⟩, fGrid_Init, _, FGrid_Init, bGrid_Init, ⟨miGrid_Init, mfGrid_Init, mkGrid_Init⟩, fGrid_Put, _, FGrid_Put, bGrid_Put, ⟨miGrid_Put, mfGrid_Put, mkGrid_Put⟩, fGrid_Shown, _, FGrid_Shown, bGrid_Shown, ⟨miGrid_Shown, mfGrid_Shown, mkGrid_Shown⟩, fGrid_Name, _, FGrid_Name, bGrid_Name, ⟨miGrid_Name, mfGrid_Name, mkGrid_Name⟩, fGrid_Unname, _, FGrid_Unname, bGrid_Unname, ⟨miGrid_Unname, mfGrid_Unname, mkGrid_Unname⟩, fGrid_Areas, _, FGrid_Areas, bGrid_Areas, ⟨miGrid_Areas, mfGrid_Areas, mkGrid_Areas⟩, fGrid_Cells, _, FGrid_Cells, bGrid_Cells, ⟨miGrid_Cells, mfGrid_Cells, mkGrid_Cells⟩, fGrid_Words, _, FGrid_Words, bGrid_Words, ⟨miGrid_Words, mfGrid_Words, mkGrid_Words⟩, fGrid_Copy, _, FGrid_Copy, bGrid_Copy, ⟨miGrid_Copy, mfGrid_Copy, mkGrid_Copy⟩, ⟨kfGrid, miGrid_Init, mfGrid_Init, kgGrid⟩, knGrid_rows, knGrid_columns, knGrid__contents, knGrid__names, cTableError, PySem.W.mg_of X G yaTableError, cUnknownName, PySem.W.mg_of X G yaUnknownName, ⟨⟨_, _, _, _, _, _, _, _, _, _, _, _, _, _, _, ycUnknownName, by first | rfl | decide +kernel⟩, y1UnknownName, yeUnknownName, ytUnknownName, y9UnknownName⟩, ⟨y2UnknownName, y3UnknownName, yeUnknownName, yhUnknownName⟩, ⟨y8UnknownName, ⟨y2UnknownName, y3UnknownName, yeUnknownName, yhUnknownName⟩, y4UnknownName, y5UnknownName, y6UnknownName, y7UnknownName⟩, fUnknownName_Init, _, FUnknownName_Init, bUnknownName_Init, yiUnknownName, yjUnknownName, ynUnknownName_word, PySem.W.exm_ref yeTableError yhTableError ytTableError ysUnknownName_TableError, PySem.W.exm_ref yeUnknownName yhUnknownName ytUnknownName ysUnknownName_UnknownName, kit_self⟩ : Txt K mg)⟩
theorem walk {l : PySem.W.OpenLaw} {q : Program} {loose : List Str} {XP : (Str → Option Value) → Heap → Prop} {YP : World → Heap → Prop} {d : DefRec} {K : Params → PySem.W.Frag} (hn : l.most = some 63) (hdf : d.params.defaults = [])
    (hY : ∀ (w : World) (h : Heap), YP w h → (K w.params).In h)
    (F : ∀ (w : World) (mg : Str → Option Value) (fa : Addr) (h : Heap), (K w.params).In h → h.Ns mainGlobals mg → mg d.name = some (.ref fa) →
      ∃ fd : FuncData, (∀ (s : Shared) (u : Value), BindsTo s fd ⟨[u], []⟩ [("script", u)]) ∧ ∀ base : Heap, (K w.params).In base → base.Ns mainGlobals mg → FnOk l.prog w (K w.params) mg base CX0 6 fa fd ["script"] (spLaw (K w.params))) :
    PySem.W.WalkO q loose XP YP l.row.toRowW d [] (fun f vs => PySem.call f vs) :=
  L2.walk_of (n := 63) (k := 6) (x := "script") (CX := fun _ => CX0) (sp := fun w => spLaw (K w.params)) hn (by decide) hdf ⟨rfl, by decide, by decide⟩ hY F (fun _ _ a ns hl _ hS => ⟨a, ns, rfl, hS, hl, fun _ => rfl⟩) fun _ _ _ _ _ z => z
end My
open PySem PySem.W PyProof.Rows
set_option maxRecDepth 100000 in
set_option maxHeartbeats 0 in
theorem PySem.Challenge.cw_tablemates_k18_deeds_of_a_grid_holds : PySem.Challenge.rw_tablemates_k18_deeds_of_a_grid.Holds := by
  w_on; o_law; k_head; (case hw => w_witness2)
  k_fill
  refine My.walk (l := PySem.Challenge.rw_tablemates_k18_deeds_of_a_grid) rfl rfl (fun w h Y => PySem.W.kIn_of Y) ?F
  case F =>
    intro w mg fa h KX G hmg
    refine' My.all_mk KX G hmg ?a1 ?l1 ?c1 ?k1 ?a2 ?l2 ?c2 ?k2 ?a3 ?l3 ?c3 ?k3 ?a4 ?l4 ?c4 ?k4 ?a5 ?l5 ?c5 ?k5 ?a6 ?l6 ?c6 ?k6 ?a7 ?l7 ?c7 ?k7 ?a8 ?l8 ?c8 ?k8 ?a9 ?l9 ?c9 ?k9 ?a10 ?l10 ?c10 ?k10 ?a11 ?l11 ?c11 ?k11 ?z_all ?z_range ?z_isinstance ?z_bool ?z_str ?z_list ?z_sorted ?z_len ?z_tuple ?z_int ?kaGrid ?kbGrid ?kcGrid ?kdGrid ?keGrid ?kfGrid ?kgGrid ?miGrid_Init ?mfGrid_Init ?mkGrid_Init ?mlGrid_Init ?mdGrid_Init ?miGrid_Put ?mfGrid_Put ?mkGrid_Put ?mlGrid_Put ?mdGrid_Put ?miGrid_Shown ?mfGrid_Shown ?mkGrid_Shown ?mlGrid_Shown ?mdGrid_Shown ?miGrid_Name ?mfGrid_Name ?mkGrid_Name ?mlGrid_Name ?mdGrid_Name ?miGrid_Unname ?mfGrid_Unname ?mkGrid_Unname ?mlGrid_Unname ?mdGrid_Unname ?miGrid_Areas ?mfGrid_Areas ?mkGrid_Areas ?mlGrid_Areas ?mdGrid_Areas ?miGrid_Cells ?mfGrid_Cells ?mkGrid_Cells ?mlGrid_Cells ?mdGrid_Cells ?miGrid_Words ?mfGrid_Words ?mkGrid_Words ?mlGrid_Words ?mdGrid_Words ?miGrid_Copy ?mfGrid_Copy ?mkGrid_Copy ?mlGrid_Copy ?mdGrid_Copy ?knGrid_rows ?knGrid_columns ?knGrid__contents ?knGrid__names ?yaTableError ?ytTableError ?yhTableError ?yeTableError ?yaUnknownName ?ytUnknownName ?yhUnknownName ?yeUnknownName ?ycUnknownName ?y1UnknownName ?y2UnknownName ?y3UnknownName ?y4UnknownName ?y5UnknownName ?y6UnknownName ?y7UnknownName ?y8UnknownName ?y9UnknownName ?yiUnknownName ?yjUnknownName ?ylUnknownName ?ydUnknownName ?ykUnknownName ?ynUnknownName_word ?ysUnknownName_TableError ?ysUnknownName_UnknownName
    (case a1 => k_is); (case l1 => k_is); (case c1 => k_is); (case k1 => k_is); (case a2 => k_is); (case l2 => k_is); (case c2 => k_is); (case k2 => k_is); (case a3 => k_is); (case l3 => k_is); (case c3 => k_is); (case k3 => k_is); (case a4 => k_is); (case l4 => k_is); (case c4 => k_is); (case k4 => k_is); (case a5 => k_is); (case l5 => k_is); (case c5 => k_is); (case k5 => k_is); (case a6 => k_is); (case l6 => k_is); (case c6 => k_is); (case k6 => k_is); (case a7 => k_is); (case l7 => k_is); (case c7 => k_is); (case k7 => k_is); (case a8 => k_is); (case l8 => k_is); (case c8 => k_is); (case k8 => k_is); (case a9 => k_is); (case l9 => k_is); (case c9 => k_is); (case k9 => k_is); (case a10 => k_is); (case l10 => k_is); (case c10 => k_is); (case k10 => k_is); (case a11 => k_is); (case l11 => k_is); (case c11 => k_is); (case k11 => k_is); (case z_all => k_is); (case z_range => k_is); (case z_isinstance => k_is); (case z_bool => k_is); (case z_str => k_is); (case z_list => k_is); (case z_sorted => k_is); (case z_len => k_is); (case z_tuple => k_is); (case z_int => k_is); (case kaGrid => k_is); (case kbGrid => k_is); (case kcGrid => k_is); (case kdGrid => k_is); (case keGrid => k_is); (case kfGrid => k_is); (case kgGrid => k_is); (case miGrid_Init => k_is); (case mfGrid_Init => k_is); (case mkGrid_Init => k_is); (case mlGrid_Init => k_is); (case mdGrid_Init => k_is); (case miGrid_Put => k_is); (case mfGrid_Put => k_is); (case mkGrid_Put => k_is); (case mlGrid_Put => k_is); (case mdGrid_Put => k_is); (case miGrid_Shown => k_is); (case mfGrid_Shown => k_is); (case mkGrid_Shown => k_is); (case mlGrid_Shown => k_is); (case mdGrid_Shown => k_is); (case miGrid_Name => k_is); (case mfGrid_Name => k_is); (case mkGrid_Name => k_is); (case mlGrid_Name => k_is); (case mdGrid_Name => k_is); (case miGrid_Unname => k_is); (case mfGrid_Unname => k_is); (case mkGrid_Unname => k_is); (case mlGrid_Unname => k_is); (case mdGrid_Unname => k_is); (case miGrid_Areas => k_is); (case mfGrid_Areas => k_is); (case mkGrid_Areas => k_is); (case mlGrid_Areas => k_is); (case mdGrid_Areas => k_is); (case miGrid_Cells => k_is); (case mfGrid_Cells => k_is); (case mkGrid_Cells => k_is); (case mlGrid_Cells => k_is); (case mdGrid_Cells => k_is); (case miGrid_Words => k_is); (case mfGrid_Words => k_is); (case mkGrid_Words => k_is); (case mlGrid_Words => k_is); (case mdGrid_Words => k_is); (case miGrid_Copy => k_is); (case mfGrid_Copy => k_is); (case mkGrid_Copy => k_is); (case mlGrid_Copy => k_is); (case mdGrid_Copy => k_is); (case knGrid_rows => k_is); (case knGrid_columns => k_is); (case knGrid__contents => k_is); (case knGrid__names => k_is); (case yaTableError => k_is); (case ytTableError => k_is); (case yhTableError => k_is); (case yeTableError => k_is); (case yaUnknownName => k_is); (case ytUnknownName => k_is); (case yhUnknownName => k_is); (case yeUnknownName => k_is); (case ycUnknownName => k_is); (case y1UnknownName => k_is); (case y2UnknownName => k_is); (case y3UnknownName => k_is); (case y4UnknownName => k_is); (case y5UnknownName => k_is); (case y6UnknownName => k_is); (case y7UnknownName => k_is); (case y8UnknownName => k_is); (case y9UnknownName => k_is); (case yiUnknownName => k_is); (case yjUnknownName => k_is); (case ylUnknownName => k_is); (case ydUnknownName => k_is); (case ykUnknownName => k_is); (case ynUnknownName_word => k_is); (case ysUnknownName_TableError => first | rfl | k_is | kit_is); (case ysUnknownName_UnknownName => first | rfl | k_is | kit_is)

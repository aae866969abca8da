import PyProof.Rows.All
import Wide.All
import OpenK.AllK
import Wide.FinOn
import HandS.ForMost
import HandS.Zip
import HandS.Walk
import HandS.Gcd
import HandS.Wide
import HandS.IsInst
import HandS.Codes
import HandS.StrMore
import HandS.WordsExc
import HandS.ExcInit
import HandS.ExcField
import HandS.ExcIs
import HandS.ExcOwn
import HandS.ExcCtx
import HandS.HotCalls
import HandS.ExcInitHot
import KE.KExcIs
import KE.IntTextText
import PySem.Challenge.RW_tablemates_k04_shortest_number_text
set_option Elab.async false
set_option linter.all false
set_option maxRecDepth 100000
namespace My
open PySem PySem.Spec PyProof.Rows L2 RZ
def topS (i : Nat) : Stmt := PySem.Challenge.pw_tablemates_k04_shortest_number_text.main.body.getD i (.Pass ⟨0, 0, 0, 0⟩)
abbrev sHasDecimal : Stmt := topS 7
abbrev sWriteNumber : Stmt := topS 8
abbrev sLawCell : Stmt := topS 10
abbrev sLawDigits : Stmt := topS 11
abbrev sLawDraw : Stmt := topS 12
abbrev sLawBig : Stmt := topS 13
abbrev sLawGcd : Stmt := topS 14
abbrev sLawLowest : Stmt := topS 15
abbrev sLawSame : Stmt := topS 16
abbrev sLawFraction : Stmt := topS 17
abbrev sLawAllDigits : Stmt := topS 18
abbrev sLawOwnDecimal : Stmt := topS 19
abbrev sLawOwnNumber : Stmt := topS 20
abbrev sLawX : Stmt := topS 21
abbrev sLawDue : Stmt := topS 22
abbrev sLawIsShort : Stmt := topS 23
abbrev sLaw : Stmt := topS 24
abbrev sOutOfRange_Init : Stmt := inClass (topS 2) 0
theorem scOutOfRange_Init : FnScope ["self", "word"] ["self", "word"] (defScope sOutOfRange_Init) := ⟨rfl, rfl, rfl, by decide +kernel, rfl, by decide +kernel, by decide +kernel⟩
/-! ### error classes with fields -/
structure ExK (K : PySem.W.Frag) (C : Addr) : Prop where
  cl : PySem.W.isClsIn K C = true
  x : XfC K C
  cc : PySem.W.findIn K (.ref C) "__class__" = some (some (.builtin "object.__class__"))
  cn : PySem.W.specialIn K (.builtin "object.__class__") "__get__" = some (some (.builtin "getset_descriptor.__get__"))
  ct : PySem.W.takesIn K (.builtin "object.__class__") = some true
  cm : PySem.W.mroIn K C (.type "object") = some true
theorem kit_self {K : PySem.W.Frag} {t : Value} : PySem.W.kitOne K t t = some true := if_pos (beq_self_eq_true t)
theorem scHasDecimal : FnScope ["x"] ["x"] (defScope sHasDecimal) := ⟨rfl, rfl, rfl, by decide +kernel, rfl, by decide +kernel, by decide +kernel⟩
theorem scWriteNumber : FnScope ["x", "parts", "text", "rest"] ["x"] (defScope sWriteNumber) := ⟨rfl, rfl, rfl, by decide +kernel, rfl, by decide +kernel, by decide +kernel⟩
theorem scLawCell : FnScope ["script", "k"] ["script", "k"] (defScope sLawCell) := ⟨rfl, rfl, rfl, by decide +kernel, rfl, by decide +kernel, by decide +kernel⟩
theorem scLawDigits : FnScope ["script", "first", "last", "digits", "k", "cell", "turn", "seed"] ["script", "first", "last"] (defScope sLawDigits) := ⟨rfl, rfl, rfl, by decide +kernel, rfl, by decide +kernel, by decide +kernel⟩
theorem scLawDraw : FnScope ["box", "many", "at"] ["box", "many"] (defScope sLawDraw) := ⟨rfl, rfl, rfl, by decide +kernel, rfl, by decide +kernel, by decide +kernel⟩
theorem scLawBig : FnScope ["box", "size", "number", "k"] ["box", "size"] (defScope sLawBig) := ⟨rfl, rfl, rfl, by decide +kernel, rfl, by decide +kernel, by decide +kernel⟩
theorem scLawGcd : FnScope ["a", "b", "turn", "rest"] ["a", "b"] (defScope sLawGcd) := ⟨rfl, rfl, rfl, by decide +kernel, rfl, by decide +kernel, by decide +kernel⟩
theorem scLawLowest : FnScope ["n", "d", "common"] ["n", "d"] (defScope sLawLowest) := ⟨rfl, rfl, rfl, by decide +kernel, rfl, by decide +kernel, by decide +kernel⟩
theorem scLawSame : FnScope ["actual", "due", "k"] ["actual", "due"] (defScope sLawSame) := ⟨rfl, rfl, rfl, by decide +kernel, rfl, by decide +kernel, by decide +kernel⟩
theorem scLawFraction : FnScope ["box", "kind", "n", "d"] ["box"] (defScope sLawFraction) := ⟨rfl, rfl, rfl, by decide +kernel, rfl, by decide +kernel, by decide +kernel⟩
theorem scLawAllDigits : FnScope ["text", "char"] ["text"] (defScope sLawAllDigits) := ⟨rfl, rfl, rfl, by decide +kernel, rfl, by decide +kernel, by decide +kernel⟩
theorem scLawOwnDecimal : FnScope ["text", "whole", "more", "at"] ["text"] (defScope sLawOwnDecimal) := ⟨rfl, rfl, rfl, by decide +kernel, rfl, by decide +kernel, by decide +kernel⟩
theorem scLawOwnNumber : FnScope ["text", "x"] ["text"] (defScope sLawOwnNumber) := ⟨rfl, rfl, rfl, by decide +kernel, rfl, by decide +kernel, by decide +kernel⟩
theorem scLawX : FnScope ["box", "d", "k", "n"] ["box"] (defScope sLawX) := ⟨rfl, rfl, rfl, by decide +kernel, rfl, by decide +kernel, by decide +kernel⟩
theorem scLawDue : FnScope ["x", "scale"] ["x"] (defScope sLawDue) := ⟨rfl, rfl, rfl, by decide +kernel, rfl, by decide +kernel, by decide +kernel⟩
theorem scLawIsShort : FnScope ["text", "x", "body", "whole"] ["text", "x"] (defScope sLawIsShort) := ⟨rfl, rfl, rfl, by decide +kernel, rfl, by decide +kernel, by decide +kernel⟩
theorem scLaw : FnScope ["script", "box", "turn", "x", "due", "told", "text", "wrong"] ["script"] (defScope sLaw) := ⟨rfl, rfl, rfl, by decide +kernel, rfl, by decide +kernel, by decide +kernel⟩
set_option maxHeartbeats 0 in
structure Txt (K : PySem.W.Frag) (mg : Str → Option Value) where
  fHasDecimal : Addr
  fdHasDecimal : FuncData
  FHasDecimal : Fun K "has_decimal" "has_decimal" sHasDecimal fHasDecimal fdHasDecimal
  bHasDecimal : Binds K fdHasDecimal ["x"] []
  gHasDecimal : mg "has_decimal" = some (.ref fHasDecimal)
  fWriteNumber : Addr
  fdWriteNumber : FuncData
  FWriteNumber : Fun K "write_number" "write_number" sWriteNumber fWriteNumber fdWriteNumber
  bWriteNumber : Binds K fdWriteNumber ["x"] []
  gWriteNumber : mg "write_number" = some (.ref fWriteNumber)
  fLawCell : Addr
  fdLawCell : FuncData
  FLawCell : Fun K "_law_cell" "_law_cell" sLawCell fLawCell fdLawCell
  bLawCell : Binds K fdLawCell ["script", "k"] []
  gLawCell : mg "_law_cell" = some (.ref fLawCell)
  fLawDigits : Addr
  fdLawDigits : FuncData
  FLawDigits : Fun K "_law_digits" "_law_digits" sLawDigits fLawDigits fdLawDigits
  bLawDigits : Binds K fdLawDigits ["script", "first", "last"] []
  gLawDigits : mg "_law_digits" = some (.ref fLawDigits)
  fLawDraw : Addr
  fdLawDraw : FuncData
  FLawDraw : Fun K "_law_draw" "_law_draw" sLawDraw fLawDraw fdLawDraw
  bLawDraw : Binds K fdLawDraw ["box", "many"] []
  gLawDraw : mg "_law_draw" = some (.ref fLawDraw)
  fLawBig : Addr
  fdLawBig : FuncData
  FLawBig : Fun K "_law_big" "_law_big" sLawBig fLawBig fdLawBig
  bLawBig : Binds K fdLawBig ["box", "size"] []
  gLawBig : mg "_law_big" = some (.ref fLawBig)
  fLawGcd : Addr
  fdLawGcd : FuncData
  FLawGcd : Fun K "_law_gcd" "_law_gcd" sLawGcd fLawGcd fdLawGcd
  bLawGcd : Binds K fdLawGcd ["a", "b"] []
  gLawGcd : mg "_law_gcd" = some (.ref fLawGcd)
  fLawLowest : Addr
  fdLawLowest : FuncData
  FLawLowest : Fun K "_law_lowest" "_law_lowest" sLawLowest fLawLowest fdLawLowest
  bLawLowest : Binds K fdLawLowest ["n", "d"] []
  gLawLowest : mg "_law_lowest" = some (.ref fLawLowest)
  fLawSame : Addr
  fdLawSame : FuncData
  FLawSame : Fun K "_law_same" "_law_same" sLawSame fLawSame fdLawSame
  bLawSame : Binds K fdLawSame ["actual", "due"] []
  gLawSame : mg "_law_same" = some (.ref fLawSame)
  fLawFraction : Addr
  fdLawFraction : FuncData
  FLawFraction : Fun K "_law_fraction" "_law_fraction" sLawFraction fLawFraction fdLawFraction
  bLawFraction : Binds K fdLawFraction ["box"] []
  gLawFraction : mg "_law_fraction" = some (.ref fLawFraction)
  fLawAllDigits : Addr
  fdLawAllDigits : FuncData
  FLawAllDigits : Fun K "_law_all_digits" "_law_all_digits" sLawAllDigits fLawAllDigits fdLawAllDigits
  bLawAllDigits : Binds K fdLawAllDigits ["text"] []
  gLawAllDigits : mg "_law_all_digits" = some (.ref fLawAllDigits)
  fLawOwnDecimal : Addr
  fdLawOwnDecimal : FuncData
  FLawOwnDecimal : Fun K "_law_own_decimal" "_law_own_decimal" sLawOwnDecimal fLawOwnDecimal fdLawOwnDecimal
  bLawOwnDecimal : Binds K fdLawOwnDecimal ["text"] []
  gLawOwnDecimal : mg "_law_own_decimal" = some (.ref fLawOwnDecimal)
  fLawOwnNumber : Addr
  fdLawOwnNumber : FuncData
  FLawOwnNumber : Fun K "_law_own_number" "_law_own_number" sLawOwnNumber fLawOwnNumber fdLawOwnNumber
  bLawOwnNumber : Binds K fdLawOwnNumber ["text"] []
  gLawOwnNumber : mg "_law_own_number" = some (.ref fLawOwnNumber)
  fLawX : Addr
  fdLawX : FuncData
  FLawX : Fun K "_law_x" "_law_x" sLawX fLawX fdLawX
  bLawX : Binds K fdLawX ["box"] []
  gLawX : mg "_law_x" = some (.ref fLawX)
  fLawDue : Addr
  fdLawDue : FuncData
  FLawDue : Fun K "_law_due" "_law_due" sLawDue fLawDue fdLawDue
  bLawDue : Binds K fdLawDue ["x"] []
  gLawDue : mg "_law_due" = some (.ref fLawDue)
  fLawIsShort : Addr
  fdLawIsShort : FuncData
  FLawIsShort : Fun K "_law_is_short" "_law_is_short" sLawIsShort fLawIsShort fdLawIsShort
  bLawIsShort : Binds K fdLawIsShort ["text", "x"] []
  gLawIsShort : mg "_law_is_short" = some (.ref fLawIsShort)
  fLaw : Addr
  fdLaw : FuncData
  FLaw : Fun K "law" "law" sLaw fLaw fdLaw
  bLaw : Binds K fdLaw ["script"] []
  gLaw : mg "law" = some (.ref fLaw)
  z_str : mg "str" = none
  z_range : mg "range" = none
  z_abs : mg "abs" = none
  z_isinstance : mg "isinstance" = none
  z_bool : mg "bool" = none
  z_len : mg "len" = none
  z_list : mg "list" = none
  z_tuple : mg "tuple" = none
  z_int : mg "int" = none
  t_MOST_BEHIND_POINT : Nat
  g_MOST_BEHIND_POINT : mg "MOST_BEHIND_POINT" = some (.int 6 t_MOST_BEHIND_POINT)
  t_PARTS : Nat
  g_PARTS : mg "PARTS" = some (.int 1000000 t_PARTS)
  t_TOO_MANY_PARTS : Nat
  g_TOO_MANY_PARTS : mg "TOO_MANY_PARTS" = some (.int 1000000000000000000 t_TOO_MANY_PARTS)
  cTableError : Addr
  gKTableError : mg "TableError" = some (.ref cTableError)
  cOutOfRange : Addr
  gKOutOfRange : mg "OutOfRange" = some (.ref cOutOfRange)
  oKOutOfRange : OexC K cOutOfRange
  xKOutOfRange : XfC K cOutOfRange
  eKOutOfRange : ExK K cOutOfRange
  fOutOfRange_Init : Addr
  fdOutOfRange_Init : FuncData
  FOutOfRange_Init : Fun K "__init__" "OutOfRange.__init__" sOutOfRange_Init fOutOfRange_Init fdOutOfRange_Init
  bOutOfRange_Init : Binds K fdOutOfRange_Init ["self", "word"] []
  iKOutOfRange : PySem.W.findIn K (.ref cOutOfRange) "__init__" = some (some (.ref fOutOfRange_Init))
  tKOutOfRange : PySem.W.typeIn K (.ref fOutOfRange_Init) = some (.type "function")
  nKOutOfRange_word : PySem.W.findIn K (.ref cOutOfRange) "word" = some none
  mKOutOfRange_TableError : PySem.W.exmOne K (.ref cOutOfRange) (.ref cTableError) = some true
  mKOutOfRange_OutOfRange : PySem.W.exmOne K (.ref cOutOfRange) (.ref cOutOfRange) = some true
  kKOutOfRange_OutOfRange : PySem.W.kitOne K (.ref cOutOfRange) (.ref cOutOfRange) = some true
section
variable {P : Program} {w : World} {K : PySem.W.Frag} {mg : Str → Option Value} {base : Heap}
/-! ### heaps -/
theorem _root_.L2.Same.tup {K : PySem.W.Frag} {H H' : Hp} {a : Addr} {xs : List V} (e : Same H H') (h : SqT K H a xs) : SqT K H' a xs := by
  rcases h with (h | ⟨o, h⟩) | h
  · exact .inl (.inl (e _ _ h))
  · exact .inl (.inr ⟨o, e _ _ h⟩)
  · exact .inr h
theorem same_new {H : Hp} {p : Addr} {o : HO} (h : H p = none) : Same H (upd H p o) := fun b x e => by
  rw [upd_ne (ne_of_none e h)]
  exact e
theorem same_mut {H H' : Hp} {p : Addr} {o : HO} (e : Same H H') (h : H p = none) : Same H (upd H' p o) := fun b x ha => by
  rw [upd_ne (ne_of_none ha h)]
  exact e b x ha
theorem walk_zipT {K : PySem.W.Frag} {a b : Addr} {xs ys : List V} {n : Nat} (hn : n = min xs.length ys.length) : Walk (ItzT K a b) n (fun H => SqT K H a xs ∧ SqT K H b ys) (YPair (fun i => xs[i]?) (fun i => ys[i]?)) := by
  subst hn
  refine ⟨fun i _ hi q => ?_, fun _ q => ⟨xs, ys, q.1, q.2, by omega⟩, fun i H v H' _ q y => ?_⟩
  · have h1 : i < xs.length := by omega
    have h2 : i < ys.length := by omega
    exact ⟨xs, ys, xs[i], ys[i], q.1, q.2, by simp [h1], by simp [h2]⟩
  · obtain ⟨T, x, z, h1, h2, h3, h4, h5⟩ := y
    exact ⟨T, x, z, h1, h2, h3, h4 xs q.1, h5 ys q.2⟩
/-- a function that hands back a bool or an int and changes nothing -/
theorem getD_at {ns : List Int} {i : Nat} (h : i < ns.length) : (ns.map V.int)[i]? = some (.int (ns.getD i 0)) := by
  rw [List.getElem?_map, List.getElem?_eq_getElem h, List.getD_eq_getElem?_getD, List.getElem?_eq_getElem h]
  rfl
theorem dp_ints {K : PySem.W.Frag} {H : Hp} : ∀ ns : List Int, DpAll K H (ns.map V.int) (ns.map PyData.int)
  | [] => .nil
  | n :: r => .cons (.int n) (dp_ints r)
theorem shaped_tup (ns : List Int) : SeqAt.shaped (.tuple (ns.map PyData.int)) = true := by
  simp [SeqAt.shaped, PyData.canLay0, PyData.depth, PySem.W.ke_canLayAll0, PySem.W.ke_depthAll]
theorem shaped_lst (ns : List Int) : SeqAt.shaped (.list (ns.map PyData.int)) = true := PySem.W.ke_shaped_ints ns
theorem eqv_same {d : PyData} (h : SeqAt.shaped d = true) : PyData.eqv d d = true := by
  refine SeqAt.eqv_refl d ?_
  unfold SeqAt.shaped at h
  exact (Bool.and_eq_true _ _ ▸ h).1
theorem yesT {σ : L2.St} {H : Hp} {A B : Hp → Prop} (h : A H) : tYes σ H (fun b H3 => if b = true then A H3 else B H3) := iteT (A := A H) (B := B H) h
open L2H
/-! ### errors: made, raised, caught -/
theorem takesN {X : Cx} : L2N.Takes X (fun _ _ _ _ => False) := fun _ _ z => by
  obtain ⟨_, _, _, _, _, _, _, _, _, _, _, _, _, _, _, _, no⟩ := z
  exact no.elim
theorem hot_of {X : Cx} {a : Addr} {oe : Obj} {cls : Value} {d : Option Addr} {pn : List (Addr × Obj)} (hz : L2N.Zn cls d oe) (hf : ∃ vs, oe.data = .fields vs) : HotC (X.suite a ((a, oe) :: pn)) := by
  obtain ⟨vs, hv⟩ := hf
  exact ⟨(a, oe), ⟨rfl, vs, hv, hz.2.2 vs hv⟩, List.mem_cons_self ..⟩
theorem okN {x qual : Str} {st : Stmt} {f : Addr} {fd : FuncData} {N ps : List Str} {k : Nat} {sp : Sp} (F : Fun K x qual st f fd) (S : FnScope N ps (defScope st)) (len : ∀ vs H Q E, sp vs H Q E → vs.length = ps.length)
    (go : ∀ (cdv : Value) (A : Around) (outer : List Env) (s : Shared) (H : Hp) (vs : List V) (Q : VK) (E : XK), Room k (A.deeper (envOfC qual (defScope st) s.heap.objs.size f cdv)) → sp vs H Q E →
      ∃ t, PSs (cxOf (L2N.CX P w) P w K mg base N qual (defScope st) f cdv A outer s H E) (defBody st) t ∧ t { nx := fun _ G => Q .non G, rt := Q } (start N vs) H) : FnOk P w K mg base (L2N.CX P w) (k + 1) f fd ps sp := by
  obtain ⟨oc, od, kV, doc, pm, an, cdv, ct, osl, rfl, look, code⟩ := F.ex
  exact fn_of look code S len fun A outer s H vs Q E room h => go cdv A outer s H vs Q E room h
theorem okHot {x qual : Str} {st : Stmt} {f : Addr} {fd : FuncData} {N ps : List Str} {k : Nat} {sp : Sp} (F : Fun K x qual st f fd) (S : FnScope N ps (defScope st)) (len : ∀ vs H Q E, sp vs H Q E → vs.length = ps.length)
    (go : ∀ (cdv : Value) (A : Around) (outer : List Env) (s : Shared) (H : Hp) (vs : List V) (Q : VK) (E : XK) (p : Addr × Obj), Hot1 A p → RoomH k (A.deeper (envOfC qual (defScope st) s.heap.objs.size f cdv)) → sp vs H Q E →
      ∃ t, PSs (cxH CX0 P w K mg base N qual (defScope st) f cdv A outer s H E p) (defBody st) t ∧ t { nx := fun _ G => Q .non G, rt := Q } (start N vs) H) : FnH P w K mg base CX0 (k + 1) f fd ps sp := by
  obtain ⟨oc, od, kV, doc, pm, an, cdv, ct, osl, rfl, look, code⟩ := F.ex
  exact fn_ofH look code S len fun A outer s H vs Q E p hot room h => go cdv A outer s H vs Q E p hot room h
/-- isinstance(e, D) of the error that the suite holds -/
def rIsX (K : PySem.W.Frag) (a C : Addr) (cls : Value) (d : Option Addr) : List V → Hp → VK → Prop := fun xs H Q => ∃ (D dd : Addr) (fs : List (Str × V)) (b : Bool), xs = [.ref a, .ref D] ∧ cls = .ref C ∧ d = some dd ∧ H dd = some (.xd fs) ∧ PySem.W.kitOne K (.ref C) (.ref D) = some b ∧ Q (.bl b) H
theorem cr_isX {X : Cx} {a C : Addr} {cls : Value} {d : Option Addr} {oe : Obj} {pn : List (Addr × Obj)} (Z : ExK X.K C) (hz : Zc cls d oe) (hf : ∃ vs, oe.data = .fields vs) : CallR (X.suite a ((a, oe) :: pn)) (.builtin "isinstance") (rIsX X.K a C cls d) := by
  intro pins s σ H xs us Q I r h
  obtain ⟨D, dd, fs, b, rfl, rfl, rfl, hd, e, q⟩ := h
  cases r with
  | cons r1 rr =>
    cases rr with
    | cons r2 rr =>
      cases rr
      cases r1
      cases r2
      have there := (I.pin (a, oe) (List.mem_append_left _ (List.mem_cons_self ..))).1
      obtain ⟨vs, hv⟩ := hf
      have ox : ObjOk X.prog X.w H s.heap dd (.xd fs) := I.hok dd _ hd
      obtain ⟨m, hn, _⟩ := ox
      obtain ⟨od, ho, _⟩ := lookIn_ns hn
      have J : PySem.W.InstAt s.heap a oe C (some od) := ⟨there, hz.1, by unfold PySem.W.notCls; rw [hv] <;> rfl, by rw [hz.2]; exact ho⟩
      exact PySem.W.kia_one (PySem.W.kitx_exc Z.cl Z.x.ga Z.x.gg Z.x.exC Z.cc Z.cn Z.ct Z.cm) I.kIn J e (fun z => nomatch z) fun tk => ⟨.bl b, H, I.tok tk, rfl, q⟩
/-- C(e, ..), made where nothing is handled -/
theorem mkN {X : Cx} {CX : CXT} {nm : Str} {C g : Addr} {j : Nat} {fd : FuncData} {pz : List Str} {sp : Sp} {e0 : Expr} {er : List Expr} {tg : TA} {p1 p2 : Pos} (O : OexC X.K C) (hI : PySem.W.findIn X.K (.ref C) "__init__" = some (some (.ref g)))
    (hT : PySem.W.typeIn X.K (.ref g) = some (.type "function")) (G : FnOk X.prog X.w X.K X.mg X.base CX j g fd pz sp) (rm : Room (j + 1) X.A) (bn : Binds X.K fd pz []) (no : Passes CX X (fun _ _ _ => False)) (gl : Gl X nm) (at_ : X.mg nm = some (.ref C)) (as : PA X (e0 :: er) tg)
    (nd : (nm == ("__debug__" : Str)) = false := by decide) (st : starEach (e0 :: er) X.env = (false, eval e0 X.env) :: starEach er X.env := by rfl) (pl : (backTo p2 (starEach er X.env)).any (·.1) = false := by rfl) :
    L2N.PMk X (.Call (.Name nm p1) (e0 :: er) [] p2) (tMkO C sp [] tg) := by
  intro pins s σ H Q I h
  obtain ⟨n1, n2, n3, n4, bm, n5, n6, n7, n8, n9, m0, m1, m2, m3, m5, hC, hbm⟩ := O.cls
  refine wpAny_Call_Name_kw (ld_glob I gl at_ ?_ nd)
  refine PySem.W.callWith_K (h₀ := X.base) I.ok.mod.kin O.kC (thn (as.run p2 pins s σ H _ I h) fun us s1 ⟨vs, H1, J1, r1, hz, q1⟩ => ⟨J1.kIn, ?_⟩) st pl
  show wpAny _ _ (call (.ref C) us) _ _ _
  obtain ⟨hp, gs, dr, tok, os⟩ := s1
  have up1 : hp.objs.size ≤ hp.objs.size + 1 := Nat.le_succ _
  have hq := q1 (hp.objs.size + 1) (J1.hok.fresh up1)
  have old : ∀ b o, hp.get? b = some o → ((hp.push (PySem.W.kdv_tup us)).push (PySem.HandSPX.excO C hp.objs.size)).get? b = some o := fun b o z => Heap.get?_push_of_some _ (Heap.get?_push_of_some _ z)
  have new : ((hp.push (PySem.W.kdv_tup us)).push (PySem.HandSPX.excO C hp.objs.size)).get? (hp.objs.size + 1) = some (PySem.HandSPX.excO C hp.objs.size) := by heap_get
  have J2 : Inv X pins σ (upd H1 (hp.objs.size + 1) (exo (hp.objs.size + 1) C none)) ⟨(hp.push (PySem.W.kdv_tup us)).push (PySem.HandSPX.excO C hp.objs.size), gs, dr, tok, os⟩ := J1.laid (t' := tok) old up1 (exo_ok new)
  rw [List.append_nil] at hq
  have r2 : Vals (V.ref (hp.objs.size + 1) :: vs) (Value.ref (hp.objs.size + 1) :: us) := .cons rfl r1
  have nl : (Value.ref (hp.objs.size + 1) :: us).length = pz.length := r2.length.symm.trans (G.len _ _ _ _ hq)
  have bd := bn ⟨(hp.push (PySem.W.kdv_tup us)).push (PySem.HandSPX.excO C hp.objs.size), gs, dr, tok, os⟩ (Value.ref (hp.objs.size + 1) :: us) J2.kIn (by rw [List.append_nil]; exact nl)
  rw [List.append_nil] at bd
  have sz : us.length ≤ sizeLine := by
    rw [← r1.length, sizeLine_eq]
    omega
  refine wpAny_call (PySem.HandSPX.call_own F.excBase_ValueError (fun z => PySem.HandSPX.refsVE_contains z bm hbm) (J1.kIn _ _ hC) (PySem.W.looks_findIn J1.kIn hI) (fun z => PySem.W.bind_fn J1.kIn z hT) sz (codeAny_mono (G.run _ X.stack _ _ ⟨Value.ref (hp.objs.size + 1) :: us, []⟩ _ _ _ (fun _ _ _ => False) (rm.make C us []) (J2.env0.make C us []) bd r2 hq) fun r s2 w => ?_))
  cases r with
  | error er => exact no pins σ _ _ er s2 J2 w
  | ok fl =>
    cases fl with
    | ret u =>
      obtain ⟨v, H2, os2, bare2, un2, hok2, rv, ev, d, fs, ea, ed, hd1, q2⟩ := w
      subst ev
      obtain ⟨h2, gs2, dr2, tok2, os3⟩ := s2
      obtain ⟨t0, G2, J, _, ge, hoe, na⟩ := mk_end0 (d2 := dr2) (t2 := tok2) J1 up1 old un2 hok2 os2 bare2 ea ed hd1
      have kG : ∀ b o, G2.get? b = some o → h2.get? b = some o := by assumption
      exact ⟨rv, hp.objs.size + 1, _, _, ⟨G2, gs2, dr2, tok2, os3⟩, _, .ref C, some d, rfl, J, kG, ge, hoe, ⟨rfl, rfl, fun vs hv => by cases hv; rfl⟩, rfl, rfl, na, rfl, bare2, raises_own O.exC O.tyC, q2⟩
    | next => exact w.elim
    | brk => exact w.elim
    | cont => exact w.elim
/-- the promise of an __init__ that keeps its one argument -/
def spIni (K : PySem.W.Frag) (C : Addr) (f : Str) : Sp := fun vs H Q _ => ∃ (a : Addr) (y : V), vs = [.ref a, y] ∧ H a = some (exo a C none) ∧ ∀ d, H d = none → d ≠ a → Q .non (upd (upd H d (exd d [(f, y)])) a (exo a C (some d)))
theorem mk_heap {H : Hp} {a d : Addr} {o1 o2 o3 o4 : HO} (ha : H a = none) (hd : d ≠ a) : upd (del (upd (upd (upd H a o1) d o2) a o3) a) d o4 = upd H d o4 := by
  funext b
  by_cases h1 : b = d
  · rw [h1, upd_same, upd_same]
  · rw [upd_ne h1, upd_ne h1]
    by_cases h2 : b = a
    · rw [h2, del_same, ha]
    · rw [del_ne h2, upd_ne h2, upd_ne h1, upd_ne h2]
/-- what raising such an error asks -/
theorem ini_of {K : PySem.W.Frag} {C : Addr} {f : Str} {y : V} {H : Hp} {Q : XK} (q : ∀ d, H d = none → Q (.ref C) (some d) (upd H d (.xd [(f, y)]))) : ∀ a, H a = none → spIni K C f (.ref a :: ([y] ++ [])) (upd H a (exo a C none))
    (fun v H2 => v = .non ∧ ∃ (d : Addr) (fs : List (Str × V)), H2 a = some (exo a C (some d)) ∧ H2 d = some (exd d fs) ∧ H d = none ∧ Q (.ref C) (some d) (upd (del H2 a) d (.xd fs))) (fun _ _ _ => False) := fun a ha =>
  ⟨a, y, rfl, upd_same, fun d hd hne => by
    have hd0 : H d = none := by
      rw [upd_ne hne] at hd
      exact hd
    refine ⟨rfl, d, [(f, y)], upd_same, by rw [upd_ne hne, upd_same], hd0, ?_⟩
    rw [mk_heap ha hne]
    exact q d hd0⟩
/-! ### methods that may raise -/
def tMethE (C : Addr) (m : Str) (sp : Sp) (E : L2.St → XK) (ta : TE) (t : TA) : TE := fun σ H Q => ta σ H fun x H1 => ∃ a dx fs, x = .ref a ∧ H1 a = some (.ins C dx fs) ∧ fs.lookup m = none ∧ t σ H1 fun vs H2 => sp (x :: vs) H2 Q (E σ)
theorem pe_methE {X : Cx} {CX : CXT} {k : Nat} {C f : Addr} {fd : FuncData} {ps : List Str} {m : Str} {sp : Sp} {E : L2.St → XK} {o e : Expr} {es : List Expr} {ta : TE} {t : TA} {apos pos : Pos} {pl : Sem Bool} (he : PE X o ta) (c : Cls X.K C) (hm : Meth X.K C m f)
    (F : FnOk X.prog X.w X.K X.mg X.base CX k f fd ps sp) (hr : Room k X.A) (hb : Binds X.K fd ps []) (hx : ∀ σ, PassesAt CX X σ (E σ)) (ha : PA X (e :: es) t)
    (hst : starEach (e :: es) X.env = (false, eval e X.env) :: starEach es X.env := by rfl) (hpl : (backTo pos (starEach es X.env)).any (·.1) = false := by rfl)
    (ht : eval (.Call (.Attribute o m apos) (e :: es) [] pos) X.env = (do
      let ov ← eval o X.env
      standAt apos.atName
      let (f, first) ← holding [ov] (getMethod ov m pl)
      callWith pos f first (backTo pos (starEach (e :: es) X.env)) (backToKw pos (keywordEach [] X.env))) := by rfl) :
    PE X (.Call (.Attribute o m apos) (e :: es) [] pos) (tMethE C m sp E ta t) := by
  refine ⟨fun pins s σ H Q I h => ?_⟩
  refine PySem.W.methodCall_KW (pl := pl) (thn (he.run pins s σ H _ I h) fun u s1 ⟨x, H1, I1, rx, a, dx, fs, ex, ea, l, q⟩ => ?_) ht
  subst ex
  obtain rfl : u = Value.ref a := rx
  refine getmeth_ok I1 ea c hm l ?_
  refine PySem.W.callWith_K (first := [.ref a]) (h₀ := X.base) I.ok.mod.kin hm.kp (thn (ha.run pos pins s1 σ H1 _ I1 q) fun us s2 ⟨vs, H2, I2, r, q2⟩ => ⟨I2.kIn, ?_⟩) hst hpl
  exact run_fnS (us := .ref a :: us) (vs := .ref a :: vs) F hr hb (hx σ) I2 (.cons rfl r) q2
theorem pe_methE0 {X : Cx} {CX : CXT} {k : Nat} {C f : Addr} {fd : FuncData} {ps : List Str} {m : Str} {sp : Sp} {E : L2.St → XK} {o : Expr} {ta : TE} {apos pos : Pos} {pl : Sem Bool} (he : PE X o ta) (c : Cls X.K C) (hm : Meth X.K C m f)
    (F : FnOk X.prog X.w X.K X.mg X.base CX k f fd ps sp) (hr : Room k X.A) (hb : Binds X.K fd ps []) (hx : ∀ σ, PassesAt CX X σ (E σ))
    (ht : eval (.Call (.Attribute o m apos) [] [] pos) X.env = (do
      let ov ← eval o X.env
      standAt apos.atName
      let (f, first) ← holding [ov] (getMethod ov m pl)
      callWith pos f first (backTo pos (starEach [] X.env)) (backToKw pos (keywordEach [] X.env))) := by rfl) :
    PE X (.Call (.Attribute o m apos) [] [] pos) (tMethE C m sp E ta tNil) := by
  refine ⟨fun pins s σ H Q I h => ?_⟩
  refine PySem.W.methodCall_KW (pl := pl) (thn (he.run pins s σ H _ I h) fun u s1 ⟨x, H1, I1, rx, a, dx, fs, ex, ea, l, q⟩ => ?_) ht
  subst ex
  obtain rfl : u = Value.ref a := rx
  refine getmeth_ok I1 ea c hm l ?_
  exact PySem.W.callWith_K0 (first := [.ref a]) I1.kIn hm.kp (run_fnS (us := [.ref a]) (vs := [.ref a]) F hr hb (hx σ) I1 (.cons rfl .nil) q)
/-! ### texts -/
open SX (S S_len S_cat slice_to slice_from num_S int_S)
open PySem.NumText (digitsVal AllDigits)
open TL (numL)
def cap (c : Nat) : Bool := decide (65 ≤ c ∧ c ≤ 90)
def dig (c : Nat) : Bool := decide (48 ≤ c ∧ c ≤ 57)
theorem dig_mem (c : Nat) : decide (c ∈ ("0123456789" : Str).cps.toList) = dig c := by
  have e : ("0123456789" : Str).cps.toList = [48, 49, 50, 51, 52, 53, 54, 55, 56, 57] := by decide +kernel
  rw [e]
  unfold dig
  refine decide_eq_decide.mpr ?_
  simp only [List.mem_cons, List.not_mem_nil, or_false]
  omega
theorem cap_mem (c : Nat) : decide (c ∈ ("ABCDEFGHIJKLMNOPQRSTUVWXYZ" : Str).cps.toList) = cap c := by
  have e : ("ABCDEFGHIJKLMNOPQRSTUVWXYZ" : Str).cps.toList = [65, 66, 67, 68, 69, 70, 71, 72, 73, 74, 75, 76, 77, 78, 79, 80, 81, 82, 83, 84, 85, 86, 87, 88, 89, 90] := by decide +kernel
  rw [e]
  unfold cap
  refine decide_eq_decide.mpr ?_
  simp only [List.mem_cons, List.not_mem_nil, or_false]
  omega
theorem walk_S {a : List Nat} : Walk (Its (S a)) a.length (fun _ => True) (fun i H v H' => H' = H ∧ ∃ c, a[i]? = some c ∧ v = .str (S [c])) :=
  ⟨fun i _ hi _ => by show i < a.toArray.size; simpa using hi, fun _ _ => by show a.toArray.size ≤ a.length; simp, fun i H v H' _ _ y => by
    obtain ⟨e, c, h1, h2⟩ := y
    exact ⟨e, c, by simpa using h1, h2⟩⟩
theorem tw_len {p : Nat → Bool} : ∀ {a : List Nat} {i c : Nat}, (∀ x ∈ a.take i, p x = true) → a[i]? = some c → p c = false → (a.takeWhile p).length = i
  | [], i, c, _, e, _ => by simp at e
  | x :: r, 0, c, _, e, hc => by
    have e2 := Option.some.inj e
    rw [List.takeWhile_cons, e2, hc]
    rfl
  | x :: r, i + 1, c, h, e, hc => by
    have hx : p x = true := h x (by simp)
    rw [List.takeWhile_cons, hx]
    show ((r.takeWhile p).length + 1) = i + 1
    rw [tw_len (fun y hy => h y (by rw [List.take_succ_cons]; exact List.mem_cons_of_mem _ hy)) (by simpa using e) hc]
theorem tw_all {p : Nat → Bool} {a : List Nat} (h : ∀ x ∈ a, p x = true) : (a.takeWhile p).length = a.length := by
  induction a with
  | nil => rfl
  | cons x r ih =>
    rw [List.takeWhile_cons, h x List.mem_cons_self]
    show (r.takeWhile p).length + 1 = r.length + 1
    rw [ih fun y hy => h y (List.mem_cons_of_mem _ hy)]
theorem tw_self {p : Nat → Bool} : ∀ {a : List Nat}, (∀ x ∈ a, p x = true) → a.takeWhile p = a
  | [], _ => rfl
  | x :: r, h => by rw [List.takeWhile_cons, h x List.mem_cons_self, if_pos rfl, tw_self fun y hy => h y (List.mem_cons_of_mem _ hy)]
theorem tw_le {p : Nat → Bool} (a : List Nat) : (a.takeWhile p).length ≤ a.length := by
  induction a with
  | nil => exact Nat.le_refl _
  | cons x r ih =>
    rw [List.takeWhile_cons]
    split
    · exact Nat.succ_le_succ ih
    · exact Nat.zero_le _
theorem tw_take {p : Nat → Bool} : ∀ (a : List Nat), ∀ x ∈ a.take (a.takeWhile p).length, p x = true
  | [], x, h => by simp at h
  | y :: r, x, h => by
    rw [List.takeWhile_cons] at h
    split at h
    · rename_i hy
      rw [List.length_cons, List.take_succ_cons] at h
      rcases List.mem_cons.mp h with e | e
      · rw [e]
        exact hy
      · exact tw_take r x e
    · simp at h
theorem tw_full {p : Nat → Bool} {a : List Nat} (h : (a.takeWhile p).length = a.length) : ∀ x ∈ a, p x = true := fun x hx => tw_take a x (by rw [h, List.take_length]; exact hx)
theorem tw_congr {p q : Nat → Bool} (h : ∀ c, p c = q c) (a : List Nat) : a.takeWhile p = a.takeWhile q := by
  rw [show p = q from funext h]
theorem in12 (n : Int) : inV (.int n) [.int 1, .int 2] = decide (n = 1 ∨ n = 2) := by
  show ((1 : Int) == n || ((2 : Int) == n || false)) = _
  rw [Bool.eq_iff_iff]
  simp only [Bool.or_false, Bool.or_eq_true, beq_iff_eq, decide_eq_true_eq]
  omega
theorem sz100 {n : Nat} (h : n ≤ 100000) : n ≤ sizeLine := Nat.le_trans h (by decide)
theorem item_by {α : Type} (f : α → V) {xs : List α} {k : Int} (h0 : 0 ≤ k) (h1 : k < xs.length) : ∃ v ∈ xs, atI (xs.map f) k = some (f v) := by
  obtain ⟨j, rfl⟩ := Int.eq_ofNat_of_zero_le h0
  have hj : j < xs.length := by omega
  exact ⟨xs[j], List.getElem_mem hj, atI_nat (by rw [List.getElem?_map, List.getElem?_eq_getElem hj]; rfl)⟩
theorem dig_all {a : List Nat} (h : a.all dig = true) : AllDigits a := fun c hc => of_decide_eq_true (List.all_eq_true.mp h c hc)
theorem int_dig {a : List Nat} (h : a.all dig = true) (hne : a ≠ []) (hl : a.length ≤ 640) : intText? (S a) = some ((digitsVal a : Nat) : Int) := intText_digits (x := S a) (dig_all h) hne (by rw [S_len]; omega)
/-! ### a run of signs -/
def rn (z : Str) (a : List Nat) : Nat := (a.takeWhile fun c => decide (c ∈ z.cps.toList)).length
def spCell (K : PySem.W.Frag) : Sp := fun vs H Q _ => ∃ (a : Addr) (ns : List Int) (k : Int), vs = [.ref a, .int k] ∧ 0 ≤ k ∧ SqL K H a (ns.map V.int) ∧ ∀ v : Int, Q (.int v) H
theorem okLawCell (T : Txt K mg) : FnOk P w K mg base CX0 1 T.fLawCell T.fdLawCell ["script", "k"] (spCell K) := by
  refine T.FLawCell.ok scLawCell (fun vs H Q E h => ?_) (fun cdv A outer s H vs Q E hr h => ?_)
  · obtain ⟨a, ns, k, rfl, _⟩ := h
    rfl
  · obtain ⟨a, ns, k, rfl, h0, hS, q⟩ := h
    obtain ⟨k, rfl⟩ := Int.eq_ofNat_of_zero_le h0
    -- slots script=0 k=1
    refine ⟨_, (pss_cons (ps_if (pt_cmpR op_lt (pv 1) (pe_callB call_len_seq (by rfl) T.z_len PySem.boot_len (pa_cons (pv 0) pa_nil)) (nomark _))
          (pss_one (ps_ret (pe_ix ix_list (pv 0) (pv 1) (fun _ _ => rfl))))
          pss_nil)
        (pss_one (ps_ret pe_int))), ?_⟩
    refine ⟨_, rfl, _, rfl, a, _, rfl, .inl hS, _, _, rfl, rfl, _, rfl, ite2 (fun c => ?_) (fun c => ?_)⟩
    · have hk : k < ns.length := by
        have c2 := of_decide_eq_true c
        rw [List.length_map] at c2
        omega
      exact ⟨_, rfl, _, rfl, a, _, _, _, rfl, rfl, hS, atI_nat (getD_at hk), q _⟩
    · exact q 0
/-! ### numbers that a law draws -/
structure Dig (ds : List Int) (n : Nat) : Prop where
  all : ∀ x ∈ ds, 0 ≤ x ∧ x < 1000
  len : ds.length ≤ n
theorem Dig.nil : Dig [] 0 := ⟨fun _ h => (nomatch h), Nat.le_refl _⟩
theorem Dig.more {ds : List Int} {n m : Nat} (h : Dig ds n) (hm : n ≤ m) : Dig ds m := ⟨h.all, Nat.le_trans h.len hm⟩
theorem Dig.add {ds : List Int} {n : Nat} (h : Dig ds n) (x : Int) : Dig (ds ++ [x % 1000]) (n + 1) := by
  refine ⟨fun y hy => ?_, ?_⟩
  · rcases List.mem_append.mp hy with q | q
    · exact h.all y q
    · obtain rfl : y = x % 1000 := by simpa using q
      omega
  · rw [List.length_append]
    have := h.len
    simp only [List.length_singleton]
    omega
def spDigits (K : PySem.W.Frag) : Sp := fun vs H Q _ => ∃ (a : Addr) (ns : List Int) (lo : Nat) (hi : Nat), vs = [.ref a, .int (lo : Int), .int (hi : Int)] ∧ lo ≤ hi ∧ hi ≤ 1000 ∧ SqL K H a (ns.map V.int) ∧
  ∀ H' d ds, Same H H' → H d = none → H' d = some (.lst (ds.map V.int)) → Dig ds (60 * (hi - lo)) → Q (.ref d) H'
theorem okLawDigits (T : Txt K mg) : FnOk P w K mg base CX0 2 T.fLawDigits T.fdLawDigits ["script", "first", "last"] (spDigits K) := by
  refine T.FLawDigits.ok scLawDigits (fun vs H Q E h => ?_) (fun cdv A outer s H vs Q E hr h => ?_)
  · obtain ⟨a, ns, lo, hi, rfl, _⟩ := h
    rfl
  · obtain ⟨a, ns, lo, hi, rfl, hlh, hh, hS, q⟩ := h
    -- slots script=0 first=1 last=2 digits=3 k=4 cell=5 turn=6 seed=7
    refine ⟨_, (pss_cons (ps_set (i := 3) scLawDigits.nd rfl (Or.inl rfl) (pe_lst pa_nil))
        (pss_cons (ps_for PassesOwn.never rfl (pi_range2 rfl T.z_range (pa_cons (pv 1) (pa_cons (pv 2) pa_nil))) (pg_name (i := 4) scLawDigits.nd rfl (Or.inl rfl))
          (pss_cons (ps_set (i := 5) scLawDigits.nd rfl (Or.inl rfl) (pe_call (okLawCell T) (hr.mono (by decide)) (by rfl) T.gLawCell T.FLawCell.kp T.bLawCell .nil pass0 (pa_cons (pv 0) (pa_cons (pv 4) pa_nil))))
          (pss_cons (ps_if (pt_cmpR op_lt (pv 5) pe_int (nomark _))
            (pss_one (ps_set (i := 5) scLawDigits.nd rfl (Or.inl rfl) (pe_op op_sub pe_int (pe_op op_mul pe_int (pv 5)))))
            pss_nil)
          (pss_one (ps_if (pt_cmpR op_ge (pv 5) (pe_op op_pow pe_int pe_int) (nomark _))
            (pss_one (ps_for PassesOwn.never rfl (pi_range1 rfl T.z_range (pa_cons pe_int pa_nil)) (pg_name (i := 6) scLawDigits.nd rfl (Or.inl rfl))
              (pss_one (ps_if (pt_cmpR op_gt (pv 5) pe_int (nomark _))
                (pss_cons (ps_expr (pe_bm PySem.F.plainAttrs_list PySem.F.slot_list_append PySem.F.type_list_append mt_append (pv 3) (pa_cons (pe_op op_mod (pe_callTy call_int1 (by rfl) T.z_int (by decide +kernel) (pa_cons (pv 5) pa_nil)) pe_int) pa_nil)))
                (pss_one (ps_set (i := 5) scLawDigits.nd rfl (Or.inl rfl) (pe_op op_fdiv (pv 5) pe_int))))
                pss_nil))))
            (pss_cons (ps_set (i := 7) scLawDigits.nd rfl (Or.inl rfl) (pe_op op_mod (pe_callTy call_int1 (by rfl) T.z_int (by decide +kernel) (pa_cons (pe_op op_add (pe_op op_add (pe_op op_mul (pv 5) pe_int) (pe_op op_mul (pv 4) pe_int)) pe_int) pa_nil)) pe_int))
            (pss_one (ps_for PassesOwn.never rfl (pi_range1 rfl T.z_range (pa_cons pe_int pa_nil)) (pg_name (i := 6) scLawDigits.nd rfl (Or.inl rfl))
              (pss_cons (ps_set (i := 7) scLawDigits.nd rfl (Or.inl rfl) (pe_op op_mod (pe_callTy call_int1 (by rfl) T.z_int (by decide +kernel) (pa_cons (pe_op op_add (pe_op op_add (pe_op op_mul (pv 7) pe_int) (pe_op op_mul pe_int (pv 6))) pe_int) pa_nil)) pe_int))
              (pss_one (ps_expr (pe_bm PySem.F.plainAttrs_list PySem.F.slot_list_append PySem.F.type_list_append mt_append (pv 3) (pa_cons (pe_op op_mod (pe_callTy call_int1 (by rfl) T.z_int (by decide +kernel) (pa_cons (pe_op op_fdiv (pv 7) pe_int) pa_nil)) pe_int) pa_nil)))))))))))))
        (pss_one (ps_ret (pv 3))))), ?_⟩
    refine ⟨Nat.zero_le _, fun d hd => ?_⟩
    refine ⟨_, rfl, _, rfl, _, _, rfl, ⟨by omega, by omega, by omega, by omega⟩, ?_⟩
    refine for_range (lo := lo) (n := ((hi : Int) - lo).toNat) (fun i σ H' => ∃ ds c0 c1 c2 c3, σ = [some (.ref a), some (.int (lo : Int)), some (.int (hi : Int)), some (.ref d), c0, c1, c2, c3] ∧ Same H H' ∧ H' d = some (.lst (ds.map V.int)) ∧ Dig ds (60 * i))
      ⟨[], _, _, _, _, rfl, same_new hd, upd_same, Dig.nil⟩ ?_ ?_
    · rintro i σ H1 hi2 ⟨ds, c0, c1, c2, c3, rfl, s1, hd1, D⟩
      -- cell = _law_cell(script, k)
      refine ⟨_, rfl, _, rfl, a, ns, _, rfl, by omega, s1.seq hS, fun v => ?_⟩
      -- if cell < 0
      refine ⟨_, rfl, _, _, rfl, rfl, _, rfl, ite2 (fun _ => ?_) (fun _ => ?_)⟩
      · refine ⟨_, rfl, _, _, rfl, rfl, .inl ⟨by decide, by decide⟩, _, _, rfl, rfl, ?_⟩
        refine ⟨_, rfl, _, _, rfl, rfl, ⟨by decide, by decide, by decide⟩, _, _, rfl, rfl, _, rfl, ite2 (fun _ => ?_) (fun _ => ?_)⟩
        · refine ⟨60, rfl, by decide, by decide, for_range (lo := 0) (n := 60) (fun t σ H' => ∃ ds c c1, σ = [some (.ref a), some (.int (lo : Int)), some (.int (hi : Int)), some (.ref d), some (.int ((lo : Int) + i)), some (.int c), c1, c3] ∧ Same H H' ∧ H' d = some (.lst (ds.map V.int)) ∧ Dig ds (60 * i + t)) ⟨ds, _, _, rfl, s1, hd1, D⟩ ?_ ?_⟩
          · rintro t σ H2 ht ⟨ds, c, c1, rfl, s2, hd2, D2⟩
            refine ⟨_, rfl, _, _, rfl, rfl, _, rfl, ite2 (fun _ => ?_) (fun _ => ?_)⟩
            · refine ⟨_, rfl, .inl ⟨rfl, _, SqL.of hd2⟩, _, rfl, .inl ⟨_, rfl, _, _, rfl, rfl, (by show (0 : Int) < _; decide), d, _, _, rfl, rfl, hd2, ?_, _, rfl, _, _, rfl, rfl, ⟨by decide, by decide⟩, ?_⟩⟩
              · rw [List.length_map]
                exact Nat.lt_of_le_of_lt D2.len (Nat.lt_of_lt_of_le (show 60 * i + t < 100000 by omega) (by decide))
              · exact ⟨ds ++ [c % 1000], _, _, rfl, same_mut s2 hd, by rw [upd_same, List.map_append]; rfl, D2.add c⟩
            · exact ⟨ds, _, _, rfl, s2, hd2, D2.more (Nat.le_succ _)⟩
          · rintro σ H2 ⟨ds, c, c1, rfl, s2, hd2, D2⟩
            exact ⟨ds, _, _, _, _, rfl, s2, hd2, D2⟩
        · refine ⟨_, rfl, _, _, rfl, rfl, .inr ⟨by decide, by decide⟩, _, rfl, _, _, rfl, rfl, .inr ⟨by decide, by decide⟩, _, _, rfl, rfl, _, _, rfl, rfl, .inl ⟨_, rfl, _, _, rfl, rfl, (by show (0 : Int) < _; decide), ?_⟩⟩
          refine ⟨12, rfl, by decide, by decide, for_range (lo := 0) (n := 12) (fun t σ H' => ∃ ds c c1 sd, σ = [some (.ref a), some (.int (lo : Int)), some (.int (hi : Int)), some (.ref d), some (.int ((lo : Int) + i)), some (.int c), c1, some (.int sd)] ∧ Same H H' ∧ H' d = some (.lst (ds.map V.int)) ∧ Dig ds (60 * i + t)) ⟨ds, _, _, _, rfl, s1, hd1, D⟩ ?_ ?_⟩
          · rintro t σ H2 ht ⟨ds, c, c1, sd, rfl, s2, hd2, D2⟩
            refine ⟨_, rfl, _, _, rfl, rfl, .inr ⟨by decide, by decide⟩, _, rfl, _, _, rfl, rfl, .inl ⟨by decide, by decide⟩, _, _, rfl, rfl, _, _, rfl, rfl, .inl ⟨_, rfl, _, _, rfl, rfl, (by show (0 : Int) < _; decide), ?_⟩⟩
            refine ⟨_, rfl, .inl ⟨rfl, _, SqL.of hd2⟩, _, rfl, _, _, rfl, rfl, ⟨by decide, by decide⟩, .inl ⟨_, rfl, _, _, rfl, rfl, (by show (0 : Int) < _; decide), d, _, _, rfl, rfl, hd2, ?_, ?_⟩⟩
            · rw [List.length_map]
              exact Nat.lt_of_le_of_lt D2.len (Nat.lt_of_lt_of_le (show 60 * i + t < 100000 by omega) (by decide))
            · exact ⟨ds ++ [_ % 1000], _, _, _, rfl, same_mut s2 hd, by rw [upd_same, List.map_append]; rfl, D2.add _⟩
          · rintro σ H2 ⟨ds, c, c1, sd, rfl, s2, hd2, D2⟩
            exact ⟨ds, _, _, _, _, rfl, s2, hd2, D2.more (by omega)⟩
      · refine ⟨_, rfl, _, _, rfl, rfl, ⟨by decide, by decide, by decide⟩, _, _, rfl, rfl, _, rfl, ite2 (fun _ => ?_) (fun _ => ?_)⟩
        · refine ⟨60, rfl, by decide, by decide, for_range (lo := 0) (n := 60) (fun t σ H' => ∃ ds c c1, σ = [some (.ref a), some (.int (lo : Int)), some (.int (hi : Int)), some (.ref d), some (.int ((lo : Int) + i)), some (.int c), c1, c3] ∧ Same H H' ∧ H' d = some (.lst (ds.map V.int)) ∧ Dig ds (60 * i + t)) ⟨ds, _, _, rfl, s1, hd1, D⟩ ?_ ?_⟩
          · rintro t σ H2 ht ⟨ds, c, c1, rfl, s2, hd2, D2⟩
            refine ⟨_, rfl, _, _, rfl, rfl, _, rfl, ite2 (fun _ => ?_) (fun _ => ?_)⟩
            · refine ⟨_, rfl, .inl ⟨rfl, _, SqL.of hd2⟩, _, rfl, .inl ⟨_, rfl, _, _, rfl, rfl, (by show (0 : Int) < _; decide), d, _, _, rfl, rfl, hd2, ?_, _, rfl, _, _, rfl, rfl, ⟨by decide, by decide⟩, ?_⟩⟩
              · rw [List.length_map]
                exact Nat.lt_of_le_of_lt D2.len (Nat.lt_of_lt_of_le (show 60 * i + t < 100000 by omega) (by decide))
              · exact ⟨ds ++ [c % 1000], _, _, rfl, same_mut s2 hd, by rw [upd_same, List.map_append]; rfl, D2.add c⟩
            · exact ⟨ds, _, _, rfl, s2, hd2, D2.more (Nat.le_succ _)⟩
          · rintro σ H2 ⟨ds, c, c1, rfl, s2, hd2, D2⟩
            exact ⟨ds, _, _, _, _, rfl, s2, hd2, D2⟩
        · refine ⟨_, rfl, _, _, rfl, rfl, .inr ⟨by decide, by decide⟩, _, rfl, _, _, rfl, rfl, .inr ⟨by decide, by decide⟩, _, _, rfl, rfl, _, _, rfl, rfl, .inl ⟨_, rfl, _, _, rfl, rfl, (by show (0 : Int) < _; decide), ?_⟩⟩
          refine ⟨12, rfl, by decide, by decide, for_range (lo := 0) (n := 12) (fun t σ H' => ∃ ds c c1 sd, σ = [some (.ref a), some (.int (lo : Int)), some (.int (hi : Int)), some (.ref d), some (.int ((lo : Int) + i)), some (.int c), c1, some (.int sd)] ∧ Same H H' ∧ H' d = some (.lst (ds.map V.int)) ∧ Dig ds (60 * i + t)) ⟨ds, _, _, _, rfl, s1, hd1, D⟩ ?_ ?_⟩
          · rintro t σ H2 ht ⟨ds, c, c1, sd, rfl, s2, hd2, D2⟩
            refine ⟨_, rfl, _, _, rfl, rfl, .inr ⟨by decide, by decide⟩, _, rfl, _, _, rfl, rfl, .inl ⟨by decide, by decide⟩, _, _, rfl, rfl, _, _, rfl, rfl, .inl ⟨_, rfl, _, _, rfl, rfl, (by show (0 : Int) < _; decide), ?_⟩⟩
            refine ⟨_, rfl, .inl ⟨rfl, _, SqL.of hd2⟩, _, rfl, _, _, rfl, rfl, ⟨by decide, by decide⟩, .inl ⟨_, rfl, _, _, rfl, rfl, (by show (0 : Int) < _; decide), d, _, _, rfl, rfl, hd2, ?_, ?_⟩⟩
            · rw [List.length_map]
              exact Nat.lt_of_le_of_lt D2.len (Nat.lt_of_lt_of_le (show 60 * i + t < 100000 by omega) (by decide))
            · exact ⟨ds ++ [_ % 1000], _, _, _, rfl, same_mut s2 hd, by rw [upd_same, List.map_append]; rfl, D2.add _⟩
          · rintro σ H2 ⟨ds, c, c1, sd, rfl, s2, hd2, D2⟩
            exact ⟨ds, _, _, _, _, rfl, s2, hd2, D2.more (by omega)⟩
    · rintro σ H1 ⟨ds, c0, c1, c2, c3, rfl, s1, hd1, D⟩
      exact ⟨_, rfl, q _ d ds s1 hd hd1 (by rw [show ((hi : Int) - lo).toNat = hi - lo by omega] at D; exact D)⟩
/-- all but the box stays, and the box keeps its list -/
structure Kp (b : Addr) (H H' : Hp) : Prop where
  k : ∀ c o, c ≠ b → H c = some o → H' c = some o
  d : ∀ (x j : V), H b = some (.lst [x, j]) → ∃ j', H' b = some (.lst [x, j'])
instance {b : Addr} {H H' : Hp} : CoeFun (Kp b H H') (fun _ => ∀ c o, c ≠ b → H c = some o → H' c = some o) := ⟨Kp.k⟩
theorem Kp.refl {b : Addr} {H : Hp} : Kp b H H := ⟨fun _ _ _ h => h, fun _ j h => ⟨j, h⟩⟩
theorem Kp.trans {b : Addr} {H H1 H2 : Hp} (x : Kp b H H1) (y : Kp b H1 H2) : Kp b H H2 := ⟨fun c o n h => y.k c o n (x.k c o n h), fun v j h => by
  obtain ⟨j1, h1⟩ := x.d v j h
  exact y.d v j1 h1⟩
theorem Kp.of {b : Addr} {H H1 : Hp} (x : Same H H1) : Kp b H H1 := ⟨fun c o _ h => x c o h, fun _ j h => ⟨j, x _ _ h⟩⟩
theorem Kp.same {b : Addr} {H H1 H2 : Hp} (x : Same H H1) (h : H b = none) (y : Kp b H1 H2) : Same H H2 := fun c o e => y.k c o (ne_of_none e h) (x c o e)
/-- a box of drawn digits and the place of the next one -/
def Box (H : Hp) (b : Addr) : Prop := ∃ (d : Addr) (ds : List Int) (i : Nat), H b = some (.lst [.ref d, .int (i : Int)]) ∧ H d = some (.lst (ds.map V.int)) ∧ b ≠ d
theorem Box.same {H H' : Hp} {b : Addr} (s : Same H H') (h : Box H b) : Box H' b := by
  obtain ⟨d, ds, i, h1, h2, h3⟩ := h
  exact ⟨d, ds, i, s _ _ h1, s _ _ h2, h3⟩
def spDraw (K : PySem.W.Frag) : Sp := fun vs H Q _ => ∃ (b : Addr) (m : Int), vs = [.ref b, .int m] ∧ 0 < m ∧ Box H b ∧ ∀ x H', 0 ≤ x → x < m → Box H' b → Kp b H H' → Q (.int x) H'
theorem okLawDraw (T : Txt K mg) : FnOk P w K mg base CX0 1 T.fLawDraw T.fdLawDraw ["box", "many"] (spDraw K) := by
  refine T.FLawDraw.ok scLawDraw (fun vs H Q E h => ?_) (fun cdv A outer s H vs Q E hr h => ?_)
  · obtain ⟨b, m, rfl, _⟩ := h
    rfl
  · obtain ⟨b, m, rfl, hm, ⟨d, ds, i, hb, hd, nbd⟩, q⟩ := h
    -- slots box=0 many=1 at=2
    refine ⟨_, (pss_cons (ps_set (i := 2) scLawDraw.nd rfl (Or.inl rfl) (pe_ix ix_list (pv 0) pe_int (fun _ _ => rfl)))
        (pss_cons (ps_asg (pe_op op_add (pv 2) pe_int) (pg_sub (pv 0) pe_int set_list))
        (pss_cons (ps_if (pt_cmpR op_lt (pv 2) (pe_callB call_len_seq (by rfl) T.z_len PySem.boot_len (pa_cons (pe_ix ix_list (pv 0) pe_int (fun _ _ => rfl)) pa_nil)) (nomark _))
          (pss_one (ps_ret (pe_op op_mod (pe_callTy call_int1 (by rfl) T.z_int (by decide +kernel) (pa_cons (pe_ix ix_list (pe_ix ix_list (pv 0) pe_int (fun _ _ => rfl)) (pv 2) (fun _ _ => rfl)) pa_nil)) (pv 1))))
          pss_nil)
        (pss_one (ps_ret pe_int))))), ?_⟩
    refine ⟨_, rfl, b, _, _, _, rfl, rfl, SqL.of hb, atI_nat (j := 1) rfl, _, rfl, _, _, rfl, rfl, _, rfl, b, _, _, 1, rfl, rfl, hb, rfl, ?_⟩
    have hb' : (upd H b (.lst ([.ref d, .int (i : Int)].set 1 (.int ((i : Int) + 1))))) b = some (.lst [.ref d, .int ((i : Int) + 1)]) := upd_same
    have hd' : (upd H b (.lst ([.ref d, .int (i : Int)].set 1 (.int ((i : Int) + 1))))) d = some (.lst (ds.map V.int)) := by
      rw [upd_ne nbd.symm]
      exact hd
    have kp : Kp b H (upd H b (.lst ([.ref d, .int (i : Int)].set 1 (.int ((i : Int) + 1))))) := ⟨fun c o n e => by
      rw [upd_ne n]
      exact e, fun x j h => by
      rw [hb] at h
      cases h
      exact ⟨_, hb'⟩⟩
    refine ⟨_, rfl, _, rfl, b, _, _, _, rfl, rfl, SqL.of hb', atI_nat (j := 0) rfl, d, _, rfl, .inl (SqL.of hd'), _, _, rfl, rfl, _, rfl, ite2 (fun c => ?_) (fun c => ?_)⟩
    · have hk : i < ds.length := by
        have c2 := of_decide_eq_true c
        rw [List.length_map] at c2
        omega
      refine ⟨_, rfl, b, _, _, _, rfl, rfl, SqL.of hb', atI_nat (j := 0) rfl, _, rfl, d, _, _, _, rfl, rfl, SqL.of hd', atI_nat (getD_at hk), .inl ⟨_, rfl, _, rfl, _, _, rfl, rfl, hm, ?_⟩⟩
      exact q _ _ (Int.emod_nonneg _ (by omega)) (Int.emod_lt_of_pos _ hm) ⟨d, ds, i + 1, hb', hd', nbd⟩ kp
    · exact q _ _ (Int.le_refl _) hm ⟨d, ds, i + 1, hb', hd', nbd⟩ kp
def spBig (K : PySem.W.Frag) : Sp := fun vs H Q _ => ∃ (b : Addr) (m : Int), vs = [.ref b, .int m] ∧ 0 ≤ m ∧ m ≤ 1000 ∧ Box H b ∧ ∀ x H', 0 ≤ x → x < 1000 ^ m.toNat → Box H' b → Kp b H H' → Q (.int x) H'
theorem okLawBig (T : Txt K mg) : FnOk P w K mg base CX0 2 T.fLawBig T.fdLawBig ["box", "size"] (spBig K) := by
  refine T.FLawBig.ok scLawBig (fun vs H Q E h => ?_) (fun cdv A outer s H vs Q E hr h => ?_)
  · obtain ⟨b, m, rfl, _⟩ := h
    rfl
  · obtain ⟨b, m, rfl, hm0, hm, hB, q⟩ := h
    obtain ⟨m, rfl⟩ := Int.eq_ofNat_of_zero_le hm0
    rw [Int.toNat_natCast] at q
    -- slots box=0 size=1 number=2 k=3
    refine ⟨_, (pss_cons (ps_set (i := 2) scLawBig.nd rfl (Or.inl rfl) pe_int)
        (pss_cons (ps_for PassesOwn.never rfl (pi_range1 rfl T.z_range (pa_cons (pv 1) pa_nil)) (pg_name (i := 3) scLawBig.nd rfl (Or.inl rfl))
          (pss_one (ps_set (i := 2) scLawBig.nd rfl (Or.inl rfl) (pe_op op_add (pe_op op_mul (pv 2) pe_int) (pe_call (okLawDraw T) (hr.mono (by decide)) (by rfl) T.gLawDraw T.FLawDraw.kp T.bLawDraw .nil pass0 (pa_cons (pv 0) (pa_cons pe_int pa_nil)))))))
        (pss_one (ps_ret (pv 2))))), ?_⟩
    refine ⟨_, rfl, _, rfl, by omega, by omega, for_range (lo := 0) (n := m) (fun t σ H' => ∃ x c, σ = [some (.ref b), some (.int (m : Int)), some (.int x), c] ∧ 0 ≤ x ∧ x < 1000 ^ t ∧ Box H' b ∧ Kp b H H') ⟨0, _, rfl, by decide, by decide, hB, Kp.refl⟩ ?_ ?_⟩
    · rintro t σ H1 ht ⟨x, c, rfl, h0, h1, hB1, k1⟩
      refine ⟨_, rfl, _, _, rfl, rfl, .inr ⟨by decide, by decide⟩, _, rfl, b, 1000, rfl, by decide, hB1, fun y H2 y0 y1 hB2 k2 => ?_⟩
      refine ⟨_, _, rfl, rfl, x * 1000 + y, _, rfl, by omega, ?_, hB2, k1.trans k2⟩
      rw [Int.pow_succ]
      omega
    · rintro σ H1 ⟨x, c, rfl, h0, h1, hB1, k1⟩
      exact ⟨_, rfl, q x _ h0 h1 hB1 k1⟩
/-! ### the greatest common divisor by Euclid's steps -/
theorem half_step {a b : Nat} (hb : 0 < b) (hba : b ≤ a) : 2 * (b * (a % b)) ≤ a * b := by
  have h1 := Nat.mod_lt a hb
  have h2 : b + a % b ≤ a := by
    have e := Nat.div_add_mod a b
    have q : 1 ≤ a / b := (Nat.one_le_div_iff hb).mpr hba
    have z : b * 1 ≤ b * (a / b) := Nat.mul_le_mul_left b q
    omega
  have h3 : 2 * (a % b) ≤ a := by omega
  calc 2 * (b * (a % b)) = b * (2 * (a % b)) := by rw [Nat.mul_left_comm]
    _ ≤ b * a := Nat.mul_le_mul_left b h3
    _ = a * b := Nat.mul_comm b a
def spGcd (K : PySem.W.Frag) : Sp := fun vs H Q _ => ∃ (x y : Int), vs = [.int x, .int y] ∧ x.natAbs * y.natAbs < 2 ^ 890 ∧ Q (.int ((Nat.gcd x.natAbs y.natAbs : Nat) : Int)) H
theorem abs_eq (x : Int) : (if x < 0 then -x else x) = ((x.natAbs : Nat) : Int) := by
  split <;> omega
theorem okLawGcd (T : Txt K mg) : FnOk P w K mg base CX0 1 T.fLawGcd T.fdLawGcd ["a", "b"] (spGcd K) := by
  refine T.FLawGcd.ok scLawGcd (fun vs H Q E h => ?_) (fun cdv A outer s H vs Q E hr h => ?_)
  · obtain ⟨x, y, rfl, _⟩ := h
    rfl
  · obtain ⟨x, y, rfl, hz, q⟩ := h
    -- slots a=0 b=1 turn=2 rest=3
    refine ⟨_, (pss_cons (ps_set (i := 0) scLawGcd.nd rfl (Or.inl rfl) (pe_callB call_abs (by rfl) T.z_abs (by decide +kernel) (pa_cons (pv 0) pa_nil)))
        (pss_cons (ps_set (i := 1) scLawGcd.nd rfl (Or.inl rfl) (pe_callB call_abs (by rfl) T.z_abs (by decide +kernel) (pa_cons (pv 1) pa_nil)))
        (pss_cons (ps_for PassesOwn.never rfl (pi_range1 rfl T.z_range (pa_cons pe_int pa_nil)) (pg_name (i := 2) scLawGcd.nd rfl (Or.inl rfl))
          (pss_cons (ps_if (pt_cmpR op_eq (pv 1) pe_int (nomark _))
            (pss_one ps_break)
            pss_nil)
          (pss_cons (ps_set (i := 3) scLawGcd.nd rfl (Or.inl rfl) (pe_op op_mod (pe_callTy call_int1 (by rfl) T.z_int (by decide +kernel) (pa_cons (pv 0) pa_nil)) (pv 1)))
          (pss_cons (ps_set (i := 0) scLawGcd.nd rfl (Or.inl rfl) (pv 1))
          (pss_one (ps_set (i := 1) scLawGcd.nd rfl (Or.inl rfl) (pv 3)))))))
        (pss_one (ps_ret (pv 0)))))), ?_⟩
    refine ⟨_, rfl, _, rfl, ?_⟩
    refine ⟨_, rfl, _, rfl, ?_⟩
    rw [abs_eq, abs_eq]
    generalize x.natAbs = a0 at hz q ⊢
    generalize y.natAbs = b0 at hz q ⊢
    refine ⟨900, rfl, by decide, by decide, for_range (lo := 0) (n := 900) (fun t σ H' => ∃ (a b : Nat) (c c1 : Option V), σ = [some (.int (a : Int)), some (.int (b : Int)), c, c1] ∧ H' = H ∧ Nat.gcd a b = Nat.gcd a0 b0 ∧ (t = 0 ∨ b ≤ a) ∧ (a * b) * 2 ^ (t - 1) < 2 ^ 890) ⟨a0, b0, _, _, rfl, rfl, rfl, .inl rfl, by simpa using hz⟩ ?_ ?_⟩
    · rintro t σ H1 ht ⟨a, b, c, c1, rfl, rfl, hg, ho, hs⟩
      refine ⟨_, rfl, rfl, _, rfl, ite2 (fun e => ?_) (fun e => ?_)⟩
      · have e2 : b = 0 := by
          have e3 := V.int.inj (of_decide_eq_true e)
          omega
        subst e2
        rw [Nat.gcd_zero_right] at hg
        refine ⟨_, rfl, ?_⟩
        rw [hg]
        exact q
      · have hb : 0 < b := by
          rcases Nat.eq_zero_or_pos b with z | z
          · subst z
            exact absurd (decide_eq_true rfl) e
          · exact z
        refine ⟨_, rfl, .inl ⟨_, rfl, _, rfl, _, _, rfl, rfl, (by show (0 : Int) < (b : Int); omega), ?_⟩⟩
        refine ⟨_, rfl, _, rfl, b, a % b, _, _, rfl, rfl, ?_, .inr (Nat.le_of_lt (Nat.mod_lt a hb)), ?_⟩
        · rw [← hg, Nat.gcd_comm a b, Nat.gcd_rec b a, Nat.gcd_comm]
        · rcases ho with z | z
          · subst z
            rw [show (2 : Nat) ^ (0 + 1 - 1) = 2 ^ (0 - 1) from rfl]
            refine Nat.lt_of_le_of_lt (Nat.mul_le_mul_right _ ?_) hs
            rw [Nat.mul_comm a b]
            exact Nat.mul_le_mul_left b (Nat.mod_le a b)
          · have h2 := half_step hb z
            rcases t with _ | t
            · refine Nat.lt_of_le_of_lt (Nat.mul_le_mul_right _ ?_) hs
              omega
            · show b * (a % b) * 2 ^ (t + 1) < 2 ^ 890
              refine Nat.lt_of_le_of_lt ?_ (show (a * b) * 2 ^ t < 2 ^ 890 from hs)
              rw [Nat.pow_succ, Nat.mul_comm (2 ^ t) 2, ← Nat.mul_assoc]
              refine Nat.mul_le_mul_right _ ?_
              rw [Nat.mul_comm]
              exact h2
    · rintro σ H1 ⟨a, b, c, c1, rfl, rfl, hg, ho, hs⟩
      have hb : a * b = 0 := by
        rcases Nat.eq_zero_or_pos (a * b) with z | z
        · exact z
        · exfalso
          have h1 : 1 * 2 ^ (900 - 1) ≤ (a * b) * 2 ^ (900 - 1) := Nat.mul_le_mul_right _ z
          have h2 : (2 : Nat) ^ 890 ≤ 1 * 2 ^ (900 - 1) := by decide
          omega
      have hb0 : b = 0 := by
        rcases Nat.mul_eq_zero.mp hb with z | z
        · rcases ho with w | w <;> omega
        · exact z
      subst hb0
      rw [Nat.gcd_zero_right] at hg
      refine ⟨_, rfl, ?_⟩
      rw [hg]
      exact q
/-! ### the law's own comparison -/
def Scal : V → Prop
  | .non => True
  | .bl _ => True
  | .int _ => True
  | .str _ => True
  | _ => False
def Lk (H : Hp) : Nat → V → V → Prop
  | 0, x, y => x = y ∧ Scal y
  | n + 1, x, y => (x = y ∧ Scal y) ∨
    (∃ a b xs ys, x = .ref a ∧ y = .ref b ∧ H a = some (.tup xs) ∧ H b = some (.tup ys) ∧ xs.length = ys.length ∧ xs.length ≤ 100000 ∧ ∀ (i : Nat) u v, xs[i]? = some u → ys[i]? = some v → Lk H n u v) ∨
    (∃ a b xs ys, x = .ref a ∧ y = .ref b ∧ H a = some (.lst xs) ∧ H b = some (.lst ys) ∧ xs.length = ys.length ∧ xs.length ≤ 100000 ∧ ∀ (i : Nat) u v, xs[i]? = some u → ys[i]? = some v → Lk H n u v)
theorem isi {K : PySem.W.Frag} {H : Hp} {x : V} {t c : String} {b : Bool} {Q : VK} (ty : TyX K H x (.type t)) (h : kitB t c = some b) (q : Q (.bl b) H) : rIsi K [x, .ty c] H Q := ⟨x, .ty c, _, _, b, rfl, .ty c, ty, kit_ty h, q⟩
def spSame (K : PySem.W.Frag) (n : Nat) : Sp := fun vs H Q _ => ∃ (x y : V), vs = [x, y] ∧ Lk H n x y ∧ Q (.bl true) H
theorem okLawSame (T : Txt K mg) : ∀ n : Nat, FnOk P w K mg base CX0 (n + 1) T.fLawSame T.fdLawSame ["actual", "due"] (spSame K n)
  | 0 => by
    refine T.FLawSame.ok scLawSame (fun vs H Q E h => ?_) (fun cdv A outer s H vs Q E hr h => ?_)
    · obtain ⟨x, y, rfl, _⟩ := h
      rfl
    · obtain ⟨x, y, rfl, ⟨rfl, sy⟩, q⟩ := h
      -- slots actual=0 due=1 k=2
      refine ⟨_, (pss_cons (ps_if (PW.pt (pw_or (pt_val (pe_callB call_isi (by rfl) T.z_isinstance (by decide +kernel) (pa_cons (pv 1) (pa_cons (pe_bltn (v := .ty "list") (by rfl) T.z_list (by decide +kernel) rfl) pa_nil)))) (pw_or1 (pt_val (pe_callB call_isi (by rfl) T.z_isinstance (by decide +kernel) (pa_cons (pv 1) (pa_cons (pe_bltn (v := .ty "tuple") (by rfl) T.z_tuple (by decide +kernel) rfl) pa_nil)))))))
            (pss_cons ps_never
            (pss_cons ps_never
            (pss_cons ps_never
            (pss_one ps_never))))
            pss_nil)
          (pss_cons (ps_if (pt_cmpR op_isN (pv 1) pe_non (nomark _))
            (pss_one (ps_ret (pe_cmpR op_isN (pv 0) pe_non (nomark _))))
            pss_nil)
          (pss_cons (ps_if (pt_val (pe_callB call_isi (by rfl) T.z_isinstance (by decide +kernel) (pa_cons (pv 1) (pa_cons (pe_bltn (v := .ty "bool") (by rfl) T.z_bool (by decide +kernel) rfl) pa_nil))))
            (pss_one (ps_ret (pe_and (pe_callB call_isi (by rfl) T.z_isinstance (by decide +kernel) (pa_cons (pv 0) (pa_cons (pe_bltn (v := .ty "bool") (by rfl) T.z_bool (by decide +kernel) rfl) pa_nil))) (pe_one (pe_cmpR op_eq (pv 0) (pv 1) (nomark _))))))
            pss_nil)
          (pss_cons (ps_if (pt_val (pe_callB call_isi (by rfl) T.z_isinstance (by decide +kernel) (pa_cons (pv 1) (pa_cons (pe_bltn (v := .ty "str") (by rfl) T.z_str (by decide +kernel) rfl) pa_nil))))
            (pss_one (ps_ret (pe_and (pe_callB call_isi (by rfl) T.z_isinstance (by decide +kernel) (pa_cons (pv 0) (pa_cons (pe_bltn (v := .ty "str") (by rfl) T.z_str (by decide +kernel) rfl) pa_nil))) (pe_one (pe_cmpR op_eq (pv 0) (pv 1) (nomark _))))))
            pss_nil)
          (pss_one (ps_ret (pe_and (pe_callB call_isi (by rfl) T.z_isinstance (by decide +kernel) (pa_cons (pv 0) (pa_cons (pe_bltn (v := .ty "int") (by rfl) T.z_int (by decide +kernel) rfl) pa_nil))) (pe_and (pe_not (pe_callB call_isi (by rfl) T.z_isinstance (by decide +kernel) (pa_cons (pv 0) (pa_cons (pe_bltn (v := .ty "bool") (by rfl) T.z_bool (by decide +kernel) rfl) pa_nil)))) (pe_one (pe_cmpR op_eq (pv 0) (pv 1) (nomark _))))))))))), ?_⟩
      cases x with
      | non =>
        refine ⟨_, rfl, _, _, _, _, false, rfl, .ty _, .base (.non), kit_ty (by decide +kernel), _, rfl, iteF ⟨_, rfl, _, _, _, _, false, rfl, .ty _, .base (.non), kit_ty (by decide +kernel), _, rfl, iteF ?_⟩⟩
        refine ⟨_, rfl, rfl, _, rfl, ite2 (fun _ => ?_) (fun c => absurd (decide_eq_true rfl) c)⟩
        refine ⟨_, rfl, rfl, ?_⟩
        rw [decide_eq_true rfl]
        exact q
      | bl v =>
        refine ⟨_, rfl, _, _, _, _, false, rfl, .ty _, .base (.bl v), kit_ty (by decide +kernel), _, rfl, iteF ⟨_, rfl, _, _, _, _, false, rfl, .ty _, .base (.bl v), kit_ty (by decide +kernel), _, rfl, iteF ?_⟩⟩
        refine ⟨_, rfl, rfl, _, rfl, ite2 (fun c => (nomatch (of_decide_eq_true c))) (fun _ => ?_)⟩
        refine ⟨_, rfl, _, _, _, _, true, rfl, .ty _, .base (.bl v), kit_ty (by decide +kernel), _, rfl, iteT ?_⟩
        refine ⟨_, rfl, _, _, _, _, true, rfl, .ty _, .base (.bl v), kit_ty (by decide +kernel), _, rfl, iteT ?_⟩
        refine ⟨_, rfl, _, rfl, rfl, ?_⟩
        rw [decide_eq_true rfl]
        exact q
      | int v =>
        refine ⟨_, rfl, _, _, _, _, false, rfl, .ty _, .base (.int v), kit_ty (by decide +kernel), _, rfl, iteF ⟨_, rfl, _, _, _, _, false, rfl, .ty _, .base (.int v), kit_ty (by decide +kernel), _, rfl, iteF ?_⟩⟩
        refine ⟨_, rfl, rfl, _, rfl, ite2 (fun c => (nomatch (of_decide_eq_true c))) (fun _ => ?_)⟩
        refine ⟨_, rfl, _, _, _, _, false, rfl, .ty _, .base (.int v), kit_ty (by decide +kernel), _, rfl, iteF ?_⟩
        refine ⟨_, rfl, _, _, _, _, false, rfl, .ty _, .base (.int v), kit_ty (by decide +kernel), _, rfl, iteF ?_⟩
        refine ⟨_, rfl, _, _, _, _, true, rfl, .ty _, .base (.int v), kit_ty (by decide +kernel), _, rfl, iteT ?_⟩
        refine ⟨_, rfl, _, _, _, _, false, rfl, .ty _, .base (.int v), kit_ty (by decide +kernel), _, rfl, _, rfl, iteT ?_⟩
        refine ⟨_, rfl, _, rfl, rfl, ?_⟩
        rw [decide_eq_true rfl]
        exact q
      | str v =>
        refine ⟨_, rfl, _, _, _, _, false, rfl, .ty _, .base (.str v), kit_ty (by decide +kernel), _, rfl, iteF ⟨_, rfl, _, _, _, _, false, rfl, .ty _, .base (.str v), kit_ty (by decide +kernel), _, rfl, iteF ?_⟩⟩
        refine ⟨_, rfl, rfl, _, rfl, ite2 (fun c => (nomatch (of_decide_eq_true c))) (fun _ => ?_)⟩
        refine ⟨_, rfl, _, _, _, _, false, rfl, .ty _, .base (.str v), kit_ty (by decide +kernel), _, rfl, iteF ?_⟩
        refine ⟨_, rfl, _, _, _, _, true, rfl, .ty _, .base (.str v), kit_ty (by decide +kernel), _, rfl, iteT ?_⟩
        refine ⟨_, rfl, _, _, _, _, true, rfl, .ty _, .base (.str v), kit_ty (by decide +kernel), _, rfl, iteT ?_⟩
        refine ⟨_, rfl, _, rfl, rfl, ?_⟩
        rw [decide_eq_true rfl]
        exact q
      | _ => exact sy.elim
  | n + 1 => by
    have IH := okLawSame T n
    refine T.FLawSame.ok scLawSame (fun vs H Q E h => ?_) (fun cdv A outer s H vs Q E hr h => ?_)
    · obtain ⟨x, y, rfl, _⟩ := h
      rfl
    · obtain ⟨x, y, rfl, hL, q⟩ := h
      -- slots actual=0 due=1 k=2
      refine ⟨_, (pss_cons (ps_if (PW.pt (pw_or (pt_val (pe_callB call_isi (by rfl) T.z_isinstance (by decide +kernel) (pa_cons (pv 1) (pa_cons (pe_bltn (v := .ty "list") (by rfl) T.z_list (by decide +kernel) rfl) pa_nil)))) (pw_or1 (pt_val (pe_callB call_isi (by rfl) T.z_isinstance (by decide +kernel) (pa_cons (pv 1) (pa_cons (pe_bltn (v := .ty "tuple") (by rfl) T.z_tuple (by decide +kernel) rfl) pa_nil)))))))
            (pss_cons (ps_if (PW.pt (pw_or (pt_cmpR op_ne (pe_callB call_isi (by rfl) T.z_isinstance (by decide +kernel) (pa_cons (pv 1) (pa_cons (pe_bltn (v := .ty "list") (by rfl) T.z_list (by decide +kernel) rfl) pa_nil))) (pe_callB call_isi (by rfl) T.z_isinstance (by decide +kernel) (pa_cons (pv 0) (pa_cons (pe_bltn (v := .ty "list") (by rfl) T.z_list (by decide +kernel) rfl) pa_nil))) (nomark _)) (pw_or1 (pt_cmpR op_ne (pe_callB call_isi (by rfl) T.z_isinstance (by decide +kernel) (pa_cons (pv 1) (pa_cons (pe_bltn (v := .ty "tuple") (by rfl) T.z_tuple (by decide +kernel) rfl) pa_nil))) (pe_callB call_isi (by rfl) T.z_isinstance (by decide +kernel) (pa_cons (pv 0) (pa_cons (pe_bltn (v := .ty "tuple") (by rfl) T.z_tuple (by decide +kernel) rfl) pa_nil))) (nomark _)))))
              (pss_one (ps_ret pe_bl))
              pss_nil)
            (pss_cons (ps_if (pt_cmpR op_ne (pe_callB call_len_seq (by rfl) T.z_len PySem.boot_len (pa_cons (pv 0) pa_nil)) (pe_callB call_len_seq (by rfl) T.z_len PySem.boot_len (pa_cons (pv 1) pa_nil)) (nomark _))
              (pss_one (ps_ret pe_bl))
              pss_nil)
            (pss_cons (ps_for PassesOwn.never rfl (pi_range1 rfl T.z_range (pa_cons (pe_callB call_len_seq (by rfl) T.z_len PySem.boot_len (pa_cons (pv 1) pa_nil)) pa_nil)) (pg_name (i := 2) scLawSame.nd rfl (Or.inl rfl))
              (pss_one (ps_if (pt_not (pt_val (pe_call IH (hr.mono (Nat.le_refl _)) (by rfl) T.gLawSame T.FLawSame.kp T.bLawSame .nil pass0 (pa_cons (pe_ix ix_seq (pv 0) (pv 2) (fun _ _ => rfl)) (pa_cons (pe_ix ix_seq (pv 1) (pv 2) (fun _ _ => rfl)) pa_nil)))))
                (pss_one (ps_ret pe_bl))
                pss_nil)))
            (pss_one (ps_ret pe_bl)))))
            pss_nil)
          (pss_cons (ps_if (pt_cmpR op_isN (pv 1) pe_non (nomark _))
            (pss_one (ps_ret (pe_cmpR op_isN (pv 0) pe_non (nomark _))))
            pss_nil)
          (pss_cons (ps_if (pt_val (pe_callB call_isi (by rfl) T.z_isinstance (by decide +kernel) (pa_cons (pv 1) (pa_cons (pe_bltn (v := .ty "bool") (by rfl) T.z_bool (by decide +kernel) rfl) pa_nil))))
            (pss_one (ps_ret (pe_and (pe_callB call_isi (by rfl) T.z_isinstance (by decide +kernel) (pa_cons (pv 0) (pa_cons (pe_bltn (v := .ty "bool") (by rfl) T.z_bool (by decide +kernel) rfl) pa_nil))) (pe_one (pe_cmpR op_eq (pv 0) (pv 1) (nomark _))))))
            pss_nil)
          (pss_cons (ps_if (pt_val (pe_callB call_isi (by rfl) T.z_isinstance (by decide +kernel) (pa_cons (pv 1) (pa_cons (pe_bltn (v := .ty "str") (by rfl) T.z_str (by decide +kernel) rfl) pa_nil))))
            (pss_one (ps_ret (pe_and (pe_callB call_isi (by rfl) T.z_isinstance (by decide +kernel) (pa_cons (pv 0) (pa_cons (pe_bltn (v := .ty "str") (by rfl) T.z_str (by decide +kernel) rfl) pa_nil))) (pe_one (pe_cmpR op_eq (pv 0) (pv 1) (nomark _))))))
            pss_nil)
          (pss_one (ps_ret (pe_and (pe_callB call_isi (by rfl) T.z_isinstance (by decide +kernel) (pa_cons (pv 0) (pa_cons (pe_bltn (v := .ty "int") (by rfl) T.z_int (by decide +kernel) rfl) pa_nil))) (pe_and (pe_not (pe_callB call_isi (by rfl) T.z_isinstance (by decide +kernel) (pa_cons (pv 0) (pa_cons (pe_bltn (v := .ty "bool") (by rfl) T.z_bool (by decide +kernel) rfl) pa_nil)))) (pe_one (pe_cmpR op_eq (pv 0) (pv 1) (nomark _))))))))))), ?_⟩
      rcases hL with ⟨rfl, sy⟩ | ⟨a, b, xs, ys, rfl, rfl, ha, hb, hl, hz, hi⟩ | ⟨a, b, xs, ys, rfl, rfl, ha, hb, hl, hz, hi⟩
      · cases x with
        | non =>
          refine ⟨_, rfl, _, _, _, _, false, rfl, .ty _, .base (.non), kit_ty (by decide +kernel), _, rfl, iteF ⟨_, rfl, _, _, _, _, false, rfl, .ty _, .base (.non), kit_ty (by decide +kernel), _, rfl, iteF ?_⟩⟩
          refine ⟨_, rfl, rfl, _, rfl, ite2 (fun _ => ?_) (fun c => absurd (decide_eq_true rfl) c)⟩
          refine ⟨_, rfl, rfl, ?_⟩
          rw [decide_eq_true rfl]
          exact q
        | bl v =>
          refine ⟨_, rfl, _, _, _, _, false, rfl, .ty _, .base (.bl v), kit_ty (by decide +kernel), _, rfl, iteF ⟨_, rfl, _, _, _, _, false, rfl, .ty _, .base (.bl v), kit_ty (by decide +kernel), _, rfl, iteF ?_⟩⟩
          refine ⟨_, rfl, rfl, _, rfl, ite2 (fun c => (nomatch (of_decide_eq_true c))) (fun _ => ?_)⟩
          refine ⟨_, rfl, _, _, _, _, true, rfl, .ty _, .base (.bl v), kit_ty (by decide +kernel), _, rfl, iteT ?_⟩
          refine ⟨_, rfl, _, _, _, _, true, rfl, .ty _, .base (.bl v), kit_ty (by decide +kernel), _, rfl, iteT ?_⟩
          refine ⟨_, rfl, _, rfl, rfl, ?_⟩
          rw [decide_eq_true rfl]
          exact q
        | int v =>
          refine ⟨_, rfl, _, _, _, _, false, rfl, .ty _, .base (.int v), kit_ty (by decide +kernel), _, rfl, iteF ⟨_, rfl, _, _, _, _, false, rfl, .ty _, .base (.int v), kit_ty (by decide +kernel), _, rfl, iteF ?_⟩⟩
          refine ⟨_, rfl, rfl, _, rfl, ite2 (fun c => (nomatch (of_decide_eq_true c))) (fun _ => ?_)⟩
          refine ⟨_, rfl, _, _, _, _, false, rfl, .ty _, .base (.int v), kit_ty (by decide +kernel), _, rfl, iteF ?_⟩
          refine ⟨_, rfl, _, _, _, _, false, rfl, .ty _, .base (.int v), kit_ty (by decide +kernel), _, rfl, iteF ?_⟩
          refine ⟨_, rfl, _, _, _, _, true, rfl, .ty _, .base (.int v), kit_ty (by decide +kernel), _, rfl, iteT ?_⟩
          refine ⟨_, rfl, _, _, _, _, false, rfl, .ty _, .base (.int v), kit_ty (by decide +kernel), _, rfl, _, rfl, iteT ?_⟩
          refine ⟨_, rfl, _, rfl, rfl, ?_⟩
          rw [decide_eq_true rfl]
          exact q
        | str v =>
          refine ⟨_, rfl, _, _, _, _, false, rfl, .ty _, .base (.str v), kit_ty (by decide +kernel), _, rfl, iteF ⟨_, rfl, _, _, _, _, false, rfl, .ty _, .base (.str v), kit_ty (by decide +kernel), _, rfl, iteF ?_⟩⟩
          refine ⟨_, rfl, rfl, _, rfl, ite2 (fun c => (nomatch (of_decide_eq_true c))) (fun _ => ?_)⟩
          refine ⟨_, rfl, _, _, _, _, false, rfl, .ty _, .base (.str v), kit_ty (by decide +kernel), _, rfl, iteF ?_⟩
          refine ⟨_, rfl, _, _, _, _, true, rfl, .ty _, .base (.str v), kit_ty (by decide +kernel), _, rfl, iteT ?_⟩
          refine ⟨_, rfl, _, _, _, _, true, rfl, .ty _, .base (.str v), kit_ty (by decide +kernel), _, rfl, iteT ?_⟩
          refine ⟨_, rfl, _, rfl, rfl, ?_⟩
          rw [decide_eq_true rfl]
          exact q
        | _ => exact sy.elim
      · refine ⟨_, rfl, _, _, _, _, false, rfl, .ty _, .base (.tup hb), kit_ty (by decide +kernel), _, rfl, iteF ⟨_, rfl, _, _, _, _, true, rfl, .ty _, .base (.tup hb), kit_ty (by decide +kernel), _, rfl, iteT ?_⟩⟩
        refine ⟨_, rfl, _, _, _, _, false, rfl, .ty _, .base (.tup hb), kit_ty (by decide +kernel), _, rfl, _, _, _, _, false, rfl, .ty _, .base (.tup ha), kit_ty (by decide +kernel), rfl, _, rfl, iteNS rfl ?_⟩
        refine ⟨_, rfl, _, _, _, _, true, rfl, .ty _, .base (.tup hb), kit_ty (by decide +kernel), _, rfl, _, _, _, _, true, rfl, .ty _, .base (.tup ha), kit_ty (by decide +kernel), rfl, _, rfl, iteNS rfl ?_⟩
        refine ⟨_, rfl, a, _, rfl, .inr (SqT.of ha), _, rfl, b, _, rfl, .inr (SqT.of hb), rfl, _, rfl, iteNS (by rw [hl]) ?_⟩
        refine ⟨_, rfl, b, _, rfl, .inr (SqT.of hb), _, rfl, by omega, by omega, for_range (lo := 0) (n := ys.length) (fun i σ H' => H' = H ∧ ∃ k, σ = [some (.ref a), some (.ref b), k]) ⟨rfl, _, rfl⟩ ?_ ?_⟩
        · rintro i σ H1 hi2 ⟨rfl, k, rfl⟩
          have e1 : xs[i]? = some xs[i] := List.getElem?_eq_getElem (by omega)
          have e2 : ys[i]? = some ys[i] := List.getElem?_eq_getElem hi2
          have z : (0 : Int) + (i : Int) = ((i : Nat) : Int) := Int.zero_add _
          refine ⟨_, rfl, _, rfl, .inr (.inl ⟨a, _, _, _, rfl, rfl, SqT.of ha, by rw [z]; exact atI_nat e1, _, rfl, _, rfl, .inr (.inl ⟨b, _, _, _, rfl, rfl, SqT.of hb, by rw [z]; exact atI_nat e2, ?_⟩)⟩)⟩
          exact ⟨_, _, rfl, hi i _ _ e1 e2, _, rfl, iteF ⟨rfl, _, rfl⟩⟩
        · rintro σ H1 ⟨rfl, k, rfl⟩
          exact q
      · refine ⟨_, rfl, _, _, _, _, true, rfl, .ty _, .base (.lst hb), kit_ty (by decide +kernel), _, rfl, iteT ?_⟩
        refine ⟨_, rfl, _, _, _, _, true, rfl, .ty _, .base (.lst hb), kit_ty (by decide +kernel), _, rfl, _, _, _, _, true, rfl, .ty _, .base (.lst ha), kit_ty (by decide +kernel), rfl, _, rfl, iteNS rfl ?_⟩
        refine ⟨_, rfl, _, _, _, _, false, rfl, .ty _, .base (.lst hb), kit_ty (by decide +kernel), _, rfl, _, _, _, _, false, rfl, .ty _, .base (.lst ha), kit_ty (by decide +kernel), rfl, _, rfl, iteNS rfl ?_⟩
        refine ⟨_, rfl, a, _, rfl, .inl (SqL.of ha), _, rfl, b, _, rfl, .inl (SqL.of hb), rfl, _, rfl, iteNS (by rw [hl]) ?_⟩
        refine ⟨_, rfl, b, _, rfl, .inl (SqL.of hb), _, rfl, by omega, by omega, for_range (lo := 0) (n := ys.length) (fun i σ H' => H' = H ∧ ∃ k, σ = [some (.ref a), some (.ref b), k]) ⟨rfl, _, rfl⟩ ?_ ?_⟩
        · rintro i σ H1 hi2 ⟨rfl, k, rfl⟩
          have e1 : xs[i]? = some xs[i] := List.getElem?_eq_getElem (by omega)
          have e2 : ys[i]? = some ys[i] := List.getElem?_eq_getElem hi2
          have z : (0 : Int) + (i : Int) = ((i : Nat) : Int) := Int.zero_add _
          refine ⟨_, rfl, _, rfl, .inl (⟨a, _, _, _, rfl, rfl, SqL.of ha, by rw [z]; exact atI_nat e1, _, rfl, _, rfl, .inl (⟨b, _, _, _, rfl, rfl, SqL.of hb, by rw [z]; exact atI_nat e2, ?_⟩)⟩)⟩
          exact ⟨_, _, rfl, hi i _ _ e1 e2, _, rfl, iteF ⟨rfl, _, rfl⟩⟩
        · rintro σ H1 ⟨rfl, k, rfl⟩
          exact q
theorem okHLawSame (T : Txt K mg) : FnH P w K mg base CX0 1 T.fLawSame T.fdLawSame ["actual", "due"] (spSame K 0) := by
  refine okHot T.FLawSame scLawSame (fun vs H Q E h => ?_) (fun cdv A outer s H vs Q E p hot hr h => ?_)
  · obtain ⟨x, y, rfl, _⟩ := h
    rfl
  · obtain ⟨x, y, rfl, ⟨rfl, sy⟩, q⟩ := h
    -- slots actual=0 due=1 k=2
    refine ⟨_, (pss_cons (ps_if (PW.pt (pw_or (pt_val (pe_callB call_isi (by rfl) T.z_isinstance (by decide +kernel) (pa_cons (pv 1) (pa_cons (pe_bltn (v := .ty "list") (by rfl) T.z_list (by decide +kernel) rfl) pa_nil)))) (pw_or1 (pt_val (pe_callB call_isi (by rfl) T.z_isinstance (by decide +kernel) (pa_cons (pv 1) (pa_cons (pe_bltn (v := .ty "tuple") (by rfl) T.z_tuple (by decide +kernel) rfl) pa_nil)))))))
          (pss_cons ps_never
          (pss_cons ps_never
          (pss_cons ps_never
          (pss_one ps_never))))
          pss_nil)
        (pss_cons (ps_if (pt_cmpR op_isN (pv 1) pe_non (nomark _))
          (pss_one (ps_ret (pe_cmpR op_isN (pv 0) pe_non (nomark _))))
          pss_nil)
        (pss_cons (ps_if (pt_val (pe_callB call_isi (by rfl) T.z_isinstance (by decide +kernel) (pa_cons (pv 1) (pa_cons (pe_bltn (v := .ty "bool") (by rfl) T.z_bool (by decide +kernel) rfl) pa_nil))))
          (pss_one (ps_ret (pe_and (pe_callB call_isi (by rfl) T.z_isinstance (by decide +kernel) (pa_cons (pv 0) (pa_cons (pe_bltn (v := .ty "bool") (by rfl) T.z_bool (by decide +kernel) rfl) pa_nil))) (pe_one (pe_cmpR op_eq (pv 0) (pv 1) (nomark _))))))
          pss_nil)
        (pss_cons (ps_if (pt_val (pe_callB call_isi (by rfl) T.z_isinstance (by decide +kernel) (pa_cons (pv 1) (pa_cons (pe_bltn (v := .ty "str") (by rfl) T.z_str (by decide +kernel) rfl) pa_nil))))
          (pss_one (ps_ret (pe_and (pe_callB call_isi (by rfl) T.z_isinstance (by decide +kernel) (pa_cons (pv 0) (pa_cons (pe_bltn (v := .ty "str") (by rfl) T.z_str (by decide +kernel) rfl) pa_nil))) (pe_one (pe_cmpR op_eq (pv 0) (pv 1) (nomark _))))))
          pss_nil)
        (pss_one (ps_ret (pe_and (pe_callB call_isi (by rfl) T.z_isinstance (by decide +kernel) (pa_cons (pv 0) (pa_cons (pe_bltn (v := .ty "int") (by rfl) T.z_int (by decide +kernel) rfl) pa_nil))) (pe_and (pe_not (pe_callB call_isi (by rfl) T.z_isinstance (by decide +kernel) (pa_cons (pv 0) (pa_cons (pe_bltn (v := .ty "bool") (by rfl) T.z_bool (by decide +kernel) rfl) pa_nil)))) (pe_one (pe_cmpR op_eq (pv 0) (pv 1) (nomark _))))))))))), ?_⟩
    cases x with
    | non =>
      refine ⟨_, rfl, _, _, _, _, false, rfl, .ty _, .base (.non), kit_ty (by decide +kernel), _, rfl, iteF ⟨_, rfl, _, _, _, _, false, rfl, .ty _, .base (.non), kit_ty (by decide +kernel), _, rfl, iteF ?_⟩⟩
      refine ⟨_, rfl, rfl, _, rfl, ite2 (fun _ => ?_) (fun c => absurd (decide_eq_true rfl) c)⟩
      refine ⟨_, rfl, rfl, ?_⟩
      rw [decide_eq_true rfl]
      exact q
    | bl v =>
      refine ⟨_, rfl, _, _, _, _, false, rfl, .ty _, .base (.bl v), kit_ty (by decide +kernel), _, rfl, iteF ⟨_, rfl, _, _, _, _, false, rfl, .ty _, .base (.bl v), kit_ty (by decide +kernel), _, rfl, iteF ?_⟩⟩
      refine ⟨_, rfl, rfl, _, rfl, ite2 (fun c => (nomatch (of_decide_eq_true c))) (fun _ => ?_)⟩
      refine ⟨_, rfl, _, _, _, _, true, rfl, .ty _, .base (.bl v), kit_ty (by decide +kernel), _, rfl, iteT ?_⟩
      refine ⟨_, rfl, _, _, _, _, true, rfl, .ty _, .base (.bl v), kit_ty (by decide +kernel), _, rfl, iteT ?_⟩
      refine ⟨_, rfl, _, rfl, rfl, ?_⟩
      rw [decide_eq_true rfl]
      exact q
    | int v =>
      refine ⟨_, rfl, _, _, _, _, false, rfl, .ty _, .base (.int v), kit_ty (by decide +kernel), _, rfl, iteF ⟨_, rfl, _, _, _, _, false, rfl, .ty _, .base (.int v), kit_ty (by decide +kernel), _, rfl, iteF ?_⟩⟩
      refine ⟨_, rfl, rfl, _, rfl, ite2 (fun c => (nomatch (of_decide_eq_true c))) (fun _ => ?_)⟩
      refine ⟨_, rfl, _, _, _, _, false, rfl, .ty _, .base (.int v), kit_ty (by decide +kernel), _, rfl, iteF ?_⟩
      refine ⟨_, rfl, _, _, _, _, false, rfl, .ty _, .base (.int v), kit_ty (by decide +kernel), _, rfl, iteF ?_⟩
      refine ⟨_, rfl, _, _, _, _, true, rfl, .ty _, .base (.int v), kit_ty (by decide +kernel), _, rfl, iteT ?_⟩
      refine ⟨_, rfl, _, _, _, _, false, rfl, .ty _, .base (.int v), kit_ty (by decide +kernel), _, rfl, _, rfl, iteT ?_⟩
      refine ⟨_, rfl, _, rfl, rfl, ?_⟩
      rw [decide_eq_true rfl]
      exact q
    | str v =>
      refine ⟨_, rfl, _, _, _, _, false, rfl, .ty _, .base (.str v), kit_ty (by decide +kernel), _, rfl, iteF ⟨_, rfl, _, _, _, _, false, rfl, .ty _, .base (.str v), kit_ty (by decide +kernel), _, rfl, iteF ?_⟩⟩
      refine ⟨_, rfl, rfl, _, rfl, ite2 (fun c => (nomatch (of_decide_eq_true c))) (fun _ => ?_)⟩
      refine ⟨_, rfl, _, _, _, _, false, rfl, .ty _, .base (.str v), kit_ty (by decide +kernel), _, rfl, iteF ?_⟩
      refine ⟨_, rfl, _, _, _, _, true, rfl, .ty _, .base (.str v), kit_ty (by decide +kernel), _, rfl, iteT ?_⟩
      refine ⟨_, rfl, _, _, _, _, true, rfl, .ty _, .base (.str v), kit_ty (by decide +kernel), _, rfl, iteT ?_⟩
      refine ⟨_, rfl, _, rfl, rfl, ?_⟩
      rw [decide_eq_true rfl]
      exact q
    | _ => exact sy.elim
/-! ### fractions in lowest terms -/
theorem op_fdivZ {X : Cx} : OpR X (binaryOp .FloorDiv) (rI (fun _ j => j ≠ 0 ∧ j.natAbs.log2 < 9000) fun i j => .int (i.fdiv j)) := opI fun i j _ _ _ _ _ hc q => floordiv_int hc.1 q (.inl (PyProof.noPylong_of_log2 hc.2))
structure Low (n d x y : Int) : Prop where
  pos : 0 < y
  eq : x * d = n * y
  cop : Nat.gcd x.natAbs y.natAbs = 1
  lx : x.natAbs ≤ n.natAbs
  ly : y.natAbs ≤ d.natAbs
def cmn (n d : Int) : Int := if d < 0 then -((Nat.gcd n.natAbs d.natAbs : Nat) : Int) else ((Nat.gcd n.natAbs d.natAbs : Nat) : Int)
theorem cmn_abs (n d : Int) : (cmn n d).natAbs = Nat.gcd n.natAbs d.natAbs := by
  unfold cmn
  split <;> omega
theorem low_of {n d : Int} (hd : d ≠ 0) : Low n d (n.fdiv (cmn n d)) (d.fdiv (cmn n d)) := by
  have hg : 0 < Nat.gcd n.natAbs d.natAbs := Nat.gcd_pos_of_pos_right _ (by omega)
  have ha := cmn_abs n d
  have hc : cmn n d ≠ 0 := by omega
  have d1 : cmn n d ∣ n := Int.natAbs_dvd_natAbs.mp (by rw [ha]; exact Nat.gcd_dvd_left _ _)
  have d2 : cmn n d ∣ d := Int.natAbs_dvd_natAbs.mp (by rw [ha]; exact Nat.gcd_dvd_right _ _)
  have sg : 0 < d → 0 < cmn n d := fun h => by
    unfold cmn
    rw [if_neg (by omega)]
    omega
  have sg2 : d < 0 → cmn n d < 0 := fun h => by
    unfold cmn
    rw [if_pos h]
    omega
  obtain ⟨x, hx⟩ := d1
  obtain ⟨y, hy⟩ := d2
  generalize cmn n d = c at *
  have e1 : n.fdiv c = x := by rw [hx]; exact Int.mul_fdiv_cancel_left _ hc
  have e2 : d.fdiv c = y := by rw [hy]; exact Int.mul_fdiv_cancel_left _ hc
  rw [e1, e2]
  have y0 : 0 < y := by
    rcases Int.lt_trichotomy d 0 with h | h | h
    · have hc2 := sg2 h
      rcases Int.lt_trichotomy y 0 with z | z | z
      · have := Int.mul_pos_of_neg_of_neg hc2 z
        omega
      · subst z
        simp at hy
        omega
      · exact z
    · exact absurd h hd
    · have hc2 := sg h
      rcases Int.lt_trichotomy y 0 with z | z | z
      · have := Int.mul_neg_of_pos_of_neg hc2 z
        omega
      · subst z
        simp at hy
        omega
      · exact z
  have en : n.natAbs = c.natAbs * x.natAbs := by rw [hx, Int.natAbs_mul]
  have ed : d.natAbs = c.natAbs * y.natAbs := by rw [hy, Int.natAbs_mul]
  refine ⟨y0, ?_, ?_, ?_, ?_⟩
  · rw [hx, hy, Int.mul_assoc, Int.mul_comm x, Int.mul_assoc, Int.mul_comm x]
  · rw [en, ed, Nat.gcd_mul_left] at ha
    rw [en, ed, Nat.gcd_mul_left] at hg
    have z : c.natAbs * 1 = c.natAbs * Nat.gcd x.natAbs y.natAbs := by rw [Nat.mul_one]; exact ha
    exact (Nat.eq_of_mul_eq_mul_left (by omega) z).symm
  · rw [en]
    exact Nat.le_mul_of_pos_left _ (by omega)
  · rw [ed]
    exact Nat.le_mul_of_pos_left _ (by omega)
/-! ### the law's own reckoning -/
theorem low_one {n d x y x2 y2 : Int} (hd : d ≠ 0) (a : Low n d x y) (b : Low n d x2 y2) : x = x2 ∧ y = y2 := by
  have h : x * y2 = x2 * y := by
    have h1 : (x * y2) * d = (x2 * y) * d := by
      rw [Int.mul_assoc, Int.mul_comm y2, ← Int.mul_assoc, a.eq, Int.mul_assoc x2, Int.mul_comm y d, ← Int.mul_assoc, b.eq, Int.mul_assoc, Int.mul_assoc, Int.mul_comm y]
    exact Int.eq_of_mul_eq_mul_right hd h1
  have hN : x.natAbs * y2.natAbs = x2.natAbs * y.natAbs := by
    rw [← Int.natAbs_mul, ← Int.natAbs_mul, h]
  have c1 : Nat.Coprime x.natAbs y.natAbs := a.cop
  have c2 : Nat.Coprime x2.natAbs y2.natAbs := b.cop
  have d1 : y.natAbs ∣ y2.natAbs := c1.symm.dvd_of_dvd_mul_left (by rw [hN]; exact Nat.dvd_mul_left _ _)
  have d2 : y2.natAbs ∣ y.natAbs := c2.symm.dvd_of_dvd_mul_left (by rw [← hN]; exact Nat.dvd_mul_left _ _)
  have ey : y.natAbs = y2.natAbs := Nat.dvd_antisymm d1 d2
  have p1 := a.pos
  have p2 := b.pos
  have e : y = y2 := by omega
  subst e
  exact ⟨Int.eq_of_mul_eq_mul_right (by omega) h, rfl⟩
def spLowest (K : PySem.W.Frag) : Sp := fun vs H Q _ => ∃ (n d : Int), vs = [.int n, .int d] ∧ d ≠ 0 ∧ n.natAbs < 2 ^ 400 ∧ d.natAbs < 2 ^ 400 ∧ ∀ p x y, H p = none → Low n d x y → Q (.ref p) (upd H p (.tup [.int x, .int y]))
theorem okLawLowest (T : Txt K mg) : FnOk P w K mg base CX0 2 T.fLawLowest T.fdLawLowest ["n", "d"] (spLowest K) := by
  refine T.FLawLowest.ok scLawLowest (fun vs H Q E h => ?_) (fun cdv A outer s H vs Q E hr h => ?_)
  · obtain ⟨n, d, rfl, _⟩ := h
    rfl
  · obtain ⟨n, d, rfl, hd, zn, zd, q⟩ := h
    -- slots n=0 d=1 common=2
    refine ⟨_, (C8.pss_cut (ps_if (pt_cmpR op_lt (pv 1) pe_int (nomark _))
          (pss_cons (ps_set (i := 0) scLawLowest.nd rfl (Or.inl rfl) (pe_op op_sub pe_int (pv 0)))
          (pss_one (ps_set (i := 1) scLawLowest.nd rfl (Or.inl rfl) (pe_op op_sub pe_int (pv 1)))))
          pss_nil)
        (pss_cons (ps_set (i := 2) scLawLowest.nd rfl (Or.inl rfl) (pe_call (okLawGcd T) (hr.mono (by decide)) (by rfl) T.gLawGcd T.FLawGcd.kp T.bLawGcd .nil pass0 (pa_cons (pv 0) (pa_cons (pv 1) pa_nil))))
        (pss_one (ps_ret (pe_tup (pa_cons (pe_op op_fdivZ (pv 0) (pv 2)) (pa_cons (pe_op op_fdivZ (pv 1) (pv 2)) pa_nil))))))), ?_⟩
    refine ⟨fun σ H' => H' = H ∧ ∃ n2 d2 : Int, σ = [some (.int n2), some (.int d2), none] ∧ 0 < d2 ∧ n2.natAbs = n.natAbs ∧ d2.natAbs = d.natAbs ∧ ∀ x y, Low n2 d2 x y → Low n d x y, ?_, ?_⟩
    · refine ⟨_, rfl, _, _, rfl, rfl, _, rfl, ite2 (fun c => ?_) (fun c => ?_)⟩
      · have c2 : d < 0 := of_decide_eq_true c
        refine ⟨_, rfl, _, _, rfl, rfl, _, rfl, _, _, rfl, rfl, rfl, 0 - n, 0 - d, rfl, by omega, by omega, by omega, fun x y L => ?_⟩
        refine ⟨L.pos, ?_, L.cop, by have := L.lx; omega, by have := L.ly; omega⟩
        have e := L.eq
        rw [Int.zero_sub, Int.zero_sub, Int.mul_neg, Int.neg_mul] at e
        omega
      · have c2 : ¬ d < 0 := fun z => c (decide_eq_true z)
        exact ⟨rfl, n, d, rfl, by omega, rfl, rfl, fun _ _ L => L⟩
    · rintro σ H' ⟨rfl, n2, d2, rfl, h0, hn, hd2, hL⟩
      have hz : n2.natAbs * d2.natAbs < 2 ^ 890 := by
        rw [hn, hd2]
        exact Nat.lt_of_le_of_lt (Nat.mul_le_mul (Nat.le_of_lt zn) (Nat.le_of_lt zd)) (by decide)
      have hc : cmn n2 d2 = ((Nat.gcd n2.natAbs d2.natAbs : Nat) : Int) := by
        unfold cmn
        rw [if_neg (by omega)]
      have hg : 0 < Nat.gcd n2.natAbs d2.natAbs := Nat.gcd_pos_of_pos_right _ (by omega)
      have hb : (((Nat.gcd n2.natAbs d2.natAbs : Nat) : Int)).natAbs.log2 < 9000 := by
        refine Nat.lt_of_lt_of_le (PySem.Flt.log2_lt_of (k := 400) (by decide) ?_) (by decide)
        rw [Int.natAbs_natCast]
        refine Nat.lt_of_le_of_lt (Nat.le_of_dvd (by omega) (Nat.gcd_dvd_right _ _)) ?_
        rw [hd2]
        exact zd
      refine ⟨_, rfl, _, rfl, n2, d2, rfl, hz, ?_⟩
      have hne : (((Nat.gcd n2.natAbs d2.natAbs : Nat) : Int)) ≠ 0 := by omega
      refine ⟨_, rfl, _, rfl, _, _, rfl, rfl, ⟨hne, hb⟩, _, rfl, _, rfl, _, _, rfl, rfl, ⟨hne, hb⟩, (by show 2 ≤ sizeLine; decide), fun p hp => ?_⟩
      have L := low_of (n := n2) (d := d2) (by omega)
      rw [hc] at L
      exact q p _ _ hp (hL _ _ L)
/-! ### decimals -/
theorem mt_ljustF {X : Cx} : MtR X "str.ljust" (fun x xs H Q => ∃ (a : Str) (i : Int) (f : Str), x = .str a ∧ xs = [.int i, .str f] ∧ PadOk i = true ∧ f.length = 1 ∧ Q (.str (Txt.ljustF a i (f.cps.getD 0 0))) H) := by
  intro pins s σ H x xs v us Q I rx rs h
  obtain ⟨a, i, f, rfl, rfl, hc, hf, h⟩ := h
  obtain ⟨t, rfl⟩ := rx
  cases rs with
  | cons r1 rs =>
    cases rs with
    | cons r2 rs =>
      cases rs
      obtain ⟨u, rfl⟩ := r1
      obtain ⟨z, rfl⟩ := r2
      exact ljust_fill hc hf fun t' k => ⟨.str _, H, I.tok k, ⟨t', rfl⟩, h⟩
structure Lw (n d x y : Int) : Prop where
  pos : 0 < y
  eq : x * d = n * y
  cop : Nat.gcd x.natAbs y.natAbs = 1
theorem Low.lw {n d x y : Int} (h : Low n d x y) : Lw n d x y := ⟨h.pos, h.eq, h.cop⟩
theorem Lw.scale {n d k x y : Int} (hk : k ≠ 0) (h : Lw (n * k) (d * k) x y) : Lw n d x y := by
  refine ⟨h.pos, ?_, h.cop⟩
  have e := h.eq
  refine Int.eq_of_mul_eq_mul_right hk ?_
  rw [Int.mul_assoc, e, Int.mul_assoc, Int.mul_assoc, Int.mul_comm k y]
theorem Lw.neg {n d x y : Int} (h : Lw n d x y) : Lw (-n) d (-x) y := ⟨h.pos, by rw [Int.neg_mul, Int.neg_mul, h.eq], by rw [Int.natAbs_neg]; exact h.cop⟩
theorem lw_one {n d x y x2 y2 : Int} (hd : d ≠ 0) (a : Lw n d x y) (b : Lw n d x2 y2) : x = x2 ∧ y = y2 := by
  have h : x * y2 = x2 * y := by
    have h1 : (x * y2) * d = (x2 * y) * d := by
      rw [Int.mul_assoc, Int.mul_comm y2, ← Int.mul_assoc, a.eq, Int.mul_assoc x2, Int.mul_comm y d, ← Int.mul_assoc, b.eq, Int.mul_assoc, Int.mul_assoc, Int.mul_comm y]
    exact Int.eq_of_mul_eq_mul_right hd h1
  have hN : x.natAbs * y2.natAbs = x2.natAbs * y.natAbs := by
    rw [← Int.natAbs_mul, ← Int.natAbs_mul, h]
  have c1 : Nat.Coprime x.natAbs y.natAbs := a.cop
  have c2 : Nat.Coprime x2.natAbs y2.natAbs := b.cop
  have d1 : y.natAbs ∣ y2.natAbs := c1.symm.dvd_of_dvd_mul_left (by rw [hN]; exact Nat.dvd_mul_left _ _)
  have d2 : y2.natAbs ∣ y.natAbs := c2.symm.dvd_of_dvd_mul_left (by rw [← hN]; exact Nat.dvd_mul_left _ _)
  have ey : y.natAbs = y2.natAbs := Nat.dvd_antisymm d1 d2
  have p1 := a.pos
  have p2 := b.pos
  have e : y = y2 := by omega
  subst e
  exact ⟨Int.eq_of_mul_eq_mul_right (by omega) h, rfl⟩
/-! a text at its first point -/
def pre46 (a : List Nat) : List Nat := a.takeWhile fun c => decide (c ≠ 46)
def post46 (a : List Nat) : List Nat := a.drop ((pre46 a).length + 1)
theorem split46 : ∀ {a : List Nat}, 46 ∈ a → a = pre46 a ++ 46 :: post46 a ∧ 46 ∉ pre46 a
  | [], h => by simp at h
  | c :: r, h => by
    by_cases hc : c = 46
    · subst hc
      exact ⟨rfl, by simp [pre46]⟩
    · have h2 : 46 ∈ r := by
        rcases List.mem_cons.mp h with z | z
        · exact absurd z.symm hc
        · exact z
      obtain ⟨e1, e2⟩ := split46 h2
      have e3 : pre46 (c :: r) = c :: pre46 r := by
        unfold pre46
        rw [List.takeWhile_cons, if_pos (decide_eq_true hc)]
      have e4 : post46 (c :: r) = post46 r := by
        unfold post46
        rw [e3, List.length_cons, List.drop_succ_cons]
      rw [e3, e4]
      refine ⟨?_, ?_⟩
      · rw [List.cons_append, ← e1]
      · intro z
        rcases List.mem_cons.mp z with y | y
        · exact hc y.symm
        · exact e2 y
theorem none46 {a : List Nat} (h : 46 ∉ a) : pre46 a = a ∧ post46 a = [] := by
  have e : pre46 a = a := by
    unfold pre46
    exact tw_self fun x hx => decide_eq_true fun z => h (z ▸ hx)
  refine ⟨e, ?_⟩
  unfold post46
  rw [e]
  exact List.drop_eq_nil_of_le (by omega)
theorem len46 (a : List Nat) : (pre46 a).length ≤ a.length ∧ (post46 a).length ≤ a.length := ⟨tw_le a, by unfold post46; rw [List.length_drop]; omega⟩
def isD (a : List Nat) : Bool := !a.isEmpty && a.all dig
theorem isD_of {a : List Nat} (h : isD a = true) : a ≠ [] ∧ a.all dig = true := by
  unfold isD at h
  rw [Bool.and_eq_true] at h
  refine ⟨fun z => ?_, h.2⟩
  rw [z] at h
  exact absurd h.1 (by decide)
def okD (a : List Nat) : Prop := isD (pre46 a) = true ∧ (pre46 a).length ≤ 12 ∧ (46 ∈ a → isD (post46 a) = true ∧ (post46 a).length ≤ 6)
def numD (a : List Nat) : Int := ((digitsVal (pre46 a ++ post46 a) : Nat) : Int)
def denD (a : List Nat) : Int := 10 ^ (post46 a).length
theorem denD_ne (a : List Nat) : denD a ≠ 0 := by
  unfold denD
  have : (0 : Int) < 10 ^ (post46 a).length := Int.pow_pos (by decide)
  omega
theorem zeros_val (a : List Nat) : ∀ k : Nat, digitsVal (a ++ List.replicate k 48) = digitsVal a * 10 ^ k
  | 0 => by simp
  | k + 1 => by
    rw [List.replicate_succ', ← List.append_assoc, PySem.NumText.digitsVal_snoc, zeros_val a k, Nat.pow_succ, Nat.mul_assoc]
    rfl
theorem fold_lt : ∀ (a : List Nat) (acc : Nat), a.all dig = true → a.foldl (fun acc c => acc * 10 + (c - 48)) acc < (acc + 1) * 10 ^ a.length
  | [], acc, _ => by simp
  | c :: r, acc, h => by
    rw [List.all_cons, Bool.and_eq_true] at h
    have hc : 48 ≤ c ∧ c ≤ 57 := of_decide_eq_true h.1
    refine Nat.lt_of_lt_of_le (fold_lt r (acc * 10 + (c - 48)) h.2) ?_
    rw [List.length_cons, Nat.pow_succ, Nat.mul_comm (10 ^ r.length) 10, ← Nat.mul_assoc]
    exact Nat.mul_le_mul_right _ (by omega)
theorem val_lt {a : List Nat} (h : a.all dig = true) : digitsVal a < 10 ^ a.length := by
  have := fold_lt a 0 h
  rw [Nat.zero_add, Nat.one_mul] at this
  exact this
theorem val_lt18 {a : List Nat} (h : a.all dig = true) (hl : a.length ≤ 18) : digitsVal a < 10 ^ 18 := Nat.lt_of_lt_of_le (val_lt h) (Nat.pow_le_pow_right (by decide) hl)
theorem pt_S : ("." : Str) = S [46] := by decide +kernel
theorem emp_S : ("" : Str) = S [] := by decide +kernel
theorem str_eq (a : List Nat) : decide (V.str (S a) = V.str ("" : Str)) = a.isEmpty := by
  rw [emp_S]
  cases a with
  | nil => exact decide_eq_true rfl
  | cons c r => exact decide_eq_false fun z => by have := SX.S_inj (V.str.inj z); cases this
def spIsD (K : PySem.W.Frag) : Sp := fun vs H Q _ => ∃ (a : List Nat), vs = [.str (S a)] ∧ a.length ≤ 1000 ∧ ∀ H', Same H H' → Q (.bl (isD a)) H'
def spDec (K : PySem.W.Frag) : Sp := fun vs H Q _ => ∃ (a : List Nat), vs = [.str (S a)] ∧ a.length ≤ 1000 ∧ (¬ okD a → ∀ H', Same H H' → Q .non H') ∧ (okD a → ∀ p x y H', Same H H' → H' p = some (.tup [.int x, .int y]) → Lw (numD a) (denD a) x y → Q (.ref p) H')
theorem ljust6 (q : List Nat) : Txt.ljustF (S q) 6 (("0" : Str).cps.getD 0 0) = S (q ++ List.replicate (6 - q.length) 48) := by
  refine TL.ext_tl ?_
  show (Txt.ljustF (S q) 6 (("0" : Str).cps.getD 0 0)).cps.toList = _
  rw [PyProof.Rows.ljustF_list, S_len, show (("0" : Str).cps.getD 0 0) = 48 by decide +kernel]
  rfl
def negN (a : List Nat) : Prop := a.head? = some 45
def bodyN (a : List Nat) : List Nat := if a.head? = some 45 then a.drop 1 else a
def spNumb (K : PySem.W.Frag) : Sp := fun vs H Q _ => ∃ (a : List Nat), vs = [.str (S a)] ∧ a.length ≤ 1000 ∧ (¬ okD (bodyN a) → ∀ H', Same H H' → Q .non H') ∧
  (okD (bodyN a) → ∀ p x y H', Same H H' → H' p = some (.tup [.int (if a.head? = some 45 then -x else x), .int y]) → Lw (numD (bodyN a)) (denD (bodyN a)) x y → Q (.ref p) H')
theorem minus_S : ("-" : Str) = S [45] := by decide +kernel
theorem starts_minus (a : List Nat) : Txt.startswith (S a) "-" = decide (a.head? = some 45) := by
  unfold Txt.startswith
  rw [minus_S, StrLaws.subAt_eq]
  cases a with
  | nil => rfl
  | cons c r =>
    rw [Bool.eq_iff_iff, Bool.and_eq_true]
    simp [S_len]
/-! ### the law's own reading of decimals -/
theorem idx_one {p q : List Nat} {c : Nat} (h : c ∉ p) : Txt.index0 (S (p ++ c :: q)) (S [c]) = some p.length := by
  have at_iff : ∀ k : Nat, StrLaws.At (S (p ++ c :: q)) (S [c]) (S (p ++ c :: q)).length k ↔ (p ++ c :: q)[k]? = some c := fun k => StrLaws.subAt_one (S (p ++ c :: q)) c k
  unfold Txt.index0
  have here : (p ++ c :: q)[p.length]? = some c := by
    rw [List.getElem?_append_right (Nat.le_refl _), Nat.sub_self]
    rfl
  rcases StrLaws.occ_head (S (p ++ c :: q)) (S [c]) 1 (Nat.le_refl _) with ⟨_, hn⟩ | ⟨i, r, e, hi, hk⟩
  · exact absurd ((at_iff p.length).mpr here) (hn p.length)
  · rw [e]
    refine congrArg some ?_
    rcases Nat.lt_trichotomy i p.length with z | z | z
    · have h2 := (at_iff i).mp hi
      rw [List.getElem?_append_left z] at h2
      exact absurd (List.mem_of_getElem? h2) h
    · exact z
    · exact absurd ((at_iff p.length).mpr here) (hk p.length z)
theorem okLawAllDigits (T : Txt K mg) : FnOk P w K mg base CX0 1 T.fLawAllDigits T.fdLawAllDigits ["text"] (spIsD K) := by
  refine T.FLawAllDigits.ok scLawAllDigits (fun vs H Q E h => ?_) (fun cdv A outer s H vs Q E hr h => ?_)
  · obtain ⟨a, rfl, _⟩ := h
    rfl
  · obtain ⟨a, rfl, ha, q⟩ := h
    -- slots text=0 char=1
    refine ⟨_, (pss_cons (ps_for PassesOwn.never rfl (pi_str (pv 0)) (pg_name (i := 1) scLawAllDigits.nd rfl (Or.inl rfl))
          (pss_one (ps_if (pt_cmpR op_notIn_sign (pv 1) pe_str rfl)
            (pss_one (ps_ret pe_bl))
            pss_nil)))
        (pss_one (ps_ret (pe_cmpR op_gt (pe_callB call_len_str (by rfl) T.z_len PySem.boot_len (pa_cons (pv 0) pa_nil)) pe_int (nomark _))))), ?_⟩
    refine ⟨_, rfl, S a, rfl, for_it (walk_S (a := a)) (fun i σ H' => H' = H ∧ (∀ y ∈ a.take i, dig y = true) ∧ ∃ c1, σ = [some (.str (S a)), c1]) ⟨rfl, (fun x h => by simp at h), _, rfl⟩ (fun _ _ _ _ _ => trivial) ?_ ?_⟩
    · rintro i v σ H1 H2 hi ⟨rfl, hall, c1, rfl⟩ ⟨rfl, c, ec, rfl⟩
      refine ⟨_, rfl, c, _, rfl, rfl, _, rfl, ?_⟩
      rw [dig_mem]
      cases hc : dig c with
      | false =>
        have q2 := q H2 (Same.refl _)
        have : a.all dig = false := by
          rw [← Bool.not_eq_true]
          intro z
          rw [List.all_eq_true.mp z c (List.mem_of_getElem? ec)] at hc
          cases hc
        unfold isD at q2
        rw [this, Bool.and_false] at q2
        exact iteT q2
      | true =>
        refine iteF ⟨rfl, fun y hy => ?_, some (.str (S [c])), rfl⟩
        rw [List.take_add_one, ec] at hy
        rcases List.mem_append.mp hy with h | h
        · exact hall y h
        · obtain rfl : y = c := by simpa using h
          exact hc
    · rintro σ H1 ⟨rfl, hall, c1, rfl⟩
      rw [List.take_length] at hall
      have q2 := q H1 (Same.refl _)
      unfold isD at q2
      rw [List.all_eq_true.mpr hall, Bool.and_true] at q2
      refine ⟨_, rfl, S a, rfl, by rw [S_len]; exact sz100 (by omega), _, _, rfl, rfl, ?_⟩
      rw [S_len]
      have e : decide ((0 : Int) < (a.length : Int)) = !a.isEmpty := by
        cases a with
        | nil => rfl
        | cons c r => exact decide_eq_true (by rw [List.length_cons]; omega)
      show Q (.bl (decide ((0 : Int) < (a.length : Int)))) H1
      rw [e]
      exact q2
theorem tens_at {n : Nat} (h : n ≤ 6) : atI ([1, 10, 100, 1000, 10000, 100000, 1000000].map V.int) (n : Int) = some (.int (10 ^ n)) := by
  have e : n = 0 ∨ n = 1 ∨ n = 2 ∨ n = 3 ∨ n = 4 ∨ n = 5 ∨ n = 6 := by omega
  rcases e with rfl | rfl | rfl | rfl | rfl | rfl | rfl <;> rfl
theorem okLawOwnDecimal (T : Txt K mg) : FnOk P w K mg base CX0 3 T.fLawOwnDecimal T.fdLawOwnDecimal ["text"] (spDec K) := by
  refine T.FLawOwnDecimal.ok scLawOwnDecimal (fun vs H Q E h => ?_) (fun cdv A outer s H vs Q E hr h => ?_)
  · obtain ⟨a, rfl, _⟩ := h
    rfl
  · obtain ⟨a, rfl, ha, q1, q2⟩ := h
    -- slots text=0 whole=1 more=2 at=3
    refine ⟨_, (pss_cons (ps_set (i := 1) scLawOwnDecimal.nd rfl (Or.inl rfl) (pv 0))
        (pss_cons (ps_set (i := 2) scLawOwnDecimal.nd rfl (Or.inl rfl) pe_str)
        (C8.pss_cut (ps_if (pt_cmpR op_in_str pe_str (pv 0) rfl)
          (pss_cons (ps_set (i := 3) scLawOwnDecimal.nd rfl (Or.inl rfl) (pe_bmS PySem.F.plainAttrs_str PySem.F.slot_str_index PySem.F.type_str_index (mt_indexX rfl takes0) (pv 0) (pa_cons pe_str pa_nil)))
          (pss_cons (ps_set (i := 1) scLawOwnDecimal.nd rfl (Or.inl rfl) (pe_slice C8.sl_txt (pv 0) po_none (po_some (pv 3))))
          (pss_cons (ps_set (i := 2) scLawOwnDecimal.nd rfl (Or.inl rfl) (pe_slice C8.sl_txt (pv 0) (po_some (pe_op op_add (pv 3) pe_int)) po_none))
          (pss_one (ps_if (PW.pt (pw_or (pt_not (pt_val (pe_call (okLawAllDigits T) (hr.mono (by decide)) (by rfl) T.gLawAllDigits T.FLawAllDigits.kp T.bLawAllDigits .nil pass0 (pa_cons (pv 2) pa_nil)))) (pw_or1 (pt_cmpR op_gt (pe_callB call_len_str (by rfl) T.z_len PySem.boot_len (pa_cons (pv 2) pa_nil)) pe_int (nomark _)))))
            (pss_one (ps_ret pe_non))
            pss_nil)))))
          pss_nil)
        (pss_cons (ps_if (PW.pt (pw_or (pt_not (pt_val (pe_call (okLawAllDigits T) (hr.mono (by decide)) (by rfl) T.gLawAllDigits T.FLawAllDigits.kp T.bLawAllDigits .nil pass0 (pa_cons (pv 1) pa_nil)))) (pw_or1 (pt_cmpR op_gt (pe_callB call_len_str (by rfl) T.z_len PySem.boot_len (pa_cons (pv 1) pa_nil)) pe_int (nomark _)))))
          (pss_one (ps_ret pe_non))
          pss_nil)
        (pss_one (ps_ret (pe_call (okLawLowest T) (hr.mono (by decide)) (by rfl) T.gLawLowest T.FLawLowest.kp T.bLawLowest .nil pass0 (pa_cons (pe_callTy call_int_str (by rfl) T.z_int (by decide +kernel) (pa_cons (pe_op op_add_str (pv 1) (pv 2)) pa_nil)) (pa_cons (pe_ix ix_list (pe_lst (pa_cons pe_int (pa_cons pe_int (pa_cons pe_int (pa_cons pe_int (pa_cons pe_int (pa_cons pe_int (pa_cons pe_int pa_nil)))))))) (pe_callB call_len_str (by rfl) T.z_len PySem.boot_len (pa_cons (pv 2) pa_nil)) (fun _ _ => rfl)) pa_nil))))))))), ?_⟩
    obtain ⟨l1, l2⟩ := len46 a
    refine ⟨_, rfl, fun σ H' => Same H H' ∧ (46 ∈ a → isD (post46 a) = true ∧ (post46 a).length ≤ 6) ∧ ∃ c3, σ = [some (.str (S a)), some (.str (S (pre46 a))), some (.str (S (post46 a))), c3], ?_, ?_⟩
    · refine ⟨_, rfl, ".", S a, rfl, rfl, _, rfl, ?_⟩
      rw [pt_S, SX.in_one]
      by_cases hpt : 46 ∈ a
      · obtain ⟨ea, hn⟩ := split46 hpt
        rw [decide_eq_true hpt]
        refine iteT ⟨_, rfl, rfl, S a, S [46], rfl, congrArg (fun z => [V.str z]) pt_S, (fun k ek => ?_), (fun z => ?_)⟩
        rotate_left
        · rw [ea, idx_one hn] at z
          cases z
        have ek2 : k = (pre46 a).length := by
          have e2 := idx_one (q := post46 a) hn
          rw [← ea] at e2
          rw [e2] at ek
          exact (Option.some.inj ek).symm
        subst ek2
        have tw : ∀ w r : List Nat, a = w ++ 46 :: r → a.take w.length = w := fun w r e => by rw [e]; exact List.take_left
        have t1 := tw _ _ ea
        refine ⟨_, rfl, _, rfl, _, rfl, S a, rfl, by rw [S_len]; exact sz100 (by omega), ?_⟩
        rw [slice_to (by omega), Int.toNat_natCast, t1]
        refine ⟨_, rfl, _, rfl, _, _, rfl, rfl, _, rfl, S a, rfl, by rw [S_len]; exact sz100 (by omega), ?_⟩
        have t2 : Txt.slice (S a) (some (((pre46 a).length : Int) + 1)) none = S (post46 a) := slice_from (by omega)
        rw [t2]
        refine ⟨_, rfl, post46 a, rfl, by omega, fun H1 s1 => ⟨_, rfl, ?_⟩⟩
        by_cases c3 : isD (post46 a) = true
        rotate_left
        · rw [Bool.not_eq_true] at c3
          rw [c3]
          exact iteT (iteT (q1 (fun z => by have := (z.2.2 hpt).1; rw [c3] at this; cases this) _ s1))
        rw [c3]
        refine iteF ⟨_, rfl, S (post46 a), rfl, by rw [S_len]; exact sz100 (by omega), _, _, rfl, rfl, _, rfl, ?_⟩
        rw [S_len]
        by_cases c4 : (post46 a).length ≤ 6
        rotate_left
        · rw [decide_eq_true (by omega)]
          exact iteT (q1 (fun z => c4 (z.2.2 hpt).2) _ s1)
        rw [decide_eq_false (by omega)]
        exact iteF ⟨s1, fun _ => ⟨rfl, c4⟩, _, rfl⟩
      · obtain ⟨e1, e2⟩ := none46 hpt
        rw [decide_eq_false hpt]
        refine iteF ⟨Same.refl H, fun z => absurd z hpt, none, ?_⟩
        rw [e1, e2, ← emp_S]
        rfl
    rintro σ H1 ⟨s1, hp, c3, rfl⟩
    refine ⟨_, rfl, pre46 a, rfl, by omega, fun H2 s2 => ⟨_, rfl, ?_⟩⟩
    by_cases c1 : isD (pre46 a) = true
    rotate_left
    · rw [Bool.not_eq_true] at c1
      rw [c1]
      exact iteT (iteT (q1 (fun z => by have := z.1; rw [c1] at this; cases this) _ (s1.trans s2)))
    rw [c1]
    refine iteF ⟨_, rfl, S (pre46 a), rfl, by rw [S_len]; exact sz100 (by omega), _, _, rfl, rfl, _, rfl, ?_⟩
    rw [S_len]
    by_cases c2 : (pre46 a).length ≤ 12
    rotate_left
    · rw [decide_eq_true (by omega)]
      exact iteT (q1 (fun z => c2 z.2.1) _ (s1.trans s2))
    rw [decide_eq_false (by omega)]
    refine iteF ?_
    have p6 : (post46 a).length ≤ 6 := by
      by_cases hpt : 46 ∈ a
      · exact (hp hpt).2
      · rw [(none46 hpt).2]
        exact Nat.zero_le _
    obtain ⟨w0, w1⟩ := isD_of c1
    have da : (pre46 a ++ post46 a).all dig = true := by
      rw [List.all_append, w1, Bool.true_and]
      by_cases hpt : 46 ∈ a
      · exact (isD_of (hp hpt).1).2
      · rw [(none46 hpt).2]
        rfl
    have la : (pre46 a ++ post46 a).length ≤ 18 := by rw [List.length_append]; omega
    have na : pre46 a ++ post46 a ≠ [] := fun z => by
      rw [List.append_eq_nil_iff] at z
      exact w0 z.1
    have hv := val_lt18 da la
    refine ⟨_, rfl, _, rfl, S (pre46 a), S (post46 a), rfl, rfl, by rw [S_len, S_len]; exact sz100 (by omega), ?_⟩
    rw [S_cat]
    refine ⟨S (pre46 a ++ post46 a), _, rfl, int_dig da na (by omega), by rw [S_len]; omega, (by show 7 ≤ sizeLine; decide), fun l hl => ?_⟩
    refine ⟨_, rfl, S (post46 a), rfl, by rw [S_len]; exact sz100 (by omega), l, _, _, .int (10 ^ (post46 a).length), rfl, rfl, SqL.of upd_same, ?_, ?_⟩
    · rw [S_len]
      exact tens_at p6
    have zd : (denD a).natAbs < 2 ^ 400 := by
      unfold denD
      rw [Int.natAbs_pow]
      exact Nat.lt_of_le_of_lt (Nat.pow_le_pow_right (show 0 < (10 : Int).natAbs by decide) p6) (by decide)
    have zn : (((digitsVal (pre46 a ++ post46 a) : Nat) : Int)).natAbs < 2 ^ 400 := by
      rw [Int.natAbs_natCast]
      exact Nat.lt_trans hv (by decide)
    refine ⟨_, denD a, rfl, denD_ne a, zn, zd, fun p x y hp2 L => ?_⟩
    exact q2 ⟨c1, c2, hp⟩ p x y _ (((s1.trans s2).trans (same_new hl)).trans (same_new hp2)) upd_same L.lw
theorem take1_minus (a : List Nat) : decide (V.str (S (a.take 1)) = V.str ("-" : Str)) = decide (a.head? = some 45) := by
  rw [minus_S]
  refine decide_eq_decide.mpr ?_
  cases a with
  | nil => simp
  | cons c r =>
    refine ⟨fun z => ?_, fun z => ?_⟩
    · have := SX.S_inj (V.str.inj z)
      simp at this
      simp [this]
    · have : c = 45 := by simpa using z
      rw [this]
      rfl
theorem okLawOwnNumber (T : Txt K mg) : FnOk P w K mg base CX0 4 T.fLawOwnNumber T.fdLawOwnNumber ["text"] (spNumb K) := by
  refine T.FLawOwnNumber.ok scLawOwnNumber (fun vs H Q E h => ?_) (fun cdv A outer s H vs Q E hr h => ?_)
  · obtain ⟨a, rfl, _⟩ := h
    rfl
  · obtain ⟨a, rfl, ha, q1, q2⟩ := h
    -- slots text=0 x=1
    refine ⟨_, (pss_cons (ps_if (pt_cmpR op_eq (pe_slice C8.sl_txt (pv 0) po_none (po_some pe_int)) pe_str (nomark _))
          (pss_cons (ps_set (i := 1) scLawOwnNumber.nd rfl (Or.inl rfl) (pe_call (okLawOwnDecimal T) (hr.mono (by decide)) (by rfl) T.gLawOwnDecimal T.FLawOwnDecimal.kp T.bLawOwnDecimal .nil pass0 (pa_cons (pe_slice C8.sl_txt (pv 0) (po_some pe_int) po_none) pa_nil)))
          (pss_cons (ps_if (pt_cmpR op_isN (pv 1) pe_non (nomark _))
            (pss_one (ps_ret pe_non))
            pss_nil)
          (pss_one (ps_ret (pe_tup (pa_cons (pe_op op_sub pe_int (pe_ix ix_tup (pv 1) pe_int (fun _ _ => rfl))) (pa_cons (pe_ix ix_tup (pv 1) pe_int (fun _ _ => rfl)) pa_nil)))))))
          pss_nil)
        (pss_one (ps_ret (pe_call (okLawOwnDecimal T) (hr.mono (by decide)) (by rfl) T.gLawOwnDecimal T.FLawOwnDecimal.kp T.bLawOwnDecimal .nil pass0 (pa_cons (pv 0) pa_nil))))), ?_⟩
    refine ⟨_, rfl, 1, rfl, S a, rfl, by rw [S_len]; exact sz100 (by omega), ?_⟩
    rw [slice_to (by decide)]
    refine ⟨rfl, _, rfl, ?_⟩
    show if decide (V.str (S (a.take 1)) = V.str ("-" : Str)) = true then _ else _
    rw [take1_minus]
    by_cases hm : a.head? = some 45
    · rw [decide_eq_true hm]
      refine iteT ?_
      unfold bodyN at q1 q2
      rw [if_pos hm] at q1 q2
      refine ⟨_, rfl, 1, rfl, S a, rfl, by rw [S_len]; exact sz100 (by omega), ?_⟩
      rw [slice_from (by decide)]
      refine ⟨a.drop 1, rfl, by rw [List.length_drop]; omega, fun h1 H1 s1 => ?_, fun h1 p x y H1 s1 hp L => ?_⟩
      · refine ⟨_, rfl, rfl, _, rfl, ite2 (fun _ => q1 h1 _ s1) (fun z => absurd (decide_eq_true rfl) z)⟩
      · refine ⟨_, rfl, rfl, _, rfl, ite2 (fun z => (nomatch (of_decide_eq_true z))) (fun _ => ?_)⟩
        refine ⟨_, rfl, p, _, _, _, rfl, rfl, SqT.of hp, atI_nat (j := 0) rfl, _, _, rfl, rfl, _, rfl, p, _, _, _, rfl, rfl, SqT.of hp, atI_nat (j := 1) rfl, (by show 2 ≤ sizeLine; decide), fun p2 hp2 => ?_⟩
        refine q2 h1 p2 x y _ (s1.trans (same_new hp2)) ?_ L
        rw [if_pos hm, ← Int.zero_sub]
        exact upd_same
    · rw [decide_eq_false hm]
      refine iteF ?_
      unfold bodyN at q1 q2
      rw [if_neg hm] at q1 q2
      refine ⟨_, rfl, a, rfl, ha, q1, fun h1 p x y H1 s1 hp L => ?_⟩
      refine q2 h1 p x y H1 s1 ?_ L
      rw [if_neg hm]
      exact hp
/-- a fraction in range -/
structure Fr (n d : Int) : Prop where
  lo : -1000000000000000000 ≤ n
  hi : n ≤ 1000000000000000000
  pos : 0 < d
  top : d ≤ 1000000000000000000
theorem item_of {ns : List Int} {k : Int} (h0 : 0 ≤ k) (h1 : k < ns.length) : ∃ v ∈ ns, atI (ns.map V.int) k = some (.int v) := by
  obtain ⟨j, rfl⟩ := Int.eq_ofNat_of_zero_le h0
  have hj : j < ns.length := by omega
  exact ⟨ns.getD j 0, by rw [List.getD_eq_getElem?_getD, List.getElem?_eq_getElem hj]; exact List.getElem_mem hj, atI_nat (getD_at hj)⟩
def spFrac (K : PySem.W.Frag) : Sp := fun vs H Q _ => ∃ (b : Addr), vs = [.ref b] ∧ Box H b ∧ ∀ p x y H', Box H' b → Kp b H H' → H' p = some (.tup [.int x, .int y]) → Fr x y → Nat.gcd x.natAbs y.natAbs = 1 → p ≠ b → Q (.ref p) H'
theorem okLawFraction (T : Txt K mg) : FnOk P w K mg base CX0 3 T.fLawFraction T.fdLawFraction ["box"] (spFrac K) := by
  refine T.FLawFraction.ok scLawFraction (fun vs H Q E h => ?_) (fun cdv A outer s H vs Q E hr h => ?_)
  · obtain ⟨b, rfl, _⟩ := h
    rfl
  · obtain ⟨b, rfl, B, q⟩ := h
    -- slots box=0 kind=1 n=2 d=3
    refine ⟨_, (pss_cons (ps_set (i := 1) scLawFraction.nd rfl (Or.inl rfl) (pe_call (okLawDraw T) (hr.mono (by decide)) (by rfl) T.gLawDraw T.FLawDraw.kp T.bLawDraw .nil pass0 (pa_cons (pv 0) (pa_cons pe_int pa_nil))))
        (pss_cons (ps_set (i := 2) scLawFraction.nd rfl (Or.inl rfl) (pe_call (okLawBig T) (hr.mono (by decide)) (by rfl) T.gLawBig T.FLawBig.kp T.bLawBig .nil pass0 (pa_cons (pv 0) (pa_cons (pe_ix ix_list (pe_lst (pa_cons pe_int (pa_cons pe_int (pa_cons pe_int (pa_cons pe_int (pa_cons pe_int (pa_cons pe_int pa_nil))))))) (pv 1) (fun _ _ => rfl)) pa_nil))))
        (pss_cons (ps_set (i := 3) scLawFraction.nd rfl (Or.inl rfl) (pe_op op_add pe_int (pe_call (okLawBig T) (hr.mono (by decide)) (by rfl) T.gLawBig T.FLawBig.kp T.bLawBig .nil pass0 (pa_cons (pv 0) (pa_cons (pe_ix ix_list (pe_lst (pa_cons pe_int (pa_cons pe_int (pa_cons pe_int (pa_cons pe_int (pa_cons pe_int (pa_cons pe_int pa_nil))))))) (pv 1) (fun _ _ => rfl)) pa_nil)))))
        (C8.pss_cut (ps_if (pt_cmpR op_eq (pv 1) pe_int (nomark _))
          (pss_one (ps_set (i := 2) scLawFraction.nd rfl (Or.inl rfl) (pe_op op_mod (pe_callTy call_int1 (by rfl) T.z_int (by decide +kernel) (pa_cons (pv 2) pa_nil)) pe_int)))
          pss_nil)
        (C8.pss_cut (ps_if (pt_cmpR op_eq (pv 1) pe_int (nomark _))
          (pss_cons (ps_set (i := 2) scLawFraction.nd rfl (Or.inl rfl) (pe_op op_sub (pe_op op_pow pe_int pe_int) (pe_call (okLawDraw T) (hr.mono (by decide)) (by rfl) T.gLawDraw T.FLawDraw.kp T.bLawDraw .nil pass0 (pa_cons (pv 0) (pa_cons pe_int pa_nil)))))
          (pss_one (ps_set (i := 3) scLawFraction.nd rfl (Or.inl rfl) (pe_ix ix_list (pe_lst (pa_cons pe_int (pa_cons pe_int (pa_cons pe_int (pa_cons (pe_op op_pow pe_int pe_int) pa_nil))))) (pe_call (okLawDraw T) (hr.mono (by decide)) (by rfl) T.gLawDraw T.FLawDraw.kp T.bLawDraw .nil pass0 (pa_cons (pv 0) (pa_cons pe_int pa_nil))) (fun _ _ => rfl)))))
          pss_nil)
        (C8.pss_cut (ps_if (pt_cmpR op_eq (pe_call (okLawDraw T) (hr.mono (by decide)) (by rfl) T.gLawDraw T.FLawDraw.kp T.bLawDraw .nil pass0 (pa_cons (pv 0) (pa_cons pe_int pa_nil))) pe_int (nomark _))
          (pss_one (ps_set (i := 2) scLawFraction.nd rfl (Or.inl rfl) (pe_op op_sub pe_int (pv 2))))
          pss_nil)
        (pss_one (ps_ret (pe_call (okLawLowest T) (hr.mono (by decide)) (by rfl) T.gLawLowest T.FLawLowest.kp T.bLawLowest .nil pass0 (pa_cons (pv 2) (pa_cons (pv 3) pa_nil))))))))))), ?_⟩
    have pw : ∀ m : Int, 0 ≤ m → m ≤ 6 → (1000 : Int) ^ m.toNat ≤ 10 ^ 18 := fun m h0 h1 => by
      have e : m = 0 ∨ m = 1 ∨ m = 2 ∨ m = 3 ∨ m = 4 ∨ m = 5 ∨ m = 6 := by omega
      rcases e with rfl | rfl | rfl | rfl | rfl | rfl | rfl <;> decide
    refine ⟨_, rfl, b, 6, rfl, by decide, B, fun kd H1 k0 k6 B1 w1 => ?_⟩
    -- n
    refine ⟨_, rfl, (by show 6 ≤ sizeLine; decide), fun l hl => ?_⟩
    obtain ⟨v, hv, ev⟩ := item_of (ns := [1, 1, 2, 3, 6, 6]) k0 k6
    have v06 : 0 ≤ v ∧ v ≤ 6 := by
      simp only [List.mem_cons, List.not_mem_nil, or_false] at hv
      omega
    refine ⟨_, rfl, l, _, _, _, rfl, rfl, SqL.of upd_same, ev, b, v, rfl, v06.1, by omega, B1.same (same_new hl), fun n H2 n0 n1 B2 w2 => ?_⟩
    have w12 := (w1.trans (Kp.of (same_new hl))).trans w2
    have bn := pw v v06.1 v06.2
    -- d
    refine ⟨_, rfl, (by show 6 ≤ sizeLine; decide), fun l2 hl2 => ?_⟩
    obtain ⟨v2, hv2, ev2⟩ := item_of (ns := [0, 1, 1, 2, 6, 2]) k0 k6
    have v26 : 0 ≤ v2 ∧ v2 ≤ 6 := by
      simp only [List.mem_cons, List.not_mem_nil, or_false] at hv2
      omega
    refine ⟨_, rfl, l2, _, _, _, rfl, rfl, SqL.of upd_same, ev2, b, v2, rfl, v26.1, by omega, B2.same (same_new hl2), fun d H3 d0 d1 B3 w3 => ⟨_, _, rfl, rfl, ?_⟩⟩
    have w13 := (w12.trans (Kp.of (same_new hl2))).trans w3
    have bd := pw v2 v26.1 v26.2
    -- if kind == 0
    refine ⟨fun σ H' => H' = H3 ∧ ∃ n : Int, σ = [some (.ref b), some (.int kd), some (.int n), some (.int (1 + d))] ∧ 0 ≤ n ∧ n ≤ 10 ^ 18, ?_, ?_⟩
    · refine ⟨_, rfl, rfl, _, rfl, ite2 (fun c => ?_) (fun c => ?_)⟩
      · exact ⟨_, rfl, .inl ⟨_, rfl, _, _, rfl, rfl, (by show (0 : Int) < _; decide), rfl, _, rfl, by omega, by omega⟩⟩
      · exact ⟨rfl, n, rfl, n0, by omega⟩
    clear n0 n1 bn
    rintro σ H4 ⟨rfl, n, rfl, n0, n1⟩
    -- if kind == 5
    refine ⟨fun σ H' => Box H' b ∧ Kp b H H' ∧ ∃ n d : Int, σ = [some (.ref b), some (.int kd), some (.int n), some (.int d)] ∧ 0 ≤ n ∧ n ≤ 10 ^ 18 ∧ 1 ≤ d ∧ d ≤ 10 ^ 18, ?_, ?_⟩
    · refine ⟨_, rfl, rfl, _, rfl, ite2 (fun c => ?_) (fun c => ?_)⟩
      · refine ⟨_, _, rfl, rfl, ⟨by decide, by decide, by decide⟩, _, rfl, b, 3, rfl, by decide, B3, fun e H5 e0 e3 B5 w5 => ⟨_, _, rfl, rfl, ?_⟩⟩
        refine ⟨_, _, rfl, rfl, ⟨by decide, by decide, by decide⟩, (by show 4 ≤ sizeLine; decide), fun l3 hl3 => ?_⟩
        refine ⟨_, rfl, b, 4, rfl, by decide, B5.same (same_new hl3), fun k4 H6 f0 f4 B6 w6 => ?_⟩
        obtain ⟨v3, hv3, ev3⟩ := item_of (ns := [1, 2, 3, 10 ^ 18]) f0 f4
        have v36 : 1 ≤ v3 ∧ v3 ≤ 10 ^ 18 := by
          simp only [List.mem_cons, List.not_mem_nil, or_false] at hv3
          omega
        have nb3 : l3 ≠ b := fun z => by
          obtain ⟨_, _, _, hb, _, _⟩ := B5
          rw [z, hb] at hl3
          cases hl3
        refine ⟨l3, _, _, _, rfl, rfl, SqL.of (w6 _ _ nb3 upd_same), ev3, ?_⟩
        exact ⟨B6, ((w13.trans w5).trans (Kp.of (same_new hl3))).trans w6, _, _, rfl, by show (0 : Int) ≤ 10 ^ 18 - e; omega, by show (10 ^ 18 : Int) - e ≤ 10 ^ 18; omega, v36.1, v36.2⟩
      · exact ⟨B3, w13, n, 1 + d, rfl, n0, n1, by omega, by omega⟩
    clear n0 n1 bd d0 d1
    rintro σ H7 ⟨B7, w7, n, d, rfl, n0, n1, d0, d1⟩
    -- if _law_draw(box, 2) == 1
    refine ⟨fun σ H' => Box H' b ∧ Kp b H H' ∧ ∃ n : Int, σ = [some (.ref b), some (.int kd), some (.int n), some (.int d)] ∧ -10 ^ 18 ≤ n ∧ n ≤ 10 ^ 18, ?_, ?_⟩
    · refine ⟨_, rfl, b, 2, rfl, by decide, B7, fun y H8 y0 y1 B8 w8 => ⟨rfl, _, rfl, ite2 (fun _ => ?_) (fun _ => ?_)⟩⟩
      · exact ⟨_, rfl, _, _, rfl, rfl, B8, w7.trans w8, 0 - n, rfl, by omega, by omega⟩
      · exact ⟨B8, w7.trans w8, n, rfl, by omega, n1⟩
    clear n0 n1
    rintro σ H9 ⟨B9, w9, n, rfl, n0, n1⟩
    have zn : n.natAbs < 2 ^ 400 := Nat.lt_trans (show n.natAbs < 2 ^ 61 by omega) (by decide)
    have zd : d.natAbs < 2 ^ 400 := Nat.lt_trans (show d.natAbs < 2 ^ 61 by omega) (by decide)
    refine ⟨_, rfl, _, rfl, n, d, rfl, by omega, zn, zd, fun p x y hp L => ?_⟩
    have nb : p ≠ b := fun z => by
      obtain ⟨_, _, _, hb, _, _⟩ := B9
      rw [z, hb] at hp
      cases hp
    refine q p x y _ (B9.same (same_new hp)) (w9.trans (Kp.of (same_new hp))) upd_same ⟨?_, ?_, L.pos, ?_⟩ L.cop nb
    · have := L.lx
      omega
    · have := L.lx
      omega
    · have := L.ly
      omega
theorem numL_head : ∀ n : Nat, 0 < n → (numL n).head? ≠ some 48 := by
  intro n
  induction n using Nat.strongRecOn with
  | _ n ih =>
    intro h0
    rcases Nat.lt_or_ge n 10 with h | h
    · rw [TL.numL_lt h]
      intro z
      have := Option.some.inj z
      omega
    · have h2 := ih (n / 10) (by omega) (by omega)
      have hne := TL.numL_ne (n / 10)
      rw [TL.numL_step h]
      cases e : numL (n / 10) with
      | nil => exact absurd e hne
      | cons c r =>
        rw [e] at h2
        exact h2
/-! ### the shortest text of a number -/
theorem pre46_app {p q : List Nat} (h : 46 ∉ p) : pre46 (p ++ 46 :: q) = p ∧ post46 (p ++ 46 :: q) = q := by
  have e : ∀ p : List Nat, 46 ∉ p → pre46 (p ++ 46 :: q) = p := by
    intro p
    induction p with
    | nil => intro _; simp [pre46]
    | cons c r ih =>
      intro h
      have hc : c ≠ 46 := fun z => h (by rw [z]; exact List.mem_cons_self)
      have e := ih fun z => h (List.mem_cons_of_mem _ z)
      unfold pre46 at e ⊢
      rw [List.cons_append, List.takeWhile_cons, if_pos (decide_eq_true hc), e]
  refine ⟨e p h, ?_⟩
  unfold post46
  rw [e p h, ← List.drop_drop, List.drop_left]
  rfl
theorem zfill_S {a : List Nat} (h : AllDigits a) (i : Nat) : Txt.zfill (S a) (i : Int) = S (List.replicate (i - a.length) 48 ++ a) := by
  unfold Txt.zfill
  rw [S_len]
  by_cases hi : (i : Int) ≤ (a.length : Int)
  · rw [if_pos hi, show i - a.length = 0 by omega]
    rfl
  · rw [if_neg hi, Int.toNat_natCast]
    have e : zfilled (S a) (i - a.length) = Builtin.Str.padded (S a) (i - a.length) 0 48 := by
      have no : ∀ c : Nat, (S a).cps[0]? = some c → 48 ≤ c := fun c z => by
        have z2 : a.toArray[0]? = some c := z
        rw [List.getElem?_toArray] at z2
        exact (h c (List.mem_of_getElem? z2)).1
      unfold zfilled
      split
      · rename_i z
        exact absurd (no _ z) (by decide)
      · rename_i z
        exact absurd (no _ z) (by decide)
      · rfl
    rw [e]
    refine TL.ext_tl ?_
    show (Builtin.Str.padded (S a) (i - a.length) 0 48).cps.toList = _
    rw [PyProof.Rows.padded_list]
    simp [S]
theorem chop_ex : ∀ b : List Nat, ∃ (p : List Nat) (k : Nat), b.reverse = p ++ List.replicate k 48 ∧ p.getLast? ≠ some 48
  | [] => ⟨[], 0, rfl, by simp⟩
  | c :: r => by
    by_cases hc : c = 48
    · obtain ⟨p, k, e, hl⟩ := chop_ex r
      refine ⟨p, k + 1, ?_, hl⟩
      rw [List.reverse_cons, e, hc, List.append_assoc, List.replicate_succ']
    · exact ⟨(c :: r).reverse, 0, by simp, by rw [List.getLast?_reverse]; simpa using hc⟩
theorem tw_rep {g : Nat → Bool} (h : g 48 = true) (q : List Nat) : ∀ k : Nat, (List.replicate k 48 ++ q).takeWhile g = List.replicate k 48 ++ q.takeWhile g
  | 0 => rfl
  | k + 1 => by
    rw [List.replicate_succ, List.cons_append, List.takeWhile_cons, if_pos h, tw_rep h q k]
    rfl
theorem rstrip_S {p : List Nat} {k : Nat} (hl : p.getLast? ≠ some 48) : Txt.rstripChars (S (p ++ List.replicate k 48)) "0" = S p := by
  have g0 : ("0" : Str).cps = #[48] := by decide +kernel
  have g : ∀ c : Nat, ("0" : Str).cps.contains c = decide (c = 48) := fun c => by
    rw [g0, Bool.eq_iff_iff]
    simp
  have tw : ((p ++ List.replicate k 48).reverse.takeWhile ("0" : Str).cps.contains).length = k := by
    rw [List.reverse_append, List.reverse_replicate, tw_rep (by rw [g]; rfl)]
    have e : p.reverse.takeWhile ("0" : Str).cps.contains = [] := by
      rw [← List.head?_reverse] at hl
      cases er : p.reverse with
      | nil => rfl
      | cons c r =>
        rw [er] at hl
        rw [List.takeWhile_cons, g]
        have hc : c ≠ 48 := fun z => hl (by rw [z]; rfl)
        rw [decide_eq_false hc]
        rfl
    rw [e, List.append_nil, List.length_replicate]
  have hi : stripHi ("0" : Str).cps.contains true (S (p ++ List.replicate k 48)) 0 = p.length := by
    show (S (p ++ List.replicate k 48)).length - ((p ++ List.replicate k 48).reverse.takeWhile ("0" : Str).cps.contains).length = p.length
    rw [tw, S_len, List.length_append, List.length_replicate]
    omega
  unfold Txt.rstripChars Txt.stripBy
  show (if ((0 : Nat) == 0 && stripHi ("0" : Str).cps.contains true (S (p ++ List.replicate k 48)) 0 == (S (p ++ List.replicate k 48)).length) = true then _ else Builtin.Str.strSub (S (p ++ List.replicate k 48)) 0 (stripHi ("0" : Str).cps.contains true (S (p ++ List.replicate k 48)) 0)) = _
  rw [hi, S_len, List.length_append, List.length_replicate]
  split
  · rename_i z
    have : k = 0 := by
      simp at z
      exact z
    rw [this]
    simp
  · refine TL.ext_tl ?_
    show ((p ++ List.replicate k 48).toArray.extract 0 p.length).toList = p
    simp
theorem val_app (a b : List Nat) : digitsVal (a ++ b) = digitsVal a * 10 ^ b.length + digitsVal b := by
  have main : ∀ r : List Nat, digitsVal (a ++ r.reverse) = digitsVal a * 10 ^ r.length + digitsVal r.reverse := by
    intro r
    induction r with
    | nil =>
      show digitsVal (a ++ []) = digitsVal a * 1 + 0
      rw [List.append_nil]
      omega
    | cons c r ih =>
      rw [List.reverse_cons, ← List.append_assoc, PySem.NumText.digitsVal_snoc, ih, PySem.NumText.digitsVal_snoc, List.length_cons, Nat.pow_succ, Nat.add_mul, Nat.mul_assoc]
      omega
  have h := main b.reverse
  rwa [List.reverse_reverse, List.length_reverse] at h
theorem val_zeros (a : List Nat) : ∀ m : Nat, digitsVal (List.replicate m 48 ++ a) = digitsVal a
  | 0 => rfl
  | m + 1 => by
    rw [List.replicate_succ, List.cons_append, PySem.NumText.digitsVal_zero]
    exact val_zeros a m
def hasB (N D : Nat) : Bool := decide (1000000 % D = 0) && decide (N * (1000000 / D) < 10 ^ 18)
def dueB (N D : Nat) : Bool := decide (1000000 % D = 0) && decide (N / D < 10 ^ 12)
theorem due_has (N : Nat) {D : Nat} (h : 0 < D) : hasB N D = dueB N D := by
  unfold hasB dueB
  by_cases hd : 1000000 % D = 0
  · rw [decide_eq_true hd, Bool.true_and, Bool.true_and]
    refine decide_eq_decide.mpr ?_
    have e : 1000000 / D * D = 1000000 := Nat.div_mul_cancel (Nat.dvd_of_mod_eq_zero hd)
    generalize 1000000 / D = q at e
    have hq : 0 < q := by
      rcases Nat.eq_zero_or_pos q with z | z
      · rw [z] at e
        omega
      · exact z
    rw [Nat.div_lt_iff_lt_mul h]
    have e2 : N * q * D = N * 1000000 := by rw [Nat.mul_assoc, e]
    have e3 : (10 : Nat) ^ 18 * D = 10 ^ 12 * D * 1000000 := by
      rw [show (10 : Nat) ^ 18 = 10 ^ 12 * 1000000 by decide, Nat.mul_assoc, Nat.mul_comm 1000000 D, ← Nat.mul_assoc]
    constructor
    · intro z
      have z2 := Nat.mul_lt_mul_of_pos_right z h
      rw [e2, e3] at z2
      exact Nat.lt_of_mul_lt_mul_right z2
    · intro z
      have z2 : N * 1000000 < 10 ^ 12 * D * 1000000 := Nat.mul_lt_mul_of_pos_right z (by decide)
      rw [← e2, ← e3] at z2
      exact Nat.lt_of_mul_lt_mul_right z2
  · rw [decide_eq_false hd]
    rfl
/-- t is how N / D is written -/
structure WT (N D : Nat) (t : List Nat) : Prop where
  tx : ∃ (p : List Nat) (k : Nat), List.replicate (6 - (numL (N * (1000000 / D) % 1000000)).length) 48 ++ numL (N * (1000000 / D) % 1000000) = p ++ List.replicate k 48 ∧ p.getLast? ≠ some 48 ∧
    t = if 0 < N * (1000000 / D) % 1000000 then numL (N * (1000000 / D) / 1000000) ++ 46 :: p else numL (N * (1000000 / D) / 1000000)
structure WOk (N D : Nat) (t : List Nat) : Prop where
  ok : okD t
  lw : Lw (numD t) (denD t) (N : Int) (D : Int)
  head : t.head? ≠ some 45
  len : t.length ≤ 20
  short : pre46 t = [48] ∨ (pre46 t).head? ≠ some 48
  last : 46 ∈ t → t.getLast? ≠ some 48
theorem head_dig {a : List Nat} (h : AllDigits a) (hne : a ≠ []) (r : List Nat) : (a ++ r).head? ≠ some 45 := by
  cases a with
  | nil => exact absurd rfl hne
  | cons c t =>
    intro z
    have hc := h c List.mem_cons_self
    have : c = 45 := Option.some.inj z
    omega
theorem isD_all {a : List Nat} (h : AllDigits a) (hne : a ≠ []) : isD a = true := by
  unfold isD
  rw [Bool.and_eq_true]
  refine ⟨?_, List.all_eq_true.mpr fun c hc => decide_eq_true (h c hc)⟩
  cases a with
  | nil => exact absurd rfl hne
  | cons _ _ => rfl
theorem wt_ok {N D : Nat} {t : List Nat} (w : WT N D t) (hb : hasB N D = true) (hD : 0 < D) (hg : Nat.gcd N D = 1) : WOk N D t := by
  obtain ⟨p, k, ep, hl, et⟩ := w.tx
  unfold hasB at hb
  rw [Bool.and_eq_true] at hb
  have hd := of_decide_eq_true hb.1
  have hP := of_decide_eq_true hb.2
  have e : 1000000 / D * D = 1000000 := Nat.div_mul_cancel (Nat.dvd_of_mod_eq_zero hd)
  generalize hPe : N * (1000000 / D) = P at *
  have eP : P * D = N * 1000000 := by rw [← hPe, Nat.mul_assoc, e]
  clear hPe e hd hb w
  have hW : P / 1000000 < 10 ^ 12 := by omega
  have hR : P % 1000000 < 10 ^ 6 := Nat.mod_lt _ (by decide)
  have hWR : P / 1000000 * 1000000 + P % 1000000 = P := by omega
  generalize P / 1000000 = W at *
  generalize P % 1000000 = R at *
  have nW := TL.numL_ne W
  have dW := TL.numL_digits W
  have lW : (numL W).length ≤ 12 := TL.numL_len (by decide) hW
  have fW : 46 ∉ numL W := TL.numL_free (.inl (by decide))
  have sW : numL W = [48] ∨ (numL W).head? ≠ some 48 := by
    rcases Nat.eq_zero_or_pos W with z | z
    · rw [z]
      exact .inl rfl
    · exact .inr (numL_head W z)
  by_cases h0 : 0 < R
  · rw [if_pos h0] at et
    have lR : (numL R).length ≤ 6 := TL.numL_len (by decide) hR
    have dp : AllDigits p := fun c hc => by
      have hm : c ∈ p ++ List.replicate k 48 := List.mem_append_left _ hc
      rw [← ep] at hm
      rcases List.mem_append.mp hm with z | z
      · rw [List.eq_of_mem_replicate z]
        decide
      · exact TL.numL_digits R c z
    have lp : p.length + k = 6 := by
      have := congrArg List.length ep
      rw [List.length_append, List.length_append, List.length_replicate, List.length_replicate] at this
      omega
    have np : p ≠ [] := fun z => by
      rw [z, List.nil_append] at ep
      have v := congrArg digitsVal ep
      rw [val_zeros, TL.numL_val] at v
      have v2 := val_zeros [] k
      rw [List.append_nil] at v2
      rw [v2] at v
      have : R = 0 := v
      omega
    obtain ⟨e1, e2⟩ := pre46_app (q := p) fW
    have v1 : digitsVal (numL W ++ p) * 10 ^ k = P := by
      have q1 := val_app (numL W ++ p) (List.replicate k 48)
      rw [List.append_assoc, ← ep, val_app, val_zeros, TL.numL_val, TL.numL_val, List.length_append, List.length_replicate, List.length_replicate] at q1
      have q2 := val_zeros [] k
      rw [List.append_nil] at q2
      rw [q2, show 6 - (numL R).length + (numL R).length = 6 by omega] at q1
      have q3 : digitsVal [] = 0 := rfl
      rw [q3] at q1
      omega
    rw [et]
    refine ⟨⟨by rw [e1]; exact isD_all dW nW, by rw [e1]; exact lW, fun _ => ⟨by rw [e2]; exact isD_all dp np, by rw [e2]; omega⟩⟩, ⟨by omega, ?_, by rw [Int.natAbs_natCast, Int.natAbs_natCast]; exact hg⟩, head_dig dW nW _, by rw [List.length_append, List.length_cons]; omega, by rw [e1]; exact sW, fun _ => ?_⟩
    · unfold numD denD
      rw [e1, e2]
      have q : N * 10 ^ p.length = digitsVal (numL W ++ p) * D := by
        have hk : 0 < (10 : Nat) ^ k := Nat.pow_pos (by decide)
        refine Nat.eq_of_mul_eq_mul_right hk ?_
        rw [Nat.mul_assoc, ← Nat.pow_add, lp, Nat.mul_assoc, Nat.mul_comm D, ← Nat.mul_assoc, v1, eP]
      have q2 := congrArg (fun n : Nat => (n : Int)) q
      simpa using q2
    · rw [List.getLast?_append, List.getLast?_cons]
      cases el : p.getLast? with
      | none => exact absurd (List.getLast?_eq_none_iff.mp el) np
      | some c =>
        rw [el] at hl
        simpa using hl
  · rw [if_neg h0] at et
    have R0 : R = 0 := by omega
    subst R0
    obtain ⟨e1, e2⟩ := none46 fW
    rw [et]
    refine ⟨⟨by rw [e1]; exact isD_all dW nW, by rw [e1]; exact lW, fun z => absurd z fW⟩, ⟨by omega, ?_, by rw [Int.natAbs_natCast, Int.natAbs_natCast]; exact hg⟩, ?_, by omega, by rw [e1]; exact sW, fun z => absurd z fW⟩
    · unfold numD denD
      rw [e1, e2, List.append_nil, TL.numL_val]
      have q : N = W * D := by
        refine Nat.eq_of_mul_eq_mul_right (show 0 < 1000000 by decide) ?_
        rw [← eP, ← hWR, Nat.add_zero, Nat.mul_assoc, Nat.mul_assoc, Nat.mul_comm 1000000 D]
      show (N : Int) * 1 = (W : Int) * (D : Int)
      rw [Int.mul_one, q, Int.natCast_mul]
    · have := head_dig dW nW []
      rwa [List.append_nil] at this
/-! ### write_number -/
def spHas (K : PySem.W.Frag) : Sp := fun vs H Q _ => ∃ (a : Addr) (n : Int) (D : Nat), vs = [.ref a] ∧ SqT K H a [.int n, .int (D : Int)] ∧ 0 < D ∧ Q (.bl (hasB n.natAbs D)) H
theorem cast_mod (D : Nat) : (1000000 : Int) % (D : Int) = ((1000000 % D : Nat) : Int) := by first | exact (Int.natCast_emod 1000000 D).symm | rfl | simp
theorem cast_div (D : Nat) : (1000000 : Int) / (D : Int) = ((1000000 / D : Nat) : Int) := by first | exact (Int.natCast_ediv 1000000 D).symm | rfl | simp
theorem div_bd (D : Nat) : -2 ^ 64 < ((1000000 / D : Nat) : Int) ∧ ((1000000 / D : Nat) : Int) < 2 ^ 64 := by
  have h := Nat.div_le_self 1000000 D
  generalize 1000000 / D = q at h ⊢
  omega
theorem len_add {u v : List Nat} (h1 : u.length ≤ 1000) (h2 : v.length ≤ 1000) : (S u).length + (S v).length ≤ sizeLine := by
  rw [S_len, S_len]
  exact sz100 (by omega)
theorem log_nat {n : Nat} (h : n < 10 ^ 30) : ((n : Nat) : Int).natAbs.log2 < 1920 := by
  rw [Int.natAbs_natCast]
  exact Nat.lt_of_lt_of_le (PySem.Flt.log2_lt_of (k := 100) (by decide) (Nat.lt_trans h (by decide))) (by decide)
theorem dec_mod (D : Nat) : decide (V.int ((1000000 : Int) % (D : Int)) = V.int 0) = decide (1000000 % D = 0) := by
  have e : (1000000 : Int) % (D : Int) = ((1000000 % D : Nat) : Int) := cast_mod D
  rw [e]
  refine decide_eq_decide.mpr ⟨fun z => ?_, fun z => ?_⟩
  · have := V.int.inj z
    omega
  · rw [z]
    rfl
theorem okHasDecimal (T : Txt K mg) : FnOk P w K mg base CX0 1 T.fHasDecimal T.fdHasDecimal ["x"] (spHas K) := by
  refine T.FHasDecimal.ok scHasDecimal (fun vs H Q E h => ?_) (fun cdv A outer s H vs Q E hr h => ?_)
  · obtain ⟨a, n, D, rfl, _⟩ := h
    rfl
  · obtain ⟨a, n, D, rfl, hx, hD, q⟩ := h
    -- slots x=0
    refine ⟨_, (pss_one (ps_ret (pe_and (pe_cmpR op_eq (pe_op op_mod (pe_glob (v := (.int 1000000)) rfl T.g_PARTS ⟨_, rfl⟩) (pe_ix ix_tup (pv 0) pe_int (fun _ _ => rfl))) pe_int (nomark _)) (pe_one (pe_cmpR op_lt (pe_op op_mul (pe_callB call_abs (by rfl) T.z_abs (by decide +kernel) (pa_cons (pe_ix ix_tup (pv 0) pe_int (fun _ _ => rfl)) pa_nil)) (pe_op op_fdiv (pe_glob (v := (.int 1000000)) rfl T.g_PARTS ⟨_, rfl⟩) (pe_ix ix_tup (pv 0) pe_int (fun _ _ => rfl)))) (pe_glob (v := (.int 1000000000000000000)) rfl T.g_TOO_MANY_PARTS ⟨_, rfl⟩) (nomark _)))))), ?_⟩
    refine ⟨_, rfl, a, _, _, _, rfl, rfl, hx, atI_nat (j := 1) rfl, _, _, rfl, rfl, (by show (0 : Int) < (D : Int); omega), rfl, _, rfl, ?_⟩
    rw [dec_mod]
    unfold hasB at q
    by_cases hd : 1000000 % D = 0
    · rw [decide_eq_true hd] at q ⊢
      refine iteT ?_
      have hD2 : D ≤ 1000000 := Nat.le_of_dvd (by decide) (Nat.dvd_of_mod_eq_zero hd)
      refine ⟨_, rfl, a, _, _, _, rfl, rfl, hx, atI_nat (j := 0) rfl, _, rfl, ?_⟩
      rw [abs_eq]
      refine ⟨_, rfl, a, _, _, _, rfl, rfl, hx, atI_nat (j := 1) rfl, _, _, rfl, rfl, ⟨by omega, by omega⟩, (n.natAbs : Int), ((1000000 / D : Nat) : Int), rfl, congrArg V.int (cast_div D), .inr (div_bd D), ((n.natAbs * (1000000 / D) : Nat) : Int), _, ?_, rfl, ?_⟩
      · show V.int ((n.natAbs : Int) * ((1000000 / D : Nat) : Int)) = _
        rw [Int.natCast_mul]
      · show Q (V.bl (decide (((n.natAbs * (1000000 / D) : Nat) : Int) < 1000000000000000000))) H
        have e : decide (((n.natAbs * (1000000 / D) : Nat) : Int) < 1000000000000000000) = decide (n.natAbs * (1000000 / D) < 10 ^ 18) := decide_eq_decide.mpr (by omega)
        rw [e]
        rw [Bool.true_and] at q
        exact q
    · rw [decide_eq_false hd] at q ⊢
      exact iteF q
theorem okOutOfRange_Init (T : Txt K mg) : FnOk P w K mg base CX0 1 T.fOutOfRange_Init T.fdOutOfRange_Init ["self", "word"] (spIni K T.cOutOfRange "word") := by
  refine T.FOutOfRange_Init.ok scOutOfRange_Init (fun vs H Q E h => ?_) (fun cdv A outer s H vs Q E hr h => ?_)
  · obtain ⟨a, y, rfl, _⟩ := h
    rfl
  · obtain ⟨a, y, rfl, ha, q⟩ := h
    -- slots self=0 word=1
    refine ⟨_, (pss_one (ps_ost (pv 0) (pv 1))), ?_⟩
    exact ⟨_, rfl, _, rfl, a, T.cOutOfRange, rfl, T.oKOutOfRange, T.nKOutOfRange_word, .inl ⟨ha, q⟩⟩
def spWrite (K : PySem.W.Frag) (C : Addr) : Sp := fun vs H Q E => ∃ (a : Addr) (n : Int) (D : Nat), vs = [.ref a] ∧ SqT K H a [.int n, .int (D : Int)] ∧ 0 < D ∧ (hasB n.natAbs D = false → ∀ d, H d = none → E (.ref C) (some d) (upd H d (.xd [("word", .str "x")]))) ∧
  (hasB n.natAbs D = true → ∀ t, WT n.natAbs D t → Q (.str (S (if n < 0 then 45 :: t else t))) H)
theorem okWriteNumber (T : Txt K mg) : FnOk P w K mg base (L2N.CX P w) 3 T.fWriteNumber T.fdWriteNumber ["x"] (spWrite K T.cOutOfRange) := by
  refine okN T.FWriteNumber scWriteNumber (fun vs H Q E h => ?_) (fun cdv A outer s H vs Q E hr h => ?_)
  · obtain ⟨a, n, D, rfl, _⟩ := h
    rfl
  · obtain ⟨a, n, D, rfl, hx, hD, q1, q2⟩ := h
    -- slots x=0 parts=1 text=2 rest=3
    refine ⟨_, (pss_cons (ps_if (pt_not (pt_val (pe_call (okHasDecimal T) (hr.mono (by decide)) (by rfl) T.gHasDecimal T.FHasDecimal.kp T.bHasDecimal .nil pass0 (pa_cons (pv 0) pa_nil))))
          (pss_one (L2N.ps_raise rfl (L2N.takes_of rfl rfl rfl rfl) (mkN T.oKOutOfRange T.iKOutOfRange T.tKOutOfRange (okOutOfRange_Init T) (hr.mono (by decide)) T.bOutOfRange_Init pass0 (by rfl) T.gKOutOfRange (pa_cons pe_str pa_nil))))
          pss_nil)
        (pss_cons (ps_set (i := 1) scWriteNumber.nd rfl (Or.inl rfl) (pe_op op_mul (pe_callB call_abs (by rfl) T.z_abs (by decide +kernel) (pa_cons (pe_ix ix_tup (pv 0) pe_int (fun _ _ => rfl)) pa_nil)) (pe_op op_fdiv (pe_glob (v := (.int 1000000)) rfl T.g_PARTS ⟨_, rfl⟩) (pe_ix ix_tup (pv 0) pe_int (fun _ _ => rfl)))))
        (pss_cons (ps_set (i := 2) scWriteNumber.nd rfl (Or.inl rfl) (pe_callTy call_str_int (by rfl) T.z_str (by decide +kernel) (pa_cons (pe_op op_fdiv (pv 1) (pe_glob (v := (.int 1000000)) rfl T.g_PARTS ⟨_, rfl⟩)) pa_nil)))
        (pss_cons (ps_set (i := 3) scWriteNumber.nd rfl (Or.inl rfl) (pe_op op_mod (pv 1) (pe_glob (v := (.int 1000000)) rfl T.g_PARTS ⟨_, rfl⟩)))
        (pss_cons (ps_if (pt_cmpR op_gt (pv 3) pe_int (nomark _))
          (pss_one (ps_set (i := 2) scWriteNumber.nd rfl (Or.inl rfl) (pe_op op_add_str (pe_op op_add_str (pv 2) pe_str) (pe_bm PySem.F.plainAttrs_str PySem.F.slot_str_rstrip PySem.F.type_str_rstrip mt_rstripChars (pe_bm PySem.F.plainAttrs_str PySem.F.slot_str_zfill PySem.F.type_str_zfill mt_zfill (pe_callTy call_str_int (by rfl) T.z_str (by decide +kernel) (pa_cons (pv 3) pa_nil)) (pa_cons (pe_glob (v := (.int 6)) rfl T.g_MOST_BEHIND_POINT ⟨_, rfl⟩) pa_nil)) (pa_cons pe_str pa_nil)))))
          pss_nil)
        (pss_one (ps_ret (pe_ifExp (pt_cmpR op_lt (pe_ix ix_tup (pv 0) pe_int (fun _ _ => rfl)) pe_int (nomark _)) (pe_op op_add_str pe_str (pv 2)) (pv 2))))))))), ?_⟩
    refine ⟨_, rfl, a, n, D, rfl, hx, hD, _, rfl, ?_⟩
    cases hb : hasB n.natAbs D with
    | false => exact iteT ⟨by decide, ini_of (q1 hb)⟩
    | true =>
      refine iteF ?_
      have q3 := q2 hb
      clear q1 q2
      have hb2 := hb
      unfold hasB at hb2
      rw [Bool.and_eq_true] at hb2
      have hd := of_decide_eq_true hb2.1
      have hP := of_decide_eq_true hb2.2
      have hD2 : D ≤ 1000000 := Nat.le_of_dvd (by decide) (Nat.dvd_of_mod_eq_zero hd)
      have hq : 1000000 / D ≤ 1000000 := Nat.div_le_self _ _
      refine ⟨_, rfl, a, _, _, _, rfl, rfl, hx, atI_nat (j := 0) rfl, _, rfl, ?_⟩
      rw [abs_eq]
      refine ⟨_, rfl, a, _, _, _, rfl, rfl, hx, atI_nat (j := 1) rfl, _, _, rfl, rfl, ⟨by omega, by omega⟩, (n.natAbs : Int), ((1000000 / D : Nat) : Int), rfl, congrArg V.int (cast_div D), .inr (div_bd D), ?_⟩
      have eP : (n.natAbs : Int) * ((1000000 / D : Nat) : Int) = ((n.natAbs * (1000000 / D) : Nat) : Int) := (Int.natCast_mul _ _).symm
      have mk : ∀ t, WT n.natAbs D t → Q (.str (S (if n < 0 then 45 :: t else t))) H := q3
      obtain ⟨p, k, ep, hl⟩ := chop_ex (List.replicate (6 - (numL (n.natAbs * (1000000 / D) % 1000000)).length) 48 ++ numL (n.natAbs * (1000000 / D) % 1000000)).reverse
      rw [List.reverse_reverse] at ep
      have q4 := mk _ ⟨p, k, ep, hl, rfl⟩
      clear mk q3 hb2 hb
      generalize n.natAbs * (1000000 / D) = P at *
      have hW : P / 1000000 < 10 ^ 12 := by omega
      have hR : P % 1000000 < 10 ^ 6 := Nat.mod_lt _ (by decide)
      refine ⟨_, rfl, ((P : Nat) : Int), 1000000, congrArg V.int eP, rfl, ⟨by decide, by decide⟩, ((P / 1000000 : Nat) : Int), ?_, log_nat (by omega), ?_⟩
      · show [V.int ((P : Int) / 1000000)] = [V.int ((P / 1000000 : Nat) : Int)]
        rw [show (P : Int) / 1000000 = ((P / 1000000 : Nat) : Int) by omega]
      refine ⟨_, rfl, ((P : Nat) : Int), 1000000, congrArg V.int eP, rfl, (by show (0 : Int) < _; decide), ?_⟩
      refine ⟨_, rfl, ((P % 1000000 : Nat) : Int), 0, ?_, rfl, _, rfl, ?_⟩
      · show V.int ((P : Int) % 1000000) = _
        rw [show (P : Int) % 1000000 = ((P % 1000000 : Nat) : Int) by omega]
      generalize hWe : P / 1000000 = W at *
      generalize hRe : P % 1000000 = R at *
      have lW : (numL W).length ≤ 12 := TL.numL_len (by decide) hW
      have lR : (numL R).length ≤ 6 := TL.numL_len (by decide) hR
      have lp : p.length ≤ 6 := by
        have := congrArg List.length ep
        rw [List.length_append, List.length_append, List.length_replicate, List.length_replicate] at this
        omega
      refine ite2 (fun c => ?_) (fun c => ?_)
      · have c0 : 0 < R := by
          have := of_decide_eq_true c
          omega
        rw [if_pos c0] at q4
        refine ⟨_, rfl, S (numL W), S [46], congrArg V.str (num_S W), congrArg V.str pt_S, len_add (by omega) (by simp), ?_⟩
        rw [S_cat]
        refine ⟨_, rfl, ((R : Nat) : Int), ?_, log_nat (by omega), rfl, S (numL R), 6, congrArg V.str (num_S R), rfl, rfl, ?_⟩
        · show [V.int ((P : Int) % 1000000)] = _
          rw [show (P : Int) % 1000000 = ((P % 1000000 : Nat) : Int) by omega, hRe]
        have ez : Txt.zfill (S (numL R)) 6 = S (p ++ List.replicate k 48) := by
          rw [← ep]
          exact zfill_S (TL.numL_digits R) 6
        rw [ez]
        refine ⟨rfl, _, "0", rfl, rfl, ?_, ?_⟩
        · rw [S_len, ← ep, List.length_append, List.length_replicate]
          exact sz100 (by omega)
        rw [rstrip_S hl]
        refine ⟨_, _, rfl, rfl, len_add (by rw [List.length_append]; simp; omega) (by omega), ?_⟩
        rw [S_cat]
        have lt : (numL W ++ [46] ++ p).length ≤ 100 := by
          rw [List.length_append, List.length_append]
          simp
          omega
        have et : numL W ++ 46 :: p = numL W ++ [46] ++ p := by simp
        rw [et] at q4
        generalize numL W ++ [46] ++ p = t at q4 lt
        refine ⟨_, rfl, a, _, _, _, rfl, rfl, hx, atI_nat (j := 0) rfl, _, _, rfl, rfl, _, rfl, ite2 (fun z => ?_) (fun z => ?_)⟩
        · rw [if_pos (of_decide_eq_true z)] at q4
          refine ⟨_, rfl, S [45], S t, congrArg V.str minus_S, rfl, len_add (by simp) (by omega), ?_⟩
          rw [S_cat]
          exact q4
        · rw [if_neg (fun y => z (decide_eq_true y))] at q4
          exact ⟨_, rfl, q4⟩
      · have c0 : ¬ 0 < R := fun y => c (decide_eq_true (by omega))
        rw [if_neg c0] at q4
        refine ⟨_, rfl, a, _, _, _, rfl, rfl, hx, atI_nat (j := 0) rfl, _, _, rfl, rfl, _, rfl, ite2 (fun z => ?_) (fun z => ?_)⟩
        · rw [if_pos (of_decide_eq_true z)] at q4
          refine ⟨_, rfl, S [45], S (numL W), congrArg V.str minus_S, congrArg V.str (num_S W), len_add (by simp) (by omega), ?_⟩
          rw [S_cat]
          exact q4
        · rw [if_neg (fun y => z (decide_eq_true y))] at q4
          refine ⟨_, rfl, ?_⟩
          show Q (.str (Str.ofString (toString ((W : Nat) : Int)))) H
          rw [num_S]
          exact q4
/-! ### the law -/
structure Xok (x y : Int) : Prop where
  pos : 0 < y
  gcd : Nat.gcd x.natAbs y.natAbs = 1
  bd : x.natAbs < 10 ^ 30
def spX (K : PySem.W.Frag) : Sp := fun vs H Q _ => ∃ (b : Addr), vs = [.ref b] ∧ Box H b ∧ ∀ p x y H', Box H' b → Kp b H H' → H' p = some (.tup [.int x, .int y]) → Xok x y → p ≠ b → Q (.ref p) H'
theorem okLawX (T : Txt K mg) : FnOk P w K mg base CX0 4 T.fLawX T.fdLawX ["box"] (spX K) := by
  refine T.FLawX.ok scLawX (fun vs H Q E h => ?_) (fun cdv A outer s H vs Q E hr h => ?_)
  · obtain ⟨b, rfl, _⟩ := h
    rfl
  · obtain ⟨b, rfl, B, q⟩ := h
    -- slots box=0 d=1 k=2 n=3
    refine ⟨_, (pss_cons (ps_if (pt_cmpR op_eq (pe_call (okLawDraw T) (hr.mono (by decide)) (by rfl) T.gLawDraw T.FLawDraw.kp T.bLawDraw .nil pass0 (pa_cons (pv 0) (pa_cons pe_int pa_nil))) pe_int (nomark _))
          (pss_one (ps_ret (pe_call (okLawFraction T) (hr.mono (by decide)) (by rfl) T.gLawFraction T.FLawFraction.kp T.bLawFraction .nil pass0 (pa_cons (pv 0) pa_nil))))
          pss_nil)
        (pss_cons (ps_set (i := 1) scLawX.nd rfl (Or.inl rfl) pe_int)
        (pss_cons (ps_for PassesOwn.never rfl (pi_range1 rfl T.z_range (pa_cons (pe_call (okLawDraw T) (hr.mono (by decide)) (by rfl) T.gLawDraw T.FLawDraw.kp T.bLawDraw .nil pass0 (pa_cons (pv 0) (pa_cons pe_int pa_nil))) pa_nil)) (pg_name (i := 2) scLawX.nd rfl (Or.inl rfl))
          (pss_one (ps_set (i := 1) scLawX.nd rfl (Or.inl rfl) (pe_op op_mul (pv 1) pe_int))))
        (pss_cons (ps_for PassesOwn.never rfl (pi_range1 rfl T.z_range (pa_cons (pe_call (okLawDraw T) (hr.mono (by decide)) (by rfl) T.gLawDraw T.FLawDraw.kp T.bLawDraw .nil pass0 (pa_cons (pv 0) (pa_cons pe_int pa_nil))) pa_nil)) (pg_name (i := 2) scLawX.nd rfl (Or.inl rfl))
          (pss_one (ps_set (i := 1) scLawX.nd rfl (Or.inl rfl) (pe_op op_mul (pv 1) pe_int))))
        (pss_cons (ps_set (i := 3) scLawX.nd rfl (Or.inl rfl) (pe_call (okLawBig T) (hr.mono (by decide)) (by rfl) T.gLawBig T.FLawBig.kp T.bLawBig .nil pass0 (pa_cons (pv 0) (pa_cons (pe_op op_add pe_int (pe_call (okLawDraw T) (hr.mono (by decide)) (by rfl) T.gLawDraw T.FLawDraw.kp T.bLawDraw .nil pass0 (pa_cons (pv 0) (pa_cons pe_int pa_nil)))) pa_nil))))
        (C8.pss_cut (ps_if (pt_cmpR op_eq (pe_call (okLawDraw T) (hr.mono (by decide)) (by rfl) T.gLawDraw T.FLawDraw.kp T.bLawDraw .nil pass0 (pa_cons (pv 0) (pa_cons pe_int pa_nil))) pe_int (nomark _))
          (pss_one (ps_set (i := 3) scLawX.nd rfl (Or.inl rfl) (pe_op op_sub (pe_op op_mul (pv 1) (pe_op op_sub (pe_op op_pow pe_int pe_int) (pe_call (okLawDraw T) (hr.mono (by decide)) (by rfl) T.gLawDraw T.FLawDraw.kp T.bLawDraw .nil pass0 (pa_cons (pv 0) (pa_cons pe_int pa_nil))))) (pe_call (okLawDraw T) (hr.mono (by decide)) (by rfl) T.gLawDraw T.FLawDraw.kp T.bLawDraw .nil pass0 (pa_cons (pv 0) (pa_cons pe_int pa_nil))))))
          pss_nil)
        (C8.pss_cut (ps_if (pt_cmpR op_eq (pe_call (okLawDraw T) (hr.mono (by decide)) (by rfl) T.gLawDraw T.FLawDraw.kp T.bLawDraw .nil pass0 (pa_cons (pv 0) (pa_cons pe_int pa_nil))) pe_int (nomark _))
          (pss_one (ps_set (i := 3) scLawX.nd rfl (Or.inl rfl) (pe_op op_sub pe_int (pv 3))))
          pss_nil)
        (pss_one (ps_ret (pe_call (okLawLowest T) (hr.mono (by decide)) (by rfl) T.gLawLowest T.FLawLowest.kp T.bLawLowest .nil pass0 (pa_cons (pv 3) (pa_cons (pv 1) pa_nil)))))))))))), ?_⟩
    refine ⟨_, rfl, b, 5, rfl, by decide, B, fun y0 H1 _ _ B1 w1 => ⟨rfl, _, rfl, ite2 (fun _ => ?_) (fun _ => ?_)⟩⟩
    · refine ⟨_, rfl, b, rfl, B1, fun p x y H2 B2 w2 hp F G nb => ?_⟩
      exact q p x y H2 B2 (w1.trans w2) hp ⟨F.pos, G, by have := F.lo; have := F.hi; omega⟩ nb
    refine ⟨_, rfl, b, 10, rfl, by decide, B1, fun m H2 m0 m1 B2 w2 => ?_⟩
    have w12 := w1.trans w2
    obtain ⟨m, rfl⟩ := Int.eq_ofNat_of_zero_le m0
    refine ⟨_, rfl, by omega, by omega, for_range (lo := 0) (n := m) (fun i σ H' => H' = H2 ∧ ∃ (d : Nat) (c2 : Option V), σ = [some (.ref b), some (.int (d : Int)), c2, none] ∧ 1 ≤ d ∧ d ≤ 2 ^ i) ⟨rfl, 1, _, rfl, by decide, by decide⟩ ?_ ?_⟩
    · rintro i σ H3 hi ⟨rfl, d, c2, rfl, d1, d2⟩
      refine ⟨_, rfl, _, _, rfl, rfl, .inr ⟨by decide, by decide⟩, rfl, d * 2, some (.int (0 + (i : Int))), ?_, by omega, by rw [Nat.pow_succ]; omega⟩
      show [some (V.ref b), some (V.int ((d : Int) * 2)), some (V.int (0 + (i : Int))), none] = _
      rw [Int.natCast_mul]
      rfl
    rintro σ H3 ⟨rfl, d, c2, rfl, d1, d2⟩
    have d3 : d ≤ 512 := Nat.le_trans d2 (Nat.le_trans (Nat.pow_le_pow_right (by decide) (show m ≤ 9 by omega)) (by decide))
    refine ⟨_, rfl, b, 10, rfl, by decide, B2, fun m2 H4 m3 m4 B4 w4 => ?_⟩
    have w14 := w12.trans w4
    obtain ⟨m2, rfl⟩ := Int.eq_ofNat_of_zero_le m3
    refine ⟨_, rfl, by omega, by omega, for_range (lo := 0) (n := m2) (fun i σ H' => H' = H4 ∧ ∃ (d : Nat) (c2 : Option V), σ = [some (.ref b), some (.int (d : Int)), c2, none] ∧ 1 ≤ d ∧ d ≤ 512 * 5 ^ i) ⟨rfl, d, _, rfl, d1, by simpa using d3⟩ ?_ ?_⟩
    · rintro i σ H5 hi ⟨rfl, d, c2, rfl, d1, d2⟩
      refine ⟨_, rfl, _, _, rfl, rfl, .inr ⟨by decide, by decide⟩, rfl, d * 5, some (.int (0 + (i : Int))), ?_, by omega, by rw [Nat.pow_succ]; omega⟩
      show [some (V.ref b), some (V.int ((d : Int) * 5)), some (V.int (0 + (i : Int))), none] = _
      rw [Int.natCast_mul]
      rfl
    clear d1 d2 d3
    rintro σ H5 ⟨rfl, d, c2, rfl, d1, d2⟩
    have d3 : d ≤ 10 ^ 9 := Nat.le_trans d2 (Nat.le_trans (Nat.mul_le_mul_left _ (Nat.pow_le_pow_right (by decide) (show m2 ≤ 9 by omega))) (by decide))
    clear d2
    -- n
    refine ⟨_, rfl, _, rfl, b, 6, rfl, by decide, B4, fun s H6 s0 s1 B6 w6 => ⟨_, _, rfl, rfl, b, 1 + s, rfl, by omega, by omega, B6, fun n H7 n0 n1 B7 w7 => ?_⟩⟩
    have w17 := (w14.trans w6).trans w7
    have n2 : n < 10 ^ 18 := by
      refine Int.lt_of_lt_of_le n1 ?_
      have e : (1 + s).toNat = 1 ∨ (1 + s).toNat = 2 ∨ (1 + s).toNat = 3 ∨ (1 + s).toNat = 4 ∨ (1 + s).toNat = 5 ∨ (1 + s).toNat = 6 := by omega
      rcases e with e | e | e | e | e | e <;> rw [e] <;> decide
    refine ⟨fun σ H' => Box H' b ∧ Kp b H H' ∧ ∃ n : Int, σ = [some (.ref b), some (.int (d : Int)), c2, some (.int n)] ∧ n.natAbs < 10 ^ 30, ?_, ?_⟩
    · refine ⟨_, rfl, b, 3, rfl, by decide, B7, fun y H8 _ _ B8 w8 => ⟨rfl, _, rfl, ite2 (fun _ => ?_) (fun _ => ⟨B8, w17.trans w8, n, rfl, by omega⟩)⟩⟩
      refine ⟨_, rfl, _, _, rfl, rfl, ⟨by decide, by decide, by decide⟩, _, rfl, b, 2, rfl, by decide, B8, fun y1 H9 y2 y3 B9 w9 => ⟨_, _, rfl, rfl, _, _, rfl, rfl, .inr ?_, _, rfl, b, 3, rfl, by decide, B9, fun y4 H10 y5 y6 B10 w10 => ⟨_, _, rfl, rfl, B10, ((w17.trans w8).trans w9).trans w10, _, rfl, ?_⟩⟩⟩
      · show -2 ^ 64 < (10 : Int) ^ 12 - y1 ∧ (10 : Int) ^ 12 - y1 < 2 ^ 64
        omega
      · show ((d : Int) * ((10 : Int) ^ 12 - y1) - y4).natAbs < 10 ^ 30
        obtain ⟨z, ez, z0, z1⟩ : ∃ z : Nat, (10 : Int) ^ 12 - y1 = (z : Int) ∧ z ≤ 10 ^ 12 ∧ 0 < z := ⟨((10 : Int) ^ 12 - y1).toNat, by omega, by omega, by omega⟩
        rw [ez, ← Int.natCast_mul]
        have hm : d * z ≤ 10 ^ 9 * 10 ^ 12 := Nat.mul_le_mul d3 z0
        generalize d * z = g at hm
        omega
    clear n0 n1 n2
    rintro σ H8 ⟨B8, w8, n, rfl, hn⟩
    refine ⟨fun σ H' => Box H' b ∧ Kp b H H' ∧ ∃ n : Int, σ = [some (.ref b), some (.int (d : Int)), c2, some (.int n)] ∧ n.natAbs < 10 ^ 30, ?_, ?_⟩
    · refine ⟨_, rfl, b, 2, rfl, by decide, B8, fun y H9 _ _ B9 w9 => ⟨rfl, _, rfl, ite2 (fun _ => ?_) (fun _ => ⟨B9, w8.trans w9, n, rfl, hn⟩)⟩⟩
      exact ⟨_, rfl, _, _, rfl, rfl, B9, w8.trans w9, _, rfl, by omega⟩
    clear hn
    rintro σ H9 ⟨B9, w9, n, rfl, hn⟩
    refine ⟨_, rfl, _, rfl, n, (d : Int), rfl, by omega, Nat.lt_trans hn (by decide), Nat.lt_trans (show ((d : Nat) : Int).natAbs < 2 ^ 61 by omega) (by decide), fun p x y hp L => ?_⟩
    have nb : p ≠ b := fun z => by
      obtain ⟨_, _, _, hb, _, _⟩ := B9
      rw [z, hb] at hp
      cases hp
    exact q p x y _ (B9.same (same_new hp)) (w9.trans (Kp.of (same_new hp))) upd_same ⟨L.pos, L.cop, Nat.lt_of_le_of_lt L.lx hn⟩ nb
def spDue (K : PySem.W.Frag) : Sp := fun vs H Q _ => ∃ (a : Addr) (n : Int) (D : Nat), vs = [.ref a] ∧ SqT K H a [.int n, .int (D : Int)] ∧ 0 < D ∧ ∀ H', Same H H' → Q (.bl (dueB n.natAbs D)) H'
def tens : List Nat := [1, 10, 100, 1000, 10000, 100000, 1000000]
theorem okLawDue (T : Txt K mg) : FnOk P w K mg base CX0 1 T.fLawDue T.fdLawDue ["x"] (spDue K) := by
  refine T.FLawDue.ok scLawDue (fun vs H Q E h => ?_) (fun cdv A outer s H vs Q E hr h => ?_)
  · obtain ⟨a, n, D, rfl, _⟩ := h
    rfl
  · obtain ⟨a, n, D, rfl, hx, hD, q⟩ := h
    -- slots x=0 scale=1
    refine ⟨_, (pss_cons (ps_for PassesOwn.never rfl (pi_list (pe_lst (pa_cons pe_int (pa_cons pe_int (pa_cons pe_int (pa_cons pe_int (pa_cons pe_int (pa_cons pe_int (pa_cons pe_int pa_nil))))))))) (pg_name (i := 1) scLawDue.nd rfl (Or.inl rfl))
          (pss_one (ps_if (pt_cmpR op_eq (pe_op op_mod (pe_callTy call_int1 (by rfl) T.z_int (by decide +kernel) (pa_cons (pv 1) pa_nil)) (pe_ix ix_tup (pv 0) pe_int (fun _ _ => rfl))) pe_int (nomark _))
            (pss_one (ps_ret (pe_cmpR op_lt (pe_op op_fdiv (pe_callB call_abs (by rfl) T.z_abs (by decide +kernel) (pa_cons (pe_ix ix_tup (pv 0) pe_int (fun _ _ => rfl)) pa_nil)) (pe_ix ix_tup (pv 0) pe_int (fun _ _ => rfl))) (pe_op op_pow pe_int pe_int) (nomark _))))
            pss_nil)))
        (pss_one (ps_ret pe_bl))), ?_⟩
    refine ⟨(by show 7 ≤ sizeLine; decide), fun l hl => ?_⟩
    have s0 : Same H (upd H l (.lst [.int 1, .int 10, .int 100, .int 1000, .int 10000, .int 100000, .int 1000000])) := same_new hl
    have hl1 : (upd H l (.lst [.int 1, .int 10, .int 100, .int 1000, .int 10000, .int 100000, .int 1000000])) l = some (.lst (tens.map fun (n : Nat) => V.int (n : Int))) := upd_same
    generalize upd H l (.lst [.int 1, .int 10, .int 100, .int 1000, .int 10000, .int 100000, .int 1000000]) = H1 at s0 hl1 ⊢
    refine ⟨l, rfl, ⟨_, SqL.of hl1⟩, for_list (K := K) (a := l) (xs := tens.map fun (n : Nat) => V.int (n : Int)) (fun i σ H' => H' = H1 ∧ (i = 7 → ¬ 1000000 % D = 0) ∧ ∃ c1, σ = [some (.ref a), c1]) ⟨rfl, (fun z => by cases z), _, rfl⟩ (fun i σ H' _ ⟨h, _⟩ => by rw [h]; exact SqL.of hl1) ?_ ?_⟩
    · rintro i y σ H2 hy ⟨rfl, h7, c1, rfl⟩
      rw [List.getElem?_map] at hy
      obtain ⟨k, hk, rfl⟩ : ∃ k, tens[i]? = some k ∧ V.int (k : Int) = y := by
        cases e : tens[i]? with
        | none =>
          rw [e] at hy
          cases hy
        | some k =>
          rw [e] at hy
          exact ⟨k, rfl, Option.some.inj hy⟩
      have k6 : k ∣ 1000000 ∧ (i = 6 → k = 1000000) ∧ i < 7 := by
        have hi : i < 7 := (List.getElem?_eq_some_iff.mp hk).1
        have e : i = 0 ∨ i = 1 ∨ i = 2 ∨ i = 3 ∨ i = 4 ∨ i = 5 ∨ i = 6 := by omega
        rcases e with rfl | rfl | rfl | rfl | rfl | rfl | rfl <;> cases hk <;> decide
      have hx1 := s0.tup hx
      refine ⟨_, rfl, .inl ⟨_, rfl, _, rfl, a, _, _, _, rfl, rfl, hx1, atI_nat (j := 1) rfl, _, _, rfl, rfl, (by show (0 : Int) < (D : Int); omega), rfl, _, rfl, ?_⟩⟩
      refine ite2 (fun c => ?_) (fun c => ⟨rfl, fun e7 hd => ?_, _, rfl⟩)
      · have hd : D ∣ 1000000 := by
          have e : ((k : Int)) % (D : Int) = 0 := V.int.inj (of_decide_eq_true c)
          have e2 : k % D = 0 := by
            have : ((k % D : Nat) : Int) = 0 := e
            omega
          exact Nat.dvd_trans (Nat.dvd_of_mod_eq_zero e2) k6.1
        have hD2 : D ≤ 1000000 := Nat.le_of_dvd (by decide) hd
        have q2 := q _ s0
        unfold dueB at q2
        rw [decide_eq_true (Nat.mod_eq_zero_of_dvd hd), Bool.true_and] at q2
        refine ⟨_, rfl, a, _, _, _, rfl, rfl, hx1, atI_nat (j := 0) rfl, _, rfl, ?_⟩
        rw [abs_eq]
        refine ⟨_, rfl, a, _, _, _, rfl, rfl, hx1, atI_nat (j := 1) rfl, _, _, rfl, rfl, ⟨by omega, by omega⟩, _, _, rfl, rfl, ⟨by decide, by decide, by decide⟩, ((n.natAbs / D : Nat) : Int), _, ?_, rfl, ?_⟩
        · show V.int ((n.natAbs : Int) / (D : Int)) = _
          exact congrArg V.int rfl
        · have e : decide (((n.natAbs / D : Nat) : Int) < 10 ^ 12) = decide (n.natAbs / D < 10 ^ 12) := decide_eq_decide.mpr (by generalize n.natAbs / D = z; omega)
          show Q (.bl (decide (((n.natAbs / D : Nat) : Int) < 10 ^ 12))) _
          rw [e]
          exact q2
      · have hk2 := k6.2.1 (by omega)
        subst hk2
        refine c (decide_eq_true ?_)
        show V.int ((1000000 : Int) % (D : Int)) = V.int 0
        rw [cast_mod, hd]
        rfl
    · rintro σ H2 ⟨rfl, h7, c1, rfl⟩
      have q2 := q _ s0
      unfold dueB at q2
      rw [decide_eq_false (h7 rfl), Bool.false_and] at q2
      exact q2
theorem ifF {c : Bool} {A B : Prop} (hc : c = false) (h : B) : if c = true then A else B := by
  rw [hc]
  exact iteF h
theorem ifT {c : Bool} {A B : Prop} (hc : c = true) (h : A) : if c = true then A else B := by
  rw [hc]
  exact iteT h
theorem zero_S : ("0" : Str) = S [48] := by decide +kernel
def spShort (K : PySem.W.Frag) : Sp := fun vs H Q _ => ∃ (t : List Nat) (a : Addr) (n d : Int), vs = [.str (S (if n < 0 then 45 :: t else t)), .ref a] ∧ SqT K H a [.int n, .int d] ∧ t.head? ≠ some 45 ∧ t.length ≤ 20 ∧ (pre46 t = [48] ∨ (pre46 t).head? ≠ some 48) ∧ (46 ∈ t → t.getLast? ≠ some 48) ∧ Q (.bl true) H
theorem okLawIsShort (T : Txt K mg) : FnOk P w K mg base CX0 1 T.fLawIsShort T.fdLawIsShort ["text", "x"] (spShort K) := by
  refine T.FLawIsShort.ok scLawIsShort (fun vs H Q E h => ?_) (fun cdv A outer s H vs Q E hr h => ?_)
  · obtain ⟨t, a, n, d, rfl, _⟩ := h
    rfl
  · obtain ⟨t, a, n, d, rfl, hx, hh, hl, hs, hz, q⟩ := h
    -- slots text=0 x=1 body=2 whole=3
    refine ⟨_, (pss_cons (ps_if (pt_cmpR op_ne (pe_cmpR op_eq (pe_slice C8.sl_txt (pv 0) po_none (po_some pe_int)) pe_str (nomark _)) (pe_cmpR op_lt (pe_ix ix_tup (pv 1) pe_int (fun _ _ => rfl)) pe_int (nomark _)) (nomark _))
          (pss_one (ps_ret pe_bl))
          pss_nil)
        (pss_cons (ps_set (i := 2) scLawIsShort.nd rfl (Or.inl rfl) (pv 0))
        (C8.pss_cut (ps_if (pt_cmpR op_lt (pe_ix ix_tup (pv 1) pe_int (fun _ _ => rfl)) pe_int (nomark _))
          (pss_one (ps_set (i := 2) scLawIsShort.nd rfl (Or.inl rfl) (pe_slice C8.sl_txt (pv 0) (po_some pe_int) po_none)))
          pss_nil)
        (pss_cons (ps_set (i := 3) scLawIsShort.nd rfl (Or.inl rfl) (pv 2))
        (pss_cons (ps_if (pt_cmpR op_in_str pe_str (pv 2) rfl)
          (pss_cons (ps_set (i := 3) scLawIsShort.nd rfl (Or.inl rfl) (pe_slice C8.sl_txt (pv 2) po_none (po_some (pe_bmS PySem.F.plainAttrs_str PySem.F.slot_str_index PySem.F.type_str_index (mt_indexX rfl takes0) (pv 2) (pa_cons pe_str pa_nil)))))
          (pss_one (ps_if (pt_cmpR op_eq (pe_slice C8.sl_txt (pv 2) (po_some (pe_un un_neg pe_int)) po_none) pe_str (nomark _))
            (pss_one (ps_ret pe_bl))
            pss_nil)))
          pss_nil)
        (pss_one (ps_ret (pe_or (pe_cmpR op_eq (pv 3) pe_str (nomark _)) (pe_one (pe_cmpR op_ne (pe_slice C8.sl_txt (pv 3) po_none (po_some pe_int)) pe_str (nomark _))))))))))), ?_⟩
    have le : (if n < 0 then 45 :: t else t).length ≤ 30 := by
      split
      · rw [List.length_cons]
        omega
      · omega
    refine ⟨_, rfl, 1, rfl, S (if n < 0 then 45 :: t else t), rfl, by rw [S_len]; exact sz100 (by omega), ?_⟩
    rw [slice_to (by decide)]
    refine ⟨rfl, _, rfl, a, _, _, _, rfl, rfl, hx, atI_nat (j := 0) rfl, _, _, rfl, rfl, rfl, _, rfl, iteNS ?_ ?_⟩
    · show V.bl (decide (V.str (S ((if n < 0 then 45 :: t else t).take 1)) = V.str ("-" : Str))) = V.bl (decide (n < 0))
      rw [take1_minus]
      refine congrArg V.bl (decide_eq_decide.mpr ?_)
      by_cases c : n < 0
      · rw [if_pos c]
        exact ⟨fun _ => c, fun _ => rfl⟩
      · rw [if_neg c]
        exact ⟨fun z => absurd z hh, fun z => absurd z c⟩
    refine ⟨_, rfl, fun σ H' => H' = H ∧ σ = [some (.str (S (if n < 0 then 45 :: t else t))), some (.ref a), some (.str (S t)), none], ?_, ?_⟩
    · refine ⟨_, rfl, a, _, _, _, rfl, rfl, hx, atI_nat (j := 0) rfl, _, _, rfl, rfl, _, rfl, ite2 (fun c => ?_) (fun c => ?_)⟩
      · have c2 : n < 0 := of_decide_eq_true c
        refine ⟨_, rfl, 1, rfl, S (if n < 0 then 45 :: t else t), rfl, by rw [S_len]; exact sz100 (by omega), ?_⟩
        rw [slice_from (by decide)]
        refine ⟨rfl, ?_⟩
        have e : (if n < 0 then 45 :: t else t).drop (1 : Int).toNat = t := by rw [if_pos c2]; rfl
        rw [e]
        rfl
      · refine ⟨rfl, ?_⟩
        have e : (if n < 0 then 45 :: t else t) = t := if_neg fun z => c (decide_eq_true z)
        show [some (V.str (S (if n < 0 then 45 :: t else t))), some (.ref a), some (V.str (S (if n < 0 then 45 :: t else t))), none] = _
        rw [e]
    rintro σ H1 ⟨rfl, rfl⟩
    have fin : ∀ w : List Nat, w.length ≤ 30 → (w = [48] ∨ w.head? ≠ some 48) → (if decide (V.str (S w) = V.str ("0" : Str)) = true then Q (.bl true) H1 else Q (.bl (!decide (V.str (S (w.take 1)) = V.str ("0" : Str)))) H1) := fun w _ hw => by
      rw [zero_S]
      rcases hw with e | e
      · rw [e, decide_eq_true rfl]
        exact iteT q
      · have e2 : decide (V.str (S (w.take 1)) = V.str (S [48])) = false := decide_eq_false fun z => by
          have z2 := SX.S_inj (V.str.inj z)
          cases w with
          | nil => cases z2
          | cons c r =>
            have : c = 48 := by
              injection z2
            exact e (by rw [this]; rfl)
        rw [e2]
        split
        · exact q
        · exact q
    refine ⟨_, rfl, _, rfl, ".", S t, rfl, rfl, _, rfl, ?_⟩
    rw [pt_S, SX.in_one]
    by_cases hpt : 46 ∈ t
    · obtain ⟨ea, hn⟩ := split46 hpt
      rw [decide_eq_true hpt]
      refine iteT ⟨_, rfl, _, rfl, rfl, S t, S [46], rfl, congrArg (fun z => [V.str z]) pt_S, (fun k ek => ?_), (fun z => ?_)⟩
      rotate_left
      · rw [ea, idx_one hn] at z
        cases z
      have ek2 : k = (pre46 t).length := by
        have e2 := idx_one (q := post46 t) hn
        rw [← ea] at e2
        rw [e2] at ek
        exact (Option.some.inj ek).symm
      subst ek2
      have t1 : t.take (pre46 t).length = pre46 t := by
        have tw : ∀ w r : List Nat, t = w ++ 46 :: r → t.take w.length = w := fun w r e => by rw [e]; exact List.take_left
        exact tw _ _ ea
      refine ⟨_, rfl, S t, rfl, by rw [S_len]; exact sz100 (by omega), ?_⟩
      rw [slice_to (by omega), Int.toNat_natCast, t1]
      have nt : t ≠ [] := fun z => by
        rw [z] at hpt
        cases hpt
      refine ⟨_, rfl, _, rfl, _, rfl, S t, rfl, by rw [S_len]; exact sz100 (by omega), ?_⟩
      have sl : Txt.slice (S t) (some (-1)) none = S (t.drop (t.length - 1)) := SX.slice_last nt
      rw [sl]
      refine ⟨rfl, _, rfl, ?_⟩
      rw [decide_eq_false (fun z => ?_)]
      · refine iteF ?_
        have lw := (len46 t).1
        refine ⟨_, rfl, rfl, _, rfl, ?_⟩
        have f := fin (pre46 t) (by omega) hs
        split
        · rename_i c
          rw [if_pos c] at f
          exact f
        · rename_i c
          rw [if_neg c] at f
          refine ⟨_, rfl, 1, rfl, S (pre46 t), rfl, by rw [S_len]; exact sz100 (by omega), ?_⟩
          rw [slice_to (by decide)]
          exact ⟨rfl, f⟩
      · have z3 : t.drop (t.length - 1) = [48] := by
          have z2 := V.str.inj z
          rw [zero_S] at z2
          exact SX.S_inj z2
        refine hz hpt ?_
        rw [← List.take_append_drop (t.length - 1) t, z3]
        simp
    · rw [decide_eq_false hpt]
      refine iteF ?_
      have e1 := (none46 hpt).1
      rw [e1] at hs
      refine ⟨_, rfl, rfl, _, rfl, ?_⟩
      have f := fin t (by omega) hs
      split
      · rename_i c
        rw [if_pos c] at f
        exact f
      · rename_i c
        rw [if_neg c] at f
        refine ⟨_, rfl, 1, rfl, S t, rfl, by rw [S_len]; exact sz100 (by omega), ?_⟩
        rw [slice_to (by decide)]
        exact ⟨rfl, f⟩
theorem lk_pair {H : Hp} {p p2 : Addr} {x y : Int} (h1 : H p = some (.tup [.int x, .int y])) (h2 : H p2 = some (.tup [.int x, .int y])) : Lk H 1 (.ref p) (.ref p2) := by
  refine .inr (.inl ⟨p, p2, _, _, rfl, rfl, h1, h2, rfl, by show 2 ≤ 100000; decide, fun i u v e1 e2 => ?_⟩)
  rw [e1] at e2
  cases e2
  rcases i with _ | _ | i
  · cases e1
    exact ⟨rfl, trivial⟩
  · cases e1
    exact ⟨rfl, trivial⟩
  · cases e1
def spLaw (K : PySem.W.Frag) : Sp := fun vs H Q _ => ∃ (a : Addr) (ns : List Int), vs = [.ref a] ∧ SqL K H a (ns.map V.int) ∧ ns.length ≤ 63 ∧ ∀ H', Q (.bl true) H'
theorem okLaw (T : Txt K mg) : FnOk P w K mg base CX0 5 T.fLaw T.fdLaw ["script"] (spLaw K) := by
  refine T.FLaw.ok scLaw (fun vs H Q E h => ?_) (fun cdv A outer s H vs Q E hr h => ?_)
  · obtain ⟨a, ns, rfl, _⟩ := h
    rfl
  · obtain ⟨a, ns, rfl, hS, hlen, q⟩ := h
    -- slots script=0 box=1 turn=2 x=3 due=4 told=5 text=6 wrong=7
    refine ⟨_, (pss_cons (ps_set (i := 1) scLaw.nd rfl (Or.inl rfl) (pe_lst (pa_cons (pe_call (okLawDigits T) (hr.mono (by decide)) (by rfl) T.gLawDigits T.FLawDigits.kp T.bLawDigits .nil pass0 (pa_cons (pv 0) (pa_cons pe_int (pa_cons pe_int pa_nil)))) (pa_cons pe_int pa_nil))))
        (pss_cons (ps_for PassesOwn.never rfl (pi_range1 rfl T.z_range (pa_cons pe_int pa_nil)) (pg_name (i := 2) scLaw.nd rfl (Or.inl rfl))
          (pss_cons (ps_set (i := 3) scLaw.nd rfl (Or.inl rfl) (pe_call (okLawX T) (hr.mono (by decide)) (by rfl) T.gLawX T.FLawX.kp T.bLawX .nil pass0 (pa_cons (pv 1) pa_nil)))
          (pss_cons (ps_set (i := 4) scLaw.nd rfl (Or.inl rfl) (pe_call (okLawDue T) (hr.mono (by decide)) (by rfl) T.gLawDue T.FLawDue.kp T.bLawDue .nil pass0 (pa_cons (pv 3) pa_nil)))
          (pss_cons (ps_if (pt_not (pt_val (pe_call (okLawSame T 1) (hr.mono (by decide)) (by rfl) T.gLawSame T.FLawSame.kp T.bLawSame .nil pass0 (pa_cons (pe_call (okHasDecimal T) (hr.mono (by decide)) (by rfl) T.gHasDecimal T.FHasDecimal.kp T.bHasDecimal .nil pass0 (pa_cons (pv 3) pa_nil)) (pa_cons (pv 4) pa_nil)))))
            (pss_one (ps_ret pe_bl))
            pss_nil)
          (pss_cons (ps_set (i := 5) scLaw.nd rfl (Or.inl rfl) pe_str)
          (pss_cons (L2N.ps_try_as (i := 7) rfl rfl scLaw.nd rfl rfl ⟨rfl, by decide, .inl T.gKTableError⟩ takesN (fun W pn xe tk po =>
            (pss_one (ps_set (i := 6) scLaw.nd rfl (Or.inl rfl) (pe_callS (okWriteNumber T) (hr.mono (by decide)) (by rfl) T.gWriteNumber T.FWriteNumber.kp T.bWriteNumber (fun σ => L2N.passAt tk σ) (pa_cons (pv 3) pa_nil)))))
          (fun a oe cls d pn hz hf =>
            (pss_cons (ps_if (PW.pt (pw_or (pt_val (pv 4)) (pw_or (pt_not (pt_val (pe_callB (cr_isX T.eKOutOfRange hz.zc hf) (by rfl) T.z_isinstance (by decide +kernel) (pa_cons (pv 7) (pa_cons (pe_glob (v := .ref T.cOutOfRange) rfl T.gKOutOfRange rfl) pa_nil))))) (pw_or1 (pt_not (pt_val (pe_callH (E := fun _ => E0) (okHLawSame T) (roomH_mark (hr.mono (by decide)) _) (hot_of hz hf) (by rfl) T.gLawSame T.FLawSame.kp T.bLawSame (fun _ _ _ _ _ _ _ z => z.elim) (pa_cons (pe_xf T.xKOutOfRange T.nKOutOfRange_word hz.zc hf (pv 7)) (pa_cons pe_str pa_nil)))))))))
              (pss_one (ps_ret pe_bl))
              pss_nil)
            (pss_one (ps_set (i := 5) scLaw.nd rfl (Or.inl rfl) pe_str)))))
          (pss_one (ps_if (pt_cmpR op_eq (pv 5) pe_str (nomark _))
            (pss_cons (ps_if (PW.pt (pw_or (pt_not (pt_val (pv 4))) (pw_or (pt_not (pt_val (pe_callB call_isi (by rfl) T.z_isinstance (by decide +kernel) (pa_cons (pv 6) (pa_cons (pe_bltn (v := .ty "str") (by rfl) T.z_str (by decide +kernel) rfl) pa_nil))))) (pw_or1 (pt_not (pt_val (pe_call (okLawSame T 1) (hr.mono (by decide)) (by rfl) T.gLawSame T.FLawSame.kp T.bLawSame .nil pass0 (pa_cons (pe_call (okLawOwnNumber T) (hr.mono (by decide)) (by rfl) T.gLawOwnNumber T.FLawOwnNumber.kp T.bLawOwnNumber .nil pass0 (pa_cons (pv 6) pa_nil)) (pa_cons (pv 3) pa_nil)))))))))
              (pss_one (ps_ret pe_bl))
              pss_nil)
            (pss_one (ps_if (pt_not (pt_val (pe_call (okLawIsShort T) (hr.mono (by decide)) (by rfl) T.gLawIsShort T.FLawIsShort.kp T.bLawIsShort .nil pass0 (pa_cons (pv 6) (pa_cons (pv 3) pa_nil)))))
              (pss_one (ps_ret pe_bl))
              pss_nil)))
            pss_nil))))))))
        (pss_one (ps_ret pe_bl)))), ?_⟩
    refine ⟨_, rfl, a, ns, 0, 63, rfl, by decide, by decide, hS, fun H1 d0 ds s1 hdn hd0 _ => ⟨by show 2 ≤ sizeLine; decide, fun b hb => ?_⟩⟩
    have hb2 : b ≠ d0 := fun z => by
      rw [z, hd0] at hb
      cases hb
    have B0 : Box (upd H1 b (.lst [.ref d0, .int 0])) b := ⟨d0, ds, 0, upd_same, by rw [upd_ne hb2.symm]; exact hd0, hb2⟩
    refine ⟨2, rfl, by decide, by decide, for_range (lo := 0) (n := 2) (fun i σ H' => ∃ c2 c3 c4 c5 c6, σ = [some (.ref a), some (.ref b), c2, c3, c4, c5, c6, none] ∧ Box H' b) ⟨_, _, _, _, _, rfl, B0⟩ ?_ (fun σ H' _ => q _)⟩
    rintro i σ H2 hi ⟨c2, c3, c4, c5, c6, rfl, B2⟩
    refine ⟨_, rfl, b, rfl, B2, fun p n y H3 B3 w3 hp X nb => ?_⟩
    obtain ⟨D, rfl⟩ := Int.eq_ofNat_of_zero_le (show 0 ≤ y by have := X.pos; omega)
    have hD : 0 < D := by have := X.pos; omega
    refine ⟨_, rfl, p, n, D, rfl, SqT.of hp, hD, fun H4 s4 => ?_⟩
    have hp4 := s4 _ _ hp
    have B4 := B3.same s4
    refine ⟨_, rfl, p, n, D, rfl, SqT.of hp4, hD, _, rfl, _, _, rfl, .inl ⟨congrArg V.bl (due_has n.natAbs hD), trivial⟩, _, rfl, iteF ⟨_, rfl, p, n, D, rfl, SqT.of hp4, hD, fun hf d hd => ?_, fun ht t wt => ?_⟩⟩
    · -- refused
      have hdue : dueB n.natAbs D = false := by rw [← due_has n.natAbs hD]; exact hf
      refine ⟨true, T.mKOutOfRange_TableError, fun _ a0 _ => ?_, fun z => Bool.noConfusion z⟩
      refine ⟨_, rfl, _, rfl, ifF hdue ⟨_, rfl, T.cOutOfRange, d, _, true, rfl, rfl, rfl, upd_same, T.kKOutOfRange_OutOfRange, _, rfl, iteF ⟨_, rfl, rfl, rfl, d, _, _, rfl, upd_same, rfl, _, _, rfl, ⟨rfl, trivial⟩, _, rfl, iteF ?_⟩⟩⟩
      refine ⟨_, rfl, rfl, _, rfl, ite2 (fun c => absurd (V.str.inj (of_decide_eq_true c)) (by decide +kernel)) (fun _ => ?_)⟩
      exact ⟨_, _, _, _, _, rfl, B4.same (same_new hd)⟩
    · -- written
      have hdue : dueB n.natAbs D = true := by rw [← due_has n.natAbs hD]; exact ht
      have o := wt_ok wt ht hD X.gcd
      have hhd : (if n < 0 then 45 :: t else t).head? = some 45 ↔ n < 0 := by
        by_cases c : n < 0
        · rw [if_pos c]
          exact ⟨fun _ => c, fun _ => rfl⟩
        · rw [if_neg c]
          exact ⟨fun z => absurd z o.head, fun z => absurd z c⟩
      have eb : bodyN (if n < 0 then 45 :: t else t) = t := by
        unfold bodyN
        by_cases c : n < 0
        · rw [if_pos (hhd.mpr c), if_pos c]
          rfl
        · rw [if_neg (fun z => c (hhd.mp z)), if_neg c]
      have le : (if n < 0 then 45 :: t else t).length ≤ 30 := by
        have := o.len
        split
        · rw [List.length_cons]
          omega
        · omega
      refine ⟨_, rfl, rfl, _, rfl, ite2 (fun _ => ?_) (fun z => absurd (decide_eq_true rfl) z)⟩
      refine ⟨_, rfl, _, rfl, ifF (by rw [hdue]; rfl) ⟨_, rfl, _, _, _, _, true, rfl, .ty _, .base (.str _), kit_ty (by decide +kernel), _, rfl, iteF ⟨_, rfl, (if n < 0 then 45 :: t else t), rfl, by omega, ?_, ?_⟩⟩⟩
      · rw [eb]
        exact fun z => absurd o.ok z
      · rw [eb]
        intro _ p2 x2 y2 H5 s5 hp2 L
        obtain ⟨e1, e2⟩ := lw_one (denD_ne _) L o.lw
        have ex : (if (if n < 0 then 45 :: t else t).head? = some 45 then -x2 else x2) = n := by
          rw [e1]
          by_cases c : n < 0
          · rw [if_pos (hhd.mpr c)]
            omega
          · rw [if_neg (fun z => c (hhd.mp z))]
            omega
        rw [ex, e2] at hp2
        refine ⟨_, rfl, _, _, rfl, lk_pair hp2 (s5 _ _ hp4), _, rfl, iteF ?_⟩
        refine ⟨_, rfl, _, rfl, t, p, n, _, rfl, SqT.of (s5 _ _ hp4), o.head, o.len, o.short, o.last, _, rfl, iteF ?_⟩
        exact ⟨_, _, _, _, _, rfl, B4.same s5⟩
end
set_option maxHeartbeats 0 in
theorem all_mk {l : PySem.W.OpenLaw} {w : World} {K : PySem.W.Frag} {h : Heap} {mg : Str → Option Value} {fa f1 f2 f3 f4 f5 f6 f7 f8 f9 f10 f11 f12 f13 f14 f15 f16 f17 : Addr} {t_MOST_BEHIND_POINT : Nat} {t_PARTS : Nat} {t_TOO_MANY_PARTS : Nat} (X : K.In h) (G : h.Ns mainGlobals mg) (hfa : mg "law" = some (.ref fa))
    {od1 an1 od2 an2 od3 an3 od4 an4 od5 an5 od6 an6 od7 an7 od8 an8 od9 an9 od10 an10 od11 an11 od12 an12 od13 an13 od14 an14 od15 an15 od16 an16 od17 an17 : Option Addr} {sl1 sl2 sl3 sl4 sl5 sl6 sl7 sl8 sl9 sl10 sl11 sl12 sl13 sl14 sl15 sl16 sl17 : Array (Option Value)} {oc1 kV1 dc1 pm1 cd1 ct1 oc2 kV2 dc2 pm2 cd2 ct2 oc3 kV3 dc3 pm3 cd3 ct3 oc4 kV4 dc4 pm4 cd4 ct4 oc5 kV5 dc5 pm5 cd5 ct5 oc6 kV6 dc6 pm6 cd6 ct6 oc7 kV7 dc7 pm7 cd7 ct7 oc8 kV8 dc8 pm8 cd8 ct8 oc9 kV9 dc9 pm9 cd9 ct9 oc10 kV10 dc10 pm10 cd10 ct10 oc11 kV11 dc11 pm11 cd11 ct11 oc12 kV12 dc12 pm12 cd12 ct12 oc13 kV13 dc13 pm13 cd13 ct13 oc14 kV14 dc14 pm14 cd14 ct14 oc15 kV15 dc15 pm15 cd15 ct15 oc16 kV16 dc16 pm16 cd16 ct16 oc17 kV17 dc17 pm17 cd17 ct17 : Value}
    (a1 : PySem.W.nsIn K mainGlobals "has_decimal" = some (some (.ref f1))) (l1 : K.lookup f1 = some ⟨oc1, od1, .func (PySem.W.fnOf "has_decimal" "has_decimal" (defArgs sHasDecimal) (defBody sHasDecimal) (defScope sHasDecimal) .none kV1 dc1 pm1 an1 cd1 ct1), sl1⟩) (c1 : PySem.W.codeIn K cd1 "has_decimal" = true) (k1 : PySem.W.keepIn K (.ref f1) = true)
    (a2 : PySem.W.nsIn K mainGlobals "write_number" = some (some (.ref f2))) (l2 : K.lookup f2 = some ⟨oc2, od2, .func (PySem.W.fnOf "write_number" "write_number" (defArgs sWriteNumber) (defBody sWriteNumber) (defScope sWriteNumber) .none kV2 dc2 pm2 an2 cd2 ct2), sl2⟩) (c2 : PySem.W.codeIn K cd2 "write_number" = true) (k2 : PySem.W.keepIn K (.ref f2) = true)
    (a3 : PySem.W.nsIn K mainGlobals "_law_cell" = some (some (.ref f3))) (l3 : K.lookup f3 = some ⟨oc3, od3, .func (PySem.W.fnOf "_law_cell" "_law_cell" (defArgs sLawCell) (defBody sLawCell) (defScope sLawCell) .none kV3 dc3 pm3 an3 cd3 ct3), sl3⟩) (c3 : PySem.W.codeIn K cd3 "_law_cell" = true) (k3 : PySem.W.keepIn K (.ref f3) = true)
    (a4 : PySem.W.nsIn K mainGlobals "_law_digits" = some (some (.ref f4))) (l4 : K.lookup f4 = some ⟨oc4, od4, .func (PySem.W.fnOf "_law_digits" "_law_digits" (defArgs sLawDigits) (defBody sLawDigits) (defScope sLawDigits) .none kV4 dc4 pm4 an4 cd4 ct4), sl4⟩) (c4 : PySem.W.codeIn K cd4 "_law_digits" = true) (k4 : PySem.W.keepIn K (.ref f4) = true)
    (a5 : PySem.W.nsIn K mainGlobals "_law_draw" = some (some (.ref f5))) (l5 : K.lookup f5 = some ⟨oc5, od5, .func (PySem.W.fnOf "_law_draw" "_law_draw" (defArgs sLawDraw) (defBody sLawDraw) (defScope sLawDraw) .none kV5 dc5 pm5 an5 cd5 ct5), sl5⟩) (c5 : PySem.W.codeIn K cd5 "_law_draw" = true) (k5 : PySem.W.keepIn K (.ref f5) = true)
    (a6 : PySem.W.nsIn K mainGlobals "_law_big" = some (some (.ref f6))) (l6 : K.lookup f6 = some ⟨oc6, od6, .func (PySem.W.fnOf "_law_big" "_law_big" (defArgs sLawBig) (defBody sLawBig) (defScope sLawBig) .none kV6 dc6 pm6 an6 cd6 ct6), sl6⟩) (c6 : PySem.W.codeIn K cd6 "_law_big" = true) (k6 : PySem.W.keepIn K (.ref f6) = true)
    (a7 : PySem.W.nsIn K mainGlobals "_law_gcd" = some (some (.ref f7))) (l7 : K.lookup f7 = some ⟨oc7, od7, .func (PySem.W.fnOf "_law_gcd" "_law_gcd" (defArgs sLawGcd) (defBody sLawGcd) (defScope sLawGcd) .none kV7 dc7 pm7 an7 cd7 ct7), sl7⟩) (c7 : PySem.W.codeIn K cd7 "_law_gcd" = true) (k7 : PySem.W.keepIn K (.ref f7) = true)
    (a8 : PySem.W.nsIn K mainGlobals "_law_lowest" = some (some (.ref f8))) (l8 : K.lookup f8 = some ⟨oc8, od8, .func (PySem.W.fnOf "_law_lowest" "_law_lowest" (defArgs sLawLowest) (defBody sLawLowest) (defScope sLawLowest) .none kV8 dc8 pm8 an8 cd8 ct8), sl8⟩) (c8 : PySem.W.codeIn K cd8 "_law_lowest" = true) (k8 : PySem.W.keepIn K (.ref f8) = true)
    (a9 : PySem.W.nsIn K mainGlobals "_law_same" = some (some (.ref f9))) (l9 : K.lookup f9 = some ⟨oc9, od9, .func (PySem.W.fnOf "_law_same" "_law_same" (defArgs sLawSame) (defBody sLawSame) (defScope sLawSame) .none kV9 dc9 pm9 an9 cd9 ct9), sl9⟩) (c9 : PySem.W.codeIn K cd9 "_law_same" = true) (k9 : PySem.W.keepIn K (.ref f9) = true)
    (a10 : PySem.W.nsIn K mainGlobals "_law_fraction" = some (some (.ref f10))) (l10 : K.lookup f10 = some ⟨oc10, od10, .func (PySem.W.fnOf "_law_fraction" "_law_fraction" (defArgs sLawFraction) (defBody sLawFraction) (defScope sLawFraction) .none kV10 dc10 pm10 an10 cd10 ct10), sl10⟩) (c10 : PySem.W.codeIn K cd10 "_law_fraction" = true) (k10 : PySem.W.keepIn K (.ref f10) = true)
    (a11 : PySem.W.nsIn K mainGlobals "_law_all_digits" = some (some (.ref f11))) (l11 : K.lookup f11 = some ⟨oc11, od11, .func (PySem.W.fnOf "_law_all_digits" "_law_all_digits" (defArgs sLawAllDigits) (defBody sLawAllDigits) (defScope sLawAllDigits) .none kV11 dc11 pm11 an11 cd11 ct11), sl11⟩) (c11 : PySem.W.codeIn K cd11 "_law_all_digits" = true) (k11 : PySem.W.keepIn K (.ref f11) = true)
    (a12 : PySem.W.nsIn K mainGlobals "_law_own_decimal" = some (some (.ref f12))) (l12 : K.lookup f12 = some ⟨oc12, od12, .func (PySem.W.fnOf "_law_own_decimal" "_law_own_decimal" (defArgs sLawOwnDecimal) (defBody sLawOwnDecimal) (defScope sLawOwnDecimal) .none kV12 dc12 pm12 an12 cd12 ct12), sl12⟩) (c12 : PySem.W.codeIn K cd12 "_law_own_decimal" = true) (k12 : PySem.W.keepIn K (.ref f12) = true)
    (a13 : PySem.W.nsIn K mainGlobals "_law_own_number" = some (some (.ref f13))) (l13 : K.lookup f13 = some ⟨oc13, od13, .func (PySem.W.fnOf "_law_own_number" "_law_own_number" (defArgs sLawOwnNumber) (defBody sLawOwnNumber) (defScope sLawOwnNumber) .none kV13 dc13 pm13 an13 cd13 ct13), sl13⟩) (c13 : PySem.W.codeIn K cd13 "_law_own_number" = true) (k13 : PySem.W.keepIn K (.ref f13) = true)
    (a14 : PySem.W.nsIn K mainGlobals "_law_x" = some (some (.ref f14))) (l14 : K.lookup f14 = some ⟨oc14, od14, .func (PySem.W.fnOf "_law_x" "_law_x" (defArgs sLawX) (defBody sLawX) (defScope sLawX) .none kV14 dc14 pm14 an14 cd14 ct14), sl14⟩) (c14 : PySem.W.codeIn K cd14 "_law_x" = true) (k14 : PySem.W.keepIn K (.ref f14) = true)
    (a15 : PySem.W.nsIn K mainGlobals "_law_due" = some (some (.ref f15))) (l15 : K.lookup f15 = some ⟨oc15, od15, .func (PySem.W.fnOf "_law_due" "_law_due" (defArgs sLawDue) (defBody sLawDue) (defScope sLawDue) .none kV15 dc15 pm15 an15 cd15 ct15), sl15⟩) (c15 : PySem.W.codeIn K cd15 "_law_due" = true) (k15 : PySem.W.keepIn K (.ref f15) = true)
    (a16 : PySem.W.nsIn K mainGlobals "_law_is_short" = some (some (.ref f16))) (l16 : K.lookup f16 = some ⟨oc16, od16, .func (PySem.W.fnOf "_law_is_short" "_law_is_short" (defArgs sLawIsShort) (defBody sLawIsShort) (defScope sLawIsShort) .none kV16 dc16 pm16 an16 cd16 ct16), sl16⟩) (c16 : PySem.W.codeIn K cd16 "_law_is_short" = true) (k16 : PySem.W.keepIn K (.ref f16) = true)
    (a17 : PySem.W.nsIn K mainGlobals "law" = some (some (.ref f17))) (l17 : K.lookup f17 = some ⟨oc17, od17, .func (PySem.W.fnOf "law" "law" (defArgs sLaw) (defBody sLaw) (defScope sLaw) .none kV17 dc17 pm17 an17 cd17 ct17), sl17⟩) (c17 : PySem.W.codeIn K cd17 "law" = true) (k17 : PySem.W.keepIn K (.ref f17) = true)
    (z_str : PySem.W.nsIn K mainGlobals "str" = some none)
    (z_range : PySem.W.nsIn K mainGlobals "range" = some none)
    (z_abs : PySem.W.nsIn K mainGlobals "abs" = some none)
    (z_isinstance : PySem.W.nsIn K mainGlobals "isinstance" = some none)
    (z_bool : PySem.W.nsIn K mainGlobals "bool" = some none)
    (z_len : PySem.W.nsIn K mainGlobals "len" = some none)
    (z_list : PySem.W.nsIn K mainGlobals "list" = some none)
    (z_tuple : PySem.W.nsIn K mainGlobals "tuple" = some none)
    (z_int : PySem.W.nsIn K mainGlobals "int" = some none)
    (x_MOST_BEHIND_POINT : PySem.W.nsIn K mainGlobals "MOST_BEHIND_POINT" = some (some (.int 6 t_MOST_BEHIND_POINT)))
    (x_PARTS : PySem.W.nsIn K mainGlobals "PARTS" = some (some (.int 1000000 t_PARTS)))
    (x_TOO_MANY_PARTS : PySem.W.nsIn K mainGlobals "TOO_MANY_PARTS" = some (some (.int 1000000000000000000 t_TOO_MANY_PARTS)))
    {cTableError : Addr} (yaTableError : PySem.W.nsIn K mainGlobals "TableError" = some (some (.ref cTableError))) (ytTableError : PySem.W.typeIn K (.ref cTableError) = some (.type "type")) (yhTableError : PySem.W.hasDictIn K cTableError = true) (yeTableError : PySem.W.subIn K (.ref cTableError) (.type "BaseException") = some true)
    {cOutOfRange : Addr} (yaOutOfRange : PySem.W.nsIn K mainGlobals "OutOfRange" = some (some (.ref cOutOfRange))) (ytOutOfRange : PySem.W.typeIn K (.ref cOutOfRange) = some (.type "type")) (yhOutOfRange : PySem.W.hasDictIn K cOutOfRange = true) (yeOutOfRange : PySem.W.subIn K (.ref cOutOfRange) (.type "BaseException") = some true)
    {nm_OutOfRange qn_OutOfRange : Str} {N_OutOfRange : Addr} {bs_OutOfRange : List Value} {sn_OutOfRange : List Str} {sb_OutOfRange : List Value} {ab_OutOfRange : Bool} {co_OutOfRange : Option Bool} {dd_OutOfRange : Option Addr} {m0_OutOfRange m1_OutOfRange m2_OutOfRange m3_OutOfRange m5_OutOfRange : Option Value}
    (ycOutOfRange : K.lookup cOutOfRange = some (excClassObj nm_OutOfRange qn_OutOfRange cOutOfRange N_OutOfRange bs_OutOfRange [.ref cTableError, .type "ValueError", .type "Exception", .type "BaseException", .type "object"] true sn_OutOfRange sb_OutOfRange ab_OutOfRange co_OutOfRange dd_OutOfRange m0_OutOfRange m1_OutOfRange m2_OutOfRange m3_OutOfRange m5_OutOfRange "ValueError.__new__"))
    (y1OutOfRange : PySem.W.findIn K (.ref cOutOfRange) "__setattr__" = some (some (.builtin "object.__setattr__"))) (y2OutOfRange : PySem.W.findIn K (.ref cOutOfRange) "__getattribute__" = some (some (.builtin "BaseException.__getattribute__"))) (y3OutOfRange : PySem.W.findIn K (.ref cOutOfRange) "__getattr__" = some none)
    (y4OutOfRange : PySem.W.findIn K (.ref cOutOfRange) "__class__" = some (some (.builtin "object.__class__"))) (y5OutOfRange : PySem.W.specialIn K (.builtin "object.__class__") "__get__" = some (some (.builtin "getset_descriptor.__get__"))) (y6OutOfRange : PySem.W.takesIn K (.builtin "object.__class__") = some true) (y7OutOfRange : PySem.W.mroIn K cOutOfRange (.type "object") = some true) (y8OutOfRange : PySem.W.isClsIn K cOutOfRange = true) (y9OutOfRange : PySem.W.keepIn K (.ref cOutOfRange) = true)
    {fOutOfRange_Init : Addr} (yiOutOfRange : PySem.W.findIn K (.ref cOutOfRange) "__init__" = some (some (.ref fOutOfRange_Init))) (yjOutOfRange : PySem.W.typeIn K (.ref fOutOfRange_Init) = some (.type "function"))
    {oc_OutOfRange kV_OutOfRange dc_OutOfRange pm_OutOfRange cd_OutOfRange ct_OutOfRange : Value} {od_OutOfRange an_OutOfRange : Option Addr} {sl_OutOfRange : Array (Option Value)}
    (ylOutOfRange : K.lookup fOutOfRange_Init = some ⟨oc_OutOfRange, od_OutOfRange, .func (PySem.W.fnOf "__init__" "OutOfRange.__init__" (defArgs sOutOfRange_Init) (defBody sOutOfRange_Init) (defScope sOutOfRange_Init) .none kV_OutOfRange dc_OutOfRange pm_OutOfRange an_OutOfRange cd_OutOfRange ct_OutOfRange), sl_OutOfRange⟩) (ydOutOfRange : PySem.W.codeIn K cd_OutOfRange "OutOfRange.__init__" = true) (ykOutOfRange : PySem.W.keepIn K (.ref fOutOfRange_Init) = true)
    (ynOutOfRange_word : PySem.W.findIn K (.ref cOutOfRange) "word" = some none)
    (ysOutOfRange_TableError : PySem.W.subIn K (.ref cOutOfRange) (.ref cTableError) = some true)
    (ysOutOfRange_OutOfRange : PySem.W.subIn K (.ref cOutOfRange) (.ref cOutOfRange) = some true)
    : ∃ fd : FuncData, (∀ (s : Shared) (v : Value), BindsTo s fd ⟨[v], []⟩ [("script", v)]) ∧ ∀ base : Heap, K.In base → base.Ns mainGlobals mg → FnOk l.prog w K mg base CX0 5 fa fd ["script"] (spLaw K) := by
  have e := hfa.symm.trans (PySem.W.mg_of X G a17)
  cases e
  have F1 := fun_mk (st := sHasDecimal) l1 c1 k1
  have b1 := F1.binds (ps := ["x"]) fun _ _ _ _ _ _ us hl => match us, hl with | [_], _ => rfl
  have F2 := fun_mk (st := sWriteNumber) l2 c2 k2
  have b2 := F2.binds (ps := ["x"]) fun _ _ _ _ _ _ us hl => match us, hl with | [_], _ => rfl
  have F3 := fun_mk (st := sLawCell) l3 c3 k3
  have b3 := F3.binds (ps := ["script", "k"]) fun _ _ _ _ _ _ us hl => match us, hl with | [_, _], _ => rfl
  have F4 := fun_mk (st := sLawDigits) l4 c4 k4
  have b4 := F4.binds (ps := ["script", "first", "last"]) fun _ _ _ _ _ _ us hl => match us, hl with | [_, _, _], _ => rfl
  have F5 := fun_mk (st := sLawDraw) l5 c5 k5
  have b5 := F5.binds (ps := ["box", "many"]) fun _ _ _ _ _ _ us hl => match us, hl with | [_, _], _ => rfl
  have F6 := fun_mk (st := sLawBig) l6 c6 k6
  have b6 := F6.binds (ps := ["box", "size"]) fun _ _ _ _ _ _ us hl => match us, hl with | [_, _], _ => rfl
  have F7 := fun_mk (st := sLawGcd) l7 c7 k7
  have b7 := F7.binds (ps := ["a", "b"]) fun _ _ _ _ _ _ us hl => match us, hl with | [_, _], _ => rfl
  have F8 := fun_mk (st := sLawLowest) l8 c8 k8
  have b8 := F8.binds (ps := ["n", "d"]) fun _ _ _ _ _ _ us hl => match us, hl with | [_, _], _ => rfl
  have F9 := fun_mk (st := sLawSame) l9 c9 k9
  have b9 := F9.binds (ps := ["actual", "due"]) fun _ _ _ _ _ _ us hl => match us, hl with | [_, _], _ => rfl
  have F10 := fun_mk (st := sLawFraction) l10 c10 k10
  have b10 := F10.binds (ps := ["box"]) fun _ _ _ _ _ _ us hl => match us, hl with | [_], _ => rfl
  have F11 := fun_mk (st := sLawAllDigits) l11 c11 k11
  have b11 := F11.binds (ps := ["text"]) fun _ _ _ _ _ _ us hl => match us, hl with | [_], _ => rfl
  have F12 := fun_mk (st := sLawOwnDecimal) l12 c12 k12
  have b12 := F12.binds (ps := ["text"]) fun _ _ _ _ _ _ us hl => match us, hl with | [_], _ => rfl
  have F13 := fun_mk (st := sLawOwnNumber) l13 c13 k13
  have b13 := F13.binds (ps := ["text"]) fun _ _ _ _ _ _ us hl => match us, hl with | [_], _ => rfl
  have F14 := fun_mk (st := sLawX) l14 c14 k14
  have b14 := F14.binds (ps := ["box"]) fun _ _ _ _ _ _ us hl => match us, hl with | [_], _ => rfl
  have F15 := fun_mk (st := sLawDue) l15 c15 k15
  have b15 := F15.binds (ps := ["x"]) fun _ _ _ _ _ _ us hl => match us, hl with | [_], _ => rfl
  have F16 := fun_mk (st := sLawIsShort) l16 c16 k16
  have b16 := F16.binds (ps := ["text", "x"]) fun _ _ _ _ _ _ us hl => match us, hl with | [_, _], _ => rfl
  have F17 := fun_mk (st := sLaw) l17 c17 k17
  have b17 := F17.binds (ps := ["script"]) fun _ _ _ _ _ _ us hl => match us, hl with | [_], _ => rfl
  have FOutOfRange_Init := fun_mk (st := sOutOfRange_Init) ylOutOfRange ydOutOfRange ykOutOfRange
  have bOutOfRange_Init := FOutOfRange_Init.binds (ps := ["self", "word"]) fun _ _ _ _ _ _ us hl => match us, hl with | [_, _], _ => rfl
  exact ⟨PySem.W.fnOf "law" "law" (defArgs sLaw) (defBody sLaw) (defScope sLaw) .none kV17 dc17 pm17 an17 cd17 ct17, fun s v => .of_eq rfl, fun base _ _ => okLaw (P := l.prog) (w := w) (base := base) (⟨f1, _, F1, b1, PySem.W.mg_of X G a1, f2, _, F2, b2, PySem.W.mg_of X G a2, f3, _, F3, b3, PySem.W.mg_of X G a3, f4, _, F4, b4, PySem.W.mg_of X G a4, f5, _, F5, b5, PySem.W.mg_of X G a5, f6, _, F6, b6, PySem.W.mg_of X G a6, f7, _, F7, b7, PySem.W.mg_of X G a7, f8, _, F8, b8, PySem.W.mg_of X G a8, f9, _, F9, b9, PySem.W.mg_of X G a9, f10, _, F10, b10, PySem.W.mg_of X G a10, f11, _, F11, b11, PySem.W.mg_of X G a11, f12, _, F12, b12, PySem.W.mg_of X G a12, f13, _, F13, b13, PySem.W.mg_of X G a13, f14, _, F14, b14, PySem.W.mg_of X G a14, f15, _, F15, b15, PySem.W.mg_of X G a15, f16, _, F16, b16, PySem.W.mg_of X G a16, fa, _, F17, b17, PySem.W.mg_of X G a17, PySem.W.mg_none_of X G z_str, PySem.W.mg_none_of X G z_range, PySem.W.mg_none_of X G z_abs, PySem.W.mg_none_of X G z_isinstance, PySem.W.mg_none_of X G z_bool, PySem.W.mg_none_of X G z_len, PySem.W.mg_none_of X G z_list, PySem.W.mg_none_of X G z_tuple, PySem.W.mg_none_of X G z_int, t_MOST_BEHIND_POINT, PySem.W.mg_of X G x_MOST_BEHIND_POINT, t_PARTS, PySem.W.mg_of X G x_PARTS, t_TOO_MANY_PARTS, PySem.W.mg_of X G x_TOO_MANY_PARTS, cTableError, PySem.W.mg_of X G yaTableError, cOutOfRange, PySem.W.mg_of X G yaOutOfRange, ⟨⟨_, _, _, _, _, _, _, _, _, _, _, _, _, _, _, ycOutOfRange, by first | rfl | decide +kernel⟩, y1OutOfRange, yeOutOfRange, ytOutOfRange, y9OutOfRange⟩, ⟨y2OutOfRange, y3OutOfRange, yeOutOfRange, yhOutOfRange⟩, ⟨y8OutOfRange, ⟨y2OutOfRange, y3OutOfRange, yeOutOfRange, yhOutOfRange⟩, y4OutOfRange, y5OutOfRange, y6OutOfRange, y7OutOfRange⟩, fOutOfRange_Init, _, FOutOfRange_Init, bOutOfRange_Init, yiOutOfRange, yjOutOfRange, ynOutOfRange_word, PySem.W.exm_ref yeTableError yhTableError ytTableError ysOutOfRange_TableError, PySem.W.exm_ref yeOutOfRange yhOutOfRange ytOutOfRange ysOutOfRange_OutOfRange, kit_self⟩ : Txt K mg)⟩
theorem walk {l : PySem.W.OpenLaw} {q : Program} {loose : List Str} {XP : (Str → Option Value) → Heap → Prop} {YP : World → Heap → Prop} {d : DefRec} {K : Params → PySem.W.Frag} (hn : l.most = some 63) (hdf : d.params.defaults = [])
    (hY : ∀ (w : World) (h : Heap), YP w h → (K w.params).In h)
    (F : ∀ (w : World) (mg : Str → Option Value) (fa : Addr) (h : Heap), (K w.params).In h → h.Ns mainGlobals mg → mg d.name = some (.ref fa) →
      ∃ fd : FuncData, (∀ (s : Shared) (u : Value), BindsTo s fd ⟨[u], []⟩ [("script", u)]) ∧ ∀ base : Heap, (K w.params).In base → base.Ns mainGlobals mg → FnOk l.prog w (K w.params) mg base CX0 5 fa fd ["script"] (spLaw (K w.params))) :
    PySem.W.WalkO q loose XP YP l.row.toRowW d [] (fun f vs => PySem.call f vs) :=
  L2.walk_of (n := 63) (k := 5) (x := "script") (CX := fun _ => CX0) (sp := fun w => spLaw (K w.params)) hn (by decide) hdf ⟨rfl, by decide, by decide⟩ hY F (fun _ _ a ns hl _ hS => ⟨a, ns, rfl, hS, hl, fun _ => rfl⟩) fun _ _ _ _ _ z => z
end My
open PySem PySem.W PyProof.Rows
set_option maxRecDepth 100000 in
set_option maxHeartbeats 0 in
theorem PySem.Challenge.cw_tablemates_k04_shortest_number_text_holds : PySem.Challenge.rw_tablemates_k04_shortest_number_text.Holds := by
  w_on; o_law; k_head; (case hw => w_witness2)
  k_fill
  refine My.walk (l := PySem.Challenge.rw_tablemates_k04_shortest_number_text) rfl rfl (fun w h Y => PySem.W.kIn_of Y) ?F
  case F =>
    intro w mg fa h KX G hmg
    refine' My.all_mk KX G hmg ?a1 ?l1 ?c1 ?k1 ?a2 ?l2 ?c2 ?k2 ?a3 ?l3 ?c3 ?k3 ?a4 ?l4 ?c4 ?k4 ?a5 ?l5 ?c5 ?k5 ?a6 ?l6 ?c6 ?k6 ?a7 ?l7 ?c7 ?k7 ?a8 ?l8 ?c8 ?k8 ?a9 ?l9 ?c9 ?k9 ?a10 ?l10 ?c10 ?k10 ?a11 ?l11 ?c11 ?k11 ?a12 ?l12 ?c12 ?k12 ?a13 ?l13 ?c13 ?k13 ?a14 ?l14 ?c14 ?k14 ?a15 ?l15 ?c15 ?k15 ?a16 ?l16 ?c16 ?k16 ?a17 ?l17 ?c17 ?k17 ?z_str ?z_range ?z_abs ?z_isinstance ?z_bool ?z_len ?z_list ?z_tuple ?z_int ?x_MOST_BEHIND_POINT ?x_PARTS ?x_TOO_MANY_PARTS ?yaTableError ?ytTableError ?yhTableError ?yeTableError ?yaOutOfRange ?ytOutOfRange ?yhOutOfRange ?yeOutOfRange ?ycOutOfRange ?y1OutOfRange ?y2OutOfRange ?y3OutOfRange ?y4OutOfRange ?y5OutOfRange ?y6OutOfRange ?y7OutOfRange ?y8OutOfRange ?y9OutOfRange ?yiOutOfRange ?yjOutOfRange ?ylOutOfRange ?ydOutOfRange ?ykOutOfRange ?ynOutOfRange_word ?ysOutOfRange_TableError ?ysOutOfRange_OutOfRange
    (case a1 => k_is); (case l1 => k_is); (case c1 => k_is); (case k1 => k_is); (case a2 => k_is); (case l2 => k_is); (case c2 => k_is); (case k2 => k_is); (case a3 => k_is); (case l3 => k_is); (case c3 => k_is); (case k3 => k_is); (case a4 => k_is); (case l4 => k_is); (case c4 => k_is); (case k4 => k_is); (case a5 => k_is); (case l5 => k_is); (case c5 => k_is); (case k5 => k_is); (case a6 => k_is); (case l6 => k_is); (case c6 => k_is); (case k6 => k_is); (case a7 => k_is); (case l7 => k_is); (case c7 => k_is); (case k7 => k_is); (case a8 => k_is); (case l8 => k_is); (case c8 => k_is); (case k8 => k_is); (case a9 => k_is); (case l9 => k_is); (case c9 => k_is); (case k9 => k_is); (case a10 => k_is); (case l10 => k_is); (case c10 => k_is); (case k10 => k_is); (case a11 => k_is); (case l11 => k_is); (case c11 => k_is); (case k11 => k_is); (case a12 => k_is); (case l12 => k_is); (case c12 => k_is); (case k12 => k_is); (case a13 => k_is); (case l13 => k_is); (case c13 => k_is); (case k13 => k_is); (case a14 => k_is); (case l14 => k_is); (case c14 => k_is); (case k14 => k_is); (case a15 => k_is); (case l15 => k_is); (case c15 => k_is); (case k15 => k_is); (case a16 => k_is); (case l16 => k_is); (case c16 => k_is); (case k16 => k_is); (case a17 => k_is); (case l17 => k_is); (case c17 => k_is); (case k17 => k_is); (case z_str => k_is); (case z_range => k_is); (case z_abs => k_is); (case z_isinstance => k_is); (case z_bool => k_is); (case z_len => k_is); (case z_list => k_is); (case z_tuple => k_is); (case z_int => k_is); (case x_MOST_BEHIND_POINT => k_is); (case x_PARTS => k_is); (case x_TOO_MANY_PARTS => k_is); (case yaTableError => k_is); (case ytTableError => k_is); (case yhTableError => k_is); (case yeTableError => k_is); (case yaOutOfRange => k_is); (case ytOutOfRange => k_is); (case yhOutOfRange => k_is); (case yeOutOfRange => k_is); (case ycOutOfRange => k_is); (case y1OutOfRange => k_is); (case y2OutOfRange => k_is); (case y3OutOfRange => k_is); (case y4OutOfRange => k_is); (case y5OutOfRange => k_is); (case y6OutOfRange => k_is); (case y7OutOfRange => k_is); (case y8OutOfRange => k_is); (case y9OutOfRange => k_is); (case yiOutOfRange => k_is); (case yjOutOfRange => k_is); (case ylOutOfRange => k_is); (case ydOutOfRange => k_is); (case ykOutOfRange => k_is); (case ynOutOfRange_word => k_is); (case ysOutOfRange_TableError => first | rfl | k_is | kit_is); (case ysOutOfRange_OutOfRange => first | rfl | k_is | kit_is)

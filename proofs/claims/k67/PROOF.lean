import PyProof.Rows.All
import Wide.All
import OpenK.AllK
import Wide.FinOn
import HandS.ForMost
import HandS.Zip
import HandS.Walk
import HandS.Deep
import HandS.Conv
import HandS.Codes
import HandS.Rev
import HandS.ExcInit
import HandS.ExcField
import HandS.ExcIs
import HandS.ExcOwn
import HandS.ExcCtx
import HandS.HotCalls
import HandS.ExcInitHot
import KE.KExcIs
import KE.KEqDeep
import HandS.CallLocal
import HandS.Words
import HandS.List
import PySem.Challenge.RW_tablemates_k67_records_are_read
set_option Elab.async false
set_option linter.all false
set_option maxRecDepth 100000
namespace My
open PySem PySem.Spec PyProof.Rows L2 RZ
def topS (i : Nat) : Stmt := PySem.Challenge.pw_tablemates_k67_records_are_read.main.body.getD i (.Pass ⟨0, 0, 0, 0⟩)
abbrev sWall : Stmt := topS 0
abbrev sNumberBytes : Stmt := topS 5
abbrev sSumOf : Stmt := topS 9
abbrev sRecordOf : Stmt := topS 10
abbrev sReadRecord : Stmt := topS 11
abbrev sLawCell : Stmt := topS 13
abbrev sLawDigits : Stmt := topS 14
abbrev sLawNumber : Stmt := topS 15
abbrev sLawSum : Stmt := topS 16
abbrev sLawRecord : Stmt := topS 17
abbrev sLawBodies : Stmt := topS 18
abbrev sLaw : Stmt := topS 19
abbrev sInvalidBytes_Init : Stmt := inClass (topS 3) 0
theorem scInvalidBytes_Init : FnScope ["self", "at"] ["self", "at"] (defScope sInvalidBytes_Init) := ⟨rfl, rfl, rfl, by decide +kernel, rfl, by decide +kernel, by decide +kernel⟩
abbrev sReader_Init : Stmt := inClass (topS 6) 0
theorem scReader_Init : FnScope ["self", "data"] ["self", "data"] (defScope sReader_Init) := ⟨rfl, rfl, rfl, by decide +kernel, rfl, by decide +kernel, by decide +kernel⟩
abbrev sReader_Integer : Stmt := inClass (topS 6) 1
theorem scReader_Integer : FnScope ["self", "end", "n", "byte"] ["self"] (defScope sReader_Integer) := ⟨rfl, rfl, rfl, by decide +kernel, rfl, by decide +kernel, by decide +kernel⟩
abbrev sReader_Number : Stmt := inClass (topS 6) 2
theorem scReader_Number : FnScope ["self", "least", "most"] ["self", "least", "most"] (defScope sReader_Number) := ⟨rfl, rfl, rfl, by decide +kernel, rfl, by decide +kernel, by decide +kernel⟩
abbrev sReader_Choice : Stmt := inClass (topS 6) 3
theorem scReader_Choice : FnScope ["self", "words"] ["self", "words"] (defScope sReader_Choice) := ⟨rfl, rfl, rfl, by decide +kernel, rfl, by decide +kernel, by decide +kernel⟩
abbrev sReader_Part : Stmt := inClass (topS 6) 4
theorem scReader_Part : FnScope ["self", "most"] ["self", "most"] (defScope sReader_Part) := ⟨rfl, rfl, rfl, by decide +kernel, rfl, by decide +kernel, by decide +kernel⟩
/-! ### error classes with fields -/
structure ExK (K : PySem.W.Frag) (C : Addr) : Prop where
  cl : PySem.W.isClsIn K C = true
  x : XfC K C
  cc : PySem.W.findIn K (.ref C) "__class__" = some (some (.builtin "object.__class__"))
  cn : PySem.W.specialIn K (.builtin "object.__class__") "__get__" = some (some (.builtin "getset_descriptor.__get__"))
  ct : PySem.W.takesIn K (.builtin "object.__class__") = some true
  cm : PySem.W.mroIn K C (.type "object") = some true
theorem kit_self {K : PySem.W.Frag} {t : Value} : PySem.W.kitOne K t t = some true := if_pos (beq_self_eq_true t)
theorem scWall : FnScope ["k"] ["k"] (defScope sWall) := ⟨rfl, rfl, rfl, by decide +kernel, rfl, by decide +kernel, by decide +kernel⟩
theorem scNumberBytes : FnScope ["n", "found"] ["n"] (defScope sNumberBytes) := ⟨rfl, rfl, rfl, by decide +kernel, rfl, by decide +kernel, by decide +kernel⟩
theorem scSumOf : FnScope ["data", "total", "byte"] ["data"] (defScope sSumOf) := ⟨rfl, rfl, rfl, by decide +kernel, rfl, by decide +kernel, by decide +kernel⟩
theorem scRecordOf : FnScope ["body"] ["body"] (defScope sRecordOf) := ⟨rfl, rfl, rfl, by decide +kernel, rfl, by decide +kernel, by decide +kernel⟩
theorem scReadRecord : FnScope ["data", "at", "reader", "many", "body", "told"] ["data", "at"] (defScope sReadRecord) := ⟨rfl, rfl, rfl, by decide +kernel, rfl, by decide +kernel, by decide +kernel⟩
theorem scLawCell : FnScope ["script", "k"] ["script", "k"] (defScope sLawCell) := ⟨rfl, rfl, rfl, by decide +kernel, rfl, by decide +kernel, by decide +kernel⟩
theorem scLawDigits : FnScope ["cell", "k", "most", "digits", "turn", "seed"] ["cell", "k", "most"] (defScope sLawDigits) := ⟨rfl, rfl, rfl, by decide +kernel, rfl, by decide +kernel, by decide +kernel⟩
theorem scLawNumber : FnScope ["n", "data", "turn"] ["n"] (defScope sLawNumber) := ⟨rfl, rfl, rfl, by decide +kernel, rfl, by decide +kernel, by decide +kernel⟩
theorem scLawSum : FnScope ["data", "total", "byte"] ["data"] (defScope sLawSum) := ⟨rfl, rfl, rfl, by decide +kernel, rfl, by decide +kernel, by decide +kernel⟩
theorem scLawRecord : FnScope ["body"] ["body"] (defScope sLawRecord) := ⟨rfl, rfl, rfl, by decide +kernel, rfl, by decide +kernel, by decide +kernel⟩
theorem scLawBodies : FnScope ["script", "bodies", "k", "cell", "body", "digit"] ["script"] (defScope sLawBodies) := ⟨rfl, rfl, rfl, by decide +kernel, rfl, by decide +kernel, by decide +kernel⟩
theorem scLaw : FnScope ["script", "bodies", "data", "ends", "body", "at", "k", "told", "cut", "size", "changed"] ["script"] (defScope sLaw) := ⟨rfl, rfl, rfl, by decide +kernel, rfl, by decide +kernel, by decide +kernel⟩
set_option maxHeartbeats 0 in
structure Txt (K : PySem.W.Frag) (mg : Str → Option Value) where
  fWall : Addr
  fdWall : FuncData
  FWall : Fun K "_wall" "_wall" sWall fWall fdWall
  bWall : Binds K fdWall ["k"] []
  gWall : mg "_wall" = some (.ref fWall)
  fNumberBytes : Addr
  fdNumberBytes : FuncData
  FNumberBytes : Fun K "number_bytes" "number_bytes" sNumberBytes fNumberBytes fdNumberBytes
  bNumberBytes : Binds K fdNumberBytes ["n"] []
  gNumberBytes : mg "number_bytes" = some (.ref fNumberBytes)
  fSumOf : Addr
  fdSumOf : FuncData
  FSumOf : Fun K "sum_of" "sum_of" sSumOf fSumOf fdSumOf
  bSumOf : Binds K fdSumOf ["data"] []
  gSumOf : mg "sum_of" = some (.ref fSumOf)
  fRecordOf : Addr
  fdRecordOf : FuncData
  FRecordOf : Fun K "record_of" "record_of" sRecordOf fRecordOf fdRecordOf
  bRecordOf : Binds K fdRecordOf ["body"] []
  gRecordOf : mg "record_of" = some (.ref fRecordOf)
  fReadRecord : Addr
  fdReadRecord : FuncData
  FReadRecord : Fun K "read_record" "read_record" sReadRecord fReadRecord fdReadRecord
  bReadRecord : Binds K fdReadRecord ["data", "at"] []
  gReadRecord : mg "read_record" = some (.ref fReadRecord)
  fLawCell : Addr
  fdLawCell : FuncData
  FLawCell : Fun K "_law_cell" "_law_cell" sLawCell fLawCell fdLawCell
  bLawCell : Binds K fdLawCell ["script", "k"] []
  gLawCell : mg "_law_cell" = some (.ref fLawCell)
  fLawDigits : Addr
  fdLawDigits : FuncData
  FLawDigits : Fun K "_law_digits" "_law_digits" sLawDigits fLawDigits fdLawDigits
  bLawDigits : Binds K fdLawDigits ["cell", "k", "most"] []
  gLawDigits : mg "_law_digits" = some (.ref fLawDigits)
  fLawNumber : Addr
  fdLawNumber : FuncData
  FLawNumber : Fun K "_law_number" "_law_number" sLawNumber fLawNumber fdLawNumber
  bLawNumber : Binds K fdLawNumber ["n"] []
  gLawNumber : mg "_law_number" = some (.ref fLawNumber)
  fLawSum : Addr
  fdLawSum : FuncData
  FLawSum : Fun K "_law_sum" "_law_sum" sLawSum fLawSum fdLawSum
  bLawSum : Binds K fdLawSum ["data"] []
  gLawSum : mg "_law_sum" = some (.ref fLawSum)
  fLawRecord : Addr
  fdLawRecord : FuncData
  FLawRecord : Fun K "_law_record" "_law_record" sLawRecord fLawRecord fdLawRecord
  bLawRecord : Binds K fdLawRecord ["body"] []
  gLawRecord : mg "_law_record" = some (.ref fLawRecord)
  fLawBodies : Addr
  fdLawBodies : FuncData
  FLawBodies : Fun K "_law_bodies" "_law_bodies" sLawBodies fLawBodies fdLawBodies
  bLawBodies : Binds K fdLawBodies ["script"] []
  gLawBodies : mg "_law_bodies" = some (.ref fLawBodies)
  fLaw : Addr
  fdLaw : FuncData
  FLaw : Fun K "law" "law" sLaw fLaw fdLaw
  bLaw : Binds K fdLaw ["script"] []
  gLaw : mg "law" = some (.ref fLaw)
  z_range : mg "range" = none
  z_len : mg "len" = none
  z_reversed : mg "reversed" = none
  z_int : mg "int" = none
  z_list : mg "list" = none
  t_MODULUS : Nat
  g_MODULUS : mg "MODULUS" = some (.int 65521 t_MODULUS)
  cReader : Addr
  gKReader : mg "Reader" = some (.ref cReader)
  clReader : Cls K cReader
  fReader_Init : Addr
  fdReader_Init : FuncData
  FReader_Init : Fun K "__init__" "Reader.__init__" sReader_Init fReader_Init fdReader_Init
  bReader_Init : Binds K fdReader_Init ["self", "data"] []
  meReader_Init : Meth K cReader "__init__" fReader_Init
  fReader_Integer : Addr
  fdReader_Integer : FuncData
  FReader_Integer : Fun K "integer" "Reader.integer" sReader_Integer fReader_Integer fdReader_Integer
  bReader_Integer : Binds K fdReader_Integer ["self"] []
  meReader_Integer : Meth K cReader "integer" fReader_Integer
  fReader_Number : Addr
  fdReader_Number : FuncData
  FReader_Number : Fun K "number" "Reader.number" sReader_Number fReader_Number fdReader_Number
  bReader_Number : Binds K fdReader_Number ["self", "least", "most"] []
  meReader_Number : Meth K cReader "number" fReader_Number
  fReader_Choice : Addr
  fdReader_Choice : FuncData
  FReader_Choice : Fun K "choice" "Reader.choice" sReader_Choice fReader_Choice fdReader_Choice
  bReader_Choice : Binds K fdReader_Choice ["self", "words"] []
  meReader_Choice : Meth K cReader "choice" fReader_Choice
  fReader_Part : Addr
  fdReader_Part : FuncData
  FReader_Part : Fun K "part" "Reader.part" sReader_Part fReader_Part fdReader_Part
  bReader_Part : Binds K fdReader_Part ["self", "most"] []
  meReader_Part : Meth K cReader "part" fReader_Part
  mkReader : Mk K cReader fReader_Init
  naReader_source : NoAttr K cReader "source"
  naReader_at : NoAttr K cReader "at"
  naReader_room : NoAttr K cReader "room"
  cTableError : Addr
  gKTableError : mg "TableError" = some (.ref cTableError)
  cInvalidBytes : Addr
  gKInvalidBytes : mg "InvalidBytes" = some (.ref cInvalidBytes)
  oKInvalidBytes : OexC K cInvalidBytes
  xKInvalidBytes : XfC K cInvalidBytes
  eKInvalidBytes : ExK K cInvalidBytes
  fInvalidBytes_Init : Addr
  fdInvalidBytes_Init : FuncData
  FInvalidBytes_Init : Fun K "__init__" "InvalidBytes.__init__" sInvalidBytes_Init fInvalidBytes_Init fdInvalidBytes_Init
  bInvalidBytes_Init : Binds K fdInvalidBytes_Init ["self", "at"] []
  iKInvalidBytes : PySem.W.findIn K (.ref cInvalidBytes) "__init__" = some (some (.ref fInvalidBytes_Init))
  tKInvalidBytes : PySem.W.typeIn K (.ref fInvalidBytes_Init) = some (.type "function")
  nKInvalidBytes_at : PySem.W.findIn K (.ref cInvalidBytes) "at" = some none
  mKInvalidBytes_TableError : PySem.W.exmOne K (.ref cInvalidBytes) (.ref cTableError) = some true
  mKInvalidBytes_InvalidBytes : PySem.W.exmOne K (.ref cInvalidBytes) (.ref cInvalidBytes) = some true
  kKInvalidBytes_InvalidBytes : PySem.W.kitOne K (.ref cInvalidBytes) (.ref cInvalidBytes) = some true
section
variable {P : Program} {w : World} {K : PySem.W.Frag} {mg : Str → Option Value} {base : Heap}
/-! ### heaps -/
theorem _root_.L2.Same.tup {K : PySem.W.Frag} {H H' : Hp} {a : Addr} {xs : List V} (e : Same H H') (h : SqT K H a xs) : SqT K H' a xs := by
  rcases h with (h | ⟨o, h⟩) | h
  · exact .inl (.inl (e _ _ h))
  · exact .inl (.inr ⟨o, e _ _ h⟩)
  · exact .inr h
theorem same_new {H : Hp} {p : Addr} {o : HO} (h : H p = none) : Same H (upd H p o) := fun b x e => by
  rw [upd_ne (ne_of_none e h)]
  exact e
theorem same_mut {H H' : Hp} {p : Addr} {o : HO} (e : Same H H') (h : H p = none) : Same H (upd H' p o) := fun b x ha => by
  rw [upd_ne (ne_of_none ha h)]
  exact e b x ha
theorem walk_zipT {K : PySem.W.Frag} {a b : Addr} {xs ys : List V} {n : Nat} (hn : n = min xs.length ys.length) : Walk (ItzT K a b) n (fun H => SqT K H a xs ∧ SqT K H b ys) (YPair (fun i => xs[i]?) (fun i => ys[i]?)) := by
  subst hn
  refine ⟨fun i _ hi q => ?_, fun _ q => ⟨xs, ys, q.1, q.2, by omega⟩, fun i H v H' _ q y => ?_⟩
  · have h1 : i < xs.length := by omega
    have h2 : i < ys.length := by omega
    exact ⟨xs, ys, xs[i], ys[i], q.1, q.2, by simp [h1], by simp [h2]⟩
  · obtain ⟨T, x, z, h1, h2, h3, h4, h5⟩ := y
    exact ⟨T, x, z, h1, h2, h3, h4 xs q.1, h5 ys q.2⟩
/-- a function that hands back a bool or an int and changes nothing -/
theorem getD_at {ns : List Int} {i : Nat} (h : i < ns.length) : (ns.map V.int)[i]? = some (.int (ns.getD i 0)) := by
  rw [List.getElem?_map, List.getElem?_eq_getElem h, List.getD_eq_getElem?_getD, List.getElem?_eq_getElem h]
  rfl
theorem dp_ints {K : PySem.W.Frag} {H : Hp} : ∀ ns : List Int, DpAll K H (ns.map V.int) (ns.map PyData.int)
  | [] => .nil
  | n :: r => .cons (.int n) (dp_ints r)
theorem shaped_tup (ns : List Int) : SeqAt.shaped (.tuple (ns.map PyData.int)) = true := by
  simp [SeqAt.shaped, PyData.canLay0, PyData.depth, PySem.W.ke_canLayAll0, PySem.W.ke_depthAll]
theorem shaped_lst (ns : List Int) : SeqAt.shaped (.list (ns.map PyData.int)) = true := PySem.W.ke_shaped_ints ns
theorem eqv_same {d : PyData} (h : SeqAt.shaped d = true) : PyData.eqv d d = true := by
  refine SeqAt.eqv_refl d ?_
  unfold SeqAt.shaped at h
  exact (Bool.and_eq_true _ _ ▸ h).1
theorem yesT {σ : L2.St} {H : Hp} {A B : Hp → Prop} (h : A H) : tYes σ H (fun b H3 => if b = true then A H3 else B H3) := iteT (A := A H) (B := B H) h
open L2H
/-! ### errors: made, raised, caught -/
theorem takesN {X : Cx} : L2N.Takes X (fun _ _ _ _ => False) := fun _ _ z => by
  obtain ⟨_, _, _, _, _, _, _, _, _, _, _, _, _, _, _, _, no⟩ := z
  exact no.elim
theorem hot_of {X : Cx} {a : Addr} {oe : Obj} {cls : Value} {d : Option Addr} {pn : List (Addr × Obj)} (hz : L2N.Zn cls d oe) (hf : ∃ vs, oe.data = .fields vs) : HotC (X.suite a ((a, oe) :: pn)) := by
  obtain ⟨vs, hv⟩ := hf
  exact ⟨(a, oe), ⟨rfl, vs, hv, hz.2.2 vs hv⟩, List.mem_cons_self ..⟩
theorem okN {x qual : Str} {st : Stmt} {f : Addr} {fd : FuncData} {N ps : List Str} {k : Nat} {sp : Sp} (F : Fun K x qual st f fd) (S : FnScope N ps (defScope st)) (len : ∀ vs H Q E, sp vs H Q E → vs.length = ps.length)
    (go : ∀ (cdv : Value) (A : Around) (outer : List Env) (s : Shared) (H : Hp) (vs : List V) (Q : VK) (E : XK), Room k (A.deeper (envOfC qual (defScope st) s.heap.objs.size f cdv)) → sp vs H Q E →
      ∃ t, PSs (cxOf (L2N.CX P w) P w K mg base N qual (defScope st) f cdv A outer s H E) (defBody st) t ∧ t { nx := fun _ G => Q .non G, rt := Q } (start N vs) H) : FnOk P w K mg base (L2N.CX P w) (k + 1) f fd ps sp := by
  obtain ⟨oc, od, kV, doc, pm, an, cdv, ct, osl, rfl, look, code⟩ := F.ex
  exact fn_of look code S len fun A outer s H vs Q E room h => go cdv A outer s H vs Q E room h
theorem okHot {x qual : Str} {st : Stmt} {f : Addr} {fd : FuncData} {N ps : List Str} {k : Nat} {sp : Sp} (F : Fun K x qual st f fd) (S : FnScope N ps (defScope st)) (len : ∀ vs H Q E, sp vs H Q E → vs.length = ps.length)
    (go : ∀ (cdv : Value) (A : Around) (outer : List Env) (s : Shared) (H : Hp) (vs : List V) (Q : VK) (E : XK) (p : Addr × Obj), Hot1 A p → RoomH k (A.deeper (envOfC qual (defScope st) s.heap.objs.size f cdv)) → sp vs H Q E →
      ∃ t, PSs (cxH CX0 P w K mg base N qual (defScope st) f cdv A outer s H E p) (defBody st) t ∧ t { nx := fun _ G => Q .non G, rt := Q } (start N vs) H) : FnH P w K mg base CX0 (k + 1) f fd ps sp := by
  obtain ⟨oc, od, kV, doc, pm, an, cdv, ct, osl, rfl, look, code⟩ := F.ex
  exact fn_ofH look code S len fun A outer s H vs Q E p hot room h => go cdv A outer s H vs Q E p hot room h
/-- isinstance(e, D) of the error that the suite holds -/
def rIsX (K : PySem.W.Frag) (a C : Addr) (cls : Value) (d : Option Addr) : List V → Hp → VK → Prop := fun xs H Q => ∃ (D dd : Addr) (fs : List (Str × V)) (b : Bool), xs = [.ref a, .ref D] ∧ cls = .ref C ∧ d = some dd ∧ H dd = some (.xd fs) ∧ PySem.W.kitOne K (.ref C) (.ref D) = some b ∧ Q (.bl b) H
theorem cr_isX {X : Cx} {a C : Addr} {cls : Value} {d : Option Addr} {oe : Obj} {pn : List (Addr × Obj)} (Z : ExK X.K C) (hz : Zc cls d oe) (hf : ∃ vs, oe.data = .fields vs) : CallR (X.suite a ((a, oe) :: pn)) (.builtin "isinstance") (rIsX X.K a C cls d) := by
  intro pins s σ H xs us Q I r h
  obtain ⟨D, dd, fs, b, rfl, rfl, rfl, hd, e, q⟩ := h
  cases r with
  | cons r1 rr =>
    cases rr with
    | cons r2 rr =>
      cases rr
      cases r1
      cases r2
      have there := (I.pin (a, oe) (List.mem_append_left _ (List.mem_cons_self ..))).1
      obtain ⟨vs, hv⟩ := hf
      have ox : ObjOk X.prog X.w H s.heap dd (.xd fs) := I.hok dd _ hd
      obtain ⟨m, hn, _⟩ := ox
      obtain ⟨od, ho, _⟩ := lookIn_ns hn
      have J : PySem.W.InstAt s.heap a oe C (some od) := ⟨there, hz.1, by unfold PySem.W.notCls; rw [hv] <;> rfl, by rw [hz.2]; exact ho⟩
      exact PySem.W.kia_one (PySem.W.kitx_exc Z.cl Z.x.ga Z.x.gg Z.x.exC Z.cc Z.cn Z.ct Z.cm) I.kIn J e (fun z => nomatch z) fun tk => ⟨.bl b, H, I.tok tk, rfl, q⟩
/-- C(e, ..), made where nothing is handled -/
theorem mkN {X : Cx} {CX : CXT} {nm : Str} {C g : Addr} {j : Nat} {fd : FuncData} {pz : List Str} {sp : Sp} {e0 : Expr} {er : List Expr} {tg : TA} {p1 p2 : Pos} (O : OexC X.K C) (hI : PySem.W.findIn X.K (.ref C) "__init__" = some (some (.ref g)))
    (hT : PySem.W.typeIn X.K (.ref g) = some (.type "function")) (G : FnOk X.prog X.w X.K X.mg X.base CX j g fd pz sp) (rm : Room (j + 1) X.A) (bn : Binds X.K fd pz []) (no : Passes CX X (fun _ _ _ => False)) (gl : Gl X nm) (at_ : X.mg nm = some (.ref C)) (as : PA X (e0 :: er) tg)
    (nd : (nm == ("__debug__" : Str)) = false := by decide) (st : starEach (e0 :: er) X.env = (false, eval e0 X.env) :: starEach er X.env := by rfl) (pl : (backTo p2 (starEach er X.env)).any (·.1) = false := by rfl) :
    L2N.PMk X (.Call (.Name nm p1) (e0 :: er) [] p2) (tMkO C sp [] tg) := by
  intro pins s σ H Q I h
  obtain ⟨n1, n2, n3, n4, bm, n5, n6, n7, n8, n9, m0, m1, m2, m3, m5, hC, hbm⟩ := O.cls
  refine wpAny_Call_Name_kw (ld_glob I gl at_ ?_ nd)
  refine PySem.W.callWith_K (h₀ := X.base) I.ok.mod.kin O.kC (thn (as.run p2 pins s σ H _ I h) fun us s1 ⟨vs, H1, J1, r1, hz, q1⟩ => ⟨J1.kIn, ?_⟩) st pl
  show wpAny _ _ (call (.ref C) us) _ _ _
  obtain ⟨hp, gs, dr, tok, os⟩ := s1
  have up1 : hp.objs.size ≤ hp.objs.size + 1 := Nat.le_succ _
  have hq := q1 (hp.objs.size + 1) (J1.hok.fresh up1)
  have old : ∀ b o, hp.get? b = some o → ((hp.push (PySem.W.kdv_tup us)).push (PySem.HandSPX.excO C hp.objs.size)).get? b = some o := fun b o z => Heap.get?_push_of_some _ (Heap.get?_push_of_some _ z)
  have new : ((hp.push (PySem.W.kdv_tup us)).push (PySem.HandSPX.excO C hp.objs.size)).get? (hp.objs.size + 1) = some (PySem.HandSPX.excO C hp.objs.size) := by heap_get
  have J2 : Inv X pins σ (upd H1 (hp.objs.size + 1) (exo (hp.objs.size + 1) C none)) ⟨(hp.push (PySem.W.kdv_tup us)).push (PySem.HandSPX.excO C hp.objs.size), gs, dr, tok, os⟩ := J1.laid (t' := tok) old up1 (exo_ok new)
  rw [List.append_nil] at hq
  have r2 : Vals (V.ref (hp.objs.size + 1) :: vs) (Value.ref (hp.objs.size + 1) :: us) := .cons rfl r1
  have nl : (Value.ref (hp.objs.size + 1) :: us).length = pz.length := r2.length.symm.trans (G.len _ _ _ _ hq)
  have bd := bn ⟨(hp.push (PySem.W.kdv_tup us)).push (PySem.HandSPX.excO C hp.objs.size), gs, dr, tok, os⟩ (Value.ref (hp.objs.size + 1) :: us) J2.kIn (by rw [List.append_nil]; exact nl)
  rw [List.append_nil] at bd
  have sz : us.length ≤ sizeLine := by
    rw [← r1.length, sizeLine_eq]
    omega
  refine wpAny_call (PySem.HandSPX.call_own F.excBase_ValueError (fun z => PySem.HandSPX.refsVE_contains z bm hbm) (J1.kIn _ _ hC) (PySem.W.looks_findIn J1.kIn hI) (fun z => PySem.W.bind_fn J1.kIn z hT) sz (codeAny_mono (G.run _ X.stack _ _ ⟨Value.ref (hp.objs.size + 1) :: us, []⟩ _ _ _ (fun _ _ _ => False) (rm.make C us []) (J2.env0.make C us []) bd r2 hq) fun r s2 w => ?_))
  cases r with
  | error er => exact no pins σ _ _ er s2 J2 w
  | ok fl =>
    cases fl with
    | ret u =>
      obtain ⟨v, H2, os2, bare2, un2, hok2, rv, ev, d, fs, ea, ed, hd1, q2⟩ := w
      subst ev
      obtain ⟨h2, gs2, dr2, tok2, os3⟩ := s2
      obtain ⟨t0, G2, J, _, ge, hoe, na⟩ := mk_end0 (d2 := dr2) (t2 := tok2) J1 up1 old un2 hok2 os2 bare2 ea ed hd1
      have kG : ∀ b o, G2.get? b = some o → h2.get? b = some o := by assumption
      exact ⟨rv, hp.objs.size + 1, _, _, ⟨G2, gs2, dr2, tok2, os3⟩, _, .ref C, some d, rfl, J, kG, ge, hoe, ⟨rfl, rfl, fun vs hv => by cases hv; rfl⟩, rfl, rfl, na, rfl, bare2, raises_own O.exC O.tyC, q2⟩
    | next => exact w.elim
    | brk => exact w.elim
    | cont => exact w.elim
/-- the promise of an __init__ that keeps its one argument -/
def spIni (K : PySem.W.Frag) (C : Addr) (f : Str) : Sp := fun vs H Q _ => ∃ (a : Addr) (y : V), vs = [.ref a, y] ∧ H a = some (exo a C none) ∧ ∀ d, H d = none → d ≠ a → Q .non (upd (upd H d (exd d [(f, y)])) a (exo a C (some d)))
theorem mk_heap {H : Hp} {a d : Addr} {o1 o2 o3 o4 : HO} (ha : H a = none) (hd : d ≠ a) : upd (del (upd (upd (upd H a o1) d o2) a o3) a) d o4 = upd H d o4 := by
  funext b
  by_cases h1 : b = d
  · rw [h1, upd_same, upd_same]
  · rw [upd_ne h1, upd_ne h1]
    by_cases h2 : b = a
    · rw [h2, del_same, ha]
    · rw [del_ne h2, upd_ne h2, upd_ne h1, upd_ne h2]
/-- what raising such an error asks -/
theorem ini_of {K : PySem.W.Frag} {C : Addr} {f : Str} {y : V} {H : Hp} {Q : XK} (q : ∀ d, H d = none → Q (.ref C) (some d) (upd H d (.xd [(f, y)]))) : ∀ a, H a = none → spIni K C f (.ref a :: ([y] ++ [])) (upd H a (exo a C none))
    (fun v H2 => v = .non ∧ ∃ (d : Addr) (fs : List (Str × V)), H2 a = some (exo a C (some d)) ∧ H2 d = some (exd d fs) ∧ H d = none ∧ Q (.ref C) (some d) (upd (del H2 a) d (.xd fs))) (fun _ _ _ => False) := fun a ha =>
  ⟨a, y, rfl, upd_same, fun d hd hne => by
    have hd0 : H d = none := by
      rw [upd_ne hne] at hd
      exact hd
    refine ⟨rfl, d, [(f, y)], upd_same, by rw [upd_ne hne, upd_same], hd0, ?_⟩
    rw [mk_heap ha hne]
    exact q d hd0⟩
/-! ### methods that may raise -/
def tMethE (C : Addr) (m : Str) (sp : Sp) (E : L2.St → XK) (ta : TE) (t : TA) : TE := fun σ H Q => ta σ H fun x H1 => ∃ a dx fs, x = .ref a ∧ H1 a = some (.ins C dx fs) ∧ fs.lookup m = none ∧ t σ H1 fun vs H2 => sp (x :: vs) H2 Q (E σ)
theorem pe_methE {X : Cx} {CX : CXT} {k : Nat} {C f : Addr} {fd : FuncData} {ps : List Str} {m : Str} {sp : Sp} {E : L2.St → XK} {o e : Expr} {es : List Expr} {ta : TE} {t : TA} {apos pos : Pos} {pl : Sem Bool} (he : PE X o ta) (c : Cls X.K C) (hm : Meth X.K C m f)
    (F : FnOk X.prog X.w X.K X.mg X.base CX k f fd ps sp) (hr : Room k X.A) (hb : Binds X.K fd ps []) (hx : ∀ σ, PassesAt CX X σ (E σ)) (ha : PA X (e :: es) t)
    (hst : starEach (e :: es) X.env = (false, eval e X.env) :: starEach es X.env := by rfl) (hpl : (backTo pos (starEach es X.env)).any (·.1) = false := by rfl)
    (ht : eval (.Call (.Attribute o m apos) (e :: es) [] pos) X.env = (do
      let ov ← eval o X.env
      standAt apos.atName
      let (f, first) ← holding [ov] (getMethod ov m pl)
      callWith pos f first (backTo pos (starEach (e :: es) X.env)) (backToKw pos (keywordEach [] X.env))) := by rfl) :
    PE X (.Call (.Attribute o m apos) (e :: es) [] pos) (tMethE C m sp E ta t) := by
  refine ⟨fun pins s σ H Q I h => ?_⟩
  refine PySem.W.methodCall_KW (pl := pl) (thn (he.run pins s σ H _ I h) fun u s1 ⟨x, H1, I1, rx, a, dx, fs, ex, ea, l, q⟩ => ?_) ht
  subst ex
  obtain rfl : u = Value.ref a := rx
  refine getmeth_ok I1 ea c hm l ?_
  refine PySem.W.callWith_K (first := [.ref a]) (h₀ := X.base) I.ok.mod.kin hm.kp (thn (ha.run pos pins s1 σ H1 _ I1 q) fun us s2 ⟨vs, H2, I2, r, q2⟩ => ⟨I2.kIn, ?_⟩) hst hpl
  exact run_fnS (us := .ref a :: us) (vs := .ref a :: vs) F hr hb (hx σ) I2 (.cons rfl r) q2
theorem pe_methE0 {X : Cx} {CX : CXT} {k : Nat} {C f : Addr} {fd : FuncData} {ps : List Str} {m : Str} {sp : Sp} {E : L2.St → XK} {o : Expr} {ta : TE} {apos pos : Pos} {pl : Sem Bool} (he : PE X o ta) (c : Cls X.K C) (hm : Meth X.K C m f)
    (F : FnOk X.prog X.w X.K X.mg X.base CX k f fd ps sp) (hr : Room k X.A) (hb : Binds X.K fd ps []) (hx : ∀ σ, PassesAt CX X σ (E σ))
    (ht : eval (.Call (.Attribute o m apos) [] [] pos) X.env = (do
      let ov ← eval o X.env
      standAt apos.atName
      let (f, first) ← holding [ov] (getMethod ov m pl)
      callWith pos f first (backTo pos (starEach [] X.env)) (backToKw pos (keywordEach [] X.env))) := by rfl) :
    PE X (.Call (.Attribute o m apos) [] [] pos) (tMethE C m sp E ta tNil) := by
  refine ⟨fun pins s σ H Q I h => ?_⟩
  refine PySem.W.methodCall_KW (pl := pl) (thn (he.run pins s σ H _ I h) fun u s1 ⟨x, H1, I1, rx, a, dx, fs, ex, ea, l, q⟩ => ?_) ht
  subst ex
  obtain rfl : u = Value.ref a := rx
  refine getmeth_ok I1 ea c hm l ?_
  exact PySem.W.callWith_K0 (first := [.ref a]) I1.kIn hm.kp (run_fnS (us := [.ref a]) (vs := [.ref a]) F hr hb (hx σ) I1 (.cons rfl .nil) q)
theorem pe_fldK {X : Cx} {K : PySem.W.Frag} {e : Expr} {f : Str} {pos : Pos} {ta : TE} (h : X.K = K) (he : PE X e ta) (hb : attributeBase e f X.env (eval e X.env) = eval e X.env) : PE X (.Attribute e f pos) (tFld K ta f) := by
  subst h
  exact pe_fld he hb
theorem ps_fldK {X : Cx} {K : PySem.W.Frag} {o value : Expr} {f : Str} {pos pos' : Pos} {ta tv : TE} (h : X.K = K) (ha : PE X o ta) (hv : PE X value tv) (hs : swapsWith value (some (.Attribute o f pos')) pos.line X.env = pure false) : PS X (.Assign [.Attribute o f pos'] value pos) (sFld K ta tv f) := by
  subst h
  exact ps_fld ha hv hs
/-! ### texts -/
open SX (S S_len S_cat slice_to slice_from num_S int_S)
open PySem.NumText (digitsVal AllDigits)
open TL (numL)
def cap (c : Nat) : Bool := decide (65 ≤ c ∧ c ≤ 90)
def dig (c : Nat) : Bool := decide (48 ≤ c ∧ c ≤ 57)
theorem dig_mem (c : Nat) : decide (c ∈ ("0123456789" : Str).cps.toList) = dig c := by
  have e : ("0123456789" : Str).cps.toList = [48, 49, 50, 51, 52, 53, 54, 55, 56, 57] := by decide +kernel
  rw [e]
  unfold dig
  refine decide_eq_decide.mpr ?_
  simp only [List.mem_cons, List.not_mem_nil, or_false]
  omega
theorem cap_mem (c : Nat) : decide (c ∈ ("ABCDEFGHIJKLMNOPQRSTUVWXYZ" : Str).cps.toList) = cap c := by
  have e : ("ABCDEFGHIJKLMNOPQRSTUVWXYZ" : Str).cps.toList = [65, 66, 67, 68, 69, 70, 71, 72, 73, 74, 75, 76, 77, 78, 79, 80, 81, 82, 83, 84, 85, 86, 87, 88, 89, 90] := by decide +kernel
  rw [e]
  unfold cap
  refine decide_eq_decide.mpr ?_
  simp only [List.mem_cons, List.not_mem_nil, or_false]
  omega
theorem walk_S {a : List Nat} : Walk (Its (S a)) a.length (fun _ => True) (fun i H v H' => H' = H ∧ ∃ c, a[i]? = some c ∧ v = .str (S [c])) :=
  ⟨fun i _ hi _ => by show i < a.toArray.size; simpa using hi, fun _ _ => by show a.toArray.size ≤ a.length; simp, fun i H v H' _ _ y => by
    obtain ⟨e, c, h1, h2⟩ := y
    exact ⟨e, c, by simpa using h1, h2⟩⟩
theorem tw_len {p : Nat → Bool} : ∀ {a : List Nat} {i c : Nat}, (∀ x ∈ a.take i, p x = true) → a[i]? = some c → p c = false → (a.takeWhile p).length = i
  | [], i, c, _, e, _ => by simp at e
  | x :: r, 0, c, _, e, hc => by
    have e2 := Option.some.inj e
    rw [List.takeWhile_cons, e2, hc]
    rfl
  | x :: r, i + 1, c, h, e, hc => by
    have hx : p x = true := h x (by simp)
    rw [List.takeWhile_cons, hx]
    show ((r.takeWhile p).length + 1) = i + 1
    rw [tw_len (fun y hy => h y (by rw [List.take_succ_cons]; exact List.mem_cons_of_mem _ hy)) (by simpa using e) hc]
theorem tw_all {p : Nat → Bool} {a : List Nat} (h : ∀ x ∈ a, p x = true) : (a.takeWhile p).length = a.length := by
  induction a with
  | nil => rfl
  | cons x r ih =>
    rw [List.takeWhile_cons, h x List.mem_cons_self]
    show (r.takeWhile p).length + 1 = r.length + 1
    rw [ih fun y hy => h y (List.mem_cons_of_mem _ hy)]
theorem tw_self {p : Nat → Bool} : ∀ {a : List Nat}, (∀ x ∈ a, p x = true) → a.takeWhile p = a
  | [], _ => rfl
  | x :: r, h => by rw [List.takeWhile_cons, h x List.mem_cons_self, if_pos rfl, tw_self fun y hy => h y (List.mem_cons_of_mem _ hy)]
theorem tw_le {p : Nat → Bool} (a : List Nat) : (a.takeWhile p).length ≤ a.length := by
  induction a with
  | nil => exact Nat.le_refl _
  | cons x r ih =>
    rw [List.takeWhile_cons]
    split
    · exact Nat.succ_le_succ ih
    · exact Nat.zero_le _
theorem tw_take {p : Nat → Bool} : ∀ (a : List Nat), ∀ x ∈ a.take (a.takeWhile p).length, p x = true
  | [], x, h => by simp at h
  | y :: r, x, h => by
    rw [List.takeWhile_cons] at h
    split at h
    · rename_i hy
      rw [List.length_cons, List.take_succ_cons] at h
      rcases List.mem_cons.mp h with e | e
      · rw [e]
        exact hy
      · exact tw_take r x e
    · simp at h
theorem tw_full {p : Nat → Bool} {a : List Nat} (h : (a.takeWhile p).length = a.length) : ∀ x ∈ a, p x = true := fun x hx => tw_take a x (by rw [h, List.take_length]; exact hx)
theorem tw_congr {p q : Nat → Bool} (h : ∀ c, p c = q c) (a : List Nat) : a.takeWhile p = a.takeWhile q := by
  rw [show p = q from funext h]
theorem in12 (n : Int) : inV (.int n) [.int 1, .int 2] = decide (n = 1 ∨ n = 2) := by
  show ((1 : Int) == n || ((2 : Int) == n || false)) = _
  rw [Bool.eq_iff_iff]
  simp only [Bool.or_false, Bool.or_eq_true, beq_iff_eq, decide_eq_true_eq]
  omega
theorem sz100 {n : Nat} (h : n ≤ 100000) : n ≤ sizeLine := Nat.le_trans h (by decide)
theorem item_by {α : Type} (f : α → V) {xs : List α} {k : Int} (h0 : 0 ≤ k) (h1 : k < xs.length) : ∃ v ∈ xs, atI (xs.map f) k = some (f v) := by
  obtain ⟨j, rfl⟩ := Int.eq_ofNat_of_zero_le h0
  have hj : j < xs.length := by omega
  exact ⟨xs[j], List.getElem_mem hj, atI_nat (by rw [List.getElem?_map, List.getElem?_eq_getElem hj]; rfl)⟩
theorem dig_all {a : List Nat} (h : a.all dig = true) : AllDigits a := fun c hc => of_decide_eq_true (List.all_eq_true.mp h c hc)
theorem int_dig {a : List Nat} (h : a.all dig = true) (hne : a ≠ []) (hl : a.length ≤ 640) : intText? (S a) = some ((digitsVal a : Nat) : Int) := intText_digits (x := S a) (dig_all h) hne (by rw [S_len]; omega)
/-! ### a run of signs -/
def rn (z : Str) (a : List Nat) : Nat := (a.takeWhile fun c => decide (c ∈ z.cps.toList)).length
theorem ext_tup (l : Addr) (items : Array Value) (n : Nat) (b : Addr) (items2 : Array Value) (n2 : Nat) (dd : Option Addr) (sl : Array (Option Value)) (hs0 : ¬(!items.isEmpty && Builtin.List.listTooLong (items.size + items2.size)) = true) (hs1 : items.size ≤ sizeLine) (hs2 : items.size + items2.size ≤ sizeLine + 1) :
    Meets (Builtin.«list.extend» ⟨[.ref l, .ref b], []⟩) (fun _ R s => s.heap.get? l = some { cls := .type "list", dict := none, data := .seq items n, slots := #[] } ∧ s.heap.get? b = some { cls := .type "tuple", dict := dd, data := .seq items2 n2, slots := sl } ∧ R (.ok (.ret Value.none)) { s with heap := s.heap.update l (Obj.mapSeq fun x => x ++ items2), toks := s.toks }) :=
  .of_wp fun prog w A R s h => by
    obtain ⟨hp, g, d, tk, os⟩ := s
    obtain ⟨hl, hb, h⟩ := h
    have f1 := AutoSeq1.idx_int
    have f2 := AutoSeq1.sub_tuple_tuple
    have f3 := AutoSeq1.sub_list_list
    have f4 := AutoSeq1.sub_tuple_list
    have f5 := AutoSeq1.sub_list_tuple
    have hz' : (items ++ items2).size ≤ sizeLine + 1 := by
      rw [Array.size_append]
      exact hs2
    wp_walk using (wpAny_updateSeq hl rfl (hz := hs1) (_hz' := hz')), AutoSeq1.wpAny_loadPart' hl, AutoSeq1.wpAny_loadPart' hb
    exact ⟨_, rfl, h⟩
def rExtT (K : PySem.W.Frag) : V → List V → Hp → VK → Prop := fun x vs H Q => ∃ l b xs zs, x = .ref l ∧ vs = [.ref b] ∧ H l = some (.lst xs) ∧ SqT K H b zs ∧ xs.length + zs.length ≤ sizeLine ∧ Q .non (upd H l (.lst (xs ++ zs)))
theorem mt_extT {X : Cx} : MtM X "list.extend" (rExtT X.K) := by
  intro pins s σ H x vs v us Q I rx rv h
  obtain ⟨l, b, xs, zs, rfl, rfl, hH, hB, hz, q⟩ := h
  cases rx
  obtain ⟨u, rfl, ru⟩ := rv.one
  cases ru
  obtain ⟨z, its, n, r, hl, e⟩ := I.lstM hH
  obtain ⟨its2, r2, ⟨⟨cls, dd, data, sl⟩, e2, hc, n2, hd⟩, hl2⟩ := I.tuple hB
  simp only at hc hd
  subst hc hd
  have ll2 := r2.length
  have hsz : its.toArray.size + its2.toArray.size ≤ sizeLine := by rw [List.size_toArray, List.size_toArray]; omega
  have hlong : ¬ (!its.toArray.isEmpty && Builtin.List.listTooLong (its.toArray.size + its2.toArray.size)) = true := by
    rw [notLongL hsz, Bool.and_false]
    exact Bool.false_ne_true
  refine call_meets PySem.F.slot_list_extend ⟨_, e, rfl⟩ PySem.F.entry_list_extend (PySem.F.args_list_extend_2 _ _)
    (ext_tup l its.toArray n b its2.toArray n2 dd sl hlong (by rw [List.size_toArray]; omega) (by omega)) ⟨e, e2, ?_⟩
  refine ⟨.non, _, I.lset (its' := its ++ its2) hH e (by simp) (r.append r2) ?_, rfl, q⟩
  rw [List.length_append]
  omega
def spCell (K : PySem.W.Frag) : Sp := fun vs H Q _ => ∃ (a : Addr) (ns : List Int) (k : Int), vs = [.ref a, .int k] ∧ 0 ≤ k ∧ SqL K H a (ns.map V.int) ∧ ∀ v : Int, Q (.int v) H
theorem okLawCell (T : Txt K mg) : FnOk P w K mg base CX0 1 T.fLawCell T.fdLawCell ["script", "k"] (spCell K) := by
  refine T.FLawCell.ok scLawCell (fun vs H Q E h => ?_) (fun cdv A outer s H vs Q E hr h => ?_)
  · obtain ⟨a, ns, k, rfl, _⟩ := h
    rfl
  · obtain ⟨a, ns, k, rfl, h0, hS, q⟩ := h
    obtain ⟨k, rfl⟩ := Int.eq_ofNat_of_zero_le h0
    -- slots script=0 k=1
    refine ⟨_, (pss_cons (ps_if (pt_cmpR op_lt (pv 1) (pe_callB call_len_seq (by rfl) T.z_len PySem.boot_len (pa_cons (pv 0) pa_nil)) (nomark _))
          (pss_one (ps_ret (pe_ix ix_list (pv 0) (pv 1) (fun _ _ => rfl))))
          pss_nil)
        (pss_one (ps_ret pe_int))), ?_⟩
    refine ⟨_, rfl, _, rfl, a, _, rfl, .inl hS, _, _, rfl, rfl, _, rfl, ite2 (fun c => ?_) (fun c => ?_)⟩
    · have hk : k < ns.length := by
        have c2 := of_decide_eq_true c
        rw [List.length_map] at c2
        omega
      exact ⟨_, rfl, _, rfl, a, _, _, _, rfl, rfl, hS, atI_nat (getD_at hk), q _⟩
    · exact q 0
theorem ix_tupK {X : Cx} {K : PySem.W.Frag} (h : X.K = K) : IxR X (rIxT K) := by
  subst h
  exact ix_tup
theorem ix_listK {X : Cx} {K : PySem.W.Frag} (h : X.K = K) : IxR X (rIxL K) := by
  subst h
  exact ix_list
theorem call_len_seqK {X : Cx} {K : PySem.W.Frag} (h : X.K = K) : CallR X (.builtin "len") (fun xs H Q => ∃ p ys, xs = [.ref p] ∧ (SqL K H p ys ∨ SqT K H p ys) ∧ Q (.int ys.length) H) := by
  subst h
  exact call_len_seq
structure Dig (ds : List Int) (n : Nat) : Prop where
  all : ∀ x ∈ ds, 0 ≤ x ∧ x < 1000
  len : ds.length ≤ n
theorem Dig.nil : Dig [] 0 := ⟨fun _ h => (nomatch h), Nat.le_refl _⟩
theorem Dig.more {ds : List Int} {n m : Nat} (h : Dig ds n) (hm : n ≤ m) : Dig ds m := ⟨h.all, Nat.le_trans h.len hm⟩
theorem Dig.add {ds : List Int} {n : Nat} (h : Dig ds n) (x : Int) : Dig (ds ++ [x % 1000]) (n + 1) := by
  refine ⟨fun y hy => ?_, ?_⟩
  · rcases List.mem_append.mp hy with q | q
    · exact h.all y q
    · obtain rfl : y = x % 1000 := by simpa using q
      omega
  · rw [List.length_append]
    have := h.len
    simp only [List.length_singleton]
    omega
def spDigits (K : PySem.W.Frag) : Sp := fun vs H Q _ => ∃ (c k : Int) (m : Nat), vs = [.int c, .int k, .int (m : Int)] ∧ m ≤ 1000 ∧ ∀ H' d ds, Same H H' → H d = none → H' d = some (.lst (ds.map V.int)) → Dig ds m → Q (.ref d) H'
theorem okLawDigits (T : Txt K mg) : FnOk P w K mg base CX0 1 T.fLawDigits T.fdLawDigits ["cell", "k", "most"] (spDigits K) := by
  refine T.FLawDigits.ok scLawDigits (fun vs H Q E h => ?_) (fun cdv A outer s H vs Q E hr h => ?_)
  · obtain ⟨c, k, m, rfl, _⟩ := h
    rfl
  · obtain ⟨c, k, m, rfl, hm, q⟩ := h
    -- slots cell=0 k=1 most=2 digits=3 turn=4 seed=5
    refine ⟨_, (pss_cons (ps_set (i := 3) scLawDigits.nd rfl (Or.inl rfl) (pe_lst pa_nil))
        (C8.pss_cut (ps_if (pt_cmpR op_lt (pv 0) pe_int (nomark _))
          (pss_one (ps_set (i := 0) scLawDigits.nd rfl (Or.inl rfl) (pe_op op_sub (pe_un un_neg pe_int) (pv 0))))
          pss_nil)
        (C8.pss_cut (ps_if (pt_cmpR op_ge (pv 0) (pe_op op_pow pe_int pe_int) (nomark _))
          (pss_one (ps_for PassesOwn.never rfl (pi_range1 rfl T.z_range (pa_cons pe_int pa_nil)) (pg_name (i := 4) scLawDigits.nd rfl (Or.inl rfl))
            (pss_one (ps_if (PW.pt (pw_and (pt_cmpR op_gt (pv 0) pe_int (nomark _)) (pw_and1 (pt_cmpR op_lt (pe_callB call_len_seq (by rfl) T.z_len PySem.boot_len (pa_cons (pv 3) pa_nil)) (pv 2) (nomark _)))))
              (pss_cons (ps_expr (pe_bm PySem.F.plainAttrs_list PySem.F.slot_list_append PySem.F.type_list_append mt_append (pv 3) (pa_cons (pe_op op_mod (pe_callTy call_int1 (by rfl) T.z_int (by decide +kernel) (pa_cons (pv 0) pa_nil)) pe_int) pa_nil)))
              (pss_one (ps_set (i := 0) scLawDigits.nd rfl (Or.inl rfl) (pe_op op_fdiv (pv 0) pe_int))))
              pss_nil))))
          (pss_cons (ps_set (i := 5) scLawDigits.nd rfl (Or.inl rfl) (pe_op op_mod (pe_callTy call_int1 (by rfl) T.z_int (by decide +kernel) (pa_cons (pe_op op_add (pe_op op_add (pe_op op_mul (pv 0) pe_int) (pe_op op_mul (pv 1) pe_int)) pe_int) pa_nil)) pe_int))
          (pss_one (ps_for PassesOwn.never rfl (pi_range1 rfl T.z_range (pa_cons (pv 2) pa_nil)) (pg_name (i := 4) scLawDigits.nd rfl (Or.inl rfl))
            (pss_cons (ps_set (i := 5) scLawDigits.nd rfl (Or.inl rfl) (pe_op op_mod (pe_callTy call_int1 (by rfl) T.z_int (by decide +kernel) (pa_cons (pe_op op_add (pe_op op_add (pe_op op_mul (pv 5) pe_int) (pe_op op_mul pe_int (pv 4))) pe_int) pa_nil)) pe_int))
            (pss_one (ps_expr (pe_bm PySem.F.plainAttrs_list PySem.F.slot_list_append PySem.F.type_list_append mt_append (pv 3) (pa_cons (pe_op op_mod (pe_callTy call_int1 (by rfl) T.z_int (by decide +kernel) (pa_cons (pe_op op_fdiv (pv 5) pe_int) pa_nil)) pe_int) pa_nil)))))))))
        (pss_one (ps_ret (pv 3)))))), ?_⟩
    refine ⟨Nat.zero_le _, fun d hd => ?_⟩
    refine ⟨fun σ H' => H' = upd H d (.lst []) ∧ ∃ c : Int, σ = [some (.int c), some (.int k), some (.int (m : Int)), some (.ref d), none, none], ?_, ?_⟩
    · refine ⟨_, rfl, _, _, rfl, rfl, _, rfl, ite2 (fun _ => ?_) (fun _ => ?_)⟩
      · exact ⟨_, rfl, _, rfl, _, _, rfl, rfl, rfl, _, rfl⟩
      · exact ⟨rfl, _, rfl⟩
    rintro σ H1 ⟨rfl, c, rfl⟩
    have h1 : (upd H d (.lst [])) d = some (.lst (([] : List Int).map V.int)) := upd_same
    refine ⟨fun σ H' => ∃ ds c0 c4 c5, σ = [c0, some (.int k), some (.int (m : Int)), some (.ref d), c4, c5] ∧ Same H H' ∧ H' d = some (.lst (ds.map V.int)) ∧ Dig ds m, ?_, ?_⟩
    · refine ⟨_, rfl, _, _, rfl, rfl, ⟨by decide, by decide, by decide⟩, _, _, rfl, rfl, _, rfl, ite2 (fun _ => ?_) (fun _ => ?_)⟩
      · refine ⟨60, rfl, by decide, by decide, for_range (lo := 0) (n := 60) (fun t σ H' => ∃ ds c c1, σ = [some (.int c), some (.int k), some (.int (m : Int)), some (.ref d), c1, none] ∧ Same H H' ∧ H' d = some (.lst (ds.map V.int)) ∧ Dig ds m) ⟨[], _, _, rfl, same_new hd, h1, Dig.nil.more (Nat.zero_le _)⟩ ?_ ?_⟩
        · rintro t σ H2 ht ⟨ds, c, c1, rfl, s2, hd2, D2⟩
          refine ⟨_, rfl, _, _, rfl, rfl, _, rfl, ite2 (fun _ => ?_) (fun _ => iteF ⟨ds, _, _, rfl, s2, hd2, D2⟩)⟩
          refine ⟨_, rfl, d, _, rfl, .inl (SqL.of hd2), _, rfl, _, _, rfl, rfl, _, rfl, ite2 (fun e => ?_) (fun _ => ⟨ds, _, _, rfl, s2, hd2, D2⟩)⟩
          have e2 := of_decide_eq_true e
          rw [List.length_map] at e2
          refine ⟨_, rfl, .inl ⟨rfl, _, SqL.of hd2⟩, _, rfl, .inl ⟨_, rfl, _, _, rfl, rfl, (by show (0 : Int) < _; decide), d, _, _, rfl, rfl, hd2, ?_, _, rfl, _, _, rfl, rfl, ⟨by decide, by decide⟩, ?_⟩⟩
          · rw [List.length_map]
            exact small1000 (by have := D2.len; omega)
          · refine ⟨ds ++ [c % 1000], _, _, rfl, same_mut s2 hd, by rw [upd_same, List.map_append]; rfl, ?_⟩
            have D3 : Dig ds (m - 1) := ⟨D2.all, by omega⟩
            exact (D3.add c).more (by omega)
        · rintro σ H2 ⟨ds, c, c1, rfl, s2, hd2, D2⟩
          exact ⟨ds, _, _, _, rfl, s2, hd2, D2⟩
      · refine ⟨_, rfl, _, _, rfl, rfl, .inr ⟨by decide, by decide⟩, _, rfl, _, _, rfl, rfl, .inr ⟨by decide, by decide⟩, _, _, rfl, rfl, _, _, rfl, rfl, .inl ⟨_, rfl, _, _, rfl, rfl, (by show (0 : Int) < _; decide), ?_⟩⟩
        refine ⟨_, rfl, _, rfl, by omega, by omega, for_range (lo := 0) (n := m) (fun t σ H' => ∃ ds c c1 sd, σ = [some (.int c), some (.int k), some (.int (m : Int)), some (.ref d), c1, some (.int sd)] ∧ Same H H' ∧ H' d = some (.lst (ds.map V.int)) ∧ Dig ds t) ⟨[], _, _, _, rfl, same_new hd, h1, Dig.nil⟩ ?_ ?_⟩
        · rintro t σ H2 ht ⟨ds, c, c1, sd, rfl, s2, hd2, D2⟩
          refine ⟨_, rfl, _, _, rfl, rfl, .inr ⟨by decide, by decide⟩, _, rfl, _, _, rfl, rfl, .inl ⟨by decide, by decide⟩, _, _, rfl, rfl, _, _, rfl, rfl, .inl ⟨_, rfl, _, _, rfl, rfl, (by show (0 : Int) < _; decide), ?_⟩⟩
          refine ⟨_, rfl, .inl ⟨rfl, _, SqL.of hd2⟩, _, rfl, _, _, rfl, rfl, ⟨by decide, by decide⟩, .inl ⟨_, rfl, _, _, rfl, rfl, (by show (0 : Int) < _; decide), d, _, _, rfl, rfl, hd2, ?_, ?_⟩⟩
          · rw [List.length_map]
            exact small1000 (by have := D2.len; omega)
          · exact ⟨ds ++ [_ % 1000], _, _, _, rfl, same_mut s2 hd, by rw [upd_same, List.map_append]; rfl, D2.add _⟩
        · rintro σ H2 ⟨ds, c, c1, sd, rfl, s2, hd2, D2⟩
          exact ⟨ds, _, _, _, rfl, s2, hd2, D2⟩
    rintro σ H1 ⟨ds, c0, c4, c5, rfl, s1, hd1, D⟩
    exact ⟨_, rfl, q _ d ds s1 hd hd1 D⟩
/-! ### integers as bytes -/
def nb (n : Nat) : List Int := if h : 128 ≤ n then (128 + ((n % 128 : Nat) : Int)) :: nb (n / 128) else [(n : Int)]
termination_by n
decreasing_by omega
theorem nb_small {n : Nat} (h : n < 128) : nb n = [(n : Int)] := by
  rw [nb, dif_neg (by omega)]
theorem nb_big {n : Nat} (h : 128 ≤ n) : nb n = (128 + ((n % 128 : Nat) : Int)) :: nb (n / 128) := by
  rw [nb, dif_pos h]
theorem nb_pos (n : Nat) : 0 < (nb n).length := by
  by_cases h : 128 ≤ n
  · rw [nb_big h]
    exact Nat.succ_pos _
  · rw [nb_small (by omega)]
    exact Nat.succ_pos _
theorem nb_len : ∀ (k n : Nat), n < 128 ^ (k + 1) → (nb n).length ≤ k + 1
  | 0, n, h => by
    rw [nb_small (by simpa using h)]
    exact Nat.le_refl _
  | k + 1, n, h => by
    by_cases h1 : 128 ≤ n
    · rw [nb_big h1, List.length_cons]
      have h2 : n / 128 < 128 ^ (k + 1) := by
        rw [Nat.div_lt_iff_lt_mul (by decide), ← Nat.pow_succ]
        exact h
      have := nb_len k (n / 128) h2
      omega
    · rw [nb_small (by omega)]
      show 1 ≤ k + 1 + 1
      omega
def val : List Int → Int
  | [] => 0
  | b :: r => b % 128 + 128 * val r
theorem val_nb (n : Nat) : val (nb n) = n := by
  induction n using Nat.strongRecOn with
  | _ n ih =>
    by_cases h : 128 ≤ n
    · rw [nb_big h]
      show (128 + ((n % 128 : Nat) : Int)) % 128 + 128 * val (nb (n / 128)) = n
      rw [ih (n / 128) (by omega)]
      omega
    · rw [nb_small (by omega)]
      show (n : Int) % 128 + 128 * 0 = n
      omega
theorem val_app (xs : List Int) (b : Int) : val (xs ++ [b]) = val xs + b % 128 * 128 ^ xs.length := by
  induction xs with
  | nil =>
    show b % 128 + 128 * 0 = 0 + b % 128 * 128 ^ 0
    omega
  | cons x r ih =>
    show x % 128 + 128 * val (r ++ [b]) = x % 128 + 128 * val r + b % 128 * 128 ^ (r.length + 1)
    rw [ih, Int.mul_add, Int.pow_succ, ← Int.mul_assoc (b % 128), Int.mul_comm (b % 128 * 128 ^ r.length) 128]
    omega
theorem nb_item (n : Nat) : ∀ (j : Nat) (b : Int), (nb n)[j]? = some b → (j + 1 < (nb n).length → 128 ≤ b ∧ b ≤ 255) ∧ (j + 1 = (nb n).length → 0 ≤ b ∧ b < 128 ∧ (b = 0 → n = 0)) := by
  induction n using Nat.strongRecOn with
  | _ n ih =>
    intro j b e
    by_cases h : 128 ≤ n
    · rw [nb_big h] at e ⊢
      rcases j with _ | j
      · have e2 := Option.some.inj e
        have := nb_pos (n / 128)
        rw [List.length_cons]
        refine ⟨fun _ => by omega, fun z => by omega⟩
      · rw [List.getElem?_cons_succ] at e
        obtain ⟨h1, h2⟩ := ih (n / 128) (by omega) j b e
        rw [List.length_cons]
        refine ⟨fun z => h1 (by omega), fun z => ?_⟩
        obtain ⟨a1, a2, a3⟩ := h2 (by omega)
        exact ⟨a1, a2, fun z => by have := a3 z; omega⟩
    · rw [nb_small (by omega)] at e ⊢
      rcases j with _ | j
      · have e2 := Option.some.inj e
        refine ⟨fun z => by simp at z, fun _ => by omega⟩
      · simp at e
def spNumberBytes (K : PySem.W.Frag) : Sp := fun vs H Q _ => ∃ (n : Nat), vs = [.int (n : Int)] ∧ (nb n).length ≤ 1000 ∧ ∀ d H', H d = none → Same H H' → H' d = some (.lst ((nb n).map V.int)) → Q (.ref d) H'
theorem okNumberBytes (T : Txt K mg) : FnOk P w K mg base CX0 1 T.fNumberBytes T.fdNumberBytes ["n"] (spNumberBytes K) := by
  refine T.FNumberBytes.ok scNumberBytes (fun vs H Q E h => ?_) (fun cdv A outer s H vs Q E hr h => ?_)
  · obtain ⟨n, rfl, _⟩ := h
    rfl
  · obtain ⟨n0, rfl, hz, q⟩ := h
    -- slots n=0 found=1
    refine ⟨_, (pss_cons (ps_set (i := 1) scNumberBytes.nd rfl (Or.inl rfl) (pe_lst pa_nil))
        (pss_cons (ps_while PassesOwn.never (pt_cmpR op_ge (pv 0) pe_int (nomark _))
          (pss_cons (ps_expr (pe_bm PySem.F.plainAttrs_list PySem.F.slot_list_append PySem.F.type_list_append mt_append (pv 1) (pa_cons (pe_op op_add pe_int (pe_op op_mod (pv 0) pe_int)) pa_nil)))
          (pss_one (ps_set (i := 0) scNumberBytes.nd rfl (Or.inl rfl) (pe_op op_fdiv (pv 0) pe_int)))))
        (pss_cons (ps_expr (pe_bm PySem.F.plainAttrs_list PySem.F.slot_list_append PySem.F.type_list_append mt_append (pv 1) (pa_cons (pv 0) pa_nil)))
        (pss_one (ps_ret (pv 1)))))), ?_⟩
    refine ⟨Nat.zero_le _, fun d hd => ?_⟩
    refine while_by (fun σ H' => ∃ (n : Nat) (acc : List Int), σ = [some (.int (n : Int)), some (.ref d)] ∧ Same H H' ∧ H' d = some (.lst (acc.map V.int)) ∧ acc ++ nb n = nb n0) (fun σ _ => match σ with | [some (.int n), _] => n.toNat | _ => 0) ⟨n0, [], rfl, same_new hd, upd_same, rfl⟩ ?_ (fun σ H Q Q' m h => by
      obtain ⟨v, hv, i, j, e1, e2, b, e3, q⟩ := h
      exact ⟨v, hv, i, j, e1, e2, b, e3, m _ _ q⟩)
    rintro σ H1 ⟨n, acc, rfl, s1, hd1, e⟩
    have el : acc.length + (nb n).length = (nb n0).length := by rw [← e, List.length_append]
    refine ⟨_, rfl, _, _, rfl, rfl, _, rfl, ite2 (fun c => ?_) (fun c => ?_)⟩
    · have hn : 128 ≤ n := by
        have c2 := of_decide_eq_true c
        omega
      refine ⟨_, rfl, .inl ⟨rfl, _, SqL.of hd1⟩, _, rfl, _, _, rfl, rfl, (by show (0 : Int) < _; decide), _, _, rfl, rfl, d, _, _, rfl, rfl, hd1, ?_, _, rfl, _, _, rfl, rfl, ⟨by decide, by decide⟩, ?_⟩
      · rw [List.length_map]
        exact small1000 (by omega)
      · refine ⟨⟨n / 128, acc ++ [128 + ((n % 128 : Nat) : Int)], ?_, same_mut s1 hd, ?_, ?_⟩, ?_⟩
        · show [some (V.int ((n : Int) / 128)), some (V.ref d)] = _
          rfl
        · rw [upd_same, List.map_append]
          rfl
        · rw [← e, nb_big hn, List.append_assoc]
          rfl
        · show ((n : Int) / 128).toNat < ((n : Int)).toNat
          omega
    · have hn : n < 128 := by
        rcases Nat.lt_or_ge n 128 with z | z
        · exact z
        · exact absurd (decide_eq_true (show (128 : Int) ≤ (n : Int) by omega)) c
      rw [nb_small hn] at e
      refine ⟨_, rfl, .inl ⟨rfl, _, SqL.of hd1⟩, _, rfl, d, _, _, rfl, rfl, hd1, ?_, ?_⟩
      · rw [List.length_map]
        exact small1000 (by omega)
      · refine ⟨_, rfl, q d _ hd (same_mut s1 hd) ?_⟩
        rw [upd_same, ← e, List.map_append]
        rfl
/-! ### numbers and records in bytes -/
def hdB : List Int → Option (List Int)
  | [] => none
  | b :: r => if b < 128 then some [b] else (hdB r).map (b :: ·)
theorem hdB_none : ∀ (l : List Int), (∀ b ∈ l, 128 ≤ b) → hdB l = none
  | [], _ => rfl
  | b :: r, h => by
    have h1 := h b (List.mem_cons_self ..)
    unfold hdB
    rw [if_neg (by omega), hdB_none r fun x hx => h x (List.mem_cons_of_mem _ hx)]
    rfl
theorem hdB_at : ∀ (k : Nat) (l : List Int) (b : Int), (∀ j x, j < k → l[j]? = some x → 128 ≤ x) → l[k]? = some b → b < 128 → hdB l = some (l.take (k + 1))
  | _, [], _, _, e, _ => by simp at e
  | 0, c :: r, b, _, e, h => by
    have : c = b := by simpa using e
    unfold hdB
    rw [if_pos (by omega)]
    rfl
  | k + 1, c :: r, b, h0, e, h => by
    have h1 := h0 0 c (Nat.succ_pos _) rfl
    unfold hdB
    rw [if_neg (by omega), hdB_at k r b (fun j x hj hx => h0 (j + 1) x (by omega) (by simpa using hx)) (by simpa using e) h]
    rfl
/-- the integer at a place: its value and the place behind it -/
def rdI (bs : List Int) (pos : Nat) : Option (Int × Nat) :=
  match hdB (bs.drop pos) with
  | none => none
  | some w => if 1 < w.length ∧ w.getLast? = some 0 then none else some (val w, pos + w.length)
theorem val_nn : ∀ l : List Int, 0 ≤ val l
  | [] => Int.le_refl _
  | b :: r => by
    have := val_nn r
    have h : val (b :: r) = b % 128 + 128 * val r := rfl
    omega
theorem rdI_nn {bs : List Int} {pos e : Nat} {z : Int} (h : rdI bs pos = some (z, e)) : 0 ≤ z := by
  unfold rdI at h
  split at h
  · cases h
  · split at h
    · cases h
    · have := Option.some.inj h
      have h2 : val _ = z := congrArg Prod.fst this
      rw [← h2]
      exact val_nn _
theorem getLast_nb (n : Nat) (h : 1 < (nb n).length) : (nb n).getLast? ≠ some 0 := by
  intro e
  rw [List.getLast?_eq_getElem?] at e
  have := (nb_item n ((nb n).length - 1) 0 e).2 (by omega)
  have h0 := this.2.2 rfl
  rw [h0, nb_small (by decide)] at h
  simp at h
theorem hdB_nb (n : Nat) (r : List Int) : hdB (nb n ++ r) = some (nb n) := by
  have hp := nb_pos n
  obtain ⟨b, hb⟩ : ∃ b, (nb n)[(nb n).length - 1]? = some b := ⟨_, List.getElem?_eq_getElem (by omega)⟩
  have h1 : ∀ j x, j < (nb n).length - 1 → (nb n ++ r)[j]? = some x → 128 ≤ x := fun j x hj hx => by
    rw [List.getElem?_append_left (by omega)] at hx
    exact ((nb_item n j x hx).1 (by omega)).1
  have h2 : (nb n ++ r)[(nb n).length - 1]? = some b := by
    rw [List.getElem?_append_left (by omega)]
    exact hb
  rw [hdB_at ((nb n).length - 1) _ b h1 h2 ((nb_item n _ b hb).2 (by omega)).2.1, Nat.sub_add_cancel hp, List.take_left]
theorem rdI_nb {bs : List Int} {pos : Nat} (n : Nat) {r : List Int} (h : bs.drop pos = nb n ++ r) : rdI bs pos = some ((n : Int), pos + (nb n).length) := by
  unfold rdI
  rw [h, hdB_nb]
  show (if 1 < (nb n).length ∧ (nb n).getLast? = some 0 then none else some (val (nb n), pos + (nb n).length)) = _
  rw [if_neg (fun z => getLast_nb n z.1 z.2), val_nb]
theorem rdI_part {bs : List Int} {pos : Nat} (n k : Nat) (hk : k < (nb n).length) (h : bs.drop pos = (nb n).take k) : rdI bs pos = none := by
  unfold rdI
  rw [h, hdB_none _ fun b hb => ?_]
  obtain ⟨j, hj⟩ := List.mem_iff_getElem?.mp hb
  have hjk : j < k := by
    have := (List.getElem?_eq_some_iff.mp hj).1
    rw [List.length_take] at this
    omega
  rw [List.getElem?_take_of_lt hjk] at hj
  exact ((nb_item n j b hj).1 (by omega)).1
theorem rdI_end {bs : List Int} {pos : Nat} (h : bs.length ≤ pos) : rdI bs pos = none := by
  unfold rdI
  rw [List.drop_eq_nil_of_le h]
  rfl
/-- the sum of bytes -/
def sumB (l : List Int) : Int := l.foldl (fun t b => (31 * t + b + 1) % 65521) 1
theorem sumB_snoc (l : List Int) (b : Int) : sumB (l ++ [b]) = (31 * sumB l + b + 1) % 65521 := by
  unfold sumB
  rw [List.foldl_append]
  rfl
theorem sumB_nn (l : List Int) : 0 ≤ sumB l ∧ sumB l < 65521 := by
  rcases List.eq_nil_or_concat l with h | ⟨r, b, h⟩
  · rw [h]
    exact ⟨by decide, by decide⟩
  · rw [h, List.concat_eq_append, sumB_snoc]
    omega
def recB (w : List Int) : List Int := nb w.length ++ w ++ nb (sumB w).toNat
/-- the record at a place -/
def rrB (bs : List Int) (pos : Nat) : Option (List Int × Nat) :=
  match rdI bs pos with
  | none => none
  | some (many, p) =>
    match rdI bs (p + many.toNat) with
    | none => none
    | some (told, e) => if told = sumB ((bs.drop p).take many.toNat) then some ((bs.drop p).take many.toNat, e) else none
theorem drop_app {bs a b : List Int} {pos : Nat} (h : bs.drop pos = a ++ b) : bs.drop (pos + a.length) = b := by
  rw [← List.drop_drop, h, List.drop_left]
theorem rrB_any {bs : List Int} {pos : Nat} {w r : List Int} {s : Nat} (h : bs.drop pos = nb w.length ++ (w ++ (nb s ++ r))) : rrB bs pos = if (s : Int) = sumB w then some (w, pos + (nb w.length ++ (w ++ nb s)).length) else none := by
  have h1 := rdI_nb w.length h
  have d1 := drop_app h
  have d2 := drop_app d1
  have h2 := rdI_nb s d2
  have tk : (bs.drop (pos + (nb w.length).length)).take w.length = w := by rw [d1, List.take_left]
  unfold rrB
  rw [h1]
  show (match rdI bs (pos + (nb w.length).length + ((w.length : Nat) : Int).toNat) with
    | none => none
    | some (told, e) => if told = sumB ((bs.drop (pos + (nb w.length).length)).take ((w.length : Nat) : Int).toNat) then some ((bs.drop (pos + (nb w.length).length)).take ((w.length : Nat) : Int).toNat, e) else none) = _
  rw [Int.toNat_natCast, h2, tk]
  show (if (s : Int) = sumB w then some (w, pos + (nb w.length).length + w.length + (nb s).length) else none) = _
  have el : pos + (nb w.length).length + w.length + (nb s).length = pos + (nb w.length ++ (w ++ nb s)).length := by
    rw [List.length_append, List.length_append]
    omega
  rw [el]
theorem recB_eq (w r : List Int) : recB w ++ r = nb w.length ++ (w ++ (nb (sumB w).toNat ++ r)) := by
  unfold recB
  rw [List.append_assoc, List.append_assoc]
theorem rrB_rec {bs : List Int} {pos : Nat} {w r : List Int} (h : bs.drop pos = recB w ++ r) : rrB bs pos = some (w, pos + (recB w).length) := by
  rw [recB_eq] at h
  have hs := sumB_nn w
  rw [rrB_any h, if_pos (Int.toNat_of_nonneg hs.1)]
  unfold recB
  rw [List.append_assoc]
theorem rrB_changed {bs : List Int} {pos : Nat} {w r : List Int} {s : Int} (hs0 : 0 ≤ s) (h : bs.drop pos = nb w.length ++ (w ++ (nb s.toNat ++ r))) (n : sumB w ≠ s) : rrB bs pos = none := by
  rw [rrB_any h, if_neg]
  rw [Int.toNat_of_nonneg hs0]
  exact fun z => n z.symm
theorem rrB_end {bs : List Int} {pos : Nat} (h : bs.length ≤ pos) : rrB bs pos = none := by
  unfold rrB
  rw [rdI_end h]
theorem rrB_cut {bs : List Int} {w r : List Int} {cut : Nat} (hc : cut < (recB w).length) (h : bs = (recB w ++ r).take cut) : rrB bs 0 = none := by
  have h0 : bs = (recB w).take cut := by rw [h, List.take_append_of_le_length (Nat.le_of_lt hc)]
  have hl : (recB w).length = (nb w.length).length + w.length + (nb (sumB w).toNat).length := by
    unfold recB
    rw [List.length_append, List.length_append]
  rcases Nat.lt_or_ge cut (nb w.length).length with c | c
  · have h1 : bs.drop 0 = (nb w.length).take cut := by
      rw [h0, List.drop_zero]
      unfold recB
      rw [List.append_assoc, List.take_append_of_le_length (Nat.le_of_lt c)]
    unfold rrB
    rw [rdI_part _ _ c h1]
  have h1 : bs.drop 0 = nb w.length ++ (w ++ nb (sumB w).toNat).take (cut - (nb w.length).length) := by
    rw [h0, List.drop_zero]
    unfold recB
    rw [List.append_assoc, List.take_append, List.take_of_length_le c]
  have e1 := rdI_nb _ h1
  have e2 : rdI bs (0 + (nb w.length).length + w.length) = none := by
    have d1 := drop_app h1
    have lp := nb_pos (sumB w).toNat
    have d2 : bs.drop (0 + (nb w.length).length + w.length) = (nb (sumB w).toNat).take (cut - (nb w.length).length - w.length) := by
      rw [← List.drop_drop, d1, List.drop_take, List.drop_left]
    exact rdI_part _ _ (by omega) d2
  unfold rrB
  rw [e1]
  show (match rdI bs (0 + (nb w.length).length + ((w.length : Nat) : Int).toNat) with
    | none => none
    | some (told, e) => _) = none
  rw [Int.toNat_natCast, e2]
theorem recB_pos (w : List Int) : 0 < (recB w).length := by
  unfold recB
  rw [List.length_append, List.length_append]
  have := nb_pos w.length
  omega
/-! ### the reader -/
def insR (C dx src : Addr) (pos room : Int) : HO := .ins C dx [("source", .ref src), ("at", .int pos), ("room", .int room)]
def rm (H : Hp) (F : Addr) : Hp := fun a => if a = F then none else H a
theorem rm_at {H : Hp} {F a : Addr} (h : a ≠ F) : rm H F a = H a := if_neg h
theorem rm_F {H : Hp} {F : Addr} : rm H F F = none := if_pos rfl
theorem rm_le {H : Hp} {F : Addr} : Same (rm H F) H := fun a x e => by
  by_cases z : a = F
  · rw [z, rm_F] at e
    cases e
  · rwa [rm_at z] at e
def KR (R : Addr) (H H' : Hp) : Prop := Same (rm H R) H'
theorem KR.of {R : Addr} {H H' : Hp} (s : Same H H') : KR R H H' := rm_le.trans s
theorem KR.trans {R : Addr} {H H1 H2 : Hp} (a : KR R H H1) (b : KR R H1 H2) : KR R H H2 := fun x o e => by
  have n : x ≠ R := fun z => by
    rw [z, rm_F] at e
    cases e
  exact b x o (by rw [rm_at n]; exact a x o e)
theorem KR.at_ {R a : Addr} {H H' : Hp} {o : HO} (k : KR R H H') (n : a ≠ R) (h : H a = some o) : H' a = some o := k a o (by rw [rm_at n]; exact h)
theorem KR.put {R : Addr} {H H' : Hp} {o : HO} (k : KR R H H') : KR R H (upd H' R o) := same_mut k rm_F
theorem rm_none {H : Hp} {R N : Addr} (h : H N = none) : rm H R N = none := by
  by_cases z : N = R
  · rw [z]
    exact rm_F
  · rw [rm_at z]
    exact h
theorem cut_mid {bs : List Int} {pos len : Nat} (h : pos + len ≤ bs.length) : cutV (bs.map V.int) (some (pos : Int)) (some ((pos + len : Nat) : Int)) = ((bs.drop pos).take len).map V.int := by
  unfold cutV
  rw [HT.sIx_nat, HT.sIx_nat, List.length_map, Nat.min_eq_left h, Nat.min_eq_left (by omega), show pos + len - pos = len by omega, List.map_take, List.map_drop]
def spRInit (C : Addr) : Sp := fun vs H Q _ => ∃ (R dx src : Addr), vs = [.ref R, .ref src] ∧ H R = some (.ins C dx []) ∧ ∀ H', KR R H H' → H' R = some (insR C dx src 0 0) → Q .non H'
theorem okReader_Init (T : Txt K mg) : FnOk P w K mg base CX0 1 T.fReader_Init T.fdReader_Init ["self", "data"] (spRInit T.cReader) := by
  refine T.FReader_Init.ok scReader_Init (fun vs H Q E h => ?_) (fun cdv A outer s H vs Q E hr h => ?_)
  · obtain ⟨R, dx, src, rfl, _⟩ := h
    rfl
  · obtain ⟨R, dx, src, rfl, hR, q⟩ := h
    -- slots self=0 data=1
    refine ⟨_, (pss_cons (ps_fld (pv 0) (pv 1) rfl)
        (pss_cons (ps_fld (pv 0) pe_int rfl)
        (pss_one (ps_fld (pv 0) pe_int rfl)))), ?_⟩
    refine ⟨_, rfl, _, rfl, R, T.cReader, dx, _, rfl, hR, T.clReader, T.naReader_source, (by show 0 < 1000; decide), ?_⟩
    refine ⟨_, rfl, R, T.cReader, dx, _, rfl, upd_same, T.clReader, T.naReader_at, (by show 1 < 1000; decide), _, rfl, R, T.cReader, dx, _, rfl, upd_same, T.clReader, T.naReader_room, (by show 2 < 1000; decide), ?_⟩
    exact q _ (((KR.of (Same.refl _)).put.put.put)) (by rw [upd_same]; rfl)
theorem okInvalidBytes_Init (T : Txt K mg) : FnOk P w K mg base CX0 1 T.fInvalidBytes_Init T.fdInvalidBytes_Init ["self", "at"] (spIni K T.cInvalidBytes "at") := by
  refine T.FInvalidBytes_Init.ok scInvalidBytes_Init (fun vs H Q E h => ?_) (fun cdv A outer s H vs Q E hr h => ?_)
  · obtain ⟨a, y, rfl, _⟩ := h
    rfl
  · obtain ⟨a, y, rfl, ha, q⟩ := h
    -- slots self=0 at=1
    refine ⟨_, (pss_one (ps_ost (pv 0) (pv 1))), ?_⟩
    exact ⟨_, rfl, _, rfl, a, T.cInvalidBytes, rfl, T.oKInvalidBytes, T.nKInvalidBytes_at, .inl ⟨ha, q⟩⟩
/-! ### the next integer -/
def spIntE (C CE : Addr) : Sp := fun vs H Q E => ∃ (R s dx : Addr) (bs : List Int) (pos : Nat) (room : Int), vs = [.ref R] ∧ H R = some (insR C dx s pos room) ∧ H s = some (.lst (bs.map V.int)) ∧ bs.length ≤ 2000000 ∧
  (rdI bs pos = none → ∀ d, H d = none → E (.ref CE) (some d) (upd H d (.xd [("at", .int pos)]))) ∧
  ∀ z e, rdI bs pos = some (z, e) → ∀ H', KR R H H' → H' R = some (insR C dx s e room) → Q (.int z) H'
theorem okReader_Integer (T : Txt K mg) : FnOk P w K mg base (L2N.CX P w) 3 T.fReader_Integer T.fdReader_Integer ["self"] (spIntE T.cReader T.cInvalidBytes) := by
  refine okN T.FReader_Integer scReader_Integer (fun vs H Q E h => ?_) (fun cdv A outer s H vs Q E hr h => ?_)
  · obtain ⟨R, s, dx, bs, pos, room, rfl, _⟩ := h
    rfl
  · obtain ⟨R, src, dx, bs, pos, room, rfl, hR, hS, hl, qe, q⟩ := h
    -- slots self=0 end=1 n=2 byte=3
    refine ⟨_, (pss_cons (ps_set (i := 1) scReader_Integer.nd rfl (Or.inl rfl) (pe_fld (pv 0) rfl))
        (C8.pss_cut (ps_while (passes_of rfl) (PW.pt (pw_and (pt_cmpR op_lt (pv 1) (pe_callB call_len_seq (by rfl) T.z_len PySem.boot_len (pa_cons (pe_fld (pv 0) rfl) pa_nil)) (nomark _)) (pw_and1 (pt_cmpR op_ge (pe_ix ix_list (pe_fld (pv 0) rfl) (pv 1) (fun _ _ => rfl)) pe_int (nomark _)))))
          (pss_one (ps_set (i := 1) scReader_Integer.nd rfl (Or.inl rfl) (pe_op op_add (pv 1) pe_int))))
        (C8.pss_cut (ps_if (PW.pt (pw_or (pt_cmpR op_ge (pv 1) (pe_callB call_len_seq (by rfl) T.z_len PySem.boot_len (pa_cons (pe_fld (pv 0) rfl) pa_nil)) (nomark _)) (pw_or1 (PW.pt (pw_and (pt_cmpR op_gt (pv 1) (pe_fld (pv 0) rfl) (nomark _)) (pw_and1 (pt_cmpR op_eq (pe_ix ix_list (pe_fld (pv 0) rfl) (pv 1) (fun _ _ => rfl)) pe_int (nomark _))))))))
          (pss_one (L2N.ps_raise rfl (L2N.takes_of rfl rfl rfl rfl) (mkN T.oKInvalidBytes T.iKInvalidBytes T.tKInvalidBytes (okInvalidBytes_Init T) (hr.mono (by decide)) T.bInvalidBytes_Init pass0 (by rfl) T.gKInvalidBytes (pa_cons (pe_fld (pv 0) rfl) pa_nil))))
          pss_nil)
        (pss_cons (ps_set (i := 2) scReader_Integer.nd rfl (Or.inl rfl) pe_int)
        (C8.pss_cut (ps_for (passes_of rfl) rfl (RT.pi_revA (by rfl) T.z_reversed (pe_slice sl_list (pe_fld (pv 0) rfl) (po_some (pe_fld (pv 0) rfl)) (po_some (pe_op op_add (pv 1) pe_int)))) (pg_name (i := 3) scReader_Integer.nd rfl (Or.inl rfl))
          (pss_one (ps_set (i := 2) scReader_Integer.nd rfl (Or.inl rfl) (pe_op op_add (pe_op op_mul (pv 2) pe_int) (pe_op op_mod (pv 3) pe_int)))))
        (pss_cons (ps_fld (pv 0) (pe_op op_add (pv 1) pe_int) rfl)
        (pss_one (ps_ret (pv 2))))))))), ?_⟩
    have hz : bs.length ≤ sizeLine := Nat.le_trans hl (by decide)
    have dl : (bs.drop pos).length = bs.length - pos := List.length_drop
    have dg : ∀ j, (bs.drop pos)[j]? = bs[pos + j]? := fun j => List.getElem?_drop
    have atB : ∀ (k : Nat) (b : Int), bs[pos + k]? = some b → atI (bs.map V.int) ((pos + k : Nat) : Int) = some (.int b) := fun k b hb => atI_nat (by rw [List.getElem?_map, hb]; rfl)
    refine ⟨_, rfl, R, T.cReader, dx, _, _, rfl, hR, T.clReader, T.naReader_at, rfl, ?_⟩
    refine ⟨fun σ H' => H' = H ∧ ∃ k, σ = [some (.ref R), some (.int ((pos + k : Nat) : Int)), none, none] ∧ (∀ j x, j < k → (bs.drop pos)[j]? = some x → 128 ≤ x) ∧ (bs.length ≤ pos + k ∨ ∃ b, bs[pos + k]? = some b ∧ b < 128), ?_, ?_⟩
    · refine while_by (fun σ H' => H' = H ∧ ∃ k, σ = [some (.ref R), some (.int ((pos + k : Nat) : Int)), none, none] ∧ ∀ j x, j < k → (bs.drop pos)[j]? = some x → 128 ≤ x) (fun σ _ => match σ with | [_, some (.int n), _, _] => bs.length - n.toNat | _ => 0) ⟨rfl, 0, rfl, fun j x hj => absurd hj (Nat.not_lt_zero _)⟩ ?_ (fun σ H Q Q' m h => ?_)
      · rintro σ H1 ⟨rfl, k, rfl, hk⟩
        refine ⟨_, rfl, _, rfl, R, T.cReader, dx, _, _, rfl, hR, T.clReader, T.naReader_source, rfl, src, bs.map V.int, rfl, .inl (SqL.of hS), _, _, rfl, rfl, _, rfl, ite2 (fun c => ?_) (fun c => ?_)⟩
        · have c := of_decide_eq_true c
          rw [List.length_map] at c
          have hk2 : pos + k < bs.length := by omega
          obtain ⟨b, hb⟩ : ∃ b, bs[pos + k]? = some b := ⟨_, List.getElem?_eq_getElem hk2⟩
          refine ⟨_, rfl, R, T.cReader, dx, _, _, rfl, hR, T.clReader, T.naReader_source, rfl, _, rfl, src, _, _, _, rfl, rfl, SqL.of hS, atB k b hb, _, _, rfl, rfl, _, rfl, ite2 (fun c => ?_) (fun c => ?_)⟩
          · have c := of_decide_eq_true c
            refine ⟨_, rfl, _, _, rfl, rfl, ⟨rfl, k + 1, rfl, fun j x hj hx => ?_⟩, ?_⟩
            · rcases Nat.lt_or_ge j k with z | z
              · exact hk j x z hx
              · obtain rfl : j = k := by omega
                rw [dg, hb] at hx
                have := Option.some.inj hx
                omega
            · show bs.length - (((pos + k : Nat) : Int) + 1).toNat < bs.length - (((pos + k : Nat) : Int)).toNat
              omega
          · refine ⟨rfl, k, rfl, hk, .inr ⟨b, hb, ?_⟩⟩
            have : ¬ (128 : Int) ≤ b := fun z => c (decide_eq_true z)
            omega
        · refine ⟨rfl, k, rfl, hk, .inl ?_⟩
          rcases Nat.lt_or_ge (pos + k) bs.length with z | z
          · exact absurd (decide_eq_true (by rw [List.length_map]; omega)) c
          · exact z
      · obtain ⟨v, hv, v2, hv2, a, C, d, fs, v3, e1, e2, e3, e4, e5, p, ys, e6, e7, i, j, e8, e9, k, e10, q⟩ := h
        refine ⟨v, hv, v2, hv2, a, C, d, fs, v3, e1, e2, e3, e4, e5, p, ys, e6, e7, i, j, e8, e9, k, e10, ?_⟩
        cases k with
        | false => exact m _ _ q
        | true =>
          obtain ⟨v, hv, a, C, d, fs, v3, e1, e2, e3, e4, e5, v2, hv2, p, ys, i, z, e6, e7, e8, e9, i2, j2, e11, e12, k, e10, q⟩ := q
          exact ⟨v, hv, a, C, d, fs, v3, e1, e2, e3, e4, e5, v2, hv2, p, ys, i, z, e6, e7, e8, e9, i2, j2, e11, e12, k, e10, m _ _ q⟩
    rintro σ H1 ⟨rfl, k, rfl, hk, hend⟩
    refine ⟨fun σ H' => H' = H1 ∧ σ = [some (.ref R), some (.int ((pos + k : Nat) : Int)), none, none] ∧ rdI bs pos = some (val ((bs.drop pos).take (k + 1)), pos + (k + 1)) ∧ pos + (k + 1) ≤ bs.length, ?_, ?_⟩
    · have rs : rdI bs pos = none → ∀ a, H1 a = none → spIni K T.cInvalidBytes "at" (.ref a :: ([V.int (pos : Int)] ++ [])) (upd H1 a (exo a T.cInvalidBytes none)) _ _ := fun e => ini_of (qe e)
      refine ⟨_, rfl, _, rfl, R, T.cReader, dx, _, _, rfl, hR, T.clReader, T.naReader_source, rfl, src, bs.map V.int, rfl, .inl (SqL.of hS), _, _, rfl, rfl, _, rfl, ite2 (fun c => ?_) (fun c => ?_)⟩
      · have c := of_decide_eq_true c
        rw [List.length_map] at c
        have en : rdI bs pos = none := by
          unfold rdI
          rw [hdB_none _ fun b hb => ?_]
          obtain ⟨j, hj⟩ := List.mem_iff_getElem?.mp hb
          have := (List.getElem?_eq_some_iff.mp hj).1
          exact hk j b (by omega) hj
        exact ⟨_, rfl, R, T.cReader, dx, _, _, rfl, hR, T.clReader, T.naReader_at, rfl, (by show 1 ≤ 1000; decide), rs en⟩
      · have hk2 : ¬ bs.length ≤ pos + k := fun z => c (decide_eq_true (by rw [List.length_map]; omega))
        obtain ⟨b, hb, hb2⟩ := hend.resolve_left hk2
        have ew := hdB_at k (bs.drop pos) b hk (by rw [dg]; exact hb) hb2
        have wl : ((bs.drop pos).take (k + 1)).length = k + 1 := by rw [List.length_take]; omega
        have lst : ((bs.drop pos).take (k + 1)).getLast? = some b := by
          rw [List.getLast?_eq_getElem?, wl, Nat.add_sub_cancel, List.getElem?_take_of_lt (Nat.lt_succ_self k), dg]
          exact hb
        have er : rdI bs pos = if 0 < k ∧ b = 0 then none else some (val ((bs.drop pos).take (k + 1)), pos + (k + 1)) := by
          unfold rdI
          rw [ew]
          show (if 1 < ((bs.drop pos).take (k + 1)).length ∧ ((bs.drop pos).take (k + 1)).getLast? = some 0 then none else some (val ((bs.drop pos).take (k + 1)), pos + ((bs.drop pos).take (k + 1)).length)) = _
          rw [wl, lst]
          by_cases z : 0 < k ∧ b = 0
          · rw [if_pos z, if_pos ⟨by omega, by rw [z.2]⟩]
          · rw [if_neg z, if_neg fun y => z ⟨by omega, Option.some.inj y.2⟩]
        refine ⟨_, rfl, _, rfl, R, T.cReader, dx, _, _, rfl, hR, T.clReader, T.naReader_at, rfl, _, _, rfl, rfl, _, rfl, ite2 (fun c1 => ?_) (fun c1 => ?_)⟩
        · have c1 := of_decide_eq_true c1
          refine ⟨_, rfl, R, T.cReader, dx, _, _, rfl, hR, T.clReader, T.naReader_source, rfl, _, rfl, src, _, _, _, rfl, rfl, SqL.of hS, atB k b hb, rfl, _, rfl, ite2 (fun c2 => ?_) (fun c2 => ?_)⟩
          · have c2 := V.int.inj (of_decide_eq_true c2)
            rw [if_pos ⟨by omega, c2⟩] at er
            exact ⟨_, rfl, R, T.cReader, dx, _, _, rfl, hR, T.clReader, T.naReader_at, rfl, (by show 1 ≤ 1000; decide), rs er⟩
          · rw [if_neg fun z => c2 (decide_eq_true (by rw [z.2]))] at er
            exact ⟨rfl, rfl, er, by omega⟩
        · rw [if_neg fun z => c1 (decide_eq_true (by omega))] at er
          exact ⟨rfl, rfl, er, by omega⟩
    rintro σ H1 ⟨rfl, rfl, er, hle⟩
    have wl : ((bs.drop pos).take (k + 1)).length = k + 1 := by rw [List.length_take]; omega
    have ek : ((pos + k : Nat) : Int) + 1 = ((pos + (k + 1) : Nat) : Int) := by omega
    generalize hw : (bs.drop pos).take (k + 1) = ws at er wl
    refine ⟨fun σ H' => Same H1 H' ∧ ∃ c5 : Option V, σ = [some (.ref R), some (.int ((pos + k : Nat) : Int)), some (.int (val ws)), c5], ?_, ?_⟩
    · refine ⟨_, rfl, R, T.cReader, dx, _, _, rfl, hR, T.clReader, T.naReader_source, rfl, _, rfl, R, T.cReader, dx, _, _, rfl, hR, T.clReader, T.naReader_at, rfl, (pos : Int), rfl, _, rfl, _, _, rfl, rfl, ((pos + k : Nat) : Int) + 1, rfl, src, bs.map V.int, rfl, SqL.of hS, fun p hp => ?_⟩
      rw [ek, cut_mid hle, hw]
      refine ⟨p, ws.map V.int, rfl, .inl ⟨SqL.of upd_same, for_it walk_rev (fun i σ H' => H' = upd H1 p (.lst (ws.map V.int)) ∧ ∃ c5 : Option V, σ = [some (.ref R), some (.int ((pos + k : Nat) : Int)), some (.int (val (ws.drop (ws.length - i)))), c5]) ⟨rfl, _, by rw [Nat.sub_zero, List.drop_length]; rfl⟩ (fun i σ H' _ ⟨e, _⟩ => by rw [e]; exact SqL.of upd_same) ?_ ?_⟩⟩
      · rintro i x σ H2 H3 hi2 ⟨rfl, c5, rfl⟩ ⟨rfl, hx⟩
        rw [List.length_map] at hi2 hx
        rw [List.getElem?_map] at hx
        obtain ⟨y, hy, rfl⟩ : ∃ y, ws[ws.length - 1 - i]? = some y ∧ V.int y = x := by
          cases e : ws[ws.length - 1 - i]? with
          | none =>
            rw [e] at hx
            cases hx
          | some y =>
            rw [e] at hx
            exact ⟨y, rfl, Option.some.inj hx⟩
        refine ⟨_, rfl, _, _, rfl, rfl, .inr ⟨by decide, by decide⟩, _, rfl, _, _, rfl, rfl, (by show (0 : Int) < _; decide), _, _, rfl, rfl, rfl, some (.int y), ?_⟩
        have ed : ws.drop (ws.length - (i + 1)) = y :: ws.drop (ws.length - i) := by
          have e1 : ws.length - (i + 1) = ws.length - 1 - i := by omega
          have e2 : ws.length - i = ws.length - 1 - i + 1 := by omega
          rw [e1, e2]
          obtain ⟨hlt, hy2⟩ := List.getElem?_eq_some_iff.mp hy
          rw [List.drop_eq_getElem_cons hlt, hy2]
        have ev : val (ws.drop (ws.length - (i + 1))) = val (ws.drop (ws.length - i)) * 128 + y % 128 := by
          rw [ed]
          show y % 128 + 128 * val _ = _
          omega
        rw [ev]
        rfl
      · rintro σ H2 ⟨rfl, c5, rfl⟩
        refine ⟨same_new hp, c5, ?_⟩
        rw [List.length_map, Nat.sub_self, List.drop_zero]
    rintro σ H2 ⟨s2, c5, rfl⟩
    have hR2 := s2 _ _ hR
    refine ⟨_, rfl, _, _, rfl, rfl, _, rfl, R, T.cReader, dx, _, rfl, hR2, T.clReader, T.naReader_at, (by show 3 < 1000; decide), _, rfl, ?_⟩
    refine q _ _ er _ ((KR.of s2).put) ?_
    rw [upd_same, ← ek]
    rfl
def NR (H : Hp) (ns : List Int) (Q : VK) : Prop := ∀ (p : Addr) (H' : Hp), Same H H' → H' p = some (.lst (ns.map V.int)) → Q (.ref p) H'
def spNumL (K : PySem.W.Frag) : Sp := fun vs H Q _ => ∃ (z : Nat), vs = [.int z] ∧ z < 10 ^ 30 ∧ NR H (nb z) Q
theorem pow_step {m i : Nat} (hi : i < 20) (h : m < 128 ^ (21 - i)) : m / 128 < 128 ^ (21 - (i + 1)) := by
  rw [Nat.div_lt_iff_lt_mul (by decide), ← Nat.pow_succ]
  have : (21 - (i + 1)).succ = 21 - i := by omega
  rw [this]
  exact h
theorem pow_stay {m i : Nat} (hi : i < 20) (h : m < 128) : m < 128 ^ (21 - (i + 1)) := by
  have h1 : 128 ^ 1 ≤ 128 ^ (21 - (i + 1)) := Nat.pow_le_pow_right (by decide) (by omega)
  omega
theorem okLawNumber (T : Txt K mg) : FnOk P w K mg base CX0 1 T.fLawNumber T.fdLawNumber ["n"] (spNumL K) := by
  refine T.FLawNumber.ok scLawNumber (fun vs H Q E h => ?_) (fun cdv A outer s H vs Q E hr h => ?_)
  · obtain ⟨z, rfl, _⟩ := h
    rfl
  · obtain ⟨z, rfl, hz, q⟩ := h
    -- slots n=0 data=1 turn=2
    refine ⟨_, (pss_cons (ps_set (i := 1) scLawNumber.nd rfl (Or.inl rfl) (pe_lst pa_nil))
        (pss_cons (ps_for PassesOwn.never rfl (pi_range1 rfl T.z_range (pa_cons pe_int pa_nil)) (pg_name (i := 2) scLawNumber.nd rfl (Or.inl rfl))
          (pss_one (ps_if (pt_cmpR op_ge (pv 0) pe_int (nomark _))
            (pss_cons (ps_expr (pe_bm PySem.F.plainAttrs_list PySem.F.slot_list_append PySem.F.type_list_append mt_append (pv 1) (pa_cons (pe_op op_add (pe_op op_mod (pe_callTy call_int1 (by rfl) T.z_int (by decide +kernel) (pa_cons (pv 0) pa_nil)) pe_int) pe_int) pa_nil)))
            (pss_one (ps_set (i := 0) scLawNumber.nd rfl (Or.inl rfl) (pe_op op_fdiv (pv 0) pe_int))))
            pss_nil)))
        (pss_cons (ps_expr (pe_bm PySem.F.plainAttrs_list PySem.F.slot_list_append PySem.F.type_list_append mt_append (pv 1) (pa_cons (pv 0) pa_nil)))
        (pss_one (ps_ret (pv 1)))))), ?_⟩
    refine ⟨Nat.zero_le _, fun N hN => ?_⟩
    have s0 := same_new (o := .lst []) hN
    refine ⟨20, rfl, by decide, by decide, for_range (lo := 0) (n := 20) (fun i σ H' => ∃ (m : Nat) (acc : List Int) (c2 : Option V), σ = [some (.int m), some (.ref N), c2] ∧ Same H H' ∧ H' N = some (.lst (acc.map V.int)) ∧ nb z = acc ++ nb m ∧ acc.length ≤ i ∧ m < 128 ^ (21 - i)) ⟨z, [], _, rfl, s0, upd_same, rfl, Nat.le_refl _, Nat.lt_of_lt_of_le hz (by decide)⟩ ?_ ?_⟩
    · rintro i σ H1 hi ⟨m, acc, c2, rfl, s1, hN1, en, al, hm⟩
      refine ⟨_, rfl, _, _, rfl, rfl, _, rfl, ite2 (fun c => ?_) (fun c => ?_)⟩
      · have c := of_decide_eq_true c
        have c1 : 128 ≤ m := by omega
        refine ⟨_, rfl, .inl ⟨rfl, _, SqL.of hN1⟩, _, rfl, .inl ⟨_, rfl, _, _, rfl, rfl, (by show (0 : Int) < _; decide), _, _, rfl, rfl, N, _, _, rfl, rfl, hN1, small1000 (by rw [List.length_map]; omega), _, rfl, _, _, rfl, rfl, ⟨by decide, by decide⟩, m / 128, acc ++ [128 + ((m % 128 : Nat) : Int)], some (.int (0 + (i : Int))), ?_, same_mut s1 hN, ?_, ?_, ?_, pow_step hi hm⟩⟩
        · rfl
        · rw [upd_same, List.map_append]
          have : (m : Int) % 128 + 128 = 128 + ((m % 128 : Nat) : Int) := by omega
          show some (HO.lst (acc.map V.int ++ [V.int ((m : Int) % 128 + 128)])) = _
          rw [this]
          rfl
        · rw [en, nb_big c1, List.append_assoc]
          rfl
        · rw [List.length_append]
          exact Nat.add_le_add_right al 1
      · have c1 : ¬ ((128 : Int) ≤ (m : Int)) := fun y => c (decide_eq_true y)
        exact ⟨m, acc, _, rfl, s1, hN1, en, by omega, pow_stay hi (by omega)⟩
    · rintro σ H1 ⟨m, acc, c2, rfl, s1, hN1, en, al, hm⟩
      refine ⟨_, rfl, .inl ⟨rfl, _, SqL.of hN1⟩, _, rfl, N, _, _, rfl, rfl, hN1, small1000 (by rw [List.length_map]; omega), _, rfl, q N _ (same_mut s1 hN) ?_⟩
      rw [upd_same, en, nb_small hm, List.map_append]
      rfl
/-! ### sums and records -/
theorem sl_listK {X : Cx} {K : PySem.W.Frag} (h : X.K = K) : SlR X (rSlL K) := by
  subst h
  exact sl_list
theorem sz6 {n : Nat} (h : n ≤ 10000000) : n ≤ sizeLine := Nat.le_trans h (by decide)
theorem ints_at {l : List Int} {j : Nat} {x : V} (h : (l.map V.int)[j]? = some x) : ∃ y, l[j]? = some y ∧ V.int y = x := by
  rw [List.getElem?_map] at h
  cases e : l[j]? with
  | none =>
    rw [e] at h
    cases h
  | some y =>
    rw [e] at h
    exact ⟨y, rfl, Option.some.inj h⟩
theorem sum_take {l : List Int} {j : Nat} {y : Int} (h : l[j]? = some y) : sumB (l.take (j + 1)) = (31 * sumB (l.take j) + y + 1) % 65521 := by
  rw [List.take_add_one, h]
  exact sumB_snoc _ _
def spSum (K : PySem.W.Frag) : Sp := fun vs H Q _ => ∃ (a : Addr) (l : List Int), vs = [.ref a] ∧ SqL K H a (l.map V.int) ∧ Q (.int (sumB l)) H
theorem okSumOf (T : Txt K mg) : FnOk P w K mg base CX0 1 T.fSumOf T.fdSumOf ["data"] (spSum K) := by
  refine T.FSumOf.ok scSumOf (fun vs H Q E h => ?_) (fun cdv A outer s H vs Q E hr h => ?_)
  · obtain ⟨a, l, rfl, _⟩ := h
    rfl
  · obtain ⟨a, l, rfl, ha, q⟩ := h
    -- slots data=0 total=1 byte=2
    refine ⟨_, (pss_cons (ps_set (i := 1) scSumOf.nd rfl (Or.inl rfl) pe_int)
        (pss_cons (ps_for PassesOwn.never rfl (pi_list (pv 0)) (pg_name (i := 2) scSumOf.nd rfl (Or.inl rfl))
          (pss_one (ps_set (i := 1) scSumOf.nd rfl (Or.inl rfl) (pe_op op_mod (pe_op op_add (pe_op op_add (pe_op op_mul pe_int (pv 1)) (pv 2)) pe_int) (pe_glob (v := (.int 65521)) rfl T.g_MODULUS ⟨_, rfl⟩)))))
        (pss_one (ps_ret (pv 1))))), ?_⟩
    refine ⟨_, rfl, a, rfl, ⟨_, ha⟩, for_it (walk_list (a := a) (xs := l.map V.int)) (fun j σ H' => H' = H ∧ ∃ c2, σ = [some (.ref a), some (.int (sumB (l.take j))), c2]) ⟨rfl, _, rfl⟩ (fun i σ H' _ ⟨e, _⟩ => by rw [e]; exact ha) ?_ ?_⟩
    · rintro j x σ H1 H2 hj ⟨rfl, c2, rfl⟩ ⟨rfl, hx⟩
      obtain ⟨y, hy, rfl⟩ := ints_at hx
      refine ⟨_, rfl, _, _, rfl, rfl, .inl ⟨by decide, by decide⟩, _, rfl, _, _, rfl, rfl, _, _, rfl, rfl, _, _, rfl, rfl, (by show (0 : Int) < _; decide), rfl, some (.int y), ?_⟩
      rw [sum_take hy]
      rfl
    · rintro σ H1 ⟨rfl, c2, rfl⟩
      rw [List.take_of_length_le (by rw [List.length_map]; exact Nat.le_refl _)]
      exact ⟨_, rfl, q⟩
def spRec (K : PySem.W.Frag) : Sp := fun vs H Q _ => ∃ (a : Addr) (l : List Int), vs = [.ref a] ∧ SqL K H a (l.map V.int) ∧ l.length ≤ 1000 ∧ NR H (recB l) Q
theorem nb_le {n : Nat} (h : n < 10 ^ 9) : (nb n).length ≤ 10 := nb_len 9 n (Nat.lt_of_lt_of_le h (by decide))
theorem okRecordOf (T : Txt K mg) : FnOk P w K mg base CX0 2 T.fRecordOf T.fdRecordOf ["body"] (spRec K) := by
  refine T.FRecordOf.ok scRecordOf (fun vs H Q E h => ?_) (fun cdv A outer s H vs Q E hr h => ?_)
  · obtain ⟨a, l, rfl, _⟩ := h
    rfl
  · obtain ⟨a, l, rfl, ha, hl, q⟩ := h
    -- slots body=0
    refine ⟨_, (pss_one (ps_ret (pe_op op_cat (pe_op op_cat (pe_call (okNumberBytes T) (hr.mono (by decide)) (by rfl) T.gNumberBytes T.FNumberBytes.kp T.bNumberBytes .nil pass0 (pa_cons (pe_callB call_len_seq (by rfl) T.z_len PySem.boot_len (pa_cons (pv 0) pa_nil)) pa_nil)) (pe_callTy call_list_of (by rfl) T.z_list (by decide +kernel) (pa_cons (pv 0) pa_nil))) (pe_call (okNumberBytes T) (hr.mono (by decide)) (by rfl) T.gNumberBytes T.FNumberBytes.kp T.bNumberBytes .nil pass0 (pa_cons (pe_call (okSumOf T) (hr.mono (by decide)) (by rfl) T.gSumOf T.FSumOf.kp T.bSumOf .nil pass0 (pa_cons (pv 0) pa_nil)) pa_nil))))), ?_⟩
    have hs := sumB_nn l
    have b1 : (nb l.length).length ≤ 10 := nb_le (by omega)
    have b2 : (nb (sumB l).toNat).length ≤ 10 := nb_le (by omega)
    refine ⟨_, rfl, a, _, rfl, .inl ha, l.length, by rw [List.length_map]; rfl, by omega, fun d1 H1 n1 s1 h1 => ?_⟩
    refine ⟨_, rfl, a, _, rfl, .inl (s1.seq ha), fun d2 n2 => ?_⟩
    have h1b := same_new (o := .lst (l.map V.int)) n2 _ _ h1
    refine ⟨d1, d2, _, _, rfl, rfl, h1b, upd_same, sz6 (by rw [List.length_map, List.length_map]; omega), fun d3 n3 => ?_⟩
    have s3 := (s1.trans (same_new (o := .lst (l.map V.int)) n2)).trans (same_new (o := .lst ((nb l.length).map V.int ++ l.map V.int)) n3)
    refine ⟨_, rfl, a, l, rfl, s3.seq ha, (sumB l).toNat, by rw [Int.toNat_of_nonneg hs.1]; rfl, by omega, fun d4 H4 n4 s4 h4 => ?_⟩
    have h3 := s4 _ _ (upd_same (H := upd H1 d2 (.lst (l.map V.int))) (a := d3) (o := .lst ((nb l.length).map V.int ++ l.map V.int)))
    refine ⟨d3, d4, _, _, rfl, rfl, h3, h4, sz6 (by rw [List.length_append, List.length_map, List.length_map, List.length_map]; omega), fun d5 n5 => ?_⟩
    refine q d5 _ ((s3.trans s4).trans (same_new n5)) ?_
    rw [upd_same]
    unfold recB
    rw [List.map_append, List.map_append]
def RRes (H : Hp) (r : Option (List Int × Nat)) (Q : VK) : Prop := match r with
  | none => ∀ H', Same H H' → Q .non H'
  | some (w, e) => ∀ (H' : Hp) (p b : Addr), Same H H' → H' p = some (.tup [.ref b, .int e]) → H' b = some (.lst (w.map V.int)) → Q (.ref p) H'
def spRR (K : PySem.W.Frag) : Sp := fun vs H Q _ => ∃ (s : Addr) (bs : List Int) (pos : Nat), vs = [.ref s, .int pos] ∧ H s = some (.lst (bs.map V.int)) ∧ bs.length ≤ 2000000 ∧ RRes H (rrB bs pos) Q
theorem cut_any {bs : List Int} {pos n : Nat} : cutV (bs.map V.int) (some (pos : Int)) (some ((pos + n : Nat) : Int)) = ((bs.drop pos).take n).map V.int := by
  unfold cutV
  rw [HT.sIx_nat, HT.sIx_nat, List.length_map]
  rcases Nat.lt_or_ge bs.length pos with h | h
  · rw [Nat.min_eq_right (Nat.le_of_lt h), Nat.min_eq_right (by omega), Nat.sub_self, List.drop_eq_nil_of_le (Nat.le_of_lt h)]
    simp
  · rw [Nat.min_eq_left h, List.map_take, List.map_drop]
    have e : ((bs.map V.int).drop pos).length = bs.length - pos := by rw [List.length_drop, List.length_map]
    rcases Nat.lt_or_ge bs.length (pos + n) with z | z
    · rw [Nat.min_eq_right (Nat.le_of_lt z), List.take_of_length_le (by omega), List.take_of_length_le (by omega)]
    · rw [Nat.min_eq_left z, show pos + n - pos = n by omega]
theorem okReadRecord (T : Txt K mg) : FnOk P w K mg base CX0 4 T.fReadRecord T.fdReadRecord ["data", "at"] (spRR K) := by
  refine T.FReadRecord.ok scReadRecord (fun vs H Q E h => ?_) (fun cdv A outer s H vs Q E hr h => ?_)
  · obtain ⟨s, bs, pos, rfl, _⟩ := h
    rfl
  · obtain ⟨s, bs, pos, rfl, hs, hl, q⟩ := h
    -- slots data=0 at=1 reader=2 many=3 body=4 told=5
    refine ⟨_, (pss_cons (ps_set (i := 2) scReadRecord.nd rfl (Or.inl rfl) (pe_make T.mkReader (okReader_Init T) (hr.mono (by decide)) (by rfl) T.gKReader T.bReader_Init .nil pass0 (pa_cons (pv 0) pa_nil)))
        (pss_cons (ps_fld (pv 2) (pv 1) rfl)
        (pss_cons (L2N.ps_try_many rfl rfl takesN (fun W pn xe tk po =>
          (pss_cons (ps_set (i := 3) scReadRecord.nd rfl (Or.inl rfl) (pe_methE0 (pv 2) T.clReader T.meReader_Integer (okReader_Integer T) (hr.mono (by decide)) T.bReader_Integer (fun σ => L2N.passAt tk σ)))
          (pss_cons (ps_set (i := 4) scReadRecord.nd rfl (Or.inl rfl) (pe_slice (sl_listK (K := K) rfl) (pv 0) (po_some (pe_fldK (K := K) rfl (pv 2) rfl)) (po_some (pe_op op_add (pe_fldK (K := K) rfl (pv 2) rfl) (pv 3)))))
          (pss_cons (ps_fldK (K := K) rfl (pv 2) (pe_op op_add (pe_fldK (K := K) rfl (pv 2) rfl) (pv 3)) rfl)
          (pss_one (ps_set (i := 5) scReadRecord.nd rfl (Or.inl rfl) (pe_methE0 (pv 2) T.clReader T.meReader_Integer (okReader_Integer T) (hr.mono (by decide)) T.bReader_Integer (fun σ => L2N.passAt tk σ))))))))
        (.cons ⟨rfl, by decide, .inl T.gKInvalidBytes⟩ (fun a oe cls d pn hz hf =>
          (pss_one (ps_ret pe_non))) .nil))
        (pss_one (ps_ret (pe_ifExp (pt_cmpR op_eq (pv 5) (pe_call (okSumOf T) (hr.mono (by decide)) (by rfl) T.gSumOf T.FSumOf.kp T.bSumOf .nil pass0 (pa_cons (pv 4) pa_nil)) (nomark _)) (pe_tup (pa_cons (pv 4) (pa_cons (pe_fld (pv 2) rfl) pa_nil))) pe_non)))))), ?_⟩
    refine ⟨_, rfl, fun R dx nR nD nRD => ?_⟩
    refine ⟨R, dx, s, rfl, upd_same, fun H1 k1 hR1 => ⟨rfl, ?_⟩⟩
    have s1 : Same H H1 := fun x o e => by
      have n1 : x ≠ R := ne_of_none e nR
      have n2 : x ≠ dx := ne_of_none e nD
      exact k1.at_ n1 (by rw [upd_ne n1, upd_ne n2]; exact e)
    refine ⟨_, rfl, _, rfl, R, T.cReader, dx, _, rfl, hR1, T.clReader, T.naReader_at, (by show 3 < 1000; decide), ?_⟩
    have s2 : Same H (upd H1 R (insR T.cReader dx s pos 0)) := same_mut s1 nR
    have catch_ : ∀ (H' : Hp), Same H H' → rrB bs pos = none → Q .non H' := fun H' s e => by
      rw [e] at q
      exact q H' s
    refine ⟨_, rfl, R, dx, _, rfl, upd_same, rfl, R, s, dx, bs, pos, 0, rfl, upd_same, s2 _ _ hs, hl, fun en d hd => ?_, fun z e er H3 k3 hR3 => ?_⟩
    · refine ⟨true, T.mKInvalidBytes_InvalidBytes, fun _ a0 _ => catch_ _ (s2.trans (same_new hd)) ?_, fun z => Bool.noConfusion z⟩
      unfold rrB
      rw [en]
    have hz0 := rdI_nn er
    obtain ⟨n, rfl⟩ := Int.eq_ofNat_of_zero_le hz0
    have s3 : Same H H3 := fun x o ex => k3.at_ (ne_of_none ex nR) (s2 x o ex)
    have s3b := s3 _ _ hs
    refine ⟨_, rfl, _, rfl, R, T.cReader, dx, _, _, rfl, hR3, T.clReader, T.naReader_at, rfl, (e : Int), rfl, _, rfl, R, T.cReader, dx, _, _, rfl, hR3, T.clReader, T.naReader_at, rfl, _, rfl, _, _, rfl, rfl, ((e + n : Nat) : Int), rfl, s, bs.map V.int, rfl, SqL.of s3b, fun p hp => ?_⟩
    rw [cut_any]
    have hpR : R ≠ p := fun z => by
      rw [z, hp] at hR3
      cases hR3
    have s4 := s3.trans (same_new (o := .lst (((bs.drop e).take n).map V.int)) hp)
    have hR4 := same_new (o := .lst (((bs.drop e).take n).map V.int)) hp _ _ hR3
    refine ⟨_, rfl, R, T.cReader, dx, _, _, rfl, hR4, T.clReader, T.naReader_at, rfl, _, rfl, _, _, rfl, rfl, _, rfl, R, T.cReader, dx, _, rfl, hR4, T.clReader, T.naReader_at, (by show 3 < 1000; decide), ?_⟩
    have s5 : ∀ o, Same H (upd (upd H3 p (.lst (((bs.drop e).take n).map V.int))) R o) := fun o => same_mut s4 nR
    refine ⟨_, rfl, R, dx, _, rfl, upd_same, rfl, R, s, dx, bs, e + n, 0, rfl, upd_same, s5 _ _ _ hs, hl, fun en d hd => ?_, fun z2 e2 er2 H6 k6 hR6 => ?_⟩
    · refine ⟨true, T.mKInvalidBytes_InvalidBytes, fun _ a0 _ => catch_ _ ((s5 _).trans (same_new hd)) ?_, fun z => Bool.noConfusion z⟩
      unfold rrB
      rw [er]
      show (match rdI bs (e + (((n : Nat) : Int)).toNat) with
        | none => none
        | some (told, e2) => _) = none
      rw [Int.toNat_natCast, en]
    have er3 : rrB bs pos = if z2 = sumB ((bs.drop e).take n) then some ((bs.drop e).take n, e2) else none := by
      unfold rrB
      rw [er]
      show (match rdI bs (e + (((n : Nat) : Int)).toNat) with
        | none => none
        | some (told, e2) => if told = sumB ((bs.drop e).take (((n : Nat) : Int)).toNat) then some ((bs.drop e).take (((n : Nat) : Int)).toNat, e2) else none) = _
      rw [Int.toNat_natCast, er2]
    have s6 : Same H H6 := fun x o ex => k6.at_ (ne_of_none ex nR) (s5 _ x o ex)
    have hp6 : H6 p = some (.lst (((bs.drop e).take n).map V.int)) := k6.at_ hpR.symm (by rw [upd_ne hpR.symm, upd_same])
    refine ⟨_, rfl, _, rfl, p, _, rfl, SqL.of hp6, rfl, _, rfl, ite2 (fun c => ?_) (fun c => ?_)⟩
    · rw [er3, if_pos (V.int.inj (of_decide_eq_true c))] at q
      exact ⟨_, rfl, _, rfl, R, T.cReader, dx, _, _, rfl, hR6, T.clReader, T.naReader_at, rfl, (by show 2 ≤ sizeLine; decide), fun t ht => q _ t p (s6.trans (same_new ht)) upd_same (same_new ht _ _ hp6)⟩
    · rw [er3, if_neg (fun z => c (decide_eq_true (by rw [z])))] at q
      exact q _ s6
/-! ### rows of objects that stand for data -/
structure RepG {β : Type} (At : V → β → Prop) (rs : List V) (D : List β) : Prop where
  len : rs.length = D.length
  at_ : ∀ (i : Nat) (x : V) (e : β), rs[i]? = some x → D[i]? = some e → At x e
theorem RepG.nil {β : Type} {At : V → β → Prop} : RepG At [] [] := ⟨rfl, fun i x e h => by simp at h⟩
theorem RepG.imp {β : Type} {At At' : V → β → Prop} {rs : List V} {D : List β} (h : RepG At rs D) (f : ∀ x e, At x e → At' x e) : RepG At' rs D := ⟨h.len, fun i x e h1 h2 => f x e (h.at_ i x e h1 h2)⟩
theorem RepG.snoc {β : Type} {At : V → β → Prop} {rs : List V} {D : List β} {x : V} {e : β} (h : RepG At rs D) (E : At x e) : RepG At (rs ++ [x]) (D ++ [e]) := by
  refine ⟨by rw [List.length_append, List.length_append, h.len]; rfl, fun i y f h1 h2 => ?_⟩
  rcases Nat.lt_or_ge i rs.length with z | z
  · rw [List.getElem?_append_left z] at h1
    rw [List.getElem?_append_left (by rw [← h.len]; exact z)] at h2
    exact h.at_ i y f h1 h2
  · rw [List.getElem?_append_right z] at h1
    rw [List.getElem?_append_right (by rw [← h.len]; exact z), ← h.len] at h2
    generalize i - rs.length = j at h1 h2
    rcases j with _ | j
    · simp at h1 h2
      rw [← h1, ← h2]
      exact E
    · simp at h1
theorem RepG.get {β : Type} {At : V → β → Prop} {rs : List V} {D : List β} (h : RepG At rs D) {i : Nat} {x : V} (hx : rs[i]? = some x) : ∃ e, D[i]? = some e ∧ At x e := by
  have hi := (List.getElem?_eq_some_iff.mp hx).1
  have hi2 : i < D.length := by rw [← h.len]; exact hi
  have hd : D[i]? = some D[i] := List.getElem?_eq_getElem hi2
  exact ⟨_, hd, h.at_ i x _ hx hd⟩
theorem RepG.fst {β : Type} {At : V → β → Prop} {rs : List V} {D : List β} (h : RepG At rs D) : (rs.zip D).map Prod.fst = rs := List.map_fst_zip (Nat.le_of_eq h.len)
theorem RepG.snd {β : Type} {At : V → β → Prop} {rs : List V} {D : List β} (h : RepG At rs D) : (rs.zip D).map Prod.snd = D := List.map_snd_zip (Nat.le_of_eq h.len.symm)
theorem RepG.mem {β : Type} {At : V → β → Prop} {rs : List V} {D : List β} (h : RepG At rs D) : ∀ z ∈ rs.zip D, At z.1 z.2 := fun z hz => by
  obtain ⟨i, hi⟩ := List.mem_iff_getElem?.mp hz
  obtain ⟨h1, h2⟩ := List.getElem?_zip_eq_some.mp hi
  exact h.at_ i _ _ h1 h2
theorem RepG.of_zs {β : Type} {At : V → β → Prop} {zs : List (V × β)} (h : ∀ z ∈ zs, At z.1 z.2) : RepG At (zs.map Prod.fst) (zs.map Prod.snd) := by
  refine ⟨by rw [List.length_map, List.length_map], fun i x e h1 h2 => ?_⟩
  rw [List.getElem?_map] at h1 h2
  cases hz : zs[i]? with
  | none =>
    rw [hz] at h1
    cases h1
  | some z =>
    rw [hz] at h1 h2
    cases h1
    cases h2
    exact h z (List.mem_of_getElem? hz)
theorem RepG.dps {β : Type} {K : PySem.W.Frag} {H : Hp} {At : V → β → Prop} {k : β → PyData} (h2 : ∀ x e, At x e → Dp K H x (k e)) : ∀ {zs : List (V × β)}, (∀ z ∈ zs, At z.1 z.2) → DpAll K H (zs.map Prod.fst) ((zs.map Prod.snd).map k)
  | [], _ => .nil
  | z :: zs, h => .cons (h2 _ _ (h z (List.mem_cons_self ..))) (RepG.dps h2 fun y hy => h y (List.mem_cons_of_mem _ hy))
/-! ### the law's own sums and records -/
def spLSum (K : PySem.W.Frag) : Sp := fun vs H Q _ => ∃ (a : Addr) (l : List Int), vs = [.ref a] ∧ SqL K H a (l.map V.int) ∧ Q (.int (sumB l)) H
theorem okLawSum (T : Txt K mg) : FnOk P w K mg base CX0 1 T.fLawSum T.fdLawSum ["data"] (spLSum K) := by
  refine T.FLawSum.ok scLawSum (fun vs H Q E h => ?_) (fun cdv A outer s H vs Q E hr h => ?_)
  · obtain ⟨a, l, rfl, _⟩ := h
    rfl
  · obtain ⟨a, l, rfl, ha, q⟩ := h
    -- slots data=0 total=1 byte=2
    refine ⟨_, (pss_cons (ps_set (i := 1) scLawSum.nd rfl (Or.inl rfl) pe_int)
        (pss_cons (ps_for PassesOwn.never rfl (pi_list (pv 0)) (pg_name (i := 2) scLawSum.nd rfl (Or.inl rfl))
          (pss_one (ps_set (i := 1) scLawSum.nd rfl (Or.inl rfl) (pe_op op_mod (pe_callTy call_int1 (by rfl) T.z_int (by decide +kernel) (pa_cons (pe_op op_add (pe_op op_add (pe_op op_mul pe_int (pv 1)) (pv 2)) pe_int) pa_nil)) pe_int))))
        (pss_one (ps_ret (pv 1))))), ?_⟩
    refine ⟨_, rfl, a, rfl, ⟨_, ha⟩, for_it (walk_list (a := a) (xs := l.map V.int)) (fun j σ H' => H' = H ∧ ∃ c2, σ = [some (.ref a), some (.int (sumB (l.take j))), c2]) ⟨rfl, _, rfl⟩ (fun i σ H' _ ⟨e, _⟩ => by rw [e]; exact ha) ?_ ?_⟩
    · rintro j x σ H1 H2 hj ⟨rfl, c2, rfl⟩ ⟨rfl, hx⟩
      obtain ⟨y, hy, rfl⟩ := ints_at hx
      refine ⟨_, rfl, _, _, rfl, rfl, .inl ⟨by decide, by decide⟩, _, rfl, _, _, rfl, rfl, _, _, rfl, rfl, .inl ⟨_, rfl, _, _, rfl, rfl, (by show (0 : Int) < _; decide), rfl, some (.int y), ?_⟩⟩
      rw [sum_take hy]
      rfl
    · rintro σ H1 ⟨rfl, c2, rfl⟩
      rw [List.take_of_length_le (by rw [List.length_map]; exact Nat.le_refl _)]
      exact ⟨_, rfl, q⟩
def spLRec (K : PySem.W.Frag) : Sp := fun vs H Q _ => ∃ (a : Addr) (l : List Int), vs = [.ref a] ∧ H a = some (.lst (l.map V.int)) ∧ l.length ≤ 1000 ∧ NR H (recB l) Q
theorem okLawRecord (T : Txt K mg) : FnOk P w K mg base CX0 2 T.fLawRecord T.fdLawRecord ["body"] (spLRec K) := by
  refine T.FLawRecord.ok scLawRecord (fun vs H Q E h => ?_) (fun cdv A outer s H vs Q E hr h => ?_)
  · obtain ⟨a, l, rfl, _⟩ := h
    rfl
  · obtain ⟨a, l, rfl, ha, hl, q⟩ := h
    -- slots body=0
    refine ⟨_, (pss_one (ps_ret (pe_op op_cat (pe_op op_cat (pe_call (okLawNumber T) (hr.mono (by decide)) (by rfl) T.gLawNumber T.FLawNumber.kp T.bLawNumber .nil pass0 (pa_cons (pe_callB call_len_seq (by rfl) T.z_len PySem.boot_len (pa_cons (pv 0) pa_nil)) pa_nil)) (pv 0)) (pe_call (okLawNumber T) (hr.mono (by decide)) (by rfl) T.gLawNumber T.FLawNumber.kp T.bLawNumber .nil pass0 (pa_cons (pe_call (okLawSum T) (hr.mono (by decide)) (by rfl) T.gLawSum T.FLawSum.kp T.bLawSum .nil pass0 (pa_cons (pv 0) pa_nil)) pa_nil))))), ?_⟩
    have hs := sumB_nn l
    have b1 : (nb l.length).length ≤ 10 := nb_le (by omega)
    have b2 : (nb (sumB l).toNat).length ≤ 10 := nb_le (by omega)
    refine ⟨_, rfl, a, _, rfl, .inl (SqL.of ha), l.length, by rw [List.length_map]; rfl, by omega, fun d1 H1 s1 h1 => ?_⟩
    refine ⟨_, rfl, d1, a, _, _, rfl, rfl, h1, s1 _ _ ha, sz6 (by rw [List.length_map, List.length_map]; omega), fun d3 n3 => ?_⟩
    have s3 := s1.trans (same_new (o := .lst ((nb l.length).map V.int ++ l.map V.int)) n3)
    refine ⟨_, rfl, a, l, rfl, SqL.of (s3 _ _ ha), (sumB l).toNat, by rw [Int.toNat_of_nonneg hs.1]; rfl, by omega, fun d4 H4 s4 h4 => ?_⟩
    have h3 := s4 _ _ (upd_same (H := H1) (a := d3) (o := .lst ((nb l.length).map V.int ++ l.map V.int)))
    refine ⟨d3, d4, _, _, rfl, rfl, h3, h4, sz6 (by rw [List.length_append, List.length_map, List.length_map, List.length_map]; omega), fun d5 n5 => ?_⟩
    refine q d5 _ ((s3.trans s4).trans (same_new n5)) ?_
    rw [upd_same]
    unfold recB
    rw [List.map_append, List.map_append]
/-! ### the bodies -/
structure BodOk (w : List Int) : Prop where
  len : w.length ≤ 170
def BodAt (H : Hp) (x : V) (w : List Int) : Prop := BodOk w ∧ ∃ p, x = .ref p ∧ H p = some (.lst (w.map V.int))
theorem BodAt.same {H H' : Hp} {x : V} {w : List Int} (s : Same H H') (h : BodAt H x w) : BodAt H' x w := by
  obtain ⟨o, p, e, hp⟩ := h
  exact ⟨o, p, e, s _ _ hp⟩
def BodN (N : Addr) (H : Hp) (x : V) (w : List Int) : Prop := BodOk w ∧ ∃ p, x = .ref p ∧ p ≠ N ∧ H p = some (.lst (w.map V.int))
theorem BodN.same {N : Addr} {H H' : Hp} {x : V} {w : List Int} (s : Same H H') (h : BodN N H x w) : BodN N H' x w := by
  obtain ⟨o, p, e, n, hp⟩ := h
  exact ⟨o, p, e, n, s _ _ hp⟩
theorem BodN.put {N : Addr} {H : Hp} {x : V} {w : List Int} {o : HO} (h : BodN N H x w) : BodN N (upd H N o) x w := by
  obtain ⟨o, p, e, n, hp⟩ := h
  exact ⟨o, p, e, n, by rw [upd_ne n]; exact hp⟩
theorem map_rep (w : List Int) : (List.replicate 10 (w.map V.int)).flatten = ((List.replicate 10 w).flatten).map V.int := by
  rw [List.map_flatten, List.map_replicate]
theorem rep_len (w : List Int) : ((List.replicate 10 w).flatten).length = 10 * w.length := by
  rw [List.length_flatten, List.map_replicate]
  simp only [List.replicate, List.sum_cons, List.sum_nil]
  omega
def spBodies (K : PySem.W.Frag) : Sp := fun vs H Q _ => ∃ (a : Addr) (ns : List Int), vs = [.ref a] ∧ SqL K H a (ns.map V.int) ∧ ∀ (L : Addr) (H' : Hp) (rs : List V) (D : List (List Int)), Same H H' → H' L = some (.lst rs) → RepG (BodAt H') rs D → 0 < D.length → D.length ≤ 4 → Q (.ref L) H'
theorem okLawBodies (T : Txt K mg) : FnOk P w K mg base CX0 2 T.fLawBodies T.fdLawBodies ["script"] (spBodies K) := by
  refine T.FLawBodies.ok scLawBodies (fun vs H Q E h => ?_) (fun cdv A outer s H vs Q E hr h => ?_)
  · obtain ⟨a, ns, rfl, _⟩ := h
    rfl
  · obtain ⟨a, ns, rfl, hS, q⟩ := h
    -- slots script=0 bodies=1 k=2 cell=3 body=4 digit=5
    refine ⟨_, (pss_cons (ps_set (i := 1) scLawBodies.nd rfl (Or.inl rfl) (pe_lst pa_nil))
        (pss_cons (ps_for PassesOwn.never rfl (pi_range1 rfl T.z_range (pa_cons (pe_op op_add pe_int (pe_op op_mod (pe_callTy call_int1 (by rfl) T.z_int (by decide +kernel) (pa_cons (pe_call (okLawCell T) (hr.mono (by decide)) (by rfl) T.gLawCell T.FLawCell.kp T.bLawCell .nil pass0 (pa_cons (pv 0) (pa_cons pe_int pa_nil))) pa_nil)) pe_int)) pa_nil)) (pg_name (i := 2) scLawBodies.nd rfl (Or.inl rfl))
          (pss_cons (ps_set (i := 3) scLawBodies.nd rfl (Or.inl rfl) (pe_call (okLawCell T) (hr.mono (by decide)) (by rfl) T.gLawCell T.FLawCell.kp T.bLawCell .nil pass0 (pa_cons (pv 0) (pa_cons (pe_op op_add pe_int (pv 2)) pa_nil))))
          (pss_cons (ps_setLc (i := 4) (own := [("digit", 5)]) (g := gName 5) (tt := tYes) rfl scLawBodies.nd rfl rfl (sw_true rfl rfl rfl (by decide +kernel)) (pi_list (pe_call (okLawDigits T) (hr.mono (by decide)) (by rfl) T.gLawDigits T.FLawDigits.kp T.bLawDigits .nil pass0 (pa_cons (pv 3) (pa_cons (pe_op op_add pe_int (pv 2)) (pa_cons (pe_op op_mod (pe_callTy call_int1 (by rfl) T.z_int (by decide +kernel) (pa_cons (pv 3) pa_nil)) pe_int) pa_nil))))) (blkOk_by (own := [("digit", 5)]) (N := ["script", "bodies", "k", "cell", "body", "digit"]) (sc := defScope sLawBodies) (by decide +kernel)) (fun _ _ _ _ _ => (pg_name (i := 5) scLawBodies.nd rfl (Or.inl rfl))) (fun _ _ _ _ _ => pts_nil) (fun _ _ _ _ _ => (pe_op op_mod (pe_callTy call_int1 (by rfl) T.z_int (by decide +kernel) (pa_cons (pv 5) pa_nil)) pe_int)))
          (C8.pss_cut (ps_if (pt_cmpR op_eq (pe_op op_mod (pe_callTy call_int1 (by rfl) T.z_int (by decide +kernel) (pa_cons (pv 3) pa_nil)) pe_int) pe_int (nomark _))
            (pss_one (ps_set (i := 4) scLawBodies.nd rfl (Or.inl rfl) (pe_op op_rep (pv 4) pe_int)))
            pss_nil)
          (pss_one (ps_expr (pe_bm PySem.F.plainAttrs_list PySem.F.slot_list_append PySem.F.type_list_append mt_append (pv 1) (pa_cons (pv 4) pa_nil))))))))
        (pss_one (ps_ret (pv 1))))), ?_⟩
    refine ⟨Nat.zero_le _, fun N hN => ?_⟩
    have s0 := same_new (o := .lst []) hN
    refine ⟨_, rfl, a, ns, 0, rfl, Int.le_refl _, s0.seq hS, fun v0 => .inl ⟨_, rfl, _, _, rfl, rfl, (by show (0 : Int) < _; decide), _, _, rfl, rfl, ?_⟩⟩
    have m0 : 0 < (1 + v0 % 4).toNat := by omega
    have m4 : (1 + v0 % 4).toNat ≤ 4 := by omega
    refine ⟨1 + v0 % 4, rfl, by omega, by omega, for_range (lo := 0) (n := (1 + v0 % 4).toNat) (fun i σ H' => ∃ (rs : List V) (D : List (List Int)) (c2 c3 c4 c5 : Option V), σ = [some (.ref a), some (.ref N), c2, c3, c4, c5] ∧ Same H H' ∧ H' N = some (.lst rs) ∧ RepG (BodN N H') rs D ∧ D.length = i) ⟨[], [], _, _, _, _, rfl, s0, upd_same, RepG.nil, rfl⟩ ?_ ?_⟩
    · rintro i σ H1 hi ⟨rs, D, c2, c3, c4, c5, rfl, s1, hN1, R1, Dl⟩
      refine ⟨_, rfl, _, rfl, _, _, rfl, rfl, a, ns, _, rfl, by omega, s1.seq hS, fun v => ?_⟩
      refine ⟨_, rfl, _, rfl, _, _, rfl, rfl, _, rfl, .inl ⟨_, rfl, _, _, rfl, rfl, (by show (0 : Int) < _; decide), ?_⟩⟩
      refine ⟨v, _, (v % 17).toNat, congrArg (fun z => [V.int v, V.int (1 + (0 + (i : Int))), V.int z]) (show v % 17 = (((v % 17).toNat : Nat) : Int) by omega), by omega, fun H2 d ds s2 hdn hd2 Dg => ?_⟩
      refine ⟨d, rfl, ⟨_, SqL.of hd2⟩, fun M hM => ?_⟩
      have dl := Dg.len
      have nMd : d ≠ M := ne_of_none hd2 hM
      have nMN : N ≠ M := ne_of_none (s2 _ _ hN1) hM
      refine lc_it (walk_list (a := d) (xs := ds.map V.int)) (fun j H' => Same H2 H' ∧ ∃ w : List Int, H' M = some (.lst (w.map V.int)) ∧ w.length = j) ⟨same_new hM, [], upd_same, rfl⟩ (fun j H' _ h => SqL.of (h.1 _ _ hd2)) ?_ ?_
      · rintro j x H9 H4 hj ⟨s4, w, hM4, wl⟩ ⟨rfl, hx⟩
        obtain ⟨y, hy, rfl⟩ := ints_at hx
        rw [List.length_map] at hj
        refine ⟨rfl, yesT ⟨_, rfl, .inl ⟨_, rfl, _, _, rfl, rfl, (by show (0 : Int) < _; decide), _, hM4, small1000 (by rw [List.length_map]; omega), same_mut s4 hM, w ++ [y % 256], ?_, ?_⟩⟩⟩
        · rw [upd_same, List.map_append]
          rfl
        · rw [List.length_append, wl]
          rfl
      rintro H4 ⟨s4, w, hM4, wl⟩
      rw [List.length_map] at wl
      have R4 : RepG (BodN N H4) rs D := R1.imp fun x e h => h.same (s2.trans s4)
      have hN4 := s4 _ _ (s2 _ _ hN1)
      have s04 := s1.trans (s2.trans s4)
      refine ⟨fun σ H' => ∃ (M : Addr) (w : List Int) (c2 c3 c5 : Option V), σ = [some (.ref a), some (.ref N), c2, c3, some (.ref M), c5] ∧ Same H4 H' ∧ N ≠ M ∧ H' M = some (.lst (w.map V.int)) ∧ w.length ≤ 170, ?_, ?_⟩
      · refine ⟨_, rfl, .inl ⟨_, rfl, _, _, rfl, rfl, (by show (0 : Int) < _; decide), rfl, _, rfl, ite2 (fun c => ?_) (fun c => ?_)⟩⟩
        · refine ⟨_, rfl, M, 10, _, rfl, rfl, hM4, by decide, by decide, sz6 (by rw [List.length_map]; show w.length * 10 ≤ _; omega), fun M2 hM2 => ?_⟩
          refine ⟨M2, (List.replicate 10 w).flatten, _, _, _, rfl, same_new hM2, ne_of_none hN4 hM2, ?_, ?_⟩
          · rw [upd_same]
            exact congrArg (fun z => some (HO.lst z)) (map_rep w)
          · rw [rep_len]
            omega
        · exact ⟨M, w, _, _, _, rfl, Same.refl _, nMN, hM4, by omega⟩
      rintro σ H5 ⟨M2, w2, c2, c3, c5, rfl, s5, nM, hM5, wl5⟩
      refine ⟨_, rfl, .inl ⟨rfl, _, SqL.of (s5 _ _ hN4)⟩, _, rfl, N, _, _, rfl, rfl, s5 _ _ hN4, small1000 (by have := R1.len; omega), ?_⟩
      refine ⟨rs ++ [.ref M2], D ++ [w2], _, _, _, _, rfl, same_mut (s04.trans s5) hN, upd_same, ?_, ?_⟩
      · exact RepG.snoc (R4.imp fun x e h => (h.same s5).put) ⟨⟨wl5⟩, M2, rfl, nM.symm, by rw [upd_ne nM.symm]; exact hM5⟩
      · rw [List.length_append, Dl]
        rfl
    · rintro σ H1 ⟨rs, D, c2, c3, c4, c5, rfl, s1, hN1, R1, Dl⟩
      exact ⟨_, rfl, q _ _ rs D s1 hN1 (R1.imp fun x e ⟨o, p, e1, _, hp⟩ => ⟨o, p, e1, hp⟩) (by omega) (by omega)⟩
/-! ### the law -/
theorem rres_some {H : Hp} {bs : List Int} {pos : Nat} {w : List Int} {e : Nat} {Q : VK} (h : rrB bs pos = some (w, e)) (k : ∀ (H' : Hp) (p b : Addr), Same H H' → H' p = some (.tup [.ref b, .int e]) → H' b = some (.lst (w.map V.int)) → Q (.ref p) H') : RRes H (rrB bs pos) Q := by
  rw [h]
  exact k
theorem rres_none {H : Hp} {bs : List Int} {pos : Nat} {Q : VK} (h : rrB bs pos = none) (k : ∀ H', Same H H' → Q .non H') : RRes H (rrB bs pos) Q := by
  rw [h]
  exact k
def datB (D : List (List Int)) : List Int := D.flatMap recB
def endB (D : List (List Int)) (j : Nat) : Int := ((datB (D.take (j + 1))).length : Int)
theorem datB_snoc {D : List (List Int)} {j : Nat} {w : List Int} (h : D[j]? = some w) : datB (D.take (j + 1)) = datB (D.take j) ++ recB w := by
  unfold datB
  rw [List.take_add_one, h]
  simp [List.flatMap_append]
theorem recB_le {w : List Int} (h : w.length ≤ 170) : (recB w).length ≤ 200 := by
  have hs := sumB_nn w
  have b1 : (nb w.length).length ≤ 10 := nb_le (by omega)
  have b2 : (nb (sumB w).toNat).length ≤ 10 := nb_le (by omega)
  unfold recB
  rw [List.length_append, List.length_append]
  omega
theorem datB_le : ∀ {D : List (List Int)}, (∀ w ∈ D, w.length ≤ 170) → (datB D).length ≤ 200 * D.length
  | [], _ => Nat.le_refl _
  | w :: D, h => by
    have h1 := recB_le (h w (List.mem_cons_self ..))
    have h2 := datB_le (D := D) fun x hx => h x (List.mem_cons_of_mem _ hx)
    have : datB (w :: D) = recB w ++ datB D := rfl
    rw [this, List.length_append, List.length_cons]
    omega
theorem pair_shaped (w : List Int) (e : Int) : SeqAt.shaped (.tuple [.list (w.map PyData.int), .int e]) = true := by
  have h := shaped_lst w
  simp only [SeqAt.shaped, Bool.and_eq_true, decide_eq_true_iff, PyData.canLay0, PyData.depth] at h ⊢
  simp [SeqAt.shaped, PyData.canLay0, PyData.depth, PyData.canLayAll0, PyData.depthAll, PySem.W.ke_canLayAll0, PySem.W.ke_depthAll]
theorem pair_dp {K : PySem.W.Frag} {H : Hp} {p b : Addr} {w : List Int} {e : Int} (hp : H p = some (.tup [.ref b, .int e])) (hb : H b = some (.lst (w.map V.int))) : Dp K H (.ref p) (.tuple [.list (w.map PyData.int), .int e]) :=
  .tup (SqT.of hp) (.cons (.lst (SqL.of hb) (dp_ints _)) (.cons (.int _) .nil))
theorem cut_to {bs : List Int} {n : Nat} : cutV (bs.map V.int) none (some (n : Int)) = (bs.take n).map V.int := by
  have h := cut_any (bs := bs) (pos := 0) (n := n)
  rw [Nat.zero_add, List.drop_zero] at h
  rw [← h]
  unfold cutV
  rw [HT.sIx_none, HT.sIx_nat, HT.sIx_nat, Nat.zero_min]
theorem ixN_in {n j : Nat} (h : j < n) : ixN n (j : Int) = some j := by
  unfold ixN
  rw [if_pos (by omega), if_pos (by omega)]
  rfl
theorem set_mid {a w b : List Int} {t : Nat} {y : Int} (h : t < w.length) : (a ++ (w ++ b)).set (a.length + t) y = a ++ (w.set t y ++ b) := by
  rw [List.set_append_right _ _ (by omega), show a.length + t - a.length = t by omega, List.set_append_left _ _ h]
def spLaw (K : PySem.W.Frag) : Sp := fun vs H Q _ => ∃ (a : Addr) (ns : List Int), vs = [.ref a] ∧ SqL K H a (ns.map V.int) ∧ ns.length ≤ 63 ∧ ∀ H', Q (.bl true) H'
theorem okLaw (T : Txt K mg) : FnOk P w K mg base CX0 5 T.fLaw T.fdLaw ["script"] (spLaw K) := by
  refine T.FLaw.ok scLaw (fun vs H Q E h => ?_) (fun cdv A outer s H vs Q E hr h => ?_)
  · obtain ⟨a, ns, rfl, _⟩ := h
    rfl
  · obtain ⟨a, ns, rfl, hS, hl, q⟩ := h
    -- slots script=0 bodies=1 data=2 ends=3 body=4 at=5 k=6 told=7 cut=8 size=9 changed=10
    refine ⟨_, (pss_cons (ps_set (i := 1) scLaw.nd rfl (Or.inl rfl) (pe_call (okLawBodies T) (hr.mono (by decide)) (by rfl) T.gLawBodies T.FLawBodies.kp T.bLawBodies .nil pass0 (pa_cons (pv 0) pa_nil)))
        (pss_cons (ps_set (i := 2) scLaw.nd rfl (Or.inl rfl) (pe_lst pa_nil))
        (pss_cons (ps_set (i := 3) scLaw.nd rfl (Or.inl rfl) (pe_lst pa_nil))
        (C8.pss_cut (ps_for PassesOwn.never rfl (pi_list (pv 1)) (pg_name (i := 4) scLaw.nd rfl (Or.inl rfl))
          (pss_cons (ps_if (PW.pt (pw_or (pt_cmpR op_ne (pe_call (okSumOf T) (hr.mono (by decide)) (by rfl) T.gSumOf T.FSumOf.kp T.bSumOf .nil pass0 (pa_cons (pe_callTy call_list_of (by rfl) T.z_list (by decide +kernel) (pa_cons (pv 4) pa_nil)) pa_nil)) (pe_call (okLawSum T) (hr.mono (by decide)) (by rfl) T.gLawSum T.FLawSum.kp T.bLawSum .nil pass0 (pa_cons (pv 4) pa_nil)) (nomark _)) (pw_or1 (pt_cmpR (op_neD hr.units) (pe_callTy call_list_of (by rfl) T.z_list (by decide +kernel) (pa_cons (pe_call (okRecordOf T) (hr.mono (by decide)) (by rfl) T.gRecordOf T.FRecordOf.kp T.bRecordOf .nil pass0 (pa_cons (pe_callTy call_list_of (by rfl) T.z_list (by decide +kernel) (pa_cons (pv 4) pa_nil)) pa_nil)) pa_nil)) (pe_call (okLawRecord T) (hr.mono (by decide)) (by rfl) T.gLawRecord T.FLawRecord.kp T.bLawRecord .nil pass0 (pa_cons (pv 4) pa_nil)) (nomark _)))))
            (pss_one (ps_ret pe_bl))
            pss_nil)
          (pss_cons (ps_set (i := 2) scLaw.nd rfl (Or.inl rfl) (pe_op op_cat (pv 2) (pe_call (okLawRecord T) (hr.mono (by decide)) (by rfl) T.gLawRecord T.FLawRecord.kp T.bLawRecord .nil pass0 (pa_cons (pv 4) pa_nil))))
          (pss_one (ps_expr (pe_bm PySem.F.plainAttrs_list PySem.F.slot_list_append PySem.F.type_list_append mt_append (pv 3) (pa_cons (pe_callB call_len_seq (by rfl) T.z_len PySem.boot_len (pa_cons (pv 2) pa_nil)) pa_nil)))))))
        (pss_cons (ps_set (i := 5) scLaw.nd rfl (Or.inl rfl) pe_int)
        (C8.pss_cut (ps_for PassesOwn.never rfl (pi_range1 rfl T.z_range (pa_cons (pe_callB call_len_seq (by rfl) T.z_len PySem.boot_len (pa_cons (pv 1) pa_nil)) pa_nil)) (pg_name (i := 6) scLaw.nd rfl (Or.inl rfl))
          (pss_cons (ps_set (i := 7) scLaw.nd rfl (Or.inl rfl) (pe_call (okReadRecord T) (hr.mono (by decide)) (by rfl) T.gReadRecord T.FReadRecord.kp T.bReadRecord .nil pass0 (pa_cons (pe_callTy call_list_of (by rfl) T.z_list (by decide +kernel) (pa_cons (pv 2) pa_nil)) (pa_cons (pv 5) pa_nil))))
          (pss_cons (ps_if (PW.pt (pw_or (pt_cmpR op_isN (pv 7) pe_non (nomark _)) (pw_or1 (pt_cmpR (op_neD hr.units) (pe_tup (pa_cons (pe_callTy call_list_of (by rfl) T.z_list (by decide +kernel) (pa_cons (pe_ix ix_tup (pv 7) pe_int (fun _ _ => rfl)) pa_nil)) (pa_cons (pe_ix ix_tup (pv 7) pe_int (fun _ _ => rfl)) pa_nil))) (pe_tup (pa_cons (pe_ix ix_list (pv 1) (pv 6) (fun _ _ => rfl)) (pa_cons (pe_ix ix_list (pv 3) (pv 6) (fun _ _ => rfl)) pa_nil))) (nomark _)))))
            (pss_one (ps_ret pe_bl))
            pss_nil)
          (pss_one (ps_set (i := 5) scLaw.nd rfl (Or.inl rfl) (pe_ix ix_list (pv 3) (pv 6) (fun _ _ => rfl)))))))
        (pss_cons (ps_if (pt_cmpR op_notN (pe_call (okReadRecord T) (hr.mono (by decide)) (by rfl) T.gReadRecord T.FReadRecord.kp T.bReadRecord .nil pass0 (pa_cons (pe_callTy call_list_of (by rfl) T.z_list (by decide +kernel) (pa_cons (pv 2) pa_nil)) (pa_cons (pv 5) pa_nil))) pe_non (nomark _))
          (pss_one (ps_ret pe_bl))
          pss_nil)
        (pss_cons (ps_set (i := 8) scLaw.nd rfl (Or.inl rfl) (pe_op op_mod (pe_callTy call_int1 (by rfl) T.z_int (by decide +kernel) (pa_cons (pe_call (okLawCell T) (hr.mono (by decide)) (by rfl) T.gLawCell T.FLawCell.kp T.bLawCell .nil pass0 (pa_cons (pv 0) (pa_cons pe_int pa_nil))) pa_nil)) (pe_ix ix_list (pv 3) pe_int (fun _ _ => rfl))))
        (pss_cons (ps_if (pt_cmpR op_notN (pe_call (okReadRecord T) (hr.mono (by decide)) (by rfl) T.gReadRecord T.FReadRecord.kp T.bReadRecord .nil pass0 (pa_cons (pe_slice sl_list (pv 2) po_none (po_some (pv 8))) (pa_cons pe_int pa_nil))) pe_non (nomark _))
          (pss_one (ps_ret pe_bl))
          pss_nil)
        (pss_cons (ps_set (i := 9) scLaw.nd rfl (Or.inl rfl) (pe_callB call_len_seq (by rfl) T.z_len PySem.boot_len (pa_cons (pe_call (okLawNumber T) (hr.mono (by decide)) (by rfl) T.gLawNumber T.FLawNumber.kp T.bLawNumber .nil pass0 (pa_cons (pe_callB call_len_seq (by rfl) T.z_len PySem.boot_len (pa_cons (pe_ix ix_list (pv 1) pe_int (fun _ _ => rfl)) pa_nil)) pa_nil)) pa_nil)))
        (pss_cons (ps_if (pt_cmpR op_gt (pe_callB call_len_seq (by rfl) T.z_len PySem.boot_len (pa_cons (pe_ix ix_list (pv 1) pe_int (fun _ _ => rfl)) pa_nil)) pe_int (nomark _))
          (pss_cons (ps_set (i := 6) scLaw.nd rfl (Or.inl rfl) (pe_op op_add (pv 9) (pe_op op_mod (pe_callTy call_int1 (by rfl) T.z_int (by decide +kernel) (pa_cons (pe_call (okLawCell T) (hr.mono (by decide)) (by rfl) T.gLawCell T.FLawCell.kp T.bLawCell .nil pass0 (pa_cons (pv 0) (pa_cons pe_int pa_nil))) pa_nil)) (pe_callB call_len_seq (by rfl) T.z_len PySem.boot_len (pa_cons (pe_ix ix_list (pv 1) pe_int (fun _ _ => rfl)) pa_nil)))))
          (pss_cons (ps_set (i := 10) scLaw.nd rfl (Or.inl rfl) (pe_callTy call_list_of (by rfl) T.z_list (by decide +kernel) (pa_cons (pv 2) pa_nil)))
          (pss_cons (ps_asg (pe_op op_mod (pe_callTy call_int1 (by rfl) T.z_int (by decide +kernel) (pa_cons (pe_op op_add (pe_op op_add (pe_ix ix_list (pv 10) (pv 6) (fun _ _ => rfl)) pe_int) (pe_op op_mod (pe_callTy call_int1 (by rfl) T.z_int (by decide +kernel) (pa_cons (pe_call (okLawCell T) (hr.mono (by decide)) (by rfl) T.gLawCell T.FLawCell.kp T.bLawCell .nil pass0 (pa_cons (pv 0) (pa_cons pe_int pa_nil))) pa_nil)) pe_int)) pa_nil)) pe_int) (pg_sub (pv 10) (pv 6) set_list))
          (pss_one (ps_if (pt_cmpR op_ne (pe_call (okLawSum T) (hr.mono (by decide)) (by rfl) T.gLawSum T.FLawSum.kp T.bLawSum .nil pass0 (pa_cons (pe_slice sl_list (pv 10) (po_some (pv 9)) (po_some (pe_op op_add (pv 9) (pe_callB call_len_seq (by rfl) T.z_len PySem.boot_len (pa_cons (pe_ix ix_list (pv 1) pe_int (fun _ _ => rfl)) pa_nil))))) pa_nil)) (pe_call (okLawSum T) (hr.mono (by decide)) (by rfl) T.gLawSum T.FLawSum.kp T.bLawSum .nil pass0 (pa_cons (pe_ix ix_list (pv 1) pe_int (fun _ _ => rfl)) pa_nil)) (nomark _))
            (pss_one (ps_ret (pe_cmpR op_isN (pe_call (okReadRecord T) (hr.mono (by decide)) (by rfl) T.gReadRecord T.FReadRecord.kp T.bReadRecord .nil pass0 (pa_cons (pv 10) (pa_cons pe_int pa_nil))) pe_non (nomark _))))
            pss_nil)))))
          pss_nil)
        (pss_one (ps_ret pe_bl))))))))))))), ?_⟩
    refine ⟨_, rfl, a, ns, rfl, hS, fun L H1 rs D s1 hL R d0 d4 => ⟨Nat.zero_le _, fun N hN => ⟨Nat.zero_le _, fun E hE => ?_⟩⟩⟩
    have ok : ∀ w ∈ D, w.length ≤ 170 := fun w hw => by
      obtain ⟨j, hj⟩ := List.mem_iff_getElem?.mp hw
      have hj2 : j < rs.length := by rw [R.len]; exact (List.getElem?_eq_some_iff.mp hj).1
      exact (R.at_ j _ _ (List.getElem?_eq_getElem hj2) hj).1.len
    have s2 := same_new (o := .lst []) hN
    have s3 := same_new (o := .lst []) hE
    have s23 : Same H1 (upd (upd H1 N (.lst [])) E (.lst [])) := s2.trans s3
    have hE1 : H1 E = none := by
      cases h : H1 E with
      | none => rfl
      | some o =>
        rw [s2 _ _ h] at hE
        cases hE
    have nNE : N ≠ E := fun z => by
      rw [z, upd_same] at hE
      cases hE
    refine ⟨fun σ H' => ∃ (d : Addr) (c4 : Option V), σ = [some (.ref a), some (.ref L), some (.ref d), some (.ref E), c4, none, none, none, none, none, none] ∧ Same H1 H' ∧ H' d = some (.lst ((datB D).map V.int)) ∧ H' E = some (.lst (((List.range D.length).map (endB D)).map V.int)), ?_, ?_⟩
    · refine ⟨_, rfl, L, rfl, ⟨_, SqL.of (s23 _ _ hL)⟩, for_it (walk_list (a := L) (xs := rs)) (fun j σ H' => ∃ (d : Addr) (c4 : Option V), σ = [some (.ref a), some (.ref L), some (.ref d), some (.ref E), c4, none, none, none, none, none, none] ∧ Same H1 H' ∧ d ≠ E ∧ H' d = some (.lst ((datB (D.take j)).map V.int)) ∧ H' E = some (.lst (((List.range j).map (endB D)).map V.int))) ⟨N, _, rfl, s23, nNE, s3 _ _ upd_same, upd_same⟩ (fun j σ H' _ ⟨_, _, _, s, _⟩ => SqL.of (s _ _ hL)) ?_ ?_⟩
      · rintro j x σ H2 H3 hj ⟨d, c4, rfl, s4, nd, hd, hEE⟩ ⟨rfl, hx⟩
        obtain ⟨w, hw, wo, p, rfl, hp⟩ := R.get hx
        have hp2 := s4 _ _ hp
        have wl := wo.len
        refine ⟨_, rfl, p, _, rfl, .inl (SqL.of hp2), fun l1 hl1 => ⟨l1, w, rfl, SqL.of upd_same, ?_⟩⟩
        have s5 := same_new (o := .lst (w.map V.int)) hl1
        refine ⟨_, rfl, p, w, rfl, SqL.of (s5 _ _ hp2), rfl, _, rfl, ite2 (fun c => absurd c (by simp)) (fun _ => ?_)⟩
        refine ⟨_, rfl, p, _, rfl, .inl (SqL.of (s5 _ _ hp2)), fun l2 hl2 => ⟨l2, w, rfl, SqL.of upd_same, by omega, fun r H4 s6 hr4 => ?_⟩⟩
        have s56 := s5.trans ((same_new (o := .lst (w.map V.int)) hl2).trans s6)
        refine ⟨r, _, rfl, .inl (SqL.of hr4), fun l3 hl3 => ⟨_, rfl, p, w, rfl, same_new hl3 _ _ (s56 _ _ hp2), by omega, fun r2 H5 s7 hr5 => ?_⟩⟩
        have s67 := (same_new (o := .lst ((recB w).map V.int)) hl3).trans s7
        have s57 := s56.trans s67
        refine ⟨_, _, .lst (SqL.of (s7 _ _ upd_same)) (dp_ints _), .lst (SqL.of hr5) (dp_ints _), shaped_lst _, shaped_lst _, ?_⟩
        rw [eqv_same (shaped_lst _)]
        refine ⟨_, rfl, iteF ?_⟩
        -- data
        have hd5 := s57 _ _ hd
        have hE5 := s57 _ _ hEE
        refine ⟨_, rfl, _, rfl, p, w, rfl, s57 _ _ hp2, by omega, fun r3 H6 s8 hr6 => ?_⟩
        have tl : (datB (D.take j)).length ≤ 200 * (D.take j).length := datB_le fun w hw => ok w (List.mem_of_mem_take hw)
        have tl2 : (D.take j).length ≤ D.length := by rw [List.length_take]; exact Nat.min_le_right ..
        have rl := recB_le wl
        refine ⟨d, r3, _, _, rfl, rfl, s8 _ _ hd5, hr6, sz6 (by rw [List.length_map, List.length_map]; omega), fun d2 hd2 => ?_⟩
        have s9 := same_new (o := .lst ((datB (D.take j)).map V.int ++ (recB w).map V.int)) hd2
        have hE6 := s9 _ _ (s8 _ _ hE5)
        have nd2 : d2 ≠ E := fun z => by
          rw [z, s8 _ _ hE5] at hd2
          cases hd2
        refine ⟨_, rfl, .inl ⟨rfl, _, SqL.of hE6⟩, _, rfl, d2, _, rfl, .inl (SqL.of upd_same), E, _, _, rfl, rfl, hE6, small1000 (by rw [List.length_map, List.length_map, List.length_range]; have := R.len; omega), ?_⟩
        refine ⟨d2, _, rfl, same_mut (((s4.trans s57).trans s8).trans s9) hE1, nd2, ?_, ?_⟩
        · rw [upd_ne nd2, upd_same, datB_snoc hw, List.map_append]
        · rw [upd_same, List.range_succ, List.map_append, List.map_append]
          show some (HO.lst (_ ++ [V.int _])) = some (HO.lst (_ ++ [V.int (endB D j)]))
          unfold endB
          rw [datB_snoc hw, ← List.map_append, List.length_map]
      · rintro σ H2 ⟨d, c4, rfl, s4, nd, hd, hEE⟩
        rw [R.len] at hEE hd
        rw [List.take_length] at hd
        exact ⟨d, c4, rfl, s4, hd, hEE⟩
    rintro σ H2 ⟨d, c4, rfl, s4, hd, hEE⟩
    have dl : (datB D).length ≤ 2000000 := Nat.le_trans (datB_le ok) (by omega)
    have hL2 := s4 _ _ hL
    have mem : ∀ (j : Nat) (w : List Int), D[j]? = some w → datB D = datB (D.take j) ++ (recB w ++ datB (D.drop (j + 1))) := fun j w hw => by
      have h1 : D = D.take j ++ (w :: D.drop (j + 1)) := by
        obtain ⟨hlt, hv⟩ := List.getElem?_eq_some_iff.mp hw
        rw [← hv, ← List.drop_eq_getElem_cons hlt, List.take_append_drop]
      have h2 : datB D = datB (D.take j ++ (w :: D.drop (j + 1))) := congrArg datB h1
      rw [h2]
      unfold datB
      rw [List.flatMap_append]
      rfl
    have endAt : ∀ j : Nat, j < D.length → atI (((List.range D.length).map (endB D)).map V.int) ((j : Nat) : Int) = some (.int (endB D j)) := fun j hj => atI_nat (by rw [List.getElem?_map, List.getElem?_map, List.getElem?_range hj]; rfl)
    refine ⟨fun σ H' => ∃ (c4 c6 c7 : Option V), σ = [some (.ref a), some (.ref L), some (.ref d), some (.ref E), c4, some (.int ((datB D).length : Int)), c6, c7, none, none, none] ∧ Same H2 H', ?_, ?_⟩
    · refine ⟨_, rfl, L, rs, rfl, .inl (SqL.of hL2), (rs.length : Int), rfl, by omega, by have := R.len; omega, for_range (lo := 0) (n := rs.length) (fun j σ H' => ∃ (c4 c6 c7 : Option V), σ = [some (.ref a), some (.ref L), some (.ref d), some (.ref E), c4, some (.int ((datB (D.take j)).length : Int)), c6, c7, none, none, none] ∧ Same H2 H') ⟨_, _, _, rfl, Same.refl _⟩ ?_ ?_⟩
      · rintro j σ H3 hj ⟨c4, c6, c7, rfl, s5⟩
        rw [R.len] at hj
        obtain ⟨w, hw⟩ : ∃ w, D[j]? = some w := ⟨_, List.getElem?_eq_getElem hj⟩
        have ew := mem j w hw
        refine ⟨_, rfl, d, _, rfl, .inl (SqL.of (s5 _ _ hd)), fun l1 hl1 => ⟨_, rfl, l1, datB D, (datB (D.take j)).length, rfl, upd_same, dl, rres_some (rrB_rec (w := w) (r := datB (D.drop (j + 1))) (by rw [ew, List.drop_left])) (fun H4 p b s6 hp hb => ?_)⟩⟩
        have s7 := (same_new (o := .lst ((datB D).map V.int)) hl1).trans s6
        have s57 := s5.trans s7
        have ee : (((datB (D.take j)).length + (recB w).length : Nat) : Int) = endB D j := by
          unfold endB
          rw [datB_snoc hw, List.length_append]
        rw [ee] at hp
        obtain ⟨wo, p0, e0, hp0⟩ := R.at_ j _ _ (List.getElem?_eq_getElem (by rw [R.len]; exact hj)) hw
        have hj2 : atI rs ((0 : Int) + (j : Int)) = some (.ref p0) := by
          rw [Int.zero_add]
          exact atI_nat (by rw [List.getElem?_eq_getElem (by rw [R.len]; exact hj), e0])
        have hj3 := endAt j hj
        rw [← Int.zero_add (j : Int)] at hj3
        refine ⟨_, rfl, rfl, _, rfl, ite2 (fun c => nomatch (of_decide_eq_true c)) (fun _ => ?_)⟩
        refine ⟨_, rfl, p, _, _, _, rfl, rfl, SqT.of hp, atI_nat (j := 0) rfl, b, _, rfl, .inl (SqL.of hb), fun l2 hl2 => ?_⟩
        have s8 := same_new (o := .lst (w.map V.int)) hl2
        refine ⟨_, rfl, p, _, _, _, rfl, rfl, SqT.of (s8 _ _ hp), atI_nat (j := 1) rfl, (by show 2 ≤ sizeLine; decide), fun t1 ht1 => ?_⟩
        have s9 := same_new (o := .tup [.ref l2, .int (endB D j)]) ht1
        have s89 := s57.trans (s8.trans s9)
        refine ⟨_, rfl, _, rfl, L, _, _, _, rfl, rfl, SqL.of (s89 _ _ hL2), hj2, _, rfl, _, rfl, E, _, _, _, rfl, rfl, SqL.of (s89 _ _ hEE), hj3, (by show 2 ≤ sizeLine; decide), fun t2 ht2 => ?_⟩
        have s10 := same_new (o := .tup [.ref p0, .int (endB D j)]) ht2
        refine ⟨_, _, pair_dp (s10 _ _ upd_same) (s10 _ _ (s9 _ _ upd_same)), pair_dp upd_same (s10 _ _ ((s4.trans s89) _ _ hp0)), pair_shaped _ _, pair_shaped _ _, ?_⟩
        rw [eqv_same (pair_shaped _ _)]
        refine ⟨_, rfl, iteF ?_⟩
        exact ⟨_, rfl, _, rfl, E, _, _, _, rfl, rfl, SqL.of ((s89.trans s10) _ _ hEE), hj3, _, _, _, rfl, s89.trans s10⟩
      · rintro σ H3 ⟨c4, c6, c7, rfl, s5⟩
        rw [R.len, List.take_length]
        exact ⟨_, _, _, rfl, s5⟩
    rintro σ H3 ⟨c4, c6, c7, rfl, s5⟩
    obtain ⟨w, hw⟩ : ∃ w, D[0]? = some w := ⟨_, List.getElem?_eq_getElem d0⟩
    have ew : datB D = recB w ++ datB (D.drop 1) := mem 0 w hw
    have wl := ok w (List.mem_of_getElem? hw)
    obtain ⟨wo, p0, e0, hp0⟩ := R.at_ 0 _ _ (List.getElem?_eq_getElem (by rw [R.len]; exact d0)) hw
    have hp1 := (s4.trans s5) _ _ hp0
    have at0 : atI rs ((0 : Nat) : Int) = some (.ref p0) := atI_nat (by rw [List.getElem?_eq_getElem (by rw [R.len]; exact d0), e0])
    have hd3 := s5 _ _ hd
    have e00 : endB D 0 = ((recB w).length : Int) := by
      unfold endB
      rw [datB_snoc hw]
      rfl
    have ea0 := endAt 0 d0
    rw [e00] at ea0
    have rp := recB_pos w
    -- behind the last one
    refine ⟨_, rfl, d, _, rfl, .inl (SqL.of hd3), fun l1 hl1 => ⟨_, rfl, l1, datB D, (datB D).length, rfl, upd_same, dl, rres_none (rrB_end (Nat.le_refl _)) fun H4 s6 => ?_⟩⟩
    have s46 := s5.trans ((same_new (o := .lst ((datB D).map V.int)) hl1).trans s6)
    refine ⟨rfl, _, rfl, ite2 (fun c => absurd c (by simp)) (fun _ => ?_)⟩
    -- cut
    refine ⟨_, rfl, a, ns, 10, rfl, by decide, ((s1.trans s4).trans s46).seq hS, fun v => .inl ⟨_, rfl, _, rfl, E, _, _, _, rfl, rfl, SqL.of (s46 _ _ hEE), ea0, _, _, rfl, rfl, by omega, ?_⟩⟩
    obtain ⟨cut, ec, hc⟩ : ∃ cut : Nat, v % ((recB w).length : Int) = (cut : Int) ∧ cut < (recB w).length := by
      have h1 := Int.emod_nonneg v (b := ((recB w).length : Int)) (by omega)
      have h2 := Int.emod_lt_of_pos v (b := ((recB w).length : Int)) (by omega)
      exact ⟨(v % ((recB w).length : Int)).toNat, by omega, by omega⟩
    refine ⟨_, rfl, _, rfl, (cut : Int), congrArg V.int ec, d, _, rfl, SqL.of (s46 _ _ hd), fun l2 hl2 => ?_⟩
    rw [cut_to]
    refine ⟨l2, (datB D).take cut, 0, rfl, upd_same, by rw [List.length_take]; omega, rres_none (rrB_cut (w := w) (r := datB (D.drop 1)) hc (by rw [ew])) fun H5 s7 => ?_⟩
    have s57 := s46.trans ((same_new (o := .lst (((datB D).take cut).map V.int)) hl2).trans s7)
    refine ⟨rfl, _, rfl, ite2 (fun c => absurd c (by simp)) (fun _ => ?_)⟩
    have s17 := s4.trans s57
    refine ⟨_, rfl, L, _, _, _, rfl, rfl, SqL.of (s57 _ _ hL2), at0, p0, _, rfl, .inl (SqL.of (s17 _ _ hp0)), w.length, by rw [List.length_map]; rfl, by omega, fun r H6 s8 hr6 => ?_⟩
    have s58 := s57.trans s8
    have s18 := s4.trans s58
    refine ⟨r, _, rfl, .inl (SqL.of hr6), ?_⟩
    rw [List.length_map]
    refine ⟨_, rfl, L, _, _, _, rfl, rfl, SqL.of (s58 _ _ hL2), at0, p0, _, rfl, .inl (SqL.of (s18 _ _ hp0)), _, _, rfl, rfl, _, rfl, ite2 (fun c => ?_) (fun _ => q _)⟩
    have c := of_decide_eq_true c
    rw [List.length_map] at c
    have cw : 0 < w.length := by omega
    refine ⟨_, rfl, _, rfl, a, ns, 11, rfl, by decide, (s1.trans s18).seq hS, fun v2 => .inl ⟨_, rfl, _, rfl, L, _, _, _, rfl, rfl, SqL.of (s58 _ _ hL2), at0, p0, _, rfl, .inl (SqL.of (s18 _ _ hp0)), _, _, rfl, rfl, by rw [List.length_map]; omega, _, _, rfl, rfl, ?_⟩⟩
    rw [List.length_map]
    obtain ⟨t, et, ht⟩ : ∃ t : Nat, v2 % (w.length : Int) = (t : Int) ∧ t < w.length := by
      have h1 := Int.emod_nonneg v2 (b := (w.length : Int)) (by omega)
      have h2 := Int.emod_lt_of_pos v2 (b := (w.length : Int)) (by omega)
      exact ⟨(v2 % (w.length : Int)).toNat, by omega, by omega⟩
    rw [et]
    have es : datB D = nb w.length ++ (w ++ (nb (sumB w).toNat ++ datB (D.drop 1))) := by rw [ew, recB_eq]
    have kl : (nb w.length).length + t < (datB D).length := by
      rw [es, List.length_append, List.length_append]
      omega
    obtain ⟨b, hb⟩ : ∃ b, (datB D)[(nb w.length).length + t]? = some b := ⟨_, List.getElem?_eq_getElem kl⟩
    have ek : (((nb w.length).length : Int) + (t : Int)) = (((nb w.length).length + t : Nat) : Int) := by omega
    refine ⟨_, rfl, d, _, rfl, .inl (SqL.of (s58 _ _ hd)), fun C hC => ?_⟩
    have s9 := same_new (o := .lst ((datB D).map V.int)) hC
    have s59 := s58.trans s9
    have s19 := s4.trans s59
    have atK : atI ((datB D).map V.int) (((nb w.length).length : Int) + (t : Int)) = some (.int b) := by
      rw [ek]
      exact atI_nat (by rw [List.getElem?_map, hb]; rfl)
    refine ⟨_, rfl, _, rfl, C, _, _, _, rfl, rfl, SqL.of upd_same, atK, _, _, rfl, rfl, _, rfl, a, ns, 12, rfl, by decide, (s1.trans s19).seq hS, fun v3 => .inl ⟨_, rfl, _, _, rfl, rfl, (by show (0 : Int) < _; decide), _, _, rfl, rfl, .inl ⟨_, rfl, _, _, rfl, rfl, (by show (0 : Int) < _; decide), _, rfl, _, rfl, C, _, _, (nb w.length).length + t, rfl, rfl, upd_same, by rw [ek]; exact ixN_in (by rw [List.length_map]; exact kl), ?_⟩⟩⟩
    have nC : ∀ x o, H6 x = some o → x ≠ C := fun x o e => ne_of_none e hC
    have eC : (upd (upd H6 C (.lst ((datB D).map V.int))) C (.lst (((datB D).map V.int).set ((nb w.length).length + t) (.int ((b + 1 + v3 % 255) % 256))))) = upd H6 C (.lst ((nb w.length ++ (w.set t ((b + 1 + v3 % 255) % 256) ++ (nb (sumB w).toNat ++ datB (D.drop 1)))).map V.int)) := by
      have e1 : ((datB D).map V.int).set ((nb w.length).length + t) (.int ((b + 1 + v3 % 255) % 256)) = ((datB D).set ((nb w.length).length + t) ((b + 1 + v3 % 255) % 256)).map V.int := by rw [List.map_set]
      rw [e1]
      have e2 : (datB D).set ((nb w.length).length + t) ((b + 1 + v3 % 255) % 256) = nb w.length ++ (w.set t ((b + 1 + v3 % 255) % 256) ++ (nb (sumB w).toNat ++ datB (D.drop 1))) := by
        rw [es]
        exact set_mid ht
      rw [e2]
      funext x
      by_cases z : x = C
      · rw [z, upd_same, upd_same]
      · rw [upd_ne z, upd_ne z, upd_ne z]
    have wl2 : (w.set t ((b + 1 + v3 % 255) % 256)).length = w.length := List.length_set
    generalize hy : w.set t ((b + 1 + v3 % 255) % 256) = w2 at eC wl2
    generalize hn : nb w.length ++ (w2 ++ (nb (sumB w).toNat ++ datB (D.drop 1))) = bs2 at eC
    have bl : bs2.length ≤ 2000000 := by
      have h1 : bs2.length = (datB D).length := by
        rw [← hn, es, List.length_append, List.length_append, List.length_append, List.length_append, List.length_append, List.length_append, wl2]
      omega
    have hC7 := (congrFun eC C).trans upd_same
    have s67 : Same H6 (upd (upd H6 C (.lst ((datB D).map V.int))) C (.lst (((datB D).map V.int).set ((nb w.length).length + t) (.int ((b + 1 + v3 % 255) % 256))))) := same_mut s9 hC
    have s77 := s58.trans s67
    have s17b := s4.trans s77
    refine ⟨_, rfl, _, rfl, ((nb w.length).length : Int), rfl, _, rfl, _, rfl, L, _, _, _, rfl, rfl, SqL.of (s77 _ _ hL2), at0, p0, _, rfl, .inl (SqL.of (s17b _ _ hp0)), _, _, rfl, rfl, (((nb w.length).length + w.length : Nat) : Int), by rw [List.length_map]; exact congrArg V.int (by omega), C, bs2.map V.int, rfl, SqL.of hC7, fun l3 hl3 => ?_⟩
    rw [cut_any]
    have e3 : (bs2.drop (nb w.length).length).take w.length = w2 := by
      rw [← hn, List.drop_left, ← wl2, List.take_left]
    rw [e3]
    have s8b := same_new (o := .lst (w2.map V.int)) hl3
    refine ⟨l3, w2, rfl, SqL.of upd_same, ?_⟩
    refine ⟨_, rfl, L, _, _, _, rfl, rfl, SqL.of (s8b _ _ (s77 _ _ hL2)), at0, p0, w, rfl, SqL.of (s8b _ _ (s17b _ _ hp0)), rfl, _, rfl, ite2 (fun c5 => ?_) (fun _ => q _)⟩
    have n5 : sumB w2 ≠ sumB w := fun z => by
      rw [z] at c5
      simp at c5
    refine ⟨_, rfl, C, bs2, 0, rfl, s8b _ _ hC7, bl, rres_none (rrB_changed (s := sumB w) (sumB_nn w).1 (w := w2) (r := datB (D.drop 1)) (by rw [List.drop_zero, ← hn, wl2]) n5) fun H9 s9 => ⟨rfl, ?_⟩⟩
    exact q _
end
set_option maxHeartbeats 0 in
theorem all_mk {l : PySem.W.OpenLaw} {w : World} {K : PySem.W.Frag} {h : Heap} {mg : Str → Option Value} {fa f1 f2 f3 f4 f5 f6 f7 f8 f9 f10 f11 f12 : Addr} {t_MODULUS : Nat} (X : K.In h) (G : h.Ns mainGlobals mg) (hfa : mg "law" = some (.ref fa))
    {od1 an1 od2 an2 od3 an3 od4 an4 od5 an5 od6 an6 od7 an7 od8 an8 od9 an9 od10 an10 od11 an11 od12 an12 : Option Addr} {sl1 sl2 sl3 sl4 sl5 sl6 sl7 sl8 sl9 sl10 sl11 sl12 : Array (Option Value)} {oc1 kV1 dc1 pm1 cd1 ct1 oc2 kV2 dc2 pm2 cd2 ct2 oc3 kV3 dc3 pm3 cd3 ct3 oc4 kV4 dc4 pm4 cd4 ct4 oc5 kV5 dc5 pm5 cd5 ct5 oc6 kV6 dc6 pm6 cd6 ct6 oc7 kV7 dc7 pm7 cd7 ct7 oc8 kV8 dc8 pm8 cd8 ct8 oc9 kV9 dc9 pm9 cd9 ct9 oc10 kV10 dc10 pm10 cd10 ct10 oc11 kV11 dc11 pm11 cd11 ct11 oc12 kV12 dc12 pm12 cd12 ct12 : Value}
    (a1 : PySem.W.nsIn K mainGlobals "_wall" = some (some (.ref f1))) (l1 : K.lookup f1 = some ⟨oc1, od1, .func (PySem.W.fnOf "_wall" "_wall" (defArgs sWall) (defBody sWall) (defScope sWall) .none kV1 dc1 pm1 an1 cd1 ct1), sl1⟩) (c1 : PySem.W.codeIn K cd1 "_wall" = true) (k1 : PySem.W.keepIn K (.ref f1) = true)
    (a2 : PySem.W.nsIn K mainGlobals "number_bytes" = some (some (.ref f2))) (l2 : K.lookup f2 = some ⟨oc2, od2, .func (PySem.W.fnOf "number_bytes" "number_bytes" (defArgs sNumberBytes) (defBody sNumberBytes) (defScope sNumberBytes) .none kV2 dc2 pm2 an2 cd2 ct2), sl2⟩) (c2 : PySem.W.codeIn K cd2 "number_bytes" = true) (k2 : PySem.W.keepIn K (.ref f2) = true)
    (a3 : PySem.W.nsIn K mainGlobals "sum_of" = some (some (.ref f3))) (l3 : K.lookup f3 = some ⟨oc3, od3, .func (PySem.W.fnOf "sum_of" "sum_of" (defArgs sSumOf) (defBody sSumOf) (defScope sSumOf) .none kV3 dc3 pm3 an3 cd3 ct3), sl3⟩) (c3 : PySem.W.codeIn K cd3 "sum_of" = true) (k3 : PySem.W.keepIn K (.ref f3) = true)
    (a4 : PySem.W.nsIn K mainGlobals "record_of" = some (some (.ref f4))) (l4 : K.lookup f4 = some ⟨oc4, od4, .func (PySem.W.fnOf "record_of" "record_of" (defArgs sRecordOf) (defBody sRecordOf) (defScope sRecordOf) .none kV4 dc4 pm4 an4 cd4 ct4), sl4⟩) (c4 : PySem.W.codeIn K cd4 "record_of" = true) (k4 : PySem.W.keepIn K (.ref f4) = true)
    (a5 : PySem.W.nsIn K mainGlobals "read_record" = some (some (.ref f5))) (l5 : K.lookup f5 = some ⟨oc5, od5, .func (PySem.W.fnOf "read_record" "read_record" (defArgs sReadRecord) (defBody sReadRecord) (defScope sReadRecord) .none kV5 dc5 pm5 an5 cd5 ct5), sl5⟩) (c5 : PySem.W.codeIn K cd5 "read_record" = true) (k5 : PySem.W.keepIn K (.ref f5) = true)
    (a6 : PySem.W.nsIn K mainGlobals "_law_cell" = some (some (.ref f6))) (l6 : K.lookup f6 = some ⟨oc6, od6, .func (PySem.W.fnOf "_law_cell" "_law_cell" (defArgs sLawCell) (defBody sLawCell) (defScope sLawCell) .none kV6 dc6 pm6 an6 cd6 ct6), sl6⟩) (c6 : PySem.W.codeIn K cd6 "_law_cell" = true) (k6 : PySem.W.keepIn K (.ref f6) = true)
    (a7 : PySem.W.nsIn K mainGlobals "_law_digits" = some (some (.ref f7))) (l7 : K.lookup f7 = some ⟨oc7, od7, .func (PySem.W.fnOf "_law_digits" "_law_digits" (defArgs sLawDigits) (defBody sLawDigits) (defScope sLawDigits) .none kV7 dc7 pm7 an7 cd7 ct7), sl7⟩) (c7 : PySem.W.codeIn K cd7 "_law_digits" = true) (k7 : PySem.W.keepIn K (.ref f7) = true)
    (a8 : PySem.W.nsIn K mainGlobals "_law_number" = some (some (.ref f8))) (l8 : K.lookup f8 = some ⟨oc8, od8, .func (PySem.W.fnOf "_law_number" "_law_number" (defArgs sLawNumber) (defBody sLawNumber) (defScope sLawNumber) .none kV8 dc8 pm8 an8 cd8 ct8), sl8⟩) (c8 : PySem.W.codeIn K cd8 "_law_number" = true) (k8 : PySem.W.keepIn K (.ref f8) = true)
    (a9 : PySem.W.nsIn K mainGlobals "_law_sum" = some (some (.ref f9))) (l9 : K.lookup f9 = some ⟨oc9, od9, .func (PySem.W.fnOf "_law_sum" "_law_sum" (defArgs sLawSum) (defBody sLawSum) (defScope sLawSum) .none kV9 dc9 pm9 an9 cd9 ct9), sl9⟩) (c9 : PySem.W.codeIn K cd9 "_law_sum" = true) (k9 : PySem.W.keepIn K (.ref f9) = true)
    (a10 : PySem.W.nsIn K mainGlobals "_law_record" = some (some (.ref f10))) (l10 : K.lookup f10 = some ⟨oc10, od10, .func (PySem.W.fnOf "_law_record" "_law_record" (defArgs sLawRecord) (defBody sLawRecord) (defScope sLawRecord) .none kV10 dc10 pm10 an10 cd10 ct10), sl10⟩) (c10 : PySem.W.codeIn K cd10 "_law_record" = true) (k10 : PySem.W.keepIn K (.ref f10) = true)
    (a11 : PySem.W.nsIn K mainGlobals "_law_bodies" = some (some (.ref f11))) (l11 : K.lookup f11 = some ⟨oc11, od11, .func (PySem.W.fnOf "_law_bodies" "_law_bodies" (defArgs sLawBodies) (defBody sLawBodies) (defScope sLawBodies) .none kV11 dc11 pm11 an11 cd11 ct11), sl11⟩) (c11 : PySem.W.codeIn K cd11 "_law_bodies" = true) (k11 : PySem.W.keepIn K (.ref f11) = true)
    (a12 : PySem.W.nsIn K mainGlobals "law" = some (some (.ref f12))) (l12 : K.lookup f12 = some ⟨oc12, od12, .func (PySem.W.fnOf "law" "law" (defArgs sLaw) (defBody sLaw) (defScope sLaw) .none kV12 dc12 pm12 an12 cd12 ct12), sl12⟩) (c12 : PySem.W.codeIn K cd12 "law" = true) (k12 : PySem.W.keepIn K (.ref f12) = true)
    (z_range : PySem.W.nsIn K mainGlobals "range" = some none)
    (z_len : PySem.W.nsIn K mainGlobals "len" = some none)
    (z_reversed : PySem.W.nsIn K mainGlobals "reversed" = some none)
    (z_int : PySem.W.nsIn K mainGlobals "int" = some none)
    (z_list : PySem.W.nsIn K mainGlobals "list" = some none)
    (x_MODULUS : PySem.W.nsIn K mainGlobals "MODULUS" = some (some (.int 65521 t_MODULUS)))
    {cReader : Addr} (kaReader : PySem.W.nsIn K mainGlobals "Reader" = some (some (.ref cReader))) (kbReader : PySem.W.plainGet K cReader Str.empty = true) (kcReader : PySem.W.hasDictIn K cReader = true) (kdReader : PySem.W.plainOver K cReader = true) (keReader : PySem.W.findIn K (.ref cReader) "__setattr__" = some (some (.builtin "object.__setattr__"))) (kfReader : PySem.W.makesIn K cReader = true) (kgReader : PySem.W.keepIn K (.ref cReader) = true)
    {fReader_Init : Addr} {oc_Reader_Init kV_Reader_Init dc_Reader_Init pm_Reader_Init cd_Reader_Init ct_Reader_Init : Value} {od_Reader_Init an_Reader_Init : Option Addr} {sl_Reader_Init : Array (Option Value)}
    (miReader_Init : PySem.W.findIn K (.ref cReader) "__init__" = some (some (.ref fReader_Init))) (mfReader_Init : PySem.W.isFn K (.ref fReader_Init) = true) (mkReader_Init : PySem.W.keepIn K (.ref fReader_Init) = true)
    (mlReader_Init : K.lookup fReader_Init = some ⟨oc_Reader_Init, od_Reader_Init, .func (PySem.W.fnOf "__init__" "Reader.__init__" (defArgs sReader_Init) (defBody sReader_Init) (defScope sReader_Init) .none kV_Reader_Init dc_Reader_Init pm_Reader_Init an_Reader_Init cd_Reader_Init ct_Reader_Init), sl_Reader_Init⟩) (mdReader_Init : PySem.W.codeIn K cd_Reader_Init "Reader.__init__" = true)
    {fReader_Integer : Addr} {oc_Reader_Integer kV_Reader_Integer dc_Reader_Integer pm_Reader_Integer cd_Reader_Integer ct_Reader_Integer : Value} {od_Reader_Integer an_Reader_Integer : Option Addr} {sl_Reader_Integer : Array (Option Value)}
    (miReader_Integer : PySem.W.findIn K (.ref cReader) "integer" = some (some (.ref fReader_Integer))) (mfReader_Integer : PySem.W.isFn K (.ref fReader_Integer) = true) (mkReader_Integer : PySem.W.keepIn K (.ref fReader_Integer) = true)
    (mlReader_Integer : K.lookup fReader_Integer = some ⟨oc_Reader_Integer, od_Reader_Integer, .func (PySem.W.fnOf "integer" "Reader.integer" (defArgs sReader_Integer) (defBody sReader_Integer) (defScope sReader_Integer) .none kV_Reader_Integer dc_Reader_Integer pm_Reader_Integer an_Reader_Integer cd_Reader_Integer ct_Reader_Integer), sl_Reader_Integer⟩) (mdReader_Integer : PySem.W.codeIn K cd_Reader_Integer "Reader.integer" = true)
    {fReader_Number : Addr} {oc_Reader_Number kV_Reader_Number dc_Reader_Number pm_Reader_Number cd_Reader_Number ct_Reader_Number : Value} {od_Reader_Number an_Reader_Number : Option Addr} {sl_Reader_Number : Array (Option Value)}
    (miReader_Number : PySem.W.findIn K (.ref cReader) "number" = some (some (.ref fReader_Number))) (mfReader_Number : PySem.W.isFn K (.ref fReader_Number) = true) (mkReader_Number : PySem.W.keepIn K (.ref fReader_Number) = true)
    (mlReader_Number : K.lookup fReader_Number = some ⟨oc_Reader_Number, od_Reader_Number, .func (PySem.W.fnOf "number" "Reader.number" (defArgs sReader_Number) (defBody sReader_Number) (defScope sReader_Number) .none kV_Reader_Number dc_Reader_Number pm_Reader_Number an_Reader_Number cd_Reader_Number ct_Reader_Number), sl_Reader_Number⟩) (mdReader_Number : PySem.W.codeIn K cd_Reader_Number "Reader.number" = true)
    {fReader_Choice : Addr} {oc_Reader_Choice kV_Reader_Choice dc_Reader_Choice pm_Reader_Choice cd_Reader_Choice ct_Reader_Choice : Value} {od_Reader_Choice an_Reader_Choice : Option Addr} {sl_Reader_Choice : Array (Option Value)}
    (miReader_Choice : PySem.W.findIn K (.ref cReader) "choice" = some (some (.ref fReader_Choice))) (mfReader_Choice : PySem.W.isFn K (.ref fReader_Choice) = true) (mkReader_Choice : PySem.W.keepIn K (.ref fReader_Choice) = true)
    (mlReader_Choice : K.lookup fReader_Choice = some ⟨oc_Reader_Choice, od_Reader_Choice, .func (PySem.W.fnOf "choice" "Reader.choice" (defArgs sReader_Choice) (defBody sReader_Choice) (defScope sReader_Choice) .none kV_Reader_Choice dc_Reader_Choice pm_Reader_Choice an_Reader_Choice cd_Reader_Choice ct_Reader_Choice), sl_Reader_Choice⟩) (mdReader_Choice : PySem.W.codeIn K cd_Reader_Choice "Reader.choice" = true)
    {fReader_Part : Addr} {oc_Reader_Part kV_Reader_Part dc_Reader_Part pm_Reader_Part cd_Reader_Part ct_Reader_Part : Value} {od_Reader_Part an_Reader_Part : Option Addr} {sl_Reader_Part : Array (Option Value)}
    (miReader_Part : PySem.W.findIn K (.ref cReader) "part" = some (some (.ref fReader_Part))) (mfReader_Part : PySem.W.isFn K (.ref fReader_Part) = true) (mkReader_Part : PySem.W.keepIn K (.ref fReader_Part) = true)
    (mlReader_Part : K.lookup fReader_Part = some ⟨oc_Reader_Part, od_Reader_Part, .func (PySem.W.fnOf "part" "Reader.part" (defArgs sReader_Part) (defBody sReader_Part) (defScope sReader_Part) .none kV_Reader_Part dc_Reader_Part pm_Reader_Part an_Reader_Part cd_Reader_Part ct_Reader_Part), sl_Reader_Part⟩) (mdReader_Part : PySem.W.codeIn K cd_Reader_Part "Reader.part" = true)
    (knReader_source : PySem.W.findIn K (.ref cReader) "source" = some none)
    (knReader_at : PySem.W.findIn K (.ref cReader) "at" = some none)
    (knReader_room : PySem.W.findIn K (.ref cReader) "room" = some none)
    {cTableError : Addr} (yaTableError : PySem.W.nsIn K mainGlobals "TableError" = some (some (.ref cTableError))) (ytTableError : PySem.W.typeIn K (.ref cTableError) = some (.type "type")) (yhTableError : PySem.W.hasDictIn K cTableError = true) (yeTableError : PySem.W.subIn K (.ref cTableError) (.type "BaseException") = some true)
    {cInvalidBytes : Addr} (yaInvalidBytes : PySem.W.nsIn K mainGlobals "InvalidBytes" = some (some (.ref cInvalidBytes))) (ytInvalidBytes : PySem.W.typeIn K (.ref cInvalidBytes) = some (.type "type")) (yhInvalidBytes : PySem.W.hasDictIn K cInvalidBytes = true) (yeInvalidBytes : PySem.W.subIn K (.ref cInvalidBytes) (.type "BaseException") = some true)
    {nm_InvalidBytes qn_InvalidBytes : Str} {N_InvalidBytes : Addr} {bs_InvalidBytes : List Value} {sn_InvalidBytes : List Str} {sb_InvalidBytes : List Value} {ab_InvalidBytes : Bool} {co_InvalidBytes : Option Bool} {dd_InvalidBytes : Option Addr} {m0_InvalidBytes m1_InvalidBytes m2_InvalidBytes m3_InvalidBytes m5_InvalidBytes : Option Value}
    (ycInvalidBytes : K.lookup cInvalidBytes = some (excClassObj nm_InvalidBytes qn_InvalidBytes cInvalidBytes N_InvalidBytes bs_InvalidBytes [.ref cTableError, .type "ValueError", .type "Exception", .type "BaseException", .type "object"] true sn_InvalidBytes sb_InvalidBytes ab_InvalidBytes co_InvalidBytes dd_InvalidBytes m0_InvalidBytes m1_InvalidBytes m2_InvalidBytes m3_InvalidBytes m5_InvalidBytes "ValueError.__new__"))
    (y1InvalidBytes : PySem.W.findIn K (.ref cInvalidBytes) "__setattr__" = some (some (.builtin "object.__setattr__"))) (y2InvalidBytes : PySem.W.findIn K (.ref cInvalidBytes) "__getattribute__" = some (some (.builtin "BaseException.__getattribute__"))) (y3InvalidBytes : PySem.W.findIn K (.ref cInvalidBytes) "__getattr__" = some none)
    (y4InvalidBytes : PySem.W.findIn K (.ref cInvalidBytes) "__class__" = some (some (.builtin "object.__class__"))) (y5InvalidBytes : PySem.W.specialIn K (.builtin "object.__class__") "__get__" = some (some (.builtin "getset_descriptor.__get__"))) (y6InvalidBytes : PySem.W.takesIn K (.builtin "object.__class__") = some true) (y7InvalidBytes : PySem.W.mroIn K cInvalidBytes (.type "object") = some true) (y8InvalidBytes : PySem.W.isClsIn K cInvalidBytes = true) (y9InvalidBytes : PySem.W.keepIn K (.ref cInvalidBytes) = true)
    {fInvalidBytes_Init : Addr} (yiInvalidBytes : PySem.W.findIn K (.ref cInvalidBytes) "__init__" = some (some (.ref fInvalidBytes_Init))) (yjInvalidBytes : PySem.W.typeIn K (.ref fInvalidBytes_Init) = some (.type "function"))
    {oc_InvalidBytes kV_InvalidBytes dc_InvalidBytes pm_InvalidBytes cd_InvalidBytes ct_InvalidBytes : Value} {od_InvalidBytes an_InvalidBytes : Option Addr} {sl_InvalidBytes : Array (Option Value)}
    (ylInvalidBytes : K.lookup fInvalidBytes_Init = some ⟨oc_InvalidBytes, od_InvalidBytes, .func (PySem.W.fnOf "__init__" "InvalidBytes.__init__" (defArgs sInvalidBytes_Init) (defBody sInvalidBytes_Init) (defScope sInvalidBytes_Init) .none kV_InvalidBytes dc_InvalidBytes pm_InvalidBytes an_InvalidBytes cd_InvalidBytes ct_InvalidBytes), sl_InvalidBytes⟩) (ydInvalidBytes : PySem.W.codeIn K cd_InvalidBytes "InvalidBytes.__init__" = true) (ykInvalidBytes : PySem.W.keepIn K (.ref fInvalidBytes_Init) = true)
    (ynInvalidBytes_at : PySem.W.findIn K (.ref cInvalidBytes) "at" = some none)
    (ysInvalidBytes_TableError : PySem.W.subIn K (.ref cInvalidBytes) (.ref cTableError) = some true)
    (ysInvalidBytes_InvalidBytes : PySem.W.subIn K (.ref cInvalidBytes) (.ref cInvalidBytes) = some true)
    : ∃ fd : FuncData, (∀ (s : Shared) (v : Value), BindsTo s fd ⟨[v], []⟩ [("script", v)]) ∧ ∀ base : Heap, K.In base → base.Ns mainGlobals mg → FnOk l.prog w K mg base CX0 5 fa fd ["script"] (spLaw K) := by
  have e := hfa.symm.trans (PySem.W.mg_of X G a12)
  cases e
  have F1 := fun_mk (st := sWall) l1 c1 k1
  have b1 := F1.binds (ps := ["k"]) fun _ _ _ _ _ _ us hl => match us, hl with | [_], _ => rfl
  have F2 := fun_mk (st := sNumberBytes) l2 c2 k2
  have b2 := F2.binds (ps := ["n"]) fun _ _ _ _ _ _ us hl => match us, hl with | [_], _ => rfl
  have F3 := fun_mk (st := sSumOf) l3 c3 k3
  have b3 := F3.binds (ps := ["data"]) fun _ _ _ _ _ _ us hl => match us, hl with | [_], _ => rfl
  have F4 := fun_mk (st := sRecordOf) l4 c4 k4
  have b4 := F4.binds (ps := ["body"]) fun _ _ _ _ _ _ us hl => match us, hl with | [_], _ => rfl
  have F5 := fun_mk (st := sReadRecord) l5 c5 k5
  have b5 := F5.binds (ps := ["data", "at"]) fun _ _ _ _ _ _ us hl => match us, hl with | [_, _], _ => rfl
  have F6 := fun_mk (st := sLawCell) l6 c6 k6
  have b6 := F6.binds (ps := ["script", "k"]) fun _ _ _ _ _ _ us hl => match us, hl with | [_, _], _ => rfl
  have F7 := fun_mk (st := sLawDigits) l7 c7 k7
  have b7 := F7.binds (ps := ["cell", "k", "most"]) fun _ _ _ _ _ _ us hl => match us, hl with | [_, _, _], _ => rfl
  have F8 := fun_mk (st := sLawNumber) l8 c8 k8
  have b8 := F8.binds (ps := ["n"]) fun _ _ _ _ _ _ us hl => match us, hl with | [_], _ => rfl
  have F9 := fun_mk (st := sLawSum) l9 c9 k9
  have b9 := F9.binds (ps := ["data"]) fun _ _ _ _ _ _ us hl => match us, hl with | [_], _ => rfl
  have F10 := fun_mk (st := sLawRecord) l10 c10 k10
  have b10 := F10.binds (ps := ["body"]) fun _ _ _ _ _ _ us hl => match us, hl with | [_], _ => rfl
  have F11 := fun_mk (st := sLawBodies) l11 c11 k11
  have b11 := F11.binds (ps := ["script"]) fun _ _ _ _ _ _ us hl => match us, hl with | [_], _ => rfl
  have F12 := fun_mk (st := sLaw) l12 c12 k12
  have b12 := F12.binds (ps := ["script"]) fun _ _ _ _ _ _ us hl => match us, hl with | [_], _ => rfl
  have FReader_Init := fun_mk (st := sReader_Init) mlReader_Init mdReader_Init mkReader_Init
  have bReader_Init := FReader_Init.binds (ps := ["self", "data"]) fun _ _ _ _ _ _ us hl => match us, hl with | [_, _], _ => rfl
  have FReader_Integer := fun_mk (st := sReader_Integer) mlReader_Integer mdReader_Integer mkReader_Integer
  have bReader_Integer := FReader_Integer.binds (ps := ["self"]) fun _ _ _ _ _ _ us hl => match us, hl with | [_], _ => rfl
  have FReader_Number := fun_mk (st := sReader_Number) mlReader_Number mdReader_Number mkReader_Number
  have bReader_Number := FReader_Number.binds (ps := ["self", "least", "most"]) fun _ _ _ _ _ _ us hl => match us, hl with | [_, _, _], _ => rfl
  have FReader_Choice := fun_mk (st := sReader_Choice) mlReader_Choice mdReader_Choice mkReader_Choice
  have bReader_Choice := FReader_Choice.binds (ps := ["self", "words"]) fun _ _ _ _ _ _ us hl => match us, hl with | [_, _], _ => rfl
  have FReader_Part := fun_mk (st := sReader_Part) mlReader_Part mdReader_Part mkReader_Part
  have bReader_Part := FReader_Part.binds (ps := ["self", "most"]) fun _ _ _ _ _ _ us hl => match us, hl with | [_, _], _ => rfl
  have FInvalidBytes_Init := fun_mk (st := sInvalidBytes_Init) ylInvalidBytes ydInvalidBytes ykInvalidBytes
  have bInvalidBytes_Init := FInvalidBytes_Init.binds (ps := ["self", "at"]) fun _ _ _ _ _ _ us hl => match us, hl with | [_, _], _ => rfl
  exact ⟨PySem.W.fnOf "law" "law" (defArgs sLaw) (defBody sLaw) (defScope sLaw) .none kV12 dc12 pm12 an12 cd12 ct12, fun s v => .of_eq rfl, fun base _ _ => okLaw (P := l.prog) (w := w) (base := base) (⟨f1, _, F1, b1, PySem.W.mg_of X G a1, f2, _, F2, b2, PySem.W.mg_of X G a2, f3, _, F3, b3, PySem.W.mg_of X G a3, f4, _, F4, b4, PySem.W.mg_of X G a4, f5, _, F5, b5, PySem.W.mg_of X G a5, f6, _, F6, b6, PySem.W.mg_of X G a6, f7, _, F7, b7, PySem.W.mg_of X G a7, f8, _, F8, b8, PySem.W.mg_of X G a8, f9, _, F9, b9, PySem.W.mg_of X G a9, f10, _, F10, b10, PySem.W.mg_of X G a10, f11, _, F11, b11, PySem.W.mg_of X G a11, fa, _, F12, b12, PySem.W.mg_of X G a12, PySem.W.mg_none_of X G z_range, PySem.W.mg_none_of X G z_len, PySem.W.mg_none_of X G z_reversed, PySem.W.mg_none_of X G z_int, PySem.W.mg_none_of X G z_list, t_MODULUS, PySem.W.mg_of X G x_MODULUS, cReader, PySem.W.mg_of X G kaReader, ⟨kbReader, kcReader, kdReader, keReader⟩, fReader_Init, _, FReader_Init, bReader_Init, ⟨miReader_Init, mfReader_Init, mkReader_Init⟩, fReader_Integer, _, FReader_Integer, bReader_Integer, ⟨miReader_Integer, mfReader_Integer, mkReader_Integer⟩, fReader_Number, _, FReader_Number, bReader_Number, ⟨miReader_Number, mfReader_Number, mkReader_Number⟩, fReader_Choice, _, FReader_Choice, bReader_Choice, ⟨miReader_Choice, mfReader_Choice, mkReader_Choice⟩, fReader_Part, _, FReader_Part, bReader_Part, ⟨miReader_Part, mfReader_Part, mkReader_Part⟩, ⟨kfReader, miReader_Init, mfReader_Init, kgReader⟩, knReader_source, knReader_at, knReader_room, cTableError, PySem.W.mg_of X G yaTableError, cInvalidBytes, PySem.W.mg_of X G yaInvalidBytes, ⟨⟨_, _, _, _, _, _, _, _, _, _, _, _, _, _, _, ycInvalidBytes, by first | rfl | decide +kernel⟩, y1InvalidBytes, yeInvalidBytes, ytInvalidBytes, y9InvalidBytes⟩, ⟨y2InvalidBytes, y3InvalidBytes, yeInvalidBytes, yhInvalidBytes⟩, ⟨y8InvalidBytes, ⟨y2InvalidBytes, y3InvalidBytes, yeInvalidBytes, yhInvalidBytes⟩, y4InvalidBytes, y5InvalidBytes, y6InvalidBytes, y7InvalidBytes⟩, fInvalidBytes_Init, _, FInvalidBytes_Init, bInvalidBytes_Init, yiInvalidBytes, yjInvalidBytes, ynInvalidBytes_at, PySem.W.exm_ref yeTableError yhTableError ytTableError ysInvalidBytes_TableError, PySem.W.exm_ref yeInvalidBytes yhInvalidBytes ytInvalidBytes ysInvalidBytes_InvalidBytes, kit_self⟩ : Txt K mg)⟩
theorem walk {l : PySem.W.OpenLaw} {q : Program} {loose : List Str} {XP : (Str → Option Value) → Heap → Prop} {YP : World → Heap → Prop} {d : DefRec} {K : Params → PySem.W.Frag} (hn : l.most = some 63) (hdf : d.params.defaults = [])
    (hY : ∀ (w : World) (h : Heap), YP w h → (K w.params).In h)
    (F : ∀ (w : World) (mg : Str → Option Value) (fa : Addr) (h : Heap), (K w.params).In h → h.Ns mainGlobals mg → mg d.name = some (.ref fa) →
      ∃ fd : FuncData, (∀ (s : Shared) (u : Value), BindsTo s fd ⟨[u], []⟩ [("script", u)]) ∧ ∀ base : Heap, (K w.params).In base → base.Ns mainGlobals mg → FnOk l.prog w (K w.params) mg base CX0 5 fa fd ["script"] (spLaw (K w.params))) :
    PySem.W.WalkO q loose XP YP l.row.toRowW d [] (fun f vs => PySem.call f vs) :=
  L2.walk_of (n := 63) (k := 5) (x := "script") (CX := fun _ => CX0) (sp := fun w => spLaw (K w.params)) hn (by decide) hdf ⟨rfl, by decide, by decide⟩ hY F (fun _ _ a ns hl _ hS => ⟨a, ns, rfl, hS, hl, fun _ => rfl⟩) fun _ _ _ _ _ z => z
end My
open PySem PySem.W PyProof.Rows
set_option maxRecDepth 100000 in
set_option maxHeartbeats 0 in
theorem PySem.Challenge.cw_tablemates_k67_records_are_read_holds : PySem.Challenge.rw_tablemates_k67_records_are_read.Holds := by
  w_on; o_law; k_head; (case hw => w_witness2)
  k_fill
  refine My.walk (l := PySem.Challenge.rw_tablemates_k67_records_are_read) rfl rfl (fun w h Y => PySem.W.kIn_of Y) ?F
  case F =>
    intro w mg fa h KX G hmg
    refine' My.all_mk KX G hmg ?a1 ?l1 ?c1 ?k1 ?a2 ?l2 ?c2 ?k2 ?a3 ?l3 ?c3 ?k3 ?a4 ?l4 ?c4 ?k4 ?a5 ?l5 ?c5 ?k5 ?a6 ?l6 ?c6 ?k6 ?a7 ?l7 ?c7 ?k7 ?a8 ?l8 ?c8 ?k8 ?a9 ?l9 ?c9 ?k9 ?a10 ?l10 ?c10 ?k10 ?a11 ?l11 ?c11 ?k11 ?a12 ?l12 ?c12 ?k12 ?z_range ?z_len ?z_reversed ?z_int ?z_list ?x_MODULUS ?kaReader ?kbReader ?kcReader ?kdReader ?keReader ?kfReader ?kgReader ?miReader_Init ?mfReader_Init ?mkReader_Init ?mlReader_Init ?mdReader_Init ?miReader_Integer ?mfReader_Integer ?mkReader_Integer ?mlReader_Integer ?mdReader_Integer ?miReader_Number ?mfReader_Number ?mkReader_Number ?mlReader_Number ?mdReader_Number ?miReader_Choice ?mfReader_Choice ?mkReader_Choice ?mlReader_Choice ?mdReader_Choice ?miReader_Part ?mfReader_Part ?mkReader_Part ?mlReader_Part ?mdReader_Part ?knReader_source ?knReader_at ?knReader_room ?yaTableError ?ytTableError ?yhTableError ?yeTableError ?yaInvalidBytes ?ytInvalidBytes ?yhInvalidBytes ?yeInvalidBytes ?ycInvalidBytes ?y1InvalidBytes ?y2InvalidBytes ?y3InvalidBytes ?y4InvalidBytes ?y5InvalidBytes ?y6InvalidBytes ?y7InvalidBytes ?y8InvalidBytes ?y9InvalidBytes ?yiInvalidBytes ?yjInvalidBytes ?ylInvalidBytes ?ydInvalidBytes ?ykInvalidBytes ?ynInvalidBytes_at ?ysInvalidBytes_TableError ?ysInvalidBytes_InvalidBytes
    (case a1 => k_is); (case l1 => k_is); (case c1 => k_is); (case k1 => k_is); (case a2 => k_is); (case l2 => k_is); (case c2 => k_is); (case k2 => k_is); (case a3 => k_is); (case l3 => k_is); (case c3 => k_is); (case k3 => k_is); (case a4 => k_is); (case l4 => k_is); (case c4 => k_is); (case k4 => k_is); (case a5 => k_is); (case l5 => k_is); (case c5 => k_is); (case k5 => k_is); (case a6 => k_is); (case l6 => k_is); (case c6 => k_is); (case k6 => k_is); (case a7 => k_is); (case l7 => k_is); (case c7 => k_is); (case k7 => k_is); (case a8 => k_is); (case l8 => k_is); (case c8 => k_is); (case k8 => k_is); (case a9 => k_is); (case l9 => k_is); (case c9 => k_is); (case k9 => k_is); (case a10 => k_is); (case l10 => k_is); (case c10 => k_is); (case k10 => k_is); (case a11 => k_is); (case l11 => k_is); (case c11 => k_is); (case k11 => k_is); (case a12 => k_is); (case l12 => k_is); (case c12 => k_is); (case k12 => k_is); (case z_range => k_is); (case z_len => k_is); (case z_reversed => k_is); (case z_int => k_is); (case z_list => k_is); (case x_MODULUS => k_is); (case kaReader => k_is); (case kbReader => k_is); (case kcReader => k_is); (case kdReader => k_is); (case keReader => k_is); (case kfReader => k_is); (case kgReader => k_is); (case miReader_Init => k_is); (case mfReader_Init => k_is); (case mkReader_Init => k_is); (case mlReader_Init => k_is); (case mdReader_Init => k_is); (case miReader_Integer => k_is); (case mfReader_Integer => k_is); (case mkReader_Integer => k_is); (case mlReader_Integer => k_is); (case mdReader_Integer => k_is); (case miReader_Number => k_is); (case mfReader_Number => k_is); (case mkReader_Number => k_is); (case mlReader_Number => k_is); (case mdReader_Number => k_is); (case miReader_Choice => k_is); (case mfReader_Choice => k_is); (case mkReader_Choice => k_is); (case mlReader_Choice => k_is); (case mdReader_Choice => k_is); (case miReader_Part => k_is); (case mfReader_Part => k_is); (case mkReader_Part => k_is); (case mlReader_Part => k_is); (case mdReader_Part => k_is); (case knReader_source => k_is); (case knReader_at => k_is); (case knReader_room => k_is); (case yaTableError => k_is); (case ytTableError => k_is); (case yhTableError => k_is); (case yeTableError => k_is); (case yaInvalidBytes => k_is); (case ytInvalidBytes => k_is); (case yhInvalidBytes => k_is); (case yeInvalidBytes => k_is); (case ycInvalidBytes => k_is); (case y1InvalidBytes => k_is); (case y2InvalidBytes => k_is); (case y3InvalidBytes => k_is); (case y4InvalidBytes => k_is); (case y5InvalidBytes => k_is); (case y6InvalidBytes => k_is); (case y7InvalidBytes => k_is); (case y8InvalidBytes => k_is); (case y9InvalidBytes => k_is); (case yiInvalidBytes => k_is); (case yjInvalidBytes => k_is); (case ylInvalidBytes => k_is); (case ydInvalidBytes => k_is); (case ykInvalidBytes => k_is); (case ynInvalidBytes_at => k_is); (case ysInvalidBytes_TableError => first | rfl | k_is | kit_is); (case ysInvalidBytes_InvalidBytes => first | rfl | k_is | kit_is)

import PyProof.Rows.All
import Wide.All
import OpenK.AllK
import Wide.FinOn
import HandS.ForMost
import HandS.Zip
import HandS.Walk
import HandS.Gcd
import HandS.Wide
import HandS.IsInst
import HandS.Codes
import HandS.StrMore
import HandS.WordsExc
import KE.IntTextText
import HandS.CallLocal
import PySem.Challenge.RW_tablemates_k08_trees
set_option Elab.async false
set_option linter.all false
set_option maxRecDepth 100000
namespace My
open PySem PySem.Spec PyProof.Rows L2 RZ
def topS (i : Nat) : Stmt := PySem.Challenge.pw_tablemates_k08_trees.main.body.getD i (.Pass ⟨0, 0, 0, 0⟩)
abbrev sIsNameWord : Stmt := topS 6
abbrev sSize : Stmt := topS 7
abbrev sNamedCells : Stmt := topS 8
abbrev sAreasOf : Stmt := topS 9
abbrev sMappedAreas : Stmt := topS 10
abbrev sMapped : Stmt := topS 11
abbrev sLawCell : Stmt := topS 13
abbrev sLawDigits : Stmt := topS 14
abbrev sLawDraw : Stmt := topS 15
abbrev sLawGcd : Stmt := topS 16
abbrev sLawLowest : Stmt := topS 17
abbrev sLawDigitText : Stmt := topS 18
abbrev sLawAddress : Stmt := topS 19
abbrev sLawWord : Stmt := topS 20
abbrev sLawLeaf : Stmt := topS 21
abbrev sLawArea : Stmt := topS 22
abbrev sLawInside : Stmt := topS 23
abbrev sLawCall : Stmt := topS 24
abbrev sLawNode : Stmt := topS 25
abbrev sLawSame : Stmt := topS 26
abbrev sLawSize : Stmt := topS 27
abbrev sLawCells : Stmt := topS 28
abbrev sLawAreas : Stmt := topS 29
abbrev sLawDown : Stmt := topS 30
abbrev sLawMore : Stmt := topS 31
abbrev sLawMapped : Stmt := topS 32
abbrev sLawIsWord : Stmt := topS 33
abbrev sLaw : Stmt := topS 34
theorem scIsNameWord : FnScope ["text", "character"] ["text"] (defScope sIsNameWord) := ⟨rfl, rfl, rfl, by decide +kernel, rfl, by decide +kernel, by decide +kernel⟩
theorem scSize : FnScope ["tree"] ["tree"] (defScope sSize) := ⟨rfl, rfl, rfl, by decide +kernel, rfl, by decide +kernel, by decide +kernel⟩
theorem scNamedCells : FnScope ["tree"] ["tree"] (defScope sNamedCells) := ⟨rfl, rfl, rfl, by decide +kernel, rfl, by decide +kernel, by decide +kernel⟩
theorem scAreasOf : FnScope ["tree"] ["tree"] (defScope sAreasOf) := ⟨rfl, rfl, rfl, by decide +kernel, rfl, by decide +kernel, by decide +kernel⟩
theorem scMappedAreas : FnScope ["areas", "area", "found", "old"] ["areas", "area"] (defScope sMappedAreas) := ⟨rfl, rfl, rfl, by decide +kernel, rfl, by decide +kernel, by decide +kernel⟩
theorem scMapped : FnScope ["tree", "cell", "area"] ["tree", "cell", "area"] (defScope sMapped) := ⟨rfl, rfl, rfl, by decide +kernel, rfl, by decide +kernel, by decide +kernel⟩
theorem scLawCell : FnScope ["script", "k"] ["script", "k"] (defScope sLawCell) := ⟨rfl, rfl, rfl, by decide +kernel, rfl, by decide +kernel, by decide +kernel⟩
theorem scLawDigits : FnScope ["script", "first", "last", "digits", "k", "cell", "turn", "seed"] ["script", "first", "last"] (defScope sLawDigits) := ⟨rfl, rfl, rfl, by decide +kernel, rfl, by decide +kernel, by decide +kernel⟩
theorem scLawDraw : FnScope ["box", "many", "at"] ["box", "many"] (defScope sLawDraw) := ⟨rfl, rfl, rfl, by decide +kernel, rfl, by decide +kernel, by decide +kernel⟩
theorem scLawGcd : FnScope ["a", "b", "turn", "rest"] ["a", "b"] (defScope sLawGcd) := ⟨rfl, rfl, rfl, by decide +kernel, rfl, by decide +kernel, by decide +kernel⟩
theorem scLawLowest : FnScope ["n", "d", "common"] ["n", "d"] (defScope sLawLowest) := ⟨rfl, rfl, rfl, by decide +kernel, rfl, by decide +kernel, by decide +kernel⟩
theorem scLawDigitText : FnScope ["box", "many", "text", "k"] ["box", "many"] (defScope sLawDigitText) := ⟨rfl, rfl, rfl, by decide +kernel, rfl, by decide +kernel, by decide +kernel⟩
theorem scLawAddress : FnScope ["row", "column", "letters", "text"] ["row", "column"] (defScope sLawAddress) := ⟨rfl, rfl, rfl, by decide +kernel, rfl, by decide +kernel, by decide +kernel⟩
theorem scLawWord : FnScope ["box", "letters", "word", "k"] ["box"] (defScope sLawWord) := ⟨rfl, rfl, rfl, by decide +kernel, rfl, by decide +kernel, by decide +kernel⟩
theorem scLawLeaf : FnScope ["box", "rows", "columns", "kind", "whole", "more", "row", "column"] ["box", "rows", "columns"] (defScope sLawLeaf) := ⟨rfl, rfl, rfl, by decide +kernel, rfl, by decide +kernel, by decide +kernel⟩
theorem scLawArea : FnScope ["box", "rows", "columns", "kind", "word", "row", "column", "other", "side", "block"] ["box", "rows", "columns"] (defScope sLawArea) := ⟨rfl, rfl, rfl, by decide +kernel, rfl, by decide +kernel, by decide +kernel⟩
theorem scLawInside : FnScope ["box", "node", "least"] ["box", "node", "least"] (defScope sLawInside) := ⟨rfl, rfl, rfl, by decide +kernel, rfl, by decide +kernel, by decide +kernel⟩
theorem scLawCall : FnScope ["box", "rows", "columns", "name", "areas", "texts", "k", "area"] ["box", "rows", "columns"] (defScope sLawCall) := ⟨rfl, rfl, rfl, by decide +kernel, rfl, by decide +kernel, by decide +kernel⟩
theorem scLawNode : FnScope ["box", "rows", "columns", "depth", "kind", "left", "right", "sign", "strength", "texts"] ["box", "rows", "columns", "depth"] (defScope sLawNode) := ⟨rfl, rfl, rfl, by decide +kernel, rfl, by decide +kernel, by decide +kernel⟩
theorem scLawSame : FnScope ["actual", "due", "k"] ["actual", "due"] (defScope sLawSame) := ⟨rfl, rfl, rfl, by decide +kernel, rfl, by decide +kernel, by decide +kernel⟩
theorem scLawSize : FnScope ["tree"] ["tree"] (defScope sLawSize) := ⟨rfl, rfl, rfl, by decide +kernel, rfl, by decide +kernel, by decide +kernel⟩
theorem scLawCells : FnScope ["tree"] ["tree"] (defScope sLawCells) := ⟨rfl, rfl, rfl, by decide +kernel, rfl, by decide +kernel, by decide +kernel⟩
theorem scLawAreas : FnScope ["tree", "area"] ["tree"] (defScope sLawAreas) := ⟨rfl, rfl, rfl, by decide +kernel, rfl, by decide +kernel, by decide +kernel⟩
theorem scLawDown : FnScope ["tree"] ["tree"] (defScope sLawDown) := ⟨rfl, rfl, rfl, by decide +kernel, rfl, by decide +kernel, by decide +kernel⟩
theorem scLawMore : FnScope ["area"] ["area"] (defScope sLawMore) := ⟨rfl, rfl, rfl, by decide +kernel, rfl, by decide +kernel, by decide +kernel⟩
theorem scLawMapped : FnScope ["tree", "areas", "area", "part"] ["tree"] (defScope sLawMapped) := ⟨rfl, rfl, rfl, by decide +kernel, rfl, by decide +kernel, by decide +kernel⟩
theorem scLawIsWord : FnScope ["text", "char"] ["text"] (defScope sLawIsWord) := ⟨rfl, rfl, rfl, by decide +kernel, rfl, by decide +kernel, by decide +kernel⟩
theorem scLaw : FnScope ["script", "box", "tree", "text", "other"] ["script"] (defScope sLaw) := ⟨rfl, rfl, rfl, by decide +kernel, rfl, by decide +kernel, by decide +kernel⟩
set_option maxHeartbeats 0 in
structure Txt (K : PySem.W.Frag) (mg : Str → Option Value) where
  fIsNameWord : Addr
  fdIsNameWord : FuncData
  FIsNameWord : Fun K "is_name_word" "is_name_word" sIsNameWord fIsNameWord fdIsNameWord
  bIsNameWord : Binds K fdIsNameWord ["text"] []
  gIsNameWord : mg "is_name_word" = some (.ref fIsNameWord)
  fSize : Addr
  fdSize : FuncData
  FSize : Fun K "size" "size" sSize fSize fdSize
  bSize : Binds K fdSize ["tree"] []
  gSize : mg "size" = some (.ref fSize)
  fNamedCells : Addr
  fdNamedCells : FuncData
  FNamedCells : Fun K "named_cells" "named_cells" sNamedCells fNamedCells fdNamedCells
  bNamedCells : Binds K fdNamedCells ["tree"] []
  gNamedCells : mg "named_cells" = some (.ref fNamedCells)
  fAreasOf : Addr
  fdAreasOf : FuncData
  FAreasOf : Fun K "areas_of" "areas_of" sAreasOf fAreasOf fdAreasOf
  bAreasOf : Binds K fdAreasOf ["tree"] []
  gAreasOf : mg "areas_of" = some (.ref fAreasOf)
  fMappedAreas : Addr
  fdMappedAreas : FuncData
  FMappedAreas : Fun K "_mapped_areas" "_mapped_areas" sMappedAreas fMappedAreas fdMappedAreas
  bMappedAreas : Binds K fdMappedAreas ["areas", "area"] []
  gMappedAreas : mg "_mapped_areas" = some (.ref fMappedAreas)
  fMapped : Addr
  fdMapped : FuncData
  FMapped : Fun K "mapped" "mapped" sMapped fMapped fdMapped
  bMapped : Binds K fdMapped ["tree", "cell", "area"] []
  gMapped : mg "mapped" = some (.ref fMapped)
  fLawCell : Addr
  fdLawCell : FuncData
  FLawCell : Fun K "_law_cell" "_law_cell" sLawCell fLawCell fdLawCell
  bLawCell : Binds K fdLawCell ["script", "k"] []
  gLawCell : mg "_law_cell" = some (.ref fLawCell)
  fLawDigits : Addr
  fdLawDigits : FuncData
  FLawDigits : Fun K "_law_digits" "_law_digits" sLawDigits fLawDigits fdLawDigits
  bLawDigits : Binds K fdLawDigits ["script", "first", "last"] []
  gLawDigits : mg "_law_digits" = some (.ref fLawDigits)
  fLawDraw : Addr
  fdLawDraw : FuncData
  FLawDraw : Fun K "_law_draw" "_law_draw" sLawDraw fLawDraw fdLawDraw
  bLawDraw : Binds K fdLawDraw ["box", "many"] []
  gLawDraw : mg "_law_draw" = some (.ref fLawDraw)
  fLawGcd : Addr
  fdLawGcd : FuncData
  FLawGcd : Fun K "_law_gcd" "_law_gcd" sLawGcd fLawGcd fdLawGcd
  bLawGcd : Binds K fdLawGcd ["a", "b"] []
  gLawGcd : mg "_law_gcd" = some (.ref fLawGcd)
  fLawLowest : Addr
  fdLawLowest : FuncData
  FLawLowest : Fun K "_law_lowest" "_law_lowest" sLawLowest fLawLowest fdLawLowest
  bLawLowest : Binds K fdLawLowest ["n", "d"] []
  gLawLowest : mg "_law_lowest" = some (.ref fLawLowest)
  fLawDigitText : Addr
  fdLawDigitText : FuncData
  FLawDigitText : Fun K "_law_digit_text" "_law_digit_text" sLawDigitText fLawDigitText fdLawDigitText
  bLawDigitText : Binds K fdLawDigitText ["box", "many"] []
  gLawDigitText : mg "_law_digit_text" = some (.ref fLawDigitText)
  fLawAddress : Addr
  fdLawAddress : FuncData
  FLawAddress : Fun K "_law_address" "_law_address" sLawAddress fLawAddress fdLawAddress
  bLawAddress : Binds K fdLawAddress ["row", "column"] []
  gLawAddress : mg "_law_address" = some (.ref fLawAddress)
  fLawWord : Addr
  fdLawWord : FuncData
  FLawWord : Fun K "_law_word" "_law_word" sLawWord fLawWord fdLawWord
  bLawWord : Binds K fdLawWord ["box"] []
  gLawWord : mg "_law_word" = some (.ref fLawWord)
  fLawLeaf : Addr
  fdLawLeaf : FuncData
  FLawLeaf : Fun K "_law_leaf" "_law_leaf" sLawLeaf fLawLeaf fdLawLeaf
  bLawLeaf : Binds K fdLawLeaf ["box", "rows", "columns"] []
  gLawLeaf : mg "_law_leaf" = some (.ref fLawLeaf)
  fLawArea : Addr
  fdLawArea : FuncData
  FLawArea : Fun K "_law_area" "_law_area" sLawArea fLawArea fdLawArea
  bLawArea : Binds K fdLawArea ["box", "rows", "columns"] []
  gLawArea : mg "_law_area" = some (.ref fLawArea)
  fLawInside : Addr
  fdLawInside : FuncData
  FLawInside : Fun K "_law_inside" "_law_inside" sLawInside fLawInside fdLawInside
  bLawInside : Binds K fdLawInside ["box", "node", "least"] []
  gLawInside : mg "_law_inside" = some (.ref fLawInside)
  fLawCall : Addr
  fdLawCall : FuncData
  FLawCall : Fun K "_law_call" "_law_call" sLawCall fLawCall fdLawCall
  bLawCall : Binds K fdLawCall ["box", "rows", "columns"] []
  gLawCall : mg "_law_call" = some (.ref fLawCall)
  fLawNode : Addr
  fdLawNode : FuncData
  FLawNode : Fun K "_law_node" "_law_node" sLawNode fLawNode fdLawNode
  bLawNode : Binds K fdLawNode ["box", "rows", "columns", "depth"] []
  gLawNode : mg "_law_node" = some (.ref fLawNode)
  fLawSame : Addr
  fdLawSame : FuncData
  FLawSame : Fun K "_law_same" "_law_same" sLawSame fLawSame fdLawSame
  bLawSame : Binds K fdLawSame ["actual", "due"] []
  gLawSame : mg "_law_same" = some (.ref fLawSame)
  fLawSize : Addr
  fdLawSize : FuncData
  FLawSize : Fun K "_law_size" "_law_size" sLawSize fLawSize fdLawSize
  bLawSize : Binds K fdLawSize ["tree"] []
  gLawSize : mg "_law_size" = some (.ref fLawSize)
  fLawCells : Addr
  fdLawCells : FuncData
  FLawCells : Fun K "_law_cells" "_law_cells" sLawCells fLawCells fdLawCells
  bLawCells : Binds K fdLawCells ["tree"] []
  gLawCells : mg "_law_cells" = some (.ref fLawCells)
  fLawAreas : Addr
  fdLawAreas : FuncData
  FLawAreas : Fun K "_law_areas" "_law_areas" sLawAreas fLawAreas fdLawAreas
  bLawAreas : Binds K fdLawAreas ["tree"] []
  gLawAreas : mg "_law_areas" = some (.ref fLawAreas)
  fLawDown : Addr
  fdLawDown : FuncData
  FLawDown : Fun K "_law_down" "_law_down" sLawDown fLawDown fdLawDown
  bLawDown : Binds K fdLawDown ["tree"] []
  gLawDown : mg "_law_down" = some (.ref fLawDown)
  fLawMore : Addr
  fdLawMore : FuncData
  FLawMore : Fun K "_law_more" "_law_more" sLawMore fLawMore fdLawMore
  bLawMore : Binds K fdLawMore ["area"] []
  gLawMore : mg "_law_more" = some (.ref fLawMore)
  fLawMapped : Addr
  fdLawMapped : FuncData
  FLawMapped : Fun K "_law_mapped" "_law_mapped" sLawMapped fLawMapped fdLawMapped
  bLawMapped : Binds K fdLawMapped ["tree"] []
  gLawMapped : mg "_law_mapped" = some (.ref fLawMapped)
  fLawIsWord : Addr
  fdLawIsWord : FuncData
  FLawIsWord : Fun K "_law_is_word" "_law_is_word" sLawIsWord fLawIsWord fdLawIsWord
  bLawIsWord : Binds K fdLawIsWord ["text"] []
  gLawIsWord : mg "_law_is_word" = some (.ref fLawIsWord)
  fLaw : Addr
  fdLaw : FuncData
  FLaw : Fun K "law" "law" sLaw fLaw fdLaw
  bLaw : Binds K fdLaw ["script"] []
  gLaw : mg "law" = some (.ref fLaw)
  z_all : mg "all" = none
  z_tuple : mg "tuple" = none
  z_range : mg "range" = none
  z_abs : mg "abs" = none
  z_isinstance : mg "isinstance" = none
  z_bool : mg "bool" = none
  z_str : mg "str" = none
  z_list : mg "list" = none
  z_len : mg "len" = none
  z_min : mg "min" = none
  z_max : mg "max" = none
  z_int : mg "int" = none
  t_SMALL : Nat
  g_SMALL : mg "SMALL" = some (.str "abcdefghijklmnopqrstuvwxyz" t_SMALL)
  t_LONGEST_WORD : Nat
  g_LONGEST_WORD : mg "LONGEST_WORD" = some (.int 8 t_LONGEST_WORD)
  t_GONE : Nat
  g_GONE : mg "GONE" = some (.str "gone" t_GONE)
  t_SHORTEST_NAME : Nat
  g_SHORTEST_NAME : mg "SHORTEST_NAME" = some (.int 2 t_SHORTEST_NAME)
  p_CALLS : Addr
  g_CALLS : mg "CALLS" = some (.ref p_CALLS)
  k_CALLS : ∀ H, SqT K H p_CALLS [.str "sum", .str "count", .str "min", .str "max"]
  w_CALLS : ∃ o, K.lookup p_CALLS = some o ∧ o.cls = .type "tuple" ∧ o.dict = none
section
variable {P : Program} {w : World} {K : PySem.W.Frag} {mg : Str → Option Value} {base : Heap}
/-! ### heaps -/
theorem _root_.L2.Same.tup {K : PySem.W.Frag} {H H' : Hp} {a : Addr} {xs : List V} (e : Same H H') (h : SqT K H a xs) : SqT K H' a xs := by
  rcases h with (h | ⟨o, h⟩) | h
  · exact .inl (.inl (e _ _ h))
  · exact .inl (.inr ⟨o, e _ _ h⟩)
  · exact .inr h
theorem same_new {H : Hp} {p : Addr} {o : HO} (h : H p = none) : Same H (upd H p o) := fun b x e => by
  rw [upd_ne (ne_of_none e h)]
  exact e
theorem same_mut {H H' : Hp} {p : Addr} {o : HO} (e : Same H H') (h : H p = none) : Same H (upd H' p o) := fun b x ha => by
  rw [upd_ne (ne_of_none ha h)]
  exact e b x ha
theorem walk_zipT {K : PySem.W.Frag} {a b : Addr} {xs ys : List V} {n : Nat} (hn : n = min xs.length ys.length) : Walk (ItzT K a b) n (fun H => SqT K H a xs ∧ SqT K H b ys) (YPair (fun i => xs[i]?) (fun i => ys[i]?)) := by
  subst hn
  refine ⟨fun i _ hi q => ?_, fun _ q => ⟨xs, ys, q.1, q.2, by omega⟩, fun i H v H' _ q y => ?_⟩
  · have h1 : i < xs.length := by omega
    have h2 : i < ys.length := by omega
    exact ⟨xs, ys, xs[i], ys[i], q.1, q.2, by simp [h1], by simp [h2]⟩
  · obtain ⟨T, x, z, h1, h2, h3, h4, h5⟩ := y
    exact ⟨T, x, z, h1, h2, h3, h4 xs q.1, h5 ys q.2⟩
/-- a function that hands back a bool or an int and changes nothing -/
theorem getD_at {ns : List Int} {i : Nat} (h : i < ns.length) : (ns.map V.int)[i]? = some (.int (ns.getD i 0)) := by
  rw [List.getElem?_map, List.getElem?_eq_getElem h, List.getD_eq_getElem?_getD, List.getElem?_eq_getElem h]
  rfl
theorem dp_ints {K : PySem.W.Frag} {H : Hp} : ∀ ns : List Int, DpAll K H (ns.map V.int) (ns.map PyData.int)
  | [] => .nil
  | n :: r => .cons (.int n) (dp_ints r)
theorem shaped_tup (ns : List Int) : SeqAt.shaped (.tuple (ns.map PyData.int)) = true := by
  simp [SeqAt.shaped, PyData.canLay0, PyData.depth, PySem.W.ke_canLayAll0, PySem.W.ke_depthAll]
theorem shaped_lst (ns : List Int) : SeqAt.shaped (.list (ns.map PyData.int)) = true := PySem.W.ke_shaped_ints ns
theorem eqv_same {d : PyData} (h : SeqAt.shaped d = true) : PyData.eqv d d = true := by
  refine SeqAt.eqv_refl d ?_
  unfold SeqAt.shaped at h
  exact (Bool.and_eq_true _ _ ▸ h).1
theorem yesT {σ : L2.St} {H : Hp} {A B : Hp → Prop} (h : A H) : tYes σ H (fun b H3 => if b = true then A H3 else B H3) := iteT (A := A H) (B := B H) h
/-! ### texts -/
open SX (S S_len S_cat slice_to slice_from num_S int_S)
open PySem.NumText (digitsVal AllDigits)
open TL (numL)
def cap (c : Nat) : Bool := decide (65 ≤ c ∧ c ≤ 90)
def dig (c : Nat) : Bool := decide (48 ≤ c ∧ c ≤ 57)
theorem dig_mem (c : Nat) : decide (c ∈ ("0123456789" : Str).cps.toList) = dig c := by
  have e : ("0123456789" : Str).cps.toList = [48, 49, 50, 51, 52, 53, 54, 55, 56, 57] := by decide +kernel
  rw [e]
  unfold dig
  refine decide_eq_decide.mpr ?_
  simp only [List.mem_cons, List.not_mem_nil, or_false]
  omega
theorem cap_mem (c : Nat) : decide (c ∈ ("ABCDEFGHIJKLMNOPQRSTUVWXYZ" : Str).cps.toList) = cap c := by
  have e : ("ABCDEFGHIJKLMNOPQRSTUVWXYZ" : Str).cps.toList = [65, 66, 67, 68, 69, 70, 71, 72, 73, 74, 75, 76, 77, 78, 79, 80, 81, 82, 83, 84, 85, 86, 87, 88, 89, 90] := by decide +kernel
  rw [e]
  unfold cap
  refine decide_eq_decide.mpr ?_
  simp only [List.mem_cons, List.not_mem_nil, or_false]
  omega
theorem walk_S {a : List Nat} : Walk (Its (S a)) a.length (fun _ => True) (fun i H v H' => H' = H ∧ ∃ c, a[i]? = some c ∧ v = .str (S [c])) :=
  ⟨fun i _ hi _ => by show i < a.toArray.size; simpa using hi, fun _ _ => by show a.toArray.size ≤ a.length; simp, fun i H v H' _ _ y => by
    obtain ⟨e, c, h1, h2⟩ := y
    exact ⟨e, c, by simpa using h1, h2⟩⟩
theorem tw_len {p : Nat → Bool} : ∀ {a : List Nat} {i c : Nat}, (∀ x ∈ a.take i, p x = true) → a[i]? = some c → p c = false → (a.takeWhile p).length = i
  | [], i, c, _, e, _ => by simp at e
  | x :: r, 0, c, _, e, hc => by
    have e2 := Option.some.inj e
    rw [List.takeWhile_cons, e2, hc]
    rfl
  | x :: r, i + 1, c, h, e, hc => by
    have hx : p x = true := h x (by simp)
    rw [List.takeWhile_cons, hx]
    show ((r.takeWhile p).length + 1) = i + 1
    rw [tw_len (fun y hy => h y (by rw [List.take_succ_cons]; exact List.mem_cons_of_mem _ hy)) (by simpa using e) hc]
theorem tw_all {p : Nat → Bool} {a : List Nat} (h : ∀ x ∈ a, p x = true) : (a.takeWhile p).length = a.length := by
  induction a with
  | nil => rfl
  | cons x r ih =>
    rw [List.takeWhile_cons, h x List.mem_cons_self]
    show (r.takeWhile p).length + 1 = r.length + 1
    rw [ih fun y hy => h y (List.mem_cons_of_mem _ hy)]
theorem tw_self {p : Nat → Bool} : ∀ {a : List Nat}, (∀ x ∈ a, p x = true) → a.takeWhile p = a
  | [], _ => rfl
  | x :: r, h => by rw [List.takeWhile_cons, h x List.mem_cons_self, if_pos rfl, tw_self fun y hy => h y (List.mem_cons_of_mem _ hy)]
theorem tw_le {p : Nat → Bool} (a : List Nat) : (a.takeWhile p).length ≤ a.length := by
  induction a with
  | nil => exact Nat.le_refl _
  | cons x r ih =>
    rw [List.takeWhile_cons]
    split
    · exact Nat.succ_le_succ ih
    · exact Nat.zero_le _
theorem tw_take {p : Nat → Bool} : ∀ (a : List Nat), ∀ x ∈ a.take (a.takeWhile p).length, p x = true
  | [], x, h => by simp at h
  | y :: r, x, h => by
    rw [List.takeWhile_cons] at h
    split at h
    · rename_i hy
      rw [List.length_cons, List.take_succ_cons] at h
      rcases List.mem_cons.mp h with e | e
      · rw [e]
        exact hy
      · exact tw_take r x e
    · simp at h
theorem tw_full {p : Nat → Bool} {a : List Nat} (h : (a.takeWhile p).length = a.length) : ∀ x ∈ a, p x = true := fun x hx => tw_take a x (by rw [h, List.take_length]; exact hx)
theorem tw_congr {p q : Nat → Bool} (h : ∀ c, p c = q c) (a : List Nat) : a.takeWhile p = a.takeWhile q := by
  rw [show p = q from funext h]
theorem in12 (n : Int) : inV (.int n) [.int 1, .int 2] = decide (n = 1 ∨ n = 2) := by
  show ((1 : Int) == n || ((2 : Int) == n || false)) = _
  rw [Bool.eq_iff_iff]
  simp only [Bool.or_false, Bool.or_eq_true, beq_iff_eq, decide_eq_true_eq]
  omega
theorem sz100 {n : Nat} (h : n ≤ 100000) : n ≤ sizeLine := Nat.le_trans h (by decide)
theorem item_by {α : Type} (f : α → V) {xs : List α} {k : Int} (h0 : 0 ≤ k) (h1 : k < xs.length) : ∃ v ∈ xs, atI (xs.map f) k = some (f v) := by
  obtain ⟨j, rfl⟩ := Int.eq_ofNat_of_zero_le h0
  have hj : j < xs.length := by omega
  exact ⟨xs[j], List.getElem_mem hj, atI_nat (by rw [List.getElem?_map, List.getElem?_eq_getElem hj]; rfl)⟩
theorem dig_all {a : List Nat} (h : a.all dig = true) : AllDigits a := fun c hc => of_decide_eq_true (List.all_eq_true.mp h c hc)
theorem int_dig {a : List Nat} (h : a.all dig = true) (hne : a ≠ []) (hl : a.length ≤ 640) : intText? (S a) = some ((digitsVal a : Nat) : Int) := intText_digits (x := S a) (dig_all h) hne (by rw [S_len]; omega)
/-! ### a run of signs -/
def rn (z : Str) (a : List Nat) : Nat := (a.takeWhile fun c => decide (c ∈ z.cps.toList)).length
def TK (H H' : Hp) : Prop := ∀ q xs, H q = some (.tup xs) → H' q = some (.tup xs)
theorem TK.of {H H' : Hp} (s : Same H H') : TK H H' := fun q xs h => s q _ h
theorem TK.trans {H H1 H2 : Hp} (a : TK H H1) (b : TK H1 H2) : TK H H2 := fun q xs h => b q xs (a q xs h)
theorem TK.mut {H : Hp} {d : Addr} {xs : List V} {o : HO} (h : H d = some (.lst xs)) : TK H (upd H d o) := fun q ys hq => by
  have : q ≠ d := fun z => by
    rw [z, h] at hq
    cases hq
  rw [upd_ne this]
  exact hq
theorem ix_tupK {X : Cx} {K : PySem.W.Frag} (h : X.K = K) : IxR X (rIxT K) := by
  subst h
  exact ix_tup
theorem ix_listK {X : Cx} {K : PySem.W.Frag} (h : X.K = K) : IxR X (rIxL K) := by
  subst h
  exact ix_list
theorem call_len_seqK {X : Cx} {K : PySem.W.Frag} (h : X.K = K) : CallR X (.builtin "len") (fun xs H Q => ∃ p ys, xs = [.ref p] ∧ (SqL K H p ys ∨ SqT K H p ys) ∧ Q (.int ys.length) H) := by
  subst h
  exact call_len_seq
theorem ext_tup (l : Addr) (items : Array Value) (n : Nat) (b : Addr) (items2 : Array Value) (n2 : Nat) (dd : Option Addr) (sl : Array (Option Value)) (hs0 : ¬(!items.isEmpty && Builtin.List.listTooLong (items.size + items2.size)) = true) (hs1 : items.size ≤ sizeLine) (hs2 : items.size + items2.size ≤ sizeLine + 1) :
    Meets (Builtin.«list.extend» ⟨[.ref l, .ref b], []⟩) (fun _ R s => s.heap.get? l = some { cls := .type "list", dict := none, data := .seq items n, slots := #[] } ∧ s.heap.get? b = some { cls := .type "tuple", dict := dd, data := .seq items2 n2, slots := sl } ∧ R (.ok (.ret Value.none)) { s with heap := s.heap.update l (Obj.mapSeq fun x => x ++ items2), toks := s.toks }) :=
  .of_wp fun prog w A R s h => by
    obtain ⟨hp, g, d, tk, os⟩ := s
    obtain ⟨hl, hb, h⟩ := h
    have f1 := AutoSeq1.idx_int
    have f2 := AutoSeq1.sub_tuple_tuple
    have f3 := AutoSeq1.sub_list_list
    have f4 := AutoSeq1.sub_tuple_list
    have f5 := AutoSeq1.sub_list_tuple
    have hz' : (items ++ items2).size ≤ sizeLine + 1 := by
      rw [Array.size_append]
      exact hs2
    wp_walk using (wpAny_updateSeq hl rfl (hz := hs1) (_hz' := hz')), AutoSeq1.wpAny_loadPart' hl, AutoSeq1.wpAny_loadPart' hb
    exact ⟨_, rfl, h⟩
def rExtT (K : PySem.W.Frag) : V → List V → Hp → VK → Prop := fun x vs H Q => ∃ l b xs zs, x = .ref l ∧ vs = [.ref b] ∧ H l = some (.lst xs) ∧ SqT K H b zs ∧ xs.length + zs.length ≤ sizeLine ∧ Q .non (upd H l (.lst (xs ++ zs)))
theorem mt_extT {X : Cx} : MtM X "list.extend" (rExtT X.K) := by
  intro pins s σ H x vs v us Q I rx rv h
  obtain ⟨l, b, xs, zs, rfl, rfl, hH, hB, hz, q⟩ := h
  cases rx
  obtain ⟨u, rfl, ru⟩ := rv.one
  cases ru
  obtain ⟨z, its, n, r, hl, e⟩ := I.lstM hH
  obtain ⟨its2, r2, ⟨⟨cls, dd, data, sl⟩, e2, hc, n2, hd⟩, hl2⟩ := I.tuple hB
  simp only at hc hd
  subst hc hd
  have ll2 := r2.length
  have hsz : its.toArray.size + its2.toArray.size ≤ sizeLine := by rw [List.size_toArray, List.size_toArray]; omega
  have hlong : ¬ (!its.toArray.isEmpty && Builtin.List.listTooLong (its.toArray.size + its2.toArray.size)) = true := by
    rw [notLongL hsz, Bool.and_false]
    exact Bool.false_ne_true
  refine call_meets PySem.F.slot_list_extend ⟨_, e, rfl⟩ PySem.F.entry_list_extend (PySem.F.args_list_extend_2 _ _)
    (ext_tup l its.toArray n b its2.toArray n2 dd sl hlong (by rw [List.size_toArray]; omega) (by omega)) ⟨e, e2, ?_⟩
  refine ⟨.non, _, I.lset (its' := its ++ its2) hH e (by simp) (r.append r2) ?_, rfl, q⟩
  rw [List.length_append]
  omega
def spCell (K : PySem.W.Frag) : Sp := fun vs H Q _ => ∃ (a : Addr) (ns : List Int) (k : Int), vs = [.ref a, .int k] ∧ 0 ≤ k ∧ SqL K H a (ns.map V.int) ∧ ∀ v : Int, Q (.int v) H
theorem okLawCell (T : Txt K mg) : FnOk P w K mg base CX0 1 T.fLawCell T.fdLawCell ["script", "k"] (spCell K) := by
  refine T.FLawCell.ok scLawCell (fun vs H Q E h => ?_) (fun cdv A outer s H vs Q E hr h => ?_)
  · obtain ⟨a, ns, k, rfl, _⟩ := h
    rfl
  · obtain ⟨a, ns, k, rfl, h0, hS, q⟩ := h
    obtain ⟨k, rfl⟩ := Int.eq_ofNat_of_zero_le h0
    -- slots script=0 k=1
    refine ⟨_, (pss_cons (ps_if (pt_cmpR op_lt (pv 1) (pe_callB call_len_seq (by rfl) T.z_len PySem.boot_len (pa_cons (pv 0) pa_nil)) (nomark _))
          (pss_one (ps_ret (pe_ix ix_list (pv 0) (pv 1) (fun _ _ => rfl))))
          pss_nil)
        (pss_one (ps_ret pe_int))), ?_⟩
    refine ⟨_, rfl, _, rfl, a, _, rfl, .inl hS, _, _, rfl, rfl, _, rfl, ite2 (fun c => ?_) (fun c => ?_)⟩
    · have hk : k < ns.length := by
        have c2 := of_decide_eq_true c
        rw [List.length_map] at c2
        omega
      exact ⟨_, rfl, _, rfl, a, _, _, _, rfl, rfl, hS, atI_nat (getD_at hk), q _⟩
    · exact q 0
/-! ### numbers that a law draws -/
structure Dig (ds : List Int) (n : Nat) : Prop where
  all : ∀ x ∈ ds, 0 ≤ x ∧ x < 1000
  len : ds.length ≤ n
theorem Dig.nil : Dig [] 0 := ⟨fun _ h => (nomatch h), Nat.le_refl _⟩
theorem Dig.more {ds : List Int} {n m : Nat} (h : Dig ds n) (hm : n ≤ m) : Dig ds m := ⟨h.all, Nat.le_trans h.len hm⟩
theorem Dig.add {ds : List Int} {n : Nat} (h : Dig ds n) (x : Int) : Dig (ds ++ [x % 1000]) (n + 1) := by
  refine ⟨fun y hy => ?_, ?_⟩
  · rcases List.mem_append.mp hy with q | q
    · exact h.all y q
    · obtain rfl : y = x % 1000 := by simpa using q
      omega
  · rw [List.length_append]
    have := h.len
    simp only [List.length_singleton]
    omega
def spDigits (K : PySem.W.Frag) : Sp := fun vs H Q _ => ∃ (a : Addr) (ns : List Int) (lo : Nat) (hi : Nat), vs = [.ref a, .int (lo : Int), .int (hi : Int)] ∧ lo ≤ hi ∧ hi ≤ 1000 ∧ SqL K H a (ns.map V.int) ∧
  ∀ H' d ds, Same H H' → H d = none → H' d = some (.lst (ds.map V.int)) → Dig ds (60 * (hi - lo)) → Q (.ref d) H'
theorem okLawDigits (T : Txt K mg) : FnOk P w K mg base CX0 2 T.fLawDigits T.fdLawDigits ["script", "first", "last"] (spDigits K) := by
  refine T.FLawDigits.ok scLawDigits (fun vs H Q E h => ?_) (fun cdv A outer s H vs Q E hr h => ?_)
  · obtain ⟨a, ns, lo, hi, rfl, _⟩ := h
    rfl
  · obtain ⟨a, ns, lo, hi, rfl, hlh, hh, hS, q⟩ := h
    -- slots script=0 first=1 last=2 digits=3 k=4 cell=5 turn=6 seed=7
    refine ⟨_, (pss_cons (ps_set (i := 3) scLawDigits.nd rfl (Or.inl rfl) (pe_lst pa_nil))
        (pss_cons (ps_for PassesOwn.never rfl (pi_range2 rfl T.z_range (pa_cons (pv 1) (pa_cons (pv 2) pa_nil))) (pg_name (i := 4) scLawDigits.nd rfl (Or.inl rfl))
          (pss_cons (ps_set (i := 5) scLawDigits.nd rfl (Or.inl rfl) (pe_call (okLawCell T) (hr.mono (by decide)) (by rfl) T.gLawCell T.FLawCell.kp T.bLawCell .nil pass0 (pa_cons (pv 0) (pa_cons (pv 4) pa_nil))))
          (pss_cons (ps_if (pt_cmpR op_lt (pv 5) pe_int (nomark _))
            (pss_one (ps_set (i := 5) scLawDigits.nd rfl (Or.inl rfl) (pe_op op_sub pe_int (pe_op op_mul pe_int (pv 5)))))
            pss_nil)
          (pss_one (ps_if (pt_cmpR op_ge (pv 5) (pe_op op_pow pe_int pe_int) (nomark _))
            (pss_one (ps_for PassesOwn.never rfl (pi_range1 rfl T.z_range (pa_cons pe_int pa_nil)) (pg_name (i := 6) scLawDigits.nd rfl (Or.inl rfl))
              (pss_one (ps_if (pt_cmpR op_gt (pv 5) pe_int (nomark _))
                (pss_cons (ps_expr (pe_bm PySem.F.plainAttrs_list PySem.F.slot_list_append PySem.F.type_list_append mt_append (pv 3) (pa_cons (pe_op op_mod (pe_callTy call_int1 (by rfl) T.z_int (by decide +kernel) (pa_cons (pv 5) pa_nil)) pe_int) pa_nil)))
                (pss_one (ps_set (i := 5) scLawDigits.nd rfl (Or.inl rfl) (pe_op op_fdiv (pv 5) pe_int))))
                pss_nil))))
            (pss_cons (ps_set (i := 7) scLawDigits.nd rfl (Or.inl rfl) (pe_op op_mod (pe_callTy call_int1 (by rfl) T.z_int (by decide +kernel) (pa_cons (pe_op op_add (pe_op op_add (pe_op op_mul (pv 5) pe_int) (pe_op op_mul (pv 4) pe_int)) pe_int) pa_nil)) pe_int))
            (pss_one (ps_for PassesOwn.never rfl (pi_range1 rfl T.z_range (pa_cons pe_int pa_nil)) (pg_name (i := 6) scLawDigits.nd rfl (Or.inl rfl))
              (pss_cons (ps_set (i := 7) scLawDigits.nd rfl (Or.inl rfl) (pe_op op_mod (pe_callTy call_int1 (by rfl) T.z_int (by decide +kernel) (pa_cons (pe_op op_add (pe_op op_add (pe_op op_mul (pv 7) pe_int) (pe_op op_mul pe_int (pv 6))) pe_int) pa_nil)) pe_int))
              (pss_one (ps_expr (pe_bm PySem.F.plainAttrs_list PySem.F.slot_list_append PySem.F.type_list_append mt_append (pv 3) (pa_cons (pe_op op_mod (pe_callTy call_int1 (by rfl) T.z_int (by decide +kernel) (pa_cons (pe_op op_fdiv (pv 7) pe_int) pa_nil)) pe_int) pa_nil)))))))))))))
        (pss_one (ps_ret (pv 3))))), ?_⟩
    refine ⟨Nat.zero_le _, fun d hd => ?_⟩
    refine ⟨_, rfl, _, rfl, _, _, rfl, ⟨by omega, by omega, by omega, by omega⟩, ?_⟩
    refine for_range (lo := lo) (n := ((hi : Int) - lo).toNat) (fun i σ H' => ∃ ds c0 c1 c2 c3, σ = [some (.ref a), some (.int (lo : Int)), some (.int (hi : Int)), some (.ref d), c0, c1, c2, c3] ∧ Same H H' ∧ H' d = some (.lst (ds.map V.int)) ∧ Dig ds (60 * i))
      ⟨[], _, _, _, _, rfl, same_new hd, upd_same, Dig.nil⟩ ?_ ?_
    · rintro i σ H1 hi2 ⟨ds, c0, c1, c2, c3, rfl, s1, hd1, D⟩
      -- cell = _law_cell(script, k)
      refine ⟨_, rfl, _, rfl, a, ns, _, rfl, by omega, s1.seq hS, fun v => ?_⟩
      -- if cell < 0
      refine ⟨_, rfl, _, _, rfl, rfl, _, rfl, ite2 (fun _ => ?_) (fun _ => ?_)⟩
      · refine ⟨_, rfl, _, _, rfl, rfl, .inl ⟨by decide, by decide⟩, _, _, rfl, rfl, ?_⟩
        refine ⟨_, rfl, _, _, rfl, rfl, ⟨by decide, by decide, by decide⟩, _, _, rfl, rfl, _, rfl, ite2 (fun _ => ?_) (fun _ => ?_)⟩
        · refine ⟨60, rfl, by decide, by decide, for_range (lo := 0) (n := 60) (fun t σ H' => ∃ ds c c1, σ = [some (.ref a), some (.int (lo : Int)), some (.int (hi : Int)), some (.ref d), some (.int ((lo : Int) + i)), some (.int c), c1, c3] ∧ Same H H' ∧ H' d = some (.lst (ds.map V.int)) ∧ Dig ds (60 * i + t)) ⟨ds, _, _, rfl, s1, hd1, D⟩ ?_ ?_⟩
          · rintro t σ H2 ht ⟨ds, c, c1, rfl, s2, hd2, D2⟩
            refine ⟨_, rfl, _, _, rfl, rfl, _, rfl, ite2 (fun _ => ?_) (fun _ => ?_)⟩
            · refine ⟨_, rfl, .inl ⟨rfl, _, SqL.of hd2⟩, _, rfl, .inl ⟨_, rfl, _, _, rfl, rfl, (by show (0 : Int) < _; decide), d, _, _, rfl, rfl, hd2, ?_, _, rfl, _, _, rfl, rfl, ⟨by decide, by decide⟩, ?_⟩⟩
              · rw [List.length_map]
                exact Nat.lt_of_le_of_lt D2.len (Nat.lt_of_lt_of_le (show 60 * i + t < 100000 by omega) (by decide))
              · exact ⟨ds ++ [c % 1000], _, _, rfl, same_mut s2 hd, by rw [upd_same, List.map_append]; rfl, D2.add c⟩
            · exact ⟨ds, _, _, rfl, s2, hd2, D2.more (Nat.le_succ _)⟩
          · rintro σ H2 ⟨ds, c, c1, rfl, s2, hd2, D2⟩
            exact ⟨ds, _, _, _, _, rfl, s2, hd2, D2⟩
        · refine ⟨_, rfl, _, _, rfl, rfl, .inr ⟨by decide, by decide⟩, _, rfl, _, _, rfl, rfl, .inr ⟨by decide, by decide⟩, _, _, rfl, rfl, _, _, rfl, rfl, .inl ⟨_, rfl, _, _, rfl, rfl, (by show (0 : Int) < _; decide), ?_⟩⟩
          refine ⟨12, rfl, by decide, by decide, for_range (lo := 0) (n := 12) (fun t σ H' => ∃ ds c c1 sd, σ = [some (.ref a), some (.int (lo : Int)), some (.int (hi : Int)), some (.ref d), some (.int ((lo : Int) + i)), some (.int c), c1, some (.int sd)] ∧ Same H H' ∧ H' d = some (.lst (ds.map V.int)) ∧ Dig ds (60 * i + t)) ⟨ds, _, _, _, rfl, s1, hd1, D⟩ ?_ ?_⟩
          · rintro t σ H2 ht ⟨ds, c, c1, sd, rfl, s2, hd2, D2⟩
            refine ⟨_, rfl, _, _, rfl, rfl, .inr ⟨by decide, by decide⟩, _, rfl, _, _, rfl, rfl, .inl ⟨by decide, by decide⟩, _, _, rfl, rfl, _, _, rfl, rfl, .inl ⟨_, rfl, _, _, rfl, rfl, (by show (0 : Int) < _; decide), ?_⟩⟩
            refine ⟨_, rfl, .inl ⟨rfl, _, SqL.of hd2⟩, _, rfl, _, _, rfl, rfl, ⟨by decide, by decide⟩, .inl ⟨_, rfl, _, _, rfl, rfl, (by show (0 : Int) < _; decide), d, _, _, rfl, rfl, hd2, ?_, ?_⟩⟩
            · rw [List.length_map]
              exact Nat.lt_of_le_of_lt D2.len (Nat.lt_of_lt_of_le (show 60 * i + t < 100000 by omega) (by decide))
            · exact ⟨ds ++ [_ % 1000], _, _, _, rfl, same_mut s2 hd, by rw [upd_same, List.map_append]; rfl, D2.add _⟩
          · rintro σ H2 ⟨ds, c, c1, sd, rfl, s2, hd2, D2⟩
            exact ⟨ds, _, _, _, _, rfl, s2, hd2, D2.more (by omega)⟩
      · refine ⟨_, rfl, _, _, rfl, rfl, ⟨by decide, by decide, by decide⟩, _, _, rfl, rfl, _, rfl, ite2 (fun _ => ?_) (fun _ => ?_)⟩
        · refine ⟨60, rfl, by decide, by decide, for_range (lo := 0) (n := 60) (fun t σ H' => ∃ ds c c1, σ = [some (.ref a), some (.int (lo : Int)), some (.int (hi : Int)), some (.ref d), some (.int ((lo : Int) + i)), some (.int c), c1, c3] ∧ Same H H' ∧ H' d = some (.lst (ds.map V.int)) ∧ Dig ds (60 * i + t)) ⟨ds, _, _, rfl, s1, hd1, D⟩ ?_ ?_⟩
          · rintro t σ H2 ht ⟨ds, c, c1, rfl, s2, hd2, D2⟩
            refine ⟨_, rfl, _, _, rfl, rfl, _, rfl, ite2 (fun _ => ?_) (fun _ => ?_)⟩
            · refine ⟨_, rfl, .inl ⟨rfl, _, SqL.of hd2⟩, _, rfl, .inl ⟨_, rfl, _, _, rfl, rfl, (by show (0 : Int) < _; decide), d, _, _, rfl, rfl, hd2, ?_, _, rfl, _, _, rfl, rfl, ⟨by decide, by decide⟩, ?_⟩⟩
              · rw [List.length_map]
                exact Nat.lt_of_le_of_lt D2.len (Nat.lt_of_lt_of_le (show 60 * i + t < 100000 by omega) (by decide))
              · exact ⟨ds ++ [c % 1000], _, _, rfl, same_mut s2 hd, by rw [upd_same, List.map_append]; rfl, D2.add c⟩
            · exact ⟨ds, _, _, rfl, s2, hd2, D2.more (Nat.le_succ _)⟩
          · rintro σ H2 ⟨ds, c, c1, rfl, s2, hd2, D2⟩
            exact ⟨ds, _, _, _, _, rfl, s2, hd2, D2⟩
        · refine ⟨_, rfl, _, _, rfl, rfl, .inr ⟨by decide, by decide⟩, _, rfl, _, _, rfl, rfl, .inr ⟨by decide, by decide⟩, _, _, rfl, rfl, _, _, rfl, rfl, .inl ⟨_, rfl, _, _, rfl, rfl, (by show (0 : Int) < _; decide), ?_⟩⟩
          refine ⟨12, rfl, by decide, by decide, for_range (lo := 0) (n := 12) (fun t σ H' => ∃ ds c c1 sd, σ = [some (.ref a), some (.int (lo : Int)), some (.int (hi : Int)), some (.ref d), some (.int ((lo : Int) + i)), some (.int c), c1, some (.int sd)] ∧ Same H H' ∧ H' d = some (.lst (ds.map V.int)) ∧ Dig ds (60 * i + t)) ⟨ds, _, _, _, rfl, s1, hd1, D⟩ ?_ ?_⟩
          · rintro t σ H2 ht ⟨ds, c, c1, sd, rfl, s2, hd2, D2⟩
            refine ⟨_, rfl, _, _, rfl, rfl, .inr ⟨by decide, by decide⟩, _, rfl, _, _, rfl, rfl, .inl ⟨by decide, by decide⟩, _, _, rfl, rfl, _, _, rfl, rfl, .inl ⟨_, rfl, _, _, rfl, rfl, (by show (0 : Int) < _; decide), ?_⟩⟩
            refine ⟨_, rfl, .inl ⟨rfl, _, SqL.of hd2⟩, _, rfl, _, _, rfl, rfl, ⟨by decide, by decide⟩, .inl ⟨_, rfl, _, _, rfl, rfl, (by show (0 : Int) < _; decide), d, _, _, rfl, rfl, hd2, ?_, ?_⟩⟩
            · rw [List.length_map]
              exact Nat.lt_of_le_of_lt D2.len (Nat.lt_of_lt_of_le (show 60 * i + t < 100000 by omega) (by decide))
            · exact ⟨ds ++ [_ % 1000], _, _, _, rfl, same_mut s2 hd, by rw [upd_same, List.map_append]; rfl, D2.add _⟩
          · rintro σ H2 ⟨ds, c, c1, sd, rfl, s2, hd2, D2⟩
            exact ⟨ds, _, _, _, _, rfl, s2, hd2, D2.more (by omega)⟩
    · rintro σ H1 ⟨ds, c0, c1, c2, c3, rfl, s1, hd1, D⟩
      exact ⟨_, rfl, q _ d ds s1 hd hd1 (by rw [show ((hi : Int) - lo).toNat = hi - lo by omega] at D; exact D)⟩
/-- all but the box stays, and the box keeps its list -/
structure Kp (b : Addr) (H H' : Hp) : Prop where
  k : ∀ c o, c ≠ b → H c = some o → H' c = some o
  d : ∀ (x j : V), H b = some (.lst [x, j]) → ∃ j', H' b = some (.lst [x, j'])
instance {b : Addr} {H H' : Hp} : CoeFun (Kp b H H') (fun _ => ∀ c o, c ≠ b → H c = some o → H' c = some o) := ⟨Kp.k⟩
theorem Kp.refl {b : Addr} {H : Hp} : Kp b H H := ⟨fun _ _ _ h => h, fun _ j h => ⟨j, h⟩⟩
theorem Kp.trans {b : Addr} {H H1 H2 : Hp} (x : Kp b H H1) (y : Kp b H1 H2) : Kp b H H2 := ⟨fun c o n h => y.k c o n (x.k c o n h), fun v j h => by
  obtain ⟨j1, h1⟩ := x.d v j h
  exact y.d v j1 h1⟩
theorem Kp.of {b : Addr} {H H1 : Hp} (x : Same H H1) : Kp b H H1 := ⟨fun c o _ h => x c o h, fun _ j h => ⟨j, x _ _ h⟩⟩
theorem Kp.same {b : Addr} {H H1 H2 : Hp} (x : Same H H1) (h : H b = none) (y : Kp b H1 H2) : Same H H2 := fun c o e => y.k c o (ne_of_none e h) (x c o e)
/-- a box of drawn digits and the place of the next one -/
def Box (H : Hp) (b : Addr) : Prop := ∃ (d : Addr) (ds : List Int) (i : Nat), H b = some (.lst [.ref d, .int (i : Int)]) ∧ H d = some (.lst (ds.map V.int)) ∧ b ≠ d
theorem Box.same {H H' : Hp} {b : Addr} (s : Same H H') (h : Box H b) : Box H' b := by
  obtain ⟨d, ds, i, h1, h2, h3⟩ := h
  exact ⟨d, ds, i, s _ _ h1, s _ _ h2, h3⟩
def spDraw (K : PySem.W.Frag) : Sp := fun vs H Q _ => ∃ (b : Addr) (m : Int), vs = [.ref b, .int m] ∧ 0 < m ∧ Box H b ∧ ∀ x H', 0 ≤ x → x < m → Box H' b → Kp b H H' → Q (.int x) H'
theorem okLawDraw (T : Txt K mg) : FnOk P w K mg base CX0 1 T.fLawDraw T.fdLawDraw ["box", "many"] (spDraw K) := by
  refine T.FLawDraw.ok scLawDraw (fun vs H Q E h => ?_) (fun cdv A outer s H vs Q E hr h => ?_)
  · obtain ⟨b, m, rfl, _⟩ := h
    rfl
  · obtain ⟨b, m, rfl, hm, ⟨d, ds, i, hb, hd, nbd⟩, q⟩ := h
    -- slots box=0 many=1 at=2
    refine ⟨_, (pss_cons (ps_set (i := 2) scLawDraw.nd rfl (Or.inl rfl) (pe_ix ix_list (pv 0) pe_int (fun _ _ => rfl)))
        (pss_cons (ps_asg (pe_op op_add (pv 2) pe_int) (pg_sub (pv 0) pe_int set_list))
        (pss_cons (ps_if (pt_cmpR op_lt (pv 2) (pe_callB call_len_seq (by rfl) T.z_len PySem.boot_len (pa_cons (pe_ix ix_list (pv 0) pe_int (fun _ _ => rfl)) pa_nil)) (nomark _))
          (pss_one (ps_ret (pe_op op_mod (pe_callTy call_int1 (by rfl) T.z_int (by decide +kernel) (pa_cons (pe_ix ix_list (pe_ix ix_list (pv 0) pe_int (fun _ _ => rfl)) (pv 2) (fun _ _ => rfl)) pa_nil)) (pv 1))))
          pss_nil)
        (pss_one (ps_ret pe_int))))), ?_⟩
    refine ⟨_, rfl, b, _, _, _, rfl, rfl, SqL.of hb, atI_nat (j := 1) rfl, _, rfl, _, _, rfl, rfl, _, rfl, b, _, _, 1, rfl, rfl, hb, rfl, ?_⟩
    have hb' : (upd H b (.lst ([.ref d, .int (i : Int)].set 1 (.int ((i : Int) + 1))))) b = some (.lst [.ref d, .int ((i : Int) + 1)]) := upd_same
    have hd' : (upd H b (.lst ([.ref d, .int (i : Int)].set 1 (.int ((i : Int) + 1))))) d = some (.lst (ds.map V.int)) := by
      rw [upd_ne nbd.symm]
      exact hd
    have kp : Kp b H (upd H b (.lst ([.ref d, .int (i : Int)].set 1 (.int ((i : Int) + 1))))) := ⟨fun c o n e => by
      rw [upd_ne n]
      exact e, fun x j h => by
      rw [hb] at h
      cases h
      exact ⟨_, hb'⟩⟩
    refine ⟨_, rfl, _, rfl, b, _, _, _, rfl, rfl, SqL.of hb', atI_nat (j := 0) rfl, d, _, rfl, .inl (SqL.of hd'), _, _, rfl, rfl, _, rfl, ite2 (fun c => ?_) (fun c => ?_)⟩
    · have hk : i < ds.length := by
        have c2 := of_decide_eq_true c
        rw [List.length_map] at c2
        omega
      refine ⟨_, rfl, b, _, _, _, rfl, rfl, SqL.of hb', atI_nat (j := 0) rfl, _, rfl, d, _, _, _, rfl, rfl, SqL.of hd', atI_nat (getD_at hk), .inl ⟨_, rfl, _, rfl, _, _, rfl, rfl, hm, ?_⟩⟩
      exact q _ _ (Int.emod_nonneg _ (by omega)) (Int.emod_lt_of_pos _ hm) ⟨d, ds, i + 1, hb', hd', nbd⟩ kp
    · exact q _ _ (Int.le_refl _) hm ⟨d, ds, i + 1, hb', hd', nbd⟩ kp
/-! ### the law's own comparison -/
def Scal : V → Prop
  | .non => True
  | .bl _ => True
  | .int _ => True
  | .str _ => True
  | _ => False
def Lk (H : Hp) : Nat → V → V → Prop
  | 0, x, y => x = y ∧ Scal y
  | n + 1, x, y => (x = y ∧ Scal y) ∨
    (∃ a b xs ys, x = .ref a ∧ y = .ref b ∧ H a = some (.tup xs) ∧ H b = some (.tup ys) ∧ xs.length = ys.length ∧ xs.length ≤ 100000 ∧ ∀ (i : Nat) u v, xs[i]? = some u → ys[i]? = some v → Lk H n u v) ∨
    (∃ a b xs ys, x = .ref a ∧ y = .ref b ∧ H a = some (.lst xs) ∧ H b = some (.lst ys) ∧ xs.length = ys.length ∧ xs.length ≤ 100000 ∧ ∀ (i : Nat) u v, xs[i]? = some u → ys[i]? = some v → Lk H n u v)
theorem isi {K : PySem.W.Frag} {H : Hp} {x : V} {t c : String} {b : Bool} {Q : VK} (ty : TyX K H x (.type t)) (h : kitB t c = some b) (q : Q (.bl b) H) : rIsi K [x, .ty c] H Q := ⟨x, .ty c, _, _, b, rfl, .ty c, ty, kit_ty h, q⟩
def spSame (K : PySem.W.Frag) (n : Nat) : Sp := fun vs H Q _ => ∃ (x y : V), vs = [x, y] ∧ Lk H n x y ∧ Q (.bl true) H
theorem okLawSame (T : Txt K mg) : ∀ n : Nat, FnOk P w K mg base CX0 (n + 1) T.fLawSame T.fdLawSame ["actual", "due"] (spSame K n)
  | 0 => by
    refine T.FLawSame.ok scLawSame (fun vs H Q E h => ?_) (fun cdv A outer s H vs Q E hr h => ?_)
    · obtain ⟨x, y, rfl, _⟩ := h
      rfl
    · obtain ⟨x, y, rfl, ⟨rfl, sy⟩, q⟩ := h
      -- slots actual=0 due=1 k=2
      refine ⟨_, (pss_cons (ps_if (PW.pt (pw_or (pt_val (pe_callB call_isi (by rfl) T.z_isinstance (by decide +kernel) (pa_cons (pv 1) (pa_cons (pe_bltn (v := .ty "list") (by rfl) T.z_list (by decide +kernel) rfl) pa_nil)))) (pw_or1 (pt_val (pe_callB call_isi (by rfl) T.z_isinstance (by decide +kernel) (pa_cons (pv 1) (pa_cons (pe_bltn (v := .ty "tuple") (by rfl) T.z_tuple (by decide +kernel) rfl) pa_nil)))))))
            (pss_cons ps_never
            (pss_cons ps_never
            (pss_cons ps_never
            (pss_one ps_never))))
            pss_nil)
          (pss_cons (ps_if (pt_cmpR op_isN (pv 1) pe_non (nomark _))
            (pss_one (ps_ret (pe_cmpR op_isN (pv 0) pe_non (nomark _))))
            pss_nil)
          (pss_cons (ps_if (pt_val (pe_callB call_isi (by rfl) T.z_isinstance (by decide +kernel) (pa_cons (pv 1) (pa_cons (pe_bltn (v := .ty "bool") (by rfl) T.z_bool (by decide +kernel) rfl) pa_nil))))
            (pss_one (ps_ret (pe_and (pe_callB call_isi (by rfl) T.z_isinstance (by decide +kernel) (pa_cons (pv 0) (pa_cons (pe_bltn (v := .ty "bool") (by rfl) T.z_bool (by decide +kernel) rfl) pa_nil))) (pe_one (pe_cmpR op_eq (pv 0) (pv 1) (nomark _))))))
            pss_nil)
          (pss_cons (ps_if (pt_val (pe_callB call_isi (by rfl) T.z_isinstance (by decide +kernel) (pa_cons (pv 1) (pa_cons (pe_bltn (v := .ty "str") (by rfl) T.z_str (by decide +kernel) rfl) pa_nil))))
            (pss_one (ps_ret (pe_and (pe_callB call_isi (by rfl) T.z_isinstance (by decide +kernel) (pa_cons (pv 0) (pa_cons (pe_bltn (v := .ty "str") (by rfl) T.z_str (by decide +kernel) rfl) pa_nil))) (pe_one (pe_cmpR op_eq (pv 0) (pv 1) (nomark _))))))
            pss_nil)
          (pss_one (ps_ret (pe_and (pe_callB call_isi (by rfl) T.z_isinstance (by decide +kernel) (pa_cons (pv 0) (pa_cons (pe_bltn (v := .ty "int") (by rfl) T.z_int (by decide +kernel) rfl) pa_nil))) (pe_and (pe_not (pe_callB call_isi (by rfl) T.z_isinstance (by decide +kernel) (pa_cons (pv 0) (pa_cons (pe_bltn (v := .ty "bool") (by rfl) T.z_bool (by decide +kernel) rfl) pa_nil)))) (pe_one (pe_cmpR op_eq (pv 0) (pv 1) (nomark _))))))))))), ?_⟩
      cases x with
      | non =>
        refine ⟨_, rfl, _, _, _, _, false, rfl, .ty _, .base (.non), kit_ty (by decide +kernel), _, rfl, iteF ⟨_, rfl, _, _, _, _, false, rfl, .ty _, .base (.non), kit_ty (by decide +kernel), _, rfl, iteF ?_⟩⟩
        refine ⟨_, rfl, rfl, _, rfl, ite2 (fun _ => ?_) (fun c => absurd (decide_eq_true rfl) c)⟩
        refine ⟨_, rfl, rfl, ?_⟩
        rw [decide_eq_true rfl]
        exact q
      | bl v =>
        refine ⟨_, rfl, _, _, _, _, false, rfl, .ty _, .base (.bl v), kit_ty (by decide +kernel), _, rfl, iteF ⟨_, rfl, _, _, _, _, false, rfl, .ty _, .base (.bl v), kit_ty (by decide +kernel), _, rfl, iteF ?_⟩⟩
        refine ⟨_, rfl, rfl, _, rfl, ite2 (fun c => (nomatch (of_decide_eq_true c))) (fun _ => ?_)⟩
        refine ⟨_, rfl, _, _, _, _, true, rfl, .ty _, .base (.bl v), kit_ty (by decide +kernel), _, rfl, iteT ?_⟩
        refine ⟨_, rfl, _, _, _, _, true, rfl, .ty _, .base (.bl v), kit_ty (by decide +kernel), _, rfl, iteT ?_⟩
        refine ⟨_, rfl, _, rfl, rfl, ?_⟩
        rw [decide_eq_true rfl]
        exact q
      | int v =>
        refine ⟨_, rfl, _, _, _, _, false, rfl, .ty _, .base (.int v), kit_ty (by decide +kernel), _, rfl, iteF ⟨_, rfl, _, _, _, _, false, rfl, .ty _, .base (.int v), kit_ty (by decide +kernel), _, rfl, iteF ?_⟩⟩
        refine ⟨_, rfl, rfl, _, rfl, ite2 (fun c => (nomatch (of_decide_eq_true c))) (fun _ => ?_)⟩
        refine ⟨_, rfl, _, _, _, _, false, rfl, .ty _, .base (.int v), kit_ty (by decide +kernel), _, rfl, iteF ?_⟩
        refine ⟨_, rfl, _, _, _, _, false, rfl, .ty _, .base (.int v), kit_ty (by decide +kernel), _, rfl, iteF ?_⟩
        refine ⟨_, rfl, _, _, _, _, true, rfl, .ty _, .base (.int v), kit_ty (by decide +kernel), _, rfl, iteT ?_⟩
        refine ⟨_, rfl, _, _, _, _, false, rfl, .ty _, .base (.int v), kit_ty (by decide +kernel), _, rfl, _, rfl, iteT ?_⟩
        refine ⟨_, rfl, _, rfl, rfl, ?_⟩
        rw [decide_eq_true rfl]
        exact q
      | str v =>
        refine ⟨_, rfl, _, _, _, _, false, rfl, .ty _, .base (.str v), kit_ty (by decide +kernel), _, rfl, iteF ⟨_, rfl, _, _, _, _, false, rfl, .ty _, .base (.str v), kit_ty (by decide +kernel), _, rfl, iteF ?_⟩⟩
        refine ⟨_, rfl, rfl, _, rfl, ite2 (fun c => (nomatch (of_decide_eq_true c))) (fun _ => ?_)⟩
        refine ⟨_, rfl, _, _, _, _, false, rfl, .ty _, .base (.str v), kit_ty (by decide +kernel), _, rfl, iteF ?_⟩
        refine ⟨_, rfl, _, _, _, _, true, rfl, .ty _, .base (.str v), kit_ty (by decide +kernel), _, rfl, iteT ?_⟩
        refine ⟨_, rfl, _, _, _, _, true, rfl, .ty _, .base (.str v), kit_ty (by decide +kernel), _, rfl, iteT ?_⟩
        refine ⟨_, rfl, _, rfl, rfl, ?_⟩
        rw [decide_eq_true rfl]
        exact q
      | _ => exact sy.elim
  | n + 1 => by
    have IH := okLawSame T n
    refine T.FLawSame.ok scLawSame (fun vs H Q E h => ?_) (fun cdv A outer s H vs Q E hr h => ?_)
    · obtain ⟨x, y, rfl, _⟩ := h
      rfl
    · obtain ⟨x, y, rfl, hL, q⟩ := h
      -- slots actual=0 due=1 k=2
      refine ⟨_, (pss_cons (ps_if (PW.pt (pw_or (pt_val (pe_callB call_isi (by rfl) T.z_isinstance (by decide +kernel) (pa_cons (pv 1) (pa_cons (pe_bltn (v := .ty "list") (by rfl) T.z_list (by decide +kernel) rfl) pa_nil)))) (pw_or1 (pt_val (pe_callB call_isi (by rfl) T.z_isinstance (by decide +kernel) (pa_cons (pv 1) (pa_cons (pe_bltn (v := .ty "tuple") (by rfl) T.z_tuple (by decide +kernel) rfl) pa_nil)))))))
            (pss_cons (ps_if (PW.pt (pw_or (pt_cmpR op_ne (pe_callB call_isi (by rfl) T.z_isinstance (by decide +kernel) (pa_cons (pv 1) (pa_cons (pe_bltn (v := .ty "list") (by rfl) T.z_list (by decide +kernel) rfl) pa_nil))) (pe_callB call_isi (by rfl) T.z_isinstance (by decide +kernel) (pa_cons (pv 0) (pa_cons (pe_bltn (v := .ty "list") (by rfl) T.z_list (by decide +kernel) rfl) pa_nil))) (nomark _)) (pw_or1 (pt_cmpR op_ne (pe_callB call_isi (by rfl) T.z_isinstance (by decide +kernel) (pa_cons (pv 1) (pa_cons (pe_bltn (v := .ty "tuple") (by rfl) T.z_tuple (by decide +kernel) rfl) pa_nil))) (pe_callB call_isi (by rfl) T.z_isinstance (by decide +kernel) (pa_cons (pv 0) (pa_cons (pe_bltn (v := .ty "tuple") (by rfl) T.z_tuple (by decide +kernel) rfl) pa_nil))) (nomark _)))))
              (pss_one (ps_ret pe_bl))
              pss_nil)
            (pss_cons (ps_if (pt_cmpR op_ne (pe_callB call_len_seq (by rfl) T.z_len PySem.boot_len (pa_cons (pv 0) pa_nil)) (pe_callB call_len_seq (by rfl) T.z_len PySem.boot_len (pa_cons (pv 1) pa_nil)) (nomark _))
              (pss_one (ps_ret pe_bl))
              pss_nil)
            (pss_cons (ps_for PassesOwn.never rfl (pi_range1 rfl T.z_range (pa_cons (pe_callB call_len_seq (by rfl) T.z_len PySem.boot_len (pa_cons (pv 1) pa_nil)) pa_nil)) (pg_name (i := 2) scLawSame.nd rfl (Or.inl rfl))
              (pss_one (ps_if (pt_not (pt_val (pe_call IH (hr.mono (Nat.le_refl _)) (by rfl) T.gLawSame T.FLawSame.kp T.bLawSame .nil pass0 (pa_cons (pe_ix ix_seq (pv 0) (pv 2) (fun _ _ => rfl)) (pa_cons (pe_ix ix_seq (pv 1) (pv 2) (fun _ _ => rfl)) pa_nil)))))
                (pss_one (ps_ret pe_bl))
                pss_nil)))
            (pss_one (ps_ret pe_bl)))))
            pss_nil)
          (pss_cons (ps_if (pt_cmpR op_isN (pv 1) pe_non (nomark _))
            (pss_one (ps_ret (pe_cmpR op_isN (pv 0) pe_non (nomark _))))
            pss_nil)
          (pss_cons (ps_if (pt_val (pe_callB call_isi (by rfl) T.z_isinstance (by decide +kernel) (pa_cons (pv 1) (pa_cons (pe_bltn (v := .ty "bool") (by rfl) T.z_bool (by decide +kernel) rfl) pa_nil))))
            (pss_one (ps_ret (pe_and (pe_callB call_isi (by rfl) T.z_isinstance (by decide +kernel) (pa_cons (pv 0) (pa_cons (pe_bltn (v := .ty "bool") (by rfl) T.z_bool (by decide +kernel) rfl) pa_nil))) (pe_one (pe_cmpR op_eq (pv 0) (pv 1) (nomark _))))))
            pss_nil)
          (pss_cons (ps_if (pt_val (pe_callB call_isi (by rfl) T.z_isinstance (by decide +kernel) (pa_cons (pv 1) (pa_cons (pe_bltn (v := .ty "str") (by rfl) T.z_str (by decide +kernel) rfl) pa_nil))))
            (pss_one (ps_ret (pe_and (pe_callB call_isi (by rfl) T.z_isinstance (by decide +kernel) (pa_cons (pv 0) (pa_cons (pe_bltn (v := .ty "str") (by rfl) T.z_str (by decide +kernel) rfl) pa_nil))) (pe_one (pe_cmpR op_eq (pv 0) (pv 1) (nomark _))))))
            pss_nil)
          (pss_one (ps_ret (pe_and (pe_callB call_isi (by rfl) T.z_isinstance (by decide +kernel) (pa_cons (pv 0) (pa_cons (pe_bltn (v := .ty "int") (by rfl) T.z_int (by decide +kernel) rfl) pa_nil))) (pe_and (pe_not (pe_callB call_isi (by rfl) T.z_isinstance (by decide +kernel) (pa_cons (pv 0) (pa_cons (pe_bltn (v := .ty "bool") (by rfl) T.z_bool (by decide +kernel) rfl) pa_nil)))) (pe_one (pe_cmpR op_eq (pv 0) (pv 1) (nomark _))))))))))), ?_⟩
      rcases hL with ⟨rfl, sy⟩ | ⟨a, b, xs, ys, rfl, rfl, ha, hb, hl, hz, hi⟩ | ⟨a, b, xs, ys, rfl, rfl, ha, hb, hl, hz, hi⟩
      · cases x with
        | non =>
          refine ⟨_, rfl, _, _, _, _, false, rfl, .ty _, .base (.non), kit_ty (by decide +kernel), _, rfl, iteF ⟨_, rfl, _, _, _, _, false, rfl, .ty _, .base (.non), kit_ty (by decide +kernel), _, rfl, iteF ?_⟩⟩
          refine ⟨_, rfl, rfl, _, rfl, ite2 (fun _ => ?_) (fun c => absurd (decide_eq_true rfl) c)⟩
          refine ⟨_, rfl, rfl, ?_⟩
          rw [decide_eq_true rfl]
          exact q
        | bl v =>
          refine ⟨_, rfl, _, _, _, _, false, rfl, .ty _, .base (.bl v), kit_ty (by decide +kernel), _, rfl, iteF ⟨_, rfl, _, _, _, _, false, rfl, .ty _, .base (.bl v), kit_ty (by decide +kernel), _, rfl, iteF ?_⟩⟩
          refine ⟨_, rfl, rfl, _, rfl, ite2 (fun c => (nomatch (of_decide_eq_true c))) (fun _ => ?_)⟩
          refine ⟨_, rfl, _, _, _, _, true, rfl, .ty _, .base (.bl v), kit_ty (by decide +kernel), _, rfl, iteT ?_⟩
          refine ⟨_, rfl, _, _, _, _, true, rfl, .ty _, .base (.bl v), kit_ty (by decide +kernel), _, rfl, iteT ?_⟩
          refine ⟨_, rfl, _, rfl, rfl, ?_⟩
          rw [decide_eq_true rfl]
          exact q
        | int v =>
          refine ⟨_, rfl, _, _, _, _, false, rfl, .ty _, .base (.int v), kit_ty (by decide +kernel), _, rfl, iteF ⟨_, rfl, _, _, _, _, false, rfl, .ty _, .base (.int v), kit_ty (by decide +kernel), _, rfl, iteF ?_⟩⟩
          refine ⟨_, rfl, rfl, _, rfl, ite2 (fun c => (nomatch (of_decide_eq_true c))) (fun _ => ?_)⟩
          refine ⟨_, rfl, _, _, _, _, false, rfl, .ty _, .base (.int v), kit_ty (by decide +kernel), _, rfl, iteF ?_⟩
          refine ⟨_, rfl, _, _, _, _, false, rfl, .ty _, .base (.int v), kit_ty (by decide +kernel), _, rfl, iteF ?_⟩
          refine ⟨_, rfl, _, _, _, _, true, rfl, .ty _, .base (.int v), kit_ty (by decide +kernel), _, rfl, iteT ?_⟩
          refine ⟨_, rfl, _, _, _, _, false, rfl, .ty _, .base (.int v), kit_ty (by decide +kernel), _, rfl, _, rfl, iteT ?_⟩
          refine ⟨_, rfl, _, rfl, rfl, ?_⟩
          rw [decide_eq_true rfl]
          exact q
        | str v =>
          refine ⟨_, rfl, _, _, _, _, false, rfl, .ty _, .base (.str v), kit_ty (by decide +kernel), _, rfl, iteF ⟨_, rfl, _, _, _, _, false, rfl, .ty _, .base (.str v), kit_ty (by decide +kernel), _, rfl, iteF ?_⟩⟩
          refine ⟨_, rfl, rfl, _, rfl, ite2 (fun c => (nomatch (of_decide_eq_true c))) (fun _ => ?_)⟩
          refine ⟨_, rfl, _, _, _, _, false, rfl, .ty _, .base (.str v), kit_ty (by decide +kernel), _, rfl, iteF ?_⟩
          refine ⟨_, rfl, _, _, _, _, true, rfl, .ty _, .base (.str v), kit_ty (by decide +kernel), _, rfl, iteT ?_⟩
          refine ⟨_, rfl, _, _, _, _, true, rfl, .ty _, .base (.str v), kit_ty (by decide +kernel), _, rfl, iteT ?_⟩
          refine ⟨_, rfl, _, rfl, rfl, ?_⟩
          rw [decide_eq_true rfl]
          exact q
        | _ => exact sy.elim
      · refine ⟨_, rfl, _, _, _, _, false, rfl, .ty _, .base (.tup hb), kit_ty (by decide +kernel), _, rfl, iteF ⟨_, rfl, _, _, _, _, true, rfl, .ty _, .base (.tup hb), kit_ty (by decide +kernel), _, rfl, iteT ?_⟩⟩
        refine ⟨_, rfl, _, _, _, _, false, rfl, .ty _, .base (.tup hb), kit_ty (by decide +kernel), _, rfl, _, _, _, _, false, rfl, .ty _, .base (.tup ha), kit_ty (by decide +kernel), rfl, _, rfl, iteNS rfl ?_⟩
        refine ⟨_, rfl, _, _, _, _, true, rfl, .ty _, .base (.tup hb), kit_ty (by decide +kernel), _, rfl, _, _, _, _, true, rfl, .ty _, .base (.tup ha), kit_ty (by decide +kernel), rfl, _, rfl, iteNS rfl ?_⟩
        refine ⟨_, rfl, a, _, rfl, .inr (SqT.of ha), _, rfl, b, _, rfl, .inr (SqT.of hb), rfl, _, rfl, iteNS (by rw [hl]) ?_⟩
        refine ⟨_, rfl, b, _, rfl, .inr (SqT.of hb), _, rfl, by omega, by omega, for_range (lo := 0) (n := ys.length) (fun i σ H' => H' = H ∧ ∃ k, σ = [some (.ref a), some (.ref b), k]) ⟨rfl, _, rfl⟩ ?_ ?_⟩
        · rintro i σ H1 hi2 ⟨rfl, k, rfl⟩
          have e1 : xs[i]? = some xs[i] := List.getElem?_eq_getElem (by omega)
          have e2 : ys[i]? = some ys[i] := List.getElem?_eq_getElem hi2
          have z : (0 : Int) + (i : Int) = ((i : Nat) : Int) := Int.zero_add _
          refine ⟨_, rfl, _, rfl, .inr (.inl ⟨a, _, _, _, rfl, rfl, SqT.of ha, by rw [z]; exact atI_nat e1, _, rfl, _, rfl, .inr (.inl ⟨b, _, _, _, rfl, rfl, SqT.of hb, by rw [z]; exact atI_nat e2, ?_⟩)⟩)⟩
          exact ⟨_, _, rfl, hi i _ _ e1 e2, _, rfl, iteF ⟨rfl, _, rfl⟩⟩
        · rintro σ H1 ⟨rfl, k, rfl⟩
          exact q
      · refine ⟨_, rfl, _, _, _, _, true, rfl, .ty _, .base (.lst hb), kit_ty (by decide +kernel), _, rfl, iteT ?_⟩
        refine ⟨_, rfl, _, _, _, _, true, rfl, .ty _, .base (.lst hb), kit_ty (by decide +kernel), _, rfl, _, _, _, _, true, rfl, .ty _, .base (.lst ha), kit_ty (by decide +kernel), rfl, _, rfl, iteNS rfl ?_⟩
        refine ⟨_, rfl, _, _, _, _, false, rfl, .ty _, .base (.lst hb), kit_ty (by decide +kernel), _, rfl, _, _, _, _, false, rfl, .ty _, .base (.lst ha), kit_ty (by decide +kernel), rfl, _, rfl, iteNS rfl ?_⟩
        refine ⟨_, rfl, a, _, rfl, .inl (SqL.of ha), _, rfl, b, _, rfl, .inl (SqL.of hb), rfl, _, rfl, iteNS (by rw [hl]) ?_⟩
        refine ⟨_, rfl, b, _, rfl, .inl (SqL.of hb), _, rfl, by omega, by omega, for_range (lo := 0) (n := ys.length) (fun i σ H' => H' = H ∧ ∃ k, σ = [some (.ref a), some (.ref b), k]) ⟨rfl, _, rfl⟩ ?_ ?_⟩
        · rintro i σ H1 hi2 ⟨rfl, k, rfl⟩
          have e1 : xs[i]? = some xs[i] := List.getElem?_eq_getElem (by omega)
          have e2 : ys[i]? = some ys[i] := List.getElem?_eq_getElem hi2
          have z : (0 : Int) + (i : Int) = ((i : Nat) : Int) := Int.zero_add _
          refine ⟨_, rfl, _, rfl, .inl (⟨a, _, _, _, rfl, rfl, SqL.of ha, by rw [z]; exact atI_nat e1, _, rfl, _, rfl, .inl (⟨b, _, _, _, rfl, rfl, SqL.of hb, by rw [z]; exact atI_nat e2, ?_⟩)⟩)⟩
          exact ⟨_, _, rfl, hi i _ _ e1 e2, _, rfl, iteF ⟨rfl, _, rfl⟩⟩
        · rintro σ H1 ⟨rfl, k, rfl⟩
          exact q
/-! ### trees -/
abbrev OkS : Type := {w : Str // PyData.strOk w = true}
inductive Ar where
  | gone
  | name (w : OkS)
  | block (a b c d : Int)
inductive Tr where
  | gone
  | num (x y : Int)
  | cell (r c : Int)
  | neg (t : Tr)
  | op (s : Str) (l r : Tr)
  | call (n : Str) (as : List Ar)
def ArAt (H : Hp) (v : V) : Ar → Prop
  | .gone => ∃ q, v = .ref q ∧ H q = some (.tup [.str "gone"])
  | .name w => ∃ q, v = .ref q ∧ H q = some (.tup [.str "name", .str w.1])
  | .block a b c d => ∃ q, v = .ref q ∧ H q = some (.tup [.str "block", .int a, .int b, .int c, .int d])
inductive Ars (H : Hp) : List V → List Ar → Prop where
  | nil : Ars H [] []
  | cons {v : V} {a : Ar} {vs : List V} {as : List Ar} : ArAt H v a → Ars H vs as → Ars H (v :: vs) (a :: as)
def TrAt (H : Hp) : V → Tr → Prop
  | v, .gone => ∃ q, v = .ref q ∧ H q = some (.tup [.str "gone"])
  | v, .num x y => ∃ q p, v = .ref q ∧ H q = some (.tup [.str "num", .ref p]) ∧ H p = some (.tup [.int x, .int y])
  | v, .cell r c => ∃ q, v = .ref q ∧ H q = some (.tup [.str "cell", .int r, .int c])
  | v, .neg t => ∃ q u, v = .ref q ∧ H q = some (.tup [.str "neg", u]) ∧ TrAt H u t
  | v, .op s l r => ∃ q u w, v = .ref q ∧ H q = some (.tup [.str "op", .str s, u, w]) ∧ TrAt H u l ∧ TrAt H w r
  | v, .call n as => ∃ q p vs, v = .ref q ∧ H q = some (.tup [.str "call", .str n, .ref p]) ∧ H p = some (.tup vs) ∧ Ars H vs as
theorem ArAt.mono {H H' : Hp} (s : TK H H') {v : V} : ∀ {a : Ar}, ArAt H v a → ArAt H' v a
  | .gone, ⟨q, h, h1⟩ => ⟨q, h, s _ _ h1⟩
  | .name _, ⟨q, h, h1⟩ => ⟨q, h, s _ _ h1⟩
  | .block _ _ _ _, ⟨q, h, h1⟩ => ⟨q, h, s _ _ h1⟩
theorem Ars.mono {H H' : Hp} (s : TK H H') : ∀ {vs as}, Ars H vs as → Ars H' vs as
  | _, _, .nil => .nil
  | _, _, .cons h r => .cons (h.mono s) (r.mono s)
theorem Ars.len {H : Hp} : ∀ {vs as}, Ars H vs as → vs.length = as.length
  | _, _, .nil => rfl
  | _, _, .cons _ r => congrArg (· + 1) r.len
theorem Ars.app {H : Hp} {us : List V} {bs : List Ar} (h : Ars H us bs) : ∀ {vs as}, Ars H vs as → Ars H (vs ++ us) (as ++ bs)
  | _, _, .nil => h
  | _, _, .cons h2 r => .cons h2 (Ars.app h r)
theorem Ars.get {H : Hp} : ∀ {vs as}, Ars H vs as → ∀ (i : Nat) x, vs[i]? = some x → ∃ a, as[i]? = some a ∧ ArAt H x a
  | _, _, .nil, i, x, h => by simp at h
  | _, _, .cons (a := a) h r, 0, x, e => ⟨a, rfl, by cases e; exact h⟩
  | _, _, .cons h r, i + 1, x, e => r.get i x (by simpa using e)
theorem TrAt.mono {H H' : Hp} (s : TK H H') : ∀ {t : Tr} {v : V}, TrAt H v t → TrAt H' v t
  | .gone, _, ⟨q, h, h1⟩ => ⟨q, h, s _ _ h1⟩
  | .num _ _, _, ⟨q, p, h, h1, h2⟩ => ⟨q, p, h, s _ _ h1, s _ _ h2⟩
  | .cell _ _, _, ⟨q, h, h1⟩ => ⟨q, h, s _ _ h1⟩
  | .neg _, _, ⟨q, u, h, h1, h2⟩ => ⟨q, u, h, s _ _ h1, h2.mono s⟩
  | .op _ _ _, _, ⟨q, u, w, h, h1, h2, h3⟩ => ⟨q, u, w, h, s _ _ h1, h2.mono s, h3.mono s⟩
  | .call _ _, _, ⟨q, p, vs, h, h1, h2, h3⟩ => ⟨q, p, vs, h, s _ _ h1, s _ _ h2, h3.mono s⟩
def Tr.h : Tr → Nat
  | .neg t => t.h + 1
  | .op _ l r => max l.h r.h + 1
  | _ => 0
def Tr.ok (m : Nat) : Tr → Prop
  | .neg t => t.ok m
  | .op _ l r => l.ok m ∧ r.ok m
  | .call _ as => as.length ≤ m
  | _ => True
def sz : Tr → Int
  | .neg t => 1 + sz t
  | .op _ l r => 1 + sz l + sz r
  | .call _ as => 1 + (as.length : Int)
  | _ => 1
def tcells : Tr → List (Int × Int)
  | .cell r c => [(r, c)]
  | .neg t => tcells t
  | .op _ l r => tcells l ++ tcells r
  | _ => []
def tareas : Tr → List Ar
  | .call _ as => as
  | .neg t => tareas t
  | .op _ l r => tareas l ++ tareas r
  | _ => []
def mr : Ar → List Ar
  | .gone => []
  | .name w => [.name w]
  | .block a b c d => [.gone, .block a b (c + 2) d]
def orGone : List Ar → List Ar
  | [] => [.gone]
  | as => as
def dn (r c : Int) : Tr := if r > 5 then .gone else .cell (r + 1) c
def mp : Tr → Tr
  | .cell r c => dn r c
  | .neg t => .neg (mp t)
  | .op s l r => .op s (mp l) (mp r)
  | .call n as => .call n (orGone (as.flatMap mr))
  | t => t
theorem ifN {a b : Str} {A B : Prop} (h : a ≠ b) (q : B) : if decide (V.str a = V.str b) = true then A else B := by
  rw [if_neg fun z => h (V.str.inj (of_decide_eq_true z))]
  exact q
theorem ifY {a : Str} {A B : Prop} (q : A) : if decide (V.str a = V.str a) = true then A else B := by
  rw [if_pos (decide_eq_true rfl)]
  exact q
theorem w1 : ("gone" : Str) ≠ "neg" ∧ ("gone" : Str) ≠ "op" ∧ ("gone" : Str) ≠ "call" ∧ ("gone" : Str) ≠ "cell" ∧ ("gone" : Str) ≠ "name" := by decide +kernel
theorem w2 : ("num" : Str) ≠ "neg" ∧ ("num" : Str) ≠ "op" ∧ ("num" : Str) ≠ "call" ∧ ("num" : Str) ≠ "cell" := by decide +kernel
theorem w3 : ("cell" : Str) ≠ "neg" ∧ ("cell" : Str) ≠ "op" ∧ ("cell" : Str) ≠ "call" := by decide +kernel
theorem w4 : ("neg" : Str) ≠ "op" ∧ ("neg" : Str) ≠ "call" ∧ ("neg" : Str) ≠ "cell" := by decide +kernel
theorem w5 : ("op" : Str) ≠ "neg" ∧ ("op" : Str) ≠ "call" ∧ ("op" : Str) ≠ "cell" := by decide +kernel
theorem w6 : ("call" : Str) ≠ "neg" ∧ ("call" : Str) ≠ "op" ∧ ("call" : Str) ≠ "cell" := by decide +kernel
theorem w7 : ("name" : Str) ≠ "gone" ∧ ("block" : Str) ≠ "gone" ∧ ("block" : Str) ≠ "name" := by decide +kernel
theorem hop {s : Str} {l r : Tr} {n : Nat} (h : (Tr.op s l r).h < n + 1) : l.h < n ∧ r.h < n := by
  have : max l.h r.h + 1 < n + 1 := h
  omega
theorem hneg {t : Tr} {n : Nat} (h : (Tr.neg t).h < n + 1) : t.h < n := by
  have : t.h + 1 < n + 1 := h
  omega
def spSize (K : PySem.W.Frag) (n : Nat) : Sp := fun vs H Q _ => ∃ (v : V) (t : Tr), vs = [v] ∧ t.h < n ∧ TrAt H v t ∧ Q (.int (sz t)) H
theorem okSize (T : Txt K mg) : ∀ n : Nat, FnOk P w K mg base CX0 (n + 1) T.fSize T.fdSize ["tree"] (spSize K n)
  | 0 => by
    refine T.FSize.ok scSize (fun vs H Q E h => ?_) (fun cdv A outer s H vs Q E hr h => ?_)
    · obtain ⟨v, t, rfl, hh, _⟩ := h
      rfl
    · obtain ⟨v, t, rfl, hh, _⟩ := h
      exact absurd hh (Nat.not_lt_zero _)
  | n + 1 => by
    have IH := okSize T n
    refine T.FSize.ok scSize (fun vs H Q E h => ?_) (fun cdv A outer s H vs Q E hr h => ?_)
    · obtain ⟨v, t, rfl, _⟩ := h
      rfl
    · obtain ⟨v, t, rfl, hh, ht, q⟩ := h
      -- slots tree=0
      refine ⟨_, (pss_cons (ps_if (pt_cmpR op_eq (pe_ix ix_tup (pv 0) pe_int (fun _ _ => rfl)) pe_str (nomark _))
            (pss_one (ps_ret (pe_op op_add pe_int (pe_call IH (hr.mono (by omega)) (by rfl) T.gSize T.FSize.kp T.bSize .nil pass0 (pa_cons (pe_ix ix_tup (pv 0) pe_int (fun _ _ => rfl)) pa_nil)))))
            pss_nil)
          (pss_cons (ps_if (pt_cmpR op_eq (pe_ix ix_tup (pv 0) pe_int (fun _ _ => rfl)) pe_str (nomark _))
            (pss_one (ps_ret (pe_op op_add (pe_op op_add pe_int (pe_call IH (hr.mono (by omega)) (by rfl) T.gSize T.FSize.kp T.bSize .nil pass0 (pa_cons (pe_ix ix_tup (pv 0) pe_int (fun _ _ => rfl)) pa_nil))) (pe_call IH (hr.mono (by omega)) (by rfl) T.gSize T.FSize.kp T.bSize .nil pass0 (pa_cons (pe_ix ix_tup (pv 0) pe_int (fun _ _ => rfl)) pa_nil)))))
            pss_nil)
          (pss_cons (ps_if (pt_cmpR op_eq (pe_ix ix_tup (pv 0) pe_int (fun _ _ => rfl)) pe_str (nomark _))
            (pss_one (ps_ret (pe_op op_add pe_int (pe_callB call_len_seq (by rfl) T.z_len PySem.boot_len (pa_cons (pe_ix ix_tup (pv 0) pe_int (fun _ _ => rfl)) pa_nil)))))
            pss_nil)
          (pss_one (ps_ret pe_int))))), ?_⟩
      cases t with
      | gone =>
        obtain ⟨p, rfl, h1⟩ := ht
        exact ⟨_, rfl, _, _, _, _, rfl, rfl, SqT.of h1, atI_nat (j := 0) rfl, rfl, _, rfl, ifN w1.1 ⟨_, rfl, _, _, _, _, rfl, rfl, SqT.of h1, atI_nat (j := 0) rfl, rfl, _, rfl, ifN w1.2.1 ⟨_, rfl, _, _, _, _, rfl, rfl, SqT.of h1, atI_nat (j := 0) rfl, rfl, _, rfl, ifN w1.2.2.1 q⟩⟩⟩
      | num x y =>
        obtain ⟨p, p2, rfl, h1, _⟩ := ht
        exact ⟨_, rfl, _, _, _, _, rfl, rfl, SqT.of h1, atI_nat (j := 0) rfl, rfl, _, rfl, ifN w2.1 ⟨_, rfl, _, _, _, _, rfl, rfl, SqT.of h1, atI_nat (j := 0) rfl, rfl, _, rfl, ifN w2.2.1 ⟨_, rfl, _, _, _, _, rfl, rfl, SqT.of h1, atI_nat (j := 0) rfl, rfl, _, rfl, ifN w2.2.2.1 q⟩⟩⟩
      | cell r c =>
        obtain ⟨p, rfl, h1⟩ := ht
        exact ⟨_, rfl, _, _, _, _, rfl, rfl, SqT.of h1, atI_nat (j := 0) rfl, rfl, _, rfl, ifN w3.1 ⟨_, rfl, _, _, _, _, rfl, rfl, SqT.of h1, atI_nat (j := 0) rfl, rfl, _, rfl, ifN w3.2.1 ⟨_, rfl, _, _, _, _, rfl, rfl, SqT.of h1, atI_nat (j := 0) rfl, rfl, _, rfl, ifN w3.2.2 q⟩⟩⟩
      | neg t =>
        obtain ⟨p, u, rfl, h1, h2⟩ := ht
        exact ⟨_, rfl, _, _, _, _, rfl, rfl, SqT.of h1, atI_nat (j := 0) rfl, rfl, _, rfl, ifY ⟨_, rfl, _, _, _, _, rfl, rfl, SqT.of h1, atI_nat (j := 1) rfl, u, t, rfl, hneg hh, h2, _, _, rfl, rfl, q⟩⟩
      | op s l r =>
        obtain ⟨p, u, w, rfl, h1, h2, h3⟩ := ht
        exact ⟨_, rfl, _, _, _, _, rfl, rfl, SqT.of h1, atI_nat (j := 0) rfl, rfl, _, rfl, ifN w5.1 ⟨_, rfl, _, _, _, _, rfl, rfl, SqT.of h1, atI_nat (j := 0) rfl, rfl, _, rfl, ifY ⟨_, rfl, _, _, _, _, rfl, rfl, SqT.of h1, atI_nat (j := 2) rfl, u, l, rfl, (hop hh).1, h2, _, _, rfl, rfl, _, rfl, _, _, _, _, rfl, rfl, SqT.of h1, atI_nat (j := 3) rfl, w, r, rfl, (hop hh).2, h3, _, _, rfl, rfl, q⟩⟩⟩
      | call m as =>
        obtain ⟨p, p2, vs, rfl, h1, h2, h3⟩ := ht
        have e : 1 + (vs.length : Int) = sz (.call m as) := by
          rw [h3.len]
          rfl
        refine ⟨_, rfl, _, _, _, _, rfl, rfl, SqT.of h1, atI_nat (j := 0) rfl, rfl, _, rfl, ifN w6.1 ⟨_, rfl, _, _, _, _, rfl, rfl, SqT.of h1, atI_nat (j := 0) rfl, rfl, _, rfl, ifN w6.2.1 ⟨_, rfl, _, _, _, _, rfl, rfl, SqT.of h1, atI_nat (j := 0) rfl, rfl, _, rfl, ifY ⟨_, rfl, _, _, _, _, rfl, rfl, SqT.of h1, atI_nat (j := 2) rfl, p2, _, rfl, .inr (SqT.of h2), _, _, rfl, rfl, ?_⟩⟩⟩⟩
        show Q (.int (1 + (vs.length : Int))) H
        rw [e]
        exact q
theorem okLawSize (T : Txt K mg) : ∀ n : Nat, FnOk P w K mg base CX0 (n + 1) T.fLawSize T.fdLawSize ["tree"] (spSize K n)
  | 0 => by
    refine T.FLawSize.ok scLawSize (fun vs H Q E h => ?_) (fun cdv A outer s H vs Q E hr h => ?_)
    · obtain ⟨v, t, rfl, hh, _⟩ := h
      rfl
    · obtain ⟨v, t, rfl, hh, _⟩ := h
      exact absurd hh (Nat.not_lt_zero _)
  | n + 1 => by
    have IH := okLawSize T n
    refine T.FLawSize.ok scLawSize (fun vs H Q E h => ?_) (fun cdv A outer s H vs Q E hr h => ?_)
    · obtain ⟨v, t, rfl, _⟩ := h
      rfl
    · obtain ⟨v, t, rfl, hh, ht, q⟩ := h
      -- slots tree=0
      refine ⟨_, (pss_cons (ps_if (pt_cmpR op_eq (pe_ix ix_tup (pv 0) pe_int (fun _ _ => rfl)) pe_str (nomark _))
            (pss_one (ps_ret (pe_op op_add pe_int (pe_call IH (hr.mono (by omega)) (by rfl) T.gLawSize T.FLawSize.kp T.bLawSize .nil pass0 (pa_cons (pe_ix ix_tup (pv 0) pe_int (fun _ _ => rfl)) pa_nil)))))
            pss_nil)
          (pss_cons (ps_if (pt_cmpR op_eq (pe_ix ix_tup (pv 0) pe_int (fun _ _ => rfl)) pe_str (nomark _))
            (pss_one (ps_ret (pe_op op_add (pe_op op_add pe_int (pe_call IH (hr.mono (by omega)) (by rfl) T.gLawSize T.FLawSize.kp T.bLawSize .nil pass0 (pa_cons (pe_ix ix_tup (pv 0) pe_int (fun _ _ => rfl)) pa_nil))) (pe_call IH (hr.mono (by omega)) (by rfl) T.gLawSize T.FLawSize.kp T.bLawSize .nil pass0 (pa_cons (pe_ix ix_tup (pv 0) pe_int (fun _ _ => rfl)) pa_nil)))))
            pss_nil)
          (pss_cons (ps_if (pt_cmpR op_eq (pe_ix ix_tup (pv 0) pe_int (fun _ _ => rfl)) pe_str (nomark _))
            (pss_one (ps_ret (pe_op op_add pe_int (pe_callB call_len_seq (by rfl) T.z_len PySem.boot_len (pa_cons (pe_ix ix_tup (pv 0) pe_int (fun _ _ => rfl)) pa_nil)))))
            pss_nil)
          (pss_one (ps_ret pe_int))))), ?_⟩
      cases t with
      | gone =>
        obtain ⟨p, rfl, h1⟩ := ht
        exact ⟨_, rfl, _, _, _, _, rfl, rfl, SqT.of h1, atI_nat (j := 0) rfl, rfl, _, rfl, ifN w1.1 ⟨_, rfl, _, _, _, _, rfl, rfl, SqT.of h1, atI_nat (j := 0) rfl, rfl, _, rfl, ifN w1.2.1 ⟨_, rfl, _, _, _, _, rfl, rfl, SqT.of h1, atI_nat (j := 0) rfl, rfl, _, rfl, ifN w1.2.2.1 q⟩⟩⟩
      | num x y =>
        obtain ⟨p, p2, rfl, h1, _⟩ := ht
        exact ⟨_, rfl, _, _, _, _, rfl, rfl, SqT.of h1, atI_nat (j := 0) rfl, rfl, _, rfl, ifN w2.1 ⟨_, rfl, _, _, _, _, rfl, rfl, SqT.of h1, atI_nat (j := 0) rfl, rfl, _, rfl, ifN w2.2.1 ⟨_, rfl, _, _, _, _, rfl, rfl, SqT.of h1, atI_nat (j := 0) rfl, rfl, _, rfl, ifN w2.2.2.1 q⟩⟩⟩
      | cell r c =>
        obtain ⟨p, rfl, h1⟩ := ht
        exact ⟨_, rfl, _, _, _, _, rfl, rfl, SqT.of h1, atI_nat (j := 0) rfl, rfl, _, rfl, ifN w3.1 ⟨_, rfl, _, _, _, _, rfl, rfl, SqT.of h1, atI_nat (j := 0) rfl, rfl, _, rfl, ifN w3.2.1 ⟨_, rfl, _, _, _, _, rfl, rfl, SqT.of h1, atI_nat (j := 0) rfl, rfl, _, rfl, ifN w3.2.2 q⟩⟩⟩
      | neg t =>
        obtain ⟨p, u, rfl, h1, h2⟩ := ht
        exact ⟨_, rfl, _, _, _, _, rfl, rfl, SqT.of h1, atI_nat (j := 0) rfl, rfl, _, rfl, ifY ⟨_, rfl, _, _, _, _, rfl, rfl, SqT.of h1, atI_nat (j := 1) rfl, u, t, rfl, hneg hh, h2, _, _, rfl, rfl, q⟩⟩
      | op s l r =>
        obtain ⟨p, u, w, rfl, h1, h2, h3⟩ := ht
        exact ⟨_, rfl, _, _, _, _, rfl, rfl, SqT.of h1, atI_nat (j := 0) rfl, rfl, _, rfl, ifN w5.1 ⟨_, rfl, _, _, _, _, rfl, rfl, SqT.of h1, atI_nat (j := 0) rfl, rfl, _, rfl, ifY ⟨_, rfl, _, _, _, _, rfl, rfl, SqT.of h1, atI_nat (j := 2) rfl, u, l, rfl, (hop hh).1, h2, _, _, rfl, rfl, _, rfl, _, _, _, _, rfl, rfl, SqT.of h1, atI_nat (j := 3) rfl, w, r, rfl, (hop hh).2, h3, _, _, rfl, rfl, q⟩⟩⟩
      | call m as =>
        obtain ⟨p, p2, vs, rfl, h1, h2, h3⟩ := ht
        have e : 1 + (vs.length : Int) = sz (.call m as) := by
          rw [h3.len]
          rfl
        refine ⟨_, rfl, _, _, _, _, rfl, rfl, SqT.of h1, atI_nat (j := 0) rfl, rfl, _, rfl, ifN w6.1 ⟨_, rfl, _, _, _, _, rfl, rfl, SqT.of h1, atI_nat (j := 0) rfl, rfl, _, rfl, ifN w6.2.1 ⟨_, rfl, _, _, _, _, rfl, rfl, SqT.of h1, atI_nat (j := 0) rfl, rfl, _, rfl, ifY ⟨_, rfl, _, _, _, _, rfl, rfl, SqT.of h1, atI_nat (j := 2) rfl, p2, _, rfl, .inr (SqT.of h2), _, _, rfl, rfl, ?_⟩⟩⟩⟩
        show Q (.int (1 + (vs.length : Int))) H
        rw [e]
        exact q
theorem pow_le {n : Nat} (h : n ≤ 8) : 2 ^ n ≤ 256 := Nat.le_trans (Nat.pow_le_pow_right (by decide) h) (by decide)
theorem tcells_len : ∀ {t : Tr} {n : Nat}, t.h < n + 1 → (tcells t).length ≤ 2 ^ n
  | .gone, n, _ => Nat.zero_le _
  | .num _ _, n, _ => Nat.zero_le _
  | .cell _ _, n, _ => Nat.one_le_two_pow
  | .call _ _, n, _ => Nat.zero_le _
  | .neg t, 0, h => absurd (hneg h) (Nat.not_lt_zero _)
  | .neg t, n + 1, h => Nat.le_trans (tcells_len (t := t) (hneg h)) (Nat.pow_le_pow_right (by decide) (Nat.le_succ n))
  | .op s l r, 0, h => absurd (hop h).1 (Nat.not_lt_zero _)
  | .op s l r, n + 1, h => by
    have a := tcells_len (hop h).1
    have b := tcells_len (hop h).2
    show (tcells l ++ tcells r).length ≤ _
    rw [List.length_append, Nat.pow_succ]
    omega
theorem tareas_len {m : Nat} : ∀ {t : Tr} {n : Nat}, t.h < n + 1 → t.ok m → (tareas t).length ≤ m * 2 ^ n
  | .gone, n, _, _ => Nat.zero_le _
  | .num _ _, n, _, _ => Nat.zero_le _
  | .cell _ _, n, _, _ => Nat.zero_le _
  | .call _ as, n, _, o => Nat.le_trans o (Nat.le_mul_of_pos_right _ Nat.one_le_two_pow)
  | .neg t, 0, h, _ => absurd (hneg h) (Nat.not_lt_zero _)
  | .neg t, n + 1, h, o => Nat.le_trans (tareas_len (t := t) (hneg h) o) (Nat.mul_le_mul_left _ (Nat.pow_le_pow_right (by decide) (Nat.le_succ n)))
  | .op s l r, 0, h, _ => absurd (hop h).1 (Nat.not_lt_zero _)
  | .op s l r, n + 1, h, o => by
    have a := tareas_len (hop h).1 o.1
    have b := tareas_len (hop h).2 o.2
    show (tareas l ++ tareas r).length ≤ _
    rw [List.length_append, Nat.pow_succ, ← Nat.mul_assoc]
    omega
inductive Cls (H : Hp) : List V → List (Int × Int) → Prop where
  | nil : Cls H [] []
  | cons {q : Addr} {z : Int × Int} {vs : List V} {zs : List (Int × Int)} : H q = some (.tup [.int z.1, .int z.2]) → Cls H vs zs → Cls H (.ref q :: vs) (z :: zs)
theorem Cls.mono {H H' : Hp} (s : TK H H') : ∀ {vs zs}, Cls H vs zs → Cls H' vs zs
  | _, _, .nil => .nil
  | _, _, .cons h r => .cons (s _ _ h) (r.mono s)
theorem Cls.len {H : Hp} : ∀ {vs zs}, Cls H vs zs → vs.length = zs.length
  | _, _, .nil => rfl
  | _, _, .cons _ r => congrArg (· + 1) r.len
theorem Cls.app {H : Hp} {us : List V} {ys : List (Int × Int)} (h : Cls H us ys) : ∀ {vs zs}, Cls H vs zs → Cls H (vs ++ us) (zs ++ ys)
  | _, _, .nil => h
  | _, _, .cons h2 r => .cons h2 (Cls.app h r)
def spCells (K : PySem.W.Frag) (n : Nat) : Sp := fun vs H Q _ => ∃ (v : V) (t : Tr), vs = [v] ∧ t.h < n ∧ n ≤ 9 ∧ TrAt H v t ∧ ∀ (H' : Hp) (l : Addr) (us : List V), Same H H' → H' l = some (.lst us) → Cls H' us (tcells t) → Q (.ref l) H'
theorem okNamedCells (T : Txt K mg) : ∀ n : Nat, FnOk P w K mg base CX0 (n + 1) T.fNamedCells T.fdNamedCells ["tree"] (spCells K n)
  | 0 => by
    refine T.FNamedCells.ok scNamedCells (fun vs H Q E h => ?_) (fun cdv A outer s H vs Q E hr h => ?_)
    · obtain ⟨v, t, rfl, hh, _⟩ := h
      rfl
    · obtain ⟨v, t, rfl, hh, _⟩ := h
      exact absurd hh (Nat.not_lt_zero _)
  | n + 1 => by
    have IH := okNamedCells T n
    refine T.FNamedCells.ok scNamedCells (fun vs H Q E h => ?_) (fun cdv A outer s H vs Q E hr h => ?_)
    · obtain ⟨v, t, rfl, _⟩ := h
      rfl
    · obtain ⟨v, t, rfl, hh, hn, ht, q⟩ := h
      -- slots tree=0
      refine ⟨_, (pss_cons (ps_if (pt_cmpR op_eq (pe_ix ix_tup (pv 0) pe_int (fun _ _ => rfl)) pe_str (nomark _))
            (pss_one (ps_ret (pe_lst (pa_cons (pe_tup (pa_cons (pe_ix ix_tup (pv 0) pe_int (fun _ _ => rfl)) (pa_cons (pe_ix ix_tup (pv 0) pe_int (fun _ _ => rfl)) pa_nil))) pa_nil))))
            pss_nil)
          (pss_cons (ps_if (pt_cmpR op_eq (pe_ix ix_tup (pv 0) pe_int (fun _ _ => rfl)) pe_str (nomark _))
            (pss_one (ps_ret (pe_call IH (hr.mono (by omega)) (by rfl) T.gNamedCells T.FNamedCells.kp T.bNamedCells .nil pass0 (pa_cons (pe_ix ix_tup (pv 0) pe_int (fun _ _ => rfl)) pa_nil))))
            pss_nil)
          (pss_cons (ps_if (pt_cmpR op_eq (pe_ix ix_tup (pv 0) pe_int (fun _ _ => rfl)) pe_str (nomark _))
            (pss_one (ps_ret (pe_op op_cat (pe_call IH (hr.mono (by omega)) (by rfl) T.gNamedCells T.FNamedCells.kp T.bNamedCells .nil pass0 (pa_cons (pe_ix ix_tup (pv 0) pe_int (fun _ _ => rfl)) pa_nil)) (pe_call IH (hr.mono (by omega)) (by rfl) T.gNamedCells T.FNamedCells.kp T.bNamedCells .nil pass0 (pa_cons (pe_ix ix_tup (pv 0) pe_int (fun _ _ => rfl)) pa_nil)))))
            pss_nil)
          (pss_one (ps_ret (pe_lst pa_nil)))))), ?_⟩
      cases t with
      | gone =>
        obtain ⟨p, rfl, h1⟩ := ht
        exact ⟨_, rfl, _, _, _, _, rfl, rfl, SqT.of h1, atI_nat (j := 0) rfl, rfl, _, rfl, ifN w1.2.2.2.1 ⟨_, rfl, _, _, _, _, rfl, rfl, SqT.of h1, atI_nat (j := 0) rfl, rfl, _, rfl, ifN w1.1 ⟨_, rfl, _, _, _, _, rfl, rfl, SqT.of h1, atI_nat (j := 0) rfl, rfl, _, rfl, ifN w1.2.1 ⟨Nat.zero_le _, fun l hl => q _ l [] (same_new hl) upd_same .nil⟩⟩⟩⟩
      | num x y =>
        obtain ⟨p, p2, rfl, h1, _⟩ := ht
        exact ⟨_, rfl, _, _, _, _, rfl, rfl, SqT.of h1, atI_nat (j := 0) rfl, rfl, _, rfl, ifN w2.2.2.2 ⟨_, rfl, _, _, _, _, rfl, rfl, SqT.of h1, atI_nat (j := 0) rfl, rfl, _, rfl, ifN w2.1 ⟨_, rfl, _, _, _, _, rfl, rfl, SqT.of h1, atI_nat (j := 0) rfl, rfl, _, rfl, ifN w2.2.1 ⟨Nat.zero_le _, fun l hl => q _ l [] (same_new hl) upd_same .nil⟩⟩⟩⟩
      | call m as =>
        obtain ⟨p, p2, vs, rfl, h1, _⟩ := ht
        exact ⟨_, rfl, _, _, _, _, rfl, rfl, SqT.of h1, atI_nat (j := 0) rfl, rfl, _, rfl, ifN w6.2.2 ⟨_, rfl, _, _, _, _, rfl, rfl, SqT.of h1, atI_nat (j := 0) rfl, rfl, _, rfl, ifN w6.1 ⟨_, rfl, _, _, _, _, rfl, rfl, SqT.of h1, atI_nat (j := 0) rfl, rfl, _, rfl, ifN w6.2.1 ⟨Nat.zero_le _, fun l hl => q _ l [] (same_new hl) upd_same .nil⟩⟩⟩⟩
      | cell r c =>
        obtain ⟨p, rfl, h1⟩ := ht
        exact ⟨_, rfl, _, _, _, _, rfl, rfl, SqT.of h1, atI_nat (j := 0) rfl, rfl, _, rfl, ifY ⟨_, rfl, _, _, _, _, rfl, rfl, SqT.of h1, atI_nat (j := 1) rfl, _, rfl, _, _, _, _, rfl, rfl, SqT.of h1, atI_nat (j := 2) rfl, (by show 2 ≤ sizeLine; decide), fun u hu => ⟨(by show 1 ≤ sizeLine; decide), fun l hl => q _ l [.ref u] ((same_new hu).trans (same_new hl)) upd_same (.cons ((same_new hl) _ _ upd_same) .nil)⟩⟩⟩
      | neg t =>
        obtain ⟨p, u, rfl, h1, h2⟩ := ht
        exact ⟨_, rfl, _, _, _, _, rfl, rfl, SqT.of h1, atI_nat (j := 0) rfl, rfl, _, rfl, ifN w4.2.2 ⟨_, rfl, _, _, _, _, rfl, rfl, SqT.of h1, atI_nat (j := 0) rfl, rfl, _, rfl, ifY ⟨_, rfl, _, _, _, _, rfl, rfl, SqT.of h1, atI_nat (j := 1) rfl, u, t, rfl, hneg hh, by omega, h2, q⟩⟩⟩
      | op s l r =>
        obtain ⟨p, u, w, rfl, h1, h2, h3⟩ := ht
        refine ⟨_, rfl, _, _, _, _, rfl, rfl, SqT.of h1, atI_nat (j := 0) rfl, rfl, _, rfl, ifN w5.2.2 ⟨_, rfl, _, _, _, _, rfl, rfl, SqT.of h1, atI_nat (j := 0) rfl, rfl, _, rfl, ifN w5.1 ⟨_, rfl, _, _, _, _, rfl, rfl, SqT.of h1, atI_nat (j := 0) rfl, rfl, _, rfl, ifY ⟨_, rfl, _, _, _, _, rfl, rfl, SqT.of h1, atI_nat (j := 2) rfl, u, l, rfl, (hop hh).1, by omega, h2, fun H1 l1 us1 s1 e1 c1 => ?_⟩⟩⟩⟩
        have h1' := s1 _ _ h1
        refine ⟨_, rfl, _, _, _, _, rfl, rfl, SqT.of h1', atI_nat (j := 3) rfl, w, r, rfl, (hop hh).2, by omega, h3.mono (TK.of s1), fun H2 l2 us2 s2 e2 c2 => ?_⟩
        refine ⟨l1, l2, us1, us2, rfl, rfl, s2 _ _ e1, e2, ?_, fun l hl => q _ l (us1 ++ us2) ((s1.trans s2).trans (same_new hl)) upd_same ?_⟩
        · have a := tcells_len hh
          have : (tcells (.op s l r)).length = us1.length + us2.length := by
            show (tcells l ++ tcells r).length = _
            rw [List.length_append, c1.len, c2.len]
          have b := pow_le (n := n) (by omega)
          exact sz100 (by omega)
        · exact Cls.app (c2.mono (TK.of (same_new hl))) (c1.mono (TK.of (s2.trans (same_new hl))))
theorem okLawCells (T : Txt K mg) : ∀ n : Nat, FnOk P w K mg base CX0 (n + 1) T.fLawCells T.fdLawCells ["tree"] (spCells K n)
  | 0 => by
    refine T.FLawCells.ok scLawCells (fun vs H Q E h => ?_) (fun cdv A outer s H vs Q E hr h => ?_)
    · obtain ⟨v, t, rfl, hh, _⟩ := h
      rfl
    · obtain ⟨v, t, rfl, hh, _⟩ := h
      exact absurd hh (Nat.not_lt_zero _)
  | n + 1 => by
    have IH := okLawCells T n
    refine T.FLawCells.ok scLawCells (fun vs H Q E h => ?_) (fun cdv A outer s H vs Q E hr h => ?_)
    · obtain ⟨v, t, rfl, _⟩ := h
      rfl
    · obtain ⟨v, t, rfl, hh, hn, ht, q⟩ := h
      -- slots tree=0
      refine ⟨_, (pss_cons (ps_if (pt_cmpR op_eq (pe_ix ix_tup (pv 0) pe_int (fun _ _ => rfl)) pe_str (nomark _))
            (pss_one (ps_ret (pe_lst (pa_cons (pe_tup (pa_cons (pe_ix ix_tup (pv 0) pe_int (fun _ _ => rfl)) (pa_cons (pe_ix ix_tup (pv 0) pe_int (fun _ _ => rfl)) pa_nil))) pa_nil))))
            pss_nil)
          (pss_cons (ps_if (pt_cmpR op_eq (pe_ix ix_tup (pv 0) pe_int (fun _ _ => rfl)) pe_str (nomark _))
            (pss_one (ps_ret (pe_call IH (hr.mono (by omega)) (by rfl) T.gLawCells T.FLawCells.kp T.bLawCells .nil pass0 (pa_cons (pe_ix ix_tup (pv 0) pe_int (fun _ _ => rfl)) pa_nil))))
            pss_nil)
          (pss_cons (ps_if (pt_cmpR op_eq (pe_ix ix_tup (pv 0) pe_int (fun _ _ => rfl)) pe_str (nomark _))
            (pss_one (ps_ret (pe_op op_cat (pe_call IH (hr.mono (by omega)) (by rfl) T.gLawCells T.FLawCells.kp T.bLawCells .nil pass0 (pa_cons (pe_ix ix_tup (pv 0) pe_int (fun _ _ => rfl)) pa_nil)) (pe_call IH (hr.mono (by omega)) (by rfl) T.gLawCells T.FLawCells.kp T.bLawCells .nil pass0 (pa_cons (pe_ix ix_tup (pv 0) pe_int (fun _ _ => rfl)) pa_nil)))))
            pss_nil)
          (pss_one (ps_ret (pe_lst pa_nil)))))), ?_⟩
      cases t with
      | gone =>
        obtain ⟨p, rfl, h1⟩ := ht
        exact ⟨_, rfl, _, _, _, _, rfl, rfl, SqT.of h1, atI_nat (j := 0) rfl, rfl, _, rfl, ifN w1.2.2.2.1 ⟨_, rfl, _, _, _, _, rfl, rfl, SqT.of h1, atI_nat (j := 0) rfl, rfl, _, rfl, ifN w1.1 ⟨_, rfl, _, _, _, _, rfl, rfl, SqT.of h1, atI_nat (j := 0) rfl, rfl, _, rfl, ifN w1.2.1 ⟨Nat.zero_le _, fun l hl => q _ l [] (same_new hl) upd_same .nil⟩⟩⟩⟩
      | num x y =>
        obtain ⟨p, p2, rfl, h1, _⟩ := ht
        exact ⟨_, rfl, _, _, _, _, rfl, rfl, SqT.of h1, atI_nat (j := 0) rfl, rfl, _, rfl, ifN w2.2.2.2 ⟨_, rfl, _, _, _, _, rfl, rfl, SqT.of h1, atI_nat (j := 0) rfl, rfl, _, rfl, ifN w2.1 ⟨_, rfl, _, _, _, _, rfl, rfl, SqT.of h1, atI_nat (j := 0) rfl, rfl, _, rfl, ifN w2.2.1 ⟨Nat.zero_le _, fun l hl => q _ l [] (same_new hl) upd_same .nil⟩⟩⟩⟩
      | call m as =>
        obtain ⟨p, p2, vs, rfl, h1, _⟩ := ht
        exact ⟨_, rfl, _, _, _, _, rfl, rfl, SqT.of h1, atI_nat (j := 0) rfl, rfl, _, rfl, ifN w6.2.2 ⟨_, rfl, _, _, _, _, rfl, rfl, SqT.of h1, atI_nat (j := 0) rfl, rfl, _, rfl, ifN w6.1 ⟨_, rfl, _, _, _, _, rfl, rfl, SqT.of h1, atI_nat (j := 0) rfl, rfl, _, rfl, ifN w6.2.1 ⟨Nat.zero_le _, fun l hl => q _ l [] (same_new hl) upd_same .nil⟩⟩⟩⟩
      | cell r c =>
        obtain ⟨p, rfl, h1⟩ := ht
        exact ⟨_, rfl, _, _, _, _, rfl, rfl, SqT.of h1, atI_nat (j := 0) rfl, rfl, _, rfl, ifY ⟨_, rfl, _, _, _, _, rfl, rfl, SqT.of h1, atI_nat (j := 1) rfl, _, rfl, _, _, _, _, rfl, rfl, SqT.of h1, atI_nat (j := 2) rfl, (by show 2 ≤ sizeLine; decide), fun u hu => ⟨(by show 1 ≤ sizeLine; decide), fun l hl => q _ l [.ref u] ((same_new hu).trans (same_new hl)) upd_same (.cons ((same_new hl) _ _ upd_same) .nil)⟩⟩⟩
      | neg t =>
        obtain ⟨p, u, rfl, h1, h2⟩ := ht
        exact ⟨_, rfl, _, _, _, _, rfl, rfl, SqT.of h1, atI_nat (j := 0) rfl, rfl, _, rfl, ifN w4.2.2 ⟨_, rfl, _, _, _, _, rfl, rfl, SqT.of h1, atI_nat (j := 0) rfl, rfl, _, rfl, ifY ⟨_, rfl, _, _, _, _, rfl, rfl, SqT.of h1, atI_nat (j := 1) rfl, u, t, rfl, hneg hh, by omega, h2, q⟩⟩⟩
      | op s l r =>
        obtain ⟨p, u, w, rfl, h1, h2, h3⟩ := ht
        refine ⟨_, rfl, _, _, _, _, rfl, rfl, SqT.of h1, atI_nat (j := 0) rfl, rfl, _, rfl, ifN w5.2.2 ⟨_, rfl, _, _, _, _, rfl, rfl, SqT.of h1, atI_nat (j := 0) rfl, rfl, _, rfl, ifN w5.1 ⟨_, rfl, _, _, _, _, rfl, rfl, SqT.of h1, atI_nat (j := 0) rfl, rfl, _, rfl, ifY ⟨_, rfl, _, _, _, _, rfl, rfl, SqT.of h1, atI_nat (j := 2) rfl, u, l, rfl, (hop hh).1, by omega, h2, fun H1 l1 us1 s1 e1 c1 => ?_⟩⟩⟩⟩
        have h1' := s1 _ _ h1
        refine ⟨_, rfl, _, _, _, _, rfl, rfl, SqT.of h1', atI_nat (j := 3) rfl, w, r, rfl, (hop hh).2, by omega, h3.mono (TK.of s1), fun H2 l2 us2 s2 e2 c2 => ?_⟩
        refine ⟨l1, l2, us1, us2, rfl, rfl, s2 _ _ e1, e2, ?_, fun l hl => q _ l (us1 ++ us2) ((s1.trans s2).trans (same_new hl)) upd_same ?_⟩
        · have a := tcells_len hh
          have : (tcells (.op s l r)).length = us1.length + us2.length := by
            show (tcells l ++ tcells r).length = _
            rw [List.length_append, c1.len, c2.len]
          have b := pow_le (n := n) (by omega)
          exact sz100 (by omega)
        · exact Cls.app (c2.mono (TK.of (same_new hl))) (c1.mono (TK.of (s2.trans (same_new hl))))
def spAreas (K : PySem.W.Frag) (n : Nat) : Sp := fun vs H Q _ => ∃ (v : V) (t : Tr), vs = [v] ∧ t.h < n ∧ n ≤ 9 ∧ t.ok 8 ∧ TrAt H v t ∧ ∀ (H' : Hp) (l : Addr) (us : List V), Same H H' → H' l = some (.lst us) → Ars H' us (tareas t) → Q (.ref l) H'
theorem okAreasOf (T : Txt K mg) : ∀ n : Nat, FnOk P w K mg base CX0 (n + 1) T.fAreasOf T.fdAreasOf ["tree"] (spAreas K n)
  | 0 => by
    refine T.FAreasOf.ok scAreasOf (fun vs H Q E h => ?_) (fun cdv A outer s H vs Q E hr h => ?_)
    · obtain ⟨v, t, rfl, hh, _⟩ := h
      rfl
    · obtain ⟨v, t, rfl, hh, _⟩ := h
      exact absurd hh (Nat.not_lt_zero _)
  | n + 1 => by
    have IH := okAreasOf T n
    refine T.FAreasOf.ok scAreasOf (fun vs H Q E h => ?_) (fun cdv A outer s H vs Q E hr h => ?_)
    · obtain ⟨v, t, rfl, _⟩ := h
      rfl
    · obtain ⟨v, t, rfl, hh, hn, ok, ht, q⟩ := h
      -- slots tree=0
      refine ⟨_, (pss_cons (ps_if (pt_cmpR op_eq (pe_ix ix_tup (pv 0) pe_int (fun _ _ => rfl)) pe_str (nomark _))
            (pss_one (ps_ret (pe_callTy call_list_of (by rfl) T.z_list (by decide +kernel) (pa_cons (pe_ix ix_tup (pv 0) pe_int (fun _ _ => rfl)) pa_nil))))
            pss_nil)
          (pss_cons (ps_if (pt_cmpR op_eq (pe_ix ix_tup (pv 0) pe_int (fun _ _ => rfl)) pe_str (nomark _))
            (pss_one (ps_ret (pe_call IH (hr.mono (by omega)) (by rfl) T.gAreasOf T.FAreasOf.kp T.bAreasOf .nil pass0 (pa_cons (pe_ix ix_tup (pv 0) pe_int (fun _ _ => rfl)) pa_nil))))
            pss_nil)
          (pss_cons (ps_if (pt_cmpR op_eq (pe_ix ix_tup (pv 0) pe_int (fun _ _ => rfl)) pe_str (nomark _))
            (pss_one (ps_ret (pe_op op_cat (pe_call IH (hr.mono (by omega)) (by rfl) T.gAreasOf T.FAreasOf.kp T.bAreasOf .nil pass0 (pa_cons (pe_ix ix_tup (pv 0) pe_int (fun _ _ => rfl)) pa_nil)) (pe_call IH (hr.mono (by omega)) (by rfl) T.gAreasOf T.FAreasOf.kp T.bAreasOf .nil pass0 (pa_cons (pe_ix ix_tup (pv 0) pe_int (fun _ _ => rfl)) pa_nil)))))
            pss_nil)
          (pss_one (ps_ret (pe_lst pa_nil)))))), ?_⟩
      cases t with
      | gone =>
        obtain ⟨p, rfl, h1⟩ := ht
        exact ⟨_, rfl, _, _, _, _, rfl, rfl, SqT.of h1, atI_nat (j := 0) rfl, rfl, _, rfl, ifN w1.2.2.1 ⟨_, rfl, _, _, _, _, rfl, rfl, SqT.of h1, atI_nat (j := 0) rfl, rfl, _, rfl, ifN w1.1 ⟨_, rfl, _, _, _, _, rfl, rfl, SqT.of h1, atI_nat (j := 0) rfl, rfl, _, rfl, ifN w1.2.1 ⟨Nat.zero_le _, fun l hl => q _ l [] (same_new hl) upd_same .nil⟩⟩⟩⟩
      | num x y =>
        obtain ⟨p, p2, rfl, h1, _⟩ := ht
        exact ⟨_, rfl, _, _, _, _, rfl, rfl, SqT.of h1, atI_nat (j := 0) rfl, rfl, _, rfl, ifN w2.2.2.1 ⟨_, rfl, _, _, _, _, rfl, rfl, SqT.of h1, atI_nat (j := 0) rfl, rfl, _, rfl, ifN w2.1 ⟨_, rfl, _, _, _, _, rfl, rfl, SqT.of h1, atI_nat (j := 0) rfl, rfl, _, rfl, ifN w2.2.1 ⟨Nat.zero_le _, fun l hl => q _ l [] (same_new hl) upd_same .nil⟩⟩⟩⟩
      | cell r c =>
        obtain ⟨p, rfl, h1⟩ := ht
        exact ⟨_, rfl, _, _, _, _, rfl, rfl, SqT.of h1, atI_nat (j := 0) rfl, rfl, _, rfl, ifN w3.2.2 ⟨_, rfl, _, _, _, _, rfl, rfl, SqT.of h1, atI_nat (j := 0) rfl, rfl, _, rfl, ifN w3.1 ⟨_, rfl, _, _, _, _, rfl, rfl, SqT.of h1, atI_nat (j := 0) rfl, rfl, _, rfl, ifN w3.2.1 ⟨Nat.zero_le _, fun l hl => q _ l [] (same_new hl) upd_same .nil⟩⟩⟩⟩
      | call m as =>
        obtain ⟨p, p2, vs, rfl, h1, h2, h3⟩ := ht
        exact ⟨_, rfl, _, _, _, _, rfl, rfl, SqT.of h1, atI_nat (j := 0) rfl, rfl, _, rfl, ifY ⟨_, rfl, _, _, _, _, rfl, rfl, SqT.of h1, atI_nat (j := 2) rfl, p2, vs, rfl, .inr (SqT.of h2), fun l hl => q _ l vs (same_new hl) upd_same (h3.mono (TK.of (same_new hl)))⟩⟩
      | neg t =>
        obtain ⟨p, u, rfl, h1, h2⟩ := ht
        exact ⟨_, rfl, _, _, _, _, rfl, rfl, SqT.of h1, atI_nat (j := 0) rfl, rfl, _, rfl, ifN w4.2.1 ⟨_, rfl, _, _, _, _, rfl, rfl, SqT.of h1, atI_nat (j := 0) rfl, rfl, _, rfl, ifY ⟨_, rfl, _, _, _, _, rfl, rfl, SqT.of h1, atI_nat (j := 1) rfl, u, t, rfl, hneg hh, by omega, ok, h2, q⟩⟩⟩
      | op s l r =>
        obtain ⟨p, u, w, rfl, h1, h2, h3⟩ := ht
        refine ⟨_, rfl, _, _, _, _, rfl, rfl, SqT.of h1, atI_nat (j := 0) rfl, rfl, _, rfl, ifN w5.2.1 ⟨_, rfl, _, _, _, _, rfl, rfl, SqT.of h1, atI_nat (j := 0) rfl, rfl, _, rfl, ifN w5.1 ⟨_, rfl, _, _, _, _, rfl, rfl, SqT.of h1, atI_nat (j := 0) rfl, rfl, _, rfl, ifY ⟨_, rfl, _, _, _, _, rfl, rfl, SqT.of h1, atI_nat (j := 2) rfl, u, l, rfl, (hop hh).1, by omega, ok.1, h2, fun H1 l1 us1 s1 e1 c1 => ?_⟩⟩⟩⟩
        have h1' := s1 _ _ h1
        refine ⟨_, rfl, _, _, _, _, rfl, rfl, SqT.of h1', atI_nat (j := 3) rfl, w, r, rfl, (hop hh).2, by omega, ok.2, h3.mono (TK.of s1), fun H2 l2 us2 s2 e2 c2 => ?_⟩
        refine ⟨l1, l2, us1, us2, rfl, rfl, s2 _ _ e1, e2, ?_, fun l hl => q _ l (us1 ++ us2) ((s1.trans s2).trans (same_new hl)) upd_same ?_⟩
        · have a := tareas_len hh ok
          have : (tareas (.op s l r)).length = us1.length + us2.length := by
            show (tareas l ++ tareas r).length = _
            rw [List.length_append, c1.len, c2.len]
          have b := pow_le (n := n) (by omega)
          exact sz100 (by omega)
        · exact Ars.app (c2.mono (TK.of (same_new hl))) (c1.mono (TK.of (s2.trans (same_new hl))))
theorem okLawAreas (T : Txt K mg) : ∀ n : Nat, FnOk P w K mg base CX0 (n + 1) T.fLawAreas T.fdLawAreas ["tree"] (spAreas K n)
  | 0 => by
    refine T.FLawAreas.ok scLawAreas (fun vs H Q E h => ?_) (fun cdv A outer s H vs Q E hr h => ?_)
    · obtain ⟨v, t, rfl, hh, _⟩ := h
      rfl
    · obtain ⟨v, t, rfl, hh, _⟩ := h
      exact absurd hh (Nat.not_lt_zero _)
  | n + 1 => by
    have IH := okLawAreas T n
    refine T.FLawAreas.ok scLawAreas (fun vs H Q E h => ?_) (fun cdv A outer s H vs Q E hr h => ?_)
    · obtain ⟨v, t, rfl, _⟩ := h
      rfl
    · obtain ⟨v, t, rfl, hh, hn, ok, ht, q⟩ := h
      -- slots tree=0 area=1
      refine ⟨_, (pss_cons (ps_if (pt_cmpR op_eq (pe_ix ix_tup (pv 0) pe_int (fun _ _ => rfl)) pe_str (nomark _))
            (pss_one (ps_ret (pe_lc (own := [("area", 1)]) (g := gName 1) (tt := tYes) rfl scLawAreas.nd (pi_tup (pe_ix (ix_tupK (K := K) rfl) (pv 0) pe_int (fun _ _ => rfl))) (blkOk_by (own := [("area", 1)]) (N := ["tree", "area"]) (sc := defScope sLawAreas) (by decide +kernel)) (fun _ _ _ _ _ => (pg_name (i := 1) scLawAreas.nd rfl (Or.inl rfl))) (fun _ _ _ _ _ => pts_nil) (fun _ _ _ _ _ => (pv 1)))))
            pss_nil)
          (pss_cons (ps_if (pt_cmpR op_eq (pe_ix ix_tup (pv 0) pe_int (fun _ _ => rfl)) pe_str (nomark _))
            (pss_one (ps_ret (pe_call IH (hr.mono (by omega)) (by rfl) T.gLawAreas T.FLawAreas.kp T.bLawAreas .nil pass0 (pa_cons (pe_ix ix_tup (pv 0) pe_int (fun _ _ => rfl)) pa_nil))))
            pss_nil)
          (pss_cons (ps_if (pt_cmpR op_eq (pe_ix ix_tup (pv 0) pe_int (fun _ _ => rfl)) pe_str (nomark _))
            (pss_one (ps_ret (pe_op op_cat (pe_call IH (hr.mono (by omega)) (by rfl) T.gLawAreas T.FLawAreas.kp T.bLawAreas .nil pass0 (pa_cons (pe_ix ix_tup (pv 0) pe_int (fun _ _ => rfl)) pa_nil)) (pe_call IH (hr.mono (by omega)) (by rfl) T.gLawAreas T.FLawAreas.kp T.bLawAreas .nil pass0 (pa_cons (pe_ix ix_tup (pv 0) pe_int (fun _ _ => rfl)) pa_nil)))))
            pss_nil)
          (pss_one (ps_ret (pe_lst pa_nil)))))), ?_⟩
      cases t with
      | gone =>
        obtain ⟨p, rfl, h1⟩ := ht
        exact ⟨_, rfl, _, _, _, _, rfl, rfl, SqT.of h1, atI_nat (j := 0) rfl, rfl, _, rfl, ifN w1.2.2.1 ⟨_, rfl, _, _, _, _, rfl, rfl, SqT.of h1, atI_nat (j := 0) rfl, rfl, _, rfl, ifN w1.1 ⟨_, rfl, _, _, _, _, rfl, rfl, SqT.of h1, atI_nat (j := 0) rfl, rfl, _, rfl, ifN w1.2.1 ⟨Nat.zero_le _, fun l hl => q _ l [] (same_new hl) upd_same .nil⟩⟩⟩⟩
      | num x y =>
        obtain ⟨p, p2, rfl, h1, _⟩ := ht
        exact ⟨_, rfl, _, _, _, _, rfl, rfl, SqT.of h1, atI_nat (j := 0) rfl, rfl, _, rfl, ifN w2.2.2.1 ⟨_, rfl, _, _, _, _, rfl, rfl, SqT.of h1, atI_nat (j := 0) rfl, rfl, _, rfl, ifN w2.1 ⟨_, rfl, _, _, _, _, rfl, rfl, SqT.of h1, atI_nat (j := 0) rfl, rfl, _, rfl, ifN w2.2.1 ⟨Nat.zero_le _, fun l hl => q _ l [] (same_new hl) upd_same .nil⟩⟩⟩⟩
      | cell r c =>
        obtain ⟨p, rfl, h1⟩ := ht
        exact ⟨_, rfl, _, _, _, _, rfl, rfl, SqT.of h1, atI_nat (j := 0) rfl, rfl, _, rfl, ifN w3.2.2 ⟨_, rfl, _, _, _, _, rfl, rfl, SqT.of h1, atI_nat (j := 0) rfl, rfl, _, rfl, ifN w3.1 ⟨_, rfl, _, _, _, _, rfl, rfl, SqT.of h1, atI_nat (j := 0) rfl, rfl, _, rfl, ifN w3.2.1 ⟨Nat.zero_le _, fun l hl => q _ l [] (same_new hl) upd_same .nil⟩⟩⟩⟩
      | call m as =>
        obtain ⟨p, p2, vs, rfl, h1, h2, h3⟩ := ht
        refine ⟨_, rfl, _, _, _, _, rfl, rfl, SqT.of h1, atI_nat (j := 0) rfl, rfl, _, rfl, ifY ⟨_, rfl, _, _, _, _, rfl, rfl, SqT.of h1, atI_nat (j := 2) rfl, p2, rfl, ⟨_, SqT.of h2⟩, fun N hN => ?_⟩⟩
        refine lc_it (walk_tup (a := p2) (xs := vs)) (fun i H' => Same H H' ∧ H' N = some (.lst (vs.take i))) ⟨same_new hN, upd_same⟩ (fun i H' _ h => SqT.of (h.1 _ _ h2)) ?_ ?_
        · rintro i x H9 H2 hi ⟨s1, hN1⟩ ⟨rfl, hx⟩
          refine ⟨rfl, yesT ⟨_, rfl, _, hN1, ?_, same_mut s1 hN, ?_⟩⟩
          · rw [List.length_take]
            exact small1000 (by have := h3.len; have o : as.length ≤ 8 := ok; omega)
          · rw [upd_same, List.take_add_one, hx]
            rfl
        · rintro H1 ⟨s1, hN1⟩
          rw [List.take_length] at hN1
          exact q H1 N vs s1 hN1 (h3.mono (TK.of s1))
      | neg t =>
        obtain ⟨p, u, rfl, h1, h2⟩ := ht
        exact ⟨_, rfl, _, _, _, _, rfl, rfl, SqT.of h1, atI_nat (j := 0) rfl, rfl, _, rfl, ifN w4.2.1 ⟨_, rfl, _, _, _, _, rfl, rfl, SqT.of h1, atI_nat (j := 0) rfl, rfl, _, rfl, ifY ⟨_, rfl, _, _, _, _, rfl, rfl, SqT.of h1, atI_nat (j := 1) rfl, u, t, rfl, hneg hh, by omega, ok, h2, q⟩⟩⟩
      | op s l r =>
        obtain ⟨p, u, w, rfl, h1, h2, h3⟩ := ht
        refine ⟨_, rfl, _, _, _, _, rfl, rfl, SqT.of h1, atI_nat (j := 0) rfl, rfl, _, rfl, ifN w5.2.1 ⟨_, rfl, _, _, _, _, rfl, rfl, SqT.of h1, atI_nat (j := 0) rfl, rfl, _, rfl, ifN w5.1 ⟨_, rfl, _, _, _, _, rfl, rfl, SqT.of h1, atI_nat (j := 0) rfl, rfl, _, rfl, ifY ⟨_, rfl, _, _, _, _, rfl, rfl, SqT.of h1, atI_nat (j := 2) rfl, u, l, rfl, (hop hh).1, by omega, ok.1, h2, fun H1 l1 us1 s1 e1 c1 => ?_⟩⟩⟩⟩
        have h1' := s1 _ _ h1
        refine ⟨_, rfl, _, _, _, _, rfl, rfl, SqT.of h1', atI_nat (j := 3) rfl, w, r, rfl, (hop hh).2, by omega, ok.2, h3.mono (TK.of s1), fun H2 l2 us2 s2 e2 c2 => ?_⟩
        refine ⟨l1, l2, us1, us2, rfl, rfl, s2 _ _ e1, e2, ?_, fun l hl => q _ l (us1 ++ us2) ((s1.trans s2).trans (same_new hl)) upd_same ?_⟩
        · have a := tareas_len hh ok
          have : (tareas (.op s l r)).length = us1.length + us2.length := by
            show (tareas l ++ tareas r).length = _
            rw [List.length_append, c1.len, c2.len]
          have b := pow_le (n := n) (by omega)
          exact sz100 (by omega)
        · exact Ars.app (c2.mono (TK.of (same_new hl))) (c1.mono (TK.of (s2.trans (same_new hl))))
/-! ### the greatest common divisor by Euclid's steps -/
theorem half_step {a b : Nat} (hb : 0 < b) (hba : b ≤ a) : 2 * (b * (a % b)) ≤ a * b := by
  have h1 := Nat.mod_lt a hb
  have h2 : b + a % b ≤ a := by
    have e := Nat.div_add_mod a b
    have q : 1 ≤ a / b := (Nat.one_le_div_iff hb).mpr hba
    have z : b * 1 ≤ b * (a / b) := Nat.mul_le_mul_left b q
    omega
  have h3 : 2 * (a % b) ≤ a := by omega
  calc 2 * (b * (a % b)) = b * (2 * (a % b)) := by rw [Nat.mul_left_comm]
    _ ≤ b * a := Nat.mul_le_mul_left b h3
    _ = a * b := Nat.mul_comm b a
def spGcd (K : PySem.W.Frag) : Sp := fun vs H Q _ => ∃ (x y : Int), vs = [.int x, .int y] ∧ x.natAbs * y.natAbs < 2 ^ 890 ∧ Q (.int ((Nat.gcd x.natAbs y.natAbs : Nat) : Int)) H
theorem abs_eq (x : Int) : (if x < 0 then -x else x) = ((x.natAbs : Nat) : Int) := by
  split <;> omega
theorem okLawGcd (T : Txt K mg) : FnOk P w K mg base CX0 1 T.fLawGcd T.fdLawGcd ["a", "b"] (spGcd K) := by
  refine T.FLawGcd.ok scLawGcd (fun vs H Q E h => ?_) (fun cdv A outer s H vs Q E hr h => ?_)
  · obtain ⟨x, y, rfl, _⟩ := h
    rfl
  · obtain ⟨x, y, rfl, hz, q⟩ := h
    -- slots a=0 b=1 turn=2 rest=3
    refine ⟨_, (pss_cons (ps_set (i := 0) scLawGcd.nd rfl (Or.inl rfl) (pe_callB call_abs (by rfl) T.z_abs (by decide +kernel) (pa_cons (pv 0) pa_nil)))
        (pss_cons (ps_set (i := 1) scLawGcd.nd rfl (Or.inl rfl) (pe_callB call_abs (by rfl) T.z_abs (by decide +kernel) (pa_cons (pv 1) pa_nil)))
        (pss_cons (ps_for PassesOwn.never rfl (pi_range1 rfl T.z_range (pa_cons pe_int pa_nil)) (pg_name (i := 2) scLawGcd.nd rfl (Or.inl rfl))
          (pss_cons (ps_if (pt_cmpR op_eq (pv 1) pe_int (nomark _))
            (pss_one ps_break)
            pss_nil)
          (pss_cons (ps_set (i := 3) scLawGcd.nd rfl (Or.inl rfl) (pe_op op_mod (pe_callTy call_int1 (by rfl) T.z_int (by decide +kernel) (pa_cons (pv 0) pa_nil)) (pv 1)))
          (pss_cons (ps_set (i := 0) scLawGcd.nd rfl (Or.inl rfl) (pv 1))
          (pss_one (ps_set (i := 1) scLawGcd.nd rfl (Or.inl rfl) (pv 3)))))))
        (pss_one (ps_ret (pv 0)))))), ?_⟩
    refine ⟨_, rfl, _, rfl, ?_⟩
    refine ⟨_, rfl, _, rfl, ?_⟩
    rw [abs_eq, abs_eq]
    generalize x.natAbs = a0 at hz q ⊢
    generalize y.natAbs = b0 at hz q ⊢
    refine ⟨900, rfl, by decide, by decide, for_range (lo := 0) (n := 900) (fun t σ H' => ∃ (a b : Nat) (c c1 : Option V), σ = [some (.int (a : Int)), some (.int (b : Int)), c, c1] ∧ H' = H ∧ Nat.gcd a b = Nat.gcd a0 b0 ∧ (t = 0 ∨ b ≤ a) ∧ (a * b) * 2 ^ (t - 1) < 2 ^ 890) ⟨a0, b0, _, _, rfl, rfl, rfl, .inl rfl, by simpa using hz⟩ ?_ ?_⟩
    · rintro t σ H1 ht ⟨a, b, c, c1, rfl, rfl, hg, ho, hs⟩
      refine ⟨_, rfl, rfl, _, rfl, ite2 (fun e => ?_) (fun e => ?_)⟩
      · have e2 : b = 0 := by
          have e3 := V.int.inj (of_decide_eq_true e)
          omega
        subst e2
        rw [Nat.gcd_zero_right] at hg
        refine ⟨_, rfl, ?_⟩
        rw [hg]
        exact q
      · have hb : 0 < b := by
          rcases Nat.eq_zero_or_pos b with z | z
          · subst z
            exact absurd (decide_eq_true rfl) e
          · exact z
        refine ⟨_, rfl, .inl ⟨_, rfl, _, rfl, _, _, rfl, rfl, (by show (0 : Int) < (b : Int); omega), ?_⟩⟩
        refine ⟨_, rfl, _, rfl, b, a % b, _, _, rfl, rfl, ?_, .inr (Nat.le_of_lt (Nat.mod_lt a hb)), ?_⟩
        · rw [← hg, Nat.gcd_comm a b, Nat.gcd_rec b a, Nat.gcd_comm]
        · rcases ho with z | z
          · subst z
            rw [show (2 : Nat) ^ (0 + 1 - 1) = 2 ^ (0 - 1) from rfl]
            refine Nat.lt_of_le_of_lt (Nat.mul_le_mul_right _ ?_) hs
            rw [Nat.mul_comm a b]
            exact Nat.mul_le_mul_left b (Nat.mod_le a b)
          · have h2 := half_step hb z
            rcases t with _ | t
            · refine Nat.lt_of_le_of_lt (Nat.mul_le_mul_right _ ?_) hs
              omega
            · show b * (a % b) * 2 ^ (t + 1) < 2 ^ 890
              refine Nat.lt_of_le_of_lt ?_ (show (a * b) * 2 ^ t < 2 ^ 890 from hs)
              rw [Nat.pow_succ, Nat.mul_comm (2 ^ t) 2, ← Nat.mul_assoc]
              refine Nat.mul_le_mul_right _ ?_
              rw [Nat.mul_comm]
              exact h2
    · rintro σ H1 ⟨a, b, c, c1, rfl, rfl, hg, ho, hs⟩
      have hb : a * b = 0 := by
        rcases Nat.eq_zero_or_pos (a * b) with z | z
        · exact z
        · exfalso
          have h1 : 1 * 2 ^ (900 - 1) ≤ (a * b) * 2 ^ (900 - 1) := Nat.mul_le_mul_right _ z
          have h2 : (2 : Nat) ^ 890 ≤ 1 * 2 ^ (900 - 1) := by decide
          omega
      have hb0 : b = 0 := by
        rcases Nat.mul_eq_zero.mp hb with z | z
        · rcases ho with w | w <;> omega
        · exact z
      subst hb0
      rw [Nat.gcd_zero_right] at hg
      refine ⟨_, rfl, ?_⟩
      rw [hg]
      exact q
/-! ### fractions in lowest terms -/
theorem op_fdivZ {X : Cx} : OpR X (binaryOp .FloorDiv) (rI (fun _ j => j ≠ 0 ∧ j.natAbs.log2 < 9000) fun i j => .int (i.fdiv j)) := opI fun i j _ _ _ _ _ hc q => floordiv_int hc.1 q (.inl (PyProof.noPylong_of_log2 hc.2))
structure Low (n d x y : Int) : Prop where
  pos : 0 < y
  eq : x * d = n * y
  cop : Nat.gcd x.natAbs y.natAbs = 1
  lx : x.natAbs ≤ n.natAbs
  ly : y.natAbs ≤ d.natAbs
def cmn (n d : Int) : Int := if d < 0 then -((Nat.gcd n.natAbs d.natAbs : Nat) : Int) else ((Nat.gcd n.natAbs d.natAbs : Nat) : Int)
theorem cmn_abs (n d : Int) : (cmn n d).natAbs = Nat.gcd n.natAbs d.natAbs := by
  unfold cmn
  split <;> omega
theorem low_of {n d : Int} (hd : d ≠ 0) : Low n d (n.fdiv (cmn n d)) (d.fdiv (cmn n d)) := by
  have hg : 0 < Nat.gcd n.natAbs d.natAbs := Nat.gcd_pos_of_pos_right _ (by omega)
  have ha := cmn_abs n d
  have hc : cmn n d ≠ 0 := by omega
  have d1 : cmn n d ∣ n := Int.natAbs_dvd_natAbs.mp (by rw [ha]; exact Nat.gcd_dvd_left _ _)
  have d2 : cmn n d ∣ d := Int.natAbs_dvd_natAbs.mp (by rw [ha]; exact Nat.gcd_dvd_right _ _)
  have sg : 0 < d → 0 < cmn n d := fun h => by
    unfold cmn
    rw [if_neg (by omega)]
    omega
  have sg2 : d < 0 → cmn n d < 0 := fun h => by
    unfold cmn
    rw [if_pos h]
    omega
  obtain ⟨x, hx⟩ := d1
  obtain ⟨y, hy⟩ := d2
  generalize cmn n d = c at *
  have e1 : n.fdiv c = x := by rw [hx]; exact Int.mul_fdiv_cancel_left _ hc
  have e2 : d.fdiv c = y := by rw [hy]; exact Int.mul_fdiv_cancel_left _ hc
  rw [e1, e2]
  have y0 : 0 < y := by
    rcases Int.lt_trichotomy d 0 with h | h | h
    · have hc2 := sg2 h
      rcases Int.lt_trichotomy y 0 with z | z | z
      · have := Int.mul_pos_of_neg_of_neg hc2 z
        omega
      · subst z
        simp at hy
        omega
      · exact z
    · exact absurd h hd
    · have hc2 := sg h
      rcases Int.lt_trichotomy y 0 with z | z | z
      · have := Int.mul_neg_of_pos_of_neg hc2 z
        omega
      · subst z
        simp at hy
        omega
      · exact z
  have en : n.natAbs = c.natAbs * x.natAbs := by rw [hx, Int.natAbs_mul]
  have ed : d.natAbs = c.natAbs * y.natAbs := by rw [hy, Int.natAbs_mul]
  refine ⟨y0, ?_, ?_, ?_, ?_⟩
  · rw [hx, hy, Int.mul_assoc, Int.mul_comm x, Int.mul_assoc, Int.mul_comm x]
  · rw [en, ed, Nat.gcd_mul_left] at ha
    rw [en, ed, Nat.gcd_mul_left] at hg
    have z : c.natAbs * 1 = c.natAbs * Nat.gcd x.natAbs y.natAbs := by rw [Nat.mul_one]; exact ha
    exact (Nat.eq_of_mul_eq_mul_left (by omega) z).symm
  · rw [en]
    exact Nat.le_mul_of_pos_left _ (by omega)
  · rw [ed]
    exact Nat.le_mul_of_pos_left _ (by omega)
def spLowest (K : PySem.W.Frag) : Sp := fun vs H Q _ => ∃ (n d : Int), vs = [.int n, .int d] ∧ d ≠ 0 ∧ n.natAbs < 2 ^ 400 ∧ d.natAbs < 2 ^ 400 ∧ ∀ p x y, H p = none → Low n d x y → Q (.ref p) (upd H p (.tup [.int x, .int y]))
theorem okLawLowest (T : Txt K mg) : FnOk P w K mg base CX0 2 T.fLawLowest T.fdLawLowest ["n", "d"] (spLowest K) := by
  refine T.FLawLowest.ok scLawLowest (fun vs H Q E h => ?_) (fun cdv A outer s H vs Q E hr h => ?_)
  · obtain ⟨n, d, rfl, _⟩ := h
    rfl
  · obtain ⟨n, d, rfl, hd, zn, zd, q⟩ := h
    -- slots n=0 d=1 common=2
    refine ⟨_, (C8.pss_cut (ps_if (pt_cmpR op_lt (pv 1) pe_int (nomark _))
          (pss_cons (ps_set (i := 0) scLawLowest.nd rfl (Or.inl rfl) (pe_op op_sub pe_int (pv 0)))
          (pss_one (ps_set (i := 1) scLawLowest.nd rfl (Or.inl rfl) (pe_op op_sub pe_int (pv 1)))))
          pss_nil)
        (pss_cons (ps_set (i := 2) scLawLowest.nd rfl (Or.inl rfl) (pe_call (okLawGcd T) (hr.mono (by decide)) (by rfl) T.gLawGcd T.FLawGcd.kp T.bLawGcd .nil pass0 (pa_cons (pv 0) (pa_cons (pv 1) pa_nil))))
        (pss_one (ps_ret (pe_tup (pa_cons (pe_op op_fdivZ (pv 0) (pv 2)) (pa_cons (pe_op op_fdivZ (pv 1) (pv 2)) pa_nil))))))), ?_⟩
    refine ⟨fun σ H' => H' = H ∧ ∃ n2 d2 : Int, σ = [some (.int n2), some (.int d2), none] ∧ 0 < d2 ∧ n2.natAbs = n.natAbs ∧ d2.natAbs = d.natAbs ∧ ∀ x y, Low n2 d2 x y → Low n d x y, ?_, ?_⟩
    · refine ⟨_, rfl, _, _, rfl, rfl, _, rfl, ite2 (fun c => ?_) (fun c => ?_)⟩
      · have c2 : d < 0 := of_decide_eq_true c
        refine ⟨_, rfl, _, _, rfl, rfl, _, rfl, _, _, rfl, rfl, rfl, 0 - n, 0 - d, rfl, by omega, by omega, by omega, fun x y L => ?_⟩
        refine ⟨L.pos, ?_, L.cop, by have := L.lx; omega, by have := L.ly; omega⟩
        have e := L.eq
        rw [Int.zero_sub, Int.zero_sub, Int.mul_neg, Int.neg_mul] at e
        omega
      · have c2 : ¬ d < 0 := fun z => c (decide_eq_true z)
        exact ⟨rfl, n, d, rfl, by omega, rfl, rfl, fun _ _ L => L⟩
    · rintro σ H' ⟨rfl, n2, d2, rfl, h0, hn, hd2, hL⟩
      have hz : n2.natAbs * d2.natAbs < 2 ^ 890 := by
        rw [hn, hd2]
        exact Nat.lt_of_le_of_lt (Nat.mul_le_mul (Nat.le_of_lt zn) (Nat.le_of_lt zd)) (by decide)
      have hc : cmn n2 d2 = ((Nat.gcd n2.natAbs d2.natAbs : Nat) : Int) := by
        unfold cmn
        rw [if_neg (by omega)]
      have hg : 0 < Nat.gcd n2.natAbs d2.natAbs := Nat.gcd_pos_of_pos_right _ (by omega)
      have hb : (((Nat.gcd n2.natAbs d2.natAbs : Nat) : Int)).natAbs.log2 < 9000 := by
        refine Nat.lt_of_lt_of_le (PySem.Flt.log2_lt_of (k := 400) (by decide) ?_) (by decide)
        rw [Int.natAbs_natCast]
        refine Nat.lt_of_le_of_lt (Nat.le_of_dvd (by omega) (Nat.gcd_dvd_right _ _)) ?_
        rw [hd2]
        exact zd
      refine ⟨_, rfl, _, rfl, n2, d2, rfl, hz, ?_⟩
      have hne : (((Nat.gcd n2.natAbs d2.natAbs : Nat) : Int)) ≠ 0 := by omega
      refine ⟨_, rfl, _, rfl, _, _, rfl, rfl, ⟨hne, hb⟩, _, rfl, _, rfl, _, _, rfl, rfl, ⟨hne, hb⟩, (by show 2 ≤ sizeLine; decide), fun p hp => ?_⟩
      have L := low_of (n := n2) (d := d2) (by omega)
      rw [hc] at L
      exact q p _ _ hp (hL _ _ L)
theorem fold_lt : ∀ (a : List Nat) (acc : Nat), a.all dig = true → a.foldl (fun acc c => acc * 10 + (c - 48)) acc < (acc + 1) * 10 ^ a.length
  | [], acc, _ => by simp
  | c :: r, acc, h => by
    rw [List.all_cons, Bool.and_eq_true] at h
    have hc : 48 ≤ c ∧ c ≤ 57 := of_decide_eq_true h.1
    refine Nat.lt_of_lt_of_le (fold_lt r (acc * 10 + (c - 48)) h.2) ?_
    rw [List.length_cons, Nat.pow_succ, Nat.mul_comm (10 ^ r.length) 10, ← Nat.mul_assoc]
    exact Nat.mul_le_mul_right _ (by omega)
theorem val_lt {a : List Nat} (h : a.all dig = true) : digitsVal a < 10 ^ a.length := by
  have := fold_lt a 0 h
  rw [Nat.zero_add, Nat.one_mul] at this
  exact this
theorem emp_S : ("" : Str) = S [] := by decide +kernel
theorem at_mem {xs : List Nat} {k : Int} (h0 : 0 ≤ k) (h1 : k < xs.length) : ∃ v ∈ xs, atI xs k = some v := by
  obtain ⟨j, rfl⟩ := Int.eq_ofNat_of_zero_le h0
  exact ⟨xs[j]'(by omega), List.getElem_mem _, atI_nat (List.getElem?_eq_getElem _)⟩
theorem len_add {u v : List Nat} (h1 : u.length ≤ 1000) (h2 : v.length ≤ 1000) : (S u).length + (S v).length ≤ sizeLine := by
  rw [S_len, S_len]
  exact sz100 (by omega)
def spDText (K : PySem.W.Frag) : Sp := fun vs H Q _ => ∃ (b : Addr) (m : Int), vs = [.ref b, .int m] ∧ 0 ≤ m ∧ m ≤ 100 ∧ Box H b ∧ ∀ t H', t.length = m.toNat → t.all dig = true → Box H' b → Kp b H H' → Q (.str (S t)) H'
theorem okLawDigitText (T : Txt K mg) : FnOk P w K mg base CX0 2 T.fLawDigitText T.fdLawDigitText ["box", "many"] (spDText K) := by
  refine T.FLawDigitText.ok scLawDigitText (fun vs H Q E h => ?_) (fun cdv A outer s H vs Q E hr h => ?_)
  · obtain ⟨b, m, rfl, _⟩ := h
    rfl
  · obtain ⟨b, m, rfl, m0, m1, B, q⟩ := h
    obtain ⟨m, rfl⟩ := Int.eq_ofNat_of_zero_le m0
    rw [Int.toNat_natCast] at q
    -- slots box=0 many=1 text=2 k=3
    refine ⟨_, (pss_cons (ps_set (i := 2) scLawDigitText.nd rfl (Or.inl rfl) pe_str)
        (pss_cons (ps_for PassesOwn.never rfl (pi_range1 rfl T.z_range (pa_cons (pv 1) pa_nil)) (pg_name (i := 3) scLawDigitText.nd rfl (Or.inl rfl))
          (pss_one (ps_set (i := 2) scLawDigitText.nd rfl (Or.inl rfl) (pe_op op_add_str (pv 2) (pe_ix ix_str pe_str (pe_call (okLawDraw T) (hr.mono (by decide)) (by rfl) T.gLawDraw T.FLawDraw.kp T.bLawDraw .nil pass0 (pa_cons (pv 0) (pa_cons pe_int pa_nil))) (fun _ _ => rfl))))))
        (pss_one (ps_ret (pv 2))))), ?_⟩
    refine ⟨_, rfl, _, rfl, by omega, by omega, for_range (lo := 0) (n := m) (fun i σ H' => ∃ (t : List Nat) (c3 : Option V), σ = [some (.ref b), some (.int (m : Int)), some (.str (S t)), c3] ∧ t.length = i ∧ t.all dig = true ∧ Box H' b ∧ Kp b H H') ⟨[], none, by rw [← emp_S]; rfl, rfl, rfl, B, Kp.refl⟩ ?_ ?_⟩
    · rintro i σ H1 hi ⟨t, c3, rfl, ht, hd, B1, w1⟩
      refine ⟨_, rfl, _, rfl, b, 10, rfl, by decide, B1, fun k H2 k0 k1 B2 w2 => ?_⟩
      obtain ⟨c, hm, hc⟩ := at_mem (xs := ("0123456789" : Str).cps.toList) k0 (Int.lt_of_lt_of_le k1 (by decide +kernel))
      have hdc : dig c = true := by rw [← dig_mem]; exact decide_eq_true hm
      refine ⟨_, k, c, rfl, rfl, by decide +kernel, hc, S t, S [c], rfl, rfl, len_add (by omega) (by simp), t ++ [c], some (.int (0 + (i : Int))), ?_, by rw [List.length_append, ht]; rfl, ?_, B2, w1.trans w2⟩
      · rw [S_cat]
        rfl
      · rw [List.all_append, hd]
        show (true && (dig c && true)) = true
        rw [hdc]
        rfl
    · rintro σ H1 ⟨t, c3, rfl, ht, hd, B1, w1⟩
      exact ⟨_, rfl, q t H1 ht hd B1 w1⟩
def lets (c : Nat) : List Nat := if c < 26 then [65 + c] else [65 + (c / 26 - 1), 65 + c % 26]
def addr (row col : Nat) : List Nat := lets col ++ numL (row + 1)
theorem lets_len (c : Nat) : (lets c).length ≤ 2 := by
  unfold lets
  split <;> simp
theorem caps_at {k : Int} (h0 : 0 ≤ k) (h1 : k < 26) : atI ("ABCDEFGHIJKLMNOPQRSTUVWXYZ" : Str).cps.toList k = some (65 + k.toNat) := by
  obtain ⟨j, rfl⟩ := Int.eq_ofNat_of_zero_le h0
  have all : ∀ j : Fin 26, ("ABCDEFGHIJKLMNOPQRSTUVWXYZ" : Str).cps.toList[j.val]? = some (65 + j.val) := by decide +kernel
  exact atI_nat (all ⟨j, by omega⟩)
def spWrite (K : PySem.W.Frag) : Sp := fun vs H Q _ => ∃ (row col : Nat), vs = [.int (row : Int), .int (col : Int)] ∧ row < 99 ∧ col < 702 ∧ ∀ H', Same H H' → Q (.str (S (addr row col))) H'
theorem log_small {n : Int} (h0 : 0 ≤ n) (h : n < 10 ^ 18) : n.natAbs.log2 < 1920 := Nat.lt_of_lt_of_le (PySem.Flt.log2_lt_of (k := 100) (by decide) (Nat.lt_trans (show n.natAbs < 10 ^ 18 by omega) (by decide))) (by decide)
theorem num_len {row : Nat} (h : row < 99) : (numL (row + 1)).length ≤ 2 := TL.numL_len (by decide) (by omega)
theorem okLawAddress (T : Txt K mg) : FnOk P w K mg base CX0 1 T.fLawAddress T.fdLawAddress ["row", "column"] (spWrite K) := by
  refine T.FLawAddress.ok scLawAddress (fun vs H Q E h => ?_) (fun cdv A outer s H vs Q E hr h => ?_)
  · obtain ⟨row, col, rfl, _⟩ := h
    rfl
  · obtain ⟨row, col, rfl, hr1, hc1, q⟩ := h
    -- slots row=0 column=1 letters=2 text=3
    refine ⟨_, (pss_cons (ps_set (i := 2) scLawAddress.nd rfl (Or.inl rfl) pe_str)
        (pss_cons (ps_set (i := 3) scLawAddress.nd rfl (Or.inl rfl) (pe_ix ix_str (pv 2) (pe_op op_mod (pe_callTy call_int1 (by rfl) T.z_int (by decide +kernel) (pa_cons (pv 1) pa_nil)) pe_int) (fun _ _ => rfl)))
        (C8.pss_cut (ps_if (pt_cmpR op_ge (pv 1) pe_int (nomark _))
          (pss_one (ps_set (i := 3) scLawAddress.nd rfl (Or.inl rfl) (pe_op op_add_str (pe_ix ix_str (pv 2) (pe_op op_mod (pe_callTy call_int1 (by rfl) T.z_int (by decide +kernel) (pa_cons (pe_op op_sub (pe_op op_fdiv (pv 1) pe_int) pe_int) pa_nil)) pe_int) (fun _ _ => rfl)) (pv 3))))
          pss_nil)
        (pss_one (ps_ret (pe_op op_add_str (pv 3) (pe_callTy call_str_int (by rfl) T.z_str (by decide +kernel) (pa_cons (pe_op op_add (pv 0) pe_int) pa_nil)))))))), ?_⟩
    have l2 := lets_len col
    have n2 := num_len hr1
    refine ⟨_, rfl, _, rfl, .inl ⟨_, rfl, _, _, rfl, rfl, (by show (0 : Int) < _; decide), _, _, 65 + col % 26, rfl, rfl, by decide +kernel, ?_, ?_⟩⟩
    · have := caps_at (k := (col : Int) % 26) (by omega) (by omega)
      rw [show ((col : Int) % 26).toNat = col % 26 by omega] at this
      exact this
    refine ⟨fun σ H' => H' = H ∧ σ = [some (.int (row : Int)), some (.int (col : Int)), some (.str ("ABCDEFGHIJKLMNOPQRSTUVWXYZ" : Str)), some (.str (S (lets col)))], ?_, ?_⟩
    · refine ⟨_, rfl, _, _, rfl, rfl, _, rfl, ite2 (fun c => ?_) (fun c => ?_)⟩
      · have c2 : 26 ≤ col := by
          have := of_decide_eq_true c
          omega
        refine ⟨_, rfl, _, rfl, _, _, rfl, rfl, ⟨by decide, by decide⟩, _, _, rfl, rfl, .inl ⟨_, rfl, _, _, rfl, rfl, (by show (0 : Int) < _; decide), _, _, 65 + (col / 26 - 1), rfl, rfl, by decide +kernel, ?_, _, rfl, S [65 + (col / 26 - 1)], S [65 + col % 26], rfl, rfl, ?_, rfl, ?_⟩⟩
        · have := caps_at (k := ((col : Int) / 26 - 1) % 26) (by omega) (by omega)
          rw [show (((col : Int) / 26 - 1) % 26).toNat = col / 26 - 1 by omega] at this
          exact this
        · rw [S_len, S_len]
          show 1 + 1 ≤ sizeLine
          decide
        · unfold lets
          rw [if_neg (by omega), S_cat]
          rfl
      · have c2 : col < 26 := by
          rcases Nat.lt_or_ge col 26 with h | h
          · exact h
          · exact absurd (decide_eq_true (show (26 : Int) ≤ (col : Int) by omega)) c
        refine ⟨rfl, ?_⟩
        unfold lets
        rw [if_pos c2, show col % 26 = col by omega]
        rfl
    rintro σ H1 ⟨rfl, rfl⟩
    refine ⟨_, rfl, _, rfl, _, _, rfl, rfl, _, rfl, log_small (by omega) (by omega), S (lets col), S (numL (row + 1)), rfl, ?_, ?_, ?_⟩
    · exact congrArg V.str (num_S (row + 1))
    · rw [S_len, S_len]
      exact sz100 (by omega)
    · rw [S_cat]
      exact q _ (Same.refl _)
def sml (c : Nat) : Bool := decide (97 ≤ c ∧ c ≤ 122)
theorem sml_mem (c : Nat) : decide (c ∈ ("abcdefghijklmnopqrstuvwxyz" : Str).cps.toList) = sml c := by
  have e : ("abcdefghijklmnopqrstuvwxyz" : Str).cps.toList = [97, 98, 99, 100, 101, 102, 103, 104, 105, 106, 107, 108, 109, 110, 111, 112, 113, 114, 115, 116, 117, 118, 119, 120, 121, 122] := by decide +kernel
  rw [e]
  unfold sml
  refine decide_eq_decide.mpr ?_
  simp only [List.mem_cons, List.not_mem_nil, or_false]
  omega
theorem dot_S : ("." : Str) = S [46] := by decide +kernel
/-! ### words -/
def five : List Str := ["sum", "count", "min", "max", "gone"]
structure IsW (a : List Nat) : Prop where
  lo : 2 ≤ a.length
  hi : a.length ≤ 8
  no : S a ∉ five
  all : a.all sml = true
theorem inV_strs (s : Str) : ∀ xs : List Str, inV (.str s) (xs.map V.str) = decide (s ∈ xs)
  | [] => rfl
  | x :: xs => by
    have e : inV (.str s) ((x :: xs).map V.str) = ((x == s) || inV (.str s) (xs.map V.str)) := rfl
    rw [e, inV_strs s xs, Bool.eq_iff_iff]
    simp only [Bool.or_eq_true, beq_iff_eq, decide_eq_true_iff, List.mem_cons]
    exact ⟨fun h => h.elim (fun z => .inl z.symm) .inr, fun h => h.elim (fun z => .inl z.symm) .inr⟩
def spIsWord (K : PySem.W.Frag) : Sp := fun vs H Q _ => ∃ (a : List Nat), vs = [.str (S a)] ∧ a.length ≤ 1000 ∧ ∀ (b : Bool) (H' : Hp), Same H H' → (b = true ↔ IsW a) → Q (.bl b) H'
theorem okIsNameWord (T : Txt K mg) : FnOk P w K mg base CX0 1 T.fIsNameWord T.fdIsNameWord ["text"] (spIsWord K) := by
  refine T.FIsNameWord.ok scIsNameWord (fun vs H Q E h => ?_) (fun cdv A outer s H vs Q E hr h => ?_)
  · obtain ⟨a, rfl, _⟩ := h
    rfl
  · obtain ⟨a, rfl, hz, q⟩ := h
    -- slots text=0 character=1
    refine ⟨_, (pss_cons (ps_if (pt_not (pt_chain op_le op_le (pe_glob (v := (.int 2)) rfl T.g_SHORTEST_NAME ⟨_, rfl⟩) (pe_callB call_len_str (by rfl) T.z_len PySem.boot_len (pa_cons (pv 0) pa_nil)) (pe_glob (v := (.int 8)) rfl T.g_LONGEST_WORD ⟨_, rfl⟩)))
          (pss_one (ps_ret pe_bl))
          pss_nil)
        (pss_cons (ps_if (PW.pt (pw_or (pt_cmpR op_in_seq (pv 0) (pe_glob (v := (.ref T.p_CALLS)) rfl T.g_CALLS rfl) rfl) (pw_or1 (pt_cmpR op_eq (pv 0) (pe_glob (v := (.str "gone")) rfl T.g_GONE ⟨_, rfl⟩) (nomark _)))))
          (pss_one (ps_ret pe_bl))
          pss_nil)
        (pss_one (ps_ret (pe_callB (cr_all rfl) (by rfl) T.z_all (by decide +kernel) (pa_cons (pe_lc (own := [("character", 1)]) (g := gName 1) (tt := tYes) rfl scIsNameWord.nd (pi_str (pv 0)) (blkOk_by (own := [("character", 1)]) (N := ["text", "character"]) (sc := defScope sIsNameWord) (by decide +kernel)) (fun _ _ _ _ _ => (pg_name (i := 1) scIsNameWord.nd rfl (Or.inl rfl))) (fun _ _ _ _ _ => pts_nil) (fun _ _ _ _ _ => (pe_cmpR op_in_sign (pv 1) (pe_glob (v := (.str "abcdefghijklmnopqrstuvwxyz")) rfl T.g_SMALL ⟨_, rfl⟩) rfl))) pa_nil)))))), ?_⟩
    refine ⟨_, rfl, S a, rfl, by rw [S_len]; exact sz100 (by omega), _, _, rfl, rfl, _, rfl, ?_⟩
    rw [S_len]
    by_cases lo : 2 ≤ a.length
    · rw [if_pos (decide_eq_true (by omega))]
      refine ⟨_, _, rfl, rfl, _, rfl, ?_⟩
      by_cases hi : a.length ≤ 8
      · rw [decide_eq_true (show (a.length : Int) ≤ 8 by omega)]
        refine iteF ?_
        refine ⟨_, rfl, T.p_CALLS, _, rfl, .inr (T.k_CALLS _), rfl, rfl, _, rfl, ?_⟩
        have e4 : inV (.str (S a)) [.str "sum", .str "count", .str "min", .str "max"] = decide (S a ∈ (["sum", "count", "min", "max"] : List Str)) := inV_strs (S a) ["sum", "count", "min", "max"]
        rw [e4]
        refine ite2 (fun c => q false H (Same.refl H) ⟨(fun z => nomatch z), fun W => absurd ?_ W.no⟩) (fun c => ?_)
        · have := of_decide_eq_true c
          exact List.mem_append.mpr (.inl this : S a ∈ (["sum", "count", "min", "max"] : List Str) ∨ S a ∈ (["gone"] : List Str))
        have c4 : S a ∉ (["sum", "count", "min", "max"] : List Str) := fun z => c (decide_eq_true z)
        refine ⟨_, rfl, rfl, _, rfl, ite2 (fun c => q false H (Same.refl H) ⟨(fun z => nomatch z), fun W => absurd ?_ W.no⟩) (fun c => ?_)⟩
        · have := V.str.inj (of_decide_eq_true c)
          exact List.mem_append.mpr (.inr (by rw [this]; exact List.mem_singleton.mpr rfl) : S a ∈ (["sum", "count", "min", "max"] : List Str) ∨ S a ∈ (["gone"] : List Str))
        have c5 : S a ≠ "gone" := fun z => c (decide_eq_true (by rw [z]))
        have no : S a ∉ five := fun z => by
          rcases (List.mem_append.mp (show S a ∈ (["sum", "count", "min", "max"] : List Str) ++ (["gone"] : List Str) from z)) with y | y
          · exact c4 y
          · exact c5 (by simpa using y)
        refine ⟨_, rfl, S a, rfl, fun N hN => ?_⟩
        refine lc_it (walk_S (a := a)) (fun i H' => Same H H' ∧ ∃ bs : List Bool, H' N = some (.lst (bs.map V.bl)) ∧ bs.length ≤ i ∧ (bs.all id = true ↔ (a.take i).all sml = true)) ⟨same_new hN, [], upd_same, Nat.le_refl _, ⟨fun _ => by simp, fun _ => rfl⟩⟩ (fun i H' _ h => trivial) ?_ ?_
        · rintro i x H9 H1 hi ⟨s1, bs, hN1, bl, hb⟩ ⟨rfl, c, hc, rfl⟩
          refine ⟨rfl, yesT ⟨_, rfl, c, _, rfl, rfl, _, hN1, ?_, same_mut s1 hN, bs ++ [sml c], ?_, ?_, ?_⟩⟩
          · rw [List.length_map]
            exact small1000 (by omega)
          · rw [upd_same, List.map_append, sml_mem]
            rfl
          · rw [List.length_append]
            exact Nat.add_le_add_right bl 1
          · rw [List.take_add_one, hc, List.all_append, List.all_append, Bool.and_eq_true, Bool.and_eq_true, hb]
            simp
        · rintro H1 ⟨s1, bs, hN1, bl, hb⟩
          rw [List.take_length] at hb
          exact ⟨N, bs, rfl, SqL.of hN1, q _ H1 s1 (hb.trans ⟨fun z => ⟨lo, hi, no, z⟩, fun W => W.all⟩)⟩
      · rw [decide_eq_false (show ¬ (a.length : Int) ≤ 8 by omega)]
        exact iteT (q false H (Same.refl H) ⟨(fun z => nomatch z), fun W => absurd W.hi hi⟩)
    · rw [if_neg (fun z => lo (by have := of_decide_eq_true z; omega))]
      exact ⟨_, rfl, iteT (q false H (Same.refl H) ⟨(fun z => nomatch z), fun W => absurd W.lo lo⟩)⟩
theorem okLawIsWord (T : Txt K mg) : FnOk P w K mg base CX0 1 T.fLawIsWord T.fdLawIsWord ["text"] (spIsWord K) := by
  refine T.FLawIsWord.ok scLawIsWord (fun vs H Q E h => ?_) (fun cdv A outer s H vs Q E hr h => ?_)
  · obtain ⟨a, rfl, _⟩ := h
    rfl
  · obtain ⟨a, rfl, hz, q⟩ := h
    -- slots text=0 char=1
    refine ⟨_, (pss_cons (ps_if (PW.pt (pw_or (pt_cmpR op_in_seq (pv 0) (pe_lst (pa_cons pe_str (pa_cons pe_str (pa_cons pe_str (pa_cons pe_str (pa_cons pe_str pa_nil)))))) rfl) (pw_or (pt_cmpR op_lt (pe_callB call_len_str (by rfl) T.z_len PySem.boot_len (pa_cons (pv 0) pa_nil)) pe_int (nomark _)) (pw_or1 (pt_cmpR op_gt (pe_callB call_len_str (by rfl) T.z_len PySem.boot_len (pa_cons (pv 0) pa_nil)) pe_int (nomark _))))))
          (pss_one (ps_ret pe_bl))
          pss_nil)
        (pss_cons (ps_for PassesOwn.never rfl (pi_str (pv 0)) (pg_name (i := 1) scLawIsWord.nd rfl (Or.inl rfl))
          (pss_one (ps_if (pt_cmpR op_notIn_sign (pv 1) pe_str rfl)
            (pss_one (ps_ret pe_bl))
            pss_nil)))
        (pss_one (ps_ret pe_bl)))), ?_⟩
    refine ⟨_, rfl, (by show 5 ≤ sizeLine; decide), fun l hl => ?_⟩
    refine ⟨l, _, rfl, .inl (SqL.of upd_same), rfl, rfl, _, rfl, ?_⟩
    have sl := same_new (o := .lst [.str "sum", .str "count", .str "min", .str "max", .str "gone"]) hl
    have e5 : inV (.str (S a)) [.str "sum", .str "count", .str "min", .str "max", .str "gone"] = decide (S a ∈ five) := inV_strs (S a) five
    rw [e5]
    refine ite2 (fun c => q false _ sl ⟨(fun z => nomatch z), fun W => absurd (of_decide_eq_true c) W.no⟩) (fun c => ?_)
    have no : S a ∉ five := fun z => c (decide_eq_true z)
    refine ⟨_, rfl, S a, rfl, by rw [S_len]; exact sz100 (by omega), _, _, rfl, rfl, _, rfl, ?_⟩
    rw [S_len]
    refine ite2 (fun c => q false _ sl ⟨(fun z => nomatch z), fun W => ?_⟩) (fun c => ?_)
    · have := of_decide_eq_true c
      have := W.lo
      omega
    have lo : 2 ≤ a.length := by
      have : ¬ (a.length : Int) < 2 := fun z => c (decide_eq_true z)
      omega
    refine ⟨_, rfl, S a, rfl, by rw [S_len]; exact sz100 (by omega), _, _, rfl, rfl, _, rfl, ?_⟩
    rw [S_len]
    refine ite2 (fun c => q false _ sl ⟨(fun z => nomatch z), fun W => ?_⟩) (fun c => ?_)
    · have := of_decide_eq_true c
      have := W.hi
      omega
    have hi : a.length ≤ 8 := by
      have : ¬ (8 : Int) < (a.length : Int) := fun z => c (decide_eq_true z)
      omega
    refine ⟨_, rfl, S a, rfl, for_it (walk_S (a := a)) (fun i σ H' => Same H H' ∧ (∀ y ∈ a.take i, sml y = true) ∧ ∃ c1, σ = [some (.str (S a)), c1]) ⟨sl, (fun x h => by simp at h), _, rfl⟩ (fun _ _ _ _ _ => trivial) ?_ ?_⟩
    · rintro i v σ H1 H2 hi ⟨s2, hall, c1, rfl⟩ ⟨rfl, c, ec, rfl⟩
      refine ⟨_, rfl, c, _, rfl, rfl, _, rfl, ?_⟩
      rw [sml_mem]
      cases hc : sml c with
      | false =>
        refine iteT (q false _ s2 ⟨(fun z => nomatch z), fun W => ?_⟩)
        rw [List.all_eq_true.mp W.all c (List.mem_of_getElem? ec)] at hc
        cases hc
      | true =>
        refine iteF ⟨s2, fun y hy => ?_, some (.str (S [c])), rfl⟩
        rw [List.take_add_one, ec] at hy
        rcases List.mem_append.mp hy with z | z
        · exact hall y z
        · obtain rfl : y = c := by simpa using z
          exact hc
    · rintro σ H1 ⟨s2, hall, c1, rfl⟩
      rw [List.take_length] at hall
      exact q true H1 s2 ⟨fun _ => ⟨lo, hi, no, List.all_eq_true.mpr hall⟩, fun _ => rfl⟩
theorem ifNeY {a : Str} {A B : Prop} (q : B) : if (!decide (V.str a = V.str a)) = true then A else B := by
  rw [decide_eq_true rfl]
  exact q
theorem ifNe {a b : Str} {A B : Prop} (h : a ≠ b) (q : A) : if (!decide (V.str a = V.str b)) = true then A else B := by
  rw [decide_eq_false fun z => h (V.str.inj z)]
  exact q
def arD : Ar → PyData
  | .gone => .tuple [.str "gone"]
  | .name w => .tuple [.str "name", .str w.1]
  | .block a b c d => .tuple [.str "block", .int a, .int b, .int c, .int d]
theorem ArAt.dp {K : PySem.W.Frag} {H : Hp} {v : V} : ∀ {a : Ar}, ArAt H v a → Dp K H v (arD a)
  | .gone, ⟨q, h, h1⟩ => by
    rw [h]
    exact .tup (SqT.of h1) (.cons (.str _) .nil)
  | .name _, ⟨q, h, h1⟩ => by
    rw [h]
    exact .tup (SqT.of h1) (.cons (.str _) (.cons (.str _) .nil))
  | .block _ _ _ _, ⟨q, h, h1⟩ => by
    rw [h]
    exact .tup (SqT.of h1) (.cons (.str _) (.cons (.int _) (.cons (.int _) (.cons (.int _) (.cons (.int _) .nil)))))
theorem Ars.dp {K : PySem.W.Frag} {H : Hp} : ∀ {vs as}, Ars H vs as → DpAll K H vs (as.map arD)
  | _, _, .nil => .nil
  | _, _, .cons h r => .cons h.dp r.dp
theorem ok4 : PyData.strOk (Str.ofString "gone") = true ∧ PyData.strOk (Str.ofString "name") = true ∧ PyData.strOk (Str.ofString "block") = true := by decide +kernel
theorem arD_lay (a : Ar) : (arD a).canLay0 = true := by
  cases a with
  | gone => simp [arD, PyData.canLay0, PyData.canLayAll0, ok4]
  | name w => simp [arD, PyData.canLay0, PyData.canLayAll0, ok4, w.2]
  | block a b c d => simp [arD, PyData.canLay0, PyData.canLayAll0, ok4]
theorem arD_depth (a : Ar) : (arD a).depth = 1 := by cases a <;> simp [arD, PyData.depth, PyData.depthAll]
theorem arDs_lay : ∀ zs : List Ar, PyData.canLayAll0 (zs.map arD) = true
  | [] => by simp [PyData.canLayAll0]
  | z :: zs => by simp [PyData.canLayAll0, arD_lay z, arDs_lay zs]
theorem arDs_depth : ∀ zs : List Ar, PyData.depthAll (zs.map arD) ≤ 1
  | [] => by simp [PyData.depthAll]
  | z :: zs => by
    have h1 := arDs_depth zs
    have h2 := arD_depth z
    simp only [List.map_cons, PyData.depthAll]
    omega
theorem arDs_shaped (zs : List Ar) : SeqAt.shaped (.list (zs.map arD)) = true := by
  have h1 := arDs_depth zs
  have h2 : PyData.depth (.list (zs.map arD)) ≤ 64 := by
    simp only [PyData.depth]
    omega
  show (PyData.canLay0 (.list (zs.map arD)) && decide (PyData.depth (.list (zs.map arD)) ≤ 64)) = true
  rw [Bool.and_eq_true]
  exact ⟨by simp only [PyData.canLay0]; exact arDs_lay zs, decide_eq_true h2⟩
def spDown (K : PySem.W.Frag) : Sp := fun vs H Q _ => ∃ (p : Addr) (r c : Int), vs = [.ref p] ∧ H p = some (.tup [.str "cell", .int r, .int c]) ∧ ∀ (H' : Hp) (w : V), Same H H' → TrAt H' w (dn r c) → Q w H'
theorem okLawDown (T : Txt K mg) : FnOk P w K mg base CX0 1 T.fLawDown T.fdLawDown ["tree"] (spDown K) := by
  refine T.FLawDown.ok scLawDown (fun vs H Q E h => ?_) (fun cdv A outer s H vs Q E hr h => ?_)
  · obtain ⟨p, r, c, rfl, _⟩ := h
    rfl
  · obtain ⟨p, r, c, rfl, h1, q⟩ := h
    -- slots tree=0
    refine ⟨_, (pss_cons (ps_if (pt_cmpR op_gt (pe_ix ix_tup (pv 0) pe_int (fun _ _ => rfl)) pe_int (nomark _))
          (pss_one (ps_ret (pe_tup (pa_cons pe_str pa_nil))))
          pss_nil)
        (pss_one (ps_ret (pe_tup (pa_cons pe_str (pa_cons (pe_op op_add (pe_ix ix_tup (pv 0) pe_int (fun _ _ => rfl)) pe_int) (pa_cons (pe_ix ix_tup (pv 0) pe_int (fun _ _ => rfl)) pa_nil))))))), ?_⟩
    refine ⟨_, rfl, _, _, _, _, rfl, rfl, SqT.of h1, atI_nat (j := 1) rfl, _, _, rfl, rfl, _, rfl, ite2 (fun c => ?_) (fun c => ?_)⟩
    · refine ⟨(by show 1 ≤ sizeLine; decide), fun u hu => q _ _ (same_new hu) ?_⟩
      unfold dn
      rw [if_pos (of_decide_eq_true c)]
      exact ⟨u, rfl, upd_same⟩
    · refine ⟨_, rfl, _, _, _, _, rfl, rfl, SqT.of h1, atI_nat (j := 1) rfl, _, _, rfl, rfl, _, rfl, _, _, _, _, rfl, rfl, SqT.of h1, atI_nat (j := 2) rfl, (by show 3 ≤ sizeLine; decide), fun u hu => q _ _ (same_new hu) ?_⟩
      unfold dn
      rw [if_neg fun z => c (decide_eq_true z)]
      exact ⟨u, rfl, upd_same⟩
def spMore (K : PySem.W.Frag) : Sp := fun vs H Q _ => ∃ (v : V) (a : Ar), vs = [v] ∧ ArAt H v a ∧ ∀ (H' : Hp) (p : Addr) (us : List V), Same H H' → H' p = some (.tup us) → Ars H' us (mr a) → Q (.ref p) H'
theorem okLawMore (T : Txt K mg) : FnOk P w K mg base CX0 1 T.fLawMore T.fdLawMore ["area"] (spMore K) := by
  refine T.FLawMore.ok scLawMore (fun vs H Q E h => ?_) (fun cdv A outer s H vs Q E hr h => ?_)
  · obtain ⟨v, a, rfl, _⟩ := h
    rfl
  · obtain ⟨v, a, rfl, ha, q⟩ := h
    -- slots area=0
    refine ⟨_, (pss_cons (ps_if (pt_cmpR op_eq (pe_ix ix_tup (pv 0) pe_int (fun _ _ => rfl)) pe_str (nomark _))
          (pss_one (ps_ret (pe_tup pa_nil)))
          pss_nil)
        (pss_cons (ps_if (pt_cmpR op_eq (pe_ix ix_tup (pv 0) pe_int (fun _ _ => rfl)) pe_str (nomark _))
          (pss_one (ps_ret (pe_tup (pa_cons (pv 0) pa_nil))))
          pss_nil)
        (pss_one (ps_ret (pe_tup (pa_cons (pe_tup (pa_cons pe_str pa_nil)) (pa_cons (pe_tup (pa_cons pe_str (pa_cons (pe_ix ix_tup (pv 0) pe_int (fun _ _ => rfl)) (pa_cons (pe_ix ix_tup (pv 0) pe_int (fun _ _ => rfl)) (pa_cons (pe_op op_add (pe_ix ix_tup (pv 0) pe_int (fun _ _ => rfl)) pe_int) (pa_cons (pe_ix ix_tup (pv 0) pe_int (fun _ _ => rfl)) pa_nil)))))) pa_nil))))))), ?_⟩
    cases a with
    | gone =>
      obtain ⟨p, rfl, h1⟩ := ha
      exact ⟨_, rfl, _, _, _, _, rfl, rfl, SqT.of h1, atI_nat (j := 0) rfl, rfl, _, rfl, ifY ⟨Nat.zero_le _, fun u hu => q _ u [] (same_new hu) upd_same .nil⟩⟩
    | name w =>
      obtain ⟨p, rfl, h1⟩ := ha
      exact ⟨_, rfl, _, _, _, _, rfl, rfl, SqT.of h1, atI_nat (j := 0) rfl, rfl, _, rfl, ifN w7.1 ⟨_, rfl, _, _, _, _, rfl, rfl, SqT.of h1, atI_nat (j := 0) rfl, rfl, _, rfl, ifY ⟨_, rfl, (by show 1 ≤ sizeLine; decide), fun u hu => q _ u [.ref p] (same_new hu) upd_same (.cons ⟨p, rfl, (same_new hu) _ _ h1⟩ .nil)⟩⟩⟩
    | block a b c d =>
      obtain ⟨p, rfl, h1⟩ := ha
      refine ⟨_, rfl, _, _, _, _, rfl, rfl, SqT.of h1, atI_nat (j := 0) rfl, rfl, _, rfl, ifN w7.2.1 ⟨_, rfl, _, _, _, _, rfl, rfl, SqT.of h1, atI_nat (j := 0) rfl, rfl, _, rfl, ifN w7.2.2 ⟨(by show 1 ≤ sizeLine; decide), fun u hu => ?_⟩⟩⟩
      have s1 := same_new (o := .tup [.str "gone"]) hu
      have h2 := s1 _ _ h1
      refine ⟨_, rfl, _, _, _, _, rfl, rfl, SqT.of h2, atI_nat (j := 1) rfl, _, rfl, _, _, _, _, rfl, rfl, SqT.of h2, atI_nat (j := 2) rfl, _, rfl, _, _, _, _, rfl, rfl, SqT.of h2, atI_nat (j := 3) rfl, _, _, rfl, rfl, _, rfl, _, _, _, _, rfl, rfl, SqT.of h2, atI_nat (j := 4) rfl, (by show 5 ≤ sizeLine; decide), fun w hw => ⟨(by show 2 ≤ sizeLine; decide), fun z hz => q _ z [.ref u, .ref w] ((s1.trans (same_new hw)).trans (same_new hz)) upd_same ?_⟩⟩
      exact .cons ⟨u, rfl, ((same_new hw).trans (same_new hz)) _ _ upd_same⟩ (.cons ⟨w, rfl, (same_new hz) _ _ upd_same⟩ .nil)
theorem mr_len (a : Ar) : (mr a).length ≤ 2 := by cases a <;> simp [mr]
theorem take_flat {as : List Ar} {i : Nat} {a : Ar} (h : as[i]? = some a) : (as.take (i + 1)).flatMap mr = (as.take i).flatMap mr ++ mr a := by
  rw [List.take_add_one, h, List.flatMap_append]
  congr 1
  exact List.append_nil _
def spMA (K : PySem.W.Frag) (f : Addr) : Sp := fun vs H Q _ => ∃ (p : Addr) (ws : List V) (as : List Ar), vs = [.ref p, .ref f] ∧ H p = some (.tup ws) ∧ Ars H ws as ∧ as.length ≤ 8 ∧ ∀ (H' : Hp) (p' : Addr) (us : List V), Same H H' → H' p' = some (.tup us) → Ars H' us (orGone (as.flatMap mr)) → Q (.ref p') H'
theorem okMappedAreas (T : Txt K mg) : FnOk P w K mg base CX0 2 T.fMappedAreas T.fdMappedAreas ["areas", "area"] (spMA K T.fLawMore) := by
  refine T.FMappedAreas.ok scMappedAreas (fun vs H Q E h => ?_) (fun cdv A outer s H vs Q E hr h => ?_)
  · obtain ⟨p, ws, as, rfl, _⟩ := h
    rfl
  · obtain ⟨p, ws, as, rfl, hp, hA, hz, q⟩ := h
    -- slots areas=0 area=1 found=2 old=3
    refine ⟨_, (pss_cons (ps_set (i := 2) scMappedAreas.nd rfl (Or.inl rfl) (pe_lst pa_nil))
        (pss_cons (ps_for PassesOwn.never rfl (pi_tup (pv 0)) (pg_name (i := 3) scMappedAreas.nd rfl (Or.inl rfl))
          (pss_one (ps_expr (pe_bm PySem.F.plainAttrs_list PySem.F.slot_list_extend PySem.F.type_list_extend mt_extT (pv 2) (pa_cons (pe_callL (i := 1) (okLawMore T) (hr.mono (by omega)) rfl (Or.inl rfl) T.FLawMore.kp T.bLawMore .nil pass0 (pa_cons (pv 3) pa_nil)) pa_nil)))))
        (pss_cons (ps_if (pt_cmpR (op_eqD hr.units) (pv 2) (pe_lst pa_nil) (nomark _))
          (pss_one (ps_ret (pe_tup (pa_cons (pe_tup (pa_cons (pe_glob (v := (.str "gone")) rfl T.g_GONE ⟨_, rfl⟩) pa_nil)) pa_nil))))
          pss_nil)
        (pss_one (ps_ret (pe_callTy call_tuple_of (by rfl) T.z_tuple (by decide +kernel) (pa_cons (pv 2) pa_nil))))))), ?_⟩
    refine ⟨Nat.zero_le _, fun fd hfd => ?_⟩
    refine ⟨_, rfl, p, rfl, ⟨_, SqT.of ((same_new hfd) _ _ hp)⟩, for_it (walk_tup (a := p) (xs := ws)) (fun i σ H' => ∃ (c3 : Option V) (fs : List V), σ = [some (.ref p), some (.ref T.fLawMore), some (.ref fd), c3] ∧ Same H H' ∧ H' fd = some (.lst fs) ∧ Ars H' fs ((as.take i).flatMap mr) ∧ fs.length ≤ 2 * i) ⟨_, [], rfl, same_new hfd, upd_same, .nil, Nat.le_refl _⟩ (fun i σ H' _ ⟨_, _, _, s, _⟩ => SqT.of (s _ _ hp)) ?_ ?_⟩
    · rintro i x σ H9 H2 hi ⟨c3, fs, rfl, s2, hf2, ar2, fl⟩ ⟨rfl, hx⟩
      obtain ⟨a, ha, hAt⟩ := hA.get i x hx
      have hl := hA.len
      refine ⟨_, rfl, .inl ⟨rfl, _, SqL.of hf2⟩, rfl, _, rfl, x, a, rfl, hAt.mono (TK.of s2), fun H3 p3 us s3 hp3 hu => ?_⟩
      have ul := hu.len
      have ml := mr_len a
      have hf3 := s3 _ _ hf2
      refine ⟨fd, p3, fs, us, rfl, rfl, hf3, SqT.of hp3, sz100 (by have o : i < ws.length := hi; omega), _, fs ++ us, rfl, same_mut (s2.trans s3) hfd, upd_same, ?_, ?_⟩
      · rw [take_flat ha]
        exact Ars.app (hu.mono (TK.mut hf3)) (ar2.mono ((TK.of s3).trans (TK.mut hf3)))
      · rw [List.length_append]
        omega
    rintro σ H2 ⟨c3, fs, rfl, s2, hf2, ar2, fl⟩
    rw [List.take_of_length_le (by rw [hA.len]; exact Nat.le_refl _)] at ar2
    refine ⟨_, rfl, Nat.zero_le _, fun e he => ?_⟩
    have s3 := same_new (o := .lst []) he
    have hf3 := s3 _ _ hf2
    have ar3 := ar2.mono (TK.of s3)
    refine ⟨_, _, .lst (SqL.of hf3) ar3.dp, .lst (SqL.of upd_same) .nil, arDs_shaped _, arDs_shaped [], _, rfl, ?_⟩
    generalize hg : as.flatMap mr = bs at ar3 q
    cases bs with
    | nil =>
      have e0 : PyData.eqv (.list (([] : List Ar).map arD)) (.list []) = true := by simp [PyData.eqv, PyData.eqvAll]
      rw [e0]
      exact iteT ⟨(by show 1 ≤ sizeLine; decide), fun u hu => ⟨(by show 1 ≤ sizeLine; decide), fun w hw => q _ w [.ref u] (((s2.trans s3).trans (same_new hu)).trans (same_new hw)) upd_same (.cons ⟨u, rfl, (same_new hw) _ _ upd_same⟩ .nil)⟩⟩
    | cons b bs =>
      have e0 : PyData.eqv (.list ((b :: bs).map arD)) (.list []) = false := by simp [PyData.eqv, PyData.eqvAll]
      rw [e0]
      exact iteF ⟨_, rfl, fd, _, rfl, .inl ⟨SqL.of hf3, fun u hu => q _ u fs ((s2.trans s3).trans (same_new hu)) upd_same (ar3.mono (TK.of (same_new hu)))⟩⟩
def spMapped (K : PySem.W.Frag) (f g : Addr) (n : Nat) : Sp := fun vs H Q _ => ∃ (v : V) (t : Tr), vs = [v, .ref f, .ref g] ∧ t.h < n ∧ t.ok 8 ∧ TrAt H v t ∧ ∀ (H' : Hp) (w : V), Same H H' → TrAt H' w (mp t) → Q w H'
theorem okMapped (T : Txt K mg) : ∀ n : Nat, FnOk P w K mg base CX0 (n + 3) T.fMapped T.fdMapped ["tree", "cell", "area"] (spMapped K T.fLawDown T.fLawMore n)
  | 0 => by
    refine T.FMapped.ok scMapped (fun vs H Q E h => ?_) (fun cdv A outer s H vs Q E hr h => ?_)
    · obtain ⟨v, t, rfl, hh, _⟩ := h
      rfl
    · obtain ⟨v, t, rfl, hh, _⟩ := h
      exact absurd hh (Nat.not_lt_zero _)
  | n + 1 => by
    have IH := okMapped T n
    refine T.FMapped.ok scMapped (fun vs H Q E h => ?_) (fun cdv A outer s H vs Q E hr h => ?_)
    · obtain ⟨v, t, rfl, _⟩ := h
      rfl
    · obtain ⟨v, t, rfl, hh, ok, ht, q⟩ := h
      -- slots tree=0 cell=1 area=2
      refine ⟨_, (pss_cons (ps_if (pt_cmpR op_eq (pe_ix ix_tup (pv 0) pe_int (fun _ _ => rfl)) pe_str (nomark _))
            (pss_one (ps_ret (pe_callL (i := 1) (okLawDown T) (hr.mono (by omega)) rfl (Or.inl rfl) T.FLawDown.kp T.bLawDown .nil pass0 (pa_cons (pv 0) pa_nil))))
            pss_nil)
          (pss_cons (ps_if (pt_cmpR op_eq (pe_ix ix_tup (pv 0) pe_int (fun _ _ => rfl)) pe_str (nomark _))
            (pss_one (ps_ret (pe_tup (pa_cons pe_str (pa_cons (pe_call IH (hr.mono (by omega)) (by rfl) T.gMapped T.FMapped.kp T.bMapped .nil pass0 (pa_cons (pe_ix ix_tup (pv 0) pe_int (fun _ _ => rfl)) (pa_cons (pv 1) (pa_cons (pv 2) pa_nil)))) pa_nil)))))
            pss_nil)
          (pss_cons (ps_if (pt_cmpR op_eq (pe_ix ix_tup (pv 0) pe_int (fun _ _ => rfl)) pe_str (nomark _))
            (pss_one (ps_ret (pe_tup (pa_cons pe_str (pa_cons (pe_ix ix_tup (pv 0) pe_int (fun _ _ => rfl)) (pa_cons (pe_call IH (hr.mono (by omega)) (by rfl) T.gMapped T.FMapped.kp T.bMapped .nil pass0 (pa_cons (pe_ix ix_tup (pv 0) pe_int (fun _ _ => rfl)) (pa_cons (pv 1) (pa_cons (pv 2) pa_nil)))) (pa_cons (pe_call IH (hr.mono (by omega)) (by rfl) T.gMapped T.FMapped.kp T.bMapped .nil pass0 (pa_cons (pe_ix ix_tup (pv 0) pe_int (fun _ _ => rfl)) (pa_cons (pv 1) (pa_cons (pv 2) pa_nil)))) pa_nil)))))))
            pss_nil)
          (pss_cons (ps_if (pt_cmpR op_eq (pe_ix ix_tup (pv 0) pe_int (fun _ _ => rfl)) pe_str (nomark _))
            (pss_one (ps_ret (pe_tup (pa_cons pe_str (pa_cons (pe_ix ix_tup (pv 0) pe_int (fun _ _ => rfl)) (pa_cons (pe_call (okMappedAreas T) (hr.mono (by omega)) (by rfl) T.gMappedAreas T.FMappedAreas.kp T.bMappedAreas .nil pass0 (pa_cons (pe_ix ix_tup (pv 0) pe_int (fun _ _ => rfl)) (pa_cons (pv 2) pa_nil))) pa_nil))))))
            pss_nil)
          (pss_one (ps_ret (pv 0))))))), ?_⟩
      cases t with
      | gone =>
        obtain ⟨p, rfl, h1⟩ := ht
        exact ⟨_, rfl, _, _, _, _, rfl, rfl, SqT.of h1, atI_nat (j := 0) rfl, rfl, _, rfl, ifN w1.2.2.2.1 ⟨_, rfl, _, _, _, _, rfl, rfl, SqT.of h1, atI_nat (j := 0) rfl, rfl, _, rfl, ifN w1.1 ⟨_, rfl, _, _, _, _, rfl, rfl, SqT.of h1, atI_nat (j := 0) rfl, rfl, _, rfl, ifN w1.2.1 ⟨_, rfl, _, _, _, _, rfl, rfl, SqT.of h1, atI_nat (j := 0) rfl, rfl, _, rfl, ifN w1.2.2.1 ⟨_, rfl, q _ _ (Same.refl _) ⟨p, rfl, h1⟩⟩⟩⟩⟩⟩
      | num x y =>
        obtain ⟨p, p2, rfl, h1, h2⟩ := ht
        exact ⟨_, rfl, _, _, _, _, rfl, rfl, SqT.of h1, atI_nat (j := 0) rfl, rfl, _, rfl, ifN w2.2.2.2 ⟨_, rfl, _, _, _, _, rfl, rfl, SqT.of h1, atI_nat (j := 0) rfl, rfl, _, rfl, ifN w2.1 ⟨_, rfl, _, _, _, _, rfl, rfl, SqT.of h1, atI_nat (j := 0) rfl, rfl, _, rfl, ifN w2.2.1 ⟨_, rfl, _, _, _, _, rfl, rfl, SqT.of h1, atI_nat (j := 0) rfl, rfl, _, rfl, ifN w2.2.2.1 ⟨_, rfl, q _ _ (Same.refl _) ⟨p, p2, rfl, h1, h2⟩⟩⟩⟩⟩⟩
      | cell r c =>
        obtain ⟨p, rfl, h1⟩ := ht
        exact ⟨_, rfl, _, _, _, _, rfl, rfl, SqT.of h1, atI_nat (j := 0) rfl, rfl, _, rfl, ifY ⟨rfl, _, rfl, p, r, c, rfl, h1, q⟩⟩
      | neg t =>
        obtain ⟨p, u, rfl, h1, h2⟩ := ht
        refine ⟨_, rfl, _, _, _, _, rfl, rfl, SqT.of h1, atI_nat (j := 0) rfl, rfl, _, rfl, ifN w4.2.2 ⟨_, rfl, _, _, _, _, rfl, rfl, SqT.of h1, atI_nat (j := 0) rfl, rfl, _, rfl, ifY ⟨_, rfl, _, _, _, _, rfl, rfl, SqT.of h1, atI_nat (j := 1) rfl, _, rfl, _, rfl, u, t, rfl, hneg hh, ok, h2, fun H1 w s1 hw => ?_⟩⟩⟩
        exact ⟨(by show 2 ≤ sizeLine; decide), fun z hz => q _ _ (s1.trans (same_new hz)) ⟨z, w, rfl, upd_same, hw.mono (TK.of (same_new hz))⟩⟩
      | op s l r =>
        obtain ⟨p, u, w, rfl, h1, h2, h3⟩ := ht
        refine ⟨_, rfl, _, _, _, _, rfl, rfl, SqT.of h1, atI_nat (j := 0) rfl, rfl, _, rfl, ifN w5.2.2 ⟨_, rfl, _, _, _, _, rfl, rfl, SqT.of h1, atI_nat (j := 0) rfl, rfl, _, rfl, ifN w5.1 ⟨_, rfl, _, _, _, _, rfl, rfl, SqT.of h1, atI_nat (j := 0) rfl, rfl, _, rfl, ifY ⟨_, rfl, _, _, _, _, rfl, rfl, SqT.of h1, atI_nat (j := 1) rfl, _, rfl, _, _, _, _, rfl, rfl, SqT.of h1, atI_nat (j := 2) rfl, _, rfl, _, rfl, u, l, rfl, (hop hh).1, ok.1, h2, fun H1 w1 s1 hw1 => ?_⟩⟩⟩⟩
        have h1' := s1 _ _ h1
        refine ⟨_, rfl, _, _, _, _, rfl, rfl, SqT.of h1', atI_nat (j := 3) rfl, _, rfl, _, rfl, w, r, rfl, (hop hh).2, ok.2, h3.mono (TK.of s1), fun H2 w2 s2 hw2 => ?_⟩
        exact ⟨(by show 4 ≤ sizeLine; decide), fun z hz => q _ _ ((s1.trans s2).trans (same_new hz)) ⟨z, w1, w2, rfl, upd_same, hw1.mono (TK.of (s2.trans (same_new hz))), hw2.mono (TK.of (same_new hz))⟩⟩
      | call m as =>
        obtain ⟨p, p2, vs, rfl, h1, h2, h3⟩ := ht
        refine ⟨_, rfl, _, _, _, _, rfl, rfl, SqT.of h1, atI_nat (j := 0) rfl, rfl, _, rfl, ifN w6.2.2 ⟨_, rfl, _, _, _, _, rfl, rfl, SqT.of h1, atI_nat (j := 0) rfl, rfl, _, rfl, ifN w6.1 ⟨_, rfl, _, _, _, _, rfl, rfl, SqT.of h1, atI_nat (j := 0) rfl, rfl, _, rfl, ifN w6.2.1 ⟨_, rfl, _, _, _, _, rfl, rfl, SqT.of h1, atI_nat (j := 0) rfl, rfl, _, rfl, ifY ⟨_, rfl, _, _, _, _, rfl, rfl, SqT.of h1, atI_nat (j := 1) rfl, _, rfl, _, _, _, _, rfl, rfl, SqT.of h1, atI_nat (j := 2) rfl, _, rfl, p2, vs, as, rfl, h2, h3, ok, fun H1 p3 us s1 hp3 hu => ?_⟩⟩⟩⟩⟩
        exact ⟨(by show 3 ≤ sizeLine; decide), fun z hz => q _ _ (s1.trans (same_new hz)) ⟨z, p3, us, rfl, upd_same, (same_new hz) _ _ hp3, hu.mono (TK.of (same_new hz))⟩⟩
def spLMapped (K : PySem.W.Frag) (n : Nat) : Sp := fun vs H Q _ => ∃ (v : V) (t : Tr), vs = [v] ∧ t.h < n ∧ t.ok 8 ∧ TrAt H v t ∧ ∀ (H' : Hp) (w : V), Same H H' → TrAt H' w (mp t) → Q w H'
theorem okLawMapped (T : Txt K mg) : ∀ n : Nat, FnOk P w K mg base CX0 (n + 2) T.fLawMapped T.fdLawMapped ["tree"] (spLMapped K n)
  | 0 => by
    refine T.FLawMapped.ok scLawMapped (fun vs H Q E h => ?_) (fun cdv A outer s H vs Q E hr h => ?_)
    · obtain ⟨v, t, rfl, hh, _⟩ := h
      rfl
    · obtain ⟨v, t, rfl, hh, _⟩ := h
      exact absurd hh (Nat.not_lt_zero _)
  | n + 1 => by
    have IH := okLawMapped T n
    refine T.FLawMapped.ok scLawMapped (fun vs H Q E h => ?_) (fun cdv A outer s H vs Q E hr h => ?_)
    · obtain ⟨v, t, rfl, _⟩ := h
      rfl
    · obtain ⟨v, t, rfl, hh, ok, ht, q⟩ := h
      -- slots tree=0 areas=1 area=2 part=3
      refine ⟨_, (pss_cons (ps_if (pt_cmpR op_eq (pe_ix ix_tup (pv 0) pe_int (fun _ _ => rfl)) pe_str (nomark _))
            (pss_one (ps_ret (pe_call (okLawDown T) (hr.mono (by omega)) (by rfl) T.gLawDown T.FLawDown.kp T.bLawDown .nil pass0 (pa_cons (pv 0) pa_nil))))
            pss_nil)
          (pss_cons (ps_if (pt_cmpR op_eq (pe_ix ix_tup (pv 0) pe_int (fun _ _ => rfl)) pe_str (nomark _))
            (pss_one (ps_ret (pe_tup (pa_cons pe_str (pa_cons (pe_call IH (hr.mono (by omega)) (by rfl) T.gLawMapped T.FLawMapped.kp T.bLawMapped .nil pass0 (pa_cons (pe_ix ix_tup (pv 0) pe_int (fun _ _ => rfl)) pa_nil)) pa_nil)))))
            pss_nil)
          (pss_cons (ps_if (pt_cmpR op_eq (pe_ix ix_tup (pv 0) pe_int (fun _ _ => rfl)) pe_str (nomark _))
            (pss_one (ps_ret (pe_tup (pa_cons pe_str (pa_cons (pe_ix ix_tup (pv 0) pe_int (fun _ _ => rfl)) (pa_cons (pe_call IH (hr.mono (by omega)) (by rfl) T.gLawMapped T.FLawMapped.kp T.bLawMapped .nil pass0 (pa_cons (pe_ix ix_tup (pv 0) pe_int (fun _ _ => rfl)) pa_nil)) (pa_cons (pe_call IH (hr.mono (by omega)) (by rfl) T.gLawMapped T.FLawMapped.kp T.bLawMapped .nil pass0 (pa_cons (pe_ix ix_tup (pv 0) pe_int (fun _ _ => rfl)) pa_nil)) pa_nil)))))))
            pss_nil)
          (pss_cons (ps_if (pt_cmpR op_ne (pe_ix ix_tup (pv 0) pe_int (fun _ _ => rfl)) pe_str (nomark _))
            (pss_one (ps_ret (pv 0)))
            pss_nil)
          (pss_cons (ps_set (i := 1) scLawMapped.nd rfl (Or.inl rfl) (pe_lst pa_nil))
          (pss_cons (ps_for PassesOwn.never rfl (pi_tup (pe_ix ix_tup (pv 0) pe_int (fun _ _ => rfl))) (pg_name (i := 2) scLawMapped.nd rfl (Or.inl rfl))
            (pss_one (ps_for PassesOwn.never rfl (pi_tup (pe_call (okLawMore T) (hr.mono (by omega)) (by rfl) T.gLawMore T.FLawMore.kp T.bLawMore .nil pass0 (pa_cons (pv 2) pa_nil))) (pg_name (i := 3) scLawMapped.nd rfl (Or.inl rfl))
              (pss_one (ps_expr (pe_bm PySem.F.plainAttrs_list PySem.F.slot_list_append PySem.F.type_list_append mt_append (pv 1) (pa_cons (pv 3) pa_nil)))))))
          (C8.pss_cut (ps_if (pt_cmpR op_eq (pe_callB call_len_seq (by rfl) T.z_len PySem.boot_len (pa_cons (pv 1) pa_nil)) pe_int (nomark _))
            (pss_one (ps_expr (pe_bm PySem.F.plainAttrs_list PySem.F.slot_list_append PySem.F.type_list_append mt_append (pv 1) (pa_cons (pe_tup (pa_cons pe_str pa_nil)) pa_nil))))
            pss_nil)
          (pss_one (ps_ret (pe_tup (pa_cons pe_str (pa_cons (pe_ix ix_tup (pv 0) pe_int (fun _ _ => rfl)) (pa_cons (pe_callTy call_tuple_of (by rfl) T.z_tuple (by decide +kernel) (pa_cons (pv 1) pa_nil)) pa_nil))))))))))))), ?_⟩
      cases t with
      | gone =>
        obtain ⟨p, rfl, h1⟩ := ht
        exact ⟨_, rfl, _, _, _, _, rfl, rfl, SqT.of h1, atI_nat (j := 0) rfl, rfl, _, rfl, ifN w1.2.2.2.1 ⟨_, rfl, _, _, _, _, rfl, rfl, SqT.of h1, atI_nat (j := 0) rfl, rfl, _, rfl, ifN w1.1 ⟨_, rfl, _, _, _, _, rfl, rfl, SqT.of h1, atI_nat (j := 0) rfl, rfl, _, rfl, ifN w1.2.1 ⟨_, rfl, _, _, _, _, rfl, rfl, SqT.of h1, atI_nat (j := 0) rfl, rfl, _, rfl, ifNe w1.2.2.1 ⟨_, rfl, q _ _ (Same.refl _) ⟨p, rfl, h1⟩⟩⟩⟩⟩⟩
      | num x y =>
        obtain ⟨p, p2, rfl, h1, h2⟩ := ht
        exact ⟨_, rfl, _, _, _, _, rfl, rfl, SqT.of h1, atI_nat (j := 0) rfl, rfl, _, rfl, ifN w2.2.2.2 ⟨_, rfl, _, _, _, _, rfl, rfl, SqT.of h1, atI_nat (j := 0) rfl, rfl, _, rfl, ifN w2.1 ⟨_, rfl, _, _, _, _, rfl, rfl, SqT.of h1, atI_nat (j := 0) rfl, rfl, _, rfl, ifN w2.2.1 ⟨_, rfl, _, _, _, _, rfl, rfl, SqT.of h1, atI_nat (j := 0) rfl, rfl, _, rfl, ifNe w2.2.2.1 ⟨_, rfl, q _ _ (Same.refl _) ⟨p, p2, rfl, h1, h2⟩⟩⟩⟩⟩⟩
      | cell r c =>
        obtain ⟨p, rfl, h1⟩ := ht
        exact ⟨_, rfl, _, _, _, _, rfl, rfl, SqT.of h1, atI_nat (j := 0) rfl, rfl, _, rfl, ifY ⟨_, rfl, p, r, c, rfl, h1, q⟩⟩
      | neg t =>
        obtain ⟨p, u, rfl, h1, h2⟩ := ht
        refine ⟨_, rfl, _, _, _, _, rfl, rfl, SqT.of h1, atI_nat (j := 0) rfl, rfl, _, rfl, ifN w4.2.2 ⟨_, rfl, _, _, _, _, rfl, rfl, SqT.of h1, atI_nat (j := 0) rfl, rfl, _, rfl, ifY ⟨_, rfl, _, _, _, _, rfl, rfl, SqT.of h1, atI_nat (j := 1) rfl, u, t, rfl, hneg hh, ok, h2, fun H1 w s1 hw => ?_⟩⟩⟩
        exact ⟨(by show 2 ≤ sizeLine; decide), fun z hz => q _ _ (s1.trans (same_new hz)) ⟨z, w, rfl, upd_same, hw.mono (TK.of (same_new hz))⟩⟩
      | op s l r =>
        obtain ⟨p, u, w, rfl, h1, h2, h3⟩ := ht
        refine ⟨_, rfl, _, _, _, _, rfl, rfl, SqT.of h1, atI_nat (j := 0) rfl, rfl, _, rfl, ifN w5.2.2 ⟨_, rfl, _, _, _, _, rfl, rfl, SqT.of h1, atI_nat (j := 0) rfl, rfl, _, rfl, ifN w5.1 ⟨_, rfl, _, _, _, _, rfl, rfl, SqT.of h1, atI_nat (j := 0) rfl, rfl, _, rfl, ifY ⟨_, rfl, _, _, _, _, rfl, rfl, SqT.of h1, atI_nat (j := 1) rfl, _, rfl, _, _, _, _, rfl, rfl, SqT.of h1, atI_nat (j := 2) rfl, u, l, rfl, (hop hh).1, ok.1, h2, fun H1 w1 s1 hw1 => ?_⟩⟩⟩⟩
        have h1' := s1 _ _ h1
        refine ⟨_, rfl, _, _, _, _, rfl, rfl, SqT.of h1', atI_nat (j := 3) rfl, w, r, rfl, (hop hh).2, ok.2, h3.mono (TK.of s1), fun H2 w2 s2 hw2 => ?_⟩
        exact ⟨(by show 4 ≤ sizeLine; decide), fun z hz => q _ _ ((s1.trans s2).trans (same_new hz)) ⟨z, w1, w2, rfl, upd_same, hw1.mono (TK.of (s2.trans (same_new hz))), hw2.mono (TK.of (same_new hz))⟩⟩
      | call m as =>
        obtain ⟨p, p2, vs, rfl, h1, h2, h3⟩ := ht
        have o8 : as.length ≤ 8 := ok
        have hl := h3.len
        refine ⟨_, rfl, _, _, _, _, rfl, rfl, SqT.of h1, atI_nat (j := 0) rfl, rfl, _, rfl, ifN w6.2.2 ⟨_, rfl, _, _, _, _, rfl, rfl, SqT.of h1, atI_nat (j := 0) rfl, rfl, _, rfl, ifN w6.1 ⟨_, rfl, _, _, _, _, rfl, rfl, SqT.of h1, atI_nat (j := 0) rfl, rfl, _, rfl, ifN w6.2.1 ⟨_, rfl, _, _, _, _, rfl, rfl, SqT.of h1, atI_nat (j := 0) rfl, rfl, _, rfl, ifNeY ⟨Nat.zero_le _, fun ad had => ?_⟩⟩⟩⟩⟩
        have s0 := same_new (o := .lst []) had
        have h1' := s0 _ _ h1
        refine ⟨_, rfl, _, _, _, _, rfl, rfl, SqT.of h1', atI_nat (j := 2) rfl, p2, rfl, ⟨_, SqT.of (s0 _ _ h2)⟩, for_it (walk_tup (a := p2) (xs := vs)) (fun i σ H' => ∃ (c2 c3 : Option V) (fs : List V), σ = [some (.ref p), some (.ref ad), c2, c3] ∧ Same H H' ∧ H' ad = some (.lst fs) ∧ Ars H' fs ((as.take i).flatMap mr) ∧ fs.length ≤ 2 * i) ⟨_, _, [], rfl, s0, upd_same, .nil, Nat.le_refl _⟩ (fun i σ H' _ ⟨_, _, _, _, s, _⟩ => SqT.of (s _ _ h2)) ?_ ?_⟩
        · rintro i x σ H9 H2 hi ⟨c2, c3, fs, rfl, s2, hf2, ar2, fl⟩ ⟨rfl, hx⟩
          obtain ⟨a, ha, hAt⟩ := h3.get i x hx
          refine ⟨_, rfl, x, a, rfl, hAt.mono (TK.of s2), fun H3 p3 us s3 hp3 hu => ?_⟩
          have ul := hu.len
          have ml := mr_len a
          have hf3 := s3 _ _ hf2
          refine ⟨p3, rfl, ⟨_, SqT.of hp3⟩, for_it (walk_tup (a := p3) (xs := us)) (fun j σ H' => ∃ (c3 : Option V), σ = [some (.ref p), some (.ref ad), some x, c3] ∧ Same H H' ∧ TK H3 H' ∧ H' ad = some (.lst (fs ++ us.take j))) ⟨_, rfl, s2.trans s3, fun _ _ h => h, by rw [List.take_zero, List.append_nil]; exact hf3⟩ (fun j σ H' _ ⟨_, _, _, k, _⟩ => SqT.of (k _ _ hp3)) ?_ ?_⟩
          · rintro j y σ H8 H4 hj ⟨c3, rfl, s4, k4, hf4⟩ ⟨rfl, hy⟩
            refine ⟨_, rfl, .inl ⟨rfl, _, SqL.of hf4⟩, _, rfl, ad, _, _, rfl, rfl, hf4, ?_, _, rfl, same_mut s4 had, k4.trans (TK.mut hf4), ?_⟩
            · rw [List.length_append, List.length_take]
              exact small1000 (by omega)
            · rw [upd_same, List.take_add_one, hy, List.append_assoc]
              rfl
          · rintro σ H4 ⟨c3, rfl, s4, k4, hf4⟩
            rw [List.take_length] at hf4
            refine ⟨_, _, fs ++ us, rfl, s4, hf4, ?_, ?_⟩
            · rw [take_flat ha]
              exact Ars.app (hu.mono k4) (ar2.mono ((TK.of s3).trans k4))
            · rw [List.length_append]
              omega
        rintro σ H2 ⟨c2, c3, fs, rfl, s2, hf2, ar2, fl⟩
        rw [List.take_of_length_le (by rw [hl]; exact Nat.le_refl _)] at ar2
        refine ⟨fun σ H' => ∃ fs : List V, σ = [some (.ref p), some (.ref ad), c2, c3] ∧ Same H H' ∧ H' ad = some (.lst fs) ∧ Ars H' fs (orGone (as.flatMap mr)), ?_, ?_⟩
        · refine ⟨_, rfl, ad, _, rfl, .inl (SqL.of hf2), rfl, _, rfl, ?_⟩
          generalize as.flatMap mr = bs at ar2
          cases ar2 with
          | nil =>
            refine ite2 (fun _ => ?_) (fun z => absurd (decide_eq_true rfl) z)
            refine ⟨_, rfl, .inl ⟨rfl, _, SqL.of hf2⟩, (by show 1 ≤ sizeLine; decide), fun u hu => ?_⟩
            have s3 := same_new (o := .tup [.str "gone"]) hu
            have hf3 := s3 _ _ hf2
            exact ⟨ad, _, _, rfl, rfl, hf3, small1000 (by decide), [.ref u], rfl, same_mut (s2.trans s3) had, upd_same, .cons ⟨u, rfl, (TK.mut hf3) _ _ upd_same⟩ .nil⟩
          | cons ha ra =>
            refine ite2 (fun z => ?_) (fun _ => ⟨_, rfl, s2, hf2, .cons ha ra⟩)
            have := V.int.inj (of_decide_eq_true z)
            simp at this
            omega
        rintro σ H3 ⟨gs, rfl, s3, hf3, ar3⟩
        have h13 := s3 _ _ h1
        refine ⟨_, rfl, _, _, _, _, rfl, rfl, SqT.of h13, atI_nat (j := 1) rfl, _, rfl, ad, _, rfl, .inl ⟨SqL.of hf3, fun u hu => ⟨(by show 3 ≤ sizeLine; decide), fun z hz => q _ _ ((s3.trans (same_new hu)).trans (same_new hz)) ⟨z, u, gs, rfl, upd_same, (same_new hz) _ _ upd_same, ar3.mono (TK.of ((same_new hu).trans (same_new hz)))⟩⟩⟩⟩
theorem lk_scal {H : Hp} {x : V} (s : Scal x) : ∀ n, Lk H n x x
  | 0 => ⟨rfl, s⟩
  | _ + 1 => .inl ⟨rfl, s⟩
theorem lk_flat {H : Hp} {a b : Addr} {xs : List V} {n : Nat} (ha : H a = some (.tup xs)) (hb : H b = some (.tup xs)) (hz : xs.length ≤ 100000) (hs : ∀ x ∈ xs, Scal x) : Lk H (n + 1) (.ref a) (.ref b) :=
  .inr (.inl ⟨a, b, xs, xs, rfl, rfl, ha, hb, rfl, hz, fun i u v e1 e2 => by
    rw [e1] at e2
    cases e2
    exact lk_scal (hs _ (List.mem_of_getElem? e1)) n⟩)
theorem ar_lk {H : Hp} {u v : V} {n : Nat} : ∀ {a : Ar}, ArAt H u a → ArAt H v a → Lk H (n + 1) u v
  | .gone, ⟨q, h, h1⟩, ⟨q2, h2, h3⟩ => by
    rw [h, h2]
    exact lk_flat h1 h3 (by simp) (by simp [Scal])
  | .name _, ⟨q, h, h1⟩, ⟨q2, h2, h3⟩ => by
    rw [h, h2]
    exact lk_flat h1 h3 (by simp) (by simp [Scal])
  | .block _ _ _ _, ⟨q, h, h1⟩, ⟨q2, h2, h3⟩ => by
    rw [h, h2]
    exact lk_flat h1 h3 (by simp) (by simp [Scal])
theorem ars_lk {H : Hp} {n : Nat} : ∀ {us vs as}, Ars H us as → Ars H vs as → ∀ (i : Nat) u v, us[i]? = some u → vs[i]? = some v → Lk H (n + 1) u v
  | _, _, _, .nil, .nil, i, u, v, h, _ => by simp at h
  | _, _, _, .cons h r, .cons h2 r2, 0, u, v, e1, e2 => by
    cases e1
    cases e2
    exact ar_lk h h2
  | _, _, _, .cons h r, .cons h2 r2, i + 1, u, v, e1, e2 => ars_lk r r2 i u v (by simpa using e1) (by simpa using e2)
theorem cls_lk {H : Hp} {n : Nat} : ∀ {us vs zs}, Cls H us zs → Cls H vs zs → ∀ (i : Nat) u v, us[i]? = some u → vs[i]? = some v → Lk H (n + 1) u v
  | _, _, _, .nil, .nil, i, u, v, h, _ => by simp at h
  | _, _, _, .cons h r, .cons h2 r2, 0, u, v, e1, e2 => by
    cases e1
    cases e2
    exact lk_flat h h2 (by simp) (by simp [Scal])
  | _, _, _, .cons h r, .cons h2 r2, i + 1, u, v, e1, e2 => cls_lk r r2 i u v (by simpa using e1) (by simpa using e2)
theorem tr_lk {H : Hp} : ∀ {t : Tr} {n : Nat} {u v : V}, t.h < n + 1 → t.ok 100 → TrAt H u t → TrAt H v t → Lk H (n + 3) u v
  | .gone, n, u, v, _, _, ⟨q, h, h1⟩, ⟨q2, h2, h3⟩ => by
    rw [h, h2]
    exact lk_flat h1 h3 (by simp) (by simp [Scal])
  | .cell _ _, n, u, v, _, _, ⟨q, h, h1⟩, ⟨q2, h2, h3⟩ => by
    rw [h, h2]
    exact lk_flat h1 h3 (by simp) (by simp [Scal])
  | .num _ _, n, u, v, _, _, ⟨q, p, h, h1, h1'⟩, ⟨q2, p2, h2, h3, h3'⟩ => by
    rw [h, h2]
    refine .inr (.inl ⟨q, q2, _, _, rfl, rfl, h1, h3, rfl, by simp, fun i a b e1 e2 => ?_⟩)
    rcases i with _ | _ | i
    · cases e1
      cases e2
      exact lk_scal (by simp [Scal]) _
    · cases e1
      cases e2
      exact lk_flat h1' h3' (by simp) (by simp [Scal])
    · cases e1
  | .neg t, 0, u, v, hh, _, _, _ => absurd (hneg hh) (Nat.not_lt_zero _)
  | .neg t, n + 1, u, v, hh, ok, ⟨q, x, h, h1, h1'⟩, ⟨q2, y, h2, h3, h3'⟩ => by
    rw [h, h2]
    refine .inr (.inl ⟨q, q2, _, _, rfl, rfl, h1, h3, rfl, by simp, fun i a b e1 e2 => ?_⟩)
    rcases i with _ | _ | i
    · cases e1
      cases e2
      exact lk_scal (by simp [Scal]) _
    · cases e1
      cases e2
      exact tr_lk (hneg hh) ok h1' h3'
    · cases e1
  | .op s l r, 0, u, v, hh, _, _, _ => absurd (hop hh).1 (Nat.not_lt_zero _)
  | .op s l r, n + 1, u, v, hh, ok, ⟨q, x, x2, h, h1, h1', h1''⟩, ⟨q2, y, y2, h2, h3, h3', h3''⟩ => by
    rw [h, h2]
    refine .inr (.inl ⟨q, q2, _, _, rfl, rfl, h1, h3, rfl, by simp, fun i a b e1 e2 => ?_⟩)
    rcases i with _ | _ | _ | _ | i
    · cases e1
      cases e2
      exact lk_scal (by simp [Scal]) _
    · cases e1
      cases e2
      exact lk_scal (by simp [Scal]) _
    · cases e1
      cases e2
      exact tr_lk (hop hh).1 ok.1 h1' h3'
    · cases e1
      cases e2
      exact tr_lk (hop hh).2 ok.2 h1'' h3''
    · cases e1
  | .call m as, n, u, v, _, ok, ⟨q, p, us, h, h1, h1', h1''⟩, ⟨q2, p2, vs, h2, h3, h3', h3''⟩ => by
    have o : as.length ≤ 100 := ok
    rw [h, h2]
    refine .inr (.inl ⟨q, q2, _, _, rfl, rfl, h1, h3, rfl, by simp, fun i a b e1 e2 => ?_⟩)
    rcases i with _ | _ | _ | i
    · cases e1
      cases e2
      exact lk_scal (by simp [Scal]) _
    · cases e1
      cases e2
      exact lk_scal (by simp [Scal]) _
    · cases e1
      cases e2
      exact .inr (.inl ⟨p, p2, us, vs, rfl, rfl, h1', h3', by rw [h1''.len, h3''.len], by rw [h1''.len]; omega, ars_lk h1'' h3''⟩)
    · cases e1
/-! ### drawn trees -/
theorem TK.kp {b : Addr} {H H' : Hp} (w : Kp b H H') (hb : Box H b) : TK H H' := fun q xs h => by
  refine w q _ (fun z => ?_) h
  obtain ⟨_, _, _, h2, _, _⟩ := hb
  rw [z, h2] at h
  cases h
theorem box_ne {H : Hp} {b l : Addr} (B : Box H b) (h : H l = none) : l ≠ b := fun z => by
  obtain ⟨_, _, _, h2, _, _⟩ := B
  rw [z, h2] at h
  cases h
def NodeAt (H : Hp) (b l : Addr) (d : Nat) (t : Tr) : Prop := ∃ (v : V) (tl : Addr) (ts : List V) (k : Int), H l = some (.lst [v, .ref tl, .int k]) ∧ H tl = some (.lst ts) ∧ ts.length ≤ 20 * 3 ^ d ∧ TrAt H v t ∧ l ≠ b ∧ tl ≠ b
theorem NodeAt.kp {H H' : Hp} {b l : Addr} {d : Nat} {t : Tr} (w : Kp b H H') (B : Box H b) (h : NodeAt H b l d t) : NodeAt H' b l d t := by
  obtain ⟨v, tl, ts, k, h1, h2, h3, h4, h5, h6⟩ := h
  exact ⟨v, tl, ts, k, w _ _ h5 h1, w _ _ h6 h2, h3, h4.mono (TK.kp w B), h5, h6⟩
theorem node_mk {H : Hp} {b l tl : Addr} {v : V} {ts : List V} {k : Int} {d : Nat} {t : Tr} (B : Box H b) (ht : TrAt H v t) (h2 : H tl = some (.lst ts)) (nt : tl ≠ b) (hl : H l = none) (z : ts.length ≤ 20 * 3 ^ d) : NodeAt (upd H l (.lst [v, .ref tl, .int k])) b l d t :=
  ⟨v, tl, ts, k, upd_same, (same_new hl) _ _ h2, z, ht.mono (TK.of (same_new hl)), box_ne B hl, nt⟩
theorem NodeAt.up {H : Hp} {b l : Addr} {t : Tr} {d e : Nat} (h : NodeAt H b l 0 t) : NodeAt H b l e t := by
  obtain ⟨v, tl, ts, k, h1, h2, h3, h4, h5, h6⟩ := h
  exact ⟨v, tl, ts, k, h1, h2, Nat.le_trans h3 (Nat.mul_le_mul_left 20 (Nat.one_le_pow e 3 (by decide))), h4, h5, h6⟩
theorem pow_pos3 (d : Nat) : 1 ≤ 3 ^ d := Nat.one_le_pow d 3 (by decide)
theorem S_self (s : Str) : S s.cps.toList = s := by
  show (⟨s.cps.toList.toArray⟩ : Str) = s
  rw [Array.toArray_toList]
theorem strOk_sml {a : List Nat} (h : a.all sml = true) : PyData.strOk (S a) = true := by
  show (a.toArray).all (fun c => decide (c < 0x110000)) = true
  rw [List.all_toArray, List.all_eq_true]
  intro c hc
  have : 97 ≤ c ∧ c ≤ 122 := of_decide_eq_true (List.all_eq_true.mp h c hc)
  exact decide_eq_true (by omega)
def spWord (K : PySem.W.Frag) : Sp := fun vs H Q _ => ∃ (b : Addr), vs = [.ref b] ∧ Box H b ∧ ∀ (a : List Nat) (H' : Hp), a.length ≤ 9 → PyData.strOk (S a) = true → Box H' b → Kp b H H' → Q (.str (S a)) H'
theorem okLawWord (T : Txt K mg) : FnOk P w K mg base CX0 2 T.fLawWord T.fdLawWord ["box"] (spWord K) := by
  refine T.FLawWord.ok scLawWord (fun vs H Q E h => ?_) (fun cdv A outer s H vs Q E hr h => ?_)
  · obtain ⟨b, rfl, _⟩ := h
    rfl
  · obtain ⟨b, rfl, B, q⟩ := h
    -- slots box=0 letters=1 word=2 k=3
    refine ⟨_, (pss_cons (ps_set (i := 1) scLawWord.nd rfl (Or.inl rfl) pe_str)
        (pss_cons (ps_if (pt_cmpR op_eq (pe_call (okLawDraw T) (hr.mono (by decide)) (by rfl) T.gLawDraw T.FLawDraw.kp T.bLawDraw .nil pass0 (pa_cons (pv 0) (pa_cons pe_int pa_nil))) pe_int (nomark _))
          (pss_one (ps_ret (pe_ix ix_list (pe_lst (pa_cons pe_str (pa_cons pe_str (pa_cons pe_str (pa_cons pe_str (pa_cons pe_str (pa_cons pe_str (pa_cons pe_str pa_nil)))))))) (pe_call (okLawDraw T) (hr.mono (by decide)) (by rfl) T.gLawDraw T.FLawDraw.kp T.bLawDraw .nil pass0 (pa_cons (pv 0) (pa_cons pe_int pa_nil))) (fun _ _ => rfl))))
          pss_nil)
        (pss_cons (ps_set (i := 2) scLawWord.nd rfl (Or.inl rfl) pe_str)
        (pss_cons (ps_for PassesOwn.never rfl (pi_range1 rfl T.z_range (pa_cons (pe_op op_add pe_int (pe_call (okLawDraw T) (hr.mono (by decide)) (by rfl) T.gLawDraw T.FLawDraw.kp T.bLawDraw .nil pass0 (pa_cons (pv 0) (pa_cons pe_int pa_nil)))) pa_nil)) (pg_name (i := 3) scLawWord.nd rfl (Or.inl rfl))
          (pss_one (ps_set (i := 2) scLawWord.nd rfl (Or.inl rfl) (pe_op op_add_str (pv 2) (pe_ix ix_str (pv 1) (pe_call (okLawDraw T) (hr.mono (by decide)) (by rfl) T.gLawDraw T.FLawDraw.kp T.bLawDraw .nil pass0 (pa_cons (pv 0) (pa_cons pe_int pa_nil))) (fun _ _ => rfl))))))
        (pss_cons (ps_if (pt_cmpR op_in_seq (pv 2) (pe_lst (pa_cons pe_str (pa_cons pe_str (pa_cons pe_str (pa_cons pe_str (pa_cons pe_str pa_nil)))))) rfl)
          (pss_one (ps_ret (pe_op op_add_str (pv 2) pe_str)))
          pss_nil)
        (pss_one (ps_ret (pv 2)))))))), ?_⟩
    refine ⟨_, rfl, b, 2, rfl, by decide, B, fun m H1 _ _ B1 w1 => ⟨rfl, _, rfl, ite2 (fun _ => ?_) (fun _ => ?_)⟩⟩
    · refine ⟨(by show 7 ≤ sizeLine; decide), fun l hl => ?_⟩
      have B2 := B1.same (same_new (o := .lst [.str "ab", .str "total", .str "summe", .str "counts", .str "goner", .str "mi", .str "maxmaxma"]) hl)
      refine ⟨_, rfl, b, 7, rfl, by decide, B2, fun m H2 m0 m1 B3 w3 => ?_⟩
      obtain ⟨v, hv, ev⟩ := item_by V.str (xs := ["ab", "total", "summe", "counts", "goner", "mi", "maxmaxma"]) m0 (by show m < 7; exact m1)
      have hl3 := w3 _ _ (box_ne B1 hl) upd_same
      refine ⟨l, _, _, _, rfl, rfl, SqL.of hl3, ev, ?_⟩
      have all : ∀ v ∈ (["ab", "total", "summe", "counts", "goner", "mi", "maxmaxma"] : List Str), v.cps.toList.length ≤ 9 ∧ PyData.strOk v = true := by decide +kernel
      have hv2 := all v hv
      rw [← S_self v]
      exact q _ H2 hv2.1 (by rw [S_self]; exact hv2.2) B3 ((w1.trans (Kp.of (same_new hl))).trans w3)
    refine ⟨_, rfl, b, 7, rfl, by decide, B1, fun m H2 m0 m1 B2 w2 => ⟨_, _, rfl, rfl, 2 + m, rfl, by omega, by omega, for_range (lo := 0) (n := (2 + m).toNat) (fun i σ H' => ∃ (a : List Nat) (c3 : Option V), σ = [some (.ref b), some (.str ("abcdefghijklmnopqrstuvwxyz" : Str)), some (.str (S a)), c3] ∧ a.length = i ∧ a.all sml = true ∧ Box H' b ∧ Kp b H H') ⟨[], _, by rw [← emp_S]; rfl, rfl, rfl, B2, w1.trans w2⟩ ?_ ?_⟩⟩
    · rintro i σ H3 hi ⟨a, c3, rfl, al, hd, B3, w3⟩
      refine ⟨_, rfl, _, rfl, _, rfl, b, 26, rfl, by decide, B3, fun k H4 k0 k1 B4 w4 => ?_⟩
      obtain ⟨c, hm, hc⟩ := at_mem (xs := ("abcdefghijklmnopqrstuvwxyz" : Str).cps.toList) k0 (Int.lt_of_lt_of_le k1 (by decide +kernel))
      have hdc : sml c = true := by rw [← sml_mem]; exact decide_eq_true hm
      refine ⟨_, k, c, rfl, rfl, by decide +kernel, hc, S a, S [c], rfl, rfl, len_add (by omega) (by simp), a ++ [c], some (.int (0 + (i : Int))), ?_, by rw [List.length_append, al]; rfl, ?_, B4, w3.trans w4⟩
      · rw [S_cat]
        rfl
      · rw [List.all_append, hd]
        show (true && (sml c && true)) = true
        rw [hdc]
        rfl
    · rintro σ H3 ⟨a, c3, rfl, al, hd, B3, w3⟩
      refine ⟨_, rfl, (by show 5 ≤ sizeLine; decide), fun l hl => ⟨l, _, rfl, .inl (SqL.of upd_same), rfl, rfl, _, rfl, ite2 (fun c => ?_) (fun c => ?_)⟩⟩
      · have ex : ("x" : Str) = S [120] := by decide +kernel
        have hx : (a ++ [120]).all sml = true := by
          rw [List.all_append, hd]
          decide
        refine ⟨_, rfl, S a, "x", rfl, rfl, by rw [ex]; exact len_add (by omega) (by simp), ?_⟩
        rw [ex, S_cat]
        exact q _ _ (by rw [List.length_append, al]; show (2 + m).toNat + 1 ≤ 9; omega) (strOk_sml hx) (B3.same (same_new hl)) (w3.trans (Kp.of (same_new hl)))
      · exact ⟨_, rfl, q _ _ (by omega) (strOk_sml hd) (B3.same (same_new hl)) (w3.trans (Kp.of (same_new hl)))⟩
def spLeaf (K : PySem.W.Frag) : Sp := fun vs H Q _ => ∃ (b : Addr), vs = [.ref b, .int 12, .int 8] ∧ Box H b ∧ ∀ (l : Addr) (t : Tr) (d : Nat) (H' : Hp), Box H' b → Kp b H H' → NodeAt H' b l 0 t → t.h = 0 → t.ok 3 → Q (.ref l) H'
theorem okLawLeaf (T : Txt K mg) : FnOk P w K mg base CX0 3 T.fLawLeaf T.fdLawLeaf ["box", "rows", "columns"] (spLeaf K) := by
  refine T.FLawLeaf.ok scLawLeaf (fun vs H Q E h => ?_) (fun cdv A outer s H vs Q E hr h => ?_)
  · obtain ⟨b, rfl, _⟩ := h
    rfl
  · obtain ⟨b, rfl, B, q⟩ := h
    -- slots box=0 rows=1 columns=2 kind=3 whole=4 more=5 row=6 column=7
    refine ⟨_, (pss_cons (ps_set (i := 3) scLawLeaf.nd rfl (Or.inl rfl) (pe_call (okLawDraw T) (hr.mono (by decide)) (by rfl) T.gLawDraw T.FLawDraw.kp T.bLawDraw .nil pass0 (pa_cons (pv 0) (pa_cons pe_int pa_nil))))
        (pss_cons (ps_if (pt_cmpR op_eq (pv 3) pe_int (nomark _))
          (pss_one (ps_ret (pe_lst (pa_cons (pe_tup (pa_cons pe_str pa_nil)) (pa_cons (pe_lst (pa_cons pe_str pa_nil)) (pa_cons pe_int pa_nil))))))
          pss_nil)
        (pss_cons (ps_if (pt_cmpR op_eq (pv 3) pe_int (nomark _))
          (pss_cons (ps_set (i := 4) scLawLeaf.nd rfl (Or.inl rfl) (pe_call (okLawDigitText T) (hr.mono (by decide)) (by rfl) T.gLawDigitText T.FLawDigitText.kp T.bLawDigitText .nil pass0 (pa_cons (pv 0) (pa_cons (pe_op op_add pe_int (pe_call (okLawDraw T) (hr.mono (by decide)) (by rfl) T.gLawDraw T.FLawDraw.kp T.bLawDraw .nil pass0 (pa_cons (pv 0) (pa_cons pe_int pa_nil)))) pa_nil))))
          (pss_one (ps_ret (pe_lst (pa_cons (pe_tup (pa_cons pe_str (pa_cons (pe_tup (pa_cons (pe_callTy call_int_str (by rfl) T.z_int (by decide +kernel) (pa_cons (pv 4) pa_nil)) (pa_cons pe_int pa_nil))) pa_nil))) (pa_cons (pe_lst (pa_cons (pv 4) pa_nil)) (pa_cons pe_int pa_nil)))))))
          pss_nil)
        (pss_cons (ps_if (pt_cmpR op_eq (pv 3) pe_int (nomark _))
          (pss_cons (ps_set (i := 4) scLawLeaf.nd rfl (Or.inl rfl) (pe_call (okLawDigitText T) (hr.mono (by decide)) (by rfl) T.gLawDigitText T.FLawDigitText.kp T.bLawDigitText .nil pass0 (pa_cons (pv 0) (pa_cons (pe_op op_add pe_int (pe_call (okLawDraw T) (hr.mono (by decide)) (by rfl) T.gLawDraw T.FLawDraw.kp T.bLawDraw .nil pass0 (pa_cons (pv 0) (pa_cons pe_int pa_nil)))) pa_nil))))
          (pss_cons (ps_set (i := 5) scLawLeaf.nd rfl (Or.inl rfl) (pe_call (okLawDigitText T) (hr.mono (by decide)) (by rfl) T.gLawDigitText T.FLawDigitText.kp T.bLawDigitText .nil pass0 (pa_cons (pv 0) (pa_cons (pe_op op_add pe_int (pe_call (okLawDraw T) (hr.mono (by decide)) (by rfl) T.gLawDraw T.FLawDraw.kp T.bLawDraw .nil pass0 (pa_cons (pv 0) (pa_cons pe_int pa_nil)))) pa_nil))))
          (pss_one (ps_ret (pe_lst (pa_cons (pe_tup (pa_cons pe_str (pa_cons (pe_call (okLawLowest T) (hr.mono (by decide)) (by rfl) T.gLawLowest T.FLawLowest.kp T.bLawLowest .nil pass0 (pa_cons (pe_callTy call_int_str (by rfl) T.z_int (by decide +kernel) (pa_cons (pe_op op_add_str (pv 4) (pv 5)) pa_nil)) (pa_cons (pe_ix ix_list (pe_lst (pa_cons pe_int (pa_cons pe_int (pa_cons pe_int (pa_cons pe_int pa_nil))))) (pe_callB call_len_str (by rfl) T.z_len PySem.boot_len (pa_cons (pv 5) pa_nil)) (fun _ _ => rfl)) pa_nil))) pa_nil))) (pa_cons (pe_lst (pa_cons (pe_op op_add_str (pe_op op_add_str (pv 4) pe_str) (pv 5)) pa_nil)) (pa_cons pe_int pa_nil))))))))
          pss_nil)
        (pss_cons (ps_set (i := 6) scLawLeaf.nd rfl (Or.inl rfl) (pe_call (okLawDraw T) (hr.mono (by decide)) (by rfl) T.gLawDraw T.FLawDraw.kp T.bLawDraw .nil pass0 (pa_cons (pv 0) (pa_cons (pv 1) pa_nil))))
        (pss_cons (ps_set (i := 7) scLawLeaf.nd rfl (Or.inl rfl) (pe_call (okLawDraw T) (hr.mono (by decide)) (by rfl) T.gLawDraw T.FLawDraw.kp T.bLawDraw .nil pass0 (pa_cons (pv 0) (pa_cons (pv 2) pa_nil))))
        (pss_one (ps_ret (pe_lst (pa_cons (pe_tup (pa_cons pe_str (pa_cons (pv 6) (pa_cons (pv 7) pa_nil)))) (pa_cons (pe_lst (pa_cons (pe_call (okLawAddress T) (hr.mono (by decide)) (by rfl) T.gLawAddress T.FLawAddress.kp T.bLawAddress .nil pass0 (pa_cons (pv 6) (pa_cons (pv 7) pa_nil))) pa_nil)) (pa_cons pe_int pa_nil)))))))))))), ?_⟩
    have fin : ∀ (H3 : Hp) (v : V) (t : Tr) (tl l : Addr) (ts : List V), Box H3 b → Kp b H H3 → TrAt H3 v t → H3 tl = some (.lst ts) → tl ≠ b → ts.length ≤ 20 → H3 l = none → t.h = 0 → t.ok 3 → Q (.ref l) (upd H3 l (.lst [v, .ref tl, .int 4])) := fun H3 v t tl l ts B3 w3 ht h2 nt z hl h0 ok =>
      q l t 0 _ (B3.same (same_new hl)) (w3.trans (Kp.of (same_new hl))) (node_mk B3 ht h2 nt hl (by omega)) h0 ok
    refine ⟨_, rfl, b, 5, rfl, by decide, B, fun kd H1 kd0 kd1 B1 w1 => ?_⟩
    refine ⟨_, rfl, rfl, _, rfl, ite2 (fun _ => ?_) (fun _ => ?_)⟩
    · refine ⟨(by show 1 ≤ sizeLine; decide), fun u hu => ⟨(by show 1 ≤ sizeLine; decide), fun tl htl => ⟨(by show 3 ≤ sizeLine; decide), fun l hl => ?_⟩⟩⟩
      have s1 := same_new (o := .tup [.str "gone"]) hu
      have s2 := same_new (o := .lst [.str "gone"]) htl
      exact fin _ _ .gone tl l _ ((B1.same s1).same s2) ((w1.trans (Kp.of s1)).trans (Kp.of s2)) ⟨u, rfl, s2 _ _ upd_same⟩ upd_same (box_ne (B1.same s1) htl) (by simp) hl rfl trivial
    refine ⟨_, rfl, rfl, _, rfl, ite2 (fun _ => ?_) (fun _ => ?_)⟩
    · refine ⟨_, rfl, _, rfl, b, 4, rfl, by decide, B1, fun m H2 m0 m1 B2 w2 => ⟨_, _, rfl, rfl, b, 1 + m, rfl, by omega, by omega, B2, fun t H3 tl td B3 w3 => ?_⟩⟩
      have tne : t ≠ [] := fun z => by
        rw [z] at tl
        simp at tl
        omega
      refine ⟨_, rfl, S t, _, rfl, int_dig td tne (by omega), by rw [S_len]; omega, (by show 2 ≤ sizeLine; decide), fun p hp => ⟨(by show 2 ≤ sizeLine; decide), fun u hu => ⟨_, rfl, (by show 1 ≤ sizeLine; decide), fun tl htl => ⟨(by show 3 ≤ sizeLine; decide), fun l hl => ?_⟩⟩⟩⟩
      have s1 := same_new (o := .tup [.int ((digitsVal t : Nat) : Int), .int 1]) hp
      have s2 := same_new (o := .tup [.str "num", .ref p]) hu
      have s3 := same_new (o := .lst [.str (S t)]) htl
      exact fin _ _ (.num _ 1) tl l _ (((B3.same s1).same s2).same s3) ((((w1.trans w2).trans w3).trans (Kp.of (s1.trans s2))).trans (Kp.of s3)) ⟨u, p, rfl, s3 _ _ upd_same, (s2.trans s3) _ _ upd_same⟩ upd_same (box_ne ((B3.same s1).same s2) htl) (by simp) hl rfl trivial
    refine ⟨_, rfl, rfl, _, rfl, ite2 (fun _ => ?_) (fun _ => ?_)⟩
    · refine ⟨_, rfl, _, rfl, b, 3, rfl, by decide, B1, fun m H2 m0 m1 B2 w2 => ⟨_, _, rfl, rfl, b, 1 + m, rfl, by omega, by omega, B2, fun t1 H3 tl1 td1 B3 w3 => ?_⟩⟩
      refine ⟨_, rfl, _, rfl, b, 3, rfl, by decide, B3, fun m2 H4 m20 m21 B4 w4 => ⟨_, _, rfl, rfl, b, 1 + m2, rfl, by omega, by omega, B4, fun t2 H5 tl2 td2 B5 w5 => ?_⟩⟩
      have wA := ((w1.trans w2).trans w3).trans (w4.trans w5)
      have da : (t1 ++ t2).all dig = true := by
        rw [List.all_append, td1, td2]
        rfl
      have la : (t1 ++ t2).length ≤ 6 := by
        rw [List.length_append]
        omega
      have na : t1 ++ t2 ≠ [] := fun z => by
        rw [List.append_eq_nil_iff] at z
        rw [z.1] at tl1
        simp at tl1
        omega
      refine ⟨_, rfl, _, rfl, S t1, S t2, rfl, rfl, len_add (by omega) (by omega), ?_⟩
      rw [S_cat]
      refine ⟨S (t1 ++ t2), _, rfl, int_dig da na (by omega), by rw [S_len]; omega, (by show 4 ≤ sizeLine; decide), fun z hz => ?_⟩
      have s1 := same_new (o := .lst [.int 1, .int 10, .int 100, .int 1000]) hz
      obtain ⟨v, hv, ev⟩ := item_by V.int (xs := [1, 10, 100, 1000]) (k := (t2.length : Int)) (by omega) (by show (t2.length : Int) < 4; omega)
      have hvb : 1 ≤ v ∧ v ≤ 1000 := by
        simp only [List.mem_cons, List.not_mem_nil, or_false] at hv
        omega
      refine ⟨_, rfl, S t2, rfl, by rw [S_len]; exact sz100 (by omega), z, _, _, .int v, rfl, rfl, SqL.of upd_same, by rw [S_len]; exact ev, ?_⟩
      have hlt := val_lt da
      have hlt2 : digitsVal (t1 ++ t2) < 10 ^ 6 := Nat.lt_of_lt_of_le hlt (Nat.pow_le_pow_right (by decide) la)
      refine ⟨_, v, rfl, by omega, by rw [Int.natAbs_natCast]; exact Nat.lt_trans hlt2 (by decide), Nat.lt_of_le_of_lt (show v.natAbs ≤ 1000 by omega) (by decide), fun p x y hp L => ⟨(by show 2 ≤ sizeLine; decide), fun u hu => ?_⟩⟩
      have s2 := same_new (o := .tup [.int x, .int y]) hp
      have s3 := same_new (o := .tup [.str "num", .ref p]) hu
      refine ⟨_, rfl, S t1, ".", rfl, rfl, by rw [dot_S]; exact len_add (by omega) (by simp), _, rfl, _, S t2, rfl, rfl, by rw [dot_S, S_cat]; exact len_add (by rw [List.length_append]; simp; omega) (by omega), (by show 1 ≤ sizeLine; decide), fun tl htl => ⟨(by show 3 ≤ sizeLine; decide), fun l hl => ?_⟩⟩
      have B8 := ((B5.same s1).same s2).same s3
      have s4 := same_new (o := .lst [.str (S t1 ++ "." ++ S t2)]) htl
      exact fin _ _ (.num x y) tl l _ (B8.same s4) ((wA.trans (Kp.of ((s1.trans s2).trans s3))).trans (Kp.of s4)) ⟨u, p, rfl, s4 _ _ upd_same, (s3.trans s4) _ _ upd_same⟩ upd_same (box_ne B8 htl) (by simp) hl rfl trivial
    refine ⟨_, rfl, _, rfl, b, 12, rfl, by decide, B1, fun r H2 r0 r1 B2 w2 => ⟨_, rfl, _, rfl, b, 8, rfl, by decide, B2, fun c H3 c0 c1 B3 w3 => ?_⟩⟩
    obtain ⟨r, rfl⟩ := Int.eq_ofNat_of_zero_le r0
    obtain ⟨c, rfl⟩ := Int.eq_ofNat_of_zero_le c0
    refine ⟨_, rfl, _, rfl, (by show 3 ≤ sizeLine; decide), fun u hu => ?_⟩
    have s1 := same_new (o := .tup [.str "cell", .int (r : Int), .int (c : Int)]) hu
    refine ⟨_, rfl, _, rfl, r, c, rfl, by omega, by omega, fun H4 s2 => ⟨(by show 1 ≤ sizeLine; decide), fun tl htl => ⟨(by show 3 ≤ sizeLine; decide), fun l hl => ?_⟩⟩⟩
    have s3 := same_new (o := .lst [.str (S (addr r c))]) htl
    exact fin _ _ (.cell _ _) tl l _ (((B3.same s1).same s2).same s3) ((((w1.trans w2).trans w3).trans (Kp.of (s1.trans s2))).trans (Kp.of s3)) ⟨u, rfl, (s2.trans s3) _ _ upd_same⟩ upd_same (box_ne ((B3.same s1).same s2) htl) (by simp) hl rfl trivial
def AreaAt (H0 H : Hp) (b l : Addr) (a : Ar) : Prop := ∃ (v : V) (tl : Addr) (ts : List V), H l = some (.lst [v, .ref tl]) ∧ H tl = some (.lst ts) ∧ ts.length ≤ 3 ∧ ArAt H v a ∧ H0 l = none ∧ H0 tl = none
theorem none_back {H H' : Hp} {b l : Addr} (w : Kp b H H') (h : H' l = none) (B : Box H' b) : H l = none := by
  cases e : H l with
  | none => rfl
  | some o =>
    have := w _ _ (box_ne B h) e
    rw [h] at this
    cases this
def spArea (K : PySem.W.Frag) : Sp := fun vs H Q _ => ∃ (b : Addr), vs = [.ref b, .int 12, .int 8] ∧ Box H b ∧ ∀ (l : Addr) (a : Ar) (H' : Hp), Box H' b → Kp b H H' → AreaAt H H' b l a → Q (.ref l) H'
theorem okLawArea (T : Txt K mg) : FnOk P w K mg base CX0 3 T.fLawArea T.fdLawArea ["box", "rows", "columns"] (spArea K) := by
  refine T.FLawArea.ok scLawArea (fun vs H Q E h => ?_) (fun cdv A outer s H vs Q E hr h => ?_)
  · obtain ⟨b, rfl, _⟩ := h
    rfl
  · obtain ⟨b, rfl, B, q⟩ := h
    -- slots box=0 rows=1 columns=2 kind=3 word=4 row=5 column=6 other=7 side=8 block=9
    refine ⟨_, (pss_cons (ps_set (i := 3) scLawArea.nd rfl (Or.inl rfl) (pe_call (okLawDraw T) (hr.mono (by decide)) (by rfl) T.gLawDraw T.FLawDraw.kp T.bLawDraw .nil pass0 (pa_cons (pv 0) (pa_cons pe_int pa_nil))))
        (pss_cons (ps_if (pt_cmpR op_eq (pv 3) pe_int (nomark _))
          (pss_one (ps_ret (pe_lst (pa_cons (pe_tup (pa_cons pe_str pa_nil)) (pa_cons (pe_lst (pa_cons pe_str pa_nil)) pa_nil)))))
          pss_nil)
        (pss_cons (ps_if (pt_cmpR op_eq (pv 3) pe_int (nomark _))
          (pss_cons (ps_set (i := 4) scLawArea.nd rfl (Or.inl rfl) (pe_call (okLawWord T) (hr.mono (by decide)) (by rfl) T.gLawWord T.FLawWord.kp T.bLawWord .nil pass0 (pa_cons (pv 0) pa_nil)))
          (pss_one (ps_ret (pe_lst (pa_cons (pe_tup (pa_cons pe_str (pa_cons (pv 4) pa_nil))) (pa_cons (pe_lst (pa_cons (pv 4) pa_nil)) pa_nil))))))
          pss_nil)
        (pss_cons (ps_set (i := 5) scLawArea.nd rfl (Or.inl rfl) (pe_call (okLawDraw T) (hr.mono (by decide)) (by rfl) T.gLawDraw T.FLawDraw.kp T.bLawDraw .nil pass0 (pa_cons (pv 0) (pa_cons (pv 1) pa_nil))))
        (pss_cons (ps_set (i := 6) scLawArea.nd rfl (Or.inl rfl) (pe_call (okLawDraw T) (hr.mono (by decide)) (by rfl) T.gLawDraw T.FLawDraw.kp T.bLawDraw .nil pass0 (pa_cons (pv 0) (pa_cons (pv 2) pa_nil))))
        (pss_cons (ps_if (pt_cmpR op_eq (pv 3) pe_int (nomark _))
          (pss_one (ps_ret (pe_lst (pa_cons (pe_tup (pa_cons pe_str (pa_cons (pv 5) (pa_cons (pv 6) (pa_cons (pv 5) (pa_cons (pv 6) pa_nil)))))) (pa_cons (pe_lst (pa_cons (pe_call (okLawAddress T) (hr.mono (by decide)) (by rfl) T.gLawAddress T.FLawAddress.kp T.bLawAddress .nil pass0 (pa_cons (pv 5) (pa_cons (pv 6) pa_nil))) pa_nil)) pa_nil)))))
          pss_nil)
        (pss_cons (ps_set (i := 7) scLawArea.nd rfl (Or.inl rfl) (pe_call (okLawDraw T) (hr.mono (by decide)) (by rfl) T.gLawDraw T.FLawDraw.kp T.bLawDraw .nil pass0 (pa_cons (pv 0) (pa_cons (pv 1) pa_nil))))
        (pss_cons (ps_set (i := 8) scLawArea.nd rfl (Or.inl rfl) (pe_call (okLawDraw T) (hr.mono (by decide)) (by rfl) T.gLawDraw T.FLawDraw.kp T.bLawDraw .nil pass0 (pa_cons (pv 0) (pa_cons (pv 2) pa_nil))))
        (pss_cons (ps_set (i := 9) scLawArea.nd rfl (Or.inl rfl) (pe_tup (pa_cons pe_str (pa_cons (pe_callB (call_min2 rfl) (by rfl) T.z_min (by decide +kernel) (pa_cons (pv 5) (pa_cons (pv 7) pa_nil))) (pa_cons (pe_callB (call_min2 rfl) (by rfl) T.z_min (by decide +kernel) (pa_cons (pv 6) (pa_cons (pv 8) pa_nil))) (pa_cons (pe_callB (call_max2 rfl) (by rfl) T.z_max (by decide +kernel) (pa_cons (pv 5) (pa_cons (pv 7) pa_nil))) (pa_cons (pe_callB (call_max2 rfl) (by rfl) T.z_max (by decide +kernel) (pa_cons (pv 6) (pa_cons (pv 8) pa_nil))) pa_nil)))))))
        (pss_one (ps_ret (pe_lst (pa_cons (pv 9) (pa_cons (pe_lst (pa_cons (pe_call (okLawAddress T) (hr.mono (by decide)) (by rfl) T.gLawAddress T.FLawAddress.kp T.bLawAddress .nil pass0 (pa_cons (pv 5) (pa_cons (pv 6) pa_nil))) (pa_cons pe_str (pa_cons (pe_call (okLawAddress T) (hr.mono (by decide)) (by rfl) T.gLawAddress T.FLawAddress.kp T.bLawAddress .nil pass0 (pa_cons (pv 7) (pa_cons (pv 8) pa_nil))) pa_nil)))) pa_nil)))))))))))))), ?_⟩
    have fin : ∀ (H3 : Hp) (v : V) (t : Ar) (tl l : Addr) (ts : List V), Box H3 b → Kp b H H3 → ArAt H3 v t → H3 tl = some (.lst ts) → H tl = none → ts.length ≤ 3 → H3 l = none → Q (.ref l) (upd H3 l (.lst [v, .ref tl])) := fun H3 v t tl l ts B3 w3 ht h2 nt z hl =>
      q l t _ (B3.same (same_new hl)) (w3.trans (Kp.of (same_new hl))) ⟨v, tl, ts, upd_same, (same_new hl) _ _ h2, z, ht.mono (TK.of (same_new hl)), none_back w3 hl B3, nt⟩
    refine ⟨_, rfl, b, 7, rfl, by decide, B, fun kd H1 kd0 kd1 B1 w1 => ?_⟩
    refine ⟨_, rfl, rfl, _, rfl, ite2 (fun _ => ?_) (fun _ => ?_)⟩
    · refine ⟨(by show 1 ≤ sizeLine; decide), fun u hu => ⟨(by show 1 ≤ sizeLine; decide), fun tl htl => ⟨(by show 2 ≤ sizeLine; decide), fun l hl => ?_⟩⟩⟩
      have s1 := same_new (o := .tup [.str "gone"]) hu
      have s2 := same_new (o := .lst [.str "gone"]) htl
      exact fin _ _ .gone tl l _ ((B1.same s1).same s2) ((w1.trans (Kp.of s1)).trans (Kp.of s2)) ⟨u, rfl, s2 _ _ upd_same⟩ upd_same (none_back (w1.trans (Kp.of s1)) htl (B1.same s1)) (by decide) hl
    refine ⟨_, rfl, rfl, _, rfl, ite2 (fun _ => ?_) (fun _ => ?_)⟩
    · refine ⟨_, rfl, b, rfl, B1, fun a H2 al aok B2 w2 => ⟨_, rfl, (by show 2 ≤ sizeLine; decide), fun u hu => ⟨_, rfl, (by show 1 ≤ sizeLine; decide), fun tl htl => ⟨(by show 2 ≤ sizeLine; decide), fun l hl => ?_⟩⟩⟩⟩
      have s1 := same_new (o := .tup [.str "name", .str (S a)]) hu
      have s2 := same_new (o := .lst [.str (S a)]) htl
      exact fin _ _ (.name ⟨S a, aok⟩) tl l _ ((B2.same s1).same s2) (((w1.trans w2).trans (Kp.of s1)).trans (Kp.of s2)) ⟨u, rfl, s2 _ _ upd_same⟩ upd_same (none_back ((w1.trans w2).trans (Kp.of s1)) htl (B2.same s1)) (by simp) hl
    refine ⟨_, rfl, _, rfl, b, 12, rfl, by decide, B1, fun r H2 r0 r1 B2 w2 => ⟨_, rfl, _, rfl, b, 8, rfl, by decide, B2, fun c H3 c0 c1 B3 w3 => ?_⟩⟩
    obtain ⟨r, rfl⟩ := Int.eq_ofNat_of_zero_le r0
    obtain ⟨c, rfl⟩ := Int.eq_ofNat_of_zero_le c0
    have w13 := (w1.trans w2).trans w3
    refine ⟨_, rfl, rfl, _, rfl, ite2 (fun _ => ?_) (fun _ => ?_)⟩
    · refine ⟨_, rfl, _, rfl, _, rfl, _, rfl, (by show 5 ≤ sizeLine; decide), fun u hu => ⟨_, rfl, _, rfl, r, c, rfl, by omega, by omega, fun H4 s2 => ⟨(by show 1 ≤ sizeLine; decide), fun tl htl => ⟨(by show 2 ≤ sizeLine; decide), fun l hl => ?_⟩⟩⟩⟩
      have s1 := same_new (o := .tup [.str "block", .int (r : Int), .int (c : Int), .int (r : Int), .int (c : Int)]) hu
      have s3 := same_new (o := .lst [.str (S (addr r c))]) htl
      exact fin _ _ (.block _ _ _ _) tl l _ (((B3.same s1).same s2).same s3) ((w13.trans (Kp.of (s1.trans s2))).trans (Kp.of s3)) ⟨u, rfl, (s2.trans s3) _ _ upd_same⟩ upd_same (none_back (w13.trans (Kp.of (s1.trans s2))) htl ((B3.same s1).same s2)) (by simp) hl
    refine ⟨_, rfl, _, rfl, b, 12, rfl, by decide, B3, fun o H4 o0 o1 B4 w4 => ⟨_, rfl, _, rfl, b, 8, rfl, by decide, B4, fun e H5 e0 e1 B5 w5 => ?_⟩⟩
    obtain ⟨o, rfl⟩ := Int.eq_ofNat_of_zero_le o0
    obtain ⟨e, rfl⟩ := Int.eq_ofNat_of_zero_le e0
    have w15 := (w13.trans w4).trans w5
    refine ⟨_, rfl, _, rfl, _, _, rfl, _, rfl, _, rfl, _, _, rfl, _, rfl, _, rfl, _, _, rfl, _, rfl, _, rfl, _, _, rfl, (by show 5 ≤ sizeLine; decide), fun u hu => ?_⟩
    have s1 := same_new (o := .tup [.str "block", .int (if (o : Int) < r then o else r), .int (if (e : Int) < c then e else c), .int (if (o : Int) > r then o else r), .int (if (e : Int) > c then e else c)]) hu
    refine ⟨_, rfl, _, rfl, _, rfl, r, c, rfl, by omega, by omega, fun H6 s2 => ⟨_, rfl, _, rfl, o, e, rfl, by omega, by omega, fun H7 s3 => ⟨(by show 3 ≤ sizeLine; decide), fun tl htl => ⟨(by show 2 ≤ sizeLine; decide), fun l hl => ?_⟩⟩⟩⟩
    have s4 := same_new (o := .lst [.str (S (addr r c)), .str ":", .str (S (addr o e))]) htl
    have B8 := ((B5.same s1).same s2).same s3
    exact fin _ _ (.block _ _ _ _) tl l _ (B8.same s4) ((w15.trans (Kp.of ((s1.trans s2).trans s3))).trans (Kp.of s4)) ⟨u, rfl, ((s2.trans s3).trans s4) _ _ upd_same⟩ upd_same (none_back (w15.trans (Kp.of ((s1.trans s2).trans s3))) htl B8) (by simp) hl
theorem pow3_le {d : Nat} (h : d ≤ 6) : 3 ^ d ≤ 729 := Nat.le_trans (Nat.pow_le_pow_right (by decide) h) (by decide)
def spInside (K : PySem.W.Frag) : Sp := fun vs H Q _ => ∃ (b l : Addr) (d : Nat) (t : Tr) (k : Int), vs = [.ref b, .ref l, .int k] ∧ Box H b ∧ d ≤ 6 ∧ NodeAt H b l d t ∧ ∀ (tl : Addr) (ts : List V) (H' : Hp), Box H' b → Kp b H H' → H' tl = some (.lst ts) → ts.length ≤ 20 * 3 ^ d + 2 → tl ≠ b → Q (.ref tl) H'
theorem okLawInside (T : Txt K mg) : FnOk P w K mg base CX0 2 T.fLawInside T.fdLawInside ["box", "node", "least"] (spInside K) := by
  refine T.FLawInside.ok scLawInside (fun vs H Q E h => ?_) (fun cdv A outer s H vs Q E hr h => ?_)
  · obtain ⟨b, l, d, t, k, rfl, _⟩ := h
    rfl
  · obtain ⟨b, l, d, t, k, rfl, B, hd, ⟨v, tl, ts, k2, h1, h2, z, _, n1, n2⟩, q⟩ := h
    -- slots box=0 node=1 least=2
    refine ⟨_, (pss_cons (ps_if (PW.pt (pw_or (pt_cmpR op_lt (pe_ix ix_list (pv 1) pe_int (fun _ _ => rfl)) (pv 2) (nomark _)) (pw_or1 (pt_cmpR op_eq (pe_call (okLawDraw T) (hr.mono (by decide)) (by rfl) T.gLawDraw T.FLawDraw.kp T.bLawDraw .nil pass0 (pa_cons (pv 0) (pa_cons pe_int pa_nil))) pe_int (nomark _)))))
          (pss_one (ps_ret (pe_op op_cat (pe_op op_cat (pe_lst (pa_cons pe_str pa_nil)) (pe_ix ix_list (pv 1) pe_int (fun _ _ => rfl))) (pe_lst (pa_cons pe_str pa_nil)))))
          pss_nil)
        (pss_one (ps_ret (pe_ix ix_list (pv 1) pe_int (fun _ _ => rfl))))), ?_⟩
    have p3 := pow3_le hd
    refine ⟨_, rfl, l, _, _, _, rfl, rfl, SqL.of h1, atI_nat (j := 2) rfl, _, rfl, _, _, rfl, rfl, _, rfl, ite2 (fun _ => ?_) (fun _ => ⟨_, rfl, b, 6, rfl, by decide, B, fun m H1 _ _ B1 w1 => ⟨rfl, _, rfl, ite2 (fun _ => ?_) (fun _ => ?_)⟩⟩)⟩
    · refine ⟨(by show 1 ≤ sizeLine; decide), fun x hx => ?_⟩
      have s1 := same_new (o := .lst [.str "("]) hx
      refine ⟨_, rfl, l, _, _, _, rfl, rfl, SqL.of (s1 _ _ h1), atI_nat (j := 1) rfl, x, tl, _, _, rfl, rfl, upd_same, s1 _ _ h2, sz100 (by show 1 + ts.length ≤ 100000; omega), fun y hy => ⟨(by show 1 ≤ sizeLine; decide), fun w hw => ?_⟩⟩
      have s2 := same_new (o := .lst ([.str "("] ++ ts)) hy
      have s3 := same_new (o := .lst [.str ")"]) hw
      refine ⟨y, w, _, _, rfl, rfl, s3 _ _ upd_same, upd_same, sz100 (by simp; omega), fun r hr => ?_⟩
      have s4 := same_new (o := .lst ([.str "("] ++ ts ++ [.str ")"])) hr
      have B5 := ((B.same s1).same s2).same s3
      exact q r _ _ (B5.same s4) (Kp.of (((s1.trans s2).trans s3).trans s4)) upd_same (by simp; omega) (box_ne B5 hr)
    · have h1' := w1 _ _ n1 h1
      have h2' := w1 _ _ n2 h2
      refine ⟨(by show 1 ≤ sizeLine; decide), fun x hx => ?_⟩
      have s1 := same_new (o := .lst [.str "("]) hx
      refine ⟨_, rfl, l, _, _, _, rfl, rfl, SqL.of (s1 _ _ h1'), atI_nat (j := 1) rfl, x, tl, _, _, rfl, rfl, upd_same, s1 _ _ h2', sz100 (by show 1 + ts.length ≤ 100000; omega), fun y hy => ⟨(by show 1 ≤ sizeLine; decide), fun w hw => ?_⟩⟩
      have s2 := same_new (o := .lst ([.str "("] ++ ts)) hy
      have s3 := same_new (o := .lst [.str ")"]) hw
      refine ⟨y, w, _, _, rfl, rfl, s3 _ _ upd_same, upd_same, sz100 (by simp; omega), fun r hr => ?_⟩
      have s4 := same_new (o := .lst ([.str "("] ++ ts ++ [.str ")"])) hr
      have B5 := ((B1.same s1).same s2).same s3
      exact q r _ _ (B5.same s4) (w1.trans (Kp.of (((s1.trans s2).trans s3).trans s4))) upd_same (by simp; omega) (box_ne B5 hr)
    · have h1' := w1 _ _ n1 h1
      exact ⟨_, rfl, l, _, _, _, rfl, rfl, SqL.of h1', atI_nat (j := 1) rfl, q tl ts H1 B1 w1 (w1 _ _ n2 h2) (by omega) n2⟩
theorem kp_mut {b : Addr} {H H' : Hp} {ad : Addr} {o : HO} (w : Kp b H H') (h : H ad = none) (n : ad ≠ b) : Kp b H (upd H' ad o) := by
  refine ⟨fun c x nc hc => ?_, fun x j hb => ?_⟩
  · rw [upd_ne (ne_of_none hc h)]
    exact w _ _ nc hc
  · obtain ⟨j', hj⟩ := w.d x j hb
    exact ⟨j', by rw [upd_ne n.symm]; exact hj⟩
theorem box_mut {H : Hp} {b ad d0 : Addr} {j : V} {o : HO} (B : Box H b) (hb : H b = some (.lst [.ref d0, j])) (n1 : ad ≠ b) (n2 : ad ≠ d0) : Box (upd H ad o) b := by
  obtain ⟨d, ds, i, h1, h2, h3⟩ := B
  rw [h1] at hb
  have e0 : d = d0 := V.ref.inj (List.cons.inj (HO.lst.inj (Option.some.inj hb))).1
  rw [← e0] at n2
  exact ⟨d, ds, i, by rw [upd_ne n1.symm]; exact h1, by rw [upd_ne n2.symm]; exact h2, h3⟩
theorem Ars.snoc {H : Hp} {vs : List V} {as : List Ar} {v : V} {a : Ar} (h : Ars H vs as) (ha : ArAt H v a) : Ars H (vs ++ [v]) (as ++ [a]) := Ars.app (.cons ha .nil) h
def spCall (K : PySem.W.Frag) : Sp := fun vs H Q _ => ∃ (b : Addr), vs = [.ref b, .int 12, .int 8] ∧ Box H b ∧ ∀ (l : Addr) (t : Tr) (d : Nat) (H' : Hp), Box H' b → Kp b H H' → NodeAt H' b l 0 t → t.h = 0 → t.ok 3 → Q (.ref l) H'
theorem okLawCall (T : Txt K mg) : FnOk P w K mg base CX0 4 T.fLawCall T.fdLawCall ["box", "rows", "columns"] (spCall K) := by
  refine T.FLawCall.ok scLawCall (fun vs H Q E h => ?_) (fun cdv A outer s H vs Q E hr h => ?_)
  · obtain ⟨b, rfl, _⟩ := h
    rfl
  · obtain ⟨b, rfl, B, q⟩ := h
    -- slots box=0 rows=1 columns=2 name=3 areas=4 texts=5 k=6 area=7
    refine ⟨_, (pss_cons (ps_set (i := 3) scLawCall.nd rfl (Or.inl rfl) (pe_ix ix_list (pe_lst (pa_cons pe_str (pa_cons pe_str (pa_cons pe_str (pa_cons pe_str pa_nil))))) (pe_call (okLawDraw T) (hr.mono (by decide)) (by rfl) T.gLawDraw T.FLawDraw.kp T.bLawDraw .nil pass0 (pa_cons (pv 0) (pa_cons pe_int pa_nil))) (fun _ _ => rfl)))
        (pss_cons (ps_set (i := 4) scLawCall.nd rfl (Or.inl rfl) (pe_lst pa_nil))
        (pss_cons (ps_set (i := 5) scLawCall.nd rfl (Or.inl rfl) (pe_lst (pa_cons (pv 3) (pa_cons pe_str pa_nil))))
        (pss_cons (ps_for PassesOwn.never rfl (pi_range1 rfl T.z_range (pa_cons (pe_op op_add pe_int (pe_call (okLawDraw T) (hr.mono (by decide)) (by rfl) T.gLawDraw T.FLawDraw.kp T.bLawDraw .nil pass0 (pa_cons (pv 0) (pa_cons pe_int pa_nil)))) pa_nil)) (pg_name (i := 6) scLawCall.nd rfl (Or.inl rfl))
          (pss_cons (ps_set (i := 7) scLawCall.nd rfl (Or.inl rfl) (pe_call (okLawArea T) (hr.mono (by decide)) (by rfl) T.gLawArea T.FLawArea.kp T.bLawArea .nil pass0 (pa_cons (pv 0) (pa_cons (pv 1) (pa_cons (pv 2) pa_nil)))))
          (C8.pss_cut (ps_if (pt_cmpR op_gt (pv 6) pe_int (nomark _))
            (pss_one (ps_set (i := 5) scLawCall.nd rfl (Or.inl rfl) (pe_op op_cat (pv 5) (pe_lst (pa_cons pe_str pa_nil)))))
            pss_nil)
          (pss_cons (ps_expr (pe_bm PySem.F.plainAttrs_list PySem.F.slot_list_append PySem.F.type_list_append mt_append (pv 4) (pa_cons (pe_ix ix_list (pv 7) pe_int (fun _ _ => rfl)) pa_nil)))
          (pss_one (ps_set (i := 5) scLawCall.nd rfl (Or.inl rfl) (pe_op op_cat (pv 5) (pe_ix ix_list (pv 7) pe_int (fun _ _ => rfl)))))))))
        (pss_one (ps_ret (pe_lst (pa_cons (pe_tup (pa_cons pe_str (pa_cons (pv 3) (pa_cons (pe_callTy call_tuple_of (by rfl) T.z_tuple (by decide +kernel) (pa_cons (pv 4) pa_nil)) pa_nil)))) (pa_cons (pe_op op_cat (pv 5) (pe_lst (pa_cons pe_str pa_nil))) (pa_cons pe_int pa_nil)))))))))), ?_⟩
    refine ⟨(by show 4 ≤ sizeLine; decide), fun z hz => ?_⟩
    have sz := same_new (o := .lst [.str "sum", .str "count", .str "min", .str "max"]) hz
    have Bz := B.same sz
    refine ⟨_, rfl, b, 4, rfl, by decide, Bz, fun m H1 m0 m1 B1 w1 => ?_⟩
    obtain ⟨nm, _, ev⟩ := item_by V.str (xs := ["sum", "count", "min", "max"]) m0 (by show m < 4; exact m1)
    refine ⟨z, _, _, _, rfl, rfl, SqL.of (w1 _ _ (box_ne B hz) upd_same), ev, ?_⟩
    have wz := (Kp.of (b := b) sz).trans w1
    refine ⟨Nat.zero_le _, fun ad had => ?_⟩
    have s2 := same_new (o := .lst []) had
    have B2 := B1.same s2
    have nab := box_ne B1 had
    obtain ⟨d0, ds0, j0, hb0, hd0, _⟩ := id B1
    have nad : ad ≠ d0 := fun y => by
      rw [y, hd0] at had
      cases had
    have h2 : (upd H1 ad (.lst [])) ad = some (.lst []) := upd_same
    have hb2 := s2 _ _ hb0
    have w2 := wz.trans (Kp.of s2)
    have k2 : Kp b H1 (upd H1 ad (.lst [])) := Kp.of s2
    generalize upd H1 ad (.lst []) = H2 at s2 B2 h2 hb2 w2 k2
    refine ⟨_, rfl, (by show 2 ≤ sizeLine; decide), fun tl htl => ?_⟩
    have s3 := same_new (o := .lst [.str nm, .str "("]) htl
    have B3 := B2.same s3
    refine ⟨_, rfl, b, 3, rfl, by decide, B3, fun k H4 k0 k1 B4 w4 => ?_⟩
    have ntb := box_ne B2 htl
    have nta : tl ≠ ad := fun y => by
      rw [y, h2] at htl
      cases htl
    have k4 := (k2.trans (Kp.of s3)).trans w4
    have h4 := w4 _ _ nab (s3 _ _ h2)
    have t4 := w4 _ _ ntb upd_same
    obtain ⟨j4, hb4⟩ := w4.d _ _ (s3 _ _ hb2)
    refine ⟨_, _, rfl, rfl, 1 + k, rfl, by omega, by omega, for_range (lo := 0) (n := (1 + k).toNat) (fun i σ H' => ∃ (c6 c7 : Option V) (xs : List V) (as : List Ar) (tl : Addr) (ts : List V), σ = [some (.ref b), some (.int 12), some (.int 8), some (.str nm), some (.ref ad), some (.ref tl), c6, c7] ∧ Box H' b ∧ Kp b H1 H' ∧ (∃ j, H' b = some (.lst [.ref d0, j])) ∧ H' ad = some (.lst xs) ∧ Ars H' xs as ∧ as.length ≤ i ∧ H' tl = some (.lst ts) ∧ ts.length ≤ 2 + 4 * i ∧ tl ≠ b ∧ tl ≠ ad) ⟨_, _, [], [], tl, _, rfl, B4, k4, ⟨j4, hb4⟩, h4, .nil, Nat.le_refl _, t4, by simp, ntb, nta⟩ ?_ ?_⟩
    · rintro i σ H5 hi ⟨c6, c7, xs, as, tl, ts, rfl, B5, k5, ⟨j5, hb5⟩, h5, ar5, al, t5, tz, ntb, nta⟩
      refine ⟨_, rfl, _, rfl, _, rfl, b, rfl, B5, fun l a H6 B6 w6 ⟨v, el, es, e1, e2, e3, e4, e5, e6⟩ => ?_⟩
      have h6 := w6 _ _ nab h5
      have t6 := w6 _ _ ntb t5
      have k6 := k5.trans w6
      obtain ⟨j6, hb6⟩ := w6.d _ _ hb5
      have ar6 := ar5.mono (TK.kp w6 B5)
      have nla : l ≠ ad := fun y => by
        rw [y, h5] at e5
        cases e5
      have nea : el ≠ ad := fun y => by
        rw [y, h5] at e6
        cases e6
      refine ⟨fun σ H' => ∃ (tl : Addr) (ts : List V), σ = [some (.ref b), some (.int 12), some (.int 8), some (.str nm), some (.ref ad), some (.ref tl), some (.int (0 + (i : Int))), some (.ref l)] ∧ Same H6 H' ∧ H' tl = some (.lst ts) ∧ ts.length ≤ 3 + 4 * i ∧ tl ≠ b ∧ tl ≠ ad, ?_, ?_⟩
      · refine ⟨_, rfl, _, _, rfl, rfl, _, rfl, ite2 (fun _ => ?_) (fun _ => ⟨tl, ts, rfl, Same.refl _, t6, by omega, ntb, nta⟩)⟩
        refine ⟨_, rfl, (by show 1 ≤ sizeLine; decide), fun x hx => ?_⟩
        have s7 := same_new (o := .lst [.str ","]) hx
        refine ⟨tl, x, _, _, rfl, rfl, s7 _ _ t6, upd_same, sz100 (by simp; have : (1 + k).toNat ≤ 3 := (by omega); omega), fun y hy => ?_⟩
        exact ⟨y, _, rfl, s7.trans (same_new hy), upd_same, by simp; omega, box_ne (B6.same s7) hy, fun z => by rw [z, s7 _ _ h6] at hy; cases hy⟩
      rintro σ H7 ⟨tl, ts, rfl, s7, t7, tz, ntb, nta⟩
      have h7 := s7 _ _ h6
      have e17 := s7 _ _ e1
      refine ⟨_, rfl, .inl ⟨rfl, _, SqL.of h7⟩, _, rfl, l, _, _, _, rfl, rfl, SqL.of e17, atI_nat (j := 0) rfl, ad, _, _, rfl, rfl, h7, ?_, ?_⟩
      · rw [ar6.len]
        exact small1000 (by omega)
      have B7 := B6.same s7
      have hb7 := s7 _ _ hb6
      have u2 : (upd H7 ad (.lst (xs ++ [v]))) l = some (.lst [v, .ref el]) := by
        rw [upd_ne nla]
        exact e17
      have u3 : (upd H7 ad (.lst (xs ++ [v]))) el = some (.lst es) := by
        rw [upd_ne nea]
        exact s7 _ _ e2
      have u4 : (upd H7 ad (.lst (xs ++ [v]))) tl = some (.lst ts) := by
        rw [upd_ne nta]
        exact t7
      have B8 := box_mut (o := .lst (xs ++ [v])) B7 hb7 nab nad
      refine ⟨_, rfl, _, rfl, l, _, _, _, rfl, rfl, SqL.of u2, atI_nat (j := 1) rfl, tl, el, _, _, rfl, rfl, u4, u3, sz100 (by have : (1 + k).toNat ≤ 3 := (by omega); omega), fun y hy => ?_⟩
      have s9 := same_new (o := .lst (ts ++ es)) hy
      refine ⟨_, _, xs ++ [v], as ++ [a], y, _, rfl, B8.same s9, (kp_mut (k6.trans (Kp.of s7)) had nab).trans (Kp.of s9), ⟨j6, s9 _ _ (by rw [upd_ne nab.symm]; exact hb7)⟩, s9 _ _ upd_same, ?_, ?_, upd_same, ?_, box_ne B8 hy, ?_⟩
      · exact ((ar6.snoc e4).mono ((TK.of s7).trans (TK.mut h7))).mono (TK.of s9)
      · rw [List.length_append]
        exact Nat.add_le_add_right al 1
      · rw [List.length_append]
        omega
      · exact fun z => by
          rw [z, upd_same] at hy
          cases hy
    · rintro σ H5 ⟨c6, c7, xs, as, tl, ts, rfl, B5, k5, ⟨j5, hb5⟩, h5, ar5, al, t5, tz, ntb, nta⟩
      refine ⟨_, rfl, _, rfl, ad, _, rfl, .inl ⟨SqL.of h5, fun p hp => ⟨(by show 3 ≤ sizeLine; decide), fun u hu => ?_⟩⟩⟩
      have s6 := same_new (o := .tup xs) hp
      have s7 := same_new (o := .tup [.str "call", .str nm, .ref p]) hu
      refine ⟨_, rfl, (by show 1 ≤ sizeLine; decide), fun x hx => ?_⟩
      have s8 := same_new (o := .lst [.str ")"]) hx
      refine ⟨tl, x, _, _, rfl, rfl, ((s6.trans s7).trans s8) _ _ t5, upd_same, sz100 (by simp; have : (1 + k).toNat ≤ 3 := (by omega); omega), fun y hy => ⟨(by show 3 ≤ sizeLine; decide), fun l hl => ?_⟩⟩
      have s9 := same_new (o := .lst (ts ++ [.str ")"])) hy
      have B8 := ((B5.same s6).same s7).same s8
      have s69 := ((s6.trans s7).trans s8).trans s9
      refine q l (.call nm as) 0 _ ((B8.same s9).same (same_new hl)) (((wz.trans k5).trans (Kp.of s69)).trans (Kp.of (same_new hl))) (node_mk (B8.same s9) ⟨u, p, xs, rfl, (s8.trans s9) _ _ upd_same, ((s7.trans s8).trans s9) _ _ upd_same, ar5.mono (TK.of s69)⟩ upd_same (box_ne B8 hy) hl ?_) rfl ?_
      · simp
        have : (1 + k).toNat ≤ 3 := by omega
        omega
      · show as.length ≤ 3
        omega
theorem NodeAt.same {H H' : Hp} {b l : Addr} {d : Nat} {t : Tr} (s : Same H H') (h : NodeAt H b l d t) : NodeAt H' b l d t := by
  obtain ⟨v, tl, ts, k, h1, h2, h3, h4, h5, h6⟩ := h
  exact ⟨v, tl, ts, k, s _ _ h1, s _ _ h2, h3, h4.mono (TK.of s), h5, h6⟩
def spNode (K : PySem.W.Frag) (n : Nat) : Sp := fun vs H Q _ => ∃ (b : Addr) (d : Nat), vs = [.ref b, .int 12, .int 8, .int (d : Int)] ∧ d < n ∧ d ≤ 5 ∧ Box H b ∧ ∀ (l : Addr) (t : Tr) (H' : Hp), Box H' b → Kp b H H' → NodeAt H' b l d t → t.h ≤ d → t.ok 3 → Q (.ref l) H'
theorem okLawNode (T : Txt K mg) : ∀ n : Nat, FnOk P w K mg base CX0 (n + 6) T.fLawNode T.fdLawNode ["box", "rows", "columns", "depth"] (spNode K n)
  | 0 => by
    refine T.FLawNode.ok scLawNode (fun vs H Q E h => ?_) (fun cdv A outer s H vs Q E hr h => ?_)
    · obtain ⟨b, d, rfl, hh, _⟩ := h
      rfl
    · obtain ⟨b, d, rfl, hh, _⟩ := h
      exact absurd hh (Nat.not_lt_zero _)
  | n + 1 => by
    have IH := okLawNode T n
    refine T.FLawNode.ok scLawNode (fun vs H Q E h => ?_) (fun cdv A outer s H vs Q E hr h => ?_)
    · obtain ⟨b, d, rfl, _⟩ := h
      rfl
    · obtain ⟨b, d, rfl, hh, hd, B, q⟩ := h
      -- slots box=0 rows=1 columns=2 depth=3 kind=4 left=5 right=6 sign=7 strength=8 texts=9
      refine ⟨_, (pss_cons (ps_set (i := 4) scLawNode.nd rfl (Or.inl rfl) (pe_call (okLawDraw T) (hr.mono (by omega)) (by rfl) T.gLawDraw T.FLawDraw.kp T.bLawDraw .nil pass0 (pa_cons (pv 0) (pa_cons pe_int pa_nil))))
          (pss_cons (ps_if (PW.pt (pw_or (pt_cmpR op_eq (pv 3) pe_int (nomark _)) (pw_or1 (pt_cmpR op_lt (pv 4) pe_int (nomark _)))))
            (pss_one (ps_ret (pe_call (okLawLeaf T) (hr.mono (by omega)) (by rfl) T.gLawLeaf T.FLawLeaf.kp T.bLawLeaf .nil pass0 (pa_cons (pv 0) (pa_cons (pv 1) (pa_cons (pv 2) pa_nil))))))
            pss_nil)
          (pss_cons (ps_if (pt_cmpR op_eq (pv 4) pe_int (nomark _))
            (pss_one (ps_ret (pe_call (okLawCall T) (hr.mono (by omega)) (by rfl) T.gLawCall T.FLawCall.kp T.bLawCall .nil pass0 (pa_cons (pv 0) (pa_cons (pv 1) (pa_cons (pv 2) pa_nil))))))
            pss_nil)
          (pss_cons (ps_set (i := 5) scLawNode.nd rfl (Or.inl rfl) (pe_call IH (hr.mono (by omega)) (by rfl) T.gLawNode T.FLawNode.kp T.bLawNode .nil pass0 (pa_cons (pv 0) (pa_cons (pv 1) (pa_cons (pv 2) (pa_cons (pe_op op_sub (pv 3) pe_int) pa_nil))))))
          (pss_cons (ps_if (pt_cmpR op_eq (pv 4) pe_int (nomark _))
            (pss_one (ps_ret (pe_lst (pa_cons (pe_tup (pa_cons pe_str (pa_cons (pe_ix ix_list (pv 5) pe_int (fun _ _ => rfl)) pa_nil))) (pa_cons (pe_op op_cat (pe_lst (pa_cons pe_str pa_nil)) (pe_call (okLawInside T) (hr.mono (by omega)) (by rfl) T.gLawInside T.FLawInside.kp T.bLawInside .nil pass0 (pa_cons (pv 0) (pa_cons (pv 5) (pa_cons pe_int pa_nil))))) (pa_cons pe_int pa_nil))))))
            pss_nil)
          (pss_cons (ps_set (i := 6) scLawNode.nd rfl (Or.inl rfl) (pe_call IH (hr.mono (by omega)) (by rfl) T.gLawNode T.FLawNode.kp T.bLawNode .nil pass0 (pa_cons (pv 0) (pa_cons (pv 1) (pa_cons (pv 2) (pa_cons (pe_op op_sub (pv 3) pe_int) pa_nil))))))
          (pss_cons (ps_set (i := 7) scLawNode.nd rfl (Or.inl rfl) (pe_ix ix_str pe_str (pe_call (okLawDraw T) (hr.mono (by omega)) (by rfl) T.gLawDraw T.FLawDraw.kp T.bLawDraw .nil pass0 (pa_cons (pv 0) (pa_cons pe_int pa_nil))) (fun _ _ => rfl)))
          (pss_cons (ps_set (i := 8) scLawNode.nd rfl (Or.inl rfl) pe_int)
          (C8.pss_cut (ps_if (pt_cmpR op_in_sign (pv 7) pe_str rfl)
            (pss_one (ps_set (i := 8) scLawNode.nd rfl (Or.inl rfl) pe_int))
            pss_nil)
          (pss_cons (ps_set (i := 9) scLawNode.nd rfl (Or.inl rfl) (pe_op op_cat (pe_op op_cat (pe_call (okLawInside T) (hr.mono (by omega)) (by rfl) T.gLawInside T.FLawInside.kp T.bLawInside .nil pass0 (pa_cons (pv 0) (pa_cons (pv 5) (pa_cons (pv 8) pa_nil)))) (pe_lst (pa_cons (pv 7) pa_nil))) (pe_call (okLawInside T) (hr.mono (by omega)) (by rfl) T.gLawInside T.FLawInside.kp T.bLawInside .nil pass0 (pa_cons (pv 0) (pa_cons (pv 6) (pa_cons (pe_op op_add (pv 8) pe_int) pa_nil))))))
          (pss_one (ps_ret (pe_lst (pa_cons (pe_tup (pa_cons pe_str (pa_cons (pv 7) (pa_cons (pe_ix ix_list (pv 5) pe_int (fun _ _ => rfl)) (pa_cons (pe_ix ix_list (pv 6) pe_int (fun _ _ => rfl)) pa_nil))))) (pa_cons (pv 9) (pa_cons (pv 8) pa_nil)))))))))))))))), ?_⟩
      refine ⟨_, rfl, b, 7, rfl, by decide, B, fun kd H1 kd0 kd1 B1 w1 => ?_⟩
      refine ⟨_, rfl, rfl, _, rfl, ite2 (fun _ => ?_) (fun c0 => ⟨_, rfl, _, _, rfl, rfl, _, rfl, ite2 (fun _ => ?_) (fun _ => ?_)⟩)⟩
      · exact ⟨_, rfl, _, rfl, _, rfl, b, rfl, B1, fun l t d' H2 B2 w2 N h0 ok => q l t H2 B2 (w1.trans w2) (N.up (d := d')) (by omega) ok⟩
      · exact ⟨_, rfl, _, rfl, _, rfl, b, rfl, B1, fun l t d' H2 B2 w2 N h0 ok => q l t H2 B2 (w1.trans w2) (N.up (d := d')) (by omega) ok⟩
      have hd1 : 1 ≤ d := by
        rcases Nat.eq_zero_or_pos d with z | z
        · exact absurd (decide_eq_true (by rw [z]; rfl)) c0
        · exact z
      obtain ⟨e, rfl⟩ : ∃ e, d = e + 1 := ⟨d - 1, by omega⟩
      have ed : [V.ref b, V.int 12, V.int 8, V.int (((e + 1 : Nat) : Int) - 1)] = [V.ref b, V.int 12, V.int 8, V.int (e : Int)] := by
        rw [show ((e + 1 : Nat) : Int) - 1 = (e : Int) by omega]
      refine ⟨_, rfl, rfl, _, rfl, ite2 (fun _ => ?_) (fun _ => ?_)⟩
      · exact ⟨_, rfl, _, rfl, _, rfl, b, rfl, B1, fun l t d' H2 B2 w2 N h0 ok => q l t H2 B2 (w1.trans w2) (N.up (d := d')) (by omega) ok⟩
      have p3 := pow3_le (d := e) (by omega)
      have p33 : 3 ^ (e + 1) = 3 * 3 ^ e := by rw [Nat.pow_succ, Nat.mul_comm]
      have pp := pow_pos3 e
      refine ⟨_, rfl, _, rfl, _, rfl, _, rfl, _, _, rfl, rfl, b, e, ed, by omega, by omega, B1, fun l1 t1 H2 B2 w2 N1 h1 ok1 => ?_⟩
      refine ⟨_, rfl, rfl, _, rfl, ite2 (fun _ => ?_) (fun _ => ?_)⟩
      · -- a minus
        obtain ⟨v, tl, ts, k, e1, e2, e3, e4, e5, e6⟩ := id N1
        refine ⟨_, rfl, l1, _, _, _, rfl, rfl, SqL.of e1, atI_nat (j := 0) rfl, (by show 2 ≤ sizeLine; decide), fun u hu => ⟨(by show 1 ≤ sizeLine; decide), fun x hx => ?_⟩⟩
        have s3 := same_new (o := .tup [.str "neg", v]) hu
        have s4 := same_new (o := .lst [.str "-"]) hx
        have B4 := (B2.same s3).same s4
        refine ⟨_, rfl, _, rfl, b, l1, e, t1, 4, rfl, B4, by omega, N1.same (s3.trans s4), fun tl5 ts5 H5 B5 w5 h5 z5 n5 => ?_⟩
        refine ⟨x, tl5, _, _, rfl, rfl, w5 _ _ (box_ne (B2.same s3) hx) upd_same, h5, sz100 (by show 1 + ts5.length ≤ 100000; omega), fun y hy => ⟨(by show 3 ≤ sizeLine; decide), fun l hl => ?_⟩⟩
        have s6 := same_new (o := .lst ([.str "-"] ++ ts5)) hy
        have kk := TK.trans (TK.of s4) (TK.trans (TK.kp w5 B4) (TK.of s6))
        refine q l (.neg t1) _ ((B5.same s6).same (same_new hl)) (((((w1.trans w2).trans (Kp.of (s3.trans s4))).trans w5).trans (Kp.of s6)).trans (Kp.of (same_new hl))) (node_mk (B5.same s6) ⟨u, v, rfl, kk _ _ upd_same, e4.mono (TK.trans (TK.of s3) kk)⟩ upd_same (box_ne B5 hy) hl ?_) ?_ ok1
        · rw [List.length_append]
          show 1 + ts5.length ≤ 20 * 3 ^ (e + 1)
          omega
        · show t1.h + 1 ≤ _
          omega
      refine ⟨_, rfl, _, rfl, _, rfl, _, rfl, _, _, rfl, rfl, b, e, ed, by omega, by omega, B2, fun l2 t2 H3 B3 w3 N2 h2 ok2 => ?_⟩
      have N1' := N1.kp w3 B2
      refine ⟨_, rfl, b, 4, rfl, by decide, B3, fun m H4 m0 m1 B4 w4 => ?_⟩
      obtain ⟨c, hm, hc⟩ := at_mem (xs := ("+-*/" : Str).cps.toList) m0 (Int.lt_of_lt_of_le m1 (by decide +kernel))
      refine ⟨_, m, c, rfl, rfl, by decide +kernel, hc, ?_⟩
      refine ⟨fun σ H' => H' = H4 ∧ ∃ (k : Int) (c9 : Option V), σ = [some (.ref b), some (.int 12), some (.int 8), some (.int ((e + 1 : Nat) : Int)), some (.int kd), some (.ref l1), some (.ref l2), some (.str (S [c])), some (.int k), c9], ?_, ?_⟩
      · refine ⟨_, rfl, c, _, rfl, rfl, _, rfl, ite2 (fun _ => ⟨rfl, 2, _, rfl⟩) (fun _ => ⟨rfl, 1, _, rfl⟩)⟩
      rintro σ H5 ⟨rfl, k, c9, rfl⟩
      have N14 := N1'.kp w4 B3
      have N24 := N2.kp w4 B3
      refine ⟨_, rfl, _, rfl, _, rfl, b, l1, e, t1, k, rfl, B4, by omega, N14, fun tl5 ts5 H6 B6 w6 h6 z6 n6 => ?_⟩
      refine ⟨_, rfl, (by show 1 ≤ sizeLine; decide), fun x hx => ?_⟩
      have s7 := same_new (o := .lst [.str (S [c])]) hx
      refine ⟨tl5, x, _, _, rfl, rfl, s7 _ _ h6, upd_same, sz100 (by simp; omega), fun y hy => ?_⟩
      have s8 := same_new (o := .lst (ts5 ++ [.str (S [c])])) hy
      have B8 := (B6.same s7).same s8
      have N18 := (N14.kp w6 B4).same (s7.trans s8)
      have N28 := (N24.kp w6 B4).same (s7.trans s8)
      refine ⟨_, rfl, _, rfl, _, rfl, _, _, rfl, rfl, b, l2, e, t2, k + 1, rfl, B8, by omega, N28, fun tl9 ts9 H9 B9 w9 h9 z9 n9 => ?_⟩
      refine ⟨y, tl9, _, _, rfl, rfl, w9 _ _ (box_ne (B6.same s7) hy) upd_same, h9, sz100 (by simp; omega), fun z hz => ?_⟩
      have sA := same_new (o := .lst ((ts5 ++ [.str (S [c])]) ++ ts9)) hz
      have N1A := (N18.kp w9 B8).same sA
      have N2A := (N28.kp w9 B8).same sA
      have wA := (((((w1.trans w2).trans w3).trans w4).trans w6).trans (Kp.of (s7.trans s8))).trans (w9.trans (Kp.of sA))
      obtain ⟨v1, _, _, _, e1, _, _, e4, _, _⟩ := N1A
      obtain ⟨v2, _, _, _, f1, _, _, f4, _, _⟩ := N2A
      refine ⟨_, rfl, _, rfl, l1, _, _, _, rfl, rfl, SqL.of e1, atI_nat (j := 0) rfl, _, rfl, l2, _, _, _, rfl, rfl, SqL.of f1, atI_nat (j := 0) rfl, (by show 4 ≤ sizeLine; decide), fun u hu => ⟨_, rfl, _, rfl, (by show 3 ≤ sizeLine; decide), fun l hl => ?_⟩⟩
      have sB := same_new (o := .tup [.str "op", .str (S [c]), v1, v2]) hu
      have BA := B9.same sA
      refine q l (.op (S [c]) t1 t2) _ ((BA.same sB).same (same_new hl)) ((wA.trans (Kp.of sB)).trans (Kp.of (same_new hl))) (node_mk (BA.same sB) ⟨u, v1, v2, rfl, upd_same, e4.mono (TK.of sB), f4.mono (TK.of sB)⟩ (sB _ _ upd_same) (box_ne B9 hz) hl ?_) ?_ ⟨ok1, ok2⟩
      · simp
        omega
      · show max t1.h t2.h + 1 ≤ _
        omega
theorem mp_h : ∀ t : Tr, (mp t).h ≤ t.h
  | .gone => Nat.le_refl _
  | .num _ _ => Nat.le_refl _
  | .call _ _ => Nat.le_refl _
  | .cell r c => by
    show (dn r c).h ≤ 0
    unfold dn
    by_cases z : r > 5
    · rw [if_pos z]
      exact Nat.le_refl _
    · rw [if_neg z]
      exact Nat.le_refl _
  | .neg t => Nat.succ_le_succ (mp_h t)
  | .op s l r => by
    have a := mp_h l
    have b := mp_h r
    show max (mp l).h (mp r).h + 1 ≤ max l.h r.h + 1
    omega
theorem flat_len : ∀ as : List Ar, (as.flatMap mr).length ≤ 2 * as.length
  | [] => Nat.le_refl _
  | a :: as => by
    have h1 := mr_len a
    have h2 := flat_len as
    rw [List.flatMap_cons, List.length_append, List.length_cons]
    omega
theorem orGone_len (as : List Ar) : (orGone as).length ≤ as.length + 1 := by
  cases as with
  | nil => exact Nat.le_refl _
  | cons a as => exact Nat.le_succ _
theorem mp_ok : ∀ t : Tr, t.ok 8 → (mp t).ok 100
  | .gone, _ => trivial
  | .num _ _, _ => trivial
  | .call n as, o => by
    have o8 : as.length ≤ 8 := o
    have h1 := orGone_len (as.flatMap mr)
    have h2 := flat_len as
    show (orGone (as.flatMap mr)).length ≤ 100
    omega
  | .cell r c, _ => by
    show (dn r c).ok 100
    unfold dn
    by_cases z : r > 5
    · rw [if_pos z]
      trivial
    · rw [if_neg z]
      trivial
  | .neg t, o => mp_ok t o
  | .op s l r, o => ⟨mp_ok l o.1, mp_ok r o.2⟩
theorem ok_up : ∀ t : Tr, t.ok 3 → t.ok 8
  | .gone, _ => trivial
  | .num _ _, _ => trivial
  | .cell _ _, _ => trivial
  | .call n as, o => Nat.le_trans o (by decide)
  | .neg t, o => ok_up t o
  | .op s l r, o => ⟨ok_up l o.1, ok_up r o.2⟩
def spLaw (K : PySem.W.Frag) : Sp := fun vs H Q _ => ∃ (a : Addr) (ns : List Int), vs = [.ref a] ∧ SqL K H a (ns.map V.int) ∧ ns.length ≤ 63 ∧ ∀ H', Q (.bl true) H'
theorem okLaw (T : Txt K mg) : FnOk P w K mg base CX0 12 T.fLaw T.fdLaw ["script"] (spLaw K) := by
  refine T.FLaw.ok scLaw (fun vs H Q E h => ?_) (fun cdv A outer s H vs Q E hr h => ?_)
  · obtain ⟨a, ns, rfl, _⟩ := h
    rfl
  · obtain ⟨a, ns, rfl, hS, hlen, q⟩ := h
    -- slots script=0 box=1 tree=2 text=3 other=4
    refine ⟨_, (pss_cons (ps_set (i := 1) scLaw.nd rfl (Or.inl rfl) (pe_lst (pa_cons (pe_call (okLawDigits T) (hr.mono (by decide)) (by rfl) T.gLawDigits T.FLawDigits.kp T.bLawDigits .nil pass0 (pa_cons (pv 0) (pa_cons pe_int (pa_cons pe_int pa_nil)))) (pa_cons pe_int pa_nil))))
        (pss_cons (ps_set (i := 2) scLaw.nd rfl (Or.inl rfl) (pe_ix ix_list (pe_call (okLawNode T 5) (hr.mono (by decide)) (by rfl) T.gLawNode T.FLawNode.kp T.bLawNode .nil pass0 (pa_cons (pv 1) (pa_cons pe_int (pa_cons pe_int (pa_cons pe_int pa_nil))))) pe_int (fun _ _ => rfl)))
        (pss_cons (ps_if (pt_not (pt_val (pe_call (okLawSame T 8) (hr.mono (by decide)) (by rfl) T.gLawSame T.FLawSame.kp T.bLawSame .nil pass0 (pa_cons (pe_call (okSize T 5) (hr.mono (by decide)) (by rfl) T.gSize T.FSize.kp T.bSize .nil pass0 (pa_cons (pv 2) pa_nil)) (pa_cons (pe_call (okLawSize T 5) (hr.mono (by decide)) (by rfl) T.gLawSize T.FLawSize.kp T.bLawSize .nil pass0 (pa_cons (pv 2) pa_nil)) pa_nil)))))
          (pss_one (ps_ret pe_bl))
          pss_nil)
        (pss_cons (ps_if (PW.pt (pw_or (pt_not (pt_val (pe_call (okLawSame T 8) (hr.mono (by decide)) (by rfl) T.gLawSame T.FLawSame.kp T.bLawSame .nil pass0 (pa_cons (pe_call (okNamedCells T 5) (hr.mono (by decide)) (by rfl) T.gNamedCells T.FNamedCells.kp T.bNamedCells .nil pass0 (pa_cons (pv 2) pa_nil)) (pa_cons (pe_call (okLawCells T 5) (hr.mono (by decide)) (by rfl) T.gLawCells T.FLawCells.kp T.bLawCells .nil pass0 (pa_cons (pv 2) pa_nil)) pa_nil))))) (pw_or1 (pt_not (pt_val (pe_call (okLawSame T 8) (hr.mono (by decide)) (by rfl) T.gLawSame T.FLawSame.kp T.bLawSame .nil pass0 (pa_cons (pe_call (okAreasOf T 5) (hr.mono (by decide)) (by rfl) T.gAreasOf T.FAreasOf.kp T.bAreasOf .nil pass0 (pa_cons (pv 2) pa_nil)) (pa_cons (pe_call (okLawAreas T 5) (hr.mono (by decide)) (by rfl) T.gLawAreas T.FLawAreas.kp T.bLawAreas .nil pass0 (pa_cons (pv 2) pa_nil)) pa_nil))))))))
          (pss_one (ps_ret pe_bl))
          pss_nil)
        (pss_cons (ps_if (pt_not (pt_val (pe_call (okLawSame T 8) (hr.mono (by decide)) (by rfl) T.gLawSame T.FLawSame.kp T.bLawSame .nil pass0 (pa_cons (pe_call (okMapped T 5) (hr.mono (by decide)) (by rfl) T.gMapped T.FMapped.kp T.bMapped .nil pass0 (pa_cons (pv 2) (pa_cons (pe_glob (v := .ref T.fLawDown) rfl T.gLawDown rfl) (pa_cons (pe_glob (v := .ref T.fLawMore) rfl T.gLawMore rfl) pa_nil)))) (pa_cons (pe_call (okLawMapped T 5) (hr.mono (by decide)) (by rfl) T.gLawMapped T.FLawMapped.kp T.bLawMapped .nil pass0 (pa_cons (pv 2) pa_nil)) pa_nil)))))
          (pss_one (ps_ret pe_bl))
          pss_nil)
        (pss_cons (ps_set (i := 3) scLaw.nd rfl (Or.inl rfl) (pe_ix ix_list (pe_lst (pa_cons pe_str (pa_cons pe_str (pa_cons pe_str (pa_cons pe_str (pa_cons pe_str (pa_cons pe_str (pa_cons pe_str (pa_cons pe_str (pa_cons pe_str (pa_cons pe_str pa_nil))))))))))) (pe_call (okLawDraw T) (hr.mono (by decide)) (by rfl) T.gLawDraw T.FLawDraw.kp T.bLawDraw .nil pass0 (pa_cons (pv 1) (pa_cons pe_int pa_nil))) (fun _ _ => rfl)))
        (pss_cons (ps_for PassesOwn.never rfl (pi_list (pe_lst (pa_cons (pv 3) (pa_cons (pe_call (okLawWord T) (hr.mono (by decide)) (by rfl) T.gLawWord T.FLawWord.kp T.bLawWord .nil pass0 (pa_cons (pv 1) pa_nil)) (pa_cons (pe_op op_add_str (pe_call (okLawWord T) (hr.mono (by decide)) (by rfl) T.gLawWord T.FLawWord.kp T.bLawWord .nil pass0 (pa_cons (pv 1) pa_nil)) (pv 3)) (pa_cons (pe_op op_add_str (pv 3) pe_str) pa_nil)))))) (pg_name (i := 4) scLaw.nd rfl (Or.inl rfl))
          (pss_one (ps_if (pt_not (pt_val (pe_call (okLawSame T 8) (hr.mono (by decide)) (by rfl) T.gLawSame T.FLawSame.kp T.bLawSame .nil pass0 (pa_cons (pe_call (okIsNameWord T) (hr.mono (by decide)) (by rfl) T.gIsNameWord T.FIsNameWord.kp T.bIsNameWord .nil pass0 (pa_cons (pv 4) pa_nil)) (pa_cons (pe_call (okLawIsWord T) (hr.mono (by decide)) (by rfl) T.gLawIsWord T.FLawIsWord.kp T.bLawIsWord .nil pass0 (pa_cons (pv 4) pa_nil)) pa_nil)))))
            (pss_one (ps_ret pe_bl))
            pss_nil)))
        (pss_one (ps_ret pe_bl))))))))), ?_⟩
    refine ⟨_, rfl, a, ns, 0, 63, rfl, by decide, by decide, hS, fun H1 d0 ds s1 hdn hd0 _ => ⟨by show 2 ≤ sizeLine; decide, fun b hb => ?_⟩⟩
    have hb2 : b ≠ d0 := fun z => by
      rw [z, hd0] at hb
      cases hb
    have B0 : Box (upd H1 b (.lst [.ref d0, .int 0])) b := ⟨d0, ds, 0, upd_same, by rw [upd_ne hb2.symm]; exact hd0, hb2⟩
    refine ⟨_, rfl, b, 4, rfl, by decide, by decide, B0, fun l t H2 B2 w2 N h4 ok3 => ?_⟩
    obtain ⟨v, tl, ts, k, e1, e2, e3, ht, e5, e6⟩ := N
    have ok8 := ok_up t ok3
    refine ⟨l, _, _, _, rfl, rfl, SqL.of e1, atI_nat (j := 0) rfl, ?_⟩
    -- size
    refine ⟨_, rfl, v, t, rfl, by omega, ht, _, rfl, v, t, rfl, by omega, ht, _, _, rfl, lk_scal (by trivial) _, _, rfl, iteF ?_⟩
    -- cells and areas
    refine ⟨_, rfl, v, t, rfl, by omega, by decide, ht, fun H3 l3 us3 s3 g3 c3 => ?_⟩
    refine ⟨_, rfl, v, t, rfl, by omega, by decide, ht.mono (TK.of s3), fun H4 l4 us4 s4 g4 c4 => ?_⟩
    have c34 := c3.mono (TK.of s4)
    have z4 := tcells_len (t := t) (n := 4) (by omega)
    refine ⟨_, _, rfl, .inr (.inr ⟨l3, l4, us3, us4, rfl, rfl, s4 _ _ g3, g4, by rw [c34.len, c4.len], by rw [c34.len]; have : (2 : Nat) ^ 4 = 16 := rfl; omega, cls_lk c34 c4⟩), _, rfl, iteF ?_⟩
    have s24 := s3.trans s4
    refine ⟨_, rfl, v, t, rfl, by omega, by decide, ok8, ht.mono (TK.of s24), fun H5 l5 us5 s5 g5 c5 => ?_⟩
    refine ⟨_, rfl, v, t, rfl, by omega, by decide, ok8, ht.mono (TK.of (s24.trans s5)), fun H6 l6 us6 s6 g6 c6 => ?_⟩
    have c56 := c5.mono (TK.of s6)
    have z6 := tareas_len (t := t) (n := 4) (m := 8) (by omega) ok8
    refine ⟨_, _, rfl, .inr (.inr ⟨l5, l6, us5, us6, rfl, rfl, s6 _ _ g5, g6, by rw [c56.len, c6.len], by rw [c56.len]; have : (2 : Nat) ^ 4 = 16 := rfl; omega, ars_lk c56 c6⟩), _, rfl, iteF ?_⟩
    have s26 := (s24.trans s5).trans s6
    -- mapped
    refine ⟨_, rfl, v, t, rfl, by omega, ok8, ht.mono (TK.of s26), fun H7 v7 s7 t7 => ?_⟩
    refine ⟨_, rfl, v, t, rfl, by omega, ok8, ht.mono (TK.of (s26.trans s7)), fun H8 v8 s8 t8 => ?_⟩
    have mh := mp_h t
    refine ⟨_, _, rfl, tr_lk (n := 5) (by omega) (mp_ok t ok8) (t7.mono (TK.of s8)) t8, _, rfl, iteF ?_⟩
    have B8 := B2.same ((s26.trans s7).trans s8)
    -- words
    refine ⟨(by show 10 ≤ sizeLine; decide), fun x hx => ?_⟩
    have B9 := B8.same (same_new (o := .lst [.str "sum", .str "count", .str "min", .str "max", .str "gone", .str "", .str "a", .str "Ab", .str "a1", .str "a b"]) hx)
    refine ⟨_, rfl, b, 10, rfl, by decide, B9, fun m H9 m0 m1 B10 w10 => ?_⟩
    obtain ⟨tx, htx, ev⟩ := item_by V.str (xs := ["sum", "count", "min", "max", "gone", "", "a", "Ab", "a1", "a b"]) m0 (by show m < 10; exact m1)
    have all : ∀ v ∈ (["sum", "count", "min", "max", "gone", "", "a", "Ab", "a1", "a b"] : List Str), v.cps.toList.length ≤ 9 := by decide +kernel
    have zt := all tx htx
    have et := S_self tx
    generalize tx.cps.toList = at_ at zt et
    subst et
    refine ⟨x, _, _, _, rfl, rfl, SqL.of (w10 _ _ (box_ne B8 hx) upd_same), ev, ?_⟩
    refine ⟨_, rfl, _, rfl, b, rfl, B10, fun a1 H11 z1 _ B11 w11 => ⟨_, rfl, b, rfl, B11, fun a2 H12 z2 _ B12 w12 => ?_⟩⟩
    have ee : ("e" : Str) = S [101] := by decide +kernel
    refine ⟨_, rfl, S a2, S at_, rfl, rfl, len_add (by omega) (by omega), _, rfl, S at_, "e", rfl, rfl, by rw [ee]; exact len_add (by omega) (by simp), (by show 4 ≤ sizeLine; decide), fun y hy => ?_⟩
    refine ⟨y, rfl, ⟨_, SqL.of upd_same⟩, for_list (K := K) (a := y) (xs := [.str (S at_), .str (S a1), .str (S a2 ++ S at_), .str (S at_ ++ "e")]) (fun i σ H' => ∃ c4, σ = [some (.ref a), some (.ref b), some v, some (.str (S at_)), c4] ∧ H' y = some (.lst [.str (S at_), .str (S a1), .str (S a2 ++ S at_), .str (S at_ ++ "e")])) ⟨_, rfl, upd_same⟩ (fun i σ H' _ ⟨_, _, h⟩ => SqL.of h) ?_ (fun σ H' _ => q _)⟩
    rintro i o σ H13 ho ⟨c4, rfl, hy13⟩
    obtain ⟨w, rfl, zw⟩ : ∃ w : List Nat, o = .str (S w) ∧ w.length ≤ 1000 := by
      have hm := List.mem_of_getElem? ho
      simp only [List.mem_cons, List.not_mem_nil, or_false] at hm
      rcases hm with rfl | rfl | rfl | rfl
      · exact ⟨_, rfl, by omega⟩
      · exact ⟨_, rfl, by omega⟩
      · exact ⟨a2 ++ at_, by rw [S_cat], by rw [List.length_append]; omega⟩
      · exact ⟨at_ ++ [101], by rw [ee, S_cat], by rw [List.length_append]; simp; omega⟩
    refine ⟨_, rfl, w, rfl, zw, fun b1 H14 s14 hb1 => ⟨_, rfl, w, rfl, zw, fun b2 H15 s15 hb2 => ?_⟩⟩
    have eb : b1 = b2 := by
      rw [Bool.eq_iff_iff]
      exact hb1.trans hb2.symm
    subst eb
    exact ⟨_, _, rfl, lk_scal (by trivial) _, _, rfl, iteF ⟨_, rfl, (s14.trans s15) _ _ hy13⟩⟩
end
set_option maxHeartbeats 0 in
theorem all_mk {l : PySem.W.OpenLaw} {w : World} {K : PySem.W.Frag} {h : Heap} {mg : Str → Option Value} {fa f1 f2 f3 f4 f5 f6 f7 f8 f9 f10 f11 f12 f13 f14 f15 f16 f17 f18 f19 f20 f21 f22 f23 f24 f25 f26 f27 f28 : Addr} {t_SMALL : Nat} {t_LONGEST_WORD : Nat} {t_GONE : Nat} {t_SHORTEST_NAME : Nat} (X : K.In h) (G : h.Ns mainGlobals mg) (hfa : mg "law" = some (.ref fa))
    {od1 an1 od2 an2 od3 an3 od4 an4 od5 an5 od6 an6 od7 an7 od8 an8 od9 an9 od10 an10 od11 an11 od12 an12 od13 an13 od14 an14 od15 an15 od16 an16 od17 an17 od18 an18 od19 an19 od20 an20 od21 an21 od22 an22 od23 an23 od24 an24 od25 an25 od26 an26 od27 an27 od28 an28 : Option Addr} {sl1 sl2 sl3 sl4 sl5 sl6 sl7 sl8 sl9 sl10 sl11 sl12 sl13 sl14 sl15 sl16 sl17 sl18 sl19 sl20 sl21 sl22 sl23 sl24 sl25 sl26 sl27 sl28 : Array (Option Value)} {oc1 kV1 dc1 pm1 cd1 ct1 oc2 kV2 dc2 pm2 cd2 ct2 oc3 kV3 dc3 pm3 cd3 ct3 oc4 kV4 dc4 pm4 cd4 ct4 oc5 kV5 dc5 pm5 cd5 ct5 oc6 kV6 dc6 pm6 cd6 ct6 oc7 kV7 dc7 pm7 cd7 ct7 oc8 kV8 dc8 pm8 cd8 ct8 oc9 kV9 dc9 pm9 cd9 ct9 oc10 kV10 dc10 pm10 cd10 ct10 oc11 kV11 dc11 pm11 cd11 ct11 oc12 kV12 dc12 pm12 cd12 ct12 oc13 kV13 dc13 pm13 cd13 ct13 oc14 kV14 dc14 pm14 cd14 ct14 oc15 kV15 dc15 pm15 cd15 ct15 oc16 kV16 dc16 pm16 cd16 ct16 oc17 kV17 dc17 pm17 cd17 ct17 oc18 kV18 dc18 pm18 cd18 ct18 oc19 kV19 dc19 pm19 cd19 ct19 oc20 kV20 dc20 pm20 cd20 ct20 oc21 kV21 dc21 pm21 cd21 ct21 oc22 kV22 dc22 pm22 cd22 ct22 oc23 kV23 dc23 pm23 cd23 ct23 oc24 kV24 dc24 pm24 cd24 ct24 oc25 kV25 dc25 pm25 cd25 ct25 oc26 kV26 dc26 pm26 cd26 ct26 oc27 kV27 dc27 pm27 cd27 ct27 oc28 kV28 dc28 pm28 cd28 ct28 : Value}
    (a1 : PySem.W.nsIn K mainGlobals "is_name_word" = some (some (.ref f1))) (l1 : K.lookup f1 = some ⟨oc1, od1, .func (PySem.W.fnOf "is_name_word" "is_name_word" (defArgs sIsNameWord) (defBody sIsNameWord) (defScope sIsNameWord) .none kV1 dc1 pm1 an1 cd1 ct1), sl1⟩) (c1 : PySem.W.codeIn K cd1 "is_name_word" = true) (k1 : PySem.W.keepIn K (.ref f1) = true)
    (a2 : PySem.W.nsIn K mainGlobals "size" = some (some (.ref f2))) (l2 : K.lookup f2 = some ⟨oc2, od2, .func (PySem.W.fnOf "size" "size" (defArgs sSize) (defBody sSize) (defScope sSize) .none kV2 dc2 pm2 an2 cd2 ct2), sl2⟩) (c2 : PySem.W.codeIn K cd2 "size" = true) (k2 : PySem.W.keepIn K (.ref f2) = true)
    (a3 : PySem.W.nsIn K mainGlobals "named_cells" = some (some (.ref f3))) (l3 : K.lookup f3 = some ⟨oc3, od3, .func (PySem.W.fnOf "named_cells" "named_cells" (defArgs sNamedCells) (defBody sNamedCells) (defScope sNamedCells) .none kV3 dc3 pm3 an3 cd3 ct3), sl3⟩) (c3 : PySem.W.codeIn K cd3 "named_cells" = true) (k3 : PySem.W.keepIn K (.ref f3) = true)
    (a4 : PySem.W.nsIn K mainGlobals "areas_of" = some (some (.ref f4))) (l4 : K.lookup f4 = some ⟨oc4, od4, .func (PySem.W.fnOf "areas_of" "areas_of" (defArgs sAreasOf) (defBody sAreasOf) (defScope sAreasOf) .none kV4 dc4 pm4 an4 cd4 ct4), sl4⟩) (c4 : PySem.W.codeIn K cd4 "areas_of" = true) (k4 : PySem.W.keepIn K (.ref f4) = true)
    (a5 : PySem.W.nsIn K mainGlobals "_mapped_areas" = some (some (.ref f5))) (l5 : K.lookup f5 = some ⟨oc5, od5, .func (PySem.W.fnOf "_mapped_areas" "_mapped_areas" (defArgs sMappedAreas) (defBody sMappedAreas) (defScope sMappedAreas) .none kV5 dc5 pm5 an5 cd5 ct5), sl5⟩) (c5 : PySem.W.codeIn K cd5 "_mapped_areas" = true) (k5 : PySem.W.keepIn K (.ref f5) = true)
    (a6 : PySem.W.nsIn K mainGlobals "mapped" = some (some (.ref f6))) (l6 : K.lookup f6 = some ⟨oc6, od6, .func (PySem.W.fnOf "mapped" "mapped" (defArgs sMapped) (defBody sMapped) (defScope sMapped) .none kV6 dc6 pm6 an6 cd6 ct6), sl6⟩) (c6 : PySem.W.codeIn K cd6 "mapped" = true) (k6 : PySem.W.keepIn K (.ref f6) = true)
    (a7 : PySem.W.nsIn K mainGlobals "_law_cell" = some (some (.ref f7))) (l7 : K.lookup f7 = some ⟨oc7, od7, .func (PySem.W.fnOf "_law_cell" "_law_cell" (defArgs sLawCell) (defBody sLawCell) (defScope sLawCell) .none kV7 dc7 pm7 an7 cd7 ct7), sl7⟩) (c7 : PySem.W.codeIn K cd7 "_law_cell" = true) (k7 : PySem.W.keepIn K (.ref f7) = true)
    (a8 : PySem.W.nsIn K mainGlobals "_law_digits" = some (some (.ref f8))) (l8 : K.lookup f8 = some ⟨oc8, od8, .func (PySem.W.fnOf "_law_digits" "_law_digits" (defArgs sLawDigits) (defBody sLawDigits) (defScope sLawDigits) .none kV8 dc8 pm8 an8 cd8 ct8), sl8⟩) (c8 : PySem.W.codeIn K cd8 "_law_digits" = true) (k8 : PySem.W.keepIn K (.ref f8) = true)
    (a9 : PySem.W.nsIn K mainGlobals "_law_draw" = some (some (.ref f9))) (l9 : K.lookup f9 = some ⟨oc9, od9, .func (PySem.W.fnOf "_law_draw" "_law_draw" (defArgs sLawDraw) (defBody sLawDraw) (defScope sLawDraw) .none kV9 dc9 pm9 an9 cd9 ct9), sl9⟩) (c9 : PySem.W.codeIn K cd9 "_law_draw" = true) (k9 : PySem.W.keepIn K (.ref f9) = true)
    (a10 : PySem.W.nsIn K mainGlobals "_law_gcd" = some (some (.ref f10))) (l10 : K.lookup f10 = some ⟨oc10, od10, .func (PySem.W.fnOf "_law_gcd" "_law_gcd" (defArgs sLawGcd) (defBody sLawGcd) (defScope sLawGcd) .none kV10 dc10 pm10 an10 cd10 ct10), sl10⟩) (c10 : PySem.W.codeIn K cd10 "_law_gcd" = true) (k10 : PySem.W.keepIn K (.ref f10) = true)
    (a11 : PySem.W.nsIn K mainGlobals "_law_lowest" = some (some (.ref f11))) (l11 : K.lookup f11 = some ⟨oc11, od11, .func (PySem.W.fnOf "_law_lowest" "_law_lowest" (defArgs sLawLowest) (defBody sLawLowest) (defScope sLawLowest) .none kV11 dc11 pm11 an11 cd11 ct11), sl11⟩) (c11 : PySem.W.codeIn K cd11 "_law_lowest" = true) (k11 : PySem.W.keepIn K (.ref f11) = true)
    (a12 : PySem.W.nsIn K mainGlobals "_law_digit_text" = some (some (.ref f12))) (l12 : K.lookup f12 = some ⟨oc12, od12, .func (PySem.W.fnOf "_law_digit_text" "_law_digit_text" (defArgs sLawDigitText) (defBody sLawDigitText) (defScope sLawDigitText) .none kV12 dc12 pm12 an12 cd12 ct12), sl12⟩) (c12 : PySem.W.codeIn K cd12 "_law_digit_text" = true) (k12 : PySem.W.keepIn K (.ref f12) = true)
    (a13 : PySem.W.nsIn K mainGlobals "_law_address" = some (some (.ref f13))) (l13 : K.lookup f13 = some ⟨oc13, od13, .func (PySem.W.fnOf "_law_address" "_law_address" (defArgs sLawAddress) (defBody sLawAddress) (defScope sLawAddress) .none kV13 dc13 pm13 an13 cd13 ct13), sl13⟩) (c13 : PySem.W.codeIn K cd13 "_law_address" = true) (k13 : PySem.W.keepIn K (.ref f13) = true)
    (a14 : PySem.W.nsIn K mainGlobals "_law_word" = some (some (.ref f14))) (l14 : K.lookup f14 = some ⟨oc14, od14, .func (PySem.W.fnOf "_law_word" "_law_word" (defArgs sLawWord) (defBody sLawWord) (defScope sLawWord) .none kV14 dc14 pm14 an14 cd14 ct14), sl14⟩) (c14 : PySem.W.codeIn K cd14 "_law_word" = true) (k14 : PySem.W.keepIn K (.ref f14) = true)
    (a15 : PySem.W.nsIn K mainGlobals "_law_leaf" = some (some (.ref f15))) (l15 : K.lookup f15 = some ⟨oc15, od15, .func (PySem.W.fnOf "_law_leaf" "_law_leaf" (defArgs sLawLeaf) (defBody sLawLeaf) (defScope sLawLeaf) .none kV15 dc15 pm15 an15 cd15 ct15), sl15⟩) (c15 : PySem.W.codeIn K cd15 "_law_leaf" = true) (k15 : PySem.W.keepIn K (.ref f15) = true)
    (a16 : PySem.W.nsIn K mainGlobals "_law_area" = some (some (.ref f16))) (l16 : K.lookup f16 = some ⟨oc16, od16, .func (PySem.W.fnOf "_law_area" "_law_area" (defArgs sLawArea) (defBody sLawArea) (defScope sLawArea) .none kV16 dc16 pm16 an16 cd16 ct16), sl16⟩) (c16 : PySem.W.codeIn K cd16 "_law_area" = true) (k16 : PySem.W.keepIn K (.ref f16) = true)
    (a17 : PySem.W.nsIn K mainGlobals "_law_inside" = some (some (.ref f17))) (l17 : K.lookup f17 = some ⟨oc17, od17, .func (PySem.W.fnOf "_law_inside" "_law_inside" (defArgs sLawInside) (defBody sLawInside) (defScope sLawInside) .none kV17 dc17 pm17 an17 cd17 ct17), sl17⟩) (c17 : PySem.W.codeIn K cd17 "_law_inside" = true) (k17 : PySem.W.keepIn K (.ref f17) = true)
    (a18 : PySem.W.nsIn K mainGlobals "_law_call" = some (some (.ref f18))) (l18 : K.lookup f18 = some ⟨oc18, od18, .func (PySem.W.fnOf "_law_call" "_law_call" (defArgs sLawCall) (defBody sLawCall) (defScope sLawCall) .none kV18 dc18 pm18 an18 cd18 ct18), sl18⟩) (c18 : PySem.W.codeIn K cd18 "_law_call" = true) (k18 : PySem.W.keepIn K (.ref f18) = true)
    (a19 : PySem.W.nsIn K mainGlobals "_law_node" = some (some (.ref f19))) (l19 : K.lookup f19 = some ⟨oc19, od19, .func (PySem.W.fnOf "_law_node" "_law_node" (defArgs sLawNode) (defBody sLawNode) (defScope sLawNode) .none kV19 dc19 pm19 an19 cd19 ct19), sl19⟩) (c19 : PySem.W.codeIn K cd19 "_law_node" = true) (k19 : PySem.W.keepIn K (.ref f19) = true)
    (a20 : PySem.W.nsIn K mainGlobals "_law_same" = some (some (.ref f20))) (l20 : K.lookup f20 = some ⟨oc20, od20, .func (PySem.W.fnOf "_law_same" "_law_same" (defArgs sLawSame) (defBody sLawSame) (defScope sLawSame) .none kV20 dc20 pm20 an20 cd20 ct20), sl20⟩) (c20 : PySem.W.codeIn K cd20 "_law_same" = true) (k20 : PySem.W.keepIn K (.ref f20) = true)
    (a21 : PySem.W.nsIn K mainGlobals "_law_size" = some (some (.ref f21))) (l21 : K.lookup f21 = some ⟨oc21, od21, .func (PySem.W.fnOf "_law_size" "_law_size" (defArgs sLawSize) (defBody sLawSize) (defScope sLawSize) .none kV21 dc21 pm21 an21 cd21 ct21), sl21⟩) (c21 : PySem.W.codeIn K cd21 "_law_size" = true) (k21 : PySem.W.keepIn K (.ref f21) = true)
    (a22 : PySem.W.nsIn K mainGlobals "_law_cells" = some (some (.ref f22))) (l22 : K.lookup f22 = some ⟨oc22, od22, .func (PySem.W.fnOf "_law_cells" "_law_cells" (defArgs sLawCells) (defBody sLawCells) (defScope sLawCells) .none kV22 dc22 pm22 an22 cd22 ct22), sl22⟩) (c22 : PySem.W.codeIn K cd22 "_law_cells" = true) (k22 : PySem.W.keepIn K (.ref f22) = true)
    (a23 : PySem.W.nsIn K mainGlobals "_law_areas" = some (some (.ref f23))) (l23 : K.lookup f23 = some ⟨oc23, od23, .func (PySem.W.fnOf "_law_areas" "_law_areas" (defArgs sLawAreas) (defBody sLawAreas) (defScope sLawAreas) .none kV23 dc23 pm23 an23 cd23 ct23), sl23⟩) (c23 : PySem.W.codeIn K cd23 "_law_areas" = true) (k23 : PySem.W.keepIn K (.ref f23) = true)
    (a24 : PySem.W.nsIn K mainGlobals "_law_down" = some (some (.ref f24))) (l24 : K.lookup f24 = some ⟨oc24, od24, .func (PySem.W.fnOf "_law_down" "_law_down" (defArgs sLawDown) (defBody sLawDown) (defScope sLawDown) .none kV24 dc24 pm24 an24 cd24 ct24), sl24⟩) (c24 : PySem.W.codeIn K cd24 "_law_down" = true) (k24 : PySem.W.keepIn K (.ref f24) = true)
    (a25 : PySem.W.nsIn K mainGlobals "_law_more" = some (some (.ref f25))) (l25 : K.lookup f25 = some ⟨oc25, od25, .func (PySem.W.fnOf "_law_more" "_law_more" (defArgs sLawMore) (defBody sLawMore) (defScope sLawMore) .none kV25 dc25 pm25 an25 cd25 ct25), sl25⟩) (c25 : PySem.W.codeIn K cd25 "_law_more" = true) (k25 : PySem.W.keepIn K (.ref f25) = true)
    (a26 : PySem.W.nsIn K mainGlobals "_law_mapped" = some (some (.ref f26))) (l26 : K.lookup f26 = some ⟨oc26, od26, .func (PySem.W.fnOf "_law_mapped" "_law_mapped" (defArgs sLawMapped) (defBody sLawMapped) (defScope sLawMapped) .none kV26 dc26 pm26 an26 cd26 ct26), sl26⟩) (c26 : PySem.W.codeIn K cd26 "_law_mapped" = true) (k26 : PySem.W.keepIn K (.ref f26) = true)
    (a27 : PySem.W.nsIn K mainGlobals "_law_is_word" = some (some (.ref f27))) (l27 : K.lookup f27 = some ⟨oc27, od27, .func (PySem.W.fnOf "_law_is_word" "_law_is_word" (defArgs sLawIsWord) (defBody sLawIsWord) (defScope sLawIsWord) .none kV27 dc27 pm27 an27 cd27 ct27), sl27⟩) (c27 : PySem.W.codeIn K cd27 "_law_is_word" = true) (k27 : PySem.W.keepIn K (.ref f27) = true)
    (a28 : PySem.W.nsIn K mainGlobals "law" = some (some (.ref f28))) (l28 : K.lookup f28 = some ⟨oc28, od28, .func (PySem.W.fnOf "law" "law" (defArgs sLaw) (defBody sLaw) (defScope sLaw) .none kV28 dc28 pm28 an28 cd28 ct28), sl28⟩) (c28 : PySem.W.codeIn K cd28 "law" = true) (k28 : PySem.W.keepIn K (.ref f28) = true)
    (z_all : PySem.W.nsIn K mainGlobals "all" = some none)
    (z_tuple : PySem.W.nsIn K mainGlobals "tuple" = some none)
    (z_range : PySem.W.nsIn K mainGlobals "range" = some none)
    (z_abs : PySem.W.nsIn K mainGlobals "abs" = some none)
    (z_isinstance : PySem.W.nsIn K mainGlobals "isinstance" = some none)
    (z_bool : PySem.W.nsIn K mainGlobals "bool" = some none)
    (z_str : PySem.W.nsIn K mainGlobals "str" = some none)
    (z_list : PySem.W.nsIn K mainGlobals "list" = some none)
    (z_len : PySem.W.nsIn K mainGlobals "len" = some none)
    (z_min : PySem.W.nsIn K mainGlobals "min" = some none)
    (z_max : PySem.W.nsIn K mainGlobals "max" = some none)
    (z_int : PySem.W.nsIn K mainGlobals "int" = some none)
    (x_SMALL : PySem.W.nsIn K mainGlobals "SMALL" = some (some (.str "abcdefghijklmnopqrstuvwxyz" t_SMALL)))
    (x_LONGEST_WORD : PySem.W.nsIn K mainGlobals "LONGEST_WORD" = some (some (.int 8 t_LONGEST_WORD)))
    (x_GONE : PySem.W.nsIn K mainGlobals "GONE" = some (some (.str "gone" t_GONE)))
    (x_SHORTEST_NAME : PySem.W.nsIn K mainGlobals "SHORTEST_NAME" = some (some (.int 2 t_SHORTEST_NAME)))
    {ap_CALLS : Addr} {n_CALLS : Nat} {sl_CALLS : Array (Option Value)} {t_CALLS_0 t_CALLS_1 t_CALLS_2 t_CALLS_3 : Nat} (x_CALLS : PySem.W.nsIn K mainGlobals "CALLS" = some (some (.ref ap_CALLS))) (y_CALLS : K.lookup ap_CALLS = some ⟨.type "tuple", none, .seq ⟨[.str "sum" t_CALLS_0, .str "count" t_CALLS_1, .str "min" t_CALLS_2, .str "max" t_CALLS_3]⟩ n_CALLS, sl_CALLS⟩)
    : ∃ fd : FuncData, (∀ (s : Shared) (v : Value), BindsTo s fd ⟨[v], []⟩ [("script", v)]) ∧ ∀ base : Heap, K.In base → base.Ns mainGlobals mg → FnOk l.prog w K mg base CX0 12 fa fd ["script"] (spLaw K) := by
  have e := hfa.symm.trans (PySem.W.mg_of X G a28)
  cases e
  have F1 := fun_mk (st := sIsNameWord) l1 c1 k1
  have b1 := F1.binds (ps := ["text"]) fun _ _ _ _ _ _ us hl => match us, hl with | [_], _ => rfl
  have F2 := fun_mk (st := sSize) l2 c2 k2
  have b2 := F2.binds (ps := ["tree"]) fun _ _ _ _ _ _ us hl => match us, hl with | [_], _ => rfl
  have F3 := fun_mk (st := sNamedCells) l3 c3 k3
  have b3 := F3.binds (ps := ["tree"]) fun _ _ _ _ _ _ us hl => match us, hl with | [_], _ => rfl
  have F4 := fun_mk (st := sAreasOf) l4 c4 k4
  have b4 := F4.binds (ps := ["tree"]) fun _ _ _ _ _ _ us hl => match us, hl with | [_], _ => rfl
  have F5 := fun_mk (st := sMappedAreas) l5 c5 k5
  have b5 := F5.binds (ps := ["areas", "area"]) fun _ _ _ _ _ _ us hl => match us, hl with | [_, _], _ => rfl
  have F6 := fun_mk (st := sMapped) l6 c6 k6
  have b6 := F6.binds (ps := ["tree", "cell", "area"]) fun _ _ _ _ _ _ us hl => match us, hl with | [_, _, _], _ => rfl
  have F7 := fun_mk (st := sLawCell) l7 c7 k7
  have b7 := F7.binds (ps := ["script", "k"]) fun _ _ _ _ _ _ us hl => match us, hl with | [_, _], _ => rfl
  have F8 := fun_mk (st := sLawDigits) l8 c8 k8
  have b8 := F8.binds (ps := ["script", "first", "last"]) fun _ _ _ _ _ _ us hl => match us, hl with | [_, _, _], _ => rfl
  have F9 := fun_mk (st := sLawDraw) l9 c9 k9
  have b9 := F9.binds (ps := ["box", "many"]) fun _ _ _ _ _ _ us hl => match us, hl with | [_, _], _ => rfl
  have F10 := fun_mk (st := sLawGcd) l10 c10 k10
  have b10 := F10.binds (ps := ["a", "b"]) fun _ _ _ _ _ _ us hl => match us, hl with | [_, _], _ => rfl
  have F11 := fun_mk (st := sLawLowest) l11 c11 k11
  have b11 := F11.binds (ps := ["n", "d"]) fun _ _ _ _ _ _ us hl => match us, hl with | [_, _], _ => rfl
  have F12 := fun_mk (st := sLawDigitText) l12 c12 k12
  have b12 := F12.binds (ps := ["box", "many"]) fun _ _ _ _ _ _ us hl => match us, hl with | [_, _], _ => rfl
  have F13 := fun_mk (st := sLawAddress) l13 c13 k13
  have b13 := F13.binds (ps := ["row", "column"]) fun _ _ _ _ _ _ us hl => match us, hl with | [_, _], _ => rfl
  have F14 := fun_mk (st := sLawWord) l14 c14 k14
  have b14 := F14.binds (ps := ["box"]) fun _ _ _ _ _ _ us hl => match us, hl with | [_], _ => rfl
  have F15 := fun_mk (st := sLawLeaf) l15 c15 k15
  have b15 := F15.binds (ps := ["box", "rows", "columns"]) fun _ _ _ _ _ _ us hl => match us, hl with | [_, _, _], _ => rfl
  have F16 := fun_mk (st := sLawArea) l16 c16 k16
  have b16 := F16.binds (ps := ["box", "rows", "columns"]) fun _ _ _ _ _ _ us hl => match us, hl with | [_, _, _], _ => rfl
  have F17 := fun_mk (st := sLawInside) l17 c17 k17
  have b17 := F17.binds (ps := ["box", "node", "least"]) fun _ _ _ _ _ _ us hl => match us, hl with | [_, _, _], _ => rfl
  have F18 := fun_mk (st := sLawCall) l18 c18 k18
  have b18 := F18.binds (ps := ["box", "rows", "columns"]) fun _ _ _ _ _ _ us hl => match us, hl with | [_, _, _], _ => rfl
  have F19 := fun_mk (st := sLawNode) l19 c19 k19
  have b19 := F19.binds (ps := ["box", "rows", "columns", "depth"]) fun _ _ _ _ _ _ us hl => match us, hl with | [_, _, _, _], _ => rfl
  have F20 := fun_mk (st := sLawSame) l20 c20 k20
  have b20 := F20.binds (ps := ["actual", "due"]) fun _ _ _ _ _ _ us hl => match us, hl with | [_, _], _ => rfl
  have F21 := fun_mk (st := sLawSize) l21 c21 k21
  have b21 := F21.binds (ps := ["tree"]) fun _ _ _ _ _ _ us hl => match us, hl with | [_], _ => rfl
  have F22 := fun_mk (st := sLawCells) l22 c22 k22
  have b22 := F22.binds (ps := ["tree"]) fun _ _ _ _ _ _ us hl => match us, hl with | [_], _ => rfl
  have F23 := fun_mk (st := sLawAreas) l23 c23 k23
  have b23 := F23.binds (ps := ["tree"]) fun _ _ _ _ _ _ us hl => match us, hl with | [_], _ => rfl
  have F24 := fun_mk (st := sLawDown) l24 c24 k24
  have b24 := F24.binds (ps := ["tree"]) fun _ _ _ _ _ _ us hl => match us, hl with | [_], _ => rfl
  have F25 := fun_mk (st := sLawMore) l25 c25 k25
  have b25 := F25.binds (ps := ["area"]) fun _ _ _ _ _ _ us hl => match us, hl with | [_], _ => rfl
  have F26 := fun_mk (st := sLawMapped) l26 c26 k26
  have b26 := F26.binds (ps := ["tree"]) fun _ _ _ _ _ _ us hl => match us, hl with | [_], _ => rfl
  have F27 := fun_mk (st := sLawIsWord) l27 c27 k27
  have b27 := F27.binds (ps := ["text"]) fun _ _ _ _ _ _ us hl => match us, hl with | [_], _ => rfl
  have F28 := fun_mk (st := sLaw) l28 c28 k28
  have b28 := F28.binds (ps := ["script"]) fun _ _ _ _ _ _ us hl => match us, hl with | [_], _ => rfl
  exact ⟨PySem.W.fnOf "law" "law" (defArgs sLaw) (defBody sLaw) (defScope sLaw) .none kV28 dc28 pm28 an28 cd28 ct28, fun s v => .of_eq rfl, fun base _ _ => okLaw (P := l.prog) (w := w) (base := base) (⟨f1, _, F1, b1, PySem.W.mg_of X G a1, f2, _, F2, b2, PySem.W.mg_of X G a2, f3, _, F3, b3, PySem.W.mg_of X G a3, f4, _, F4, b4, PySem.W.mg_of X G a4, f5, _, F5, b5, PySem.W.mg_of X G a5, f6, _, F6, b6, PySem.W.mg_of X G a6, f7, _, F7, b7, PySem.W.mg_of X G a7, f8, _, F8, b8, PySem.W.mg_of X G a8, f9, _, F9, b9, PySem.W.mg_of X G a9, f10, _, F10, b10, PySem.W.mg_of X G a10, f11, _, F11, b11, PySem.W.mg_of X G a11, f12, _, F12, b12, PySem.W.mg_of X G a12, f13, _, F13, b13, PySem.W.mg_of X G a13, f14, _, F14, b14, PySem.W.mg_of X G a14, f15, _, F15, b15, PySem.W.mg_of X G a15, f16, _, F16, b16, PySem.W.mg_of X G a16, f17, _, F17, b17, PySem.W.mg_of X G a17, f18, _, F18, b18, PySem.W.mg_of X G a18, f19, _, F19, b19, PySem.W.mg_of X G a19, f20, _, F20, b20, PySem.W.mg_of X G a20, f21, _, F21, b21, PySem.W.mg_of X G a21, f22, _, F22, b22, PySem.W.mg_of X G a22, f23, _, F23, b23, PySem.W.mg_of X G a23, f24, _, F24, b24, PySem.W.mg_of X G a24, f25, _, F25, b25, PySem.W.mg_of X G a25, f26, _, F26, b26, PySem.W.mg_of X G a26, f27, _, F27, b27, PySem.W.mg_of X G a27, fa, _, F28, b28, PySem.W.mg_of X G a28, PySem.W.mg_none_of X G z_all, PySem.W.mg_none_of X G z_tuple, PySem.W.mg_none_of X G z_range, PySem.W.mg_none_of X G z_abs, PySem.W.mg_none_of X G z_isinstance, PySem.W.mg_none_of X G z_bool, PySem.W.mg_none_of X G z_str, PySem.W.mg_none_of X G z_list, PySem.W.mg_none_of X G z_len, PySem.W.mg_none_of X G z_min, PySem.W.mg_none_of X G z_max, PySem.W.mg_none_of X G z_int, t_SMALL, PySem.W.mg_of X G x_SMALL, t_LONGEST_WORD, PySem.W.mg_of X G x_LONGEST_WORD, t_GONE, PySem.W.mg_of X G x_GONE, t_SHORTEST_NAME, PySem.W.mg_of X G x_SHORTEST_NAME, ap_CALLS, PySem.W.mg_of X G x_CALLS, fun H => .inr ⟨_, _, _, y_CALLS, rfl, rfl, (by show 4 ≤ sizeLine; decide), (.cons ⟨_, rfl⟩ (.cons ⟨_, rfl⟩ (.cons ⟨_, rfl⟩ (.cons ⟨_, rfl⟩ .nil))))⟩, ⟨_, y_CALLS, rfl, rfl⟩⟩ : Txt K mg)⟩
theorem walk {l : PySem.W.OpenLaw} {q : Program} {loose : List Str} {XP : (Str → Option Value) → Heap → Prop} {YP : World → Heap → Prop} {d : DefRec} {K : Params → PySem.W.Frag} (hn : l.most = some 63) (hdf : d.params.defaults = [])
    (hY : ∀ (w : World) (h : Heap), YP w h → (K w.params).In h)
    (F : ∀ (w : World) (mg : Str → Option Value) (fa : Addr) (h : Heap), (K w.params).In h → h.Ns mainGlobals mg → mg d.name = some (.ref fa) →
      ∃ fd : FuncData, (∀ (s : Shared) (u : Value), BindsTo s fd ⟨[u], []⟩ [("script", u)]) ∧ ∀ base : Heap, (K w.params).In base → base.Ns mainGlobals mg → FnOk l.prog w (K w.params) mg base CX0 12 fa fd ["script"] (spLaw (K w.params))) :
    PySem.W.WalkO q loose XP YP l.row.toRowW d [] (fun f vs => PySem.call f vs) :=
  L2.walk_of (n := 63) (k := 12) (x := "script") (CX := fun _ => CX0) (sp := fun w => spLaw (K w.params)) hn (by decide) hdf ⟨rfl, by decide, by decide⟩ hY F (fun _ _ a ns hl _ hS => ⟨a, ns, rfl, hS, hl, fun _ => rfl⟩) fun _ _ _ _ _ z => z
end My
open PySem PySem.W PyProof.Rows
set_option maxRecDepth 100000 in
set_option maxHeartbeats 0 in
theorem PySem.Challenge.cw_tablemates_k08_trees_holds : PySem.Challenge.rw_tablemates_k08_trees.Holds := by
  w_on; o_law; k_head; (case hw => w_witness2)
  k_fill
  refine My.walk (l := PySem.Challenge.rw_tablemates_k08_trees) rfl rfl (fun w h Y => PySem.W.kIn_of Y) ?F
  case F =>
    intro w mg fa h KX G hmg
    refine' My.all_mk KX G hmg ?a1 ?l1 ?c1 ?k1 ?a2 ?l2 ?c2 ?k2 ?a3 ?l3 ?c3 ?k3 ?a4 ?l4 ?c4 ?k4 ?a5 ?l5 ?c5 ?k5 ?a6 ?l6 ?c6 ?k6 ?a7 ?l7 ?c7 ?k7 ?a8 ?l8 ?c8 ?k8 ?a9 ?l9 ?c9 ?k9 ?a10 ?l10 ?c10 ?k10 ?a11 ?l11 ?c11 ?k11 ?a12 ?l12 ?c12 ?k12 ?a13 ?l13 ?c13 ?k13 ?a14 ?l14 ?c14 ?k14 ?a15 ?l15 ?c15 ?k15 ?a16 ?l16 ?c16 ?k16 ?a17 ?l17 ?c17 ?k17 ?a18 ?l18 ?c18 ?k18 ?a19 ?l19 ?c19 ?k19 ?a20 ?l20 ?c20 ?k20 ?a21 ?l21 ?c21 ?k21 ?a22 ?l22 ?c22 ?k22 ?a23 ?l23 ?c23 ?k23 ?a24 ?l24 ?c24 ?k24 ?a25 ?l25 ?c25 ?k25 ?a26 ?l26 ?c26 ?k26 ?a27 ?l27 ?c27 ?k27 ?a28 ?l28 ?c28 ?k28 ?z_all ?z_tuple ?z_range ?z_abs ?z_isinstance ?z_bool ?z_str ?z_list ?z_len ?z_min ?z_max ?z_int ?x_SMALL ?x_LONGEST_WORD ?x_GONE ?x_SHORTEST_NAME ?x_CALLS ?y_CALLS
    (case a1 => k_is); (case l1 => k_is); (case c1 => k_is); (case k1 => k_is); (case a2 => k_is); (case l2 => k_is); (case c2 => k_is); (case k2 => k_is); (case a3 => k_is); (case l3 => k_is); (case c3 => k_is); (case k3 => k_is); (case a4 => k_is); (case l4 => k_is); (case c4 => k_is); (case k4 => k_is); (case a5 => k_is); (case l5 => k_is); (case c5 => k_is); (case k5 => k_is); (case a6 => k_is); (case l6 => k_is); (case c6 => k_is); (case k6 => k_is); (case a7 => k_is); (case l7 => k_is); (case c7 => k_is); (case k7 => k_is); (case a8 => k_is); (case l8 => k_is); (case c8 => k_is); (case k8 => k_is); (case a9 => k_is); (case l9 => k_is); (case c9 => k_is); (case k9 => k_is); (case a10 => k_is); (case l10 => k_is); (case c10 => k_is); (case k10 => k_is); (case a11 => k_is); (case l11 => k_is); (case c11 => k_is); (case k11 => k_is); (case a12 => k_is); (case l12 => k_is); (case c12 => k_is); (case k12 => k_is); (case a13 => k_is); (case l13 => k_is); (case c13 => k_is); (case k13 => k_is); (case a14 => k_is); (case l14 => k_is); (case c14 => k_is); (case k14 => k_is); (case a15 => k_is); (case l15 => k_is); (case c15 => k_is); (case k15 => k_is); (case a16 => k_is); (case l16 => k_is); (case c16 => k_is); (case k16 => k_is); (case a17 => k_is); (case l17 => k_is); (case c17 => k_is); (case k17 => k_is); (case a18 => k_is); (case l18 => k_is); (case c18 => k_is); (case k18 => k_is); (case a19 => k_is); (case l19 => k_is); (case c19 => k_is); (case k19 => k_is); (case a20 => k_is); (case l20 => k_is); (case c20 => k_is); (case k20 => k_is); (case a21 => k_is); (case l21 => k_is); (case c21 => k_is); (case k21 => k_is); (case a22 => k_is); (case l22 => k_is); (case c22 => k_is); (case k22 => k_is); (case a23 => k_is); (case l23 => k_is); (case c23 => k_is); (case k23 => k_is); (case a24 => k_is); (case l24 => k_is); (case c24 => k_is); (case k24 => k_is); (case a25 => k_is); (case l25 => k_is); (case c25 => k_is); (case k25 => k_is); (case a26 => k_is); (case l26 => k_is); (case c26 => k_is); (case k26 => k_is); (case a27 => k_is); (case l27 => k_is); (case c27 => k_is); (case k27 => k_is); (case a28 => k_is); (case l28 => k_is); (case c28 => k_is); (case k28 => k_is); (case z_all => k_is); (case z_tuple => k_is); (case z_range => k_is); (case z_abs => k_is); (case z_isinstance => k_is); (case z_bool => k_is); (case z_str => k_is); (case z_list => k_is); (case z_len => k_is); (case z_min => k_is); (case z_max => k_is); (case z_int => k_is); (case x_SMALL => k_is); (case x_LONGEST_WORD => k_is); (case x_GONE => k_is); (case x_SHORTEST_NAME => k_is); (case x_CALLS => k_is); (case y_CALLS => k_is)

import PyProof.Rows.All
import Wide.All
import OpenK.AllK
import Wide.FinOn
import HandS.ForMost
import HandS.Zip
import HandS.Walk
import HandS.Gcd
import HandS.Wide
import HandS.IsInst
import HandS.Codes
import HandS.StrMore
import HandS.WordsExc
import KE.IntTextText
import PySem.Challenge.RW_tablemates_k06_tokens_are_told
set_option Elab.async false
set_option linter.all false
set_option maxRecDepth 100000
namespace My
open PySem PySem.Spec PyProof.Rows L2 RZ
def topS (i : Nat) : Stmt := PySem.Challenge.pw_tablemates_k06_tokens_are_told.main.body.getD i (.Pass ⟨0, 0, 0, 0⟩)
abbrev sFraction : Stmt := topS 2
abbrev sIsDigits : Stmt := topS 8
abbrev sReadDecimal : Stmt := topS 9
abbrev sRunEnd : Stmt := topS 15
abbrev sReadAddress : Stmt := topS 16
abbrev sTokenEnd : Stmt := topS 17
abbrev sKind : Stmt := topS 18
abbrev sTokenList : Stmt := topS 19
abbrev sTokens : Stmt := topS 20
abbrev sLawCell : Stmt := topS 22
abbrev sLawDigits : Stmt := topS 23
abbrev sLawDraw : Stmt := topS 24
abbrev sLawSame : Stmt := topS 25
abbrev sLawDigitText : Stmt := topS 26
abbrev sLawLetters : Stmt := topS 27
abbrev sLawNumber : Stmt := topS 28
abbrev sLawPlace : Stmt := topS 29
abbrev sLawToken : Stmt := topS 30
abbrev sLawKindOf : Stmt := topS 31
abbrev sLawRunTogether : Stmt := topS 32
abbrev sLaw : Stmt := topS 33
theorem scFraction : FnScope ["n", "d", "common"] ["n", "d"] (defScope sFraction) := ⟨rfl, rfl, rfl, by decide +kernel, rfl, by decide +kernel, by decide +kernel⟩
theorem scIsDigits : FnScope ["text", "character"] ["text"] (defScope sIsDigits) := ⟨rfl, rfl, rfl, by decide +kernel, rfl, by decide +kernel, by decide +kernel⟩
theorem scReadDecimal : FnScope ["text", "whole", "point", "rest"] ["text"] (defScope sReadDecimal) := ⟨rfl, rfl, rfl, by decide +kernel, rfl, by decide +kernel, by decide +kernel⟩
theorem scRunEnd : FnScope ["text", "at", "characters"] ["text", "at", "characters"] (defScope sRunEnd) := ⟨rfl, rfl, rfl, by decide +kernel, rfl, by decide +kernel, by decide +kernel⟩
theorem scReadAddress : FnScope ["text", "middle", "letters", "digits", "column", "letter"] ["text"] (defScope sReadAddress) := ⟨rfl, rfl, rfl, by decide +kernel, rfl, by decide +kernel, by decide +kernel⟩
theorem scTokenEnd : FnScope ["text", "at", "end", "behind"] ["text", "at"] (defScope sTokenEnd) := ⟨rfl, rfl, rfl, by decide +kernel, rfl, by decide +kernel, by decide +kernel⟩
theorem scKind : FnScope ["token", "first"] ["token"] (defScope sKind) := ⟨rfl, rfl, rfl, by decide +kernel, rfl, by decide +kernel, by decide +kernel⟩
theorem scTokenList : FnScope ["text", "found", "at", "end"] ["text"] (defScope sTokenList) := ⟨rfl, rfl, rfl, by decide +kernel, rfl, by decide +kernel, by decide +kernel⟩
theorem scTokens : FnScope ["text"] ["text"] (defScope sTokens) := ⟨rfl, rfl, rfl, by decide +kernel, rfl, by decide +kernel, by decide +kernel⟩
theorem scLawCell : FnScope ["script", "k"] ["script", "k"] (defScope sLawCell) := ⟨rfl, rfl, rfl, by decide +kernel, rfl, by decide +kernel, by decide +kernel⟩
theorem scLawDigits : FnScope ["script", "first", "last", "digits", "k", "cell", "turn", "seed"] ["script", "first", "last"] (defScope sLawDigits) := ⟨rfl, rfl, rfl, by decide +kernel, rfl, by decide +kernel, by decide +kernel⟩
theorem scLawDraw : FnScope ["box", "many", "at"] ["box", "many"] (defScope sLawDraw) := ⟨rfl, rfl, rfl, by decide +kernel, rfl, by decide +kernel, by decide +kernel⟩
theorem scLawSame : FnScope ["actual", "due", "k"] ["actual", "due"] (defScope sLawSame) := ⟨rfl, rfl, rfl, by decide +kernel, rfl, by decide +kernel, by decide +kernel⟩
theorem scLawDigitText : FnScope ["box", "many", "text", "k"] ["box", "many"] (defScope sLawDigitText) := ⟨rfl, rfl, rfl, by decide +kernel, rfl, by decide +kernel, by decide +kernel⟩
theorem scLawLetters : FnScope ["box", "many", "letters", "text", "k"] ["box", "many", "letters"] (defScope sLawLetters) := ⟨rfl, rfl, rfl, by decide +kernel, rfl, by decide +kernel, by decide +kernel⟩
theorem scLawNumber : FnScope ["box", "whole", "text", "more"] ["box"] (defScope sLawNumber) := ⟨rfl, rfl, rfl, by decide +kernel, rfl, by decide +kernel, by decide +kernel⟩
theorem scLawPlace : FnScope ["box", "capitals", "digits", "text"] ["box"] (defScope sLawPlace) := ⟨rfl, rfl, rfl, by decide +kernel, rfl, by decide +kernel, by decide +kernel⟩
theorem scLawToken : FnScope ["box", "kind", "text"] ["box"] (defScope sLawToken) := ⟨rfl, rfl, rfl, by decide +kernel, rfl, by decide +kernel, by decide +kernel⟩
theorem scLawKindOf : FnScope ["char"] ["char"] (defScope sLawKindOf) := ⟨rfl, rfl, rfl, by decide +kernel, rfl, by decide +kernel, by decide +kernel⟩
theorem scLawRunTogether : FnScope ["one", "two", "last", "first"] ["one", "two"] (defScope sLawRunTogether) := ⟨rfl, rfl, rfl, by decide +kernel, rfl, by decide +kernel, by decide +kernel⟩
theorem scLaw : FnScope ["script", "box", "due", "text", "k", "token", "spaces"] ["script"] (defScope sLaw) := ⟨rfl, rfl, rfl, by decide +kernel, rfl, by decide +kernel, by decide +kernel⟩
set_option maxHeartbeats 0 in
structure Txt (K : PySem.W.Frag) (mg : Str → Option Value) where
  fFraction : Addr
  fdFraction : FuncData
  FFraction : Fun K "fraction" "fraction" sFraction fFraction fdFraction
  bFraction : Binds K fdFraction ["n", "d"] []
  gFraction : mg "fraction" = some (.ref fFraction)
  fIsDigits : Addr
  fdIsDigits : FuncData
  FIsDigits : Fun K "_is_digits" "_is_digits" sIsDigits fIsDigits fdIsDigits
  bIsDigits : Binds K fdIsDigits ["text"] []
  gIsDigits : mg "_is_digits" = some (.ref fIsDigits)
  fReadDecimal : Addr
  fdReadDecimal : FuncData
  FReadDecimal : Fun K "read_decimal" "read_decimal" sReadDecimal fReadDecimal fdReadDecimal
  bReadDecimal : Binds K fdReadDecimal ["text"] []
  gReadDecimal : mg "read_decimal" = some (.ref fReadDecimal)
  fRunEnd : Addr
  fdRunEnd : FuncData
  FRunEnd : Fun K "_run_end" "_run_end" sRunEnd fRunEnd fdRunEnd
  bRunEnd : Binds K fdRunEnd ["text", "at", "characters"] []
  gRunEnd : mg "_run_end" = some (.ref fRunEnd)
  fReadAddress : Addr
  fdReadAddress : FuncData
  FReadAddress : Fun K "read_address" "read_address" sReadAddress fReadAddress fdReadAddress
  bReadAddress : Binds K fdReadAddress ["text"] []
  gReadAddress : mg "read_address" = some (.ref fReadAddress)
  fTokenEnd : Addr
  fdTokenEnd : FuncData
  FTokenEnd : Fun K "_token_end" "_token_end" sTokenEnd fTokenEnd fdTokenEnd
  bTokenEnd : Binds K fdTokenEnd ["text", "at"] []
  gTokenEnd : mg "_token_end" = some (.ref fTokenEnd)
  fKind : Addr
  fdKind : FuncData
  FKind : Fun K "_kind" "_kind" sKind fKind fdKind
  bKind : Binds K fdKind ["token"] []
  gKind : mg "_kind" = some (.ref fKind)
  fTokenList : Addr
  fdTokenList : FuncData
  FTokenList : Fun K "token_list" "token_list" sTokenList fTokenList fdTokenList
  bTokenList : Binds K fdTokenList ["text"] []
  gTokenList : mg "token_list" = some (.ref fTokenList)
  fTokens : Addr
  fdTokens : FuncData
  FTokens : Fun K "tokens" "tokens" sTokens fTokens fdTokens
  bTokens : Binds K fdTokens ["text"] []
  gTokens : mg "tokens" = some (.ref fTokens)
  fLawCell : Addr
  fdLawCell : FuncData
  FLawCell : Fun K "_law_cell" "_law_cell" sLawCell fLawCell fdLawCell
  bLawCell : Binds K fdLawCell ["script", "k"] []
  gLawCell : mg "_law_cell" = some (.ref fLawCell)
  fLawDigits : Addr
  fdLawDigits : FuncData
  FLawDigits : Fun K "_law_digits" "_law_digits" sLawDigits fLawDigits fdLawDigits
  bLawDigits : Binds K fdLawDigits ["script", "first", "last"] []
  gLawDigits : mg "_law_digits" = some (.ref fLawDigits)
  fLawDraw : Addr
  fdLawDraw : FuncData
  FLawDraw : Fun K "_law_draw" "_law_draw" sLawDraw fLawDraw fdLawDraw
  bLawDraw : Binds K fdLawDraw ["box", "many"] []
  gLawDraw : mg "_law_draw" = some (.ref fLawDraw)
  fLawSame : Addr
  fdLawSame : FuncData
  FLawSame : Fun K "_law_same" "_law_same" sLawSame fLawSame fdLawSame
  bLawSame : Binds K fdLawSame ["actual", "due"] []
  gLawSame : mg "_law_same" = some (.ref fLawSame)
  fLawDigitText : Addr
  fdLawDigitText : FuncData
  FLawDigitText : Fun K "_law_digit_text" "_law_digit_text" sLawDigitText fLawDigitText fdLawDigitText
  bLawDigitText : Binds K fdLawDigitText ["box", "many"] []
  gLawDigitText : mg "_law_digit_text" = some (.ref fLawDigitText)
  fLawLetters : Addr
  fdLawLetters : FuncData
  FLawLetters : Fun K "_law_letters" "_law_letters" sLawLetters fLawLetters fdLawLetters
  bLawLetters : Binds K fdLawLetters ["box", "many", "letters"] []
  gLawLetters : mg "_law_letters" = some (.ref fLawLetters)
  fLawNumber : Addr
  fdLawNumber : FuncData
  FLawNumber : Fun K "_law_number" "_law_number" sLawNumber fLawNumber fdLawNumber
  bLawNumber : Binds K fdLawNumber ["box"] []
  gLawNumber : mg "_law_number" = some (.ref fLawNumber)
  fLawPlace : Addr
  fdLawPlace : FuncData
  FLawPlace : Fun K "_law_place" "_law_place" sLawPlace fLawPlace fdLawPlace
  bLawPlace : Binds K fdLawPlace ["box"] []
  gLawPlace : mg "_law_place" = some (.ref fLawPlace)
  fLawToken : Addr
  fdLawToken : FuncData
  FLawToken : Fun K "_law_token" "_law_token" sLawToken fLawToken fdLawToken
  bLawToken : Binds K fdLawToken ["box"] []
  gLawToken : mg "_law_token" = some (.ref fLawToken)
  fLawKindOf : Addr
  fdLawKindOf : FuncData
  FLawKindOf : Fun K "_law_kind_of" "_law_kind_of" sLawKindOf fLawKindOf fdLawKindOf
  bLawKindOf : Binds K fdLawKindOf ["char"] []
  gLawKindOf : mg "_law_kind_of" = some (.ref fLawKindOf)
  fLawRunTogether : Addr
  fdLawRunTogether : FuncData
  FLawRunTogether : Fun K "_law_run_together" "_law_run_together" sLawRunTogether fLawRunTogether fdLawRunTogether
  bLawRunTogether : Binds K fdLawRunTogether ["one", "two"] []
  gLawRunTogether : mg "_law_run_together" = some (.ref fLawRunTogether)
  fLaw : Addr
  fdLaw : FuncData
  FLaw : Fun K "law" "law" sLaw fLaw fdLaw
  bLaw : Binds K fdLaw ["script"] []
  gLaw : mg "law" = some (.ref fLaw)
  z_range : mg "range" = none
  z_isinstance : mg "isinstance" = none
  z_bool : mg "bool" = none
  z_str : mg "str" = none
  z_all : mg "all" = none
  z_int : mg "int" = none
  z_len : mg "len" = none
  z_list : mg "list" = none
  z_tuple : mg "tuple" = none
  g_gcd : mg "gcd" = some (.builtin "math.gcd")
  t_DIGITS : Nat
  g_DIGITS : mg "DIGITS" = some (.str "0123456789" t_DIGITS)
  t_MOST_BEFORE_POINT : Nat
  g_MOST_BEFORE_POINT : mg "MOST_BEFORE_POINT" = some (.int 12 t_MOST_BEFORE_POINT)
  t_MOST_BEHIND_POINT : Nat
  g_MOST_BEHIND_POINT : mg "MOST_BEHIND_POINT" = some (.int 6 t_MOST_BEHIND_POINT)
  t_PARTS : Nat
  g_PARTS : mg "PARTS" = some (.int 1000000 t_PARTS)
  t_CAPITALS : Nat
  g_CAPITALS : mg "CAPITALS" = some (.str "ABCDEFGHIJKLMNOPQRSTUVWXYZ" t_CAPITALS)
  t_SMALL : Nat
  g_SMALL : mg "SMALL" = some (.str "abcdefghijklmnopqrstuvwxyz" t_SMALL)
  t_SIGNS : Nat
  g_SIGNS : mg "SIGNS" = some (.str "+-*/(),:" t_SIGNS)
  t_LONGEST_WORD : Nat
  g_LONGEST_WORD : mg "LONGEST_WORD" = some (.int 8 t_LONGEST_WORD)
section
variable {P : Program} {w : World} {K : PySem.W.Frag} {mg : Str → Option Value} {base : Heap}
/-! ### heaps -/
theorem _root_.L2.Same.tup {K : PySem.W.Frag} {H H' : Hp} {a : Addr} {xs : List V} (e : Same H H') (h : SqT K H a xs) : SqT K H' a xs := by
  rcases h with (h | ⟨o, h⟩) | h
  · exact .inl (.inl (e _ _ h))
  · exact .inl (.inr ⟨o, e _ _ h⟩)
  · exact .inr h
theorem same_new {H : Hp} {p : Addr} {o : HO} (h : H p = none) : Same H (upd H p o) := fun b x e => by
  rw [upd_ne (ne_of_none e h)]
  exact e
theorem same_mut {H H' : Hp} {p : Addr} {o : HO} (e : Same H H') (h : H p = none) : Same H (upd H' p o) := fun b x ha => by
  rw [upd_ne (ne_of_none ha h)]
  exact e b x ha
theorem walk_zipT {K : PySem.W.Frag} {a b : Addr} {xs ys : List V} {n : Nat} (hn : n = min xs.length ys.length) : Walk (ItzT K a b) n (fun H => SqT K H a xs ∧ SqT K H b ys) (YPair (fun i => xs[i]?) (fun i => ys[i]?)) := by
  subst hn
  refine ⟨fun i _ hi q => ?_, fun _ q => ⟨xs, ys, q.1, q.2, by omega⟩, fun i H v H' _ q y => ?_⟩
  · have h1 : i < xs.length := by omega
    have h2 : i < ys.length := by omega
    exact ⟨xs, ys, xs[i], ys[i], q.1, q.2, by simp [h1], by simp [h2]⟩
  · obtain ⟨T, x, z, h1, h2, h3, h4, h5⟩ := y
    exact ⟨T, x, z, h1, h2, h3, h4 xs q.1, h5 ys q.2⟩
/-- a function that hands back a bool or an int and changes nothing -/
theorem getD_at {ns : List Int} {i : Nat} (h : i < ns.length) : (ns.map V.int)[i]? = some (.int (ns.getD i 0)) := by
  rw [List.getElem?_map, List.getElem?_eq_getElem h, List.getD_eq_getElem?_getD, List.getElem?_eq_getElem h]
  rfl
theorem dp_ints {K : PySem.W.Frag} {H : Hp} : ∀ ns : List Int, DpAll K H (ns.map V.int) (ns.map PyData.int)
  | [] => .nil
  | n :: r => .cons (.int n) (dp_ints r)
theorem shaped_tup (ns : List Int) : SeqAt.shaped (.tuple (ns.map PyData.int)) = true := by
  simp [SeqAt.shaped, PyData.canLay0, PyData.depth, PySem.W.ke_canLayAll0, PySem.W.ke_depthAll]
theorem shaped_lst (ns : List Int) : SeqAt.shaped (.list (ns.map PyData.int)) = true := PySem.W.ke_shaped_ints ns
theorem eqv_same {d : PyData} (h : SeqAt.shaped d = true) : PyData.eqv d d = true := by
  refine SeqAt.eqv_refl d ?_
  unfold SeqAt.shaped at h
  exact (Bool.and_eq_true _ _ ▸ h).1
theorem yesT {σ : L2.St} {H : Hp} {A B : Hp → Prop} (h : A H) : tYes σ H (fun b H3 => if b = true then A H3 else B H3) := iteT (A := A H) (B := B H) h
/-! ### texts -/
open SX (S S_len S_cat slice_to slice_from num_S int_S)
open PySem.NumText (digitsVal AllDigits)
open TL (numL)
def cap (c : Nat) : Bool := decide (65 ≤ c ∧ c ≤ 90)
def dig (c : Nat) : Bool := decide (48 ≤ c ∧ c ≤ 57)
theorem dig_mem (c : Nat) : decide (c ∈ ("0123456789" : Str).cps.toList) = dig c := by
  have e : ("0123456789" : Str).cps.toList = [48, 49, 50, 51, 52, 53, 54, 55, 56, 57] := by decide +kernel
  rw [e]
  unfold dig
  refine decide_eq_decide.mpr ?_
  simp only [List.mem_cons, List.not_mem_nil, or_false]
  omega
theorem cap_mem (c : Nat) : decide (c ∈ ("ABCDEFGHIJKLMNOPQRSTUVWXYZ" : Str).cps.toList) = cap c := by
  have e : ("ABCDEFGHIJKLMNOPQRSTUVWXYZ" : Str).cps.toList = [65, 66, 67, 68, 69, 70, 71, 72, 73, 74, 75, 76, 77, 78, 79, 80, 81, 82, 83, 84, 85, 86, 87, 88, 89, 90] := by decide +kernel
  rw [e]
  unfold cap
  refine decide_eq_decide.mpr ?_
  simp only [List.mem_cons, List.not_mem_nil, or_false]
  omega
theorem walk_S {a : List Nat} : Walk (Its (S a)) a.length (fun _ => True) (fun i H v H' => H' = H ∧ ∃ c, a[i]? = some c ∧ v = .str (S [c])) :=
  ⟨fun i _ hi _ => by show i < a.toArray.size; simpa using hi, fun _ _ => by show a.toArray.size ≤ a.length; simp, fun i H v H' _ _ y => by
    obtain ⟨e, c, h1, h2⟩ := y
    exact ⟨e, c, by simpa using h1, h2⟩⟩
theorem tw_len {p : Nat → Bool} : ∀ {a : List Nat} {i c : Nat}, (∀ x ∈ a.take i, p x = true) → a[i]? = some c → p c = false → (a.takeWhile p).length = i
  | [], i, c, _, e, _ => by simp at e
  | x :: r, 0, c, _, e, hc => by
    have e2 := Option.some.inj e
    rw [List.takeWhile_cons, e2, hc]
    rfl
  | x :: r, i + 1, c, h, e, hc => by
    have hx : p x = true := h x (by simp)
    rw [List.takeWhile_cons, hx]
    show ((r.takeWhile p).length + 1) = i + 1
    rw [tw_len (fun y hy => h y (by rw [List.take_succ_cons]; exact List.mem_cons_of_mem _ hy)) (by simpa using e) hc]
theorem tw_all {p : Nat → Bool} {a : List Nat} (h : ∀ x ∈ a, p x = true) : (a.takeWhile p).length = a.length := by
  induction a with
  | nil => rfl
  | cons x r ih =>
    rw [List.takeWhile_cons, h x List.mem_cons_self]
    show (r.takeWhile p).length + 1 = r.length + 1
    rw [ih fun y hy => h y (List.mem_cons_of_mem _ hy)]
theorem tw_self {p : Nat → Bool} : ∀ {a : List Nat}, (∀ x ∈ a, p x = true) → a.takeWhile p = a
  | [], _ => rfl
  | x :: r, h => by rw [List.takeWhile_cons, h x List.mem_cons_self, if_pos rfl, tw_self fun y hy => h y (List.mem_cons_of_mem _ hy)]
theorem tw_le {p : Nat → Bool} (a : List Nat) : (a.takeWhile p).length ≤ a.length := by
  induction a with
  | nil => exact Nat.le_refl _
  | cons x r ih =>
    rw [List.takeWhile_cons]
    split
    · exact Nat.succ_le_succ ih
    · exact Nat.zero_le _
theorem tw_take {p : Nat → Bool} : ∀ (a : List Nat), ∀ x ∈ a.take (a.takeWhile p).length, p x = true
  | [], x, h => by simp at h
  | y :: r, x, h => by
    rw [List.takeWhile_cons] at h
    split at h
    · rename_i hy
      rw [List.length_cons, List.take_succ_cons] at h
      rcases List.mem_cons.mp h with e | e
      · rw [e]
        exact hy
      · exact tw_take r x e
    · simp at h
theorem tw_full {p : Nat → Bool} {a : List Nat} (h : (a.takeWhile p).length = a.length) : ∀ x ∈ a, p x = true := fun x hx => tw_take a x (by rw [h, List.take_length]; exact hx)
theorem tw_congr {p q : Nat → Bool} (h : ∀ c, p c = q c) (a : List Nat) : a.takeWhile p = a.takeWhile q := by
  rw [show p = q from funext h]
theorem in12 (n : Int) : inV (.int n) [.int 1, .int 2] = decide (n = 1 ∨ n = 2) := by
  show ((1 : Int) == n || ((2 : Int) == n || false)) = _
  rw [Bool.eq_iff_iff]
  simp only [Bool.or_false, Bool.or_eq_true, beq_iff_eq, decide_eq_true_eq]
  omega
theorem sz100 {n : Nat} (h : n ≤ 100000) : n ≤ sizeLine := Nat.le_trans h (by decide)
theorem item_by {α : Type} (f : α → V) {xs : List α} {k : Int} (h0 : 0 ≤ k) (h1 : k < xs.length) : ∃ v ∈ xs, atI (xs.map f) k = some (f v) := by
  obtain ⟨j, rfl⟩ := Int.eq_ofNat_of_zero_le h0
  have hj : j < xs.length := by omega
  exact ⟨xs[j], List.getElem_mem hj, atI_nat (by rw [List.getElem?_map, List.getElem?_eq_getElem hj]; rfl)⟩
theorem dig_all {a : List Nat} (h : a.all dig = true) : AllDigits a := fun c hc => of_decide_eq_true (List.all_eq_true.mp h c hc)
theorem int_dig {a : List Nat} (h : a.all dig = true) (hne : a ≠ []) (hl : a.length ≤ 640) : intText? (S a) = some ((digitsVal a : Nat) : Int) := intText_digits (x := S a) (dig_all h) hne (by rw [S_len]; omega)
/-! ### a run of signs -/
def rn (z : Str) (a : List Nat) : Nat := (a.takeWhile fun c => decide (c ∈ z.cps.toList)).length
def spCell (K : PySem.W.Frag) : Sp := fun vs H Q _ => ∃ (a : Addr) (ns : List Int) (k : Int), vs = [.ref a, .int k] ∧ 0 ≤ k ∧ SqL K H a (ns.map V.int) ∧ ∀ v : Int, Q (.int v) H
theorem okLawCell (T : Txt K mg) : FnOk P w K mg base CX0 1 T.fLawCell T.fdLawCell ["script", "k"] (spCell K) := by
  refine T.FLawCell.ok scLawCell (fun vs H Q E h => ?_) (fun cdv A outer s H vs Q E hr h => ?_)
  · obtain ⟨a, ns, k, rfl, _⟩ := h
    rfl
  · obtain ⟨a, ns, k, rfl, h0, hS, q⟩ := h
    obtain ⟨k, rfl⟩ := Int.eq_ofNat_of_zero_le h0
    -- slots script=0 k=1
    refine ⟨_, (pss_cons (ps_if (pt_cmpR op_lt (pv 1) (pe_callB call_len_seq (by rfl) T.z_len PySem.boot_len (pa_cons (pv 0) pa_nil)) (nomark _))
          (pss_one (ps_ret (pe_ix ix_list (pv 0) (pv 1) (fun _ _ => rfl))))
          pss_nil)
        (pss_one (ps_ret pe_int))), ?_⟩
    refine ⟨_, rfl, _, rfl, a, _, rfl, .inl hS, _, _, rfl, rfl, _, rfl, ite2 (fun c => ?_) (fun c => ?_)⟩
    · have hk : k < ns.length := by
        have c2 := of_decide_eq_true c
        rw [List.length_map] at c2
        omega
      exact ⟨_, rfl, _, rfl, a, _, _, _, rfl, rfl, hS, atI_nat (getD_at hk), q _⟩
    · exact q 0
/-! ### numbers that a law draws -/
structure Dig (ds : List Int) (n : Nat) : Prop where
  all : ∀ x ∈ ds, 0 ≤ x ∧ x < 1000
  len : ds.length ≤ n
theorem Dig.nil : Dig [] 0 := ⟨fun _ h => (nomatch h), Nat.le_refl _⟩
theorem Dig.more {ds : List Int} {n m : Nat} (h : Dig ds n) (hm : n ≤ m) : Dig ds m := ⟨h.all, Nat.le_trans h.len hm⟩
theorem Dig.add {ds : List Int} {n : Nat} (h : Dig ds n) (x : Int) : Dig (ds ++ [x % 1000]) (n + 1) := by
  refine ⟨fun y hy => ?_, ?_⟩
  · rcases List.mem_append.mp hy with q | q
    · exact h.all y q
    · obtain rfl : y = x % 1000 := by simpa using q
      omega
  · rw [List.length_append]
    have := h.len
    simp only [List.length_singleton]
    omega
def spDigits (K : PySem.W.Frag) : Sp := fun vs H Q _ => ∃ (a : Addr) (ns : List Int) (lo : Nat) (hi : Nat), vs = [.ref a, .int (lo : Int), .int (hi : Int)] ∧ lo ≤ hi ∧ hi ≤ 1000 ∧ SqL K H a (ns.map V.int) ∧
  ∀ H' d ds, Same H H' → H d = none → H' d = some (.lst (ds.map V.int)) → Dig ds (60 * (hi - lo)) → Q (.ref d) H'
theorem okLawDigits (T : Txt K mg) : FnOk P w K mg base CX0 2 T.fLawDigits T.fdLawDigits ["script", "first", "last"] (spDigits K) := by
  refine T.FLawDigits.ok scLawDigits (fun vs H Q E h => ?_) (fun cdv A outer s H vs Q E hr h => ?_)
  · obtain ⟨a, ns, lo, hi, rfl, _⟩ := h
    rfl
  · obtain ⟨a, ns, lo, hi, rfl, hlh, hh, hS, q⟩ := h
    -- slots script=0 first=1 last=2 digits=3 k=4 cell=5 turn=6 seed=7
    refine ⟨_, (pss_cons (ps_set (i := 3) scLawDigits.nd rfl (Or.inl rfl) (pe_lst pa_nil))
        (pss_cons (ps_for PassesOwn.never rfl (pi_range2 rfl T.z_range (pa_cons (pv 1) (pa_cons (pv 2) pa_nil))) (pg_name (i := 4) scLawDigits.nd rfl (Or.inl rfl))
          (pss_cons (ps_set (i := 5) scLawDigits.nd rfl (Or.inl rfl) (pe_call (okLawCell T) (hr.mono (by decide)) (by rfl) T.gLawCell T.FLawCell.kp T.bLawCell .nil pass0 (pa_cons (pv 0) (pa_cons (pv 4) pa_nil))))
          (pss_cons (ps_if (pt_cmpR op_lt (pv 5) pe_int (nomark _))
            (pss_one (ps_set (i := 5) scLawDigits.nd rfl (Or.inl rfl) (pe_op op_sub pe_int (pe_op op_mul pe_int (pv 5)))))
            pss_nil)
          (pss_one (ps_if (pt_cmpR op_ge (pv 5) (pe_op op_pow pe_int pe_int) (nomark _))
            (pss_one (ps_for PassesOwn.never rfl (pi_range1 rfl T.z_range (pa_cons pe_int pa_nil)) (pg_name (i := 6) scLawDigits.nd rfl (Or.inl rfl))
              (pss_one (ps_if (pt_cmpR op_gt (pv 5) pe_int (nomark _))
                (pss_cons (ps_expr (pe_bm PySem.F.plainAttrs_list PySem.F.slot_list_append PySem.F.type_list_append mt_append (pv 3) (pa_cons (pe_op op_mod (pe_callTy call_int1 (by rfl) T.z_int (by decide +kernel) (pa_cons (pv 5) pa_nil)) pe_int) pa_nil)))
                (pss_one (ps_set (i := 5) scLawDigits.nd rfl (Or.inl rfl) (pe_op op_fdiv (pv 5) pe_int))))
                pss_nil))))
            (pss_cons (ps_set (i := 7) scLawDigits.nd rfl (Or.inl rfl) (pe_op op_mod (pe_callTy call_int1 (by rfl) T.z_int (by decide +kernel) (pa_cons (pe_op op_add (pe_op op_add (pe_op op_mul (pv 5) pe_int) (pe_op op_mul (pv 4) pe_int)) pe_int) pa_nil)) pe_int))
            (pss_one (ps_for PassesOwn.never rfl (pi_range1 rfl T.z_range (pa_cons pe_int pa_nil)) (pg_name (i := 6) scLawDigits.nd rfl (Or.inl rfl))
              (pss_cons (ps_set (i := 7) scLawDigits.nd rfl (Or.inl rfl) (pe_op op_mod (pe_callTy call_int1 (by rfl) T.z_int (by decide +kernel) (pa_cons (pe_op op_add (pe_op op_add (pe_op op_mul (pv 7) pe_int) (pe_op op_mul pe_int (pv 6))) pe_int) pa_nil)) pe_int))
              (pss_one (ps_expr (pe_bm PySem.F.plainAttrs_list PySem.F.slot_list_append PySem.F.type_list_append mt_append (pv 3) (pa_cons (pe_op op_mod (pe_callTy call_int1 (by rfl) T.z_int (by decide +kernel) (pa_cons (pe_op op_fdiv (pv 7) pe_int) pa_nil)) pe_int) pa_nil)))))))))))))
        (pss_one (ps_ret (pv 3))))), ?_⟩
    refine ⟨Nat.zero_le _, fun d hd => ?_⟩
    refine ⟨_, rfl, _, rfl, _, _, rfl, ⟨by omega, by omega, by omega, by omega⟩, ?_⟩
    refine for_range (lo := lo) (n := ((hi : Int) - lo).toNat) (fun i σ H' => ∃ ds c0 c1 c2 c3, σ = [some (.ref a), some (.int (lo : Int)), some (.int (hi : Int)), some (.ref d), c0, c1, c2, c3] ∧ Same H H' ∧ H' d = some (.lst (ds.map V.int)) ∧ Dig ds (60 * i))
      ⟨[], _, _, _, _, rfl, same_new hd, upd_same, Dig.nil⟩ ?_ ?_
    · rintro i σ H1 hi2 ⟨ds, c0, c1, c2, c3, rfl, s1, hd1, D⟩
      -- cell = _law_cell(script, k)
      refine ⟨_, rfl, _, rfl, a, ns, _, rfl, by omega, s1.seq hS, fun v => ?_⟩
      -- if cell < 0
      refine ⟨_, rfl, _, _, rfl, rfl, _, rfl, ite2 (fun _ => ?_) (fun _ => ?_)⟩
      · refine ⟨_, rfl, _, _, rfl, rfl, .inl ⟨by decide, by decide⟩, _, _, rfl, rfl, ?_⟩
        refine ⟨_, rfl, _, _, rfl, rfl, ⟨by decide, by decide, by decide⟩, _, _, rfl, rfl, _, rfl, ite2 (fun _ => ?_) (fun _ => ?_)⟩
        · refine ⟨60, rfl, by decide, by decide, for_range (lo := 0) (n := 60) (fun t σ H' => ∃ ds c c1, σ = [some (.ref a), some (.int (lo : Int)), some (.int (hi : Int)), some (.ref d), some (.int ((lo : Int) + i)), some (.int c), c1, c3] ∧ Same H H' ∧ H' d = some (.lst (ds.map V.int)) ∧ Dig ds (60 * i + t)) ⟨ds, _, _, rfl, s1, hd1, D⟩ ?_ ?_⟩
          · rintro t σ H2 ht ⟨ds, c, c1, rfl, s2, hd2, D2⟩
            refine ⟨_, rfl, _, _, rfl, rfl, _, rfl, ite2 (fun _ => ?_) (fun _ => ?_)⟩
            · refine ⟨_, rfl, .inl ⟨rfl, _, SqL.of hd2⟩, _, rfl, .inl ⟨_, rfl, _, _, rfl, rfl, (by show (0 : Int) < _; decide), d, _, _, rfl, rfl, hd2, ?_, _, rfl, _, _, rfl, rfl, ⟨by decide, by decide⟩, ?_⟩⟩
              · rw [List.length_map]
                exact Nat.lt_of_le_of_lt D2.len (Nat.lt_of_lt_of_le (show 60 * i + t < 100000 by omega) (by decide))
              · exact ⟨ds ++ [c % 1000], _, _, rfl, same_mut s2 hd, by rw [upd_same, List.map_append]; rfl, D2.add c⟩
            · exact ⟨ds, _, _, rfl, s2, hd2, D2.more (Nat.le_succ _)⟩
          · rintro σ H2 ⟨ds, c, c1, rfl, s2, hd2, D2⟩
            exact ⟨ds, _, _, _, _, rfl, s2, hd2, D2⟩
        · refine ⟨_, rfl, _, _, rfl, rfl, .inr ⟨by decide, by decide⟩, _, rfl, _, _, rfl, rfl, .inr ⟨by decide, by decide⟩, _, _, rfl, rfl, _, _, rfl, rfl, .inl ⟨_, rfl, _, _, rfl, rfl, (by show (0 : Int) < _; decide), ?_⟩⟩
          refine ⟨12, rfl, by decide, by decide, for_range (lo := 0) (n := 12) (fun t σ H' => ∃ ds c c1 sd, σ = [some (.ref a), some (.int (lo : Int)), some (.int (hi : Int)), some (.ref d), some (.int ((lo : Int) + i)), some (.int c), c1, some (.int sd)] ∧ Same H H' ∧ H' d = some (.lst (ds.map V.int)) ∧ Dig ds (60 * i + t)) ⟨ds, _, _, _, rfl, s1, hd1, D⟩ ?_ ?_⟩
          · rintro t σ H2 ht ⟨ds, c, c1, sd, rfl, s2, hd2, D2⟩
            refine ⟨_, rfl, _, _, rfl, rfl, .inr ⟨by decide, by decide⟩, _, rfl, _, _, rfl, rfl, .inl ⟨by decide, by decide⟩, _, _, rfl, rfl, _, _, rfl, rfl, .inl ⟨_, rfl, _, _, rfl, rfl, (by show (0 : Int) < _; decide), ?_⟩⟩
            refine ⟨_, rfl, .inl ⟨rfl, _, SqL.of hd2⟩, _, rfl, _, _, rfl, rfl, ⟨by decide, by decide⟩, .inl ⟨_, rfl, _, _, rfl, rfl, (by show (0 : Int) < _; decide), d, _, _, rfl, rfl, hd2, ?_, ?_⟩⟩
            · rw [List.length_map]
              exact Nat.lt_of_le_of_lt D2.len (Nat.lt_of_lt_of_le (show 60 * i + t < 100000 by omega) (by decide))
            · exact ⟨ds ++ [_ % 1000], _, _, _, rfl, same_mut s2 hd, by rw [upd_same, List.map_append]; rfl, D2.add _⟩
          · rintro σ H2 ⟨ds, c, c1, sd, rfl, s2, hd2, D2⟩
            exact ⟨ds, _, _, _, _, rfl, s2, hd2, D2.more (by omega)⟩
      · refine ⟨_, rfl, _, _, rfl, rfl, ⟨by decide, by decide, by decide⟩, _, _, rfl, rfl, _, rfl, ite2 (fun _ => ?_) (fun _ => ?_)⟩
        · refine ⟨60, rfl, by decide, by decide, for_range (lo := 0) (n := 60) (fun t σ H' => ∃ ds c c1, σ = [some (.ref a), some (.int (lo : Int)), some (.int (hi : Int)), some (.ref d), some (.int ((lo : Int) + i)), some (.int c), c1, c3] ∧ Same H H' ∧ H' d = some (.lst (ds.map V.int)) ∧ Dig ds (60 * i + t)) ⟨ds, _, _, rfl, s1, hd1, D⟩ ?_ ?_⟩
          · rintro t σ H2 ht ⟨ds, c, c1, rfl, s2, hd2, D2⟩
            refine ⟨_, rfl, _, _, rfl, rfl, _, rfl, ite2 (fun _ => ?_) (fun _ => ?_)⟩
            · refine ⟨_, rfl, .inl ⟨rfl, _, SqL.of hd2⟩, _, rfl, .inl ⟨_, rfl, _, _, rfl, rfl, (by show (0 : Int) < _; decide), d, _, _, rfl, rfl, hd2, ?_, _, rfl, _, _, rfl, rfl, ⟨by decide, by decide⟩, ?_⟩⟩
              · rw [List.length_map]
                exact Nat.lt_of_le_of_lt D2.len (Nat.lt_of_lt_of_le (show 60 * i + t < 100000 by omega) (by decide))
              · exact ⟨ds ++ [c % 1000], _, _, rfl, same_mut s2 hd, by rw [upd_same, List.map_append]; rfl, D2.add c⟩
            · exact ⟨ds, _, _, rfl, s2, hd2, D2.more (Nat.le_succ _)⟩
          · rintro σ H2 ⟨ds, c, c1, rfl, s2, hd2, D2⟩
            exact ⟨ds, _, _, _, _, rfl, s2, hd2, D2⟩
        · refine ⟨_, rfl, _, _, rfl, rfl, .inr ⟨by decide, by decide⟩, _, rfl, _, _, rfl, rfl, .inr ⟨by decide, by decide⟩, _, _, rfl, rfl, _, _, rfl, rfl, .inl ⟨_, rfl, _, _, rfl, rfl, (by show (0 : Int) < _; decide), ?_⟩⟩
          refine ⟨12, rfl, by decide, by decide, for_range (lo := 0) (n := 12) (fun t σ H' => ∃ ds c c1 sd, σ = [some (.ref a), some (.int (lo : Int)), some (.int (hi : Int)), some (.ref d), some (.int ((lo : Int) + i)), some (.int c), c1, some (.int sd)] ∧ Same H H' ∧ H' d = some (.lst (ds.map V.int)) ∧ Dig ds (60 * i + t)) ⟨ds, _, _, _, rfl, s1, hd1, D⟩ ?_ ?_⟩
          · rintro t σ H2 ht ⟨ds, c, c1, sd, rfl, s2, hd2, D2⟩
            refine ⟨_, rfl, _, _, rfl, rfl, .inr ⟨by decide, by decide⟩, _, rfl, _, _, rfl, rfl, .inl ⟨by decide, by decide⟩, _, _, rfl, rfl, _, _, rfl, rfl, .inl ⟨_, rfl, _, _, rfl, rfl, (by show (0 : Int) < _; decide), ?_⟩⟩
            refine ⟨_, rfl, .inl ⟨rfl, _, SqL.of hd2⟩, _, rfl, _, _, rfl, rfl, ⟨by decide, by decide⟩, .inl ⟨_, rfl, _, _, rfl, rfl, (by show (0 : Int) < _; decide), d, _, _, rfl, rfl, hd2, ?_, ?_⟩⟩
            · rw [List.length_map]
              exact Nat.lt_of_le_of_lt D2.len (Nat.lt_of_lt_of_le (show 60 * i + t < 100000 by omega) (by decide))
            · exact ⟨ds ++ [_ % 1000], _, _, _, rfl, same_mut s2 hd, by rw [upd_same, List.map_append]; rfl, D2.add _⟩
          · rintro σ H2 ⟨ds, c, c1, sd, rfl, s2, hd2, D2⟩
            exact ⟨ds, _, _, _, _, rfl, s2, hd2, D2.more (by omega)⟩
    · rintro σ H1 ⟨ds, c0, c1, c2, c3, rfl, s1, hd1, D⟩
      exact ⟨_, rfl, q _ d ds s1 hd hd1 (by rw [show ((hi : Int) - lo).toNat = hi - lo by omega] at D; exact D)⟩
/-- all but the box stays, and the box keeps its list -/
structure Kp (b : Addr) (H H' : Hp) : Prop where
  k : ∀ c o, c ≠ b → H c = some o → H' c = some o
  d : ∀ (x j : V), H b = some (.lst [x, j]) → ∃ j', H' b = some (.lst [x, j'])
instance {b : Addr} {H H' : Hp} : CoeFun (Kp b H H') (fun _ => ∀ c o, c ≠ b → H c = some o → H' c = some o) := ⟨Kp.k⟩
theorem Kp.refl {b : Addr} {H : Hp} : Kp b H H := ⟨fun _ _ _ h => h, fun _ j h => ⟨j, h⟩⟩
theorem Kp.trans {b : Addr} {H H1 H2 : Hp} (x : Kp b H H1) (y : Kp b H1 H2) : Kp b H H2 := ⟨fun c o n h => y.k c o n (x.k c o n h), fun v j h => by
  obtain ⟨j1, h1⟩ := x.d v j h
  exact y.d v j1 h1⟩
theorem Kp.of {b : Addr} {H H1 : Hp} (x : Same H H1) : Kp b H H1 := ⟨fun c o _ h => x c o h, fun _ j h => ⟨j, x _ _ h⟩⟩
theorem Kp.same {b : Addr} {H H1 H2 : Hp} (x : Same H H1) (h : H b = none) (y : Kp b H1 H2) : Same H H2 := fun c o e => y.k c o (ne_of_none e h) (x c o e)
/-- a box of drawn digits and the place of the next one -/
def Box (H : Hp) (b : Addr) : Prop := ∃ (d : Addr) (ds : List Int) (i : Nat), H b = some (.lst [.ref d, .int (i : Int)]) ∧ H d = some (.lst (ds.map V.int)) ∧ b ≠ d
theorem Box.same {H H' : Hp} {b : Addr} (s : Same H H') (h : Box H b) : Box H' b := by
  obtain ⟨d, ds, i, h1, h2, h3⟩ := h
  exact ⟨d, ds, i, s _ _ h1, s _ _ h2, h3⟩
def spDraw (K : PySem.W.Frag) : Sp := fun vs H Q _ => ∃ (b : Addr) (m : Int), vs = [.ref b, .int m] ∧ 0 < m ∧ Box H b ∧ ∀ x H', 0 ≤ x → x < m → Box H' b → Kp b H H' → Q (.int x) H'
theorem okLawDraw (T : Txt K mg) : FnOk P w K mg base CX0 1 T.fLawDraw T.fdLawDraw ["box", "many"] (spDraw K) := by
  refine T.FLawDraw.ok scLawDraw (fun vs H Q E h => ?_) (fun cdv A outer s H vs Q E hr h => ?_)
  · obtain ⟨b, m, rfl, _⟩ := h
    rfl
  · obtain ⟨b, m, rfl, hm, ⟨d, ds, i, hb, hd, nbd⟩, q⟩ := h
    -- slots box=0 many=1 at=2
    refine ⟨_, (pss_cons (ps_set (i := 2) scLawDraw.nd rfl (Or.inl rfl) (pe_ix ix_list (pv 0) pe_int (fun _ _ => rfl)))
        (pss_cons (ps_asg (pe_op op_add (pv 2) pe_int) (pg_sub (pv 0) pe_int set_list))
        (pss_cons (ps_if (pt_cmpR op_lt (pv 2) (pe_callB call_len_seq (by rfl) T.z_len PySem.boot_len (pa_cons (pe_ix ix_list (pv 0) pe_int (fun _ _ => rfl)) pa_nil)) (nomark _))
          (pss_one (ps_ret (pe_op op_mod (pe_callTy call_int1 (by rfl) T.z_int (by decide +kernel) (pa_cons (pe_ix ix_list (pe_ix ix_list (pv 0) pe_int (fun _ _ => rfl)) (pv 2) (fun _ _ => rfl)) pa_nil)) (pv 1))))
          pss_nil)
        (pss_one (ps_ret pe_int))))), ?_⟩
    refine ⟨_, rfl, b, _, _, _, rfl, rfl, SqL.of hb, atI_nat (j := 1) rfl, _, rfl, _, _, rfl, rfl, _, rfl, b, _, _, 1, rfl, rfl, hb, rfl, ?_⟩
    have hb' : (upd H b (.lst ([.ref d, .int (i : Int)].set 1 (.int ((i : Int) + 1))))) b = some (.lst [.ref d, .int ((i : Int) + 1)]) := upd_same
    have hd' : (upd H b (.lst ([.ref d, .int (i : Int)].set 1 (.int ((i : Int) + 1))))) d = some (.lst (ds.map V.int)) := by
      rw [upd_ne nbd.symm]
      exact hd
    have kp : Kp b H (upd H b (.lst ([.ref d, .int (i : Int)].set 1 (.int ((i : Int) + 1))))) := ⟨fun c o n e => by
      rw [upd_ne n]
      exact e, fun x j h => by
      rw [hb] at h
      cases h
      exact ⟨_, hb'⟩⟩
    refine ⟨_, rfl, _, rfl, b, _, _, _, rfl, rfl, SqL.of hb', atI_nat (j := 0) rfl, d, _, rfl, .inl (SqL.of hd'), _, _, rfl, rfl, _, rfl, ite2 (fun c => ?_) (fun c => ?_)⟩
    · have hk : i < ds.length := by
        have c2 := of_decide_eq_true c
        rw [List.length_map] at c2
        omega
      refine ⟨_, rfl, b, _, _, _, rfl, rfl, SqL.of hb', atI_nat (j := 0) rfl, _, rfl, d, _, _, _, rfl, rfl, SqL.of hd', atI_nat (getD_at hk), .inl ⟨_, rfl, _, rfl, _, _, rfl, rfl, hm, ?_⟩⟩
      exact q _ _ (Int.emod_nonneg _ (by omega)) (Int.emod_lt_of_pos _ hm) ⟨d, ds, i + 1, hb', hd', nbd⟩ kp
    · exact q _ _ (Int.le_refl _) hm ⟨d, ds, i + 1, hb', hd', nbd⟩ kp
/-! ### the law's own comparison -/
def Scal : V → Prop
  | .non => True
  | .bl _ => True
  | .int _ => True
  | .str _ => True
  | _ => False
def Lk (H : Hp) : Nat → V → V → Prop
  | 0, x, y => x = y ∧ Scal y
  | n + 1, x, y => (x = y ∧ Scal y) ∨
    (∃ a b xs ys, x = .ref a ∧ y = .ref b ∧ H a = some (.tup xs) ∧ H b = some (.tup ys) ∧ xs.length = ys.length ∧ xs.length ≤ 100000 ∧ ∀ (i : Nat) u v, xs[i]? = some u → ys[i]? = some v → Lk H n u v) ∨
    (∃ a b xs ys, x = .ref a ∧ y = .ref b ∧ H a = some (.lst xs) ∧ H b = some (.lst ys) ∧ xs.length = ys.length ∧ xs.length ≤ 100000 ∧ ∀ (i : Nat) u v, xs[i]? = some u → ys[i]? = some v → Lk H n u v)
theorem isi {K : PySem.W.Frag} {H : Hp} {x : V} {t c : String} {b : Bool} {Q : VK} (ty : TyX K H x (.type t)) (h : kitB t c = some b) (q : Q (.bl b) H) : rIsi K [x, .ty c] H Q := ⟨x, .ty c, _, _, b, rfl, .ty c, ty, kit_ty h, q⟩
def spSame (K : PySem.W.Frag) (n : Nat) : Sp := fun vs H Q _ => ∃ (x y : V), vs = [x, y] ∧ Lk H n x y ∧ Q (.bl true) H
theorem okLawSame (T : Txt K mg) : ∀ n : Nat, FnOk P w K mg base CX0 (n + 1) T.fLawSame T.fdLawSame ["actual", "due"] (spSame K n)
  | 0 => by
    refine T.FLawSame.ok scLawSame (fun vs H Q E h => ?_) (fun cdv A outer s H vs Q E hr h => ?_)
    · obtain ⟨x, y, rfl, _⟩ := h
      rfl
    · obtain ⟨x, y, rfl, ⟨rfl, sy⟩, q⟩ := h
      -- slots actual=0 due=1 k=2
      refine ⟨_, (pss_cons (ps_if (PW.pt (pw_or (pt_val (pe_callB call_isi (by rfl) T.z_isinstance (by decide +kernel) (pa_cons (pv 1) (pa_cons (pe_bltn (v := .ty "list") (by rfl) T.z_list (by decide +kernel) rfl) pa_nil)))) (pw_or1 (pt_val (pe_callB call_isi (by rfl) T.z_isinstance (by decide +kernel) (pa_cons (pv 1) (pa_cons (pe_bltn (v := .ty "tuple") (by rfl) T.z_tuple (by decide +kernel) rfl) pa_nil)))))))
            (pss_cons ps_never
            (pss_cons ps_never
            (pss_cons ps_never
            (pss_one ps_never))))
            pss_nil)
          (pss_cons (ps_if (pt_cmpR op_isN (pv 1) pe_non (nomark _))
            (pss_one (ps_ret (pe_cmpR op_isN (pv 0) pe_non (nomark _))))
            pss_nil)
          (pss_cons (ps_if (pt_val (pe_callB call_isi (by rfl) T.z_isinstance (by decide +kernel) (pa_cons (pv 1) (pa_cons (pe_bltn (v := .ty "bool") (by rfl) T.z_bool (by decide +kernel) rfl) pa_nil))))
            (pss_one (ps_ret (pe_and (pe_callB call_isi (by rfl) T.z_isinstance (by decide +kernel) (pa_cons (pv 0) (pa_cons (pe_bltn (v := .ty "bool") (by rfl) T.z_bool (by decide +kernel) rfl) pa_nil))) (pe_one (pe_cmpR op_eq (pv 0) (pv 1) (nomark _))))))
            pss_nil)
          (pss_cons (ps_if (pt_val (pe_callB call_isi (by rfl) T.z_isinstance (by decide +kernel) (pa_cons (pv 1) (pa_cons (pe_bltn (v := .ty "str") (by rfl) T.z_str (by decide +kernel) rfl) pa_nil))))
            (pss_one (ps_ret (pe_and (pe_callB call_isi (by rfl) T.z_isinstance (by decide +kernel) (pa_cons (pv 0) (pa_cons (pe_bltn (v := .ty "str") (by rfl) T.z_str (by decide +kernel) rfl) pa_nil))) (pe_one (pe_cmpR op_eq (pv 0) (pv 1) (nomark _))))))
            pss_nil)
          (pss_one (ps_ret (pe_and (pe_callB call_isi (by rfl) T.z_isinstance (by decide +kernel) (pa_cons (pv 0) (pa_cons (pe_bltn (v := .ty "int") (by rfl) T.z_int (by decide +kernel) rfl) pa_nil))) (pe_and (pe_not (pe_callB call_isi (by rfl) T.z_isinstance (by decide +kernel) (pa_cons (pv 0) (pa_cons (pe_bltn (v := .ty "bool") (by rfl) T.z_bool (by decide +kernel) rfl) pa_nil)))) (pe_one (pe_cmpR op_eq (pv 0) (pv 1) (nomark _))))))))))), ?_⟩
      cases x with
      | non =>
        refine ⟨_, rfl, _, _, _, _, false, rfl, .ty _, .base (.non), kit_ty (by decide +kernel), _, rfl, iteF ⟨_, rfl, _, _, _, _, false, rfl, .ty _, .base (.non), kit_ty (by decide +kernel), _, rfl, iteF ?_⟩⟩
        refine ⟨_, rfl, rfl, _, rfl, ite2 (fun _ => ?_) (fun c => absurd (decide_eq_true rfl) c)⟩
        refine ⟨_, rfl, rfl, ?_⟩
        rw [decide_eq_true rfl]
        exact q
      | bl v =>
        refine ⟨_, rfl, _, _, _, _, false, rfl, .ty _, .base (.bl v), kit_ty (by decide +kernel), _, rfl, iteF ⟨_, rfl, _, _, _, _, false, rfl, .ty _, .base (.bl v), kit_ty (by decide +kernel), _, rfl, iteF ?_⟩⟩
        refine ⟨_, rfl, rfl, _, rfl, ite2 (fun c => (nomatch (of_decide_eq_true c))) (fun _ => ?_)⟩
        refine ⟨_, rfl, _, _, _, _, true, rfl, .ty _, .base (.bl v), kit_ty (by decide +kernel), _, rfl, iteT ?_⟩
        refine ⟨_, rfl, _, _, _, _, true, rfl, .ty _, .base (.bl v), kit_ty (by decide +kernel), _, rfl, iteT ?_⟩
        refine ⟨_, rfl, _, rfl, rfl, ?_⟩
        rw [decide_eq_true rfl]
        exact q
      | int v =>
        refine ⟨_, rfl, _, _, _, _, false, rfl, .ty _, .base (.int v), kit_ty (by decide +kernel), _, rfl, iteF ⟨_, rfl, _, _, _, _, false, rfl, .ty _, .base (.int v), kit_ty (by decide +kernel), _, rfl, iteF ?_⟩⟩
        refine ⟨_, rfl, rfl, _, rfl, ite2 (fun c => (nomatch (of_decide_eq_true c))) (fun _ => ?_)⟩
        refine ⟨_, rfl, _, _, _, _, false, rfl, .ty _, .base (.int v), kit_ty (by decide +kernel), _, rfl, iteF ?_⟩
        refine ⟨_, rfl, _, _, _, _, false, rfl, .ty _, .base (.int v), kit_ty (by decide +kernel), _, rfl, iteF ?_⟩
        refine ⟨_, rfl, _, _, _, _, true, rfl, .ty _, .base (.int v), kit_ty (by decide +kernel), _, rfl, iteT ?_⟩
        refine ⟨_, rfl, _, _, _, _, false, rfl, .ty _, .base (.int v), kit_ty (by decide +kernel), _, rfl, _, rfl, iteT ?_⟩
        refine ⟨_, rfl, _, rfl, rfl, ?_⟩
        rw [decide_eq_true rfl]
        exact q
      | str v =>
        refine ⟨_, rfl, _, _, _, _, false, rfl, .ty _, .base (.str v), kit_ty (by decide +kernel), _, rfl, iteF ⟨_, rfl, _, _, _, _, false, rfl, .ty _, .base (.str v), kit_ty (by decide +kernel), _, rfl, iteF ?_⟩⟩
        refine ⟨_, rfl, rfl, _, rfl, ite2 (fun c => (nomatch (of_decide_eq_true c))) (fun _ => ?_)⟩
        refine ⟨_, rfl, _, _, _, _, false, rfl, .ty _, .base (.str v), kit_ty (by decide +kernel), _, rfl, iteF ?_⟩
        refine ⟨_, rfl, _, _, _, _, true, rfl, .ty _, .base (.str v), kit_ty (by decide +kernel), _, rfl, iteT ?_⟩
        refine ⟨_, rfl, _, _, _, _, true, rfl, .ty _, .base (.str v), kit_ty (by decide +kernel), _, rfl, iteT ?_⟩
        refine ⟨_, rfl, _, rfl, rfl, ?_⟩
        rw [decide_eq_true rfl]
        exact q
      | _ => exact sy.elim
  | n + 1 => by
    have IH := okLawSame T n
    refine T.FLawSame.ok scLawSame (fun vs H Q E h => ?_) (fun cdv A outer s H vs Q E hr h => ?_)
    · obtain ⟨x, y, rfl, _⟩ := h
      rfl
    · obtain ⟨x, y, rfl, hL, q⟩ := h
      -- slots actual=0 due=1 k=2
      refine ⟨_, (pss_cons (ps_if (PW.pt (pw_or (pt_val (pe_callB call_isi (by rfl) T.z_isinstance (by decide +kernel) (pa_cons (pv 1) (pa_cons (pe_bltn (v := .ty "list") (by rfl) T.z_list (by decide +kernel) rfl) pa_nil)))) (pw_or1 (pt_val (pe_callB call_isi (by rfl) T.z_isinstance (by decide +kernel) (pa_cons (pv 1) (pa_cons (pe_bltn (v := .ty "tuple") (by rfl) T.z_tuple (by decide +kernel) rfl) pa_nil)))))))
            (pss_cons (ps_if (PW.pt (pw_or (pt_cmpR op_ne (pe_callB call_isi (by rfl) T.z_isinstance (by decide +kernel) (pa_cons (pv 1) (pa_cons (pe_bltn (v := .ty "list") (by rfl) T.z_list (by decide +kernel) rfl) pa_nil))) (pe_callB call_isi (by rfl) T.z_isinstance (by decide +kernel) (pa_cons (pv 0) (pa_cons (pe_bltn (v := .ty "list") (by rfl) T.z_list (by decide +kernel) rfl) pa_nil))) (nomark _)) (pw_or1 (pt_cmpR op_ne (pe_callB call_isi (by rfl) T.z_isinstance (by decide +kernel) (pa_cons (pv 1) (pa_cons (pe_bltn (v := .ty "tuple") (by rfl) T.z_tuple (by decide +kernel) rfl) pa_nil))) (pe_callB call_isi (by rfl) T.z_isinstance (by decide +kernel) (pa_cons (pv 0) (pa_cons (pe_bltn (v := .ty "tuple") (by rfl) T.z_tuple (by decide +kernel) rfl) pa_nil))) (nomark _)))))
              (pss_one (ps_ret pe_bl))
              pss_nil)
            (pss_cons (ps_if (pt_cmpR op_ne (pe_callB call_len_seq (by rfl) T.z_len PySem.boot_len (pa_cons (pv 0) pa_nil)) (pe_callB call_len_seq (by rfl) T.z_len PySem.boot_len (pa_cons (pv 1) pa_nil)) (nomark _))
              (pss_one (ps_ret pe_bl))
              pss_nil)
            (pss_cons (ps_for PassesOwn.never rfl (pi_range1 rfl T.z_range (pa_cons (pe_callB call_len_seq (by rfl) T.z_len PySem.boot_len (pa_cons (pv 1) pa_nil)) pa_nil)) (pg_name (i := 2) scLawSame.nd rfl (Or.inl rfl))
              (pss_one (ps_if (pt_not (pt_val (pe_call IH (hr.mono (Nat.le_refl _)) (by rfl) T.gLawSame T.FLawSame.kp T.bLawSame .nil pass0 (pa_cons (pe_ix ix_seq (pv 0) (pv 2) (fun _ _ => rfl)) (pa_cons (pe_ix ix_seq (pv 1) (pv 2) (fun _ _ => rfl)) pa_nil)))))
                (pss_one (ps_ret pe_bl))
                pss_nil)))
            (pss_one (ps_ret pe_bl)))))
            pss_nil)
          (pss_cons (ps_if (pt_cmpR op_isN (pv 1) pe_non (nomark _))
            (pss_one (ps_ret (pe_cmpR op_isN (pv 0) pe_non (nomark _))))
            pss_nil)
          (pss_cons (ps_if (pt_val (pe_callB call_isi (by rfl) T.z_isinstance (by decide +kernel) (pa_cons (pv 1) (pa_cons (pe_bltn (v := .ty "bool") (by rfl) T.z_bool (by decide +kernel) rfl) pa_nil))))
            (pss_one (ps_ret (pe_and (pe_callB call_isi (by rfl) T.z_isinstance (by decide +kernel) (pa_cons (pv 0) (pa_cons (pe_bltn (v := .ty "bool") (by rfl) T.z_bool (by decide +kernel) rfl) pa_nil))) (pe_one (pe_cmpR op_eq (pv 0) (pv 1) (nomark _))))))
            pss_nil)
          (pss_cons (ps_if (pt_val (pe_callB call_isi (by rfl) T.z_isinstance (by decide +kernel) (pa_cons (pv 1) (pa_cons (pe_bltn (v := .ty "str") (by rfl) T.z_str (by decide +kernel) rfl) pa_nil))))
            (pss_one (ps_ret (pe_and (pe_callB call_isi (by rfl) T.z_isinstance (by decide +kernel) (pa_cons (pv 0) (pa_cons (pe_bltn (v := .ty "str") (by rfl) T.z_str (by decide +kernel) rfl) pa_nil))) (pe_one (pe_cmpR op_eq (pv 0) (pv 1) (nomark _))))))
            pss_nil)
          (pss_one (ps_ret (pe_and (pe_callB call_isi (by rfl) T.z_isinstance (by decide +kernel) (pa_cons (pv 0) (pa_cons (pe_bltn (v := .ty "int") (by rfl) T.z_int (by decide +kernel) rfl) pa_nil))) (pe_and (pe_not (pe_callB call_isi (by rfl) T.z_isinstance (by decide +kernel) (pa_cons (pv 0) (pa_cons (pe_bltn (v := .ty "bool") (by rfl) T.z_bool (by decide +kernel) rfl) pa_nil)))) (pe_one (pe_cmpR op_eq (pv 0) (pv 1) (nomark _))))))))))), ?_⟩
      rcases hL with ⟨rfl, sy⟩ | ⟨a, b, xs, ys, rfl, rfl, ha, hb, hl, hz, hi⟩ | ⟨a, b, xs, ys, rfl, rfl, ha, hb, hl, hz, hi⟩
      · cases x with
        | non =>
          refine ⟨_, rfl, _, _, _, _, false, rfl, .ty _, .base (.non), kit_ty (by decide +kernel), _, rfl, iteF ⟨_, rfl, _, _, _, _, false, rfl, .ty _, .base (.non), kit_ty (by decide +kernel), _, rfl, iteF ?_⟩⟩
          refine ⟨_, rfl, rfl, _, rfl, ite2 (fun _ => ?_) (fun c => absurd (decide_eq_true rfl) c)⟩
          refine ⟨_, rfl, rfl, ?_⟩
          rw [decide_eq_true rfl]
          exact q
        | bl v =>
          refine ⟨_, rfl, _, _, _, _, false, rfl, .ty _, .base (.bl v), kit_ty (by decide +kernel), _, rfl, iteF ⟨_, rfl, _, _, _, _, false, rfl, .ty _, .base (.bl v), kit_ty (by decide +kernel), _, rfl, iteF ?_⟩⟩
          refine ⟨_, rfl, rfl, _, rfl, ite2 (fun c => (nomatch (of_decide_eq_true c))) (fun _ => ?_)⟩
          refine ⟨_, rfl, _, _, _, _, true, rfl, .ty _, .base (.bl v), kit_ty (by decide +kernel), _, rfl, iteT ?_⟩
          refine ⟨_, rfl, _, _, _, _, true, rfl, .ty _, .base (.bl v), kit_ty (by decide +kernel), _, rfl, iteT ?_⟩
          refine ⟨_, rfl, _, rfl, rfl, ?_⟩
          rw [decide_eq_true rfl]
          exact q
        | int v =>
          refine ⟨_, rfl, _, _, _, _, false, rfl, .ty _, .base (.int v), kit_ty (by decide +kernel), _, rfl, iteF ⟨_, rfl, _, _, _, _, false, rfl, .ty _, .base (.int v), kit_ty (by decide +kernel), _, rfl, iteF ?_⟩⟩
          refine ⟨_, rfl, rfl, _, rfl, ite2 (fun c => (nomatch (of_decide_eq_true c))) (fun _ => ?_)⟩
          refine ⟨_, rfl, _, _, _, _, false, rfl, .ty _, .base (.int v), kit_ty (by decide +kernel), _, rfl, iteF ?_⟩
          refine ⟨_, rfl, _, _, _, _, false, rfl, .ty _, .base (.int v), kit_ty (by decide +kernel), _, rfl, iteF ?_⟩
          refine ⟨_, rfl, _, _, _, _, true, rfl, .ty _, .base (.int v), kit_ty (by decide +kernel), _, rfl, iteT ?_⟩
          refine ⟨_, rfl, _, _, _, _, false, rfl, .ty _, .base (.int v), kit_ty (by decide +kernel), _, rfl, _, rfl, iteT ?_⟩
          refine ⟨_, rfl, _, rfl, rfl, ?_⟩
          rw [decide_eq_true rfl]
          exact q
        | str v =>
          refine ⟨_, rfl, _, _, _, _, false, rfl, .ty _, .base (.str v), kit_ty (by decide +kernel), _, rfl, iteF ⟨_, rfl, _, _, _, _, false, rfl, .ty _, .base (.str v), kit_ty (by decide +kernel), _, rfl, iteF ?_⟩⟩
          refine ⟨_, rfl, rfl, _, rfl, ite2 (fun c => (nomatch (of_decide_eq_true c))) (fun _ => ?_)⟩
          refine ⟨_, rfl, _, _, _, _, false, rfl, .ty _, .base (.str v), kit_ty (by decide +kernel), _, rfl, iteF ?_⟩
          refine ⟨_, rfl, _, _, _, _, true, rfl, .ty _, .base (.str v), kit_ty (by decide +kernel), _, rfl, iteT ?_⟩
          refine ⟨_, rfl, _, _, _, _, true, rfl, .ty _, .base (.str v), kit_ty (by decide +kernel), _, rfl, iteT ?_⟩
          refine ⟨_, rfl, _, rfl, rfl, ?_⟩
          rw [decide_eq_true rfl]
          exact q
        | _ => exact sy.elim
      · refine ⟨_, rfl, _, _, _, _, false, rfl, .ty _, .base (.tup hb), kit_ty (by decide +kernel), _, rfl, iteF ⟨_, rfl, _, _, _, _, true, rfl, .ty _, .base (.tup hb), kit_ty (by decide +kernel), _, rfl, iteT ?_⟩⟩
        refine ⟨_, rfl, _, _, _, _, false, rfl, .ty _, .base (.tup hb), kit_ty (by decide +kernel), _, rfl, _, _, _, _, false, rfl, .ty _, .base (.tup ha), kit_ty (by decide +kernel), rfl, _, rfl, iteNS rfl ?_⟩
        refine ⟨_, rfl, _, _, _, _, true, rfl, .ty _, .base (.tup hb), kit_ty (by decide +kernel), _, rfl, _, _, _, _, true, rfl, .ty _, .base (.tup ha), kit_ty (by decide +kernel), rfl, _, rfl, iteNS rfl ?_⟩
        refine ⟨_, rfl, a, _, rfl, .inr (SqT.of ha), _, rfl, b, _, rfl, .inr (SqT.of hb), rfl, _, rfl, iteNS (by rw [hl]) ?_⟩
        refine ⟨_, rfl, b, _, rfl, .inr (SqT.of hb), _, rfl, by omega, by omega, for_range (lo := 0) (n := ys.length) (fun i σ H' => H' = H ∧ ∃ k, σ = [some (.ref a), some (.ref b), k]) ⟨rfl, _, rfl⟩ ?_ ?_⟩
        · rintro i σ H1 hi2 ⟨rfl, k, rfl⟩
          have e1 : xs[i]? = some xs[i] := List.getElem?_eq_getElem (by omega)
          have e2 : ys[i]? = some ys[i] := List.getElem?_eq_getElem hi2
          have z : (0 : Int) + (i : Int) = ((i : Nat) : Int) := Int.zero_add _
          refine ⟨_, rfl, _, rfl, .inr (.inl ⟨a, _, _, _, rfl, rfl, SqT.of ha, by rw [z]; exact atI_nat e1, _, rfl, _, rfl, .inr (.inl ⟨b, _, _, _, rfl, rfl, SqT.of hb, by rw [z]; exact atI_nat e2, ?_⟩)⟩)⟩
          exact ⟨_, _, rfl, hi i _ _ e1 e2, _, rfl, iteF ⟨rfl, _, rfl⟩⟩
        · rintro σ H1 ⟨rfl, k, rfl⟩
          exact q
      · refine ⟨_, rfl, _, _, _, _, true, rfl, .ty _, .base (.lst hb), kit_ty (by decide +kernel), _, rfl, iteT ?_⟩
        refine ⟨_, rfl, _, _, _, _, true, rfl, .ty _, .base (.lst hb), kit_ty (by decide +kernel), _, rfl, _, _, _, _, true, rfl, .ty _, .base (.lst ha), kit_ty (by decide +kernel), rfl, _, rfl, iteNS rfl ?_⟩
        refine ⟨_, rfl, _, _, _, _, false, rfl, .ty _, .base (.lst hb), kit_ty (by decide +kernel), _, rfl, _, _, _, _, false, rfl, .ty _, .base (.lst ha), kit_ty (by decide +kernel), rfl, _, rfl, iteNS rfl ?_⟩
        refine ⟨_, rfl, a, _, rfl, .inl (SqL.of ha), _, rfl, b, _, rfl, .inl (SqL.of hb), rfl, _, rfl, iteNS (by rw [hl]) ?_⟩
        refine ⟨_, rfl, b, _, rfl, .inl (SqL.of hb), _, rfl, by omega, by omega, for_range (lo := 0) (n := ys.length) (fun i σ H' => H' = H ∧ ∃ k, σ = [some (.ref a), some (.ref b), k]) ⟨rfl, _, rfl⟩ ?_ ?_⟩
        · rintro i σ H1 hi2 ⟨rfl, k, rfl⟩
          have e1 : xs[i]? = some xs[i] := List.getElem?_eq_getElem (by omega)
          have e2 : ys[i]? = some ys[i] := List.getElem?_eq_getElem hi2
          have z : (0 : Int) + (i : Int) = ((i : Nat) : Int) := Int.zero_add _
          refine ⟨_, rfl, _, rfl, .inl (⟨a, _, _, _, rfl, rfl, SqL.of ha, by rw [z]; exact atI_nat e1, _, rfl, _, rfl, .inl (⟨b, _, _, _, rfl, rfl, SqL.of hb, by rw [z]; exact atI_nat e2, ?_⟩)⟩)⟩
          exact ⟨_, _, rfl, hi i _ _ e1 e2, _, rfl, iteF ⟨rfl, _, rfl⟩⟩
        · rintro σ H1 ⟨rfl, k, rfl⟩
          exact q
/-! ### fractions in lowest terms -/
theorem op_fdivZ {X : Cx} : OpR X (binaryOp .FloorDiv) (rI (fun _ j => j ≠ 0 ∧ j.natAbs.log2 < 9000) fun i j => .int (i.fdiv j)) := opI fun i j _ _ _ _ _ hc q => floordiv_int hc.1 q (.inl (PyProof.noPylong_of_log2 hc.2))
structure Low (n d x y : Int) : Prop where
  pos : 0 < y
  eq : x * d = n * y
  cop : Nat.gcd x.natAbs y.natAbs = 1
  lx : x.natAbs ≤ n.natAbs
  ly : y.natAbs ≤ d.natAbs
def cmn (n d : Int) : Int := if d < 0 then -((Nat.gcd n.natAbs d.natAbs : Nat) : Int) else ((Nat.gcd n.natAbs d.natAbs : Nat) : Int)
theorem cmn_abs (n d : Int) : (cmn n d).natAbs = Nat.gcd n.natAbs d.natAbs := by
  unfold cmn
  split <;> omega
theorem low_of {n d : Int} (hd : d ≠ 0) : Low n d (n.fdiv (cmn n d)) (d.fdiv (cmn n d)) := by
  have hg : 0 < Nat.gcd n.natAbs d.natAbs := Nat.gcd_pos_of_pos_right _ (by omega)
  have ha := cmn_abs n d
  have hc : cmn n d ≠ 0 := by omega
  have d1 : cmn n d ∣ n := Int.natAbs_dvd_natAbs.mp (by rw [ha]; exact Nat.gcd_dvd_left _ _)
  have d2 : cmn n d ∣ d := Int.natAbs_dvd_natAbs.mp (by rw [ha]; exact Nat.gcd_dvd_right _ _)
  have sg : 0 < d → 0 < cmn n d := fun h => by
    unfold cmn
    rw [if_neg (by omega)]
    omega
  have sg2 : d < 0 → cmn n d < 0 := fun h => by
    unfold cmn
    rw [if_pos h]
    omega
  obtain ⟨x, hx⟩ := d1
  obtain ⟨y, hy⟩ := d2
  generalize cmn n d = c at *
  have e1 : n.fdiv c = x := by rw [hx]; exact Int.mul_fdiv_cancel_left _ hc
  have e2 : d.fdiv c = y := by rw [hy]; exact Int.mul_fdiv_cancel_left _ hc
  rw [e1, e2]
  have y0 : 0 < y := by
    rcases Int.lt_trichotomy d 0 with h | h | h
    · have hc2 := sg2 h
      rcases Int.lt_trichotomy y 0 with z | z | z
      · have := Int.mul_pos_of_neg_of_neg hc2 z
        omega
      · subst z
        simp at hy
        omega
      · exact z
    · exact absurd h hd
    · have hc2 := sg h
      rcases Int.lt_trichotomy y 0 with z | z | z
      · have := Int.mul_neg_of_pos_of_neg hc2 z
        omega
      · subst z
        simp at hy
        omega
      · exact z
  have en : n.natAbs = c.natAbs * x.natAbs := by rw [hx, Int.natAbs_mul]
  have ed : d.natAbs = c.natAbs * y.natAbs := by rw [hy, Int.natAbs_mul]
  refine ⟨y0, ?_, ?_, ?_, ?_⟩
  · rw [hx, hy, Int.mul_assoc, Int.mul_comm x, Int.mul_assoc, Int.mul_comm x]
  · rw [en, ed, Nat.gcd_mul_left] at ha
    rw [en, ed, Nat.gcd_mul_left] at hg
    have z : c.natAbs * 1 = c.natAbs * Nat.gcd x.natAbs y.natAbs := by rw [Nat.mul_one]; exact ha
    exact (Nat.eq_of_mul_eq_mul_left (by omega) z).symm
  · rw [en]
    exact Nat.le_mul_of_pos_left _ (by omega)
  · rw [ed]
    exact Nat.le_mul_of_pos_left _ (by omega)
def spFraction (K : PySem.W.Frag) : Sp := fun vs H Q _ => ∃ (n d : Int), vs = [.int n, .int d] ∧ d ≠ 0 ∧ d.natAbs < 2 ^ 900 ∧ ∀ p x y, H p = none → Low n d x y → Q (.ref p) (upd H p (.tup [.int x, .int y]))
theorem okFraction (T : Txt K mg) : FnOk P w K mg base CX0 1 T.fFraction T.fdFraction ["n", "d"] (spFraction K) := by
  refine T.FFraction.ok scFraction (fun vs H Q E h => ?_) (fun cdv A outer s H vs Q E hr h => ?_)
  · obtain ⟨n, d, rfl, _⟩ := h
    rfl
  · obtain ⟨n, d, rfl, hd, hz, q⟩ := h
    -- slots n=0 d=1 common=2
    refine ⟨_, (pss_cons (ps_set (i := 2) scFraction.nd rfl (Or.inl rfl) (pe_callBfun cr_gcd (by rfl) T.g_gcd (pa_cons (pv 0) (pa_cons (pv 1) pa_nil))))
        (C8.pss_cut (ps_if (pt_cmpR op_lt (pv 1) pe_int (nomark _))
          (pss_one (ps_set (i := 2) scFraction.nd rfl (Or.inl rfl) (pe_un un_neg (pv 2))))
          pss_nil)
        (pss_one (ps_ret (pe_tup (pa_cons (pe_op op_fdivZ (pv 0) (pv 2)) (pa_cons (pe_op op_fdivZ (pv 1) (pv 2)) pa_nil))))))), ?_⟩
    have hb : (cmn n d).natAbs < 2 ^ 900 := by
      rw [cmn_abs]
      exact Nat.lt_of_le_of_lt (Nat.le_of_dvd (by omega) (Nat.gcd_dvd_right _ _)) hz
    have hl : (cmn n d).natAbs.log2 < 9000 := Nat.lt_of_lt_of_le (PySem.Flt.log2_lt_of (by decide) hb) (by decide)
    have h0 : cmn n d ≠ 0 := by
      have := cmn_abs n d
      have hg : 0 < Nat.gcd n.natAbs d.natAbs := Nat.gcd_pos_of_pos_right _ (by omega)
      omega
    refine ⟨_, rfl, _, rfl, _, _, rfl, ?_⟩
    refine ⟨fun σ H' => H' = H ∧ σ = [some (.int n), some (.int d), some (.int (cmn n d))], ?_, ?_⟩
    · refine ⟨_, rfl, _, _, rfl, rfl, _, rfl, ite2 (fun c => ?_) (fun c => ?_)⟩
      · refine ⟨_, rfl, _, rfl, rfl, ?_⟩
        have c2 : d < 0 := of_decide_eq_true c
        unfold cmn
        rw [if_pos c2]
        rfl
      · refine ⟨rfl, ?_⟩
        have c2 : ¬ d < 0 := fun z => c (decide_eq_true z)
        unfold cmn
        rw [if_neg c2]
        rfl
    · rintro σ H' ⟨rfl, rfl⟩
      refine ⟨_, rfl, _, rfl, _, _, rfl, rfl, ⟨h0, hl⟩, _, rfl, _, rfl, _, _, rfl, rfl, ⟨h0, hl⟩, (by show 2 ≤ sizeLine; decide), fun p hp => ?_⟩
      exact q p _ _ hp (low_of hd)
def spRunEnd (K : PySem.W.Frag) : Sp := fun vs H Q _ => ∃ (a : List Nat) (i : Nat) (z : Str), vs = [.str (S a), .int (i : Int), .str z] ∧ a.length ≤ 100000 ∧ Q (.int ((i + rn z (a.drop i) : Nat) : Int)) H
theorem okRunEnd (T : Txt K mg) : FnOk P w K mg base CX0 1 T.fRunEnd T.fdRunEnd ["text", "at", "characters"] (spRunEnd K) := by
  refine T.FRunEnd.ok scRunEnd (fun vs H Q E h => ?_) (fun cdv A outer s H vs Q E hr h => ?_)
  · obtain ⟨a, i, z, rfl, _⟩ := h
    rfl
  · obtain ⟨a, i0, z, rfl, ha, q⟩ := h
    -- slots text=0 at=1 characters=2
    refine ⟨_, (pss_cons (ps_while PassesOwn.never (PW.pt (pw_and (pt_cmpR op_lt (pv 1) (pe_callB call_len_str (by rfl) T.z_len PySem.boot_len (pa_cons (pv 0) pa_nil)) (nomark _)) (pw_and1 (pt_cmpR op_in_sign (pe_ix ix_str (pv 0) (pv 1) (fun _ _ => rfl)) (pv 2) rfl))))
          (pss_one (ps_set (i := 1) scRunEnd.nd rfl (Or.inl rfl) (pe_op op_add (pv 1) pe_int))))
        (pss_one (ps_ret (pv 1)))), ?_⟩
    refine while_by (fun σ H' => H' = H ∧ ∃ i : Nat, σ = [some (.str (S a)), some (.int (i : Int)), some (.str z)] ∧ i + rn z (a.drop i) = i0 + rn z (a.drop i0)) (fun σ _ => match σ with | [_, some (.int n), _] => a.length - n.toNat | _ => 0) ⟨rfl, i0, rfl, rfl⟩ ?_ (fun σ H Q Q' m h => by
      obtain ⟨v, hv, v2, hv2, z2, e1, e2, i, j, e3, e4, k, e5, q⟩ := h
      refine ⟨v, hv, v2, hv2, z2, e1, e2, i, j, e3, e4, k, e5, ?_⟩
      cases k with
      | false => exact m _ _ q
      | true =>
        obtain ⟨w, hw, w2, hw2, z3, i3, c3, f1, f2, f3, f4, w3, hw3, c4, z4, g1, g2, k4, g3, q⟩ := q
        exact ⟨w, hw, w2, hw2, z3, i3, c3, f1, f2, f3, f4, w3, hw3, c4, z4, g1, g2, k4, g3, m _ _ q⟩)
    rintro σ H1 ⟨rfl, i, rfl, e⟩
    refine ⟨_, rfl, _, rfl, S a, rfl, by rw [S_len]; exact sz100 ha, _, _, rfl, rfl, _, rfl, ite2 (fun c => ?_) (fun c => ?_)⟩
    · have hi : i < a.length := by
        have c2 := of_decide_eq_true c
        rw [S_len] at c2
        omega
      have ec : a[i]? = some a[i] := List.getElem?_eq_getElem hi
      have ed : a.drop i = a[i] :: a.drop (i + 1) := List.drop_eq_getElem_cons hi
      generalize a[i] = c at ec ed
      refine ⟨_, rfl, _, rfl, S a, _, c, rfl, rfl, by rw [S_len]; exact sz100 ha, atI_nat (show a[i]? = some c from ec), _, rfl, c, z, rfl, rfl, _, rfl, ite2 (fun c2 => ?_) (fun c2 => ?_)⟩
      · have e3 : decide (c ∈ z.cps.toList) = true := c2
        refine ⟨_, rfl, _, _, rfl, rfl, ⟨rfl, i + 1, rfl, ?_⟩, ?_⟩
        · rw [← e, ed]
          unfold rn
          rw [List.takeWhile_cons, e3]
          simp only [if_true, List.length_cons]
          omega
        · show a.length - ((i : Int) + 1).toNat < a.length - ((i : Int)).toNat
          omega
      · have e3 : decide (c ∈ z.cps.toList) = false := Bool.eq_false_iff.mpr c2
        refine ⟨_, rfl, ?_⟩
        rw [ed] at e
        unfold rn at e q
        rw [List.takeWhile_cons, e3] at e
        simp only [Bool.false_eq_true, if_false, List.length_nil, Nat.add_zero] at e
        rw [e]
        exact q
    · have hi : a.length ≤ i := by
        rcases Nat.lt_or_ge i a.length with h | h
        · exact absurd (decide_eq_true (show (i : Int) < ((S a).length : Int) by rw [S_len]; omega)) c
        · exact h
      refine iteF ⟨_, rfl, ?_⟩
      rw [List.drop_eq_nil_of_le hi] at e
      have e2 : i = i0 + rn z (a.drop i0) := e
      rw [e2]
      exact q
/-! ### decimals -/
theorem mt_ljustF {X : Cx} : MtR X "str.ljust" (fun x xs H Q => ∃ (a : Str) (i : Int) (f : Str), x = .str a ∧ xs = [.int i, .str f] ∧ PadOk i = true ∧ f.length = 1 ∧ Q (.str (Txt.ljustF a i (f.cps.getD 0 0))) H) := by
  intro pins s σ H x xs v us Q I rx rs h
  obtain ⟨a, i, f, rfl, rfl, hc, hf, h⟩ := h
  obtain ⟨t, rfl⟩ := rx
  cases rs with
  | cons r1 rs =>
    cases rs with
    | cons r2 rs =>
      cases rs
      obtain ⟨u, rfl⟩ := r1
      obtain ⟨z, rfl⟩ := r2
      exact ljust_fill hc hf fun t' k => ⟨.str _, H, I.tok k, ⟨t', rfl⟩, h⟩
structure Lw (n d x y : Int) : Prop where
  pos : 0 < y
  eq : x * d = n * y
  cop : Nat.gcd x.natAbs y.natAbs = 1
theorem Low.lw {n d x y : Int} (h : Low n d x y) : Lw n d x y := ⟨h.pos, h.eq, h.cop⟩
theorem Lw.scale {n d k x y : Int} (hk : k ≠ 0) (h : Lw (n * k) (d * k) x y) : Lw n d x y := by
  refine ⟨h.pos, ?_, h.cop⟩
  have e := h.eq
  refine Int.eq_of_mul_eq_mul_right hk ?_
  rw [Int.mul_assoc, e, Int.mul_assoc, Int.mul_assoc, Int.mul_comm k y]
theorem Lw.neg {n d x y : Int} (h : Lw n d x y) : Lw (-n) d (-x) y := ⟨h.pos, by rw [Int.neg_mul, Int.neg_mul, h.eq], by rw [Int.natAbs_neg]; exact h.cop⟩
theorem lw_one {n d x y x2 y2 : Int} (hd : d ≠ 0) (a : Lw n d x y) (b : Lw n d x2 y2) : x = x2 ∧ y = y2 := by
  have h : x * y2 = x2 * y := by
    have h1 : (x * y2) * d = (x2 * y) * d := by
      rw [Int.mul_assoc, Int.mul_comm y2, ← Int.mul_assoc, a.eq, Int.mul_assoc x2, Int.mul_comm y d, ← Int.mul_assoc, b.eq, Int.mul_assoc, Int.mul_assoc, Int.mul_comm y]
    exact Int.eq_of_mul_eq_mul_right hd h1
  have hN : x.natAbs * y2.natAbs = x2.natAbs * y.natAbs := by
    rw [← Int.natAbs_mul, ← Int.natAbs_mul, h]
  have c1 : Nat.Coprime x.natAbs y.natAbs := a.cop
  have c2 : Nat.Coprime x2.natAbs y2.natAbs := b.cop
  have d1 : y.natAbs ∣ y2.natAbs := c1.symm.dvd_of_dvd_mul_left (by rw [hN]; exact Nat.dvd_mul_left _ _)
  have d2 : y2.natAbs ∣ y.natAbs := c2.symm.dvd_of_dvd_mul_left (by rw [← hN]; exact Nat.dvd_mul_left _ _)
  have ey : y.natAbs = y2.natAbs := Nat.dvd_antisymm d1 d2
  have p1 := a.pos
  have p2 := b.pos
  have e : y = y2 := by omega
  subst e
  exact ⟨Int.eq_of_mul_eq_mul_right (by omega) h, rfl⟩
/-! a text at its first point -/
def pre46 (a : List Nat) : List Nat := a.takeWhile fun c => decide (c ≠ 46)
def post46 (a : List Nat) : List Nat := a.drop ((pre46 a).length + 1)
theorem split46 : ∀ {a : List Nat}, 46 ∈ a → a = pre46 a ++ 46 :: post46 a ∧ 46 ∉ pre46 a
  | [], h => by simp at h
  | c :: r, h => by
    by_cases hc : c = 46
    · subst hc
      exact ⟨rfl, by simp [pre46]⟩
    · have h2 : 46 ∈ r := by
        rcases List.mem_cons.mp h with z | z
        · exact absurd z.symm hc
        · exact z
      obtain ⟨e1, e2⟩ := split46 h2
      have e3 : pre46 (c :: r) = c :: pre46 r := by
        unfold pre46
        rw [List.takeWhile_cons, if_pos (decide_eq_true hc)]
      have e4 : post46 (c :: r) = post46 r := by
        unfold post46
        rw [e3, List.length_cons, List.drop_succ_cons]
      rw [e3, e4]
      refine ⟨?_, ?_⟩
      · rw [List.cons_append, ← e1]
      · intro z
        rcases List.mem_cons.mp z with y | y
        · exact hc y.symm
        · exact e2 y
theorem none46 {a : List Nat} (h : 46 ∉ a) : pre46 a = a ∧ post46 a = [] := by
  have e : pre46 a = a := by
    unfold pre46
    exact tw_self fun x hx => decide_eq_true fun z => h (z ▸ hx)
  refine ⟨e, ?_⟩
  unfold post46
  rw [e]
  exact List.drop_eq_nil_of_le (by omega)
theorem len46 (a : List Nat) : (pre46 a).length ≤ a.length ∧ (post46 a).length ≤ a.length := ⟨tw_le a, by unfold post46; rw [List.length_drop]; omega⟩
def isD (a : List Nat) : Bool := !a.isEmpty && a.all dig
theorem isD_of {a : List Nat} (h : isD a = true) : a ≠ [] ∧ a.all dig = true := by
  unfold isD at h
  rw [Bool.and_eq_true] at h
  refine ⟨fun z => ?_, h.2⟩
  rw [z] at h
  exact absurd h.1 (by decide)
def okD (a : List Nat) : Prop := isD (pre46 a) = true ∧ (pre46 a).length ≤ 12 ∧ (46 ∈ a → isD (post46 a) = true ∧ (post46 a).length ≤ 6)
def numD (a : List Nat) : Int := ((digitsVal (pre46 a ++ post46 a) : Nat) : Int)
def denD (a : List Nat) : Int := 10 ^ (post46 a).length
theorem denD_ne (a : List Nat) : denD a ≠ 0 := by
  unfold denD
  have : (0 : Int) < 10 ^ (post46 a).length := Int.pow_pos (by decide)
  omega
theorem zeros_val (a : List Nat) : ∀ k : Nat, digitsVal (a ++ List.replicate k 48) = digitsVal a * 10 ^ k
  | 0 => by simp
  | k + 1 => by
    rw [List.replicate_succ', ← List.append_assoc, PySem.NumText.digitsVal_snoc, zeros_val a k, Nat.pow_succ, Nat.mul_assoc]
    rfl
theorem fold_lt : ∀ (a : List Nat) (acc : Nat), a.all dig = true → a.foldl (fun acc c => acc * 10 + (c - 48)) acc < (acc + 1) * 10 ^ a.length
  | [], acc, _ => by simp
  | c :: r, acc, h => by
    rw [List.all_cons, Bool.and_eq_true] at h
    have hc : 48 ≤ c ∧ c ≤ 57 := of_decide_eq_true h.1
    refine Nat.lt_of_lt_of_le (fold_lt r (acc * 10 + (c - 48)) h.2) ?_
    rw [List.length_cons, Nat.pow_succ, Nat.mul_comm (10 ^ r.length) 10, ← Nat.mul_assoc]
    exact Nat.mul_le_mul_right _ (by omega)
theorem val_lt {a : List Nat} (h : a.all dig = true) : digitsVal a < 10 ^ a.length := by
  have := fold_lt a 0 h
  rw [Nat.zero_add, Nat.one_mul] at this
  exact this
theorem val_lt18 {a : List Nat} (h : a.all dig = true) (hl : a.length ≤ 18) : digitsVal a < 10 ^ 18 := Nat.lt_of_lt_of_le (val_lt h) (Nat.pow_le_pow_right (by decide) hl)
theorem pt_S : ("." : Str) = S [46] := by decide +kernel
theorem emp_S : ("" : Str) = S [] := by decide +kernel
theorem str_eq (a : List Nat) : decide (V.str (S a) = V.str ("" : Str)) = a.isEmpty := by
  rw [emp_S]
  cases a with
  | nil => exact decide_eq_true rfl
  | cons c r => exact decide_eq_false fun z => by have := SX.S_inj (V.str.inj z); cases this
def spIsD (K : PySem.W.Frag) : Sp := fun vs H Q _ => ∃ (a : List Nat), vs = [.str (S a)] ∧ a.length ≤ 1000 ∧ ∀ H', Same H H' → Q (.bl (isD a)) H'
theorem okIsDigits (T : Txt K mg) : FnOk P w K mg base CX0 1 T.fIsDigits T.fdIsDigits ["text"] (spIsD K) := by
  refine T.FIsDigits.ok scIsDigits (fun vs H Q E h => ?_) (fun cdv A outer s H vs Q E hr h => ?_)
  · obtain ⟨a, rfl, _⟩ := h
    rfl
  · obtain ⟨a, rfl, ha, q⟩ := h
    -- slots text=0 character=1
    refine ⟨_, (pss_one (ps_ret (pe_and (pe_cmpR op_ne (pv 0) pe_str (nomark _)) (pe_one (pe_callB (cr_all rfl) (by rfl) T.z_all (by decide +kernel) (pa_cons (pe_lc (own := [("character", 1)]) (g := gName 1) (tt := tYes) rfl scIsDigits.nd (pi_str (pv 0)) (blkOk_by (own := [("character", 1)]) (N := ["text", "character"]) (sc := defScope sIsDigits) (by decide +kernel)) (fun _ _ _ _ _ => (pg_name (i := 1) scIsDigits.nd rfl (Or.inl rfl))) (fun _ _ _ _ _ => pts_nil) (fun _ _ _ _ _ => (pe_cmpR op_in_sign (pv 1) (pe_glob (v := (.str "0123456789")) rfl T.g_DIGITS ⟨_, rfl⟩) rfl))) pa_nil)))))), ?_⟩
    refine ⟨_, rfl, rfl, _, rfl, ?_⟩
    rw [str_eq]
    cases he : a.isEmpty with
    | true =>
      have q2 := q H (Same.refl H)
      unfold isD at q2
      rw [he] at q2
      exact iteF q2
    | false =>
      refine iteT ⟨_, rfl, S a, rfl, fun D hD => ?_⟩
      refine lc_it (walk_S (a := a)) (fun i H' => Same H H' ∧ H' D = some (.lst (((a.take i).map dig).map V.bl))) ⟨same_new hD, upd_same⟩ (fun _ _ _ _ => trivial) ?_ ?_
      · rintro i v H1 H2 hi ⟨s1, hD1⟩ ⟨rfl, c, ec, rfl⟩
        refine ⟨rfl, yesT ⟨_, rfl, c, _, rfl, rfl, ((a.take i).map dig).map V.bl, hD1, ?_, same_mut s1 hD, ?_⟩⟩
        · rw [List.length_map, List.length_map, List.length_take]
          exact small1000 (by omega)
        · rw [upd_same, List.take_add_one, ec, dig_mem, List.map_append, List.map_append]
          rfl
      · rintro H1 ⟨s1, hD1⟩
        rw [List.take_length] at hD1
        refine ⟨D, a.map dig, rfl, SqL.of hD1, ?_⟩
        have q2 := q H1 s1
        unfold isD at q2
        rw [he] at q2
        rw [List.all_map]
        exact q2
def spDec (K : PySem.W.Frag) : Sp := fun vs H Q _ => ∃ (a : List Nat), vs = [.str (S a)] ∧ a.length ≤ 1000 ∧ (¬ okD a → ∀ H', Same H H' → Q .non H') ∧ (okD a → ∀ p x y H', Same H H' → H' p = some (.tup [.int x, .int y]) → Lw (numD a) (denD a) x y → Q (.ref p) H')
theorem ljust6 (q : List Nat) : Txt.ljustF (S q) 6 (("0" : Str).cps.getD 0 0) = S (q ++ List.replicate (6 - q.length) 48) := by
  refine TL.ext_tl ?_
  show (Txt.ljustF (S q) 6 (("0" : Str).cps.getD 0 0)).cps.toList = _
  rw [PyProof.Rows.ljustF_list, S_len, show (("0" : Str).cps.getD 0 0) = 48 by decide +kernel]
  rfl
theorem okReadDecimal (T : Txt K mg) : FnOk P w K mg base CX0 2 T.fReadDecimal T.fdReadDecimal ["text"] (spDec K) := by
  refine T.FReadDecimal.ok scReadDecimal (fun vs H Q E h => ?_) (fun cdv A outer s H vs Q E hr h => ?_)
  · obtain ⟨a, rfl, _⟩ := h
    rfl
  · obtain ⟨a, rfl, ha, q1, q2⟩ := h
    -- slots text=0 whole=1 point=2 rest=3
    refine ⟨_, (pss_cons (ps_asg (pe_bm PySem.F.plainAttrs_str PySem.F.slot_str_partition PySem.F.type_str_partition mt_partition (pv 0) (pa_cons pe_str pa_nil)) (pg_tup rfl (pgs_cons (pg_name (i := 1) scReadDecimal.nd rfl (Or.inl rfl)) (pgs_cons (pg_name (i := 2) scReadDecimal.nd rfl (Or.inl rfl)) (pgs_cons (pg_name (i := 3) scReadDecimal.nd rfl (Or.inl rfl)) pgs_nil)))))
        (pss_cons (ps_if (PW.pt (pw_or (pt_not (pt_val (pe_call (okIsDigits T) (hr.mono (by decide)) (by rfl) T.gIsDigits T.FIsDigits.kp T.bIsDigits .nil pass0 (pa_cons (pv 1) pa_nil)))) (pw_or1 (pt_cmpR op_gt (pe_callB call_len_str (by rfl) T.z_len PySem.boot_len (pa_cons (pv 1) pa_nil)) (pe_glob (v := (.int 12)) rfl T.g_MOST_BEFORE_POINT ⟨_, rfl⟩) (nomark _)))))
          (pss_one (ps_ret pe_non))
          pss_nil)
        (pss_cons (ps_if (pt_cmpR op_eq (pv 2) pe_str (nomark _))
          (pss_one (ps_ret (pe_tup (pa_cons (pe_callTy call_int_str (by rfl) T.z_int (by decide +kernel) (pa_cons (pv 1) pa_nil)) (pa_cons pe_int pa_nil)))))
          pss_nil)
        (pss_cons (ps_if (PW.pt (pw_or (pt_not (pt_val (pe_call (okIsDigits T) (hr.mono (by decide)) (by rfl) T.gIsDigits T.FIsDigits.kp T.bIsDigits .nil pass0 (pa_cons (pv 3) pa_nil)))) (pw_or1 (pt_cmpR op_gt (pe_callB call_len_str (by rfl) T.z_len PySem.boot_len (pa_cons (pv 3) pa_nil)) (pe_glob (v := (.int 6)) rfl T.g_MOST_BEHIND_POINT ⟨_, rfl⟩) (nomark _)))))
          (pss_one (ps_ret pe_non))
          pss_nil)
        (pss_one (ps_ret (pe_call (okFraction T) (hr.mono (by decide)) (by rfl) T.gFraction T.FFraction.kp T.bFraction .nil pass0 (pa_cons (pe_callTy call_int_str (by rfl) T.z_int (by decide +kernel) (pa_cons (pe_op op_add_str (pv 1) (pe_bm PySem.F.plainAttrs_str PySem.F.slot_str_ljust PySem.F.type_str_ljust mt_ljustF (pv 3) (pa_cons (pe_glob (v := (.int 6)) rfl T.g_MOST_BEHIND_POINT ⟨_, rfl⟩) (pa_cons pe_str pa_nil)))) pa_nil)) (pa_cons (pe_glob (v := (.int 1000000)) rfl T.g_PARTS ⟨_, rfl⟩) pa_nil))))))))), ?_⟩
    obtain ⟨l1, l2⟩ := len46 a
    refine ⟨_, rfl, rfl, S a, ".", rfl, rfl, by decide +kernel, by rw [S_len]; exact sz100 (by omega), fun p0 hp0 => ?_⟩
    refine ⟨p0, _, rfl, SqT.of upd_same, rfl, _, _, rfl, _, _, rfl, _, _, rfl, rfl, ?_⟩
    by_cases hpt : 46 ∈ a
    · obtain ⟨ea, hn⟩ := split46 hpt
      have e : Txt.partition (S a) "." = (S (pre46 a), S [46], S (post46 a)) := by
        rw [pt_S]
        refine SX.partition_some (b := [46]) (by decide) ?_
        conv => lhs; rw [ea]
        exact SX.par_head (c := 46) (sep := []) (post46 a) hn
      rw [e]
      unfold okD at q1 q2
      unfold numD denD at q2
      generalize pre46 a = w at *
      generalize post46 a = r at *
      have s0 := same_new (o := .tup [.str (S w), .str (S [46]), .str (S r)]) hp0
      refine ⟨_, rfl, w, rfl, by omega, fun H1 s1 => ⟨_, rfl, ?_⟩⟩
      by_cases c1 : isD w = true
      rotate_left
      · rw [Bool.not_eq_true] at c1
        rw [c1]
        exact iteT (iteT (q1 (fun z => by rw [c1] at z; cases z.1) _ (s0.trans s1)))
      rw [c1]
      refine iteF ⟨_, rfl, S w, rfl, by rw [S_len]; exact sz100 (by omega), _, _, rfl, rfl, _, rfl, ?_⟩
      rw [S_len]
      by_cases c2 : w.length ≤ 12
      rotate_left
      · rw [decide_eq_true (by omega)]
        exact iteT (q1 (fun z => c2 z.2.1) _ (s0.trans s1))
      rw [decide_eq_false (by omega)]
      refine iteF ⟨_, rfl, rfl, _, rfl, ?_⟩
      rw [str_eq]
      refine iteF ?_
      refine ⟨_, rfl, r, rfl, by omega, fun H2 s2 => ⟨_, rfl, ?_⟩⟩
      have s02 := (s0.trans s1).trans s2
      by_cases c3 : isD r = true
      rotate_left
      · rw [Bool.not_eq_true] at c3
        rw [c3]
        exact iteT (iteT (q1 (fun z => by rw [c3] at z; cases (z.2.2 hpt).1) _ s02))
      rw [c3]
      refine iteF ⟨_, rfl, S r, rfl, by rw [S_len]; exact sz100 (by omega), _, _, rfl, rfl, _, rfl, ?_⟩
      rw [S_len]
      by_cases c4 : r.length ≤ 6
      rotate_left
      · rw [decide_eq_true (by omega)]
        exact iteT (q1 (fun z => c4 (z.2.2 hpt).2) _ s02)
      rw [decide_eq_false (by omega)]
      refine iteF ?_
      obtain ⟨w0, w1⟩ := isD_of c1
      obtain ⟨r0, r1⟩ := isD_of c3
      have hk : r.length + (6 - r.length) = 6 := by omega
      have lz : (r ++ List.replicate (6 - r.length) 48).length = 6 := by rw [List.length_append, List.length_replicate, hk]
      have da : (w ++ (r ++ List.replicate (6 - r.length) 48)).all dig = true := by
        rw [List.all_append, List.all_append, w1, r1, Bool.true_and, Bool.true_and]
        exact List.all_eq_true.mpr fun x hx => by rw [List.eq_of_mem_replicate hx]; rfl
      have la : (w ++ (r ++ List.replicate (6 - r.length) 48)).length ≤ 18 := by rw [List.length_append, lz]; omega
      have na : w ++ (r ++ List.replicate (6 - r.length) 48) ≠ [] := fun z => by
        rw [List.append_eq_nil_iff] at z
        exact w0 z.1
      have hv := val_lt18 da la
      refine ⟨_, rfl, _, rfl, rfl, S r, 6, "0", rfl, rfl, rfl, by decide +kernel, ?_⟩
      rw [ljust6]
      refine ⟨S w, S (r ++ List.replicate (6 - r.length) 48), rfl, rfl, by rw [S_len, S_len, lz]; exact sz100 (by omega), ?_⟩
      rw [S_cat]
      refine ⟨S (w ++ (r ++ List.replicate (6 - r.length) 48)), _, rfl, int_dig da na (by omega), by rw [S_len]; omega, _, _, rfl, by decide, by decide, fun p x y hp L => ?_⟩
      refine q2 ⟨c1, c2, fun _ => ⟨c3, c4⟩⟩ p x y _ (s02.trans (same_new hp)) upd_same ?_
      refine Lw.scale (k := 10 ^ (6 - r.length)) (by have : (0 : Int) < 10 ^ (6 - r.length) := Int.pow_pos (by decide); omega) ?_
      have L2 := L.lw
      rw [← List.append_assoc, zeros_val] at L2
      have e6 : (10 : Int) ^ r.length * 10 ^ (6 - r.length) = 1000000 := by
        rw [← Int.pow_add, hk]
        rfl
      rw [e6]
      have e7 : (((digitsVal (w ++ r) * 10 ^ (6 - r.length) : Nat)) : Int) = ((digitsVal (w ++ r) : Nat) : Int) * 10 ^ (6 - r.length) := by
        rw [Int.natCast_mul, Int.natCast_pow]
        rfl
      rw [e7] at L2
      exact L2
    · obtain ⟨e1, e2⟩ := none46 hpt
      have e : Txt.partition (S a) "." = (S a, S [], S []) := by
        rw [pt_S]
        exact SX.partition_none (b := [46]) (by decide) (SX.par_head_none (c := 46) (sep := []) hpt)
      rw [e]
      unfold okD at q1 q2
      unfold numD denD at q2
      rw [e1] at q1 q2
      rw [e2, List.append_nil] at q2
      have s0 := same_new (o := .tup [.str (S a), .str (S []), .str (S [])]) hp0
      refine ⟨_, rfl, a, rfl, by omega, fun H1 s1 => ⟨_, rfl, ?_⟩⟩
      by_cases c1 : isD a = true
      rotate_left
      · rw [Bool.not_eq_true] at c1
        rw [c1]
        exact iteT (iteT (q1 (fun z => by rw [c1] at z; cases z.1) _ (s0.trans s1)))
      rw [c1]
      refine iteF ⟨_, rfl, S a, rfl, by rw [S_len]; exact sz100 (by omega), _, _, rfl, rfl, _, rfl, ?_⟩
      rw [S_len]
      by_cases c2 : a.length ≤ 12
      rotate_left
      · rw [decide_eq_true (by omega)]
        exact iteT (q1 (fun z => c2 z.2.1) _ (s0.trans s1))
      rw [decide_eq_false (by omega)]
      refine iteF ⟨_, rfl, rfl, _, rfl, ?_⟩
      rw [str_eq]
      refine iteT ?_
      obtain ⟨w0, w1⟩ := isD_of c1
      refine ⟨_, rfl, S a, _, rfl, int_dig w1 w0 (by omega), by rw [S_len]; omega, (by show 2 ≤ sizeLine; decide), fun p hp => ?_⟩
      refine q2 ⟨c1, c2, fun z => absurd z hpt⟩ p _ _ _ ((s0.trans s1).trans (same_new hp)) upd_same ⟨by decide, ?_, ?_⟩
      · show _ * (10 : Int) ^ 0 = _ * 1
        rfl
      · exact Nat.gcd_one_right _
/-! ### addresses -/
def colv (l : List Nat) : Int := l.foldl (fun (t : Int) c => t * 26 + ((c - 65 : Nat) : Int) + 1) 0
def okA (a : List Nat) : Prop := ((a.takeWhile cap).length = 1 ∨ (a.takeWhile cap).length = 2) ∧ ((a.drop (a.takeWhile cap).length).length = 1 ∨ (a.drop (a.takeWhile cap).length).length = 2) ∧ (a.drop (a.takeWhile cap).length).head? ≠ some 48 ∧ (a.drop (a.takeWhile cap).length).all dig = true
def rowA (a : List Nat) : Int := ((digitsVal (a.drop (a.takeWhile cap).length) : Nat) : Int) - 1
def colA (a : List Nat) : Int := colv (a.take (a.takeWhile cap).length) - 1
def spAddr (K : PySem.W.Frag) : Sp := fun vs H Q _ => ∃ (a : List Nat), vs = [.str (S a)] ∧ a.length ≤ 1000 ∧ (¬ okA a → ∀ H', Same H H' → Q .non H') ∧ (okA a → ∀ p H', Same H H' → H' p = some (.tup [.int (rowA a), .int (colA a)]) → Q (.ref p) H')
theorem idx26 {c : Nat} (h : cap c = true) : Txt.index0 ("ABCDEFGHIJKLMNOPQRSTUVWXYZ" : Str) (S [c]) = some (c - 65) := by
  have h2 : 65 ≤ c ∧ c ≤ 90 := of_decide_eq_true h
  have all : ∀ k : Fin 26, Txt.index0 ("ABCDEFGHIJKLMNOPQRSTUVWXYZ" : Str) (S [65 + k.val]) = some k.val := by decide +kernel
  have e := all ⟨c - 65, by omega⟩
  rw [show 65 + (c - 65) = c by omega] at e
  exact e
theorem okReadAddress (T : Txt K mg) : FnOk P w K mg base CX0 2 T.fReadAddress T.fdReadAddress ["text"] (spAddr K) := by
  refine T.FReadAddress.ok scReadAddress (fun vs H Q E h => ?_) (fun cdv A outer s H vs Q E hr h => ?_)
  · obtain ⟨a, rfl, _⟩ := h
    rfl
  · obtain ⟨a, rfl, ha, q1, q2⟩ := h
    -- slots text=0 middle=1 letters=2 digits=3 column=4 letter=5
    refine ⟨_, (pss_cons (ps_set (i := 1) scReadAddress.nd rfl (Or.inl rfl) (pe_call (okRunEnd T) (hr.mono (by decide)) (by rfl) T.gRunEnd T.FRunEnd.kp T.bRunEnd .nil pass0 (pa_cons (pv 0) (pa_cons pe_int (pa_cons (pe_glob (v := (.str "ABCDEFGHIJKLMNOPQRSTUVWXYZ")) rfl T.g_CAPITALS ⟨_, rfl⟩) pa_nil)))))
        (pss_cons (ps_set (i := 2) scReadAddress.nd rfl (Or.inl rfl) (pe_slice C8.sl_txt (pv 0) po_none (po_some (pv 1))))
        (pss_cons (ps_set (i := 3) scReadAddress.nd rfl (Or.inl rfl) (pe_slice C8.sl_txt (pv 0) (po_some (pv 1)) po_none))
        (pss_cons (ps_if (PW.pt (pw_or (pt_cmpR op_notIn_seq (pe_callB call_len_str (by rfl) T.z_len PySem.boot_len (pa_cons (pv 2) pa_nil)) (pe_tup (pa_cons pe_int (pa_cons pe_int pa_nil))) rfl) (pw_or1 (pt_cmpR op_notIn_seq (pe_callB call_len_str (by rfl) T.z_len PySem.boot_len (pa_cons (pv 3) pa_nil)) (pe_tup (pa_cons pe_int (pa_cons pe_int pa_nil))) rfl))))
          (pss_one (ps_ret pe_non))
          pss_nil)
        (pss_cons (ps_if (PW.pt (pw_or (pt_cmpR op_eq (pe_ix ix_str (pv 3) pe_int (fun _ _ => rfl)) pe_str (nomark _)) (pw_or1 (pt_cmpR op_lt (pe_call (okRunEnd T) (hr.mono (by decide)) (by rfl) T.gRunEnd T.FRunEnd.kp T.bRunEnd .nil pass0 (pa_cons (pv 3) (pa_cons pe_int (pa_cons (pe_glob (v := (.str "0123456789")) rfl T.g_DIGITS ⟨_, rfl⟩) pa_nil)))) (pe_callB call_len_str (by rfl) T.z_len PySem.boot_len (pa_cons (pv 3) pa_nil)) (nomark _)))))
          (pss_one (ps_ret pe_non))
          pss_nil)
        (pss_cons (ps_set (i := 4) scReadAddress.nd rfl (Or.inl rfl) pe_int)
        (pss_cons (ps_for PassesOwn.never rfl (pi_str (pv 2)) (pg_name (i := 5) scReadAddress.nd rfl (Or.inl rfl))
          (pss_one (ps_set (i := 4) scReadAddress.nd rfl (Or.inl rfl) (pe_op op_add (pe_op op_add (pe_op op_mul (pv 4) (pe_callB call_len_str (by rfl) T.z_len PySem.boot_len (pa_cons (pe_glob (v := (.str "ABCDEFGHIJKLMNOPQRSTUVWXYZ")) rfl T.g_CAPITALS ⟨_, rfl⟩) pa_nil))) (pe_bmS PySem.F.plainAttrs_str PySem.F.slot_str_index PySem.F.type_str_index (mt_indexX rfl takes0) (pe_glob (v := (.str "ABCDEFGHIJKLMNOPQRSTUVWXYZ")) rfl T.g_CAPITALS ⟨_, rfl⟩) (pa_cons (pv 5) pa_nil))) pe_int))))
        (pss_one (ps_ret (pe_tup (pa_cons (pe_op op_sub (pe_callTy call_int_str (by rfl) T.z_int (by decide +kernel) (pa_cons (pv 3) pa_nil)) pe_int) (pa_cons (pe_op op_sub (pv 4) pe_int) pa_nil)))))))))))), ?_⟩
    have em : rn ("ABCDEFGHIJKLMNOPQRSTUVWXYZ" : Str) (a.drop 0) = (a.takeWhile cap).length := by
      unfold rn
      rw [List.drop_zero, tw_congr cap_mem]
    refine ⟨_, rfl, a, 0, _, rfl, by omega, ?_⟩
    rw [em, Nat.zero_add]
    have hm := tw_le (p := cap) a
    have hcap := tw_take (p := cap) a
    unfold okA at q1 q2
    unfold rowA colA at q2
    generalize (a.takeWhile cap).length = m at q1 q2 hm hcap
    refine ⟨_, rfl, _, rfl, _, rfl, S a, rfl, by rw [S_len]; exact sz100 (by omega), ?_⟩
    rw [slice_to (by omega), Int.toNat_natCast]
    refine ⟨_, rfl, _, rfl, _, rfl, S a, rfl, by rw [S_len]; exact sz100 (by omega), ?_⟩
    rw [slice_from (by omega), Int.toNat_natCast]
    have lL : (a.take m).length = m := by rw [List.length_take]; omega
    have lD : (a.drop m).length ≤ 1000 := by rw [List.length_drop]; omega
    generalize a.take m = L at *
    generalize a.drop m = D at *
    -- if len(letters) not in (1, 2) or len(digits) not in (1, 2)
    refine ⟨_, rfl, S L, rfl, by rw [S_len]; exact sz100 (by omega), (by show 2 ≤ sizeLine; decide), fun t ht => ?_⟩
    refine ⟨t, _, rfl, .inr (SqT.of upd_same), rfl, rfl, _, rfl, ?_⟩
    rw [S_len, lL]
    show if (!inV (V.int (m : Int)) [.int 1, .int 2]) = true then _ else _
    rw [in12]
    by_cases c1 : m = 1 ∨ m = 2
    rotate_left
    · rw [decide_eq_false (by omega)]
      refine iteT (q1 (fun z => c1 z.1) _ (same_new ht))
    rw [decide_eq_true (by omega)]
    refine iteF ?_
    refine ⟨_, rfl, S D, rfl, by rw [S_len]; exact sz100 (by omega), (by show 2 ≤ sizeLine; decide), fun t2 ht2 => ?_⟩
    have s2 := (same_new (o := .tup [.int 1, .int 2]) ht).trans (same_new (o := .tup [.int 1, .int 2]) ht2)
    refine ⟨t2, _, rfl, .inr (SqT.of upd_same), rfl, rfl, _, rfl, ?_⟩
    rw [S_len]
    show if (!inV (V.int (D.length : Int)) [.int 1, .int 2]) = true then _ else _
    rw [in12]
    by_cases c2 : D.length = 1 ∨ D.length = 2
    rotate_left
    · rw [decide_eq_false (by omega)]
      refine iteT (q1 (fun z => c2 z.2.1) _ s2)
    rw [decide_eq_true (by omega)]
    refine iteF ?_
    -- if digits[0] == '0' or ..
    obtain ⟨x, r, rfl⟩ : ∃ x r, D = x :: r := by
      cases D with
      | nil => simp at c2
      | cons x r => exact ⟨x, r, rfl⟩
    refine ⟨_, rfl, S (x :: r), 0, x, rfl, rfl, by rw [S_len]; exact sz100 (by omega), atI_nat (j := 0) rfl, rfl, _, rfl, ?_⟩
    by_cases c3 : x = 48
    · subst c3
      refine ite2 (fun _ => ?_) (fun z => absurd (decide_eq_true rfl) z)
      refine iteT (q1 (fun z => z.2.2.1 rfl) _ s2)
    refine ite2 (fun z => ?_) (fun _ => ?_)
    · have z2 := SX.S_inj (a := [x]) (b := [48]) (V.str.inj (of_decide_eq_true z))
      simp at z2
      exact absurd z2 c3
    refine ⟨_, rfl, x :: r, 0, _, rfl, by omega, ?_⟩
    have er : rn ("0123456789" : Str) ((x :: r).drop 0) = ((x :: r).takeWhile dig).length := by
      unfold rn
      rw [List.drop_zero, tw_congr dig_mem]
    rw [er, Nat.zero_add]
    refine ⟨_, rfl, S (x :: r), rfl, by rw [S_len]; exact sz100 (by omega), _, _, rfl, rfl, _, rfl, ?_⟩
    rw [S_len]
    by_cases c4 : (x :: r).all dig = true
    rotate_left
    · have hlt : ((x :: r).takeWhile dig).length < (x :: r).length := by
        rcases Nat.lt_or_ge ((x :: r).takeWhile dig).length (x :: r).length with h | h
        · exact h
        · exact absurd (List.all_eq_true.mpr (tw_full (Nat.le_antisymm (tw_le _) h))) c4
      rw [decide_eq_true (by omega)]
      refine iteT (q1 (fun z => c4 z.2.2.2) _ s2)
    rw [tw_all (List.all_eq_true.mp c4), decide_eq_false (by omega)]
    refine iteF ?_
    -- column
    refine ⟨_, rfl, S L, rfl, for_it (walk_S (a := L)) (fun i σ H' => ∃ c5, σ = [some (.str (S a)), some (.int (m : Int)), some (.str (S L)), some (.str (S (x :: r))), some (.int (colv (L.take i))), c5] ∧ Same H H') ⟨_, rfl, s2⟩ (fun _ _ _ _ _ => trivial) ?_ ?_⟩
    · rintro i v σ H1 H2 hi ⟨c5, rfl, s3⟩ ⟨rfl, c, ec, rfl⟩
      have hc : cap c = true := hcap c (List.mem_of_getElem? ec)
      refine ⟨_, rfl, _, rfl, by decide +kernel, _, _, rfl, rfl, .inr ⟨by decide +kernel, by decide +kernel⟩, rfl, _, rfl, _, _, rfl, rfl, (fun k ek => ?_), (fun z => by rw [idx26 hc] at z; cases z)⟩
      rw [idx26 hc] at ek
      cases ek
      refine ⟨_, _, rfl, rfl, _, _, rfl, rfl, some (.str (S [c])), ?_, s3⟩
      have et : L.take (i + 1) = L.take i ++ [c] := by rw [List.take_add_one, ec]; rfl
      rw [et]
      unfold colv
      rw [List.foldl_append]
      rfl
    · rintro σ H1 ⟨c5, rfl, s3⟩
      rw [List.take_length]
      have hne : (x :: r) ≠ [] := List.cons_ne_nil _ _
      refine ⟨_, rfl, S (x :: r), _, rfl, int_dig c4 hne (by omega), by rw [S_len]; omega, _, _, rfl, rfl, _, rfl, _, _, rfl, rfl, (by show 2 ≤ sizeLine; decide), fun p hp => ?_⟩
      exact q2 ⟨c1, c2, fun z => c3 (Option.some.inj z), c4⟩ p _ (s3.trans (same_new hp)) upd_same
/-! ### tokens -/
def sml (c : Nat) : Bool := decide (97 ≤ c ∧ c ≤ 122)
theorem sml_mem (c : Nat) : decide (c ∈ ("abcdefghijklmnopqrstuvwxyz" : Str).cps.toList) = sml c := by
  have e : ("abcdefghijklmnopqrstuvwxyz" : Str).cps.toList = [97, 98, 99, 100, 101, 102, 103, 104, 105, 106, 107, 108, 109, 110, 111, 112, 113, 114, 115, 116, 117, 118, 119, 120, 121, 122] := by decide +kernel
  rw [e]
  unfold sml
  refine decide_eq_decide.mpr ?_
  simp only [List.mem_cons, List.not_mem_nil, or_false]
  omega
def sgnC (c : Nat) : Bool := decide (c ∈ [43, 45, 42, 47, 40, 41, 44, 58])
theorem sgn_mem (c : Nat) : decide (c ∈ ("+-*/(),:" : Str).cps.toList) = sgnC c := by
  have e : ("+-*/(),:" : Str).cps.toList = [43, 45, 42, 47, 40, 41, 44, 58] := by decide +kernel
  rw [e]
  rfl
theorem rn_dig (a : List Nat) : rn ("0123456789" : Str) a = (a.takeWhile dig).length := by
  unfold rn
  rw [tw_congr dig_mem]
theorem rn_cap (a : List Nat) : rn ("ABCDEFGHIJKLMNOPQRSTUVWXYZ" : Str) a = (a.takeWhile cap).length := by
  unfold rn
  rw [tw_congr cap_mem]
theorem rn_sml (a : List Nat) : rn ("abcdefghijklmnopqrstuvwxyz" : Str) a = (a.takeWhile sml).length := by
  unfold rn
  rw [tw_congr sml_mem]
theorem slice_mid {a : List Nat} {i j : Nat} (h : i ≤ j) : Txt.slice (S a) (some (i : Int)) (some (j : Int)) = S ((a.drop i).take (j - i)) := by
  rw [← C8.cutS_slice]
  unfold cutS
  rw [S_len, HT.sIx_nat, HT.sIx_nat]
  show S ((a.drop (min i a.length)).take (min j a.length - min i a.length)) = _
  rcases Nat.lt_or_ge a.length i with z | z
  · rw [Nat.min_eq_right (by omega), Nat.min_eq_right (by omega), Nat.sub_self, List.take_zero, List.drop_eq_nil_of_le (by omega), List.take_nil]
  · rw [Nat.min_eq_left z]
    rcases Nat.lt_or_ge a.length j with y | y
    · rw [Nat.min_eq_right (by omega), List.take_of_length_le (by rw [List.length_drop]; exact Nat.le_refl _), List.take_of_length_le (by rw [List.length_drop]; omega)]
    · rw [Nat.min_eq_left y]
def tokLen (a : List Nat) : Nat :=
  if dig (a.headD 0) = true then
    (if a[(a.takeWhile dig).length]? = some 46 ∧ 0 < ((a.drop ((a.takeWhile dig).length + 1)).takeWhile dig).length then (a.takeWhile dig).length + 1 + ((a.drop ((a.takeWhile dig).length + 1)).takeWhile dig).length else (a.takeWhile dig).length)
  else if cap (a.headD 0) = true then (a.takeWhile cap).length + ((a.drop (a.takeWhile cap).length).takeWhile dig).length
  else if sml (a.headD 0) = true then (a.takeWhile sml).length
  else 1
theorem tw_head {p : Nat → Bool} {c : Nat} {r : List Nat} (h : p c = true) : 0 < ((c :: r).takeWhile p).length := by
  rw [List.takeWhile_cons, h]
  exact Nat.succ_pos _
theorem tokLen_pos (c : Nat) (r : List Nat) : 0 < tokLen (c :: r) := by
  unfold tokLen
  split
  · rename_i h
    have := tw_head (r := r) (show dig c = true from h)
    split <;> omega
  · split
    · rename_i h
      have := tw_head (r := r) (show cap c = true from h)
      omega
    · split
      · rename_i h
        exact tw_head h
      · exact Nat.one_pos
theorem tokLen_le {c : Nat} {r : List Nat} : tokLen (c :: r) ≤ (c :: r).length := by
  have h1 := tw_le (p := dig) (c :: r)
  have h2 := tw_le (p := cap) (c :: r)
  have h3 := tw_le (p := sml) (c :: r)
  have h4 := tw_le (p := dig) ((c :: r).drop ((c :: r).takeWhile cap).length)
  have h5 := tw_le (p := dig) ((c :: r).drop (((c :: r).takeWhile dig).length + 1))
  rw [List.length_drop] at h4 h5
  unfold tokLen
  split
  · split
    · rename_i h
      omega
    · exact h1
  · split
    · omega
    · split
      · exact h3
      · rw [List.length_cons]
        omega
noncomputable instance (a : List Nat) : Decidable (okA a) := Classical.propDecidable _
noncomputable instance (a : List Nat) : Decidable (okD a) := Classical.propDecidable _
noncomputable def kindOf (t : List Nat) : Str :=
  if dig (t.headD 0) = true ∧ okD t then "decimal"
  else if cap (t.headD 0) = true ∧ okA t then "address"
  else if sml (t.headD 0) = true ∧ t.length ≤ 8 then "word"
  else if sgnC (t.headD 0) = true then "sign"
  else "bad"
noncomputable def toks (a : List Nat) : List (Str × List Nat) :=
  match a with
  | [] => []
  | c :: r => if c = 32 then toks ((c :: r).drop (tokLen (c :: r))) else (kindOf ((c :: r).take (tokLen (c :: r))), (c :: r).take (tokLen (c :: r))) :: toks ((c :: r).drop (tokLen (c :: r)))
termination_by a.length
decreasing_by
  all_goals
    rw [List.length_drop]
    have := tokLen_pos c r
    simp only [List.length_cons]
    omega
theorem toks_nil : toks [] = [] := by rw [toks]
theorem toks_cons (c : Nat) (r : List Nat) : toks (c :: r) = if c = 32 then toks ((c :: r).drop (tokLen (c :: r))) else (kindOf ((c :: r).take (tokLen (c :: r))), (c :: r).take (tokLen (c :: r))) :: toks ((c :: r).drop (tokLen (c :: r))) := by rw [toks]
/-- a list of tuples (kind, text) in the heap -/
inductive Rep (H : Hp) : List V → List (Str × List Nat) → Prop where
  | nil : Rep H [] []
  | cons {q : Addr} {k : Str} {t : List Nat} {vs : List V} {ds : List (Str × List Nat)} : H q = some (.tup [.str k, .str (S t)]) → Rep H vs ds → Rep H (.ref q :: vs) ((k, t) :: ds)
def TK (H H' : Hp) : Prop := ∀ q xs, H q = some (.tup xs) → H' q = some (.tup xs)
theorem TK.of {H H' : Hp} (s : Same H H') : TK H H' := fun q xs h => s q _ h
theorem TK.trans {H H1 H2 : Hp} (a : TK H H1) (b : TK H1 H2) : TK H H2 := fun q xs h => b q xs (a q xs h)
theorem TK.kp {b : Addr} {H H' : Hp} (w : Kp b H H') (hb : Box H b) : TK H H' := fun q xs h => by
  refine w q _ (fun z => ?_) h
  obtain ⟨_, _, _, h2, _, _⟩ := hb
  rw [z, h2] at h
  cases h
theorem TK.mut {H : Hp} {d : Addr} {xs : List V} {o : HO} (h : H d = some (.lst xs)) : TK H (upd H d o) := fun q ys hq => by
  have : q ≠ d := fun z => by
    rw [z, h] at hq
    cases hq
  rw [upd_ne this]
  exact hq
theorem Rep.mono {H H' : Hp} (s : TK H H') : ∀ {vs ds}, Rep H vs ds → Rep H' vs ds
  | _, _, .nil => .nil
  | _, _, .cons h r => .cons (s _ _ h) (r.mono s)
theorem Rep.snoc {H : Hp} {q : Addr} {k : Str} {t : List Nat} (h : H q = some (.tup [.str k, .str (S t)])) : ∀ {vs ds}, Rep H vs ds → Rep H (vs ++ [.ref q]) (ds ++ [(k, t)])
  | _, _, .nil => .cons h .nil
  | _, _, .cons h2 r => .cons h2 (r.snoc h)
theorem Rep.len {H : Hp} : ∀ {vs ds}, Rep H vs ds → vs.length = ds.length
  | _, _, .nil => rfl
  | _, _, .cons _ r => congrArg (· + 1) r.len
def spTokenEnd (K : PySem.W.Frag) : Sp := fun vs H Q _ => ∃ (a : List Nat) (i : Nat), vs = [.str (S a), .int (i : Int)] ∧ i < a.length ∧ a.length ≤ 1000 ∧ Q (.int ((i + tokLen (a.drop i) : Nat) : Int)) H
theorem okTokenEnd (T : Txt K mg) : FnOk P w K mg base CX0 2 T.fTokenEnd T.fdTokenEnd ["text", "at"] (spTokenEnd K) := by
  refine T.FTokenEnd.ok scTokenEnd (fun vs H Q E h => ?_) (fun cdv A outer s H vs Q E hr h => ?_)
  · obtain ⟨a, i, rfl, _⟩ := h
    rfl
  · obtain ⟨a, i, rfl, hi, ha, q⟩ := h
    -- slots text=0 at=1 end=2 behind=3
    refine ⟨_, (pss_cons (ps_if (pt_cmpR op_in_sign (pe_ix ix_str (pv 0) (pv 1) (fun _ _ => rfl)) (pe_glob (v := (.str "0123456789")) rfl T.g_DIGITS ⟨_, rfl⟩) rfl)
          (pss_cons (ps_set (i := 2) scTokenEnd.nd rfl (Or.inl rfl) (pe_call (okRunEnd T) (hr.mono (by decide)) (by rfl) T.gRunEnd T.FRunEnd.kp T.bRunEnd .nil pass0 (pa_cons (pv 0) (pa_cons (pv 1) (pa_cons (pe_glob (v := (.str "0123456789")) rfl T.g_DIGITS ⟨_, rfl⟩) pa_nil)))))
          (pss_cons (ps_set (i := 3) scTokenEnd.nd rfl (Or.inl rfl) (pe_call (okRunEnd T) (hr.mono (by decide)) (by rfl) T.gRunEnd T.FRunEnd.kp T.bRunEnd .nil pass0 (pa_cons (pv 0) (pa_cons (pe_op op_add (pv 2) pe_int) (pa_cons (pe_glob (v := (.str "0123456789")) rfl T.g_DIGITS ⟨_, rfl⟩) pa_nil)))))
          (pss_cons (ps_if (PW.pt (pw_and (pt_cmpR op_eq (pe_slice C8.sl_txt (pv 0) (po_some (pv 2)) (po_some (pe_op op_add (pv 2) pe_int))) pe_str (nomark _)) (pw_and1 (pt_cmpR op_gt (pv 3) (pe_op op_add (pv 2) pe_int) (nomark _)))))
            (pss_one (ps_ret (pv 3)))
            pss_nil)
          (pss_one (ps_ret (pv 2))))))
          pss_nil)
        (pss_cons (ps_if (pt_cmpR op_in_sign (pe_ix ix_str (pv 0) (pv 1) (fun _ _ => rfl)) (pe_glob (v := (.str "ABCDEFGHIJKLMNOPQRSTUVWXYZ")) rfl T.g_CAPITALS ⟨_, rfl⟩) rfl)
          (pss_one (ps_ret (pe_call (okRunEnd T) (hr.mono (by decide)) (by rfl) T.gRunEnd T.FRunEnd.kp T.bRunEnd .nil pass0 (pa_cons (pv 0) (pa_cons (pe_call (okRunEnd T) (hr.mono (by decide)) (by rfl) T.gRunEnd T.FRunEnd.kp T.bRunEnd .nil pass0 (pa_cons (pv 0) (pa_cons (pv 1) (pa_cons (pe_glob (v := (.str "ABCDEFGHIJKLMNOPQRSTUVWXYZ")) rfl T.g_CAPITALS ⟨_, rfl⟩) pa_nil)))) (pa_cons (pe_glob (v := (.str "0123456789")) rfl T.g_DIGITS ⟨_, rfl⟩) pa_nil))))))
          pss_nil)
        (pss_cons (ps_if (pt_cmpR op_in_sign (pe_ix ix_str (pv 0) (pv 1) (fun _ _ => rfl)) (pe_glob (v := (.str "abcdefghijklmnopqrstuvwxyz")) rfl T.g_SMALL ⟨_, rfl⟩) rfl)
          (pss_one (ps_ret (pe_call (okRunEnd T) (hr.mono (by decide)) (by rfl) T.gRunEnd T.FRunEnd.kp T.bRunEnd .nil pass0 (pa_cons (pv 0) (pa_cons (pv 1) (pa_cons (pe_glob (v := (.str "abcdefghijklmnopqrstuvwxyz")) rfl T.g_SMALL ⟨_, rfl⟩) pa_nil))))))
          pss_nil)
        (pss_one (ps_ret (pe_op op_add (pv 1) pe_int)))))), ?_⟩
    have ec : a[i]? = some a[i] := List.getElem?_eq_getElem hi
    have eh : (a.drop i).headD 0 = a[i] := by rw [List.drop_eq_getElem_cons hi]; rfl
    have zS : (S a).length ≤ sizeLine := by rw [S_len]; exact sz100 (by omega)
    unfold tokLen at q
    rw [eh] at q
    generalize a[i] = c at ec q
    have atc : atI (S a).cps.toList (i : Int) = some c := atI_nat (show a[i]? = some c from ec)
    refine ⟨_, rfl, _, rfl, S a, _, c, rfl, rfl, zS, atc, c, _, rfl, rfl, _, rfl, ?_⟩
    rw [dig_mem]
    cases h1 : dig c with
    | true =>
      rw [if_pos h1] at q
      refine iteT ⟨_, rfl, _, rfl, a, i, _, rfl, by omega, ?_⟩
      rw [rn_dig]
      generalize hk : ((a.drop i).takeWhile dig).length = k at q
      have hk1 := tw_le (p := dig) (a.drop i)
      rw [hk, List.length_drop] at hk1
      refine ⟨_, rfl, _, rfl, _, _, rfl, rfl, a, i + k + 1, _, rfl, by omega, ?_⟩
      rw [rn_dig]
      have ed : a.drop (i + k + 1) = (a.drop i).drop (k + 1) := by rw [List.drop_drop, Nat.add_assoc]
      rw [ed]
      generalize ((List.drop (k + 1) (List.drop i a)).takeWhile dig).length = m at q
      refine ⟨_, rfl, _, rfl, _, rfl, _, rfl, _, _, rfl, rfl, _, rfl, S a, rfl, zS, ?_⟩
      have e1 : Txt.slice (S a) (some ((i + k : Nat) : Int)) (some (((i + k : Nat) : Int) + 1)) = S ((a.drop (i + k)).take 1) := by
        have := slice_mid (a := a) (show i + k ≤ i + k + 1 by omega)
        rw [show i + k + 1 - (i + k) = 1 by omega] at this
        exact this
      rw [e1]
      refine ⟨rfl, _, rfl, ?_⟩
      have e2 : decide (V.str (S ((a.drop (i + k)).take 1)) = V.str ("." : Str)) = decide ((a.drop i)[k]? = some 46) := by
        rw [pt_S]
        refine decide_eq_decide.mpr ?_
        rw [List.getElem?_drop]
        cases e3 : a.drop (i + k) with
        | nil =>
          have hl : a.length ≤ i + k := by
            have := congrArg List.length e3
            rw [List.length_drop] at this
            simp at this
            omega
          rw [List.getElem?_eq_none (by omega)]
          refine ⟨fun z => ?_, fun z => by cases z⟩
          have := SX.S_inj (V.str.inj z)
          cases this
        | cons x r =>
          have e4 : a[i + k]? = some x := by
            have := congrArg (fun l => l[0]?) e3
            rw [List.getElem?_drop] at this
            simpa using this
          rw [e4]
          refine ⟨fun z => ?_, fun z => ?_⟩
          · have := SX.S_inj (V.str.inj z)
            simp at this
            rw [this]
          · rw [Option.some.inj z]
            rfl
      show if decide (V.str (S ((a.drop (i + k)).take 1)) = V.str ("." : Str)) = true then _ else _
      rw [e2]
      by_cases h2 : (a.drop i)[k]? = some 46
      · rw [decide_eq_true h2]
        refine iteT ⟨_, rfl, _, rfl, _, _, rfl, rfl, _, _, rfl, rfl, _, rfl, ?_⟩
        by_cases h3 : 0 < m
        · rw [if_pos ⟨h2, h3⟩] at q
          refine ite2 (fun _ => ⟨_, rfl, ?_⟩) (fun z => absurd (decide_eq_true (by omega)) z)
          rw [show i + k + 1 + m = i + (k + 1 + m) by omega]
          exact q
        · rw [if_neg fun z => h3 z.2] at q
          refine ite2 (fun z => absurd (of_decide_eq_true z) (by omega)) (fun _ => ⟨_, rfl, q⟩)
      · rw [decide_eq_false h2]
        rw [if_neg fun z => h2 z.1] at q
        exact iteF (iteF ⟨_, rfl, q⟩)
    | false =>
      rw [if_neg (by rw [h1]; decide)] at q
      refine iteF ⟨_, rfl, _, rfl, S a, _, c, rfl, rfl, zS, atc, c, _, rfl, rfl, _, rfl, ?_⟩
      rw [cap_mem]
      cases h2 : cap c with
      | true =>
        rw [if_pos h2] at q
        refine iteT ⟨_, rfl, _, rfl, _, rfl, a, i, _, rfl, by omega, ?_⟩
        rw [rn_cap]
        generalize ((a.drop i).takeWhile cap).length = k at q
        refine ⟨a, i + k, _, rfl, by omega, ?_⟩
        rw [rn_dig, ← List.drop_drop, Nat.add_assoc]
        exact q
      | false =>
        rw [if_neg (by rw [h2]; decide)] at q
        refine iteF ⟨_, rfl, _, rfl, S a, _, c, rfl, rfl, zS, atc, c, _, rfl, rfl, _, rfl, ?_⟩
        rw [sml_mem]
        cases h3 : sml c with
        | true =>
          rw [if_pos h3] at q
          refine iteT ⟨_, rfl, _, rfl, a, i, _, rfl, by omega, ?_⟩
          rw [rn_sml]
          exact q
        | false =>
          rw [if_neg (by rw [h3]; decide)] at q
          exact iteF ⟨_, rfl, _, _, rfl, rfl, q⟩
def spKind (K : PySem.W.Frag) : Sp := fun vs H Q _ => ∃ (c : Nat) (r : List Nat), vs = [.str (S (c :: r))] ∧ (c :: r).length ≤ 1000 ∧ ∀ H', Same H H' → Q (.str (kindOf (c :: r))) H'
theorem okKind (T : Txt K mg) : FnOk P w K mg base CX0 3 T.fKind T.fdKind ["token"] (spKind K) := by
  refine T.FKind.ok scKind (fun vs H Q E h => ?_) (fun cdv A outer s H vs Q E hr h => ?_)
  · obtain ⟨c, r, rfl, _⟩ := h
    rfl
  · obtain ⟨c, r, rfl, ha, q⟩ := h
    -- slots token=0 first=1
    refine ⟨_, (pss_cons (ps_set (i := 1) scKind.nd rfl (Or.inl rfl) (pe_ix ix_str (pv 0) pe_int (fun _ _ => rfl)))
        (pss_cons (ps_if (PW.pt (pw_and (pt_cmpR op_in_sign (pv 1) (pe_glob (v := (.str "0123456789")) rfl T.g_DIGITS ⟨_, rfl⟩) rfl) (pw_and1 (pt_cmpR op_notN (pe_call (okReadDecimal T) (hr.mono (by decide)) (by rfl) T.gReadDecimal T.FReadDecimal.kp T.bReadDecimal .nil pass0 (pa_cons (pv 0) pa_nil)) pe_non (nomark _)))))
          (pss_one (ps_ret pe_str))
          pss_nil)
        (pss_cons (ps_if (PW.pt (pw_and (pt_cmpR op_in_sign (pv 1) (pe_glob (v := (.str "ABCDEFGHIJKLMNOPQRSTUVWXYZ")) rfl T.g_CAPITALS ⟨_, rfl⟩) rfl) (pw_and1 (pt_cmpR op_notN (pe_call (okReadAddress T) (hr.mono (by decide)) (by rfl) T.gReadAddress T.FReadAddress.kp T.bReadAddress .nil pass0 (pa_cons (pv 0) pa_nil)) pe_non (nomark _)))))
          (pss_one (ps_ret pe_str))
          pss_nil)
        (pss_cons (ps_if (PW.pt (pw_and (pt_cmpR op_in_sign (pv 1) (pe_glob (v := (.str "abcdefghijklmnopqrstuvwxyz")) rfl T.g_SMALL ⟨_, rfl⟩) rfl) (pw_and1 (pt_cmpR op_le (pe_callB call_len_str (by rfl) T.z_len PySem.boot_len (pa_cons (pv 0) pa_nil)) (pe_glob (v := (.int 8)) rfl T.g_LONGEST_WORD ⟨_, rfl⟩) (nomark _)))))
          (pss_one (ps_ret pe_str))
          pss_nil)
        (pss_cons (ps_if (pt_cmpR op_in_sign (pv 1) (pe_glob (v := (.str "+-*/(),:")) rfl T.g_SIGNS ⟨_, rfl⟩) rfl)
          (pss_one (ps_ret pe_str))
          pss_nil)
        (pss_one (ps_ret pe_str))))))), ?_⟩
    have zS : (S (c :: r)).length ≤ sizeLine := by rw [S_len]; exact sz100 (by omega)
    have eh : (c :: r).headD 0 = c := rfl
    unfold kindOf at q
    rw [eh] at q
    refine ⟨_, rfl, S (c :: r), 0, c, rfl, rfl, zS, atI_nat (j := 0) rfl, ?_⟩
    -- a decimal
    refine ⟨_, rfl, c, _, rfl, rfl, _, rfl, ?_⟩
    rw [dig_mem]
    refine ite2 (fun h1 => ⟨_, rfl, c :: r, rfl, ha, fun hn H1 s1 => ?_, fun ho p x y H1 s1 _ _ => ?_⟩) (fun h1 => iteF ?_)
    rotate_left
    · refine ⟨rfl, _, rfl, iteT ?_⟩
      have q2 := q H1 s1
      rw [if_pos ⟨h1, ho⟩] at q2
      exact q2
    rotate_left
    · refine ⟨rfl, _, rfl, iteF ?_⟩
      have hno : ¬ (dig c = true ∧ okD (c :: r)) := fun z => hn z.2
      have q2 : ∀ H', Same H H' → Q (.str (if cap c = true ∧ okA (c :: r) then "address" else if sml c = true ∧ (c :: r).length ≤ 8 then "word" else if sgnC c = true then "sign" else "bad")) H' := fun H' s => by
        have := q H' s
        rw [if_neg hno] at this
        exact this
      clear q
      refine ⟨_, rfl, c, _, rfl, rfl, _, rfl, ?_⟩
      rw [cap_mem]
      refine ite2 (fun g1 => ⟨_, rfl, c :: r, rfl, ha, fun hn2 H2 s2 => ?_, fun ho2 p2 H2 s2 _ => ?_⟩) (fun g1 => iteF ?_)
      rotate_left
      · refine ⟨rfl, _, rfl, iteT ?_⟩
        have q3 := q2 H2 (s1.trans s2)
        rw [if_pos ⟨g1, ho2⟩] at q3
        exact q3
      rotate_left
      · refine ⟨rfl, _, rfl, iteF ?_⟩
        have hno2 : ¬ (cap c = true ∧ okA (c :: r)) := fun z => hn2 z.2
        have q3 := q2 H2 (s1.trans s2)
        rw [if_neg hno2] at q3
        refine ⟨_, rfl, c, _, rfl, rfl, _, rfl, ?_⟩
        rw [sml_mem]
        have fin : ∀ (Hz : Hp), (¬ (sml c = true ∧ (c :: r).length ≤ 8)) → True := fun _ _ => trivial
        by_cases k1 : sml c = true ∧ (c :: r).length ≤ 8
        · rw [if_pos k1] at q3
          rw [k1.1]
          refine iteT ⟨_, rfl, S (c :: r), rfl, zS, _, _, rfl, rfl, _, rfl, ?_⟩
          rw [S_len]
          exact ite2 (fun _ => q3) (fun z => absurd (decide_eq_true (by have := k1.2; omega)) z)
        · rw [if_neg k1] at q3
          refine ite2 (fun w1 => ⟨_, rfl, S (c :: r), rfl, zS, _, _, rfl, rfl, _, rfl, ?_⟩) (fun w1 => iteF ?_)
          · rw [S_len]
            refine ite2 (fun z => absurd ⟨w1, by have := of_decide_eq_true z; omega⟩ k1) (fun _ => ?_)
            refine ⟨_, rfl, c, _, rfl, rfl, _, rfl, ?_⟩
            rw [sgn_mem]
            refine ite2 (fun w2 => ?_) (fun w2 => ?_)
            · rw [if_pos w2] at q3
              exact q3
            · rw [if_neg w2] at q3
              exact q3
          · refine ⟨_, rfl, c, _, rfl, rfl, _, rfl, ?_⟩
            rw [sgn_mem]
            refine ite2 (fun w2 => ?_) (fun w2 => ?_)
            · rw [if_pos w2] at q3
              exact q3
            · rw [if_neg w2] at q3
              exact q3
      · have hno2 : ¬ (cap c = true ∧ okA (c :: r)) := fun z => g1 z.1
        have q3 := q2 H1 s1
        rw [if_neg hno2] at q3
        refine ⟨_, rfl, c, _, rfl, rfl, _, rfl, ?_⟩
        rw [sml_mem]
        have fin : ∀ (Hz : Hp), (¬ (sml c = true ∧ (c :: r).length ≤ 8)) → True := fun _ _ => trivial
        by_cases k1 : sml c = true ∧ (c :: r).length ≤ 8
        · rw [if_pos k1] at q3
          rw [k1.1]
          refine iteT ⟨_, rfl, S (c :: r), rfl, zS, _, _, rfl, rfl, _, rfl, ?_⟩
          rw [S_len]
          exact ite2 (fun _ => q3) (fun z => absurd (decide_eq_true (by have := k1.2; omega)) z)
        · rw [if_neg k1] at q3
          refine ite2 (fun w1 => ⟨_, rfl, S (c :: r), rfl, zS, _, _, rfl, rfl, _, rfl, ?_⟩) (fun w1 => iteF ?_)
          · rw [S_len]
            refine ite2 (fun z => absurd ⟨w1, by have := of_decide_eq_true z; omega⟩ k1) (fun _ => ?_)
            refine ⟨_, rfl, c, _, rfl, rfl, _, rfl, ?_⟩
            rw [sgn_mem]
            refine ite2 (fun w2 => ?_) (fun w2 => ?_)
            · rw [if_pos w2] at q3
              exact q3
            · rw [if_neg w2] at q3
              exact q3
          · refine ⟨_, rfl, c, _, rfl, rfl, _, rfl, ?_⟩
            rw [sgn_mem]
            refine ite2 (fun w2 => ?_) (fun w2 => ?_)
            · rw [if_pos w2] at q3
              exact q3
            · rw [if_neg w2] at q3
              exact q3
    · have hno : ¬ (dig c = true ∧ okD (c :: r)) := fun z => h1 z.1
      have q2 : ∀ H', Same H H' → Q (.str (if cap c = true ∧ okA (c :: r) then "address" else if sml c = true ∧ (c :: r).length ≤ 8 then "word" else if sgnC c = true then "sign" else "bad")) H' := fun H' s => by
        have := q H' s
        rw [if_neg hno] at this
        exact this
      clear q
      have s1 := Same.refl H
      refine ⟨_, rfl, c, _, rfl, rfl, _, rfl, ?_⟩
      rw [cap_mem]
      refine ite2 (fun g1 => ⟨_, rfl, c :: r, rfl, ha, fun hn2 H2 s2 => ?_, fun ho2 p2 H2 s2 _ => ?_⟩) (fun g1 => iteF ?_)
      rotate_left
      · refine ⟨rfl, _, rfl, iteT ?_⟩
        have q3 := q2 H2 (s1.trans s2)
        rw [if_pos ⟨g1, ho2⟩] at q3
        exact q3
      rotate_left
      · refine ⟨rfl, _, rfl, iteF ?_⟩
        have hno2 : ¬ (cap c = true ∧ okA (c :: r)) := fun z => hn2 z.2
        have q3 := q2 H2 (s1.trans s2)
        rw [if_neg hno2] at q3
        refine ⟨_, rfl, c, _, rfl, rfl, _, rfl, ?_⟩
        rw [sml_mem]
        have fin : ∀ (Hz : Hp), (¬ (sml c = true ∧ (c :: r).length ≤ 8)) → True := fun _ _ => trivial
        by_cases k1 : sml c = true ∧ (c :: r).length ≤ 8
        · rw [if_pos k1] at q3
          rw [k1.1]
          refine iteT ⟨_, rfl, S (c :: r), rfl, zS, _, _, rfl, rfl, _, rfl, ?_⟩
          rw [S_len]
          exact ite2 (fun _ => q3) (fun z => absurd (decide_eq_true (by have := k1.2; omega)) z)
        · rw [if_neg k1] at q3
          refine ite2 (fun w1 => ⟨_, rfl, S (c :: r), rfl, zS, _, _, rfl, rfl, _, rfl, ?_⟩) (fun w1 => iteF ?_)
          · rw [S_len]
            refine ite2 (fun z => absurd ⟨w1, by have := of_decide_eq_true z; omega⟩ k1) (fun _ => ?_)
            refine ⟨_, rfl, c, _, rfl, rfl, _, rfl, ?_⟩
            rw [sgn_mem]
            refine ite2 (fun w2 => ?_) (fun w2 => ?_)
            · rw [if_pos w2] at q3
              exact q3
            · rw [if_neg w2] at q3
              exact q3
          · refine ⟨_, rfl, c, _, rfl, rfl, _, rfl, ?_⟩
            rw [sgn_mem]
            refine ite2 (fun w2 => ?_) (fun w2 => ?_)
            · rw [if_pos w2] at q3
              exact q3
            · rw [if_neg w2] at q3
              exact q3
      · have hno2 : ¬ (cap c = true ∧ okA (c :: r)) := fun z => g1 z.1
        have q3 := q2 H s1
        rw [if_neg hno2] at q3
        refine ⟨_, rfl, c, _, rfl, rfl, _, rfl, ?_⟩
        rw [sml_mem]
        have fin : ∀ (Hz : Hp), (¬ (sml c = true ∧ (c :: r).length ≤ 8)) → True := fun _ _ => trivial
        by_cases k1 : sml c = true ∧ (c :: r).length ≤ 8
        · rw [if_pos k1] at q3
          rw [k1.1]
          refine iteT ⟨_, rfl, S (c :: r), rfl, zS, _, _, rfl, rfl, _, rfl, ?_⟩
          rw [S_len]
          exact ite2 (fun _ => q3) (fun z => absurd (decide_eq_true (by have := k1.2; omega)) z)
        · rw [if_neg k1] at q3
          refine ite2 (fun w1 => ⟨_, rfl, S (c :: r), rfl, zS, _, _, rfl, rfl, _, rfl, ?_⟩) (fun w1 => iteF ?_)
          · rw [S_len]
            refine ite2 (fun z => absurd ⟨w1, by have := of_decide_eq_true z; omega⟩ k1) (fun _ => ?_)
            refine ⟨_, rfl, c, _, rfl, rfl, _, rfl, ?_⟩
            rw [sgn_mem]
            refine ite2 (fun w2 => ?_) (fun w2 => ?_)
            · rw [if_pos w2] at q3
              exact q3
            · rw [if_neg w2] at q3
              exact q3
          · refine ⟨_, rfl, c, _, rfl, rfl, _, rfl, ?_⟩
            rw [sgn_mem]
            refine ite2 (fun w2 => ?_) (fun w2 => ?_)
            · rw [if_pos w2] at q3
              exact q3
            · rw [if_neg w2] at q3
              exact q3
def spTokens (K : PySem.W.Frag) : Sp := fun vs H Q _ => ∃ (a : List Nat), vs = [.str (S a)] ∧ a.length ≤ 1000 ∧ ∀ d H' rs, Same H H' → H' d = some (.lst rs) → Rep H' rs (toks a) → Q (.ref d) H'
theorem spc_S : (" " : Str) = S [32] := by decide +kernel
theorem toks_len : ∀ (n : Nat) (a : List Nat), a.length ≤ n → (toks a).length ≤ n
  | n, [], _ => by rw [toks_nil]; exact Nat.zero_le _
  | 0, c :: r, h => by simp at h
  | n + 1, c :: r, h => by
    have hp := tokLen_pos c r
    have hl : ((c :: r).drop (tokLen (c :: r))).length ≤ n := by
      rw [List.length_drop]
      omega
    have ih := toks_len n _ hl
    rw [toks_cons]
    split
    · omega
    · rw [List.length_cons]
      omega
theorem okTokenList (T : Txt K mg) : FnOk P w K mg base CX0 4 T.fTokenList T.fdTokenList ["text"] (spTokens K) := by
  refine T.FTokenList.ok scTokenList (fun vs H Q E h => ?_) (fun cdv A outer s H vs Q E hr h => ?_)
  · obtain ⟨a, rfl, _⟩ := h
    rfl
  · obtain ⟨a, rfl, ha, q⟩ := h
    -- slots text=0 found=1 at=2 end=3
    refine ⟨_, (pss_cons (ps_set (i := 1) scTokenList.nd rfl (Or.inl rfl) (pe_lst pa_nil))
        (pss_cons (ps_set (i := 2) scTokenList.nd rfl (Or.inl rfl) pe_int)
        (pss_cons (ps_while PassesOwn.never (pt_cmpR op_lt (pv 2) (pe_callB call_len_str (by rfl) T.z_len PySem.boot_len (pa_cons (pv 0) pa_nil)) (nomark _))
          (pss_cons (ps_set (i := 3) scTokenList.nd rfl (Or.inl rfl) (pe_call (okTokenEnd T) (hr.mono (by decide)) (by rfl) T.gTokenEnd T.FTokenEnd.kp T.bTokenEnd .nil pass0 (pa_cons (pv 0) (pa_cons (pv 2) pa_nil))))
          (C8.pss_cut (ps_if (pt_cmpR op_ne (pe_ix ix_str (pv 0) (pv 2) (fun _ _ => rfl)) pe_str (nomark _))
            (pss_one (ps_expr (pe_bm PySem.F.plainAttrs_list PySem.F.slot_list_append PySem.F.type_list_append mt_append (pv 1) (pa_cons (pe_tup (pa_cons (pe_call (okKind T) (hr.mono (by decide)) (by rfl) T.gKind T.FKind.kp T.bKind .nil pass0 (pa_cons (pe_slice C8.sl_txt (pv 0) (po_some (pv 2)) (po_some (pv 3))) pa_nil)) (pa_cons (pe_slice C8.sl_txt (pv 0) (po_some (pv 2)) (po_some (pv 3))) pa_nil))) pa_nil))))
            pss_nil)
          (pss_one (ps_set (i := 2) scTokenList.nd rfl (Or.inl rfl) (pv 3))))))
        (pss_one (ps_ret (pv 1)))))), ?_⟩
    have zS : (S a).length ≤ sizeLine := by rw [S_len]; exact sz100 (by omega)
    refine ⟨Nat.zero_le _, fun d hd => ?_⟩
    refine while_by (fun σ H' => ∃ (i : Nat) (rs : List V) (ds : List (Str × List Nat)) (c3 : Option V), σ = [some (.str (S a)), some (.ref d), some (.int (i : Int)), c3] ∧ i ≤ a.length ∧ Same H H' ∧ H' d = some (.lst rs) ∧ Rep H' rs ds ∧ ds ++ toks (a.drop i) = toks a) (fun σ _ => match σ with | [_, _, some (.int n), _] => a.length - n.toNat | _ => 0) ⟨0, [], [], none, rfl, Nat.zero_le _, same_new hd, upd_same, .nil, rfl⟩ ?_ (fun σ H Q Q' m h => by
      obtain ⟨v, hv, v2, hv2, z2, e1, e2, i, j, e3, e4, k, e5, q⟩ := h
      exact ⟨v, hv, v2, hv2, z2, e1, e2, i, j, e3, e4, k, e5, m _ _ q⟩)
    rintro σ H1 ⟨i, rs, ds, c3, rfl, hi, s1, hd1, R1, e1⟩
    have ll : rs.length ≤ 1000 := by
      rw [R1.len]
      have := toks_len a.length a (Nat.le_refl _)
      rw [← e1, List.length_append] at this
      omega
    refine ⟨_, rfl, _, rfl, S a, rfl, zS, _, _, rfl, rfl, _, rfl, ite2 (fun c => ?_) (fun c => ?_)⟩
    · have hlt : i < a.length := by
        have c2 := of_decide_eq_true c
        rw [S_len] at c2
        omega
      have ec : a[i]? = some a[i] := List.getElem?_eq_getElem hlt
      have ed : a.drop i = a[i] :: a.drop (i + 1) := List.drop_eq_getElem_cons hlt
      generalize a[i] = ch at ec ed
      have hp : 0 < tokLen (a.drop i) := by rw [ed]; exact tokLen_pos _ _
      have hle : i + tokLen (a.drop i) ≤ a.length := by
        have h := tokLen_le (c := ch) (r := a.drop (i + 1))
        rw [← ed, List.length_drop] at h
        omega
      refine ⟨_, rfl, _, rfl, a, i, rfl, hlt, ha, ?_⟩
      have ek : toks (a.drop i) = if ch = 32 then toks (a.drop (i + tokLen (a.drop i))) else (kindOf ((a.drop i).take (tokLen (a.drop i))), (a.drop i).take (tokLen (a.drop i))) :: toks (a.drop (i + tokLen (a.drop i))) := by
        rw [← List.drop_drop]
        conv => lhs; rw [ed, toks_cons]
        rw [← ed]
      refine ⟨fun σ H' => ∃ (rs : List V) (ds : List (Str × List Nat)), σ = [some (.str (S a)), some (.ref d), some (.int (i : Int)), some (.int ((i + tokLen (a.drop i) : Nat) : Int))] ∧ Same H H' ∧ H' d = some (.lst rs) ∧ Rep H' rs ds ∧ ds ++ toks (a.drop (i + tokLen (a.drop i))) = toks a, ?_, ?_⟩
      · refine ⟨_, rfl, _, rfl, S a, _, ch, rfl, rfl, zS, atI_nat (show a[i]? = some ch from ec), rfl, _, rfl, ?_⟩
        have e32 : decide (V.str ⟨#[ch]⟩ = V.str (" " : Str)) = decide (ch = 32) := by
          rw [spc_S]
          refine decide_eq_decide.mpr ⟨fun z => ?_, fun z => by rw [z]⟩
          have := SX.S_inj (a := [ch]) (b := [32]) (V.str.inj z)
          simpa using this
        rw [e32]
        by_cases h32 : ch = 32
        · rw [decide_eq_true h32]
          refine iteF ⟨rs, ds, rfl, s1, hd1, R1, ?_⟩
          rw [if_pos h32] at ek
          rw [← ek]
          exact e1
        · rw [decide_eq_false h32]
          rw [if_neg h32] at ek
          have esl : Txt.slice (S a) (some (i : Int)) (some ((i + tokLen (a.drop i) : Nat) : Int)) = S ((a.drop i).take (tokLen (a.drop i))) := by
            have := slice_mid (a := a) (show i ≤ i + tokLen (a.drop i) by omega)
            rw [show i + tokLen (a.drop i) - i = tokLen (a.drop i) by omega] at this
            exact this
          obtain ⟨w, hw⟩ : ∃ w, (a.drop i).take (tokLen (a.drop i)) = ch :: w := by
            rw [ed] at hp ⊢
            obtain ⟨n, hn⟩ : ∃ n, tokLen (ch :: a.drop (i + 1)) = n + 1 := ⟨_, (Nat.succ_pred_eq_of_pos hp).symm⟩
            rw [hn]
            exact ⟨_, rfl⟩
          have wl : (ch :: w).length ≤ 1000 := by
            rw [← hw, List.length_take, List.length_drop]
            omega
          refine iteT ⟨_, rfl, .inl ⟨rfl, _, SqL.of hd1⟩, _, rfl, _, rfl, _, rfl, _, rfl, _, rfl, S a, rfl, zS, ?_⟩
          rw [esl, hw]
          refine ⟨ch, w, rfl, wl, fun H2 s2 => ?_⟩
          refine ⟨_, rfl, _, rfl, _, rfl, _, rfl, _, rfl, S a, rfl, zS, ?_⟩
          rw [esl, hw]
          refine ⟨(by show 2 ≤ sizeLine; decide), fun t ht => ?_⟩
          have hd2 := s2 _ _ hd1
          have hd3 : (upd H2 t (.tup [.str (kindOf (ch :: w)), .str (S (ch :: w))])) d = some (.lst rs) := by
            rw [upd_ne (ne_of_none hd2 ht)]
            exact hd2
          refine ⟨d, _, _, rfl, rfl, hd3, small1000 (by omega), rs ++ [.ref t], ds ++ [(kindOf (ch :: w), ch :: w)], rfl, same_mut ((s1.trans s2).trans (same_new ht)) hd, upd_same, ?_, ?_⟩
          · have R2 := (R1.mono (TK.of s2)).mono (TK.of (same_new (o := .tup [.str (kindOf (ch :: w)), .str (S (ch :: w))]) ht))
            refine Rep.snoc ?_ (R2.mono (TK.mut hd3))
            rw [upd_ne (fun z => by
              rw [z, hd2] at ht
              cases ht)]
            exact upd_same
          · rw [List.append_assoc]
            rw [ek, hw] at e1
            exact e1
      rintro σ H3 ⟨rs3, ds3, rfl, s3, hd3, R3, e3⟩
      refine ⟨_, rfl, ⟨i + tokLen (a.drop i), rs3, ds3, some (.int ((i + tokLen (a.drop i) : Nat) : Int)), rfl, hle, s3, hd3, R3, e3⟩, ?_⟩
      show a.length - (((i + tokLen (a.drop i) : Nat) : Int)).toNat < a.length - ((i : Nat) : Int).toNat
      omega
    · have hge : a.length ≤ i := by
        rcases Nat.lt_or_ge i a.length with h | h
        · exact absurd (decide_eq_true (show (i : Int) < ((S a).length : Int) by rw [S_len]; omega)) c
        · exact h
      rw [List.drop_eq_nil_of_le hge, toks_nil, List.append_nil] at e1
      rw [e1] at R1
      exact ⟨_, rfl, q d H1 rs s1 hd1 R1⟩
theorem okTokens (T : Txt K mg) : FnOk P w K mg base CX0 5 T.fTokens T.fdTokens ["text"] (spTokens K) := by
  refine T.FTokens.ok scTokens (fun vs H Q E h => ?_) (fun cdv A outer s H vs Q E hr h => ?_)
  · obtain ⟨a, rfl, _⟩ := h
    rfl
  · obtain ⟨a, rfl, ha, q⟩ := h
    -- slots text=0
    refine ⟨_, (pss_one (ps_ret (pe_call (okTokenList T) (hr.mono (by decide)) (by rfl) T.gTokenList T.FTokenList.kp T.bTokenList .nil pass0 (pa_cons (pv 0) pa_nil)))), ?_⟩
    exact ⟨_, rfl, a, rfl, ha, q⟩
/-! ### drawn tokens -/
theorem at_mem {xs : List Nat} {k : Int} (h0 : 0 ≤ k) (h1 : k < xs.length) : ∃ v ∈ xs, atI xs k = some v := by
  obtain ⟨j, rfl⟩ := Int.eq_ofNat_of_zero_le h0
  exact ⟨xs[j]'(by omega), List.getElem_mem _, atI_nat (List.getElem?_eq_getElem _)⟩
theorem op_mul_str {X : Cx} : OpR X (binaryOp .Mult) (fun x y H Q => ∃ (z : Str) (k : Int), x = .str z ∧ y = .int k ∧ MulOk z k ∧ Q (.str (Txt.mul z k)) H) := by
  intro pins s σ H x y v u Q I rx ry h
  obtain ⟨z, k, rfl, rfl, hk, q⟩ := h
  obtain ⟨t, rfl⟩ := rx
  obtain ⟨t2, rfl⟩ := ry
  exact PySem.SB.mul hk fun t' k' => ⟨.str _, H, I.tok k', ⟨t', rfl⟩, q⟩
theorem spc_ok {k : Int} (h0 : 0 ≤ k) (h1 : k < 2) : MulOk (" " : Str) k ∧ Txt.mul (" " : Str) k = S (List.replicate k.toNat 32) := by
  have e : k = 0 ∨ k = 1 := by omega
  rcases e with rfl | rfl
  · exact ⟨by unfold MulOk; decide +kernel, by decide +kernel⟩
  · exact ⟨by unfold MulOk; decide +kernel, by decide +kernel⟩
theorem len_add {u v : List Nat} (h1 : u.length ≤ 1000) (h2 : v.length ≤ 1000) : (S u).length + (S v).length ≤ sizeLine := by
  rw [S_len, S_len]
  exact sz100 (by omega)
def spDText (K : PySem.W.Frag) : Sp := fun vs H Q _ => ∃ (b : Addr) (m : Int), vs = [.ref b, .int m] ∧ 0 ≤ m ∧ m ≤ 100 ∧ Box H b ∧ ∀ t H', t.length = m.toNat → t.all dig = true → Box H' b → Kp b H H' → Q (.str (S t)) H'
theorem okLawDigitText (T : Txt K mg) : FnOk P w K mg base CX0 2 T.fLawDigitText T.fdLawDigitText ["box", "many"] (spDText K) := by
  refine T.FLawDigitText.ok scLawDigitText (fun vs H Q E h => ?_) (fun cdv A outer s H vs Q E hr h => ?_)
  · obtain ⟨b, m, rfl, _⟩ := h
    rfl
  · obtain ⟨b, m, rfl, m0, m1, B, q⟩ := h
    obtain ⟨m, rfl⟩ := Int.eq_ofNat_of_zero_le m0
    rw [Int.toNat_natCast] at q
    -- slots box=0 many=1 text=2 k=3
    refine ⟨_, (pss_cons (ps_set (i := 2) scLawDigitText.nd rfl (Or.inl rfl) pe_str)
        (pss_cons (ps_for PassesOwn.never rfl (pi_range1 rfl T.z_range (pa_cons (pv 1) pa_nil)) (pg_name (i := 3) scLawDigitText.nd rfl (Or.inl rfl))
          (pss_one (ps_set (i := 2) scLawDigitText.nd rfl (Or.inl rfl) (pe_op op_add_str (pv 2) (pe_ix ix_str pe_str (pe_call (okLawDraw T) (hr.mono (by decide)) (by rfl) T.gLawDraw T.FLawDraw.kp T.bLawDraw .nil pass0 (pa_cons (pv 0) (pa_cons pe_int pa_nil))) (fun _ _ => rfl))))))
        (pss_one (ps_ret (pv 2))))), ?_⟩
    refine ⟨_, rfl, _, rfl, by omega, by omega, for_range (lo := 0) (n := m) (fun i σ H' => ∃ (t : List Nat) (c3 : Option V), σ = [some (.ref b), some (.int (m : Int)), some (.str (S t)), c3] ∧ t.length = i ∧ t.all dig = true ∧ Box H' b ∧ Kp b H H') ⟨[], none, by rw [← emp_S]; rfl, rfl, rfl, B, Kp.refl⟩ ?_ ?_⟩
    · rintro i σ H1 hi ⟨t, c3, rfl, ht, hd, B1, w1⟩
      refine ⟨_, rfl, _, rfl, b, 10, rfl, by decide, B1, fun k H2 k0 k1 B2 w2 => ?_⟩
      obtain ⟨c, hm, hc⟩ := at_mem (xs := ("0123456789" : Str).cps.toList) k0 (Int.lt_of_lt_of_le k1 (by decide +kernel))
      have hdc : dig c = true := by rw [← dig_mem]; exact decide_eq_true hm
      refine ⟨_, k, c, rfl, rfl, by decide +kernel, hc, S t, S [c], rfl, rfl, len_add (by omega) (by simp), t ++ [c], some (.int (0 + (i : Int))), ?_, by rw [List.length_append, ht]; rfl, ?_, B2, w1.trans w2⟩
      · rw [S_cat]
        rfl
      · rw [List.all_append, hd]
        show (true && (dig c && true)) = true
        rw [hdc]
        rfl
    · rintro σ H1 ⟨t, c3, rfl, ht, hd, B1, w1⟩
      exact ⟨_, rfl, q t H1 ht hd B1 w1⟩
def spLetters (K : PySem.W.Frag) : Sp := fun vs H Q _ => ∃ (b : Addr) (m : Int) (z : Str), vs = [.ref b, .int m, .str z] ∧ 0 ≤ m ∧ m ≤ 100 ∧ z.cps.toList.length = 26 ∧ z.length ≤ sizeLine ∧ Box H b ∧ ∀ t H', t.length = m.toNat → (∀ c ∈ t, c ∈ z.cps.toList) → Box H' b → Kp b H H' → Q (.str (S t)) H'
theorem okLawLetters (T : Txt K mg) : FnOk P w K mg base CX0 2 T.fLawLetters T.fdLawLetters ["box", "many", "letters"] (spLetters K) := by
  refine T.FLawLetters.ok scLawLetters (fun vs H Q E h => ?_) (fun cdv A outer s H vs Q E hr h => ?_)
  · obtain ⟨b, m, z, rfl, _⟩ := h
    rfl
  · obtain ⟨b, m, z, rfl, m0, m1, lz, zz, B, q⟩ := h
    obtain ⟨m, rfl⟩ := Int.eq_ofNat_of_zero_le m0
    rw [Int.toNat_natCast] at q
    -- slots box=0 many=1 letters=2 text=3 k=4
    refine ⟨_, (pss_cons (ps_set (i := 3) scLawLetters.nd rfl (Or.inl rfl) pe_str)
        (pss_cons (ps_for PassesOwn.never rfl (pi_range1 rfl T.z_range (pa_cons (pv 1) pa_nil)) (pg_name (i := 4) scLawLetters.nd rfl (Or.inl rfl))
          (pss_one (ps_set (i := 3) scLawLetters.nd rfl (Or.inl rfl) (pe_op op_add_str (pv 3) (pe_ix ix_str (pv 2) (pe_call (okLawDraw T) (hr.mono (by decide)) (by rfl) T.gLawDraw T.FLawDraw.kp T.bLawDraw .nil pass0 (pa_cons (pv 0) (pa_cons pe_int pa_nil))) (fun _ _ => rfl))))))
        (pss_one (ps_ret (pv 3))))), ?_⟩
    refine ⟨_, rfl, _, rfl, by omega, by omega, for_range (lo := 0) (n := m) (fun i σ H' => ∃ (t : List Nat) (c3 : Option V), σ = [some (.ref b), some (.int (m : Int)), some (.str z), some (.str (S t)), c3] ∧ t.length = i ∧ (∀ c ∈ t, c ∈ z.cps.toList) ∧ Box H' b ∧ Kp b H H') ⟨[], none, by rw [← emp_S]; rfl, rfl, (fun c h => nomatch h), B, Kp.refl⟩ ?_ ?_⟩
    · rintro i σ H1 hi ⟨t, c3, rfl, ht, hd, B1, w1⟩
      refine ⟨_, rfl, _, rfl, _, rfl, b, 26, rfl, by decide, B1, fun k H2 k0 k1 B2 w2 => ?_⟩
      obtain ⟨c, hm, hc⟩ := at_mem (xs := z.cps.toList) k0 (by rw [lz]; exact k1)
      refine ⟨z, k, c, rfl, rfl, zz, hc, S t, S [c], rfl, rfl, len_add (by omega) (by simp), t ++ [c], some (.int (0 + (i : Int))), ?_, by rw [List.length_append, ht]; rfl, ?_, B2, w1.trans w2⟩
      · rw [S_cat]
        rfl
      · intro x hx
        rcases List.mem_append.mp hx with h | h
        · exact hd x h
        · obtain rfl : x = c := by simpa using h
          exact hm
    · rintro σ H1 ⟨t, c3, rfl, ht, hd, B1, w1⟩
      exact ⟨_, rfl, q t H1 ht hd B1 w1⟩
/-! the shapes of tokens -/
def ck (c : Nat) : Nat := if dig c = true then 1 else if cap c = true then 2 else if sml c = true then 3 else 0
theorem ck1 {c : Nat} : ck c = 1 ↔ dig c = true := by
  unfold ck
  split
  · rename_i h
    exact ⟨fun _ => h, fun _ => rfl⟩
  · rename_i h
    refine ⟨fun z => ?_, fun z => absurd z h⟩
    split at z
    · cases z
    · split at z <;> cases z
theorem cap_nd {c : Nat} (h : cap c = true) : dig c = false := by
  have := of_decide_eq_true h
  exact decide_eq_false (by omega)
theorem sml_nd {c : Nat} (h : sml c = true) : dig c = false ∧ cap c = false := by
  have := of_decide_eq_true h
  exact ⟨decide_eq_false (by omega), decide_eq_false (by omega)⟩
theorem ck2 {c : Nat} (h : cap c = true) : ck c = 2 := by
  unfold ck
  rw [cap_nd h, h]
  rfl
theorem ck3 {c : Nat} (h : sml c = true) : ck c = 3 := by
  unfold ck
  rw [(sml_nd h).1, (sml_nd h).2, h]
  rfl
theorem ck0 {c : Nat} (h : ck c = 0) : dig c = false ∧ cap c = false ∧ sml c = false := by
  refine ⟨?_, ?_, ?_⟩
  · rw [← Bool.not_eq_true]
    intro z
    rw [ck1.mpr z] at h
    cases h
  · rw [← Bool.not_eq_true]
    intro z
    rw [ck2 z] at h
    cases h
  · rw [← Bool.not_eq_true]
    intro z
    rw [ck3 z] at h
    cases h
inductive Shape : List Nat → Prop where
  | num {ds : List Nat} : ds ≠ [] → ds.all dig = true → Shape ds
  | pt {ds es : List Nat} : ds ≠ [] → ds.all dig = true → es ≠ [] → es.all dig = true → Shape (ds ++ 46 :: es)
  | place {cs ds : List Nat} : cs ≠ [] → cs.all cap = true → ds.all dig = true → Shape (cs ++ ds)
  | word {cs : List Nat} : cs ≠ [] → cs.all sml = true → Shape cs
  | one {c : Nat} : ck c = 0 → c ≠ 32 → Shape [c]
def rtB (t : List Nat) (c : Nat) : Bool :=
  if c = 46 ∧ ck (t.getLastD 0) = 1 then (decide (46 ∉ t) && decide (ck (t.headD 0) = 1))
  else if ck (t.getLastD 0) = 2 ∧ ck c = 1 then true
  else (decide (0 < ck (t.getLastD 0)) && decide (ck (t.getLastD 0) = ck c))
theorem tw_app {p : Nat → Bool} {l r : List Nat} (hl : l.all p = true) (hr : ∀ c, r.head? = some c → p c = false) : ((l ++ r).takeWhile p).length = l.length := by
  cases r with
  | nil =>
    rw [List.append_nil]
    exact tw_all (List.all_eq_true.mp hl)
  | cons c t =>
    refine tw_len (c := c) ?_ ?_ (hr c rfl)
    · rw [List.take_left]
      exact List.all_eq_true.mp hl
    · rw [List.getElem?_append_right (Nat.le_refl _), Nat.sub_self]
      rfl
theorem last_mem {l : List Nat} (h : l ≠ []) : l.getLastD 0 ∈ l := by
  cases l with
  | nil => exact absurd rfl h
  | cons c r =>
    rw [List.getLastD_cons, List.getLastD_eq_getLast?]
    cases e : r.getLast? with
    | none =>
      rw [List.getLast?_eq_none_iff] at e
      rw [e]
      exact List.mem_cons_self
    | some x => exact List.mem_cons_of_mem _ (List.mem_of_getLast? e)
theorem head_mem {l : List Nat} (h : l ≠ []) : l.headD 0 ∈ l := by
  cases l with
  | nil => exact absurd rfl h
  | cons c r => exact List.mem_cons_self
theorem headD_app {l r : List Nat} (h : l ≠ []) : (l ++ r).headD 0 = l.headD 0 := by
  cases l with
  | nil => exact absurd rfl h
  | cons c t => rfl
theorem lastD_app {l r : List Nat} (h : r ≠ []) : (l ++ r).getLastD 0 = r.getLastD 0 := by
  rw [List.getLastD_eq_getLast?, List.getLastD_eq_getLast?, List.getLast?_append]
  cases e : r.getLast? with
  | none => exact absurd (List.getLast?_eq_none_iff.mp e) h
  | some x => rfl
theorem all_at {p : Nat → Bool} {l : List Nat} (h : l.all p = true) {x : Nat} (hx : x ∈ l) : p x = true := List.all_eq_true.mp h x hx
theorem nd46 : dig 46 = false := by decide
theorem free46 {l : List Nat} (h : l.all dig = true) : 46 ∉ l := fun z => by
  have := all_at h z
  cases this
/-- a token is told as it stands, if what follows does not run into it -/
theorem safe {t rest : List Nat} (h : Shape t) (hr : ∀ c, rest.head? = some c → c = 32 ∨ rtB t c = false) : tokLen (t ++ rest) = t.length := by
  have ndig : ∀ t : List Nat, (∀ c, rest.head? = some c → c = 32 ∨ rtB t c = false) → ck (t.getLastD 0) = 1 ∨ ck (t.getLastD 0) = 2 → ∀ c, rest.head? = some c → dig c = false := fun t hr hl c hc => by
    rcases hr c hc with rfl | hb
    · decide
    · rw [← Bool.not_eq_true]
      intro z
      have hc1 := ck1.mpr z
      have h46 : c ≠ 46 := fun y => by rw [y] at z; cases z
      unfold rtB at hb
      rw [if_neg fun y => h46 y.1] at hb
      rcases hl with hl | hl
      · rw [hl, hc1] at hb
        simp at hb
      · rw [if_pos ⟨hl, hc1⟩] at hb
        cases hb
  cases h with
  | num h1 h2 =>
    have hl : ck (t.getLastD 0) = 1 := ck1.mpr (all_at h2 (last_mem h1))
    have hn := ndig t hr (.inl hl)
    have tw := tw_app (r := rest) h2 hn
    unfold tokLen
    rw [headD_app h1, if_pos (all_at h2 (head_mem h1)), tw, if_neg]
    rintro ⟨z, _⟩
    rw [List.getElem?_append_right (Nat.le_refl _), Nat.sub_self] at z
    have zh : rest.head? = some 46 := by
      cases rest with
      | nil => cases z
      | cons c r => exact z
    rcases hr 46 zh with y | y
    · cases y
    · unfold rtB at y
      rw [if_pos ⟨rfl, hl⟩, decide_eq_true (free46 h2), decide_eq_true (ck1.mpr (all_at h2 (head_mem h1)))] at y
      cases y
  | @pt ds es h1 h2 h3 h4 =>
    have e1 : (ds ++ 46 :: es) ++ rest = ds ++ (46 :: (es ++ rest)) := by rw [List.append_assoc]; rfl
    have hl : ck ((ds ++ 46 :: es).getLastD 0) = 1 := by
      rw [lastD_app (List.cons_ne_nil _ _)]
      rw [show (46 :: es).getLastD 0 = es.getLastD 46 from List.getLastD_cons ..]
      have : es.getLastD 46 ∈ es := by
        rw [List.getLastD_eq_getLast?]
        cases e : es.getLast? with
        | none => exact absurd (List.getLast?_eq_none_iff.mp e) h3
        | some x => exact List.mem_of_getLast? e
      exact ck1.mpr (all_at h4 this)
    have hn := ndig _ hr (.inl hl)
    have tw := tw_app (r := 46 :: (es ++ rest)) h2 (fun c hc => by rw [← Option.some.inj hc]; exact nd46)
    have tw2 := tw_app (r := rest) h4 hn
    have dr : (ds ++ (46 :: (es ++ rest))).drop (ds.length + 1) = es ++ rest := by
      rw [← List.drop_drop, List.drop_left]
      rfl
    have at46 : (ds ++ (46 :: (es ++ rest)))[ds.length]? = some 46 := by
      rw [List.getElem?_append_right (Nat.le_refl _), Nat.sub_self]
      rfl
    have el : 0 < es.length := List.length_pos_iff.mpr h3
    rw [e1]
    unfold tokLen
    rw [headD_app h1, if_pos (all_at h2 (head_mem h1)), tw, dr, tw2, if_pos ⟨at46, el⟩, List.length_append, List.length_cons]
    omega
  | @place cs ds h1 h2 h3 =>
    have hd0 : dig (cs.headD 0) = false := cap_nd (all_at h2 (head_mem h1))
    have hlast : ck ((cs ++ ds).getLastD 0) = 1 ∨ ck ((cs ++ ds).getLastD 0) = 2 := by
      by_cases hds : ds = []
      · rw [hds, List.append_nil]
        exact .inr (ck2 (all_at h2 (last_mem h1)))
      · rw [lastD_app hds]
        exact .inl (ck1.mpr (all_at h3 (last_mem hds)))
    have hn := ndig _ hr hlast
    have ncap : ∀ c, (ds ++ rest).head? = some c → cap c = false := fun c hc => by
      cases ds with
      | cons x r =>
        have : x = c := Option.some.inj hc
        have hx := all_at h3 (List.mem_cons_self (a := x) (l := r))
        rw [this] at hx
        rw [← Bool.not_eq_true]
        intro z
        rw [cap_nd z] at hx
        cases hx
      | nil =>
        rw [List.append_nil] at hr
        rcases hr c hc with rfl | hb
        · decide
        · rw [← Bool.not_eq_true]
          intro z
          have l2 := ck2 (all_at h2 (last_mem h1))
          unfold rtB at hb
          rw [l2, ck2 z] at hb
          simp at hb
    have tw := tw_app (r := ds ++ rest) h2 ncap
    have tw2 := tw_app (r := rest) h3 hn
    rw [List.append_assoc]
    unfold tokLen
    rw [headD_app h1, if_neg (by rw [hd0]; decide), if_pos (all_at h2 (head_mem h1)), tw, List.drop_left, tw2, List.length_append]
  | word h1 h2 =>
    obtain ⟨n1, n2⟩ := sml_nd (all_at h2 (head_mem h1))
    have nsml : ∀ c, rest.head? = some c → sml c = false := fun c hc => by
      rcases hr c hc with rfl | hb
      · decide
      · rw [← Bool.not_eq_true]
        intro z
        have l3 := ck3 (all_at h2 (last_mem h1))
        unfold rtB at hb
        rw [l3, ck3 z] at hb
        simp at hb
    have tw := tw_app (r := rest) h2 nsml
    unfold tokLen
    rw [headD_app h1, if_neg (by rw [n1]; decide), if_neg (by rw [n2]; decide), if_pos (all_at h2 (head_mem h1)), tw]
  | @one c h1 h2 =>
    obtain ⟨n1, n2, n3⟩ := ck0 h1
    have eh : ([c] ++ rest).headD 0 = c := rfl
    unfold tokLen
    rw [eh, if_neg (by rw [n1]; decide), if_neg (by rw [n2]; decide), if_neg (by rw [n3]; decide)]
    rfl
theorem shape_cons {t : List Nat} (h : Shape t) : ∃ c r, t = c :: r ∧ c ≠ 32 := by
  have ne : ∀ {p : Nat → Bool} {l : List Nat}, l ≠ [] → l.all p = true → p 32 = false → ∃ c r, l = c :: r ∧ c ≠ 32 := fun {p l} h1 h2 h3 => by
    cases l with
    | nil => exact absurd rfl h1
    | cons c r =>
      refine ⟨c, r, rfl, fun z => ?_⟩
      have := all_at h2 (List.mem_cons_self (a := c) (l := r))
      rw [z, h3] at this
      cases this
  cases h with
  | num h1 h2 => exact ne h1 h2 (by decide)
  | pt h1 h2 _ _ =>
    obtain ⟨c, r, e, hc⟩ := ne h1 h2 (by decide)
    rw [e]
    exact ⟨c, _, rfl, hc⟩
  | place h1 h2 _ =>
    obtain ⟨c, r, e, hc⟩ := ne h1 h2 (by decide)
    rw [e]
    exact ⟨c, _, rfl, hc⟩
  | word h1 h2 => exact ne h1 h2 (by decide)
  | one h1 h2 => exact ⟨_, [], rfl, h2⟩
theorem toks_tok {t rest : List Nat} (h : Shape t) (hr : ∀ c, rest.head? = some c → c = 32 ∨ rtB t c = false) : toks (t ++ rest) = (kindOf t, t) :: toks rest := by
  have hs := safe h hr
  obtain ⟨c, r, rfl, hc⟩ := shape_cons h
  rw [List.cons_append] at hs ⊢
  rw [toks_cons, if_neg hc, hs]
  rw [← List.cons_append, List.take_left, List.drop_left]
theorem toks_spc (r : List Nat) : ∀ n : Nat, toks (List.replicate n 32 ++ r) = toks r
  | 0 => rfl
  | n + 1 => by
    rw [List.replicate_succ, List.cons_append, toks_cons, if_pos rfl]
    have : tokLen (32 :: (List.replicate n 32 ++ r)) = 1 := rfl
    rw [this]
    exact toks_spc r n
def Inv2 (D : List (Str × List Nat)) (w : List Nat) : Prop := ∀ tail : List Nat, (∀ k t, D.getLast? = some (k, t) → ∀ c, tail.head? = some c → c = 32 ∨ rtB t c = false) → toks (w ++ tail) = D ++ toks tail
theorem Inv2.start (n : Nat) : Inv2 [] (List.replicate n 32) := fun tail _ => toks_spc tail n
theorem Inv2.step {D : List (Str × List Nat)} {w t : List Nat} {n : Nat} (h : Inv2 D w) (hs : Shape t) (hn : ∀ k u, D.getLast? = some (k, u) → n = 0 → rtB u (t.headD 0) = false) : Inv2 (D ++ [(kindOf t, t)]) (w ++ List.replicate n 32 ++ t) := fun tail ht => by
  have h1 : toks (w ++ (List.replicate n 32 ++ (t ++ tail))) = D ++ toks (List.replicate n 32 ++ (t ++ tail)) := h _ fun k u e c hc => by
    cases n with
    | zero =>
      obtain ⟨x, r, rfl, _⟩ := shape_cons hs
      have : x = c := Option.some.inj hc
      rw [← this]
      exact .inr (hn k u e rfl)
    | succ n =>
      have : 32 = c := Option.some.inj hc
      exact .inl this.symm
  have h2 := toks_tok (rest := tail) hs fun c hc => ht _ _ (List.getLast?_concat ..) c hc
  rw [toks_spc, h2] at h1
  rw [List.append_assoc, List.append_assoc, h1, List.append_assoc]
  rfl
/-! the kinds of these tokens -/
structure TokOk (k : Str) (t : List Nat) : Prop where
  sh : Shape t
  kd : kindOf t = k
theorem sgn_nd {c : Nat} (h : ck c ≠ 0) : sgnC c = false := by
  refine decide_eq_false fun z => h ?_
  simp only [List.mem_cons, List.not_mem_nil, or_false] at z
  rcases z with rfl | rfl | rfl | rfl | rfl | rfl | rfl | rfl <;> rfl
theorem pre46_app {ds es : List Nat} (h : 46 ∉ ds) : pre46 (ds ++ 46 :: es) = ds ∧ post46 (ds ++ 46 :: es) = es := by
  have e : pre46 (ds ++ 46 :: es) = ds := by
    induction ds with
    | nil => rfl
    | cons c r ih =>
      have hc : c ≠ 46 := fun z => h (by rw [z]; exact List.mem_cons_self)
      have e := ih fun z => h (List.mem_cons_of_mem _ z)
      unfold pre46 at e ⊢
      rw [List.cons_append, List.takeWhile_cons, if_pos (decide_eq_true hc), e]
  refine ⟨e, ?_⟩
  unfold post46
  rw [e, ← List.drop_drop, List.drop_left]
  rfl
theorem isD_mk {a : List Nat} (h1 : a ≠ []) (h2 : a.all dig = true) : isD a = true := by
  unfold isD
  rw [h2, Bool.and_true]
  cases a with
  | nil => exact absurd rfl h1
  | cons _ _ => rfl
theorem kind_dig {t : List Nat} (h : dig (t.headD 0) = true) : kindOf t = if okD t then ("decimal" : Str) else "bad" := by
  have h1 : cap (t.headD 0) = false := by
    rw [← Bool.not_eq_true]
    intro z
    rw [cap_nd z] at h
    cases h
  have h2 : sml (t.headD 0) = false := by
    rw [← Bool.not_eq_true]
    intro z
    rw [(sml_nd z).1] at h
    cases h
  have h3 : sgnC (t.headD 0) = false := sgn_nd (by rw [ck1.mpr h]; decide)
  unfold kindOf
  have n1 : ¬ (cap (t.headD 0) = true ∧ okA t) := fun z => by
    rw [h1] at z
    exact Bool.noConfusion z.1
  have n2 : ¬ (sml (t.headD 0) = true ∧ t.length ≤ 8) := fun z => by
    rw [h2] at z
    exact Bool.noConfusion z.1
  have n3 : ¬ (sgnC (t.headD 0) = true) := fun z => by
    rw [h3] at z
    exact Bool.noConfusion z
  by_cases o : okD t
  · rw [if_pos ⟨h, o⟩, if_pos o]
  · rw [if_neg (fun z => o z.2), if_neg n1, if_neg n2, if_neg n3, if_neg o]
theorem kind_cap {t : List Nat} (h : cap (t.headD 0) = true) : kindOf t = if okA t then ("address" : Str) else "bad" := by
  have h1 := cap_nd h
  have h2 : sml (t.headD 0) = false := by
    rw [← Bool.not_eq_true]
    intro z
    rw [(sml_nd z).2] at h
    cases h
  have h3 : sgnC (t.headD 0) = false := sgn_nd (by rw [ck2 h]; decide)
  unfold kindOf
  have n1 : ¬ (dig (t.headD 0) = true ∧ okD t) := fun z => by
    rw [h1] at z
    exact Bool.noConfusion z.1
  have n2 : ¬ (sml (t.headD 0) = true ∧ t.length ≤ 8) := fun z => by
    rw [h2] at z
    exact Bool.noConfusion z.1
  have n3 : ¬ (sgnC (t.headD 0) = true) := fun z => by
    rw [h3] at z
    exact Bool.noConfusion z
  rw [if_neg n1]
  by_cases o : okA t
  · rw [if_pos ⟨h, o⟩, if_pos o]
  · rw [if_neg (fun z => o z.2), if_neg n2, if_neg n3, if_neg o]
theorem kind_sml {t : List Nat} (h : sml (t.headD 0) = true) : kindOf t = if t.length ≤ 8 then ("word" : Str) else "bad" := by
  obtain ⟨h1, h2⟩ := sml_nd h
  have h3 : sgnC (t.headD 0) = false := sgn_nd (by rw [ck3 h]; decide)
  unfold kindOf
  have n1 : ¬ (dig (t.headD 0) = true ∧ okD t) := fun z => by
    rw [h1] at z
    exact Bool.noConfusion z.1
  have n2 : ¬ (cap (t.headD 0) = true ∧ okA t) := fun z => by
    rw [h2] at z
    exact Bool.noConfusion z.1
  have n3 : ¬ (sgnC (t.headD 0) = true) := fun z => by
    rw [h3] at z
    exact Bool.noConfusion z
  rw [if_neg n1, if_neg n2]
  by_cases o : t.length ≤ 8
  · rw [if_pos ⟨h, o⟩, if_pos o]
  · rw [if_neg (fun z => o z.2), if_neg n3, if_neg o]
theorem kind_one {c : Nat} (h : ck c = 0) : kindOf [c] = if sgnC c = true then ("sign" : Str) else "bad" := by
  obtain ⟨h1, h2, h3⟩ := ck0 h
  have e : [c].headD 0 = c := rfl
  unfold kindOf
  have n1 : ¬ (dig ([c].headD 0) = true ∧ okD [c]) := fun z => by
    rw [e, h1] at z
    exact Bool.noConfusion z.1
  have n2 : ¬ (cap ([c].headD 0) = true ∧ okA [c]) := fun z => by
    rw [e, h2] at z
    exact Bool.noConfusion z.1
  have n3 : ¬ (sml ([c].headD 0) = true ∧ [c].length ≤ 8) := fun z => by
    rw [e, h3] at z
    exact Bool.noConfusion z.1
  rw [if_neg n1, if_neg n2, if_neg n3]
  rfl
theorem tok_num {ds : List Nat} (h1 : ds ≠ []) (h2 : ds.all dig = true) : TokOk (if ds.length ≤ 12 then "decimal" else "bad") ds := by
  refine ⟨.num h1 h2, ?_⟩
  rw [kind_dig (all_at h2 (head_mem h1))]
  obtain ⟨e1, e2⟩ := none46 (free46 h2)
  have : okD ds ↔ ds.length ≤ 12 := by
    unfold okD
    rw [e1]
    exact ⟨fun z => z.2.1, fun z => ⟨isD_mk h1 h2, z, fun y => absurd y (free46 h2)⟩⟩
  by_cases o : ds.length ≤ 12
  · rw [if_pos (this.mpr o), if_pos o]
  · rw [if_neg fun z => o (this.mp z), if_neg o]
theorem tok_pt {ds es : List Nat} (h1 : ds ≠ []) (h2 : ds.all dig = true) (h3 : es ≠ []) (h4 : es.all dig = true) : TokOk (if ds.length ≤ 12 ∧ es.length ≤ 6 then "decimal" else "bad") (ds ++ 46 :: es) := by
  refine ⟨.pt h1 h2 h3 h4, ?_⟩
  rw [kind_dig (by rw [headD_app h1]; exact all_at h2 (head_mem h1))]
  obtain ⟨e1, e2⟩ := pre46_app (es := es) (free46 h2)
  have : okD (ds ++ 46 :: es) ↔ (ds.length ≤ 12 ∧ es.length ≤ 6) := by
    unfold okD
    rw [e1, e2]
    exact ⟨fun z => ⟨z.2.1, (z.2.2 (by simp)).2⟩, fun z => ⟨isD_mk h1 h2, z.1, fun _ => ⟨isD_mk h3 h4, z.2⟩⟩⟩
  by_cases o : ds.length ≤ 12 ∧ es.length ≤ 6
  · rw [if_pos (this.mpr o), if_pos o]
  · rw [if_neg fun z => o (this.mp z), if_neg o]
theorem tok_place {cs ds : List Nat} (h1 : cs ≠ []) (h2 : cs.all cap = true) (h3 : ds.all dig = true) : Shape (cs ++ ds) ∧ kindOf (cs ++ ds) = if cs.length ≤ 2 ∧ (ds.length = 1 ∨ ds.length = 2) ∧ ds.head? ≠ some 48 then ("address" : Str) else "bad" := by
  refine ⟨.place h1 h2 h3, ?_⟩
  rw [kind_cap (by rw [headD_app h1]; exact all_at h2 (head_mem h1))]
  have tw := tw_app (r := ds) h2 fun c hc => by
    have hx := all_at h3 (List.mem_of_mem_head? hc)
    rw [← Bool.not_eq_true]
    intro z
    rw [cap_nd z] at hx
    cases hx
  have cl : 0 < cs.length := List.length_pos_iff.mpr h1
  have : okA (cs ++ ds) ↔ (cs.length ≤ 2 ∧ (ds.length = 1 ∨ ds.length = 2) ∧ ds.head? ≠ some 48) := by
    unfold okA
    rw [tw, List.drop_left]
    exact ⟨fun z => ⟨by omega, z.2.1, z.2.2.1⟩, fun z => ⟨by omega, z.2.1, z.2.2, h3⟩⟩
  by_cases o : cs.length ≤ 2 ∧ (ds.length = 1 ∨ ds.length = 2) ∧ ds.head? ≠ some 48
  · rw [if_pos (this.mpr o), if_pos o]
  · rw [if_neg fun z => o (this.mp z), if_neg o]
theorem tok_word {cs : List Nat} (h1 : cs ≠ []) (h2 : cs.all sml = true) : TokOk (if cs.length ≤ 8 then "word" else "bad") cs := ⟨.word h1 h2, kind_sml (all_at h2 (head_mem h1))⟩
/-! the law's own drawing of them -/
def spTok (K : PySem.W.Frag) : Sp := fun vs H Q _ => ∃ (b : Addr), vs = [.ref b] ∧ Box H b ∧ ∀ l k t H', Box H' b → Kp b H H' → H' l = some (.lst [.str k, .str (S t)]) → TokOk k t → t.length ≤ 30 → Q (.ref l) H'
theorem okLawNumber (T : Txt K mg) : FnOk P w K mg base CX0 3 T.fLawNumber T.fdLawNumber ["box"] (spTok K) := by
  refine T.FLawNumber.ok scLawNumber (fun vs H Q E h => ?_) (fun cdv A outer s H vs Q E hr h => ?_)
  · obtain ⟨b, rfl, _⟩ := h
    rfl
  · obtain ⟨b, rfl, B, q⟩ := h
    -- slots box=0 whole=1 text=2 more=3
    refine ⟨_, (pss_cons (ps_set (i := 1) scLawNumber.nd rfl (Or.inl rfl) (pe_op op_add pe_int (pe_call (okLawDraw T) (hr.mono (by decide)) (by rfl) T.gLawDraw T.FLawDraw.kp T.bLawDraw .nil pass0 (pa_cons (pv 0) (pa_cons pe_int pa_nil)))))
        (C8.pss_cut (ps_if (pt_cmpR op_eq (pe_call (okLawDraw T) (hr.mono (by decide)) (by rfl) T.gLawDraw T.FLawDraw.kp T.bLawDraw .nil pass0 (pa_cons (pv 0) (pa_cons pe_int pa_nil))) pe_int (nomark _))
          (pss_one (ps_set (i := 1) scLawNumber.nd rfl (Or.inl rfl) (pe_op op_add pe_int (pe_call (okLawDraw T) (hr.mono (by decide)) (by rfl) T.gLawDraw T.FLawDraw.kp T.bLawDraw .nil pass0 (pa_cons (pv 0) (pa_cons pe_int pa_nil))))))
          pss_nil)
        (pss_cons (ps_set (i := 2) scLawNumber.nd rfl (Or.inl rfl) (pe_call (okLawDigitText T) (hr.mono (by decide)) (by rfl) T.gLawDigitText T.FLawDigitText.kp T.bLawDigitText .nil pass0 (pa_cons (pv 0) (pa_cons (pv 1) pa_nil))))
        (pss_cons (ps_set (i := 3) scLawNumber.nd rfl (Or.inl rfl) pe_int)
        (C8.pss_cut (ps_if (pt_cmpR op_eq (pe_call (okLawDraw T) (hr.mono (by decide)) (by rfl) T.gLawDraw T.FLawDraw.kp T.bLawDraw .nil pass0 (pa_cons (pv 0) (pa_cons pe_int pa_nil))) pe_int (nomark _))
          (pss_cons (ps_set (i := 3) scLawNumber.nd rfl (Or.inl rfl) (pe_op op_add pe_int (pe_call (okLawDraw T) (hr.mono (by decide)) (by rfl) T.gLawDraw T.FLawDraw.kp T.bLawDraw .nil pass0 (pa_cons (pv 0) (pa_cons pe_int pa_nil)))))
          (pss_one (ps_set (i := 2) scLawNumber.nd rfl (Or.inl rfl) (pe_op op_add_str (pe_op op_add_str (pv 2) pe_str) (pe_call (okLawDigitText T) (hr.mono (by decide)) (by rfl) T.gLawDigitText T.FLawDigitText.kp T.bLawDigitText .nil pass0 (pa_cons (pv 0) (pa_cons (pv 3) pa_nil)))))))
          pss_nil)
        (pss_cons (ps_if (PW.pt (pw_or (pt_cmpR op_gt (pv 1) pe_int (nomark _)) (pw_or1 (pt_cmpR op_gt (pv 3) pe_int (nomark _)))))
          (pss_one (ps_ret (pe_lst (pa_cons pe_str (pa_cons (pv 2) pa_nil)))))
          pss_nil)
        (pss_one (ps_ret (pe_lst (pa_cons pe_str (pa_cons (pv 2) pa_nil))))))))))), ?_⟩
    refine ⟨_, rfl, b, 3, rfl, by decide, B, fun w H1 w0 w1 B1 k1 => ⟨_, _, rfl, rfl, ?_⟩⟩
    refine ⟨fun σ H' => ∃ w : Nat, σ = [some (.ref b), some (.int (w : Int)), none, none] ∧ 1 ≤ w ∧ w ≤ 14 ∧ Box H' b ∧ Kp b H H', ?_, ?_⟩
    · refine ⟨_, rfl, b, 4, rfl, by decide, B1, fun y H2 y0 y1 B2 k2 => ⟨rfl, _, rfl, ite2 (fun _ => ?_) (fun _ => ?_)⟩⟩
      · refine ⟨_, rfl, b, 4, rfl, by decide, B2, fun z H3 z0 z1 B3 k3 => ⟨_, _, rfl, rfl, (11 + z).toNat, ?_, by omega, by omega, B3, (k1.trans k2).trans k3⟩⟩
        rw [Int.toNat_of_nonneg (by omega)]
        rfl
      · refine ⟨(1 + w).toNat, ?_, by omega, by omega, B2, k1.trans k2⟩
        rw [Int.toNat_of_nonneg (by omega)]
        rfl
    clear w0 w1
    rintro σ H2 ⟨w, rfl, w0, w1, B2, k2⟩
    refine ⟨_, rfl, _, rfl, b, w, rfl, by omega, by omega, B2, fun ds H3 dl dd B3 k3 => ?_⟩
    rw [Int.toNat_natCast] at dl
    have dne : ds ≠ [] := fun z => by rw [z] at dl; simp at dl; omega
    refine ⟨fun σ H' => ∃ (m : Nat) (t : List Nat), σ = [some (.ref b), some (.int (w : Int)), some (.str (S t)), some (.int (m : Int))] ∧ TokOk (if w ≤ 12 ∧ m ≤ 6 then "decimal" else "bad") t ∧ t.length ≤ 30 ∧ Box H' b ∧ Kp b H H', ?_, ?_⟩
    · refine ⟨_, rfl, b, 2, rfl, by decide, B3, fun y H4 y0 y1 B4 k4 => ⟨rfl, _, rfl, ite2 (fun _ => ?_) (fun _ => ?_)⟩⟩
      · refine ⟨_, rfl, b, 8, rfl, by decide, B4, fun m H5 m0 m1 B5 k5 => ⟨_, _, rfl, rfl, ?_⟩⟩
        refine ⟨_, rfl, S ds, S [46], rfl, congrArg V.str pt_S, len_add (by omega) (by simp), ?_⟩
        rw [S_cat]
        refine ⟨_, rfl, _, rfl, b, 1 + m, rfl, by omega, by omega, B5, fun es H6 el ed B6 k6 => ?_⟩
        have ene : es ≠ [] := fun z => by rw [z] at el; simp at el; omega
        refine ⟨S (ds ++ [46]), S es, rfl, rfl, len_add (by rw [List.length_append]; simp; omega) (by omega), ?_⟩
        rw [S_cat, List.append_assoc]
        refine ⟨(1 + m).toNat, ds ++ 46 :: es, ?_, ?_, ?_, B6, (((k2.trans k3).trans k4).trans k5).trans k6⟩
        · rw [Int.toNat_of_nonneg (by omega)]
          rfl
        · have := tok_pt dne dd ene ed
          rw [dl, el] at this
          exact this
        · rw [List.length_append, List.length_cons]
          omega
      · refine ⟨0, ds, rfl, ?_, by omega, B4, (k2.trans k3).trans k4⟩
        have := tok_num dne dd
        rw [dl] at this
        by_cases o : w ≤ 12
        · rw [if_pos o] at this
          rw [if_pos ⟨o, by decide⟩]
          exact this
        · rw [if_neg o] at this
          rw [if_neg fun z => o z.1]
          exact this
    rintro σ H4 ⟨m, t, rfl, tk, tl, B4, k4⟩
    have fin : ∀ s : Str, TokOk s t → ∀ l, H4 l = none → Q (.ref l) (upd H4 l (.lst [.str s, .str (S t)])) := fun s ts l hl => q l s t _ (B4.same (same_new hl)) (k4.trans (Kp.of (same_new hl))) upd_same ts tl
    by_cases o1 : w ≤ 12
    · by_cases o2 : m ≤ 6
      · rw [if_pos ⟨o1, o2⟩] at tk
        refine ⟨_, rfl, _, _, rfl, rfl, _, rfl, ite2 (fun z => absurd (of_decide_eq_true z) (by omega)) (fun _ => ⟨_, rfl, _, _, rfl, rfl, _, rfl, ite2 (fun z => absurd (of_decide_eq_true z) (by omega)) (fun _ => ?_)⟩)⟩
        exact ⟨_, rfl, (by show 2 ≤ sizeLine; decide), fin _ tk⟩
      · rw [if_neg fun z => o2 z.2] at tk
        refine ⟨_, rfl, _, _, rfl, rfl, _, rfl, ite2 (fun z => absurd (of_decide_eq_true z) (by omega)) (fun _ => ⟨_, rfl, _, _, rfl, rfl, _, rfl, ite2 (fun _ => ?_) (fun z => absurd (decide_eq_true (by omega)) z)⟩)⟩
        exact ⟨_, rfl, (by show 2 ≤ sizeLine; decide), fin _ tk⟩
    · rw [if_neg fun z => o1 z.1] at tk
      refine ⟨_, rfl, _, _, rfl, rfl, _, rfl, ite2 (fun _ => ?_) (fun z => absurd (decide_eq_true (by omega)) z)⟩
      exact iteT ⟨_, rfl, (by show 2 ≤ sizeLine; decide), fin _ tk⟩
theorem capL : ("ABCDEFGHIJKLMNOPQRSTUVWXYZ" : Str).cps.toList.length = 26 ∧ ("ABCDEFGHIJKLMNOPQRSTUVWXYZ" : Str).length ≤ sizeLine := by decide +kernel
theorem smlL : ("abcdefghijklmnopqrstuvwxyz" : Str).cps.toList.length = 26 ∧ ("abcdefghijklmnopqrstuvwxyz" : Str).length ≤ sizeLine := by decide +kernel
theorem zero_S : ("0" : Str) = S [48] := by decide +kernel
theorem take1_is (c : Nat) (a : List Nat) (s : Str) (h : s = S [c]) : decide (V.str (S (a.take 1)) = V.str s) = decide (a.head? = some c) := by
  rw [h]
  refine decide_eq_decide.mpr ?_
  cases a with
  | nil => simp
  | cons d r =>
    refine ⟨fun z => ?_, fun z => ?_⟩
    · have := SX.S_inj (V.str.inj z)
      simp at this
      simp [this]
    · have : d = c := by simpa using z
      rw [this]
      rfl
theorem okLawPlace (T : Txt K mg) : FnOk P w K mg base CX0 3 T.fLawPlace T.fdLawPlace ["box"] (spTok K) := by
  refine T.FLawPlace.ok scLawPlace (fun vs H Q E h => ?_) (fun cdv A outer s H vs Q E hr h => ?_)
  · obtain ⟨b, rfl, _⟩ := h
    rfl
  · obtain ⟨b, rfl, B, q⟩ := h
    -- slots box=0 capitals=1 digits=2 text=3
    refine ⟨_, (pss_cons (ps_set (i := 1) scLawPlace.nd rfl (Or.inl rfl) (pe_op op_add pe_int (pe_call (okLawDraw T) (hr.mono (by decide)) (by rfl) T.gLawDraw T.FLawDraw.kp T.bLawDraw .nil pass0 (pa_cons (pv 0) (pa_cons pe_int pa_nil)))))
        (pss_cons (ps_set (i := 2) scLawPlace.nd rfl (Or.inl rfl) (pe_call (okLawDigitText T) (hr.mono (by decide)) (by rfl) T.gLawDigitText T.FLawDigitText.kp T.bLawDigitText .nil pass0 (pa_cons (pv 0) (pa_cons (pe_call (okLawDraw T) (hr.mono (by decide)) (by rfl) T.gLawDraw T.FLawDraw.kp T.bLawDraw .nil pass0 (pa_cons (pv 0) (pa_cons pe_int pa_nil))) pa_nil))))
        (pss_cons (ps_set (i := 3) scLawPlace.nd rfl (Or.inl rfl) (pe_op op_add_str (pe_call (okLawLetters T) (hr.mono (by decide)) (by rfl) T.gLawLetters T.FLawLetters.kp T.bLawLetters .nil pass0 (pa_cons (pv 0) (pa_cons (pv 1) (pa_cons pe_str pa_nil)))) (pv 2)))
        (pss_cons (ps_if (PW.pt (pw_or (pt_cmpR op_gt (pv 1) pe_int (nomark _)) (pw_or (pt_cmpR op_notIn_seq (pe_callB call_len_str (by rfl) T.z_len PySem.boot_len (pa_cons (pv 2) pa_nil)) (pe_lst (pa_cons pe_int (pa_cons pe_int pa_nil))) rfl) (pw_or1 (pt_cmpR op_eq (pe_slice C8.sl_txt (pv 2) po_none (po_some pe_int)) pe_str (nomark _))))))
          (pss_one (ps_ret (pe_lst (pa_cons pe_str (pa_cons (pv 3) pa_nil)))))
          pss_nil)
        (pss_one (ps_ret (pe_lst (pa_cons pe_str (pa_cons (pv 3) pa_nil))))))))), ?_⟩
    refine ⟨_, rfl, b, 3, rfl, by decide, B, fun w H1 w0 w1 B1 k1 => ⟨_, _, rfl, rfl, ?_⟩⟩
    refine ⟨_, rfl, _, rfl, b, 4, rfl, by decide, B1, fun m H2 m0 m1 B2 k2 => ⟨b, m, rfl, m0, by omega, B2, fun ds H3 dl dd B3 k3 => ?_⟩⟩
    refine ⟨_, rfl, _, rfl, b, 1 + w, _, rfl, by omega, by omega, capL.1, capL.2, B3, fun cs H4 cl cc B4 k4 => ?_⟩
    have ca : cs.all cap = true := List.all_eq_true.mpr fun c hc => by rw [← cap_mem]; exact decide_eq_true (cc c hc)
    have cne : cs ≠ [] := fun z => by rw [z] at cl; simp at cl; omega
    refine ⟨_, rfl, S cs, S ds, rfl, rfl, len_add (by omega) (by omega), ?_⟩
    rw [S_cat]
    have k14 := ((k1.trans k2).trans k3).trans k4
    obtain ⟨sh, kd⟩ := tok_place cne ca dd
    have tl : (cs ++ ds).length ≤ 30 := by rw [List.length_append]; omega
    have zS : (S ds).length ≤ sizeLine := by rw [S_len]; exact sz100 (by omega)
    have fin : ∀ (s : Str) (H' : Hp), Same H4 H' → kindOf (cs ++ ds) = s → ∀ l, H' l = none → Q (.ref l) (upd H' l (.lst [.str s, .str (S (cs ++ ds))])) := fun s H' sm e l hl => q l s _ _ ((B4.same sm).same (same_new hl)) ((k14.trans (Kp.of sm)).trans (Kp.of (same_new hl))) upd_same ⟨sh, e⟩ tl
    by_cases o1 : cs.length ≤ 2
    rotate_left
    · rw [if_neg fun z => o1 z.1] at kd
      refine ⟨_, rfl, _, _, rfl, rfl, _, rfl, ite2 (fun _ => ?_) (fun z => absurd (decide_eq_true (by omega)) z)⟩
      exact iteT ⟨_, rfl, (by show 2 ≤ sizeLine; decide), fin _ _ (Same.refl _) kd⟩
    refine ⟨_, rfl, _, _, rfl, rfl, _, rfl, ite2 (fun z => absurd (of_decide_eq_true z) (by omega)) (fun _ => ?_)⟩
    refine ⟨_, rfl, S ds, rfl, zS, (by show 2 ≤ sizeLine; decide), fun l1 hl1 => ?_⟩
    have s1 := same_new (o := .lst [.int 1, .int 2]) hl1
    refine ⟨l1, _, rfl, .inl (SqL.of upd_same), rfl, rfl, _, rfl, ?_⟩
    rw [S_len]
    show if (!inV (V.int (ds.length : Int)) [.int 1, .int 2]) = true then _ else _
    rw [in12]
    by_cases o2 : ds.length = 1 ∨ ds.length = 2
    rotate_left
    · rw [if_neg fun z => o2 z.2.1] at kd
      rw [decide_eq_false (by omega)]
      exact iteT (iteT ⟨_, rfl, (by show 2 ≤ sizeLine; decide), fin _ _ s1 kd⟩)
    rw [decide_eq_true (by omega)]
    refine iteF ⟨_, rfl, 1, rfl, S ds, rfl, zS, ?_⟩
    rw [slice_to (by decide)]
    refine ⟨rfl, _, rfl, ?_⟩
    show if decide (V.str (S (ds.take 1)) = V.str ("0" : Str)) = true then _ else _
    rw [take1_is 48 ds "0" zero_S]
    by_cases o3 : ds.head? = some 48
    · rw [if_neg fun z => z.2.2 o3] at kd
      rw [decide_eq_true o3]
      exact iteT ⟨_, rfl, (by show 2 ≤ sizeLine; decide), fin _ _ s1 kd⟩
    · rw [if_pos ⟨o1, o2, o3⟩] at kd
      rw [decide_eq_false o3]
      exact iteF ⟨_, rfl, (by show 2 ≤ sizeLine; decide), fin _ _ s1 kd⟩
theorem sig_at {k : Int} (h0 : 0 ≤ k) (h1 : k < 8) : ∃ c, atI ("+-*/(),:" : Str).cps.toList k = some c ∧ ck c = 0 ∧ c ≠ 32 ∧ sgnC c = true := by
  obtain ⟨c, hm, hc⟩ := at_mem (xs := ("+-*/(),:" : Str).cps.toList) h0 (Int.lt_of_lt_of_le h1 (by decide +kernel))
  have all : ∀ c ∈ ("+-*/(),:" : Str).cps.toList, ck c = 0 ∧ c ≠ 32 ∧ sgnC c = true := by decide +kernel
  exact ⟨c, hc, all c hm⟩
/-- the signs that are no token: told by their codes -/
def badS : Str := S [33, 34, 35, 36, 38, 39, 46, 59, 60, 61, 62, 63, 64, 91, 92, 93, 94, 95, 96, 123, 124, 125, 126]
theorem bad_at {k : Int} (h0 : 0 ≤ k) (h1 : k < 23) : ∃ c, atI badS.cps.toList k = some c ∧ ck c = 0 ∧ c ≠ 32 ∧ sgnC c = false := by
  obtain ⟨c, hm, hc⟩ := at_mem (xs := badS.cps.toList) h0 (Int.lt_of_lt_of_le h1 (by decide +kernel))
  have all : ∀ c ∈ badS.cps.toList, ck c = 0 ∧ c ≠ 32 ∧ sgnC c = false := by decide +kernel
  exact ⟨c, hc, all c hm⟩
theorem okLawToken (T : Txt K mg) : FnOk P w K mg base CX0 4 T.fLawToken T.fdLawToken ["box"] (spTok K) := by
  refine T.FLawToken.ok scLawToken (fun vs H Q E h => ?_) (fun cdv A outer s H vs Q E hr h => ?_)
  · obtain ⟨b, rfl, _⟩ := h
    rfl
  · obtain ⟨b, rfl, B, q⟩ := h
    -- slots box=0 kind=1 text=2
    refine ⟨_, (pss_cons (ps_set (i := 1) scLawToken.nd rfl (Or.inl rfl) (pe_call (okLawDraw T) (hr.mono (by decide)) (by rfl) T.gLawDraw T.FLawDraw.kp T.bLawDraw .nil pass0 (pa_cons (pv 0) (pa_cons pe_int pa_nil))))
        (pss_cons (ps_if (pt_cmpR op_lt (pv 1) pe_int (nomark _))
          (pss_one (ps_ret (pe_call (okLawNumber T) (hr.mono (by decide)) (by rfl) T.gLawNumber T.FLawNumber.kp T.bLawNumber .nil pass0 (pa_cons (pv 0) pa_nil))))
          pss_nil)
        (pss_cons (ps_if (pt_cmpR op_lt (pv 1) pe_int (nomark _))
          (pss_one (ps_ret (pe_call (okLawPlace T) (hr.mono (by decide)) (by rfl) T.gLawPlace T.FLawPlace.kp T.bLawPlace .nil pass0 (pa_cons (pv 0) pa_nil))))
          pss_nil)
        (pss_cons (ps_if (pt_cmpR op_eq (pv 1) pe_int (nomark _))
          (pss_cons (ps_set (i := 2) scLawToken.nd rfl (Or.inl rfl) (pe_call (okLawLetters T) (hr.mono (by decide)) (by rfl) T.gLawLetters T.FLawLetters.kp T.bLawLetters .nil pass0 (pa_cons (pv 0) (pa_cons (pe_op op_add pe_int (pe_call (okLawDraw T) (hr.mono (by decide)) (by rfl) T.gLawDraw T.FLawDraw.kp T.bLawDraw .nil pass0 (pa_cons (pv 0) (pa_cons pe_int pa_nil)))) (pa_cons pe_str pa_nil)))))
          (pss_one (ps_ret (pe_lst (pa_cons (pe_ix ix_list (pe_lst (pa_cons pe_str (pa_cons pe_str pa_nil))) (pe_callTy call_int1 (by rfl) T.z_int (by decide +kernel) (pa_cons (pe_cmpR op_gt (pe_callB call_len_str (by rfl) T.z_len PySem.boot_len (pa_cons (pv 2) pa_nil)) pe_int (nomark _)) pa_nil)) (fun _ _ => rfl)) (pa_cons (pv 2) pa_nil))))))
          pss_nil)
        (pss_cons (ps_if (pt_cmpR op_eq (pv 1) pe_int (nomark _))
          (pss_one (ps_ret (pe_lst (pa_cons pe_str (pa_cons (pe_ix ix_str pe_str (pe_call (okLawDraw T) (hr.mono (by decide)) (by rfl) T.gLawDraw T.FLawDraw.kp T.bLawDraw .nil pass0 (pa_cons (pv 0) (pa_cons pe_int pa_nil))) (fun _ _ => rfl)) pa_nil)))))
          pss_nil)
        (pss_one (ps_ret (pe_lst (pa_cons pe_str (pa_cons (pe_ix ix_str pe_str (pe_call (okLawDraw T) (hr.mono (by decide)) (by rfl) T.gLawDraw T.FLawDraw.kp T.bLawDraw .nil pass0 (pa_cons (pv 0) (pa_cons pe_int pa_nil))) (fun _ _ => rfl)) pa_nil)))))))))), ?_⟩
    refine ⟨_, rfl, b, 8, rfl, by decide, B, fun kd H1 kd0 kd1 B1 k1 => ?_⟩
    refine ⟨_, rfl, _, _, rfl, rfl, _, rfl, ite2 (fun _ => ?_) (fun _ => ?_)⟩
    · exact ⟨_, rfl, b, rfl, B1, fun l k t H2 B2 k2 => q l k t H2 B2 (k1.trans k2)⟩
    refine ⟨_, rfl, _, _, rfl, rfl, _, rfl, ite2 (fun _ => ?_) (fun _ => ?_)⟩
    · exact ⟨_, rfl, b, rfl, B1, fun l k t H2 B2 k2 => q l k t H2 B2 (k1.trans k2)⟩
    refine ⟨_, rfl, rfl, _, rfl, ite2 (fun _ => ?_) (fun _ => ?_)⟩
    · refine ⟨_, rfl, _, rfl, b, 10, rfl, by decide, B1, fun m H2 m0 m1 B2 k2 => ⟨_, _, rfl, rfl, ?_⟩⟩
      refine ⟨b, 1 + m, _, rfl, by omega, by omega, smlL.1, smlL.2, B2, fun cs H3 cl cc B3 k3 => ?_⟩
      have ca : cs.all sml = true := List.all_eq_true.mpr fun c hc => by rw [← sml_mem]; exact decide_eq_true (cc c hc)
      have cne : cs ≠ [] := fun z => by rw [z] at cl; simp at cl; omega
      have tk := tok_word cne ca
      refine ⟨(by show 2 ≤ sizeLine; decide), fun l1 hl1 => ?_⟩
      refine ⟨_, rfl, S cs, rfl, by rw [S_len]; exact sz100 (by omega), _, _, rfl, rfl, .inr ⟨_, rfl, ?_⟩⟩
      rw [S_len]
      have s1 := same_new (o := .lst [.str "word", .str "bad"]) hl1
      have k13 := ((k1.trans k2).trans k3).trans (Kp.of (b := b) s1)
      by_cases o : cs.length ≤ 8
      · rw [if_pos o] at tk
        rw [decide_eq_false (by omega)]
        refine ⟨l1, _, _, _, rfl, rfl, SqL.of upd_same, atI_nat (j := 0) rfl, _, rfl, (by show 2 ≤ sizeLine; decide), fun l hl => ?_⟩
        exact q l "word" cs _ ((B3.same s1).same (same_new hl)) (k13.trans (Kp.of (same_new hl))) upd_same tk (by omega)
      · rw [if_neg o] at tk
        rw [decide_eq_true (by omega)]
        refine ⟨l1, _, _, _, rfl, rfl, SqL.of upd_same, atI_nat (j := 1) rfl, _, rfl, (by show 2 ≤ sizeLine; decide), fun l hl => ?_⟩
        exact q l "bad" cs _ ((B3.same s1).same (same_new hl)) (k13.trans (Kp.of (same_new hl))) upd_same tk (by omega)
    refine ⟨_, rfl, rfl, _, rfl, ite2 (fun _ => ?_) (fun _ => ?_)⟩
    · refine ⟨_, rfl, b, 23, rfl, by decide, B1, fun m H2 m0 m1 B2 k2 => ?_⟩
      obtain ⟨c, hc, c0, c32, cs⟩ := bad_at m0 m1
      refine ⟨badS, m, c, by decide +kernel, rfl, by decide +kernel, hc, (by show 2 ≤ sizeLine; decide), fun l hl => ?_⟩
      have e := kind_one c0
      rw [if_neg (by rw [cs]; decide)] at e
      exact q l "bad" [c] _ (B2.same (same_new hl)) ((k1.trans k2).trans (Kp.of (same_new hl))) upd_same ⟨.one c0 c32, e⟩ (by simp)
    · refine ⟨_, rfl, b, 8, rfl, by decide, B1, fun m H2 m0 m1 B2 k2 => ?_⟩
      obtain ⟨c, hc, c0, c32, cs⟩ := sig_at m0 m1
      refine ⟨_, m, c, rfl, rfl, by decide +kernel, hc, (by show 2 ≤ sizeLine; decide), fun l hl => ?_⟩
      have e := kind_one c0
      rw [if_pos cs] at e
      exact q l "sign" [c] _ (B2.same (same_new hl)) ((k1.trans k2).trans (Kp.of (same_new hl))) upd_same ⟨.one c0 c32, e⟩ (by simp)
def spKindOf (K : PySem.W.Frag) : Sp := fun vs H Q _ => ∃ (c : Nat), vs = [.str (S [c])] ∧ Q (.int ((ck c : Nat) : Int)) H
theorem okLawKindOf (T : Txt K mg) : FnOk P w K mg base CX0 1 T.fLawKindOf T.fdLawKindOf ["char"] (spKindOf K) := by
  refine T.FLawKindOf.ok scLawKindOf (fun vs H Q E h => ?_) (fun cdv A outer s H vs Q E hr h => ?_)
  · obtain ⟨c, rfl, _⟩ := h
    rfl
  · obtain ⟨c, rfl, q⟩ := h
    -- slots char=0
    refine ⟨_, (pss_cons (ps_if (pt_cmpR op_in_sign (pv 0) pe_str rfl)
          (pss_one (ps_ret pe_int))
          pss_nil)
        (pss_cons (ps_if (pt_cmpR op_in_sign (pv 0) pe_str rfl)
          (pss_one (ps_ret pe_int))
          pss_nil)
        (pss_cons (ps_if (pt_cmpR op_in_sign (pv 0) pe_str rfl)
          (pss_one (ps_ret pe_int))
          pss_nil)
        (pss_one (ps_ret pe_int))))), ?_⟩
    unfold ck at q
    refine ⟨_, rfl, c, _, rfl, rfl, _, rfl, ?_⟩
    rw [dig_mem]
    refine ite2 (fun h1 => ?_) (fun h1 => ?_)
    · rw [if_pos h1] at q
      exact q
    rw [if_neg h1] at q
    refine ⟨_, rfl, c, _, rfl, rfl, _, rfl, ?_⟩
    rw [cap_mem]
    refine ite2 (fun h2 => ?_) (fun h2 => ?_)
    · rw [if_pos h2] at q
      exact q
    rw [if_neg h2] at q
    refine ⟨_, rfl, c, _, rfl, rfl, _, rfl, ?_⟩
    rw [sml_mem]
    refine ite2 (fun h3 => ?_) (fun h3 => ?_)
    · rw [if_pos h3] at q
      exact q
    rw [if_neg h3] at q
    exact q
def spRun (K : PySem.W.Frag) : Sp := fun vs H Q _ => ∃ (x : Nat) (r : List Nat) (c : Nat) (u : List Nat), vs = [.str (S (x :: r)), .str (S (c :: u))] ∧ (x :: r).length ≤ 1000 ∧ (c :: u).length ≤ 1000 ∧ Q (.bl (rtB (x :: r) c)) H
theorem last_at (x : Nat) (r : List Nat) : atI (x :: r) (-1) = some ((x :: r).getLastD 0) := by
  have hne : (x :: r) ≠ [] := List.cons_ne_nil _ _
  have e : (x :: r) = (x :: r).dropLast ++ [(x :: r).getLast hne] := (List.dropLast_concat_getLast hne).symm
  have e2 : (x :: r).getLastD 0 = (x :: r).getLast hne := by
    rw [List.getLastD_eq_getLast?, List.getLast?_eq_some_getLast hne]
    rfl
  rw [e2]
  conv => lhs; rw [e]
  exact atI_last _ _
theorem okLawRunTogether (T : Txt K mg) : FnOk P w K mg base CX0 2 T.fLawRunTogether T.fdLawRunTogether ["one", "two"] (spRun K) := by
  refine T.FLawRunTogether.ok scLawRunTogether (fun vs H Q E h => ?_) (fun cdv A outer s H vs Q E hr h => ?_)
  · obtain ⟨x, r, c, u, rfl, _⟩ := h
    rfl
  · obtain ⟨x, r, c, u, rfl, z1, z2, q⟩ := h
    -- slots one=0 two=1 last=2 first=3
    refine ⟨_, (pss_cons (ps_set (i := 2) scLawRunTogether.nd rfl (Or.inl rfl) (pe_call (okLawKindOf T) (hr.mono (by decide)) (by rfl) T.gLawKindOf T.FLawKindOf.kp T.bLawKindOf .nil pass0 (pa_cons (pe_ix ix_str (pv 0) (pe_un un_neg pe_int) (fun _ _ => rfl)) pa_nil)))
        (pss_cons (ps_set (i := 3) scLawRunTogether.nd rfl (Or.inl rfl) (pe_call (okLawKindOf T) (hr.mono (by decide)) (by rfl) T.gLawKindOf T.FLawKindOf.kp T.bLawKindOf .nil pass0 (pa_cons (pe_ix ix_str (pv 1) pe_int (fun _ _ => rfl)) pa_nil)))
        (pss_cons (ps_if (PW.pt (pw_and (pt_cmpR op_eq (pe_ix ix_str (pv 1) pe_int (fun _ _ => rfl)) pe_str (nomark _)) (pw_and1 (pt_cmpR op_eq (pv 2) pe_int (nomark _)))))
          (pss_one (ps_ret (pe_and (pe_cmpR op_notin_str pe_str (pv 0) rfl) (pe_one (pe_cmpR op_eq (pe_call (okLawKindOf T) (hr.mono (by decide)) (by rfl) T.gLawKindOf T.FLawKindOf.kp T.bLawKindOf .nil pass0 (pa_cons (pe_ix ix_str (pv 0) pe_int (fun _ _ => rfl)) pa_nil)) pe_int (nomark _))))))
          pss_nil)
        (pss_cons (ps_if (PW.pt (pw_and (pt_cmpR op_eq (pv 2) pe_int (nomark _)) (pw_and1 (pt_cmpR op_eq (pv 3) pe_int (nomark _)))))
          (pss_one (ps_ret pe_bl))
          pss_nil)
        (pss_one (ps_ret (pe_and (pe_cmpR op_gt (pv 2) pe_int (nomark _)) (pe_one (pe_cmpR op_eq (pv 2) (pv 3) (nomark _)))))))))), ?_⟩
    have zS1 : (S (x :: r)).length ≤ sizeLine := by rw [S_len]; exact sz100 (by omega)
    have zS2 : (S (c :: u)).length ≤ sizeLine := by rw [S_len]; exact sz100 (by omega)
    unfold rtB at q
    generalize hl : (x :: r).getLastD 0 = l at q
    have al : atI (S (x :: r)).cps.toList (-1) = some l := by rw [← hl]; exact last_at x r
    refine ⟨_, rfl, 1, rfl, S (x :: r), -1, l, rfl, rfl, zS1, al, l, rfl, ?_⟩
    refine ⟨_, rfl, S (c :: u), 0, c, rfl, rfl, zS2, atI_nat (j := 0) rfl, c, rfl, ?_⟩
    refine ⟨_, rfl, S (c :: u), 0, c, rfl, rfl, zS2, atI_nat (j := 0) rfl, rfl, _, rfl, ?_⟩
    have e46 : decide (V.str ⟨#[c]⟩ = V.str ("." : Str)) = decide (c = 46) := by
      rw [pt_S]
      refine decide_eq_decide.mpr ⟨fun z => ?_, fun z => by rw [z]⟩
      have := SX.S_inj (a := [c]) (b := [46]) (V.str.inj z)
      simpa using this
    rw [e46]
    have rest : ¬ (c = 46 ∧ ck l = 1) → Q (.bl (if ck l = 2 ∧ ck c = 1 then true else (decide (0 < ck l) && decide (ck l = ck c)))) H := fun z => by
      rw [if_neg z] at q
      exact q
    by_cases c46 : c = 46
    · rw [decide_eq_true c46]
      refine iteT ⟨_, rfl, rfl, _, rfl, ?_⟩
      by_cases l1 : ck l = 1
      · rw [if_pos ⟨c46, l1⟩] at q
        refine ite2 (fun _ => ?_) (fun z => absurd (decide_eq_true (by rw [l1]; rfl)) z)
        refine ⟨_, rfl, ".", S (x :: r), rfl, rfl, _, rfl, ?_⟩
        rw [pt_S, SX.in_one]
        by_cases h46 : 46 ∈ (x :: r)
        · rw [decide_eq_false (fun z => z h46), Bool.false_and] at q
          rw [decide_eq_true h46]
          exact iteF q
        · rw [decide_eq_true h46, Bool.true_and] at q
          rw [decide_eq_false h46]
          refine iteT ⟨_, rfl, S (x :: r), 0, x, rfl, rfl, zS1, atI_nat (j := 0) rfl, x, rfl, rfl, ?_⟩
          have e : decide (V.int ((ck x : Nat) : Int) = V.int 1) = decide (ck ((x :: r).headD 0) = 1) := by
            refine decide_eq_decide.mpr ⟨fun z => ?_, fun z => ?_⟩
            · have := V.int.inj z
              show ck x = 1
              omega
            · have z2 : ck x = 1 := z
              rw [z2]
              rfl
          rw [e]
          exact q
      · have q2 := rest fun z => l1 z.2
        refine ite2 (fun z => absurd (by have := V.int.inj (of_decide_eq_true z); omega) l1) (fun _ => ?_)
        refine ⟨_, rfl, rfl, _, rfl, ?_⟩
        by_cases l2 : ck l = 2
        · by_cases f1 : ck c = 1
          · rw [if_pos ⟨l2, f1⟩] at q2
            refine ite2 (fun _ => ?_) (fun z => absurd (decide_eq_true (by rw [l2]; rfl)) z)
            exact ⟨_, rfl, rfl, _, rfl, ite2 (fun _ => q2) (fun z => absurd (decide_eq_true (by rw [f1]; rfl)) z)⟩
          · rw [if_neg fun z => f1 z.2] at q2
            refine ite2 (fun _ => ?_) (fun z => absurd (decide_eq_true (by rw [l2]; rfl)) z)
            refine ⟨_, rfl, rfl, _, rfl, ite2 (fun z => absurd (by have := V.int.inj (of_decide_eq_true z); omega) f1) (fun _ => ?_)⟩
            refine ⟨_, rfl, _, _, rfl, rfl, _, rfl, ?_⟩
            by_cases p0 : 0 < ck l
            · rw [decide_eq_true p0, Bool.true_and] at q2
              refine ite2 (fun _ => ?_) (fun z => absurd (decide_eq_true (by omega)) z)
              refine ⟨_, rfl, _, rfl, rfl, ?_⟩
              have e : decide (V.int ((ck l : Nat) : Int) = V.int ((ck c : Nat) : Int)) = decide (ck l = ck c) := decide_eq_decide.mpr ⟨fun z => by have := V.int.inj z; omega, fun z => by rw [z]⟩
              rw [e]
              exact q2
            · rw [decide_eq_false p0, Bool.false_and] at q2
              rw [decide_eq_false (by omega)]
              exact iteF q2
        · rw [if_neg fun z => l2 z.1] at q2
          refine ite2 (fun z => absurd (by have := V.int.inj (of_decide_eq_true z); omega) l2) (fun _ => iteF ?_)
          refine ⟨_, rfl, _, _, rfl, rfl, _, rfl, ?_⟩
          by_cases p0 : 0 < ck l
          · rw [decide_eq_true p0, Bool.true_and] at q2
            refine ite2 (fun _ => ?_) (fun z => absurd (decide_eq_true (by omega)) z)
            refine ⟨_, rfl, _, rfl, rfl, ?_⟩
            have e : decide (V.int ((ck l : Nat) : Int) = V.int ((ck c : Nat) : Int)) = decide (ck l = ck c) := decide_eq_decide.mpr ⟨fun z => by have := V.int.inj z; omega, fun z => by rw [z]⟩
            rw [e]
            exact q2
          · rw [decide_eq_false p0, Bool.false_and] at q2
            rw [decide_eq_false (by omega)]
            exact iteF q2
    · have q2 := rest fun z => c46 z.1
      rw [decide_eq_false c46]
      refine iteF (iteF ?_)
      refine ⟨_, rfl, rfl, _, rfl, ?_⟩
      by_cases l2 : ck l = 2
      · by_cases f1 : ck c = 1
        · rw [if_pos ⟨l2, f1⟩] at q2
          refine ite2 (fun _ => ?_) (fun z => absurd (decide_eq_true (by rw [l2]; rfl)) z)
          exact ⟨_, rfl, rfl, _, rfl, ite2 (fun _ => q2) (fun z => absurd (decide_eq_true (by rw [f1]; rfl)) z)⟩
        · rw [if_neg fun z => f1 z.2] at q2
          refine ite2 (fun _ => ?_) (fun z => absurd (decide_eq_true (by rw [l2]; rfl)) z)
          refine ⟨_, rfl, rfl, _, rfl, ite2 (fun z => absurd (by have := V.int.inj (of_decide_eq_true z); omega) f1) (fun _ => ?_)⟩
          refine ⟨_, rfl, _, _, rfl, rfl, _, rfl, ?_⟩
          by_cases p0 : 0 < ck l
          · rw [decide_eq_true p0, Bool.true_and] at q2
            refine ite2 (fun _ => ?_) (fun z => absurd (decide_eq_true (by omega)) z)
            refine ⟨_, rfl, _, rfl, rfl, ?_⟩
            have e : decide (V.int ((ck l : Nat) : Int) = V.int ((ck c : Nat) : Int)) = decide (ck l = ck c) := decide_eq_decide.mpr ⟨fun z => by have := V.int.inj z; omega, fun z => by rw [z]⟩
            rw [e]
            exact q2
          · rw [decide_eq_false p0, Bool.false_and] at q2
            rw [decide_eq_false (by omega)]
            exact iteF q2
      · rw [if_neg fun z => l2 z.1] at q2
        refine ite2 (fun z => absurd (by have := V.int.inj (of_decide_eq_true z); omega) l2) (fun _ => iteF ?_)
        refine ⟨_, rfl, _, _, rfl, rfl, _, rfl, ?_⟩
        by_cases p0 : 0 < ck l
        · rw [decide_eq_true p0, Bool.true_and] at q2
          refine ite2 (fun _ => ?_) (fun z => absurd (decide_eq_true (by omega)) z)
          refine ⟨_, rfl, _, rfl, rfl, ?_⟩
          have e : decide (V.int ((ck l : Nat) : Int) = V.int ((ck c : Nat) : Int)) = decide (ck l = ck c) := decide_eq_decide.mpr ⟨fun z => by have := V.int.inj z; omega, fun z => by rw [z]⟩
          rw [e]
          exact q2
        · rw [decide_eq_false p0, Bool.false_and] at q2
          rw [decide_eq_false (by omega)]
          exact iteF q2
theorem Rep.last {H : Hp} {k : Str} {t : List Nat} : ∀ {D : List (Str × List Nat)} {vs : List V}, Rep H vs (D ++ [(k, t)]) → ∃ (ws : List V) (q : Addr), vs = ws ++ [.ref q] ∧ H q = some (.tup [.str k, .str (S t)])
  | [], _, .cons h .nil => ⟨[], _, rfl, h⟩
  | _ :: D, _, .cons h r => by
    obtain ⟨ws, q, e, hq⟩ := Rep.last (D := D) r
    exact ⟨_ :: ws, q, by rw [e]; rfl, hq⟩
theorem rep_lk {H : Hp} : ∀ {D : List (Str × List Nat)} {vs ws : List V}, Rep H vs D → Rep H ws D → ∀ (i : Nat) u v, vs[i]? = some u → ws[i]? = some v → Lk H 1 u v
  | _, _, _, .nil, .nil, i, u, v, h, _ => by simp at h
  | _, _, _, .cons (q := q) (k := k) (t := t) h r, .cons (q := q2) h2 r2, 0, u, v, e1, e2 => by
    cases e1
    cases e2
    refine .inr (.inl ⟨q, q2, _, _, rfl, rfl, h, h2, rfl, by show 2 ≤ 100000; decide, fun i u v e1 e2 => ?_⟩)
    rw [e1] at e2
    cases e2
    rcases i with _ | _ | i
    · cases e1
      exact ⟨rfl, trivial⟩
    · cases e1
      exact ⟨rfl, trivial⟩
    · cases e1
  | _, _, _, .cons h r, .cons h2 r2, i + 1, u, v, e1, e2 => rep_lk r r2 i u v (by simpa using e1) (by simpa using e2)
theorem nbox {H : Hp} {b l : Addr} {k : Str} {t : List Nat} (B : Box H b) (h : H l = some (.lst [.str k, .str (S t)])) : l ≠ b := fun z => by
  obtain ⟨d, ds, i, hb, _, _⟩ := B
  rw [z, hb] at h
  cases h
def spLaw (K : PySem.W.Frag) : Sp := fun vs H Q _ => ∃ (a : Addr) (ns : List Int), vs = [.ref a] ∧ SqL K H a (ns.map V.int) ∧ ns.length ≤ 63 ∧ ∀ H', Q (.bl true) H'
theorem okLaw (T : Txt K mg) : FnOk P w K mg base CX0 6 T.fLaw T.fdLaw ["script"] (spLaw K) := by
  refine T.FLaw.ok scLaw (fun vs H Q E h => ?_) (fun cdv A outer s H vs Q E hr h => ?_)
  · obtain ⟨a, ns, rfl, _⟩ := h
    rfl
  · obtain ⟨a, ns, rfl, hS, hlen, q⟩ := h
    -- slots script=0 box=1 due=2 text=3 k=4 token=5 spaces=6
    refine ⟨_, (pss_cons (ps_set (i := 1) scLaw.nd rfl (Or.inl rfl) (pe_lst (pa_cons (pe_call (okLawDigits T) (hr.mono (by decide)) (by rfl) T.gLawDigits T.FLawDigits.kp T.bLawDigits .nil pass0 (pa_cons (pv 0) (pa_cons pe_int (pa_cons pe_int pa_nil)))) (pa_cons pe_int pa_nil))))
        (pss_cons (ps_set (i := 2) scLaw.nd rfl (Or.inl rfl) (pe_lst pa_nil))
        (pss_cons (ps_set (i := 3) scLaw.nd rfl (Or.inl rfl) (pe_op op_mul_str pe_str (pe_call (okLawDraw T) (hr.mono (by decide)) (by rfl) T.gLawDraw T.FLawDraw.kp T.bLawDraw .nil pass0 (pa_cons (pv 1) (pa_cons pe_int pa_nil)))))
        (pss_cons (ps_for PassesOwn.never rfl (pi_range1 rfl T.z_range (pa_cons (pe_call (okLawDraw T) (hr.mono (by decide)) (by rfl) T.gLawDraw T.FLawDraw.kp T.bLawDraw .nil pass0 (pa_cons (pv 1) (pa_cons pe_int pa_nil))) pa_nil)) (pg_name (i := 4) scLaw.nd rfl (Or.inl rfl))
          (pss_cons (ps_set (i := 5) scLaw.nd rfl (Or.inl rfl) (pe_call (okLawToken T) (hr.mono (by decide)) (by rfl) T.gLawToken T.FLawToken.kp T.bLawToken .nil pass0 (pa_cons (pv 1) pa_nil)))
          (pss_cons (ps_set (i := 6) scLaw.nd rfl (Or.inl rfl) (pe_op op_fdiv (pe_call (okLawDraw T) (hr.mono (by decide)) (by rfl) T.gLawDraw T.FLawDraw.kp T.bLawDraw .nil pass0 (pa_cons (pv 1) (pa_cons pe_int pa_nil))) pe_int))
          (C8.pss_cut (ps_if (PW.pt (pw_and (pt_cmpR op_gt (pe_callB call_len_seq (by rfl) T.z_len PySem.boot_len (pa_cons (pv 2) pa_nil)) pe_int (nomark _)) (pw_and (pt_cmpR op_eq (pv 6) pe_int (nomark _)) (pw_and1 (pt_val (pe_call (okLawRunTogether T) (hr.mono (by decide)) (by rfl) T.gLawRunTogether T.FLawRunTogether.kp T.bLawRunTogether .nil pass0 (pa_cons (pe_ix ix_tup (pe_ix ix_list (pv 2) (pe_un un_neg pe_int) (fun _ _ => rfl)) pe_int (fun _ _ => rfl)) (pa_cons (pe_ix ix_list (pv 5) pe_int (fun _ _ => rfl)) pa_nil))))))))
            (pss_one (ps_set (i := 6) scLaw.nd rfl (Or.inl rfl) pe_int))
            pss_nil)
          (pss_cons (ps_expr (pe_bm PySem.F.plainAttrs_list PySem.F.slot_list_append PySem.F.type_list_append mt_append (pv 2) (pa_cons (pe_tup (pa_cons (pe_ix ix_list (pv 5) pe_int (fun _ _ => rfl)) (pa_cons (pe_ix ix_list (pv 5) pe_int (fun _ _ => rfl)) pa_nil))) pa_nil)))
          (pss_one (ps_set (i := 3) scLaw.nd rfl (Or.inl rfl) (pe_op op_add_str (pe_op op_add_str (pv 3) (pe_op op_mul_str pe_str (pv 6))) (pe_ix ix_list (pv 5) pe_int (fun _ _ => rfl))))))))))
        (pss_one (ps_ret (pe_call (okLawSame T 2) (hr.mono (by decide)) (by rfl) T.gLawSame T.FLawSame.kp T.bLawSame .nil pass0 (pa_cons (pe_call (okTokens T) (hr.mono (by decide)) (by rfl) T.gTokens T.FTokens.kp T.bTokens .nil pass0 (pa_cons (pe_op op_add_str (pv 3) (pe_op op_mul_str pe_str (pe_call (okLawDraw T) (hr.mono (by decide)) (by rfl) T.gLawDraw T.FLawDraw.kp T.bLawDraw .nil pass0 (pa_cons (pv 1) (pa_cons pe_int pa_nil))))) pa_nil)) (pa_cons (pv 2) pa_nil))))))))), ?_⟩
    refine ⟨_, rfl, a, ns, 0, 63, rfl, by decide, by decide, hS, fun H1 d0 ds s1 hdn hd0 _ => ⟨by show 2 ≤ sizeLine; decide, fun b hb => ?_⟩⟩
    have hb2 : b ≠ d0 := fun z => by
      rw [z, hd0] at hb
      cases hb
    have B0 : Box (upd H1 b (.lst [.ref d0, .int 0])) b := ⟨d0, ds, 0, upd_same, by rw [upd_ne hb2.symm]; exact hd0, hb2⟩
    refine ⟨Nat.zero_le _, fun du hdu => ?_⟩
    have ndb : du ≠ b := fun z => by
      rw [z, upd_same] at hdu
      cases hdu
    have B1 := B0.same (same_new (o := .lst []) hdu)
    have ndd : d0 ≠ du := fun z => by
      have : (upd H1 b (.lst [.ref d0, .int 0])) d0 = some (.lst (ds.map V.int)) := by
        rw [upd_ne hb2.symm]
        exact hd0
      rw [← z, this] at hdu
      cases hdu
    have bx1 : (upd (upd H1 b (.lst [.ref d0, .int 0])) du (.lst [])) b = some (.lst [.ref d0, .int 0]) := by
      rw [upd_ne ndb.symm]
      exact upd_same
    have h1 : (upd (upd H1 b (.lst [.ref d0, .int 0])) du (.lst [])) du = some (.lst []) := upd_same
    generalize upd (upd H1 b (.lst [.ref d0, .int 0])) du (.lst []) = H2 at B1 h1 bx1
    refine ⟨_, rfl, b, 2, rfl, by decide, B1, fun k0 H3 k00 k01 B3 w3 => ?_⟩
    obtain ⟨mk0, ek0⟩ := spc_ok k00 k01
    refine ⟨_, _, rfl, rfl, mk0, ?_⟩
    rw [ek0]
    have h3 := w3 _ _ ndb h1
    refine ⟨_, rfl, b, 15, rfl, by decide, B3, fun m H4 m0 m1 B4 w4 => ?_⟩
    obtain ⟨m, rfl⟩ := Int.eq_ofNat_of_zero_le m0
    have h4 := w4 _ _ ndb h3
    refine ⟨m, rfl, by omega, by omega, for_range (lo := 0) (n := m) (fun i σ H' => ∃ (D : List (Str × List Nat)) (rs : List V) (w : List Nat) (c4 c5 c6 : Option V), σ = [some (.ref a), some (.ref b), some (.ref du), some (.str (S w)), c4, c5, c6] ∧ Box H' b ∧ H' du = some (.lst rs) ∧ Rep H' rs D ∧ Inv2 D w ∧ (∀ k t, (k, t) ∈ D → Shape t ∧ t.length ≤ 30) ∧ w.length ≤ 1 + 31 * i ∧ D.length = i ∧ ∃ j, H' b = some (.lst [.ref d0, j]))
      ⟨[], [], List.replicate k0.toNat 32, _, _, _, rfl, B4, h4, .nil, Inv2.start _, (fun k t h => nomatch h), by rw [List.length_replicate]; omega, rfl, (w3.trans w4).d _ _ bx1⟩ ?_ ?_⟩
    · rintro i σ H5 hi ⟨D, rs, w, c4, c5, c6, rfl, B5, h5, R5, I5, sh5, wl, Dl, j5, bx5⟩
      -- token
      refine ⟨_, rfl, b, rfl, B5, fun l k t H6 B6 w6 hl tk tl => ?_⟩
      obtain ⟨sht, rfl⟩ := tk
      have h6 := w6 _ _ ndb h5
      have R6 := R5.mono (TK.kp w6 B5)
      -- spaces
      refine ⟨_, rfl, b, 6, rfl, by decide, B6, fun s H7 s0 s1 B7 w7 => ⟨_, _, rfl, rfl, ⟨by decide, by decide⟩, ?_⟩⟩
      have h7 := w7 _ _ ndb h6
      have R7 := R6.mono (TK.kp w7 B6)
      have hl7 := w7 _ _ (nbox B6 hl) hl
      have rl := R7.len
      obtain ⟨c, u, et, hc32⟩ := shape_cons sht
      refine ⟨fun σ H' => H' = H7 ∧ ∃ sp : Nat, sp ≤ 1 ∧ σ = [some (.ref a), some (.ref b), some (.ref du), some (.str (S w)), some (.int (0 + (i : Int))), some (.ref l), some (.int (sp : Int))] ∧ (∀ k u, D.getLast? = some (k, u) → sp = 0 → rtB u (t.headD 0) = false), ?_, ?_⟩
      · refine ⟨_, rfl, du, _, rfl, .inl (SqL.of h7), _, _, rfl, rfl, _, rfl, ite2 (fun g => ?_) (fun g => iteF ⟨rfl, (s / 3).toNat, by omega, ?_, fun k v e => ?_⟩)⟩
        rotate_left
        · rw [Int.toNat_of_nonneg (by omega)]
          rfl
        · have hD : D ≠ [] := fun z => by rw [z] at e; cases e
          have : 0 < D.length := List.length_pos_iff.mpr hD
          exact absurd (decide_eq_true (by omega)) g
        have g2 := of_decide_eq_true g
        have hD : D ≠ [] := fun z => by
          rw [z] at rl
          simp at rl
          rw [rl] at g2
          simp at g2
        obtain ⟨D', ⟨k2, t2⟩, eD⟩ : ∃ D' p, D = D' ++ [p] := ⟨D.dropLast, D.getLast hD, (List.dropLast_concat_getLast hD).symm⟩
        have eL : D.getLast? = some (k2, t2) := by rw [eD]; exact List.getLast?_concat ..
        have R8 := R7
        rw [eD] at R8
        obtain ⟨ws, q2, ers, hq2⟩ := R8.last
        obtain ⟨sht2, tl2⟩ := sh5 k2 t2 (by rw [eD]; simp)
        obtain ⟨x2, r2, et2, _⟩ := shape_cons sht2
        refine ⟨_, rfl, rfl, _, rfl, ite2 (fun g3 => ?_) (fun g3 => iteF ⟨rfl, (s / 3).toNat, by omega, ?_, fun k v e z => ?_⟩)⟩
        rotate_left
        · rw [Int.toNat_of_nonneg (by omega)]
          rfl
        · exact absurd (decide_eq_true (congrArg V.int (show s / 3 = 0 by omega))) g3
        have s3 : s / 3 = 0 := V.int.inj (of_decide_eq_true g3)
        refine ⟨_, rfl, 1, rfl, du, _, -1, .ref q2, rfl, rfl, SqL.of h7, by rw [ers]; exact atI_last _ _, q2, _, _, _, rfl, rfl, SqT.of hq2, atI_nat (j := 1) rfl, _, rfl, l, _, _, _, rfl, rfl, SqL.of hl7, atI_nat (j := 1) rfl, x2, r2, c, u, by rw [et, et2]; rfl, by rw [← et2]; omega, by rw [← et]; omega, _, rfl, ?_⟩
        cases g4 : rtB (x2 :: r2) c with
        | true =>
          exact iteT ⟨rfl, 1, by decide, rfl, fun k v e z => by cases z⟩
        | false =>
          refine iteF ⟨rfl, (s / 3).toNat, by omega, ?_, fun k v e z => ?_⟩
          · rw [Int.toNat_of_nonneg (by omega)]
            rfl
          · rw [eL] at e
            cases e
            rw [et, et2]
            exact g4
      rintro σ H8 ⟨rfl, sp, sp1, rfl, hsp⟩
      -- due.append((token[0], token[1]))
      refine ⟨_, rfl, .inl ⟨rfl, _, SqL.of h7⟩, _, rfl, l, _, _, _, rfl, rfl, SqL.of hl7, atI_nat (j := 0) rfl, _, rfl, l, _, _, _, rfl, rfl, SqL.of hl7, atI_nat (j := 1) rfl, (by show 2 ≤ sizeLine; decide), fun q2 hq2 => ?_⟩
      have s8 := same_new (o := .tup [.str (kindOf t), .str (S t)]) hq2
      have h8 := s8 _ _ h7
      have hl8 := s8 _ _ hl7
      have hq8 : (upd H8 q2 (.tup [.str (kindOf t), .str (S t)])) q2 = some (.tup [.str (kindOf t), .str (S t)]) := upd_same
      have B8 := B7.same s8
      have R8 := R7.mono (TK.of s8)
      generalize upd H8 q2 (.tup [.str (kindOf t), .str (S t)]) = H9 at h8 hl8 hq8 B8 R8 s8
      have nld : l ≠ du := fun z => by
        rw [z] at hl8
        rw [hl8] at h8
        injection h8 with e1
        injection e1 with e2
        have := R8.len
        rw [← e2] at R8
        cases R8
      refine ⟨du, _, _, rfl, rfl, h8, small1000 (by omega), ?_⟩
      have h9 : (upd H9 du (.lst (rs ++ [.ref q2]))) du = some (.lst (rs ++ [.ref q2])) := upd_same
      have R9 : Rep (upd H9 du (.lst (rs ++ [.ref q2]))) (rs ++ [.ref q2]) (D ++ [(kindOf t, t)]) := (R8.snoc hq8).mono (TK.mut h8)
      have B9 : Box (upd H9 du (.lst (rs ++ [.ref q2]))) b := by
        obtain ⟨d, ds, j, hb1, hd1, n1⟩ := B8
        obtain ⟨j', hb3⟩ := ((w6.trans w7).trans (Kp.of s8)).d _ _ bx5
        obtain rfl : d = d0 := by
          rw [hb3] at hb1
          injection hb1 with e1
          injection e1 with e2
          injection e2 with e3
          injection e3 with e4
          exact e4.symm
        refine ⟨d, ds, j, ?_, ?_, n1⟩
        · rw [upd_ne ndb.symm]
          exact hb1
        · rw [upd_ne ndd]
          exact hd1
      obtain ⟨j8, bx8⟩ := ((w6.trans w7).trans (Kp.of s8)).d _ _ bx5
      have bx9 : (upd H9 du (.lst (rs ++ [.ref q2]))) b = some (.lst [.ref d0, j8]) := by
        rw [upd_ne ndb.symm]
        exact bx8
      have hl9 : (upd H9 du (.lst (rs ++ [.ref q2]))) l = some (.lst [.str (kindOf t), .str (S t)]) := by
        rw [upd_ne nld]
        exact hl8
      generalize upd H9 du (.lst (rs ++ [.ref q2])) = H10 at h9 R9 B9 hl9 bx9
      -- text
      obtain ⟨mk, ek⟩ := spc_ok (k := (sp : Int)) (by omega) (by omega)
      refine ⟨_, rfl, _, rfl, _, _, rfl, rfl, mk, ?_⟩
      rw [ek, Int.toNat_natCast]
      have rp : (List.replicate sp 32).length ≤ 1 := by rw [List.length_replicate]; exact sp1
      refine ⟨S w, S (List.replicate sp 32), rfl, rfl, len_add (by omega) (by omega), ?_⟩
      rw [S_cat]
      refine ⟨_, rfl, l, _, _, _, rfl, rfl, SqL.of hl9, atI_nat (j := 1) rfl, S (w ++ List.replicate sp 32), S t, rfl, rfl, len_add (by rw [List.length_append]; omega) (by omega), ?_⟩
      rw [S_cat]
      refine ⟨D ++ [(kindOf t, t)], rs ++ [.ref q2], w ++ List.replicate sp 32 ++ t, _, _, _, rfl, B9, h9, R9, I5.step sht hsp, fun k v hm => ?_, ?_, by rw [List.length_append, Dl]; rfl, j8, bx9⟩
      · rcases List.mem_append.mp hm with h | h
        · exact sh5 k v h
        · have : (k, v) = (kindOf t, t) := by simpa using h
          cases this
          exact ⟨sht, tl⟩
      · rw [List.length_append, List.length_append]
        omega
    · rintro σ H5 ⟨D, rs, w, c4, c5, c6, rfl, B5, h5, R5, I5, sh5, wl, Dl, _⟩
      refine ⟨_, rfl, _, rfl, b, 2, rfl, by decide, B5, fun k9 H6 k90 k91 B6 w6 => ?_⟩
      obtain ⟨mk, ek⟩ := spc_ok k90 k91
      refine ⟨_, _, rfl, rfl, mk, ?_⟩
      rw [ek]
      have rp : (List.replicate k9.toNat 32).length ≤ 1 := by rw [List.length_replicate]; omega
      refine ⟨S w, S (List.replicate k9.toNat 32), rfl, rfl, len_add (by omega) (by omega), ?_⟩
      rw [S_cat]
      refine ⟨w ++ List.replicate k9.toNat 32, rfl, by rw [List.length_append]; omega, fun d H7 rs2 s7 hd7 R7 => ?_⟩
      have e := I5 (List.replicate k9.toNat 32) fun k u _ c hc => by
        cases hn : k9.toNat with
        | zero =>
          rw [hn] at hc
          cases hc
        | succ n =>
          rw [hn] at hc
          have : 32 = c := Option.some.inj hc
          exact .inl this.symm
      have e2 := toks_spc [] k9.toNat
      rw [List.append_nil, toks_nil] at e2
      rw [e2, List.append_nil] at e
      rw [e] at R7
      have h7 := s7 _ _ (w6 _ _ ndb h5)
      have R8 := (R5.mono (TK.kp w6 B5)).mono (TK.of s7)
      have l1 := R7.len
      have l2 := R8.len
      refine ⟨_, rfl, _, _, rfl, .inr (.inr ⟨d, du, rs2, rs, rfl, rfl, hd7, h7, by omega, by omega, fun i u v e1 e2 => rep_lk R7 R8 i u v e1 e2⟩), q _⟩
end
set_option maxHeartbeats 0 in
theorem all_mk {l : PySem.W.OpenLaw} {w : World} {K : PySem.W.Frag} {h : Heap} {mg : Str → Option Value} {fa f1 f2 f3 f4 f5 f6 f7 f8 f9 f10 f11 f12 f13 f14 f15 f16 f17 f18 f19 f20 f21 : Addr} {t_DIGITS : Nat} {t_MOST_BEFORE_POINT : Nat} {t_MOST_BEHIND_POINT : Nat} {t_PARTS : Nat} {t_CAPITALS : Nat} {t_SMALL : Nat} {t_SIGNS : Nat} {t_LONGEST_WORD : Nat} (X : K.In h) (G : h.Ns mainGlobals mg) (hfa : mg "law" = some (.ref fa))
    {od1 an1 od2 an2 od3 an3 od4 an4 od5 an5 od6 an6 od7 an7 od8 an8 od9 an9 od10 an10 od11 an11 od12 an12 od13 an13 od14 an14 od15 an15 od16 an16 od17 an17 od18 an18 od19 an19 od20 an20 od21 an21 : Option Addr} {sl1 sl2 sl3 sl4 sl5 sl6 sl7 sl8 sl9 sl10 sl11 sl12 sl13 sl14 sl15 sl16 sl17 sl18 sl19 sl20 sl21 : Array (Option Value)} {oc1 kV1 dc1 pm1 cd1 ct1 oc2 kV2 dc2 pm2 cd2 ct2 oc3 kV3 dc3 pm3 cd3 ct3 oc4 kV4 dc4 pm4 cd4 ct4 oc5 kV5 dc5 pm5 cd5 ct5 oc6 kV6 dc6 pm6 cd6 ct6 oc7 kV7 dc7 pm7 cd7 ct7 oc8 kV8 dc8 pm8 cd8 ct8 oc9 kV9 dc9 pm9 cd9 ct9 oc10 kV10 dc10 pm10 cd10 ct10 oc11 kV11 dc11 pm11 cd11 ct11 oc12 kV12 dc12 pm12 cd12 ct12 oc13 kV13 dc13 pm13 cd13 ct13 oc14 kV14 dc14 pm14 cd14 ct14 oc15 kV15 dc15 pm15 cd15 ct15 oc16 kV16 dc16 pm16 cd16 ct16 oc17 kV17 dc17 pm17 cd17 ct17 oc18 kV18 dc18 pm18 cd18 ct18 oc19 kV19 dc19 pm19 cd19 ct19 oc20 kV20 dc20 pm20 cd20 ct20 oc21 kV21 dc21 pm21 cd21 ct21 : Value}
    (a1 : PySem.W.nsIn K mainGlobals "fraction" = some (some (.ref f1))) (l1 : K.lookup f1 = some ⟨oc1, od1, .func (PySem.W.fnOf "fraction" "fraction" (defArgs sFraction) (defBody sFraction) (defScope sFraction) .none kV1 dc1 pm1 an1 cd1 ct1), sl1⟩) (c1 : PySem.W.codeIn K cd1 "fraction" = true) (k1 : PySem.W.keepIn K (.ref f1) = true)
    (a2 : PySem.W.nsIn K mainGlobals "_is_digits" = some (some (.ref f2))) (l2 : K.lookup f2 = some ⟨oc2, od2, .func (PySem.W.fnOf "_is_digits" "_is_digits" (defArgs sIsDigits) (defBody sIsDigits) (defScope sIsDigits) .none kV2 dc2 pm2 an2 cd2 ct2), sl2⟩) (c2 : PySem.W.codeIn K cd2 "_is_digits" = true) (k2 : PySem.W.keepIn K (.ref f2) = true)
    (a3 : PySem.W.nsIn K mainGlobals "read_decimal" = some (some (.ref f3))) (l3 : K.lookup f3 = some ⟨oc3, od3, .func (PySem.W.fnOf "read_decimal" "read_decimal" (defArgs sReadDecimal) (defBody sReadDecimal) (defScope sReadDecimal) .none kV3 dc3 pm3 an3 cd3 ct3), sl3⟩) (c3 : PySem.W.codeIn K cd3 "read_decimal" = true) (k3 : PySem.W.keepIn K (.ref f3) = true)
    (a4 : PySem.W.nsIn K mainGlobals "_run_end" = some (some (.ref f4))) (l4 : K.lookup f4 = some ⟨oc4, od4, .func (PySem.W.fnOf "_run_end" "_run_end" (defArgs sRunEnd) (defBody sRunEnd) (defScope sRunEnd) .none kV4 dc4 pm4 an4 cd4 ct4), sl4⟩) (c4 : PySem.W.codeIn K cd4 "_run_end" = true) (k4 : PySem.W.keepIn K (.ref f4) = true)
    (a5 : PySem.W.nsIn K mainGlobals "read_address" = some (some (.ref f5))) (l5 : K.lookup f5 = some ⟨oc5, od5, .func (PySem.W.fnOf "read_address" "read_address" (defArgs sReadAddress) (defBody sReadAddress) (defScope sReadAddress) .none kV5 dc5 pm5 an5 cd5 ct5), sl5⟩) (c5 : PySem.W.codeIn K cd5 "read_address" = true) (k5 : PySem.W.keepIn K (.ref f5) = true)
    (a6 : PySem.W.nsIn K mainGlobals "_token_end" = some (some (.ref f6))) (l6 : K.lookup f6 = some ⟨oc6, od6, .func (PySem.W.fnOf "_token_end" "_token_end" (defArgs sTokenEnd) (defBody sTokenEnd) (defScope sTokenEnd) .none kV6 dc6 pm6 an6 cd6 ct6), sl6⟩) (c6 : PySem.W.codeIn K cd6 "_token_end" = true) (k6 : PySem.W.keepIn K (.ref f6) = true)
    (a7 : PySem.W.nsIn K mainGlobals "_kind" = some (some (.ref f7))) (l7 : K.lookup f7 = some ⟨oc7, od7, .func (PySem.W.fnOf "_kind" "_kind" (defArgs sKind) (defBody sKind) (defScope sKind) .none kV7 dc7 pm7 an7 cd7 ct7), sl7⟩) (c7 : PySem.W.codeIn K cd7 "_kind" = true) (k7 : PySem.W.keepIn K (.ref f7) = true)
    (a8 : PySem.W.nsIn K mainGlobals "token_list" = some (some (.ref f8))) (l8 : K.lookup f8 = some ⟨oc8, od8, .func (PySem.W.fnOf "token_list" "token_list" (defArgs sTokenList) (defBody sTokenList) (defScope sTokenList) .none kV8 dc8 pm8 an8 cd8 ct8), sl8⟩) (c8 : PySem.W.codeIn K cd8 "token_list" = true) (k8 : PySem.W.keepIn K (.ref f8) = true)
    (a9 : PySem.W.nsIn K mainGlobals "tokens" = some (some (.ref f9))) (l9 : K.lookup f9 = some ⟨oc9, od9, .func (PySem.W.fnOf "tokens" "tokens" (defArgs sTokens) (defBody sTokens) (defScope sTokens) .none kV9 dc9 pm9 an9 cd9 ct9), sl9⟩) (c9 : PySem.W.codeIn K cd9 "tokens" = true) (k9 : PySem.W.keepIn K (.ref f9) = true)
    (a10 : PySem.W.nsIn K mainGlobals "_law_cell" = some (some (.ref f10))) (l10 : K.lookup f10 = some ⟨oc10, od10, .func (PySem.W.fnOf "_law_cell" "_law_cell" (defArgs sLawCell) (defBody sLawCell) (defScope sLawCell) .none kV10 dc10 pm10 an10 cd10 ct10), sl10⟩) (c10 : PySem.W.codeIn K cd10 "_law_cell" = true) (k10 : PySem.W.keepIn K (.ref f10) = true)
    (a11 : PySem.W.nsIn K mainGlobals "_law_digits" = some (some (.ref f11))) (l11 : K.lookup f11 = some ⟨oc11, od11, .func (PySem.W.fnOf "_law_digits" "_law_digits" (defArgs sLawDigits) (defBody sLawDigits) (defScope sLawDigits) .none kV11 dc11 pm11 an11 cd11 ct11), sl11⟩) (c11 : PySem.W.codeIn K cd11 "_law_digits" = true) (k11 : PySem.W.keepIn K (.ref f11) = true)
    (a12 : PySem.W.nsIn K mainGlobals "_law_draw" = some (some (.ref f12))) (l12 : K.lookup f12 = some ⟨oc12, od12, .func (PySem.W.fnOf "_law_draw" "_law_draw" (defArgs sLawDraw) (defBody sLawDraw) (defScope sLawDraw) .none kV12 dc12 pm12 an12 cd12 ct12), sl12⟩) (c12 : PySem.W.codeIn K cd12 "_law_draw" = true) (k12 : PySem.W.keepIn K (.ref f12) = true)
    (a13 : PySem.W.nsIn K mainGlobals "_law_same" = some (some (.ref f13))) (l13 : K.lookup f13 = some ⟨oc13, od13, .func (PySem.W.fnOf "_law_same" "_law_same" (defArgs sLawSame) (defBody sLawSame) (defScope sLawSame) .none kV13 dc13 pm13 an13 cd13 ct13), sl13⟩) (c13 : PySem.W.codeIn K cd13 "_law_same" = true) (k13 : PySem.W.keepIn K (.ref f13) = true)
    (a14 : PySem.W.nsIn K mainGlobals "_law_digit_text" = some (some (.ref f14))) (l14 : K.lookup f14 = some ⟨oc14, od14, .func (PySem.W.fnOf "_law_digit_text" "_law_digit_text" (defArgs sLawDigitText) (defBody sLawDigitText) (defScope sLawDigitText) .none kV14 dc14 pm14 an14 cd14 ct14), sl14⟩) (c14 : PySem.W.codeIn K cd14 "_law_digit_text" = true) (k14 : PySem.W.keepIn K (.ref f14) = true)
    (a15 : PySem.W.nsIn K mainGlobals "_law_letters" = some (some (.ref f15))) (l15 : K.lookup f15 = some ⟨oc15, od15, .func (PySem.W.fnOf "_law_letters" "_law_letters" (defArgs sLawLetters) (defBody sLawLetters) (defScope sLawLetters) .none kV15 dc15 pm15 an15 cd15 ct15), sl15⟩) (c15 : PySem.W.codeIn K cd15 "_law_letters" = true) (k15 : PySem.W.keepIn K (.ref f15) = true)
    (a16 : PySem.W.nsIn K mainGlobals "_law_number" = some (some (.ref f16))) (l16 : K.lookup f16 = some ⟨oc16, od16, .func (PySem.W.fnOf "_law_number" "_law_number" (defArgs sLawNumber) (defBody sLawNumber) (defScope sLawNumber) .none kV16 dc16 pm16 an16 cd16 ct16), sl16⟩) (c16 : PySem.W.codeIn K cd16 "_law_number" = true) (k16 : PySem.W.keepIn K (.ref f16) = true)
    (a17 : PySem.W.nsIn K mainGlobals "_law_place" = some (some (.ref f17))) (l17 : K.lookup f17 = some ⟨oc17, od17, .func (PySem.W.fnOf "_law_place" "_law_place" (defArgs sLawPlace) (defBody sLawPlace) (defScope sLawPlace) .none kV17 dc17 pm17 an17 cd17 ct17), sl17⟩) (c17 : PySem.W.codeIn K cd17 "_law_place" = true) (k17 : PySem.W.keepIn K (.ref f17) = true)
    (a18 : PySem.W.nsIn K mainGlobals "_law_token" = some (some (.ref f18))) (l18 : K.lookup f18 = some ⟨oc18, od18, .func (PySem.W.fnOf "_law_token" "_law_token" (defArgs sLawToken) (defBody sLawToken) (defScope sLawToken) .none kV18 dc18 pm18 an18 cd18 ct18), sl18⟩) (c18 : PySem.W.codeIn K cd18 "_law_token" = true) (k18 : PySem.W.keepIn K (.ref f18) = true)
    (a19 : PySem.W.nsIn K mainGlobals "_law_kind_of" = some (some (.ref f19))) (l19 : K.lookup f19 = some ⟨oc19, od19, .func (PySem.W.fnOf "_law_kind_of" "_law_kind_of" (defArgs sLawKindOf) (defBody sLawKindOf) (defScope sLawKindOf) .none kV19 dc19 pm19 an19 cd19 ct19), sl19⟩) (c19 : PySem.W.codeIn K cd19 "_law_kind_of" = true) (k19 : PySem.W.keepIn K (.ref f19) = true)
    (a20 : PySem.W.nsIn K mainGlobals "_law_run_together" = some (some (.ref f20))) (l20 : K.lookup f20 = some ⟨oc20, od20, .func (PySem.W.fnOf "_law_run_together" "_law_run_together" (defArgs sLawRunTogether) (defBody sLawRunTogether) (defScope sLawRunTogether) .none kV20 dc20 pm20 an20 cd20 ct20), sl20⟩) (c20 : PySem.W.codeIn K cd20 "_law_run_together" = true) (k20 : PySem.W.keepIn K (.ref f20) = true)
    (a21 : PySem.W.nsIn K mainGlobals "law" = some (some (.ref f21))) (l21 : K.lookup f21 = some ⟨oc21, od21, .func (PySem.W.fnOf "law" "law" (defArgs sLaw) (defBody sLaw) (defScope sLaw) .none kV21 dc21 pm21 an21 cd21 ct21), sl21⟩) (c21 : PySem.W.codeIn K cd21 "law" = true) (k21 : PySem.W.keepIn K (.ref f21) = true)
    (z_range : PySem.W.nsIn K mainGlobals "range" = some none)
    (z_isinstance : PySem.W.nsIn K mainGlobals "isinstance" = some none)
    (z_bool : PySem.W.nsIn K mainGlobals "bool" = some none)
    (z_str : PySem.W.nsIn K mainGlobals "str" = some none)
    (z_all : PySem.W.nsIn K mainGlobals "all" = some none)
    (z_int : PySem.W.nsIn K mainGlobals "int" = some none)
    (z_len : PySem.W.nsIn K mainGlobals "len" = some none)
    (z_list : PySem.W.nsIn K mainGlobals "list" = some none)
    (z_tuple : PySem.W.nsIn K mainGlobals "tuple" = some none)
    (x_gcd : PySem.W.nsIn K mainGlobals "gcd" = some (some (.builtin "math.gcd")))
    (x_DIGITS : PySem.W.nsIn K mainGlobals "DIGITS" = some (some (.str "0123456789" t_DIGITS)))
    (x_MOST_BEFORE_POINT : PySem.W.nsIn K mainGlobals "MOST_BEFORE_POINT" = some (some (.int 12 t_MOST_BEFORE_POINT)))
    (x_MOST_BEHIND_POINT : PySem.W.nsIn K mainGlobals "MOST_BEHIND_POINT" = some (some (.int 6 t_MOST_BEHIND_POINT)))
    (x_PARTS : PySem.W.nsIn K mainGlobals "PARTS" = some (some (.int 1000000 t_PARTS)))
    (x_CAPITALS : PySem.W.nsIn K mainGlobals "CAPITALS" = some (some (.str "ABCDEFGHIJKLMNOPQRSTUVWXYZ" t_CAPITALS)))
    (x_SMALL : PySem.W.nsIn K mainGlobals "SMALL" = some (some (.str "abcdefghijklmnopqrstuvwxyz" t_SMALL)))
    (x_SIGNS : PySem.W.nsIn K mainGlobals "SIGNS" = some (some (.str "+-*/(),:" t_SIGNS)))
    (x_LONGEST_WORD : PySem.W.nsIn K mainGlobals "LONGEST_WORD" = some (some (.int 8 t_LONGEST_WORD)))
    : ∃ fd : FuncData, (∀ (s : Shared) (v : Value), BindsTo s fd ⟨[v], []⟩ [("script", v)]) ∧ ∀ base : Heap, K.In base → base.Ns mainGlobals mg → FnOk l.prog w K mg base CX0 6 fa fd ["script"] (spLaw K) := by
  have e := hfa.symm.trans (PySem.W.mg_of X G a21)
  cases e
  have F1 := fun_mk (st := sFraction) l1 c1 k1
  have b1 := F1.binds (ps := ["n", "d"]) fun _ _ _ _ _ _ us hl => match us, hl with | [_, _], _ => rfl
  have F2 := fun_mk (st := sIsDigits) l2 c2 k2
  have b2 := F2.binds (ps := ["text"]) fun _ _ _ _ _ _ us hl => match us, hl with | [_], _ => rfl
  have F3 := fun_mk (st := sReadDecimal) l3 c3 k3
  have b3 := F3.binds (ps := ["text"]) fun _ _ _ _ _ _ us hl => match us, hl with | [_], _ => rfl
  have F4 := fun_mk (st := sRunEnd) l4 c4 k4
  have b4 := F4.binds (ps := ["text", "at", "characters"]) fun _ _ _ _ _ _ us hl => match us, hl with | [_, _, _], _ => rfl
  have F5 := fun_mk (st := sReadAddress) l5 c5 k5
  have b5 := F5.binds (ps := ["text"]) fun _ _ _ _ _ _ us hl => match us, hl with | [_], _ => rfl
  have F6 := fun_mk (st := sTokenEnd) l6 c6 k6
  have b6 := F6.binds (ps := ["text", "at"]) fun _ _ _ _ _ _ us hl => match us, hl with | [_, _], _ => rfl
  have F7 := fun_mk (st := sKind) l7 c7 k7
  have b7 := F7.binds (ps := ["token"]) fun _ _ _ _ _ _ us hl => match us, hl with | [_], _ => rfl
  have F8 := fun_mk (st := sTokenList) l8 c8 k8
  have b8 := F8.binds (ps := ["text"]) fun _ _ _ _ _ _ us hl => match us, hl with | [_], _ => rfl
  have F9 := fun_mk (st := sTokens) l9 c9 k9
  have b9 := F9.binds (ps := ["text"]) fun _ _ _ _ _ _ us hl => match us, hl with | [_], _ => rfl
  have F10 := fun_mk (st := sLawCell) l10 c10 k10
  have b10 := F10.binds (ps := ["script", "k"]) fun _ _ _ _ _ _ us hl => match us, hl with | [_, _], _ => rfl
  have F11 := fun_mk (st := sLawDigits) l11 c11 k11
  have b11 := F11.binds (ps := ["script", "first", "last"]) fun _ _ _ _ _ _ us hl => match us, hl with | [_, _, _], _ => rfl
  have F12 := fun_mk (st := sLawDraw) l12 c12 k12
  have b12 := F12.binds (ps := ["box", "many"]) fun _ _ _ _ _ _ us hl => match us, hl with | [_, _], _ => rfl
  have F13 := fun_mk (st := sLawSame) l13 c13 k13
  have b13 := F13.binds (ps := ["actual", "due"]) fun _ _ _ _ _ _ us hl => match us, hl with | [_, _], _ => rfl
  have F14 := fun_mk (st := sLawDigitText) l14 c14 k14
  have b14 := F14.binds (ps := ["box", "many"]) fun _ _ _ _ _ _ us hl => match us, hl with | [_, _], _ => rfl
  have F15 := fun_mk (st := sLawLetters) l15 c15 k15
  have b15 := F15.binds (ps := ["box", "many", "letters"]) fun _ _ _ _ _ _ us hl => match us, hl with | [_, _, _], _ => rfl
  have F16 := fun_mk (st := sLawNumber) l16 c16 k16
  have b16 := F16.binds (ps := ["box"]) fun _ _ _ _ _ _ us hl => match us, hl with | [_], _ => rfl
  have F17 := fun_mk (st := sLawPlace) l17 c17 k17
  have b17 := F17.binds (ps := ["box"]) fun _ _ _ _ _ _ us hl => match us, hl with | [_], _ => rfl
  have F18 := fun_mk (st := sLawToken) l18 c18 k18
  have b18 := F18.binds (ps := ["box"]) fun _ _ _ _ _ _ us hl => match us, hl with | [_], _ => rfl
  have F19 := fun_mk (st := sLawKindOf) l19 c19 k19
  have b19 := F19.binds (ps := ["char"]) fun _ _ _ _ _ _ us hl => match us, hl with | [_], _ => rfl
  have F20 := fun_mk (st := sLawRunTogether) l20 c20 k20
  have b20 := F20.binds (ps := ["one", "two"]) fun _ _ _ _ _ _ us hl => match us, hl with | [_, _], _ => rfl
  have F21 := fun_mk (st := sLaw) l21 c21 k21
  have b21 := F21.binds (ps := ["script"]) fun _ _ _ _ _ _ us hl => match us, hl with | [_], _ => rfl
  exact ⟨PySem.W.fnOf "law" "law" (defArgs sLaw) (defBody sLaw) (defScope sLaw) .none kV21 dc21 pm21 an21 cd21 ct21, fun s v => .of_eq rfl, fun base _ _ => okLaw (P := l.prog) (w := w) (base := base) (⟨f1, _, F1, b1, PySem.W.mg_of X G a1, f2, _, F2, b2, PySem.W.mg_of X G a2, f3, _, F3, b3, PySem.W.mg_of X G a3, f4, _, F4, b4, PySem.W.mg_of X G a4, f5, _, F5, b5, PySem.W.mg_of X G a5, f6, _, F6, b6, PySem.W.mg_of X G a6, f7, _, F7, b7, PySem.W.mg_of X G a7, f8, _, F8, b8, PySem.W.mg_of X G a8, f9, _, F9, b9, PySem.W.mg_of X G a9, f10, _, F10, b10, PySem.W.mg_of X G a10, f11, _, F11, b11, PySem.W.mg_of X G a11, f12, _, F12, b12, PySem.W.mg_of X G a12, f13, _, F13, b13, PySem.W.mg_of X G a13, f14, _, F14, b14, PySem.W.mg_of X G a14, f15, _, F15, b15, PySem.W.mg_of X G a15, f16, _, F16, b16, PySem.W.mg_of X G a16, f17, _, F17, b17, PySem.W.mg_of X G a17, f18, _, F18, b18, PySem.W.mg_of X G a18, f19, _, F19, b19, PySem.W.mg_of X G a19, f20, _, F20, b20, PySem.W.mg_of X G a20, fa, _, F21, b21, PySem.W.mg_of X G a21, PySem.W.mg_none_of X G z_range, PySem.W.mg_none_of X G z_isinstance, PySem.W.mg_none_of X G z_bool, PySem.W.mg_none_of X G z_str, PySem.W.mg_none_of X G z_all, PySem.W.mg_none_of X G z_int, PySem.W.mg_none_of X G z_len, PySem.W.mg_none_of X G z_list, PySem.W.mg_none_of X G z_tuple, PySem.W.mg_of X G x_gcd, t_DIGITS, PySem.W.mg_of X G x_DIGITS, t_MOST_BEFORE_POINT, PySem.W.mg_of X G x_MOST_BEFORE_POINT, t_MOST_BEHIND_POINT, PySem.W.mg_of X G x_MOST_BEHIND_POINT, t_PARTS, PySem.W.mg_of X G x_PARTS, t_CAPITALS, PySem.W.mg_of X G x_CAPITALS, t_SMALL, PySem.W.mg_of X G x_SMALL, t_SIGNS, PySem.W.mg_of X G x_SIGNS, t_LONGEST_WORD, PySem.W.mg_of X G x_LONGEST_WORD⟩ : Txt K mg)⟩
theorem walk {l : PySem.W.OpenLaw} {q : Program} {loose : List Str} {XP : (Str → Option Value) → Heap → Prop} {YP : World → Heap → Prop} {d : DefRec} {K : Params → PySem.W.Frag} (hn : l.most = some 63) (hdf : d.params.defaults = [])
    (hY : ∀ (w : World) (h : Heap), YP w h → (K w.params).In h)
    (F : ∀ (w : World) (mg : Str → Option Value) (fa : Addr) (h : Heap), (K w.params).In h → h.Ns mainGlobals mg → mg d.name = some (.ref fa) →
      ∃ fd : FuncData, (∀ (s : Shared) (u : Value), BindsTo s fd ⟨[u], []⟩ [("script", u)]) ∧ ∀ base : Heap, (K w.params).In base → base.Ns mainGlobals mg → FnOk l.prog w (K w.params) mg base CX0 6 fa fd ["script"] (spLaw (K w.params))) :
    PySem.W.WalkO q loose XP YP l.row.toRowW d [] (fun f vs => PySem.call f vs) :=
  L2.walk_of (n := 63) (k := 6) (x := "script") (CX := fun _ => CX0) (sp := fun w => spLaw (K w.params)) hn (by decide) hdf ⟨rfl, by decide, by decide⟩ hY F (fun _ _ a ns hl _ hS => ⟨a, ns, rfl, hS, hl, fun _ => rfl⟩) fun _ _ _ _ _ z => z
end My
open PySem PySem.W PyProof.Rows
set_option maxRecDepth 100000 in
set_option maxHeartbeats 0 in
theorem PySem.Challenge.cw_tablemates_k06_tokens_are_told_holds : PySem.Challenge.rw_tablemates_k06_tokens_are_told.Holds := by
  w_on; o_law; k_head; (case hw => w_witness2)
  k_fill
  refine My.walk (l := PySem.Challenge.rw_tablemates_k06_tokens_are_told) rfl rfl (fun w h Y => PySem.W.kIn_of Y) ?F
  case F =>
    intro w mg fa h KX G hmg
    refine' My.all_mk KX G hmg ?a1 ?l1 ?c1 ?k1 ?a2 ?l2 ?c2 ?k2 ?a3 ?l3 ?c3 ?k3 ?a4 ?l4 ?c4 ?k4 ?a5 ?l5 ?c5 ?k5 ?a6 ?l6 ?c6 ?k6 ?a7 ?l7 ?c7 ?k7 ?a8 ?l8 ?c8 ?k8 ?a9 ?l9 ?c9 ?k9 ?a10 ?l10 ?c10 ?k10 ?a11 ?l11 ?c11 ?k11 ?a12 ?l12 ?c12 ?k12 ?a13 ?l13 ?c13 ?k13 ?a14 ?l14 ?c14 ?k14 ?a15 ?l15 ?c15 ?k15 ?a16 ?l16 ?c16 ?k16 ?a17 ?l17 ?c17 ?k17 ?a18 ?l18 ?c18 ?k18 ?a19 ?l19 ?c19 ?k19 ?a20 ?l20 ?c20 ?k20 ?a21 ?l21 ?c21 ?k21 ?z_range ?z_isinstance ?z_bool ?z_str ?z_all ?z_int ?z_len ?z_list ?z_tuple ?x_gcd ?x_DIGITS ?x_MOST_BEFORE_POINT ?x_MOST_BEHIND_POINT ?x_PARTS ?x_CAPITALS ?x_SMALL ?x_SIGNS ?x_LONGEST_WORD
    (case a1 => k_is); (case l1 => k_is); (case c1 => k_is); (case k1 => k_is); (case a2 => k_is); (case l2 => k_is); (case c2 => k_is); (case k2 => k_is); (case a3 => k_is); (case l3 => k_is); (case c3 => k_is); (case k3 => k_is); (case a4 => k_is); (case l4 => k_is); (case c4 => k_is); (case k4 => k_is); (case a5 => k_is); (case l5 => k_is); (case c5 => k_is); (case k5 => k_is); (case a6 => k_is); (case l6 => k_is); (case c6 => k_is); (case k6 => k_is); (case a7 => k_is); (case l7 => k_is); (case c7 => k_is); (case k7 => k_is); (case a8 => k_is); (case l8 => k_is); (case c8 => k_is); (case k8 => k_is); (case a9 => k_is); (case l9 => k_is); (case c9 => k_is); (case k9 => k_is); (case a10 => k_is); (case l10 => k_is); (case c10 => k_is); (case k10 => k_is); (case a11 => k_is); (case l11 => k_is); (case c11 => k_is); (case k11 => k_is); (case a12 => k_is); (case l12 => k_is); (case c12 => k_is); (case k12 => k_is); (case a13 => k_is); (case l13 => k_is); (case c13 => k_is); (case k13 => k_is); (case a14 => k_is); (case l14 => k_is); (case c14 => k_is); (case k14 => k_is); (case a15 => k_is); (case l15 => k_is); (case c15 => k_is); (case k15 => k_is); (case a16 => k_is); (case l16 => k_is); (case c16 => k_is); (case k16 => k_is); (case a17 => k_is); (case l17 => k_is); (case c17 => k_is); (case k17 => k_is); (case a18 => k_is); (case l18 => k_is); (case c18 => k_is); (case k18 => k_is); (case a19 => k_is); (case l19 => k_is); (case c19 => k_is); (case k19 => k_is); (case a20 => k_is); (case l20 => k_is); (case c20 => k_is); (case k20 => k_is); (case a21 => k_is); (case l21 => k_is); (case c21 => k_is); (case k21 => k_is); (case z_range => k_is); (case z_isinstance => k_is); (case z_bool => k_is); (case z_str => k_is); (case z_all => k_is); (case z_int => k_is); (case z_len => k_is); (case z_list => k_is); (case z_tuple => k_is); (case x_gcd => k_is); (case x_DIGITS => k_is); (case x_MOST_BEFORE_POINT => k_is); (case x_MOST_BEHIND_POINT => k_is); (case x_PARTS => k_is); (case x_CAPITALS => k_is); (case x_SMALL => k_is); (case x_SIGNS => k_is); (case x_LONGEST_WORD => k_is)

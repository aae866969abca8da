import PyProof.Rows.All
import Wide.All
import OpenK.AllK
import Wide.FinOn
import HandS.ForMost
import HandS.Zip
import HandS.Walk
import HandS.Gcd
import HandS.Wide
import HandS.IsInst
import HandS.Codes
import HandS.StrMore
import HandS.WordsExc
import KE.IntTextText
import PySem.Challenge.RW_tablemates_k03_number_texts_are_read
set_option Elab.async false
set_option linter.all false
set_option maxRecDepth 100000
namespace My
open PySem PySem.Spec PyProof.Rows L2 RZ
def topS (i : Nat) : Stmt := PySem.Challenge.pw_tablemates_k03_number_texts_are_read.main.body.getD i (.Pass ⟨0, 0, 0, 0⟩)
abbrev sFraction : Stmt := topS 2
abbrev sIsDigits : Stmt := topS 8
abbrev sReadDecimal : Stmt := topS 9
abbrev sReadNumber : Stmt := topS 10
abbrev sLawCell : Stmt := topS 12
abbrev sLawDigits : Stmt := topS 13
abbrev sLawDraw : Stmt := topS 14
abbrev sLawGcd : Stmt := topS 15
abbrev sLawLowest : Stmt := topS 16
abbrev sLawSame : Stmt := topS 17
abbrev sLawAllDigits : Stmt := topS 18
abbrev sLawOwnDecimal : Stmt := topS 19
abbrev sLawOwnNumber : Stmt := topS 20
abbrev sLawDigitText : Stmt := topS 21
abbrev sLawAny : Stmt := topS 22
abbrev sLawText : Stmt := topS 23
abbrev sLaw : Stmt := topS 24
theorem scFraction : FnScope ["n", "d", "common"] ["n", "d"] (defScope sFraction) := ⟨rfl, rfl, rfl, by decide +kernel, rfl, by decide +kernel, by decide +kernel⟩
theorem scIsDigits : FnScope ["text", "character"] ["text"] (defScope sIsDigits) := ⟨rfl, rfl, rfl, by decide +kernel, rfl, by decide +kernel, by decide +kernel⟩
theorem scReadDecimal : FnScope ["text", "whole", "point", "rest"] ["text"] (defScope sReadDecimal) := ⟨rfl, rfl, rfl, by decide +kernel, rfl, by decide +kernel, by decide +kernel⟩
theorem scReadNumber : FnScope ["text", "x"] ["text"] (defScope sReadNumber) := ⟨rfl, rfl, rfl, by decide +kernel, rfl, by decide +kernel, by decide +kernel⟩
theorem scLawCell : FnScope ["script", "k"] ["script", "k"] (defScope sLawCell) := ⟨rfl, rfl, rfl, by decide +kernel, rfl, by decide +kernel, by decide +kernel⟩
theorem scLawDigits : FnScope ["script", "first", "last", "digits", "k", "cell", "turn", "seed"] ["script", "first", "last"] (defScope sLawDigits) := ⟨rfl, rfl, rfl, by decide +kernel, rfl, by decide +kernel, by decide +kernel⟩
theorem scLawDraw : FnScope ["box", "many", "at"] ["box", "many"] (defScope sLawDraw) := ⟨rfl, rfl, rfl, by decide +kernel, rfl, by decide +kernel, by decide +kernel⟩
theorem scLawGcd : FnScope ["a", "b", "turn", "rest"] ["a", "b"] (defScope sLawGcd) := ⟨rfl, rfl, rfl, by decide +kernel, rfl, by decide +kernel, by decide +kernel⟩
theorem scLawLowest : FnScope ["n", "d", "common"] ["n", "d"] (defScope sLawLowest) := ⟨rfl, rfl, rfl, by decide +kernel, rfl, by decide +kernel, by decide +kernel⟩
theorem scLawSame : FnScope ["actual", "due", "k"] ["actual", "due"] (defScope sLawSame) := ⟨rfl, rfl, rfl, by decide +kernel, rfl, by decide +kernel, by decide +kernel⟩
theorem scLawAllDigits : FnScope ["text", "char"] ["text"] (defScope sLawAllDigits) := ⟨rfl, rfl, rfl, by decide +kernel, rfl, by decide +kernel, by decide +kernel⟩
theorem scLawOwnDecimal : FnScope ["text", "whole", "more", "at"] ["text"] (defScope sLawOwnDecimal) := ⟨rfl, rfl, rfl, by decide +kernel, rfl, by decide +kernel, by decide +kernel⟩
theorem scLawOwnNumber : FnScope ["text", "x"] ["text"] (defScope sLawOwnNumber) := ⟨rfl, rfl, rfl, by decide +kernel, rfl, by decide +kernel, by decide +kernel⟩
theorem scLawDigitText : FnScope ["box", "many", "text", "k"] ["box", "many"] (defScope sLawDigitText) := ⟨rfl, rfl, rfl, by decide +kernel, rfl, by decide +kernel, by decide +kernel⟩
theorem scLawAny : FnScope ["box", "chars"] ["box"] (defScope sLawAny) := ⟨rfl, rfl, rfl, by decide +kernel, rfl, by decide +kernel, by decide +kernel⟩
theorem scLawText : FnScope ["box", "text", "k", "change", "at"] ["box"] (defScope sLawText) := ⟨rfl, rfl, rfl, by decide +kernel, rfl, by decide +kernel, by decide +kernel⟩
theorem scLaw : FnScope ["script", "box", "turn", "text"] ["script"] (defScope sLaw) := ⟨rfl, rfl, rfl, by decide +kernel, rfl, by decide +kernel, by decide +kernel⟩
set_option maxHeartbeats 0 in
structure Txt (K : PySem.W.Frag) (mg : Str → Option Value) where
  fFraction : Addr
  fdFraction : FuncData
  FFraction : Fun K "fraction" "fraction" sFraction fFraction fdFraction
  bFraction : Binds K fdFraction ["n", "d"] []
  gFraction : mg "fraction" = some (.ref fFraction)
  fIsDigits : Addr
  fdIsDigits : FuncData
  FIsDigits : Fun K "_is_digits" "_is_digits" sIsDigits fIsDigits fdIsDigits
  bIsDigits : Binds K fdIsDigits ["text"] []
  gIsDigits : mg "_is_digits" = some (.ref fIsDigits)
  fReadDecimal : Addr
  fdReadDecimal : FuncData
  FReadDecimal : Fun K "read_decimal" "read_decimal" sReadDecimal fReadDecimal fdReadDecimal
  bReadDecimal : Binds K fdReadDecimal ["text"] []
  gReadDecimal : mg "read_decimal" = some (.ref fReadDecimal)
  fReadNumber : Addr
  fdReadNumber : FuncData
  FReadNumber : Fun K "read_number" "read_number" sReadNumber fReadNumber fdReadNumber
  bReadNumber : Binds K fdReadNumber ["text"] []
  gReadNumber : mg "read_number" = some (.ref fReadNumber)
  fLawCell : Addr
  fdLawCell : FuncData
  FLawCell : Fun K "_law_cell" "_law_cell" sLawCell fLawCell fdLawCell
  bLawCell : Binds K fdLawCell ["script", "k"] []
  gLawCell : mg "_law_cell" = some (.ref fLawCell)
  fLawDigits : Addr
  fdLawDigits : FuncData
  FLawDigits : Fun K "_law_digits" "_law_digits" sLawDigits fLawDigits fdLawDigits
  bLawDigits : Binds K fdLawDigits ["script", "first", "last"] []
  gLawDigits : mg "_law_digits" = some (.ref fLawDigits)
  fLawDraw : Addr
  fdLawDraw : FuncData
  FLawDraw : Fun K "_law_draw" "_law_draw" sLawDraw fLawDraw fdLawDraw
  bLawDraw : Binds K fdLawDraw ["box", "many"] []
  gLawDraw : mg "_law_draw" = some (.ref fLawDraw)
  fLawGcd : Addr
  fdLawGcd : FuncData
  FLawGcd : Fun K "_law_gcd" "_law_gcd" sLawGcd fLawGcd fdLawGcd
  bLawGcd : Binds K fdLawGcd ["a", "b"] []
  gLawGcd : mg "_law_gcd" = some (.ref fLawGcd)
  fLawLowest : Addr
  fdLawLowest : FuncData
  FLawLowest : Fun K "_law_lowest" "_law_lowest" sLawLowest fLawLowest fdLawLowest
  bLawLowest : Binds K fdLawLowest ["n", "d"] []
  gLawLowest : mg "_law_lowest" = some (.ref fLawLowest)
  fLawSame : Addr
  fdLawSame : FuncData
  FLawSame : Fun K "_law_same" "_law_same" sLawSame fLawSame fdLawSame
  bLawSame : Binds K fdLawSame ["actual", "due"] []
  gLawSame : mg "_law_same" = some (.ref fLawSame)
  fLawAllDigits : Addr
  fdLawAllDigits : FuncData
  FLawAllDigits : Fun K "_law_all_digits" "_law_all_digits" sLawAllDigits fLawAllDigits fdLawAllDigits
  bLawAllDigits : Binds K fdLawAllDigits ["text"] []
  gLawAllDigits : mg "_law_all_digits" = some (.ref fLawAllDigits)
  fLawOwnDecimal : Addr
  fdLawOwnDecimal : FuncData
  FLawOwnDecimal : Fun K "_law_own_decimal" "_law_own_decimal" sLawOwnDecimal fLawOwnDecimal fdLawOwnDecimal
  bLawOwnDecimal : Binds K fdLawOwnDecimal ["text"] []
  gLawOwnDecimal : mg "_law_own_decimal" = some (.ref fLawOwnDecimal)
  fLawOwnNumber : Addr
  fdLawOwnNumber : FuncData
  FLawOwnNumber : Fun K "_law_own_number" "_law_own_number" sLawOwnNumber fLawOwnNumber fdLawOwnNumber
  bLawOwnNumber : Binds K fdLawOwnNumber ["text"] []
  gLawOwnNumber : mg "_law_own_number" = some (.ref fLawOwnNumber)
  fLawDigitText : Addr
  fdLawDigitText : FuncData
  FLawDigitText : Fun K "_law_digit_text" "_law_digit_text" sLawDigitText fLawDigitText fdLawDigitText
  bLawDigitText : Binds K fdLawDigitText ["box", "many"] []
  gLawDigitText : mg "_law_digit_text" = some (.ref fLawDigitText)
  fLawAny : Addr
  fdLawAny : FuncData
  FLawAny : Fun K "_law_any" "_law_any" sLawAny fLawAny fdLawAny
  bLawAny : Binds K fdLawAny ["box"] []
  gLawAny : mg "_law_any" = some (.ref fLawAny)
  fLawText : Addr
  fdLawText : FuncData
  FLawText : Fun K "_law_text" "_law_text" sLawText fLawText fdLawText
  bLawText : Binds K fdLawText ["box"] []
  gLawText : mg "_law_text" = some (.ref fLawText)
  fLaw : Addr
  fdLaw : FuncData
  FLaw : Fun K "law" "law" sLaw fLaw fdLaw
  bLaw : Binds K fdLaw ["script"] []
  gLaw : mg "law" = some (.ref fLaw)
  z_range : mg "range" = none
  z_abs : mg "abs" = none
  z_isinstance : mg "isinstance" = none
  z_bool : mg "bool" = none
  z_str : mg "str" = none
  z_all : mg "all" = none
  z_int : mg "int" = none
  z_len : mg "len" = none
  z_list : mg "list" = none
  z_tuple : mg "tuple" = none
  g_gcd : mg "gcd" = some (.builtin "math.gcd")
  t_DIGITS : Nat
  g_DIGITS : mg "DIGITS" = some (.str "0123456789" t_DIGITS)
  t_MOST_BEFORE_POINT : Nat
  g_MOST_BEFORE_POINT : mg "MOST_BEFORE_POINT" = some (.int 12 t_MOST_BEFORE_POINT)
  t_MOST_BEHIND_POINT : Nat
  g_MOST_BEHIND_POINT : mg "MOST_BEHIND_POINT" = some (.int 6 t_MOST_BEHIND_POINT)
  t_PARTS : Nat
  g_PARTS : mg "PARTS" = some (.int 1000000 t_PARTS)
section
variable {P : Program} {w : World} {K : PySem.W.Frag} {mg : Str → Option Value} {base : Heap}
/-! ### heaps -/
theorem _root_.L2.Same.tup {K : PySem.W.Frag} {H H' : Hp} {a : Addr} {xs : List V} (e : Same H H') (h : SqT K H a xs) : SqT K H' a xs := by
  rcases h with (h | ⟨o, h⟩) | h
  · exact .inl (.inl (e _ _ h))
  · exact .inl (.inr ⟨o, e _ _ h⟩)
  · exact .inr h
theorem same_new {H : Hp} {p : Addr} {o : HO} (h : H p = none) : Same H (upd H p o) := fun b x e => by
  rw [upd_ne (ne_of_none e h)]
  exact e
theorem same_mut {H H' : Hp} {p : Addr} {o : HO} (e : Same H H') (h : H p = none) : Same H (upd H' p o) := fun b x ha => by
  rw [upd_ne (ne_of_none ha h)]
  exact e b x ha
theorem walk_zipT {K : PySem.W.Frag} {a b : Addr} {xs ys : List V} {n : Nat} (hn : n = min xs.length ys.length) : Walk (ItzT K a b) n (fun H => SqT K H a xs ∧ SqT K H b ys) (YPair (fun i => xs[i]?) (fun i => ys[i]?)) := by
  subst hn
  refine ⟨fun i _ hi q => ?_, fun _ q => ⟨xs, ys, q.1, q.2, by omega⟩, fun i H v H' _ q y => ?_⟩
  · have h1 : i < xs.length := by omega
    have h2 : i < ys.length := by omega
    exact ⟨xs, ys, xs[i], ys[i], q.1, q.2, by simp [h1], by simp [h2]⟩
  · obtain ⟨T, x, z, h1, h2, h3, h4, h5⟩ := y
    exact ⟨T, x, z, h1, h2, h3, h4 xs q.1, h5 ys q.2⟩
/-- a function that hands back a bool or an int and changes nothing -/
theorem getD_at {ns : List Int} {i : Nat} (h : i < ns.length) : (ns.map V.int)[i]? = some (.int (ns.getD i 0)) := by
  rw [List.getElem?_map, List.getElem?_eq_getElem h, List.getD_eq_getElem?_getD, List.getElem?_eq_getElem h]
  rfl
theorem dp_ints {K : PySem.W.Frag} {H : Hp} : ∀ ns : List Int, DpAll K H (ns.map V.int) (ns.map PyData.int)
  | [] => .nil
  | n :: r => .cons (.int n) (dp_ints r)
theorem shaped_tup (ns : List Int) : SeqAt.shaped (.tuple (ns.map PyData.int)) = true := by
  simp [SeqAt.shaped, PyData.canLay0, PyData.depth, PySem.W.ke_canLayAll0, PySem.W.ke_depthAll]
theorem shaped_lst (ns : List Int) : SeqAt.shaped (.list (ns.map PyData.int)) = true := PySem.W.ke_shaped_ints ns
theorem eqv_same {d : PyData} (h : SeqAt.shaped d = true) : PyData.eqv d d = true := by
  refine SeqAt.eqv_refl d ?_
  unfold SeqAt.shaped at h
  exact (Bool.and_eq_true _ _ ▸ h).1
theorem yesT {σ : L2.St} {H : Hp} {A B : Hp → Prop} (h : A H) : tYes σ H (fun b H3 => if b = true then A H3 else B H3) := iteT (A := A H) (B := B H) h
/-! ### texts -/
open SX (S S_len S_cat slice_to slice_from num_S int_S)
open PySem.NumText (digitsVal AllDigits)
open TL (numL)
def cap (c : Nat) : Bool := decide (65 ≤ c ∧ c ≤ 90)
def dig (c : Nat) : Bool := decide (48 ≤ c ∧ c ≤ 57)
theorem dig_mem (c : Nat) : decide (c ∈ ("0123456789" : Str).cps.toList) = dig c := by
  have e : ("0123456789" : Str).cps.toList = [48, 49, 50, 51, 52, 53, 54, 55, 56, 57] := by decide +kernel
  rw [e]
  unfold dig
  refine decide_eq_decide.mpr ?_
  simp only [List.mem_cons, List.not_mem_nil, or_false]
  omega
theorem cap_mem (c : Nat) : decide (c ∈ ("ABCDEFGHIJKLMNOPQRSTUVWXYZ" : Str).cps.toList) = cap c := by
  have e : ("ABCDEFGHIJKLMNOPQRSTUVWXYZ" : Str).cps.toList = [65, 66, 67, 68, 69, 70, 71, 72, 73, 74, 75, 76, 77, 78, 79, 80, 81, 82, 83, 84, 85, 86, 87, 88, 89, 90] := by decide +kernel
  rw [e]
  unfold cap
  refine decide_eq_decide.mpr ?_
  simp only [List.mem_cons, List.not_mem_nil, or_false]
  omega
theorem walk_S {a : List Nat} : Walk (Its (S a)) a.length (fun _ => True) (fun i H v H' => H' = H ∧ ∃ c, a[i]? = some c ∧ v = .str (S [c])) :=
  ⟨fun i _ hi _ => by show i < a.toArray.size; simpa using hi, fun _ _ => by show a.toArray.size ≤ a.length; simp, fun i H v H' _ _ y => by
    obtain ⟨e, c, h1, h2⟩ := y
    exact ⟨e, c, by simpa using h1, h2⟩⟩
theorem tw_len {p : Nat → Bool} : ∀ {a : List Nat} {i c : Nat}, (∀ x ∈ a.take i, p x = true) → a[i]? = some c → p c = false → (a.takeWhile p).length = i
  | [], i, c, _, e, _ => by simp at e
  | x :: r, 0, c, _, e, hc => by
    have e2 := Option.some.inj e
    rw [List.takeWhile_cons, e2, hc]
    rfl
  | x :: r, i + 1, c, h, e, hc => by
    have hx : p x = true := h x (by simp)
    rw [List.takeWhile_cons, hx]
    show ((r.takeWhile p).length + 1) = i + 1
    rw [tw_len (fun y hy => h y (by rw [List.take_succ_cons]; exact List.mem_cons_of_mem _ hy)) (by simpa using e) hc]
theorem tw_all {p : Nat → Bool} {a : List Nat} (h : ∀ x ∈ a, p x = true) : (a.takeWhile p).length = a.length := by
  induction a with
  | nil => rfl
  | cons x r ih =>
    rw [List.takeWhile_cons, h x List.mem_cons_self]
    show (r.takeWhile p).length + 1 = r.length + 1
    rw [ih fun y hy => h y (List.mem_cons_of_mem _ hy)]
theorem tw_self {p : Nat → Bool} : ∀ {a : List Nat}, (∀ x ∈ a, p x = true) → a.takeWhile p = a
  | [], _ => rfl
  | x :: r, h => by rw [List.takeWhile_cons, h x List.mem_cons_self, if_pos rfl, tw_self fun y hy => h y (List.mem_cons_of_mem _ hy)]
theorem tw_le {p : Nat → Bool} (a : List Nat) : (a.takeWhile p).length ≤ a.length := by
  induction a with
  | nil => exact Nat.le_refl _
  | cons x r ih =>
    rw [List.takeWhile_cons]
    split
    · exact Nat.succ_le_succ ih
    · exact Nat.zero_le _
theorem tw_take {p : Nat → Bool} : ∀ (a : List Nat), ∀ x ∈ a.take (a.takeWhile p).length, p x = true
  | [], x, h => by simp at h
  | y :: r, x, h => by
    rw [List.takeWhile_cons] at h
    split at h
    · rename_i hy
      rw [List.length_cons, List.take_succ_cons] at h
      rcases List.mem_cons.mp h with e | e
      · rw [e]
        exact hy
      · exact tw_take r x e
    · simp at h
theorem tw_full {p : Nat → Bool} {a : List Nat} (h : (a.takeWhile p).length = a.length) : ∀ x ∈ a, p x = true := fun x hx => tw_take a x (by rw [h, List.take_length]; exact hx)
theorem tw_congr {p q : Nat → Bool} (h : ∀ c, p c = q c) (a : List Nat) : a.takeWhile p = a.takeWhile q := by
  rw [show p = q from funext h]
theorem in12 (n : Int) : inV (.int n) [.int 1, .int 2] = decide (n = 1 ∨ n = 2) := by
  show ((1 : Int) == n || ((2 : Int) == n || false)) = _
  rw [Bool.eq_iff_iff]
  simp only [Bool.or_false, Bool.or_eq_true, beq_iff_eq, decide_eq_true_eq]
  omega
theorem sz100 {n : Nat} (h : n ≤ 100000) : n ≤ sizeLine := Nat.le_trans h (by decide)
theorem item_by {α : Type} (f : α → V) {xs : List α} {k : Int} (h0 : 0 ≤ k) (h1 : k < xs.length) : ∃ v ∈ xs, atI (xs.map f) k = some (f v) := by
  obtain ⟨j, rfl⟩ := Int.eq_ofNat_of_zero_le h0
  have hj : j < xs.length := by omega
  exact ⟨xs[j], List.getElem_mem hj, atI_nat (by rw [List.getElem?_map, List.getElem?_eq_getElem hj]; rfl)⟩
theorem dig_all {a : List Nat} (h : a.all dig = true) : AllDigits a := fun c hc => of_decide_eq_true (List.all_eq_true.mp h c hc)
theorem int_dig {a : List Nat} (h : a.all dig = true) (hne : a ≠ []) (hl : a.length ≤ 640) : intText? (S a) = some ((digitsVal a : Nat) : Int) := intText_digits (x := S a) (dig_all h) hne (by rw [S_len]; omega)
/-! ### a run of signs -/
def rn (z : Str) (a : List Nat) : Nat := (a.takeWhile fun c => decide (c ∈ z.cps.toList)).length
def spCell (K : PySem.W.Frag) : Sp := fun vs H Q _ => ∃ (a : Addr) (ns : List Int) (k : Int), vs = [.ref a, .int k] ∧ 0 ≤ k ∧ SqL K H a (ns.map V.int) ∧ ∀ v : Int, Q (.int v) H
theorem okLawCell (T : Txt K mg) : FnOk P w K mg base CX0 1 T.fLawCell T.fdLawCell ["script", "k"] (spCell K) := by
  refine T.FLawCell.ok scLawCell (fun vs H Q E h => ?_) (fun cdv A outer s H vs Q E hr h => ?_)
  · obtain ⟨a, ns, k, rfl, _⟩ := h
    rfl
  · obtain ⟨a, ns, k, rfl, h0, hS, q⟩ := h
    obtain ⟨k, rfl⟩ := Int.eq_ofNat_of_zero_le h0
    -- slots script=0 k=1
    refine ⟨_, (pss_cons (ps_if (pt_cmpR op_lt (pv 1) (pe_callB call_len_seq (by rfl) T.z_len PySem.boot_len (pa_cons (pv 0) pa_nil)) (nomark _))
          (pss_one (ps_ret (pe_ix ix_list (pv 0) (pv 1) (fun _ _ => rfl))))
          pss_nil)
        (pss_one (ps_ret pe_int))), ?_⟩
    refine ⟨_, rfl, _, rfl, a, _, rfl, .inl hS, _, _, rfl, rfl, _, rfl, ite2 (fun c => ?_) (fun c => ?_)⟩
    · have hk : k < ns.length := by
        have c2 := of_decide_eq_true c
        rw [List.length_map] at c2
        omega
      exact ⟨_, rfl, _, rfl, a, _, _, _, rfl, rfl, hS, atI_nat (getD_at hk), q _⟩
    · exact q 0
/-! ### numbers that a law draws -/
structure Dig (ds : List Int) (n : Nat) : Prop where
  all : ∀ x ∈ ds, 0 ≤ x ∧ x < 1000
  len : ds.length ≤ n
theorem Dig.nil : Dig [] 0 := ⟨fun _ h => (nomatch h), Nat.le_refl _⟩
theorem Dig.more {ds : List Int} {n m : Nat} (h : Dig ds n) (hm : n ≤ m) : Dig ds m := ⟨h.all, Nat.le_trans h.len hm⟩
theorem Dig.add {ds : List Int} {n : Nat} (h : Dig ds n) (x : Int) : Dig (ds ++ [x % 1000]) (n + 1) := by
  refine ⟨fun y hy => ?_, ?_⟩
  · rcases List.mem_append.mp hy with q | q
    · exact h.all y q
    · obtain rfl : y = x % 1000 := by simpa using q
      omega
  · rw [List.length_append]
    have := h.len
    simp only [List.length_singleton]
    omega
def spDigits (K : PySem.W.Frag) : Sp := fun vs H Q _ => ∃ (a : Addr) (ns : List Int) (lo : Nat) (hi : Nat), vs = [.ref a, .int (lo : Int), .int (hi : Int)] ∧ lo ≤ hi ∧ hi ≤ 1000 ∧ SqL K H a (ns.map V.int) ∧
  ∀ H' d ds, Same H H' → H d = none → H' d = some (.lst (ds.map V.int)) → Dig ds (60 * (hi - lo)) → Q (.ref d) H'
theorem okLawDigits (T : Txt K mg) : FnOk P w K mg base CX0 2 T.fLawDigits T.fdLawDigits ["script", "first", "last"] (spDigits K) := by
  refine T.FLawDigits.ok scLawDigits (fun vs H Q E h => ?_) (fun cdv A outer s H vs Q E hr h => ?_)
  · obtain ⟨a, ns, lo, hi, rfl, _⟩ := h
    rfl
  · obtain ⟨a, ns, lo, hi, rfl, hlh, hh, hS, q⟩ := h
    -- slots script=0 first=1 last=2 digits=3 k=4 cell=5 turn=6 seed=7
    refine ⟨_, (pss_cons (ps_set (i := 3) scLawDigits.nd rfl (Or.inl rfl) (pe_lst pa_nil))
        (pss_cons (ps_for PassesOwn.never rfl (pi_range2 rfl T.z_range (pa_cons (pv 1) (pa_cons (pv 2) pa_nil))) (pg_name (i := 4) scLawDigits.nd rfl (Or.inl rfl))
          (pss_cons (ps_set (i := 5) scLawDigits.nd rfl (Or.inl rfl) (pe_call (okLawCell T) (hr.mono (by decide)) (by rfl) T.gLawCell T.FLawCell.kp T.bLawCell .nil pass0 (pa_cons (pv 0) (pa_cons (pv 4) pa_nil))))
          (pss_cons (ps_if (pt_cmpR op_lt (pv 5) pe_int (nomark _))
            (pss_one (ps_set (i := 5) scLawDigits.nd rfl (Or.inl rfl) (pe_op op_sub pe_int (pe_op op_mul pe_int (pv 5)))))
            pss_nil)
          (pss_one (ps_if (pt_cmpR op_ge (pv 5) (pe_op op_pow pe_int pe_int) (nomark _))
            (pss_one (ps_for PassesOwn.never rfl (pi_range1 rfl T.z_range (pa_cons pe_int pa_nil)) (pg_name (i := 6) scLawDigits.nd rfl (Or.inl rfl))
              (pss_one (ps_if (pt_cmpR op_gt (pv 5) pe_int (nomark _))
                (pss_cons (ps_expr (pe_bm PySem.F.plainAttrs_list PySem.F.slot_list_append PySem.F.type_list_append mt_append (pv 3) (pa_cons (pe_op op_mod (pe_callTy call_int1 (by rfl) T.z_int (by decide +kernel) (pa_cons (pv 5) pa_nil)) pe_int) pa_nil)))
                (pss_one (ps_set (i := 5) scLawDigits.nd rfl (Or.inl rfl) (pe_op op_fdiv (pv 5) pe_int))))
                pss_nil))))
            (pss_cons (ps_set (i := 7) scLawDigits.nd rfl (Or.inl rfl) (pe_op op_mod (pe_callTy call_int1 (by rfl) T.z_int (by decide +kernel) (pa_cons (pe_op op_add (pe_op op_add (pe_op op_mul (pv 5) pe_int) (pe_op op_mul (pv 4) pe_int)) pe_int) pa_nil)) pe_int))
            (pss_one (ps_for PassesOwn.never rfl (pi_range1 rfl T.z_range (pa_cons pe_int pa_nil)) (pg_name (i := 6) scLawDigits.nd rfl (Or.inl rfl))
              (pss_cons (ps_set (i := 7) scLawDigits.nd rfl (Or.inl rfl) (pe_op op_mod (pe_callTy call_int1 (by rfl) T.z_int (by decide +kernel) (pa_cons (pe_op op_add (pe_op op_add (pe_op op_mul (pv 7) pe_int) (pe_op op_mul pe_int (pv 6))) pe_int) pa_nil)) pe_int))
              (pss_one (ps_expr (pe_bm PySem.F.plainAttrs_list PySem.F.slot_list_append PySem.F.type_list_append mt_append (pv 3) (pa_cons (pe_op op_mod (pe_callTy call_int1 (by rfl) T.z_int (by decide +kernel) (pa_cons (pe_op op_fdiv (pv 7) pe_int) pa_nil)) pe_int) pa_nil)))))))))))))
        (pss_one (ps_ret (pv 3))))), ?_⟩
    refine ⟨Nat.zero_le _, fun d hd => ?_⟩
    refine ⟨_, rfl, _, rfl, _, _, rfl, ⟨by omega, by omega, by omega, by omega⟩, ?_⟩
    refine for_range (lo := lo) (n := ((hi : Int) - lo).toNat) (fun i σ H' => ∃ ds c0 c1 c2 c3, σ = [some (.ref a), some (.int (lo : Int)), some (.int (hi : Int)), some (.ref d), c0, c1, c2, c3] ∧ Same H H' ∧ H' d = some (.lst (ds.map V.int)) ∧ Dig ds (60 * i))
      ⟨[], _, _, _, _, rfl, same_new hd, upd_same, Dig.nil⟩ ?_ ?_
    · rintro i σ H1 hi2 ⟨ds, c0, c1, c2, c3, rfl, s1, hd1, D⟩
      -- cell = _law_cell(script, k)
      refine ⟨_, rfl, _, rfl, a, ns, _, rfl, by omega, s1.seq hS, fun v => ?_⟩
      -- if cell < 0
      refine ⟨_, rfl, _, _, rfl, rfl, _, rfl, ite2 (fun _ => ?_) (fun _ => ?_)⟩
      · refine ⟨_, rfl, _, _, rfl, rfl, .inl ⟨by decide, by decide⟩, _, _, rfl, rfl, ?_⟩
        refine ⟨_, rfl, _, _, rfl, rfl, ⟨by decide, by decide, by decide⟩, _, _, rfl, rfl, _, rfl, ite2 (fun _ => ?_) (fun _ => ?_)⟩
        · refine ⟨60, rfl, by decide, by decide, for_range (lo := 0) (n := 60) (fun t σ H' => ∃ ds c c1, σ = [some (.ref a), some (.int (lo : Int)), some (.int (hi : Int)), some (.ref d), some (.int ((lo : Int) + i)), some (.int c), c1, c3] ∧ Same H H' ∧ H' d = some (.lst (ds.map V.int)) ∧ Dig ds (60 * i + t)) ⟨ds, _, _, rfl, s1, hd1, D⟩ ?_ ?_⟩
          · rintro t σ H2 ht ⟨ds, c, c1, rfl, s2, hd2, D2⟩
            refine ⟨_, rfl, _, _, rfl, rfl, _, rfl, ite2 (fun _ => ?_) (fun _ => ?_)⟩
            · refine ⟨_, rfl, .inl ⟨rfl, _, SqL.of hd2⟩, _, rfl, .inl ⟨_, rfl, _, _, rfl, rfl, (by show (0 : Int) < _; decide), d, _, _, rfl, rfl, hd2, ?_, _, rfl, _, _, rfl, rfl, ⟨by decide, by decide⟩, ?_⟩⟩
              · rw [List.length_map]
                exact Nat.lt_of_le_of_lt D2.len (Nat.lt_of_lt_of_le (show 60 * i + t < 100000 by omega) (by decide))
              · exact ⟨ds ++ [c % 1000], _, _, rfl, same_mut s2 hd, by rw [upd_same, List.map_append]; rfl, D2.add c⟩
            · exact ⟨ds, _, _, rfl, s2, hd2, D2.more (Nat.le_succ _)⟩
          · rintro σ H2 ⟨ds, c, c1, rfl, s2, hd2, D2⟩
            exact ⟨ds, _, _, _, _, rfl, s2, hd2, D2⟩
        · refine ⟨_, rfl, _, _, rfl, rfl, .inr ⟨by decide, by decide⟩, _, rfl, _, _, rfl, rfl, .inr ⟨by decide, by decide⟩, _, _, rfl, rfl, _, _, rfl, rfl, .inl ⟨_, rfl, _, _, rfl, rfl, (by show (0 : Int) < _; decide), ?_⟩⟩
          refine ⟨12, rfl, by decide, by decide, for_range (lo := 0) (n := 12) (fun t σ H' => ∃ ds c c1 sd, σ = [some (.ref a), some (.int (lo : Int)), some (.int (hi : Int)), some (.ref d), some (.int ((lo : Int) + i)), some (.int c), c1, some (.int sd)] ∧ Same H H' ∧ H' d = some (.lst (ds.map V.int)) ∧ Dig ds (60 * i + t)) ⟨ds, _, _, _, rfl, s1, hd1, D⟩ ?_ ?_⟩
          · rintro t σ H2 ht ⟨ds, c, c1, sd, rfl, s2, hd2, D2⟩
            refine ⟨_, rfl, _, _, rfl, rfl, .inr ⟨by decide, by decide⟩, _, rfl, _, _, rfl, rfl, .inl ⟨by decide, by decide⟩, _, _, rfl, rfl, _, _, rfl, rfl, .inl ⟨_, rfl, _, _, rfl, rfl, (by show (0 : Int) < _; decide), ?_⟩⟩
            refine ⟨_, rfl, .inl ⟨rfl, _, SqL.of hd2⟩, _, rfl, _, _, rfl, rfl, ⟨by decide, by decide⟩, .inl ⟨_, rfl, _, _, rfl, rfl, (by show (0 : Int) < _; decide), d, _, _, rfl, rfl, hd2, ?_, ?_⟩⟩
            · rw [List.length_map]
              exact Nat.lt_of_le_of_lt D2.len (Nat.lt_of_lt_of_le (show 60 * i + t < 100000 by omega) (by decide))
            · exact ⟨ds ++ [_ % 1000], _, _, _, rfl, same_mut s2 hd, by rw [upd_same, List.map_append]; rfl, D2.add _⟩
          · rintro σ H2 ⟨ds, c, c1, sd, rfl, s2, hd2, D2⟩
            exact ⟨ds, _, _, _, _, rfl, s2, hd2, D2.more (by omega)⟩
      · refine ⟨_, rfl, _, _, rfl, rfl, ⟨by decide, by decide, by decide⟩, _, _, rfl, rfl, _, rfl, ite2 (fun _ => ?_) (fun _ => ?_)⟩
        · refine ⟨60, rfl, by decide, by decide, for_range (lo := 0) (n := 60) (fun t σ H' => ∃ ds c c1, σ = [some (.ref a), some (.int (lo : Int)), some (.int (hi : Int)), some (.ref d), some (.int ((lo : Int) + i)), some (.int c), c1, c3] ∧ Same H H' ∧ H' d = some (.lst (ds.map V.int)) ∧ Dig ds (60 * i + t)) ⟨ds, _, _, rfl, s1, hd1, D⟩ ?_ ?_⟩
          · rintro t σ H2 ht ⟨ds, c, c1, rfl, s2, hd2, D2⟩
            refine ⟨_, rfl, _, _, rfl, rfl, _, rfl, ite2 (fun _ => ?_) (fun _ => ?_)⟩
            · refine ⟨_, rfl, .inl ⟨rfl, _, SqL.of hd2⟩, _, rfl, .inl ⟨_, rfl, _, _, rfl, rfl, (by show (0 : Int) < _; decide), d, _, _, rfl, rfl, hd2, ?_, _, rfl, _, _, rfl, rfl, ⟨by decide, by decide⟩, ?_⟩⟩
              · rw [List.length_map]
                exact Nat.lt_of_le_of_lt D2.len (Nat.lt_of_lt_of_le (show 60 * i + t < 100000 by omega) (by decide))
              · exact ⟨ds ++ [c % 1000], _, _, rfl, same_mut s2 hd, by rw [upd_same, List.map_append]; rfl, D2.add c⟩
            · exact ⟨ds, _, _, rfl, s2, hd2, D2.more (Nat.le_succ _)⟩
          · rintro σ H2 ⟨ds, c, c1, rfl, s2, hd2, D2⟩
            exact ⟨ds, _, _, _, _, rfl, s2, hd2, D2⟩
        · refine ⟨_, rfl, _, _, rfl, rfl, .inr ⟨by decide, by decide⟩, _, rfl, _, _, rfl, rfl, .inr ⟨by decide, by decide⟩, _, _, rfl, rfl, _, _, rfl, rfl, .inl ⟨_, rfl, _, _, rfl, rfl, (by show (0 : Int) < _; decide), ?_⟩⟩
          refine ⟨12, rfl, by decide, by decide, for_range (lo := 0) (n := 12) (fun t σ H' => ∃ ds c c1 sd, σ = [some (.ref a), some (.int (lo : Int)), some (.int (hi : Int)), some (.ref d), some (.int ((lo : Int) + i)), some (.int c), c1, some (.int sd)] ∧ Same H H' ∧ H' d = some (.lst (ds.map V.int)) ∧ Dig ds (60 * i + t)) ⟨ds, _, _, _, rfl, s1, hd1, D⟩ ?_ ?_⟩
          · rintro t σ H2 ht ⟨ds, c, c1, sd, rfl, s2, hd2, D2⟩
            refine ⟨_, rfl, _, _, rfl, rfl, .inr ⟨by decide, by decide⟩, _, rfl, _, _, rfl, rfl, .inl ⟨by decide, by decide⟩, _, _, rfl, rfl, _, _, rfl, rfl, .inl ⟨_, rfl, _, _, rfl, rfl, (by show (0 : Int) < _; decide), ?_⟩⟩
            refine ⟨_, rfl, .inl ⟨rfl, _, SqL.of hd2⟩, _, rfl, _, _, rfl, rfl, ⟨by decide, by decide⟩, .inl ⟨_, rfl, _, _, rfl, rfl, (by show (0 : Int) < _; decide), d, _, _, rfl, rfl, hd2, ?_, ?_⟩⟩
            · rw [List.length_map]
              exact Nat.lt_of_le_of_lt D2.len (Nat.lt_of_lt_of_le (show 60 * i + t < 100000 by omega) (by decide))
            · exact ⟨ds ++ [_ % 1000], _, _, _, rfl, same_mut s2 hd, by rw [upd_same, List.map_append]; rfl, D2.add _⟩
          · rintro σ H2 ⟨ds, c, c1, sd, rfl, s2, hd2, D2⟩
            exact ⟨ds, _, _, _, _, rfl, s2, hd2, D2.more (by omega)⟩
    · rintro σ H1 ⟨ds, c0, c1, c2, c3, rfl, s1, hd1, D⟩
      exact ⟨_, rfl, q _ d ds s1 hd hd1 (by rw [show ((hi : Int) - lo).toNat = hi - lo by omega] at D; exact D)⟩
/-- all but the box stays, and the box keeps its list -/
structure Kp (b : Addr) (H H' : Hp) : Prop where
  k : ∀ c o, c ≠ b → H c = some o → H' c = some o
  d : ∀ (x j : V), H b = some (.lst [x, j]) → ∃ j', H' b = some (.lst [x, j'])
instance {b : Addr} {H H' : Hp} : CoeFun (Kp b H H') (fun _ => ∀ c o, c ≠ b → H c = some o → H' c = some o) := ⟨Kp.k⟩
theorem Kp.refl {b : Addr} {H : Hp} : Kp b H H := ⟨fun _ _ _ h => h, fun _ j h => ⟨j, h⟩⟩
theorem Kp.trans {b : Addr} {H H1 H2 : Hp} (x : Kp b H H1) (y : Kp b H1 H2) : Kp b H H2 := ⟨fun c o n h => y.k c o n (x.k c o n h), fun v j h => by
  obtain ⟨j1, h1⟩ := x.d v j h
  exact y.d v j1 h1⟩
theorem Kp.of {b : Addr} {H H1 : Hp} (x : Same H H1) : Kp b H H1 := ⟨fun c o _ h => x c o h, fun _ j h => ⟨j, x _ _ h⟩⟩
theorem Kp.same {b : Addr} {H H1 H2 : Hp} (x : Same H H1) (h : H b = none) (y : Kp b H1 H2) : Same H H2 := fun c o e => y.k c o (ne_of_none e h) (x c o e)
/-- a box of drawn digits and the place of the next one -/
def Box (H : Hp) (b : Addr) : Prop := ∃ (d : Addr) (ds : List Int) (i : Nat), H b = some (.lst [.ref d, .int (i : Int)]) ∧ H d = some (.lst (ds.map V.int)) ∧ b ≠ d
theorem Box.same {H H' : Hp} {b : Addr} (s : Same H H') (h : Box H b) : Box H' b := by
  obtain ⟨d, ds, i, h1, h2, h3⟩ := h
  exact ⟨d, ds, i, s _ _ h1, s _ _ h2, h3⟩
def spDraw (K : PySem.W.Frag) : Sp := fun vs H Q _ => ∃ (b : Addr) (m : Int), vs = [.ref b, .int m] ∧ 0 < m ∧ Box H b ∧ ∀ x H', 0 ≤ x → x < m → Box H' b → Kp b H H' → Q (.int x) H'
theorem okLawDraw (T : Txt K mg) : FnOk P w K mg base CX0 1 T.fLawDraw T.fdLawDraw ["box", "many"] (spDraw K) := by
  refine T.FLawDraw.ok scLawDraw (fun vs H Q E h => ?_) (fun cdv A outer s H vs Q E hr h => ?_)
  · obtain ⟨b, m, rfl, _⟩ := h
    rfl
  · obtain ⟨b, m, rfl, hm, ⟨d, ds, i, hb, hd, nbd⟩, q⟩ := h
    -- slots box=0 many=1 at=2
    refine ⟨_, (pss_cons (ps_set (i := 2) scLawDraw.nd rfl (Or.inl rfl) (pe_ix ix_list (pv 0) pe_int (fun _ _ => rfl)))
        (pss_cons (ps_asg (pe_op op_add (pv 2) pe_int) (pg_sub (pv 0) pe_int set_list))
        (pss_cons (ps_if (pt_cmpR op_lt (pv 2) (pe_callB call_len_seq (by rfl) T.z_len PySem.boot_len (pa_cons (pe_ix ix_list (pv 0) pe_int (fun _ _ => rfl)) pa_nil)) (nomark _))
          (pss_one (ps_ret (pe_op op_mod (pe_callTy call_int1 (by rfl) T.z_int (by decide +kernel) (pa_cons (pe_ix ix_list (pe_ix ix_list (pv 0) pe_int (fun _ _ => rfl)) (pv 2) (fun _ _ => rfl)) pa_nil)) (pv 1))))
          pss_nil)
        (pss_one (ps_ret pe_int))))), ?_⟩
    refine ⟨_, rfl, b, _, _, _, rfl, rfl, SqL.of hb, atI_nat (j := 1) rfl, _, rfl, _, _, rfl, rfl, _, rfl, b, _, _, 1, rfl, rfl, hb, rfl, ?_⟩
    have hb' : (upd H b (.lst ([.ref d, .int (i : Int)].set 1 (.int ((i : Int) + 1))))) b = some (.lst [.ref d, .int ((i : Int) + 1)]) := upd_same
    have hd' : (upd H b (.lst ([.ref d, .int (i : Int)].set 1 (.int ((i : Int) + 1))))) d = some (.lst (ds.map V.int)) := by
      rw [upd_ne nbd.symm]
      exact hd
    have kp : Kp b H (upd H b (.lst ([.ref d, .int (i : Int)].set 1 (.int ((i : Int) + 1))))) := ⟨fun c o n e => by
      rw [upd_ne n]
      exact e, fun x j h => by
      rw [hb] at h
      cases h
      exact ⟨_, hb'⟩⟩
    refine ⟨_, rfl, _, rfl, b, _, _, _, rfl, rfl, SqL.of hb', atI_nat (j := 0) rfl, d, _, rfl, .inl (SqL.of hd'), _, _, rfl, rfl, _, rfl, ite2 (fun c => ?_) (fun c => ?_)⟩
    · have hk : i < ds.length := by
        have c2 := of_decide_eq_true c
        rw [List.length_map] at c2
        omega
      refine ⟨_, rfl, b, _, _, _, rfl, rfl, SqL.of hb', atI_nat (j := 0) rfl, _, rfl, d, _, _, _, rfl, rfl, SqL.of hd', atI_nat (getD_at hk), .inl ⟨_, rfl, _, rfl, _, _, rfl, rfl, hm, ?_⟩⟩
      exact q _ _ (Int.emod_nonneg _ (by omega)) (Int.emod_lt_of_pos _ hm) ⟨d, ds, i + 1, hb', hd', nbd⟩ kp
    · exact q _ _ (Int.le_refl _) hm ⟨d, ds, i + 1, hb', hd', nbd⟩ kp
/-! ### the greatest common divisor by Euclid's steps -/
theorem half_step {a b : Nat} (hb : 0 < b) (hba : b ≤ a) : 2 * (b * (a % b)) ≤ a * b := by
  have h1 := Nat.mod_lt a hb
  have h2 : b + a % b ≤ a := by
    have e := Nat.div_add_mod a b
    have q : 1 ≤ a / b := (Nat.one_le_div_iff hb).mpr hba
    have z : b * 1 ≤ b * (a / b) := Nat.mul_le_mul_left b q
    omega
  have h3 : 2 * (a % b) ≤ a := by omega
  calc 2 * (b * (a % b)) = b * (2 * (a % b)) := by rw [Nat.mul_left_comm]
    _ ≤ b * a := Nat.mul_le_mul_left b h3
    _ = a * b := Nat.mul_comm b a
def spGcd (K : PySem.W.Frag) : Sp := fun vs H Q _ => ∃ (x y : Int), vs = [.int x, .int y] ∧ x.natAbs * y.natAbs < 2 ^ 890 ∧ Q (.int ((Nat.gcd x.natAbs y.natAbs : Nat) : Int)) H
theorem abs_eq (x : Int) : (if x < 0 then -x else x) = ((x.natAbs : Nat) : Int) := by
  split <;> omega
theorem okLawGcd (T : Txt K mg) : FnOk P w K mg base CX0 1 T.fLawGcd T.fdLawGcd ["a", "b"] (spGcd K) := by
  refine T.FLawGcd.ok scLawGcd (fun vs H Q E h => ?_) (fun cdv A outer s H vs Q E hr h => ?_)
  · obtain ⟨x, y, rfl, _⟩ := h
    rfl
  · obtain ⟨x, y, rfl, hz, q⟩ := h
    -- slots a=0 b=1 turn=2 rest=3
    refine ⟨_, (pss_cons (ps_set (i := 0) scLawGcd.nd rfl (Or.inl rfl) (pe_callB call_abs (by rfl) T.z_abs (by decide +kernel) (pa_cons (pv 0) pa_nil)))
        (pss_cons (ps_set (i := 1) scLawGcd.nd rfl (Or.inl rfl) (pe_callB call_abs (by rfl) T.z_abs (by decide +kernel) (pa_cons (pv 1) pa_nil)))
        (pss_cons (ps_for PassesOwn.never rfl (pi_range1 rfl T.z_range (pa_cons pe_int pa_nil)) (pg_name (i := 2) scLawGcd.nd rfl (Or.inl rfl))
          (pss_cons (ps_if (pt_cmpR op_eq (pv 1) pe_int (nomark _))
            (pss_one ps_break)
            pss_nil)
          (pss_cons (ps_set (i := 3) scLawGcd.nd rfl (Or.inl rfl) (pe_op op_mod (pe_callTy call_int1 (by rfl) T.z_int (by decide +kernel) (pa_cons (pv 0) pa_nil)) (pv 1)))
          (pss_cons (ps_set (i := 0) scLawGcd.nd rfl (Or.inl rfl) (pv 1))
          (pss_one (ps_set (i := 1) scLawGcd.nd rfl (Or.inl rfl) (pv 3)))))))
        (pss_one (ps_ret (pv 0)))))), ?_⟩
    refine ⟨_, rfl, _, rfl, ?_⟩
    refine ⟨_, rfl, _, rfl, ?_⟩
    rw [abs_eq, abs_eq]
    generalize x.natAbs = a0 at hz q ⊢
    generalize y.natAbs = b0 at hz q ⊢
    refine ⟨900, rfl, by decide, by decide, for_range (lo := 0) (n := 900) (fun t σ H' => ∃ (a b : Nat) (c c1 : Option V), σ = [some (.int (a : Int)), some (.int (b : Int)), c, c1] ∧ H' = H ∧ Nat.gcd a b = Nat.gcd a0 b0 ∧ (t = 0 ∨ b ≤ a) ∧ (a * b) * 2 ^ (t - 1) < 2 ^ 890) ⟨a0, b0, _, _, rfl, rfl, rfl, .inl rfl, by simpa using hz⟩ ?_ ?_⟩
    · rintro t σ H1 ht ⟨a, b, c, c1, rfl, rfl, hg, ho, hs⟩
      refine ⟨_, rfl, rfl, _, rfl, ite2 (fun e => ?_) (fun e => ?_)⟩
      · have e2 : b = 0 := by
          have e3 := V.int.inj (of_decide_eq_true e)
          omega
        subst e2
        rw [Nat.gcd_zero_right] at hg
        refine ⟨_, rfl, ?_⟩
        rw [hg]
        exact q
      · have hb : 0 < b := by
          rcases Nat.eq_zero_or_pos b with z | z
          · subst z
            exact absurd (decide_eq_true rfl) e
          · exact z
        refine ⟨_, rfl, .inl ⟨_, rfl, _, rfl, _, _, rfl, rfl, (by show (0 : Int) < (b : Int); omega), ?_⟩⟩
        refine ⟨_, rfl, _, rfl, b, a % b, _, _, rfl, rfl, ?_, .inr (Nat.le_of_lt (Nat.mod_lt a hb)), ?_⟩
        · rw [← hg, Nat.gcd_comm a b, Nat.gcd_rec b a, Nat.gcd_comm]
        · rcases ho with z | z
          · subst z
            rw [show (2 : Nat) ^ (0 + 1 - 1) = 2 ^ (0 - 1) from rfl]
            refine Nat.lt_of_le_of_lt (Nat.mul_le_mul_right _ ?_) hs
            rw [Nat.mul_comm a b]
            exact Nat.mul_le_mul_left b (Nat.mod_le a b)
          · have h2 := half_step hb z
            rcases t with _ | t
            · refine Nat.lt_of_le_of_lt (Nat.mul_le_mul_right _ ?_) hs
              omega
            · show b * (a % b) * 2 ^ (t + 1) < 2 ^ 890
              refine Nat.lt_of_le_of_lt ?_ (show (a * b) * 2 ^ t < 2 ^ 890 from hs)
              rw [Nat.pow_succ, Nat.mul_comm (2 ^ t) 2, ← Nat.mul_assoc]
              refine Nat.mul_le_mul_right _ ?_
              rw [Nat.mul_comm]
              exact h2
    · rintro σ H1 ⟨a, b, c, c1, rfl, rfl, hg, ho, hs⟩
      have hb : a * b = 0 := by
        rcases Nat.eq_zero_or_pos (a * b) with z | z
        · exact z
        · exfalso
          have h1 : 1 * 2 ^ (900 - 1) ≤ (a * b) * 2 ^ (900 - 1) := Nat.mul_le_mul_right _ z
          have h2 : (2 : Nat) ^ 890 ≤ 1 * 2 ^ (900 - 1) := by decide
          omega
      have hb0 : b = 0 := by
        rcases Nat.mul_eq_zero.mp hb with z | z
        · rcases ho with w | w <;> omega
        · exact z
      subst hb0
      rw [Nat.gcd_zero_right] at hg
      refine ⟨_, rfl, ?_⟩
      rw [hg]
      exact q
/-! ### the law's own comparison -/
def Scal : V → Prop
  | .non => True
  | .bl _ => True
  | .int _ => True
  | .str _ => True
  | _ => False
def Lk (H : Hp) : Nat → V → V → Prop
  | 0, x, y => x = y ∧ Scal y
  | n + 1, x, y => (x = y ∧ Scal y) ∨
    (∃ a b xs ys, x = .ref a ∧ y = .ref b ∧ H a = some (.tup xs) ∧ H b = some (.tup ys) ∧ xs.length = ys.length ∧ xs.length ≤ 100000 ∧ ∀ (i : Nat) u v, xs[i]? = some u → ys[i]? = some v → Lk H n u v) ∨
    (∃ a b xs ys, x = .ref a ∧ y = .ref b ∧ H a = some (.lst xs) ∧ H b = some (.lst ys) ∧ xs.length = ys.length ∧ xs.length ≤ 100000 ∧ ∀ (i : Nat) u v, xs[i]? = some u → ys[i]? = some v → Lk H n u v)
theorem isi {K : PySem.W.Frag} {H : Hp} {x : V} {t c : String} {b : Bool} {Q : VK} (ty : TyX K H x (.type t)) (h : kitB t c = some b) (q : Q (.bl b) H) : rIsi K [x, .ty c] H Q := ⟨x, .ty c, _, _, b, rfl, .ty c, ty, kit_ty h, q⟩
def spSame (K : PySem.W.Frag) (n : Nat) : Sp := fun vs H Q _ => ∃ (x y : V), vs = [x, y] ∧ Lk H n x y ∧ Q (.bl true) H
theorem okLawSame (T : Txt K mg) : ∀ n : Nat, FnOk P w K mg base CX0 (n + 1) T.fLawSame T.fdLawSame ["actual", "due"] (spSame K n)
  | 0 => by
    refine T.FLawSame.ok scLawSame (fun vs H Q E h => ?_) (fun cdv A outer s H vs Q E hr h => ?_)
    · obtain ⟨x, y, rfl, _⟩ := h
      rfl
    · obtain ⟨x, y, rfl, ⟨rfl, sy⟩, q⟩ := h
      -- slots actual=0 due=1 k=2
      refine ⟨_, (pss_cons (ps_if (PW.pt (pw_or (pt_val (pe_callB call_isi (by rfl) T.z_isinstance (by decide +kernel) (pa_cons (pv 1) (pa_cons (pe_bltn (v := .ty "list") (by rfl) T.z_list (by decide +kernel) rfl) pa_nil)))) (pw_or1 (pt_val (pe_callB call_isi (by rfl) T.z_isinstance (by decide +kernel) (pa_cons (pv 1) (pa_cons (pe_bltn (v := .ty "tuple") (by rfl) T.z_tuple (by decide +kernel) rfl) pa_nil)))))))
            (pss_cons ps_never
            (pss_cons ps_never
            (pss_cons ps_never
            (pss_one ps_never))))
            pss_nil)
          (pss_cons (ps_if (pt_cmpR op_isN (pv 1) pe_non (nomark _))
            (pss_one (ps_ret (pe_cmpR op_isN (pv 0) pe_non (nomark _))))
            pss_nil)
          (pss_cons (ps_if (pt_val (pe_callB call_isi (by rfl) T.z_isinstance (by decide +kernel) (pa_cons (pv 1) (pa_cons (pe_bltn (v := .ty "bool") (by rfl) T.z_bool (by decide +kernel) rfl) pa_nil))))
            (pss_one (ps_ret (pe_and (pe_callB call_isi (by rfl) T.z_isinstance (by decide +kernel) (pa_cons (pv 0) (pa_cons (pe_bltn (v := .ty "bool") (by rfl) T.z_bool (by decide +kernel) rfl) pa_nil))) (pe_one (pe_cmpR op_eq (pv 0) (pv 1) (nomark _))))))
            pss_nil)
          (pss_cons (ps_if (pt_val (pe_callB call_isi (by rfl) T.z_isinstance (by decide +kernel) (pa_cons (pv 1) (pa_cons (pe_bltn (v := .ty "str") (by rfl) T.z_str (by decide +kernel) rfl) pa_nil))))
            (pss_one (ps_ret (pe_and (pe_callB call_isi (by rfl) T.z_isinstance (by decide +kernel) (pa_cons (pv 0) (pa_cons (pe_bltn (v := .ty "str") (by rfl) T.z_str (by decide +kernel) rfl) pa_nil))) (pe_one (pe_cmpR op_eq (pv 0) (pv 1) (nomark _))))))
            pss_nil)
          (pss_one (ps_ret (pe_and (pe_callB call_isi (by rfl) T.z_isinstance (by decide +kernel) (pa_cons (pv 0) (pa_cons (pe_bltn (v := .ty "int") (by rfl) T.z_int (by decide +kernel) rfl) pa_nil))) (pe_and (pe_not (pe_callB call_isi (by rfl) T.z_isinstance (by decide +kernel) (pa_cons (pv 0) (pa_cons (pe_bltn (v := .ty "bool") (by rfl) T.z_bool (by decide +kernel) rfl) pa_nil)))) (pe_one (pe_cmpR op_eq (pv 0) (pv 1) (nomark _))))))))))), ?_⟩
      cases x with
      | non =>
        refine ⟨_, rfl, _, _, _, _, false, rfl, .ty _, .base (.non), kit_ty (by decide +kernel), _, rfl, iteF ⟨_, rfl, _, _, _, _, false, rfl, .ty _, .base (.non), kit_ty (by decide +kernel), _, rfl, iteF ?_⟩⟩
        refine ⟨_, rfl, rfl, _, rfl, ite2 (fun _ => ?_) (fun c => absurd (decide_eq_true rfl) c)⟩
        refine ⟨_, rfl, rfl, ?_⟩
        rw [decide_eq_true rfl]
        exact q
      | bl v =>
        refine ⟨_, rfl, _, _, _, _, false, rfl, .ty _, .base (.bl v), kit_ty (by decide +kernel), _, rfl, iteF ⟨_, rfl, _, _, _, _, false, rfl, .ty _, .base (.bl v), kit_ty (by decide +kernel), _, rfl, iteF ?_⟩⟩
        refine ⟨_, rfl, rfl, _, rfl, ite2 (fun c => (nomatch (of_decide_eq_true c))) (fun _ => ?_)⟩
        refine ⟨_, rfl, _, _, _, _, true, rfl, .ty _, .base (.bl v), kit_ty (by decide +kernel), _, rfl, iteT ?_⟩
        refine ⟨_, rfl, _, _, _, _, true, rfl, .ty _, .base (.bl v), kit_ty (by decide +kernel), _, rfl, iteT ?_⟩
        refine ⟨_, rfl, _, rfl, rfl, ?_⟩
        rw [decide_eq_true rfl]
        exact q
      | int v =>
        refine ⟨_, rfl, _, _, _, _, false, rfl, .ty _, .base (.int v), kit_ty (by decide +kernel), _, rfl, iteF ⟨_, rfl, _, _, _, _, false, rfl, .ty _, .base (.int v), kit_ty (by decide +kernel), _, rfl, iteF ?_⟩⟩
        refine ⟨_, rfl, rfl, _, rfl, ite2 (fun c => (nomatch (of_decide_eq_true c))) (fun _ => ?_)⟩
        refine ⟨_, rfl, _, _, _, _, false, rfl, .ty _, .base (.int v), kit_ty (by decide +kernel), _, rfl, iteF ?_⟩
        refine ⟨_, rfl, _, _, _, _, false, rfl, .ty _, .base (.int v), kit_ty (by decide +kernel), _, rfl, iteF ?_⟩
        refine ⟨_, rfl, _, _, _, _, true, rfl, .ty _, .base (.int v), kit_ty (by decide +kernel), _, rfl, iteT ?_⟩
        refine ⟨_, rfl, _, _, _, _, false, rfl, .ty _, .base (.int v), kit_ty (by decide +kernel), _, rfl, _, rfl, iteT ?_⟩
        refine ⟨_, rfl, _, rfl, rfl, ?_⟩
        rw [decide_eq_true rfl]
        exact q
      | str v =>
        refine ⟨_, rfl, _, _, _, _, false, rfl, .ty _, .base (.str v), kit_ty (by decide +kernel), _, rfl, iteF ⟨_, rfl, _, _, _, _, false, rfl, .ty _, .base (.str v), kit_ty (by decide +kernel), _, rfl, iteF ?_⟩⟩
        refine ⟨_, rfl, rfl, _, rfl, ite2 (fun c => (nomatch (of_decide_eq_true c))) (fun _ => ?_)⟩
        refine ⟨_, rfl, _, _, _, _, false, rfl, .ty _, .base (.str v), kit_ty (by decide +kernel), _, rfl, iteF ?_⟩
        refine ⟨_, rfl, _, _, _, _, true, rfl, .ty _, .base (.str v), kit_ty (by decide +kernel), _, rfl, iteT ?_⟩
        refine ⟨_, rfl, _, _, _, _, true, rfl, .ty _, .base (.str v), kit_ty (by decide +kernel), _, rfl, iteT ?_⟩
        refine ⟨_, rfl, _, rfl, rfl, ?_⟩
        rw [decide_eq_true rfl]
        exact q
      | _ => exact sy.elim
  | n + 1 => by
    have IH := okLawSame T n
    refine T.FLawSame.ok scLawSame (fun vs H Q E h => ?_) (fun cdv A outer s H vs Q E hr h => ?_)
    · obtain ⟨x, y, rfl, _⟩ := h
      rfl
    · obtain ⟨x, y, rfl, hL, q⟩ := h
      -- slots actual=0 due=1 k=2
      refine ⟨_, (pss_cons (ps_if (PW.pt (pw_or (pt_val (pe_callB call_isi (by rfl) T.z_isinstance (by decide +kernel) (pa_cons (pv 1) (pa_cons (pe_bltn (v := .ty "list") (by rfl) T.z_list (by decide +kernel) rfl) pa_nil)))) (pw_or1 (pt_val (pe_callB call_isi (by rfl) T.z_isinstance (by decide +kernel) (pa_cons (pv 1) (pa_cons (pe_bltn (v := .ty "tuple") (by rfl) T.z_tuple (by decide +kernel) rfl) pa_nil)))))))
            (pss_cons (ps_if (PW.pt (pw_or (pt_cmpR op_ne (pe_callB call_isi (by rfl) T.z_isinstance (by decide +kernel) (pa_cons (pv 1) (pa_cons (pe_bltn (v := .ty "list") (by rfl) T.z_list (by decide +kernel) rfl) pa_nil))) (pe_callB call_isi (by rfl) T.z_isinstance (by decide +kernel) (pa_cons (pv 0) (pa_cons (pe_bltn (v := .ty "list") (by rfl) T.z_list (by decide +kernel) rfl) pa_nil))) (nomark _)) (pw_or1 (pt_cmpR op_ne (pe_callB call_isi (by rfl) T.z_isinstance (by decide +kernel) (pa_cons (pv 1) (pa_cons (pe_bltn (v := .ty "tuple") (by rfl) T.z_tuple (by decide +kernel) rfl) pa_nil))) (pe_callB call_isi (by rfl) T.z_isinstance (by decide +kernel) (pa_cons (pv 0) (pa_cons (pe_bltn (v := .ty "tuple") (by rfl) T.z_tuple (by decide +kernel) rfl) pa_nil))) (nomark _)))))
              (pss_one (ps_ret pe_bl))
              pss_nil)
            (pss_cons (ps_if (pt_cmpR op_ne (pe_callB call_len_seq (by rfl) T.z_len PySem.boot_len (pa_cons (pv 0) pa_nil)) (pe_callB call_len_seq (by rfl) T.z_len PySem.boot_len (pa_cons (pv 1) pa_nil)) (nomark _))
              (pss_one (ps_ret pe_bl))
              pss_nil)
            (pss_cons (ps_for PassesOwn.never rfl (pi_range1 rfl T.z_range (pa_cons (pe_callB call_len_seq (by rfl) T.z_len PySem.boot_len (pa_cons (pv 1) pa_nil)) pa_nil)) (pg_name (i := 2) scLawSame.nd rfl (Or.inl rfl))
              (pss_one (ps_if (pt_not (pt_val (pe_call IH (hr.mono (Nat.le_refl _)) (by rfl) T.gLawSame T.FLawSame.kp T.bLawSame .nil pass0 (pa_cons (pe_ix ix_seq (pv 0) (pv 2) (fun _ _ => rfl)) (pa_cons (pe_ix ix_seq (pv 1) (pv 2) (fun _ _ => rfl)) pa_nil)))))
                (pss_one (ps_ret pe_bl))
                pss_nil)))
            (pss_one (ps_ret pe_bl)))))
            pss_nil)
          (pss_cons (ps_if (pt_cmpR op_isN (pv 1) pe_non (nomark _))
            (pss_one (ps_ret (pe_cmpR op_isN (pv 0) pe_non (nomark _))))
            pss_nil)
          (pss_cons (ps_if (pt_val (pe_callB call_isi (by rfl) T.z_isinstance (by decide +kernel) (pa_cons (pv 1) (pa_cons (pe_bltn (v := .ty "bool") (by rfl) T.z_bool (by decide +kernel) rfl) pa_nil))))
            (pss_one (ps_ret (pe_and (pe_callB call_isi (by rfl) T.z_isinstance (by decide +kernel) (pa_cons (pv 0) (pa_cons (pe_bltn (v := .ty "bool") (by rfl) T.z_bool (by decide +kernel) rfl) pa_nil))) (pe_one (pe_cmpR op_eq (pv 0) (pv 1) (nomark _))))))
            pss_nil)
          (pss_cons (ps_if (pt_val (pe_callB call_isi (by rfl) T.z_isinstance (by decide +kernel) (pa_cons (pv 1) (pa_cons (pe_bltn (v := .ty "str") (by rfl) T.z_str (by decide +kernel) rfl) pa_nil))))
            (pss_one (ps_ret (pe_and (pe_callB call_isi (by rfl) T.z_isinstance (by decide +kernel) (pa_cons (pv 0) (pa_cons (pe_bltn (v := .ty "str") (by rfl) T.z_str (by decide +kernel) rfl) pa_nil))) (pe_one (pe_cmpR op_eq (pv 0) (pv 1) (nomark _))))))
            pss_nil)
          (pss_one (ps_ret (pe_and (pe_callB call_isi (by rfl) T.z_isinstance (by decide +kernel) (pa_cons (pv 0) (pa_cons (pe_bltn (v := .ty "int") (by rfl) T.z_int (by decide +kernel) rfl) pa_nil))) (pe_and (pe_not (pe_callB call_isi (by rfl) T.z_isinstance (by decide +kernel) (pa_cons (pv 0) (pa_cons (pe_bltn (v := .ty "bool") (by rfl) T.z_bool (by decide +kernel) rfl) pa_nil)))) (pe_one (pe_cmpR op_eq (pv 0) (pv 1) (nomark _))))))))))), ?_⟩
      rcases hL with ⟨rfl, sy⟩ | ⟨a, b, xs, ys, rfl, rfl, ha, hb, hl, hz, hi⟩ | ⟨a, b, xs, ys, rfl, rfl, ha, hb, hl, hz, hi⟩
      · cases x with
        | non =>
          refine ⟨_, rfl, _, _, _, _, false, rfl, .ty _, .base (.non), kit_ty (by decide +kernel), _, rfl, iteF ⟨_, rfl, _, _, _, _, false, rfl, .ty _, .base (.non), kit_ty (by decide +kernel), _, rfl, iteF ?_⟩⟩
          refine ⟨_, rfl, rfl, _, rfl, ite2 (fun _ => ?_) (fun c => absurd (decide_eq_true rfl) c)⟩
          refine ⟨_, rfl, rfl, ?_⟩
          rw [decide_eq_true rfl]
          exact q
        | bl v =>
          refine ⟨_, rfl, _, _, _, _, false, rfl, .ty _, .base (.bl v), kit_ty (by decide +kernel), _, rfl, iteF ⟨_, rfl, _, _, _, _, false, rfl, .ty _, .base (.bl v), kit_ty (by decide +kernel), _, rfl, iteF ?_⟩⟩
          refine ⟨_, rfl, rfl, _, rfl, ite2 (fun c => (nomatch (of_decide_eq_true c))) (fun _ => ?_)⟩
          refine ⟨_, rfl, _, _, _, _, true, rfl, .ty _, .base (.bl v), kit_ty (by decide +kernel), _, rfl, iteT ?_⟩
          refine ⟨_, rfl, _, _, _, _, true, rfl, .ty _, .base (.bl v), kit_ty (by decide +kernel), _, rfl, iteT ?_⟩
          refine ⟨_, rfl, _, rfl, rfl, ?_⟩
          rw [decide_eq_true rfl]
          exact q
        | int v =>
          refine ⟨_, rfl, _, _, _, _, false, rfl, .ty _, .base (.int v), kit_ty (by decide +kernel), _, rfl, iteF ⟨_, rfl, _, _, _, _, false, rfl, .ty _, .base (.int v), kit_ty (by decide +kernel), _, rfl, iteF ?_⟩⟩
          refine ⟨_, rfl, rfl, _, rfl, ite2 (fun c => (nomatch (of_decide_eq_true c))) (fun _ => ?_)⟩
          refine ⟨_, rfl, _, _, _, _, false, rfl, .ty _, .base (.int v), kit_ty (by decide +kernel), _, rfl, iteF ?_⟩
          refine ⟨_, rfl, _, _, _, _, false, rfl, .ty _, .base (.int v), kit_ty (by decide +kernel), _, rfl, iteF ?_⟩
          refine ⟨_, rfl, _, _, _, _, true, rfl, .ty _, .base (.int v), kit_ty (by decide +kernel), _, rfl, iteT ?_⟩
          refine ⟨_, rfl, _, _, _, _, false, rfl, .ty _, .base (.int v), kit_ty (by decide +kernel), _, rfl, _, rfl, iteT ?_⟩
          refine ⟨_, rfl, _, rfl, rfl, ?_⟩
          rw [decide_eq_true rfl]
          exact q
        | str v =>
          refine ⟨_, rfl, _, _, _, _, false, rfl, .ty _, .base (.str v), kit_ty (by decide +kernel), _, rfl, iteF ⟨_, rfl, _, _, _, _, false, rfl, .ty _, .base (.str v), kit_ty (by decide +kernel), _, rfl, iteF ?_⟩⟩
          refine ⟨_, rfl, rfl, _, rfl, ite2 (fun c => (nomatch (of_decide_eq_true c))) (fun _ => ?_)⟩
          refine ⟨_, rfl, _, _, _, _, false, rfl, .ty _, .base (.str v), kit_ty (by decide +kernel), _, rfl, iteF ?_⟩
          refine ⟨_, rfl, _, _, _, _, true, rfl, .ty _, .base (.str v), kit_ty (by decide +kernel), _, rfl, iteT ?_⟩
          refine ⟨_, rfl, _, _, _, _, true, rfl, .ty _, .base (.str v), kit_ty (by decide +kernel), _, rfl, iteT ?_⟩
          refine ⟨_, rfl, _, rfl, rfl, ?_⟩
          rw [decide_eq_true rfl]
          exact q
        | _ => exact sy.elim
      · refine ⟨_, rfl, _, _, _, _, false, rfl, .ty _, .base (.tup hb), kit_ty (by decide +kernel), _, rfl, iteF ⟨_, rfl, _, _, _, _, true, rfl, .ty _, .base (.tup hb), kit_ty (by decide +kernel), _, rfl, iteT ?_⟩⟩
        refine ⟨_, rfl, _, _, _, _, false, rfl, .ty _, .base (.tup hb), kit_ty (by decide +kernel), _, rfl, _, _, _, _, false, rfl, .ty _, .base (.tup ha), kit_ty (by decide +kernel), rfl, _, rfl, iteNS rfl ?_⟩
        refine ⟨_, rfl, _, _, _, _, true, rfl, .ty _, .base (.tup hb), kit_ty (by decide +kernel), _, rfl, _, _, _, _, true, rfl, .ty _, .base (.tup ha), kit_ty (by decide +kernel), rfl, _, rfl, iteNS rfl ?_⟩
        refine ⟨_, rfl, a, _, rfl, .inr (SqT.of ha), _, rfl, b, _, rfl, .inr (SqT.of hb), rfl, _, rfl, iteNS (by rw [hl]) ?_⟩
        refine ⟨_, rfl, b, _, rfl, .inr (SqT.of hb), _, rfl, by omega, by omega, for_range (lo := 0) (n := ys.length) (fun i σ H' => H' = H ∧ ∃ k, σ = [some (.ref a), some (.ref b), k]) ⟨rfl, _, rfl⟩ ?_ ?_⟩
        · rintro i σ H1 hi2 ⟨rfl, k, rfl⟩
          have e1 : xs[i]? = some xs[i] := List.getElem?_eq_getElem (by omega)
          have e2 : ys[i]? = some ys[i] := List.getElem?_eq_getElem hi2
          have z : (0 : Int) + (i : Int) = ((i : Nat) : Int) := Int.zero_add _
          refine ⟨_, rfl, _, rfl, .inr (.inl ⟨a, _, _, _, rfl, rfl, SqT.of ha, by rw [z]; exact atI_nat e1, _, rfl, _, rfl, .inr (.inl ⟨b, _, _, _, rfl, rfl, SqT.of hb, by rw [z]; exact atI_nat e2, ?_⟩)⟩)⟩
          exact ⟨_, _, rfl, hi i _ _ e1 e2, _, rfl, iteF ⟨rfl, _, rfl⟩⟩
        · rintro σ H1 ⟨rfl, k, rfl⟩
          exact q
      · refine ⟨_, rfl, _, _, _, _, true, rfl, .ty _, .base (.lst hb), kit_ty (by decide +kernel), _, rfl, iteT ?_⟩
        refine ⟨_, rfl, _, _, _, _, true, rfl, .ty _, .base (.lst hb), kit_ty (by decide +kernel), _, rfl, _, _, _, _, true, rfl, .ty _, .base (.lst ha), kit_ty (by decide +kernel), rfl, _, rfl, iteNS rfl ?_⟩
        refine ⟨_, rfl, _, _, _, _, false, rfl, .ty _, .base (.lst hb), kit_ty (by decide +kernel), _, rfl, _, _, _, _, false, rfl, .ty _, .base (.lst ha), kit_ty (by decide +kernel), rfl, _, rfl, iteNS rfl ?_⟩
        refine ⟨_, rfl, a, _, rfl, .inl (SqL.of ha), _, rfl, b, _, rfl, .inl (SqL.of hb), rfl, _, rfl, iteNS (by rw [hl]) ?_⟩
        refine ⟨_, rfl, b, _, rfl, .inl (SqL.of hb), _, rfl, by omega, by omega, for_range (lo := 0) (n := ys.length) (fun i σ H' => H' = H ∧ ∃ k, σ = [some (.ref a), some (.ref b), k]) ⟨rfl, _, rfl⟩ ?_ ?_⟩
        · rintro i σ H1 hi2 ⟨rfl, k, rfl⟩
          have e1 : xs[i]? = some xs[i] := List.getElem?_eq_getElem (by omega)
          have e2 : ys[i]? = some ys[i] := List.getElem?_eq_getElem hi2
          have z : (0 : Int) + (i : Int) = ((i : Nat) : Int) := Int.zero_add _
          refine ⟨_, rfl, _, rfl, .inl (⟨a, _, _, _, rfl, rfl, SqL.of ha, by rw [z]; exact atI_nat e1, _, rfl, _, rfl, .inl (⟨b, _, _, _, rfl, rfl, SqL.of hb, by rw [z]; exact atI_nat e2, ?_⟩)⟩)⟩
          exact ⟨_, _, rfl, hi i _ _ e1 e2, _, rfl, iteF ⟨rfl, _, rfl⟩⟩
        · rintro σ H1 ⟨rfl, k, rfl⟩
          exact q
/-! ### fractions in lowest terms -/
theorem op_fdivZ {X : Cx} : OpR X (binaryOp .FloorDiv) (rI (fun _ j => j ≠ 0 ∧ j.natAbs.log2 < 9000) fun i j => .int (i.fdiv j)) := opI fun i j _ _ _ _ _ hc q => floordiv_int hc.1 q (.inl (PyProof.noPylong_of_log2 hc.2))
structure Low (n d x y : Int) : Prop where
  pos : 0 < y
  eq : x * d = n * y
  cop : Nat.gcd x.natAbs y.natAbs = 1
  lx : x.natAbs ≤ n.natAbs
  ly : y.natAbs ≤ d.natAbs
def cmn (n d : Int) : Int := if d < 0 then -((Nat.gcd n.natAbs d.natAbs : Nat) : Int) else ((Nat.gcd n.natAbs d.natAbs : Nat) : Int)
theorem cmn_abs (n d : Int) : (cmn n d).natAbs = Nat.gcd n.natAbs d.natAbs := by
  unfold cmn
  split <;> omega
theorem low_of {n d : Int} (hd : d ≠ 0) : Low n d (n.fdiv (cmn n d)) (d.fdiv (cmn n d)) := by
  have hg : 0 < Nat.gcd n.natAbs d.natAbs := Nat.gcd_pos_of_pos_right _ (by omega)
  have ha := cmn_abs n d
  have hc : cmn n d ≠ 0 := by omega
  have d1 : cmn n d ∣ n := Int.natAbs_dvd_natAbs.mp (by rw [ha]; exact Nat.gcd_dvd_left _ _)
  have d2 : cmn n d ∣ d := Int.natAbs_dvd_natAbs.mp (by rw [ha]; exact Nat.gcd_dvd_right _ _)
  have sg : 0 < d → 0 < cmn n d := fun h => by
    unfold cmn
    rw [if_neg (by omega)]
    omega
  have sg2 : d < 0 → cmn n d < 0 := fun h => by
    unfold cmn
    rw [if_pos h]
    omega
  obtain ⟨x, hx⟩ := d1
  obtain ⟨y, hy⟩ := d2
  generalize cmn n d = c at *
  have e1 : n.fdiv c = x := by rw [hx]; exact Int.mul_fdiv_cancel_left _ hc
  have e2 : d.fdiv c = y := by rw [hy]; exact Int.mul_fdiv_cancel_left _ hc
  rw [e1, e2]
  have y0 : 0 < y := by
    rcases Int.lt_trichotomy d 0 with h | h | h
    · have hc2 := sg2 h
      rcases Int.lt_trichotomy y 0 with z | z | z
      · have := Int.mul_pos_of_neg_of_neg hc2 z
        omega
      · subst z
        simp at hy
        omega
      · exact z
    · exact absurd h hd
    · have hc2 := sg h
      rcases Int.lt_trichotomy y 0 with z | z | z
      · have := Int.mul_neg_of_pos_of_neg hc2 z
        omega
      · subst z
        simp at hy
        omega
      · exact z
  have en : n.natAbs = c.natAbs * x.natAbs := by rw [hx, Int.natAbs_mul]
  have ed : d.natAbs = c.natAbs * y.natAbs := by rw [hy, Int.natAbs_mul]
  refine ⟨y0, ?_, ?_, ?_, ?_⟩
  · rw [hx, hy, Int.mul_assoc, Int.mul_comm x, Int.mul_assoc, Int.mul_comm x]
  · rw [en, ed, Nat.gcd_mul_left] at ha
    rw [en, ed, Nat.gcd_mul_left] at hg
    have z : c.natAbs * 1 = c.natAbs * Nat.gcd x.natAbs y.natAbs := by rw [Nat.mul_one]; exact ha
    exact (Nat.eq_of_mul_eq_mul_left (by omega) z).symm
  · rw [en]
    exact Nat.le_mul_of_pos_left _ (by omega)
  · rw [ed]
    exact Nat.le_mul_of_pos_left _ (by omega)
def spFraction (K : PySem.W.Frag) : Sp := fun vs H Q _ => ∃ (n d : Int), vs = [.int n, .int d] ∧ d ≠ 0 ∧ d.natAbs < 2 ^ 900 ∧ ∀ p x y, H p = none → Low n d x y → Q (.ref p) (upd H p (.tup [.int x, .int y]))
theorem okFraction (T : Txt K mg) : FnOk P w K mg base CX0 1 T.fFraction T.fdFraction ["n", "d"] (spFraction K) := by
  refine T.FFraction.ok scFraction (fun vs H Q E h => ?_) (fun cdv A outer s H vs Q E hr h => ?_)
  · obtain ⟨n, d, rfl, _⟩ := h
    rfl
  · obtain ⟨n, d, rfl, hd, hz, q⟩ := h
    -- slots n=0 d=1 common=2
    refine ⟨_, (pss_cons (ps_set (i := 2) scFraction.nd rfl (Or.inl rfl) (pe_callBfun cr_gcd (by rfl) T.g_gcd (pa_cons (pv 0) (pa_cons (pv 1) pa_nil))))
        (C8.pss_cut (ps_if (pt_cmpR op_lt (pv 1) pe_int (nomark _))
          (pss_one (ps_set (i := 2) scFraction.nd rfl (Or.inl rfl) (pe_un un_neg (pv 2))))
          pss_nil)
        (pss_one (ps_ret (pe_tup (pa_cons (pe_op op_fdivZ (pv 0) (pv 2)) (pa_cons (pe_op op_fdivZ (pv 1) (pv 2)) pa_nil))))))), ?_⟩
    have hb : (cmn n d).natAbs < 2 ^ 900 := by
      rw [cmn_abs]
      exact Nat.lt_of_le_of_lt (Nat.le_of_dvd (by omega) (Nat.gcd_dvd_right _ _)) hz
    have hl : (cmn n d).natAbs.log2 < 9000 := Nat.lt_of_lt_of_le (PySem.Flt.log2_lt_of (by decide) hb) (by decide)
    have h0 : cmn n d ≠ 0 := by
      have := cmn_abs n d
      have hg : 0 < Nat.gcd n.natAbs d.natAbs := Nat.gcd_pos_of_pos_right _ (by omega)
      omega
    refine ⟨_, rfl, _, rfl, _, _, rfl, ?_⟩
    refine ⟨fun σ H' => H' = H ∧ σ = [some (.int n), some (.int d), some (.int (cmn n d))], ?_, ?_⟩
    · refine ⟨_, rfl, _, _, rfl, rfl, _, rfl, ite2 (fun c => ?_) (fun c => ?_)⟩
      · refine ⟨_, rfl, _, rfl, rfl, ?_⟩
        have c2 : d < 0 := of_decide_eq_true c
        unfold cmn
        rw [if_pos c2]
        rfl
      · refine ⟨rfl, ?_⟩
        have c2 : ¬ d < 0 := fun z => c (decide_eq_true z)
        unfold cmn
        rw [if_neg c2]
        rfl
    · rintro σ H' ⟨rfl, rfl⟩
      refine ⟨_, rfl, _, rfl, _, _, rfl, rfl, ⟨h0, hl⟩, _, rfl, _, rfl, _, _, rfl, rfl, ⟨h0, hl⟩, (by show 2 ≤ sizeLine; decide), fun p hp => ?_⟩
      exact q p _ _ hp (low_of hd)
/-! ### the law's own reckoning -/
theorem low_one {n d x y x2 y2 : Int} (hd : d ≠ 0) (a : Low n d x y) (b : Low n d x2 y2) : x = x2 ∧ y = y2 := by
  have h : x * y2 = x2 * y := by
    have h1 : (x * y2) * d = (x2 * y) * d := by
      rw [Int.mul_assoc, Int.mul_comm y2, ← Int.mul_assoc, a.eq, Int.mul_assoc x2, Int.mul_comm y d, ← Int.mul_assoc, b.eq, Int.mul_assoc, Int.mul_assoc, Int.mul_comm y]
    exact Int.eq_of_mul_eq_mul_right hd h1
  have hN : x.natAbs * y2.natAbs = x2.natAbs * y.natAbs := by
    rw [← Int.natAbs_mul, ← Int.natAbs_mul, h]
  have c1 : Nat.Coprime x.natAbs y.natAbs := a.cop
  have c2 : Nat.Coprime x2.natAbs y2.natAbs := b.cop
  have d1 : y.natAbs ∣ y2.natAbs := c1.symm.dvd_of_dvd_mul_left (by rw [hN]; exact Nat.dvd_mul_left _ _)
  have d2 : y2.natAbs ∣ y.natAbs := c2.symm.dvd_of_dvd_mul_left (by rw [← hN]; exact Nat.dvd_mul_left _ _)
  have ey : y.natAbs = y2.natAbs := Nat.dvd_antisymm d1 d2
  have p1 := a.pos
  have p2 := b.pos
  have e : y = y2 := by omega
  subst e
  exact ⟨Int.eq_of_mul_eq_mul_right (by omega) h, rfl⟩
def spLowest (K : PySem.W.Frag) : Sp := fun vs H Q _ => ∃ (n d : Int), vs = [.int n, .int d] ∧ d ≠ 0 ∧ n.natAbs < 2 ^ 400 ∧ d.natAbs < 2 ^ 400 ∧ ∀ p x y, H p = none → Low n d x y → Q (.ref p) (upd H p (.tup [.int x, .int y]))
theorem okLawLowest (T : Txt K mg) : FnOk P w K mg base CX0 2 T.fLawLowest T.fdLawLowest ["n", "d"] (spLowest K) := by
  refine T.FLawLowest.ok scLawLowest (fun vs H Q E h => ?_) (fun cdv A outer s H vs Q E hr h => ?_)
  · obtain ⟨n, d, rfl, _⟩ := h
    rfl
  · obtain ⟨n, d, rfl, hd, zn, zd, q⟩ := h
    -- slots n=0 d=1 common=2
    refine ⟨_, (C8.pss_cut (ps_if (pt_cmpR op_lt (pv 1) pe_int (nomark _))
          (pss_cons (ps_set (i := 0) scLawLowest.nd rfl (Or.inl rfl) (pe_op op_sub pe_int (pv 0)))
          (pss_one (ps_set (i := 1) scLawLowest.nd rfl (Or.inl rfl) (pe_op op_sub pe_int (pv 1)))))
          pss_nil)
        (pss_cons (ps_set (i := 2) scLawLowest.nd rfl (Or.inl rfl) (pe_call (okLawGcd T) (hr.mono (by decide)) (by rfl) T.gLawGcd T.FLawGcd.kp T.bLawGcd .nil pass0 (pa_cons (pv 0) (pa_cons (pv 1) pa_nil))))
        (pss_one (ps_ret (pe_tup (pa_cons (pe_op op_fdivZ (pv 0) (pv 2)) (pa_cons (pe_op op_fdivZ (pv 1) (pv 2)) pa_nil))))))), ?_⟩
    refine ⟨fun σ H' => H' = H ∧ ∃ n2 d2 : Int, σ = [some (.int n2), some (.int d2), none] ∧ 0 < d2 ∧ n2.natAbs = n.natAbs ∧ d2.natAbs = d.natAbs ∧ ∀ x y, Low n2 d2 x y → Low n d x y, ?_, ?_⟩
    · refine ⟨_, rfl, _, _, rfl, rfl, _, rfl, ite2 (fun c => ?_) (fun c => ?_)⟩
      · have c2 : d < 0 := of_decide_eq_true c
        refine ⟨_, rfl, _, _, rfl, rfl, _, rfl, _, _, rfl, rfl, rfl, 0 - n, 0 - d, rfl, by omega, by omega, by omega, fun x y L => ?_⟩
        refine ⟨L.pos, ?_, L.cop, by have := L.lx; omega, by have := L.ly; omega⟩
        have e := L.eq
        rw [Int.zero_sub, Int.zero_sub, Int.mul_neg, Int.neg_mul] at e
        omega
      · have c2 : ¬ d < 0 := fun z => c (decide_eq_true z)
        exact ⟨rfl, n, d, rfl, by omega, rfl, rfl, fun _ _ L => L⟩
    · rintro σ H' ⟨rfl, n2, d2, rfl, h0, hn, hd2, hL⟩
      have hz : n2.natAbs * d2.natAbs < 2 ^ 890 := by
        rw [hn, hd2]
        exact Nat.lt_of_le_of_lt (Nat.mul_le_mul (Nat.le_of_lt zn) (Nat.le_of_lt zd)) (by decide)
      have hc : cmn n2 d2 = ((Nat.gcd n2.natAbs d2.natAbs : Nat) : Int) := by
        unfold cmn
        rw [if_neg (by omega)]
      have hg : 0 < Nat.gcd n2.natAbs d2.natAbs := Nat.gcd_pos_of_pos_right _ (by omega)
      have hb : (((Nat.gcd n2.natAbs d2.natAbs : Nat) : Int)).natAbs.log2 < 9000 := by
        refine Nat.lt_of_lt_of_le (PySem.Flt.log2_lt_of (k := 400) (by decide) ?_) (by decide)
        rw [Int.natAbs_natCast]
        refine Nat.lt_of_le_of_lt (Nat.le_of_dvd (by omega) (Nat.gcd_dvd_right _ _)) ?_
        rw [hd2]
        exact zd
      refine ⟨_, rfl, _, rfl, n2, d2, rfl, hz, ?_⟩
      have hne : (((Nat.gcd n2.natAbs d2.natAbs : Nat) : Int)) ≠ 0 := by omega
      refine ⟨_, rfl, _, rfl, _, _, rfl, rfl, ⟨hne, hb⟩, _, rfl, _, rfl, _, _, rfl, rfl, ⟨hne, hb⟩, (by show 2 ≤ sizeLine; decide), fun p hp => ?_⟩
      have L := low_of (n := n2) (d := d2) (by omega)
      rw [hc] at L
      exact q p _ _ hp (hL _ _ L)
/-! ### decimals -/
theorem mt_ljustF {X : Cx} : MtR X "str.ljust" (fun x xs H Q => ∃ (a : Str) (i : Int) (f : Str), x = .str a ∧ xs = [.int i, .str f] ∧ PadOk i = true ∧ f.length = 1 ∧ Q (.str (Txt.ljustF a i (f.cps.getD 0 0))) H) := by
  intro pins s σ H x xs v us Q I rx rs h
  obtain ⟨a, i, f, rfl, rfl, hc, hf, h⟩ := h
  obtain ⟨t, rfl⟩ := rx
  cases rs with
  | cons r1 rs =>
    cases rs with
    | cons r2 rs =>
      cases rs
      obtain ⟨u, rfl⟩ := r1
      obtain ⟨z, rfl⟩ := r2
      exact ljust_fill hc hf fun t' k => ⟨.str _, H, I.tok k, ⟨t', rfl⟩, h⟩
structure Lw (n d x y : Int) : Prop where
  pos : 0 < y
  eq : x * d = n * y
  cop : Nat.gcd x.natAbs y.natAbs = 1
theorem Low.lw {n d x y : Int} (h : Low n d x y) : Lw n d x y := ⟨h.pos, h.eq, h.cop⟩
theorem Lw.scale {n d k x y : Int} (hk : k ≠ 0) (h : Lw (n * k) (d * k) x y) : Lw n d x y := by
  refine ⟨h.pos, ?_, h.cop⟩
  have e := h.eq
  refine Int.eq_of_mul_eq_mul_right hk ?_
  rw [Int.mul_assoc, e, Int.mul_assoc, Int.mul_assoc, Int.mul_comm k y]
theorem Lw.neg {n d x y : Int} (h : Lw n d x y) : Lw (-n) d (-x) y := ⟨h.pos, by rw [Int.neg_mul, Int.neg_mul, h.eq], by rw [Int.natAbs_neg]; exact h.cop⟩
theorem lw_one {n d x y x2 y2 : Int} (hd : d ≠ 0) (a : Lw n d x y) (b : Lw n d x2 y2) : x = x2 ∧ y = y2 := by
  have h : x * y2 = x2 * y := by
    have h1 : (x * y2) * d = (x2 * y) * d := by
      rw [Int.mul_assoc, Int.mul_comm y2, ← Int.mul_assoc, a.eq, Int.mul_assoc x2, Int.mul_comm y d, ← Int.mul_assoc, b.eq, Int.mul_assoc, Int.mul_assoc, Int.mul_comm y]
    exact Int.eq_of_mul_eq_mul_right hd h1
  have hN : x.natAbs * y2.natAbs = x2.natAbs * y.natAbs := by
    rw [← Int.natAbs_mul, ← Int.natAbs_mul, h]
  have c1 : Nat.Coprime x.natAbs y.natAbs := a.cop
  have c2 : Nat.Coprime x2.natAbs y2.natAbs := b.cop
  have d1 : y.natAbs ∣ y2.natAbs := c1.symm.dvd_of_dvd_mul_left (by rw [hN]; exact Nat.dvd_mul_left _ _)
  have d2 : y2.natAbs ∣ y.natAbs := c2.symm.dvd_of_dvd_mul_left (by rw [← hN]; exact Nat.dvd_mul_left _ _)
  have ey : y.natAbs = y2.natAbs := Nat.dvd_antisymm d1 d2
  have p1 := a.pos
  have p2 := b.pos
  have e : y = y2 := by omega
  subst e
  exact ⟨Int.eq_of_mul_eq_mul_right (by omega) h, rfl⟩
/-! a text at its first point -/
def pre46 (a : List Nat) : List Nat := a.takeWhile fun c => decide (c ≠ 46)
def post46 (a : List Nat) : List Nat := a.drop ((pre46 a).length + 1)
theorem split46 : ∀ {a : List Nat}, 46 ∈ a → a = pre46 a ++ 46 :: post46 a ∧ 46 ∉ pre46 a
  | [], h => by simp at h
  | c :: r, h => by
    by_cases hc : c = 46
    · subst hc
      exact ⟨rfl, by simp [pre46]⟩
    · have h2 : 46 ∈ r := by
        rcases List.mem_cons.mp h with z | z
        · exact absurd z.symm hc
        · exact z
      obtain ⟨e1, e2⟩ := split46 h2
      have e3 : pre46 (c :: r) = c :: pre46 r := by
        unfold pre46
        rw [List.takeWhile_cons, if_pos (decide_eq_true hc)]
      have e4 : post46 (c :: r) = post46 r := by
        unfold post46
        rw [e3, List.length_cons, List.drop_succ_cons]
      rw [e3, e4]
      refine ⟨?_, ?_⟩
      · rw [List.cons_append, ← e1]
      · intro z
        rcases List.mem_cons.mp z with y | y
        · exact hc y.symm
        · exact e2 y
theorem none46 {a : List Nat} (h : 46 ∉ a) : pre46 a = a ∧ post46 a = [] := by
  have e : pre46 a = a := by
    unfold pre46
    exact tw_self fun x hx => decide_eq_true fun z => h (z ▸ hx)
  refine ⟨e, ?_⟩
  unfold post46
  rw [e]
  exact List.drop_eq_nil_of_le (by omega)
theorem len46 (a : List Nat) : (pre46 a).length ≤ a.length ∧ (post46 a).length ≤ a.length := ⟨tw_le a, by unfold post46; rw [List.length_drop]; omega⟩
def isD (a : List Nat) : Bool := !a.isEmpty && a.all dig
theorem isD_of {a : List Nat} (h : isD a = true) : a ≠ [] ∧ a.all dig = true := by
  unfold isD at h
  rw [Bool.and_eq_true] at h
  refine ⟨fun z => ?_, h.2⟩
  rw [z] at h
  exact absurd h.1 (by decide)
def okD (a : List Nat) : Prop := isD (pre46 a) = true ∧ (pre46 a).length ≤ 12 ∧ (46 ∈ a → isD (post46 a) = true ∧ (post46 a).length ≤ 6)
def numD (a : List Nat) : Int := ((digitsVal (pre46 a ++ post46 a) : Nat) : Int)
def denD (a : List Nat) : Int := 10 ^ (post46 a).length
theorem denD_ne (a : List Nat) : denD a ≠ 0 := by
  unfold denD
  have : (0 : Int) < 10 ^ (post46 a).length := Int.pow_pos (by decide)
  omega
theorem zeros_val (a : List Nat) : ∀ k : Nat, digitsVal (a ++ List.replicate k 48) = digitsVal a * 10 ^ k
  | 0 => by simp
  | k + 1 => by
    rw [List.replicate_succ', ← List.append_assoc, PySem.NumText.digitsVal_snoc, zeros_val a k, Nat.pow_succ, Nat.mul_assoc]
    rfl
theorem fold_lt : ∀ (a : List Nat) (acc : Nat), a.all dig = true → a.foldl (fun acc c => acc * 10 + (c - 48)) acc < (acc + 1) * 10 ^ a.length
  | [], acc, _ => by simp
  | c :: r, acc, h => by
    rw [List.all_cons, Bool.and_eq_true] at h
    have hc : 48 ≤ c ∧ c ≤ 57 := of_decide_eq_true h.1
    refine Nat.lt_of_lt_of_le (fold_lt r (acc * 10 + (c - 48)) h.2) ?_
    rw [List.length_cons, Nat.pow_succ, Nat.mul_comm (10 ^ r.length) 10, ← Nat.mul_assoc]
    exact Nat.mul_le_mul_right _ (by omega)
theorem val_lt {a : List Nat} (h : a.all dig = true) : digitsVal a < 10 ^ a.length := by
  have := fold_lt a 0 h
  rw [Nat.zero_add, Nat.one_mul] at this
  exact this
theorem val_lt18 {a : List Nat} (h : a.all dig = true) (hl : a.length ≤ 18) : digitsVal a < 10 ^ 18 := Nat.lt_of_lt_of_le (val_lt h) (Nat.pow_le_pow_right (by decide) hl)
theorem pt_S : ("." : Str) = S [46] := by decide +kernel
theorem emp_S : ("" : Str) = S [] := by decide +kernel
theorem str_eq (a : List Nat) : decide (V.str (S a) = V.str ("" : Str)) = a.isEmpty := by
  rw [emp_S]
  cases a with
  | nil => exact decide_eq_true rfl
  | cons c r => exact decide_eq_false fun z => by have := SX.S_inj (V.str.inj z); cases this
def spIsD (K : PySem.W.Frag) : Sp := fun vs H Q _ => ∃ (a : List Nat), vs = [.str (S a)] ∧ a.length ≤ 1000 ∧ ∀ H', Same H H' → Q (.bl (isD a)) H'
theorem okIsDigits (T : Txt K mg) : FnOk P w K mg base CX0 1 T.fIsDigits T.fdIsDigits ["text"] (spIsD K) := by
  refine T.FIsDigits.ok scIsDigits (fun vs H Q E h => ?_) (fun cdv A outer s H vs Q E hr h => ?_)
  · obtain ⟨a, rfl, _⟩ := h
    rfl
  · obtain ⟨a, rfl, ha, q⟩ := h
    -- slots text=0 character=1
    refine ⟨_, (pss_one (ps_ret (pe_and (pe_cmpR op_ne (pv 0) pe_str (nomark _)) (pe_one (pe_callB (cr_all rfl) (by rfl) T.z_all (by decide +kernel) (pa_cons (pe_lc (own := [("character", 1)]) (g := gName 1) (tt := tYes) rfl scIsDigits.nd (pi_str (pv 0)) (blkOk_by (own := [("character", 1)]) (N := ["text", "character"]) (sc := defScope sIsDigits) (by decide +kernel)) (fun _ _ _ _ _ => (pg_name (i := 1) scIsDigits.nd rfl (Or.inl rfl))) (fun _ _ _ _ _ => pts_nil) (fun _ _ _ _ _ => (pe_cmpR op_in_sign (pv 1) (pe_glob (v := (.str "0123456789")) rfl T.g_DIGITS ⟨_, rfl⟩) rfl))) pa_nil)))))), ?_⟩
    refine ⟨_, rfl, rfl, _, rfl, ?_⟩
    rw [str_eq]
    cases he : a.isEmpty with
    | true =>
      have q2 := q H (Same.refl H)
      unfold isD at q2
      rw [he] at q2
      exact iteF q2
    | false =>
      refine iteT ⟨_, rfl, S a, rfl, fun D hD => ?_⟩
      refine lc_it (walk_S (a := a)) (fun i H' => Same H H' ∧ H' D = some (.lst (((a.take i).map dig).map V.bl))) ⟨same_new hD, upd_same⟩ (fun _ _ _ _ => trivial) ?_ ?_
      · rintro i v H1 H2 hi ⟨s1, hD1⟩ ⟨rfl, c, ec, rfl⟩
        refine ⟨rfl, yesT ⟨_, rfl, c, _, rfl, rfl, ((a.take i).map dig).map V.bl, hD1, ?_, same_mut s1 hD, ?_⟩⟩
        · rw [List.length_map, List.length_map, List.length_take]
          exact small1000 (by omega)
        · rw [upd_same, List.take_add_one, ec, dig_mem, List.map_append, List.map_append]
          rfl
      · rintro H1 ⟨s1, hD1⟩
        rw [List.take_length] at hD1
        refine ⟨D, a.map dig, rfl, SqL.of hD1, ?_⟩
        have q2 := q H1 s1
        unfold isD at q2
        rw [he] at q2
        rw [List.all_map]
        exact q2
def spDec (K : PySem.W.Frag) : Sp := fun vs H Q _ => ∃ (a : List Nat), vs = [.str (S a)] ∧ a.length ≤ 1000 ∧ (¬ okD a → ∀ H', Same H H' → Q .non H') ∧ (okD a → ∀ p x y H', Same H H' → H' p = some (.tup [.int x, .int y]) → Lw (numD a) (denD a) x y → Q (.ref p) H')
theorem ljust6 (q : List Nat) : Txt.ljustF (S q) 6 (("0" : Str).cps.getD 0 0) = S (q ++ List.replicate (6 - q.length) 48) := by
  refine TL.ext_tl ?_
  show (Txt.ljustF (S q) 6 (("0" : Str).cps.getD 0 0)).cps.toList = _
  rw [PyProof.Rows.ljustF_list, S_len, show (("0" : Str).cps.getD 0 0) = 48 by decide +kernel]
  rfl
theorem okReadDecimal (T : Txt K mg) : FnOk P w K mg base CX0 2 T.fReadDecimal T.fdReadDecimal ["text"] (spDec K) := by
  refine T.FReadDecimal.ok scReadDecimal (fun vs H Q E h => ?_) (fun cdv A outer s H vs Q E hr h => ?_)
  · obtain ⟨a, rfl, _⟩ := h
    rfl
  · obtain ⟨a, rfl, ha, q1, q2⟩ := h
    -- slots text=0 whole=1 point=2 rest=3
    refine ⟨_, (pss_cons (ps_asg (pe_bm PySem.F.plainAttrs_str PySem.F.slot_str_partition PySem.F.type_str_partition mt_partition (pv 0) (pa_cons pe_str pa_nil)) (pg_tup rfl (pgs_cons (pg_name (i := 1) scReadDecimal.nd rfl (Or.inl rfl)) (pgs_cons (pg_name (i := 2) scReadDecimal.nd rfl (Or.inl rfl)) (pgs_cons (pg_name (i := 3) scReadDecimal.nd rfl (Or.inl rfl)) pgs_nil)))))
        (pss_cons (ps_if (PW.pt (pw_or (pt_not (pt_val (pe_call (okIsDigits T) (hr.mono (by decide)) (by rfl) T.gIsDigits T.FIsDigits.kp T.bIsDigits .nil pass0 (pa_cons (pv 1) pa_nil)))) (pw_or1 (pt_cmpR op_gt (pe_callB call_len_str (by rfl) T.z_len PySem.boot_len (pa_cons (pv 1) pa_nil)) (pe_glob (v := (.int 12)) rfl T.g_MOST_BEFORE_POINT ⟨_, rfl⟩) (nomark _)))))
          (pss_one (ps_ret pe_non))
          pss_nil)
        (pss_cons (ps_if (pt_cmpR op_eq (pv 2) pe_str (nomark _))
          (pss_one (ps_ret (pe_tup (pa_cons (pe_callTy call_int_str (by rfl) T.z_int (by decide +kernel) (pa_cons (pv 1) pa_nil)) (pa_cons pe_int pa_nil)))))
          pss_nil)
        (pss_cons (ps_if (PW.pt (pw_or (pt_not (pt_val (pe_call (okIsDigits T) (hr.mono (by decide)) (by rfl) T.gIsDigits T.FIsDigits.kp T.bIsDigits .nil pass0 (pa_cons (pv 3) pa_nil)))) (pw_or1 (pt_cmpR op_gt (pe_callB call_len_str (by rfl) T.z_len PySem.boot_len (pa_cons (pv 3) pa_nil)) (pe_glob (v := (.int 6)) rfl T.g_MOST_BEHIND_POINT ⟨_, rfl⟩) (nomark _)))))
          (pss_one (ps_ret pe_non))
          pss_nil)
        (pss_one (ps_ret (pe_call (okFraction T) (hr.mono (by decide)) (by rfl) T.gFraction T.FFraction.kp T.bFraction .nil pass0 (pa_cons (pe_callTy call_int_str (by rfl) T.z_int (by decide +kernel) (pa_cons (pe_op op_add_str (pv 1) (pe_bm PySem.F.plainAttrs_str PySem.F.slot_str_ljust PySem.F.type_str_ljust mt_ljustF (pv 3) (pa_cons (pe_glob (v := (.int 6)) rfl T.g_MOST_BEHIND_POINT ⟨_, rfl⟩) (pa_cons pe_str pa_nil)))) pa_nil)) (pa_cons (pe_glob (v := (.int 1000000)) rfl T.g_PARTS ⟨_, rfl⟩) pa_nil))))))))), ?_⟩
    obtain ⟨l1, l2⟩ := len46 a
    refine ⟨_, rfl, rfl, S a, ".", rfl, rfl, by decide +kernel, by rw [S_len]; exact sz100 (by omega), fun p0 hp0 => ?_⟩
    refine ⟨p0, _, rfl, SqT.of upd_same, rfl, _, _, rfl, _, _, rfl, _, _, rfl, rfl, ?_⟩
    by_cases hpt : 46 ∈ a
    · obtain ⟨ea, hn⟩ := split46 hpt
      have e : Txt.partition (S a) "." = (S (pre46 a), S [46], S (post46 a)) := by
        rw [pt_S]
        refine SX.partition_some (b := [46]) (by decide) ?_
        conv => lhs; rw [ea]
        exact SX.par_head (c := 46) (sep := []) (post46 a) hn
      rw [e]
      unfold okD at q1 q2
      unfold numD denD at q2
      generalize pre46 a = w at *
      generalize post46 a = r at *
      have s0 := same_new (o := .tup [.str (S w), .str (S [46]), .str (S r)]) hp0
      refine ⟨_, rfl, w, rfl, by omega, fun H1 s1 => ⟨_, rfl, ?_⟩⟩
      by_cases c1 : isD w = true
      rotate_left
      · rw [Bool.not_eq_true] at c1
        rw [c1]
        exact iteT (iteT (q1 (fun z => by rw [c1] at z; cases z.1) _ (s0.trans s1)))
      rw [c1]
      refine iteF ⟨_, rfl, S w, rfl, by rw [S_len]; exact sz100 (by omega), _, _, rfl, rfl, _, rfl, ?_⟩
      rw [S_len]
      by_cases c2 : w.length ≤ 12
      rotate_left
      · rw [decide_eq_true (by omega)]
        exact iteT (q1 (fun z => c2 z.2.1) _ (s0.trans s1))
      rw [decide_eq_false (by omega)]
      refine iteF ⟨_, rfl, rfl, _, rfl, ?_⟩
      rw [str_eq]
      refine iteF ?_
      refine ⟨_, rfl, r, rfl, by omega, fun H2 s2 => ⟨_, rfl, ?_⟩⟩
      have s02 := (s0.trans s1).trans s2
      by_cases c3 : isD r = true
      rotate_left
      · rw [Bool.not_eq_true] at c3
        rw [c3]
        exact iteT (iteT (q1 (fun z => by rw [c3] at z; cases (z.2.2 hpt).1) _ s02))
      rw [c3]
      refine iteF ⟨_, rfl, S r, rfl, by rw [S_len]; exact sz100 (by omega), _, _, rfl, rfl, _, rfl, ?_⟩
      rw [S_len]
      by_cases c4 : r.length ≤ 6
      rotate_left
      · rw [decide_eq_true (by omega)]
        exact iteT (q1 (fun z => c4 (z.2.2 hpt).2) _ s02)
      rw [decide_eq_false (by omega)]
      refine iteF ?_
      obtain ⟨w0, w1⟩ := isD_of c1
      obtain ⟨r0, r1⟩ := isD_of c3
      have hk : r.length + (6 - r.length) = 6 := by omega
      have lz : (r ++ List.replicate (6 - r.length) 48).length = 6 := by rw [List.length_append, List.length_replicate, hk]
      have da : (w ++ (r ++ List.replicate (6 - r.length) 48)).all dig = true := by
        rw [List.all_append, List.all_append, w1, r1, Bool.true_and, Bool.true_and]
        exact List.all_eq_true.mpr fun x hx => by rw [List.eq_of_mem_replicate hx]; rfl
      have la : (w ++ (r ++ List.replicate (6 - r.length) 48)).length ≤ 18 := by rw [List.length_append, lz]; omega
      have na : w ++ (r ++ List.replicate (6 - r.length) 48) ≠ [] := fun z => by
        rw [List.append_eq_nil_iff] at z
        exact w0 z.1
      have hv := val_lt18 da la
      refine ⟨_, rfl, _, rfl, rfl, S r, 6, "0", rfl, rfl, rfl, by decide +kernel, ?_⟩
      rw [ljust6]
      refine ⟨S w, S (r ++ List.replicate (6 - r.length) 48), rfl, rfl, by rw [S_len, S_len, lz]; exact sz100 (by omega), ?_⟩
      rw [S_cat]
      refine ⟨S (w ++ (r ++ List.replicate (6 - r.length) 48)), _, rfl, int_dig da na (by omega), by rw [S_len]; omega, _, _, rfl, by decide, by decide, fun p x y hp L => ?_⟩
      refine q2 ⟨c1, c2, fun _ => ⟨c3, c4⟩⟩ p x y _ (s02.trans (same_new hp)) upd_same ?_
      refine Lw.scale (k := 10 ^ (6 - r.length)) (by have : (0 : Int) < 10 ^ (6 - r.length) := Int.pow_pos (by decide); omega) ?_
      have L2 := L.lw
      rw [← List.append_assoc, zeros_val] at L2
      have e6 : (10 : Int) ^ r.length * 10 ^ (6 - r.length) = 1000000 := by
        rw [← Int.pow_add, hk]
        rfl
      rw [e6]
      have e7 : (((digitsVal (w ++ r) * 10 ^ (6 - r.length) : Nat)) : Int) = ((digitsVal (w ++ r) : Nat) : Int) * 10 ^ (6 - r.length) := by
        rw [Int.natCast_mul, Int.natCast_pow]
        rfl
      rw [e7] at L2
      exact L2
    · obtain ⟨e1, e2⟩ := none46 hpt
      have e : Txt.partition (S a) "." = (S a, S [], S []) := by
        rw [pt_S]
        exact SX.partition_none (b := [46]) (by decide) (SX.par_head_none (c := 46) (sep := []) hpt)
      rw [e]
      unfold okD at q1 q2
      unfold numD denD at q2
      rw [e1] at q1 q2
      rw [e2, List.append_nil] at q2
      have s0 := same_new (o := .tup [.str (S a), .str (S []), .str (S [])]) hp0
      refine ⟨_, rfl, a, rfl, by omega, fun H1 s1 => ⟨_, rfl, ?_⟩⟩
      by_cases c1 : isD a = true
      rotate_left
      · rw [Bool.not_eq_true] at c1
        rw [c1]
        exact iteT (iteT (q1 (fun z => by rw [c1] at z; cases z.1) _ (s0.trans s1)))
      rw [c1]
      refine iteF ⟨_, rfl, S a, rfl, by rw [S_len]; exact sz100 (by omega), _, _, rfl, rfl, _, rfl, ?_⟩
      rw [S_len]
      by_cases c2 : a.length ≤ 12
      rotate_left
      · rw [decide_eq_true (by omega)]
        exact iteT (q1 (fun z => c2 z.2.1) _ (s0.trans s1))
      rw [decide_eq_false (by omega)]
      refine iteF ⟨_, rfl, rfl, _, rfl, ?_⟩
      rw [str_eq]
      refine iteT ?_
      obtain ⟨w0, w1⟩ := isD_of c1
      refine ⟨_, rfl, S a, _, rfl, int_dig w1 w0 (by omega), by rw [S_len]; omega, (by show 2 ≤ sizeLine; decide), fun p hp => ?_⟩
      refine q2 ⟨c1, c2, fun z => absurd z hpt⟩ p _ _ _ ((s0.trans s1).trans (same_new hp)) upd_same ⟨by decide, ?_, ?_⟩
      · show _ * (10 : Int) ^ 0 = _ * 1
        rfl
      · exact Nat.gcd_one_right _
def negN (a : List Nat) : Prop := a.head? = some 45
def bodyN (a : List Nat) : List Nat := if a.head? = some 45 then a.drop 1 else a
def spNumb (K : PySem.W.Frag) : Sp := fun vs H Q _ => ∃ (a : List Nat), vs = [.str (S a)] ∧ a.length ≤ 1000 ∧ (¬ okD (bodyN a) → ∀ H', Same H H' → Q .non H') ∧
  (okD (bodyN a) → ∀ p x y H', Same H H' → H' p = some (.tup [.int (if a.head? = some 45 then -x else x), .int y]) → Lw (numD (bodyN a)) (denD (bodyN a)) x y → Q (.ref p) H')
theorem minus_S : ("-" : Str) = S [45] := by decide +kernel
theorem starts_minus (a : List Nat) : Txt.startswith (S a) "-" = decide (a.head? = some 45) := by
  unfold Txt.startswith
  rw [minus_S, StrLaws.subAt_eq]
  cases a with
  | nil => rfl
  | cons c r =>
    rw [Bool.eq_iff_iff, Bool.and_eq_true]
    simp [S_len]
theorem okReadNumber (T : Txt K mg) : FnOk P w K mg base CX0 3 T.fReadNumber T.fdReadNumber ["text"] (spNumb K) := by
  refine T.FReadNumber.ok scReadNumber (fun vs H Q E h => ?_) (fun cdv A outer s H vs Q E hr h => ?_)
  · obtain ⟨a, rfl, _⟩ := h
    rfl
  · obtain ⟨a, rfl, ha, q1, q2⟩ := h
    -- slots text=0 x=1
    refine ⟨_, (pss_cons (ps_if (pt_not (pt_val (pe_bm PySem.F.plainAttrs_str PySem.F.slot_str_startswith PySem.F.type_str_startswith mt_startswith (pv 0) (pa_cons pe_str pa_nil))))
          (pss_one (ps_ret (pe_call (okReadDecimal T) (hr.mono (by decide)) (by rfl) T.gReadDecimal T.FReadDecimal.kp T.bReadDecimal .nil pass0 (pa_cons (pv 0) pa_nil))))
          pss_nil)
        (pss_cons (ps_set (i := 1) scReadNumber.nd rfl (Or.inl rfl) (pe_call (okReadDecimal T) (hr.mono (by decide)) (by rfl) T.gReadDecimal T.FReadDecimal.kp T.bReadDecimal .nil pass0 (pa_cons (pe_slice C8.sl_txt (pv 0) (po_some pe_int) po_none) pa_nil)))
        (pss_one (ps_ret (pe_ifExp (pt_cmpR op_isN (pv 1) pe_non (nomark _)) pe_non (pe_tup (pa_cons (pe_un un_neg (pe_ix ix_tup (pv 1) pe_int (fun _ _ => rfl))) (pa_cons (pe_ix ix_tup (pv 1) pe_int (fun _ _ => rfl)) pa_nil)))))))), ?_⟩
    refine ⟨_, rfl, rfl, S a, "-", rfl, rfl, _, rfl, ?_⟩
    rw [starts_minus]
    by_cases hm : a.head? = some 45
    · rw [decide_eq_true hm]
      refine iteF ?_
      unfold bodyN at q1 q2
      rw [if_pos hm] at q1 q2
      refine ⟨_, rfl, 1, rfl, S a, rfl, by rw [S_len]; exact sz100 (by omega), ?_⟩
      rw [slice_from (by decide)]
      refine ⟨a.drop 1, rfl, by rw [List.length_drop]; omega, fun h1 H1 s1 => ?_, fun h1 p x y H1 s1 hp L => ?_⟩
      · refine ⟨_, rfl, rfl, _, rfl, ite2 (fun _ => q1 h1 _ s1) (fun z => absurd (decide_eq_true rfl) z)⟩
      · refine ⟨_, rfl, rfl, _, rfl, ite2 (fun z => (nomatch (of_decide_eq_true z))) (fun _ => ?_)⟩
        refine ⟨_, rfl, p, _, _, _, rfl, rfl, SqT.of hp, atI_nat (j := 0) rfl, _, rfl, _, rfl, p, _, _, _, rfl, rfl, SqT.of hp, atI_nat (j := 1) rfl, (by show 2 ≤ sizeLine; decide), fun p2 hp2 => ?_⟩
        refine q2 h1 p2 x y _ (s1.trans (same_new hp2)) ?_ L
        rw [if_pos hm]
        exact upd_same
    · rw [decide_eq_false hm]
      refine iteT ?_
      unfold bodyN at q1 q2
      rw [if_neg hm] at q1 q2
      refine ⟨_, rfl, a, rfl, ha, q1, fun h1 p x y H1 s1 hp L => ?_⟩
      refine q2 h1 p x y H1 s1 ?_ L
      rw [if_neg hm]
      exact hp
/-! ### the law's own reading of decimals -/
theorem idx_one {p q : List Nat} {c : Nat} (h : c ∉ p) : Txt.index0 (S (p ++ c :: q)) (S [c]) = some p.length := by
  have at_iff : ∀ k : Nat, StrLaws.At (S (p ++ c :: q)) (S [c]) (S (p ++ c :: q)).length k ↔ (p ++ c :: q)[k]? = some c := fun k => StrLaws.subAt_one (S (p ++ c :: q)) c k
  unfold Txt.index0
  have here : (p ++ c :: q)[p.length]? = some c := by
    rw [List.getElem?_append_right (Nat.le_refl _), Nat.sub_self]
    rfl
  rcases StrLaws.occ_head (S (p ++ c :: q)) (S [c]) 1 (Nat.le_refl _) with ⟨_, hn⟩ | ⟨i, r, e, hi, hk⟩
  · exact absurd ((at_iff p.length).mpr here) (hn p.length)
  · rw [e]
    refine congrArg some ?_
    rcases Nat.lt_trichotomy i p.length with z | z | z
    · have h2 := (at_iff i).mp hi
      rw [List.getElem?_append_left z] at h2
      exact absurd (List.mem_of_getElem? h2) h
    · exact z
    · exact absurd ((at_iff p.length).mpr here) (hk p.length z)
theorem okLawAllDigits (T : Txt K mg) : FnOk P w K mg base CX0 1 T.fLawAllDigits T.fdLawAllDigits ["text"] (spIsD K) := by
  refine T.FLawAllDigits.ok scLawAllDigits (fun vs H Q E h => ?_) (fun cdv A outer s H vs Q E hr h => ?_)
  · obtain ⟨a, rfl, _⟩ := h
    rfl
  · obtain ⟨a, rfl, ha, q⟩ := h
    -- slots text=0 char=1
    refine ⟨_, (pss_cons (ps_for PassesOwn.never rfl (pi_str (pv 0)) (pg_name (i := 1) scLawAllDigits.nd rfl (Or.inl rfl))
          (pss_one (ps_if (pt_cmpR op_notIn_sign (pv 1) pe_str rfl)
            (pss_one (ps_ret pe_bl))
            pss_nil)))
        (pss_one (ps_ret (pe_cmpR op_gt (pe_callB call_len_str (by rfl) T.z_len PySem.boot_len (pa_cons (pv 0) pa_nil)) pe_int (nomark _))))), ?_⟩
    refine ⟨_, rfl, S a, rfl, for_it (walk_S (a := a)) (fun i σ H' => H' = H ∧ (∀ y ∈ a.take i, dig y = true) ∧ ∃ c1, σ = [some (.str (S a)), c1]) ⟨rfl, (fun x h => by simp at h), _, rfl⟩ (fun _ _ _ _ _ => trivial) ?_ ?_⟩
    · rintro i v σ H1 H2 hi ⟨rfl, hall, c1, rfl⟩ ⟨rfl, c, ec, rfl⟩
      refine ⟨_, rfl, c, _, rfl, rfl, _, rfl, ?_⟩
      rw [dig_mem]
      cases hc : dig c with
      | false =>
        have q2 := q H2 (Same.refl _)
        have : a.all dig = false := by
          rw [← Bool.not_eq_true]
          intro z
          rw [List.all_eq_true.mp z c (List.mem_of_getElem? ec)] at hc
          cases hc
        unfold isD at q2
        rw [this, Bool.and_false] at q2
        exact iteT q2
      | true =>
        refine iteF ⟨rfl, fun y hy => ?_, some (.str (S [c])), rfl⟩
        rw [List.take_add_one, ec] at hy
        rcases List.mem_append.mp hy with h | h
        · exact hall y h
        · obtain rfl : y = c := by simpa using h
          exact hc
    · rintro σ H1 ⟨rfl, hall, c1, rfl⟩
      rw [List.take_length] at hall
      have q2 := q H1 (Same.refl _)
      unfold isD at q2
      rw [List.all_eq_true.mpr hall, Bool.and_true] at q2
      refine ⟨_, rfl, S a, rfl, by rw [S_len]; exact sz100 (by omega), _, _, rfl, rfl, ?_⟩
      rw [S_len]
      have e : decide ((0 : Int) < (a.length : Int)) = !a.isEmpty := by
        cases a with
        | nil => rfl
        | cons c r => exact decide_eq_true (by rw [List.length_cons]; omega)
      show Q (.bl (decide ((0 : Int) < (a.length : Int)))) H1
      rw [e]
      exact q2
theorem tens_at {n : Nat} (h : n ≤ 6) : atI ([1, 10, 100, 1000, 10000, 100000, 1000000].map V.int) (n : Int) = some (.int (10 ^ n)) := by
  have e : n = 0 ∨ n = 1 ∨ n = 2 ∨ n = 3 ∨ n = 4 ∨ n = 5 ∨ n = 6 := by omega
  rcases e with rfl | rfl | rfl | rfl | rfl | rfl | rfl <;> rfl
theorem okLawOwnDecimal (T : Txt K mg) : FnOk P w K mg base CX0 3 T.fLawOwnDecimal T.fdLawOwnDecimal ["text"] (spDec K) := by
  refine T.FLawOwnDecimal.ok scLawOwnDecimal (fun vs H Q E h => ?_) (fun cdv A outer s H vs Q E hr h => ?_)
  · obtain ⟨a, rfl, _⟩ := h
    rfl
  · obtain ⟨a, rfl, ha, q1, q2⟩ := h
    -- slots text=0 whole=1 more=2 at=3
    refine ⟨_, (pss_cons (ps_set (i := 1) scLawOwnDecimal.nd rfl (Or.inl rfl) (pv 0))
        (pss_cons (ps_set (i := 2) scLawOwnDecimal.nd rfl (Or.inl rfl) pe_str)
        (C8.pss_cut (ps_if (pt_cmpR op_in_str pe_str (pv 0) rfl)
          (pss_cons (ps_set (i := 3) scLawOwnDecimal.nd rfl (Or.inl rfl) (pe_bmS PySem.F.plainAttrs_str PySem.F.slot_str_index PySem.F.type_str_index (mt_indexX rfl takes0) (pv 0) (pa_cons pe_str pa_nil)))
          (pss_cons (ps_set (i := 1) scLawOwnDecimal.nd rfl (Or.inl rfl) (pe_slice C8.sl_txt (pv 0) po_none (po_some (pv 3))))
          (pss_cons (ps_set (i := 2) scLawOwnDecimal.nd rfl (Or.inl rfl) (pe_slice C8.sl_txt (pv 0) (po_some (pe_op op_add (pv 3) pe_int)) po_none))
          (pss_one (ps_if (PW.pt (pw_or (pt_not (pt_val (pe_call (okLawAllDigits T) (hr.mono (by decide)) (by rfl) T.gLawAllDigits T.FLawAllDigits.kp T.bLawAllDigits .nil pass0 (pa_cons (pv 2) pa_nil)))) (pw_or1 (pt_cmpR op_gt (pe_callB call_len_str (by rfl) T.z_len PySem.boot_len (pa_cons (pv 2) pa_nil)) pe_int (nomark _)))))
            (pss_one (ps_ret pe_non))
            pss_nil)))))
          pss_nil)
        (pss_cons (ps_if (PW.pt (pw_or (pt_not (pt_val (pe_call (okLawAllDigits T) (hr.mono (by decide)) (by rfl) T.gLawAllDigits T.FLawAllDigits.kp T.bLawAllDigits .nil pass0 (pa_cons (pv 1) pa_nil)))) (pw_or1 (pt_cmpR op_gt (pe_callB call_len_str (by rfl) T.z_len PySem.boot_len (pa_cons (pv 1) pa_nil)) pe_int (nomark _)))))
          (pss_one (ps_ret pe_non))
          pss_nil)
        (pss_one (ps_ret (pe_call (okLawLowest T) (hr.mono (by decide)) (by rfl) T.gLawLowest T.FLawLowest.kp T.bLawLowest .nil pass0 (pa_cons (pe_callTy call_int_str (by rfl) T.z_int (by decide +kernel) (pa_cons (pe_op op_add_str (pv 1) (pv 2)) pa_nil)) (pa_cons (pe_ix ix_list (pe_lst (pa_cons pe_int (pa_cons pe_int (pa_cons pe_int (pa_cons pe_int (pa_cons pe_int (pa_cons pe_int (pa_cons pe_int pa_nil)))))))) (pe_callB call_len_str (by rfl) T.z_len PySem.boot_len (pa_cons (pv 2) pa_nil)) (fun _ _ => rfl)) pa_nil))))))))), ?_⟩
    obtain ⟨l1, l2⟩ := len46 a
    refine ⟨_, rfl, fun σ H' => Same H H' ∧ (46 ∈ a → isD (post46 a) = true ∧ (post46 a).length ≤ 6) ∧ ∃ c3, σ = [some (.str (S a)), some (.str (S (pre46 a))), some (.str (S (post46 a))), c3], ?_, ?_⟩
    · refine ⟨_, rfl, ".", S a, rfl, rfl, _, rfl, ?_⟩
      rw [pt_S, SX.in_one]
      by_cases hpt : 46 ∈ a
      · obtain ⟨ea, hn⟩ := split46 hpt
        rw [decide_eq_true hpt]
        refine iteT ⟨_, rfl, rfl, S a, S [46], rfl, congrArg (fun z => [V.str z]) pt_S, (fun k ek => ?_), (fun z => ?_)⟩
        rotate_left
        · rw [ea, idx_one hn] at z
          cases z
        have ek2 : k = (pre46 a).length := by
          have e2 := idx_one (q := post46 a) hn
          rw [← ea] at e2
          rw [e2] at ek
          exact (Option.some.inj ek).symm
        subst ek2
        have tw : ∀ w r : List Nat, a = w ++ 46 :: r → a.take w.length = w := fun w r e => by rw [e]; exact List.take_left
        have t1 := tw _ _ ea
        refine ⟨_, rfl, _, rfl, _, rfl, S a, rfl, by rw [S_len]; exact sz100 (by omega), ?_⟩
        rw [slice_to (by omega), Int.toNat_natCast, t1]
        refine ⟨_, rfl, _, rfl, _, _, rfl, rfl, _, rfl, S a, rfl, by rw [S_len]; exact sz100 (by omega), ?_⟩
        have t2 : Txt.slice (S a) (some (((pre46 a).length : Int) + 1)) none = S (post46 a) := slice_from (by omega)
        rw [t2]
        refine ⟨_, rfl, post46 a, rfl, by omega, fun H1 s1 => ⟨_, rfl, ?_⟩⟩
        by_cases c3 : isD (post46 a) = true
        rotate_left
        · rw [Bool.not_eq_true] at c3
          rw [c3]
          exact iteT (iteT (q1 (fun z => by have := (z.2.2 hpt).1; rw [c3] at this; cases this) _ s1))
        rw [c3]
        refine iteF ⟨_, rfl, S (post46 a), rfl, by rw [S_len]; exact sz100 (by omega), _, _, rfl, rfl, _, rfl, ?_⟩
        rw [S_len]
        by_cases c4 : (post46 a).length ≤ 6
        rotate_left
        · rw [decide_eq_true (by omega)]
          exact iteT (q1 (fun z => c4 (z.2.2 hpt).2) _ s1)
        rw [decide_eq_false (by omega)]
        exact iteF ⟨s1, fun _ => ⟨rfl, c4⟩, _, rfl⟩
      · obtain ⟨e1, e2⟩ := none46 hpt
        rw [decide_eq_false hpt]
        refine iteF ⟨Same.refl H, fun z => absurd z hpt, none, ?_⟩
        rw [e1, e2, ← emp_S]
        rfl
    rintro σ H1 ⟨s1, hp, c3, rfl⟩
    refine ⟨_, rfl, pre46 a, rfl, by omega, fun H2 s2 => ⟨_, rfl, ?_⟩⟩
    by_cases c1 : isD (pre46 a) = true
    rotate_left
    · rw [Bool.not_eq_true] at c1
      rw [c1]
      exact iteT (iteT (q1 (fun z => by have := z.1; rw [c1] at this; cases this) _ (s1.trans s2)))
    rw [c1]
    refine iteF ⟨_, rfl, S (pre46 a), rfl, by rw [S_len]; exact sz100 (by omega), _, _, rfl, rfl, _, rfl, ?_⟩
    rw [S_len]
    by_cases c2 : (pre46 a).length ≤ 12
    rotate_left
    · rw [decide_eq_true (by omega)]
      exact iteT (q1 (fun z => c2 z.2.1) _ (s1.trans s2))
    rw [decide_eq_false (by omega)]
    refine iteF ?_
    have p6 : (post46 a).length ≤ 6 := by
      by_cases hpt : 46 ∈ a
      · exact (hp hpt).2
      · rw [(none46 hpt).2]
        exact Nat.zero_le _
    obtain ⟨w0, w1⟩ := isD_of c1
    have da : (pre46 a ++ post46 a).all dig = true := by
      rw [List.all_append, w1, Bool.true_and]
      by_cases hpt : 46 ∈ a
      · exact (isD_of (hp hpt).1).2
      · rw [(none46 hpt).2]
        rfl
    have la : (pre46 a ++ post46 a).length ≤ 18 := by rw [List.length_append]; omega
    have na : pre46 a ++ post46 a ≠ [] := fun z => by
      rw [List.append_eq_nil_iff] at z
      exact w0 z.1
    have hv := val_lt18 da la
    refine ⟨_, rfl, _, rfl, S (pre46 a), S (post46 a), rfl, rfl, by rw [S_len, S_len]; exact sz100 (by omega), ?_⟩
    rw [S_cat]
    refine ⟨S (pre46 a ++ post46 a), _, rfl, int_dig da na (by omega), by rw [S_len]; omega, (by show 7 ≤ sizeLine; decide), fun l hl => ?_⟩
    refine ⟨_, rfl, S (post46 a), rfl, by rw [S_len]; exact sz100 (by omega), l, _, _, .int (10 ^ (post46 a).length), rfl, rfl, SqL.of upd_same, ?_, ?_⟩
    · rw [S_len]
      exact tens_at p6
    have zd : (denD a).natAbs < 2 ^ 400 := by
      unfold denD
      rw [Int.natAbs_pow]
      exact Nat.lt_of_le_of_lt (Nat.pow_le_pow_right (show 0 < (10 : Int).natAbs by decide) p6) (by decide)
    have zn : (((digitsVal (pre46 a ++ post46 a) : Nat) : Int)).natAbs < 2 ^ 400 := by
      rw [Int.natAbs_natCast]
      exact Nat.lt_trans hv (by decide)
    refine ⟨_, denD a, rfl, denD_ne a, zn, zd, fun p x y hp2 L => ?_⟩
    exact q2 ⟨c1, c2, hp⟩ p x y _ (((s1.trans s2).trans (same_new hl)).trans (same_new hp2)) upd_same L.lw
theorem take1_minus (a : List Nat) : decide (V.str (S (a.take 1)) = V.str ("-" : Str)) = decide (a.head? = some 45) := by
  rw [minus_S]
  refine decide_eq_decide.mpr ?_
  cases a with
  | nil => simp
  | cons c r =>
    refine ⟨fun z => ?_, fun z => ?_⟩
    · have := SX.S_inj (V.str.inj z)
      simp at this
      simp [this]
    · have : c = 45 := by simpa using z
      rw [this]
      rfl
theorem okLawOwnNumber (T : Txt K mg) : FnOk P w K mg base CX0 4 T.fLawOwnNumber T.fdLawOwnNumber ["text"] (spNumb K) := by
  refine T.FLawOwnNumber.ok scLawOwnNumber (fun vs H Q E h => ?_) (fun cdv A outer s H vs Q E hr h => ?_)
  · obtain ⟨a, rfl, _⟩ := h
    rfl
  · obtain ⟨a, rfl, ha, q1, q2⟩ := h
    -- slots text=0 x=1
    refine ⟨_, (pss_cons (ps_if (pt_cmpR op_eq (pe_slice C8.sl_txt (pv 0) po_none (po_some pe_int)) pe_str (nomark _))
          (pss_cons (ps_set (i := 1) scLawOwnNumber.nd rfl (Or.inl rfl) (pe_call (okLawOwnDecimal T) (hr.mono (by decide)) (by rfl) T.gLawOwnDecimal T.FLawOwnDecimal.kp T.bLawOwnDecimal .nil pass0 (pa_cons (pe_slice C8.sl_txt (pv 0) (po_some pe_int) po_none) pa_nil)))
          (pss_cons (ps_if (pt_cmpR op_isN (pv 1) pe_non (nomark _))
            (pss_one (ps_ret pe_non))
            pss_nil)
          (pss_one (ps_ret (pe_tup (pa_cons (pe_op op_sub pe_int (pe_ix ix_tup (pv 1) pe_int (fun _ _ => rfl))) (pa_cons (pe_ix ix_tup (pv 1) pe_int (fun _ _ => rfl)) pa_nil)))))))
          pss_nil)
        (pss_one (ps_ret (pe_call (okLawOwnDecimal T) (hr.mono (by decide)) (by rfl) T.gLawOwnDecimal T.FLawOwnDecimal.kp T.bLawOwnDecimal .nil pass0 (pa_cons (pv 0) pa_nil))))), ?_⟩
    refine ⟨_, rfl, 1, rfl, S a, rfl, by rw [S_len]; exact sz100 (by omega), ?_⟩
    rw [slice_to (by decide)]
    refine ⟨rfl, _, rfl, ?_⟩
    show if decide (V.str (S (a.take 1)) = V.str ("-" : Str)) = true then _ else _
    rw [take1_minus]
    by_cases hm : a.head? = some 45
    · rw [decide_eq_true hm]
      refine iteT ?_
      unfold bodyN at q1 q2
      rw [if_pos hm] at q1 q2
      refine ⟨_, rfl, 1, rfl, S a, rfl, by rw [S_len]; exact sz100 (by omega), ?_⟩
      rw [slice_from (by decide)]
      refine ⟨a.drop 1, rfl, by rw [List.length_drop]; omega, fun h1 H1 s1 => ?_, fun h1 p x y H1 s1 hp L => ?_⟩
      · refine ⟨_, rfl, rfl, _, rfl, ite2 (fun _ => q1 h1 _ s1) (fun z => absurd (decide_eq_true rfl) z)⟩
      · refine ⟨_, rfl, rfl, _, rfl, ite2 (fun z => (nomatch (of_decide_eq_true z))) (fun _ => ?_)⟩
        refine ⟨_, rfl, p, _, _, _, rfl, rfl, SqT.of hp, atI_nat (j := 0) rfl, _, _, rfl, rfl, _, rfl, p, _, _, _, rfl, rfl, SqT.of hp, atI_nat (j := 1) rfl, (by show 2 ≤ sizeLine; decide), fun p2 hp2 => ?_⟩
        refine q2 h1 p2 x y _ (s1.trans (same_new hp2)) ?_ L
        rw [if_pos hm, ← Int.zero_sub]
        exact upd_same
    · rw [decide_eq_false hm]
      refine iteF ?_
      unfold bodyN at q1 q2
      rw [if_neg hm] at q1 q2
      refine ⟨_, rfl, a, rfl, ha, q1, fun h1 p x y H1 s1 hp L => ?_⟩
      refine q2 h1 p x y H1 s1 ?_ L
      rw [if_neg hm]
      exact hp
/-! ### drawn texts -/
theorem at_some {α : Type} {xs : List α} {k : Int} (h0 : 0 ≤ k) (h1 : k < xs.length) : ∃ v, atI xs k = some v := by
  obtain ⟨j, rfl⟩ := Int.eq_ofNat_of_zero_le h0
  exact ⟨xs[j]'(by omega), atI_nat (List.getElem?_eq_getElem _)⟩
theorem op_mul_str {X : Cx} : OpR X (binaryOp .Mult) (fun x y H Q => ∃ (z : Str) (k : Int), x = .str z ∧ y = .int k ∧ MulOk z k ∧ Q (.str (Txt.mul z k)) H) := by
  intro pins s σ H x y v u Q I rx ry h
  obtain ⟨z, k, rfl, rfl, hk, q⟩ := h
  obtain ⟨t, rfl⟩ := rx
  obtain ⟨t2, rfl⟩ := ry
  exact PySem.SB.mul hk fun t' k' => ⟨.str _, H, I.tok k', ⟨t', rfl⟩, q⟩
theorem zeros_ok {k : Int} (h0 : 0 ≤ k) (h1 : k < 3) : MulOk ("0" : Str) k ∧ ∃ t : List Nat, Txt.mul ("0" : Str) k = S t ∧ t.length ≤ 2 := by
  have e : k = 0 ∨ k = 1 ∨ k = 2 := by omega
  rcases e with rfl | rfl | rfl
  · exact ⟨by unfold MulOk; decide +kernel, [], by decide +kernel, by decide⟩
  · exact ⟨by unfold MulOk; decide +kernel, [48], by decide +kernel, by decide⟩
  · exact ⟨by unfold MulOk; decide +kernel, [48, 48], by decide +kernel, by decide⟩
def spAny (K : PySem.W.Frag) : Sp := fun vs H Q _ => ∃ (b : Addr), vs = [.ref b] ∧ Box H b ∧ ∀ c H', Box H' b → Kp b H H' → Q (.str (S [c])) H'
theorem okLawAny (T : Txt K mg) : FnOk P w K mg base CX0 2 T.fLawAny T.fdLawAny ["box"] (spAny K) := by
  refine T.FLawAny.ok scLawAny (fun vs H Q E h => ?_) (fun cdv A outer s H vs Q E hr h => ?_)
  · obtain ⟨b, rfl, _⟩ := h
    rfl
  · obtain ⟨b, rfl, B, q⟩ := h
    -- slots box=0 chars=1
    refine ⟨_, (pss_cons (ps_set (i := 1) scLawAny.nd rfl (Or.inl rfl) pe_str)
        (pss_one (ps_ret (pe_ix ix_str (pv 1) (pe_call (okLawDraw T) (hr.mono (by decide)) (by rfl) T.gLawDraw T.FLawDraw.kp T.bLawDraw .nil pass0 (pa_cons (pv 0) (pa_cons pe_int pa_nil))) (fun _ _ => rfl))))), ?_⟩
    refine ⟨_, rfl, _, rfl, b, 94, rfl, by decide, B, fun k H1 k0 k1 B1 w1 => ?_⟩
    obtain ⟨c, hc⟩ := at_some (xs := (" !\"#$&'()*+,-./0123456789:;<=>?@ABCDEFGHIJKLMNOPQRSTUVWXYZ[\\]^_`abcdefghijklmnopqrstuvwxyz{|}~" : Str).cps.toList) k0 (Int.lt_of_lt_of_le k1 (by decide +kernel))
    exact ⟨_, k, c, rfl, rfl, by decide +kernel, hc, q c H1 B1 w1⟩
def spDText (K : PySem.W.Frag) : Sp := fun vs H Q _ => ∃ (b : Addr) (m : Int), vs = [.ref b, .int m] ∧ 0 ≤ m ∧ m ≤ 1000 ∧ Box H b ∧ ∀ t H', t.length ≤ m.toNat → Box H' b → Kp b H H' → Q (.str (S t)) H'
theorem okLawDigitText (T : Txt K mg) : FnOk P w K mg base CX0 2 T.fLawDigitText T.fdLawDigitText ["box", "many"] (spDText K) := by
  refine T.FLawDigitText.ok scLawDigitText (fun vs H Q E h => ?_) (fun cdv A outer s H vs Q E hr h => ?_)
  · obtain ⟨b, m, rfl, _⟩ := h
    rfl
  · obtain ⟨b, m, rfl, m0, m1, B, q⟩ := h
    obtain ⟨m, rfl⟩ := Int.eq_ofNat_of_zero_le m0
    rw [Int.toNat_natCast] at q
    -- slots box=0 many=1 text=2 k=3
    refine ⟨_, (pss_cons (ps_set (i := 2) scLawDigitText.nd rfl (Or.inl rfl) pe_str)
        (pss_cons (ps_for PassesOwn.never rfl (pi_range1 rfl T.z_range (pa_cons (pv 1) pa_nil)) (pg_name (i := 3) scLawDigitText.nd rfl (Or.inl rfl))
          (pss_one (ps_set (i := 2) scLawDigitText.nd rfl (Or.inl rfl) (pe_op op_add_str (pv 2) (pe_ix ix_str pe_str (pe_call (okLawDraw T) (hr.mono (by decide)) (by rfl) T.gLawDraw T.FLawDraw.kp T.bLawDraw .nil pass0 (pa_cons (pv 0) (pa_cons pe_int pa_nil))) (fun _ _ => rfl))))))
        (pss_one (ps_ret (pv 2))))), ?_⟩
    refine ⟨_, rfl, _, rfl, by omega, by omega, for_range (lo := 0) (n := m) (fun i σ H' => ∃ (t : List Nat) (c3 : Option V), σ = [some (.ref b), some (.int (m : Int)), some (.str (S t)), c3] ∧ t.length ≤ i ∧ Box H' b ∧ Kp b H H') ⟨[], none, by rw [← emp_S]; rfl, by decide, B, Kp.refl⟩ ?_ ?_⟩
    · rintro i σ H1 hi ⟨t, c3, rfl, ht, B1, w1⟩
      refine ⟨_, rfl, _, rfl, b, 10, rfl, by decide, B1, fun k H2 k0 k1 B2 w2 => ?_⟩
      obtain ⟨c, hc⟩ := at_some (xs := ("0123456789" : Str).cps.toList) k0 (Int.lt_of_lt_of_le k1 (by decide +kernel))
      refine ⟨_, k, c, rfl, rfl, by decide +kernel, hc, S t, S [c], rfl, rfl, by rw [S_len, S_len]; exact sz100 (by simp; omega), t ++ [c], some (.int (0 + (i : Int))), ?_, by rw [List.length_append]; simp; omega, B2, w1.trans w2⟩
      rw [S_cat]
      rfl
    · rintro σ H1 ⟨t, c3, rfl, ht, B1, w1⟩
      exact ⟨_, rfl, q t H1 ht B1 w1⟩
def spText (K : PySem.W.Frag) : Sp := fun vs H Q _ => ∃ (b : Addr), vs = [.ref b] ∧ Box H b ∧ ∀ t H', t.length ≤ 200 → Box H' b → Kp b H H' → Q (.str (S t)) H'
theorem len_add {u v : List Nat} (h1 : u.length ≤ 1000) (h2 : v.length ≤ 1000) : (S u).length + (S v).length ≤ sizeLine := by
  rw [S_len, S_len]
  exact sz100 (by omega)
theorem okLawText (T : Txt K mg) : FnOk P w K mg base CX0 3 T.fLawText T.fdLawText ["box"] (spText K) := by
  refine T.FLawText.ok scLawText (fun vs H Q E h => ?_) (fun cdv A outer s H vs Q E hr h => ?_)
  · obtain ⟨b, rfl, _⟩ := h
    rfl
  · obtain ⟨b, rfl, B, q⟩ := h
    -- slots box=0 text=1 k=2 change=3 at=4
    refine ⟨_, (C8.pss_cut (ps_if (pt_cmpR op_eq (pe_call (okLawDraw T) (hr.mono (by decide)) (by rfl) T.gLawDraw T.FLawDraw.kp T.bLawDraw .nil pass0 (pa_cons (pv 0) (pa_cons pe_int pa_nil))) pe_int (nomark _))
          (pss_cons (ps_set (i := 1) scLawText.nd rfl (Or.inl rfl) pe_str)
          (pss_cons (ps_for PassesOwn.never rfl (pi_range1 rfl T.z_range (pa_cons (pe_call (okLawDraw T) (hr.mono (by decide)) (by rfl) T.gLawDraw T.FLawDraw.kp T.bLawDraw .nil pass0 (pa_cons (pv 0) (pa_cons pe_int pa_nil))) pa_nil)) (pg_name (i := 2) scLawText.nd rfl (Or.inl rfl))
            (pss_one (ps_set (i := 1) scLawText.nd rfl (Or.inl rfl) (pe_op op_add_str (pv 1) (pe_call (okLawAny T) (hr.mono (by decide)) (by rfl) T.gLawAny T.FLawAny.kp T.bLawAny .nil pass0 (pa_cons (pv 0) pa_nil))))))
          (pss_one (ps_ret (pv 1)))))
          pss_nil)
        (pss_cons (ps_set (i := 1) scLawText.nd rfl (Or.inl rfl) (pe_ix ix_list (pe_lst (pa_cons pe_str (pa_cons pe_str (pa_cons pe_str (pa_cons pe_str (pa_cons pe_str pa_nil)))))) (pe_call (okLawDraw T) (hr.mono (by decide)) (by rfl) T.gLawDraw T.FLawDraw.kp T.bLawDraw .nil pass0 (pa_cons (pv 0) (pa_cons pe_int pa_nil))) (fun _ _ => rfl)))
        (pss_cons (ps_set (i := 1) scLawText.nd rfl (Or.inl rfl) (pe_op op_add_str (pe_op op_add_str (pv 1) (pe_op op_mul_str pe_str (pe_call (okLawDraw T) (hr.mono (by decide)) (by rfl) T.gLawDraw T.FLawDraw.kp T.bLawDraw .nil pass0 (pa_cons (pv 0) (pa_cons pe_int pa_nil))))) (pe_call (okLawDigitText T) (hr.mono (by decide)) (by rfl) T.gLawDigitText T.FLawDigitText.kp T.bLawDigitText .nil pass0 (pa_cons (pv 0) (pa_cons (pe_ix ix_list (pe_lst (pa_cons pe_int (pa_cons pe_int (pa_cons pe_int (pa_cons pe_int (pa_cons pe_int (pa_cons pe_int (pa_cons pe_int pa_nil)))))))) (pe_call (okLawDraw T) (hr.mono (by decide)) (by rfl) T.gLawDraw T.FLawDraw.kp T.bLawDraw .nil pass0 (pa_cons (pv 0) (pa_cons pe_int pa_nil))) (fun _ _ => rfl)) pa_nil)))))
        (C8.pss_cut (ps_if (pt_cmpR op_eq (pe_call (okLawDraw T) (hr.mono (by decide)) (by rfl) T.gLawDraw T.FLawDraw.kp T.bLawDraw .nil pass0 (pa_cons (pv 0) (pa_cons pe_int pa_nil))) pe_int (nomark _))
          (pss_one (ps_set (i := 1) scLawText.nd rfl (Or.inl rfl) (pe_op op_add_str (pe_op op_add_str (pe_op op_add_str (pv 1) pe_str) (pe_call (okLawDigitText T) (hr.mono (by decide)) (by rfl) T.gLawDigitText T.FLawDigitText.kp T.bLawDigitText .nil pass0 (pa_cons (pv 0) (pa_cons (pe_call (okLawDraw T) (hr.mono (by decide)) (by rfl) T.gLawDraw T.FLawDraw.kp T.bLawDraw .nil pass0 (pa_cons (pv 0) (pa_cons pe_int pa_nil))) pa_nil)))) (pe_op op_mul_str pe_str (pe_call (okLawDraw T) (hr.mono (by decide)) (by rfl) T.gLawDraw T.FLawDraw.kp T.bLawDraw .nil pass0 (pa_cons (pv 0) (pa_cons pe_int pa_nil)))))))
          pss_nil)
        (pss_cons (ps_set (i := 3) scLawText.nd rfl (Or.inl rfl) (pe_call (okLawDraw T) (hr.mono (by decide)) (by rfl) T.gLawDraw T.FLawDraw.kp T.bLawDraw .nil pass0 (pa_cons (pv 0) (pa_cons pe_int pa_nil))))
        (pss_cons (ps_set (i := 4) scLawText.nd rfl (Or.inl rfl) (pe_call (okLawDraw T) (hr.mono (by decide)) (by rfl) T.gLawDraw T.FLawDraw.kp T.bLawDraw .nil pass0 (pa_cons (pv 0) (pa_cons (pe_op op_add (pe_callB call_len_str (by rfl) T.z_len PySem.boot_len (pa_cons (pv 1) pa_nil)) pe_int) pa_nil))))
        (C8.pss_cut (ps_if (pt_cmpR op_eq (pv 3) pe_int (nomark _))
          (pss_one (ps_set (i := 1) scLawText.nd rfl (Or.inl rfl) (pe_op op_add_str (pe_op op_add_str (pe_slice C8.sl_txt (pv 1) po_none (po_some (pv 4))) (pe_call (okLawAny T) (hr.mono (by decide)) (by rfl) T.gLawAny T.FLawAny.kp T.bLawAny .nil pass0 (pa_cons (pv 0) pa_nil))) (pe_slice C8.sl_txt (pv 1) (po_some (pv 4)) po_none))))
          pss_nil)
        (C8.pss_cut (ps_if (pt_cmpR op_eq (pv 3) pe_int (nomark _))
          (pss_one (ps_set (i := 1) scLawText.nd rfl (Or.inl rfl) (pe_op op_add_str (pe_slice C8.sl_txt (pv 1) po_none (po_some (pv 4))) (pe_slice C8.sl_txt (pv 1) (po_some (pe_op op_add (pv 4) pe_int)) po_none))))
          pss_nil)
        (pss_one (ps_ret (pv 1))))))))))), ?_⟩
    refine ⟨fun σ H' => σ = [some (.ref b), none, none, none, none] ∧ Box H' b ∧ Kp b H H', ?_, ?_⟩
    · refine ⟨_, rfl, b, 8, rfl, by decide, B, fun y H1 y0 y1 B1 w1 => ⟨rfl, _, rfl, ite2 (fun _ => ?_) (fun _ => ⟨rfl, B1, w1⟩)⟩⟩
      refine ⟨_, rfl, b, 7, rfl, by decide, B1, fun m H2 m0 m1 B2 w2 => ?_⟩
      obtain ⟨m, rfl⟩ := Int.eq_ofNat_of_zero_le m0
      refine ⟨_, rfl, by omega, by omega, for_range (lo := 0) (n := m) (fun i σ H' => ∃ (t : List Nat) (c2 : Option V), σ = [some (.ref b), some (.str (S t)), c2, none, none] ∧ t.length ≤ i ∧ Box H' b ∧ Kp b H H') ⟨[], none, by rw [← emp_S]; rfl, by decide, B2, w1.trans w2⟩ ?_ ?_⟩
      · rintro i σ H3 hi ⟨t, c2, rfl, ht, B3, w3⟩
        refine ⟨_, rfl, _, rfl, b, rfl, B3, fun c H4 B4 w4 => ?_⟩
        refine ⟨S t, S [c], rfl, rfl, len_add (by omega) (by simp), t ++ [c], some (.int (0 + (i : Int))), ?_, by rw [List.length_append]; simp; omega, B4, w3.trans w4⟩
        rw [S_cat]
        rfl
      · rintro σ H3 ⟨t, c2, rfl, ht, B3, w3⟩
        exact ⟨_, rfl, q t H3 (by omega) B3 w3⟩
    rintro σ H1 ⟨rfl, B1, w1⟩
    -- text = [..][draw]
    refine ⟨(by show 5 ≤ sizeLine; decide), fun l hl => ?_⟩
    refine ⟨_, rfl, b, 5, rfl, by decide, B1.same (same_new hl), fun k H2 k0 k1 B2 w2 => ?_⟩
    have nb : l ≠ b := fun z => by
      obtain ⟨_, _, _, hb, _, _⟩ := B1
      rw [z, hb] at hl
      cases hl
    obtain ⟨t0, ht0, e0⟩ := item_by V.str (xs := ["", "-", "", "-", "--"]) k0 (by show k < 5; exact k1)
    refine ⟨l, _, _, _, rfl, rfl, SqL.of (w2 _ _ nb upd_same), e0, ?_⟩
    obtain ⟨t0, rfl, z0⟩ : ∃ u : List Nat, t0 = S u ∧ u.length ≤ 2 := by
      simp only [List.mem_cons, List.not_mem_nil, or_false] at ht0
      rcases ht0 with rfl | rfl | rfl | rfl | rfl
      · exact ⟨[], emp_S, by decide⟩
      · exact ⟨[45], minus_S, by decide⟩
      · exact ⟨[], emp_S, by decide⟩
      · exact ⟨[45], minus_S, by decide⟩
      · exact ⟨[45, 45], by decide +kernel, by decide⟩
    have w2' := (w1.trans (Kp.of (same_new (o := .lst [.str "", .str "-", .str "", .str "-", .str "--"]) hl))).trans w2
    -- text + '0' * draw + digits
    refine ⟨_, rfl, _, rfl, b, 3, rfl, by decide, B2, fun k3 H3 f0 f1 B3 w3 => ?_⟩
    obtain ⟨mk, t1, e1, z1⟩ := zeros_ok f0 f1
    refine ⟨_, _, rfl, rfl, mk, ?_⟩
    rw [e1]
    refine ⟨S t0, S t1, rfl, rfl, len_add (by omega) (by omega), ?_⟩
    rw [S_cat]
    refine ⟨_, rfl, (by show 7 ≤ sizeLine; decide), fun l2 hl2 => ?_⟩
    refine ⟨_, rfl, b, 7, rfl, by decide, B3.same (same_new hl2), fun k4 H4 g0 g1 B4 w4 => ?_⟩
    have nb2 : l2 ≠ b := fun z => by
      obtain ⟨_, _, _, hb, _, _⟩ := B3
      rw [z, hb] at hl2
      cases hl2
    obtain ⟨m, hm, em⟩ := item_by V.int (xs := [1, 2, 3, 11, 12, 13, 0]) g0 (by show k4 < 7; exact g1)
    have m13 : 0 ≤ m ∧ m ≤ 13 := by
      simp only [List.mem_cons, List.not_mem_nil, or_false] at hm
      omega
    refine ⟨l2, _, _, _, rfl, rfl, SqL.of (w4 _ _ nb2 upd_same), em, b, m, rfl, m13.1, by omega, B4, fun t2 H5 z2 B5 w5 => ?_⟩
    refine ⟨S (t0 ++ t1), S t2, rfl, rfl, len_add (by rw [List.length_append]; omega) (by omega), ?_⟩
    rw [S_cat]
    have w5' := (((w2'.trans w3).trans (Kp.of (same_new (o := .lst [.int 1, .int 2, .int 3, .int 11, .int 12, .int 13, .int 0]) hl2))).trans w4).trans w5
    have z3 : (t0 ++ t1 ++ t2).length ≤ 20 := by
      rw [List.length_append, List.length_append]
      omega
    generalize t0 ++ t1 ++ t2 = t at z3
    -- a point
    refine ⟨fun σ H' => ∃ t : List Nat, σ = [some (.ref b), some (.str (S t)), none, none, none] ∧ t.length ≤ 50 ∧ Box H' b ∧ Kp b H H', ?_, ?_⟩
    · refine ⟨_, rfl, b, 2, rfl, by decide, B5, fun y H6 y0 y1 B6 w6 => ⟨rfl, _, rfl, ite2 (fun _ => ?_) (fun _ => ⟨t, rfl, by omega, B6, w5'.trans w6⟩)⟩⟩
      refine ⟨_, rfl, S t, S [46], rfl, congrArg V.str pt_S, len_add (by omega) (by simp), ?_⟩
      rw [S_cat]
      refine ⟨_, rfl, _, rfl, b, 8, rfl, by decide, B6, fun k6 H7 h0 h1 B7 w7 => ⟨b, k6, rfl, h0, by omega, B7, fun t6 H8 z6 B8 w8 => ?_⟩⟩
      refine ⟨S (t ++ [46]), S t6, rfl, rfl, len_add (by rw [List.length_append]; simp; omega) (by omega), ?_⟩
      rw [S_cat]
      refine ⟨_, rfl, b, 2, rfl, by decide, B8, fun k8 H9 i0 i1 B9 w9 => ?_⟩
      obtain ⟨mk9, t9, e9, z9⟩ := zeros_ok i0 (show k8 < 3 by omega)
      refine ⟨_, _, rfl, rfl, mk9, ?_⟩
      rw [e9]
      refine ⟨S (t ++ [46] ++ t6), S t9, rfl, rfl, len_add (by rw [List.length_append, List.length_append]; simp; omega) (by omega), ?_⟩
      rw [S_cat]
      refine ⟨t ++ [46] ++ t6 ++ t9, rfl, ?_, B9, (((w5'.trans w6).trans w7).trans w8).trans w9⟩
      rw [List.length_append, List.length_append, List.length_append]
      simp only [List.length_singleton]
      omega
    clear z3
    rintro σ H6 ⟨t, rfl, zt, B6, w6⟩
    -- change, at
    refine ⟨_, rfl, b, 6, rfl, by decide, B6, fun ch H7 c0 c1 B7 w7 => ?_⟩
    refine ⟨_, rfl, _, rfl, S t, rfl, by rw [S_len]; exact sz100 (by omega), _, _, rfl, rfl, b, _, rfl, by rw [S_len]; omega, B7, fun n H8 n0 n1 B8 w8 => ?_⟩
    obtain ⟨n, rfl⟩ := Int.eq_ofNat_of_zero_le n0
    have w8' := (w6.trans w7).trans w8
    refine ⟨fun σ H' => ∃ t : List Nat, σ = [some (.ref b), some (.str (S t)), none, some (.int ch), some (.int (n : Int))] ∧ t.length ≤ 60 ∧ Box H' b ∧ Kp b H H', ?_, ?_⟩
    · refine ⟨_, rfl, rfl, _, rfl, ite2 (fun _ => ?_) (fun _ => ⟨t, rfl, by omega, B8, w8'⟩)⟩
      refine ⟨_, rfl, _, rfl, _, rfl, S t, rfl, by rw [S_len]; exact sz100 (by omega), ?_⟩
      rw [slice_to (by omega)]
      refine ⟨_, rfl, b, rfl, B8, fun c H9 B9 w9 => ?_⟩
      refine ⟨S (t.take (n : Int).toNat), S [c], rfl, rfl, len_add (by rw [List.length_take]; omega) (by simp), ?_⟩
      rw [S_cat]
      refine ⟨_, rfl, _, rfl, _, rfl, S t, rfl, by rw [S_len]; exact sz100 (by omega), ?_⟩
      rw [slice_from (by omega)]
      refine ⟨S (t.take (n : Int).toNat ++ [c]), S (t.drop (n : Int).toNat), rfl, rfl, len_add (by rw [List.length_append, List.length_take]; simp; omega) (by rw [List.length_drop]; omega), ?_⟩
      rw [S_cat]
      refine ⟨_, rfl, ?_, B9, w8'.trans w9⟩
      rw [List.length_append, List.length_append, List.length_take, List.length_drop]
      simp only [List.length_singleton]
      omega
    clear zt
    rintro σ H9 ⟨t, rfl, zt, B9, w9⟩
    refine ⟨fun σ H' => ∃ t : List Nat, σ = [some (.ref b), some (.str (S t)), none, some (.int ch), some (.int (n : Int))] ∧ t.length ≤ 200 ∧ H' = H9, ?_, ?_⟩
    · refine ⟨_, rfl, rfl, _, rfl, ite2 (fun _ => ?_) (fun _ => ⟨t, rfl, by omega, rfl⟩)⟩
      refine ⟨_, rfl, _, rfl, _, rfl, S t, rfl, by rw [S_len]; exact sz100 (by omega), ?_⟩
      rw [slice_to (by omega)]
      refine ⟨_, rfl, _, rfl, _, _, rfl, rfl, _, rfl, S t, rfl, by rw [S_len]; exact sz100 (by omega), ?_⟩
      have e3 : Txt.slice (S t) (some ((n : Int) + 1)) none = S (t.drop (n + 1)) := slice_from (by omega)
      rw [e3]
      refine ⟨S (t.take (n : Int).toNat), S (t.drop (n + 1)), rfl, rfl, len_add (by rw [List.length_take]; omega) (by rw [List.length_drop]; omega), ?_⟩
      rw [S_cat]
      refine ⟨_, rfl, ?_, rfl⟩
      rw [List.length_append, List.length_take, List.length_drop]
      omega
    rintro σ H10 ⟨t, rfl, zt, rfl⟩
    exact ⟨_, rfl, q t _ zt B9 w9⟩
theorem lk_pair {H : Hp} {p p2 : Addr} {x y : Int} (h1 : H p = some (.tup [.int x, .int y])) (h2 : H p2 = some (.tup [.int x, .int y])) : Lk H 1 (.ref p) (.ref p2) := by
  refine .inr (.inl ⟨p, p2, _, _, rfl, rfl, h1, h2, rfl, by show 2 ≤ 100000; decide, fun i u v e1 e2 => ?_⟩)
  rw [e1] at e2
  cases e2
  rcases i with _ | _ | i
  · cases e1
    exact ⟨rfl, trivial⟩
  · cases e1
    exact ⟨rfl, trivial⟩
  · cases e1
def spLaw (K : PySem.W.Frag) : Sp := fun vs H Q _ => ∃ (a : Addr) (ns : List Int), vs = [.ref a] ∧ SqL K H a (ns.map V.int) ∧ ns.length ≤ 63 ∧ ∀ H', Q (.bl true) H'
theorem okLaw (T : Txt K mg) : FnOk P w K mg base CX0 5 T.fLaw T.fdLaw ["script"] (spLaw K) := by
  refine T.FLaw.ok scLaw (fun vs H Q E h => ?_) (fun cdv A outer s H vs Q E hr h => ?_)
  · obtain ⟨a, ns, rfl, _⟩ := h
    rfl
  · obtain ⟨a, ns, rfl, hS, hlen, q⟩ := h
    -- slots script=0 box=1 turn=2 text=3
    refine ⟨_, (pss_cons (ps_set (i := 1) scLaw.nd rfl (Or.inl rfl) (pe_lst (pa_cons (pe_call (okLawDigits T) (hr.mono (by decide)) (by rfl) T.gLawDigits T.FLawDigits.kp T.bLawDigits .nil pass0 (pa_cons (pv 0) (pa_cons pe_int (pa_cons pe_int pa_nil)))) (pa_cons pe_int pa_nil))))
        (pss_cons (ps_for PassesOwn.never rfl (pi_range1 rfl T.z_range (pa_cons pe_int pa_nil)) (pg_name (i := 2) scLaw.nd rfl (Or.inl rfl))
          (pss_cons (ps_set (i := 3) scLaw.nd rfl (Or.inl rfl) (pe_call (okLawText T) (hr.mono (by decide)) (by rfl) T.gLawText T.FLawText.kp T.bLawText .nil pass0 (pa_cons (pv 1) pa_nil)))
          (C8.pss_cut (ps_if (pt_not (pt_val (pe_call (okLawSame T 1) (hr.mono (by decide)) (by rfl) T.gLawSame T.FLawSame.kp T.bLawSame .nil pass0 (pa_cons (pe_call (okReadDecimal T) (hr.mono (by decide)) (by rfl) T.gReadDecimal T.FReadDecimal.kp T.bReadDecimal .nil pass0 (pa_cons (pv 3) pa_nil)) (pa_cons (pe_call (okLawOwnDecimal T) (hr.mono (by decide)) (by rfl) T.gLawOwnDecimal T.FLawOwnDecimal.kp T.bLawOwnDecimal .nil pass0 (pa_cons (pv 3) pa_nil)) pa_nil)))))
            (pss_one (ps_ret pe_bl))
            pss_nil)
          (pss_one (ps_if (pt_not (pt_val (pe_call (okLawSame T 1) (hr.mono (by decide)) (by rfl) T.gLawSame T.FLawSame.kp T.bLawSame .nil pass0 (pa_cons (pe_call (okReadNumber T) (hr.mono (by decide)) (by rfl) T.gReadNumber T.FReadNumber.kp T.bReadNumber .nil pass0 (pa_cons (pv 3) pa_nil)) (pa_cons (pe_call (okLawOwnNumber T) (hr.mono (by decide)) (by rfl) T.gLawOwnNumber T.FLawOwnNumber.kp T.bLawOwnNumber .nil pass0 (pa_cons (pv 3) pa_nil)) pa_nil)))))
            (pss_one (ps_ret pe_bl))
            pss_nil)))))
        (pss_one (ps_ret pe_bl)))), ?_⟩
    refine ⟨_, rfl, a, ns, 0, 63, rfl, by decide, by decide, hS, fun H1 d0 ds s1 hdn hd0 _ => ⟨by show 2 ≤ sizeLine; decide, fun b hb => ?_⟩⟩
    have hb2 : b ≠ d0 := fun z => by
      rw [z, hd0] at hb
      cases hb
    have B0 : Box (upd H1 b (.lst [.ref d0, .int 0])) b := ⟨d0, ds, 0, upd_same, by rw [upd_ne hb2.symm]; exact hd0, hb2⟩
    refine ⟨3, rfl, by decide, by decide, for_range (lo := 0) (n := 3) (fun i σ H' => ∃ c2 c3, σ = [some (.ref a), some (.ref b), c2, c3] ∧ Box H' b) ⟨_, _, rfl, B0⟩ ?_ (fun σ H' _ => q _)⟩
    rintro i σ H2 hi ⟨c2, c3, rfl, B2⟩
    refine ⟨_, rfl, b, rfl, B2, fun t H3 zt B3 _ => ?_⟩
    -- read_decimal
    refine ⟨fun σ H' => σ = [some (.ref a), some (.ref b), some (.int (0 + (i : Int))), some (.str (S t))] ∧ Box H' b, ?_, ?_⟩
    · refine ⟨_, rfl, t, rfl, by omega, fun h1 H4 s4 => ?_, fun h1 p x y H4 s4 hp L => ?_⟩
      · refine ⟨_, rfl, t, rfl, by omega, fun h2 H5 s5 => ?_, fun h2 p2 x2 y2 H5 s5 hp2 L2 => absurd h2 h1⟩
        exact ⟨_, _, rfl, .inl ⟨rfl, trivial⟩, _, rfl, iteF ⟨rfl, (B3.same s4).same s5⟩⟩
      · refine ⟨_, rfl, t, rfl, by omega, fun h2 H5 s5 => absurd h1 h2, fun h2 p2 x2 y2 H5 s5 hp2 L2 => ?_⟩
        obtain ⟨rfl, rfl⟩ := lw_one (denD_ne _) L L2
        exact ⟨_, _, rfl, lk_pair (s5 _ _ hp) hp2, _, rfl, iteF ⟨rfl, (B3.same s4).same s5⟩⟩
    rintro σ H4 ⟨rfl, B4⟩
    refine ⟨_, rfl, t, rfl, by omega, fun h1 H5 s5 => ?_, fun h1 p x y H5 s5 hp L => ?_⟩
    · refine ⟨_, rfl, t, rfl, by omega, fun h2 H6 s6 => ?_, fun h2 p2 x2 y2 H6 s6 hp2 L2 => absurd h2 h1⟩
      exact ⟨_, _, rfl, .inl ⟨rfl, trivial⟩, _, rfl, iteF ⟨_, _, rfl, (B4.same s5).same s6⟩⟩
    · refine ⟨_, rfl, t, rfl, by omega, fun h2 H6 s6 => absurd h1 h2, fun h2 p2 x2 y2 H6 s6 hp2 L2 => ?_⟩
      obtain ⟨rfl, rfl⟩ := lw_one (denD_ne _) L L2
      exact ⟨_, _, rfl, lk_pair (s6 _ _ hp) hp2, _, rfl, iteF ⟨_, _, rfl, (B4.same s5).same s6⟩⟩
end
set_option maxHeartbeats 0 in
theorem all_mk {l : PySem.W.OpenLaw} {w : World} {K : PySem.W.Frag} {h : Heap} {mg : Str → Option Value} {fa f1 f2 f3 f4 f5 f6 f7 f8 f9 f10 f11 f12 f13 f14 f15 f16 f17 : Addr} {t_DIGITS : Nat} {t_MOST_BEFORE_POINT : Nat} {t_MOST_BEHIND_POINT : Nat} {t_PARTS : Nat} (X : K.In h) (G : h.Ns mainGlobals mg) (hfa : mg "law" = some (.ref fa))
    {od1 an1 od2 an2 od3 an3 od4 an4 od5 an5 od6 an6 od7 an7 od8 an8 od9 an9 od10 an10 od11 an11 od12 an12 od13 an13 od14 an14 od15 an15 od16 an16 od17 an17 : Option Addr} {sl1 sl2 sl3 sl4 sl5 sl6 sl7 sl8 sl9 sl10 sl11 sl12 sl13 sl14 sl15 sl16 sl17 : Array (Option Value)} {oc1 kV1 dc1 pm1 cd1 ct1 oc2 kV2 dc2 pm2 cd2 ct2 oc3 kV3 dc3 pm3 cd3 ct3 oc4 kV4 dc4 pm4 cd4 ct4 oc5 kV5 dc5 pm5 cd5 ct5 oc6 kV6 dc6 pm6 cd6 ct6 oc7 kV7 dc7 pm7 cd7 ct7 oc8 kV8 dc8 pm8 cd8 ct8 oc9 kV9 dc9 pm9 cd9 ct9 oc10 kV10 dc10 pm10 cd10 ct10 oc11 kV11 dc11 pm11 cd11 ct11 oc12 kV12 dc12 pm12 cd12 ct12 oc13 kV13 dc13 pm13 cd13 ct13 oc14 kV14 dc14 pm14 cd14 ct14 oc15 kV15 dc15 pm15 cd15 ct15 oc16 kV16 dc16 pm16 cd16 ct16 oc17 kV17 dc17 pm17 cd17 ct17 : Value}
    (a1 : PySem.W.nsIn K mainGlobals "fraction" = some (some (.ref f1))) (l1 : K.lookup f1 = some ⟨oc1, od1, .func (PySem.W.fnOf "fraction" "fraction" (defArgs sFraction) (defBody sFraction) (defScope sFraction) .none kV1 dc1 pm1 an1 cd1 ct1), sl1⟩) (c1 : PySem.W.codeIn K cd1 "fraction" = true) (k1 : PySem.W.keepIn K (.ref f1) = true)
    (a2 : PySem.W.nsIn K mainGlobals "_is_digits" = some (some (.ref f2))) (l2 : K.lookup f2 = some ⟨oc2, od2, .func (PySem.W.fnOf "_is_digits" "_is_digits" (defArgs sIsDigits) (defBody sIsDigits) (defScope sIsDigits) .none kV2 dc2 pm2 an2 cd2 ct2), sl2⟩) (c2 : PySem.W.codeIn K cd2 "_is_digits" = true) (k2 : PySem.W.keepIn K (.ref f2) = true)
    (a3 : PySem.W.nsIn K mainGlobals "read_decimal" = some (some (.ref f3))) (l3 : K.lookup f3 = some ⟨oc3, od3, .func (PySem.W.fnOf "read_decimal" "read_decimal" (defArgs sReadDecimal) (defBody sReadDecimal) (defScope sReadDecimal) .none kV3 dc3 pm3 an3 cd3 ct3), sl3⟩) (c3 : PySem.W.codeIn K cd3 "read_decimal" = true) (k3 : PySem.W.keepIn K (.ref f3) = true)
    (a4 : PySem.W.nsIn K mainGlobals "read_number" = some (some (.ref f4))) (l4 : K.lookup f4 = some ⟨oc4, od4, .func (PySem.W.fnOf "read_number" "read_number" (defArgs sReadNumber) (defBody sReadNumber) (defScope sReadNumber) .none kV4 dc4 pm4 an4 cd4 ct4), sl4⟩) (c4 : PySem.W.codeIn K cd4 "read_number" = true) (k4 : PySem.W.keepIn K (.ref f4) = true)
    (a5 : PySem.W.nsIn K mainGlobals "_law_cell" = some (some (.ref f5))) (l5 : K.lookup f5 = some ⟨oc5, od5, .func (PySem.W.fnOf "_law_cell" "_law_cell" (defArgs sLawCell) (defBody sLawCell) (defScope sLawCell) .none kV5 dc5 pm5 an5 cd5 ct5), sl5⟩) (c5 : PySem.W.codeIn K cd5 "_law_cell" = true) (k5 : PySem.W.keepIn K (.ref f5) = true)
    (a6 : PySem.W.nsIn K mainGlobals "_law_digits" = some (some (.ref f6))) (l6 : K.lookup f6 = some ⟨oc6, od6, .func (PySem.W.fnOf "_law_digits" "_law_digits" (defArgs sLawDigits) (defBody sLawDigits) (defScope sLawDigits) .none kV6 dc6 pm6 an6 cd6 ct6), sl6⟩) (c6 : PySem.W.codeIn K cd6 "_law_digits" = true) (k6 : PySem.W.keepIn K (.ref f6) = true)
    (a7 : PySem.W.nsIn K mainGlobals "_law_draw" = some (some (.ref f7))) (l7 : K.lookup f7 = some ⟨oc7, od7, .func (PySem.W.fnOf "_law_draw" "_law_draw" (defArgs sLawDraw) (defBody sLawDraw) (defScope sLawDraw) .none kV7 dc7 pm7 an7 cd7 ct7), sl7⟩) (c7 : PySem.W.codeIn K cd7 "_law_draw" = true) (k7 : PySem.W.keepIn K (.ref f7) = true)
    (a8 : PySem.W.nsIn K mainGlobals "_law_gcd" = some (some (.ref f8))) (l8 : K.lookup f8 = some ⟨oc8, od8, .func (PySem.W.fnOf "_law_gcd" "_law_gcd" (defArgs sLawGcd) (defBody sLawGcd) (defScope sLawGcd) .none kV8 dc8 pm8 an8 cd8 ct8), sl8⟩) (c8 : PySem.W.codeIn K cd8 "_law_gcd" = true) (k8 : PySem.W.keepIn K (.ref f8) = true)
    (a9 : PySem.W.nsIn K mainGlobals "_law_lowest" = some (some (.ref f9))) (l9 : K.lookup f9 = some ⟨oc9, od9, .func (PySem.W.fnOf "_law_lowest" "_law_lowest" (defArgs sLawLowest) (defBody sLawLowest) (defScope sLawLowest) .none kV9 dc9 pm9 an9 cd9 ct9), sl9⟩) (c9 : PySem.W.codeIn K cd9 "_law_lowest" = true) (k9 : PySem.W.keepIn K (.ref f9) = true)
    (a10 : PySem.W.nsIn K mainGlobals "_law_same" = some (some (.ref f10))) (l10 : K.lookup f10 = some ⟨oc10, od10, .func (PySem.W.fnOf "_law_same" "_law_same" (defArgs sLawSame) (defBody sLawSame) (defScope sLawSame) .none kV10 dc10 pm10 an10 cd10 ct10), sl10⟩) (c10 : PySem.W.codeIn K cd10 "_law_same" = true) (k10 : PySem.W.keepIn K (.ref f10) = true)
    (a11 : PySem.W.nsIn K mainGlobals "_law_all_digits" = some (some (.ref f11))) (l11 : K.lookup f11 = some ⟨oc11, od11, .func (PySem.W.fnOf "_law_all_digits" "_law_all_digits" (defArgs sLawAllDigits) (defBody sLawAllDigits) (defScope sLawAllDigits) .none kV11 dc11 pm11 an11 cd11 ct11), sl11⟩) (c11 : PySem.W.codeIn K cd11 "_law_all_digits" = true) (k11 : PySem.W.keepIn K (.ref f11) = true)
    (a12 : PySem.W.nsIn K mainGlobals "_law_own_decimal" = some (some (.ref f12))) (l12 : K.lookup f12 = some ⟨oc12, od12, .func (PySem.W.fnOf "_law_own_decimal" "_law_own_decimal" (defArgs sLawOwnDecimal) (defBody sLawOwnDecimal) (defScope sLawOwnDecimal) .none kV12 dc12 pm12 an12 cd12 ct12), sl12⟩) (c12 : PySem.W.codeIn K cd12 "_law_own_decimal" = true) (k12 : PySem.W.keepIn K (.ref f12) = true)
    (a13 : PySem.W.nsIn K mainGlobals "_law_own_number" = some (some (.ref f13))) (l13 : K.lookup f13 = some ⟨oc13, od13, .func (PySem.W.fnOf "_law_own_number" "_law_own_number" (defArgs sLawOwnNumber) (defBody sLawOwnNumber) (defScope sLawOwnNumber) .none kV13 dc13 pm13 an13 cd13 ct13), sl13⟩) (c13 : PySem.W.codeIn K cd13 "_law_own_number" = true) (k13 : PySem.W.keepIn K (.ref f13) = true)
    (a14 : PySem.W.nsIn K mainGlobals "_law_digit_text" = some (some (.ref f14))) (l14 : K.lookup f14 = some ⟨oc14, od14, .func (PySem.W.fnOf "_law_digit_text" "_law_digit_text" (defArgs sLawDigitText) (defBody sLawDigitText) (defScope sLawDigitText) .none kV14 dc14 pm14 an14 cd14 ct14), sl14⟩) (c14 : PySem.W.codeIn K cd14 "_law_digit_text" = true) (k14 : PySem.W.keepIn K (.ref f14) = true)
    (a15 : PySem.W.nsIn K mainGlobals "_law_any" = some (some (.ref f15))) (l15 : K.lookup f15 = some ⟨oc15, od15, .func (PySem.W.fnOf "_law_any" "_law_any" (defArgs sLawAny) (defBody sLawAny) (defScope sLawAny) .none kV15 dc15 pm15 an15 cd15 ct15), sl15⟩) (c15 : PySem.W.codeIn K cd15 "_law_any" = true) (k15 : PySem.W.keepIn K (.ref f15) = true)
    (a16 : PySem.W.nsIn K mainGlobals "_law_text" = some (some (.ref f16))) (l16 : K.lookup f16 = some ⟨oc16, od16, .func (PySem.W.fnOf "_law_text" "_law_text" (defArgs sLawText) (defBody sLawText) (defScope sLawText) .none kV16 dc16 pm16 an16 cd16 ct16), sl16⟩) (c16 : PySem.W.codeIn K cd16 "_law_text" = true) (k16 : PySem.W.keepIn K (.ref f16) = true)
    (a17 : PySem.W.nsIn K mainGlobals "law" = some (some (.ref f17))) (l17 : K.lookup f17 = some ⟨oc17, od17, .func (PySem.W.fnOf "law" "law" (defArgs sLaw) (defBody sLaw) (defScope sLaw) .none kV17 dc17 pm17 an17 cd17 ct17), sl17⟩) (c17 : PySem.W.codeIn K cd17 "law" = true) (k17 : PySem.W.keepIn K (.ref f17) = true)
    (z_range : PySem.W.nsIn K mainGlobals "range" = some none)
    (z_abs : PySem.W.nsIn K mainGlobals "abs" = some none)
    (z_isinstance : PySem.W.nsIn K mainGlobals "isinstance" = some none)
    (z_bool : PySem.W.nsIn K mainGlobals "bool" = some none)
    (z_str : PySem.W.nsIn K mainGlobals "str" = some none)
    (z_all : PySem.W.nsIn K mainGlobals "all" = some none)
    (z_int : PySem.W.nsIn K mainGlobals "int" = some none)
    (z_len : PySem.W.nsIn K mainGlobals "len" = some none)
    (z_list : PySem.W.nsIn K mainGlobals "list" = some none)
    (z_tuple : PySem.W.nsIn K mainGlobals "tuple" = some none)
    (x_gcd : PySem.W.nsIn K mainGlobals "gcd" = some (some (.builtin "math.gcd")))
    (x_DIGITS : PySem.W.nsIn K mainGlobals "DIGITS" = some (some (.str "0123456789" t_DIGITS)))
    (x_MOST_BEFORE_POINT : PySem.W.nsIn K mainGlobals "MOST_BEFORE_POINT" = some (some (.int 12 t_MOST_BEFORE_POINT)))
    (x_MOST_BEHIND_POINT : PySem.W.nsIn K mainGlobals "MOST_BEHIND_POINT" = some (some (.int 6 t_MOST_BEHIND_POINT)))
    (x_PARTS : PySem.W.nsIn K mainGlobals "PARTS" = some (some (.int 1000000 t_PARTS)))
    : ∃ fd : FuncData, (∀ (s : Shared) (v : Value), BindsTo s fd ⟨[v], []⟩ [("script", v)]) ∧ ∀ base : Heap, K.In base → base.Ns mainGlobals mg → FnOk l.prog w K mg base CX0 5 fa fd ["script"] (spLaw K) := by
  have e := hfa.symm.trans (PySem.W.mg_of X G a17)
  cases e
  have F1 := fun_mk (st := sFraction) l1 c1 k1
  have b1 := F1.binds (ps := ["n", "d"]) fun _ _ _ _ _ _ us hl => match us, hl with | [_, _], _ => rfl
  have F2 := fun_mk (st := sIsDigits) l2 c2 k2
  have b2 := F2.binds (ps := ["text"]) fun _ _ _ _ _ _ us hl => match us, hl with | [_], _ => rfl
  have F3 := fun_mk (st := sReadDecimal) l3 c3 k3
  have b3 := F3.binds (ps := ["text"]) fun _ _ _ _ _ _ us hl => match us, hl with | [_], _ => rfl
  have F4 := fun_mk (st := sReadNumber) l4 c4 k4
  have b4 := F4.binds (ps := ["text"]) fun _ _ _ _ _ _ us hl => match us, hl with | [_], _ => rfl
  have F5 := fun_mk (st := sLawCell) l5 c5 k5
  have b5 := F5.binds (ps := ["script", "k"]) fun _ _ _ _ _ _ us hl => match us, hl with | [_, _], _ => rfl
  have F6 := fun_mk (st := sLawDigits) l6 c6 k6
  have b6 := F6.binds (ps := ["script", "first", "last"]) fun _ _ _ _ _ _ us hl => match us, hl with | [_, _, _], _ => rfl
  have F7 := fun_mk (st := sLawDraw) l7 c7 k7
  have b7 := F7.binds (ps := ["box", "many"]) fun _ _ _ _ _ _ us hl => match us, hl with | [_, _], _ => rfl
  have F8 := fun_mk (st := sLawGcd) l8 c8 k8
  have b8 := F8.binds (ps := ["a", "b"]) fun _ _ _ _ _ _ us hl => match us, hl with | [_, _], _ => rfl
  have F9 := fun_mk (st := sLawLowest) l9 c9 k9
  have b9 := F9.binds (ps := ["n", "d"]) fun _ _ _ _ _ _ us hl => match us, hl with | [_, _], _ => rfl
  have F10 := fun_mk (st := sLawSame) l10 c10 k10
  have b10 := F10.binds (ps := ["actual", "due"]) fun _ _ _ _ _ _ us hl => match us, hl with | [_, _], _ => rfl
  have F11 := fun_mk (st := sLawAllDigits) l11 c11 k11
  have b11 := F11.binds (ps := ["text"]) fun _ _ _ _ _ _ us hl => match us, hl with | [_], _ => rfl
  have F12 := fun_mk (st := sLawOwnDecimal) l12 c12 k12
  have b12 := F12.binds (ps := ["text"]) fun _ _ _ _ _ _ us hl => match us, hl with | [_], _ => rfl
  have F13 := fun_mk (st := sLawOwnNumber) l13 c13 k13
  have b13 := F13.binds (ps := ["text"]) fun _ _ _ _ _ _ us hl => match us, hl with | [_], _ => rfl
  have F14 := fun_mk (st := sLawDigitText) l14 c14 k14
  have b14 := F14.binds (ps := ["box", "many"]) fun _ _ _ _ _ _ us hl => match us, hl with | [_, _], _ => rfl
  have F15 := fun_mk (st := sLawAny) l15 c15 k15
  have b15 := F15.binds (ps := ["box"]) fun _ _ _ _ _ _ us hl => match us, hl with | [_], _ => rfl
  have F16 := fun_mk (st := sLawText) l16 c16 k16
  have b16 := F16.binds (ps := ["box"]) fun _ _ _ _ _ _ us hl => match us, hl with | [_], _ => rfl
  have F17 := fun_mk (st := sLaw) l17 c17 k17
  have b17 := F17.binds (ps := ["script"]) fun _ _ _ _ _ _ us hl => match us, hl with | [_], _ => rfl
  exact ⟨PySem.W.fnOf "law" "law" (defArgs sLaw) (defBody sLaw) (defScope sLaw) .none kV17 dc17 pm17 an17 cd17 ct17, fun s v => .of_eq rfl, fun base _ _ => okLaw (P := l.prog) (w := w) (base := base) (⟨f1, _, F1, b1, PySem.W.mg_of X G a1, f2, _, F2, b2, PySem.W.mg_of X G a2, f3, _, F3, b3, PySem.W.mg_of X G a3, f4, _, F4, b4, PySem.W.mg_of X G a4, f5, _, F5, b5, PySem.W.mg_of X G a5, f6, _, F6, b6, PySem.W.mg_of X G a6, f7, _, F7, b7, PySem.W.mg_of X G a7, f8, _, F8, b8, PySem.W.mg_of X G a8, f9, _, F9, b9, PySem.W.mg_of X G a9, f10, _, F10, b10, PySem.W.mg_of X G a10, f11, _, F11, b11, PySem.W.mg_of X G a11, f12, _, F12, b12, PySem.W.mg_of X G a12, f13, _, F13, b13, PySem.W.mg_of X G a13, f14, _, F14, b14, PySem.W.mg_of X G a14, f15, _, F15, b15, PySem.W.mg_of X G a15, f16, _, F16, b16, PySem.W.mg_of X G a16, fa, _, F17, b17, PySem.W.mg_of X G a17, PySem.W.mg_none_of X G z_range, PySem.W.mg_none_of X G z_abs, PySem.W.mg_none_of X G z_isinstance, PySem.W.mg_none_of X G z_bool, PySem.W.mg_none_of X G z_str, PySem.W.mg_none_of X G z_all, PySem.W.mg_none_of X G z_int, PySem.W.mg_none_of X G z_len, PySem.W.mg_none_of X G z_list, PySem.W.mg_none_of X G z_tuple, PySem.W.mg_of X G x_gcd, t_DIGITS, PySem.W.mg_of X G x_DIGITS, t_MOST_BEFORE_POINT, PySem.W.mg_of X G x_MOST_BEFORE_POINT, t_MOST_BEHIND_POINT, PySem.W.mg_of X G x_MOST_BEHIND_POINT, t_PARTS, PySem.W.mg_of X G x_PARTS⟩ : Txt K mg)⟩
theorem walk {l : PySem.W.OpenLaw} {q : Program} {loose : List Str} {XP : (Str → Option Value) → Heap → Prop} {YP : World → Heap → Prop} {d : DefRec} {K : Params → PySem.W.Frag} (hn : l.most = some 63) (hdf : d.params.defaults = [])
    (hY : ∀ (w : World) (h : Heap), YP w h → (K w.params).In h)
    (F : ∀ (w : World) (mg : Str → Option Value) (fa : Addr) (h : Heap), (K w.params).In h → h.Ns mainGlobals mg → mg d.name = some (.ref fa) →
      ∃ fd : FuncData, (∀ (s : Shared) (u : Value), BindsTo s fd ⟨[u], []⟩ [("script", u)]) ∧ ∀ base : Heap, (K w.params).In base → base.Ns mainGlobals mg → FnOk l.prog w (K w.params) mg base CX0 5 fa fd ["script"] (spLaw (K w.params))) :
    PySem.W.WalkO q loose XP YP l.row.toRowW d [] (fun f vs => PySem.call f vs) :=
  L2.walk_of (n := 63) (k := 5) (x := "script") (CX := fun _ => CX0) (sp := fun w => spLaw (K w.params)) hn (by decide) hdf ⟨rfl, by decide, by decide⟩ hY F (fun _ _ a ns hl _ hS => ⟨a, ns, rfl, hS, hl, fun _ => rfl⟩) fun _ _ _ _ _ z => z
end My
open PySem PySem.W PyProof.Rows
set_option maxRecDepth 100000 in
set_option maxHeartbeats 0 in
theorem PySem.Challenge.cw_tablemates_k03_number_texts_are_read_holds : PySem.Challenge.rw_tablemates_k03_number_texts_are_read.Holds := by
  w_on; o_law; k_head; (case hw => w_witness2)
  k_fill
  refine My.walk (l := PySem.Challenge.rw_tablemates_k03_number_texts_are_read) rfl rfl (fun w h Y => PySem.W.kIn_of Y) ?F
  case F =>
    intro w mg fa h KX G hmg
    refine' My.all_mk KX G hmg ?a1 ?l1 ?c1 ?k1 ?a2 ?l2 ?c2 ?k2 ?a3 ?l3 ?c3 ?k3 ?a4 ?l4 ?c4 ?k4 ?a5 ?l5 ?c5 ?k5 ?a6 ?l6 ?c6 ?k6 ?a7 ?l7 ?c7 ?k7 ?a8 ?l8 ?c8 ?k8 ?a9 ?l9 ?c9 ?k9 ?a10 ?l10 ?c10 ?k10 ?a11 ?l11 ?c11 ?k11 ?a12 ?l12 ?c12 ?k12 ?a13 ?l13 ?c13 ?k13 ?a14 ?l14 ?c14 ?k14 ?a15 ?l15 ?c15 ?k15 ?a16 ?l16 ?c16 ?k16 ?a17 ?l17 ?c17 ?k17 ?z_range ?z_abs ?z_isinstance ?z_bool ?z_str ?z_all ?z_int ?z_len ?z_list ?z_tuple ?x_gcd ?x_DIGITS ?x_MOST_BEFORE_POINT ?x_MOST_BEHIND_POINT ?x_PARTS
    (case a1 => k_is); (case l1 => k_is); (case c1 => k_is); (case k1 => k_is); (case a2 => k_is); (case l2 => k_is); (case c2 => k_is); (case k2 => k_is); (case a3 => k_is); (case l3 => k_is); (case c3 => k_is); (case k3 => k_is); (case a4 => k_is); (case l4 => k_is); (case c4 => k_is); (case k4 => k_is); (case a5 => k_is); (case l5 => k_is); (case c5 => k_is); (case k5 => k_is); (case a6 => k_is); (case l6 => k_is); (case c6 => k_is); (case k6 => k_is); (case a7 => k_is); (case l7 => k_is); (case c7 => k_is); (case k7 => k_is); (case a8 => k_is); (case l8 => k_is); (case c8 => k_is); (case k8 => k_is); (case a9 => k_is); (case l9 => k_is); (case c9 => k_is); (case k9 => k_is); (case a10 => k_is); (case l10 => k_is); (case c10 => k_is); (case k10 => k_is); (case a11 => k_is); (case l11 => k_is); (case c11 => k_is); (case k11 => k_is); (case a12 => k_is); (case l12 => k_is); (case c12 => k_is); (case k12 => k_is); (case a13 => k_is); (case l13 => k_is); (case c13 => k_is); (case k13 => k_is); (case a14 => k_is); (case l14 => k_is); (case c14 => k_is); (case k14 => k_is); (case a15 => k_is); (case l15 => k_is); (case c15 => k_is); (case k15 => k_is); (case a16 => k_is); (case l16 => k_is); (case c16 => k_is); (case k16 => k_is); (case a17 => k_is); (case l17 => k_is); (case c17 => k_is); (case k17 => k_is); (case z_range => k_is); (case z_abs => k_is); (case z_isinstance => k_is); (case z_bool => k_is); (case z_str => k_is); (case z_all => k_is); (case z_int => k_is); (case z_len => k_is); (case z_list => k_is); (case z_tuple => k_is); (case x_gcd => k_is); (case x_DIGITS => k_is); (case x_MOST_BEFORE_POINT => k_is); (case x_MOST_BEHIND_POINT => k_is); (case x_PARTS => k_is)

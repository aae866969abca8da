import PyProof.Rows.All
import Wide.All
import OpenK.AllK
import Wide.FinOn
import HandS.ForMost
import HandS.Zip
import HandS.Walk
import HandS.Gcd
import HandS.Wide
import HandS.IsInst
import HandS.Codes
import HandS.StrMore
import HandS.WordsExc
import KE.IntTextText
import PySem.Challenge.RW_tablemates_k05_shown_fractions
set_option Elab.async false
set_option linter.all false
set_option maxRecDepth 100000
namespace My
open PySem PySem.Spec PyProof.Rows L2 RZ
def topS (i : Nat) : Stmt := PySem.Challenge.pw_tablemates_k05_shown_fractions.main.body.getD i (.Pass ⟨0, 0, 0, 0⟩)
abbrev sFraction : Stmt := topS 2
abbrev sIsDigits : Stmt := topS 5
abbrev sShow : Stmt := topS 6
abbrev sReadShown : Stmt := topS 7
abbrev sLawCell : Stmt := topS 9
abbrev sLawDigits : Stmt := topS 10
abbrev sLawDraw : Stmt := topS 11
abbrev sLawBig : Stmt := topS 12
abbrev sLawGcd : Stmt := topS 13
abbrev sLawLowest : Stmt := topS 14
abbrev sLawSame : Stmt := topS 15
abbrev sLawFraction : Stmt := topS 16
abbrev sLawAllDigits : Stmt := topS 17
abbrev sLawPlain : Stmt := topS 18
abbrev sLawOwn : Stmt := topS 19
abbrev sLaw : Stmt := topS 20
theorem scFraction : FnScope ["n", "d", "common"] ["n", "d"] (defScope sFraction) := ⟨rfl, rfl, rfl, by decide +kernel, rfl, by decide +kernel, by decide +kernel⟩
theorem scIsDigits : FnScope ["text", "character"] ["text"] (defScope sIsDigits) := ⟨rfl, rfl, rfl, by decide +kernel, rfl, by decide +kernel, by decide +kernel⟩
theorem scShow : FnScope ["x"] ["x"] (defScope sShow) := ⟨rfl, rfl, rfl, by decide +kernel, rfl, by decide +kernel, by decide +kernel⟩
theorem scReadShown : FnScope ["text", "over", "bar", "under", "x"] ["text"] (defScope sReadShown) := ⟨rfl, rfl, rfl, by decide +kernel, rfl, by decide +kernel, by decide +kernel⟩
theorem scLawCell : FnScope ["script", "k"] ["script", "k"] (defScope sLawCell) := ⟨rfl, rfl, rfl, by decide +kernel, rfl, by decide +kernel, by decide +kernel⟩
theorem scLawDigits : FnScope ["script", "first", "last", "digits", "k", "cell", "turn", "seed"] ["script", "first", "last"] (defScope sLawDigits) := ⟨rfl, rfl, rfl, by decide +kernel, rfl, by decide +kernel, by decide +kernel⟩
theorem scLawDraw : FnScope ["box", "many", "at"] ["box", "many"] (defScope sLawDraw) := ⟨rfl, rfl, rfl, by decide +kernel, rfl, by decide +kernel, by decide +kernel⟩
theorem scLawBig : FnScope ["box", "size", "number", "k"] ["box", "size"] (defScope sLawBig) := ⟨rfl, rfl, rfl, by decide +kernel, rfl, by decide +kernel, by decide +kernel⟩
theorem scLawGcd : FnScope ["a", "b", "turn", "rest"] ["a", "b"] (defScope sLawGcd) := ⟨rfl, rfl, rfl, by decide +kernel, rfl, by decide +kernel, by decide +kernel⟩
theorem scLawLowest : FnScope ["n", "d", "common"] ["n", "d"] (defScope sLawLowest) := ⟨rfl, rfl, rfl, by decide +kernel, rfl, by decide +kernel, by decide +kernel⟩
theorem scLawSame : FnScope ["actual", "due", "k"] ["actual", "due"] (defScope sLawSame) := ⟨rfl, rfl, rfl, by decide +kernel, rfl, by decide +kernel, by decide +kernel⟩
theorem scLawFraction : FnScope ["box", "kind", "n", "d"] ["box"] (defScope sLawFraction) := ⟨rfl, rfl, rfl, by decide +kernel, rfl, by decide +kernel, by decide +kernel⟩
theorem scLawAllDigits : FnScope ["text", "char"] ["text"] (defScope sLawAllDigits) := ⟨rfl, rfl, rfl, by decide +kernel, rfl, by decide +kernel, by decide +kernel⟩
theorem scLawPlain : FnScope ["text"] ["text"] (defScope sLawPlain) := ⟨rfl, rfl, rfl, by decide +kernel, rfl, by decide +kernel, by decide +kernel⟩
theorem scLawOwn : FnScope ["text", "body", "over", "under", "at", "n", "d"] ["text"] (defScope sLawOwn) := ⟨rfl, rfl, rfl, by decide +kernel, rfl, by decide +kernel, by decide +kernel⟩
theorem scLaw : FnScope ["script", "box", "x", "text", "turn", "at", "char", "other"] ["script"] (defScope sLaw) := ⟨rfl, rfl, rfl, by decide +kernel, rfl, by decide +kernel, by decide +kernel⟩
set_option maxHeartbeats 0 in
structure Txt (K : PySem.W.Frag) (mg : Str → Option Value) where
  fFraction : Addr
  fdFraction : FuncData
  FFraction : Fun K "fraction" "fraction" sFraction fFraction fdFraction
  bFraction : Binds K fdFraction ["n", "d"] []
  gFraction : mg "fraction" = some (.ref fFraction)
  fIsDigits : Addr
  fdIsDigits : FuncData
  FIsDigits : Fun K "_is_digits" "_is_digits" sIsDigits fIsDigits fdIsDigits
  bIsDigits : Binds K fdIsDigits ["text"] []
  gIsDigits : mg "_is_digits" = some (.ref fIsDigits)
  fShow : Addr
  fdShow : FuncData
  FShow : Fun K "show" "show" sShow fShow fdShow
  bShow : Binds K fdShow ["x"] []
  gShow : mg "show" = some (.ref fShow)
  fReadShown : Addr
  fdReadShown : FuncData
  FReadShown : Fun K "read_shown" "read_shown" sReadShown fReadShown fdReadShown
  bReadShown : Binds K fdReadShown ["text"] []
  gReadShown : mg "read_shown" = some (.ref fReadShown)
  fLawCell : Addr
  fdLawCell : FuncData
  FLawCell : Fun K "_law_cell" "_law_cell" sLawCell fLawCell fdLawCell
  bLawCell : Binds K fdLawCell ["script", "k"] []
  gLawCell : mg "_law_cell" = some (.ref fLawCell)
  fLawDigits : Addr
  fdLawDigits : FuncData
  FLawDigits : Fun K "_law_digits" "_law_digits" sLawDigits fLawDigits fdLawDigits
  bLawDigits : Binds K fdLawDigits ["script", "first", "last"] []
  gLawDigits : mg "_law_digits" = some (.ref fLawDigits)
  fLawDraw : Addr
  fdLawDraw : FuncData
  FLawDraw : Fun K "_law_draw" "_law_draw" sLawDraw fLawDraw fdLawDraw
  bLawDraw : Binds K fdLawDraw ["box", "many"] []
  gLawDraw : mg "_law_draw" = some (.ref fLawDraw)
  fLawBig : Addr
  fdLawBig : FuncData
  FLawBig : Fun K "_law_big" "_law_big" sLawBig fLawBig fdLawBig
  bLawBig : Binds K fdLawBig ["box", "size"] []
  gLawBig : mg "_law_big" = some (.ref fLawBig)
  fLawGcd : Addr
  fdLawGcd : FuncData
  FLawGcd : Fun K "_law_gcd" "_law_gcd" sLawGcd fLawGcd fdLawGcd
  bLawGcd : Binds K fdLawGcd ["a", "b"] []
  gLawGcd : mg "_law_gcd" = some (.ref fLawGcd)
  fLawLowest : Addr
  fdLawLowest : FuncData
  FLawLowest : Fun K "_law_lowest" "_law_lowest" sLawLowest fLawLowest fdLawLowest
  bLawLowest : Binds K fdLawLowest ["n", "d"] []
  gLawLowest : mg "_law_lowest" = some (.ref fLawLowest)
  fLawSame : Addr
  fdLawSame : FuncData
  FLawSame : Fun K "_law_same" "_law_same" sLawSame fLawSame fdLawSame
  bLawSame : Binds K fdLawSame ["actual", "due"] []
  gLawSame : mg "_law_same" = some (.ref fLawSame)
  fLawFraction : Addr
  fdLawFraction : FuncData
  FLawFraction : Fun K "_law_fraction" "_law_fraction" sLawFraction fLawFraction fdLawFraction
  bLawFraction : Binds K fdLawFraction ["box"] []
  gLawFraction : mg "_law_fraction" = some (.ref fLawFraction)
  fLawAllDigits : Addr
  fdLawAllDigits : FuncData
  FLawAllDigits : Fun K "_law_all_digits" "_law_all_digits" sLawAllDigits fLawAllDigits fdLawAllDigits
  bLawAllDigits : Binds K fdLawAllDigits ["text"] []
  gLawAllDigits : mg "_law_all_digits" = some (.ref fLawAllDigits)
  fLawPlain : Addr
  fdLawPlain : FuncData
  FLawPlain : Fun K "_law_plain" "_law_plain" sLawPlain fLawPlain fdLawPlain
  bLawPlain : Binds K fdLawPlain ["text"] []
  gLawPlain : mg "_law_plain" = some (.ref fLawPlain)
  fLawOwn : Addr
  fdLawOwn : FuncData
  FLawOwn : Fun K "_law_own" "_law_own" sLawOwn fLawOwn fdLawOwn
  bLawOwn : Binds K fdLawOwn ["text"] []
  gLawOwn : mg "_law_own" = some (.ref fLawOwn)
  fLaw : Addr
  fdLaw : FuncData
  FLaw : Fun K "law" "law" sLaw fLaw fdLaw
  bLaw : Binds K fdLaw ["script"] []
  gLaw : mg "law" = some (.ref fLaw)
  z_range : mg "range" = none
  z_abs : mg "abs" = none
  z_isinstance : mg "isinstance" = none
  z_bool : mg "bool" = none
  z_str : mg "str" = none
  z_int : mg "int" = none
  z_all : mg "all" = none
  z_len : mg "len" = none
  z_list : mg "list" = none
  z_tuple : mg "tuple" = none
  t_DIGITS : Nat
  g_DIGITS : mg "DIGITS" = some (.str "0123456789" t_DIGITS)
  g_gcd : mg "gcd" = some (.builtin "math.gcd")
section
variable {P : Program} {w : World} {K : PySem.W.Frag} {mg : Str → Option Value} {base : Heap}
/-! ### heaps -/
theorem _root_.L2.Same.tup {K : PySem.W.Frag} {H H' : Hp} {a : Addr} {xs : List V} (e : Same H H') (h : SqT K H a xs) : SqT K H' a xs := by
  rcases h with (h | ⟨o, h⟩) | h
  · exact .inl (.inl (e _ _ h))
  · exact .inl (.inr ⟨o, e _ _ h⟩)
  · exact .inr h
theorem same_new {H : Hp} {p : Addr} {o : HO} (h : H p = none) : Same H (upd H p o) := fun b x e => by
  rw [upd_ne (ne_of_none e h)]
  exact e
theorem same_mut {H H' : Hp} {p : Addr} {o : HO} (e : Same H H') (h : H p = none) : Same H (upd H' p o) := fun b x ha => by
  rw [upd_ne (ne_of_none ha h)]
  exact e b x ha
theorem walk_zipT {K : PySem.W.Frag} {a b : Addr} {xs ys : List V} {n : Nat} (hn : n = min xs.length ys.length) : Walk (ItzT K a b) n (fun H => SqT K H a xs ∧ SqT K H b ys) (YPair (fun i => xs[i]?) (fun i => ys[i]?)) := by
  subst hn
  refine ⟨fun i _ hi q => ?_, fun _ q => ⟨xs, ys, q.1, q.2, by omega⟩, fun i H v H' _ q y => ?_⟩
  · have h1 : i < xs.length := by omega
    have h2 : i < ys.length := by omega
    exact ⟨xs, ys, xs[i], ys[i], q.1, q.2, by simp [h1], by simp [h2]⟩
  · obtain ⟨T, x, z, h1, h2, h3, h4, h5⟩ := y
    exact ⟨T, x, z, h1, h2, h3, h4 xs q.1, h5 ys q.2⟩
/-- a function that hands back a bool or an int and changes nothing -/
theorem getD_at {ns : List Int} {i : Nat} (h : i < ns.length) : (ns.map V.int)[i]? = some (.int (ns.getD i 0)) := by
  rw [List.getElem?_map, List.getElem?_eq_getElem h, List.getD_eq_getElem?_getD, List.getElem?_eq_getElem h]
  rfl
theorem dp_ints {K : PySem.W.Frag} {H : Hp} : ∀ ns : List Int, DpAll K H (ns.map V.int) (ns.map PyData.int)
  | [] => .nil
  | n :: r => .cons (.int n) (dp_ints r)
theorem shaped_tup (ns : List Int) : SeqAt.shaped (.tuple (ns.map PyData.int)) = true := by
  simp [SeqAt.shaped, PyData.canLay0, PyData.depth, PySem.W.ke_canLayAll0, PySem.W.ke_depthAll]
theorem shaped_lst (ns : List Int) : SeqAt.shaped (.list (ns.map PyData.int)) = true := PySem.W.ke_shaped_ints ns
theorem eqv_same {d : PyData} (h : SeqAt.shaped d = true) : PyData.eqv d d = true := by
  refine SeqAt.eqv_refl d ?_
  unfold SeqAt.shaped at h
  exact (Bool.and_eq_true _ _ ▸ h).1
theorem yesT {σ : L2.St} {H : Hp} {A B : Hp → Prop} (h : A H) : tYes σ H (fun b H3 => if b = true then A H3 else B H3) := iteT (A := A H) (B := B H) h
/-! ### texts -/
open SX (S S_len S_cat slice_to slice_from num_S int_S)
open PySem.NumText (digitsVal AllDigits)
open TL (numL)
def cap (c : Nat) : Bool := decide (65 ≤ c ∧ c ≤ 90)
def dig (c : Nat) : Bool := decide (48 ≤ c ∧ c ≤ 57)
theorem dig_mem (c : Nat) : decide (c ∈ ("0123456789" : Str).cps.toList) = dig c := by
  have e : ("0123456789" : Str).cps.toList = [48, 49, 50, 51, 52, 53, 54, 55, 56, 57] := by decide +kernel
  rw [e]
  unfold dig
  refine decide_eq_decide.mpr ?_
  simp only [List.mem_cons, List.not_mem_nil, or_false]
  omega
theorem cap_mem (c : Nat) : decide (c ∈ ("ABCDEFGHIJKLMNOPQRSTUVWXYZ" : Str).cps.toList) = cap c := by
  have e : ("ABCDEFGHIJKLMNOPQRSTUVWXYZ" : Str).cps.toList = [65, 66, 67, 68, 69, 70, 71, 72, 73, 74, 75, 76, 77, 78, 79, 80, 81, 82, 83, 84, 85, 86, 87, 88, 89, 90] := by decide +kernel
  rw [e]
  unfold cap
  refine decide_eq_decide.mpr ?_
  simp only [List.mem_cons, List.not_mem_nil, or_false]
  omega
theorem walk_S {a : List Nat} : Walk (Its (S a)) a.length (fun _ => True) (fun i H v H' => H' = H ∧ ∃ c, a[i]? = some c ∧ v = .str (S [c])) :=
  ⟨fun i _ hi _ => by show i < a.toArray.size; simpa using hi, fun _ _ => by show a.toArray.size ≤ a.length; simp, fun i H v H' _ _ y => by
    obtain ⟨e, c, h1, h2⟩ := y
    exact ⟨e, c, by simpa using h1, h2⟩⟩
theorem tw_len {p : Nat → Bool} : ∀ {a : List Nat} {i c : Nat}, (∀ x ∈ a.take i, p x = true) → a[i]? = some c → p c = false → (a.takeWhile p).length = i
  | [], i, c, _, e, _ => by simp at e
  | x :: r, 0, c, _, e, hc => by
    have e2 := Option.some.inj e
    rw [List.takeWhile_cons, e2, hc]
    rfl
  | x :: r, i + 1, c, h, e, hc => by
    have hx : p x = true := h x (by simp)
    rw [List.takeWhile_cons, hx]
    show ((r.takeWhile p).length + 1) = i + 1
    rw [tw_len (fun y hy => h y (by rw [List.take_succ_cons]; exact List.mem_cons_of_mem _ hy)) (by simpa using e) hc]
theorem tw_all {p : Nat → Bool} {a : List Nat} (h : ∀ x ∈ a, p x = true) : (a.takeWhile p).length = a.length := by
  induction a with
  | nil => rfl
  | cons x r ih =>
    rw [List.takeWhile_cons, h x List.mem_cons_self]
    show (r.takeWhile p).length + 1 = r.length + 1
    rw [ih fun y hy => h y (List.mem_cons_of_mem _ hy)]
theorem tw_self {p : Nat → Bool} : ∀ {a : List Nat}, (∀ x ∈ a, p x = true) → a.takeWhile p = a
  | [], _ => rfl
  | x :: r, h => by rw [List.takeWhile_cons, h x List.mem_cons_self, if_pos rfl, tw_self fun y hy => h y (List.mem_cons_of_mem _ hy)]
theorem tw_le {p : Nat → Bool} (a : List Nat) : (a.takeWhile p).length ≤ a.length := by
  induction a with
  | nil => exact Nat.le_refl _
  | cons x r ih =>
    rw [List.takeWhile_cons]
    split
    · exact Nat.succ_le_succ ih
    · exact Nat.zero_le _
theorem tw_take {p : Nat → Bool} : ∀ (a : List Nat), ∀ x ∈ a.take (a.takeWhile p).length, p x = true
  | [], x, h => by simp at h
  | y :: r, x, h => by
    rw [List.takeWhile_cons] at h
    split at h
    · rename_i hy
      rw [List.length_cons, List.take_succ_cons] at h
      rcases List.mem_cons.mp h with e | e
      · rw [e]
        exact hy
      · exact tw_take r x e
    · simp at h
theorem tw_full {p : Nat → Bool} {a : List Nat} (h : (a.takeWhile p).length = a.length) : ∀ x ∈ a, p x = true := fun x hx => tw_take a x (by rw [h, List.take_length]; exact hx)
theorem tw_congr {p q : Nat → Bool} (h : ∀ c, p c = q c) (a : List Nat) : a.takeWhile p = a.takeWhile q := by
  rw [show p = q from funext h]
theorem in12 (n : Int) : inV (.int n) [.int 1, .int 2] = decide (n = 1 ∨ n = 2) := by
  show ((1 : Int) == n || ((2 : Int) == n || false)) = _
  rw [Bool.eq_iff_iff]
  simp only [Bool.or_false, Bool.or_eq_true, beq_iff_eq, decide_eq_true_eq]
  omega
theorem sz100 {n : Nat} (h : n ≤ 100000) : n ≤ sizeLine := Nat.le_trans h (by decide)
theorem item_by {α : Type} (f : α → V) {xs : List α} {k : Int} (h0 : 0 ≤ k) (h1 : k < xs.length) : ∃ v ∈ xs, atI (xs.map f) k = some (f v) := by
  obtain ⟨j, rfl⟩ := Int.eq_ofNat_of_zero_le h0
  have hj : j < xs.length := by omega
  exact ⟨xs[j], List.getElem_mem hj, atI_nat (by rw [List.getElem?_map, List.getElem?_eq_getElem hj]; rfl)⟩
theorem dig_all {a : List Nat} (h : a.all dig = true) : AllDigits a := fun c hc => of_decide_eq_true (List.all_eq_true.mp h c hc)
theorem int_dig {a : List Nat} (h : a.all dig = true) (hne : a ≠ []) (hl : a.length ≤ 640) : intText? (S a) = some ((digitsVal a : Nat) : Int) := intText_digits (x := S a) (dig_all h) hne (by rw [S_len]; omega)
/-! ### a run of signs -/
def rn (z : Str) (a : List Nat) : Nat := (a.takeWhile fun c => decide (c ∈ z.cps.toList)).length
def spCell (K : PySem.W.Frag) : Sp := fun vs H Q _ => ∃ (a : Addr) (ns : List Int) (k : Int), vs = [.ref a, .int k] ∧ 0 ≤ k ∧ SqL K H a (ns.map V.int) ∧ ∀ v : Int, Q (.int v) H
theorem okLawCell (T : Txt K mg) : FnOk P w K mg base CX0 1 T.fLawCell T.fdLawCell ["script", "k"] (spCell K) := by
  refine T.FLawCell.ok scLawCell (fun vs H Q E h => ?_) (fun cdv A outer s H vs Q E hr h => ?_)
  · obtain ⟨a, ns, k, rfl, _⟩ := h
    rfl
  · obtain ⟨a, ns, k, rfl, h0, hS, q⟩ := h
    obtain ⟨k, rfl⟩ := Int.eq_ofNat_of_zero_le h0
    -- slots script=0 k=1
    refine ⟨_, (pss_cons (ps_if (pt_cmpR op_lt (pv 1) (pe_callB call_len_seq (by rfl) T.z_len PySem.boot_len (pa_cons (pv 0) pa_nil)) (nomark _))
          (pss_one (ps_ret (pe_ix ix_list (pv 0) (pv 1) (fun _ _ => rfl))))
          pss_nil)
        (pss_one (ps_ret pe_int))), ?_⟩
    refine ⟨_, rfl, _, rfl, a, _, rfl, .inl hS, _, _, rfl, rfl, _, rfl, ite2 (fun c => ?_) (fun c => ?_)⟩
    · have hk : k < ns.length := by
        have c2 := of_decide_eq_true c
        rw [List.length_map] at c2
        omega
      exact ⟨_, rfl, _, rfl, a, _, _, _, rfl, rfl, hS, atI_nat (getD_at hk), q _⟩
    · exact q 0
/-! ### numbers that a law draws -/
structure Dig (ds : List Int) (n : Nat) : Prop where
  all : ∀ x ∈ ds, 0 ≤ x ∧ x < 1000
  len : ds.length ≤ n
theorem Dig.nil : Dig [] 0 := ⟨fun _ h => (nomatch h), Nat.le_refl _⟩
theorem Dig.more {ds : List Int} {n m : Nat} (h : Dig ds n) (hm : n ≤ m) : Dig ds m := ⟨h.all, Nat.le_trans h.len hm⟩
theorem Dig.add {ds : List Int} {n : Nat} (h : Dig ds n) (x : Int) : Dig (ds ++ [x % 1000]) (n + 1) := by
  refine ⟨fun y hy => ?_, ?_⟩
  · rcases List.mem_append.mp hy with q | q
    · exact h.all y q
    · obtain rfl : y = x % 1000 := by simpa using q
      omega
  · rw [List.length_append]
    have := h.len
    simp only [List.length_singleton]
    omega
def spDigits (K : PySem.W.Frag) : Sp := fun vs H Q _ => ∃ (a : Addr) (ns : List Int) (lo : Nat) (hi : Nat), vs = [.ref a, .int (lo : Int), .int (hi : Int)] ∧ lo ≤ hi ∧ hi ≤ 1000 ∧ SqL K H a (ns.map V.int) ∧
  ∀ H' d ds, Same H H' → H d = none → H' d = some (.lst (ds.map V.int)) → Dig ds (60 * (hi - lo)) → Q (.ref d) H'
theorem okLawDigits (T : Txt K mg) : FnOk P w K mg base CX0 2 T.fLawDigits T.fdLawDigits ["script", "first", "last"] (spDigits K) := by
  refine T.FLawDigits.ok scLawDigits (fun vs H Q E h => ?_) (fun cdv A outer s H vs Q E hr h => ?_)
  · obtain ⟨a, ns, lo, hi, rfl, _⟩ := h
    rfl
  · obtain ⟨a, ns, lo, hi, rfl, hlh, hh, hS, q⟩ := h
    -- slots script=0 first=1 last=2 digits=3 k=4 cell=5 turn=6 seed=7
    refine ⟨_, (pss_cons (ps_set (i := 3) scLawDigits.nd rfl (Or.inl rfl) (pe_lst pa_nil))
        (pss_cons (ps_for PassesOwn.never rfl (pi_range2 rfl T.z_range (pa_cons (pv 1) (pa_cons (pv 2) pa_nil))) (pg_name (i := 4) scLawDigits.nd rfl (Or.inl rfl))
          (pss_cons (ps_set (i := 5) scLawDigits.nd rfl (Or.inl rfl) (pe_call (okLawCell T) (hr.mono (by decide)) (by rfl) T.gLawCell T.FLawCell.kp T.bLawCell .nil pass0 (pa_cons (pv 0) (pa_cons (pv 4) pa_nil))))
          (pss_cons (ps_if (pt_cmpR op_lt (pv 5) pe_int (nomark _))
            (pss_one (ps_set (i := 5) scLawDigits.nd rfl (Or.inl rfl) (pe_op op_sub pe_int (pe_op op_mul pe_int (pv 5)))))
            pss_nil)
          (pss_one (ps_if (pt_cmpR op_ge (pv 5) (pe_op op_pow pe_int pe_int) (nomark _))
            (pss_one (ps_for PassesOwn.never rfl (pi_range1 rfl T.z_range (pa_cons pe_int pa_nil)) (pg_name (i := 6) scLawDigits.nd rfl (Or.inl rfl))
              (pss_one (ps_if (pt_cmpR op_gt (pv 5) pe_int (nomark _))
                (pss_cons (ps_expr (pe_bm PySem.F.plainAttrs_list PySem.F.slot_list_append PySem.F.type_list_append mt_append (pv 3) (pa_cons (pe_op op_mod (pe_callTy call_int1 (by rfl) T.z_int (by decide +kernel) (pa_cons (pv 5) pa_nil)) pe_int) pa_nil)))
                (pss_one (ps_set (i := 5) scLawDigits.nd rfl (Or.inl rfl) (pe_op op_fdiv (pv 5) pe_int))))
                pss_nil))))
            (pss_cons (ps_set (i := 7) scLawDigits.nd rfl (Or.inl rfl) (pe_op op_mod (pe_callTy call_int1 (by rfl) T.z_int (by decide +kernel) (pa_cons (pe_op op_add (pe_op op_add (pe_op op_mul (pv 5) pe_int) (pe_op op_mul (pv 4) pe_int)) pe_int) pa_nil)) pe_int))
            (pss_one (ps_for PassesOwn.never rfl (pi_range1 rfl T.z_range (pa_cons pe_int pa_nil)) (pg_name (i := 6) scLawDigits.nd rfl (Or.inl rfl))
              (pss_cons (ps_set (i := 7) scLawDigits.nd rfl (Or.inl rfl) (pe_op op_mod (pe_callTy call_int1 (by rfl) T.z_int (by decide +kernel) (pa_cons (pe_op op_add (pe_op op_add (pe_op op_mul (pv 7) pe_int) (pe_op op_mul pe_int (pv 6))) pe_int) pa_nil)) pe_int))
              (pss_one (ps_expr (pe_bm PySem.F.plainAttrs_list PySem.F.slot_list_append PySem.F.type_list_append mt_append (pv 3) (pa_cons (pe_op op_mod (pe_callTy call_int1 (by rfl) T.z_int (by decide +kernel) (pa_cons (pe_op op_fdiv (pv 7) pe_int) pa_nil)) pe_int) pa_nil)))))))))))))
        (pss_one (ps_ret (pv 3))))), ?_⟩
    refine ⟨Nat.zero_le _, fun d hd => ?_⟩
    refine ⟨_, rfl, _, rfl, _, _, rfl, ⟨by omega, by omega, by omega, by omega⟩, ?_⟩
    refine for_range (lo := lo) (n := ((hi : Int) - lo).toNat) (fun i σ H' => ∃ ds c0 c1 c2 c3, σ = [some (.ref a), some (.int (lo : Int)), some (.int (hi : Int)), some (.ref d), c0, c1, c2, c3] ∧ Same H H' ∧ H' d = some (.lst (ds.map V.int)) ∧ Dig ds (60 * i))
      ⟨[], _, _, _, _, rfl, same_new hd, upd_same, Dig.nil⟩ ?_ ?_
    · rintro i σ H1 hi2 ⟨ds, c0, c1, c2, c3, rfl, s1, hd1, D⟩
      -- cell = _law_cell(script, k)
      refine ⟨_, rfl, _, rfl, a, ns, _, rfl, by omega, s1.seq hS, fun v => ?_⟩
      -- if cell < 0
      refine ⟨_, rfl, _, _, rfl, rfl, _, rfl, ite2 (fun _ => ?_) (fun _ => ?_)⟩
      · refine ⟨_, rfl, _, _, rfl, rfl, .inl ⟨by decide, by decide⟩, _, _, rfl, rfl, ?_⟩
        refine ⟨_, rfl, _, _, rfl, rfl, ⟨by decide, by decide, by decide⟩, _, _, rfl, rfl, _, rfl, ite2 (fun _ => ?_) (fun _ => ?_)⟩
        · refine ⟨60, rfl, by decide, by decide, for_range (lo := 0) (n := 60) (fun t σ H' => ∃ ds c c1, σ = [some (.ref a), some (.int (lo : Int)), some (.int (hi : Int)), some (.ref d), some (.int ((lo : Int) + i)), some (.int c), c1, c3] ∧ Same H H' ∧ H' d = some (.lst (ds.map V.int)) ∧ Dig ds (60 * i + t)) ⟨ds, _, _, rfl, s1, hd1, D⟩ ?_ ?_⟩
          · rintro t σ H2 ht ⟨ds, c, c1, rfl, s2, hd2, D2⟩
            refine ⟨_, rfl, _, _, rfl, rfl, _, rfl, ite2 (fun _ => ?_) (fun _ => ?_)⟩
            · refine ⟨_, rfl, .inl ⟨rfl, _, SqL.of hd2⟩, _, rfl, .inl ⟨_, rfl, _, _, rfl, rfl, (by show (0 : Int) < _; decide), d, _, _, rfl, rfl, hd2, ?_, _, rfl, _, _, rfl, rfl, ⟨by decide, by decide⟩, ?_⟩⟩
              · rw [List.length_map]
                exact Nat.lt_of_le_of_lt D2.len (Nat.lt_of_lt_of_le (show 60 * i + t < 100000 by omega) (by decide))
              · exact ⟨ds ++ [c % 1000], _, _, rfl, same_mut s2 hd, by rw [upd_same, List.map_append]; rfl, D2.add c⟩
            · exact ⟨ds, _, _, rfl, s2, hd2, D2.more (Nat.le_succ _)⟩
          · rintro σ H2 ⟨ds, c, c1, rfl, s2, hd2, D2⟩
            exact ⟨ds, _, _, _, _, rfl, s2, hd2, D2⟩
        · refine ⟨_, rfl, _, _, rfl, rfl, .inr ⟨by decide, by decide⟩, _, rfl, _, _, rfl, rfl, .inr ⟨by decide, by decide⟩, _, _, rfl, rfl, _, _, rfl, rfl, .inl ⟨_, rfl, _, _, rfl, rfl, (by show (0 : Int) < _; decide), ?_⟩⟩
          refine ⟨12, rfl, by decide, by decide, for_range (lo := 0) (n := 12) (fun t σ H' => ∃ ds c c1 sd, σ = [some (.ref a), some (.int (lo : Int)), some (.int (hi : Int)), some (.ref d), some (.int ((lo : Int) + i)), some (.int c), c1, some (.int sd)] ∧ Same H H' ∧ H' d = some (.lst (ds.map V.int)) ∧ Dig ds (60 * i + t)) ⟨ds, _, _, _, rfl, s1, hd1, D⟩ ?_ ?_⟩
          · rintro t σ H2 ht ⟨ds, c, c1, sd, rfl, s2, hd2, D2⟩
            refine ⟨_, rfl, _, _, rfl, rfl, .inr ⟨by decide, by decide⟩, _, rfl, _, _, rfl, rfl, .inl ⟨by decide, by decide⟩, _, _, rfl, rfl, _, _, rfl, rfl, .inl ⟨_, rfl, _, _, rfl, rfl, (by show (0 : Int) < _; decide), ?_⟩⟩
            refine ⟨_, rfl, .inl ⟨rfl, _, SqL.of hd2⟩, _, rfl, _, _, rfl, rfl, ⟨by decide, by decide⟩, .inl ⟨_, rfl, _, _, rfl, rfl, (by show (0 : Int) < _; decide), d, _, _, rfl, rfl, hd2, ?_, ?_⟩⟩
            · rw [List.length_map]
              exact Nat.lt_of_le_of_lt D2.len (Nat.lt_of_lt_of_le (show 60 * i + t < 100000 by omega) (by decide))
            · exact ⟨ds ++ [_ % 1000], _, _, _, rfl, same_mut s2 hd, by rw [upd_same, List.map_append]; rfl, D2.add _⟩
          · rintro σ H2 ⟨ds, c, c1, sd, rfl, s2, hd2, D2⟩
            exact ⟨ds, _, _, _, _, rfl, s2, hd2, D2.more (by omega)⟩
      · refine ⟨_, rfl, _, _, rfl, rfl, ⟨by decide, by decide, by decide⟩, _, _, rfl, rfl, _, rfl, ite2 (fun _ => ?_) (fun _ => ?_)⟩
        · refine ⟨60, rfl, by decide, by decide, for_range (lo := 0) (n := 60) (fun t σ H' => ∃ ds c c1, σ = [some (.ref a), some (.int (lo : Int)), some (.int (hi : Int)), some (.ref d), some (.int ((lo : Int) + i)), some (.int c), c1, c3] ∧ Same H H' ∧ H' d = some (.lst (ds.map V.int)) ∧ Dig ds (60 * i + t)) ⟨ds, _, _, rfl, s1, hd1, D⟩ ?_ ?_⟩
          · rintro t σ H2 ht ⟨ds, c, c1, rfl, s2, hd2, D2⟩
            refine ⟨_, rfl, _, _, rfl, rfl, _, rfl, ite2 (fun _ => ?_) (fun _ => ?_)⟩
            · refine ⟨_, rfl, .inl ⟨rfl, _, SqL.of hd2⟩, _, rfl, .inl ⟨_, rfl, _, _, rfl, rfl, (by show (0 : Int) < _; decide), d, _, _, rfl, rfl, hd2, ?_, _, rfl, _, _, rfl, rfl, ⟨by decide, by decide⟩, ?_⟩⟩
              · rw [List.length_map]
                exact Nat.lt_of_le_of_lt D2.len (Nat.lt_of_lt_of_le (show 60 * i + t < 100000 by omega) (by decide))
              · exact ⟨ds ++ [c % 1000], _, _, rfl, same_mut s2 hd, by rw [upd_same, List.map_append]; rfl, D2.add c⟩
            · exact ⟨ds, _, _, rfl, s2, hd2, D2.more (Nat.le_succ _)⟩
          · rintro σ H2 ⟨ds, c, c1, rfl, s2, hd2, D2⟩
            exact ⟨ds, _, _, _, _, rfl, s2, hd2, D2⟩
        · refine ⟨_, rfl, _, _, rfl, rfl, .inr ⟨by decide, by decide⟩, _, rfl, _, _, rfl, rfl, .inr ⟨by decide, by decide⟩, _, _, rfl, rfl, _, _, rfl, rfl, .inl ⟨_, rfl, _, _, rfl, rfl, (by show (0 : Int) < _; decide), ?_⟩⟩
          refine ⟨12, rfl, by decide, by decide, for_range (lo := 0) (n := 12) (fun t σ H' => ∃ ds c c1 sd, σ = [some (.ref a), some (.int (lo : Int)), some (.int (hi : Int)), some (.ref d), some (.int ((lo : Int) + i)), some (.int c), c1, some (.int sd)] ∧ Same H H' ∧ H' d = some (.lst (ds.map V.int)) ∧ Dig ds (60 * i + t)) ⟨ds, _, _, _, rfl, s1, hd1, D⟩ ?_ ?_⟩
          · rintro t σ H2 ht ⟨ds, c, c1, sd, rfl, s2, hd2, D2⟩
            refine ⟨_, rfl, _, _, rfl, rfl, .inr ⟨by decide, by decide⟩, _, rfl, _, _, rfl, rfl, .inl ⟨by decide, by decide⟩, _, _, rfl, rfl, _, _, rfl, rfl, .inl ⟨_, rfl, _, _, rfl, rfl, (by show (0 : Int) < _; decide), ?_⟩⟩
            refine ⟨_, rfl, .inl ⟨rfl, _, SqL.of hd2⟩, _, rfl, _, _, rfl, rfl, ⟨by decide, by decide⟩, .inl ⟨_, rfl, _, _, rfl, rfl, (by show (0 : Int) < _; decide), d, _, _, rfl, rfl, hd2, ?_, ?_⟩⟩
            · rw [List.length_map]
              exact Nat.lt_of_le_of_lt D2.len (Nat.lt_of_lt_of_le (show 60 * i + t < 100000 by omega) (by decide))
            · exact ⟨ds ++ [_ % 1000], _, _, _, rfl, same_mut s2 hd, by rw [upd_same, List.map_append]; rfl, D2.add _⟩
          · rintro σ H2 ⟨ds, c, c1, sd, rfl, s2, hd2, D2⟩
            exact ⟨ds, _, _, _, _, rfl, s2, hd2, D2.more (by omega)⟩
    · rintro σ H1 ⟨ds, c0, c1, c2, c3, rfl, s1, hd1, D⟩
      exact ⟨_, rfl, q _ d ds s1 hd hd1 (by rw [show ((hi : Int) - lo).toNat = hi - lo by omega] at D; exact D)⟩
/-- all but the box stays, and the box keeps its list -/
structure Kp (b : Addr) (H H' : Hp) : Prop where
  k : ∀ c o, c ≠ b → H c = some o → H' c = some o
  d : ∀ (x j : V), H b = some (.lst [x, j]) → ∃ j', H' b = some (.lst [x, j'])
instance {b : Addr} {H H' : Hp} : CoeFun (Kp b H H') (fun _ => ∀ c o, c ≠ b → H c = some o → H' c = some o) := ⟨Kp.k⟩
theorem Kp.refl {b : Addr} {H : Hp} : Kp b H H := ⟨fun _ _ _ h => h, fun _ j h => ⟨j, h⟩⟩
theorem Kp.trans {b : Addr} {H H1 H2 : Hp} (x : Kp b H H1) (y : Kp b H1 H2) : Kp b H H2 := ⟨fun c o n h => y.k c o n (x.k c o n h), fun v j h => by
  obtain ⟨j1, h1⟩ := x.d v j h
  exact y.d v j1 h1⟩
theorem Kp.of {b : Addr} {H H1 : Hp} (x : Same H H1) : Kp b H H1 := ⟨fun c o _ h => x c o h, fun _ j h => ⟨j, x _ _ h⟩⟩
theorem Kp.same {b : Addr} {H H1 H2 : Hp} (x : Same H H1) (h : H b = none) (y : Kp b H1 H2) : Same H H2 := fun c o e => y.k c o (ne_of_none e h) (x c o e)
/-- a box of drawn digits and the place of the next one -/
def Box (H : Hp) (b : Addr) : Prop := ∃ (d : Addr) (ds : List Int) (i : Nat), H b = some (.lst [.ref d, .int (i : Int)]) ∧ H d = some (.lst (ds.map V.int)) ∧ b ≠ d
theorem Box.same {H H' : Hp} {b : Addr} (s : Same H H') (h : Box H b) : Box H' b := by
  obtain ⟨d, ds, i, h1, h2, h3⟩ := h
  exact ⟨d, ds, i, s _ _ h1, s _ _ h2, h3⟩
def spDraw (K : PySem.W.Frag) : Sp := fun vs H Q _ => ∃ (b : Addr) (m : Int), vs = [.ref b, .int m] ∧ 0 < m ∧ Box H b ∧ ∀ x H', 0 ≤ x → x < m → Box H' b → Kp b H H' → Q (.int x) H'
theorem okLawDraw (T : Txt K mg) : FnOk P w K mg base CX0 1 T.fLawDraw T.fdLawDraw ["box", "many"] (spDraw K) := by
  refine T.FLawDraw.ok scLawDraw (fun vs H Q E h => ?_) (fun cdv A outer s H vs Q E hr h => ?_)
  · obtain ⟨b, m, rfl, _⟩ := h
    rfl
  · obtain ⟨b, m, rfl, hm, ⟨d, ds, i, hb, hd, nbd⟩, q⟩ := h
    -- slots box=0 many=1 at=2
    refine ⟨_, (pss_cons (ps_set (i := 2) scLawDraw.nd rfl (Or.inl rfl) (pe_ix ix_list (pv 0) pe_int (fun _ _ => rfl)))
        (pss_cons (ps_asg (pe_op op_add (pv 2) pe_int) (pg_sub (pv 0) pe_int set_list))
        (pss_cons (ps_if (pt_cmpR op_lt (pv 2) (pe_callB call_len_seq (by rfl) T.z_len PySem.boot_len (pa_cons (pe_ix ix_list (pv 0) pe_int (fun _ _ => rfl)) pa_nil)) (nomark _))
          (pss_one (ps_ret (pe_op op_mod (pe_callTy call_int1 (by rfl) T.z_int (by decide +kernel) (pa_cons (pe_ix ix_list (pe_ix ix_list (pv 0) pe_int (fun _ _ => rfl)) (pv 2) (fun _ _ => rfl)) pa_nil)) (pv 1))))
          pss_nil)
        (pss_one (ps_ret pe_int))))), ?_⟩
    refine ⟨_, rfl, b, _, _, _, rfl, rfl, SqL.of hb, atI_nat (j := 1) rfl, _, rfl, _, _, rfl, rfl, _, rfl, b, _, _, 1, rfl, rfl, hb, rfl, ?_⟩
    have hb' : (upd H b (.lst ([.ref d, .int (i : Int)].set 1 (.int ((i : Int) + 1))))) b = some (.lst [.ref d, .int ((i : Int) + 1)]) := upd_same
    have hd' : (upd H b (.lst ([.ref d, .int (i : Int)].set 1 (.int ((i : Int) + 1))))) d = some (.lst (ds.map V.int)) := by
      rw [upd_ne nbd.symm]
      exact hd
    have kp : Kp b H (upd H b (.lst ([.ref d, .int (i : Int)].set 1 (.int ((i : Int) + 1))))) := ⟨fun c o n e => by
      rw [upd_ne n]
      exact e, fun x j h => by
      rw [hb] at h
      cases h
      exact ⟨_, hb'⟩⟩
    refine ⟨_, rfl, _, rfl, b, _, _, _, rfl, rfl, SqL.of hb', atI_nat (j := 0) rfl, d, _, rfl, .inl (SqL.of hd'), _, _, rfl, rfl, _, rfl, ite2 (fun c => ?_) (fun c => ?_)⟩
    · have hk : i < ds.length := by
        have c2 := of_decide_eq_true c
        rw [List.length_map] at c2
        omega
      refine ⟨_, rfl, b, _, _, _, rfl, rfl, SqL.of hb', atI_nat (j := 0) rfl, _, rfl, d, _, _, _, rfl, rfl, SqL.of hd', atI_nat (getD_at hk), .inl ⟨_, rfl, _, rfl, _, _, rfl, rfl, hm, ?_⟩⟩
      exact q _ _ (Int.emod_nonneg _ (by omega)) (Int.emod_lt_of_pos _ hm) ⟨d, ds, i + 1, hb', hd', nbd⟩ kp
    · exact q _ _ (Int.le_refl _) hm ⟨d, ds, i + 1, hb', hd', nbd⟩ kp
def spBig (K : PySem.W.Frag) : Sp := fun vs H Q _ => ∃ (b : Addr) (m : Int), vs = [.ref b, .int m] ∧ 0 ≤ m ∧ m ≤ 1000 ∧ Box H b ∧ ∀ x H', 0 ≤ x → x < 1000 ^ m.toNat → Box H' b → Kp b H H' → Q (.int x) H'
theorem okLawBig (T : Txt K mg) : FnOk P w K mg base CX0 2 T.fLawBig T.fdLawBig ["box", "size"] (spBig K) := by
  refine T.FLawBig.ok scLawBig (fun vs H Q E h => ?_) (fun cdv A outer s H vs Q E hr h => ?_)
  · obtain ⟨b, m, rfl, _⟩ := h
    rfl
  · obtain ⟨b, m, rfl, hm0, hm, hB, q⟩ := h
    obtain ⟨m, rfl⟩ := Int.eq_ofNat_of_zero_le hm0
    rw [Int.toNat_natCast] at q
    -- slots box=0 size=1 number=2 k=3
    refine ⟨_, (pss_cons (ps_set (i := 2) scLawBig.nd rfl (Or.inl rfl) pe_int)
        (pss_cons (ps_for PassesOwn.never rfl (pi_range1 rfl T.z_range (pa_cons (pv 1) pa_nil)) (pg_name (i := 3) scLawBig.nd rfl (Or.inl rfl))
          (pss_one (ps_set (i := 2) scLawBig.nd rfl (Or.inl rfl) (pe_op op_add (pe_op op_mul (pv 2) pe_int) (pe_call (okLawDraw T) (hr.mono (by decide)) (by rfl) T.gLawDraw T.FLawDraw.kp T.bLawDraw .nil pass0 (pa_cons (pv 0) (pa_cons pe_int pa_nil)))))))
        (pss_one (ps_ret (pv 2))))), ?_⟩
    refine ⟨_, rfl, _, rfl, by omega, by omega, for_range (lo := 0) (n := m) (fun t σ H' => ∃ x c, σ = [some (.ref b), some (.int (m : Int)), some (.int x), c] ∧ 0 ≤ x ∧ x < 1000 ^ t ∧ Box H' b ∧ Kp b H H') ⟨0, _, rfl, by decide, by decide, hB, Kp.refl⟩ ?_ ?_⟩
    · rintro t σ H1 ht ⟨x, c, rfl, h0, h1, hB1, k1⟩
      refine ⟨_, rfl, _, _, rfl, rfl, .inr ⟨by decide, by decide⟩, _, rfl, b, 1000, rfl, by decide, hB1, fun y H2 y0 y1 hB2 k2 => ?_⟩
      refine ⟨_, _, rfl, rfl, x * 1000 + y, _, rfl, by omega, ?_, hB2, k1.trans k2⟩
      rw [Int.pow_succ]
      omega
    · rintro σ H1 ⟨x, c, rfl, h0, h1, hB1, k1⟩
      exact ⟨_, rfl, q x _ h0 h1 hB1 k1⟩
/-! ### the greatest common divisor by Euclid's steps -/
theorem half_step {a b : Nat} (hb : 0 < b) (hba : b ≤ a) : 2 * (b * (a % b)) ≤ a * b := by
  have h1 := Nat.mod_lt a hb
  have h2 : b + a % b ≤ a := by
    have e := Nat.div_add_mod a b
    have q : 1 ≤ a / b := (Nat.one_le_div_iff hb).mpr hba
    have z : b * 1 ≤ b * (a / b) := Nat.mul_le_mul_left b q
    omega
  have h3 : 2 * (a % b) ≤ a := by omega
  calc 2 * (b * (a % b)) = b * (2 * (a % b)) := by rw [Nat.mul_left_comm]
    _ ≤ b * a := Nat.mul_le_mul_left b h3
    _ = a * b := Nat.mul_comm b a
def spGcd (K : PySem.W.Frag) : Sp := fun vs H Q _ => ∃ (x y : Int), vs = [.int x, .int y] ∧ x.natAbs * y.natAbs < 2 ^ 890 ∧ Q (.int ((Nat.gcd x.natAbs y.natAbs : Nat) : Int)) H
theorem abs_eq (x : Int) : (if x < 0 then -x else x) = ((x.natAbs : Nat) : Int) := by
  split <;> omega
theorem okLawGcd (T : Txt K mg) : FnOk P w K mg base CX0 1 T.fLawGcd T.fdLawGcd ["a", "b"] (spGcd K) := by
  refine T.FLawGcd.ok scLawGcd (fun vs H Q E h => ?_) (fun cdv A outer s H vs Q E hr h => ?_)
  · obtain ⟨x, y, rfl, _⟩ := h
    rfl
  · obtain ⟨x, y, rfl, hz, q⟩ := h
    -- slots a=0 b=1 turn=2 rest=3
    refine ⟨_, (pss_cons (ps_set (i := 0) scLawGcd.nd rfl (Or.inl rfl) (pe_callB call_abs (by rfl) T.z_abs (by decide +kernel) (pa_cons (pv 0) pa_nil)))
        (pss_cons (ps_set (i := 1) scLawGcd.nd rfl (Or.inl rfl) (pe_callB call_abs (by rfl) T.z_abs (by decide +kernel) (pa_cons (pv 1) pa_nil)))
        (pss_cons (ps_for PassesOwn.never rfl (pi_range1 rfl T.z_range (pa_cons pe_int pa_nil)) (pg_name (i := 2) scLawGcd.nd rfl (Or.inl rfl))
          (pss_cons (ps_if (pt_cmpR op_eq (pv 1) pe_int (nomark _))
            (pss_one ps_break)
            pss_nil)
          (pss_cons (ps_set (i := 3) scLawGcd.nd rfl (Or.inl rfl) (pe_op op_mod (pe_callTy call_int1 (by rfl) T.z_int (by decide +kernel) (pa_cons (pv 0) pa_nil)) (pv 1)))
          (pss_cons (ps_set (i := 0) scLawGcd.nd rfl (Or.inl rfl) (pv 1))
          (pss_one (ps_set (i := 1) scLawGcd.nd rfl (Or.inl rfl) (pv 3)))))))
        (pss_one (ps_ret (pv 0)))))), ?_⟩
    refine ⟨_, rfl, _, rfl, ?_⟩
    refine ⟨_, rfl, _, rfl, ?_⟩
    rw [abs_eq, abs_eq]
    generalize x.natAbs = a0 at hz q ⊢
    generalize y.natAbs = b0 at hz q ⊢
    refine ⟨900, rfl, by decide, by decide, for_range (lo := 0) (n := 900) (fun t σ H' => ∃ (a b : Nat) (c c1 : Option V), σ = [some (.int (a : Int)), some (.int (b : Int)), c, c1] ∧ H' = H ∧ Nat.gcd a b = Nat.gcd a0 b0 ∧ (t = 0 ∨ b ≤ a) ∧ (a * b) * 2 ^ (t - 1) < 2 ^ 890) ⟨a0, b0, _, _, rfl, rfl, rfl, .inl rfl, by simpa using hz⟩ ?_ ?_⟩
    · rintro t σ H1 ht ⟨a, b, c, c1, rfl, rfl, hg, ho, hs⟩
      refine ⟨_, rfl, rfl, _, rfl, ite2 (fun e => ?_) (fun e => ?_)⟩
      · have e2 : b = 0 := by
          have e3 := V.int.inj (of_decide_eq_true e)
          omega
        subst e2
        rw [Nat.gcd_zero_right] at hg
        refine ⟨_, rfl, ?_⟩
        rw [hg]
        exact q
      · have hb : 0 < b := by
          rcases Nat.eq_zero_or_pos b with z | z
          · subst z
            exact absurd (decide_eq_true rfl) e
          · exact z
        refine ⟨_, rfl, .inl ⟨_, rfl, _, rfl, _, _, rfl, rfl, (by show (0 : Int) < (b : Int); omega), ?_⟩⟩
        refine ⟨_, rfl, _, rfl, b, a % b, _, _, rfl, rfl, ?_, .inr (Nat.le_of_lt (Nat.mod_lt a hb)), ?_⟩
        · rw [← hg, Nat.gcd_comm a b, Nat.gcd_rec b a, Nat.gcd_comm]
        · rcases ho with z | z
          · subst z
            rw [show (2 : Nat) ^ (0 + 1 - 1) = 2 ^ (0 - 1) from rfl]
            refine Nat.lt_of_le_of_lt (Nat.mul_le_mul_right _ ?_) hs
            rw [Nat.mul_comm a b]
            exact Nat.mul_le_mul_left b (Nat.mod_le a b)
          · have h2 := half_step hb z
            rcases t with _ | t
            · refine Nat.lt_of_le_of_lt (Nat.mul_le_mul_right _ ?_) hs
              omega
            · show b * (a % b) * 2 ^ (t + 1) < 2 ^ 890
              refine Nat.lt_of_le_of_lt ?_ (show (a * b) * 2 ^ t < 2 ^ 890 from hs)
              rw [Nat.pow_succ, Nat.mul_comm (2 ^ t) 2, ← Nat.mul_assoc]
              refine Nat.mul_le_mul_right _ ?_
              rw [Nat.mul_comm]
              exact h2
    · rintro σ H1 ⟨a, b, c, c1, rfl, rfl, hg, ho, hs⟩
      have hb : a * b = 0 := by
        rcases Nat.eq_zero_or_pos (a * b) with z | z
        · exact z
        · exfalso
          have h1 : 1 * 2 ^ (900 - 1) ≤ (a * b) * 2 ^ (900 - 1) := Nat.mul_le_mul_right _ z
          have h2 : (2 : Nat) ^ 890 ≤ 1 * 2 ^ (900 - 1) := by decide
          omega
      have hb0 : b = 0 := by
        rcases Nat.mul_eq_zero.mp hb with z | z
        · rcases ho with w | w <;> omega
        · exact z
      subst hb0
      rw [Nat.gcd_zero_right] at hg
      refine ⟨_, rfl, ?_⟩
      rw [hg]
      exact q
/-! ### the law's own comparison -/
def Scal : V → Prop
  | .non => True
  | .bl _ => True
  | .int _ => True
  | .str _ => True
  | _ => False
def Lk (H : Hp) : Nat → V → V → Prop
  | 0, x, y => x = y ∧ Scal y
  | n + 1, x, y => (x = y ∧ Scal y) ∨
    (∃ a b xs ys, x = .ref a ∧ y = .ref b ∧ H a = some (.tup xs) ∧ H b = some (.tup ys) ∧ xs.length = ys.length ∧ xs.length ≤ 100000 ∧ ∀ (i : Nat) u v, xs[i]? = some u → ys[i]? = some v → Lk H n u v) ∨
    (∃ a b xs ys, x = .ref a ∧ y = .ref b ∧ H a = some (.lst xs) ∧ H b = some (.lst ys) ∧ xs.length = ys.length ∧ xs.length ≤ 100000 ∧ ∀ (i : Nat) u v, xs[i]? = some u → ys[i]? = some v → Lk H n u v)
theorem isi {K : PySem.W.Frag} {H : Hp} {x : V} {t c : String} {b : Bool} {Q : VK} (ty : TyX K H x (.type t)) (h : kitB t c = some b) (q : Q (.bl b) H) : rIsi K [x, .ty c] H Q := ⟨x, .ty c, _, _, b, rfl, .ty c, ty, kit_ty h, q⟩
def spSame (K : PySem.W.Frag) (n : Nat) : Sp := fun vs H Q _ => ∃ (x y : V), vs = [x, y] ∧ Lk H n x y ∧ Q (.bl true) H
theorem okLawSame (T : Txt K mg) : ∀ n : Nat, FnOk P w K mg base CX0 (n + 1) T.fLawSame T.fdLawSame ["actual", "due"] (spSame K n)
  | 0 => by
    refine T.FLawSame.ok scLawSame (fun vs H Q E h => ?_) (fun cdv A outer s H vs Q E hr h => ?_)
    · obtain ⟨x, y, rfl, _⟩ := h
      rfl
    · obtain ⟨x, y, rfl, ⟨rfl, sy⟩, q⟩ := h
      -- slots actual=0 due=1 k=2
      refine ⟨_, (pss_cons (ps_if (PW.pt (pw_or (pt_val (pe_callB call_isi (by rfl) T.z_isinstance (by decide +kernel) (pa_cons (pv 1) (pa_cons (pe_bltn (v := .ty "list") (by rfl) T.z_list (by decide +kernel) rfl) pa_nil)))) (pw_or1 (pt_val (pe_callB call_isi (by rfl) T.z_isinstance (by decide +kernel) (pa_cons (pv 1) (pa_cons (pe_bltn (v := .ty "tuple") (by rfl) T.z_tuple (by decide +kernel) rfl) pa_nil)))))))
            (pss_cons ps_never
            (pss_cons ps_never
            (pss_cons ps_never
            (pss_one ps_never))))
            pss_nil)
          (pss_cons (ps_if (pt_cmpR op_isN (pv 1) pe_non (nomark _))
            (pss_one (ps_ret (pe_cmpR op_isN (pv 0) pe_non (nomark _))))
            pss_nil)
          (pss_cons (ps_if (pt_val (pe_callB call_isi (by rfl) T.z_isinstance (by decide +kernel) (pa_cons (pv 1) (pa_cons (pe_bltn (v := .ty "bool") (by rfl) T.z_bool (by decide +kernel) rfl) pa_nil))))
            (pss_one (ps_ret (pe_and (pe_callB call_isi (by rfl) T.z_isinstance (by decide +kernel) (pa_cons (pv 0) (pa_cons (pe_bltn (v := .ty "bool") (by rfl) T.z_bool (by decide +kernel) rfl) pa_nil))) (pe_one (pe_cmpR op_eq (pv 0) (pv 1) (nomark _))))))
            pss_nil)
          (pss_cons (ps_if (pt_val (pe_callB call_isi (by rfl) T.z_isinstance (by decide +kernel) (pa_cons (pv 1) (pa_cons (pe_bltn (v := .ty "str") (by rfl) T.z_str (by decide +kernel) rfl) pa_nil))))
            (pss_one (ps_ret (pe_and (pe_callB call_isi (by rfl) T.z_isinstance (by decide +kernel) (pa_cons (pv 0) (pa_cons (pe_bltn (v := .ty "str") (by rfl) T.z_str (by decide +kernel) rfl) pa_nil))) (pe_one (pe_cmpR op_eq (pv 0) (pv 1) (nomark _))))))
            pss_nil)
          (pss_one (ps_ret (pe_and (pe_callB call_isi (by rfl) T.z_isinstance (by decide +kernel) (pa_cons (pv 0) (pa_cons (pe_bltn (v := .ty "int") (by rfl) T.z_int (by decide +kernel) rfl) pa_nil))) (pe_and (pe_not (pe_callB call_isi (by rfl) T.z_isinstance (by decide +kernel) (pa_cons (pv 0) (pa_cons (pe_bltn (v := .ty "bool") (by rfl) T.z_bool (by decide +kernel) rfl) pa_nil)))) (pe_one (pe_cmpR op_eq (pv 0) (pv 1) (nomark _))))))))))), ?_⟩
      cases x with
      | non =>
        refine ⟨_, rfl, _, _, _, _, false, rfl, .ty _, .base (.non), kit_ty (by decide +kernel), _, rfl, iteF ⟨_, rfl, _, _, _, _, false, rfl, .ty _, .base (.non), kit_ty (by decide +kernel), _, rfl, iteF ?_⟩⟩
        refine ⟨_, rfl, rfl, _, rfl, ite2 (fun _ => ?_) (fun c => absurd (decide_eq_true rfl) c)⟩
        refine ⟨_, rfl, rfl, ?_⟩
        rw [decide_eq_true rfl]
        exact q
      | bl v =>
        refine ⟨_, rfl, _, _, _, _, false, rfl, .ty _, .base (.bl v), kit_ty (by decide +kernel), _, rfl, iteF ⟨_, rfl, _, _, _, _, false, rfl, .ty _, .base (.bl v), kit_ty (by decide +kernel), _, rfl, iteF ?_⟩⟩
        refine ⟨_, rfl, rfl, _, rfl, ite2 (fun c => (nomatch (of_decide_eq_true c))) (fun _ => ?_)⟩
        refine ⟨_, rfl, _, _, _, _, true, rfl, .ty _, .base (.bl v), kit_ty (by decide +kernel), _, rfl, iteT ?_⟩
        refine ⟨_, rfl, _, _, _, _, true, rfl, .ty _, .base (.bl v), kit_ty (by decide +kernel), _, rfl, iteT ?_⟩
        refine ⟨_, rfl, _, rfl, rfl, ?_⟩
        rw [decide_eq_true rfl]
        exact q
      | int v =>
        refine ⟨_, rfl, _, _, _, _, false, rfl, .ty _, .base (.int v), kit_ty (by decide +kernel), _, rfl, iteF ⟨_, rfl, _, _, _, _, false, rfl, .ty _, .base (.int v), kit_ty (by decide +kernel), _, rfl, iteF ?_⟩⟩
        refine ⟨_, rfl, rfl, _, rfl, ite2 (fun c => (nomatch (of_decide_eq_true c))) (fun _ => ?_)⟩
        refine ⟨_, rfl, _, _, _, _, false, rfl, .ty _, .base (.int v), kit_ty (by decide +kernel), _, rfl, iteF ?_⟩
        refine ⟨_, rfl, _, _, _, _, false, rfl, .ty _, .base (.int v), kit_ty (by decide +kernel), _, rfl, iteF ?_⟩
        refine ⟨_, rfl, _, _, _, _, true, rfl, .ty _, .base (.int v), kit_ty (by decide +kernel), _, rfl, iteT ?_⟩
        refine ⟨_, rfl, _, _, _, _, false, rfl, .ty _, .base (.int v), kit_ty (by decide +kernel), _, rfl, _, rfl, iteT ?_⟩
        refine ⟨_, rfl, _, rfl, rfl, ?_⟩
        rw [decide_eq_true rfl]
        exact q
      | str v =>
        refine ⟨_, rfl, _, _, _, _, false, rfl, .ty _, .base (.str v), kit_ty (by decide +kernel), _, rfl, iteF ⟨_, rfl, _, _, _, _, false, rfl, .ty _, .base (.str v), kit_ty (by decide +kernel), _, rfl, iteF ?_⟩⟩
        refine ⟨_, rfl, rfl, _, rfl, ite2 (fun c => (nomatch (of_decide_eq_true c))) (fun _ => ?_)⟩
        refine ⟨_, rfl, _, _, _, _, false, rfl, .ty _, .base (.str v), kit_ty (by decide +kernel), _, rfl, iteF ?_⟩
        refine ⟨_, rfl, _, _, _, _, true, rfl, .ty _, .base (.str v), kit_ty (by decide +kernel), _, rfl, iteT ?_⟩
        refine ⟨_, rfl, _, _, _, _, true, rfl, .ty _, .base (.str v), kit_ty (by decide +kernel), _, rfl, iteT ?_⟩
        refine ⟨_, rfl, _, rfl, rfl, ?_⟩
        rw [decide_eq_true rfl]
        exact q
      | _ => exact sy.elim
  | n + 1 => by
    have IH := okLawSame T n
    refine T.FLawSame.ok scLawSame (fun vs H Q E h => ?_) (fun cdv A outer s H vs Q E hr h => ?_)
    · obtain ⟨x, y, rfl, _⟩ := h
      rfl
    · obtain ⟨x, y, rfl, hL, q⟩ := h
      -- slots actual=0 due=1 k=2
      refine ⟨_, (pss_cons (ps_if (PW.pt (pw_or (pt_val (pe_callB call_isi (by rfl) T.z_isinstance (by decide +kernel) (pa_cons (pv 1) (pa_cons (pe_bltn (v := .ty "list") (by rfl) T.z_list (by decide +kernel) rfl) pa_nil)))) (pw_or1 (pt_val (pe_callB call_isi (by rfl) T.z_isinstance (by decide +kernel) (pa_cons (pv 1) (pa_cons (pe_bltn (v := .ty "tuple") (by rfl) T.z_tuple (by decide +kernel) rfl) pa_nil)))))))
            (pss_cons (ps_if (PW.pt (pw_or (pt_cmpR op_ne (pe_callB call_isi (by rfl) T.z_isinstance (by decide +kernel) (pa_cons (pv 1) (pa_cons (pe_bltn (v := .ty "list") (by rfl) T.z_list (by decide +kernel) rfl) pa_nil))) (pe_callB call_isi (by rfl) T.z_isinstance (by decide +kernel) (pa_cons (pv 0) (pa_cons (pe_bltn (v := .ty "list") (by rfl) T.z_list (by decide +kernel) rfl) pa_nil))) (nomark _)) (pw_or1 (pt_cmpR op_ne (pe_callB call_isi (by rfl) T.z_isinstance (by decide +kernel) (pa_cons (pv 1) (pa_cons (pe_bltn (v := .ty "tuple") (by rfl) T.z_tuple (by decide +kernel) rfl) pa_nil))) (pe_callB call_isi (by rfl) T.z_isinstance (by decide +kernel) (pa_cons (pv 0) (pa_cons (pe_bltn (v := .ty "tuple") (by rfl) T.z_tuple (by decide +kernel) rfl) pa_nil))) (nomark _)))))
              (pss_one (ps_ret pe_bl))
              pss_nil)
            (pss_cons (ps_if (pt_cmpR op_ne (pe_callB call_len_seq (by rfl) T.z_len PySem.boot_len (pa_cons (pv 0) pa_nil)) (pe_callB call_len_seq (by rfl) T.z_len PySem.boot_len (pa_cons (pv 1) pa_nil)) (nomark _))
              (pss_one (ps_ret pe_bl))
              pss_nil)
            (pss_cons (ps_for PassesOwn.never rfl (pi_range1 rfl T.z_range (pa_cons (pe_callB call_len_seq (by rfl) T.z_len PySem.boot_len (pa_cons (pv 1) pa_nil)) pa_nil)) (pg_name (i := 2) scLawSame.nd rfl (Or.inl rfl))
              (pss_one (ps_if (pt_not (pt_val (pe_call IH (hr.mono (Nat.le_refl _)) (by rfl) T.gLawSame T.FLawSame.kp T.bLawSame .nil pass0 (pa_cons (pe_ix ix_seq (pv 0) (pv 2) (fun _ _ => rfl)) (pa_cons (pe_ix ix_seq (pv 1) (pv 2) (fun _ _ => rfl)) pa_nil)))))
                (pss_one (ps_ret pe_bl))
                pss_nil)))
            (pss_one (ps_ret pe_bl)))))
            pss_nil)
          (pss_cons (ps_if (pt_cmpR op_isN (pv 1) pe_non (nomark _))
            (pss_one (ps_ret (pe_cmpR op_isN (pv 0) pe_non (nomark _))))
            pss_nil)
          (pss_cons (ps_if (pt_val (pe_callB call_isi (by rfl) T.z_isinstance (by decide +kernel) (pa_cons (pv 1) (pa_cons (pe_bltn (v := .ty "bool") (by rfl) T.z_bool (by decide +kernel) rfl) pa_nil))))
            (pss_one (ps_ret (pe_and (pe_callB call_isi (by rfl) T.z_isinstance (by decide +kernel) (pa_cons (pv 0) (pa_cons (pe_bltn (v := .ty "bool") (by rfl) T.z_bool (by decide +kernel) rfl) pa_nil))) (pe_one (pe_cmpR op_eq (pv 0) (pv 1) (nomark _))))))
            pss_nil)
          (pss_cons (ps_if (pt_val (pe_callB call_isi (by rfl) T.z_isinstance (by decide +kernel) (pa_cons (pv 1) (pa_cons (pe_bltn (v := .ty "str") (by rfl) T.z_str (by decide +kernel) rfl) pa_nil))))
            (pss_one (ps_ret (pe_and (pe_callB call_isi (by rfl) T.z_isinstance (by decide +kernel) (pa_cons (pv 0) (pa_cons (pe_bltn (v := .ty "str") (by rfl) T.z_str (by decide +kernel) rfl) pa_nil))) (pe_one (pe_cmpR op_eq (pv 0) (pv 1) (nomark _))))))
            pss_nil)
          (pss_one (ps_ret (pe_and (pe_callB call_isi (by rfl) T.z_isinstance (by decide +kernel) (pa_cons (pv 0) (pa_cons (pe_bltn (v := .ty "int") (by rfl) T.z_int (by decide +kernel) rfl) pa_nil))) (pe_and (pe_not (pe_callB call_isi (by rfl) T.z_isinstance (by decide +kernel) (pa_cons (pv 0) (pa_cons (pe_bltn (v := .ty "bool") (by rfl) T.z_bool (by decide +kernel) rfl) pa_nil)))) (pe_one (pe_cmpR op_eq (pv 0) (pv 1) (nomark _))))))))))), ?_⟩
      rcases hL with ⟨rfl, sy⟩ | ⟨a, b, xs, ys, rfl, rfl, ha, hb, hl, hz, hi⟩ | ⟨a, b, xs, ys, rfl, rfl, ha, hb, hl, hz, hi⟩
      · cases x with
        | non =>
          refine ⟨_, rfl, _, _, _, _, false, rfl, .ty _, .base (.non), kit_ty (by decide +kernel), _, rfl, iteF ⟨_, rfl, _, _, _, _, false, rfl, .ty _, .base (.non), kit_ty (by decide +kernel), _, rfl, iteF ?_⟩⟩
          refine ⟨_, rfl, rfl, _, rfl, ite2 (fun _ => ?_) (fun c => absurd (decide_eq_true rfl) c)⟩
          refine ⟨_, rfl, rfl, ?_⟩
          rw [decide_eq_true rfl]
          exact q
        | bl v =>
          refine ⟨_, rfl, _, _, _, _, false, rfl, .ty _, .base (.bl v), kit_ty (by decide +kernel), _, rfl, iteF ⟨_, rfl, _, _, _, _, false, rfl, .ty _, .base (.bl v), kit_ty (by decide +kernel), _, rfl, iteF ?_⟩⟩
          refine ⟨_, rfl, rfl, _, rfl, ite2 (fun c => (nomatch (of_decide_eq_true c))) (fun _ => ?_)⟩
          refine ⟨_, rfl, _, _, _, _, true, rfl, .ty _, .base (.bl v), kit_ty (by decide +kernel), _, rfl, iteT ?_⟩
          refine ⟨_, rfl, _, _, _, _, true, rfl, .ty _, .base (.bl v), kit_ty (by decide +kernel), _, rfl, iteT ?_⟩
          refine ⟨_, rfl, _, rfl, rfl, ?_⟩
          rw [decide_eq_true rfl]
          exact q
        | int v =>
          refine ⟨_, rfl, _, _, _, _, false, rfl, .ty _, .base (.int v), kit_ty (by decide +kernel), _, rfl, iteF ⟨_, rfl, _, _, _, _, false, rfl, .ty _, .base (.int v), kit_ty (by decide +kernel), _, rfl, iteF ?_⟩⟩
          refine ⟨_, rfl, rfl, _, rfl, ite2 (fun c => (nomatch (of_decide_eq_true c))) (fun _ => ?_)⟩
          refine ⟨_, rfl, _, _, _, _, false, rfl, .ty _, .base (.int v), kit_ty (by decide +kernel), _, rfl, iteF ?_⟩
          refine ⟨_, rfl, _, _, _, _, false, rfl, .ty _, .base (.int v), kit_ty (by decide +kernel), _, rfl, iteF ?_⟩
          refine ⟨_, rfl, _, _, _, _, true, rfl, .ty _, .base (.int v), kit_ty (by decide +kernel), _, rfl, iteT ?_⟩
          refine ⟨_, rfl, _, _, _, _, false, rfl, .ty _, .base (.int v), kit_ty (by decide +kernel), _, rfl, _, rfl, iteT ?_⟩
          refine ⟨_, rfl, _, rfl, rfl, ?_⟩
          rw [decide_eq_true rfl]
          exact q
        | str v =>
          refine ⟨_, rfl, _, _, _, _, false, rfl, .ty _, .base (.str v), kit_ty (by decide +kernel), _, rfl, iteF ⟨_, rfl, _, _, _, _, false, rfl, .ty _, .base (.str v), kit_ty (by decide +kernel), _, rfl, iteF ?_⟩⟩
          refine ⟨_, rfl, rfl, _, rfl, ite2 (fun c => (nomatch (of_decide_eq_true c))) (fun _ => ?_)⟩
          refine ⟨_, rfl, _, _, _, _, false, rfl, .ty _, .base (.str v), kit_ty (by decide +kernel), _, rfl, iteF ?_⟩
          refine ⟨_, rfl, _, _, _, _, true, rfl, .ty _, .base (.str v), kit_ty (by decide +kernel), _, rfl, iteT ?_⟩
          refine ⟨_, rfl, _, _, _, _, true, rfl, .ty _, .base (.str v), kit_ty (by decide +kernel), _, rfl, iteT ?_⟩
          refine ⟨_, rfl, _, rfl, rfl, ?_⟩
          rw [decide_eq_true rfl]
          exact q
        | _ => exact sy.elim
      · refine ⟨_, rfl, _, _, _, _, false, rfl, .ty _, .base (.tup hb), kit_ty (by decide +kernel), _, rfl, iteF ⟨_, rfl, _, _, _, _, true, rfl, .ty _, .base (.tup hb), kit_ty (by decide +kernel), _, rfl, iteT ?_⟩⟩
        refine ⟨_, rfl, _, _, _, _, false, rfl, .ty _, .base (.tup hb), kit_ty (by decide +kernel), _, rfl, _, _, _, _, false, rfl, .ty _, .base (.tup ha), kit_ty (by decide +kernel), rfl, _, rfl, iteNS rfl ?_⟩
        refine ⟨_, rfl, _, _, _, _, true, rfl, .ty _, .base (.tup hb), kit_ty (by decide +kernel), _, rfl, _, _, _, _, true, rfl, .ty _, .base (.tup ha), kit_ty (by decide +kernel), rfl, _, rfl, iteNS rfl ?_⟩
        refine ⟨_, rfl, a, _, rfl, .inr (SqT.of ha), _, rfl, b, _, rfl, .inr (SqT.of hb), rfl, _, rfl, iteNS (by rw [hl]) ?_⟩
        refine ⟨_, rfl, b, _, rfl, .inr (SqT.of hb), _, rfl, by omega, by omega, for_range (lo := 0) (n := ys.length) (fun i σ H' => H' = H ∧ ∃ k, σ = [some (.ref a), some (.ref b), k]) ⟨rfl, _, rfl⟩ ?_ ?_⟩
        · rintro i σ H1 hi2 ⟨rfl, k, rfl⟩
          have e1 : xs[i]? = some xs[i] := List.getElem?_eq_getElem (by omega)
          have e2 : ys[i]? = some ys[i] := List.getElem?_eq_getElem hi2
          have z : (0 : Int) + (i : Int) = ((i : Nat) : Int) := Int.zero_add _
          refine ⟨_, rfl, _, rfl, .inr (.inl ⟨a, _, _, _, rfl, rfl, SqT.of ha, by rw [z]; exact atI_nat e1, _, rfl, _, rfl, .inr (.inl ⟨b, _, _, _, rfl, rfl, SqT.of hb, by rw [z]; exact atI_nat e2, ?_⟩)⟩)⟩
          exact ⟨_, _, rfl, hi i _ _ e1 e2, _, rfl, iteF ⟨rfl, _, rfl⟩⟩
        · rintro σ H1 ⟨rfl, k, rfl⟩
          exact q
      · refine ⟨_, rfl, _, _, _, _, true, rfl, .ty _, .base (.lst hb), kit_ty (by decide +kernel), _, rfl, iteT ?_⟩
        refine ⟨_, rfl, _, _, _, _, true, rfl, .ty _, .base (.lst hb), kit_ty (by decide +kernel), _, rfl, _, _, _, _, true, rfl, .ty _, .base (.lst ha), kit_ty (by decide +kernel), rfl, _, rfl, iteNS rfl ?_⟩
        refine ⟨_, rfl, _, _, _, _, false, rfl, .ty _, .base (.lst hb), kit_ty (by decide +kernel), _, rfl, _, _, _, _, false, rfl, .ty _, .base (.lst ha), kit_ty (by decide +kernel), rfl, _, rfl, iteNS rfl ?_⟩
        refine ⟨_, rfl, a, _, rfl, .inl (SqL.of ha), _, rfl, b, _, rfl, .inl (SqL.of hb), rfl, _, rfl, iteNS (by rw [hl]) ?_⟩
        refine ⟨_, rfl, b, _, rfl, .inl (SqL.of hb), _, rfl, by omega, by omega, for_range (lo := 0) (n := ys.length) (fun i σ H' => H' = H ∧ ∃ k, σ = [some (.ref a), some (.ref b), k]) ⟨rfl, _, rfl⟩ ?_ ?_⟩
        · rintro i σ H1 hi2 ⟨rfl, k, rfl⟩
          have e1 : xs[i]? = some xs[i] := List.getElem?_eq_getElem (by omega)
          have e2 : ys[i]? = some ys[i] := List.getElem?_eq_getElem hi2
          have z : (0 : Int) + (i : Int) = ((i : Nat) : Int) := Int.zero_add _
          refine ⟨_, rfl, _, rfl, .inl (⟨a, _, _, _, rfl, rfl, SqL.of ha, by rw [z]; exact atI_nat e1, _, rfl, _, rfl, .inl (⟨b, _, _, _, rfl, rfl, SqL.of hb, by rw [z]; exact atI_nat e2, ?_⟩)⟩)⟩
          exact ⟨_, _, rfl, hi i _ _ e1 e2, _, rfl, iteF ⟨rfl, _, rfl⟩⟩
        · rintro σ H1 ⟨rfl, k, rfl⟩
          exact q
/-! ### fractions in lowest terms -/
theorem op_fdivZ {X : Cx} : OpR X (binaryOp .FloorDiv) (rI (fun _ j => j ≠ 0 ∧ j.natAbs.log2 < 9000) fun i j => .int (i.fdiv j)) := opI fun i j _ _ _ _ _ hc q => floordiv_int hc.1 q (.inl (PyProof.noPylong_of_log2 hc.2))
structure Low (n d x y : Int) : Prop where
  pos : 0 < y
  eq : x * d = n * y
  cop : Nat.gcd x.natAbs y.natAbs = 1
  lx : x.natAbs ≤ n.natAbs
  ly : y.natAbs ≤ d.natAbs
def cmn (n d : Int) : Int := if d < 0 then -((Nat.gcd n.natAbs d.natAbs : Nat) : Int) else ((Nat.gcd n.natAbs d.natAbs : Nat) : Int)
theorem cmn_abs (n d : Int) : (cmn n d).natAbs = Nat.gcd n.natAbs d.natAbs := by
  unfold cmn
  split <;> omega
theorem low_of {n d : Int} (hd : d ≠ 0) : Low n d (n.fdiv (cmn n d)) (d.fdiv (cmn n d)) := by
  have hg : 0 < Nat.gcd n.natAbs d.natAbs := Nat.gcd_pos_of_pos_right _ (by omega)
  have ha := cmn_abs n d
  have hc : cmn n d ≠ 0 := by omega
  have d1 : cmn n d ∣ n := Int.natAbs_dvd_natAbs.mp (by rw [ha]; exact Nat.gcd_dvd_left _ _)
  have d2 : cmn n d ∣ d := Int.natAbs_dvd_natAbs.mp (by rw [ha]; exact Nat.gcd_dvd_right _ _)
  have sg : 0 < d → 0 < cmn n d := fun h => by
    unfold cmn
    rw [if_neg (by omega)]
    omega
  have sg2 : d < 0 → cmn n d < 0 := fun h => by
    unfold cmn
    rw [if_pos h]
    omega
  obtain ⟨x, hx⟩ := d1
  obtain ⟨y, hy⟩ := d2
  generalize cmn n d = c at *
  have e1 : n.fdiv c = x := by rw [hx]; exact Int.mul_fdiv_cancel_left _ hc
  have e2 : d.fdiv c = y := by rw [hy]; exact Int.mul_fdiv_cancel_left _ hc
  rw [e1, e2]
  have y0 : 0 < y := by
    rcases Int.lt_trichotomy d 0 with h | h | h
    · have hc2 := sg2 h
      rcases Int.lt_trichotomy y 0 with z | z | z
      · have := Int.mul_pos_of_neg_of_neg hc2 z
        omega
      · subst z
        simp at hy
        omega
      · exact z
    · exact absurd h hd
    · have hc2 := sg h
      rcases Int.lt_trichotomy y 0 with z | z | z
      · have := Int.mul_neg_of_pos_of_neg hc2 z
        omega
      · subst z
        simp at hy
        omega
      · exact z
  have en : n.natAbs = c.natAbs * x.natAbs := by rw [hx, Int.natAbs_mul]
  have ed : d.natAbs = c.natAbs * y.natAbs := by rw [hy, Int.natAbs_mul]
  refine ⟨y0, ?_, ?_, ?_, ?_⟩
  · rw [hx, hy, Int.mul_assoc, Int.mul_comm x, Int.mul_assoc, Int.mul_comm x]
  · rw [en, ed, Nat.gcd_mul_left] at ha
    rw [en, ed, Nat.gcd_mul_left] at hg
    have z : c.natAbs * 1 = c.natAbs * Nat.gcd x.natAbs y.natAbs := by rw [Nat.mul_one]; exact ha
    exact (Nat.eq_of_mul_eq_mul_left (by omega) z).symm
  · rw [en]
    exact Nat.le_mul_of_pos_left _ (by omega)
  · rw [ed]
    exact Nat.le_mul_of_pos_left _ (by omega)
def spFraction (K : PySem.W.Frag) : Sp := fun vs H Q _ => ∃ (n d : Int), vs = [.int n, .int d] ∧ d ≠ 0 ∧ d.natAbs < 2 ^ 900 ∧ ∀ p x y, H p = none → Low n d x y → Q (.ref p) (upd H p (.tup [.int x, .int y]))
theorem okFraction (T : Txt K mg) : FnOk P w K mg base CX0 1 T.fFraction T.fdFraction ["n", "d"] (spFraction K) := by
  refine T.FFraction.ok scFraction (fun vs H Q E h => ?_) (fun cdv A outer s H vs Q E hr h => ?_)
  · obtain ⟨n, d, rfl, _⟩ := h
    rfl
  · obtain ⟨n, d, rfl, hd, hz, q⟩ := h
    -- slots n=0 d=1 common=2
    refine ⟨_, (pss_cons (ps_set (i := 2) scFraction.nd rfl (Or.inl rfl) (pe_callBfun cr_gcd (by rfl) T.g_gcd (pa_cons (pv 0) (pa_cons (pv 1) pa_nil))))
        (C8.pss_cut (ps_if (pt_cmpR op_lt (pv 1) pe_int (nomark _))
          (pss_one (ps_set (i := 2) scFraction.nd rfl (Or.inl rfl) (pe_un un_neg (pv 2))))
          pss_nil)
        (pss_one (ps_ret (pe_tup (pa_cons (pe_op op_fdivZ (pv 0) (pv 2)) (pa_cons (pe_op op_fdivZ (pv 1) (pv 2)) pa_nil))))))), ?_⟩
    have hb : (cmn n d).natAbs < 2 ^ 900 := by
      rw [cmn_abs]
      exact Nat.lt_of_le_of_lt (Nat.le_of_dvd (by omega) (Nat.gcd_dvd_right _ _)) hz
    have hl : (cmn n d).natAbs.log2 < 9000 := Nat.lt_of_lt_of_le (PySem.Flt.log2_lt_of (by decide) hb) (by decide)
    have h0 : cmn n d ≠ 0 := by
      have := cmn_abs n d
      have hg : 0 < Nat.gcd n.natAbs d.natAbs := Nat.gcd_pos_of_pos_right _ (by omega)
      omega
    refine ⟨_, rfl, _, rfl, _, _, rfl, ?_⟩
    refine ⟨fun σ H' => H' = H ∧ σ = [some (.int n), some (.int d), some (.int (cmn n d))], ?_, ?_⟩
    · refine ⟨_, rfl, _, _, rfl, rfl, _, rfl, ite2 (fun c => ?_) (fun c => ?_)⟩
      · refine ⟨_, rfl, _, rfl, rfl, ?_⟩
        have c2 : d < 0 := of_decide_eq_true c
        unfold cmn
        rw [if_pos c2]
        rfl
      · refine ⟨rfl, ?_⟩
        have c2 : ¬ d < 0 := fun z => c (decide_eq_true z)
        unfold cmn
        rw [if_neg c2]
        rfl
    · rintro σ H' ⟨rfl, rfl⟩
      refine ⟨_, rfl, _, rfl, _, _, rfl, rfl, ⟨h0, hl⟩, _, rfl, _, rfl, _, _, rfl, rfl, ⟨h0, hl⟩, (by show 2 ≤ sizeLine; decide), fun p hp => ?_⟩
      exact q p _ _ hp (low_of hd)
/-! ### the law's own reckoning -/
theorem low_one {n d x y x2 y2 : Int} (hd : d ≠ 0) (a : Low n d x y) (b : Low n d x2 y2) : x = x2 ∧ y = y2 := by
  have h : x * y2 = x2 * y := by
    have h1 : (x * y2) * d = (x2 * y) * d := by
      rw [Int.mul_assoc, Int.mul_comm y2, ← Int.mul_assoc, a.eq, Int.mul_assoc x2, Int.mul_comm y d, ← Int.mul_assoc, b.eq, Int.mul_assoc, Int.mul_assoc, Int.mul_comm y]
    exact Int.eq_of_mul_eq_mul_right hd h1
  have hN : x.natAbs * y2.natAbs = x2.natAbs * y.natAbs := by
    rw [← Int.natAbs_mul, ← Int.natAbs_mul, h]
  have c1 : Nat.Coprime x.natAbs y.natAbs := a.cop
  have c2 : Nat.Coprime x2.natAbs y2.natAbs := b.cop
  have d1 : y.natAbs ∣ y2.natAbs := c1.symm.dvd_of_dvd_mul_left (by rw [hN]; exact Nat.dvd_mul_left _ _)
  have d2 : y2.natAbs ∣ y.natAbs := c2.symm.dvd_of_dvd_mul_left (by rw [← hN]; exact Nat.dvd_mul_left _ _)
  have ey : y.natAbs = y2.natAbs := Nat.dvd_antisymm d1 d2
  have p1 := a.pos
  have p2 := b.pos
  have e : y = y2 := by omega
  subst e
  exact ⟨Int.eq_of_mul_eq_mul_right (by omega) h, rfl⟩
def spLowest (K : PySem.W.Frag) : Sp := fun vs H Q _ => ∃ (n d : Int), vs = [.int n, .int d] ∧ d ≠ 0 ∧ n.natAbs < 2 ^ 400 ∧ d.natAbs < 2 ^ 400 ∧ ∀ p x y, H p = none → Low n d x y → Q (.ref p) (upd H p (.tup [.int x, .int y]))
theorem okLawLowest (T : Txt K mg) : FnOk P w K mg base CX0 2 T.fLawLowest T.fdLawLowest ["n", "d"] (spLowest K) := by
  refine T.FLawLowest.ok scLawLowest (fun vs H Q E h => ?_) (fun cdv A outer s H vs Q E hr h => ?_)
  · obtain ⟨n, d, rfl, _⟩ := h
    rfl
  · obtain ⟨n, d, rfl, hd, zn, zd, q⟩ := h
    -- slots n=0 d=1 common=2
    refine ⟨_, (C8.pss_cut (ps_if (pt_cmpR op_lt (pv 1) pe_int (nomark _))
          (pss_cons (ps_set (i := 0) scLawLowest.nd rfl (Or.inl rfl) (pe_op op_sub pe_int (pv 0)))
          (pss_one (ps_set (i := 1) scLawLowest.nd rfl (Or.inl rfl) (pe_op op_sub pe_int (pv 1)))))
          pss_nil)
        (pss_cons (ps_set (i := 2) scLawLowest.nd rfl (Or.inl rfl) (pe_call (okLawGcd T) (hr.mono (by decide)) (by rfl) T.gLawGcd T.FLawGcd.kp T.bLawGcd .nil pass0 (pa_cons (pv 0) (pa_cons (pv 1) pa_nil))))
        (pss_one (ps_ret (pe_tup (pa_cons (pe_op op_fdivZ (pv 0) (pv 2)) (pa_cons (pe_op op_fdivZ (pv 1) (pv 2)) pa_nil))))))), ?_⟩
    refine ⟨fun σ H' => H' = H ∧ ∃ n2 d2 : Int, σ = [some (.int n2), some (.int d2), none] ∧ 0 < d2 ∧ n2.natAbs = n.natAbs ∧ d2.natAbs = d.natAbs ∧ ∀ x y, Low n2 d2 x y → Low n d x y, ?_, ?_⟩
    · refine ⟨_, rfl, _, _, rfl, rfl, _, rfl, ite2 (fun c => ?_) (fun c => ?_)⟩
      · have c2 : d < 0 := of_decide_eq_true c
        refine ⟨_, rfl, _, _, rfl, rfl, _, rfl, _, _, rfl, rfl, rfl, 0 - n, 0 - d, rfl, by omega, by omega, by omega, fun x y L => ?_⟩
        refine ⟨L.pos, ?_, L.cop, by have := L.lx; omega, by have := L.ly; omega⟩
        have e := L.eq
        rw [Int.zero_sub, Int.zero_sub, Int.mul_neg, Int.neg_mul] at e
        omega
      · have c2 : ¬ d < 0 := fun z => c (decide_eq_true z)
        exact ⟨rfl, n, d, rfl, by omega, rfl, rfl, fun _ _ L => L⟩
    · rintro σ H' ⟨rfl, n2, d2, rfl, h0, hn, hd2, hL⟩
      have hz : n2.natAbs * d2.natAbs < 2 ^ 890 := by
        rw [hn, hd2]
        exact Nat.lt_of_le_of_lt (Nat.mul_le_mul (Nat.le_of_lt zn) (Nat.le_of_lt zd)) (by decide)
      have hc : cmn n2 d2 = ((Nat.gcd n2.natAbs d2.natAbs : Nat) : Int) := by
        unfold cmn
        rw [if_neg (by omega)]
      have hg : 0 < Nat.gcd n2.natAbs d2.natAbs := Nat.gcd_pos_of_pos_right _ (by omega)
      have hb : (((Nat.gcd n2.natAbs d2.natAbs : Nat) : Int)).natAbs.log2 < 9000 := by
        refine Nat.lt_of_lt_of_le (PySem.Flt.log2_lt_of (k := 400) (by decide) ?_) (by decide)
        rw [Int.natAbs_natCast]
        refine Nat.lt_of_le_of_lt (Nat.le_of_dvd (by omega) (Nat.gcd_dvd_right _ _)) ?_
        rw [hd2]
        exact zd
      refine ⟨_, rfl, _, rfl, n2, d2, rfl, hz, ?_⟩
      have hne : (((Nat.gcd n2.natAbs d2.natAbs : Nat) : Int)) ≠ 0 := by omega
      refine ⟨_, rfl, _, rfl, _, _, rfl, rfl, ⟨hne, hb⟩, _, rfl, _, rfl, _, _, rfl, rfl, ⟨hne, hb⟩, (by show 2 ≤ sizeLine; decide), fun p hp => ?_⟩
      have L := low_of (n := n2) (d := d2) (by omega)
      rw [hc] at L
      exact q p _ _ hp (hL _ _ L)
theorem fold_lt : ∀ (a : List Nat) (acc : Nat), a.all dig = true → a.foldl (fun acc c => acc * 10 + (c - 48)) acc < (acc + 1) * 10 ^ a.length
  | [], acc, _ => by simp
  | c :: r, acc, h => by
    rw [List.all_cons, Bool.and_eq_true] at h
    have hc : 48 ≤ c ∧ c ≤ 57 := of_decide_eq_true h.1
    refine Nat.lt_of_lt_of_le (fold_lt r (acc * 10 + (c - 48)) h.2) ?_
    rw [List.length_cons, Nat.pow_succ, Nat.mul_comm (10 ^ r.length) 10, ← Nat.mul_assoc]
    exact Nat.mul_le_mul_right _ (by omega)
theorem val_lt {a : List Nat} (h : a.all dig = true) : digitsVal a < 10 ^ a.length := by
  have := fold_lt a 0 h
  rw [Nat.zero_add, Nat.one_mul] at this
  exact this
def isD (a : List Nat) : Bool := !a.isEmpty && a.all dig
theorem isD_of {a : List Nat} (h : isD a = true) : a ≠ [] ∧ a.all dig = true := by
  unfold isD at h
  rw [Bool.and_eq_true] at h
  refine ⟨fun z => ?_, h.2⟩
  rw [z] at h
  exact absurd h.1 (by decide)
theorem pt_S : ("." : Str) = S [46] := by decide +kernel
theorem emp_S : ("" : Str) = S [] := by decide +kernel
theorem str_eq (a : List Nat) : decide (V.str (S a) = V.str ("" : Str)) = a.isEmpty := by
  rw [emp_S]
  cases a with
  | nil => exact decide_eq_true rfl
  | cons c r => exact decide_eq_false fun z => by have := SX.S_inj (V.str.inj z); cases this
def spIsD (K : PySem.W.Frag) : Sp := fun vs H Q _ => ∃ (a : List Nat), vs = [.str (S a)] ∧ a.length ≤ 1000 ∧ ∀ H', Same H H' → Q (.bl (isD a)) H'
theorem okIsDigits (T : Txt K mg) : FnOk P w K mg base CX0 1 T.fIsDigits T.fdIsDigits ["text"] (spIsD K) := by
  refine T.FIsDigits.ok scIsDigits (fun vs H Q E h => ?_) (fun cdv A outer s H vs Q E hr h => ?_)
  · obtain ⟨a, rfl, _⟩ := h
    rfl
  · obtain ⟨a, rfl, ha, q⟩ := h
    -- slots text=0 character=1
    refine ⟨_, (pss_one (ps_ret (pe_and (pe_cmpR op_ne (pv 0) pe_str (nomark _)) (pe_one (pe_callB (cr_all rfl) (by rfl) T.z_all (by decide +kernel) (pa_cons (pe_lc (own := [("character", 1)]) (g := gName 1) (tt := tYes) rfl scIsDigits.nd (pi_str (pv 0)) (blkOk_by (own := [("character", 1)]) (N := ["text", "character"]) (sc := defScope sIsDigits) (by decide +kernel)) (fun _ _ _ _ _ => (pg_name (i := 1) scIsDigits.nd rfl (Or.inl rfl))) (fun _ _ _ _ _ => pts_nil) (fun _ _ _ _ _ => (pe_cmpR op_in_sign (pv 1) (pe_glob (v := (.str "0123456789")) rfl T.g_DIGITS ⟨_, rfl⟩) rfl))) pa_nil)))))), ?_⟩
    refine ⟨_, rfl, rfl, _, rfl, ?_⟩
    rw [str_eq]
    cases he : a.isEmpty with
    | true =>
      have q2 := q H (Same.refl H)
      unfold isD at q2
      rw [he] at q2
      exact iteF q2
    | false =>
      refine iteT ⟨_, rfl, S a, rfl, fun D hD => ?_⟩
      refine lc_it (walk_S (a := a)) (fun i H' => Same H H' ∧ H' D = some (.lst (((a.take i).map dig).map V.bl))) ⟨same_new hD, upd_same⟩ (fun _ _ _ _ => trivial) ?_ ?_
      · rintro i v H1 H2 hi ⟨s1, hD1⟩ ⟨rfl, c, ec, rfl⟩
        refine ⟨rfl, yesT ⟨_, rfl, c, _, rfl, rfl, ((a.take i).map dig).map V.bl, hD1, ?_, same_mut s1 hD, ?_⟩⟩
        · rw [List.length_map, List.length_map, List.length_take]
          exact small1000 (by omega)
        · rw [upd_same, List.take_add_one, ec, dig_mem, List.map_append, List.map_append]
          rfl
      · rintro H1 ⟨s1, hD1⟩
        rw [List.take_length] at hD1
        refine ⟨D, a.map dig, rfl, SqL.of hD1, ?_⟩
        have q2 := q H1 s1
        unfold isD at q2
        rw [he] at q2
        rw [List.all_map]
        exact q2
theorem minus_S : ("-" : Str) = S [45] := by decide +kernel
theorem starts_minus (a : List Nat) : Txt.startswith (S a) "-" = decide (a.head? = some 45) := by
  unfold Txt.startswith
  rw [minus_S, StrLaws.subAt_eq]
  cases a with
  | nil => rfl
  | cons c r =>
    rw [Bool.eq_iff_iff, Bool.and_eq_true]
    simp [S_len]
theorem idx_one {p q : List Nat} {c : Nat} (h : c ∉ p) : Txt.index0 (S (p ++ c :: q)) (S [c]) = some p.length := by
  have at_iff : ∀ k : Nat, StrLaws.At (S (p ++ c :: q)) (S [c]) (S (p ++ c :: q)).length k ↔ (p ++ c :: q)[k]? = some c := fun k => StrLaws.subAt_one (S (p ++ c :: q)) c k
  unfold Txt.index0
  have here : (p ++ c :: q)[p.length]? = some c := by
    rw [List.getElem?_append_right (Nat.le_refl _), Nat.sub_self]
    rfl
  rcases StrLaws.occ_head (S (p ++ c :: q)) (S [c]) 1 (Nat.le_refl _) with ⟨_, hn⟩ | ⟨i, r, e, hi, hk⟩
  · exact absurd ((at_iff p.length).mpr here) (hn p.length)
  · rw [e]
    refine congrArg some ?_
    rcases Nat.lt_trichotomy i p.length with z | z | z
    · have h2 := (at_iff i).mp hi
      rw [List.getElem?_append_left z] at h2
      exact absurd (List.mem_of_getElem? h2) h
    · exact z
    · exact absurd ((at_iff p.length).mpr here) (hk p.length z)
theorem okLawAllDigits (T : Txt K mg) : FnOk P w K mg base CX0 1 T.fLawAllDigits T.fdLawAllDigits ["text"] (spIsD K) := by
  refine T.FLawAllDigits.ok scLawAllDigits (fun vs H Q E h => ?_) (fun cdv A outer s H vs Q E hr h => ?_)
  · obtain ⟨a, rfl, _⟩ := h
    rfl
  · obtain ⟨a, rfl, ha, q⟩ := h
    -- slots text=0 char=1
    refine ⟨_, (pss_cons (ps_for PassesOwn.never rfl (pi_str (pv 0)) (pg_name (i := 1) scLawAllDigits.nd rfl (Or.inl rfl))
          (pss_one (ps_if (pt_cmpR op_notIn_sign (pv 1) pe_str rfl)
            (pss_one (ps_ret pe_bl))
            pss_nil)))
        (pss_one (ps_ret (pe_cmpR op_gt (pe_callB call_len_str (by rfl) T.z_len PySem.boot_len (pa_cons (pv 0) pa_nil)) pe_int (nomark _))))), ?_⟩
    refine ⟨_, rfl, S a, rfl, for_it (walk_S (a := a)) (fun i σ H' => H' = H ∧ (∀ y ∈ a.take i, dig y = true) ∧ ∃ c1, σ = [some (.str (S a)), c1]) ⟨rfl, (fun x h => by simp at h), _, rfl⟩ (fun _ _ _ _ _ => trivial) ?_ ?_⟩
    · rintro i v σ H1 H2 hi ⟨rfl, hall, c1, rfl⟩ ⟨rfl, c, ec, rfl⟩
      refine ⟨_, rfl, c, _, rfl, rfl, _, rfl, ?_⟩
      rw [dig_mem]
      cases hc : dig c with
      | false =>
        have q2 := q H2 (Same.refl _)
        have : a.all dig = false := by
          rw [← Bool.not_eq_true]
          intro z
          rw [List.all_eq_true.mp z c (List.mem_of_getElem? ec)] at hc
          cases hc
        unfold isD at q2
        rw [this, Bool.and_false] at q2
        exact iteT q2
      | true =>
        refine iteF ⟨rfl, fun y hy => ?_, some (.str (S [c])), rfl⟩
        rw [List.take_add_one, ec] at hy
        rcases List.mem_append.mp hy with h | h
        · exact hall y h
        · obtain rfl : y = c := by simpa using h
          exact hc
    · rintro σ H1 ⟨rfl, hall, c1, rfl⟩
      rw [List.take_length] at hall
      have q2 := q H1 (Same.refl _)
      unfold isD at q2
      rw [List.all_eq_true.mpr hall, Bool.and_true] at q2
      refine ⟨_, rfl, S a, rfl, by rw [S_len]; exact sz100 (by omega), _, _, rfl, rfl, ?_⟩
      rw [S_len]
      have e : decide ((0 : Int) < (a.length : Int)) = !a.isEmpty := by
        cases a with
        | nil => rfl
        | cons c r => exact decide_eq_true (by rw [List.length_cons]; omega)
      show Q (.bl (decide ((0 : Int) < (a.length : Int)))) H1
      rw [e]
      exact q2
theorem take1_minus (a : List Nat) : decide (V.str (S (a.take 1)) = V.str ("-" : Str)) = decide (a.head? = some 45) := by
  rw [minus_S]
  refine decide_eq_decide.mpr ?_
  cases a with
  | nil => simp
  | cons c r =>
    refine ⟨fun z => ?_, fun z => ?_⟩
    · have := SX.S_inj (V.str.inj z)
      simp at this
      simp [this]
    · have : c = 45 := by simpa using z
      rw [this]
      rfl
/-- a fraction in range -/
structure Fr (n d : Int) : Prop where
  lo : -1000000000000000000 ≤ n
  hi : n ≤ 1000000000000000000
  pos : 0 < d
  top : d ≤ 1000000000000000000
theorem item_of {ns : List Int} {k : Int} (h0 : 0 ≤ k) (h1 : k < ns.length) : ∃ v ∈ ns, atI (ns.map V.int) k = some (.int v) := by
  obtain ⟨j, rfl⟩ := Int.eq_ofNat_of_zero_le h0
  have hj : j < ns.length := by omega
  exact ⟨ns.getD j 0, by rw [List.getD_eq_getElem?_getD, List.getElem?_eq_getElem hj]; exact List.getElem_mem hj, atI_nat (getD_at hj)⟩
def spFrac (K : PySem.W.Frag) : Sp := fun vs H Q _ => ∃ (b : Addr), vs = [.ref b] ∧ Box H b ∧ ∀ p x y H', Box H' b → Kp b H H' → H' p = some (.tup [.int x, .int y]) → Fr x y → Nat.gcd x.natAbs y.natAbs = 1 → p ≠ b → Q (.ref p) H'
theorem okLawFraction (T : Txt K mg) : FnOk P w K mg base CX0 3 T.fLawFraction T.fdLawFraction ["box"] (spFrac K) := by
  refine T.FLawFraction.ok scLawFraction (fun vs H Q E h => ?_) (fun cdv A outer s H vs Q E hr h => ?_)
  · obtain ⟨b, rfl, _⟩ := h
    rfl
  · obtain ⟨b, rfl, B, q⟩ := h
    -- slots box=0 kind=1 n=2 d=3
    refine ⟨_, (pss_cons (ps_set (i := 1) scLawFraction.nd rfl (Or.inl rfl) (pe_call (okLawDraw T) (hr.mono (by decide)) (by rfl) T.gLawDraw T.FLawDraw.kp T.bLawDraw .nil pass0 (pa_cons (pv 0) (pa_cons pe_int pa_nil))))
        (pss_cons (ps_set (i := 2) scLawFraction.nd rfl (Or.inl rfl) (pe_call (okLawBig T) (hr.mono (by decide)) (by rfl) T.gLawBig T.FLawBig.kp T.bLawBig .nil pass0 (pa_cons (pv 0) (pa_cons (pe_ix ix_list (pe_lst (pa_cons pe_int (pa_cons pe_int (pa_cons pe_int (pa_cons pe_int (pa_cons pe_int (pa_cons pe_int pa_nil))))))) (pv 1) (fun _ _ => rfl)) pa_nil))))
        (pss_cons (ps_set (i := 3) scLawFraction.nd rfl (Or.inl rfl) (pe_op op_add pe_int (pe_call (okLawBig T) (hr.mono (by decide)) (by rfl) T.gLawBig T.FLawBig.kp T.bLawBig .nil pass0 (pa_cons (pv 0) (pa_cons (pe_ix ix_list (pe_lst (pa_cons pe_int (pa_cons pe_int (pa_cons pe_int (pa_cons pe_int (pa_cons pe_int (pa_cons pe_int pa_nil))))))) (pv 1) (fun _ _ => rfl)) pa_nil)))))
        (C8.pss_cut (ps_if (pt_cmpR op_eq (pv 1) pe_int (nomark _))
          (pss_one (ps_set (i := 2) scLawFraction.nd rfl (Or.inl rfl) (pe_op op_mod (pe_callTy call_int1 (by rfl) T.z_int (by decide +kernel) (pa_cons (pv 2) pa_nil)) pe_int)))
          pss_nil)
        (C8.pss_cut (ps_if (pt_cmpR op_eq (pv 1) pe_int (nomark _))
          (pss_cons (ps_set (i := 2) scLawFraction.nd rfl (Or.inl rfl) (pe_op op_sub (pe_op op_pow pe_int pe_int) (pe_call (okLawDraw T) (hr.mono (by decide)) (by rfl) T.gLawDraw T.FLawDraw.kp T.bLawDraw .nil pass0 (pa_cons (pv 0) (pa_cons pe_int pa_nil)))))
          (pss_one (ps_set (i := 3) scLawFraction.nd rfl (Or.inl rfl) (pe_ix ix_list (pe_lst (pa_cons pe_int (pa_cons pe_int (pa_cons pe_int (pa_cons (pe_op op_pow pe_int pe_int) pa_nil))))) (pe_call (okLawDraw T) (hr.mono (by decide)) (by rfl) T.gLawDraw T.FLawDraw.kp T.bLawDraw .nil pass0 (pa_cons (pv 0) (pa_cons pe_int pa_nil))) (fun _ _ => rfl)))))
          pss_nil)
        (C8.pss_cut (ps_if (pt_cmpR op_eq (pe_call (okLawDraw T) (hr.mono (by decide)) (by rfl) T.gLawDraw T.FLawDraw.kp T.bLawDraw .nil pass0 (pa_cons (pv 0) (pa_cons pe_int pa_nil))) pe_int (nomark _))
          (pss_one (ps_set (i := 2) scLawFraction.nd rfl (Or.inl rfl) (pe_op op_sub pe_int (pv 2))))
          pss_nil)
        (pss_one (ps_ret (pe_call (okLawLowest T) (hr.mono (by decide)) (by rfl) T.gLawLowest T.FLawLowest.kp T.bLawLowest .nil pass0 (pa_cons (pv 2) (pa_cons (pv 3) pa_nil))))))))))), ?_⟩
    have pw : ∀ m : Int, 0 ≤ m → m ≤ 6 → (1000 : Int) ^ m.toNat ≤ 10 ^ 18 := fun m h0 h1 => by
      have e : m = 0 ∨ m = 1 ∨ m = 2 ∨ m = 3 ∨ m = 4 ∨ m = 5 ∨ m = 6 := by omega
      rcases e with rfl | rfl | rfl | rfl | rfl | rfl | rfl <;> decide
    refine ⟨_, rfl, b, 6, rfl, by decide, B, fun kd H1 k0 k6 B1 w1 => ?_⟩
    -- n
    refine ⟨_, rfl, (by show 6 ≤ sizeLine; decide), fun l hl => ?_⟩
    obtain ⟨v, hv, ev⟩ := item_of (ns := [1, 1, 2, 3, 6, 6]) k0 k6
    have v06 : 0 ≤ v ∧ v ≤ 6 := by
      simp only [List.mem_cons, List.not_mem_nil, or_false] at hv
      omega
    refine ⟨_, rfl, l, _, _, _, rfl, rfl, SqL.of upd_same, ev, b, v, rfl, v06.1, by omega, B1.same (same_new hl), fun n H2 n0 n1 B2 w2 => ?_⟩
    have w12 := (w1.trans (Kp.of (same_new hl))).trans w2
    have bn := pw v v06.1 v06.2
    -- d
    refine ⟨_, rfl, (by show 6 ≤ sizeLine; decide), fun l2 hl2 => ?_⟩
    obtain ⟨v2, hv2, ev2⟩ := item_of (ns := [0, 1, 1, 2, 6, 2]) k0 k6
    have v26 : 0 ≤ v2 ∧ v2 ≤ 6 := by
      simp only [List.mem_cons, List.not_mem_nil, or_false] at hv2
      omega
    refine ⟨_, rfl, l2, _, _, _, rfl, rfl, SqL.of upd_same, ev2, b, v2, rfl, v26.1, by omega, B2.same (same_new hl2), fun d H3 d0 d1 B3 w3 => ⟨_, _, rfl, rfl, ?_⟩⟩
    have w13 := (w12.trans (Kp.of (same_new hl2))).trans w3
    have bd := pw v2 v26.1 v26.2
    -- if kind == 0
    refine ⟨fun σ H' => H' = H3 ∧ ∃ n : Int, σ = [some (.ref b), some (.int kd), some (.int n), some (.int (1 + d))] ∧ 0 ≤ n ∧ n ≤ 10 ^ 18, ?_, ?_⟩
    · refine ⟨_, rfl, rfl, _, rfl, ite2 (fun c => ?_) (fun c => ?_)⟩
      · exact ⟨_, rfl, .inl ⟨_, rfl, _, _, rfl, rfl, (by show (0 : Int) < _; decide), rfl, _, rfl, by omega, by omega⟩⟩
      · exact ⟨rfl, n, rfl, n0, by omega⟩
    clear n0 n1 bn
    rintro σ H4 ⟨rfl, n, rfl, n0, n1⟩
    -- if kind == 5
    refine ⟨fun σ H' => Box H' b ∧ Kp b H H' ∧ ∃ n d : Int, σ = [some (.ref b), some (.int kd), some (.int n), some (.int d)] ∧ 0 ≤ n ∧ n ≤ 10 ^ 18 ∧ 1 ≤ d ∧ d ≤ 10 ^ 18, ?_, ?_⟩
    · refine ⟨_, rfl, rfl, _, rfl, ite2 (fun c => ?_) (fun c => ?_)⟩
      · refine ⟨_, _, rfl, rfl, ⟨by decide, by decide, by decide⟩, _, rfl, b, 3, rfl, by decide, B3, fun e H5 e0 e3 B5 w5 => ⟨_, _, rfl, rfl, ?_⟩⟩
        refine ⟨_, _, rfl, rfl, ⟨by decide, by decide, by decide⟩, (by show 4 ≤ sizeLine; decide), fun l3 hl3 => ?_⟩
        refine ⟨_, rfl, b, 4, rfl, by decide, B5.same (same_new hl3), fun k4 H6 f0 f4 B6 w6 => ?_⟩
        obtain ⟨v3, hv3, ev3⟩ := item_of (ns := [1, 2, 3, 10 ^ 18]) f0 f4
        have v36 : 1 ≤ v3 ∧ v3 ≤ 10 ^ 18 := by
          simp only [List.mem_cons, List.not_mem_nil, or_false] at hv3
          omega
        have nb3 : l3 ≠ b := fun z => by
          obtain ⟨_, _, _, hb, _, _⟩ := B5
          rw [z, hb] at hl3
          cases hl3
        refine ⟨l3, _, _, _, rfl, rfl, SqL.of (w6 _ _ nb3 upd_same), ev3, ?_⟩
        exact ⟨B6, ((w13.trans w5).trans (Kp.of (same_new hl3))).trans w6, _, _, rfl, by show (0 : Int) ≤ 10 ^ 18 - e; omega, by show (10 ^ 18 : Int) - e ≤ 10 ^ 18; omega, v36.1, v36.2⟩
      · exact ⟨B3, w13, n, 1 + d, rfl, n0, n1, by omega, by omega⟩
    clear n0 n1 bd d0 d1
    rintro σ H7 ⟨B7, w7, n, d, rfl, n0, n1, d0, d1⟩
    -- if _law_draw(box, 2) == 1
    refine ⟨fun σ H' => Box H' b ∧ Kp b H H' ∧ ∃ n : Int, σ = [some (.ref b), some (.int kd), some (.int n), some (.int d)] ∧ -10 ^ 18 ≤ n ∧ n ≤ 10 ^ 18, ?_, ?_⟩
    · refine ⟨_, rfl, b, 2, rfl, by decide, B7, fun y H8 y0 y1 B8 w8 => ⟨rfl, _, rfl, ite2 (fun _ => ?_) (fun _ => ?_)⟩⟩
      · exact ⟨_, rfl, _, _, rfl, rfl, B8, w7.trans w8, 0 - n, rfl, by omega, by omega⟩
      · exact ⟨B8, w7.trans w8, n, rfl, by omega, n1⟩
    clear n0 n1
    rintro σ H9 ⟨B9, w9, n, rfl, n0, n1⟩
    have zn : n.natAbs < 2 ^ 400 := Nat.lt_trans (show n.natAbs < 2 ^ 61 by omega) (by decide)
    have zd : d.natAbs < 2 ^ 400 := Nat.lt_trans (show d.natAbs < 2 ^ 61 by omega) (by decide)
    refine ⟨_, rfl, _, rfl, n, d, rfl, by omega, zn, zd, fun p x y hp L => ?_⟩
    have nb : p ≠ b := fun z => by
      obtain ⟨_, _, _, hb, _, _⟩ := B9
      rw [z, hb] at hp
      cases hp
    refine q p x y _ (B9.same (same_new hp)) (w9.trans (Kp.of (same_new hp))) upd_same ⟨?_, ?_, L.pos, ?_⟩ L.cop nb
    · have := L.lx
      omega
    · have := L.lx
      omega
    · have := L.ly
      omega
/-! ### fractions as texts -/
def preC (s : Nat) (a : List Nat) : List Nat := a.takeWhile fun c => decide (c ≠ s)
def postC (s : Nat) (a : List Nat) : List Nat := a.drop ((preC s a).length + 1)
theorem preC_app {s : Nat} {p q : List Nat} (h : s ∉ p) : preC s (p ++ s :: q) = p ∧ postC s (p ++ s :: q) = q := by
  have e : ∀ p : List Nat, s ∉ p → preC s (p ++ s :: q) = p := by
    intro p
    induction p with
    | nil => intro _; simp [preC]
    | cons c r ih =>
      intro h
      have hc : c ≠ s := fun z => h (by rw [z]; exact List.mem_cons_self)
      have e := ih fun z => h (List.mem_cons_of_mem _ z)
      unfold preC at e ⊢
      rw [List.cons_append, List.takeWhile_cons, if_pos (decide_eq_true hc), e]
  refine ⟨e p h, ?_⟩
  unfold postC
  rw [e p h, ← List.drop_drop]
  rw [List.drop_left]
  rfl
theorem splitC {s : Nat} : ∀ {a : List Nat}, s ∈ a → a = preC s a ++ s :: postC s a ∧ s ∉ preC s a
  | [], h => by simp at h
  | c :: r, h => by
    by_cases hc : c = s
    · subst hc
      exact ⟨by simp [preC, postC], by simp [preC]⟩
    · have h2 : s ∈ r := by
        rcases List.mem_cons.mp h with z | z
        · exact absurd z.symm hc
        · exact z
      obtain ⟨e1, e2⟩ := splitC h2
      have e3 : preC s (c :: r) = c :: preC s r := by
        unfold preC
        rw [List.takeWhile_cons, if_pos (decide_eq_true hc)]
      have e4 : postC s (c :: r) = postC s r := by
        unfold postC
        rw [e3, List.length_cons, List.drop_succ_cons]
      rw [e3, e4]
      refine ⟨by rw [List.cons_append, ← e1], fun z => ?_⟩
      rcases List.mem_cons.mp z with y | y
      · exact hc y.symm
      · exact e2 y
theorem noneC {s : Nat} {a : List Nat} (h : s ∉ a) : preC s a = a := tw_self fun x hx => decide_eq_true fun z => h (z ▸ hx)
theorem lenC (s : Nat) (a : List Nat) : (preC s a).length ≤ a.length ∧ (postC s a).length ≤ a.length := ⟨tw_le a, by unfold postC; rw [List.length_drop]; omega⟩
def sI (i : Int) : List Nat := if i < 0 then 45 :: numL i.natAbs else numL i.natAbs
theorem str_int (i : Int) : (Str.ofString (toString i)) = S (sI i) := by
  unfold sI
  cases i with
  | ofNat n =>
    rw [if_neg (by show ¬ ((n : Int) < 0); omega)]
    exact num_S n
  | negSucc m =>
    rw [if_pos (Int.negSucc_lt_zero m)]
    refine TL.ext_tl ?_
    have e : toString (Int.negSucc m) = "-" ++ Nat.repr (m + 1) := rfl
    have e2 := TL.tl_num (m + 1)
    rw [TL.tl_ofString] at e2
    rw [TL.tl_ofString, e, String.toList_append, List.map_append]
    have e3 : (toString (((m + 1 : Nat)) : Int)) = Nat.repr (m + 1) := rfl
    rw [e3] at e2
    rw [e2]
    rfl
def showS (x y : Int) : List Nat := if y = 1 then sI x else sI x ++ 47 :: sI y
theorem numL_head : ∀ n : Nat, 0 < n → (numL n).head? ≠ some 48 := by
  intro n
  induction n using Nat.strongRecOn with
  | _ n ih =>
    intro h0
    rcases Nat.lt_or_ge n 10 with h | h
    · rw [TL.numL_lt h]
      intro z
      have := Option.some.inj z
      omega
    · have h2 := ih (n / 10) (by omega) (by omega)
      have hne := TL.numL_ne (n / 10)
      rw [TL.numL_step h]
      cases e : numL (n / 10) with
      | nil => exact absurd e hne
      | cons c r =>
        rw [e] at h2
        exact h2
def plainB (a : List Nat) : Bool := isD a && decide (numL (digitsVal a) = a)
theorem plain_of {a : List Nat} (h : plainB a = true) : isD a = true ∧ numL (digitsVal a) = a := by
  unfold plainB at h
  rw [Bool.and_eq_true] at h
  exact ⟨h.1, of_decide_eq_true h.2⟩
theorem chr_back : ∀ c, c < 128 → (Char.ofNat c).toNat = c := by decide
theorem plainB_eq (a : List Nat) : plainB a = (decide (a = [48]) || (isD a && !decide (a.head? = some 48))) := by
  by_cases h1 : a = [48]
  · subst h1
    decide +kernel
  rw [decide_eq_false h1, Bool.false_or]
  unfold plainB
  cases h2 : isD a with
  | false => rfl
  | true =>
    rw [Bool.true_and, Bool.true_and]
    obtain ⟨h3, h4⟩ := isD_of h2
    cases a with
    | nil => exact absurd rfl h3
    | cons c r =>
      by_cases hc : c = 48
      · subst hc
        rw [show decide ((48 :: r).head? = some 48) = true from decide_eq_true rfl]
        refine decide_eq_false fun z => ?_
        rcases Nat.eq_zero_or_pos (digitsVal (48 :: r)) with y | y
        · rw [y] at z
          exact h1 z.symm
        · have := numL_head _ y
          rw [z] at this
          exact this rfl
      · rw [show decide ((c :: r).head? = some 48) = false from decide_eq_false fun z => hc (Option.some.inj z)]
        refine decide_eq_true ?_
        have hd := dig_all h4
        have e := PySem.NumText.toDigits_digitsVal r.length (c :: r) rfl hd (Or.inr ⟨c, r, rfl, by have := hd.head; omega⟩)
        unfold TL.numL
        rw [e, List.map_map]
        have : ∀ l : List Nat, (∀ x ∈ l, x < 128) → l.map (Char.toNat ∘ Char.ofNat) = l := fun l => by
          induction l with
          | nil => intro _; rfl
          | cons y t ih =>
            intro hl
            rw [List.map_cons, ih fun x hx => hl x (List.mem_cons_of_mem _ hx)]
            show (Char.ofNat y).toNat :: t = y :: t
            rw [chr_back y (hl y List.mem_cons_self)]
        exact this _ fun x hx => by have := hd x hx; omega
def bodyN (a : List Nat) : List Nat := if a.head? = some 45 then a.drop 1 else a
def sgn (a : List Nat) (n : Int) : Int := if a.head? = some 45 then -n else n
theorem body_eq (a : List Nat) : a = if a.head? = some 45 then 45 :: bodyN a else bodyN a := by
  unfold bodyN
  split
  · rename_i h
    cases a with
    | nil => cases h
    | cons c r =>
      have : c = 45 := Option.some.inj h
      rw [this]
      rfl
  · rfl
structure OkS (a : List Nat) : Prop where
  po : plainB (preC 47 (bodyN a)) = true
  sl : 47 ∈ bodyN a → plainB (postC 47 (bodyN a)) = true ∧ postC 47 (bodyN a) ≠ [49] ∧ postC 47 (bodyN a) ≠ [48] ∧ Nat.gcd (digitsVal (preC 47 (bodyN a))) (digitsVal (postC 47 (bodyN a))) = 1
  nz : ¬ (a.head? = some 45 ∧ preC 47 (bodyN a) = [48])
def numS (a : List Nat) : Int := sgn a ((digitsVal (preC 47 (bodyN a)) : Nat) : Int)
def denS (a : List Nat) : Int := if 47 ∈ bodyN a then ((digitsVal (postC 47 (bodyN a)) : Nat) : Int) else 1
theorem free47 (i : Int) : 47 ∉ sI i := by
  unfold sI
  have h := TL.numL_free (n := i.natAbs) (s := 47) (.inl (by decide))
  split
  · intro z
    rcases List.mem_cons.mp z with y | y
    · cases y
    · exact h y
  · exact h
theorem sI_nat (n : Nat) : sI (n : Int) = numL n := by
  unfold sI
  rw [if_neg (by omega)]
  rfl
theorem sI_neg {n : Nat} (h : 0 < n) : sI (-(n : Int)) = 45 :: numL n := by
  unfold sI
  rw [if_pos (by omega), show (-(n : Int)).natAbs = n by omega]
theorem numL_inj0 {a : List Nat} (h : plainB a = true) (h0 : digitsVal a = 0) : a = [48] := by
  have := (plain_of h).2
  rw [h0] at this
  exact this.symm
/-- shown as it stands: no bar -/
theorem showA {a : List Nat} (hb : 47 ∉ bodyN a) (hd : isD (bodyN a) = true) : showS (sgn a ((digitsVal (bodyN a) : Nat) : Int)) 1 = a ↔ OkS a := by
  have ep := noneC hb
  have ea := body_eq a
  have hs : showS (sgn a ((digitsVal (bodyN a) : Nat) : Int)) 1 = sI (sgn a ((digitsVal (bodyN a) : Nat) : Int)) := if_pos rfl
  rw [hs]
  by_cases hm : a.head? = some 45
  · rw [if_pos hm] at ea
    unfold sgn
    rw [if_pos hm]
    refine ⟨fun z => ?_, fun ⟨p1, _, p3⟩ => ?_⟩
    · rcases Nat.eq_zero_or_pos (digitsVal (bodyN a)) with y | y
      · rw [y] at z
        rw [ea] at z
        have : (48 : Nat) = 45 := by
          have z2 : [48] = 45 :: bodyN a := z
          injection z2
        omega
      · rw [sI_neg y] at z
        have z2 : numL (digitsVal (bodyN a)) = bodyN a := by
          have z3 := z.trans ea
          injection z3
        refine ⟨?_, fun w => absurd w hb, fun w => ?_⟩
        · rw [ep]
          unfold plainB
          rw [hd, decide_eq_true z2]
          rfl
        · rw [ep] at w
          rw [w.2] at y
          exact absurd y (by decide)
    · rw [ep] at p1 p3
      rcases Nat.eq_zero_or_pos (digitsVal (bodyN a)) with y | y
      · exact absurd ⟨hm, numL_inj0 p1 y⟩ p3
      · rw [sI_neg y, (plain_of p1).2]
        exact ea.symm
  · rw [if_neg hm] at ea
    unfold sgn
    rw [if_neg hm, sI_nat]
    refine ⟨fun z => ?_, fun ⟨p1, _, p3⟩ => ?_⟩
    · refine ⟨?_, fun w => absurd w hb, fun w => hm w.1⟩
      rw [ep]
      unfold plainB
      rw [hd, decide_eq_true (z.trans ea)]
      rfl
    · rw [ep] at p1
      rw [(plain_of p1).2]
      exact ea.symm
/-- shown as it stands: with a bar -/
theorem showB {a : List Nat} {x y : Int} (hb : 47 ∈ bodyN a) (h1 : isD (preC 47 (bodyN a)) = true) (h2 : isD (postC 47 (bodyN a)) = true) (h3 : 0 < digitsVal (postC 47 (bodyN a)))
    (L : Low ((digitsVal (preC 47 (bodyN a)) : Nat) : Int) ((digitsVal (postC 47 (bodyN a)) : Nat) : Int) x y) :
    (showS (sgn a x) y = a ↔ OkS a) ∧ (OkS a → x = ((digitsVal (preC 47 (bodyN a)) : Nat) : Int) ∧ y = ((digitsVal (postC 47 (bodyN a)) : Nat) : Int)) := by
  obtain ⟨eb, hf⟩ := splitC hb
  have ea := body_eq a
  have huniq : OkS a → x = ((digitsVal (preC 47 (bodyN a)) : Nat) : Int) ∧ y = ((digitsVal (postC 47 (bodyN a)) : Nat) : Int) := fun o => by
    refine low_one (by omega) L ⟨by omega, rfl, ?_, Nat.le_refl _, Nat.le_refl _⟩
    rw [Int.natAbs_natCast, Int.natAbs_natCast]
    exact (o.sl hb).2.2.2
  refine ⟨?_, huniq⟩
  have hx0 : 0 ≤ x := by
    rcases Int.lt_or_le x 0 with z | z
    · have e := L.eq
      have e1 : x * ((digitsVal (postC 47 (bodyN a)) : Nat) : Int) < 0 := Int.mul_neg_of_neg_of_pos z (by omega)
      have e2 : 0 ≤ ((digitsVal (preC 47 (bodyN a)) : Nat) : Int) * y := Int.mul_nonneg (by omega) (by have := L.pos; omega)
      omega
    · exact z
  obtain ⟨m, rfl⟩ := Int.eq_ofNat_of_zero_le hx0
  obtain ⟨k, rfl⟩ := Int.eq_ofNat_of_zero_le (show 0 ≤ y by have := L.pos; omega)
  have k0 : 0 < k := by have := L.pos; omega
  generalize eP : preC 47 (bodyN a) = P at *
  generalize eR : postC 47 (bodyN a) = R at *
  have inA : 47 ∈ a := by
    rw [ea]
    split
    · exact List.mem_cons_of_mem _ hb
    · exact hb
  by_cases hk : k = 1
  · refine ⟨fun z => ?_, fun o => ?_⟩
    · exfalso
      have e : showS (sgn a (m : Int)) (k : Int) = sI (sgn a (m : Int)) := if_pos (by rw [hk]; rfl)
      rw [e] at z
      rw [← z] at inA
      exact free47 _ inA
    · exfalso
      have hu := (huniq o).2
      have s := o.sl hb
      rw [eR] at s
      have : digitsVal R = 1 := by omega
      have := (plain_of s.1).2
      rw [show digitsVal R = 1 by omega] at this
      exact s.2.1 this.symm
  · have e : showS (sgn a (m : Int)) (k : Int) = sI (sgn a (m : Int)) ++ 47 :: numL k := by
      unfold showS
      rw [if_neg (by omega), sI_nat]
    rw [e]
    have m0 : 0 < m := by
      rcases Nat.eq_zero_or_pos m with z | z
      · subst z
        have c := L.cop
        simp at c
        exact absurd c hk
      · exact z
    have fm := TL.numL_free (n := m) (s := 47) (.inl (by decide))
    have core : numL m ++ 47 :: numL k = bodyN a ↔ (numL m = P ∧ numL k = R) := by
      rw [eb]
      refine ⟨fun z => ?_, fun ⟨z1, z2⟩ => by rw [z1, z2]⟩
      have q1 := preC_app (q := numL k) fm
      have q2 := preC_app (q := R) hf
      rw [z] at q1
      exact ⟨q1.1.symm.trans q2.1, q1.2.symm.trans q2.2⟩
    have fin : (numL m = P ∧ numL k = R) ↔ OkS a := by
      refine ⟨fun ⟨z1, z2⟩ => ?_, fun o => ?_⟩
      · have v1 : digitsVal P = m := by rw [← z1, TL.numL_val]
        have v2 : digitsVal R = k := by rw [← z2, TL.numL_val]
        refine ⟨?_, fun _ => ?_, fun w => ?_⟩
        · rw [eP]
          unfold plainB
          rw [h1, v1, decide_eq_true z1]
          rfl
        · rw [eP, eR]
          refine ⟨?_, fun w => ?_, fun w => ?_, ?_⟩
          · unfold plainB
            rw [h2, v2, decide_eq_true z2]
            rfl
          · rw [w] at v2
            exact hk v2.symm
          · rw [w] at v2
            exact absurd v2.symm (by show ¬ k = 0; omega)
          · rw [v1, v2]
            have c := L.cop
            rwa [Int.natAbs_natCast, Int.natAbs_natCast] at c
        · rw [eP] at w
          rw [w.2] at v1
          exact absurd v1.symm (by show ¬ m = 0; omega)
      · obtain ⟨u1, u2⟩ := huniq o
        have p1 := o.po
        have p2 := (o.sl hb).1
        rw [eP] at p1
        rw [eR] at p2
        have w1 : m = digitsVal P := by omega
        have w2 : k = digitsVal R := by omega
        exact ⟨by rw [w1]; exact (plain_of p1).2, by rw [w2]; exact (plain_of p2).2⟩
    rw [← fin, ← core]
    unfold sgn
    by_cases hm : a.head? = some 45
    · rw [if_pos hm, sI_neg m0]
      rw [if_pos hm] at ea
      refine ⟨fun z => ?_, fun z => ?_⟩
      · have z3 := z.trans ea
        rw [List.cons_append] at z3
        injection z3
      · rw [List.cons_append, z]
        exact ea.symm
    · rw [if_neg hm, sI_nat]
      rw [if_neg hm] at ea
      rw [← ea]
theorem bar_S : ("/" : Str) = S [47] := by decide +kernel
theorem numL_lt10 {n k : Nat} (hk : 0 < k) (h : n < 10 ^ k) : (numL n).length ≤ k := TL.numL_len hk h
theorem sI_len {i : Int} (h : i.natAbs < 10 ^ 200) : (sI i).length ≤ 201 := by
  have := TL.numL_len (k := 200) (by decide) h
  unfold sI
  split
  · rw [List.length_cons]
    omega
  · omega
theorem log_big {n : Int} (h : n.natAbs < 10 ^ 200) : n.natAbs.log2 < 1920 := Nat.lt_of_lt_of_le (PySem.Flt.log2_lt_of (k := 700) (by decide) (Nat.lt_trans h (by decide +kernel))) (by decide)
theorem len_add {u v : List Nat} (h1 : u.length ≤ 1000) (h2 : v.length ≤ 1000) : (S u).length + (S v).length ≤ sizeLine := by
  rw [S_len, S_len]
  exact sz100 (by omega)
def spShow (K : PySem.W.Frag) : Sp := fun vs H Q _ => ∃ (p : Addr) (x y : Int), vs = [.ref p] ∧ SqT K H p [.int x, .int y] ∧ x.natAbs < 10 ^ 200 ∧ y.natAbs < 10 ^ 200 ∧ Q (.str (S (showS x y))) H
theorem okShow (T : Txt K mg) : FnOk P w K mg base CX0 1 T.fShow T.fdShow ["x"] (spShow K) := by
  refine T.FShow.ok scShow (fun vs H Q E h => ?_) (fun cdv A outer s H vs Q E hr h => ?_)
  · obtain ⟨p, x, y, rfl, _⟩ := h
    rfl
  · obtain ⟨p, x, y, rfl, hp, hx, hy, q⟩ := h
    -- slots x=0
    refine ⟨_, (pss_cons (ps_if (pt_cmpR op_eq (pe_ix ix_tup (pv 0) pe_int (fun _ _ => rfl)) pe_int (nomark _))
          (pss_one (ps_ret (pe_callTy call_str_int (by rfl) T.z_str (by decide +kernel) (pa_cons (pe_ix ix_tup (pv 0) pe_int (fun _ _ => rfl)) pa_nil))))
          pss_nil)
        (pss_one (ps_ret (pe_op op_add_str (pe_op op_add_str (pe_callTy call_str_int (by rfl) T.z_str (by decide +kernel) (pa_cons (pe_ix ix_tup (pv 0) pe_int (fun _ _ => rfl)) pa_nil)) pe_str) (pe_callTy call_str_int (by rfl) T.z_str (by decide +kernel) (pa_cons (pe_ix ix_tup (pv 0) pe_int (fun _ _ => rfl)) pa_nil)))))), ?_⟩
    have lx := sI_len hx
    have ly := sI_len hy
    refine ⟨_, rfl, p, _, _, _, rfl, rfl, hp, atI_nat (j := 1) rfl, rfl, _, rfl, ite2 (fun c => ?_) (fun c => ?_)⟩
    · have hy1 : y = 1 := V.int.inj (of_decide_eq_true c)
      refine ⟨_, rfl, p, _, _, _, rfl, rfl, hp, atI_nat (j := 0) rfl, _, rfl, log_big hx, ?_⟩
      unfold showS at q
      rw [if_pos hy1, ← str_int] at q
      exact q
    · have hy1 : y ≠ 1 := fun z => c (decide_eq_true (congrArg V.int z))
      refine ⟨_, rfl, p, _, _, _, rfl, rfl, hp, atI_nat (j := 0) rfl, _, rfl, log_big hx, S (sI x), S [47], congrArg V.str (str_int x), congrArg V.str bar_S, len_add (by omega) (by simp), ?_⟩
      refine ⟨_, rfl, p, _, _, _, rfl, rfl, hp, atI_nat (j := 1) rfl, _, rfl, log_big hy, S (sI x ++ [47]), S (sI y), congrArg V.str (S_cat _ _), congrArg V.str (str_int y), len_add (by rw [List.length_append]; simp; omega) (by omega), ?_⟩
      unfold showS at q
      rw [if_neg hy1] at q
      rw [S_cat, List.append_assoc]
      exact q
def spShown (K : PySem.W.Frag) : Sp := fun vs H Q _ => ∃ (a : List Nat), vs = [.str (S a)] ∧ a.length ≤ 100 ∧ (¬ OkS a → ∀ H', Same H H' → Q .non H') ∧ (OkS a → ∀ p H', Same H H' → H' p = some (.tup [.int (numS a), .int (denS a)]) → Q (.ref p) H')
theorem body_len (a : List Nat) : (bodyN a).length ≤ a.length := by
  unfold bodyN
  split
  · rw [List.length_drop]
    omega
  · exact Nat.le_refl _
theorem rmp (a : List Nat) : Txt.removeprefix (S a) "-" = S (bodyN a) := by
  rw [StrLaws.removeprefix_eq]
  have e := starts_minus a
  unfold Txt.startswith at e
  rw [e]
  unfold bodyN
  by_cases h : a.head? = some 45
  · rw [decide_eq_true h, if_pos rfl, if_pos h]
    have e1 : (("-" : Str)).length = 1 := by decide +kernel
    rw [e1, S_len]
    show S ((a.drop 1).take (a.length - 1)) = S (a.drop 1)
    rw [List.take_of_length_le (by rw [List.length_drop]; exact Nat.le_refl _)]
  · rw [decide_eq_false h, if_neg Bool.false_ne_true, if_neg h]
theorem val_100 {a : List Nat} (h : isD a = true) (hl : a.length ≤ 100) : digitsVal a < 10 ^ 100 := Nat.lt_of_lt_of_le (val_lt (isD_of h).2) (Nat.pow_le_pow_right (by decide) hl)
theorem okReadShown (T : Txt K mg) : FnOk P w K mg base CX0 2 T.fReadShown T.fdReadShown ["text"] (spShown K) := by
  refine T.FReadShown.ok scReadShown (fun vs H Q E h => ?_) (fun cdv A outer s H vs Q E hr h => ?_)
  · obtain ⟨a, rfl, _⟩ := h
    rfl
  · obtain ⟨a, rfl, ha, q1, q2⟩ := h
    -- slots text=0 over=1 bar=2 under=3 x=4
    refine ⟨_, (pss_cons (ps_asg (pe_bm PySem.F.plainAttrs_str PySem.F.slot_str_partition PySem.F.type_str_partition mt_partition (pe_bm PySem.F.plainAttrs_str PySem.F.slot_str_removeprefix PySem.F.type_str_removeprefix mt_removeprefix (pv 0) (pa_cons pe_str pa_nil)) (pa_cons pe_str pa_nil)) (pg_tup rfl (pgs_cons (pg_name (i := 1) scReadShown.nd rfl (Or.inl rfl)) (pgs_cons (pg_name (i := 2) scReadShown.nd rfl (Or.inl rfl)) (pgs_cons (pg_name (i := 3) scReadShown.nd rfl (Or.inl rfl)) pgs_nil)))))
        (pss_cons (ps_if (pt_not (pt_val (pe_call (okIsDigits T) (hr.mono (by decide)) (by rfl) T.gIsDigits T.FIsDigits.kp T.bIsDigits .nil pass0 (pa_cons (pv 1) pa_nil))))
          (pss_one (ps_ret pe_non))
          pss_nil)
        (C8.pss_cut (ps_if (pt_cmpR op_eq (pv 2) pe_str (nomark _))
          (pss_one (ps_set (i := 4) scReadShown.nd rfl (Or.inl rfl) (pe_tup (pa_cons (pe_callTy call_int_str (by rfl) T.z_int (by decide +kernel) (pa_cons (pv 1) pa_nil)) (pa_cons pe_int pa_nil)))))
          (pss_one (ps_if (PW.pt (pw_and (pt_val (pe_call (okIsDigits T) (hr.mono (by decide)) (by rfl) T.gIsDigits T.FIsDigits.kp T.bIsDigits .nil pass0 (pa_cons (pv 3) pa_nil))) (pw_and1 (pt_cmpR op_gt (pe_callTy call_int_str (by rfl) T.z_int (by decide +kernel) (pa_cons (pv 3) pa_nil)) pe_int (nomark _)))))
            (pss_one (ps_set (i := 4) scReadShown.nd rfl (Or.inl rfl) (pe_call (okFraction T) (hr.mono (by decide)) (by rfl) T.gFraction T.FFraction.kp T.bFraction .nil pass0 (pa_cons (pe_callTy call_int_str (by rfl) T.z_int (by decide +kernel) (pa_cons (pv 1) pa_nil)) (pa_cons (pe_callTy call_int_str (by rfl) T.z_int (by decide +kernel) (pa_cons (pv 3) pa_nil)) pa_nil)))))
            (pss_one (ps_ret pe_non)))))
        (C8.pss_cut (ps_if (pt_val (pe_bm PySem.F.plainAttrs_str PySem.F.slot_str_startswith PySem.F.type_str_startswith mt_startswith (pv 0) (pa_cons pe_str pa_nil)))
          (pss_one (ps_set (i := 4) scReadShown.nd rfl (Or.inl rfl) (pe_tup (pa_cons (pe_un un_neg (pe_ix ix_tup (pv 4) pe_int (fun _ _ => rfl))) (pa_cons (pe_ix ix_tup (pv 4) pe_int (fun _ _ => rfl)) pa_nil)))))
          pss_nil)
        (pss_one (ps_ret (pe_ifExp (pt_cmpR op_eq (pe_call (okShow T) (hr.mono (by decide)) (by rfl) T.gShow T.FShow.kp T.bShow .nil pass0 (pa_cons (pv 4) pa_nil)) (pv 0) (nomark _)) (pv 4) pe_non))))))), ?_⟩
    have lb := body_len a
    obtain ⟨l1, l2⟩ := lenC 47 (bodyN a)
    have notD : isD (preC 47 (bodyN a)) ≠ true → ¬ OkS a := fun z o => z (plain_of o.po).1
    refine ⟨_, rfl, rfl, S a, "-", rfl, rfl, by rw [S_len]; exact sz100 (by omega), ?_⟩
    rw [rmp]
    refine ⟨rfl, S (bodyN a), "/", rfl, rfl, by decide +kernel, by rw [S_len]; exact sz100 (by omega), fun p0 hp0 => ?_⟩
    refine ⟨p0, _, rfl, SqT.of upd_same, rfl, _, _, rfl, _, _, rfl, _, _, rfl, rfl, ?_⟩
    have fin : ∀ (p : Addr) (x y : Int) (H' : Hp) (c1 c2 c3 : Option V), Same H H' → H' p = some (.tup [.int x, .int y]) → x.natAbs < 10 ^ 200 → y.natAbs < 10 ^ 200 → (showS x y = a ↔ OkS a) → (OkS a → x = numS a ∧ y = denS a) →
        (if decide (V.str (S (showS x y)) = V.str (S a)) = true then Q (.ref p) H' else Q .non H') := fun p x y H' c1 c2 c3 s hp hx hy he hv => by
      by_cases o : OkS a
      · rw [he.mpr o, decide_eq_true rfl]
        obtain ⟨e1, e2⟩ := hv o
        rw [e1, e2] at hp
        exact iteT (q2 o p H' s hp)
      · rw [decide_eq_false fun z => o (he.mp (SX.S_inj (V.str.inj z)))]
        exact iteF (q1 o H' s)
    by_cases hpt : 47 ∈ bodyN a
    · obtain ⟨eb, hn⟩ := splitC hpt
      have e : Txt.partition (S (bodyN a)) "/" = (S (preC 47 (bodyN a)), S [47], S (postC 47 (bodyN a))) := by
        rw [bar_S]
        refine SX.partition_some (b := [47]) (by decide) ?_
        conv => lhs; rw [eb]
        exact SX.par_head (c := 47) (sep := []) (postC 47 (bodyN a)) hn
      rw [e]
      have s0 := same_new (o := .tup [.str (S (preC 47 (bodyN a))), .str (S [47]), .str (S (postC 47 (bodyN a)))]) hp0
      refine ⟨_, rfl, preC 47 (bodyN a), rfl, by omega, fun H1 s1 => ⟨_, rfl, ?_⟩⟩
      by_cases c1 : isD (preC 47 (bodyN a)) = true
      rotate_left
      · have n1 := notD c1
        rw [Bool.not_eq_true] at c1
        rw [c1]
        exact iteT (q1 n1 _ (s0.trans s1))
      rw [c1]
      refine iteF ?_
      refine ⟨fun σ H' => ∃ p x y, σ = [some (.str (S a)), some (.str (S (preC 47 (bodyN a)))), some (.str (S [47])), some (.str (S (postC 47 (bodyN a)))), some (.ref p)] ∧ Same H H' ∧ H' p = some (.tup [.int x, .int y]) ∧ isD (postC 47 (bodyN a)) = true ∧ 0 < digitsVal (postC 47 (bodyN a)) ∧ Low ((digitsVal (preC 47 (bodyN a)) : Nat) : Int) ((digitsVal (postC 47 (bodyN a)) : Nat) : Int) x y, ?_, ?_⟩
      · refine ⟨_, rfl, rfl, _, rfl, ?_⟩
        rw [str_eq]
        refine iteF ⟨_, rfl, postC 47 (bodyN a), rfl, by omega, fun H2 s2 => ⟨_, rfl, ?_⟩⟩
        have s02 := (s0.trans s1).trans s2
        by_cases c3 : isD (postC 47 (bodyN a)) = true
        rotate_left
        · have n1 : ¬ OkS a := fun o => c3 (plain_of (o.sl hpt).1).1
          rw [Bool.not_eq_true] at c3
          rw [c3]
          exact iteF (iteF (q1 n1 _ s02))
        obtain ⟨r0, r1⟩ := isD_of c3
        obtain ⟨w0, w1⟩ := isD_of c1
        have v1 := val_100 c1 (by omega)
        have v2 := val_100 c3 (by omega)
        rw [c3]
        refine iteT ⟨_, rfl, S (postC 47 (bodyN a)), _, rfl, int_dig r1 r0 (by omega), by rw [S_len]; omega, _, _, rfl, rfl, _, rfl, ?_⟩
        by_cases c4 : 0 < digitsVal (postC 47 (bodyN a))
        rotate_left
        · have n1 : ¬ OkS a := fun o => by
            have := numL_inj0 (o.sl hpt).1 (by omega)
            exact (o.sl hpt).2.2.1 this
          rw [decide_eq_false (by omega)]
          exact iteF (q1 n1 _ s02)
        rw [decide_eq_true (by omega)]
        refine iteT ⟨_, rfl, S (preC 47 (bodyN a)), _, rfl, int_dig w1 w0 (by omega), by rw [S_len]; omega, _, rfl, S (postC 47 (bodyN a)), _, rfl, int_dig r1 r0 (by omega), by rw [S_len]; omega, _, _, rfl, by omega, ?_, fun p x y hp L => ?_⟩
        · rw [Int.natAbs_natCast]
          exact Nat.lt_trans v2 (by decide +kernel)
        · exact ⟨p, x, y, rfl, s02.trans (same_new hp), upd_same, rfl, c4, L⟩
      rintro σ H3 ⟨p, x, y, rfl, s3, hp, c3, c4, L⟩
      have v1 := val_100 c1 (by omega)
      have v2 := val_100 c3 (by omega)
      obtain ⟨sb1, sb2⟩ := showB hpt c1 c3 c4 L
      have hxa : x.natAbs < 10 ^ 200 := Nat.lt_of_le_of_lt L.lx (by rw [Int.natAbs_natCast]; exact Nat.lt_trans v1 (by decide +kernel))
      have hya : y.natAbs < 10 ^ 200 := Nat.lt_of_le_of_lt L.ly (by rw [Int.natAbs_natCast]; exact Nat.lt_trans v2 (by decide +kernel))
      refine ⟨fun σ H' => ∃ p, σ = [some (.str (S a)), some (.str (S (preC 47 (bodyN a)))), some (.str (S [47])), some (.str (S (postC 47 (bodyN a)))), some (.ref p)] ∧ Same H H' ∧ H' p = some (.tup [.int (sgn a x), .int y]), ?_, ?_⟩
      · refine ⟨_, rfl, rfl, S a, "-", rfl, rfl, _, rfl, ?_⟩
        rw [starts_minus]
        by_cases hm : a.head? = some 45
        · rw [decide_eq_true hm]
          refine iteT ⟨_, rfl, p, _, _, _, rfl, rfl, SqT.of hp, atI_nat (j := 0) rfl, _, rfl, _, rfl, p, _, _, _, rfl, rfl, SqT.of hp, atI_nat (j := 1) rfl, (by show 2 ≤ sizeLine; decide), fun p2 hp2 => ⟨p2, rfl, s3.trans (same_new hp2), ?_⟩⟩
          unfold sgn
          rw [if_pos hm]
          exact upd_same
        · rw [decide_eq_false hm]
          refine iteF ⟨p, rfl, s3, ?_⟩
          unfold sgn
          rw [if_neg hm]
          exact hp
      rintro σ H4 ⟨p, rfl, s4, hp⟩
      have hsa : (sgn a x).natAbs < 10 ^ 200 := by
        unfold sgn
        split
        · rw [Int.natAbs_neg]
          exact hxa
        · exact hxa
      refine ⟨_, rfl, p, _, _, rfl, SqT.of hp, hsa, hya, _, rfl, rfl, _, rfl, ?_⟩
      have f := fin p (sgn a x) y H4 none none none s4 hp hsa hya sb1 (fun o => by
        obtain ⟨e1, e2⟩ := sb2 o
        refine ⟨?_, ?_⟩
        · unfold numS
          rw [e1]
        · unfold denS
          rw [if_pos hpt]
          exact e2)
      refine ite2 (fun c => ?_) (fun c => ?_)
      · rw [if_pos c] at f
        exact ⟨_, rfl, f⟩
      · rw [if_neg c] at f
        exact f
    · have e1 := noneC hpt
      have e : Txt.partition (S (bodyN a)) "/" = (S (bodyN a), S [], S []) := by
        rw [bar_S]
        exact SX.partition_none (b := [47]) (by decide) (SX.par_head_none (c := 47) (sep := []) hpt)
      rw [e]
      rw [e1] at notD
      have s0 := same_new (o := .tup [.str (S (bodyN a)), .str (S []), .str (S [])]) hp0
      refine ⟨_, rfl, bodyN a, rfl, by omega, fun H1 s1 => ⟨_, rfl, ?_⟩⟩
      by_cases c1 : isD (bodyN a) = true
      rotate_left
      · have n1 := notD c1
        rw [Bool.not_eq_true] at c1
        rw [c1]
        exact iteT (q1 n1 _ (s0.trans s1))
      rw [c1]
      refine iteF ?_
      obtain ⟨w0, w1⟩ := isD_of c1
      have v1 := val_100 c1 (by omega)
      refine ⟨fun σ H' => ∃ p, σ = [some (.str (S a)), some (.str (S (bodyN a))), some (.str (S [])), some (.str (S [])), some (.ref p)] ∧ Same H H' ∧ H' p = some (.tup [.int ((digitsVal (bodyN a) : Nat) : Int), .int 1]), ?_, ?_⟩
      · refine ⟨_, rfl, rfl, _, rfl, ?_⟩
        rw [str_eq]
        refine iteT ⟨_, rfl, S (bodyN a), _, rfl, int_dig w1 w0 (by omega), by rw [S_len]; omega, (by show 2 ≤ sizeLine; decide), fun p hp => ⟨p, rfl, (s0.trans s1).trans (same_new hp), upd_same⟩⟩
      rintro σ H3 ⟨p, rfl, s3, hp⟩
      refine ⟨fun σ H' => ∃ p, σ = [some (.str (S a)), some (.str (S (bodyN a))), some (.str (S [])), some (.str (S [])), some (.ref p)] ∧ Same H H' ∧ H' p = some (.tup [.int (sgn a ((digitsVal (bodyN a) : Nat) : Int)), .int 1]), ?_, ?_⟩
      · refine ⟨_, rfl, rfl, S a, "-", rfl, rfl, _, rfl, ?_⟩
        rw [starts_minus]
        by_cases hm : a.head? = some 45
        · rw [decide_eq_true hm]
          refine iteT ⟨_, rfl, p, _, _, _, rfl, rfl, SqT.of hp, atI_nat (j := 0) rfl, _, rfl, _, rfl, p, _, _, _, rfl, rfl, SqT.of hp, atI_nat (j := 1) rfl, (by show 2 ≤ sizeLine; decide), fun p2 hp2 => ⟨p2, rfl, s3.trans (same_new hp2), ?_⟩⟩
          unfold sgn
          rw [if_pos hm]
          exact upd_same
        · rw [decide_eq_false hm]
          refine iteF ⟨p, rfl, s3, ?_⟩
          unfold sgn
          rw [if_neg hm]
          exact hp
      rintro σ H4 ⟨p, rfl, s4, hp⟩
      have hsa : (sgn a ((digitsVal (bodyN a) : Nat) : Int)).natAbs < 10 ^ 200 := by
        unfold sgn
        split
        · rw [Int.natAbs_neg, Int.natAbs_natCast]
          exact Nat.lt_trans v1 (by decide +kernel)
        · rw [Int.natAbs_natCast]
          exact Nat.lt_trans v1 (by decide +kernel)
      refine ⟨_, rfl, p, _, _, rfl, SqT.of hp, hsa, by decide +kernel, _, rfl, rfl, _, rfl, ?_⟩
      have f := fin p _ 1 H4 none none none s4 hp hsa (by decide +kernel) (showA hpt c1) (fun o => by
        refine ⟨?_, ?_⟩
        · unfold numS
          rw [e1]
        · unfold denS
          rw [if_neg hpt])
      refine ite2 (fun c => ?_) (fun c => ?_)
      · rw [if_pos c] at f
        exact ⟨_, rfl, f⟩
      · rw [if_neg c] at f
        exact f
def spPlain (K : PySem.W.Frag) : Sp := fun vs H Q _ => ∃ (a : List Nat), vs = [.str (S a)] ∧ a.length ≤ 1000 ∧ ∀ H', Same H H' → Q (.bl (plainB a)) H'
theorem one_S (c : Nat) (a : List Nat) (s : Str) (h : s = S [c]) : decide (V.str (S a) = V.str s) = decide (a = [c]) := by
  rw [h]
  exact decide_eq_decide.mpr ⟨fun z => SX.S_inj (V.str.inj z), fun z => by rw [z]⟩
theorem take1_is (c : Nat) (a : List Nat) (s : Str) (h : s = S [c]) : decide (V.str (S (a.take 1)) = V.str s) = decide (a.head? = some c) := by
  rw [h]
  refine decide_eq_decide.mpr ?_
  cases a with
  | nil => simp
  | cons d r =>
    refine ⟨fun z => ?_, fun z => ?_⟩
    · have := SX.S_inj (V.str.inj z)
      simp at this
      simp [this]
    · have : d = c := by simpa using z
      rw [this]
      rfl
theorem zero_S : ("0" : Str) = S [48] := by decide +kernel
theorem uno_S : ("1" : Str) = S [49] := by decide +kernel
theorem okLawPlain (T : Txt K mg) : FnOk P w K mg base CX0 2 T.fLawPlain T.fdLawPlain ["text"] (spPlain K) := by
  refine T.FLawPlain.ok scLawPlain (fun vs H Q E h => ?_) (fun cdv A outer s H vs Q E hr h => ?_)
  · obtain ⟨a, rfl, _⟩ := h
    rfl
  · obtain ⟨a, rfl, ha, q⟩ := h
    -- slots text=0
    refine ⟨_, (pss_one (ps_ret (pe_or (pe_cmpR op_eq (pv 0) pe_str (nomark _)) (pe_one (pe_and (pe_call (okLawAllDigits T) (hr.mono (by decide)) (by rfl) T.gLawAllDigits T.FLawAllDigits.kp T.bLawAllDigits .nil pass0 (pa_cons (pv 0) pa_nil)) (pe_one (pe_cmpR op_ne (pe_slice C8.sl_txt (pv 0) po_none (po_some pe_int)) pe_str (nomark _)))))))), ?_⟩
    rw [plainB_eq] at q
    refine ⟨_, rfl, rfl, _, rfl, ?_⟩
    rw [one_S 48 a "0" zero_S]
    by_cases h1 : a = [48]
    · rw [decide_eq_true h1] at q ⊢
      exact iteT (q H (Same.refl H))
    · rw [decide_eq_false h1] at q ⊢
      rw [Bool.false_or] at q
      refine iteF ⟨_, rfl, a, rfl, ha, fun H1 s1 => ⟨_, rfl, ?_⟩⟩
      cases h2 : isD a with
      | false =>
        rw [h2, Bool.false_and] at q
        exact iteF (q H1 s1)
      | true =>
        rw [h2, Bool.true_and] at q
        refine iteT ⟨_, rfl, 1, rfl, S a, rfl, by rw [S_len]; exact sz100 (by omega), ?_⟩
        rw [slice_to (by decide)]
        refine ⟨rfl, ?_⟩
        have e := take1_is 48 a "0" zero_S
        show Q (.bl (!decide (V.str (S (a.take 1)) = V.str ("0" : Str)))) H1
        rw [e]
        exact q H1 s1
def under (a : List Nat) : List Nat := if 47 ∈ bodyN a then postC 47 (bodyN a) else [49]
theorem okLawOwn (T : Txt K mg) : FnOk P w K mg base CX0 3 T.fLawOwn T.fdLawOwn ["text"] (spShown K) := by
  refine T.FLawOwn.ok scLawOwn (fun vs H Q E h => ?_) (fun cdv A outer s H vs Q E hr h => ?_)
  · obtain ⟨a, rfl, _⟩ := h
    rfl
  · obtain ⟨a, rfl, ha, q1, q2⟩ := h
    -- slots text=0 body=1 over=2 under=3 at=4 n=5 d=6
    refine ⟨_, (pss_cons (ps_set (i := 1) scLawOwn.nd rfl (Or.inl rfl) (pv 0))
        (C8.pss_cut (ps_if (pt_cmpR op_eq (pe_slice C8.sl_txt (pv 0) po_none (po_some pe_int)) pe_str (nomark _))
          (pss_one (ps_set (i := 1) scLawOwn.nd rfl (Or.inl rfl) (pe_slice C8.sl_txt (pv 0) (po_some pe_int) po_none)))
          pss_nil)
        (pss_cons (ps_set (i := 2) scLawOwn.nd rfl (Or.inl rfl) (pv 1))
        (pss_cons (ps_set (i := 3) scLawOwn.nd rfl (Or.inl rfl) pe_str)
        (C8.pss_cut (ps_if (pt_cmpR op_in_str pe_str (pv 1) rfl)
          (pss_cons (ps_set (i := 4) scLawOwn.nd rfl (Or.inl rfl) (pe_bmS PySem.F.plainAttrs_str PySem.F.slot_str_index PySem.F.type_str_index (mt_indexX rfl takes0) (pv 1) (pa_cons pe_str pa_nil)))
          (pss_cons (ps_set (i := 2) scLawOwn.nd rfl (Or.inl rfl) (pe_slice C8.sl_txt (pv 1) po_none (po_some (pv 4))))
          (pss_cons (ps_set (i := 3) scLawOwn.nd rfl (Or.inl rfl) (pe_slice C8.sl_txt (pv 1) (po_some (pe_op op_add (pv 4) pe_int)) po_none))
          (pss_one (ps_if (pt_cmpR op_eq (pv 3) pe_str (nomark _))
            (pss_one (ps_ret pe_non))
            pss_nil)))))
          pss_nil)
        (C8.pss_cut (ps_if (PW.pt (pw_or (pt_not (pt_val (pe_call (okLawPlain T) (hr.mono (by decide)) (by rfl) T.gLawPlain T.FLawPlain.kp T.bLawPlain .nil pass0 (pa_cons (pv 2) pa_nil)))) (pw_or (pt_not (pt_val (pe_call (okLawPlain T) (hr.mono (by decide)) (by rfl) T.gLawPlain T.FLawPlain.kp T.bLawPlain .nil pass0 (pa_cons (pv 3) pa_nil)))) (pw_or (pt_cmpR op_eq (pv 3) pe_str (nomark _)) (pw_or1 (PW.pt (pw_and (pt_cmpR op_eq (pe_slice C8.sl_txt (pv 0) po_none (po_some pe_int)) pe_str (nomark _)) (pw_and1 (pt_cmpR op_eq (pv 2) pe_str (nomark _))))))))))
          (pss_one (ps_ret pe_non))
          pss_nil)
        (pss_cons (ps_set (i := 5) scLawOwn.nd rfl (Or.inl rfl) (pe_callTy call_int_str (by rfl) T.z_int (by decide +kernel) (pa_cons (pv 2) pa_nil)))
        (pss_cons (ps_set (i := 6) scLawOwn.nd rfl (Or.inl rfl) (pe_callTy call_int_str (by rfl) T.z_int (by decide +kernel) (pa_cons (pv 3) pa_nil)))
        (C8.pss_cut (ps_if (pt_cmpR op_ne (pe_call (okLawGcd T) (hr.mono (by decide)) (by rfl) T.gLawGcd T.FLawGcd.kp T.bLawGcd .nil pass0 (pa_cons (pv 5) (pa_cons (pv 6) pa_nil))) pe_int (nomark _))
          (pss_one (ps_ret pe_non))
          pss_nil)
        (C8.pss_cut (ps_if (pt_cmpR op_eq (pe_slice C8.sl_txt (pv 0) po_none (po_some pe_int)) pe_str (nomark _))
          (pss_one (ps_set (i := 5) scLawOwn.nd rfl (Or.inl rfl) (pe_op op_sub pe_int (pv 5))))
          pss_nil)
        (pss_one (ps_ret (pe_tup (pa_cons (pv 5) (pa_cons (pv 6) pa_nil))))))))))))))), ?_⟩
    have lb := body_len a
    obtain ⟨l1, l2⟩ := lenC 47 (bodyN a)
    have lu : (under a).length ≤ 100 := by
      unfold under
      split
      · omega
      · simp
    refine ⟨_, rfl, ?_⟩
    -- the sign
    refine ⟨fun σ H' => H' = H ∧ σ = [some (.str (S a)), some (.str (S (bodyN a))), none, none, none, none, none], ?_, ?_⟩
    · refine ⟨_, rfl, 1, rfl, S a, rfl, by rw [S_len]; exact sz100 (by omega), ?_⟩
      rw [slice_to (by decide)]
      refine ⟨rfl, _, rfl, ?_⟩
      show if decide (V.str (S (a.take 1)) = V.str ("-" : Str)) = true then _ else _
      rw [take1_minus]
      by_cases hm : a.head? = some 45
      · rw [decide_eq_true hm]
        refine iteT ⟨_, rfl, 1, rfl, S a, rfl, by rw [S_len]; exact sz100 (by omega), ?_⟩
        rw [slice_from (by decide)]
        refine ⟨rfl, ?_⟩
        unfold bodyN
        rw [if_pos hm]
        rfl
      · rw [decide_eq_false hm]
        refine iteF ⟨rfl, ?_⟩
        unfold bodyN
        rw [if_neg hm]
        rfl
    rintro σ H1 ⟨rfl, rfl⟩
    refine ⟨_, rfl, ?_⟩
    -- the bar
    refine ⟨fun σ H' => H' = H1 ∧ (47 ∈ bodyN a → postC 47 (bodyN a) ≠ [49]) ∧ ∃ c4, σ = [some (.str (S a)), some (.str (S (bodyN a))), some (.str (S (preC 47 (bodyN a)))), some (.str (S (under a))), c4, none, none], ?_, ?_⟩
    · refine ⟨_, rfl, "/", S (bodyN a), rfl, rfl, _, rfl, ?_⟩
      rw [bar_S, SX.in_one]
      by_cases hpt : 47 ∈ bodyN a
      · obtain ⟨eb, hn⟩ := splitC hpt
        rw [decide_eq_true hpt]
        refine iteT ⟨_, rfl, rfl, S (bodyN a), S [47], rfl, congrArg (fun z => [V.str z]) bar_S, (fun k ek => ?_), (fun z => ?_)⟩
        rotate_left
        · rw [eb, idx_one hn] at z
          cases z
        have ek2 : k = (preC 47 (bodyN a)).length := by
          have e2 := idx_one (q := postC 47 (bodyN a)) hn
          rw [← eb] at e2
          rw [e2] at ek
          exact (Option.some.inj ek).symm
        subst ek2
        have tw : ∀ w r b : List Nat, b = w ++ 47 :: r → b.take w.length = w := fun w r b e => by rw [e]; exact List.take_left
        have t1 := tw _ _ _ eb
        refine ⟨_, rfl, _, rfl, _, rfl, S (bodyN a), rfl, by rw [S_len]; exact sz100 (by omega), ?_⟩
        rw [slice_to (by omega), Int.toNat_natCast, t1]
        refine ⟨_, rfl, _, rfl, _, _, rfl, rfl, _, rfl, S (bodyN a), rfl, by rw [S_len]; exact sz100 (by omega), ?_⟩
        have t2 : Txt.slice (S (bodyN a)) (some (((preC 47 (bodyN a)).length : Int) + 1)) none = S (postC 47 (bodyN a)) := slice_from (by omega)
        rw [t2]
        refine ⟨_, rfl, rfl, _, rfl, ?_⟩
        rw [one_S 49 (postC 47 (bodyN a)) "1" uno_S]
        by_cases h1 : postC 47 (bodyN a) = [49]
        · rw [decide_eq_true h1]
          exact iteT (q1 (fun o => (o.sl hpt).2.1 h1) _ (Same.refl _))
        · rw [decide_eq_false h1]
          refine iteF ⟨rfl, fun _ => h1, some (.int (((preC 47 (bodyN a)).length : Nat) : Int)), ?_⟩
          unfold under
          rw [if_pos hpt]
          rfl
      · rw [decide_eq_false hpt]
        refine iteF ⟨rfl, fun z => absurd z hpt, none, ?_⟩
        unfold under
        rw [if_neg hpt, noneC hpt, ← uno_S]
        rfl
    rintro σ H2 ⟨rfl, hu, c4, rfl⟩
    have okOf : OkS a → plainB (under a) = true ∧ under a ≠ [48] := fun o => by
      unfold under
      split
      · rename_i hpt
        exact ⟨(o.sl hpt).1, (o.sl hpt).2.2.1⟩
      · exact ⟨by decide +kernel, by decide⟩
    -- the four faults
    refine ⟨fun σ H' => Same H2 H' ∧ plainB (preC 47 (bodyN a)) = true ∧ plainB (under a) = true ∧ under a ≠ [48] ∧ ¬(a.head? = some 45 ∧ preC 47 (bodyN a) = [48]) ∧ σ = [some (.str (S a)), some (.str (S (bodyN a))), some (.str (S (preC 47 (bodyN a)))), some (.str (S (under a))), c4, none, none], ?_, ?_⟩
    · refine ⟨_, rfl, preC 47 (bodyN a), rfl, by omega, fun H3 s3 => ⟨_, rfl, ?_⟩⟩
      cases c1 : plainB (preC 47 (bodyN a)) with
      | false =>
        refine iteT (iteT (q1 (fun o => ?_) _ s3))
        have := o.po
        rw [c1] at this
        cases this
      | true =>
        refine iteF ⟨_, rfl, under a, rfl, by omega, fun H4 s4 => ⟨_, rfl, ?_⟩⟩
        have s34 := s3.trans s4
        cases c2 : plainB (under a) with
        | false =>
          refine iteT (iteT (q1 (fun o => ?_) _ s34))
          have := (okOf o).1
          rw [c2] at this
          cases this
        | true =>
          refine iteF ⟨_, rfl, rfl, _, rfl, ?_⟩
          rw [one_S 48 (under a) "0" zero_S]
          by_cases c3 : under a = [48]
          · rw [decide_eq_true c3]
            exact iteT (iteT (q1 (fun o => (okOf o).2 c3) _ s34))
          rw [decide_eq_false c3]
          refine iteF ⟨_, rfl, 1, rfl, S a, rfl, by rw [S_len]; exact sz100 (by omega), ?_⟩
          rw [slice_to (by decide)]
          refine ⟨rfl, _, rfl, ?_⟩
          show if decide (V.str (S (a.take 1)) = V.str ("-" : Str)) = true then _ else _
          rw [take1_minus]
          by_cases hm : a.head? = some 45
          · rw [decide_eq_true hm]
            refine iteT ⟨_, rfl, rfl, _, rfl, ?_⟩
            rw [one_S 48 (preC 47 (bodyN a)) "0" zero_S]
            by_cases c5 : preC 47 (bodyN a) = [48]
            · rw [decide_eq_true c5]
              exact iteT (q1 (fun o => o.nz ⟨hm, c5⟩) _ s34)
            · rw [decide_eq_false c5]
              exact iteF ⟨s34, rfl, rfl, c3, fun z => c5 z.2, rfl⟩
          · rw [decide_eq_false hm]
            exact iteF (iteF ⟨s34, rfl, rfl, c3, fun z => hm z.1, rfl⟩)
    rintro σ H3 ⟨s3, c1, c2, c3, c5, rfl⟩
    have d1 := (plain_of c1).1
    have d2 := (plain_of c2).1
    obtain ⟨w0, w1⟩ := isD_of d1
    obtain ⟨r0, r1⟩ := isD_of d2
    have v1 := val_100 d1 (by omega)
    have v2 := val_100 d2 (by omega)
    refine ⟨_, rfl, S (preC 47 (bodyN a)), _, rfl, int_dig w1 w0 (by omega), by rw [S_len]; omega, ?_⟩
    refine ⟨_, rfl, S (under a), _, rfl, int_dig r1 r0 (by omega), by rw [S_len]; omega, ?_⟩
    -- the greatest common divisor
    refine ⟨fun σ H' => H' = H3 ∧ OkS a ∧ σ = [some (.str (S a)), some (.str (S (bodyN a))), some (.str (S (preC 47 (bodyN a)))), some (.str (S (under a))), c4, some (.int ((digitsVal (preC 47 (bodyN a)) : Nat) : Int)), some (.int ((digitsVal (under a) : Nat) : Int))], ?_, ?_⟩
    · refine ⟨_, rfl, _, rfl, _, _, rfl, ?_, rfl, _, rfl, ?_⟩
      · rw [Int.natAbs_natCast, Int.natAbs_natCast]
        exact Nat.lt_of_le_of_lt (Nat.mul_le_mul (Nat.le_of_lt v1) (Nat.le_of_lt v2)) (by decide +kernel)
      rw [Int.natAbs_natCast, Int.natAbs_natCast]
      by_cases c6 : Nat.gcd (digitsVal (preC 47 (bodyN a))) (digitsVal (under a)) = 1
      · rw [c6]
        refine iteNS rfl ⟨rfl, ⟨c1, fun hpt => ?_, c5⟩, rfl⟩
        have eu : under a = postC 47 (bodyN a) := if_pos hpt
        rw [eu] at c2 c3 c6
        exact ⟨c2, hu hpt, c3, c6⟩
      · rw [decide_eq_false fun z => c6 (by have := V.int.inj z; omega)]
        refine iteT (q1 (fun o => ?_) _ s3)
        by_cases hpt : 47 ∈ bodyN a
        · have eu : under a = postC 47 (bodyN a) := if_pos hpt
          rw [eu] at c6
          exact c6 (o.sl hpt).2.2.2
        · have eu : under a = [49] := if_neg hpt
          rw [eu] at c6
          exact c6 (Nat.gcd_one_right _)
    rintro σ H4 ⟨rfl, o, rfl⟩
    refine ⟨fun σ H' => H' = H4 ∧ σ = [some (.str (S a)), some (.str (S (bodyN a))), some (.str (S (preC 47 (bodyN a)))), some (.str (S (under a))), c4, some (.int (numS a)), some (.int ((digitsVal (under a) : Nat) : Int))], ?_, ?_⟩
    · refine ⟨_, rfl, 1, rfl, S a, rfl, by rw [S_len]; exact sz100 (by omega), ?_⟩
      rw [slice_to (by decide)]
      refine ⟨rfl, _, rfl, ?_⟩
      show if decide (V.str (S (a.take 1)) = V.str ("-" : Str)) = true then _ else _
      rw [take1_minus]
      by_cases hm : a.head? = some 45
      · rw [decide_eq_true hm]
        refine iteT ⟨_, rfl, _, _, rfl, rfl, rfl, ?_⟩
        unfold numS sgn
        rw [if_pos hm, ← Int.zero_sub]
        rfl
      · rw [decide_eq_false hm]
        refine iteF ⟨rfl, ?_⟩
        unfold numS sgn
        rw [if_neg hm]
    rintro σ H5 ⟨rfl, rfl⟩
    refine ⟨_, rfl, _, rfl, (by show 2 ≤ sizeLine; decide), fun p hp => ?_⟩
    refine q2 o p _ (s3.trans (same_new hp)) ?_
    rw [upd_same]
    unfold denS under
    by_cases hpt : 47 ∈ bodyN a
    · rw [if_pos hpt, if_pos hpt]
    · rw [if_neg hpt, if_neg hpt]
      rfl
theorem isD_num (n : Nat) : isD (numL n) = true := by
  unfold isD
  rw [Bool.and_eq_true]
  refine ⟨?_, List.all_eq_true.mpr fun c h => decide_eq_true (TL.numL_digits n c h)⟩
  cases e : numL n with
  | nil => exact absurd e (TL.numL_ne n)
  | cons _ _ => rfl
theorem plain_num (n : Nat) : plainB (numL n) = true := by
  unfold plainB
  rw [isD_num, TL.numL_val]
  exact decide_eq_true rfl
theorem head_num (n : Nat) (r : List Nat) : (numL n ++ r).head? ≠ some 45 := by
  have h := TL.numL_digits n
  cases e : numL n with
  | nil => exact absurd e (TL.numL_ne n)
  | cons c t =>
    intro z
    have hc := h c (by rw [e]; exact List.mem_cons_self)
    have : c = 45 := Option.some.inj z
    omega
/-- what is shown is read again -/
theorem shown_ok {x y : Int} (hy : 0 < y) (hc : Nat.gcd x.natAbs y.natAbs = 1) : OkS (showS x y) ∧ numS (showS x y) = x ∧ denS (showS x y) = y := by
  obtain ⟨k, rfl⟩ := Int.eq_ofNat_of_zero_le (show 0 ≤ y by omega)
  have hk : 0 < k := by omega
  have fx := TL.numL_free (n := x.natAbs) (s := 47) (.inl (by decide))
  -- the text without its sign
  have body : ∀ r : List Nat, bodyN (sI x ++ r) = numL x.natAbs ++ r ∧ ((sI x ++ r).head? = some 45 ↔ x < 0) := fun r => by
    unfold sI
    by_cases hx : x < 0
    · rw [if_pos hx]
      refine ⟨?_, fun _ => hx, fun _ => rfl⟩
      unfold bodyN
      rw [if_pos (show (45 :: numL x.natAbs ++ r).head? = some 45 from rfl)]
      rfl
    · rw [if_neg hx]
      have hh := head_num x.natAbs r
      refine ⟨?_, fun z => absurd z hh, fun z => absurd z hx⟩
      unfold bodyN
      rw [if_neg hh]
  have nz : ∀ r : List Nat, ¬ ((sI x ++ r).head? = some 45 ∧ numL x.natAbs = [48]) := fun r z => by
    have h1 := ((body r).2).mp z.1
    have h2 := congrArg digitsVal z.2
    rw [TL.numL_val] at h2
    have h3 : x.natAbs = 0 := h2
    omega
  have sg : ∀ r : List Nat, sgn (sI x ++ r) ((x.natAbs : Nat) : Int) = x := fun r => by
    unfold sgn
    by_cases hx : x < 0
    · rw [if_pos ((body r).2.mpr hx)]
      omega
    · rw [if_neg fun z => hx ((body r).2.mp z)]
      omega
  by_cases h1 : k = 1
  · have e : showS x (k : Int) = sI x ++ [] := by
      unfold showS
      rw [if_pos (by omega), List.append_nil]
    rw [e]
    obtain ⟨b1, b2⟩ := body []
    rw [List.append_nil (numL x.natAbs)] at b1
    have n47 : 47 ∉ bodyN (sI x ++ []) := by rw [b1]; exact fx
    have ep := noneC n47
    refine ⟨⟨?_, fun z => absurd z n47, ?_⟩, ?_, ?_⟩
    · rw [ep, b1]
      exact plain_num _
    · rw [ep, b1]
      exact nz []
    · unfold numS
      rw [ep, b1, TL.numL_val]
      exact sg []
    · unfold denS
      rw [if_neg n47]
      omega
  · have e : showS x (k : Int) = sI x ++ 47 :: numL k := by
      unfold showS
      rw [if_neg (by omega), sI_nat]
    rw [e]
    obtain ⟨b1, b2⟩ := body (47 :: numL k)
    obtain ⟨p1, p2⟩ := preC_app (q := numL k) fx
    have i47 : 47 ∈ bodyN (sI x ++ 47 :: numL k) := by rw [b1]; simp
    refine ⟨⟨?_, fun _ => ?_, ?_⟩, ?_, ?_⟩
    · rw [b1, p1]
      exact plain_num _
    · rw [b1, p1, p2]
      refine ⟨plain_num k, fun z => ?_, fun z => ?_, ?_⟩
      · have h2 := congrArg digitsVal z
        rw [TL.numL_val] at h2
        exact h1 h2
      · have h2 := congrArg digitsVal z
        rw [TL.numL_val] at h2
        exact absurd h2 (by show ¬ k = 0; omega)
      · rw [TL.numL_val, TL.numL_val]
        rwa [Int.natAbs_natCast] at hc
    · rw [b1, p1]
      exact nz _
    · unfold numS
      rw [b1, p1, TL.numL_val]
      exact sg _
    · unfold denS
      rw [if_pos i47, b1, p2, TL.numL_val]
theorem at_some {α : Type} {xs : List α} {k : Int} (h0 : 0 ≤ k) (h1 : k < xs.length) : ∃ v, atI xs k = some v := by
  obtain ⟨j, rfl⟩ := Int.eq_ofNat_of_zero_le h0
  exact ⟨xs[j]'(by omega), atI_nat (List.getElem?_eq_getElem _)⟩
theorem lk_pair {H : Hp} {p p2 : Addr} {x y : Int} (h1 : H p = some (.tup [.int x, .int y])) (h2 : H p2 = some (.tup [.int x, .int y])) : Lk H 1 (.ref p) (.ref p2) := by
  refine .inr (.inl ⟨p, p2, _, _, rfl, rfl, h1, h2, rfl, by show 2 ≤ 100000; decide, fun i u v e1 e2 => ?_⟩)
  rw [e1] at e2
  cases e2
  rcases i with _ | _ | i
  · cases e1
    exact ⟨rfl, trivial⟩
  · cases e1
    exact ⟨rfl, trivial⟩
  · cases e1
theorem show_len {x y : Int} (hx : x.natAbs < 10 ^ 19) (hy : y.natAbs < 10 ^ 19) : (showS x y).length ≤ 41 := by
  have l : ∀ i : Int, i.natAbs < 10 ^ 19 → (sI i).length ≤ 20 := fun i h => by
    have := TL.numL_len (k := 19) (by decide) h
    unfold sI
    split
    · rw [List.length_cons]
      omega
    · omega
  have := l x hx
  have := l y hy
  unfold showS
  split
  · omega
  · rw [List.length_append, List.length_cons]
    omega
def spLaw (K : PySem.W.Frag) : Sp := fun vs H Q _ => ∃ (a : Addr) (ns : List Int), vs = [.ref a] ∧ SqL K H a (ns.map V.int) ∧ ns.length ≤ 63 ∧ ∀ H', Q (.bl true) H'
theorem okLaw (T : Txt K mg) : FnOk P w K mg base CX0 4 T.fLaw T.fdLaw ["script"] (spLaw K) := by
  refine T.FLaw.ok scLaw (fun vs H Q E h => ?_) (fun cdv A outer s H vs Q E hr h => ?_)
  · obtain ⟨a, ns, rfl, _⟩ := h
    rfl
  · obtain ⟨a, ns, rfl, hS, hlen, q⟩ := h
    -- slots script=0 box=1 x=2 text=3 turn=4 at=5 char=6 other=7
    refine ⟨_, (pss_cons (ps_set (i := 1) scLaw.nd rfl (Or.inl rfl) (pe_lst (pa_cons (pe_call (okLawDigits T) (hr.mono (by decide)) (by rfl) T.gLawDigits T.FLawDigits.kp T.bLawDigits .nil pass0 (pa_cons (pv 0) (pa_cons pe_int (pa_cons pe_int pa_nil)))) (pa_cons pe_int pa_nil))))
        (pss_cons (ps_set (i := 2) scLaw.nd rfl (Or.inl rfl) (pe_call (okLawFraction T) (hr.mono (by decide)) (by rfl) T.gLawFraction T.FLawFraction.kp T.bLawFraction .nil pass0 (pa_cons (pv 1) pa_nil)))
        (pss_cons (ps_set (i := 3) scLaw.nd rfl (Or.inl rfl) (pe_callTy call_str_int (by rfl) T.z_str (by decide +kernel) (pa_cons (pe_ix ix_tup (pv 2) pe_int (fun _ _ => rfl)) pa_nil)))
        (C8.pss_cut (ps_if (pt_cmpR op_ne (pe_ix ix_tup (pv 2) pe_int (fun _ _ => rfl)) pe_int (nomark _))
          (pss_one (ps_set (i := 3) scLaw.nd rfl (Or.inl rfl) (pe_op op_add_str (pe_op op_add_str (pv 3) pe_str) (pe_callTy call_str_int (by rfl) T.z_str (by decide +kernel) (pa_cons (pe_ix ix_tup (pv 2) pe_int (fun _ _ => rfl)) pa_nil)))))
          pss_nil)
        (pss_cons (ps_if (PW.pt (pw_or (pt_not (pt_val (pe_call (okLawSame T 1) (hr.mono (by decide)) (by rfl) T.gLawSame T.FLawSame.kp T.bLawSame .nil pass0 (pa_cons (pe_call (okShow T) (hr.mono (by decide)) (by rfl) T.gShow T.FShow.kp T.bShow .nil pass0 (pa_cons (pv 2) pa_nil)) (pa_cons (pv 3) pa_nil))))) (pw_or1 (pt_not (pt_val (pe_call (okLawSame T 1) (hr.mono (by decide)) (by rfl) T.gLawSame T.FLawSame.kp T.bLawSame .nil pass0 (pa_cons (pe_call (okReadShown T) (hr.mono (by decide)) (by rfl) T.gReadShown T.FReadShown.kp T.bReadShown .nil pass0 (pa_cons (pv 3) pa_nil)) (pa_cons (pv 2) pa_nil))))))))
          (pss_one (ps_ret pe_bl))
          pss_nil)
        (pss_cons (ps_for PassesOwn.never rfl (pi_range1 rfl T.z_range (pa_cons pe_int pa_nil)) (pg_name (i := 4) scLaw.nd rfl (Or.inl rfl))
          (pss_cons (ps_set (i := 5) scLaw.nd rfl (Or.inl rfl) (pe_call (okLawDraw T) (hr.mono (by decide)) (by rfl) T.gLawDraw T.FLawDraw.kp T.bLawDraw .nil pass0 (pa_cons (pv 1) (pa_cons (pe_op op_add (pe_callB call_len_str (by rfl) T.z_len PySem.boot_len (pa_cons (pv 3) pa_nil)) pe_int) pa_nil))))
          (pss_cons (ps_set (i := 6) scLaw.nd rfl (Or.inl rfl) (pe_ix ix_str pe_str (pe_call (okLawDraw T) (hr.mono (by decide)) (by rfl) T.gLawDraw T.FLawDraw.kp T.bLawDraw .nil pass0 (pa_cons (pv 1) (pa_cons pe_int pa_nil))) (fun _ _ => rfl)))
          (pss_cons (ps_set (i := 7) scLaw.nd rfl (Or.inl rfl) (pe_ix ix_list (pe_lst (pa_cons (pe_op op_add_str (pe_op op_add_str (pe_slice C8.sl_txt (pv 3) po_none (po_some (pv 5))) (pv 6)) (pe_slice C8.sl_txt (pv 3) (po_some (pv 5)) po_none)) (pa_cons (pe_op op_add_str (pe_slice C8.sl_txt (pv 3) po_none (po_some (pv 5))) (pe_slice C8.sl_txt (pv 3) (po_some (pe_op op_add (pv 5) pe_int)) po_none)) (pa_cons (pe_op op_add_str (pe_op op_add_str (pe_slice C8.sl_txt (pv 3) po_none (po_some (pv 5))) (pv 6)) (pe_slice C8.sl_txt (pv 3) (po_some (pe_op op_add (pv 5) pe_int)) po_none)) pa_nil)))) (pe_call (okLawDraw T) (hr.mono (by decide)) (by rfl) T.gLawDraw T.FLawDraw.kp T.bLawDraw .nil pass0 (pa_cons (pv 1) (pa_cons pe_int pa_nil))) (fun _ _ => rfl)))
          (pss_one (ps_if (pt_not (pt_val (pe_call (okLawSame T 1) (hr.mono (by decide)) (by rfl) T.gLawSame T.FLawSame.kp T.bLawSame .nil pass0 (pa_cons (pe_call (okReadShown T) (hr.mono (by decide)) (by rfl) T.gReadShown T.FReadShown.kp T.bReadShown .nil pass0 (pa_cons (pv 7) pa_nil)) (pa_cons (pe_call (okLawOwn T) (hr.mono (by decide)) (by rfl) T.gLawOwn T.FLawOwn.kp T.bLawOwn .nil pass0 (pa_cons (pv 7) pa_nil)) pa_nil)))))
            (pss_one (ps_ret pe_bl))
            pss_nil))))))
        (pss_one (ps_ret pe_bl)))))))), ?_⟩
    refine ⟨_, rfl, a, ns, 0, 63, rfl, by decide, by decide, hS, fun H1 d0 ds s1 hdn hd0 _ => ⟨by show 2 ≤ sizeLine; decide, fun b hb => ?_⟩⟩
    have hb2 : b ≠ d0 := fun z => by
      rw [z, hd0] at hb
      cases hb
    have B0 : Box (upd H1 b (.lst [.ref d0, .int 0])) b := ⟨d0, ds, 0, upd_same, by rw [upd_ne hb2.symm]; exact hd0, hb2⟩
    refine ⟨_, rfl, b, rfl, B0, fun p x y H2 B2 w2 hp F hcop nbp => ?_⟩
    have hxa : x.natAbs ≤ 10 ^ 18 := by have := F.lo; have := F.hi; omega
    have hya : y.natAbs ≤ 10 ^ 18 := by have := F.pos; have := F.top; omega
    have hx2 : x.natAbs < 10 ^ 200 := Nat.lt_of_le_of_lt hxa (by decide +kernel)
    have hy2 : y.natAbs < 10 ^ 200 := Nat.lt_of_le_of_lt hya (by decide +kernel)
    have tl := show_len (x := x) (y := y) (by omega) (by omega)
    obtain ⟨ok1, ok2, ok3⟩ := shown_ok F.pos hcop
    have lx : (sI x).length ≤ 201 := sI_len hx2
    have ly : (sI y).length ≤ 201 := sI_len hy2
    -- text
    refine ⟨_, rfl, p, _, _, _, rfl, rfl, SqT.of hp, atI_nat (j := 0) rfl, _, rfl, log_big hx2, ?_⟩
    refine ⟨fun σ H' => H' = H2 ∧ σ = [some (.ref a), some (.ref b), some (.ref p), some (.str (S (showS x y))), none, none, none, none], ?_, ?_⟩
    · refine ⟨_, rfl, p, _, _, _, rfl, rfl, SqT.of hp, atI_nat (j := 1) rfl, rfl, _, rfl, ite2 (fun c => ?_) (fun c => ?_)⟩
      · have hy1 : y ≠ 1 := fun z => by
          rw [z, decide_eq_true rfl] at c
          cases c
        refine ⟨_, rfl, S (sI x), S [47], congrArg V.str (str_int x), congrArg V.str bar_S, len_add (by omega) (by simp), ?_⟩
        refine ⟨_, rfl, p, _, _, _, rfl, rfl, SqT.of hp, atI_nat (j := 1) rfl, _, rfl, log_big hy2, S (sI x ++ [47]), S (sI y), congrArg V.str (S_cat _ _), congrArg V.str (str_int y), len_add (by rw [List.length_append]; simp; omega) (by omega), rfl, ?_⟩
        unfold showS
        rw [if_neg hy1, S_cat, List.append_assoc]
        rfl
      · have hy1 : y = 1 := by
          rcases Decidable.em (y = 1) with z | z
          · exact z
          · rw [decide_eq_false fun w => z (V.int.inj w)] at c
            exact absurd rfl c
        refine ⟨rfl, ?_⟩
        unfold showS
        rw [if_pos hy1, ← str_int]
        rfl
    rintro σ H3 ⟨rfl, rfl⟩
    -- show(x) and text; read_shown(text) and x
    refine ⟨_, rfl, p, x, y, rfl, SqT.of hp, hx2, hy2, _, rfl, _, _, rfl, .inl ⟨rfl, trivial⟩, _, rfl, iteF ?_⟩
    refine ⟨_, rfl, showS x y, rfl, by omega, fun z => absurd ok1 z, fun _ p4 H4 s4 hp4 => ?_⟩
    rw [ok2, ok3] at hp4
    refine ⟨_, rfl, _, _, rfl, lk_pair hp4 (s4 _ _ hp), _, rfl, iteF ?_⟩
    have B4 := B2.same s4
    -- the turns
    refine ⟨4, rfl, by decide, by decide, for_range (lo := 0) (n := 4) (fun i σ H' => ∃ c4 c5 c6 c7, σ = [some (.ref a), some (.ref b), some (.ref p), some (.str (S (showS x y))), c4, c5, c6, c7] ∧ Box H' b) ⟨_, _, _, _, rfl, B4⟩ ?_ (fun σ H' _ => q _)⟩
    rintro i σ H9 hi ⟨c4, c5, c6, c7, rfl, B9⟩
    generalize showS x y = T at *
    refine ⟨_, rfl, _, rfl, S T, rfl, by rw [S_len]; exact sz100 (by omega), _, _, rfl, rfl, b, _, rfl, by rw [S_len]; omega, B9, fun n H10 n0 n1 B10 _ => ?_⟩
    obtain ⟨n, rfl⟩ := Int.eq_ofNat_of_zero_le n0
    refine ⟨_, rfl, b, 17, rfl, by decide, B10, fun k H11 k0 k1 B11 _ => ?_⟩
    obtain ⟨c, hc⟩ := at_some (xs := ("0123456789-/+ .a_" : Str).cps.toList) k0 (Int.lt_of_lt_of_le k1 (by decide +kernel))
    refine ⟨_, k, c, rfl, rfl, by decide +kernel, hc, ?_⟩
    -- other
    have z1 : ∀ m, (T.take m).length ≤ 41 := fun m => by rw [List.length_take]; omega
    have z2 : ∀ m, (T.drop m).length ≤ 41 := fun m => by rw [List.length_drop]; omega
    have zS : (S T).length ≤ sizeLine := by rw [S_len]; exact sz100 (by omega)
    have e1 : V.str (Txt.slice (S T) none (some (n : Int))) = V.str (S (T.take n)) := congrArg V.str (slice_to (by omega))
    have e2 : V.str (Txt.slice (S T) (some (n : Int)) none) = V.str (S (T.drop n)) := congrArg V.str (slice_from (by omega))
    have e3 : V.str (Txt.slice (S T) (some ((n : Int) + 1)) none) = V.str (S (T.drop (n + 1))) := congrArg V.str (slice_from (by omega))
    have t1 := z1 n
    have d1 := z2 n
    have d2 := z2 (n + 1)
    have l1 : (T.take n ++ [c]).length ≤ 50 := by
      rw [List.length_append]
      simp only [List.length_singleton]
      omega
    refine ⟨_, rfl, _, rfl, _, rfl, S T, rfl, zS, _, rfl, S (T.take n), S [c], e1, rfl, len_add (by omega) (by simp), ?_⟩
    refine ⟨_, rfl, _, rfl, _, rfl, S T, rfl, zS, S (T.take n ++ [c]), S (T.drop n), congrArg V.str (S_cat _ _), e2, len_add (by omega) (by omega), ?_⟩
    refine ⟨_, rfl, _, rfl, _, rfl, S T, rfl, zS, _, rfl, _, rfl, _, _, rfl, rfl, _, rfl, S T, rfl, zS, S (T.take n), S (T.drop (n + 1)), e1, e3, len_add (by omega) (by omega), ?_⟩
    refine ⟨_, rfl, _, rfl, _, rfl, S T, rfl, zS, _, rfl, S (T.take n), S [c], e1, rfl, len_add (by omega) (by simp), ?_⟩
    refine ⟨_, rfl, _, rfl, _, _, rfl, rfl, _, rfl, S T, rfl, zS, S (T.take n ++ [c]), S (T.drop (n + 1)), congrArg V.str (S_cat _ _), e3, len_add (by omega) (by omega), ?_⟩
    refine ⟨(by show 3 ≤ sizeLine; decide), fun l hl => ?_⟩
    have nb : l ≠ b := fun z => by
      obtain ⟨_, _, _, hb, _, _⟩ := B11
      rw [z, hb] at hl
      cases hl
    have B12 := B11.same (same_new (o := .lst [.str (S (T.take n ++ [c]) ++ S (T.drop n)), .str (S (T.take n) ++ S (T.drop (n + 1))), .str (S (T.take n ++ [c]) ++ S (T.drop (n + 1)))]) hl)
    refine ⟨_, rfl, b, 3, rfl, by decide, B12, fun kd H13 kd0 kd1 B13 w13 => ?_⟩
    obtain ⟨o, ho, eo⟩ := item_by V.str (xs := [S (T.take n ++ [c]) ++ S (T.drop n), S (T.take n) ++ S (T.drop (n + 1)), S (T.take n ++ [c]) ++ S (T.drop (n + 1))]) kd0 (by show kd < 3; exact kd1)
    refine ⟨l, _, _, _, rfl, rfl, SqL.of (w13 _ _ nb upd_same), eo, ?_⟩
    have ol : o.length ≤ 100 := by
      simp only [List.mem_cons, List.not_mem_nil, or_false] at ho
      rcases ho with rfl | rfl | rfl
      · rw [S_cat, S_len, List.length_append]; omega
      · rw [S_cat, S_len, List.length_append]; omega
      · rw [S_cat, S_len, List.length_append]; omega
    obtain ⟨o, rfl⟩ : ∃ w, o = S w := ⟨o.cps.toList, (SX.S_tl o).symm⟩
    rw [S_len] at ol
    refine ⟨_, rfl, o, rfl, by omega, fun h1 H14 s14 => ?_, fun h1 p14 H14 s14 hp14 => ?_⟩
    · refine ⟨_, rfl, o, rfl, by omega, fun h2 H15 s15 => ?_, fun h2 p2 H15 s15 hp2 => absurd h2 h1⟩
      exact ⟨_, _, rfl, .inl ⟨rfl, trivial⟩, _, rfl, iteF ⟨_, _, _, _, rfl, (B13.same s14).same s15⟩⟩
    · refine ⟨_, rfl, o, rfl, by omega, fun h2 H15 s15 => absurd h1 h2, fun h2 p2 H15 s15 hp2 => ?_⟩
      exact ⟨_, _, rfl, lk_pair (s15 _ _ hp14) hp2, _, rfl, iteF ⟨_, _, _, _, rfl, (B13.same s14).same s15⟩⟩
end
set_option maxHeartbeats 0 in
theorem all_mk {l : PySem.W.OpenLaw} {w : World} {K : PySem.W.Frag} {h : Heap} {mg : Str → Option Value} {fa f1 f2 f3 f4 f5 f6 f7 f8 f9 f10 f11 f12 f13 f14 f15 f16 : Addr} {t_DIGITS : Nat} (X : K.In h) (G : h.Ns mainGlobals mg) (hfa : mg "law" = some (.ref fa))
    {od1 an1 od2 an2 od3 an3 od4 an4 od5 an5 od6 an6 od7 an7 od8 an8 od9 an9 od10 an10 od11 an11 od12 an12 od13 an13 od14 an14 od15 an15 od16 an16 : Option Addr} {sl1 sl2 sl3 sl4 sl5 sl6 sl7 sl8 sl9 sl10 sl11 sl12 sl13 sl14 sl15 sl16 : Array (Option Value)} {oc1 kV1 dc1 pm1 cd1 ct1 oc2 kV2 dc2 pm2 cd2 ct2 oc3 kV3 dc3 pm3 cd3 ct3 oc4 kV4 dc4 pm4 cd4 ct4 oc5 kV5 dc5 pm5 cd5 ct5 oc6 kV6 dc6 pm6 cd6 ct6 oc7 kV7 dc7 pm7 cd7 ct7 oc8 kV8 dc8 pm8 cd8 ct8 oc9 kV9 dc9 pm9 cd9 ct9 oc10 kV10 dc10 pm10 cd10 ct10 oc11 kV11 dc11 pm11 cd11 ct11 oc12 kV12 dc12 pm12 cd12 ct12 oc13 kV13 dc13 pm13 cd13 ct13 oc14 kV14 dc14 pm14 cd14 ct14 oc15 kV15 dc15 pm15 cd15 ct15 oc16 kV16 dc16 pm16 cd16 ct16 : Value}
    (a1 : PySem.W.nsIn K mainGlobals "fraction" = some (some (.ref f1))) (l1 : K.lookup f1 = some ⟨oc1, od1, .func (PySem.W.fnOf "fraction" "fraction" (defArgs sFraction) (defBody sFraction) (defScope sFraction) .none kV1 dc1 pm1 an1 cd1 ct1), sl1⟩) (c1 : PySem.W.codeIn K cd1 "fraction" = true) (k1 : PySem.W.keepIn K (.ref f1) = true)
    (a2 : PySem.W.nsIn K mainGlobals "_is_digits" = some (some (.ref f2))) (l2 : K.lookup f2 = some ⟨oc2, od2, .func (PySem.W.fnOf "_is_digits" "_is_digits" (defArgs sIsDigits) (defBody sIsDigits) (defScope sIsDigits) .none kV2 dc2 pm2 an2 cd2 ct2), sl2⟩) (c2 : PySem.W.codeIn K cd2 "_is_digits" = true) (k2 : PySem.W.keepIn K (.ref f2) = true)
    (a3 : PySem.W.nsIn K mainGlobals "show" = some (some (.ref f3))) (l3 : K.lookup f3 = some ⟨oc3, od3, .func (PySem.W.fnOf "show" "show" (defArgs sShow) (defBody sShow) (defScope sShow) .none kV3 dc3 pm3 an3 cd3 ct3), sl3⟩) (c3 : PySem.W.codeIn K cd3 "show" = true) (k3 : PySem.W.keepIn K (.ref f3) = true)
    (a4 : PySem.W.nsIn K mainGlobals "read_shown" = some (some (.ref f4))) (l4 : K.lookup f4 = some ⟨oc4, od4, .func (PySem.W.fnOf "read_shown" "read_shown" (defArgs sReadShown) (defBody sReadShown) (defScope sReadShown) .none kV4 dc4 pm4 an4 cd4 ct4), sl4⟩) (c4 : PySem.W.codeIn K cd4 "read_shown" = true) (k4 : PySem.W.keepIn K (.ref f4) = true)
    (a5 : PySem.W.nsIn K mainGlobals "_law_cell" = some (some (.ref f5))) (l5 : K.lookup f5 = some ⟨oc5, od5, .func (PySem.W.fnOf "_law_cell" "_law_cell" (defArgs sLawCell) (defBody sLawCell) (defScope sLawCell) .none kV5 dc5 pm5 an5 cd5 ct5), sl5⟩) (c5 : PySem.W.codeIn K cd5 "_law_cell" = true) (k5 : PySem.W.keepIn K (.ref f5) = true)
    (a6 : PySem.W.nsIn K mainGlobals "_law_digits" = some (some (.ref f6))) (l6 : K.lookup f6 = some ⟨oc6, od6, .func (PySem.W.fnOf "_law_digits" "_law_digits" (defArgs sLawDigits) (defBody sLawDigits) (defScope sLawDigits) .none kV6 dc6 pm6 an6 cd6 ct6), sl6⟩) (c6 : PySem.W.codeIn K cd6 "_law_digits" = true) (k6 : PySem.W.keepIn K (.ref f6) = true)
    (a7 : PySem.W.nsIn K mainGlobals "_law_draw" = some (some (.ref f7))) (l7 : K.lookup f7 = some ⟨oc7, od7, .func (PySem.W.fnOf "_law_draw" "_law_draw" (defArgs sLawDraw) (defBody sLawDraw) (defScope sLawDraw) .none kV7 dc7 pm7 an7 cd7 ct7), sl7⟩) (c7 : PySem.W.codeIn K cd7 "_law_draw" = true) (k7 : PySem.W.keepIn K (.ref f7) = true)
    (a8 : PySem.W.nsIn K mainGlobals "_law_big" = some (some (.ref f8))) (l8 : K.lookup f8 = some ⟨oc8, od8, .func (PySem.W.fnOf "_law_big" "_law_big" (defArgs sLawBig) (defBody sLawBig) (defScope sLawBig) .none kV8 dc8 pm8 an8 cd8 ct8), sl8⟩) (c8 : PySem.W.codeIn K cd8 "_law_big" = true) (k8 : PySem.W.keepIn K (.ref f8) = true)
    (a9 : PySem.W.nsIn K mainGlobals "_law_gcd" = some (some (.ref f9))) (l9 : K.lookup f9 = some ⟨oc9, od9, .func (PySem.W.fnOf "_law_gcd" "_law_gcd" (defArgs sLawGcd) (defBody sLawGcd) (defScope sLawGcd) .none kV9 dc9 pm9 an9 cd9 ct9), sl9⟩) (c9 : PySem.W.codeIn K cd9 "_law_gcd" = true) (k9 : PySem.W.keepIn K (.ref f9) = true)
    (a10 : PySem.W.nsIn K mainGlobals "_law_lowest" = some (some (.ref f10))) (l10 : K.lookup f10 = some ⟨oc10, od10, .func (PySem.W.fnOf "_law_lowest" "_law_lowest" (defArgs sLawLowest) (defBody sLawLowest) (defScope sLawLowest) .none kV10 dc10 pm10 an10 cd10 ct10), sl10⟩) (c10 : PySem.W.codeIn K cd10 "_law_lowest" = true) (k10 : PySem.W.keepIn K (.ref f10) = true)
    (a11 : PySem.W.nsIn K mainGlobals "_law_same" = some (some (.ref f11))) (l11 : K.lookup f11 = some ⟨oc11, od11, .func (PySem.W.fnOf "_law_same" "_law_same" (defArgs sLawSame) (defBody sLawSame) (defScope sLawSame) .none kV11 dc11 pm11 an11 cd11 ct11), sl11⟩) (c11 : PySem.W.codeIn K cd11 "_law_same" = true) (k11 : PySem.W.keepIn K (.ref f11) = true)
    (a12 : PySem.W.nsIn K mainGlobals "_law_fraction" = some (some (.ref f12))) (l12 : K.lookup f12 = some ⟨oc12, od12, .func (PySem.W.fnOf "_law_fraction" "_law_fraction" (defArgs sLawFraction) (defBody sLawFraction) (defScope sLawFraction) .none kV12 dc12 pm12 an12 cd12 ct12), sl12⟩) (c12 : PySem.W.codeIn K cd12 "_law_fraction" = true) (k12 : PySem.W.keepIn K (.ref f12) = true)
    (a13 : PySem.W.nsIn K mainGlobals "_law_all_digits" = some (some (.ref f13))) (l13 : K.lookup f13 = some ⟨oc13, od13, .func (PySem.W.fnOf "_law_all_digits" "_law_all_digits" (defArgs sLawAllDigits) (defBody sLawAllDigits) (defScope sLawAllDigits) .none kV13 dc13 pm13 an13 cd13 ct13), sl13⟩) (c13 : PySem.W.codeIn K cd13 "_law_all_digits" = true) (k13 : PySem.W.keepIn K (.ref f13) = true)
    (a14 : PySem.W.nsIn K mainGlobals "_law_plain" = some (some (.ref f14))) (l14 : K.lookup f14 = some ⟨oc14, od14, .func (PySem.W.fnOf "_law_plain" "_law_plain" (defArgs sLawPlain) (defBody sLawPlain) (defScope sLawPlain) .none kV14 dc14 pm14 an14 cd14 ct14), sl14⟩) (c14 : PySem.W.codeIn K cd14 "_law_plain" = true) (k14 : PySem.W.keepIn K (.ref f14) = true)
    (a15 : PySem.W.nsIn K mainGlobals "_law_own" = some (some (.ref f15))) (l15 : K.lookup f15 = some ⟨oc15, od15, .func (PySem.W.fnOf "_law_own" "_law_own" (defArgs sLawOwn) (defBody sLawOwn) (defScope sLawOwn) .none kV15 dc15 pm15 an15 cd15 ct15), sl15⟩) (c15 : PySem.W.codeIn K cd15 "_law_own" = true) (k15 : PySem.W.keepIn K (.ref f15) = true)
    (a16 : PySem.W.nsIn K mainGlobals "law" = some (some (.ref f16))) (l16 : K.lookup f16 = some ⟨oc16, od16, .func (PySem.W.fnOf "law" "law" (defArgs sLaw) (defBody sLaw) (defScope sLaw) .none kV16 dc16 pm16 an16 cd16 ct16), sl16⟩) (c16 : PySem.W.codeIn K cd16 "law" = true) (k16 : PySem.W.keepIn K (.ref f16) = true)
    (z_range : PySem.W.nsIn K mainGlobals "range" = some none)
    (z_abs : PySem.W.nsIn K mainGlobals "abs" = some none)
    (z_isinstance : PySem.W.nsIn K mainGlobals "isinstance" = some none)
    (z_bool : PySem.W.nsIn K mainGlobals "bool" = some none)
    (z_str : PySem.W.nsIn K mainGlobals "str" = some none)
    (z_int : PySem.W.nsIn K mainGlobals "int" = some none)
    (z_all : PySem.W.nsIn K mainGlobals "all" = some none)
    (z_len : PySem.W.nsIn K mainGlobals "len" = some none)
    (z_list : PySem.W.nsIn K mainGlobals "list" = some none)
    (z_tuple : PySem.W.nsIn K mainGlobals "tuple" = some none)
    (x_DIGITS : PySem.W.nsIn K mainGlobals "DIGITS" = some (some (.str "0123456789" t_DIGITS)))
    (x_gcd : PySem.W.nsIn K mainGlobals "gcd" = some (some (.builtin "math.gcd")))
    : ∃ fd : FuncData, (∀ (s : Shared) (v : Value), BindsTo s fd ⟨[v], []⟩ [("script", v)]) ∧ ∀ base : Heap, K.In base → base.Ns mainGlobals mg → FnOk l.prog w K mg base CX0 4 fa fd ["script"] (spLaw K) := by
  have e := hfa.symm.trans (PySem.W.mg_of X G a16)
  cases e
  have F1 := fun_mk (st := sFraction) l1 c1 k1
  have b1 := F1.binds (ps := ["n", "d"]) fun _ _ _ _ _ _ us hl => match us, hl with | [_, _], _ => rfl
  have F2 := fun_mk (st := sIsDigits) l2 c2 k2
  have b2 := F2.binds (ps := ["text"]) fun _ _ _ _ _ _ us hl => match us, hl with | [_], _ => rfl
  have F3 := fun_mk (st := sShow) l3 c3 k3
  have b3 := F3.binds (ps := ["x"]) fun _ _ _ _ _ _ us hl => match us, hl with | [_], _ => rfl
  have F4 := fun_mk (st := sReadShown) l4 c4 k4
  have b4 := F4.binds (ps := ["text"]) fun _ _ _ _ _ _ us hl => match us, hl with | [_], _ => rfl
  have F5 := fun_mk (st := sLawCell) l5 c5 k5
  have b5 := F5.binds (ps := ["script", "k"]) fun _ _ _ _ _ _ us hl => match us, hl with | [_, _], _ => rfl
  have F6 := fun_mk (st := sLawDigits) l6 c6 k6
  have b6 := F6.binds (ps := ["script", "first", "last"]) fun _ _ _ _ _ _ us hl => match us, hl with | [_, _, _], _ => rfl
  have F7 := fun_mk (st := sLawDraw) l7 c7 k7
  have b7 := F7.binds (ps := ["box", "many"]) fun _ _ _ _ _ _ us hl => match us, hl with | [_, _], _ => rfl
  have F8 := fun_mk (st := sLawBig) l8 c8 k8
  have b8 := F8.binds (ps := ["box", "size"]) fun _ _ _ _ _ _ us hl => match us, hl with | [_, _], _ => rfl
  have F9 := fun_mk (st := sLawGcd) l9 c9 k9
  have b9 := F9.binds (ps := ["a", "b"]) fun _ _ _ _ _ _ us hl => match us, hl with | [_, _], _ => rfl
  have F10 := fun_mk (st := sLawLowest) l10 c10 k10
  have b10 := F10.binds (ps := ["n", "d"]) fun _ _ _ _ _ _ us hl => match us, hl with | [_, _], _ => rfl
  have F11 := fun_mk (st := sLawSame) l11 c11 k11
  have b11 := F11.binds (ps := ["actual", "due"]) fun _ _ _ _ _ _ us hl => match us, hl with | [_, _], _ => rfl
  have F12 := fun_mk (st := sLawFraction) l12 c12 k12
  have b12 := F12.binds (ps := ["box"]) fun _ _ _ _ _ _ us hl => match us, hl with | [_], _ => rfl
  have F13 := fun_mk (st := sLawAllDigits) l13 c13 k13
  have b13 := F13.binds (ps := ["text"]) fun _ _ _ _ _ _ us hl => match us, hl with | [_], _ => rfl
  have F14 := fun_mk (st := sLawPlain) l14 c14 k14
  have b14 := F14.binds (ps := ["text"]) fun _ _ _ _ _ _ us hl => match us, hl with | [_], _ => rfl
  have F15 := fun_mk (st := sLawOwn) l15 c15 k15
  have b15 := F15.binds (ps := ["text"]) fun _ _ _ _ _ _ us hl => match us, hl with | [_], _ => rfl
  have F16 := fun_mk (st := sLaw) l16 c16 k16
  have b16 := F16.binds (ps := ["script"]) fun _ _ _ _ _ _ us hl => match us, hl with | [_], _ => rfl
  exact ⟨PySem.W.fnOf "law" "law" (defArgs sLaw) (defBody sLaw) (defScope sLaw) .none kV16 dc16 pm16 an16 cd16 ct16, fun s v => .of_eq rfl, fun base _ _ => okLaw (P := l.prog) (w := w) (base := base) (⟨f1, _, F1, b1, PySem.W.mg_of X G a1, f2, _, F2, b2, PySem.W.mg_of X G a2, f3, _, F3, b3, PySem.W.mg_of X G a3, f4, _, F4, b4, PySem.W.mg_of X G a4, f5, _, F5, b5, PySem.W.mg_of X G a5, f6, _, F6, b6, PySem.W.mg_of X G a6, f7, _, F7, b7, PySem.W.mg_of X G a7, f8, _, F8, b8, PySem.W.mg_of X G a8, f9, _, F9, b9, PySem.W.mg_of X G a9, f10, _, F10, b10, PySem.W.mg_of X G a10, f11, _, F11, b11, PySem.W.mg_of X G a11, f12, _, F12, b12, PySem.W.mg_of X G a12, f13, _, F13, b13, PySem.W.mg_of X G a13, f14, _, F14, b14, PySem.W.mg_of X G a14, f15, _, F15, b15, PySem.W.mg_of X G a15, fa, _, F16, b16, PySem.W.mg_of X G a16, PySem.W.mg_none_of X G z_range, PySem.W.mg_none_of X G z_abs, PySem.W.mg_none_of X G z_isinstance, PySem.W.mg_none_of X G z_bool, PySem.W.mg_none_of X G z_str, PySem.W.mg_none_of X G z_int, PySem.W.mg_none_of X G z_all, PySem.W.mg_none_of X G z_len, PySem.W.mg_none_of X G z_list, PySem.W.mg_none_of X G z_tuple, t_DIGITS, PySem.W.mg_of X G x_DIGITS, PySem.W.mg_of X G x_gcd⟩ : Txt K mg)⟩
theorem walk {l : PySem.W.OpenLaw} {q : Program} {loose : List Str} {XP : (Str → Option Value) → Heap → Prop} {YP : World → Heap → Prop} {d : DefRec} {K : Params → PySem.W.Frag} (hn : l.most = some 63) (hdf : d.params.defaults = [])
    (hY : ∀ (w : World) (h : Heap), YP w h → (K w.params).In h)
    (F : ∀ (w : World) (mg : Str → Option Value) (fa : Addr) (h : Heap), (K w.params).In h → h.Ns mainGlobals mg → mg d.name = some (.ref fa) →
      ∃ fd : FuncData, (∀ (s : Shared) (u : Value), BindsTo s fd ⟨[u], []⟩ [("script", u)]) ∧ ∀ base : Heap, (K w.params).In base → base.Ns mainGlobals mg → FnOk l.prog w (K w.params) mg base CX0 4 fa fd ["script"] (spLaw (K w.params))) :
    PySem.W.WalkO q loose XP YP l.row.toRowW d [] (fun f vs => PySem.call f vs) :=
  L2.walk_of (n := 63) (k := 4) (x := "script") (CX := fun _ => CX0) (sp := fun w => spLaw (K w.params)) hn (by decide) hdf ⟨rfl, by decide, by decide⟩ hY F (fun _ _ a ns hl _ hS => ⟨a, ns, rfl, hS, hl, fun _ => rfl⟩) fun _ _ _ _ _ z => z
end My
open PySem PySem.W PyProof.Rows
set_option maxRecDepth 100000 in
set_option maxHeartbeats 0 in
theorem PySem.Challenge.cw_tablemates_k05_shown_fractions_holds : PySem.Challenge.rw_tablemates_k05_shown_fractions.Holds := by
  w_on; o_law; k_head; (case hw => w_witness2)
  k_fill
  refine My.walk (l := PySem.Challenge.rw_tablemates_k05_shown_fractions) rfl rfl (fun w h Y => PySem.W.kIn_of Y) ?F
  case F =>
    intro w mg fa h KX G hmg
    refine' My.all_mk KX G hmg ?a1 ?l1 ?c1 ?k1 ?a2 ?l2 ?c2 ?k2 ?a3 ?l3 ?c3 ?k3 ?a4 ?l4 ?c4 ?k4 ?a5 ?l5 ?c5 ?k5 ?a6 ?l6 ?c6 ?k6 ?a7 ?l7 ?c7 ?k7 ?a8 ?l8 ?c8 ?k8 ?a9 ?l9 ?c9 ?k9 ?a10 ?l10 ?c10 ?k10 ?a11 ?l11 ?c11 ?k11 ?a12 ?l12 ?c12 ?k12 ?a13 ?l13 ?c13 ?k13 ?a14 ?l14 ?c14 ?k14 ?a15 ?l15 ?c15 ?k15 ?a16 ?l16 ?c16 ?k16 ?z_range ?z_abs ?z_isinstance ?z_bool ?z_str ?z_int ?z_all ?z_len ?z_list ?z_tuple ?x_DIGITS ?x_gcd
    (case a1 => k_is); (case l1 => k_is); (case c1 => k_is); (case k1 => k_is); (case a2 => k_is); (case l2 => k_is); (case c2 => k_is); (case k2 => k_is); (case a3 => k_is); (case l3 => k_is); (case c3 => k_is); (case k3 => k_is); (case a4 => k_is); (case l4 => k_is); (case c4 => k_is); (case k4 => k_is); (case a5 => k_is); (case l5 => k_is); (case c5 => k_is); (case k5 => k_is); (case a6 => k_is); (case l6 => k_is); (case c6 => k_is); (case k6 => k_is); (case a7 => k_is); (case l7 => k_is); (case c7 => k_is); (case k7 => k_is); (case a8 => k_is); (case l8 => k_is); (case c8 => k_is); (case k8 => k_is); (case a9 => k_is); (case l9 => k_is); (case c9 => k_is); (case k9 => k_is); (case a10 => k_is); (case l10 => k_is); (case c10 => k_is); (case k10 => k_is); (case a11 => k_is); (case l11 => k_is); (case c11 => k_is); (case k11 => k_is); (case a12 => k_is); (case l12 => k_is); (case c12 => k_is); (case k12 => k_is); (case a13 => k_is); (case l13 => k_is); (case c13 => k_is); (case k13 => k_is); (case a14 => k_is); (case l14 => k_is); (case c14 => k_is); (case k14 => k_is); (case a15 => k_is); (case l15 => k_is); (case c15 => k_is); (case k15 => k_is); (case a16 => k_is); (case l16 => k_is); (case c16 => k_is); (case k16 => k_is); (case z_range => k_is); (case z_abs => k_is); (case z_isinstance => k_is); (case z_bool => k_is); (case z_str => k_is); (case z_int => k_is); (case z_all => k_is); (case z_len => k_is); (case z_list => k_is); (case z_tuple => k_is); (case x_DIGITS => k_is); (case x_gcd => k_is)

import PyProof.Rows.All
import Wide.All
import OpenK.AllK
import Wide.FinOn
import HandS.ForMost
import HandS.Zip
import HandS.Walk
import HandS.IsInst
import HandS.Codes
import HandS.StrMore
import HandS.WordsExc
import PySem.Challenge.RW_tablemates_k07_addresses
set_option Elab.async false
set_option linter.all false
set_option maxRecDepth 100000
namespace My
open PySem PySem.Spec PyProof.Rows L2 RZ
def topS (i : Nat) : Stmt := PySem.Challenge.pw_tablemates_k07_addresses.main.body.getD i (.Pass ⟨0, 0, 0, 0⟩)
abbrev sRunEnd : Stmt := topS 3
abbrev sReadAddress : Stmt := topS 4
abbrev sWriteAddress : Stmt := topS 5
abbrev sLawCell : Stmt := topS 7
abbrev sLawDigits : Stmt := topS 8
abbrev sLawDraw : Stmt := topS 9
abbrev sLawSame : Stmt := topS 10
abbrev sLawAddress : Stmt := topS 11
abbrev sLawOwn : Stmt := topS 12
abbrev sLaw : Stmt := topS 13
theorem scRunEnd : FnScope ["text", "at", "characters"] ["text", "at", "characters"] (defScope sRunEnd) := ⟨rfl, rfl, rfl, by decide +kernel, rfl, by decide +kernel, by decide +kernel⟩
theorem scReadAddress : FnScope ["text", "middle", "letters", "digits", "column", "letter"] ["text"] (defScope sReadAddress) := ⟨rfl, rfl, rfl, by decide +kernel, rfl, by decide +kernel, by decide +kernel⟩
theorem scWriteAddress : FnScope ["row", "column", "letters", "rest"] ["row", "column"] (defScope sWriteAddress) := ⟨rfl, rfl, rfl, by decide +kernel, rfl, by decide +kernel, by decide +kernel⟩
theorem scLawCell : FnScope ["script", "k"] ["script", "k"] (defScope sLawCell) := ⟨rfl, rfl, rfl, by decide +kernel, rfl, by decide +kernel, by decide +kernel⟩
theorem scLawDigits : FnScope ["script", "first", "last", "digits", "k", "cell", "turn", "seed"] ["script", "first", "last"] (defScope sLawDigits) := ⟨rfl, rfl, rfl, by decide +kernel, rfl, by decide +kernel, by decide +kernel⟩
theorem scLawDraw : FnScope ["box", "many", "at"] ["box", "many"] (defScope sLawDraw) := ⟨rfl, rfl, rfl, by decide +kernel, rfl, by decide +kernel, by decide +kernel⟩
theorem scLawSame : FnScope ["actual", "due", "k"] ["actual", "due"] (defScope sLawSame) := ⟨rfl, rfl, rfl, by decide +kernel, rfl, by decide +kernel, by decide +kernel⟩
theorem scLawAddress : FnScope ["row", "column", "letters", "text"] ["row", "column"] (defScope sLawAddress) := ⟨rfl, rfl, rfl, by decide +kernel, rfl, by decide +kernel, by decide +kernel⟩
theorem scLawOwn : FnScope ["text", "letters", "size", "char", "digits", "column"] ["text"] (defScope sLawOwn) := ⟨rfl, rfl, rfl, by decide +kernel, rfl, by decide +kernel, by decide +kernel⟩
theorem scLaw : FnScope ["script", "box", "row", "column", "text", "turn", "at", "char", "kind", "other"] ["script"] (defScope sLaw) := ⟨rfl, rfl, rfl, by decide +kernel, rfl, by decide +kernel, by decide +kernel⟩
set_option maxHeartbeats 0 in
structure Txt (K : PySem.W.Frag) (mg : Str → Option Value) where
  fRunEnd : Addr
  fdRunEnd : FuncData
  FRunEnd : Fun K "_run_end" "_run_end" sRunEnd fRunEnd fdRunEnd
  bRunEnd : Binds K fdRunEnd ["text", "at", "characters"] []
  gRunEnd : mg "_run_end" = some (.ref fRunEnd)
  fReadAddress : Addr
  fdReadAddress : FuncData
  FReadAddress : Fun K "read_address" "read_address" sReadAddress fReadAddress fdReadAddress
  bReadAddress : Binds K fdReadAddress ["text"] []
  gReadAddress : mg "read_address" = some (.ref fReadAddress)
  fWriteAddress : Addr
  fdWriteAddress : FuncData
  FWriteAddress : Fun K "write_address" "write_address" sWriteAddress fWriteAddress fdWriteAddress
  bWriteAddress : Binds K fdWriteAddress ["row", "column"] []
  gWriteAddress : mg "write_address" = some (.ref fWriteAddress)
  fLawCell : Addr
  fdLawCell : FuncData
  FLawCell : Fun K "_law_cell" "_law_cell" sLawCell fLawCell fdLawCell
  bLawCell : Binds K fdLawCell ["script", "k"] []
  gLawCell : mg "_law_cell" = some (.ref fLawCell)
  fLawDigits : Addr
  fdLawDigits : FuncData
  FLawDigits : Fun K "_law_digits" "_law_digits" sLawDigits fLawDigits fdLawDigits
  bLawDigits : Binds K fdLawDigits ["script", "first", "last"] []
  gLawDigits : mg "_law_digits" = some (.ref fLawDigits)
  fLawDraw : Addr
  fdLawDraw : FuncData
  FLawDraw : Fun K "_law_draw" "_law_draw" sLawDraw fLawDraw fdLawDraw
  bLawDraw : Binds K fdLawDraw ["box", "many"] []
  gLawDraw : mg "_law_draw" = some (.ref fLawDraw)
  fLawSame : Addr
  fdLawSame : FuncData
  FLawSame : Fun K "_law_same" "_law_same" sLawSame fLawSame fdLawSame
  bLawSame : Binds K fdLawSame ["actual", "due"] []
  gLawSame : mg "_law_same" = some (.ref fLawSame)
  fLawAddress : Addr
  fdLawAddress : FuncData
  FLawAddress : Fun K "_law_address" "_law_address" sLawAddress fLawAddress fdLawAddress
  bLawAddress : Binds K fdLawAddress ["row", "column"] []
  gLawAddress : mg "_law_address" = some (.ref fLawAddress)
  fLawOwn : Addr
  fdLawOwn : FuncData
  FLawOwn : Fun K "_law_own" "_law_own" sLawOwn fLawOwn fdLawOwn
  bLawOwn : Binds K fdLawOwn ["text"] []
  gLawOwn : mg "_law_own" = some (.ref fLawOwn)
  fLaw : Addr
  fdLaw : FuncData
  FLaw : Fun K "law" "law" sLaw fLaw fdLaw
  bLaw : Binds K fdLaw ["script"] []
  gLaw : mg "law" = some (.ref fLaw)
  z_range : mg "range" = none
  z_isinstance : mg "isinstance" = none
  z_bool : mg "bool" = none
  z_str : mg "str" = none
  z_len : mg "len" = none
  z_list : mg "list" = none
  z_tuple : mg "tuple" = none
  z_int : mg "int" = none
  t_DIGITS : Nat
  g_DIGITS : mg "DIGITS" = some (.str "0123456789" t_DIGITS)
  t_CAPITALS : Nat
  g_CAPITALS : mg "CAPITALS" = some (.str "ABCDEFGHIJKLMNOPQRSTUVWXYZ" t_CAPITALS)
section
variable {P : Program} {w : World} {K : PySem.W.Frag} {mg : Str → Option Value} {base : Heap}
/-! ### heaps -/
theorem _root_.L2.Same.tup {K : PySem.W.Frag} {H H' : Hp} {a : Addr} {xs : List V} (e : Same H H') (h : SqT K H a xs) : SqT K H' a xs := by
  rcases h with (h | ⟨o, h⟩) | h
  · exact .inl (.inl (e _ _ h))
  · exact .inl (.inr ⟨o, e _ _ h⟩)
  · exact .inr h
theorem same_new {H : Hp} {p : Addr} {o : HO} (h : H p = none) : Same H (upd H p o) := fun b x e => by
  rw [upd_ne (ne_of_none e h)]
  exact e
theorem same_mut {H H' : Hp} {p : Addr} {o : HO} (e : Same H H') (h : H p = none) : Same H (upd H' p o) := fun b x ha => by
  rw [upd_ne (ne_of_none ha h)]
  exact e b x ha
theorem walk_zipT {K : PySem.W.Frag} {a b : Addr} {xs ys : List V} {n : Nat} (hn : n = min xs.length ys.length) : Walk (ItzT K a b) n (fun H => SqT K H a xs ∧ SqT K H b ys) (YPair (fun i => xs[i]?) (fun i => ys[i]?)) := by
  subst hn
  refine ⟨fun i _ hi q => ?_, fun _ q => ⟨xs, ys, q.1, q.2, by omega⟩, fun i H v H' _ q y => ?_⟩
  · have h1 : i < xs.length := by omega
    have h2 : i < ys.length := by omega
    exact ⟨xs, ys, xs[i], ys[i], q.1, q.2, by simp [h1], by simp [h2]⟩
  · obtain ⟨T, x, z, h1, h2, h3, h4, h5⟩ := y
    exact ⟨T, x, z, h1, h2, h3, h4 xs q.1, h5 ys q.2⟩
/-- a function that hands back a bool or an int and changes nothing -/
theorem getD_at {ns : List Int} {i : Nat} (h : i < ns.length) : (ns.map V.int)[i]? = some (.int (ns.getD i 0)) := by
  rw [List.getElem?_map, List.getElem?_eq_getElem h, List.getD_eq_getElem?_getD, List.getElem?_eq_getElem h]
  rfl
theorem dp_ints {K : PySem.W.Frag} {H : Hp} : ∀ ns : List Int, DpAll K H (ns.map V.int) (ns.map PyData.int)
  | [] => .nil
  | n :: r => .cons (.int n) (dp_ints r)
theorem shaped_tup (ns : List Int) : SeqAt.shaped (.tuple (ns.map PyData.int)) = true := by
  simp [SeqAt.shaped, PyData.canLay0, PyData.depth, PySem.W.ke_canLayAll0, PySem.W.ke_depthAll]
theorem shaped_lst (ns : List Int) : SeqAt.shaped (.list (ns.map PyData.int)) = true := PySem.W.ke_shaped_ints ns
theorem eqv_same {d : PyData} (h : SeqAt.shaped d = true) : PyData.eqv d d = true := by
  refine SeqAt.eqv_refl d ?_
  unfold SeqAt.shaped at h
  exact (Bool.and_eq_true _ _ ▸ h).1
theorem yesT {σ : L2.St} {H : Hp} {A B : Hp → Prop} (h : A H) : tYes σ H (fun b H3 => if b = true then A H3 else B H3) := iteT (A := A H) (B := B H) h
/-! ### texts -/
open SX (S S_len S_cat slice_to slice_from num_S int_S)
open PySem.NumText (digitsVal AllDigits)
open TL (numL)
def cap (c : Nat) : Bool := decide (65 ≤ c ∧ c ≤ 90)
def dig (c : Nat) : Bool := decide (48 ≤ c ∧ c ≤ 57)
theorem dig_mem (c : Nat) : decide (c ∈ ("0123456789" : Str).cps.toList) = dig c := by
  have e : ("0123456789" : Str).cps.toList = [48, 49, 50, 51, 52, 53, 54, 55, 56, 57] := by decide +kernel
  rw [e]
  unfold dig
  refine decide_eq_decide.mpr ?_
  simp only [List.mem_cons, List.not_mem_nil, or_false]
  omega
theorem cap_mem (c : Nat) : decide (c ∈ ("ABCDEFGHIJKLMNOPQRSTUVWXYZ" : Str).cps.toList) = cap c := by
  have e : ("ABCDEFGHIJKLMNOPQRSTUVWXYZ" : Str).cps.toList = [65, 66, 67, 68, 69, 70, 71, 72, 73, 74, 75, 76, 77, 78, 79, 80, 81, 82, 83, 84, 85, 86, 87, 88, 89, 90] := by decide +kernel
  rw [e]
  unfold cap
  refine decide_eq_decide.mpr ?_
  simp only [List.mem_cons, List.not_mem_nil, or_false]
  omega
theorem walk_S {a : List Nat} : Walk (Its (S a)) a.length (fun _ => True) (fun i H v H' => H' = H ∧ ∃ c, a[i]? = some c ∧ v = .str (S [c])) :=
  ⟨fun i _ hi _ => by show i < a.toArray.size; simpa using hi, fun _ _ => by show a.toArray.size ≤ a.length; simp, fun i H v H' _ _ y => by
    obtain ⟨e, c, h1, h2⟩ := y
    exact ⟨e, c, by simpa using h1, h2⟩⟩
theorem tw_len {p : Nat → Bool} : ∀ {a : List Nat} {i c : Nat}, (∀ x ∈ a.take i, p x = true) → a[i]? = some c → p c = false → (a.takeWhile p).length = i
  | [], i, c, _, e, _ => by simp at e
  | x :: r, 0, c, _, e, hc => by
    have e2 := Option.some.inj e
    rw [List.takeWhile_cons, e2, hc]
    rfl
  | x :: r, i + 1, c, h, e, hc => by
    have hx : p x = true := h x (by simp)
    rw [List.takeWhile_cons, hx]
    show ((r.takeWhile p).length + 1) = i + 1
    rw [tw_len (fun y hy => h y (by rw [List.take_succ_cons]; exact List.mem_cons_of_mem _ hy)) (by simpa using e) hc]
theorem tw_all {p : Nat → Bool} {a : List Nat} (h : ∀ x ∈ a, p x = true) : (a.takeWhile p).length = a.length := by
  induction a with
  | nil => rfl
  | cons x r ih =>
    rw [List.takeWhile_cons, h x List.mem_cons_self]
    show (r.takeWhile p).length + 1 = r.length + 1
    rw [ih fun y hy => h y (List.mem_cons_of_mem _ hy)]
theorem tw_self {p : Nat → Bool} : ∀ {a : List Nat}, (∀ x ∈ a, p x = true) → a.takeWhile p = a
  | [], _ => rfl
  | x :: r, h => by rw [List.takeWhile_cons, h x List.mem_cons_self, if_pos rfl, tw_self fun y hy => h y (List.mem_cons_of_mem _ hy)]
theorem tw_le {p : Nat → Bool} (a : List Nat) : (a.takeWhile p).length ≤ a.length := by
  induction a with
  | nil => exact Nat.le_refl _
  | cons x r ih =>
    rw [List.takeWhile_cons]
    split
    · exact Nat.succ_le_succ ih
    · exact Nat.zero_le _
theorem tw_take {p : Nat → Bool} : ∀ (a : List Nat), ∀ x ∈ a.take (a.takeWhile p).length, p x = true
  | [], x, h => by simp at h
  | y :: r, x, h => by
    rw [List.takeWhile_cons] at h
    split at h
    · rename_i hy
      rw [List.length_cons, List.take_succ_cons] at h
      rcases List.mem_cons.mp h with e | e
      · rw [e]
        exact hy
      · exact tw_take r x e
    · simp at h
theorem tw_full {p : Nat → Bool} {a : List Nat} (h : (a.takeWhile p).length = a.length) : ∀ x ∈ a, p x = true := fun x hx => tw_take a x (by rw [h, List.take_length]; exact hx)
theorem tw_congr {p q : Nat → Bool} (h : ∀ c, p c = q c) (a : List Nat) : a.takeWhile p = a.takeWhile q := by
  rw [show p = q from funext h]
theorem in12 (n : Int) : inV (.int n) [.int 1, .int 2] = decide (n = 1 ∨ n = 2) := by
  show ((1 : Int) == n || ((2 : Int) == n || false)) = _
  rw [Bool.eq_iff_iff]
  simp only [Bool.or_false, Bool.or_eq_true, beq_iff_eq, decide_eq_true_eq]
  omega
theorem sz100 {n : Nat} (h : n ≤ 100000) : n ≤ sizeLine := Nat.le_trans h (by decide)
theorem item_by {α : Type} (f : α → V) {xs : List α} {k : Int} (h0 : 0 ≤ k) (h1 : k < xs.length) : ∃ v ∈ xs, atI (xs.map f) k = some (f v) := by
  obtain ⟨j, rfl⟩ := Int.eq_ofNat_of_zero_le h0
  have hj : j < xs.length := by omega
  exact ⟨xs[j], List.getElem_mem hj, atI_nat (by rw [List.getElem?_map, List.getElem?_eq_getElem hj]; rfl)⟩
theorem dig_all {a : List Nat} (h : a.all dig = true) : AllDigits a := fun c hc => of_decide_eq_true (List.all_eq_true.mp h c hc)
theorem int_dig {a : List Nat} (h : a.all dig = true) (hne : a ≠ []) (hl : a.length ≤ 640) : intText? (S a) = some ((digitsVal a : Nat) : Int) := intText_digits (x := S a) (dig_all h) hne (by rw [S_len]; omega)
/-! ### a run of signs -/
def rn (z : Str) (a : List Nat) : Nat := (a.takeWhile fun c => decide (c ∈ z.cps.toList)).length
def spCell (K : PySem.W.Frag) : Sp := fun vs H Q _ => ∃ (a : Addr) (ns : List Int) (k : Int), vs = [.ref a, .int k] ∧ 0 ≤ k ∧ SqL K H a (ns.map V.int) ∧ ∀ v : Int, Q (.int v) H
theorem okLawCell (T : Txt K mg) : FnOk P w K mg base CX0 1 T.fLawCell T.fdLawCell ["script", "k"] (spCell K) := by
  refine T.FLawCell.ok scLawCell (fun vs H Q E h => ?_) (fun cdv A outer s H vs Q E hr h => ?_)
  · obtain ⟨a, ns, k, rfl, _⟩ := h
    rfl
  · obtain ⟨a, ns, k, rfl, h0, hS, q⟩ := h
    obtain ⟨k, rfl⟩ := Int.eq_ofNat_of_zero_le h0
    -- slots script=0 k=1
    refine ⟨_, (pss_cons (ps_if (pt_cmpR op_lt (pv 1) (pe_callB call_len_seq (by rfl) T.z_len PySem.boot_len (pa_cons (pv 0) pa_nil)) (nomark _))
          (pss_one (ps_ret (pe_ix ix_list (pv 0) (pv 1) (fun _ _ => rfl))))
          pss_nil)
        (pss_one (ps_ret pe_int))), ?_⟩
    refine ⟨_, rfl, _, rfl, a, _, rfl, .inl hS, _, _, rfl, rfl, _, rfl, ite2 (fun c => ?_) (fun c => ?_)⟩
    · have hk : k < ns.length := by
        have c2 := of_decide_eq_true c
        rw [List.length_map] at c2
        omega
      exact ⟨_, rfl, _, rfl, a, _, _, _, rfl, rfl, hS, atI_nat (getD_at hk), q _⟩
    · exact q 0
/-! ### numbers that a law draws -/
structure Dig (ds : List Int) (n : Nat) : Prop where
  all : ∀ x ∈ ds, 0 ≤ x ∧ x < 1000
  len : ds.length ≤ n
theorem Dig.nil : Dig [] 0 := ⟨fun _ h => (nomatch h), Nat.le_refl _⟩
theorem Dig.more {ds : List Int} {n m : Nat} (h : Dig ds n) (hm : n ≤ m) : Dig ds m := ⟨h.all, Nat.le_trans h.len hm⟩
theorem Dig.add {ds : List Int} {n : Nat} (h : Dig ds n) (x : Int) : Dig (ds ++ [x % 1000]) (n + 1) := by
  refine ⟨fun y hy => ?_, ?_⟩
  · rcases List.mem_append.mp hy with q | q
    · exact h.all y q
    · obtain rfl : y = x % 1000 := by simpa using q
      omega
  · rw [List.length_append]
    have := h.len
    simp only [List.length_singleton]
    omega
def spDigits (K : PySem.W.Frag) : Sp := fun vs H Q _ => ∃ (a : Addr) (ns : List Int) (lo : Nat) (hi : Nat), vs = [.ref a, .int (lo : Int), .int (hi : Int)] ∧ lo ≤ hi ∧ hi ≤ 1000 ∧ SqL K H a (ns.map V.int) ∧
  ∀ H' d ds, Same H H' → H d = none → H' d = some (.lst (ds.map V.int)) → Dig ds (60 * (hi - lo)) → Q (.ref d) H'
theorem okLawDigits (T : Txt K mg) : FnOk P w K mg base CX0 2 T.fLawDigits T.fdLawDigits ["script", "first", "last"] (spDigits K) := by
  refine T.FLawDigits.ok scLawDigits (fun vs H Q E h => ?_) (fun cdv A outer s H vs Q E hr h => ?_)
  · obtain ⟨a, ns, lo, hi, rfl, _⟩ := h
    rfl
  · obtain ⟨a, ns, lo, hi, rfl, hlh, hh, hS, q⟩ := h
    -- slots script=0 first=1 last=2 digits=3 k=4 cell=5 turn=6 seed=7
    refine ⟨_, (pss_cons (ps_set (i := 3) scLawDigits.nd rfl (Or.inl rfl) (pe_lst pa_nil))
        (pss_cons (ps_for PassesOwn.never rfl (pi_range2 rfl T.z_range (pa_cons (pv 1) (pa_cons (pv 2) pa_nil))) (pg_name (i := 4) scLawDigits.nd rfl (Or.inl rfl))
          (pss_cons (ps_set (i := 5) scLawDigits.nd rfl (Or.inl rfl) (pe_call (okLawCell T) (hr.mono (by decide)) (by rfl) T.gLawCell T.FLawCell.kp T.bLawCell .nil pass0 (pa_cons (pv 0) (pa_cons (pv 4) pa_nil))))
          (pss_cons (ps_if (pt_cmpR op_lt (pv 5) pe_int (nomark _))
            (pss_one (ps_set (i := 5) scLawDigits.nd rfl (Or.inl rfl) (pe_op op_sub pe_int (pe_op op_mul pe_int (pv 5)))))
            pss_nil)
          (pss_one (ps_if (pt_cmpR op_ge (pv 5) (pe_op op_pow pe_int pe_int) (nomark _))
            (pss_one (ps_for PassesOwn.never rfl (pi_range1 rfl T.z_range (pa_cons pe_int pa_nil)) (pg_name (i := 6) scLawDigits.nd rfl (Or.inl rfl))
              (pss_one (ps_if (pt_cmpR op_gt (pv 5) pe_int (nomark _))
                (pss_cons (ps_expr (pe_bm PySem.F.plainAttrs_list PySem.F.slot_list_append PySem.F.type_list_append mt_append (pv 3) (pa_cons (pe_op op_mod (pe_callTy call_int1 (by rfl) T.z_int (by decide +kernel) (pa_cons (pv 5) pa_nil)) pe_int) pa_nil)))
                (pss_one (ps_set (i := 5) scLawDigits.nd rfl (Or.inl rfl) (pe_op op_fdiv (pv 5) pe_int))))
                pss_nil))))
            (pss_cons (ps_set (i := 7) scLawDigits.nd rfl (Or.inl rfl) (pe_op op_mod (pe_callTy call_int1 (by rfl) T.z_int (by decide +kernel) (pa_cons (pe_op op_add (pe_op op_add (pe_op op_mul (pv 5) pe_int) (pe_op op_mul (pv 4) pe_int)) pe_int) pa_nil)) pe_int))
            (pss_one (ps_for PassesOwn.never rfl (pi_range1 rfl T.z_range (pa_cons pe_int pa_nil)) (pg_name (i := 6) scLawDigits.nd rfl (Or.inl rfl))
              (pss_cons (ps_set (i := 7) scLawDigits.nd rfl (Or.inl rfl) (pe_op op_mod (pe_callTy call_int1 (by rfl) T.z_int (by decide +kernel) (pa_cons (pe_op op_add (pe_op op_add (pe_op op_mul (pv 7) pe_int) (pe_op op_mul pe_int (pv 6))) pe_int) pa_nil)) pe_int))
              (pss_one (ps_expr (pe_bm PySem.F.plainAttrs_list PySem.F.slot_list_append PySem.F.type_list_append mt_append (pv 3) (pa_cons (pe_op op_mod (pe_callTy call_int1 (by rfl) T.z_int (by decide +kernel) (pa_cons (pe_op op_fdiv (pv 7) pe_int) pa_nil)) pe_int) pa_nil)))))))))))))
        (pss_one (ps_ret (pv 3))))), ?_⟩
    refine ⟨Nat.zero_le _, fun d hd => ?_⟩
    refine ⟨_, rfl, _, rfl, _, _, rfl, ⟨by omega, by omega, by omega, by omega⟩, ?_⟩
    refine for_range (lo := lo) (n := ((hi : Int) - lo).toNat) (fun i σ H' => ∃ ds c0 c1 c2 c3, σ = [some (.ref a), some (.int (lo : Int)), some (.int (hi : Int)), some (.ref d), c0, c1, c2, c3] ∧ Same H H' ∧ H' d = some (.lst (ds.map V.int)) ∧ Dig ds (60 * i))
      ⟨[], _, _, _, _, rfl, same_new hd, upd_same, Dig.nil⟩ ?_ ?_
    · rintro i σ H1 hi2 ⟨ds, c0, c1, c2, c3, rfl, s1, hd1, D⟩
      -- cell = _law_cell(script, k)
      refine ⟨_, rfl, _, rfl, a, ns, _, rfl, by omega, s1.seq hS, fun v => ?_⟩
      -- if cell < 0
      refine ⟨_, rfl, _, _, rfl, rfl, _, rfl, ite2 (fun _ => ?_) (fun _ => ?_)⟩
      · refine ⟨_, rfl, _, _, rfl, rfl, .inl ⟨by decide, by decide⟩, _, _, rfl, rfl, ?_⟩
        refine ⟨_, rfl, _, _, rfl, rfl, ⟨by decide, by decide, by decide⟩, _, _, rfl, rfl, _, rfl, ite2 (fun _ => ?_) (fun _ => ?_)⟩
        · refine ⟨60, rfl, by decide, by decide, for_range (lo := 0) (n := 60) (fun t σ H' => ∃ ds c c1, σ = [some (.ref a), some (.int (lo : Int)), some (.int (hi : Int)), some (.ref d), some (.int ((lo : Int) + i)), some (.int c), c1, c3] ∧ Same H H' ∧ H' d = some (.lst (ds.map V.int)) ∧ Dig ds (60 * i + t)) ⟨ds, _, _, rfl, s1, hd1, D⟩ ?_ ?_⟩
          · rintro t σ H2 ht ⟨ds, c, c1, rfl, s2, hd2, D2⟩
            refine ⟨_, rfl, _, _, rfl, rfl, _, rfl, ite2 (fun _ => ?_) (fun _ => ?_)⟩
            · refine ⟨_, rfl, .inl ⟨rfl, _, SqL.of hd2⟩, _, rfl, .inl ⟨_, rfl, _, _, rfl, rfl, (by show (0 : Int) < _; decide), d, _, _, rfl, rfl, hd2, ?_, _, rfl, _, _, rfl, rfl, ⟨by decide, by decide⟩, ?_⟩⟩
              · rw [List.length_map]
                exact Nat.lt_of_le_of_lt D2.len (Nat.lt_of_lt_of_le (show 60 * i + t < 100000 by omega) (by decide))
              · exact ⟨ds ++ [c % 1000], _, _, rfl, same_mut s2 hd, by rw [upd_same, List.map_append]; rfl, D2.add c⟩
            · exact ⟨ds, _, _, rfl, s2, hd2, D2.more (Nat.le_succ _)⟩
          · rintro σ H2 ⟨ds, c, c1, rfl, s2, hd2, D2⟩
            exact ⟨ds, _, _, _, _, rfl, s2, hd2, D2⟩
        · refine ⟨_, rfl, _, _, rfl, rfl, .inr ⟨by decide, by decide⟩, _, rfl, _, _, rfl, rfl, .inr ⟨by decide, by decide⟩, _, _, rfl, rfl, _, _, rfl, rfl, .inl ⟨_, rfl, _, _, rfl, rfl, (by show (0 : Int) < _; decide), ?_⟩⟩
          refine ⟨12, rfl, by decide, by decide, for_range (lo := 0) (n := 12) (fun t σ H' => ∃ ds c c1 sd, σ = [some (.ref a), some (.int (lo : Int)), some (.int (hi : Int)), some (.ref d), some (.int ((lo : Int) + i)), some (.int c), c1, some (.int sd)] ∧ Same H H' ∧ H' d = some (.lst (ds.map V.int)) ∧ Dig ds (60 * i + t)) ⟨ds, _, _, _, rfl, s1, hd1, D⟩ ?_ ?_⟩
          · rintro t σ H2 ht ⟨ds, c, c1, sd, rfl, s2, hd2, D2⟩
            refine ⟨_, rfl, _, _, rfl, rfl, .inr ⟨by decide, by decide⟩, _, rfl, _, _, rfl, rfl, .inl ⟨by decide, by decide⟩, _, _, rfl, rfl, _, _, rfl, rfl, .inl ⟨_, rfl, _, _, rfl, rfl, (by show (0 : Int) < _; decide), ?_⟩⟩
            refine ⟨_, rfl, .inl ⟨rfl, _, SqL.of hd2⟩, _, rfl, _, _, rfl, rfl, ⟨by decide, by decide⟩, .inl ⟨_, rfl, _, _, rfl, rfl, (by show (0 : Int) < _; decide), d, _, _, rfl, rfl, hd2, ?_, ?_⟩⟩
            · rw [List.length_map]
              exact Nat.lt_of_le_of_lt D2.len (Nat.lt_of_lt_of_le (show 60 * i + t < 100000 by omega) (by decide))
            · exact ⟨ds ++ [_ % 1000], _, _, _, rfl, same_mut s2 hd, by rw [upd_same, List.map_append]; rfl, D2.add _⟩
          · rintro σ H2 ⟨ds, c, c1, sd, rfl, s2, hd2, D2⟩
            exact ⟨ds, _, _, _, _, rfl, s2, hd2, D2.more (by omega)⟩
      · refine ⟨_, rfl, _, _, rfl, rfl, ⟨by decide, by decide, by decide⟩, _, _, rfl, rfl, _, rfl, ite2 (fun _ => ?_) (fun _ => ?_)⟩
        · refine ⟨60, rfl, by decide, by decide, for_range (lo := 0) (n := 60) (fun t σ H' => ∃ ds c c1, σ = [some (.ref a), some (.int (lo : Int)), some (.int (hi : Int)), some (.ref d), some (.int ((lo : Int) + i)), some (.int c), c1, c3] ∧ Same H H' ∧ H' d = some (.lst (ds.map V.int)) ∧ Dig ds (60 * i + t)) ⟨ds, _, _, rfl, s1, hd1, D⟩ ?_ ?_⟩
          · rintro t σ H2 ht ⟨ds, c, c1, rfl, s2, hd2, D2⟩
            refine ⟨_, rfl, _, _, rfl, rfl, _, rfl, ite2 (fun _ => ?_) (fun _ => ?_)⟩
            · refine ⟨_, rfl, .inl ⟨rfl, _, SqL.of hd2⟩, _, rfl, .inl ⟨_, rfl, _, _, rfl, rfl, (by show (0 : Int) < _; decide), d, _, _, rfl, rfl, hd2, ?_, _, rfl, _, _, rfl, rfl, ⟨by decide, by decide⟩, ?_⟩⟩
              · rw [List.length_map]
                exact Nat.lt_of_le_of_lt D2.len (Nat.lt_of_lt_of_le (show 60 * i + t < 100000 by omega) (by decide))
              · exact ⟨ds ++ [c % 1000], _, _, rfl, same_mut s2 hd, by rw [upd_same, List.map_append]; rfl, D2.add c⟩
            · exact ⟨ds, _, _, rfl, s2, hd2, D2.more (Nat.le_succ _)⟩
          · rintro σ H2 ⟨ds, c, c1, rfl, s2, hd2, D2⟩
            exact ⟨ds, _, _, _, _, rfl, s2, hd2, D2⟩
        · refine ⟨_, rfl, _, _, rfl, rfl, .inr ⟨by decide, by decide⟩, _, rfl, _, _, rfl, rfl, .inr ⟨by decide, by decide⟩, _, _, rfl, rfl, _, _, rfl, rfl, .inl ⟨_, rfl, _, _, rfl, rfl, (by show (0 : Int) < _; decide), ?_⟩⟩
          refine ⟨12, rfl, by decide, by decide, for_range (lo := 0) (n := 12) (fun t σ H' => ∃ ds c c1 sd, σ = [some (.ref a), some (.int (lo : Int)), some (.int (hi : Int)), some (.ref d), some (.int ((lo : Int) + i)), some (.int c), c1, some (.int sd)] ∧ Same H H' ∧ H' d = some (.lst (ds.map V.int)) ∧ Dig ds (60 * i + t)) ⟨ds, _, _, _, rfl, s1, hd1, D⟩ ?_ ?_⟩
          · rintro t σ H2 ht ⟨ds, c, c1, sd, rfl, s2, hd2, D2⟩
            refine ⟨_, rfl, _, _, rfl, rfl, .inr ⟨by decide, by decide⟩, _, rfl, _, _, rfl, rfl, .inl ⟨by decide, by decide⟩, _, _, rfl, rfl, _, _, rfl, rfl, .inl ⟨_, rfl, _, _, rfl, rfl, (by show (0 : Int) < _; decide), ?_⟩⟩
            refine ⟨_, rfl, .inl ⟨rfl, _, SqL.of hd2⟩, _, rfl, _, _, rfl, rfl, ⟨by decide, by decide⟩, .inl ⟨_, rfl, _, _, rfl, rfl, (by show (0 : Int) < _; decide), d, _, _, rfl, rfl, hd2, ?_, ?_⟩⟩
            · rw [List.length_map]
              exact Nat.lt_of_le_of_lt D2.len (Nat.lt_of_lt_of_le (show 60 * i + t < 100000 by omega) (by decide))
            · exact ⟨ds ++ [_ % 1000], _, _, _, rfl, same_mut s2 hd, by rw [upd_same, List.map_append]; rfl, D2.add _⟩
          · rintro σ H2 ⟨ds, c, c1, sd, rfl, s2, hd2, D2⟩
            exact ⟨ds, _, _, _, _, rfl, s2, hd2, D2.more (by omega)⟩
    · rintro σ H1 ⟨ds, c0, c1, c2, c3, rfl, s1, hd1, D⟩
      exact ⟨_, rfl, q _ d ds s1 hd hd1 (by rw [show ((hi : Int) - lo).toNat = hi - lo by omega] at D; exact D)⟩
/-- all but the box stays, and the box keeps its list -/
structure Kp (b : Addr) (H H' : Hp) : Prop where
  k : ∀ c o, c ≠ b → H c = some o → H' c = some o
  d : ∀ (x j : V), H b = some (.lst [x, j]) → ∃ j', H' b = some (.lst [x, j'])
instance {b : Addr} {H H' : Hp} : CoeFun (Kp b H H') (fun _ => ∀ c o, c ≠ b → H c = some o → H' c = some o) := ⟨Kp.k⟩
theorem Kp.refl {b : Addr} {H : Hp} : Kp b H H := ⟨fun _ _ _ h => h, fun _ j h => ⟨j, h⟩⟩
theorem Kp.trans {b : Addr} {H H1 H2 : Hp} (x : Kp b H H1) (y : Kp b H1 H2) : Kp b H H2 := ⟨fun c o n h => y.k c o n (x.k c o n h), fun v j h => by
  obtain ⟨j1, h1⟩ := x.d v j h
  exact y.d v j1 h1⟩
theorem Kp.of {b : Addr} {H H1 : Hp} (x : Same H H1) : Kp b H H1 := ⟨fun c o _ h => x c o h, fun _ j h => ⟨j, x _ _ h⟩⟩
theorem Kp.same {b : Addr} {H H1 H2 : Hp} (x : Same H H1) (h : H b = none) (y : Kp b H1 H2) : Same H H2 := fun c o e => y.k c o (ne_of_none e h) (x c o e)
/-- a box of drawn digits and the place of the next one -/
def Box (H : Hp) (b : Addr) : Prop := ∃ (d : Addr) (ds : List Int) (i : Nat), H b = some (.lst [.ref d, .int (i : Int)]) ∧ H d = some (.lst (ds.map V.int)) ∧ b ≠ d
theorem Box.same {H H' : Hp} {b : Addr} (s : Same H H') (h : Box H b) : Box H' b := by
  obtain ⟨d, ds, i, h1, h2, h3⟩ := h
  exact ⟨d, ds, i, s _ _ h1, s _ _ h2, h3⟩
def spDraw (K : PySem.W.Frag) : Sp := fun vs H Q _ => ∃ (b : Addr) (m : Int), vs = [.ref b, .int m] ∧ 0 < m ∧ Box H b ∧ ∀ x H', 0 ≤ x → x < m → Box H' b → Kp b H H' → Q (.int x) H'
theorem okLawDraw (T : Txt K mg) : FnOk P w K mg base CX0 1 T.fLawDraw T.fdLawDraw ["box", "many"] (spDraw K) := by
  refine T.FLawDraw.ok scLawDraw (fun vs H Q E h => ?_) (fun cdv A outer s H vs Q E hr h => ?_)
  · obtain ⟨b, m, rfl, _⟩ := h
    rfl
  · obtain ⟨b, m, rfl, hm, ⟨d, ds, i, hb, hd, nbd⟩, q⟩ := h
    -- slots box=0 many=1 at=2
    refine ⟨_, (pss_cons (ps_set (i := 2) scLawDraw.nd rfl (Or.inl rfl) (pe_ix ix_list (pv 0) pe_int (fun _ _ => rfl)))
        (pss_cons (ps_asg (pe_op op_add (pv 2) pe_int) (pg_sub (pv 0) pe_int set_list))
        (pss_cons (ps_if (pt_cmpR op_lt (pv 2) (pe_callB call_len_seq (by rfl) T.z_len PySem.boot_len (pa_cons (pe_ix ix_list (pv 0) pe_int (fun _ _ => rfl)) pa_nil)) (nomark _))
          (pss_one (ps_ret (pe_op op_mod (pe_callTy call_int1 (by rfl) T.z_int (by decide +kernel) (pa_cons (pe_ix ix_list (pe_ix ix_list (pv 0) pe_int (fun _ _ => rfl)) (pv 2) (fun _ _ => rfl)) pa_nil)) (pv 1))))
          pss_nil)
        (pss_one (ps_ret pe_int))))), ?_⟩
    refine ⟨_, rfl, b, _, _, _, rfl, rfl, SqL.of hb, atI_nat (j := 1) rfl, _, rfl, _, _, rfl, rfl, _, rfl, b, _, _, 1, rfl, rfl, hb, rfl, ?_⟩
    have hb' : (upd H b (.lst ([.ref d, .int (i : Int)].set 1 (.int ((i : Int) + 1))))) b = some (.lst [.ref d, .int ((i : Int) + 1)]) := upd_same
    have hd' : (upd H b (.lst ([.ref d, .int (i : Int)].set 1 (.int ((i : Int) + 1))))) d = some (.lst (ds.map V.int)) := by
      rw [upd_ne nbd.symm]
      exact hd
    have kp : Kp b H (upd H b (.lst ([.ref d, .int (i : Int)].set 1 (.int ((i : Int) + 1))))) := ⟨fun c o n e => by
      rw [upd_ne n]
      exact e, fun x j h => by
      rw [hb] at h
      cases h
      exact ⟨_, hb'⟩⟩
    refine ⟨_, rfl, _, rfl, b, _, _, _, rfl, rfl, SqL.of hb', atI_nat (j := 0) rfl, d, _, rfl, .inl (SqL.of hd'), _, _, rfl, rfl, _, rfl, ite2 (fun c => ?_) (fun c => ?_)⟩
    · have hk : i < ds.length := by
        have c2 := of_decide_eq_true c
        rw [List.length_map] at c2
        omega
      refine ⟨_, rfl, b, _, _, _, rfl, rfl, SqL.of hb', atI_nat (j := 0) rfl, _, rfl, d, _, _, _, rfl, rfl, SqL.of hd', atI_nat (getD_at hk), .inl ⟨_, rfl, _, rfl, _, _, rfl, rfl, hm, ?_⟩⟩
      exact q _ _ (Int.emod_nonneg _ (by omega)) (Int.emod_lt_of_pos _ hm) ⟨d, ds, i + 1, hb', hd', nbd⟩ kp
    · exact q _ _ (Int.le_refl _) hm ⟨d, ds, i + 1, hb', hd', nbd⟩ kp
/-! ### the law's own comparison -/
def Scal : V → Prop
  | .non => True
  | .bl _ => True
  | .int _ => True
  | .str _ => True
  | _ => False
def Lk (H : Hp) : Nat → V → V → Prop
  | 0, x, y => x = y ∧ Scal y
  | n + 1, x, y => (x = y ∧ Scal y) ∨
    (∃ a b xs ys, x = .ref a ∧ y = .ref b ∧ H a = some (.tup xs) ∧ H b = some (.tup ys) ∧ xs.length = ys.length ∧ xs.length ≤ 100000 ∧ ∀ (i : Nat) u v, xs[i]? = some u → ys[i]? = some v → Lk H n u v) ∨
    (∃ a b xs ys, x = .ref a ∧ y = .ref b ∧ H a = some (.lst xs) ∧ H b = some (.lst ys) ∧ xs.length = ys.length ∧ xs.length ≤ 100000 ∧ ∀ (i : Nat) u v, xs[i]? = some u → ys[i]? = some v → Lk H n u v)
theorem isi {K : PySem.W.Frag} {H : Hp} {x : V} {t c : String} {b : Bool} {Q : VK} (ty : TyX K H x (.type t)) (h : kitB t c = some b) (q : Q (.bl b) H) : rIsi K [x, .ty c] H Q := ⟨x, .ty c, _, _, b, rfl, .ty c, ty, kit_ty h, q⟩
def spSame (K : PySem.W.Frag) (n : Nat) : Sp := fun vs H Q _ => ∃ (x y : V), vs = [x, y] ∧ Lk H n x y ∧ Q (.bl true) H
theorem okLawSame (T : Txt K mg) : ∀ n : Nat, FnOk P w K mg base CX0 (n + 1) T.fLawSame T.fdLawSame ["actual", "due"] (spSame K n)
  | 0 => by
    refine T.FLawSame.ok scLawSame (fun vs H Q E h => ?_) (fun cdv A outer s H vs Q E hr h => ?_)
    · obtain ⟨x, y, rfl, _⟩ := h
      rfl
    · obtain ⟨x, y, rfl, ⟨rfl, sy⟩, q⟩ := h
      -- slots actual=0 due=1 k=2
      refine ⟨_, (pss_cons (ps_if (PW.pt (pw_or (pt_val (pe_callB call_isi (by rfl) T.z_isinstance (by decide +kernel) (pa_cons (pv 1) (pa_cons (pe_bltn (v := .ty "list") (by rfl) T.z_list (by decide +kernel) rfl) pa_nil)))) (pw_or1 (pt_val (pe_callB call_isi (by rfl) T.z_isinstance (by decide +kernel) (pa_cons (pv 1) (pa_cons (pe_bltn (v := .ty "tuple") (by rfl) T.z_tuple (by decide +kernel) rfl) pa_nil)))))))
            (pss_cons ps_never
            (pss_cons ps_never
            (pss_cons ps_never
            (pss_one ps_never))))
            pss_nil)
          (pss_cons (ps_if (pt_cmpR op_isN (pv 1) pe_non (nomark _))
            (pss_one (ps_ret (pe_cmpR op_isN (pv 0) pe_non (nomark _))))
            pss_nil)
          (pss_cons (ps_if (pt_val (pe_callB call_isi (by rfl) T.z_isinstance (by decide +kernel) (pa_cons (pv 1) (pa_cons (pe_bltn (v := .ty "bool") (by rfl) T.z_bool (by decide +kernel) rfl) pa_nil))))
            (pss_one (ps_ret (pe_and (pe_callB call_isi (by rfl) T.z_isinstance (by decide +kernel) (pa_cons (pv 0) (pa_cons (pe_bltn (v := .ty "bool") (by rfl) T.z_bool (by decide +kernel) rfl) pa_nil))) (pe_one (pe_cmpR op_eq (pv 0) (pv 1) (nomark _))))))
            pss_nil)
          (pss_cons (ps_if (pt_val (pe_callB call_isi (by rfl) T.z_isinstance (by decide +kernel) (pa_cons (pv 1) (pa_cons (pe_bltn (v := .ty "str") (by rfl) T.z_str (by decide +kernel) rfl) pa_nil))))
            (pss_one (ps_ret (pe_and (pe_callB call_isi (by rfl) T.z_isinstance (by decide +kernel) (pa_cons (pv 0) (pa_cons (pe_bltn (v := .ty "str") (by rfl) T.z_str (by decide +kernel) rfl) pa_nil))) (pe_one (pe_cmpR op_eq (pv 0) (pv 1) (nomark _))))))
            pss_nil)
          (pss_one (ps_ret (pe_and (pe_callB call_isi (by rfl) T.z_isinstance (by decide +kernel) (pa_cons (pv 0) (pa_cons (pe_bltn (v := .ty "int") (by rfl) T.z_int (by decide +kernel) rfl) pa_nil))) (pe_and (pe_not (pe_callB call_isi (by rfl) T.z_isinstance (by decide +kernel) (pa_cons (pv 0) (pa_cons (pe_bltn (v := .ty "bool") (by rfl) T.z_bool (by decide +kernel) rfl) pa_nil)))) (pe_one (pe_cmpR op_eq (pv 0) (pv 1) (nomark _))))))))))), ?_⟩
      cases x with
      | non =>
        refine ⟨_, rfl, _, _, _, _, false, rfl, .ty _, .base (.non), kit_ty (by decide +kernel), _, rfl, iteF ⟨_, rfl, _, _, _, _, false, rfl, .ty _, .base (.non), kit_ty (by decide +kernel), _, rfl, iteF ?_⟩⟩
        refine ⟨_, rfl, rfl, _, rfl, ite2 (fun _ => ?_) (fun c => absurd (decide_eq_true rfl) c)⟩
        refine ⟨_, rfl, rfl, ?_⟩
        rw [decide_eq_true rfl]
        exact q
      | bl v =>
        refine ⟨_, rfl, _, _, _, _, false, rfl, .ty _, .base (.bl v), kit_ty (by decide +kernel), _, rfl, iteF ⟨_, rfl, _, _, _, _, false, rfl, .ty _, .base (.bl v), kit_ty (by decide +kernel), _, rfl, iteF ?_⟩⟩
        refine ⟨_, rfl, rfl, _, rfl, ite2 (fun c => (nomatch (of_decide_eq_true c))) (fun _ => ?_)⟩
        refine ⟨_, rfl, _, _, _, _, true, rfl, .ty _, .base (.bl v), kit_ty (by decide +kernel), _, rfl, iteT ?_⟩
        refine ⟨_, rfl, _, _, _, _, true, rfl, .ty _, .base (.bl v), kit_ty (by decide +kernel), _, rfl, iteT ?_⟩
        refine ⟨_, rfl, _, rfl, rfl, ?_⟩
        rw [decide_eq_true rfl]
        exact q
      | int v =>
        refine ⟨_, rfl, _, _, _, _, false, rfl, .ty _, .base (.int v), kit_ty (by decide +kernel), _, rfl, iteF ⟨_, rfl, _, _, _, _, false, rfl, .ty _, .base (.int v), kit_ty (by decide +kernel), _, rfl, iteF ?_⟩⟩
        refine ⟨_, rfl, rfl, _, rfl, ite2 (fun c => (nomatch (of_decide_eq_true c))) (fun _ => ?_)⟩
        refine ⟨_, rfl, _, _, _, _, false, rfl, .ty _, .base (.int v), kit_ty (by decide +kernel), _, rfl, iteF ?_⟩
        refine ⟨_, rfl, _, _, _, _, false, rfl, .ty _, .base (.int v), kit_ty (by decide +kernel), _, rfl, iteF ?_⟩
        refine ⟨_, rfl, _, _, _, _, true, rfl, .ty _, .base (.int v), kit_ty (by decide +kernel), _, rfl, iteT ?_⟩
        refine ⟨_, rfl, _, _, _, _, false, rfl, .ty _, .base (.int v), kit_ty (by decide +kernel), _, rfl, _, rfl, iteT ?_⟩
        refine ⟨_, rfl, _, rfl, rfl, ?_⟩
        rw [decide_eq_true rfl]
        exact q
      | str v =>
        refine ⟨_, rfl, _, _, _, _, false, rfl, .ty _, .base (.str v), kit_ty (by decide +kernel), _, rfl, iteF ⟨_, rfl, _, _, _, _, false, rfl, .ty _, .base (.str v), kit_ty (by decide +kernel), _, rfl, iteF ?_⟩⟩
        refine ⟨_, rfl, rfl, _, rfl, ite2 (fun c => (nomatch (of_decide_eq_true c))) (fun _ => ?_)⟩
        refine ⟨_, rfl, _, _, _, _, false, rfl, .ty _, .base (.str v), kit_ty (by decide +kernel), _, rfl, iteF ?_⟩
        refine ⟨_, rfl, _, _, _, _, true, rfl, .ty _, .base (.str v), kit_ty (by decide +kernel), _, rfl, iteT ?_⟩
        refine ⟨_, rfl, _, _, _, _, true, rfl, .ty _, .base (.str v), kit_ty (by decide +kernel), _, rfl, iteT ?_⟩
        refine ⟨_, rfl, _, rfl, rfl, ?_⟩
        rw [decide_eq_true rfl]
        exact q
      | _ => exact sy.elim
  | n + 1 => by
    have IH := okLawSame T n
    refine T.FLawSame.ok scLawSame (fun vs H Q E h => ?_) (fun cdv A outer s H vs Q E hr h => ?_)
    · obtain ⟨x, y, rfl, _⟩ := h
      rfl
    · obtain ⟨x, y, rfl, hL, q⟩ := h
      -- slots actual=0 due=1 k=2
      refine ⟨_, (pss_cons (ps_if (PW.pt (pw_or (pt_val (pe_callB call_isi (by rfl) T.z_isinstance (by decide +kernel) (pa_cons (pv 1) (pa_cons (pe_bltn (v := .ty "list") (by rfl) T.z_list (by decide +kernel) rfl) pa_nil)))) (pw_or1 (pt_val (pe_callB call_isi (by rfl) T.z_isinstance (by decide +kernel) (pa_cons (pv 1) (pa_cons (pe_bltn (v := .ty "tuple") (by rfl) T.z_tuple (by decide +kernel) rfl) pa_nil)))))))
            (pss_cons (ps_if (PW.pt (pw_or (pt_cmpR op_ne (pe_callB call_isi (by rfl) T.z_isinstance (by decide +kernel) (pa_cons (pv 1) (pa_cons (pe_bltn (v := .ty "list") (by rfl) T.z_list (by decide +kernel) rfl) pa_nil))) (pe_callB call_isi (by rfl) T.z_isinstance (by decide +kernel) (pa_cons (pv 0) (pa_cons (pe_bltn (v := .ty "list") (by rfl) T.z_list (by decide +kernel) rfl) pa_nil))) (nomark _)) (pw_or1 (pt_cmpR op_ne (pe_callB call_isi (by rfl) T.z_isinstance (by decide +kernel) (pa_cons (pv 1) (pa_cons (pe_bltn (v := .ty "tuple") (by rfl) T.z_tuple (by decide +kernel) rfl) pa_nil))) (pe_callB call_isi (by rfl) T.z_isinstance (by decide +kernel) (pa_cons (pv 0) (pa_cons (pe_bltn (v := .ty "tuple") (by rfl) T.z_tuple (by decide +kernel) rfl) pa_nil))) (nomark _)))))
              (pss_one (ps_ret pe_bl))
              pss_nil)
            (pss_cons (ps_if (pt_cmpR op_ne (pe_callB call_len_seq (by rfl) T.z_len PySem.boot_len (pa_cons (pv 0) pa_nil)) (pe_callB call_len_seq (by rfl) T.z_len PySem.boot_len (pa_cons (pv 1) pa_nil)) (nomark _))
              (pss_one (ps_ret pe_bl))
              pss_nil)
            (pss_cons (ps_for PassesOwn.never rfl (pi_range1 rfl T.z_range (pa_cons (pe_callB call_len_seq (by rfl) T.z_len PySem.boot_len (pa_cons (pv 1) pa_nil)) pa_nil)) (pg_name (i := 2) scLawSame.nd rfl (Or.inl rfl))
              (pss_one (ps_if (pt_not (pt_val (pe_call IH (hr.mono (Nat.le_refl _)) (by rfl) T.gLawSame T.FLawSame.kp T.bLawSame .nil pass0 (pa_cons (pe_ix ix_seq (pv 0) (pv 2) (fun _ _ => rfl)) (pa_cons (pe_ix ix_seq (pv 1) (pv 2) (fun _ _ => rfl)) pa_nil)))))
                (pss_one (ps_ret pe_bl))
                pss_nil)))
            (pss_one (ps_ret pe_bl)))))
            pss_nil)
          (pss_cons (ps_if (pt_cmpR op_isN (pv 1) pe_non (nomark _))
            (pss_one (ps_ret (pe_cmpR op_isN (pv 0) pe_non (nomark _))))
            pss_nil)
          (pss_cons (ps_if (pt_val (pe_callB call_isi (by rfl) T.z_isinstance (by decide +kernel) (pa_cons (pv 1) (pa_cons (pe_bltn (v := .ty "bool") (by rfl) T.z_bool (by decide +kernel) rfl) pa_nil))))
            (pss_one (ps_ret (pe_and (pe_callB call_isi (by rfl) T.z_isinstance (by decide +kernel) (pa_cons (pv 0) (pa_cons (pe_bltn (v := .ty "bool") (by rfl) T.z_bool (by decide +kernel) rfl) pa_nil))) (pe_one (pe_cmpR op_eq (pv 0) (pv 1) (nomark _))))))
            pss_nil)
          (pss_cons (ps_if (pt_val (pe_callB call_isi (by rfl) T.z_isinstance (by decide +kernel) (pa_cons (pv 1) (pa_cons (pe_bltn (v := .ty "str") (by rfl) T.z_str (by decide +kernel) rfl) pa_nil))))
            (pss_one (ps_ret (pe_and (pe_callB call_isi (by rfl) T.z_isinstance (by decide +kernel) (pa_cons (pv 0) (pa_cons (pe_bltn (v := .ty "str") (by rfl) T.z_str (by decide +kernel) rfl) pa_nil))) (pe_one (pe_cmpR op_eq (pv 0) (pv 1) (nomark _))))))
            pss_nil)
          (pss_one (ps_ret (pe_and (pe_callB call_isi (by rfl) T.z_isinstance (by decide +kernel) (pa_cons (pv 0) (pa_cons (pe_bltn (v := .ty "int") (by rfl) T.z_int (by decide +kernel) rfl) pa_nil))) (pe_and (pe_not (pe_callB call_isi (by rfl) T.z_isinstance (by decide +kernel) (pa_cons (pv 0) (pa_cons (pe_bltn (v := .ty "bool") (by rfl) T.z_bool (by decide +kernel) rfl) pa_nil)))) (pe_one (pe_cmpR op_eq (pv 0) (pv 1) (nomark _))))))))))), ?_⟩
      rcases hL with ⟨rfl, sy⟩ | ⟨a, b, xs, ys, rfl, rfl, ha, hb, hl, hz, hi⟩ | ⟨a, b, xs, ys, rfl, rfl, ha, hb, hl, hz, hi⟩
      · cases x with
        | non =>
          refine ⟨_, rfl, _, _, _, _, false, rfl, .ty _, .base (.non), kit_ty (by decide +kernel), _, rfl, iteF ⟨_, rfl, _, _, _, _, false, rfl, .ty _, .base (.non), kit_ty (by decide +kernel), _, rfl, iteF ?_⟩⟩
          refine ⟨_, rfl, rfl, _, rfl, ite2 (fun _ => ?_) (fun c => absurd (decide_eq_true rfl) c)⟩
          refine ⟨_, rfl, rfl, ?_⟩
          rw [decide_eq_true rfl]
          exact q
        | bl v =>
          refine ⟨_, rfl, _, _, _, _, false, rfl, .ty _, .base (.bl v), kit_ty (by decide +kernel), _, rfl, iteF ⟨_, rfl, _, _, _, _, false, rfl, .ty _, .base (.bl v), kit_ty (by decide +kernel), _, rfl, iteF ?_⟩⟩
          refine ⟨_, rfl, rfl, _, rfl, ite2 (fun c => (nomatch (of_decide_eq_true c))) (fun _ => ?_)⟩
          refine ⟨_, rfl, _, _, _, _, true, rfl, .ty _, .base (.bl v), kit_ty (by decide +kernel), _, rfl, iteT ?_⟩
          refine ⟨_, rfl, _, _, _, _, true, rfl, .ty _, .base (.bl v), kit_ty (by decide +kernel), _, rfl, iteT ?_⟩
          refine ⟨_, rfl, _, rfl, rfl, ?_⟩
          rw [decide_eq_true rfl]
          exact q
        | int v =>
          refine ⟨_, rfl, _, _, _, _, false, rfl, .ty _, .base (.int v), kit_ty (by decide +kernel), _, rfl, iteF ⟨_, rfl, _, _, _, _, false, rfl, .ty _, .base (.int v), kit_ty (by decide +kernel), _, rfl, iteF ?_⟩⟩
          refine ⟨_, rfl, rfl, _, rfl, ite2 (fun c => (nomatch (of_decide_eq_true c))) (fun _ => ?_)⟩
          refine ⟨_, rfl, _, _, _, _, false, rfl, .ty _, .base (.int v), kit_ty (by decide +kernel), _, rfl, iteF ?_⟩
          refine ⟨_, rfl, _, _, _, _, false, rfl, .ty _, .base (.int v), kit_ty (by decide +kernel), _, rfl, iteF ?_⟩
          refine ⟨_, rfl, _, _, _, _, true, rfl, .ty _, .base (.int v), kit_ty (by decide +kernel), _, rfl, iteT ?_⟩
          refine ⟨_, rfl, _, _, _, _, false, rfl, .ty _, .base (.int v), kit_ty (by decide +kernel), _, rfl, _, rfl, iteT ?_⟩
          refine ⟨_, rfl, _, rfl, rfl, ?_⟩
          rw [decide_eq_true rfl]
          exact q
        | str v =>
          refine ⟨_, rfl, _, _, _, _, false, rfl, .ty _, .base (.str v), kit_ty (by decide +kernel), _, rfl, iteF ⟨_, rfl, _, _, _, _, false, rfl, .ty _, .base (.str v), kit_ty (by decide +kernel), _, rfl, iteF ?_⟩⟩
          refine ⟨_, rfl, rfl, _, rfl, ite2 (fun c => (nomatch (of_decide_eq_true c))) (fun _ => ?_)⟩
          refine ⟨_, rfl, _, _, _, _, false, rfl, .ty _, .base (.str v), kit_ty (by decide +kernel), _, rfl, iteF ?_⟩
          refine ⟨_, rfl, _, _, _, _, true, rfl, .ty _, .base (.str v), kit_ty (by decide +kernel), _, rfl, iteT ?_⟩
          refine ⟨_, rfl, _, _, _, _, true, rfl, .ty _, .base (.str v), kit_ty (by decide +kernel), _, rfl, iteT ?_⟩
          refine ⟨_, rfl, _, rfl, rfl, ?_⟩
          rw [decide_eq_true rfl]
          exact q
        | _ => exact sy.elim
      · refine ⟨_, rfl, _, _, _, _, false, rfl, .ty _, .base (.tup hb), kit_ty (by decide +kernel), _, rfl, iteF ⟨_, rfl, _, _, _, _, true, rfl, .ty _, .base (.tup hb), kit_ty (by decide +kernel), _, rfl, iteT ?_⟩⟩
        refine ⟨_, rfl, _, _, _, _, false, rfl, .ty _, .base (.tup hb), kit_ty (by decide +kernel), _, rfl, _, _, _, _, false, rfl, .ty _, .base (.tup ha), kit_ty (by decide +kernel), rfl, _, rfl, iteNS rfl ?_⟩
        refine ⟨_, rfl, _, _, _, _, true, rfl, .ty _, .base (.tup hb), kit_ty (by decide +kernel), _, rfl, _, _, _, _, true, rfl, .ty _, .base (.tup ha), kit_ty (by decide +kernel), rfl, _, rfl, iteNS rfl ?_⟩
        refine ⟨_, rfl, a, _, rfl, .inr (SqT.of ha), _, rfl, b, _, rfl, .inr (SqT.of hb), rfl, _, rfl, iteNS (by rw [hl]) ?_⟩
        refine ⟨_, rfl, b, _, rfl, .inr (SqT.of hb), _, rfl, by omega, by omega, for_range (lo := 0) (n := ys.length) (fun i σ H' => H' = H ∧ ∃ k, σ = [some (.ref a), some (.ref b), k]) ⟨rfl, _, rfl⟩ ?_ ?_⟩
        · rintro i σ H1 hi2 ⟨rfl, k, rfl⟩
          have e1 : xs[i]? = some xs[i] := List.getElem?_eq_getElem (by omega)
          have e2 : ys[i]? = some ys[i] := List.getElem?_eq_getElem hi2
          have z : (0 : Int) + (i : Int) = ((i : Nat) : Int) := Int.zero_add _
          refine ⟨_, rfl, _, rfl, .inr (.inl ⟨a, _, _, _, rfl, rfl, SqT.of ha, by rw [z]; exact atI_nat e1, _, rfl, _, rfl, .inr (.inl ⟨b, _, _, _, rfl, rfl, SqT.of hb, by rw [z]; exact atI_nat e2, ?_⟩)⟩)⟩
          exact ⟨_, _, rfl, hi i _ _ e1 e2, _, rfl, iteF ⟨rfl, _, rfl⟩⟩
        · rintro σ H1 ⟨rfl, k, rfl⟩
          exact q
      · refine ⟨_, rfl, _, _, _, _, true, rfl, .ty _, .base (.lst hb), kit_ty (by decide +kernel), _, rfl, iteT ?_⟩
        refine ⟨_, rfl, _, _, _, _, true, rfl, .ty _, .base (.lst hb), kit_ty (by decide +kernel), _, rfl, _, _, _, _, true, rfl, .ty _, .base (.lst ha), kit_ty (by decide +kernel), rfl, _, rfl, iteNS rfl ?_⟩
        refine ⟨_, rfl, _, _, _, _, false, rfl, .ty _, .base (.lst hb), kit_ty (by decide +kernel), _, rfl, _, _, _, _, false, rfl, .ty _, .base (.lst ha), kit_ty (by decide +kernel), rfl, _, rfl, iteNS rfl ?_⟩
        refine ⟨_, rfl, a, _, rfl, .inl (SqL.of ha), _, rfl, b, _, rfl, .inl (SqL.of hb), rfl, _, rfl, iteNS (by rw [hl]) ?_⟩
        refine ⟨_, rfl, b, _, rfl, .inl (SqL.of hb), _, rfl, by omega, by omega, for_range (lo := 0) (n := ys.length) (fun i σ H' => H' = H ∧ ∃ k, σ = [some (.ref a), some (.ref b), k]) ⟨rfl, _, rfl⟩ ?_ ?_⟩
        · rintro i σ H1 hi2 ⟨rfl, k, rfl⟩
          have e1 : xs[i]? = some xs[i] := List.getElem?_eq_getElem (by omega)
          have e2 : ys[i]? = some ys[i] := List.getElem?_eq_getElem hi2
          have z : (0 : Int) + (i : Int) = ((i : Nat) : Int) := Int.zero_add _
          refine ⟨_, rfl, _, rfl, .inl (⟨a, _, _, _, rfl, rfl, SqL.of ha, by rw [z]; exact atI_nat e1, _, rfl, _, rfl, .inl (⟨b, _, _, _, rfl, rfl, SqL.of hb, by rw [z]; exact atI_nat e2, ?_⟩)⟩)⟩
          exact ⟨_, _, rfl, hi i _ _ e1 e2, _, rfl, iteF ⟨rfl, _, rfl⟩⟩
        · rintro σ H1 ⟨rfl, k, rfl⟩
          exact q
def spRunEnd (K : PySem.W.Frag) : Sp := fun vs H Q _ => ∃ (a : List Nat) (i : Nat) (z : Str), vs = [.str (S a), .int (i : Int), .str z] ∧ a.length ≤ 100000 ∧ Q (.int ((i + rn z (a.drop i) : Nat) : Int)) H
theorem okRunEnd (T : Txt K mg) : FnOk P w K mg base CX0 1 T.fRunEnd T.fdRunEnd ["text", "at", "characters"] (spRunEnd K) := by
  refine T.FRunEnd.ok scRunEnd (fun vs H Q E h => ?_) (fun cdv A outer s H vs Q E hr h => ?_)
  · obtain ⟨a, i, z, rfl, _⟩ := h
    rfl
  · obtain ⟨a, i0, z, rfl, ha, q⟩ := h
    -- slots text=0 at=1 characters=2
    refine ⟨_, (pss_cons (ps_while PassesOwn.never (PW.pt (pw_and (pt_cmpR op_lt (pv 1) (pe_callB call_len_str (by rfl) T.z_len PySem.boot_len (pa_cons (pv 0) pa_nil)) (nomark _)) (pw_and1 (pt_cmpR op_in_sign (pe_ix ix_str (pv 0) (pv 1) (fun _ _ => rfl)) (pv 2) rfl))))
          (pss_one (ps_set (i := 1) scRunEnd.nd rfl (Or.inl rfl) (pe_op op_add (pv 1) pe_int))))
        (pss_one (ps_ret (pv 1)))), ?_⟩
    refine while_by (fun σ H' => H' = H ∧ ∃ i : Nat, σ = [some (.str (S a)), some (.int (i : Int)), some (.str z)] ∧ i + rn z (a.drop i) = i0 + rn z (a.drop i0)) (fun σ _ => match σ with | [_, some (.int n), _] => a.length - n.toNat | _ => 0) ⟨rfl, i0, rfl, rfl⟩ ?_ (fun σ H Q Q' m h => by
      obtain ⟨v, hv, v2, hv2, z2, e1, e2, i, j, e3, e4, k, e5, q⟩ := h
      refine ⟨v, hv, v2, hv2, z2, e1, e2, i, j, e3, e4, k, e5, ?_⟩
      cases k with
      | false => exact m _ _ q
      | true =>
        obtain ⟨w, hw, w2, hw2, z3, i3, c3, f1, f2, f3, f4, w3, hw3, c4, z4, g1, g2, k4, g3, q⟩ := q
        exact ⟨w, hw, w2, hw2, z3, i3, c3, f1, f2, f3, f4, w3, hw3, c4, z4, g1, g2, k4, g3, m _ _ q⟩)
    rintro σ H1 ⟨rfl, i, rfl, e⟩
    refine ⟨_, rfl, _, rfl, S a, rfl, by rw [S_len]; exact sz100 ha, _, _, rfl, rfl, _, rfl, ite2 (fun c => ?_) (fun c => ?_)⟩
    · have hi : i < a.length := by
        have c2 := of_decide_eq_true c
        rw [S_len] at c2
        omega
      have ec : a[i]? = some a[i] := List.getElem?_eq_getElem hi
      have ed : a.drop i = a[i] :: a.drop (i + 1) := List.drop_eq_getElem_cons hi
      generalize a[i] = c at ec ed
      refine ⟨_, rfl, _, rfl, S a, _, c, rfl, rfl, by rw [S_len]; exact sz100 ha, atI_nat (show a[i]? = some c from ec), _, rfl, c, z, rfl, rfl, _, rfl, ite2 (fun c2 => ?_) (fun c2 => ?_)⟩
      · have e3 : decide (c ∈ z.cps.toList) = true := c2
        refine ⟨_, rfl, _, _, rfl, rfl, ⟨rfl, i + 1, rfl, ?_⟩, ?_⟩
        · rw [← e, ed]
          unfold rn
          rw [List.takeWhile_cons, e3]
          simp only [if_true, List.length_cons]
          omega
        · show a.length - ((i : Int) + 1).toNat < a.length - ((i : Int)).toNat
          omega
      · have e3 : decide (c ∈ z.cps.toList) = false := Bool.eq_false_iff.mpr c2
        refine ⟨_, rfl, ?_⟩
        rw [ed] at e
        unfold rn at e q
        rw [List.takeWhile_cons, e3] at e
        simp only [Bool.false_eq_true, if_false, List.length_nil, Nat.add_zero] at e
        rw [e]
        exact q
    · have hi : a.length ≤ i := by
        rcases Nat.lt_or_ge i a.length with h | h
        · exact absurd (decide_eq_true (show (i : Int) < ((S a).length : Int) by rw [S_len]; omega)) c
        · exact h
      refine iteF ⟨_, rfl, ?_⟩
      rw [List.drop_eq_nil_of_le hi] at e
      have e2 : i = i0 + rn z (a.drop i0) := e
      rw [e2]
      exact q
/-! ### addresses -/
def colv (l : List Nat) : Int := l.foldl (fun (t : Int) c => t * 26 + ((c - 65 : Nat) : Int) + 1) 0
def okA (a : List Nat) : Prop := ((a.takeWhile cap).length = 1 ∨ (a.takeWhile cap).length = 2) ∧ ((a.drop (a.takeWhile cap).length).length = 1 ∨ (a.drop (a.takeWhile cap).length).length = 2) ∧ (a.drop (a.takeWhile cap).length).head? ≠ some 48 ∧ (a.drop (a.takeWhile cap).length).all dig = true
def rowA (a : List Nat) : Int := ((digitsVal (a.drop (a.takeWhile cap).length) : Nat) : Int) - 1
def colA (a : List Nat) : Int := colv (a.take (a.takeWhile cap).length) - 1
def spAddr (K : PySem.W.Frag) : Sp := fun vs H Q _ => ∃ (a : List Nat), vs = [.str (S a)] ∧ a.length ≤ 1000 ∧ (¬ okA a → ∀ H', Same H H' → Q .non H') ∧ (okA a → ∀ p H', Same H H' → H' p = some (.tup [.int (rowA a), .int (colA a)]) → Q (.ref p) H')
theorem idx26 {c : Nat} (h : cap c = true) : Txt.index0 ("ABCDEFGHIJKLMNOPQRSTUVWXYZ" : Str) (S [c]) = some (c - 65) := by
  have h2 : 65 ≤ c ∧ c ≤ 90 := of_decide_eq_true h
  have all : ∀ k : Fin 26, Txt.index0 ("ABCDEFGHIJKLMNOPQRSTUVWXYZ" : Str) (S [65 + k.val]) = some k.val := by decide +kernel
  have e := all ⟨c - 65, by omega⟩
  rw [show 65 + (c - 65) = c by omega] at e
  exact e
theorem okReadAddress (T : Txt K mg) : FnOk P w K mg base CX0 2 T.fReadAddress T.fdReadAddress ["text"] (spAddr K) := by
  refine T.FReadAddress.ok scReadAddress (fun vs H Q E h => ?_) (fun cdv A outer s H vs Q E hr h => ?_)
  · obtain ⟨a, rfl, _⟩ := h
    rfl
  · obtain ⟨a, rfl, ha, q1, q2⟩ := h
    -- slots text=0 middle=1 letters=2 digits=3 column=4 letter=5
    refine ⟨_, (pss_cons (ps_set (i := 1) scReadAddress.nd rfl (Or.inl rfl) (pe_call (okRunEnd T) (hr.mono (by decide)) (by rfl) T.gRunEnd T.FRunEnd.kp T.bRunEnd .nil pass0 (pa_cons (pv 0) (pa_cons pe_int (pa_cons (pe_glob (v := (.str "ABCDEFGHIJKLMNOPQRSTUVWXYZ")) rfl T.g_CAPITALS ⟨_, rfl⟩) pa_nil)))))
        (pss_cons (ps_set (i := 2) scReadAddress.nd rfl (Or.inl rfl) (pe_slice C8.sl_txt (pv 0) po_none (po_some (pv 1))))
        (pss_cons (ps_set (i := 3) scReadAddress.nd rfl (Or.inl rfl) (pe_slice C8.sl_txt (pv 0) (po_some (pv 1)) po_none))
        (pss_cons (ps_if (PW.pt (pw_or (pt_cmpR op_notIn_seq (pe_callB call_len_str (by rfl) T.z_len PySem.boot_len (pa_cons (pv 2) pa_nil)) (pe_tup (pa_cons pe_int (pa_cons pe_int pa_nil))) rfl) (pw_or1 (pt_cmpR op_notIn_seq (pe_callB call_len_str (by rfl) T.z_len PySem.boot_len (pa_cons (pv 3) pa_nil)) (pe_tup (pa_cons pe_int (pa_cons pe_int pa_nil))) rfl))))
          (pss_one (ps_ret pe_non))
          pss_nil)
        (pss_cons (ps_if (PW.pt (pw_or (pt_cmpR op_eq (pe_ix ix_str (pv 3) pe_int (fun _ _ => rfl)) pe_str (nomark _)) (pw_or1 (pt_cmpR op_lt (pe_call (okRunEnd T) (hr.mono (by decide)) (by rfl) T.gRunEnd T.FRunEnd.kp T.bRunEnd .nil pass0 (pa_cons (pv 3) (pa_cons pe_int (pa_cons (pe_glob (v := (.str "0123456789")) rfl T.g_DIGITS ⟨_, rfl⟩) pa_nil)))) (pe_callB call_len_str (by rfl) T.z_len PySem.boot_len (pa_cons (pv 3) pa_nil)) (nomark _)))))
          (pss_one (ps_ret pe_non))
          pss_nil)
        (pss_cons (ps_set (i := 4) scReadAddress.nd rfl (Or.inl rfl) pe_int)
        (pss_cons (ps_for PassesOwn.never rfl (pi_str (pv 2)) (pg_name (i := 5) scReadAddress.nd rfl (Or.inl rfl))
          (pss_one (ps_set (i := 4) scReadAddress.nd rfl (Or.inl rfl) (pe_op op_add (pe_op op_add (pe_op op_mul (pv 4) (pe_callB call_len_str (by rfl) T.z_len PySem.boot_len (pa_cons (pe_glob (v := (.str "ABCDEFGHIJKLMNOPQRSTUVWXYZ")) rfl T.g_CAPITALS ⟨_, rfl⟩) pa_nil))) (pe_bmS PySem.F.plainAttrs_str PySem.F.slot_str_index PySem.F.type_str_index (mt_indexX rfl takes0) (pe_glob (v := (.str "ABCDEFGHIJKLMNOPQRSTUVWXYZ")) rfl T.g_CAPITALS ⟨_, rfl⟩) (pa_cons (pv 5) pa_nil))) pe_int))))
        (pss_one (ps_ret (pe_tup (pa_cons (pe_op op_sub (pe_callTy call_int_str (by rfl) T.z_int (by decide +kernel) (pa_cons (pv 3) pa_nil)) pe_int) (pa_cons (pe_op op_sub (pv 4) pe_int) pa_nil)))))))))))), ?_⟩
    have em : rn ("ABCDEFGHIJKLMNOPQRSTUVWXYZ" : Str) (a.drop 0) = (a.takeWhile cap).length := by
      unfold rn
      rw [List.drop_zero, tw_congr cap_mem]
    refine ⟨_, rfl, a, 0, _, rfl, by omega, ?_⟩
    rw [em, Nat.zero_add]
    have hm := tw_le (p := cap) a
    have hcap := tw_take (p := cap) a
    unfold okA at q1 q2
    unfold rowA colA at q2
    generalize (a.takeWhile cap).length = m at q1 q2 hm hcap
    refine ⟨_, rfl, _, rfl, _, rfl, S a, rfl, by rw [S_len]; exact sz100 (by omega), ?_⟩
    rw [slice_to (by omega), Int.toNat_natCast]
    refine ⟨_, rfl, _, rfl, _, rfl, S a, rfl, by rw [S_len]; exact sz100 (by omega), ?_⟩
    rw [slice_from (by omega), Int.toNat_natCast]
    have lL : (a.take m).length = m := by rw [List.length_take]; omega
    have lD : (a.drop m).length ≤ 1000 := by rw [List.length_drop]; omega
    generalize a.take m = L at *
    generalize a.drop m = D at *
    -- if len(letters) not in (1, 2) or len(digits) not in (1, 2)
    refine ⟨_, rfl, S L, rfl, by rw [S_len]; exact sz100 (by omega), (by show 2 ≤ sizeLine; decide), fun t ht => ?_⟩
    refine ⟨t, _, rfl, .inr (SqT.of upd_same), rfl, rfl, _, rfl, ?_⟩
    rw [S_len, lL]
    show if (!inV (V.int (m : Int)) [.int 1, .int 2]) = true then _ else _
    rw [in12]
    by_cases c1 : m = 1 ∨ m = 2
    rotate_left
    · rw [decide_eq_false (by omega)]
      refine iteT (q1 (fun z => c1 z.1) _ (same_new ht))
    rw [decide_eq_true (by omega)]
    refine iteF ?_
    refine ⟨_, rfl, S D, rfl, by rw [S_len]; exact sz100 (by omega), (by show 2 ≤ sizeLine; decide), fun t2 ht2 => ?_⟩
    have s2 := (same_new (o := .tup [.int 1, .int 2]) ht).trans (same_new (o := .tup [.int 1, .int 2]) ht2)
    refine ⟨t2, _, rfl, .inr (SqT.of upd_same), rfl, rfl, _, rfl, ?_⟩
    rw [S_len]
    show if (!inV (V.int (D.length : Int)) [.int 1, .int 2]) = true then _ else _
    rw [in12]
    by_cases c2 : D.length = 1 ∨ D.length = 2
    rotate_left
    · rw [decide_eq_false (by omega)]
      refine iteT (q1 (fun z => c2 z.2.1) _ s2)
    rw [decide_eq_true (by omega)]
    refine iteF ?_
    -- if digits[0] == '0' or ..
    obtain ⟨x, r, rfl⟩ : ∃ x r, D = x :: r := by
      cases D with
      | nil => simp at c2
      | cons x r => exact ⟨x, r, rfl⟩
    refine ⟨_, rfl, S (x :: r), 0, x, rfl, rfl, by rw [S_len]; exact sz100 (by omega), atI_nat (j := 0) rfl, rfl, _, rfl, ?_⟩
    by_cases c3 : x = 48
    · subst c3
      refine ite2 (fun _ => ?_) (fun z => absurd (decide_eq_true rfl) z)
      refine iteT (q1 (fun z => z.2.2.1 rfl) _ s2)
    refine ite2 (fun z => ?_) (fun _ => ?_)
    · have z2 := SX.S_inj (a := [x]) (b := [48]) (V.str.inj (of_decide_eq_true z))
      simp at z2
      exact absurd z2 c3
    refine ⟨_, rfl, x :: r, 0, _, rfl, by omega, ?_⟩
    have er : rn ("0123456789" : Str) ((x :: r).drop 0) = ((x :: r).takeWhile dig).length := by
      unfold rn
      rw [List.drop_zero, tw_congr dig_mem]
    rw [er, Nat.zero_add]
    refine ⟨_, rfl, S (x :: r), rfl, by rw [S_len]; exact sz100 (by omega), _, _, rfl, rfl, _, rfl, ?_⟩
    rw [S_len]
    by_cases c4 : (x :: r).all dig = true
    rotate_left
    · have hlt : ((x :: r).takeWhile dig).length < (x :: r).length := by
        rcases Nat.lt_or_ge ((x :: r).takeWhile dig).length (x :: r).length with h | h
        · exact h
        · exact absurd (List.all_eq_true.mpr (tw_full (Nat.le_antisymm (tw_le _) h))) c4
      rw [decide_eq_true (by omega)]
      refine iteT (q1 (fun z => c4 z.2.2.2) _ s2)
    rw [tw_all (List.all_eq_true.mp c4), decide_eq_false (by omega)]
    refine iteF ?_
    -- column
    refine ⟨_, rfl, S L, rfl, for_it (walk_S (a := L)) (fun i σ H' => ∃ c5, σ = [some (.str (S a)), some (.int (m : Int)), some (.str (S L)), some (.str (S (x :: r))), some (.int (colv (L.take i))), c5] ∧ Same H H') ⟨_, rfl, s2⟩ (fun _ _ _ _ _ => trivial) ?_ ?_⟩
    · rintro i v σ H1 H2 hi ⟨c5, rfl, s3⟩ ⟨rfl, c, ec, rfl⟩
      have hc : cap c = true := hcap c (List.mem_of_getElem? ec)
      refine ⟨_, rfl, _, rfl, by decide +kernel, _, _, rfl, rfl, .inr ⟨by decide +kernel, by decide +kernel⟩, rfl, _, rfl, _, _, rfl, rfl, (fun k ek => ?_), (fun z => by rw [idx26 hc] at z; cases z)⟩
      rw [idx26 hc] at ek
      cases ek
      refine ⟨_, _, rfl, rfl, _, _, rfl, rfl, some (.str (S [c])), ?_, s3⟩
      have et : L.take (i + 1) = L.take i ++ [c] := by rw [List.take_add_one, ec]; rfl
      rw [et]
      unfold colv
      rw [List.foldl_append]
      rfl
    · rintro σ H1 ⟨c5, rfl, s3⟩
      rw [List.take_length]
      have hne : (x :: r) ≠ [] := List.cons_ne_nil _ _
      refine ⟨_, rfl, S (x :: r), _, rfl, int_dig c4 hne (by omega), by rw [S_len]; omega, _, _, rfl, rfl, _, rfl, _, _, rfl, rfl, (by show 2 ≤ sizeLine; decide), fun p hp => ?_⟩
      exact q2 ⟨c1, c2, fun z => c3 (Option.some.inj z), c4⟩ p _ (s3.trans (same_new hp)) upd_same
theorem okLawOwn (T : Txt K mg) : FnOk P w K mg base CX0 1 T.fLawOwn T.fdLawOwn ["text"] (spAddr K) := by
  refine T.FLawOwn.ok scLawOwn (fun vs H Q E h => ?_) (fun cdv A outer s H vs Q E hr h => ?_)
  · obtain ⟨a, rfl, _⟩ := h
    rfl
  · obtain ⟨a, rfl, ha, q1, q2⟩ := h
    -- slots text=0 letters=1 size=2 char=3 digits=4 column=5
    refine ⟨_, (pss_cons (ps_set (i := 1) scLawOwn.nd rfl (Or.inl rfl) pe_str)
        (pss_cons (ps_set (i := 2) scLawOwn.nd rfl (Or.inl rfl) pe_int)
        (C8.pss_cut (ps_for PassesOwn.never rfl (pi_str (pv 0)) (pg_name (i := 3) scLawOwn.nd rfl (Or.inl rfl))
          (pss_cons (ps_if (pt_cmpR op_notIn_sign (pv 3) (pv 1) rfl)
            (pss_one ps_break)
            pss_nil)
          (pss_one (ps_set (i := 2) scLawOwn.nd rfl (Or.inl rfl) (pe_op op_add (pv 2) pe_int)))))
        (pss_cons (ps_set (i := 4) scLawOwn.nd rfl (Or.inl rfl) (pe_slice C8.sl_txt (pv 0) (po_some (pv 2)) po_none))
        (pss_cons (ps_if (PW.pt (pw_or (pt_cmpR op_notIn_seq (pv 2) (pe_lst (pa_cons pe_int (pa_cons pe_int pa_nil))) rfl) (pw_or (pt_cmpR op_notIn_seq (pe_callB call_len_str (by rfl) T.z_len PySem.boot_len (pa_cons (pv 4) pa_nil)) (pe_lst (pa_cons pe_int (pa_cons pe_int pa_nil))) rfl) (pw_or1 (pt_cmpR op_eq (pe_slice C8.sl_txt (pv 4) po_none (po_some pe_int)) pe_str (nomark _))))))
          (pss_one (ps_ret pe_non))
          pss_nil)
        (C8.pss_cut (ps_for PassesOwn.never rfl (pi_str (pv 4)) (pg_name (i := 3) scLawOwn.nd rfl (Or.inl rfl))
          (pss_one (ps_if (pt_cmpR op_notIn_sign (pv 3) pe_str rfl)
            (pss_one (ps_ret pe_non))
            pss_nil)))
        (pss_cons (ps_set (i := 5) scLawOwn.nd rfl (Or.inl rfl) (pe_bmS PySem.F.plainAttrs_str PySem.F.slot_str_index PySem.F.type_str_index (mt_indexX rfl takes0) (pv 1) (pa_cons (pe_ix ix_str (pv 0) (pe_op op_sub (pv 2) pe_int) (fun _ _ => rfl)) pa_nil)))
        (C8.pss_cut (ps_if (pt_cmpR op_eq (pv 2) pe_int (nomark _))
          (pss_one (ps_set (i := 5) scLawOwn.nd rfl (Or.inl rfl) (pe_op op_add (pv 5) (pe_op op_mul pe_int (pe_op op_add pe_int (pe_bmS PySem.F.plainAttrs_str PySem.F.slot_str_index PySem.F.type_str_index (mt_indexX rfl takes0) (pv 1) (pa_cons (pe_ix ix_str (pv 0) pe_int (fun _ _ => rfl)) pa_nil)))))))
          pss_nil)
        (pss_one (ps_ret (pe_tup (pa_cons (pe_op op_sub (pe_callTy call_int_str (by rfl) T.z_int (by decide +kernel) (pa_cons (pv 4) pa_nil)) pe_int) (pa_cons (pv 5) pa_nil))))))))))))), ?_⟩
    have hm := tw_le (p := cap) a
    have hcap := tw_take (p := cap) a
    refine ⟨fun σ H' => H' = H ∧ ∃ c3, σ = [some (.str (S a)), some (.str ("ABCDEFGHIJKLMNOPQRSTUVWXYZ" : Str)), some (.int (((a.takeWhile cap).length : Nat) : Int)), c3, none, none], ?_, ?_⟩
    · refine ⟨_, rfl, S a, rfl, for_it (walk_S (a := a)) (fun i σ H' => H' = H ∧ (∀ x ∈ a.take i, cap x = true) ∧ ∃ c3, σ = [some (.str (S a)), some (.str ("ABCDEFGHIJKLMNOPQRSTUVWXYZ" : Str)), some (.int (i : Int)), c3, none, none]) ⟨rfl, (fun x h => by simp at h), _, rfl⟩ (fun _ _ _ _ _ => trivial) ?_ ?_⟩
      · rintro i v σ H1 H2 hi ⟨rfl, hall, c3, rfl⟩ ⟨rfl, c, ec, rfl⟩
        refine ⟨_, rfl, _, rfl, c, _, rfl, rfl, _, rfl, ?_⟩
        rw [cap_mem]
        cases hc : cap c with
        | false => exact iteT ⟨rfl, some (.str (S [c])), by rw [tw_len hall ec hc]; rfl⟩
        | true =>
          refine iteF ⟨_, rfl, _, _, rfl, rfl, rfl, fun x hx => ?_, some (.str (S [c])), rfl⟩
          rw [List.take_add_one, ec] at hx
          rcases List.mem_append.mp hx with h | h
          · exact hall x h
          · obtain rfl : x = c := by simpa using h
            exact hc
      · rintro σ H1 ⟨rfl, hall, c3, rfl⟩
        rw [List.take_length] at hall
        exact ⟨rfl, c3, by rw [tw_all hall]⟩
    rintro σ H1 ⟨rfl, c3, rfl⟩
    unfold okA at q1 q2
    unfold rowA colA at q2
    generalize (a.takeWhile cap).length = m at q1 q2 hm hcap ⊢
    refine ⟨_, rfl, _, rfl, _, rfl, S a, rfl, by rw [S_len]; exact sz100 (by omega), ?_⟩
    rw [slice_from (by omega), Int.toNat_natCast]
    have lD : (a.drop m).length ≤ 1000 := by rw [List.length_drop]; omega
    generalize eD : a.drop m = D at *
    -- if size not in [1, 2] or len(digits) not in [1, 2] or digits[:1] == '0'
    refine ⟨_, rfl, (by show 2 ≤ sizeLine; decide), fun t ht => ?_⟩
    refine ⟨t, _, rfl, .inl (SqL.of upd_same), rfl, rfl, _, rfl, ?_⟩
    show if (!inV (V.int (m : Int)) [.int 1, .int 2]) = true then _ else _
    rw [in12]
    by_cases c1 : m = 1 ∨ m = 2
    rotate_left
    · rw [decide_eq_false (by omega)]
      refine iteT (q1 (fun z => c1 z.1) _ (same_new ht))
    rw [decide_eq_true (by omega)]
    refine iteF ?_
    refine ⟨_, rfl, S D, rfl, by rw [S_len]; exact sz100 (by omega), (by show 2 ≤ sizeLine; decide), fun t2 ht2 => ?_⟩
    have s2 := (same_new (o := .lst [.int 1, .int 2]) ht).trans (same_new (o := .lst [.int 1, .int 2]) ht2)
    refine ⟨t2, _, rfl, .inl (SqL.of upd_same), rfl, rfl, _, rfl, ?_⟩
    rw [S_len]
    show if (!inV (V.int (D.length : Int)) [.int 1, .int 2]) = true then _ else _
    rw [in12]
    by_cases c2 : D.length = 1 ∨ D.length = 2
    rotate_left
    · rw [decide_eq_false (by omega)]
      refine iteT (q1 (fun z => c2 z.2.1) _ s2)
    rw [decide_eq_true (by omega)]
    refine iteF ?_
    obtain ⟨x, r, rfl⟩ : ∃ x r, D = x :: r := by
      cases D with
      | nil => simp at c2
      | cons x r => exact ⟨x, r, rfl⟩
    refine ⟨_, rfl, 1, rfl, S (x :: r), rfl, by rw [S_len]; exact sz100 (by omega), ?_⟩
    rw [slice_to (by omega)]
    refine ⟨rfl, _, rfl, ?_⟩
    by_cases c3 : x = 48
    · subst c3
      refine ite2 (fun _ => ?_) (fun z => absurd (decide_eq_true rfl) z)
      exact q1 (fun z => z.2.2.1 rfl) _ s2
    refine ite2 (fun z => ?_) (fun _ => ?_)
    · have z2 := SX.S_inj (a := [x]) (b := [48]) (V.str.inj (of_decide_eq_true z))
      simp at z2
      exact absurd z2 c3
    -- for char in digits
    generalize hH2 : upd (upd H1 t (.lst [.int 1, .int 2])) t2 (.lst [.int 1, .int 2]) = H2 at s2
    refine ⟨fun σ H' => Same H1 H' ∧ (x :: r).all dig = true ∧ ∃ c3, σ = [some (.str (S a)), some (.str ("ABCDEFGHIJKLMNOPQRSTUVWXYZ" : Str)), some (.int (m : Int)), c3, some (.str (S (x :: r))), none], ?_, ?_⟩
    · refine ⟨_, rfl, S (x :: r), rfl, for_it (walk_S (a := x :: r)) (fun i σ H' => Same H1 H' ∧ (∀ y ∈ (x :: r).take i, dig y = true) ∧ ∃ c3, σ = [some (.str (S a)), some (.str ("ABCDEFGHIJKLMNOPQRSTUVWXYZ" : Str)), some (.int (m : Int)), c3, some (.str (S (x :: r))), none]) ⟨s2, (fun x h => by simp at h), _, rfl⟩ (fun _ _ _ _ _ => trivial) ?_ ?_⟩
      · rintro i v σ H3 H4 hi ⟨s3, hall, c3, rfl⟩ ⟨rfl, c, ec, rfl⟩
        refine ⟨_, rfl, c, _, rfl, rfl, _, rfl, ?_⟩
        rw [dig_mem]
        cases hc : dig c with
        | false =>
          refine iteT (q1 (fun z => ?_) _ s3)
          have := List.all_eq_true.mp z.2.2.2 c (List.mem_of_getElem? ec)
          rw [hc] at this
          cases this
        | true =>
          refine iteF ⟨s3, fun y hy => ?_, some (.str (S [c])), rfl⟩
          rw [List.take_add_one, ec] at hy
          rcases List.mem_append.mp hy with h | h
          · exact hall y h
          · obtain rfl : y = c := by simpa using h
            exact hc
      · rintro σ H3 ⟨s3, hall, c3, rfl⟩
        rw [List.take_length] at hall
        exact ⟨s3, List.all_eq_true.mpr hall, c3, rfl⟩
    rintro σ H3 ⟨s3, c4, c5, rfl⟩
    have hOk : (m = 1 ∨ m = 2) ∧ ((x :: r).length = 1 ∨ (x :: r).length = 2) ∧ (x :: r).head? ≠ some 48 ∧ (x :: r).all dig = true := ⟨c1, c2, fun z => c3 (Option.some.inj z), c4⟩
    -- the letters
    obtain ⟨y, L2, eL, ey⟩ : ∃ y L2, a.take m = L2 ++ [y] ∧ a[m - 1]? = some y := by
      have hm1 : m - 1 < a.length := by omega
      refine ⟨a[m - 1], a.take (m - 1), ?_, List.getElem?_eq_getElem hm1⟩
      have e : m = (m - 1) + 1 := by omega
      conv => lhs; rw [e]
      rw [List.take_add_one, List.getElem?_eq_getElem hm1]
      rfl
    have hy : cap y = true := hcap y (by rw [eL]; simp)
    refine ⟨_, rfl, rfl, _, rfl, _, rfl, _, _, rfl, rfl, S a, _, y, rfl, rfl, by rw [S_len]; exact sz100 (by omega), ?_, _, _, rfl, rfl, (fun k ek => ?_), (fun z => by rw [show (⟨#[y]⟩ : Str) = S [y] from rfl, idx26 hy] at z; cases z)⟩
    · rw [show ((m : Int) - 1) = ((m - 1 : Nat) : Int) by omega]
      exact atI_nat (show a[m - 1]? = some y from ey)
    rw [show (⟨#[y]⟩ : Str) = S [y] from rfl, idx26 hy] at ek
    cases ek
    refine ⟨fun σ H' => Same H1 H' ∧ ∃ c3, σ = [some (.str (S a)), some (.str ("ABCDEFGHIJKLMNOPQRSTUVWXYZ" : Str)), some (.int (m : Int)), c3, some (.str (S (x :: r))), some (.int (colv (a.take m) - 1))], ?_, ?_⟩
    · refine ⟨_, rfl, rfl, _, rfl, ite2 (fun z => ?_) (fun z => ?_)⟩
      · have hm2 : m = 2 := by
          have := V.int.inj (of_decide_eq_true z)
          omega
        subst hm2
        obtain ⟨w, hw⟩ : ∃ w, L2 = [w] := by
          have e : (a.take 2).length = 2 := by rw [List.length_take]; omega
          rw [eL, List.length_append] at e
          cases L2 with
          | nil => simp at e
          | cons w r2 =>
            cases r2 with
            | nil => exact ⟨w, rfl⟩
            | cons _ _ => simp at e
        subst hw
        have e0 : a[0]? = some w := by
          have e : (a.take 2)[0]? = some w := by rw [eL]; rfl
          rw [List.getElem?_take] at e
          simpa using e
        have hw2 : cap w = true := hcap w (by rw [eL]; simp)
        refine ⟨_, rfl, _, rfl, rfl, _, rfl, S a, 0, w, rfl, rfl, by rw [S_len]; exact sz100 (by omega), atI_nat (j := 0) (show a[0]? = some w from e0), _, _, rfl, rfl, (fun k ek => ?_), (fun z => by rw [show (⟨#[w]⟩ : Str) = S [w] from rfl, idx26 hw2] at z; cases z)⟩
        rw [show (⟨#[w]⟩ : Str) = S [w] from rfl, idx26 hw2] at ek
        cases ek
        refine ⟨_, _, rfl, rfl, _, _, rfl, rfl, .inl ⟨by decide, by decide⟩, _, _, rfl, rfl, s3, c5, ?_⟩
        rw [eL]
        show _ = [some (V.str (S a)), some (V.str ("ABCDEFGHIJKLMNOPQRSTUVWXYZ" : Str)), some (V.int ((2 : Nat) : Int)), c5, some (V.str (S (x :: r))), some (V.int ((0 * 26 + ((w - 65 : Nat) : Int) + 1) * 26 + ((y - 65 : Nat) : Int) + 1 - 1))]
        rw [show ((0 * 26 + ((w - 65 : Nat) : Int) + 1) * 26 + ((y - 65 : Nat) : Int) + 1 - 1) = ((y - 65 : Nat) : Int) + 26 * (1 + ((w - 65 : Nat) : Int)) by omega]
        rfl
      · have hm1 : m = 1 := by
          rcases c1 with h | h
          · exact h
          · exact absurd (decide_eq_true (by rw [h]; rfl)) z
        subst hm1
        have hw : L2 = [] := by
          have e : (a.take 1).length = 1 := by rw [List.length_take]; omega
          rw [eL, List.length_append] at e
          cases L2 with
          | nil => rfl
          | cons _ _ => simp at e
        subst hw
        refine ⟨s3, c5, ?_⟩
        rw [eL]
        show _ = [some (V.str (S a)), some (V.str ("ABCDEFGHIJKLMNOPQRSTUVWXYZ" : Str)), some (V.int ((1 : Nat) : Int)), c5, some (V.str (S (x :: r))), some (V.int (0 * 26 + ((y - 65 : Nat) : Int) + 1 - 1))]
        rw [show (0 * 26 + ((y - 65 : Nat) : Int) + 1 - 1) = ((y - 65 : Nat) : Int) by omega]
        rfl
    rintro σ H4 ⟨s4, c6, rfl⟩
    have hne : (x :: r) ≠ [] := List.cons_ne_nil _ _
    refine ⟨_, rfl, S (x :: r), _, rfl, int_dig c4 hne (by omega), by rw [S_len]; omega, _, _, rfl, rfl, _, rfl, (by show 2 ≤ sizeLine; decide), fun p hp => ?_⟩
    exact q2 hOk p _ (s4.trans (same_new hp)) upd_same
/-! ### writing -/
def wl (r : Nat) (acc : List Nat) : List Nat := if h : 0 < r then wl ((r - 1) / 26) ((65 + (r - 1) % 26) :: acc) else acc
termination_by r
decreasing_by omega
theorem wl_zero (acc : List Nat) : wl 0 acc = acc := by rw [wl]; rfl
theorem wl_pos {r : Nat} (h : 0 < r) (acc : List Nat) : wl r acc = wl ((r - 1) / 26) ((65 + (r - 1) % 26) :: acc) := by rw [wl, dif_pos h]
def lets (c : Nat) : List Nat := if c < 26 then [65 + c] else [65 + (c / 26 - 1), 65 + c % 26]
theorem wl_lets {c : Nat} (h : c < 702) : wl (c + 1) [] = lets c := by
  rw [wl_pos (by omega)]
  unfold lets
  by_cases h2 : c < 26
  · rw [if_pos h2, show (c + 1 - 1) / 26 = 0 by omega, wl_zero, show (c + 1 - 1) % 26 = c by omega]
  · rw [if_neg h2, wl_pos (by omega), show ((c + 1 - 1) / 26 - 1) / 26 = 0 by omega, wl_zero, show (c + 1 - 1) % 26 = c % 26 by omega, show ((c + 1 - 1) / 26 - 1) % 26 = c / 26 - 1 by omega]
def addr (row col : Nat) : List Nat := lets col ++ numL (row + 1)
theorem lets_len (c : Nat) : (lets c).length ≤ 2 := by
  unfold lets
  split <;> simp
theorem caps_at {k : Int} (h0 : 0 ≤ k) (h1 : k < 26) : atI ("ABCDEFGHIJKLMNOPQRSTUVWXYZ" : Str).cps.toList k = some (65 + k.toNat) := by
  obtain ⟨j, rfl⟩ := Int.eq_ofNat_of_zero_le h0
  have all : ∀ j : Fin 26, ("ABCDEFGHIJKLMNOPQRSTUVWXYZ" : Str).cps.toList[j.val]? = some (65 + j.val) := by decide +kernel
  exact atI_nat (all ⟨j, by omega⟩)
def spWrite (K : PySem.W.Frag) : Sp := fun vs H Q _ => ∃ (row col : Nat), vs = [.int (row : Int), .int (col : Int)] ∧ row < 99 ∧ col < 702 ∧ ∀ H', Same H H' → Q (.str (S (addr row col))) H'
theorem log_small {n : Int} (h0 : 0 ≤ n) (h : n < 10 ^ 18) : n.natAbs.log2 < 1920 := Nat.lt_of_lt_of_le (PySem.Flt.log2_lt_of (k := 100) (by decide) (Nat.lt_trans (show n.natAbs < 10 ^ 18 by omega) (by decide))) (by decide)
theorem num_len {row : Nat} (h : row < 99) : (numL (row + 1)).length ≤ 2 := TL.numL_len (by decide) (by omega)
theorem str_num (row : Nat) : (toString ((row : Int) + 1) : String) = toString (((row + 1 : Nat)) : Int) := rfl
theorem okWriteAddress (T : Txt K mg) : FnOk P w K mg base CX0 1 T.fWriteAddress T.fdWriteAddress ["row", "column"] (spWrite K) := by
  refine T.FWriteAddress.ok scWriteAddress (fun vs H Q E h => ?_) (fun cdv A outer s H vs Q E hr h => ?_)
  · obtain ⟨row, col, rfl, _⟩ := h
    rfl
  · obtain ⟨row, col, rfl, hr1, hc1, q⟩ := h
    -- slots row=0 column=1 letters=2 rest=3
    refine ⟨_, (pss_cons (ps_set (i := 2) scWriteAddress.nd rfl (Or.inl rfl) pe_str)
        (pss_cons (ps_set (i := 3) scWriteAddress.nd rfl (Or.inl rfl) (pe_op op_add (pv 1) pe_int))
        (pss_cons (ps_while PassesOwn.never (pt_cmpR op_gt (pv 3) pe_int (nomark _))
          (pss_cons (ps_set (i := 2) scWriteAddress.nd rfl (Or.inl rfl) (pe_op op_add_str (pe_ix ix_str (pe_glob (v := (.str "ABCDEFGHIJKLMNOPQRSTUVWXYZ")) rfl T.g_CAPITALS ⟨_, rfl⟩) (pe_op op_mod (pe_op op_sub (pv 3) pe_int) (pe_callB call_len_str (by rfl) T.z_len PySem.boot_len (pa_cons (pe_glob (v := (.str "ABCDEFGHIJKLMNOPQRSTUVWXYZ")) rfl T.g_CAPITALS ⟨_, rfl⟩) pa_nil))) (fun _ _ => rfl)) (pv 2)))
          (pss_one (ps_set (i := 3) scWriteAddress.nd rfl (Or.inl rfl) (pe_op op_fdiv (pe_op op_sub (pv 3) pe_int) (pe_callB call_len_str (by rfl) T.z_len PySem.boot_len (pa_cons (pe_glob (v := (.str "ABCDEFGHIJKLMNOPQRSTUVWXYZ")) rfl T.g_CAPITALS ⟨_, rfl⟩) pa_nil)))))))
        (pss_one (ps_ret (pe_op op_add_str (pv 2) (pe_callTy call_str_int (by rfl) T.z_str (by decide +kernel) (pa_cons (pe_op op_add (pv 0) pe_int) pa_nil)))))))), ?_⟩
    refine ⟨_, rfl, _, _, rfl, rfl, ?_⟩
    refine while_by (fun σ H' => H' = H ∧ ∃ (r : Nat) (acc : List Nat), σ = [some (.int (row : Int)), some (.int (col : Int)), some (.str (S acc)), some (.int (r : Int))] ∧ wl r acc = lets col ∧ acc.length + r ≤ 1000) (fun σ _ => match σ with | [_, _, _, some (.int n)] => n.toNat | _ => 0) ⟨rfl, col + 1, [], rfl, wl_lets hc1, by simp; omega⟩ ?_ (fun σ H Q Q' m h => by
      obtain ⟨v, hv, i, j, e1, e2, b, e3, q⟩ := h
      exact ⟨v, hv, i, j, e1, e2, b, e3, m _ _ q⟩)
    rintro σ H1 ⟨rfl, r, acc, rfl, e, hz⟩
    refine ⟨_, rfl, _, _, rfl, rfl, _, rfl, ite2 (fun c => ?_) (fun c => ?_)⟩
    · have hp : 0 < r := by
        have c2 := of_decide_eq_true c
        omega
      rw [wl_pos hp] at e
      have l26 : ((("ABCDEFGHIJKLMNOPQRSTUVWXYZ" : Str).length : Nat) : Int) = 26 := by decide +kernel
      refine ⟨_, rfl, _, _, rfl, rfl, _, rfl, by decide +kernel, _, _, rfl, rfl, (by show (0 : Int) < _; rw [l26]; decide), _, _, 65 + (r - 1) % 26, rfl, rfl, by decide +kernel, ?_, _, rfl, S [65 + (r - 1) % 26], S acc, rfl, rfl, ?_, ?_⟩
      · rw [l26]
        have := caps_at (k := ((r : Int) - 1) % 26) (by omega) (by omega)
        rw [show (((r : Int) - 1) % 26).toNat = (r - 1) % 26 by omega] at this
        exact this
      · rw [S_len, S_len]
        exact sz100 (by simp; omega)
      · refine ⟨_, rfl, _, _, rfl, rfl, _, rfl, by decide +kernel, _, _, rfl, rfl, (by show (0 : Int) < _ ∧ _ < (1073741824 : Int); rw [l26]; decide), ⟨rfl, (r - 1) / 26, (65 + (r - 1) % 26) :: acc, ?_, e, ?_⟩, ?_⟩
        · rw [l26, S_cat]
          show [some (V.int (row : Int)), some (V.int (col : Int)), some (V.str (S ([65 + (r - 1) % 26] ++ acc))), some (V.int (((r : Int) - 1) / 26))] = _
          rw [show ((r : Int) - 1) / 26 = (((r - 1) / 26 : Nat) : Int) by omega]
          rfl
        · rw [List.length_cons]
          omega
        · rw [l26]
          show (((r : Int) - 1) / 26).toNat < ((r : Int)).toNat
          omega
    · have hp : r = 0 := by
        rcases Nat.eq_zero_or_pos r with z | z
        · exact z
        · exact absurd (decide_eq_true (show (0 : Int) < (r : Int) by omega)) c
      subst hp
      rw [wl_zero] at e
      subst e
      have l2 := lets_len col
      have n2 := num_len hr1
      refine ⟨_, rfl, _, rfl, _, _, rfl, rfl, _, rfl, log_small (by omega) (by omega), S (lets col), S (numL (row + 1)), rfl, ?_, ?_, ?_⟩
      · exact congrArg V.str (num_S (row + 1))
      · rw [S_len, S_len]
        exact sz100 (by omega)
      · rw [S_cat]
        exact q _ (Same.refl _)
theorem okLawAddress (T : Txt K mg) : FnOk P w K mg base CX0 1 T.fLawAddress T.fdLawAddress ["row", "column"] (spWrite K) := by
  refine T.FLawAddress.ok scLawAddress (fun vs H Q E h => ?_) (fun cdv A outer s H vs Q E hr h => ?_)
  · obtain ⟨row, col, rfl, _⟩ := h
    rfl
  · obtain ⟨row, col, rfl, hr1, hc1, q⟩ := h
    -- slots row=0 column=1 letters=2 text=3
    refine ⟨_, (pss_cons (ps_set (i := 2) scLawAddress.nd rfl (Or.inl rfl) pe_str)
        (pss_cons (ps_set (i := 3) scLawAddress.nd rfl (Or.inl rfl) (pe_ix ix_str (pv 2) (pe_op op_mod (pe_callTy call_int1 (by rfl) T.z_int (by decide +kernel) (pa_cons (pv 1) pa_nil)) pe_int) (fun _ _ => rfl)))
        (C8.pss_cut (ps_if (pt_cmpR op_ge (pv 1) pe_int (nomark _))
          (pss_one (ps_set (i := 3) scLawAddress.nd rfl (Or.inl rfl) (pe_op op_add_str (pe_ix ix_str (pv 2) (pe_op op_mod (pe_callTy call_int1 (by rfl) T.z_int (by decide +kernel) (pa_cons (pe_op op_sub (pe_op op_fdiv (pv 1) pe_int) pe_int) pa_nil)) pe_int) (fun _ _ => rfl)) (pv 3))))
          pss_nil)
        (pss_one (ps_ret (pe_op op_add_str (pv 3) (pe_callTy call_str_int (by rfl) T.z_str (by decide +kernel) (pa_cons (pe_op op_add (pv 0) pe_int) pa_nil)))))))), ?_⟩
    have l2 := lets_len col
    have n2 := num_len hr1
    refine ⟨_, rfl, _, rfl, .inl ⟨_, rfl, _, _, rfl, rfl, (by show (0 : Int) < _; decide), _, _, 65 + col % 26, rfl, rfl, by decide +kernel, ?_, ?_⟩⟩
    · have := caps_at (k := (col : Int) % 26) (by omega) (by omega)
      rw [show ((col : Int) % 26).toNat = col % 26 by omega] at this
      exact this
    refine ⟨fun σ H' => H' = H ∧ σ = [some (.int (row : Int)), some (.int (col : Int)), some (.str ("ABCDEFGHIJKLMNOPQRSTUVWXYZ" : Str)), some (.str (S (lets col)))], ?_, ?_⟩
    · refine ⟨_, rfl, _, _, rfl, rfl, _, rfl, ite2 (fun c => ?_) (fun c => ?_)⟩
      · have c2 : 26 ≤ col := by
          have := of_decide_eq_true c
          omega
        refine ⟨_, rfl, _, rfl, _, _, rfl, rfl, ⟨by decide, by decide⟩, _, _, rfl, rfl, .inl ⟨_, rfl, _, _, rfl, rfl, (by show (0 : Int) < _; decide), _, _, 65 + (col / 26 - 1), rfl, rfl, by decide +kernel, ?_, _, rfl, S [65 + (col / 26 - 1)], S [65 + col % 26], rfl, rfl, ?_, rfl, ?_⟩⟩
        · have := caps_at (k := ((col : Int) / 26 - 1) % 26) (by omega) (by omega)
          rw [show (((col : Int) / 26 - 1) % 26).toNat = col / 26 - 1 by omega] at this
          exact this
        · rw [S_len, S_len]
          show 1 + 1 ≤ sizeLine
          decide
        · unfold lets
          rw [if_neg (by omega), S_cat]
          rfl
      · have c2 : col < 26 := by
          rcases Nat.lt_or_ge col 26 with h | h
          · exact h
          · exact absurd (decide_eq_true (show (26 : Int) ≤ (col : Int) by omega)) c
        refine ⟨rfl, ?_⟩
        unfold lets
        rw [if_pos c2, show col % 26 = col by omega]
        rfl
    rintro σ H1 ⟨rfl, rfl⟩
    refine ⟨_, rfl, _, rfl, _, _, rfl, rfl, _, rfl, log_small (by omega) (by omega), S (lets col), S (numL (row + 1)), rfl, ?_, ?_, ?_⟩
    · exact congrArg V.str (num_S (row + 1))
    · rw [S_len, S_len]
      exact sz100 (by omega)
    · rw [S_cat]
      exact q _ (Same.refl _)
theorem cap_lets {c : Nat} (h : c < 702) : ∀ x ∈ lets c, cap x = true := by
  intro x hx
  unfold lets at hx
  unfold cap
  refine decide_eq_true ?_
  split at hx
  · simp only [List.mem_cons, List.not_mem_nil, or_false] at hx
    omega
  · simp only [List.mem_cons, List.not_mem_nil, or_false] at hx
    omega
theorem num_two {n : Nat} (h0 : 0 < n) (h : n < 100) : ∃ x r, numL n = x :: r ∧ r.length ≤ 1 ∧ x ≠ 48 ∧ cap x = false := by
  rcases Nat.lt_or_ge n 10 with h1 | h1
  · refine ⟨48 + n, [], TL.numL_lt h1, by decide, by omega, ?_⟩
    unfold cap
    exact decide_eq_false (by omega)
  · refine ⟨48 + n / 10, [48 + n % 10], ?_, by simp, by omega, ?_⟩
    · rw [TL.numL_step h1, TL.numL_lt (show n / 10 < 10 by omega)]
      rfl
    · unfold cap
      exact decide_eq_false (by omega)
theorem colv_lets {c : Nat} (h : c < 702) : colv (lets c) - 1 = c := by
  unfold lets colv
  split
  · show (0 * 26 + ((65 + c - 65 : Nat) : Int) + 1) - 1 = c
    omega
  · show ((0 * 26 + ((65 + (c / 26 - 1) - 65 : Nat) : Int) + 1) * 26 + ((65 + c % 26 - 65 : Nat) : Int) + 1) - 1 = c
    omega
theorem addr_tw {row col : Nat} (hr : row < 99) (hc : col < 702) : ((addr row col).takeWhile cap).length = (lets col).length := by
  obtain ⟨x, r, e, _, _, hx⟩ := num_two (n := row + 1) (by omega) (by omega)
  unfold addr
  refine tw_len (c := x) ?_ ?_ hx
  · rw [List.take_left]
    exact cap_lets hc
  · rw [List.getElem?_append_right (Nat.le_refl _), Nat.sub_self, e]
    rfl
theorem addr_ok {row col : Nat} (hr : row < 99) (hc : col < 702) : okA (addr row col) ∧ rowA (addr row col) = row ∧ colA (addr row col) = col := by
  have e1 := addr_tw hr hc
  have e2 : (addr row col).drop (lets col).length = numL (row + 1) := List.drop_left
  have e3 : (addr row col).take (lets col).length = lets col := List.take_left
  obtain ⟨x, r, e, hl, hx, _⟩ := num_two (n := row + 1) (by omega) (by omega)
  unfold okA rowA colA
  rw [e1, e2, e3]
  refine ⟨⟨?_, ?_, ?_, ?_⟩, ?_, colv_lets hc⟩
  · unfold lets
    split
    · exact .inl rfl
    · exact .inr rfl
  · rw [e, List.length_cons]
    omega
  · rw [e]
    exact fun z => hx (Option.some.inj z)
  · exact List.all_eq_true.mpr fun c h => decide_eq_true (TL.numL_digits (row + 1) c h)
  · rw [TL.numL_val]
    omega
theorem lk_pair {H : Hp} {p p2 : Addr} {x y : Int} (h1 : H p = some (.tup [.int x, .int y])) (h2 : H p2 = some (.tup [.int x, .int y])) : Lk H 1 (.ref p) (.ref p2) := by
  refine .inr (.inl ⟨p, p2, _, _, rfl, rfl, h1, h2, rfl, by show 2 ≤ 100000; decide, fun i u v e1 e2 => ?_⟩)
  rw [e1] at e2
  cases e2
  rcases i with _ | _ | i
  · cases e1
    exact ⟨rfl, trivial⟩
  · cases e1
    exact ⟨rfl, trivial⟩
  · cases e1
theorem at_some {α : Type} {xs : List α} {k : Int} (h0 : 0 ≤ k) (h1 : k < xs.length) : ∃ v, atI xs k = some v := by
  obtain ⟨j, rfl⟩ := Int.eq_ofNat_of_zero_le h0
  exact ⟨xs[j]'(by omega), atI_nat (List.getElem?_eq_getElem _)⟩
def spLaw (K : PySem.W.Frag) : Sp := fun vs H Q _ => ∃ (a : Addr) (ns : List Int), vs = [.ref a] ∧ SqL K H a (ns.map V.int) ∧ ns.length ≤ 63 ∧ ∀ H', Q (.bl true) H'
theorem okLaw (T : Txt K mg) : FnOk P w K mg base CX0 3 T.fLaw T.fdLaw ["script"] (spLaw K) := by
  refine T.FLaw.ok scLaw (fun vs H Q E h => ?_) (fun cdv A outer s H vs Q E hr h => ?_)
  · obtain ⟨a, ns, rfl, _⟩ := h
    rfl
  · obtain ⟨a, ns, rfl, hS, hlen, q⟩ := h
    -- slots script=0 box=1 row=2 column=3 text=4 turn=5 at=6 char=7 kind=8 other=9
    refine ⟨_, (pss_cons (ps_set (i := 1) scLaw.nd rfl (Or.inl rfl) (pe_lst (pa_cons (pe_call (okLawDigits T) (hr.mono (by decide)) (by rfl) T.gLawDigits T.FLawDigits.kp T.bLawDigits .nil pass0 (pa_cons (pv 0) (pa_cons pe_int (pa_cons pe_int pa_nil)))) (pa_cons pe_int pa_nil))))
        (pss_cons (ps_set (i := 2) scLaw.nd rfl (Or.inl rfl) (pe_call (okLawDraw T) (hr.mono (by decide)) (by rfl) T.gLawDraw T.FLawDraw.kp T.bLawDraw .nil pass0 (pa_cons (pv 1) (pa_cons pe_int pa_nil))))
        (pss_cons (ps_set (i := 3) scLaw.nd rfl (Or.inl rfl) (pe_call (okLawDraw T) (hr.mono (by decide)) (by rfl) T.gLawDraw T.FLawDraw.kp T.bLawDraw .nil pass0 (pa_cons (pv 1) (pa_cons pe_int pa_nil))))
        (C8.pss_cut (ps_if (pt_cmpR op_eq (pe_call (okLawDraw T) (hr.mono (by decide)) (by rfl) T.gLawDraw T.FLawDraw.kp T.bLawDraw .nil pass0 (pa_cons (pv 1) (pa_cons pe_int pa_nil))) pe_int (nomark _))
          (pss_one (ps_set (i := 3) scLaw.nd rfl (Or.inl rfl) (pe_op op_mod (pe_callTy call_int1 (by rfl) T.z_int (by decide +kernel) (pa_cons (pv 3) pa_nil)) pe_int)))
          pss_nil)
        (pss_cons (ps_set (i := 4) scLaw.nd rfl (Or.inl rfl) (pe_call (okLawAddress T) (hr.mono (by decide)) (by rfl) T.gLawAddress T.FLawAddress.kp T.bLawAddress .nil pass0 (pa_cons (pv 2) (pa_cons (pv 3) pa_nil))))
        (pss_cons (ps_if (PW.pt (pw_or (pt_not (pt_val (pe_call (okLawSame T 1) (hr.mono (by decide)) (by rfl) T.gLawSame T.FLawSame.kp T.bLawSame .nil pass0 (pa_cons (pe_call (okWriteAddress T) (hr.mono (by decide)) (by rfl) T.gWriteAddress T.FWriteAddress.kp T.bWriteAddress .nil pass0 (pa_cons (pv 2) (pa_cons (pv 3) pa_nil))) (pa_cons (pv 4) pa_nil))))) (pw_or1 (pt_not (pt_val (pe_call (okLawSame T 1) (hr.mono (by decide)) (by rfl) T.gLawSame T.FLawSame.kp T.bLawSame .nil pass0 (pa_cons (pe_call (okReadAddress T) (hr.mono (by decide)) (by rfl) T.gReadAddress T.FReadAddress.kp T.bReadAddress .nil pass0 (pa_cons (pv 4) pa_nil)) (pa_cons (pe_tup (pa_cons (pv 2) (pa_cons (pv 3) pa_nil))) pa_nil))))))))
          (pss_one (ps_ret pe_bl))
          pss_nil)
        (pss_cons (ps_for PassesOwn.never rfl (pi_range1 rfl T.z_range (pa_cons pe_int pa_nil)) (pg_name (i := 5) scLaw.nd rfl (Or.inl rfl))
          (pss_cons (ps_set (i := 6) scLaw.nd rfl (Or.inl rfl) (pe_call (okLawDraw T) (hr.mono (by decide)) (by rfl) T.gLawDraw T.FLawDraw.kp T.bLawDraw .nil pass0 (pa_cons (pv 1) (pa_cons (pe_op op_add (pe_callB call_len_str (by rfl) T.z_len PySem.boot_len (pa_cons (pv 4) pa_nil)) pe_int) pa_nil))))
          (pss_cons (ps_set (i := 7) scLaw.nd rfl (Or.inl rfl) (pe_ix ix_str pe_str (pe_call (okLawDraw T) (hr.mono (by decide)) (by rfl) T.gLawDraw T.FLawDraw.kp T.bLawDraw .nil pass0 (pa_cons (pv 1) (pa_cons pe_int pa_nil))) (fun _ _ => rfl)))
          (pss_cons (ps_set (i := 8) scLaw.nd rfl (Or.inl rfl) (pe_call (okLawDraw T) (hr.mono (by decide)) (by rfl) T.gLawDraw T.FLawDraw.kp T.bLawDraw .nil pass0 (pa_cons (pv 1) (pa_cons pe_int pa_nil))))
          (pss_cons (ps_set (i := 9) scLaw.nd rfl (Or.inl rfl) (pe_ix ix_list (pe_lst (pa_cons (pe_op op_add_str (pe_op op_add_str (pe_slice C8.sl_txt (pv 4) po_none (po_some (pv 6))) (pv 7)) (pe_slice C8.sl_txt (pv 4) (po_some (pv 6)) po_none)) (pa_cons (pe_op op_add_str (pe_slice C8.sl_txt (pv 4) po_none (po_some (pv 6))) (pe_slice C8.sl_txt (pv 4) (po_some (pe_op op_add (pv 6) pe_int)) po_none)) (pa_cons (pe_op op_add_str (pe_op op_add_str (pe_slice C8.sl_txt (pv 4) po_none (po_some (pv 6))) (pv 7)) (pe_slice C8.sl_txt (pv 4) (po_some (pe_op op_add (pv 6) pe_int)) po_none)) (pa_cons (pv 7) pa_nil))))) (pv 8) (fun _ _ => rfl)))
          (pss_one (ps_if (pt_not (pt_val (pe_call (okLawSame T 1) (hr.mono (by decide)) (by rfl) T.gLawSame T.FLawSame.kp T.bLawSame .nil pass0 (pa_cons (pe_call (okReadAddress T) (hr.mono (by decide)) (by rfl) T.gReadAddress T.FReadAddress.kp T.bReadAddress .nil pass0 (pa_cons (pv 9) pa_nil)) (pa_cons (pe_call (okLawOwn T) (hr.mono (by decide)) (by rfl) T.gLawOwn T.FLawOwn.kp T.bLawOwn .nil pass0 (pa_cons (pv 9) pa_nil)) pa_nil)))))
            (pss_one (ps_ret pe_bl))
            pss_nil)))))))
        (pss_one (ps_ret pe_bl))))))))), ?_⟩
    refine ⟨_, rfl, a, ns, 0, 63, rfl, by decide, by decide, hS, fun H1 d0 ds s1 hdn hd0 _ => ⟨by show 2 ≤ sizeLine; decide, fun b hb => ?_⟩⟩
    have hb2 : b ≠ d0 := fun z => by
      rw [z, hd0] at hb
      cases hb
    have B0 : Box (upd H1 b (.lst [.ref d0, .int 0])) b := ⟨d0, ds, 0, upd_same, by rw [upd_ne hb2.symm]; exact hd0, hb2⟩
    refine ⟨_, rfl, b, 99, rfl, by decide, B0, fun row H2 r0 r1 B2 _ => ?_⟩
    obtain ⟨row, rfl⟩ := Int.eq_ofNat_of_zero_le r0
    refine ⟨_, rfl, b, 702, rfl, by decide, B2, fun col H3 c0 c1 B3 _ => ?_⟩
    refine ⟨fun σ H' => Box H' b ∧ ∃ c : Nat, c < 702 ∧ σ = [some (.ref a), some (.ref b), some (.int (row : Int)), some (.int (c : Int)), none, none, none, none, none, none], ?_, ?_⟩
    · refine ⟨_, rfl, b, 2, rfl, by decide, B3, fun y H4 y0 y1 B4 _ => ⟨rfl, _, rfl, ite2 (fun _ => ?_) (fun _ => ?_)⟩⟩
      · refine ⟨_, rfl, .inl ⟨_, rfl, _, _, rfl, rfl, (by show (0 : Int) < _; decide), B4, (col % 30).toNat, by omega, ?_⟩⟩
        rw [Int.toNat_of_nonneg (by omega)]
        rfl
      · refine ⟨B4, col.toNat, by omega, ?_⟩
        rw [Int.toNat_of_nonneg c0]
        rfl
    clear c0 c1
    rintro σ H4 ⟨B4, col, hcol, rfl⟩
    have hrow : row < 99 := by omega
    obtain ⟨ok1, ok2, ok3⟩ := addr_ok hrow hcol
    have tlen : (addr row col).length ≤ 4 := by
      unfold addr
      rw [List.length_append]
      have := lets_len col
      have := num_len hrow
      omega
    -- text
    refine ⟨_, rfl, _, rfl, row, col, rfl, hrow, hcol, fun H5 s5 => ?_⟩
    -- write_address(row, column) and text; read_address(text) and (row, column)
    refine ⟨_, rfl, _, rfl, row, col, rfl, hrow, hcol, fun H6 s6 => ⟨_, rfl, _, _, rfl, .inl ⟨rfl, trivial⟩, _, rfl, iteF ?_⟩⟩
    refine ⟨_, rfl, addr row col, rfl, by omega, fun z => absurd ok1 z, fun _ p H7 s7 hp => ?_⟩
    rw [ok2, ok3] at hp
    refine ⟨_, rfl, _, rfl, (by show 2 ≤ sizeLine; decide), fun t ht => ?_⟩
    refine ⟨_, _, rfl, lk_pair ((same_new ht) _ _ hp) upd_same, _, rfl, iteF ?_⟩
    have s8 := ((s5.trans s6).trans s7).trans (same_new (o := .tup [.int (row : Int), .int (col : Int)]) ht)
    have B8 := B4.same s8
    -- the turns
    refine ⟨5, rfl, by decide, by decide, for_range (lo := 0) (n := 5) (fun i σ H' => ∃ c5 c6 c7 c8 c9, σ = [some (.ref a), some (.ref b), some (.int (row : Int)), some (.int (col : Int)), some (.str (S (addr row col))), c5, c6, c7, c8, c9] ∧ Box H' b) ⟨_, _, _, _, _, rfl, B8⟩ ?_ (fun σ H' _ => q _)⟩
    rintro i σ H9 hi ⟨c5, c6, c7, c8, c9, rfl, B9⟩
    generalize addr row col = T at *
    refine ⟨_, rfl, _, rfl, S T, rfl, by rw [S_len]; exact sz100 (by omega), _, _, rfl, rfl, b, _, rfl, by rw [S_len]; omega, B9, fun n H10 n0 n1 B10 _ => ?_⟩
    obtain ⟨n, rfl⟩ := Int.eq_ofNat_of_zero_le n0
    refine ⟨_, rfl, b, 15, rfl, by decide, B10, fun k H11 k0 k1 B11 _ => ?_⟩
    obtain ⟨c, hc⟩ := at_some (xs := ("AZMB0123459a -:" : Str).cps.toList) k0 (Int.lt_of_lt_of_le k1 (by decide +kernel))
    refine ⟨_, k, c, rfl, rfl, by decide +kernel, hc, ?_⟩
    refine ⟨_, rfl, b, 4, rfl, by decide, B11, fun kd H12 kd0 kd1 B12 _ => ?_⟩
    -- other
    have z1 : ∀ m, (T.take m).length ≤ 4 := fun m => by rw [List.length_take]; omega
    have z2 : ∀ m, (T.drop m).length ≤ 4 := fun m => by rw [List.length_drop]; omega
    have zS : (S T).length ≤ sizeLine := by rw [S_len]; exact sz100 (by omega)
    have en : ((n : Int) + 1) = ((n + 1 : Nat) : Int) := rfl
    have e1 : V.str (Txt.slice (S T) none (some (n : Int))) = V.str (S (T.take n)) := congrArg V.str (slice_to (by omega))
    have e2 : V.str (Txt.slice (S T) (some (n : Int)) none) = V.str (S (T.drop n)) := congrArg V.str (slice_from (by omega))
    have e3 : V.str (Txt.slice (S T) (some ((n : Int) + 1)) none) = V.str (S (T.drop (n + 1))) := congrArg V.str (slice_from (by omega))
    have lz : ∀ {u v : List Nat}, u.length ≤ 50 → v.length ≤ 50 → (S u).length + (S v).length ≤ sizeLine := fun h1 h2 => by
      rw [S_len, S_len]
      exact sz100 (by omega)
    have l1 : (T.take n ++ [c]).length ≤ 50 := by
      rw [List.length_append]
      have := z1 n
      simp only [List.length_singleton]
      omega
    refine ⟨_, rfl, _, rfl, _, rfl, S T, rfl, zS, _, rfl, S (T.take n), S [c], e1, rfl, lz (Nat.le_trans (z1 n) (by decide)) (by simp), ?_⟩
    refine ⟨_, rfl, _, rfl, _, rfl, S T, rfl, zS, S (T.take n ++ [c]), S (T.drop n), congrArg V.str (S_cat _ _), e2, lz l1 (Nat.le_trans (z2 n) (by decide)), ?_⟩
    refine ⟨_, rfl, _, rfl, _, rfl, S T, rfl, zS, _, rfl, _, rfl, _, _, rfl, rfl, _, rfl, S T, rfl, zS, S (T.take n), S (T.drop (n + 1)), e1, e3, lz (Nat.le_trans (z1 n) (by decide)) (Nat.le_trans (z2 _) (by decide)), ?_⟩
    refine ⟨_, rfl, _, rfl, _, rfl, S T, rfl, zS, _, rfl, S (T.take n), S [c], e1, rfl, lz (Nat.le_trans (z1 n) (by decide)) (by simp), ?_⟩
    refine ⟨_, rfl, _, rfl, _, _, rfl, rfl, _, rfl, S T, rfl, zS, S (T.take n ++ [c]), S (T.drop (n + 1)), congrArg V.str (S_cat _ _), e3, lz l1 (Nat.le_trans (z2 _) (by decide)), ?_⟩
    refine ⟨_, rfl, (by show 4 ≤ sizeLine; decide), fun l hl => ?_⟩
    obtain ⟨o, ho, eo⟩ := item_by V.str (xs := [S (T.take n ++ [c]) ++ S (T.drop n), S (T.take n) ++ S (T.drop (n + 1)), S (T.take n ++ [c]) ++ S (T.drop (n + 1)), S [c]]) kd0 (by show kd < 4; exact kd1)
    refine ⟨_, rfl, l, _, _, _, rfl, rfl, SqL.of upd_same, eo, ?_⟩
    have ol : o.length ≤ 100 := by
      have y1 := z1 n
      have y2 := z2 n
      have y3 := z2 (n + 1)
      simp only [List.mem_cons, List.not_mem_nil, or_false] at ho
      rcases ho with rfl | rfl | rfl | rfl
      · rw [S_cat, S_len, List.length_append]; omega
      · rw [S_cat, S_len, List.length_append]; omega
      · rw [S_cat, S_len, List.length_append]; omega
      · rw [S_len]; simp
    obtain ⟨o, rfl⟩ : ∃ w, o = S w := ⟨o.cps.toList, (SX.S_tl o).symm⟩
    rw [S_len] at ol
    have B13 := B12.same (same_new (o := .lst [.str (S (T.take n ++ [c]) ++ S (T.drop n)), .str (S (T.take n) ++ S (T.drop (n + 1))), .str (S (T.take n ++ [c]) ++ S (T.drop (n + 1))), .str (S [c])]) hl)
    refine ⟨_, rfl, o, rfl, by omega, fun h1 H14 s14 => ?_, fun h1 p H14 s14 hp => ?_⟩
    · refine ⟨_, rfl, o, rfl, by omega, fun h2 H15 s15 => ?_, fun h2 p2 H15 s15 hp2 => absurd h2 h1⟩
      exact ⟨_, _, rfl, .inl ⟨rfl, trivial⟩, _, rfl, iteF ⟨_, _, _, _, _, rfl, (B13.same s14).same s15⟩⟩
    · refine ⟨_, rfl, o, rfl, by omega, fun h2 H15 s15 => absurd h1 h2, fun h2 p2 H15 s15 hp2 => ?_⟩
      exact ⟨_, _, rfl, lk_pair (s15 _ _ hp) hp2, _, rfl, iteF ⟨_, _, _, _, _, rfl, (B13.same s14).same s15⟩⟩
end
set_option maxHeartbeats 0 in
theorem all_mk {l : PySem.W.OpenLaw} {w : World} {K : PySem.W.Frag} {h : Heap} {mg : Str → Option Value} {fa f1 f2 f3 f4 f5 f6 f7 f8 f9 f10 : Addr} {t_DIGITS : Nat} {t_CAPITALS : Nat} (X : K.In h) (G : h.Ns mainGlobals mg) (hfa : mg "law" = some (.ref fa))
    {od1 an1 od2 an2 od3 an3 od4 an4 od5 an5 od6 an6 od7 an7 od8 an8 od9 an9 od10 an10 : Option Addr} {sl1 sl2 sl3 sl4 sl5 sl6 sl7 sl8 sl9 sl10 : Array (Option Value)} {oc1 kV1 dc1 pm1 cd1 ct1 oc2 kV2 dc2 pm2 cd2 ct2 oc3 kV3 dc3 pm3 cd3 ct3 oc4 kV4 dc4 pm4 cd4 ct4 oc5 kV5 dc5 pm5 cd5 ct5 oc6 kV6 dc6 pm6 cd6 ct6 oc7 kV7 dc7 pm7 cd7 ct7 oc8 kV8 dc8 pm8 cd8 ct8 oc9 kV9 dc9 pm9 cd9 ct9 oc10 kV10 dc10 pm10 cd10 ct10 : Value}
    (a1 : PySem.W.nsIn K mainGlobals "_run_end" = some (some (.ref f1))) (l1 : K.lookup f1 = some ⟨oc1, od1, .func (PySem.W.fnOf "_run_end" "_run_end" (defArgs sRunEnd) (defBody sRunEnd) (defScope sRunEnd) .none kV1 dc1 pm1 an1 cd1 ct1), sl1⟩) (c1 : PySem.W.codeIn K cd1 "_run_end" = true) (k1 : PySem.W.keepIn K (.ref f1) = true)
    (a2 : PySem.W.nsIn K mainGlobals "read_address" = some (some (.ref f2))) (l2 : K.lookup f2 = some ⟨oc2, od2, .func (PySem.W.fnOf "read_address" "read_address" (defArgs sReadAddress) (defBody sReadAddress) (defScope sReadAddress) .none kV2 dc2 pm2 an2 cd2 ct2), sl2⟩) (c2 : PySem.W.codeIn K cd2 "read_address" = true) (k2 : PySem.W.keepIn K (.ref f2) = true)
    (a3 : PySem.W.nsIn K mainGlobals "write_address" = some (some (.ref f3))) (l3 : K.lookup f3 = some ⟨oc3, od3, .func (PySem.W.fnOf "write_address" "write_address" (defArgs sWriteAddress) (defBody sWriteAddress) (defScope sWriteAddress) .none kV3 dc3 pm3 an3 cd3 ct3), sl3⟩) (c3 : PySem.W.codeIn K cd3 "write_address" = true) (k3 : PySem.W.keepIn K (.ref f3) = true)
    (a4 : PySem.W.nsIn K mainGlobals "_law_cell" = some (some (.ref f4))) (l4 : K.lookup f4 = some ⟨oc4, od4, .func (PySem.W.fnOf "_law_cell" "_law_cell" (defArgs sLawCell) (defBody sLawCell) (defScope sLawCell) .none kV4 dc4 pm4 an4 cd4 ct4), sl4⟩) (c4 : PySem.W.codeIn K cd4 "_law_cell" = true) (k4 : PySem.W.keepIn K (.ref f4) = true)
    (a5 : PySem.W.nsIn K mainGlobals "_law_digits" = some (some (.ref f5))) (l5 : K.lookup f5 = some ⟨oc5, od5, .func (PySem.W.fnOf "_law_digits" "_law_digits" (defArgs sLawDigits) (defBody sLawDigits) (defScope sLawDigits) .none kV5 dc5 pm5 an5 cd5 ct5), sl5⟩) (c5 : PySem.W.codeIn K cd5 "_law_digits" = true) (k5 : PySem.W.keepIn K (.ref f5) = true)
    (a6 : PySem.W.nsIn K mainGlobals "_law_draw" = some (some (.ref f6))) (l6 : K.lookup f6 = some ⟨oc6, od6, .func (PySem.W.fnOf "_law_draw" "_law_draw" (defArgs sLawDraw) (defBody sLawDraw) (defScope sLawDraw) .none kV6 dc6 pm6 an6 cd6 ct6), sl6⟩) (c6 : PySem.W.codeIn K cd6 "_law_draw" = true) (k6 : PySem.W.keepIn K (.ref f6) = true)
    (a7 : PySem.W.nsIn K mainGlobals "_law_same" = some (some (.ref f7))) (l7 : K.lookup f7 = some ⟨oc7, od7, .func (PySem.W.fnOf "_law_same" "_law_same" (defArgs sLawSame) (defBody sLawSame) (defScope sLawSame) .none kV7 dc7 pm7 an7 cd7 ct7), sl7⟩) (c7 : PySem.W.codeIn K cd7 "_law_same" = true) (k7 : PySem.W.keepIn K (.ref f7) = true)
    (a8 : PySem.W.nsIn K mainGlobals "_law_address" = some (some (.ref f8))) (l8 : K.lookup f8 = some ⟨oc8, od8, .func (PySem.W.fnOf "_law_address" "_law_address" (defArgs sLawAddress) (defBody sLawAddress) (defScope sLawAddress) .none kV8 dc8 pm8 an8 cd8 ct8), sl8⟩) (c8 : PySem.W.codeIn K cd8 "_law_address" = true) (k8 : PySem.W.keepIn K (.ref f8) = true)
    (a9 : PySem.W.nsIn K mainGlobals "_law_own" = some (some (.ref f9))) (l9 : K.lookup f9 = some ⟨oc9, od9, .func (PySem.W.fnOf "_law_own" "_law_own" (defArgs sLawOwn) (defBody sLawOwn) (defScope sLawOwn) .none kV9 dc9 pm9 an9 cd9 ct9), sl9⟩) (c9 : PySem.W.codeIn K cd9 "_law_own" = true) (k9 : PySem.W.keepIn K (.ref f9) = true)
    (a10 : PySem.W.nsIn K mainGlobals "law" = some (some (.ref f10))) (l10 : K.lookup f10 = some ⟨oc10, od10, .func (PySem.W.fnOf "law" "law" (defArgs sLaw) (defBody sLaw) (defScope sLaw) .none kV10 dc10 pm10 an10 cd10 ct10), sl10⟩) (c10 : PySem.W.codeIn K cd10 "law" = true) (k10 : PySem.W.keepIn K (.ref f10) = true)
    (z_range : PySem.W.nsIn K mainGlobals "range" = some none)
    (z_isinstance : PySem.W.nsIn K mainGlobals "isinstance" = some none)
    (z_bool : PySem.W.nsIn K mainGlobals "bool" = some none)
    (z_str : PySem.W.nsIn K mainGlobals "str" = some none)
    (z_len : PySem.W.nsIn K mainGlobals "len" = some none)
    (z_list : PySem.W.nsIn K mainGlobals "list" = some none)
    (z_tuple : PySem.W.nsIn K mainGlobals "tuple" = some none)
    (z_int : PySem.W.nsIn K mainGlobals "int" = some none)
    (x_DIGITS : PySem.W.nsIn K mainGlobals "DIGITS" = some (some (.str "0123456789" t_DIGITS)))
    (x_CAPITALS : PySem.W.nsIn K mainGlobals "CAPITALS" = some (some (.str "ABCDEFGHIJKLMNOPQRSTUVWXYZ" t_CAPITALS)))
    : ∃ fd : FuncData, (∀ (s : Shared) (v : Value), BindsTo s fd ⟨[v], []⟩ [("script", v)]) ∧ ∀ base : Heap, K.In base → base.Ns mainGlobals mg → FnOk l.prog w K mg base CX0 3 fa fd ["script"] (spLaw K) := by
  have e := hfa.symm.trans (PySem.W.mg_of X G a10)
  cases e
  have F1 := fun_mk (st := sRunEnd) l1 c1 k1
  have b1 := F1.binds (ps := ["text", "at", "characters"]) fun _ _ _ _ _ _ us hl => match us, hl with | [_, _, _], _ => rfl
  have F2 := fun_mk (st := sReadAddress) l2 c2 k2
  have b2 := F2.binds (ps := ["text"]) fun _ _ _ _ _ _ us hl => match us, hl with | [_], _ => rfl
  have F3 := fun_mk (st := sWriteAddress) l3 c3 k3
  have b3 := F3.binds (ps := ["row", "column"]) fun _ _ _ _ _ _ us hl => match us, hl with | [_, _], _ => rfl
  have F4 := fun_mk (st := sLawCell) l4 c4 k4
  have b4 := F4.binds (ps := ["script", "k"]) fun _ _ _ _ _ _ us hl => match us, hl with | [_, _], _ => rfl
  have F5 := fun_mk (st := sLawDigits) l5 c5 k5
  have b5 := F5.binds (ps := ["script", "first", "last"]) fun _ _ _ _ _ _ us hl => match us, hl with | [_, _, _], _ => rfl
  have F6 := fun_mk (st := sLawDraw) l6 c6 k6
  have b6 := F6.binds (ps := ["box", "many"]) fun _ _ _ _ _ _ us hl => match us, hl with | [_, _], _ => rfl
  have F7 := fun_mk (st := sLawSame) l7 c7 k7
  have b7 := F7.binds (ps := ["actual", "due"]) fun _ _ _ _ _ _ us hl => match us, hl with | [_, _], _ => rfl
  have F8 := fun_mk (st := sLawAddress) l8 c8 k8
  have b8 := F8.binds (ps := ["row", "column"]) fun _ _ _ _ _ _ us hl => match us, hl with | [_, _], _ => rfl
  have F9 := fun_mk (st := sLawOwn) l9 c9 k9
  have b9 := F9.binds (ps := ["text"]) fun _ _ _ _ _ _ us hl => match us, hl with | [_], _ => rfl
  have F10 := fun_mk (st := sLaw) l10 c10 k10
  have b10 := F10.binds (ps := ["script"]) fun _ _ _ _ _ _ us hl => match us, hl with | [_], _ => rfl
  exact ⟨PySem.W.fnOf "law" "law" (defArgs sLaw) (defBody sLaw) (defScope sLaw) .none kV10 dc10 pm10 an10 cd10 ct10, fun s v => .of_eq rfl, fun base _ _ => okLaw (P := l.prog) (w := w) (base := base) (⟨f1, _, F1, b1, PySem.W.mg_of X G a1, f2, _, F2, b2, PySem.W.mg_of X G a2, f3, _, F3, b3, PySem.W.mg_of X G a3, f4, _, F4, b4, PySem.W.mg_of X G a4, f5, _, F5, b5, PySem.W.mg_of X G a5, f6, _, F6, b6, PySem.W.mg_of X G a6, f7, _, F7, b7, PySem.W.mg_of X G a7, f8, _, F8, b8, PySem.W.mg_of X G a8, f9, _, F9, b9, PySem.W.mg_of X G a9, fa, _, F10, b10, PySem.W.mg_of X G a10, PySem.W.mg_none_of X G z_range, PySem.W.mg_none_of X G z_isinstance, PySem.W.mg_none_of X G z_bool, PySem.W.mg_none_of X G z_str, PySem.W.mg_none_of X G z_len, PySem.W.mg_none_of X G z_list, PySem.W.mg_none_of X G z_tuple, PySem.W.mg_none_of X G z_int, t_DIGITS, PySem.W.mg_of X G x_DIGITS, t_CAPITALS, PySem.W.mg_of X G x_CAPITALS⟩ : Txt K mg)⟩
theorem walk {l : PySem.W.OpenLaw} {q : Program} {loose : List Str} {XP : (Str → Option Value) → Heap → Prop} {YP : World → Heap → Prop} {d : DefRec} {K : Params → PySem.W.Frag} (hn : l.most = some 63) (hdf : d.params.defaults = [])
    (hY : ∀ (w : World) (h : Heap), YP w h → (K w.params).In h)
    (F : ∀ (w : World) (mg : Str → Option Value) (fa : Addr) (h : Heap), (K w.params).In h → h.Ns mainGlobals mg → mg d.name = some (.ref fa) →
      ∃ fd : FuncData, (∀ (s : Shared) (u : Value), BindsTo s fd ⟨[u], []⟩ [("script", u)]) ∧ ∀ base : Heap, (K w.params).In base → base.Ns mainGlobals mg → FnOk l.prog w (K w.params) mg base CX0 3 fa fd ["script"] (spLaw (K w.params))) :
    PySem.W.WalkO q loose XP YP l.row.toRowW d [] (fun f vs => PySem.call f vs) :=
  L2.walk_of (n := 63) (k := 3) (x := "script") (CX := fun _ => CX0) (sp := fun w => spLaw (K w.params)) hn (by decide) hdf ⟨rfl, by decide, by decide⟩ hY F (fun _ _ a ns hl _ hS => ⟨a, ns, rfl, hS, hl, fun _ => rfl⟩) fun _ _ _ _ _ z => z
end My
open PySem PySem.W PyProof.Rows
set_option maxRecDepth 100000 in
set_option maxHeartbeats 0 in
theorem PySem.Challenge.cw_tablemates_k07_addresses_holds : PySem.Challenge.rw_tablemates_k07_addresses.Holds := by
  w_on; o_law; k_head; (case hw => w_witness2)
  k_fill
  refine My.walk (l := PySem.Challenge.rw_tablemates_k07_addresses) rfl rfl (fun w h Y => PySem.W.kIn_of Y) ?F
  case F =>
    intro w mg fa h KX G hmg
    refine' My.all_mk KX G hmg ?a1 ?l1 ?c1 ?k1 ?a2 ?l2 ?c2 ?k2 ?a3 ?l3 ?c3 ?k3 ?a4 ?l4 ?c4 ?k4 ?a5 ?l5 ?c5 ?k5 ?a6 ?l6 ?c6 ?k6 ?a7 ?l7 ?c7 ?k7 ?a8 ?l8 ?c8 ?k8 ?a9 ?l9 ?c9 ?k9 ?a10 ?l10 ?c10 ?k10 ?z_range ?z_isinstance ?z_bool ?z_str ?z_len ?z_list ?z_tuple ?z_int ?x_DIGITS ?x_CAPITALS
    (case a1 => k_is); (case l1 => k_is); (case c1 => k_is); (case k1 => k_is); (case a2 => k_is); (case l2 => k_is); (case c2 => k_is); (case k2 => k_is); (case a3 => k_is); (case l3 => k_is); (case c3 => k_is); (case k3 => k_is); (case a4 => k_is); (case l4 => k_is); (case c4 => k_is); (case k4 => k_is); (case a5 => k_is); (case l5 => k_is); (case c5 => k_is); (case k5 => k_is); (case a6 => k_is); (case l6 => k_is); (case c6 => k_is); (case k6 => k_is); (case a7 => k_is); (case l7 => k_is); (case c7 => k_is); (case k7 => k_is); (case a8 => k_is); (case l8 => k_is); (case c8 => k_is); (case k8 => k_is); (case a9 => k_is); (case l9 => k_is); (case c9 => k_is); (case k9 => k_is); (case a10 => k_is); (case l10 => k_is); (case c10 => k_is); (case k10 => k_is); (case z_range => k_is); (case z_isinstance => k_is); (case z_bool => k_is); (case z_str => k_is); (case z_len => k_is); (case z_list => k_is); (case z_tuple => k_is); (case z_int => k_is); (case x_DIGITS => k_is); (case x_CAPITALS => k_is)

import PyProof.Rows.All
import Wide.All
import OpenK.AllK
import Wide.FinOn
import HandS.ForMost
import HandS.Zip
import HandS.Walk
import HandS.Deep
import HandS.Conv
import HandS.Style
import HandS.SortInts
import HandS.Codes
import KE.KEqDeep
import HandS.SortKw
import KE.SortKeyHeap
import KE.SortData
import KE.LtData
import HandS.TupSets
import KE.KTupSum
import HandS.StrMore
import HandS.WordsExc
import HandS.Strs
import KE.IntTextText
import HandS.Rev
import HandS.DictTup
import HandS.Words
import KE.DataCmp
import HandS.CallLocal
import HandS.Lambda
import HandS.EndTab
import HandS.DictComp
import KE.DataMinMax
import PySem.Challenge.RW_tablemates_k37_targets_of_undo
set_option Elab.async false
set_option linter.all false
set_option maxRecDepth 100000
namespace My
open PySem PySem.Spec PyProof.Rows L2 RZ
def topS (i : Nat) : Stmt := PySem.Challenge.pw_tablemates_k37_targets_of_undo.main.body.getD i (.Pass ⟨0, 0, 0, 0⟩)
abbrev sInForce : Stmt := topS 1
abbrev sOwnActions : Stmt := topS 3
abbrev sOwnInForce : Stmt := topS 4
abbrev sUndoTarget : Stmt := topS 5
abbrev sUndoesAPlainEdit : Stmt := topS 6
abbrev sRedoTarget : Stmt := topS 7
abbrev sLawCell : Stmt := topS 9
abbrev sLawOther : Stmt := topS 10
abbrev sLaw : Stmt := topS 11
theorem scInForce : FnScope ["edits", "undone", "found", "edit_id", "_", "action"] ["edits"] (defScope sInForce) := ⟨rfl, rfl, rfl, by decide +kernel, rfl, by decide +kernel, by decide +kernel⟩
theorem scOwnActions : FnScope ["edits", "person", "edit_id", "_", "action"] ["edits", "person"] (defScope sOwnActions) := ⟨rfl, rfl, rfl, by decide +kernel, rfl, by decide +kernel, by decide +kernel⟩
theorem scOwnInForce : FnScope ["edits", "person", "other", "number"] ["edits", "person"] (defScope sOwnInForce) := ⟨rfl, rfl, rfl, by decide +kernel, rfl, by decide +kernel, by decide +kernel⟩
theorem scUndoTarget : FnScope ["edits", "person", "actions", "numbers", "number"] ["edits", "person"] (defScope sUndoTarget) := ⟨rfl, rfl, rfl, by decide +kernel, rfl, by decide +kernel, by decide +kernel⟩
theorem scUndoesAPlainEdit : FnScope ["actions", "number", "action"] ["actions", "number"] (defScope sUndoesAPlainEdit) := ⟨rfl, rfl, rfl, by decide +kernel, rfl, by decide +kernel, by decide +kernel⟩
theorem scRedoTarget : FnScope ["edits", "person", "actions", "numbers", "target", "number"] ["edits", "person"] (defScope sRedoTarget) := ⟨rfl, rfl, rfl, by decide +kernel, rfl, by decide +kernel, by decide +kernel⟩
theorem scLawCell : FnScope ["script", "k"] ["script", "k"] (defScope sLawCell) := ⟨rfl, rfl, rfl, by decide +kernel, rfl, by decide +kernel, by decide +kernel⟩
theorem scLawOther : FnScope ["k"] ["k"] (defScope sLawOther) := ⟨rfl, rfl, rfl, by decide +kernel, rfl, by decide +kernel, by decide +kernel⟩
theorem scLaw : FnScope ["script", "edits", "done", "undone", "others", "k", "kind", "number", "seen", "top", "due", "pair"] ["script"] (defScope sLaw) := ⟨rfl, rfl, rfl, by decide +kernel, rfl, by decide +kernel, by decide +kernel⟩
set_option maxHeartbeats 0 in
structure Txt (K : PySem.W.Frag) (mg : Str → Option Value) where
  fInForce : Addr
  fdInForce : FuncData
  FInForce : Fun K "in_force" "in_force" sInForce fInForce fdInForce
  bInForce : Binds K fdInForce ["edits"] []
  gInForce : mg "in_force" = some (.ref fInForce)
  fOwnActions : Addr
  fdOwnActions : FuncData
  FOwnActions : Fun K "_own_actions" "_own_actions" sOwnActions fOwnActions fdOwnActions
  bOwnActions : Binds K fdOwnActions ["edits", "person"] []
  gOwnActions : mg "_own_actions" = some (.ref fOwnActions)
  fOwnInForce : Addr
  fdOwnInForce : FuncData
  FOwnInForce : Fun K "_own_in_force" "_own_in_force" sOwnInForce fOwnInForce fdOwnInForce
  bOwnInForce : Binds K fdOwnInForce ["edits", "person"] []
  gOwnInForce : mg "_own_in_force" = some (.ref fOwnInForce)
  fUndoTarget : Addr
  fdUndoTarget : FuncData
  FUndoTarget : Fun K "undo_target" "undo_target" sUndoTarget fUndoTarget fdUndoTarget
  bUndoTarget : Binds K fdUndoTarget ["edits", "person"] []
  gUndoTarget : mg "undo_target" = some (.ref fUndoTarget)
  fUndoesAPlainEdit : Addr
  fdUndoesAPlainEdit : FuncData
  FUndoesAPlainEdit : Fun K "_undoes_a_plain_edit" "_undoes_a_plain_edit" sUndoesAPlainEdit fUndoesAPlainEdit fdUndoesAPlainEdit
  bUndoesAPlainEdit : Binds K fdUndoesAPlainEdit ["actions", "number"] []
  gUndoesAPlainEdit : mg "_undoes_a_plain_edit" = some (.ref fUndoesAPlainEdit)
  fRedoTarget : Addr
  fdRedoTarget : FuncData
  FRedoTarget : Fun K "redo_target" "redo_target" sRedoTarget fRedoTarget fdRedoTarget
  bRedoTarget : Binds K fdRedoTarget ["edits", "person"] []
  gRedoTarget : mg "redo_target" = some (.ref fRedoTarget)
  fLawCell : Addr
  fdLawCell : FuncData
  FLawCell : Fun K "_law_cell" "_law_cell" sLawCell fLawCell fdLawCell
  bLawCell : Binds K fdLawCell ["script", "k"] []
  gLawCell : mg "_law_cell" = some (.ref fLawCell)
  fLawOther : Addr
  fdLawOther : FuncData
  FLawOther : Fun K "_law_other" "_law_other" sLawOther fLawOther fdLawOther
  bLawOther : Binds K fdLawOther ["k"] []
  gLawOther : mg "_law_other" = some (.ref fLawOther)
  fLaw : Addr
  fdLaw : FuncData
  FLaw : Fun K "law" "law" sLaw fLaw fdLaw
  bLaw : Binds K fdLaw ["script"] []
  gLaw : mg "law" = some (.ref fLaw)
  z_sorted : mg "sorted" = none
  z_max : mg "max" = none
  z_range : mg "range" = none
  z_any : mg "any" = none
  z_len : mg "len" = none
  z_int : mg "int" = none
section
variable {P : Program} {w : World} {K : PySem.W.Frag} {mg : Str → Option Value} {base : Heap}
/-! ### heaps -/
theorem _root_.L2.Same.tup {K : PySem.W.Frag} {H H' : Hp} {a : Addr} {xs : List V} (e : Same H H') (h : SqT K H a xs) : SqT K H' a xs := by
  rcases h with (h | ⟨o, h⟩) | h
  · exact .inl (.inl (e _ _ h))
  · exact .inl (.inr ⟨o, e _ _ h⟩)
  · exact .inr h
theorem same_new {H : Hp} {p : Addr} {o : HO} (h : H p = none) : Same H (upd H p o) := fun b x e => by
  rw [upd_ne (ne_of_none e h)]
  exact e
theorem same_mut {H H' : Hp} {p : Addr} {o : HO} (e : Same H H') (h : H p = none) : Same H (upd H' p o) := fun b x ha => by
  rw [upd_ne (ne_of_none ha h)]
  exact e b x ha
theorem walk_zipT {K : PySem.W.Frag} {a b : Addr} {xs ys : List V} {n : Nat} (hn : n = min xs.length ys.length) : Walk (ItzT K a b) n (fun H => SqT K H a xs ∧ SqT K H b ys) (YPair (fun i => xs[i]?) (fun i => ys[i]?)) := by
  subst hn
  refine ⟨fun i _ hi q => ?_, fun _ q => ⟨xs, ys, q.1, q.2, by omega⟩, fun i H v H' _ q y => ?_⟩
  · have h1 : i < xs.length := by omega
    have h2 : i < ys.length := by omega
    exact ⟨xs, ys, xs[i], ys[i], q.1, q.2, by simp [h1], by simp [h2]⟩
  · obtain ⟨T, x, z, h1, h2, h3, h4, h5⟩ := y
    exact ⟨T, x, z, h1, h2, h3, h4 xs q.1, h5 ys q.2⟩
/-- a function that hands back a bool or an int and changes nothing -/
theorem getD_at {ns : List Int} {i : Nat} (h : i < ns.length) : (ns.map V.int)[i]? = some (.int (ns.getD i 0)) := by
  rw [List.getElem?_map, List.getElem?_eq_getElem h, List.getD_eq_getElem?_getD, List.getElem?_eq_getElem h]
  rfl
theorem dp_ints {K : PySem.W.Frag} {H : Hp} : ∀ ns : List Int, DpAll K H (ns.map V.int) (ns.map PyData.int)
  | [] => .nil
  | n :: r => .cons (.int n) (dp_ints r)
theorem shaped_tup (ns : List Int) : SeqAt.shaped (.tuple (ns.map PyData.int)) = true := by
  simp [SeqAt.shaped, PyData.canLay0, PyData.depth, PySem.W.ke_canLayAll0, PySem.W.ke_depthAll]
theorem shaped_lst (ns : List Int) : SeqAt.shaped (.list (ns.map PyData.int)) = true := PySem.W.ke_shaped_ints ns
theorem eqv_same {d : PyData} (h : SeqAt.shaped d = true) : PyData.eqv d d = true := by
  refine SeqAt.eqv_refl d ?_
  unfold SeqAt.shaped at h
  exact (Bool.and_eq_true _ _ ▸ h).1
theorem yesT {σ : L2.St} {H : Hp} {A B : Hp → Prop} (h : A H) : tYes σ H (fun b H3 => if b = true then A H3 else B H3) := iteT (A := A H) (B := B H) h
/-! ### texts -/
open SX (S S_len S_cat slice_to slice_from num_S int_S)
open PySem.NumText (digitsVal AllDigits)
open TL (numL)
def cap (c : Nat) : Bool := decide (65 ≤ c ∧ c ≤ 90)
def dig (c : Nat) : Bool := decide (48 ≤ c ∧ c ≤ 57)
theorem dig_mem (c : Nat) : decide (c ∈ ("0123456789" : Str).cps.toList) = dig c := by
  have e : ("0123456789" : Str).cps.toList = [48, 49, 50, 51, 52, 53, 54, 55, 56, 57] := by decide +kernel
  rw [e]
  unfold dig
  refine decide_eq_decide.mpr ?_
  simp only [List.mem_cons, List.not_mem_nil, or_false]
  omega
theorem cap_mem (c : Nat) : decide (c ∈ ("ABCDEFGHIJKLMNOPQRSTUVWXYZ" : Str).cps.toList) = cap c := by
  have e : ("ABCDEFGHIJKLMNOPQRSTUVWXYZ" : Str).cps.toList = [65, 66, 67, 68, 69, 70, 71, 72, 73, 74, 75, 76, 77, 78, 79, 80, 81, 82, 83, 84, 85, 86, 87, 88, 89, 90] := by decide +kernel
  rw [e]
  unfold cap
  refine decide_eq_decide.mpr ?_
  simp only [List.mem_cons, List.not_mem_nil, or_false]
  omega
theorem walk_S {a : List Nat} : Walk (Its (S a)) a.length (fun _ => True) (fun i H v H' => H' = H ∧ ∃ c, a[i]? = some c ∧ v = .str (S [c])) :=
  ⟨fun i _ hi _ => by show i < a.toArray.size; simpa using hi, fun _ _ => by show a.toArray.size ≤ a.length; simp, fun i H v H' _ _ y => by
    obtain ⟨e, c, h1, h2⟩ := y
    exact ⟨e, c, by simpa using h1, h2⟩⟩
theorem tw_len {p : Nat → Bool} : ∀ {a : List Nat} {i c : Nat}, (∀ x ∈ a.take i, p x = true) → a[i]? = some c → p c = false → (a.takeWhile p).length = i
  | [], i, c, _, e, _ => by simp at e
  | x :: r, 0, c, _, e, hc => by
    have e2 := Option.some.inj e
    rw [List.takeWhile_cons, e2, hc]
    rfl
  | x :: r, i + 1, c, h, e, hc => by
    have hx : p x = true := h x (by simp)
    rw [List.takeWhile_cons, hx]
    show ((r.takeWhile p).length + 1) = i + 1
    rw [tw_len (fun y hy => h y (by rw [List.take_succ_cons]; exact List.mem_cons_of_mem _ hy)) (by simpa using e) hc]
theorem tw_all {p : Nat → Bool} {a : List Nat} (h : ∀ x ∈ a, p x = true) : (a.takeWhile p).length = a.length := by
  induction a with
  | nil => rfl
  | cons x r ih =>
    rw [List.takeWhile_cons, h x List.mem_cons_self]
    show (r.takeWhile p).length + 1 = r.length + 1
    rw [ih fun y hy => h y (List.mem_cons_of_mem _ hy)]
theorem tw_self {p : Nat → Bool} : ∀ {a : List Nat}, (∀ x ∈ a, p x = true) → a.takeWhile p = a
  | [], _ => rfl
  | x :: r, h => by rw [List.takeWhile_cons, h x List.mem_cons_self, if_pos rfl, tw_self fun y hy => h y (List.mem_cons_of_mem _ hy)]
theorem tw_le {p : Nat → Bool} (a : List Nat) : (a.takeWhile p).length ≤ a.length := by
  induction a with
  | nil => exact Nat.le_refl _
  | cons x r ih =>
    rw [List.takeWhile_cons]
    split
    · exact Nat.succ_le_succ ih
    · exact Nat.zero_le _
theorem tw_take {p : Nat → Bool} : ∀ (a : List Nat), ∀ x ∈ a.take (a.takeWhile p).length, p x = true
  | [], x, h => by simp at h
  | y :: r, x, h => by
    rw [List.takeWhile_cons] at h
    split at h
    · rename_i hy
      rw [List.length_cons, List.take_succ_cons] at h
      rcases List.mem_cons.mp h with e | e
      · rw [e]
        exact hy
      · exact tw_take r x e
    · simp at h
theorem tw_full {p : Nat → Bool} {a : List Nat} (h : (a.takeWhile p).length = a.length) : ∀ x ∈ a, p x = true := fun x hx => tw_take a x (by rw [h, List.take_length]; exact hx)
theorem tw_congr {p q : Nat → Bool} (h : ∀ c, p c = q c) (a : List Nat) : a.takeWhile p = a.takeWhile q := by
  rw [show p = q from funext h]
theorem in12 (n : Int) : inV (.int n) [.int 1, .int 2] = decide (n = 1 ∨ n = 2) := by
  show ((1 : Int) == n || ((2 : Int) == n || false)) = _
  rw [Bool.eq_iff_iff]
  simp only [Bool.or_false, Bool.or_eq_true, beq_iff_eq, decide_eq_true_eq]
  omega
theorem sz100 {n : Nat} (h : n ≤ 100000) : n ≤ sizeLine := Nat.le_trans h (by decide)
theorem item_by {α : Type} (f : α → V) {xs : List α} {k : Int} (h0 : 0 ≤ k) (h1 : k < xs.length) : ∃ v ∈ xs, atI (xs.map f) k = some (f v) := by
  obtain ⟨j, rfl⟩ := Int.eq_ofNat_of_zero_le h0
  have hj : j < xs.length := by omega
  exact ⟨xs[j], List.getElem_mem hj, atI_nat (by rw [List.getElem?_map, List.getElem?_eq_getElem hj]; rfl)⟩
theorem dig_all {a : List Nat} (h : a.all dig = true) : AllDigits a := fun c hc => of_decide_eq_true (List.all_eq_true.mp h c hc)
theorem int_dig {a : List Nat} (h : a.all dig = true) (hne : a ≠ []) (hl : a.length ≤ 640) : intText? (S a) = some ((digitsVal a : Nat) : Int) := intText_digits (x := S a) (dig_all h) hne (by rw [S_len]; omega)
/-! ### a run of signs -/
def rn (z : Str) (a : List Nat) : Nat := (a.takeWhile fun c => decide (c ∈ z.cps.toList)).length
theorem ext_tup (l : Addr) (items : Array Value) (n : Nat) (b : Addr) (items2 : Array Value) (n2 : Nat) (dd : Option Addr) (sl : Array (Option Value)) (hs0 : ¬(!items.isEmpty && Builtin.List.listTooLong (items.size + items2.size)) = true) (hs1 : items.size ≤ sizeLine) (hs2 : items.size + items2.size ≤ sizeLine + 1) :
    Meets (Builtin.«list.extend» ⟨[.ref l, .ref b], []⟩) (fun _ R s => s.heap.get? l = some { cls := .type "list", dict := none, data := .seq items n, slots := #[] } ∧ s.heap.get? b = some { cls := .type "tuple", dict := dd, data := .seq items2 n2, slots := sl } ∧ R (.ok (.ret Value.none)) { s with heap := s.heap.update l (Obj.mapSeq fun x => x ++ items2), toks := s.toks }) :=
  .of_wp fun prog w A R s h => by
    obtain ⟨hp, g, d, tk, os⟩ := s
    obtain ⟨hl, hb, h⟩ := h
    have f1 := AutoSeq1.idx_int
    have f2 := AutoSeq1.sub_tuple_tuple
    have f3 := AutoSeq1.sub_list_list
    have f4 := AutoSeq1.sub_tuple_list
    have f5 := AutoSeq1.sub_list_tuple
    have hz' : (items ++ items2).size ≤ sizeLine + 1 := by
      rw [Array.size_append]
      exact hs2
    wp_walk using (wpAny_updateSeq hl rfl (hz := hs1) (_hz' := hz')), AutoSeq1.wpAny_loadPart' hl, AutoSeq1.wpAny_loadPart' hb
    exact ⟨_, rfl, h⟩
def rExtT (K : PySem.W.Frag) : V → List V → Hp → VK → Prop := fun x vs H Q => ∃ l b xs zs, x = .ref l ∧ vs = [.ref b] ∧ H l = some (.lst xs) ∧ SqT K H b zs ∧ xs.length + zs.length ≤ sizeLine ∧ Q .non (upd H l (.lst (xs ++ zs)))
theorem mt_extT {X : Cx} : MtM X "list.extend" (rExtT X.K) := by
  intro pins s σ H x vs v us Q I rx rv h
  obtain ⟨l, b, xs, zs, rfl, rfl, hH, hB, hz, q⟩ := h
  cases rx
  obtain ⟨u, rfl, ru⟩ := rv.one
  cases ru
  obtain ⟨z, its, n, r, hl, e⟩ := I.lstM hH
  obtain ⟨its2, r2, ⟨⟨cls, dd, data, sl⟩, e2, hc, n2, hd⟩, hl2⟩ := I.tuple hB
  simp only at hc hd
  subst hc hd
  have ll2 := r2.length
  have hsz : its.toArray.size + its2.toArray.size ≤ sizeLine := by rw [List.size_toArray, List.size_toArray]; omega
  have hlong : ¬ (!its.toArray.isEmpty && Builtin.List.listTooLong (its.toArray.size + its2.toArray.size)) = true := by
    rw [notLongL hsz, Bool.and_false]
    exact Bool.false_ne_true
  refine call_meets PySem.F.slot_list_extend ⟨_, e, rfl⟩ PySem.F.entry_list_extend (PySem.F.args_list_extend_2 _ _)
    (ext_tup l its.toArray n b its2.toArray n2 dd sl hlong (by rw [List.size_toArray]; omega) (by omega)) ⟨e, e2, ?_⟩
  refine ⟨.non, _, I.lset (its' := its ++ its2) hH e (by simp) (r.append r2) ?_, rfl, q⟩
  rw [List.length_append]
  omega
def spCell (K : PySem.W.Frag) : Sp := fun vs H Q _ => ∃ (a : Addr) (ns : List Int) (k : Int), vs = [.ref a, .int k] ∧ 0 ≤ k ∧ SqL K H a (ns.map V.int) ∧ ∀ v : Int, Q (.int v) H
theorem okLawCell (T : Txt K mg) : FnOk P w K mg base CX0 1 T.fLawCell T.fdLawCell ["script", "k"] (spCell K) := by
  refine T.FLawCell.ok scLawCell (fun vs H Q E h => ?_) (fun cdv A outer s H vs Q E hr h => ?_)
  · obtain ⟨a, ns, k, rfl, _⟩ := h
    rfl
  · obtain ⟨a, ns, k, rfl, h0, hS, q⟩ := h
    obtain ⟨k, rfl⟩ := Int.eq_ofNat_of_zero_le h0
    -- slots script=0 k=1
    refine ⟨_, (pss_cons (ps_if (pt_cmpR op_lt (pv 1) (pe_callB call_len_seq (by rfl) T.z_len PySem.boot_len (pa_cons (pv 0) pa_nil)) (nomark _))
          (pss_one (ps_ret (pe_ix ix_list (pv 0) (pv 1) (fun _ _ => rfl))))
          pss_nil)
        (pss_one (ps_ret pe_int))), ?_⟩
    refine ⟨_, rfl, _, rfl, a, _, rfl, .inl hS, _, _, rfl, rfl, _, rfl, ite2 (fun c => ?_) (fun c => ?_)⟩
    · have hk : k < ns.length := by
        have c2 := of_decide_eq_true c
        rw [List.length_map] at c2
        omega
      exact ⟨_, rfl, _, rfl, a, _, _, _, rfl, rfl, hS, atI_nat (getD_at hk), q _⟩
    · exact q 0
theorem ix_tupK {X : Cx} {K : PySem.W.Frag} (h : X.K = K) : IxR X (rIxT K) := by
  subst h
  exact ix_tup
theorem ix_listK {X : Cx} {K : PySem.W.Frag} (h : X.K = K) : IxR X (rIxL K) := by
  subst h
  exact ix_list
theorem call_len_seqK {X : Cx} {K : PySem.W.Frag} (h : X.K = K) : CallR X (.builtin "len") (fun xs H Q => ∃ p ys, xs = [.ref p] ∧ (SqL K H p ys ∨ SqT K H p ys) ∧ Q (.int ys.length) H) := by
  subst h
  exact call_len_seq
theorem units65 {k : Nat} {A : Around} (r : Room k A) : A.units + 65 < cLine := by
  have := r.un
  omega
def rCountD (K : PySem.W.Frag) : V → List V → Hp → VK → Prop := fun x xs H Q => ∃ (a : Addr) (y : V) (d : PyData) (ds : List PyData), x = V.ref a ∧ xs = [y] ∧ Dp K H (V.ref a) (.list ds) ∧ Dp K H y d ∧
  SeqAt.shaped (.list ds) = true ∧ SeqAt.shaped d = true ∧ Q (.int ((ds.countP fun z => PyData.eqv z d : Nat) : Int)) H
theorem mt_countD {X : Cx} (hu : X.A.units + 65 < cLine) : MtR X "list.count" (rCountD X.K) := by
  intro pins s σ H x xs v us Q I rx rxs h
  obtain ⟨a, y, d, ds, rfl, rfl, hl, hy, sl, sd, q⟩ := h
  cases rx
  cases rxs with
  | cons ry rt =>
    rename_i uy ut
    cases rt
    obtain ⟨bs, r1⟩ := Dp.reads I d y uy hy ry
    have hxs : PyData.canLayAll0 ds = true := SeqAt.canLay_of_shaped sl
    have hroom : X.A.units + 1 + min (PyData.depthAll ds) d.depth < cLine := room_in_shaped sd hu
    cases hl with
    | lst hs ha =>
      obtain ⟨its, rv, ⟨⟨cls, dd, data, sls⟩, n, ho, hc, hdn, hdt⟩, hlen⟩ := I.list hs
      simp only at hc hdt
      subst hc hdt
      obtain ⟨as, h4⟩ := Dp.readsAll I ds _ its ha rv
      have hmap : its.map (SeqAt.readOf s.heap) = ds := SeqAt.readsAll_map ds its as hxs h4
      have hc : its.countP (fun u => PyData.eqv (SeqAt.readOf s.heap u) d) = ds.countP fun z => PyData.eqv z d := by
        conv => rhs; rw [← hmap, List.countP_map]
        rfl
      refine call_meets PySem.F.slot_list_count ⟨_, ho, rfl⟩ PySem.F.entry_list_count (PySem.F.args_list_count_2 _ _)
        (SeqAt.list_countAt a its.toArray n dd sls uy (fun u => PyData.eqv (SeqAt.readOf s.heap u) d)) ⟨ho, SeqAt.items_eqAt (vs := its.toArray) (show ReadsAll s.heap its.toArray.toList ds as from h4) r1 hxs (SeqAt.canLay_of_shaped sd) hroom, ?_⟩
      refine ⟨.int _, H, I.tok _, ⟨_, rfl⟩, ?_⟩
      rw [List.toList_toArray, hc]
      exact q
/-! ### ids -/
def idD (z : Int × Int) : PyData := .tuple [.int z.1, .int z.2]
theorem idD_lay (z : Int × Int) : (idD z).canLay0 = true := by simp [idD, PyData.canLay0, PyData.canLayAll0]
theorem idD_depth (z : Int × Int) : (idD z).depth = 1 := by simp [idD, PyData.depth, PyData.depthAll]
theorem idDs_lay : ∀ zs : List (Int × Int), PyData.canLayAll0 (zs.map idD) = true
  | [] => by simp [PyData.canLayAll0]
  | z :: zs => by simp [PyData.canLayAll0, idD_lay z, idDs_lay zs]
theorem idDs_depth : ∀ zs : List (Int × Int), PyData.depthAll (zs.map idD) ≤ 1
  | [] => by simp [PyData.depthAll]
  | z :: zs => by
    have h1 := idDs_depth zs
    have h2 := idD_depth z
    simp only [List.map_cons, PyData.depthAll]
    omega
theorem idD_shaped (z : Int × Int) : SeqAt.shaped (idD z) = true := by
  have h := idD_depth z
  show ((idD z).canLay0 && decide ((idD z).depth ≤ 64)) = true
  rw [Bool.and_eq_true]
  exact ⟨idD_lay z, decide_eq_true (by omega)⟩
theorem idDs_shaped (zs : List (Int × Int)) : SeqAt.shaped (.list (zs.map idD)) = true := by
  have h1 := idDs_depth zs
  have h2 : PyData.depth (.list (zs.map idD)) ≤ 64 := by
    simp only [PyData.depth]
    omega
  show (PyData.canLay0 (.list (zs.map idD)) && decide (PyData.depth (.list (zs.map idD)) ≤ 64)) = true
  rw [Bool.and_eq_true]
  exact ⟨by simp only [PyData.canLay0]; exact idDs_lay zs, decide_eq_true h2⟩
theorem idD_eqv (z w : Int × Int) : PyData.eqv (idD z) (idD w) = decide (z = w) := by
  obtain ⟨a, b⟩ := z
  obtain ⟨a', b'⟩ := w
  have e : PyData.eqv (idD (a, b)) (idD (a', b')) = ((a == a') && ((b == b') && true)) := by simp only [idD, PyData.eqv, PyData.eqvAll]
  rw [e, Bool.eq_iff_iff]
  simp
theorem idDs_any (zs : List (Int × Int)) (w : Int × Int) : ((zs.map idD).any fun z => PyData.eqv z (idD w)) = decide (w ∈ zs) := by
  rw [Bool.eq_iff_iff, List.any_eq_true]
  constructor
  · rintro ⟨x, hx, hw⟩
    obtain ⟨z, hz, rfl⟩ := List.mem_map.mp hx
    rw [idD_eqv] at hw
    rw [← of_decide_eq_true hw]
    exact decide_eq_true hz
  · intro h
    exact ⟨idD w, List.mem_map.mpr ⟨w, of_decide_eq_true h, rfl⟩, by rw [idD_eqv]; exact decide_eq_true rfl⟩
theorem idDs_count (zs : List (Int × Int)) (w : Int × Int) : ((zs.map idD).countP fun z => PyData.eqv z (idD w)) = zs.countP fun z => decide (z = w) := by
  rw [List.countP_map]
  refine List.countP_congr fun z _ => ?_
  show PyData.eqv (idD z) (idD w) = true ↔ _
  rw [idD_eqv]
/-! ### edits -/
structure Ed where
  p : Nat
  n : Int
  v : List Int
def Ed.id (e : Ed) : Int × Int := (1 + (e.p : Int), e.n)
structure OkE (e : Ed) : Prop where
  p : e.p < 4
  n : 1 ≤ e.n
  v : e.v.length = 4
  nh : e.n ≤ 20
  vh : ∀ z ∈ e.v, 0 ≤ z ∧ z ≤ 20
theorem OkE.at_ {e : Ed} (h : OkE e) {j : Nat} (hj : j < 4) : 0 ≤ e.v.getD j 0 ∧ e.v.getD j 0 ≤ 20 := by
  have : j < e.v.length := by rw [h.v]; exact hj
  rw [List.getD_eq_getElem?_getD, List.getElem?_eq_getElem this]
  exact h.vh _ (List.getElem_mem this)
inductive RepI (H : Hp) : List V → List Ed → Prop where
  | nil : RepI H [] []
  | cons {a : Addr} {e : Ed} {vs : List V} {ds : List Ed} : H a = some (.tup [.int (1 + (e.p : Int)), .int e.n]) → RepI H vs ds → RepI H (.ref a :: vs) (e :: ds)
def TK (H H' : Hp) : Prop := ∀ q xs, H q = some (.tup xs) → H' q = some (.tup xs)
theorem TK.of {H H' : Hp} (s : Same H H') : TK H H' := fun q xs h => s q _ h
theorem TK.trans {H H1 H2 : Hp} (a : TK H H1) (b : TK H1 H2) : TK H H2 := fun q xs h => b q xs (a q xs h)
theorem TK.mut {H : Hp} {d : Addr} {xs : List V} {o : HO} (h : H d = some (.lst xs)) : TK H (upd H d o) := fun q ys hq => by
  have : q ≠ d := fun z => by
    rw [z, h] at hq
    cases hq
  rw [upd_ne this]
  exact hq
theorem RepI.mono {H H' : Hp} (s : TK H H') : ∀ {vs ds}, RepI H vs ds → RepI H' vs ds
  | _, _, .nil => .nil
  | _, _, .cons h r => .cons (s _ _ h) (r.mono s)
theorem RepI.snoc {H : Hp} {a : Addr} {e : Ed} (h : H a = some (.tup [.int (1 + (e.p : Int)), .int e.n])) : ∀ {vs ds}, RepI H vs ds → RepI H (vs ++ [.ref a]) (ds ++ [e])
  | _, _, .nil => .cons h .nil
  | _, _, .cons h2 r => .cons h2 (r.snoc h)
theorem dp_id {K : PySem.W.Frag} {H : Hp} {a : Addr} {x y : Int} (h : H a = some (.tup [.int x, .int y])) : Dp K H (.ref a) (idD (x, y)) := .tup (SqT.of h) (.cons (.int _) (.cons (.int _) .nil))
theorem RepI.dp {K : PySem.W.Frag} {H : Hp} : ∀ {vs ds}, RepI H vs ds → DpAll K H vs ((ds.map Ed.id).map idD)
  | _, _, .nil => .nil
  | _, _, .cons h r => .cons (dp_id h) r.dp
def EdAt (H : Hp) (x : V) (e : Ed) : Prop := ∃ (q a b : Addr) (c : V), x = .ref q ∧ H q = some (.tup [.ref a, .ref b, c]) ∧ H a = some (.tup [.int (1 + (e.p : Int)), .int e.n]) ∧ H b = some (.tup (e.v.map V.int))
theorem EdAt.mono {H H' : Hp} {x : V} {e : Ed} (s : TK H H') (h : EdAt H x e) : EdAt H' x e := by
  obtain ⟨q, a, b, c, h0, h1, h2, h3⟩ := h
  exact ⟨q, a, b, c, h0, s _ _ h1, s _ _ h2, s _ _ h3⟩
structure Rep (H : Hp) (rs : List V) (D : List Ed) : Prop where
  len : rs.length = D.length
  at_ : ∀ (i : Nat) (x : V) (e : Ed), rs[i]? = some x → D[i]? = some e → EdAt H x e
theorem Rep.mono {H H' : Hp} {rs : List V} {D : List Ed} (s : TK H H') (h : Rep H rs D) : Rep H' rs D := ⟨h.len, fun i x e h1 h2 => (h.at_ i x e h1 h2).mono s⟩
theorem Rep.nil {H : Hp} : Rep H [] [] := ⟨rfl, fun i x e h => by simp at h⟩
theorem Rep.snoc {H : Hp} {rs : List V} {D : List Ed} {x : V} {e : Ed} (h : Rep H rs D) (E : EdAt H x e) : Rep H (rs ++ [x]) (D ++ [e]) := by
  refine ⟨by rw [List.length_append, List.length_append, h.len]; rfl, fun i y f h1 h2 => ?_⟩
  rcases Nat.lt_or_ge i rs.length with z | z
  · rw [List.getElem?_append_left z] at h1
    rw [List.getElem?_append_left (by rw [← h.len]; exact z)] at h2
    exact h.at_ i y f h1 h2
  · rw [List.getElem?_append_right z] at h1
    rw [List.getElem?_append_right (by rw [← h.len]; exact z), ← h.len] at h2
    generalize i - rs.length = j at h1 h2
    rcases j with _ | j
    · simp at h1 h2
      rw [← h1, ← h2]
      exact E
    · simp at h1
theorem Rep.rev {H : Hp} {rs : List V} {D : List Ed} (h : Rep H rs D) : Rep H rs.reverse D.reverse := by
  refine ⟨by rw [List.length_reverse, List.length_reverse, h.len], fun i x e h1 h2 => ?_⟩
  have hi : i < rs.length := by
    have := (List.getElem?_eq_some_iff.mp h1).1
    rwa [List.length_reverse] at this
  rw [List.getElem?_reverse hi] at h1
  rw [List.getElem?_reverse (by rw [← h.len]; exact hi), ← h.len] at h2
  exact h.at_ _ x e h1 h2
theorem Rep.get {H : Hp} {rs : List V} {D : List Ed} (h : Rep H rs D) {i : Nat} {x : V} (hx : rs[i]? = some x) : ∃ e, D[i]? = some e ∧ EdAt H x e := by
  have hi := (List.getElem?_eq_some_iff.mp hx).1
  have hi2 : i < D.length := by rw [← h.len]; exact hi
  have hd : D[i]? = some D[i] := List.getElem?_eq_getElem hi2
  exact ⟨_, hd, h.at_ i x _ hx hd⟩
def nums (D : List Ed) (p : Nat) : List Int := (D.filter fun e => decide (e.p = p)).map Ed.n
theorem nums_step {D : List Ed} {i p : Nat} {e : Ed} (h : D[i]? = some e) : nums (D.take (i + 1)) p = nums (D.take i) p ++ if e.p = p then [e.n] else [] := by
  unfold nums
  rw [List.take_add_one, h, List.filter_append, List.map_append]
  congr 1
  by_cases z : e.p = p
  · simp [z]
  · simp [z]
theorem nums_len (D : List Ed) (p : Nat) : (nums D p).length ≤ D.length := by
  unfold nums
  rw [List.length_map]
  exact List.length_filter_le _ _
theorem mem_nums {D : List Ed} {p : Nat} {k : Int} : k ∈ nums D p ↔ ∃ e ∈ D, e.p = p ∧ e.n = k := by
  unfold nums
  rw [List.mem_map]
  constructor
  · rintro ⟨e, he, rfl⟩
    have := List.mem_filter.mp he
    exact ⟨e, this.1, of_decide_eq_true this.2, rfl⟩
  · rintro ⟨e, he, hp, rfl⟩
    exact ⟨e, List.mem_filter.mpr ⟨he, decide_eq_true hp⟩, rfl⟩
/-! ### sorted(xs), xs of data -/
theorem each_of_vals : ∀ {bs : List (V × PyData)} {vs : List Value}, Vals (bs.map Prod.fst) vs → PySem.W.EachIs (fun (v : Value) (b : V × PyData) => RelV b.1 v) vs bs
  | [], _, h => by
    cases h
    exact .nil
  | _ :: _, _, h => by
    cases h with
    | cons h r => exact .cons h (each_of_vals r)
theorem vals_of_each : ∀ {vs : List Value} {bs : List (V × PyData)}, PySem.W.EachIs (fun (v : Value) (b : V × PyData) => RelV b.1 v) vs bs → Vals (bs.map Prod.fst) vs
  | _, _, .nil => .nil
  | _, _, .cons h r => .cons h (vals_of_each r)
theorem reads_of_each {X : Cx} {pins : List (Addr × Obj)} {σ : L2.St} {H : Hp} {s : Shared} (I : Inv X pins σ H s) : ∀ {vs : List Value} {bs : List (V × PyData)}, PySem.W.EachIs (fun (v : Value) (b : V × PyData) => RelV b.1 v) vs bs → (∀ b ∈ bs, Dp X.K H b.1 b.2) → PySem.W.EachIs (fun (v : Value) (b : V × PyData) => ∃ as, Reads s.heap v b.2 as) vs bs
  | _, _, .nil, _ => .nil
  | _, _, .cons h r, d => .cons (Dp.reads I _ _ _ (d _ (List.mem_cons_self ..)) h) (reads_of_each I r fun b hb => d b (List.mem_cons_of_mem _ hb))
def rSortedD (K : PySem.W.Frag) : List V → Hp → VK → Prop := fun vs H Q => ∃ (a : Addr) (bs : List (V × PyData)), vs = [V.ref a] ∧ SqL K H a (bs.map Prod.fst) ∧ (∀ b ∈ bs, Dp K H b.1 b.2) ∧ PySem.W.AllAlike (bs.map Prod.snd) ∧ PySem.W.Sortable (bs.map Prod.snd) ∧ (∀ b ∈ bs, b.2.depth ≤ 50) ∧
  ∀ p, H p = none → Q (.ref p) (upd H p (.lst ((bs.mergeSort (PySem.W.dataLe false Prod.snd)).map Prod.fst)))
theorem cr_sortedD {X : Cx} (hu : X.A.units + 64 < cLine) : CallR X (.builtin "sorted") (rSortedD X.K) := by
  intro pins s σ H vs us Q I r h
  obtain ⟨a, bs, rfl, hs, hd, hal, hso, hdp, q⟩ := h
  obtain ⟨its, rv, hl, hz⟩ := I.list hs
  rw [Vals.ref1 r]
  have e := each_of_vals rv
  refine PySem.W.sorted_data (enc := Prod.snd) hl.isList e (reads_of_each I e hd) hal hso (by rw [List.length_map] at hz; exact hz) (fun b hb => ?_) fun out h1 h2 => ?_
  · have := hdp b hb
    omega
  obtain ⟨ep, he'⟩ := PyProof.Rows.sortedAll_at s.heap its out.toArray
  have hlen : ((bs.mergeSort (PySem.W.dataLe false Prod.snd)).map Prod.fst).length ≤ sizeLine := by
    rw [List.length_map, List.length_mergeSort]
    rw [List.length_map] at hz
    exact hz
  exact ⟨.ref _, upd H (s.heap.objs.size + 1) (.lst ((bs.mergeSort (PySem.W.dataLe false Prod.snd)).map Prod.fst)), I.laid (t' := s.toks) (fun _ _ => PyProof.Rows.sortedAll_old) (Nat.le_succ _) ⟨hlen, out, ep, vals_of_each h2, he'⟩, rfl, q _ (I.hok.fresh (Nat.le_succ _))⟩
/-! ### sorted(xs, key=f), f a def -/
mutual
theorem dp_same {K : PySem.W.Frag} {H H' : Hp} (e : Same H H') : ∀ {v : V} {d : PyData}, Dp K H v d → Dp K H' v d
  | _, _, .non => .non
  | _, _, .bl b => .bl b
  | _, _, .int i => .int i
  | _, _, .str x => .str x
  | _, _, .lst h r => .lst (e.seq h) (dpAll_same e r)
  | _, _, .tup h r => .tup (Same.tup e h) (dpAll_same e r)
theorem dpAll_same {K : PySem.W.Frag} {H H' : Hp} (e : Same H H') : ∀ {vs : List V} {ds : List PyData}, DpAll K H vs ds → DpAll K H' vs ds
  | _, _, .nil => .nil
  | _, _, .cons h r => .cons (dp_same e h) (dpAll_same e r)
end
structure NewA (X : Cx) (pins : List (Addr × Obj)) (a : Addr) : Prop where
  big : X.s_0.heap.objs.size ≤ a
  loc : a ≠ X.env.locals
  fs : a ∉ X.fs
  cell : ∀ x c, X.env.cells.lookup x = some c → c ≠ a
  pin : ∀ p ∈ X.pn ++ pins, p.1 ≠ a
section
variable {X : Cx} {pins : List (Addr × Obj)} {σ : L2.St} {H : Hp} {s : Shared}
theorem NewA.of (I : Inv X pins σ H s) {a : Addr} (h : s.heap.objs.size ≤ a) : NewA X pins a := by
  refine ⟨Nat.le_trans I.sz h, fun z => ?_, I.nofs h, fun x c e z => ?_, fun p hp z => ?_⟩
  · have := I.lt
    rw [← z] at this
    exact Nat.lt_irrefl _ (Nat.lt_of_lt_of_le this h)
  · obtain ⟨v, o, ho, _⟩ := I.cell x c e
    rw [z] at ho
    exact Nat.lt_irrefl _ (Nat.lt_of_lt_of_le (Heap.lt_size ho) h)
  · obtain ⟨ho, _⟩ := I.pin p hp
    rw [z] at ho
    exact Nat.lt_irrefl _ (Nat.lt_of_lt_of_le (Heap.lt_size ho) h)
theorem NewA.cons {a b : Addr} {o : Obj} (N : NewA X pins a) (h : b ≠ a) : NewA X ((b, o) :: pins) a :=
  ⟨N.big, N.loc, N.fs, N.cell, fun p hp => by
    rcases List.mem_append.mp hp with z | z
    · exact N.pin p (List.mem_append_left _ z)
    · rcases List.mem_cons.mp z with z | z
      · rw [z]
        exact h
      · exact N.pin p (List.mem_append_right _ z)⟩
theorem pin_add {a : Addr} {o : Obj} (I : Inv X pins σ H s) (N : NewA X pins a) (ho : s.heap.get? a = some o) (hn : H a = none) (hd : ∀ v, o.data ≠ .cell v) : Inv X ((a, o) :: pins) σ H s :=
  I.pins_of fun p hp => by
    rcases List.mem_cons.mp hp with z | z
    · rw [z]
      exact ⟨ho, hn, N.loc, N.fs, hd⟩
    · exact I.pin p (List.mem_append_right _ z)
theorem pin_rest {q : Addr × Obj} (I : Inv X (q :: pins) σ H s) : Inv X pins σ H s := I.pins_of fun p hp => I.pin p (List.mem_append_right _ (List.mem_cons_of_mem _ hp))
theorem pin_set {a : Addr} {o o' : Obj} {h' : Heap} {t : Nat} (I : Inv X ((a, o) :: pins) σ H s) (N : NewA X pins a) (hs : Heap.SameBut a s.heap h') (ho : h'.get? a = some o') (hd : ∀ v, o'.data ≠ .cell v) : Inv X ((a, o') :: pins) σ H { s with heap := h', toks := t } := by
  have hn : H a = none := (I.pin (a, o) (List.mem_append_right _ (List.mem_cons_self ..))).2.1
  exact pin_add ((pin_rest I).turned (it := a) (fun b o hb e => (hs.2 b hb).trans e) hn N.loc (.inr N.big) N.cell N.pin) N ho hn hd
theorem ks_done {kS a : Addr} {h' : Heap} {tk c : Nat} {out : List Value} {xs : List V} (I : Inv X pins σ H s) (Nk : NewA X pins kS) (Na : NewA X pins a) (han : H a = none)
    (kp : ∀ b o, b ≠ kS → b ≠ a → s.heap.get? b = some o → h'.get? b = some o) (ha : h'.get? a = some (PyProof.Rows.seqObj "list" out.toArray c)) (hkn : H kS = none) (rv : Vals xs out) (hz : xs.length ≤ sizeLine) :
    Inv X pins σ (upd H a (.lst xs)) { s with heap := h', toks := tk } := by
  have n1 : ∀ {b : Addr}, b ∉ [kS, a] → b ≠ kS := fun h z => h (by rw [z]; exact List.mem_cons_self ..)
  have n2 : ∀ {b : Addr}, b ∉ [kS, a] → b ≠ a := fun h z => h (by rw [z]; exact List.mem_cons_of_mem _ (List.mem_cons_self ..))
  have na : ∀ {b : Addr} {u : HO}, H b = some u → b ≠ a := fun e z => by
    rw [z, han] at e
    cases e
  have nk : ∀ {b : Addr} {u : HO}, H b = some u → b ≠ kS := fun e z => by
    rw [z, hkn] at e
    cases e
  refine I.step (g' := s.gens) (d' := s.drawn) (ch := [kS, a]) (fun b hb => ?_) (fun b o _ _ hc e _ => kp b o (n1 hc) (n2 hc) e) (fun b o _ _ hc e _ => ⟨o.slots, kp b o (n1 hc) (n2 hc) e⟩) (fun b o hc _ n => by rw [upd_ne (n2 hc)]; exact n)
    (fun b o hc e => ⟨o, kp b o (n1 hc) (n2 hc) e⟩) (fun b xs e => by rw [upd_ne (na e)]; exact e) (fun b o u e => by rw [upd_ne (na e)]; exact e) (fun b ps e => ⟨#[], by rw [upd_ne (na e), e, Array.append_empty]⟩) (fun m hm => ?_) (fun b u e => ?_) I.bare
  · rcases List.mem_cons.mp hb with z | z
    · rw [z]
      exact ⟨.inr Nk.big, Nk.loc, Nk.cell, Nk.pin⟩
    · rw [List.mem_singleton.mp z]
      exact ⟨.inr Na.big, Na.loc, Na.cell, Na.pin⟩
  · obtain ⟨o, es, ep, ho, r⟩ := hm
    exact ⟨o, es, ep, kp _ o (fun z => Nk.loc z.symm) (fun z => Na.loc z.symm) ho, r⟩
  · by_cases hb : b = a
    · rw [hb, upd_same] at e
      cases e
      rw [hb]
      exact ⟨hz, out, c, rv, ha⟩
    · rw [upd_ne hb] at e
      refine (I.hok b u e).stay (fun d v hd q => ?_) (fun d q => by rw [upd_ne (na q)]; exact q) fun d xs q => by rw [upd_ne (na q)]; exact q
      rcases hd with z | z
      · rw [z] at q ⊢
        exact kp b v (nk e) hb q
      · exact kp d v (nk z) (na z) q
end
def dead : Obj → Obj := fun o => { o with data := .freed }
theorem dead_none {h : Heap} {a : Addr} {o : Obj} (e : h.get? a = some o) : (h.update a dead).get? a = none := by
  have hlt := Heap.lt_size e
  obtain ⟨os, lf⟩ := h
  have hlt2 : a < os.size := hlt
  show Heap.get? ⟨os.modify a dead, lf⟩ a = none
  unfold Heap.get?
  rw [Array.getElem?_modify, if_pos rfl, Array.getElem?_eq_getElem hlt2]
  rfl
def KeyTurn (X : Cx) (A : Around) (f : Value) (vs : List Value) (kz : List PyData) (H : Hp) : Prop :=
  ∀ (i : Nat) (u : Value) (k : PyData), vs[i]? = some u → kz[i]? = some k → ∀ (pins : List (Addr × Obj)) (σ : L2.St) (H1 : Hp) (s1 : Shared), Inv X pins σ H1 s1 → Same H H1 →
    wpAny (model X.prog X.w) A (call f [u]) (fun w s2 => ∃ y H2, Inv X pins σ H2 s2 ∧ Same H1 H2 ∧ RelV y w ∧ Dp X.K H2 y k) (fun _ _ => False) s1
theorem lst_nc {xs : Array Value} {n : Nat} : ∀ v, (PyProof.Rows.seqObj "list" xs n).data ≠ .cell v := fun v z => by cases z
theorem ks_snoc {R : Value → PyData → Prop} {u : Value} {k : PyData} (h : R u k) : ∀ {us : List Value} {ks : List PyData}, PySem.W.EachIs R us ks → PySem.W.EachIs R (us ++ [u]) (ks ++ [k])
  | _, _, .nil => .cons h .nil
  | _, _, .cons h1 r => .cons h1 (ks_snoc h r)
def KeysAt (K : PySem.W.Frag) (H : Hp) (us : List Value) (ks : List PyData) : Prop := PySem.W.EachIs (fun u k => ∃ y, RelV y u ∧ Dp K H y k) us ks
theorem ks_rest {X : Cx} {pins : List (Addr × Obj)} {σ : L2.St} {H : Hp} {s : Shared} {A : Around} {f : Value} {a kS : Addr} {e1 : Nat} {b : Bool} {vs : List Value} {kz : List PyData} {P : PySem.Fin → Shared → Prop} {E : Value → Shared → Prop}
    (I : Inv X ((kS, PyProof.Rows.seqObj "list" #[] 0) :: (a, PyProof.Rows.seqObj "list" #[] e1) :: pins) σ H s) (Nk : NewA X pins kS) (Na : NewA X pins a) (hka : kS ≠ a)
    (hlen : kz.length = vs.length) (hZ : vs.length ≤ sizeLine) (hal : PySem.W.AllAlike kz) (hsk : PySem.W.Sortable kz) (hu : ∀ d, d ∈ kz → A.units + d.depth < cLine) (turn : KeyTurn X A f vs kz H)
    (h : ∀ s' H' h' tk out c, Inv X pins σ H' s' → Same H H' → H' kS = none → H' a = none → (∀ b o, b ≠ kS → b ≠ a → s'.heap.get? b = some o → h'.get? b = some o) → h'.get? a = some (PyProof.Rows.seqObj "list" (List.toArray out) c) →
      PySem.W.KeyedOut b kz vs out → P (.done (.ret .none)) { s' with heap := h', toks := tk }) :
    wpAny (model X.prog X.w) A (PyProof.Rows.ksk_rest a f b vs.toArray e1 (.ref kS)) P E s := by
  unfold PyProof.Rows.ksk_rest
  apply wpAny_bind
  apply wpAny_rule
  try first
    | rw [List.forIn_toArray]
    | (rw [← Array.forIn_toList]; simp only [List.toList_toArray])
  apply wpAny_bind
  refine PyProof.Rows.ksk_fold (fun i t => ∃ H' ks ep, Inv X ((kS, PyProof.Rows.seqObj "list" ks ep) :: (a, PyProof.Rows.seqObj "list" #[] e1) :: pins) σ H' t ∧ Same H H' ∧ KeysAt X.K H' ks.toList (kz.take i)) vs 0 s
    ⟨H, #[], 0, I, Same.refl _, by rw [List.take_zero]; exact PySem.W.EachIs.nil⟩ (fun j u t hj hJ => ?_) fun t hJ => ?_
  · obtain ⟨H1, ks, ep, I1, S1, R1⟩ := hJ
    rw [Nat.zero_add] at R1 ⊢
    have hj2 : j < kz.length := by
      rw [hlen]
      exact (List.getElem?_eq_some_iff.mp hj).1
    have hk : kz[j]? = some kz[j] := List.getElem?_eq_getElem hj2
    have hn : ks.size ≤ vs.length := by
      have q := R1.length
      rw [Array.length_toList, List.length_take] at q
      omega
    apply wpAny_bind
    apply wpAny_attempt
    refine wpAny_mono (turn j u _ hj hk _ σ H1 t I1 S1) (fun w t2 hw => ?_) fun _ _ hF => hF.elim
    obtain ⟨y, H2, I2, S2, ry, dy⟩ := hw
    have pk := (I2.pin (kS, PyProof.Rows.seqObj "list" ks ep) (List.mem_append_right _ (List.mem_cons_self ..))).1
    have sb := Heap.SameBut.update t2.heap kS (Obj.mapSeq (·.push w))
    obtain ⟨c2, hc2⟩ : ∃ c2, (t2.heap.update kS (Obj.mapSeq (·.push w))).get? kS = some (PyProof.Rows.seqObj "list" (ks.push w) c2) := ⟨_, PyProof.Rows.get?_update_seq pk (·.push w)⟩
    have i3 := pin_set (t := t2.toks) I2 (Nk.cons fun z => hka z.symm) sb hc2 lst_nc
    apply wpAny_bind
    refine PyProof.Rows.listUpdate_at pk rfl ?_ (Nat.le_trans hn hZ) (Nat.le_trans (Nat.le_of_eq (Array.size_push ..)) (Nat.succ_le_succ (Nat.le_trans hn hZ)))
    refine wpAny_pure ⟨rfl, H2, ks.push w, c2, i3, S1.trans S2, ?_⟩
    have et : kz.take (j + 1) = kz.take j ++ [kz[j]] := by rw [List.take_add_one, hk]; rfl
    rw [et, Array.toList_push]
    exact ks_snoc ⟨y, ry, dy⟩ (R1.mono fun u k ⟨y, r, d⟩ => ⟨y, r, dp_same S2 d⟩)
  · obtain ⟨H1, ks, ep, I1, S1, R1⟩ := hJ
    rw [Nat.zero_add, ← hlen, List.take_length] at R1
    have pk := I1.pin (kS, PyProof.Rows.seqObj "list" ks ep) (List.mem_append_right _ (List.mem_cons_self ..))
    have pa := I1.pin (a, PyProof.Rows.seqObj "list" #[] e1) (List.mem_append_right _ (List.mem_cons_of_mem _ (List.mem_cons_self ..)))
    have hsz : ks.size = vs.length := by
      have q := R1.length
      rw [Array.length_toList] at q
      omega
    have er : PySem.W.EachIs (fun v k => ∃ as, Reads t.heap v k as) ks.toList kz := R1.mono fun u k ⟨y, r, d⟩ => Dp.reads I1 _ _ _ d r
    apply wpAny_bind
    refine PyProof.Rows.listItems_at pk.1 rfl ?_
    refine PySem.W.keyH_end (h₁ := t.heap.update kS dead) (κ := PySem.W.dataKind t.heap kz) (s := t) (a := a) (fun b o _ e => ?_) (dead_none pk.1) pk.1 pa.1 hka (PySem.W.SortsAt.data (s := t) er hal hsk hu) hsz hZ fun h3 tk3 c K3 hA => ?_
    · by_cases hb : b = kS
      · rw [hb, dead_none pk.1] at e
        cases e
      · rw [← (Heap.SameBut.update t.heap kS dead).2 b hb]
        exact e
    · refine h t H1 h3 tk3 _ c (pin_rest (pin_rest I1)) S1 pk.2.1 pa.2.1 (fun b o h1 h2 e => K3 b o h2 ?_) hA ⟨t.heap, ks.toList, hal, rfl, er⟩
      rw [(Heap.SameBut.update t.heap kS dead).2 b h1]
      exact e
theorem ks_sorted {X : Cx} {pins : List (Addr × Obj)} {σ : L2.St} {H : Hp} {s : Shared} {f : Value} {l : Addr} {kw : List (Str × Value)} {rev : Bool} {bs : List (V × PyData)} {Q : VK} (I : Inv X pins σ H s)
    (ha1 : argsOk "sorted" ⟨[.ref l], kw⟩) (ha2 : ∀ x, argsOk "list.sort" ⟨[.ref x], kw⟩) (ht : ∀ x, Builtin.«list.sort» ⟨[.ref x], kw⟩ = PyProof.Rows.ksk_tree x f rev)
    (hl : SqL X.K H l (bs.map Prod.fst)) (hal : PySem.W.AllAlike (bs.map Prod.snd)) (hsk : PySem.W.Sortable (bs.map Prod.snd)) (hd : ∀ b ∈ bs, X.A.units + 2 + b.2.depth < cLine)
    (turn : ∀ b ∈ bs, ∀ (u : Value), RelV b.1 u → ∀ (pins : List (Addr × Obj)) (σ : L2.St) (H1 : Hp) (s1 : Shared), Inv X pins σ H1 s1 → Same H H1 →
      wpAny (model X.prog X.w) X.A.in1.in1 (call f [u]) (fun w s2 => ∃ y H2, Inv X pins σ H2 s2 ∧ Same H1 H2 ∧ RelV y w ∧ Dp X.K H2 y b.2) (fun _ _ => False) s1)
    (q : ∀ p H', Same H H' → H' p = none → Q (.ref p) (upd H' p (.lst ((bs.mergeSort (PySem.W.dataLe rev Prod.snd)).map Prod.fst)))) :
    wpAny (model X.prog X.w) X.A (call (.builtin "sorted") [.ref l] kw) (EP X pins σ Q) X.xe s := by
  obtain ⟨its, rv, hi, hz⟩ := I.list hl
  have ea := each_of_vals rv
  have hlen : its.length = bs.length := by rw [← rv.length, List.length_map]
  have hz2 : its.length ≤ sizeLine := by rw [← rv.length]; exact hz
  refine PySem.W.sorted_of_sort hi.isList hz2 ha1 ha2 fun E' => ?_
  rw [ht]
  have nA : H (s.heap.objs.size + 1) = none := I.hok.fresh (Nat.le_succ _)
  have NA : NewA X pins (s.heap.objs.size + 1) := NewA.of I (Nat.le_succ _)
  have I0 : Inv X pins σ H { s with heap := PySem.W.copyHeap s.heap its, toks := s.toks } := I.kept fun _ _ => PySem.W.copyHeap_old
  have ho := PySem.W.copyHeap_at s.heap its
  have I0' := pin_add I0 NA ho nA lst_nc
  revert I0 I0' ho
  generalize PySem.W.copyHeap s.heap its = hc
  generalize hA : s.heap.objs.size + 1 = a at nA NA
  intro I0 ho I0'
  obtain ⟨e1, ho1⟩ : ∃ e1, (hc.update a (Obj.mapSeq fun _ => (#[] : Array Value))).get? a = some (PyProof.Rows.seqObj "list" #[] e1) := ⟨_, PyProof.Rows.get?_update_seq ho fun _ => #[]⟩
  have I1 := pin_set (t := s.toks) I0' NA (Heap.SameBut.update hc a (Obj.mapSeq fun _ => (#[] : Array Value))) ho1 lst_nc
  have I2 : Inv X ((a, PyProof.Rows.seqObj "list" #[] e1) :: pins) σ H { s with heap := (hc.update a (Obj.mapSeq fun _ => (#[] : Array Value))).push (PyProof.Rows.seqObj "tuple" its.toArray 0), toks := s.toks } := I1.kept fun _ _ e => Heap.get?_push_of_some _ e
  have I3 : Inv X ((a, PyProof.Rows.seqObj "list" #[] e1) :: pins) σ H { s with heap := ((hc.update a (Obj.mapSeq fun _ => (#[] : Array Value))).push (PyProof.Rows.seqObj "tuple" its.toArray 0)).push (PyProof.Rows.seqObj "list" #[] 0), toks := s.toks } := I2.kept fun _ _ e => Heap.get?_push_of_some _ e
  have NK := NewA.of I2 (Nat.le_refl _)
  have nK : H ((hc.update a (Obj.mapSeq fun _ => (#[] : Array Value))).push (PyProof.Rows.seqObj "tuple" its.toArray 0)).objs.size = none := I2.hok.fresh (Nat.le_refl _)
  have hk : (((hc.update a (Obj.mapSeq fun _ => (#[] : Array Value))).push (PyProof.Rows.seqObj "tuple" its.toArray 0)).push (PyProof.Rows.seqObj "list" #[] 0)).get? ((hc.update a (Obj.mapSeq fun _ => (#[] : Array Value))).push (PyProof.Rows.seqObj "tuple" its.toArray 0)).objs.size = some (PyProof.Rows.seqObj "list" #[] 0) := Heap.get?_push_size _ rfl
  have I4 := pin_add I3 NK hk nK lst_nc
  have hka : ((hc.update a (Obj.mapSeq fun _ => (#[] : Array Value))).push (PyProof.Rows.seqObj "tuple" its.toArray 0)).objs.size ≠ a := fun z => NK.pin (a, PyProof.Rows.seqObj "list" #[] e1) (List.mem_append_right _ (List.mem_cons_self ..)) z.symm
  have NK2 : NewA X pins ((hc.update a (Obj.mapSeq fun _ => (#[] : Array Value))).push (PyProof.Rows.seqObj "tuple" its.toArray 0)).objs.size := NewA.of (pin_rest I2) (Nat.le_refl _)
  unfold PyProof.Rows.ksk_tree
  apply wpAny_bind
  refine PyProof.Rows.listItems_at ho rfl ?_
  apply wpAny_bind
  refine PyProof.Rows.listUpdate_at ho rfl ?_ (by rw [List.size_toArray]; exact hz2) (Nat.zero_le _)
  apply wpAny_bind
  refine PyProof.Rows.seqEpoch_at ho1 rfl ?_
  apply wpAny_bind
  refine wpAny_newTuple ?_ (by show its.length ≤ _; exact hz2)
  apply wpAny_bind
  refine wpAny_newList ?_ (Nat.zero_le _)
  refine wpAny_holding ?_
  refine ks_rest (kz := bs.map Prod.snd) (vs := its) I4 NK2 NA hka (by rw [List.length_map, hlen]) hz2 hal hsk (fun d hd' => ?_) (fun i u k hu hk pins σ H1 s1 J S => ?_) fun s' H' h' tk out c J S n1 n2 kp hA' ko => ?_
  · obtain ⟨b, hb, rfl⟩ := List.mem_map.mp hd'
    exact hd b hb
  · rw [List.getElem?_map] at hk
    cases hb : bs[i]? with
    | none =>
      rw [hb] at hk
      cases hk
    | some b =>
      rw [hb] at hk
      cases hk
      refine turn b (List.mem_of_getElem? hb) u ?_ pins σ H1 s1 J S
      have hz' : (u, b) ∈ its.zip bs := List.mem_of_getElem? (i := i) (by rw [List.getElem?_zip_eq_some]; exact ⟨hu, hb⟩)
      exact ea.zip _ hz'
  · have eo := PySem.W.keyedOut_each (R := fun v b => RelV b.1 v) Prod.snd ko ea
    have ro := vals_of_each eo
    refine ⟨rfl, .ref a, upd H' a (.lst ((bs.mergeSort (PySem.W.dataLe rev Prod.snd)).map Prod.fst)), ks_done J NK2 NA n2 kp hA' n1 ro (by rw [ro.length, ko.length (by rw [List.length_map, hlen])]; exact hz2), rfl, q a H' S n2⟩
/-- a def as the key -/
theorem ks_turn {X : Cx} {CX : CXT} {k : Nat} {f : Addr} {fd : FuncData} {p : Str} {sp : Sp} {E : XK} {H : Hp} {b : V × PyData} (F : FnOk X.prog X.w X.K X.mg X.base CX k f fd [p] sp) (hr : Room k X.A.in1.in1) (hb : Binds X.K fd [p] [])
    (hx : ∀ H1 s1 e s2, CX X.stack H1 s1 E e s2 → False) (h : ∀ H1, Same H H1 → sp [b.1] H1 (fun y H2 => Same H1 H2 ∧ Dp X.K H2 y b.2) E) :
    ∀ (u : Value), RelV b.1 u → ∀ (pins : List (Addr × Obj)) (σ : L2.St) (H1 : Hp) (s1 : Shared), Inv X pins σ H1 s1 → Same H H1 →
      wpAny (model X.prog X.w) X.A.in1.in1 (call (.ref f) [u]) (fun w s2 => ∃ y H2, Inv X pins σ H2 s2 ∧ Same H1 H2 ∧ RelV y w ∧ Dp X.K H2 y b.2) (fun _ _ => False) s1 := by
  intro u ru pins σ H1 s1 I S
  refine wpAny_call (codeAny_mono (F.run X.A.in1.in1 X.stack s1 H1 ⟨[u], []⟩ [u] [b.1] _ E hr I.env0.in1.in1 (hb s1 [u] I.kIn rfl) (.cons ru .nil) (h H1 S)) fun r s' hq => ?_)
  cases r with
  | error e => exact hx _ _ _ _ hq
  | ok fl =>
    cases fl with
    | ret w =>
      obtain ⟨y, H2, I2, ry, S2, d⟩ := I.after hq
      exact ⟨y, H2, I2, S2, ry, d⟩
    | next => exact False.elim hq
    | brk => exact False.elim hq
    | cont => exact False.elim hq
def rSortedKf (K : PySem.W.Frag) (f : Addr) (sp : Sp) (E : XK) : List V → List V → Hp → VK → Prop := fun vs zs H Q => ∃ (a : Addr) (bs : List (V × PyData)), vs = [V.ref a] ∧ zs = [V.ref f] ∧ SqL K H a (bs.map Prod.fst) ∧ PySem.W.AllAlike (bs.map Prod.snd) ∧ PySem.W.Sortable (bs.map Prod.snd) ∧
  (∀ b ∈ bs, b.2.depth ≤ 50) ∧ (∀ b ∈ bs, ∀ H1, Same H H1 → sp [b.1] H1 (fun y H2 => Same H1 H2 ∧ Dp K H2 y b.2) E) ∧ ∀ p H', Same H H' → H' p = none → Q (.ref p) (upd H' p (.lst ((bs.mergeSort (PySem.W.dataLe false Prod.snd)).map Prod.fst)))
theorem cr_sortedKf {X : Cx} {CX : CXT} {k : Nat} {f : Addr} {fd : FuncData} {p : Str} {sp : Sp} {E : XK} (F : FnOk X.prog X.w X.K X.mg X.base CX k f fd [p] sp) (hr : Room (k + 2) X.A) (hb : Binds X.K fd [p] []) (hx : ∀ H1 s1 e s2, CX X.stack H1 s1 E e s2 → False) :
    CallRK X (.builtin "sorted") [Str.ofString "key"] (rSortedKf X.K f sp E) := by
  intro pins s σ H xs zs us ws Q I rx rz h
  obtain ⟨a, bs, rfl, rfl, hl, hal, hsk, hd, hf, q⟩ := h
  rw [Vals.ref1 rx, Vals.ref1 rz]
  have hu := hr.un
  exact ks_sorted (f := .ref f) (rev := false) I (PyProof.Rows.ksk_s1 _ _) (fun _ => PyProof.Rows.ksk_l1 _ _) (fun _ => PyProof.Rows.ksk_t1 _ _) hl hal hsk (fun b hb => by have := hd b hb; omega)
    (fun b hbm => ks_turn F hr.in1.in1 hb hx (hf b hbm)) q
/-! ### a lambda as the key of a sort -/
structure LamF (N ps : List Str) (scope : Scope) (params : Arguments) : Prop where
  sc : FnScope N ps scope
  clo : ∀ cells, cloFrom cells scope.names [] = []
  bind : ∀ (qual : Str) (body : Expr) (pm cv ctv : Value) (us : List Value), us.length = ps.length → bindArgs (PySem.W.kla_fn "<lambda>" qual params body scope [] pm cv ctv) ⟨us, []⟩ = pure (ps.zip us)
theorem run_lam {P : Program} {w : World} {K : PySem.W.Frag} {mg : Str → Option Value} {base : Heap} {k : Nat} {f c' : Addr} {qual : Str} {params : Arguments} {body : Expr} {scope : Scope} {pm ctv : Value}
    {N ps : List Str} (S : LamF N ps scope params) {A : Around} {outer : List Env} {s : Shared} {H : Hp} {us : List Value} {vs : List V} {Q : VK} {E : XK} {tb : TE} (hr : Room (k + 1) A) (e0 : Env0 P w K mg base A outer s H)
    (of1 : s.heap.get? f = some (PySem.W.kla_obj "<lambda>" qual params body scope [] pm c' ctv)) (hc : ∃ (oc : Obj) (us : Array Value) (t : Tok), s.heap.get? c' = some oc ∧ oc.data = .fields us ∧ us[1]? = some (.str qual t))
    (r : Vals vs us) (hl : vs.length = ps.length)
    (hbody : Room k (A.deeper (envOfC qual scope s.heap.objs.size f (.ref c'))) → PE (cxOf CX0 P w K mg base N qual scope f (.ref c') A outer s H E) body tb) (h : tb (L2.start N vs) H Q) :
    codeAny (model P w) A (.call (.ref f) ⟨us, []⟩) (CR CX0 outer P w H s Q E) s := by
  have lim : s.heap.NoLimit := e0.mod.nolimit.keeps fun b o e => (e0.bs b o e).1
  obtain ⟨oc, ws, t, hoc, hdc, hvc⟩ := hc
  have hul : us.length = ps.length := by rw [← r.length]; exact hl
  have hkind : ∀ y ∈ ps.zip us, scope.names.lookup y.1 = some .local ∨ (scope.names.lookup y.1 = some .cell ∧ ((cellsFrom (s.heap.objs.size + 1) scope.names []).lookup y.1).isSome = true) := fun ⟨n, v⟩ hy => by
    rcases S.sc.par n (List.of_mem_zip hy).1 with q | q
    · exact .inl q
    · exact .inr ⟨q, PySem.W.cellsFrom_some _ _ _ (.inl q)⟩
  refine PySem.W.kla_callFunE hr.depth of1 rfl S.sc.co S.sc.gen rfl ⟨c', oc, ws, t, rfl, hoc, hdc, hvc⟩ ?_
  rw [S.bind qual body pm (.ref c') ctv us hul]
  refine wpAny_pure (wpAny_newFunctionEnv_cells S.sc.kind hkind fun env he s1 x => ?_)
  subst he
  refine ⟨lim.keeps x.toInCall.keep, ?_⟩
  show codeAny _ _ (.expr body (envOfC qual scope s.heap.objs.size f (.ref c'))) _ _
  have I : Inv (cxOf CX0 P w K mg base N qual scope f (.ref c') A outer s H E) [] (L2.start N vs) H s1 := inv_start S.sc hr.hd e0 hl r x
  refine PySem.W.kla_codeExpr (wpAny_mono ((hbody (hr.deeper _)).run [] s1 _ H Q I h) (fun v s' hq => ?_) fun e s' hq => hq)
  obtain ⟨y, H', J, rv, q⟩ := hq
  exact ⟨y, H', J.os, J.bare, J.base, J.hok, rv, q⟩
theorem extN_same {H H1 H2 : Hp} (a : LamX.ExtN H H1) (b : Same H1 H2) : LamX.ExtN H H2 := fun x o h n => b x o (a x o h n)
def tSortLam (K : PySem.W.Frag) (T : List (Addr × Str)) (rev : Bool) (N : List Str) (tb : TE) (te : TE) : TE := fun σ H Q => te σ H fun x H1 => ∃ (a : Addr) (bs : List (V × PyData)), x = .ref a ∧ LamX.Tabs T H1 ∧ ∀ H2, LamX.ExtN H1 H2 → LamX.Tabs T H2 →
  SqL K H2 a (bs.map Prod.fst) ∧ PySem.W.AllAlike (bs.map Prod.snd) ∧ PySem.W.Sortable (bs.map Prod.snd) ∧ (∀ b ∈ bs, b.2.depth ≤ 50) ∧ (∀ b ∈ bs, ∀ H3, Same H2 H3 → tb (L2.start N [b.1]) H3 (fun y H4 => Same H3 H4 ∧ Dp K H4 y b.2)) ∧
  ∀ p H', Same H2 H' → H' p = none → Q (.ref p) (upd H' p (.lst ((bs.mergeSort (PySem.W.dataLe rev Prod.snd)).map Prod.fst)))
theorem pe_sortLam {X : Cx} {T : List (Addr × Str)} {c P : Addr} {p : Str} {N : List Str} {x : Str} {k : Nat} {e : Expr} {te tb : TE} {params : Arguments} {body : Expr} {scope : Scope} {lpos p0 kp1 kp2 pos : Pos} {e2 : Expr} {rev : Bool}
    (ha : PA X [e] (tCons te tNil)) (he2 : PE X e2 (tC (.bl rev))) (hg : Gl X x) (hm : X.mg x = none) (hv : bootBuiltins x = some (.builtin "sorted")) (TB : LamX.TabB X.base X.mg c P) (hcode : X.env.code = .ref c) (hmT : (P, X.env.qual ++ "<lambda>") ∈ T) (hu : ∀ q ∈ T, q.1 = P → q.2 = X.env.qual ++ "<lambda>")
    (hst : X.stack = X.env :: X.outer) (hfr : X.env.frame = some X.env.locals) (hr : Room (k + 3) X.A) (S : LamF N [p] scope params) (hdef : defaultsOf params X.env = ([], []))
    (hbody : ∀ (A : Around) (outer : List Env) (s : Shared) (H : Hp) (f c' : Addr), Room k (A.deeper (envOfC (X.env.qual ++ "<lambda>") scope s.heap.objs.size f (.ref c'))) → PE (cxOf CX0 X.prog X.w X.K X.mg X.base N (X.env.qual ++ "<lambda>") scope f (.ref c') A outer s H E0) body tb)
    (hn : x ≠ "__name__" := by decide) (hdb : (x == ("__debug__" : Str)) = false := by decide)
    (hpl1 : backTo pos (starEach [e] X.env) = (false, eval e X.env) :: backTo pos (starEach [] X.env) := by rfl) (hpl : (backTo pos (starEach [e] X.env)).any (·.1) = false := by rfl)
    (hall : (backToKw pos (keywordEach [⟨some "key", .Lambda params body scope lpos, kp1⟩, ⟨some "reverse", e2, kp2⟩] X.env)).all (·.1.isSome) = true := by rfl)
    (hnone : (backToKw pos (keywordEach [⟨some "key", .Lambda params body scope lpos, kp1⟩, ⟨some "reverse", e2, kp2⟩] X.env)).any (·.1.isNone) = false := by rfl)
    (hks : (backToKw pos (keywordEach [⟨some "key", .Lambda params body scope lpos, kp1⟩, ⟨some "reverse", e2, kp2⟩] X.env)).filterMap (·.1) = [Str.ofString "key", Str.ofString "reverse"] := by rfl) :
    PE X (.Call (.Name x p0) [e] [⟨some "key", .Lambda params body scope lpos, kp1⟩, ⟨some "reverse", e2, kp2⟩] pos) (tSortLam X.K T rev N tb te) := by
  refine ⟨fun pins s σ H Q I h => ?_⟩
  refine wpAny_Call_Name_kw (ld_blt I hg hm hv ?_ hn hdb)
  refine PyProof.Rows.callWith_kw (thn (ha.run pos pins s σ H (fun vs H1 => match vs with
    | [x] => ∃ (a : Addr) (bs : List (V × PyData)), x = .ref a ∧ LamX.Tabs T H1 ∧ ∀ H2, LamX.ExtN H1 H2 → LamX.Tabs T H2 →
        SqL X.K H2 a (bs.map Prod.fst) ∧ PySem.W.AllAlike (bs.map Prod.snd) ∧ PySem.W.Sortable (bs.map Prod.snd) ∧ (∀ b ∈ bs, b.2.depth ≤ 50) ∧ (∀ b ∈ bs, ∀ H3, Same H2 H3 → tb (L2.start N [b.1]) H3 (fun y H4 => Same H3 H4 ∧ Dp X.K H4 y b.2)) ∧
        ∀ p H', Same H2 H' → H' p = none → Q (.ref p) (upd H' p (.lst ((bs.mergeSort (PySem.W.dataLe rev Prod.snd)).map Prod.fst)))
    | _ => False) I h) fun us s1 hus => ?_) hpl1 hpl hall hnone
  obtain ⟨vs, H1, I1, r1, q1⟩ := hus
  rcases vs with _ | ⟨x, _ | ⟨_, _⟩⟩
  · exact q1.elim
  rotate_left
  · exact q1.elim
  obtain ⟨a, bs, rfl, hT, q⟩ := q1
  rw [Vals.ref1 r1]
  refine wpAny_evalAll_cons (wpAny_bind (LamX.lam_make2 I1 TB hcode hmT hu hT hdef (fun y hy e => absurd e (S.sc.nofree y hy)) fun f c' pm ctv H2 s2 I2 x2 T2 of2 nf nfr hc' => wpAny_bind (wpAny_standAt (wpAny_pure ?_))))
  rw [S.clo] at of2
  obtain ⟨hl, hal, hsk, hd, hf, hq⟩ := q H2 x2 T2
  have nL : f ≠ X.env.locals := fun z => nfr (by
    rw [hst]
    exact List.mem_filterMap.mpr ⟨X.env, List.mem_cons_self, by rw [hfr, z]⟩)
  have nF : f ∉ X.fs := fun hm => by
    obtain ⟨e, he, q⟩ := List.mem_filterMap.mp hm
    refine nfr ?_
    rw [hst]
    exact List.mem_filterMap.mpr ⟨e, List.mem_cons_of_mem _ he, q⟩
  have I3 : Inv X ((f, PySem.W.kla_obj "<lambda>" (X.env.qual ++ "<lambda>") params body scope [] pm c' ctv) :: pins) σ H2 s2 := I2.pins_of fun p hp => by
    rcases List.mem_cons.mp hp with z | z
    · rw [z]
      exact ⟨of2, nf, nL, nF, fun v z => by cases z⟩
    · exact I2.pin p (List.mem_append_right _ z)
  refine wpAny_evalAll_cons (wpAny_bind (thn (he2.run _ s2 σ H2 (fun v H3 => v = .bl rev ∧ H3 = H2) I3 ⟨rfl, rfl⟩) fun u s3 ⟨v, H3, I4, r4, ev, eH⟩ => wpAny_bind (wpAny_standAt (wpAny_pure ?_))))
  subst ev
  rw [eH] at I4
  obtain rfl : u = Value.bool rev := r4
  refine wpAny_evalAll_nil ?_
  rw [hks]
  have I5 := I4.toTry X.xe
  have hd2 := hr.un
  have fin := ks_sorted (f := .ref f) (rev := rev) (kw := [(Str.ofString "key", .ref f), (Str.ofString "reverse", .bool rev)]) (Q := Q) I5 (PyProof.Rows.ksk_s2 _ _ _) (fun _ => PyProof.Rows.ksk_l2 _ _ _) (fun _ => PyProof.Rows.ksk_t2 _ _ _) hl hal hsk (fun b hb => by
      have := hd b hb
      show X.A.units + 2 + b.2.depth < cLine
      omega) (fun b hb u ru pins2 σ2 H4 s4 J S4 => ?_) hq
  · refine wpAny_mono fin (fun u s' hu => ?_) (fun _ _ z => z)
    obtain ⟨y, H', J, ry, qy⟩ := hu
    exact ⟨y, H', pin_rest (J.ofTry I4.ok), ry, qy⟩
  · have of4 := (J.pin (f, PySem.W.kla_obj "<lambda>" (X.env.qual ++ "<lambda>") params body scope [] pm c' ctv) (List.mem_append_left _ (List.mem_append_right _ (List.mem_cons_self ..)))).1
    obtain ⟨oc, us2, t2, k1, k2, k3⟩ := (J.hok c' _ (S4 _ _ hc')).1
    refine wpAny_call (codeAny_mono (run_lam (qual := X.env.qual ++ "<lambda>") (E := E0) S (k := k) (hr.in1.in1) (J.env0.in1.in1) of4 ⟨oc, us2, t2, k1, k2, k3⟩ (.cons ru .nil) rfl (fun rm => hbody _ _ _ _ f c' rm) (hf b hb H4 S4)) fun r s' hq => ?_)
    cases r with
    | error e => exact hq.elim
    | ok fl =>
      cases fl with
      | ret w =>
        obtain ⟨y, H2, I2, ry, S2, d⟩ := J.after hq
        exact ⟨y, H2, I2, S2, ry, d⟩
      | next => exact False.elim hq
      | brk => exact False.elim hq
      | cont => exact False.elim hq
/-- c, the code object of the def at f, and its table tp -/
def TabF (K : PySem.W.Frag) (base : Heap) (mg : Str → Option Value) (f c tp : Addr) : Prop := (∃ (o : Obj) (fd : FuncData), K.lookup f = some o ∧ o.data = .func fd ∧ fd.code = .ref c) ∧ K.lookup tp = none ∧ LamX.TabB base mg c tp
theorem okC {x qual : Str} {st : Stmt} {f : Addr} {fd : FuncData} {N ps : List Str} {k : Nat} {sp : Sp} {c : Addr} (F : Fun K x qual st f fd) (hc : ∃ (o : Obj) (fd : FuncData), K.lookup f = some o ∧ o.data = .func fd ∧ fd.code = .ref c) (S : FnScope N ps (defScope st)) (len : ∀ vs H Q E, sp vs H Q E → vs.length = ps.length)
    (go : ∀ (A : Around) (outer : List Env) (s : Shared) (H : Hp) (vs : List V) (Q : VK) (E : XK), Room k (A.deeper (envOfC qual (defScope st) s.heap.objs.size f (.ref c))) → sp vs H Q E →
      ∃ t, PSs (cxOf CX0 P w K mg base N qual (defScope st) f (.ref c) A outer s H E).nox (defBody st) t ∧ t { nx := fun _ G => Q .non G, rt := Q } (L2.start N vs) H) : FnOk P w K mg base CX0 (k + 1) f fd ps sp := by
  obtain ⟨oc, od, kV, doc, pm, an, cdv, ct, osl, rfl, look, code⟩ := F.ex
  obtain ⟨o, fd, e1, e2, e3⟩ := hc
  rw [look] at e1
  have e4 := Option.some.inj e1
  rw [← e4] at e2
  have e5 : PySem.W.fnOf x qual (defArgs st) (defBody st) (defScope st) .none kV doc pm an cdv ct = fd := Data.func.inj e2
  have e6 : cdv = .ref c := by
    rw [← e5] at e3
    exact e3
  rw [e6] at look code ⊢
  refine fn_of look code S len fun A outer s H vs Q E room h => ?_
  obtain ⟨t, h1, h2⟩ := go A outer s H vs Q E room h
  exact ⟨t, h1.nox, h2⟩
def qLam : Str := (("in_force" : Str) ++ (".<locals>." : Str)) ++ ("<lambda>" : Str)
/-! ### rows of objects that stand for data -/
structure RepG {β : Type} (At : V → β → Prop) (rs : List V) (D : List β) : Prop where
  len : rs.length = D.length
  at_ : ∀ (i : Nat) (x : V) (e : β), rs[i]? = some x → D[i]? = some e → At x e
theorem RepG.nil {β : Type} {At : V → β → Prop} : RepG At [] [] := ⟨rfl, fun i x e h => by simp at h⟩
theorem RepG.imp {β : Type} {At At' : V → β → Prop} {rs : List V} {D : List β} (h : RepG At rs D) (f : ∀ x e, At x e → At' x e) : RepG At' rs D := ⟨h.len, fun i x e h1 h2 => f x e (h.at_ i x e h1 h2)⟩
theorem RepG.snoc {β : Type} {At : V → β → Prop} {rs : List V} {D : List β} {x : V} {e : β} (h : RepG At rs D) (E : At x e) : RepG At (rs ++ [x]) (D ++ [e]) := by
  refine ⟨by rw [List.length_append, List.length_append, h.len]; rfl, fun i y f h1 h2 => ?_⟩
  rcases Nat.lt_or_ge i rs.length with z | z
  · rw [List.getElem?_append_left z] at h1
    rw [List.getElem?_append_left (by rw [← h.len]; exact z)] at h2
    exact h.at_ i y f h1 h2
  · rw [List.getElem?_append_right z] at h1
    rw [List.getElem?_append_right (by rw [← h.len]; exact z), ← h.len] at h2
    generalize i - rs.length = j at h1 h2
    rcases j with _ | j
    · simp at h1 h2
      rw [← h1, ← h2]
      exact E
    · simp at h1
theorem RepG.get {β : Type} {At : V → β → Prop} {rs : List V} {D : List β} (h : RepG At rs D) {i : Nat} {x : V} (hx : rs[i]? = some x) : ∃ e, D[i]? = some e ∧ At x e := by
  have hi := (List.getElem?_eq_some_iff.mp hx).1
  have hi2 : i < D.length := by rw [← h.len]; exact hi
  have hd : D[i]? = some D[i] := List.getElem?_eq_getElem hi2
  exact ⟨_, hd, h.at_ i x _ hx hd⟩
theorem RepG.fst {β : Type} {At : V → β → Prop} {rs : List V} {D : List β} (h : RepG At rs D) : (rs.zip D).map Prod.fst = rs := List.map_fst_zip (Nat.le_of_eq h.len)
theorem RepG.snd {β : Type} {At : V → β → Prop} {rs : List V} {D : List β} (h : RepG At rs D) : (rs.zip D).map Prod.snd = D := List.map_snd_zip (Nat.le_of_eq h.len.symm)
theorem RepG.mem {β : Type} {At : V → β → Prop} {rs : List V} {D : List β} (h : RepG At rs D) : ∀ z ∈ rs.zip D, At z.1 z.2 := fun z hz => by
  obtain ⟨i, hi⟩ := List.mem_iff_getElem?.mp hz
  obtain ⟨h1, h2⟩ := List.getElem?_zip_eq_some.mp hi
  exact h.at_ i _ _ h1 h2
theorem RepG.of_zs {β : Type} {At : V → β → Prop} {zs : List (V × β)} (h : ∀ z ∈ zs, At z.1 z.2) : RepG At (zs.map Prod.fst) (zs.map Prod.snd) := by
  refine ⟨by rw [List.length_map, List.length_map], fun i x e h1 h2 => ?_⟩
  rw [List.getElem?_map] at h1 h2
  cases hz : zs[i]? with
  | none =>
    rw [hz] at h1
    cases h1
  | some z =>
    rw [hz] at h1 h2
    cases h1
    cases h2
    exact h z (List.mem_of_getElem? hz)
theorem RepG.dps {β : Type} {K : PySem.W.Frag} {H : Hp} {At : V → β → Prop} {k : β → PyData} (h2 : ∀ x e, At x e → Dp K H x (k e)) : ∀ {zs : List (V × β)}, (∀ z ∈ zs, At z.1 z.2) → DpAll K H (zs.map Prod.fst) ((zs.map Prod.snd).map k)
  | [], _ => .nil
  | z :: zs, h => .cons (h2 _ _ (h z (List.mem_cons_self ..))) (RepG.dps h2 fun y hy => h y (List.mem_cons_of_mem _ hy))
theorem units2 {k : Nat} {A : Around} (r : Room k A) : A.units + 1 < cLine := by
  have := units65 r
  omega
theorem units65b {k : Nat} {A : Around} (r : Room k A) : A.units + 64 < cLine := by
  have := r.un
  omega
/-! ### edits: who, the number, and what an undo undoes -/
structure U where
  p : Int
  n : Int
  t : Option Int
  m : Int
  v : List Int
def U.id (u : U) : Int × Int := (u.p, u.n)
def ActAt (H : Hp) (c : Addr) (u : U) : Prop := match u.t with
  | some t => H c = some (.tup [.str "undo", .int t])
  | none => ∃ z, H c = some (.tup [.str "delete", .str "row", .ref z]) ∧ H z = some (.tup [.int 0, .int u.m])
def UAt (H : Hp) (x : V) (u : U) : Prop := ∃ (q a b c : Addr), x = .ref q ∧ H q = some (.tup [.ref a, .ref b, .ref c]) ∧ H a = some (.tup [.int u.p, .int u.n]) ∧ H b = some (.tup (u.v.map V.int)) ∧ ActAt H c u
def IdAt (H : Hp) (x : V) (i : Int × Int) : Prop := ∃ a, x = .ref a ∧ H a = some (.tup [.int i.1, .int i.2])
def TS (H H' : Hp) : Prop := ∀ p us, H p = some (.tup us) → H' p = some (.tup us)
theorem TS.refl {H : Hp} : TS H H := fun _ _ h => h
theorem TS.trans {H H1 H2 : Hp} (a : TS H H1) (b : TS H1 H2) : TS H H2 := fun p us h => b p us (a p us h)
theorem TS.of {H H' : Hp} (s : Same H H') : TS H H' := fun p us h => s _ _ h
theorem TS.ext {H H' : Hp} (s : LamX.ExtN H H') : TS H H' := fun p us h => s _ _ h fun ps z => by cases z
theorem TS.lst {H : Hp} {L : Addr} {xs : List V} {o : HO} (h : H L = some (.lst xs)) : TS H (upd H L o) := fun p us e => by
  rw [upd_ne]
  · exact e
  · intro z
    rw [z, h] at e
    cases e
theorem TS.dT {H : Hp} {L : Addr} {xs : List (List Key × V)} {o : HO} (h : H L = some (.dT xs)) : TS H (upd H L o) := fun p us e => by
  rw [upd_ne]
  · exact e
  · intro z
    rw [z, h] at e
    cases e
theorem ActAt.ts {H H' : Hp} {c : Addr} {u : U} (t : TS H H') (h : ActAt H c u) : ActAt H' c u := by
  unfold ActAt at h ⊢
  split at h
  · exact t _ _ h
  · obtain ⟨z, h1, h2⟩ := h
    exact ⟨z, t _ _ h1, t _ _ h2⟩
theorem UAt.ts {H H' : Hp} {x : V} {u : U} (t : TS H H') (h : UAt H x u) : UAt H' x u := by
  obtain ⟨q, a, b, c, e, h1, h2, h3, h4⟩ := h
  exact ⟨q, a, b, c, e, t _ _ h1, t _ _ h2, t _ _ h3, h4.ts t⟩
theorem IdAt.ts {H H' : Hp} {x : V} {i : Int × Int} (t : TS H H') (h : IdAt H x i) : IdAt H' x i := by
  obtain ⟨a, e, h1⟩ := h
  exact ⟨a, e, t _ _ h1⟩
theorem IdAt.dp {K : PySem.W.Frag} {H : Hp} {x : V} {i : Int × Int} (h : IdAt H x i) : Dp K H x (idD i) := by
  obtain ⟨a, rfl, h1⟩ := h
  exact dp_id h1
/-! ### the order of ids -/
def ltI (a b : Int × Int) : Prop := a.1 < b.1 ∨ (a.1 = b.1 ∧ a.2 < b.2)
theorem ltI_idD (z w : Int × Int) : PySem.W.dataLt (idD z) (idD w) = true ↔ ltI z w := by
  unfold idD
  rw [PySem.W.dataLt_ii]
  exact decide_eq_true_iff
theorem alikeI (z w : Int × Int) : PySem.W.alike (idD z) (idD w) = true := by simp [idD, PySem.W.alike, PySem.W.alikeAll]
def gI {β : Type} (k : β → Int × Int) (z : V × β) : V × PyData := (z.1, idD (k z.2))
theorem sortI {β : Type} (rev : Bool) (k : β → Int × Int) (zs : List (V × β)) : ∃ Zs : List (V × β), ((zs.map (gI k)).mergeSort (PySem.W.dataLe rev Prod.snd)).map Prod.fst = Zs.map Prod.fst ∧ Zs.Perm zs ∧ Zs.Pairwise fun a b => if rev then ¬ ltI (k a.2) (k b.2) else ¬ ltI (k b.2) (k a.2) := by
  refine ⟨zs.mergeSort fun a b => PySem.W.dataLe rev id (idD (k a.2)) (idD (k b.2)), ?_, List.mergeSort_perm _ _, ?_⟩
  · rw [← List.map_mergeSort (f := gI k) (r := fun a b => PySem.W.dataLe rev id (idD (k a.2)) (idD (k b.2))) (s := PySem.W.dataLe rev Prod.snd) fun _ _ _ _ => rfl, List.map_map]
    rfl
  · have t : PySem.W.TotalLe (PySem.W.dataLe rev id) := PySem.W.sortLe_total _ rev _
    refine (List.pairwise_mergeSort (le := fun a b : V × β => PySem.W.dataLe rev id (idD (k a.2)) (idD (k b.2))) (fun a b c h1 h2 => t.trans _ _ _ h1 h2) (fun a b => by
      rw [Bool.or_eq_true]
      exact t.total _ _) zs).imp fun {a b} h => ?_
    cases rev with
    | false =>
      have h : (!PySem.W.dataLt (idD (k b.2)) (idD (k a.2))) = true := h
      intro z
      rw [(ltI_idD _ _).mpr z] at h
      cases h
    | true =>
      have h : (!PySem.W.dataLt (idD (k a.2)) (idD (k b.2))) = true := h
      intro z
      rw [(ltI_idD _ _).mpr z] at h
      cases h
/-! ### what is in force -/
def Undoes (u : U) (i : Int × Int) : Prop := u.p = i.1 ∧ u.t = some i.2 ∧ i.2 < u.n
def Force (D : List U) (S : List (Int × Int)) : Prop := ∀ i, i ∈ S ↔ (i ∈ D.map U.id ∧ ¬ ∃ u ∈ D, u.id ∈ S ∧ Undoes u i)
/-- met so far: the found ones, and the undone ones -/
structure Part (D : List U) (S : List (Int × Int)) (und : Int × Int → Prop) : Prop where
  mem : ∀ i, i ∈ S ↔ (i ∈ D.map U.id ∧ ¬ ∃ u ∈ D, u.id ∈ S ∧ Undoes u i)
  und : ∀ i, und i ↔ ∃ u ∈ D, u.id ∈ S ∧ Undoes u i
theorem Part.nil : Part [] [] (fun _ => False) := ⟨fun i => ⟨fun h => (nomatch h), fun h => (nomatch h.1)⟩, fun i => ⟨fun h => h.elim, fun ⟨_, h, _⟩ => (nomatch h)⟩⟩
theorem Undoes.lt {u : U} {i : Int × Int} (h : Undoes u i) : ltI i u.id := .inr ⟨h.1.symm, h.2.2⟩
theorem ltI_irr {i : Int × Int} (h : ltI i i) : False := by
  unfold ltI at h
  omega
theorem ltI_asym {i j : Int × Int} (h : ltI i j) (h2 : ltI j i) : False := by
  unfold ltI at h h2
  omega
/-- one more, smaller than all before -/
theorem Part.skip {D : List U} {S : List (Int × Int)} {und : Int × Int → Prop} {w : U} (P : Part D S und) (lt : ∀ u ∈ D, ltI w.id u.id) (h : und w.id) : Part (D ++ [w]) S und := by
  have nw : w.id ∉ S := fun z => by
    obtain ⟨u, hu, e⟩ := List.mem_map.mp ((P.mem _).mp z).1
    exact ltI_irr (e ▸ lt u hu)
  have ex : ∀ i, (∃ u ∈ D ++ [w], u.id ∈ S ∧ Undoes u i) ↔ ∃ u ∈ D, u.id ∈ S ∧ Undoes u i := fun i => by
    constructor
    · rintro ⟨u, hu, h1, h2⟩
      rcases List.mem_append.mp hu with z | z
      · exact ⟨u, z, h1, h2⟩
      · rw [List.mem_singleton.mp z] at h1
        exact absurd h1 nw
    · rintro ⟨u, hu, h1⟩
      exact ⟨u, List.mem_append_left _ hu, h1⟩
  refine ⟨fun i => ?_, fun i => by rw [ex]; exact P.und i⟩
  rw [ex, P.mem i, List.map_append, List.mem_append]
  constructor
  · rintro ⟨h1, h2⟩
    exact ⟨.inl h1, h2⟩
  · rintro ⟨h1 | h1, h2⟩
    · exact ⟨h1, h2⟩
    · rw [List.mem_singleton.mp h1] at h2
      exact absurd ((P.und _).mp h) h2
theorem Part.take {D : List U} {S : List (Int × Int)} {und : Int × Int → Prop} {w : U} (P : Part D S und) (lt : ∀ u ∈ D, ltI w.id u.id) (h : ¬ und w.id) : Part (D ++ [w]) (S ++ [w.id]) (fun i => und i ∨ Undoes w i) := by
  have ex : ∀ i, (∃ u ∈ D ++ [w], u.id ∈ S ++ [w.id] ∧ Undoes u i) ↔ (∃ u ∈ D, u.id ∈ S ∧ Undoes u i) ∨ Undoes w i := fun i => by
    constructor
    · rintro ⟨u, hu, h1, h2⟩
      rcases List.mem_append.mp hu with z | z
      · rcases List.mem_append.mp h1 with z1 | z1
        · exact .inl ⟨u, z, z1, h2⟩
        · have := lt u z
          rw [List.mem_singleton.mp z1] at this
          exact (ltI_irr this).elim
      · rw [List.mem_singleton.mp z] at h2
        exact .inr h2
    · rintro (⟨u, hu, h1, h2⟩ | h2)
      · exact ⟨u, List.mem_append_left _ hu, List.mem_append_left _ h1, h2⟩
      · exact ⟨w, by simp, by simp, h2⟩
  refine ⟨fun i => ?_, fun i => by rw [ex, P.und i]⟩
  rw [ex, List.mem_append, P.mem i, List.map_append, List.mem_append]
  constructor
  · rintro (⟨h1, h2⟩ | h1)
    · refine ⟨.inl h1, fun z => z.elim h2 fun z => ?_⟩
      obtain ⟨u, hu, e⟩ := List.mem_map.mp h1
      have := lt u hu
      rw [e] at this
      exact ltI_asym this z.lt
    · have h1 : i = w.id := List.mem_singleton.mp h1
      refine ⟨.inr (by rw [h1]; exact List.mem_singleton.mpr rfl), fun z => z.elim (fun z => ?_) fun z => ?_⟩
      · rw [h1] at z
        exact h ((P.und _).mpr z)
      · rw [h1] at z
        exact ltI_irr z.lt
  · rintro ⟨h1 | h1, h2⟩
    · exact .inl ⟨h1, fun z => h2 (.inl z)⟩
    · exact .inr h1
theorem Part.force {D D' : List U} {S : List (Int × Int)} {S' : List (Int × Int)} {und : Int × Int → Prop} (P : Part D S und) (e : ∀ u, u ∈ D' ↔ u ∈ D) (e2 : ∀ i, i ∈ S' ↔ i ∈ S) : Force D' S' := fun i => by
  rw [e2, P.mem i]
  constructor
  · rintro ⟨h1, h2⟩
    refine ⟨?_, fun ⟨u, hu, h3, h4⟩ => h2 ⟨u, (e u).mp hu, (e2 _).mp h3, h4⟩⟩
    obtain ⟨u, hu, rfl⟩ := List.mem_map.mp h1
    exact List.mem_map.mpr ⟨u, (e u).mpr hu, rfl⟩
  · rintro ⟨h1, h2⟩
    refine ⟨?_, fun ⟨u, hu, h3, h4⟩ => h2 ⟨u, (e u).mpr hu, (e2 _).mpr h3, h4⟩⟩
    obtain ⟨u, hu, rfl⟩ := List.mem_map.mp h1
    exact List.mem_map.mpr ⟨u, (e u).mp hu, rfl⟩
/-- there is but one -/
theorem Force.one {D D' : List U} {S S' : List (Int × Int)} (F : Force D S) (F' : Force D' S') (e : ∀ u, u ∈ D' ↔ u ∈ D) {N : Int} (hN : ∀ u ∈ D, u.n ≤ N) : ∀ i, i ∈ S ↔ i ∈ S' := by
  have key : ∀ (k : Nat) (i : Int × Int), (N - i.2).toNat = k → (i ∈ S ↔ i ∈ S') := fun k => by
    induction k using Nat.strongRecOn with
    | _ k ih =>
      intro i hk
      rw [F i, F' i]
      have e1 : i ∈ D.map U.id ↔ i ∈ D'.map U.id := by
        constructor
        · intro h
          obtain ⟨u, hu, rfl⟩ := List.mem_map.mp h
          exact List.mem_map.mpr ⟨u, (e u).mpr hu, rfl⟩
        · intro h
          obtain ⟨u, hu, rfl⟩ := List.mem_map.mp h
          exact List.mem_map.mpr ⟨u, (e u).mp hu, rfl⟩
      have e2 : (∃ u ∈ D, u.id ∈ S ∧ Undoes u i) ↔ ∃ u ∈ D', u.id ∈ S' ∧ Undoes u i := by
        have st : ∀ u ∈ D, Undoes u i → (u.id ∈ S ↔ u.id ∈ S') := fun u hu z => by
          have h1 := hN u hu
          have h2 := z.2.2
          refine ih _ ?_ u.id rfl
          show (N - u.n).toNat < k
          omega
        constructor
        · rintro ⟨u, hu, h1, h2⟩
          exact ⟨u, (e u).mpr hu, (st u hu h2).mp h1, h2⟩
        · rintro ⟨u, hu, h1, h2⟩
          have hu2 := (e u).mp hu
          exact ⟨u, hu2, (st u hu2 h2).mpr h1, h2⟩
      rw [e1, e2]
  exact fun i => key _ i rfl
/-- two rising lists with the same members are one -/
theorem rising_one : ∀ {S S' : List (Int × Int)}, S.Pairwise ltI → S'.Pairwise ltI → (∀ i, i ∈ S ↔ i ∈ S') → S = S'
  | [], [], _, _, _ => rfl
  | [], b :: r, _, _, h => nomatch (h b).mpr (List.mem_cons_self ..)
  | a :: r, [], _, _, h => nomatch (h a).mp (List.mem_cons_self ..)
  | a :: r, b :: r', h1, h2, h => by
    obtain ⟨a1, a2⟩ := List.pairwise_cons.mp h1
    obtain ⟨b1, b2⟩ := List.pairwise_cons.mp h2
    have e : a = b := by
      rcases List.mem_cons.mp ((h a).mp (List.mem_cons_self ..)) with z | z
      · exact z
      · rcases List.mem_cons.mp ((h b).mpr (List.mem_cons_self ..)) with z2 | z2
        · exact z2.symm
        · exact (ltI_asym (b1 a z) (a1 b z2)).elim
    subst e
    rw [rising_one a2 b2 fun i => ?_]
    constructor
    · intro z
      rcases List.mem_cons.mp ((h i).mp (List.mem_cons_of_mem _ z)) with y | y
      · rw [y] at z
        exact (ltI_irr (a1 a z)).elim
      · exact y
    · intro z
      rcases List.mem_cons.mp ((h i).mpr (List.mem_cons_of_mem _ z)) with y | y
      · rw [y] at z
        exact (ltI_irr (b1 a z)).elim
      · exact y
theorem sql_ext {K : PySem.W.Frag} {H H' : Hp} {a : Addr} {xs : List V} (e : LamX.ExtN H H') (h : SqL K H a xs) : SqL K H' a xs := by
  rcases h with (h | ⟨o, h⟩) | h
  · exact .inl (.inl (e _ _ h fun ps z => by cases z))
  · exact .inl (.inr ⟨o, e _ _ h fun ps z => by cases z⟩)
  · exact .inr h
def idK (z : Int × Int) : List Key := [.inl z.1, .inl z.2]
theorem idK_inj {z w : Int × Int} (h : idK z = idK w) : z = w := by
  injection h with z1 z2
  injection z2 with z2
  exact Prod.ext (Sum.inl.inj z1) (Sum.inl.inj z2)
theorem extN_mut {H H' : Hp} {M : Addr} {o : HO} (e : LamX.ExtN H H') (hM : H M = none) : LamX.ExtN H (upd H' M o) := fun b x h n => by
  rw [upd_ne (ne_of_none h hM)]
  exact e b x h n
theorem tabs_mut {T : List (Addr × Str)} {H : Hp} {M : Addr} {o0 o : HO} (t : LamX.Tabs T H) (h : H M = some o0) (n1 : ∀ ps, o0 ≠ .tbl ps) (n2 : ∀ c q, o0 ≠ LamX.CodeO c q) : LamX.Tabs T (upd H M o) := fun p hp => by
  obtain ⟨ps, h1, h2, h3⟩ := t p hp
  refine ⟨ps, ?_, h2, fun pos cv hc => ?_⟩
  · rw [upd_ne]
    · exact h1
    · intro z
      rw [z, h] at h1
      exact n1 ps (Option.some.inj h1)
  · obtain ⟨c, e1, e2⟩ := h3 pos cv hc
    refine ⟨c, e1, ?_⟩
    rw [upd_ne]
    · exact e2
    · intro z
      rw [z, h] at e2
      exact n2 _ _ (Option.some.inj e2)
theorem tabs_new {T : List (Addr × Str)} {H : Hp} {M : Addr} {o : HO} (t : LamX.Tabs T H) (h : H M = none) : LamX.Tabs T (upd H M o) := t.ext (same_new h)
theorem lst_code {xs : List V} : ∀ c q, HO.lst xs ≠ LamX.CodeO c q := fun c q z => by
  unfold LamX.CodeO at z
  cases z
theorem dT_code {xs : List (List Key × V)} : ∀ c q, HO.dT xs ≠ LamX.CodeO c q := fun c q z => by
  unfold LamX.CodeO at z
  cases z
def spIF (K : PySem.W.Frag) (T : List (Addr × Str)) : Sp := fun vs H Q _ => ∃ (L : Addr) (rs : List V) (D : List U), vs = [.ref L] ∧ SqL K H L rs ∧ RepG (UAt H) rs D ∧ (D.map U.id).Nodup ∧ D.length ≤ 63 ∧ LamX.Tabs T H ∧
  ∀ (p : Addr) (H' : Hp) (is : List V) (S : List (Int × Int)), LamX.ExtN H H' → LamX.Tabs T H' → H' p = some (.lst is) → RepG (IdAt H') is S → S.length ≤ 63 → S.Pairwise ltI → Force D S → Q (.ref p) H'
theorem okInForce (T : Txt K mg) {c tp : Addr} (B : TabF K base mg T.fInForce c tp) : FnOk P w K mg base CX0 5 T.fInForce T.fdInForce ["edits"] (spIF K [(tp, qLam)]) := by
  obtain ⟨hcd, hnl, TB⟩ := id B
  refine okC T.FInForce hcd scInForce (fun vs H Q E h => ?_) (fun A outer s H vs Q E hr h => ?_)
  · obtain ⟨L, rs, D, rfl, _⟩ := h
    rfl
  · obtain ⟨L, rs, D, rfl, hL, R, nd, hl, hT, q⟩ := h
    -- slots edits=0 undone=1 found=2 edit_id=3 _=4 action=5
    refine ⟨_, (pss_cons (ps_set (i := 1) scInForce.nd rfl (Or.inl rfl) pe_dnewT)
        (pss_cons (ps_set (i := 2) scInForce.nd rfl (Or.inl rfl) (pe_lst pa_nil))
        (pss_cons (ps_for PassesOwn.never rfl (pi_list (pe_sortLam (T := [(tp, qLam)]) (N := ["edit"]) (k := 0) (pa_cons (pv 0) pa_nil) pe_bl (by rfl) T.z_sorted (by decide +kernel) TB rfl (List.mem_cons_self ..) (fun q hq _ => congrArg Prod.snd (List.mem_singleton.mp hq)) rfl rfl (hr.mono (by decide)) ⟨⟨rfl, rfl, rfl, by decide, rfl, by decide +kernel, by decide +kernel⟩, fun _ => rfl, fun _ _ _ _ _ us hl => match us, hl with | [_], _ => rfl⟩ (by rfl) (fun _ _ _ _ _ _ rm => (pe_ix (ix_tupK (K := K) rfl) (pv 0) pe_int (fun _ _ => rfl))))) (pg_tup rfl (pgs_cons (pg_name (i := 3) scInForce.nd rfl (Or.inl rfl)) (pgs_cons (pg_name (i := 4) scInForce.nd rfl (Or.inl rfl)) (pgs_cons (pg_name (i := 5) scInForce.nd rfl (Or.inl rfl)) pgs_nil))))
          (pss_one (ps_if (pt_cmp (pc_dnotin (units2 hr) (pv 3) (pv 1)))
            (pss_cons (ps_expr (pe_bm PySem.F.plainAttrs_list PySem.F.slot_list_append PySem.F.type_list_append mt_append (pv 2) (pa_cons (pv 3) pa_nil)))
            (pss_one (ps_if (PW.pt (pw_and (pt_cmpR op_eq (pe_ix ix_tup (pv 5) pe_int (fun _ _ => rfl)) pe_str (nomark _)) (pw_and1 (pt_cmpR op_lt (pe_ix ix_tup (pv 5) pe_int (fun _ _ => rfl)) (pe_ix ix_tup (pv 3) pe_int (fun _ _ => rfl)) (nomark _)))))
              (pss_one (ps_dput (units2 hr) (pv 1) (pe_tup (pa_cons (pe_ix ix_tup (pv 3) pe_int (fun _ _ => rfl)) (pa_cons (pe_ix ix_tup (pv 5) pe_int (fun _ _ => rfl)) pa_nil))) pe_bl rfl))
              pss_nil)))
            pss_nil)))
        (pss_one (ps_ret (pe_callB (cr_sortedD (units65b hr)) (by rfl) T.z_sorted (by decide +kernel) (pa_cons (pv 2) pa_nil))))))), ?_⟩
    refine fun M hM => ⟨Nat.zero_le _, fun N hN => ?_⟩
    have s1 := same_new (o := .dT []) hM
    have s2 := same_new (o := .lst []) hN
    have hM2 := s2 _ _ (upd_same (H := H) (a := M) (o := .dT []))
    have s12 := s1.trans s2
    have nMN : M ≠ N := fun z => by
      rw [z, upd_same] at hN
      cases hN
    have hN2 := upd_same (H := upd H M (.dT [])) (a := N) (o := .lst [])
    generalize upd (upd H M (.dT [])) N (.lst []) = H2 at s12 hM2 hN2
    have T2 := hT.ext s12
    have zm : ∀ z ∈ rs.zip D, UAt H z.1 z.2 := R.mem
    obtain ⟨Zs, eZ, pZ, oZ⟩ := sortI true U.id (rs.zip D)
    have snd0 : (rs.zip D).map Prod.snd = D := R.snd
    have ndZ : (Zs.map fun z => z.2.id).Nodup := by
      have h1 : ((rs.zip D).map fun z => z.2.id) = D.map U.id := by
        rw [← snd0, List.map_map, snd0]
        rfl
      exact (pZ.map _).nodup_iff.mpr (by rw [h1]; exact nd)
    have memZ : ∀ u, u ∈ Zs.map Prod.snd ↔ u ∈ D := fun u => by
      rw [(pZ.map Prod.snd).mem_iff, snd0]
    have lenZ : Zs.length = D.length := by
      rw [pZ.length_eq, List.length_zip, R.len, Nat.min_self]
    have desc : ∀ (i j : Nat) (a b : V × U), i < j → Zs[i]? = some a → Zs[j]? = some b → ltI b.2.id a.2.id := fun i j a b hij ha hb => by
      obtain ⟨h1, h2⟩ := List.getElem?_eq_some_iff.mp ha
      obtain ⟨h3, h4⟩ := List.getElem?_eq_some_iff.mp hb
      have o := List.pairwise_iff_getElem.mp oZ i j h1 h3 hij
      rw [if_pos rfl, h2, h4] at o
      have n := List.pairwise_iff_getElem.mp ndZ i j (by rw [List.length_map]; exact h1) (by rw [List.length_map]; exact h3) hij
      rw [List.getElem_map, List.getElem_map, h2, h4] at n
      unfold ltI at o ⊢
      have n2 : ¬ (a.2.id.1 = b.2.id.1 ∧ a.2.id.2 = b.2.id.2) := fun z => n (Prod.ext z.1 z.2)
      omega
    refine ⟨_, rfl, L, (rs.zip D).map (gI U.id), rfl, T2, fun H3 x3 T3 => ?_⟩
    have ts3 : TS H H3 := (TS.of s12).trans (TS.ext x3)
    have e3 : LamX.ExtN H H3 := (LamX.ExtN.of s12).trans x3
    have hM3 : H3 M = some (.dT []) := x3 _ _ hM2 fun ps z => by cases z
    have hN3 : H3 N = some (.lst []) := x3 _ _ hN2 fun ps z => by cases z
    refine ⟨?_, ?_, .inl ?_, ?_, ?_, fun p H4 s4 hp => ?_⟩
    · rw [List.map_map]
      show SqL K H3 L ((rs.zip D).map Prod.fst)
      rw [R.fst]
      exact sql_ext e3 hL
    · intro d hd d' hd'
      rw [List.map_map] at hd hd'
      obtain ⟨z, hz, rfl⟩ := List.mem_map.mp hd
      obtain ⟨z', hz', rfl⟩ := List.mem_map.mp hd'
      exact alikeI _ _
    · intro d hd
      rw [List.map_map] at hd
      obtain ⟨z, hz, rfl⟩ := List.mem_map.mp hd
      exact ⟨_, _, rfl⟩
    · intro b hb
      obtain ⟨z, hz, rfl⟩ := List.mem_map.mp hb
      show (idD z.2.id).depth ≤ 50
      rw [idD_depth]
      decide
    · intro b hb H5 s5
      obtain ⟨z, hz, rfl⟩ := List.mem_map.mp hb
      obtain ⟨q0, a0, b0, c0, e0, h1, h2, h3, h4⟩ := (zm z hz).ts (ts3.trans (TS.of s5))
      exact ⟨z.1, rfl, q0, _, _, .ref a0, e0, rfl, SqT.of h1, atI_nat (j := 0) rfl, Same.refl _, dp_id h2⟩
    rw [eZ]
    have s5 := same_new (o := .lst (Zs.map Prod.fst)) hp
    have hp5 := upd_same (H := H4) (a := p) (o := .lst (Zs.map Prod.fst))
    have hM5 := s5 _ _ (s4 _ _ hM3)
    have hN5 := s5 _ _ (s4 _ _ hN3)
    have npM : p ≠ M := fun z => by
      rw [z, s4 _ _ hM3] at hp
      cases hp
    have npN : p ≠ N := fun z => by
      rw [z, s4 _ _ hN3] at hp
      cases hp
    have hN0 : H N = none := by
      cases h : H N with
      | none => rfl
      | some o =>
        rw [s1 _ _ h] at hN
        cases hN
    have e5 : LamX.ExtN H (upd H4 p (.lst (Zs.map Prod.fst))) := extN_same (extN_same e3 s4) s5
    have T5 := T3.ext (s4.trans s5)
    generalize upd H4 p (.lst (Zs.map Prod.fst)) = H5 at hp5 hM5 hN5 e5 T5
    refine ⟨p, rfl, ⟨_, SqL.of hp5⟩, for_it (walk_list (a := p) (xs := Zs.map Prod.fst)) (fun j σ H' => ∃ (kvs : List (List Key × V)) (is : List V) (S : List (Int × Int)) (und : Int × Int → Prop) (c3 c4 c5 : Option V), σ = [some (.ref L), some (.ref M), some (.ref N), c3, c4, c5] ∧ LamX.ExtN H H' ∧ LamX.Tabs [(tp, qLam)] H' ∧ H' p = some (.lst (Zs.map Prod.fst)) ∧
      H' M = some (.dT kvs) ∧ H' N = some (.lst is) ∧ RepG (IdAt H') is S ∧ Part ((Zs.take j).map Prod.snd) S und ∧ (∀ i, (valV kvs (idK i)).isSome = true ↔ und i) ∧ kvs.length ≤ j ∧ is.length ≤ j ∧ S.Pairwise (fun a b => ltI b a)) ?_ (fun j σ H' _ ⟨_, _, _, _, _, _, _, _, _, _, h, _⟩ => SqL.of h) ?_ ?_⟩
    · exact ⟨[], [], [], _, _, _, _, rfl, e5, T5, hp5, hM5, hN5, RepG.nil, Part.nil, fun i => ⟨fun z => (by cases z), fun z => z.elim⟩, Nat.le_refl _, Nat.le_refl _, .nil⟩
    · rintro j x σ H6 H7 hj ⟨kvs, is, S, und, c3, c4, c5, rfl, e6, T6, hp6, hM6, hN6, R6, P6, du, kl, il, Sd⟩ ⟨rfl, hx⟩
      rw [List.length_map] at hj
      rw [List.getElem?_map] at hx
      obtain ⟨z, hz, rfl⟩ : ∃ z, Zs[j]? = some z ∧ z.1 = x := by
        cases e : Zs[j]? with
        | none =>
          rw [e] at hx
          cases hx
        | some z =>
          rw [e] at hx
          exact ⟨z, rfl, Option.some.inj hx⟩
      obtain ⟨q0, a0, b0, c0, e0, h1, h2, h3, h4⟩ := (zm z (pZ.mem_iff.mp (List.mem_of_getElem? hz))).ts (TS.ext e6)
      have et : (Zs.take (j + 1)).map Prod.snd = (Zs.take j).map Prod.snd ++ [z.2] := by
        rw [List.take_add_one, hz, List.map_append]
        rfl
      have lt : ∀ u ∈ (Zs.take j).map Prod.snd, ltI z.2.id u.id := fun u hu => by
        obtain ⟨y, hy, rfl⟩ := List.mem_map.mp hu
        obtain ⟨i, hi⟩ := List.mem_iff_getElem?.mp hy
        have hi2 : i < j := by
          have := (List.getElem?_eq_some_iff.mp hi).1
          rw [List.length_take] at this
          omega
        rw [List.getElem?_take_of_lt hi2] at hi
        exact desc i j y z hi2 hi hz
      refine ⟨q0, _, e0, SqT.of h1, rfl, _, _, rfl, _, _, rfl, _, _, rfl, rfl, ?_⟩
      have dg : DGet H7 M (.ref a0) (valV kvs (idK z.2.id)) := DGet.t hM6 h2
      refine ⟨_, rfl, _, rfl, M, _, rfl, dg, _, rfl, ite2 (fun cc => ?_) (fun cc => ?_)⟩
      rotate_left
      · have un : und z.2.id := by
          refine (du _).mp ?_
          cases e : (valV kvs (idK z.2.id)).isSome with
          | true => rfl
          | false =>
            rw [e] at cc
            exact absurd rfl cc
        exact ⟨kvs, is, S, und, _, _, _, rfl, e6, T6, hp6, hM6, hN6, R6, by rw [et]; exact P6.skip lt un, du, by omega, by omega, Sd⟩
      have un : ¬ und z.2.id := fun y => by
        rw [(du _).mpr y] at cc
        cases cc
      have P8 := P6.take lt un
      rw [← et] at P8
      have Sd8 : (S ++ [z.2.id]).Pairwise (fun a b => ltI b a) := List.pairwise_append.mpr ⟨Sd, List.pairwise_singleton _ _, fun a ha b hb => by
        rw [List.mem_singleton.mp hb]
        obtain ⟨u, hu, rfl⟩ := List.mem_map.mp ((P6.mem a).mp ha).1
        exact lt u hu⟩
      refine ⟨_, rfl, .inl ⟨rfl, _, SqL.of hN6⟩, _, rfl, N, _, _, rfl, rfl, hN6, small1000 (by omega), ?_⟩
      have e8 := extN_mut (o := .lst (is ++ [.ref a0])) e6 hN0
      have T8 := tabs_mut (o := .lst (is ++ [.ref a0])) T6 hN6 (fun ps z => by cases z) lst_code
      have t8 := TS.lst (o := .lst (is ++ [.ref a0])) hN6
      have R8 : RepG (IdAt (upd H7 N (.lst (is ++ [.ref a0])))) (is ++ [.ref a0]) (S ++ [z.2.id]) := RepG.snoc (R6.imp fun x e h => h.ts t8) ⟨a0, rfl, t8 _ _ h2⟩
      have hN8 := upd_same (H := H7) (a := N) (o := .lst (is ++ [.ref a0]))
      have hM8 : (upd H7 N (.lst (is ++ [.ref a0]))) M = some (.dT kvs) := by rw [upd_ne nMN]; exact hM6
      have hp8 : (upd H7 N (.lst (is ++ [.ref a0]))) p = some (.lst (Zs.map Prod.fst)) := by rw [upd_ne npN]; exact hp6
      have h28 := t8 _ _ h2
      have h48 := h4.ts t8
      generalize upd H7 N (.lst (is ++ [.ref a0])) = H8 at e8 T8 R8 hN8 hM8 hp8 h28 h48
      have il8 : (is ++ [V.ref a0]).length ≤ j + 1 := by
        rw [List.length_append]
        exact Nat.add_le_add_right il 1
      have stay : z.2.t = none ∨ (∃ t, z.2.t = some t ∧ ¬ t < z.2.n) → ∀ i, (valV kvs (idK i)).isSome = true ↔ (und i ∨ Undoes z.2 i) := fun hh i => by
        rw [du i]
        constructor
        · exact .inl
        · rintro (h | h)
          · exact h
          · rcases hh with e | ⟨t, e, nl⟩
            · rw [h.2.1] at e
              cases e
            · have := h.2.1
              rw [e] at this
              have e2 := Option.some.inj this
              have := h.2.2
              omega
      cases hzt : z.2.t with
      | none =>
        unfold ActAt at h48
        rw [hzt] at h48
        obtain ⟨y0, k1, k2⟩ := h48
        refine ⟨_, rfl, c0, _, _, _, rfl, rfl, SqT.of k1, atI_nat (j := 0) rfl, rfl, _, rfl, ite2 (fun c1 => absurd (V.str.inj (of_decide_eq_true c1)) (by decide +kernel)) (fun _ => ?_)⟩
        exact ⟨kvs, _, _, _, _, _, _, rfl, e8, T8, hp8, hM8, hN8, R8, P8, stay (.inl hzt), by omega, il8, Sd8⟩
      | some t =>
        unfold ActAt at h48
        rw [hzt] at h48
        have k1 : H8 c0 = some (.tup [.str "undo", .int t]) := h48
        refine ⟨_, rfl, c0, _, _, _, rfl, rfl, SqT.of k1, atI_nat (j := 0) rfl, rfl, _, rfl, ite2 (fun _ => ?_) (fun c1 => absurd (decide_eq_true rfl) c1)⟩
        refine ⟨_, rfl, c0, _, _, _, rfl, rfl, SqT.of k1, atI_nat (j := 1) rfl, _, rfl, a0, _, _, _, rfl, rfl, SqT.of h28, atI_nat (j := 1) rfl, _, _, rfl, rfl, _, rfl, ite2 (fun c1 => ?_) (fun c1 => ?_)⟩
        rotate_left
        · exact ⟨kvs, _, _, _, _, _, _, rfl, e8, T8, hp8, hM8, hN8, R8, P8, stay (.inr ⟨t, hzt, fun y => c1 (decide_eq_true y)⟩), by omega, il8, Sd8⟩
        have c1 : t < z.2.n := of_decide_eq_true c1
        refine ⟨_, rfl, _, rfl, a0, _, _, _, rfl, rfl, SqT.of h28, atI_nat (j := 0) rfl, _, rfl, c0, _, _, _, rfl, rfl, SqT.of k1, atI_nat (j := 1) rfl, (by show 2 ≤ sizeLine; decide), fun t1 ht1 => ?_⟩
        have s9 := same_new (o := .tup [.int z.2.p, .int t]) ht1
        have hM9 := s9 _ _ hM8
        refine ⟨M, _, rfl, DPut.t (k := idK (z.2.p, t)) hM9 upd_same (small1000 (by omega)), ?_⟩
        have e9 := extN_mut (o := .dT (putK kvs (idK (z.2.p, t)) (.bl true))) (extN_same e8 s9) hM
        have T9 := tabs_mut (o := .dT (putK kvs (idK (z.2.p, t)) (.bl true))) (T8.ext s9) hM9 (fun ps z => by cases z) dT_code
        have t9 := TS.dT (o := .dT (putK kvs (idK (z.2.p, t)) (.bl true))) hM9
        have pl : (putK kvs (idK (z.2.p, t)) (V.bl true)).length ≤ kvs.length + 1 := by
          unfold putK
          split
          · rw [List.length_map]
            omega
          · rw [List.length_append]
            exact Nat.le_refl _
        refine ⟨_, _, _, _, _, _, _, rfl, e9, T9, ?_, upd_same, ?_, R8.imp fun x e h => h.ts ((TS.of s9).trans t9), P8, fun i => ?_, by omega, il8, Sd8⟩
        · rw [upd_ne npM]
          exact s9 _ _ hp8
        · rw [upd_ne nMN.symm]
          exact s9 _ _ hN8
        · rw [valV_put]
          by_cases hi : idK i = idK (z.2.p, t)
          · rw [if_pos hi]
            have hi := idK_inj hi
            exact ⟨fun _ => .inr ⟨by rw [hi], by rw [hi]; exact hzt, by rw [hi]; exact c1⟩, fun _ => rfl⟩
          · rw [if_neg hi, du i]
            refine ⟨.inl, fun h => h.elim id fun h => absurd ?_ hi⟩
            have h2 := h.2.1
            rw [hzt] at h2
            have h3 := Option.some.inj h2
            unfold idK
            rw [h.1, h3]
    · rintro σ H6 ⟨kvs, is, S, und, c3, c4, c5, rfl, e6, T6, hp6, hM6, hN6, R6, P6, du, kl, il, Sd⟩
      rw [List.length_map, List.take_length] at P6
      have R6r := R6
      obtain ⟨Ys, eY, pY, oY⟩ := sortI false id (is.zip S)
      have sndS : (is.zip S).map Prod.snd = S := R6.snd
      have nS : S.Nodup := Sd.imp (S := fun a b => a ≠ b) (fun {a b} h => fun (z : a = b) => ltI_irr (by rw [z] at h; exact h))
      have memY : ∀ i, i ∈ Ys.map Prod.snd ↔ i ∈ S := fun i => by rw [(pY.map Prod.snd).mem_iff, sndS]
      refine ⟨_, rfl, N, (is.zip S).map (gI id), rfl, ?_, ?_, ?_, .inl ?_, ?_, fun r hr6 => ?_⟩
      · rw [List.map_map]
        show SqL K H6 N ((is.zip S).map Prod.fst)
        rw [R6.fst]
        exact SqL.of hN6
      · intro b hb
        obtain ⟨z, hz, rfl⟩ := List.mem_map.mp hb
        exact (R6.mem z hz).dp
      · intro d hd d' hd'
        rw [List.map_map] at hd hd'
        obtain ⟨z, hz, rfl⟩ := List.mem_map.mp hd
        obtain ⟨z', hz', rfl⟩ := List.mem_map.mp hd'
        exact alikeI _ _
      · intro d hd
        rw [List.map_map] at hd
        obtain ⟨z, hz, rfl⟩ := List.mem_map.mp hd
        exact ⟨_, _, rfl⟩
      · intro b hb
        obtain ⟨z, hz, rfl⟩ := List.mem_map.mp hb
        show (idD z.2).depth ≤ 50
        rw [idD_depth]
        decide
      rw [eY]
      have s7 := same_new (o := .lst (Ys.map Prod.fst)) hr6
      refine q r _ (Ys.map Prod.fst) (Ys.map Prod.snd) (extN_same e6 s7) (T6.ext s7) upd_same (RepG.of_zs fun z hz => (R6.mem z (pY.mem_iff.mp hz)).ts (TS.of s7)) (by have il2 := il; rw [List.length_map] at il2; rw [List.length_map, pY.length_eq, List.length_zip]; omega) ?_ (P6.force (fun u => (memZ u).symm) memY)
      have nY : (Ys.map Prod.snd).Nodup := ((pY.map Prod.snd).nodup_iff).mpr (by rw [sndS]; exact nS)
      have nY2 : Ys.Pairwise fun a b => a.2 ≠ b.2 := List.pairwise_map.mp nY
      refine List.pairwise_map.mpr ((oY.and nY2).imp fun {a b} h => ?_)
      have h1 : ¬ ltI b.2 a.2 := h.1
      have h2 := h.2
      unfold ltI at h1 ⊢
      have n2 : ¬ (a.2.1 = b.2.1 ∧ a.2.2 = b.2.2) := fun z => h2 (Prod.ext z.1 z.2)
      omega
/-! ### max(xs, default=d) of ints -/
def optV : Option Int → V
  | none => .non
  | some m => .int m
def MaxOf (r : Option Int) (P : Int → Prop) : Prop := match r with
  | none => ∀ n, ¬ P n
  | some m => P m ∧ ∀ n, P n → n ≤ m
theorem MaxOf.iff {r : Option Int} {P P' : Int → Prop} (h : MaxOf r P) (e : ∀ n, P n ↔ P' n) : MaxOf r P' := by
  cases r with
  | none => exact fun n z => h n ((e n).mpr z)
  | some m => exact ⟨(e m).mp h.1, fun n z => h.2 n ((e n).mpr z)⟩
theorem MaxOf.one {r r' : Option Int} {P : Int → Prop} (h : MaxOf r P) (h' : MaxOf r' P) : r = r' := by
  cases r with
  | none =>
    cases r' with
    | none => rfl
    | some m => exact absurd h'.1 (h m)
  | some m =>
    cases r' with
    | none => exact absurd h.1 (h' m)
    | some m' =>
      have := h.2 m' h'.1
      have := h'.2 m h.1
      have e : m = m' := by omega
      rw [e]
theorem foldl_max : ∀ (ns : List Int) (n : Int), (ns.foldl max n ∈ n :: ns) ∧ ∀ y ∈ n :: ns, y ≤ ns.foldl max n
  | [], n => ⟨List.mem_cons_self .., fun y hy => by rw [List.mem_singleton.mp hy]; exact Int.le_refl _⟩
  | k :: r, n => by
    obtain ⟨h1, h2⟩ := foldl_max r (max n k)
    have e : (k :: r).foldl max n = r.foldl max (max n k) := rfl
    rw [e]
    have hm := h2 (max n k) (List.mem_cons_self ..)
    refine ⟨?_, fun y hy => ?_⟩
    · rcases List.mem_cons.mp h1 with z | z
      · rw [z]
        by_cases c : n ≤ k
        · rw [Int.max_eq_right c]
          simp
        · rw [Int.max_eq_left (by omega)]
          simp
      · exact List.mem_cons_of_mem _ (List.mem_cons_of_mem _ z)
    · rcases List.mem_cons.mp hy with z | z
      · rw [z]
        have := Int.le_max_left n k
        omega
      · rcases List.mem_cons.mp z with z | z
        · rw [z]
          have := Int.le_max_right n k
          omega
        · exact h2 y (List.mem_cons_of_mem _ z)
theorem alike_all_ints (ns : List Int) : ∀ d ∈ ns.map PyData.int, ∀ d' ∈ ns.map PyData.int, PySem.W.alike d d' = true := fun d hd d' hd' => by
  obtain ⟨x, _, rfl⟩ := List.mem_map.mp hd
  obtain ⟨y, _, rfl⟩ := List.mem_map.mp hd'
  rfl
def rMaxDf (K : PySem.W.Frag) : List V → List V → Hp → VK → Prop := fun vs zs H Q => ∃ (a : Addr) (ns : List Int), vs = [.ref a] ∧ zs = [.non] ∧ SqL K H a (ns.map V.int) ∧ ∀ r, MaxOf r (fun n => n ∈ ns) → Q (optV r) H
theorem cr_maxDf {X : Cx} (hc : X.calm = true) (hu : X.A.units + 64 < cLine) : CallRK X (.builtin "max") [Str.ofString "default"] (rMaxDf X.K) := by
  intro pins s σ H xs zs us ws Q I rx rz h
  obtain ⟨a, ns, rfl, rfl, hs, q⟩ := h
  obtain ⟨as, rd⟩ := Dp.reads I (.list (ns.map PyData.int)) (.ref a) (.ref a) (.lst hs (dp_ints _)) rfl
  rw [Vals.ref1 rx]
  obtain ⟨w, rfl, rw1⟩ := vals1 rz
  obtain rfl : w = Value.none := rw1
  obtain ⟨its, rv, hl, hz⟩ := I.list hs
  cases rd with
  | @list l o ys n _ _ h1 h2 h3 h4 =>
    have hy : s.heap.IsList a ys := ⟨o, h1, h2, n, h3⟩
    refine PySem.W.max_list_default (I.ok.hd hc) hy h4 ⟨alike_all_ints ns, fun x hx z => by
      obtain ⟨y, _, rfl⟩ := List.mem_map.mp hx
      cases z⟩ ?_ (fun e h' tk k => ?_) (fun y r i v h' tk bs e hv rd2 k => ?_)
    · rw [PySem.W.ke_depthAll]
      omega
    · have e : ns = [] := List.map_eq_nil_iff.mp e
      exact ⟨.non, H, I.kept k, rfl, q none fun n z => by rw [e] at z; cases z⟩
    · cases ns with
      | nil => cases e
      | cons n r =>
        have e1 := (List.cons.inj e).1
        have e2 := (List.cons.inj e).2
        rw [← e1, ← e2, PySem.W.maxD_ints] at rd2
        obtain ⟨m1, m2⟩ := foldl_max r n
        cases rd2 with
        | int _ t => exact ⟨.int _, H, I.kept k, ⟨t, rfl⟩, q (some _) ⟨m1, m2⟩⟩
/-! ### a dict comprehension, walked -/
theorem dc_it {J : It} {n : Nat} {G : Hp → Prop} {Y : Nat → Hp → V → Hp → Prop} (w : Walk J n G Y) {g : TG} {tt : TT} {tk tv : TE} {vs : List Nat} {σ : L2.St} {H1 : Hp} {D : Addr} {Qd : Hp → Prop} (Pv : Nat → Hp → Prop) (h0 : Pv 0 (upd H1 D (.dK []))) (hG : ∀ i H, i ≤ n → Pv i H → G H)
    (hs : ∀ i x H H', i < n → Pv i H → Y i H x H' → g x (wipe σ vs) H' fun σ2 H2 => wipe σ2 vs = wipe σ vs ∧ tt σ2 H2 fun b H3 =>
      if b = true then tk σ2 H3 fun y H4 => tv σ2 H4 fun z H5 => ∃ kvs k, y = kV k ∧ H5 D = some (.dK kvs) ∧ kvs.length < sizeLine ∧ Pv (i + 1) (upd H5 D (.dK (putK kvs k z))) else Pv (i + 1) H3) (hd : ∀ H, Pv n H → Qd H) :
    ∃ W : Nat → Nat → Hp → Prop, (∃ m, W 0 m (upd H1 D (.dK []))) ∧ ∀ i m H, W i m H →
      (J.stop i H ∧ Qd H) ∨ (J.go i H ∧ ∃ Nx : Hp → Prop, (∀ H', Nx H' → ∃ m', m' < m ∧ W (i + 1) m' H') ∧ ∀ x H', J.yld i H x H' → g x (wipe σ vs) H' fun σ2 H2 => wipe σ2 vs = wipe σ vs ∧ tt σ2 H2 fun b H3 =>
        if b = true then tk σ2 H3 fun y H4 => tv σ2 H4 fun z H5 => ∃ kvs k, y = kV k ∧ H5 D = some (.dK kvs) ∧ kvs.length < sizeLine ∧ Nx (upd H5 D (.dK (putK kvs k z))) else Nx H3) := by
  refine ⟨fun i m H => m = n - i ∧ i ≤ n ∧ Pv i H, ⟨n, by simp, Nat.zero_le _, h0⟩, ?_⟩
  rintro i m H ⟨rfl, hi, p⟩
  have q := hG i H hi p
  by_cases hlt : i < n
  · exact .inr ⟨w.goes i H hlt q, Pv (i + 1), fun H' p' => ⟨n - (i + 1), by omega, rfl, hlt, p'⟩, fun x H' y => hs i x H H' hlt p (w.yields i H x H' hlt q y)⟩
  · have e : i = n := by omega
    subst e
    exact .inl ⟨w.stops H q, hd H p⟩
/-! ### the actions of a person, by number -/
def KAt (H : Hp) (kv : Key × V) (u : U) : Prop := kv.1 = .inl u.n ∧ ∃ c, kv.2 = .ref c ∧ ActAt H c u
inductive KsAt (H : Hp) : List (Key × V) → List U → Prop
  | nil : KsAt H [] []
  | cons {kv : Key × V} {u : U} {ks : List (Key × V)} {us : List U} (h : KAt H kv u) (t : KsAt H ks us) : KsAt H (kv :: ks) (u :: us)
theorem KsAt.ts {H H' : Hp} (t : TS H H') : ∀ {ks : List (Key × V)} {us : List U}, KsAt H ks us → KsAt H' ks us
  | _, _, .nil => .nil
  | _, _, .cons ⟨e, c, e2, h⟩ r => .cons ⟨e, c, e2, h.ts t⟩ (KsAt.ts t r)
theorem KsAt.snoc {H : Hp} {kv : Key × V} {u : U} (h : KAt H kv u) : ∀ {ks : List (Key × V)} {us : List U}, KsAt H ks us → KsAt H (ks ++ [kv]) (us ++ [u])
  | _, _, .nil => .cons h .nil
  | _, _, .cons h1 r => .cons h1 (KsAt.snoc h r)
theorem KsAt.len {H : Hp} : ∀ {ks : List (Key × V)} {us : List U}, KsAt H ks us → ks.length = us.length
  | _, _, .nil => rfl
  | _, _, .cons _ r => congrArg Nat.succ r.len
theorem KsAt.keys {H : Hp} : ∀ {ks : List (Key × V)} {us : List U}, KsAt H ks us → ∀ kv ∈ ks, ∃ u ∈ us, kv.1 = .inl u.n
  | _, _, .nil, _, h => nomatch h
  | _, _, .cons h1 r, kv, h => by
    rcases List.mem_cons.mp h with z | z
    · rw [z]
      exact ⟨_, List.mem_cons_self .., h1.1⟩
    · obtain ⟨u, hu, e⟩ := r.keys kv z
      exact ⟨u, List.mem_cons_of_mem _ hu, e⟩
theorem KsAt.at_ {H : Hp} : ∀ {ks : List (Key × V)} {us : List U}, KsAt H ks us → ∀ (i : Nat) kv, ks[i]? = some kv → ∃ u, us[i]? = some u ∧ KAt H kv u
  | _, _, .nil, i, _, h => by simp at h
  | _, _, .cons h1 r, 0, kv, h => by
    have e := Option.some.inj h
    rw [← e]
    exact ⟨_, rfl, h1⟩
  | _, _, .cons h1 r, i + 1, kv, h => by
    rw [List.getElem?_cons_succ] at h
    obtain ⟨u, hu, e⟩ := r.at_ i kv h
    exact ⟨u, by rw [List.getElem?_cons_succ]; exact hu, e⟩
theorem KsAt.get {H : Hp} : ∀ {ks : List (Key × V)} {us : List U}, KsAt H ks us → (us.map U.n).Nodup → ∀ u ∈ us, ∃ c, valV ks (.inl u.n) = some (.ref c) ∧ ActAt H c u
  | _, _, .nil, _, u, h => nomatch h
  | _, _, .cons (kv := kv) (u := w) h1 r, nd, u, h => by
    obtain ⟨n1, n2⟩ := List.nodup_cons.mp nd
    rcases List.mem_cons.mp h with z | z
    · rw [z]
      obtain ⟨e, c, e2, hc⟩ := h1
      exact ⟨c, by rw [valV_pos e, e2], hc⟩
    · obtain ⟨c, e, hc⟩ := r.get n2 u z
      refine ⟨c, ?_, hc⟩
      rw [valV_neg]
      · exact e
      · intro y
        rw [h1.1] at y
        have y2 : w.n = u.n := Sum.inl.inj y
        exact n1 (by rw [y2]; exact List.mem_map.mpr ⟨u, z, rfl⟩)
def ofP (D : List U) (p : Int) : List U := D.filter fun u => decide (u.p = p)
theorem ofP_mem {D : List U} {p : Int} {u : U} : u ∈ ofP D p ↔ u ∈ D ∧ u.p = p := by
  unfold ofP
  rw [List.mem_filter, decide_eq_true_iff]
theorem ofP_nd {D : List U} {p : Int} (nd : (D.map U.id).Nodup) : ((ofP D p).map U.n).Nodup := by
  have h : (D.filter fun u => decide (u.p = p)).Pairwise fun a b => a.id ≠ b.id := (List.pairwise_map.mp nd).filter _
  refine List.pairwise_map.mpr (List.Pairwise.imp_of_mem (fun {a b} ha hb h1 z => h1 ?_) h)
  have e1 := (ofP_mem.mp ha).2
  have e2 := (ofP_mem.mp hb).2
  exact Prod.ext (e1.trans e2.symm) z
theorem valV_no {kvs : List (Key × V)} {k : Key} (h : ∀ kv ∈ kvs, kv.1 ≠ k) : valV kvs k = none := by
  unfold valV
  rw [List.find?_eq_none.mpr fun kv hkv => by simpa using h kv hkv]
  rfl
theorem mem_putK {kvs : List (Key × V)} {k : Key} {v : V} (h : ∀ kv ∈ kvs, kv.1 ≠ k) : putK kvs k v = kvs ++ [(k, v)] := by
  unfold putK
  rw [if_neg]
  rw [List.any_eq_true]
  rintro ⟨kv, hkv, e⟩
  exact h kv hkv (of_decide_eq_true e)
def spActs (K : PySem.W.Frag) : Sp := fun vs H Q _ => ∃ (L : Addr) (rs : List V) (D : List U) (p : Int), vs = [.ref L, .int p] ∧ SqL K H L rs ∧ RepG (UAt H) rs D ∧ (D.map U.id).Nodup ∧ D.length ≤ 63 ∧
  ∀ (d : Addr) (H' : Hp) (kvs : List (Key × V)), Same H H' → H d = none → H' d = some (.dK kvs) → KsAt H' kvs (ofP D p) → Q (.ref d) H'
theorem okOwnActions (T : Txt K mg) : FnOk P w K mg base CX0 1 T.fOwnActions T.fdOwnActions ["edits", "person"] (spActs K) := by
  refine T.FOwnActions.ok scOwnActions (fun vs H Q E h => ?_) (fun cdv A outer s H vs Q E hr h => ?_)
  · obtain ⟨L, rs, D, p, rfl, _⟩ := h
    rfl
  · obtain ⟨L, rs, D, p, rfl, hL, R, nd, hl, q⟩ := h
    -- slots edits=0 person=1 edit_id=2 _=3 action=4
    refine ⟨_, (pss_one (ps_ret (pe_dc (own := [("edit_id", 2), ("_", 3), ("action", 4)]) (g := gTup K 3 (gCons (gName 2) (gCons (gName 3) (gCons (gName 4) gNil)))) rfl scOwnActions.nd (pi_list (pv 0)) (blkOk_by (own := [("edit_id", 2), ("_", 3), ("action", 4)]) (N := ["edits", "person", "edit_id", "_", "action"]) (sc := defScope sOwnActions) (by decide +kernel)) (fun _ _ _ _ _ => (pg_tup rfl (pgs_cons (pg_name (i := 2) scOwnActions.nd rfl (Or.inl rfl)) (pgs_cons (pg_name (i := 3) scOwnActions.nd rfl (Or.inl rfl)) (pgs_cons (pg_name (i := 4) scOwnActions.nd rfl (Or.inl rfl)) pgs_nil))))) (fun _ _ _ _ _ => (pts_one (pt_cmpR op_eq (pe_ix (ix_tupK (K := K) rfl) (pv 2) pe_int (fun _ _ => rfl)) (pv 1) (nomark _)))) (fun _ _ _ _ _ => (pe_ix (ix_tupK (K := K) rfl) (pv 2) pe_int (fun _ _ => rfl))) (fun _ _ _ _ _ => (pv 4))))), ?_⟩
    refine ⟨_, rfl, L, rfl, ⟨_, hL⟩, fun M hM => ?_⟩
    refine dc_it (walk_list (a := L) (xs := rs)) (fun j H' => Same H H' ∧ ∃ kvs : List (Key × V), H' M = some (.dK kvs) ∧ KsAt H kvs (ofP (D.take j) p)) ⟨same_new hM, [], upd_same, .nil⟩ (fun j H' _ h => h.1.seq hL) ?_ ?_
    · rintro j x H9 H4 hj ⟨s4, kvs, hM4, K4⟩ ⟨rfl, hx⟩
      obtain ⟨u, hu, q0, a, b, c, rfl, h1, h2, h3, h4⟩ := R.get hx
      have et : ofP (D.take (j + 1)) p = ofP (D.take j) p ++ (if u.p = p then [u] else []) := by
        unfold ofP
        rw [List.take_add_one, hu, List.filter_append]
        by_cases z : u.p = p
        · simp [z]
        · simp [z]
      refine ⟨q0, _, rfl, SqT.of (s4 _ _ h1), rfl, _, _, rfl, _, _, rfl, _, _, rfl, rfl, rfl, ?_⟩
      refine ⟨_, rfl, a, _, _, _, rfl, rfl, SqT.of (s4 _ _ h2), atI_nat (j := 0) rfl, _, rfl, rfl, _, rfl, ?_⟩
      rw [et]
      by_cases z : u.p = p
      · rw [if_pos z, decide_eq_true (congrArg V.int z)]
        have no : ∀ kv ∈ kvs, kv.1 ≠ (.inl u.n : Key) := fun kv hkv e => by
          obtain ⟨w, hw, e2⟩ := K4.keys kv hkv
          rw [e2] at e
          have e3 : w.n = u.n := Sum.inl.inj e
          obtain ⟨hw1, hw2⟩ := ofP_mem.mp hw
          obtain ⟨i, hi⟩ := List.mem_iff_getElem?.mp hw1
          have hij : i < j := by
            have := (List.getElem?_eq_some_iff.mp hi).1
            rw [List.length_take] at this
            omega
          rw [List.getElem?_take_of_lt hij] at hi
          obtain ⟨g1, g2⟩ := List.getElem?_eq_some_iff.mp hi
          obtain ⟨g3, g4⟩ := List.getElem?_eq_some_iff.mp hu
          have := List.pairwise_iff_getElem.mp nd i j (by rw [List.length_map]; exact g1) (by rw [List.length_map]; exact g3) hij
          rw [List.getElem_map, List.getElem_map, g2, g4] at this
          exact this (Prod.ext (hw2.trans z.symm) e3)
        refine iteT ⟨_, rfl, a, _, _, _, rfl, rfl, SqT.of (s4 _ _ h2), atI_nat (j := 1) rfl, _, rfl, kvs, .inl u.n, rfl, hM4, small1000 ?_, ?_⟩
        · rw [K4.len]
          have h5 : (ofP (D.take j) p).length ≤ (D.take j).length := List.length_filter_le ..
          rw [List.length_take] at h5
          omega
        · rw [mem_putK no]
          exact ⟨same_mut s4 hM, _, upd_same, K4.snoc ⟨rfl, c, rfl, h4⟩⟩
      · rw [if_neg z, decide_eq_false (fun y => z (V.int.inj y)), List.append_nil]
        exact iteF ⟨s4, kvs, hM4, K4⟩
    · rintro H2 ⟨s2, kvs, hM2, K2⟩
      rw [List.take_of_length_le (by rw [R.len]; exact Nat.le_refl _)] at K2
      exact q M H2 kvs s2 hM hM2 (K2.ts (TS.of s2))
theorem sql_extI {K : PySem.W.Frag} {H H' : Hp} {a : Addr} {xs : List V} (e : LamX.ExtN H H') (h : SqL K H a xs) : SqL K H' a xs := sql_ext e h
/-- the edits L, in a heap -/
structure EdsAt (K : PySem.W.Frag) (H : Hp) (L : Addr) (rs : List V) (D : List U) : Prop where
  sq : SqL K H L rs
  rep : RepG (UAt H) rs D
  nd : (D.map U.id).Nodup
  len : D.length ≤ 63
theorem EdsAt.ext {K : PySem.W.Frag} {H H' : Hp} {L : Addr} {rs : List V} {D : List U} (e : LamX.ExtN H H') (h : EdsAt K H L rs D) : EdsAt K H' L rs D := ⟨sql_ext e h.sq, h.rep.imp fun x u z => z.ts (TS.ext e), h.nd, h.len⟩
theorem EdsAt.same {K : PySem.W.Frag} {H H' : Hp} {L : Addr} {rs : List V} {D : List U} (e : Same H H') (h : EdsAt K H L rs D) : EdsAt K H' L rs D := h.ext (LamX.ExtN.of e)
def spOIF (K : PySem.W.Frag) (T : List (Addr × Str)) : Sp := fun vs H Q _ => ∃ (L : Addr) (rs : List V) (D : List U) (p : Int), vs = [.ref L, .int p] ∧ EdsAt K H L rs D ∧ LamX.Tabs T H ∧
  ∀ (d : Addr) (H' : Hp) (ns : List Int) (S : List (Int × Int)), LamX.ExtN H H' → LamX.Tabs T H' → H' d = some (.lst (ns.map V.int)) → (∀ n, n ∈ ns ↔ (p, n) ∈ S) → ns.length ≤ 63 → Force D S → Q (.ref d) H'
theorem okOwnInForce (T : Txt K mg) {c tp : Addr} (B : TabF K base mg T.fInForce c tp) : FnOk P w K mg base CX0 6 T.fOwnInForce T.fdOwnInForce ["edits", "person"] (spOIF K [(tp, qLam)]) := by
  refine T.FOwnInForce.ok scOwnInForce (fun vs H Q E h => ?_) (fun cdv A outer s H vs Q E hr h => ?_)
  · obtain ⟨L, rs, D, p, rfl, _⟩ := h
    rfl
  · obtain ⟨L, rs, D, p, rfl, hE, hT, q⟩ := h
    -- slots edits=0 person=1 other=2 number=3
    refine ⟨_, (pss_one (ps_ret (pe_lc (own := [("other", 2), ("number", 3)]) (g := gTup K 2 (gCons (gName 2) (gCons (gName 3) gNil))) rfl scOwnInForce.nd (pi_list (pe_call (okInForce T B) (hr.mono (by decide)) (by rfl) T.gInForce T.FInForce.kp T.bInForce .nil pass0 (pa_cons (pv 0) pa_nil))) (blkOk_by (own := [("other", 2), ("number", 3)]) (N := ["edits", "person", "other", "number"]) (sc := defScope sOwnInForce) (by decide +kernel)) (fun _ _ _ _ _ => (pg_tup rfl (pgs_cons (pg_name (i := 2) scOwnInForce.nd rfl (Or.inl rfl)) (pgs_cons (pg_name (i := 3) scOwnInForce.nd rfl (Or.inl rfl)) pgs_nil)))) (fun _ _ _ _ _ => (pts_one (pt_cmpR op_eq (pv 2) (pv 1) (nomark _)))) (fun _ _ _ _ _ => (pv 3))))), ?_⟩
    refine ⟨_, rfl, L, rs, D, rfl, hE.sq, hE.rep, hE.nd, hE.len, hT, fun d H1 is S e1 T1 hd R1 sl so F => ⟨d, rfl, ⟨_, SqL.of hd⟩, fun N hN => ?_⟩⟩
    refine lc_it (walk_list (a := d) (xs := is)) (fun j H' => Same H1 H' ∧ H' N = some (.lst ((((S.take j).filter fun i => decide (i.1 = p)).map Prod.snd).map V.int))) ⟨same_new hN, upd_same⟩ (fun j H' _ h => SqL.of (h.1 _ _ hd)) ?_ ?_
    · rintro j x H9 H4 hj ⟨s4, hN4⟩ ⟨rfl, hx⟩
      obtain ⟨i, hi, a, rfl, ha⟩ := R1.get hx
      have et : (S.take (j + 1)).filter (fun i => decide (i.1 = p)) = (S.take j).filter (fun i => decide (i.1 = p)) ++ (if i.1 = p then [i] else []) := by
        rw [List.take_add_one, hi, List.filter_append]
        by_cases z : i.1 = p
        · simp [z]
        · simp [z]
      have hl : (((S.take j).filter (fun i => decide (i.1 = p))).map Prod.snd).length ≤ 63 := by
        rw [List.length_map]
        have h5 : ((S.take j).filter (fun i => decide (i.1 = p))).length ≤ (S.take j).length := List.length_filter_le ..
        rw [List.length_take] at h5
        omega
      refine ⟨a, _, rfl, SqT.of (s4 _ _ ha), rfl, _, _, rfl, _, _, rfl, rfl, rfl, ?_⟩
      refine ⟨_, rfl, _, rfl, rfl, _, rfl, ?_⟩
      rw [et]
      by_cases z : i.1 = p
      · rw [if_pos z, decide_eq_true (congrArg V.int z)]
        refine iteT ⟨_, rfl, _, hN4, small1000 (by rw [List.length_map]; omega), same_mut s4 hN, ?_⟩
        rw [upd_same, List.map_append, List.map_append]
        rfl
      · rw [if_neg z, decide_eq_false (fun y => z (V.int.inj y)), List.append_nil]
        exact iteF ⟨s4, hN4⟩
    · rintro H2 ⟨s2, hN2⟩
      rw [List.take_of_length_le (by rw [R1.len]; exact Nat.le_refl _)] at hN2
      refine q N H2 _ S (extN_same e1 s2) (T1.ext s2) hN2 (fun n => ?_) ?_ F
      · rw [List.mem_map]
        constructor
        · rintro ⟨i, hi, rfl⟩
          obtain ⟨h1, h2⟩ := List.mem_filter.mp hi
          rw [← of_decide_eq_true h2]
          exact h1
        · intro h
          exact ⟨(p, n), List.mem_filter.mpr ⟨h, decide_eq_true rfl⟩, rfl⟩
      · rw [List.length_map]
        have h5 : (S.filter (fun i => decide (i.1 = p))).length ≤ S.length := List.length_filter_le ..
        omega
theorem act_head {H : Hp} {c : Addr} {u : U} (h : ActAt H c u) : ∃ w ws, H c = some (.tup (.str w :: ws)) ∧ decide (V.str w = V.str ("undo" : Str)) = u.t.isSome := by
  unfold ActAt at h
  cases e : u.t with
  | none =>
    rw [e] at h
    obtain ⟨z, h1, _⟩ := h
    exact ⟨_, _, h1, decide_eq_false fun y => absurd (V.str.inj y) (by decide +kernel)⟩
  | some t =>
    rw [e] at h
    exact ⟨_, _, h, decide_eq_true rfl⟩
def IsPlain (D : List U) (p n : Int) : Prop := ∃ u ∈ D, u.p = p ∧ u.n = n ∧ u.t = none
theorem force_in {D : List U} {S : List (Int × Int)} {p n : Int} (F : Force D S) (h : (p, n) ∈ S) : ∃ u ∈ ofP D p, u.n = n := by
  obtain ⟨u, hu, e⟩ := List.mem_map.mp ((F _).mp h).1
  have e1 : u.p = p := congrArg Prod.fst e
  have e2 : u.n = n := congrArg Prod.snd e
  exact ⟨u, ofP_mem.mpr ⟨hu, e1⟩, e2⟩
theorem plain_of {D : List U} {u : U} {p : Int} (nd : (D.map U.id).Nodup) (hu : u ∈ ofP D p) : IsPlain D p u.n ↔ u.t = none := by
  obtain ⟨h1, h2⟩ := ofP_mem.mp hu
  constructor
  · rintro ⟨w, hw, e1, e2, e3⟩
    have : w = u := by
      obtain ⟨i, hi⟩ := List.mem_iff_getElem?.mp hw
      obtain ⟨j, hj⟩ := List.mem_iff_getElem?.mp h1
      obtain ⟨g1, g2⟩ := List.getElem?_eq_some_iff.mp hi
      obtain ⟨g3, g4⟩ := List.getElem?_eq_some_iff.mp hj
      have n := List.pairwise_iff_getElem.mp nd
      have e : w.id = u.id := Prod.ext (e1.trans h2.symm) e2
      rcases Nat.lt_trichotomy i j with z | z | z
      · have := n i j (by rw [List.length_map]; exact g1) (by rw [List.length_map]; exact g3) z
        rw [List.getElem_map, List.getElem_map, g2, g4] at this
        exact absurd e this
      · subst z
        rw [← g2, ← g4]
      · have := n j i (by rw [List.length_map]; exact g3) (by rw [List.length_map]; exact g1) z
        rw [List.getElem_map, List.getElem_map, g2, g4] at this
        exact absurd e.symm this
    rw [← this]
    exact e3
  · intro e
    exact ⟨u, h1, h2, rfl, e⟩
def spUT (K : PySem.W.Frag) (T : List (Addr × Str)) : Sp := fun vs H Q _ => ∃ (L : Addr) (rs : List V) (D : List U) (p : Int), vs = [.ref L, .int p] ∧ EdsAt K H L rs D ∧ LamX.Tabs T H ∧
  ∀ (H' : Hp) (r : Option Int) (S : List (Int × Int)), LamX.ExtN H H' → LamX.Tabs T H' → Force D S → MaxOf r (fun n => (p, n) ∈ S ∧ IsPlain D p n) → Q (optV r) H'
theorem okUndoTarget (T : Txt K mg) {c tp : Addr} (B : TabF K base mg T.fInForce c tp) : FnOk P w K mg base CX0 7 T.fUndoTarget T.fdUndoTarget ["edits", "person"] (spUT K [(tp, qLam)]) := by
  refine T.FUndoTarget.ok scUndoTarget (fun vs H Q E h => ?_) (fun cdv A outer s H vs Q E hr h => ?_)
  · obtain ⟨L, rs, D, p, rfl, _⟩ := h
    rfl
  · obtain ⟨L, rs, D, p, rfl, hE, hT, q⟩ := h
    -- slots edits=0 person=1 actions=2 numbers=3 number=4
    refine ⟨_, (pss_cons (ps_set (i := 2) scUndoTarget.nd rfl (Or.inr rfl) (pe_call (okOwnActions T) (hr.mono (by decide)) (by rfl) T.gOwnActions T.FOwnActions.kp T.bOwnActions .nil pass0 (pa_cons (pv 0) (pa_cons (pv 1) pa_nil))))
        (pss_cons (ps_setLc (i := 3) (own := [("number", 4)]) (g := gName 4) rfl scUndoTarget.nd rfl rfl (sw_true rfl rfl rfl (by decide +kernel)) (pi_list (pe_call (okOwnInForce T B) (hr.mono (by decide)) (by rfl) T.gOwnInForce T.FOwnInForce.kp T.bOwnInForce .nil pass0 (pa_cons (pv 0) (pa_cons (pv 1) pa_nil)))) (blkOk_by (own := [("number", 4)]) (N := ["edits", "person", "actions", "numbers", "number"]) (sc := defScope sUndoTarget) (by decide +kernel)) (fun _ _ _ _ _ => (pg_name (i := 4) scUndoTarget.nd rfl (Or.inl rfl))) (fun _ _ _ _ _ => (pts_one (pt_cmpR op_ne (pe_ix (ix_tupK (K := K) rfl) (pe_dget (units2 hr) (pv 2) (pv 4) (fun _ _ => rfl)) pe_int (fun _ _ => rfl)) pe_str (nomark _)))) (fun _ _ _ _ _ => (pv 4)))
        (pss_one (ps_ret (pe_callBK (cr_maxDf rfl hr.units) (by rfl) T.z_max (by decide +kernel) (pa_cons (pv 3) pa_nil) (pk_cons pe_non pk_nil)))))), ?_⟩
    refine ⟨_, rfl, _, rfl, L, rs, D, p, rfl, hE.sq, hE.rep, hE.nd, hE.len, fun d H1 kvs s1 hd0 hd Ks => ?_⟩
    refine ⟨_, rfl, _, rfl, L, rs, D, p, rfl, hE.same s1, hT.ext s1, fun n0 H2 ns S e2 T2 hn2 mem nl F => ⟨n0, rfl, ⟨_, SqL.of hn2⟩, fun N hN => ?_⟩⟩
    have hd2 : H2 d = some (.dK kvs) := e2 _ _ hd fun ps z => by cases z
    have Ks2 := Ks.ts (TS.ext e2)
    classical
    refine lc_it (walk_list (a := n0) (xs := ns.map V.int)) (fun j H' => Same H2 H' ∧ H' N = some (.lst (((ns.take j).filter fun n => decide (IsPlain D p n)).map V.int))) ⟨same_new hN, upd_same⟩ (fun j H' _ h => SqL.of (h.1 _ _ hn2)) ?_ ?_
    · rintro j x H9 H4 hj ⟨s4, hN4⟩ ⟨rfl, hx⟩
      rw [List.getElem?_map] at hx
      obtain ⟨n, hn, rfl⟩ : ∃ n, ns[j]? = some n ∧ V.int n = x := by
        cases e : ns[j]? with
        | none =>
          rw [e] at hx
          cases hx
        | some y =>
          rw [e] at hx
          exact ⟨y, rfl, Option.some.inj hx⟩
      obtain ⟨u, hu, e⟩ := force_in F ((mem n).mp (List.mem_of_getElem? hn))
      subst e
      obtain ⟨c, ec, hc⟩ := (Ks2.ts (TS.of s4)).get (ofP_nd hE.nd) u hu
      have dg : DGet H4 d (.int u.n) (some (.ref c)) := by
        rw [← ec]
        exact DGet.k (k := .inl u.n) (s4 _ _ hd2)
      have et : (ns.take (j + 1)).filter (fun n => decide (IsPlain D p n)) = (ns.take j).filter (fun n => decide (IsPlain D p n)) ++ (if IsPlain D p u.n then [u.n] else []) := by
        rw [List.take_add_one, hn, List.filter_append]
        by_cases z : IsPlain D p u.n
        · simp [z]
        · simp [z]
      have hl : ((ns.take j).filter (fun n => decide (IsPlain D p n))).length ≤ 63 := by
        have h5 : ((ns.take j).filter (fun n => decide (IsPlain D p n))).length ≤ (ns.take j).length := List.length_filter_le ..
        rw [List.length_take] at h5
        omega
      have pl := plain_of hE.nd hu
      refine ⟨rfl, ?_⟩
      rw [et]
      obtain ⟨w, ws, hw, ew⟩ := act_head hc
      refine ⟨_, rfl, _, rfl, d, .ref c, rfl, dg, c, _, _, _, rfl, rfl, SqT.of hw, atI_nat (j := 0) rfl, rfl, _, rfl, ?_⟩
      rw [ew]
      cases ht : u.t with
      | none =>
        rw [if_pos (pl.mpr ht)]
        refine iteT ⟨_, rfl, _, hN4, small1000 (by rw [List.length_map]; omega), same_mut s4 hN, ?_⟩
        rw [upd_same, List.map_append]
        rfl
      | some t =>
        have np : ¬ IsPlain D p u.n := fun z => by
          rw [pl.mp z] at ht
          cases ht
        rw [if_neg np, List.append_nil]
        exact iteF ⟨s4, hN4⟩
    · rintro H3 ⟨s3, hN3⟩
      rw [List.take_of_length_le (by rw [List.length_map]; exact Nat.le_refl _)] at hN3
      refine ⟨_, rfl, N, _, rfl, rfl, SqL.of hN3, fun r hr => ?_⟩
      refine q H3 r S (extN_same ((LamX.ExtN.of s1).trans e2) s3) (T2.ext s3) F (hr.iff fun n => ?_)
      rw [List.mem_filter, mem n, decide_eq_true_iff]
def Wf (D : List U) (p : Int) : Prop := ∀ u ∈ ofP D p, ∀ t, u.t = some t → ∃ w ∈ ofP D p, w.n = t
def UndoesPlain (D : List U) (p n : Int) : Prop := ∃ u ∈ ofP D p, u.n = n ∧ ∃ t, u.t = some t ∧ IsPlain D p t
noncomputable instance instUP {D : List U} {p n : Int} : Decidable (UndoesPlain D p n) := Classical.propDecidable _
theorem ofP_one {D : List U} {p : Int} (nd : (D.map U.id).Nodup) {u w : U} (hu : u ∈ ofP D p) (hw : w ∈ ofP D p) (e : u.n = w.n) : u = w := by
  have h := ofP_nd (p := p) nd
  obtain ⟨i, hi⟩ := List.mem_iff_getElem?.mp hu
  obtain ⟨j, hj⟩ := List.mem_iff_getElem?.mp hw
  obtain ⟨g1, g2⟩ := List.getElem?_eq_some_iff.mp hi
  obtain ⟨g3, g4⟩ := List.getElem?_eq_some_iff.mp hj
  have n := List.pairwise_iff_getElem.mp h
  rcases Nat.lt_trichotomy i j with z | z | z
  · have := n i j (by rw [List.length_map]; exact g1) (by rw [List.length_map]; exact g3) z
    rw [List.getElem_map, List.getElem_map, g2, g4] at this
    exact absurd e this
  · subst z
    rw [← g2, ← g4]
  · have := n j i (by rw [List.length_map]; exact g3) (by rw [List.length_map]; exact g1) z
    rw [List.getElem_map, List.getElem_map, g2, g4] at this
    exact absurd e.symm this
theorem undoes_of {D : List U} {p : Int} (nd : (D.map U.id).Nodup) {u : U} (hu : u ∈ ofP D p) : UndoesPlain D p u.n ↔ ∃ t, u.t = some t ∧ IsPlain D p t := by
  constructor
  · rintro ⟨w, hw, e, h⟩
    rw [← ofP_one nd hw hu e]
    exact h
  · intro h
    exact ⟨u, hu, rfl, h⟩
def spUPE (K : PySem.W.Frag) : Sp := fun vs H Q _ => ∃ (d : Addr) (kvs : List (Key × V)) (D : List U) (p : Int) (u : U), vs = [.ref d, .int u.n] ∧ H d = some (.dK kvs) ∧ KsAt H kvs (ofP D p) ∧ (D.map U.id).Nodup ∧ u ∈ ofP D p ∧ Wf D p ∧ Q (.bl (decide (UndoesPlain D p u.n))) H
theorem okUndoesAPlainEdit (T : Txt K mg) : FnOk P w K mg base CX0 1 T.fUndoesAPlainEdit T.fdUndoesAPlainEdit ["actions", "number"] (spUPE K) := by
  refine T.FUndoesAPlainEdit.ok scUndoesAPlainEdit (fun vs H Q E h => ?_) (fun cdv A outer s H vs Q E hr h => ?_)
  · obtain ⟨d, kvs, D, p, u, rfl, _⟩ := h
    rfl
  · obtain ⟨d, kvs, D, p, u, rfl, hd, Ks, nd, hu, wf, q⟩ := h
    -- slots actions=0 number=1 action=2
    refine ⟨_, (pss_cons (ps_set (i := 2) scUndoesAPlainEdit.nd rfl (Or.inl rfl) (pe_dget (units2 hr) (pv 0) (pv 1) (fun _ _ => rfl)))
        (pss_one (ps_ret (pe_and (pe_cmpR op_eq (pe_ix ix_tup (pv 2) pe_int (fun _ _ => rfl)) pe_str (nomark _)) (pe_one (pe_cmpR op_ne (pe_ix ix_tup (pe_dget (units2 hr) (pv 0) (pe_ix ix_tup (pv 2) pe_int (fun _ _ => rfl)) (fun _ _ => rfl)) pe_int (fun _ _ => rfl)) pe_str (nomark _))))))), ?_⟩
    have un := undoes_of nd hu
    obtain ⟨c, ec, hc⟩ := Ks.get (ofP_nd nd) u hu
    have dg : DGet H d (.int u.n) (some (.ref c)) := by
      rw [← ec]
      exact DGet.k (k := .inl u.n) hd
    refine ⟨_, rfl, _, rfl, d, .ref c, rfl, dg, ?_⟩
    obtain ⟨w, ws, hw, ew⟩ := act_head hc
    refine ⟨_, rfl, c, _, _, _, rfl, rfl, SqT.of hw, atI_nat (j := 0) rfl, rfl, _, rfl, ?_⟩
    rw [ew]
    cases ht : u.t with
    | none =>
      have e : decide (UndoesPlain D p u.n) = false := decide_eq_false fun z => by
        obtain ⟨t, e, _⟩ := un.mp z
        rw [ht] at e
        cases e
      rw [e] at q
      exact iteF q
    | some t =>
      obtain ⟨u2, hu2, e2⟩ := wf u hu t ht
      subst e2
      obtain ⟨c2, ec2, hc2⟩ := Ks.get (ofP_nd nd) u2 hu2
      have dg2 : DGet H d (.int u2.n) (some (.ref c2)) := by
        rw [← ec2]
        exact DGet.k (k := .inl u2.n) hd
      unfold ActAt at hc
      rw [ht] at hc
      have hc : H c = some (.tup [.str "undo", .int u2.n]) := hc
      obtain ⟨w2, ws2, hw2, ew2⟩ := act_head hc2
      refine iteT ⟨_, rfl, _, rfl, c, _, _, _, rfl, rfl, SqT.of hc, atI_nat (j := 1) rfl, d, .ref c2, rfl, dg2, c2, _, _, _, rfl, rfl, SqT.of hw2, atI_nat (j := 0) rfl, rfl, ?_⟩
      rw [ew2]
      have e : decide (UndoesPlain D p u.n) = !u2.t.isSome := by
        have pl := plain_of nd hu2
        cases h2 : u2.t with
        | none => exact decide_eq_true (un.mpr ⟨_, ht, pl.mpr h2⟩)
        | some t2 =>
          refine decide_eq_false fun z => ?_
          obtain ⟨t, e, h⟩ := un.mp z
          rw [ht] at e
          rw [← Option.some.inj e] at h
          rw [pl.mp h] at h2
          cases h2
      rw [← e]
      exact q
theorem TS.any {H : Hp} {d : Addr} {o0 o : HO} (h : H d = some o0) (n : ∀ xs, o0 ≠ .tup xs) : TS H (upd H d o) := fun p us e => by
  rw [upd_ne]
  · exact e
  · intro z
    rw [z, h] at e
    exact n us (Option.some.inj e)
noncomputable instance instPl {D : List U} {p m : Int} : Decidable (∃ n, IsPlain D p n ∧ m < n) := Classical.propDecidable _
def RedoOf (D : List U) (p : Int) (S : List (Int × Int)) (r : Option Int) : Prop := ∃ tgt, MaxOf tgt (fun n => (p, n) ∈ S ∧ UndoesPlain D p n) ∧ r = match tgt with
  | none => none
  | some m => if ∃ n, IsPlain D p n ∧ m < n then none else some m
def spRT (K : PySem.W.Frag) (T : List (Addr × Str)) : Sp := fun vs H Q _ => ∃ (L : Addr) (rs : List V) (D : List U) (p : Int), vs = [.ref L, .int p] ∧ EdsAt K H L rs D ∧ Wf D p ∧ LamX.Tabs T H ∧
  ∀ (H' : Hp) (r : Option Int) (S : List (Int × Int)), LamX.ExtN H H' → LamX.Tabs T H' → Force D S → RedoOf D p S r → Q (optV r) H'
theorem okRedoTarget (T : Txt K mg) {c tp : Addr} (B : TabF K base mg T.fInForce c tp) : FnOk P w K mg base CX0 7 T.fRedoTarget T.fdRedoTarget ["edits", "person"] (spRT K [(tp, qLam)]) := by
  refine T.FRedoTarget.ok scRedoTarget (fun vs H Q E h => ?_) (fun cdv A outer s H vs Q E hr h => ?_)
  · obtain ⟨L, rs, D, p, rfl, _⟩ := h
    rfl
  · obtain ⟨L, rs, D, p, rfl, hE, wf, hT, q⟩ := h
    -- slots edits=0 person=1 actions=2 numbers=3 target=4 number=5
    refine ⟨_, (pss_cons (ps_set (i := 2) scRedoTarget.nd rfl (Or.inr rfl) (pe_call (okOwnActions T) (hr.mono (by decide)) (by rfl) T.gOwnActions T.FOwnActions.kp T.bOwnActions .nil pass0 (pa_cons (pv 0) (pa_cons (pv 1) pa_nil))))
        (pss_cons (ps_setLc (i := 3) (own := [("number", 5)]) (g := gName 5) rfl scRedoTarget.nd rfl rfl (sw_true rfl rfl rfl (by decide +kernel)) (pi_list (pe_call (okOwnInForce T B) (hr.mono (by decide)) (by rfl) T.gOwnInForce T.FOwnInForce.kp T.bOwnInForce .nil pass0 (pa_cons (pv 0) (pa_cons (pv 1) pa_nil)))) (blkOk_by (own := [("number", 5)]) (N := ["edits", "person", "actions", "numbers", "target", "number"]) (sc := defScope sRedoTarget) (by decide +kernel)) (fun _ _ _ _ _ => (pg_name (i := 5) scRedoTarget.nd rfl (Or.inl rfl))) (fun _ _ _ _ _ => (pts_one (pt_val (pe_call (okUndoesAPlainEdit T) (hr.mono (by decide)) (by rfl) T.gUndoesAPlainEdit T.FUndoesAPlainEdit.kp T.bUndoesAPlainEdit .nil pass0 (pa_cons (pv 2) (pa_cons (pv 5) pa_nil)))))) (fun _ _ _ _ _ => (pv 5)))
        (pss_cons (ps_set (i := 4) scRedoTarget.nd rfl (Or.inr rfl) (pe_callBK (cr_maxDf rfl hr.units) (by rfl) T.z_max (by decide +kernel) (pa_cons (pv 3) pa_nil) (pk_cons pe_non pk_nil)))
        (pss_cons (ps_if (PW.pt (pw_or (pt_cmpR op_isN (pv 4) pe_non (nomark _)) (pw_or1 (pt_val (pe_callB (cr_any rfl) (by rfl) T.z_any (by decide +kernel) (pa_cons (pe_lock (pe_lc (own := [("number", 5)]) (g := gName 5) (tt := tYes) rfl scRedoTarget.nd (pi_keys (pv 2)) (blkOk_by (own := [("number", 5)]) (N := ["edits", "person", "actions", "numbers", "target", "number"]) (sc := defScope sRedoTarget) (by decide +kernel)) (fun _ _ _ _ _ => (pg_name (i := 5) scRedoTarget.nd rfl (Or.inl rfl))) (fun _ _ _ _ _ => pts_nil) (fun _ _ _ _ _ => (pe_and (pe_cmpR op_gt (pv 5) (pv 4) (nomark _)) (pe_one (pe_cmpR op_ne (pe_ix (ix_tupK (K := K) rfl) (pe_dget (units2 hr) (pv 2) (pv 5) (fun _ _ => rfl)) pe_int (fun _ _ => rfl)) pe_str (nomark _))))))) pa_nil))))))
          (pss_one (ps_ret pe_non))
          pss_nil)
        (pss_one (ps_ret (pv 4))))))), ?_⟩
    refine ⟨_, rfl, _, rfl, L, rs, D, p, rfl, hE.sq, hE.rep, hE.nd, hE.len, fun d H1 kvs s1 hd0 hd Ks => ?_⟩
    refine ⟨_, rfl, _, rfl, L, rs, D, p, rfl, hE.same s1, hT.ext s1, fun n0 H2 ns S e2 T2 hn2 mem nl F => ⟨n0, rfl, ⟨_, SqL.of hn2⟩, fun N hN => ?_⟩⟩
    have hd2 : H2 d = some (.dK kvs) := e2 _ _ hd fun ps z => by cases z
    have Ks2 := Ks.ts (TS.ext e2)
    refine lc_it (walk_list (a := n0) (xs := ns.map V.int)) (fun j H' => Same H2 H' ∧ H' N = some (.lst (((ns.take j).filter fun n => decide (UndoesPlain D p n)).map V.int))) ⟨same_new hN, upd_same⟩ (fun j H' _ h => SqL.of (h.1 _ _ hn2)) ?_ ?_
    · rintro j x H9 H4 hj ⟨s4, hN4⟩ ⟨rfl, hx⟩
      rw [List.getElem?_map] at hx
      obtain ⟨n, hn, rfl⟩ : ∃ n, ns[j]? = some n ∧ V.int n = x := by
        cases e : ns[j]? with
        | none =>
          rw [e] at hx
          cases hx
        | some y =>
          rw [e] at hx
          exact ⟨y, rfl, Option.some.inj hx⟩
      obtain ⟨u, hu, e⟩ := force_in F ((mem n).mp (List.mem_of_getElem? hn))
      subst e
      have et : (ns.take (j + 1)).filter (fun n => decide (UndoesPlain D p n)) = (ns.take j).filter (fun n => decide (UndoesPlain D p n)) ++ (if UndoesPlain D p u.n then [u.n] else []) := by
        rw [List.take_add_one, hn, List.filter_append]
        by_cases z : UndoesPlain D p u.n
        · simp [z]
        · simp [z]
      have hl : ((ns.take j).filter (fun n => decide (UndoesPlain D p n))).length ≤ 63 := by
        have h5 : ((ns.take j).filter (fun n => decide (UndoesPlain D p n))).length ≤ (ns.take j).length := List.length_filter_le ..
        rw [List.length_take] at h5
        omega
      refine ⟨rfl, _, rfl, _, rfl, d, kvs, D, p, u, rfl, s4 _ _ hd2, Ks2.ts (TS.of s4), hE.nd, hu, wf, _, rfl, ?_⟩
      rw [et]
      by_cases z : UndoesPlain D p u.n
      · rw [if_pos z, decide_eq_true z]
        refine iteT ⟨_, rfl, _, hN4, small1000 (by rw [List.length_map]; omega), same_mut s4 hN, ?_⟩
        rw [upd_same, List.map_append]
        rfl
      · rw [if_neg z, decide_eq_false z, List.append_nil]
        exact iteF ⟨s4, hN4⟩
    rintro H3 ⟨s3, hN3⟩
    rw [List.take_of_length_le (by rw [List.length_map]; exact Nat.le_refl _)] at hN3
    have e3 := extN_same ((LamX.ExtN.of s1).trans e2) s3
    have T3 := T2.ext s3
    have hd3 := s3 _ _ hd2
    have Ks3 := Ks2.ts (TS.of s3)
    refine ⟨_, rfl, N, _, rfl, rfl, SqL.of hN3, fun tgt htgt => ?_⟩
    have hm := htgt.iff (P' := fun n => (p, n) ∈ S ∧ UndoesPlain D p n) fun n => by rw [List.mem_filter, mem n, decide_eq_true_iff]
    cases tgt with
    | none =>
      exact ⟨_, rfl, rfl, _, rfl, ite2 (fun _ => q H3 none S e3 T3 F ⟨none, hm, rfl⟩) (fun c => absurd (decide_eq_true rfl) c)⟩
    | some m =>
      refine ⟨_, rfl, rfl, _, rfl, ite2 (fun c => nomatch (of_decide_eq_true c)) (fun _ => ?_)⟩
      have nd2 : N ≠ d := fun z => by
        rw [z, hd3] at hN3
        cases hN3
      refine ⟨d, _, hd3, trivial, fun od => ⟨_, rfl, d, od, rfl, .inl ⟨kvs, upd_same, fun N2 hN2 => ?_⟩⟩⟩
      have tsf : TS H3 (upd H3 d (.frz od (.dK kvs))) := TS.any hd3 fun xs z => by cases z
      have hdf := upd_same (H := H3) (a := d) (o := .frz od (.dK kvs))
      have nN2 : N2 ≠ d := fun z => by
        rw [z, upd_same] at hN2
        cases hN2
      have hN23 : H3 N2 = none := by rw [← hN2, upd_ne nN2]
      have hle : (ofP D p).length ≤ 63 := Nat.le_trans (List.length_filter_le ..) hE.len
      refine lc_it (walk_keys (d := d) (o := od) (kvs := kvs)) (fun j H' => Same (upd H3 d (.frz od (.dK kvs))) H' ∧ ∃ bs : List Bool, H' N2 = some (.lst (bs.map V.bl)) ∧ bs.length = j ∧ (bs.any id = true ↔ ∃ i, i < j ∧ ∃ u, (ofP D p)[i]? = some u ∧ m < u.n ∧ u.t = none)) ⟨same_new hN2, [], upd_same, rfl, by simp⟩ (fun j H' _ h => h.1 _ _ hdf) ?_ ?_
      · rintro j x H9 H4 hj ⟨s4, bs, hN4, bl, hb⟩ ⟨rfl, k, v, hkv, rfl⟩
        obtain ⟨u, hu, ek, c, ev, hc⟩ := Ks3.at_ j _ hkv
        have ek : k = .inl u.n := ek
        have ev : v = .ref c := ev
        subst ek
        subst ev
        have hc4 := hc.ts (tsf.trans (TS.of s4))
        obtain ⟨w, ws, hw, ew⟩ := act_head hc4
        have hd4 := s4 _ _ hdf
        have hum := List.mem_of_getElem? hu
        obtain ⟨c', ec, _⟩ := Ks3.get (ofP_nd hE.nd) u hum
        have hkl := Ks3.len
        have ec2 : valV kvs (.inl u.n) = some (.ref c) := by
          have one : ∀ {ks : List (Key × V)} {us : List U}, KsAt H3 ks us → (us.map U.n).Nodup → ∀ (i : Nat) (u : U) (kv : Key × V), us[i]? = some u → ks[i]? = some kv → valV ks (.inl u.n) = some kv.2 := by
            intro ks us K
            induction K with
            | nil => intro _ i u kv h1 h2; simp at h1
            | @cons kv0 u0 ks us h t ih =>
              intro nd i u kv h1 h2
              obtain ⟨n1, n2⟩ := List.nodup_cons.mp nd
              cases i with
              | zero =>
                have e1 := Option.some.inj h1
                have e2 := Option.some.inj h2
                rw [← e1, ← e2]
                exact valV_pos h.1
              | succ i =>
                rw [List.getElem?_cons_succ] at h1 h2
                rw [valV_neg, ih n2 i u kv h1 h2]
                intro y
                rw [h.1] at y
                have y2 : u0.n = u.n := Sum.inl.inj y
                exact n1 (by rw [y2]; exact List.mem_map.mpr ⟨u, List.mem_of_getElem? h1, rfl⟩)
          exact one Ks3 (ofP_nd hE.nd) j u _ hu hkv
        have dg : DGet H4 d (.int u.n) (some (.ref c)) := by
          rw [← ec2]
          exact .inl ⟨kvs, .inl u.n, .inr ⟨od, hd4⟩, rfl, rfl⟩
        have step : ∀ b : Bool, (b = true ↔ m < u.n ∧ u.t = none) → ∃ acc, H4 N2 = some (HO.lst acc) ∧ acc.length < sizeLine ∧ Same (upd H3 d (.frz od (.dK kvs))) (upd H4 N2 (.lst (acc ++ [V.bl b]))) ∧ ∃ bs : List Bool, (upd H4 N2 (.lst (acc ++ [V.bl b]))) N2 = some (.lst (bs.map V.bl)) ∧ bs.length = j + 1 ∧ (bs.any id = true ↔ ∃ i, i < j + 1 ∧ ∃ u, (ofP D p)[i]? = some u ∧ m < u.n ∧ u.t = none) := fun b eb => by
          refine ⟨_, hN4, small1000 (by rw [List.length_map]; omega), same_mut s4 hN2, bs ++ [b], by rw [upd_same, List.map_append]; rfl, by rw [List.length_append, bl]; rfl, ?_⟩
          rw [List.any_append, Bool.or_eq_true, hb]
          have e1 : ([b].any id = true) ↔ (m < u.n ∧ u.t = none) := by simpa using eb
          rw [e1]
          constructor
          · rintro (⟨i, h1, h2⟩ | h)
            · exact ⟨i, by omega, h2⟩
            · exact ⟨j, by omega, u, hu, h⟩
          · rintro ⟨i, h1, u', h2, h3⟩
            rcases Nat.lt_or_ge i j with z | z
            · exact .inl ⟨i, z, u', h2, h3⟩
            · obtain rfl : i = j := by omega
              rw [hu] at h2
              rw [← Option.some.inj h2] at h3
              exact .inr h3
        refine ⟨rfl, yesT ⟨_, rfl, _, rfl, _, _, rfl, rfl, _, rfl, ite2 (fun c1 => ?_) (fun c1 => ?_)⟩⟩
        · have c1 : m < u.n := of_decide_eq_true c1
          refine ⟨_, rfl, _, rfl, d, .ref c, rfl, dg, c, _, _, _, rfl, rfl, SqT.of hw, atI_nat (j := 0) rfl, rfl, ?_⟩
          rw [ew]
          refine step _ ?_
          cases u.t with
          | none => exact ⟨fun _ => ⟨c1, rfl⟩, fun _ => rfl⟩
          | some t => exact ⟨fun z => (by cases z), fun z => (by cases z.2)⟩
        · have c2 : ¬ m < u.n := fun z => c1 (decide_eq_true z)
          exact step _ ⟨fun z => (by cases z), fun z => absurd z.1 c2⟩
      · rintro H4 ⟨s4, bs, hN4, bl, hb⟩
        have hd4 := s4 _ _ hdf
        refine ⟨hd4, N2, bs, rfl, SqL.of (by rw [upd_ne nN2]; exact hN4), ?_⟩
        have s5 : Same H3 (upd H4 d (.dK kvs)) := fun x o e => by
          by_cases z : x = d
          · rw [z, upd_same]
            rw [z, hd3] at e
            exact e
          · rw [upd_ne z]
            exact s4 _ _ (by rw [upd_ne z]; exact e)
        have ex : (∃ i, i < kvs.length ∧ ∃ u, (ofP D p)[i]? = some u ∧ m < u.n ∧ u.t = none) ↔ ∃ n, IsPlain D p n ∧ m < n := by
          constructor
          · rintro ⟨i, _, u, hu, h1, h2⟩
            have hum := List.mem_of_getElem? hu
            exact ⟨u.n, (plain_of hE.nd hum).mpr h2, h1⟩
          · rintro ⟨n, ⟨u, hu, e1, e2, e3⟩, h1⟩
            obtain ⟨i, hi⟩ := List.mem_iff_getElem?.mp (ofP_mem.mpr ⟨hu, e1⟩)
            exact ⟨i, by rw [Ks3.len]; exact (List.getElem?_eq_some_iff.mp hi).1, u, hi, by rw [e2]; exact h1, e3⟩
        rw [ex] at hb
        have e6 := extN_same e3 s5
        have T6 := T3.ext s5
        refine ⟨_, rfl, ite2 (fun c1 => ?_) (fun c1 => ?_)⟩
        · refine q _ none S e6 T6 F ⟨some m, hm, ?_⟩
          show none = if ∃ n, IsPlain D p n ∧ m < n then none else some m
          rw [if_pos (hb.mp c1)]
        · refine ⟨_, rfl, q _ (some m) S e6 T6 F ⟨some m, hm, ?_⟩⟩
          show some m = if ∃ n, IsPlain D p n ∧ m < n then none else some m
          rw [if_neg fun z => c1 (hb.mpr z)]
/-! ### two stacks -/
structure Stk (Pl : Int → Prop) (Un : Int → Int → Prop) (m : Int) (dn ud : List (Int × Int)) : Prop where
  pm : ∀ n, Pl n → 1 ≤ n ∧ n ≤ m
  um : ∀ j n, Un j n → n < j ∧ j ≤ m
  uf : ∀ j n n', Un j n → Un j n' → n = n'
  up : ∀ j n, Un j n → ¬ Pl j
  tg : ∀ j n, Un j n → Pl n ∨ ∃ q, Un n q ∧ Pl q
  d1 : ∀ n, n ∈ dn.map Prod.fst ↔ Pl n ∧ ¬ ∃ j, Un j n ∧ ¬ ∃ k, Un k j
  dn : (dn.map Prod.fst).Nodup
  u1 : ∀ x ∈ ud, Un x.2 x.1 ∧ Pl x.1 ∧ (¬ ∃ k, Un k x.2) ∧ ¬ ∃ n, Pl n ∧ x.2 < n
  ui : (ud.map Prod.snd).Pairwise (· < ·)
  u2 : ∀ j n, Un j n → Pl n → (¬ ∃ k, Un k j) → j ∉ ud.map Prod.snd → ∃ n, Pl n ∧ j < n
  uu : ∀ x ∈ ud, ∀ j, Un j x.1 → (¬ ∃ k, Un k j) → j = x.2
theorem Stk.start : Stk (fun _ => False) (fun _ _ => False) 0 [] [] :=
  ⟨fun _ h => h.elim, fun _ _ h => h.elim, fun _ _ _ h => h.elim, fun _ _ h => h.elim, fun _ _ h => h.elim, fun n => ⟨fun h => (nomatch h), fun h => h.1.elim⟩, List.nodup_nil, fun _ h => (nomatch h), .nil, fun _ _ h => h.elim, fun _ h => (nomatch h)⟩
theorem Stk.iff {Pl Pl' : Int → Prop} {Un Un' : Int → Int → Prop} {m : Int} {dn ud : List (Int × Int)} (h : Stk Pl Un m dn ud) (e1 : ∀ n, Pl' n ↔ Pl n) (e2 : ∀ j n, Un' j n ↔ Un j n) : Stk Pl' Un' m dn ud := by
  have p : Pl' = Pl := funext fun n => propext (e1 n)
  have u : Un' = Un := funext fun j => funext fun n => propext (e2 j n)
  rw [p, u]
  exact h
theorem Stk.plain {Pl : Int → Prop} {Un : Int → Int → Prop} {m : Int} {dn ud : List (Int × Int)} (h : Stk Pl Un m dn ud) (hm : 0 ≤ m) : Stk (fun n => Pl n ∨ n = m + 1) Un (m + 1) (dn ++ [(m + 1, m + 1)]) [] := by
  have nw : ∀ j, ¬ Un j (m + 1) := fun j z => by
    have := h.um _ _ z
    omega
  have nw2 : ∀ n, ¬ Un (m + 1) n := fun n z => by
    have := h.um _ _ z
    omega
  refine ⟨fun n z => ?_, fun j n z => ?_, h.uf, fun j n z y => ?_, fun j n z => ?_, fun n => ?_, ?_, fun x hx => (nomatch hx), .nil, fun j n z _ _ _ => ⟨m + 1, .inr rfl, by have := h.um _ _ z; omega⟩, fun x hx => (nomatch hx)⟩
  · rcases z with z | z
    · have := h.pm n z
      omega
    · omega
  · have := h.um _ _ z
    omega
  · rcases y with y | y
    · exact h.up _ _ z y
    · rw [y] at z
      exact nw2 _ z
  · rcases h.tg _ _ z with y | ⟨q, y, y2⟩
    · exact .inl (.inl y)
    · exact .inr ⟨q, y, .inl y2⟩
  · rw [List.map_append, List.mem_append, h.d1]
    constructor
    · rintro (⟨z1, z2⟩ | z)
      · exact ⟨.inl z1, z2⟩
      · have z : n = m + 1 := List.mem_singleton.mp z
        refine ⟨.inr z, fun ⟨j, hj, _⟩ => ?_⟩
        rw [z] at hj
        exact nw j hj
    · rintro ⟨z1 | z1, z2⟩
      · exact .inl ⟨z1, z2⟩
      · exact .inr (List.mem_singleton.mpr z1)
  · rw [List.map_append]
    refine List.nodup_append.mpr ⟨h.dn, by simp, fun a ha b hb e => ?_⟩
    have hb : b = m + 1 := List.mem_singleton.mp hb
    have := (h.pm a ((h.d1 a).mp ha).1).2
    omega
theorem Stk.undo {Pl : Int → Prop} {Un : Int → Int → Prop} {m : Int} {ds ud : List (Int × Int)} {o l : Int} (h : Stk Pl Un m (ds ++ [(o, l)]) ud) (hm : 0 ≤ m) : Stk Pl (fun j n => Un j n ∨ (j = m + 1 ∧ n = o)) (m + 1) ds (ud ++ [(o, m + 1)]) := by
  have ho : o ∈ (ds ++ [(o, l)]).map Prod.fst := by rw [List.map_append]; exact List.mem_append_right _ (List.mem_singleton.mpr rfl)
  obtain ⟨po, no⟩ := (h.d1 o).mp ho
  have om := h.pm o po
  have nP : ¬ Pl (m + 1) := fun z => by
    have := h.pm _ z
    omega
  have nU : ∀ n, ¬ Un (m + 1) n := fun n z => by
    have := h.um _ _ z
    omega
  have nT : ∀ j, ¬ Un j (m + 1) := fun j z => by
    have := h.um _ _ z
    omega
  -- who is undone
  have kk : ∀ j, j ≠ o → ((∃ k, Un k j ∨ (k = m + 1 ∧ j = o)) ↔ ∃ k, Un k j) := fun j hj => ⟨fun ⟨k, z⟩ => z.elim (fun z => ⟨k, z⟩) fun z => absurd z.2 hj, fun ⟨k, z⟩ => ⟨k, .inl z⟩⟩
  have jo : ∀ j n, Un j n → j ≠ o := fun j n z e => by
    rw [e] at z
    exact h.up _ _ z po
  have mo : m + 1 ≠ o := by omega
  have free : ¬ ∃ k, Un k (m + 1) ∨ (k = m + 1 ∧ m + 1 = o) := fun ⟨k, z⟩ => z.elim (nT k) fun z => mo z.2
  refine ⟨fun n z => by have := h.pm n z; omega, fun j n z => ?_, fun j n n' z z' => ?_, fun j n z => ?_, fun j n z => ?_, fun n => ?_, ?_, fun x hx => ?_, ?_, fun j n z pn nk nj => ?_, fun x hx j z nk => ?_⟩
  · rcases z with z | ⟨z1, z2⟩
    · have := h.um _ _ z
      omega
    · omega
  · rcases z with z | ⟨z1, z2⟩
    · rcases z' with z' | ⟨y1, y2⟩
      · exact h.uf _ _ _ z z'
      · rw [y1] at z
        exact absurd z (nU _)
    · rcases z' with z' | ⟨y1, y2⟩
      · rw [z1] at z'
        exact absurd z' (nU _)
      · rw [z2, y2]
  · rcases z with z | ⟨z1, z2⟩
    · exact h.up _ _ z
    · rw [z1]
      exact nP
  · rcases z with z | ⟨z1, z2⟩
    · rcases h.tg _ _ z with y | ⟨q, y, y2⟩
      · exact .inl y
      · exact .inr ⟨q, .inl y, y2⟩
    · rw [z2]
      exact .inl po
  · have hn := h.d1 n
    have nd := h.dn
    rw [List.map_append] at hn nd
    obtain ⟨n1, n2, n3⟩ := List.nodup_append.mp nd
    rw [List.mem_append] at hn
    constructor
    · intro z
      obtain ⟨z1, z2⟩ := hn.mp (.inl z)
      refine ⟨z1, fun ⟨j, hj, hk⟩ => ?_⟩
      rcases hj with hj | ⟨y1, y2⟩
      · exact z2 ⟨j, hj, fun ⟨k, y⟩ => hk ⟨k, .inl y⟩⟩
      · exact n3 n z o (List.mem_singleton.mpr rfl) y2
    · rintro ⟨z1, z2⟩
      have hno : n ≠ o := fun e => z2 ⟨m + 1, .inr ⟨rfl, e⟩, free⟩
      rcases hn.mpr ⟨z1, fun ⟨j, hj, hk⟩ => z2 ⟨j, .inl hj, fun y => hk ((kk j (jo j n hj)).mp y)⟩⟩ with y | y
      · exact y
      · exact absurd (List.mem_singleton.mp y) hno
  · have nd := h.dn
    rw [List.map_append] at nd
    exact (List.nodup_append.mp nd).1
  · rcases List.mem_append.mp hx with y | y
    · obtain ⟨a1, a2, a3, a4⟩ := h.u1 x y
      exact ⟨.inl a1, a2, fun z => a3 ((kk _ (jo _ _ a1)).mp z), a4⟩
    · rw [List.mem_singleton.mp y]
      exact ⟨.inr ⟨rfl, rfl⟩, po, free, fun ⟨n, z1, z2⟩ => by have := h.pm n z1; omega⟩
  · rw [List.map_append]
    refine List.pairwise_append.mpr ⟨h.ui, List.pairwise_singleton _ _, fun a ha b hb => ?_⟩
    have hb : b = m + 1 := List.mem_singleton.mp hb
    obtain ⟨x, hx, rfl⟩ := List.mem_map.mp ha
    have := h.um _ _ (h.u1 x hx).1
    omega
  · rw [List.map_append, List.mem_append] at nj
    rcases z with z | ⟨z1, z2⟩
    · exact h.u2 j n z pn (fun ⟨k, y⟩ => nk ⟨k, .inl y⟩) fun y => nj (.inl y)
    · exact absurd (Or.inr (List.mem_singleton.mpr z1)) nj
  · rcases List.mem_append.mp hx with y | y
    · obtain ⟨a1, a2, a3, a4⟩ := h.u1 x y
      rcases z with z | ⟨z1, z2⟩
      · exact h.uu x y j z fun ⟨k, w⟩ => nk ⟨k, .inl w⟩
      · refine absurd ?_ no
        rw [← z2]
        exact ⟨x.2, a1, a3⟩
    · rw [List.mem_singleton.mp y] at z ⊢
      rcases z with z | ⟨z1, z2⟩
      · exact absurd ⟨j, z, fun ⟨k, w⟩ => nk ⟨k, .inl w⟩⟩ no
      · exact z1
theorem Stk.redo {Pl : Int → Prop} {Un : Int → Int → Prop} {m : Int} {dn us : List (Int × Int)} {o u : Int} (h : Stk Pl Un m dn (us ++ [(o, u)])) (hm : 0 ≤ m) : Stk Pl (fun j n => Un j n ∨ (j = m + 1 ∧ n = u)) (m + 1) (dn ++ [(o, m + 1)]) us := by
  have hu : (o, u) ∈ us ++ [(o, u)] := List.mem_append_right _ (List.mem_singleton.mpr rfl)
  obtain ⟨uo, po, nu, nl⟩ := h.u1 _ hu
  have uo : Un u o := uo
  have po : Pl o := po
  have om := h.pm o po
  have umb := h.um _ _ uo
  have nP : ¬ Pl (m + 1) := fun z => by
    have := h.pm _ z
    omega
  have nU : ∀ n, ¬ Un (m + 1) n := fun n z => by
    have := h.um _ _ z
    omega
  have nT : ∀ j, ¬ Un j (m + 1) := fun j z => by
    have := h.um _ _ z
    omega
  have pu : ¬ Pl u := h.up _ _ uo
  have redone : ∃ k, Un k u ∨ (k = m + 1 ∧ u = u) := ⟨m + 1, .inr ⟨rfl, rfl⟩⟩
  have kk : ∀ j, j ≠ u → ((∃ k, Un k j ∨ (k = m + 1 ∧ j = u)) ↔ ∃ k, Un k j) := fun j hj => ⟨fun ⟨k, z⟩ => z.elim (fun z => ⟨k, z⟩) fun z => absurd z.2 hj, fun ⟨k, z⟩ => ⟨k, .inl z⟩⟩
  have lt : ∀ x ∈ us, x.2 < u := fun x hx => by
    have := h.ui
    rw [List.map_append] at this
    exact (List.pairwise_append.mp this).2.2 x.2 (List.mem_map.mpr ⟨x, hx, rfl⟩) u (List.mem_singleton.mpr rfl)
  have hui := h.ui
  rw [List.map_append] at hui
  refine ⟨fun n z => by have := h.pm n z; omega, fun j n z => ?_, fun j n n' z z' => ?_, fun j n z => ?_, fun j n z => ?_, fun n => ?_, ?_, fun x hx => ?_, (List.pairwise_append.mp hui).1, fun j n z pn nk nj => ?_, fun x hx j z nk => ?_⟩
  · rcases z with z | ⟨z1, z2⟩
    · have := h.um _ _ z
      omega
    · omega
  · rcases z with z | ⟨z1, z2⟩
    · rcases z' with z' | ⟨y1, y2⟩
      · exact h.uf _ _ _ z z'
      · rw [y1] at z
        exact absurd z (nU _)
    · rcases z' with z' | ⟨y1, y2⟩
      · rw [z1] at z'
        exact absurd z' (nU _)
      · rw [z2, y2]
  · rcases z with z | ⟨z1, z2⟩
    · exact h.up _ _ z
    · rw [z1]
      exact nP
  · rcases z with z | ⟨z1, z2⟩
    · rcases h.tg _ _ z with y | ⟨q, y, y2⟩
      · exact .inl y
      · exact .inr ⟨q, .inl y, y2⟩
    · rw [z2]
      exact .inr ⟨o, .inl uo, po⟩
  · have hn := h.d1 n
    rw [List.map_append, List.mem_append, hn]
    constructor
    · rintro (⟨z1, z2⟩ | z)
      · refine ⟨z1, fun ⟨j, hj, hk⟩ => ?_⟩
        rcases hj with hj | ⟨y1, y2⟩
        · exact z2 ⟨j, hj, fun ⟨k, y⟩ => hk ⟨k, .inl y⟩⟩
        · rw [y2] at z1
          exact pu z1
      · have z : n = o := List.mem_singleton.mp z
        rw [z]
        refine ⟨po, fun ⟨j, hj, hk⟩ => ?_⟩
        rcases hj with hj | ⟨y1, y2⟩
        · have e : j = u := h.uu _ hu j hj fun ⟨k, y⟩ => hk ⟨k, .inl y⟩
          rw [e] at hk
          exact hk redone
        · rw [y2] at po
          exact pu po
    · rintro ⟨z1, z2⟩
      by_cases e : n = o
      · exact .inr (List.mem_singleton.mpr e)
      · refine .inl ⟨z1, fun ⟨j, hj, hk⟩ => ?_⟩
        have ju : j ≠ u := fun y => by
          rw [y] at hj
          exact e (h.uf _ _ _ hj uo)
        exact z2 ⟨j, .inl hj, fun y => hk ((kk j ju).mp y)⟩
  · rw [List.map_append]
    refine List.nodup_append.mpr ⟨h.dn, by simp, fun a ha b hb e => ?_⟩
    have hb : b = o := List.mem_singleton.mp hb
    rw [e, hb] at ha
    exact ((h.d1 o).mp ha).2 ⟨u, uo, nu⟩
  · obtain ⟨a1, a2, a3, a4⟩ := h.u1 x (List.mem_append_left _ hx)
    have := lt x hx
    exact ⟨.inl a1, a2, fun z => a3 ((kk _ (by omega)).mp z), a4⟩
  · rcases z with z | ⟨z1, z2⟩
    · have ju : j ≠ u := fun y => by
        rw [y] at nk
        exact nk redone
      refine h.u2 j n z pn (fun ⟨k, y⟩ => nk ⟨k, .inl y⟩) fun y => ?_
      rw [List.map_append, List.mem_append] at y
      rcases y with y | y
      · exact nj y
      · exact ju (List.mem_singleton.mp y)
    · rw [z2] at pn
      exact absurd pn pu
  · obtain ⟨a1, a2, a3, a4⟩ := h.u1 x (List.mem_append_left _ hx)
    rcases z with z | ⟨z1, z2⟩
    · exact h.uu x (List.mem_append_left _ hx) j z fun ⟨k, w⟩ => nk ⟨k, .inl w⟩
    · rw [z2] at a2
      exact absurd a2 pu
/-! ### the edits and the stacks -/
def UnD (D : List U) (j n : Int) : Prop := ∃ u ∈ D, u.p = 1 ∧ u.n = j ∧ u.t = some n
structure LD (D : List U) (m o : Nat) (dn ud : List (Int × Int)) : Prop where
  nd : (D.map U.id).Nodup
  len : D.length = m + o
  p1 : ∀ u ∈ D, u.p = 1 → 1 ≤ u.n ∧ u.n ≤ m
  ex : ∀ n : Int, 1 ≤ n → n ≤ m → ∃ u ∈ D, u.p = 1 ∧ u.n = n
  pp : ∀ u ∈ D, u.p = 1 ∨ (u.p = 2 ∧ u.t = none ∧ 1 ≤ u.n ∧ u.n ≤ o)
  stk : Stk (IsPlain D 1) (UnD D) m dn ud
  sz : dn.length + ud.length ≤ m
theorem LD.start : LD [] 0 0 [] [] := ⟨.nil, rfl, fun _ h => (nomatch h), fun n h1 h2 => by omega, fun _ h => (nomatch h), Stk.start.iff (fun n => ⟨fun ⟨_, h, _⟩ => (nomatch h), fun h => h.elim⟩) fun j n => ⟨fun ⟨_, h, _⟩ => (nomatch h), fun h => h.elim⟩, Nat.le_refl _⟩
theorem LD.wf {D : List U} {m o : Nat} {dn ud : List (Int × Int)} (h : LD D m o dn ud) (p : Int) : Wf D p := fun u hu t ht => by
  obtain ⟨h1, h2⟩ := ofP_mem.mp hu
  rcases h.pp u h1 with e | ⟨_, e, _⟩
  · have hp : p = 1 := h2.symm.trans e
    subst hp
    have un : UnD D u.n t := ⟨u, h1, e, rfl, ht⟩
    rcases h.stk.tg _ _ un with ⟨w, hw, e1, e2, _⟩ | ⟨q, ⟨w, hw, e1, e2, _⟩, _⟩
    · exact ⟨w, ofP_mem.mpr ⟨hw, e1⟩, e2⟩
    · exact ⟨w, ofP_mem.mpr ⟨hw, e1⟩, e2⟩
  · rw [ht] at e
    cases e
section
variable {D : List U} {m o : Nat} {dn ud : List (Int × Int)} {S : List (Int × Int)}
theorem LD.f0 (h : LD D m o dn ud) (F : Force D S) (n : Int) : (1, n) ∈ S ↔ (∃ u ∈ D, u.p = 1 ∧ u.n = n) ∧ ¬ ∃ j, UnD D j n ∧ (1, j) ∈ S := by
  rw [F (1, n)]
  have e1 : ((1 : Int), n) ∈ D.map U.id ↔ ∃ u ∈ D, u.p = 1 ∧ u.n = n := by
    rw [List.mem_map]
    constructor
    · rintro ⟨u, hu, e⟩
      exact ⟨u, hu, congrArg Prod.fst e, congrArg Prod.snd e⟩
    · rintro ⟨u, hu, e1, e2⟩
      exact ⟨u, hu, Prod.ext e1 e2⟩
  have e2 : (∃ u ∈ D, u.id ∈ S ∧ Undoes u (1, n)) ↔ ∃ j, UnD D j n ∧ (1, j) ∈ S := by
    constructor
    · rintro ⟨u, hu, hs, h1, h2, h3⟩
      refine ⟨u.n, ⟨u, hu, h1, rfl, h2⟩, ?_⟩
      have : u.id = (1, u.n) := Prod.ext h1 rfl
      rw [← this]
      exact hs
    · rintro ⟨j, ⟨u, hu, h1, h2, h3⟩, hs⟩
      have := h.stk.um j n ⟨u, hu, h1, h2, h3⟩
      refine ⟨u, hu, ?_, h1, h3, by show n < u.n; omega⟩
      have : u.id = (1, j) := Prod.ext h1 h2
      rw [this]
      exact hs
  rw [e1, e2]
theorem LD.fredo (h : LD D m o dn ud) (F : Force D S) {k j n : Int} (h1 : UnD D k j) (h2 : UnD D j n) (h3 : IsPlain D 1 n) : (1, k) ∈ S := by
  rw [h.f0 F]
  obtain ⟨u, hu, e1, e2, _⟩ := id h1
  refine ⟨⟨u, hu, e1, e2⟩, fun ⟨x, hx, _⟩ => ?_⟩
  rcases h.stk.tg _ _ hx with y | ⟨q, y, y2⟩
  · exact h.stk.up _ _ h1 y
  · rw [h.stk.uf _ _ _ y h1] at y2
    exact h.stk.up _ _ h2 y2
theorem LD.fundo (h : LD D m o dn ud) (F : Force D S) {j n : Int} (h2 : UnD D j n) (h3 : IsPlain D 1 n) : (1, j) ∈ S ↔ ¬ ∃ k, UnD D k j := by
  rw [h.f0 F]
  obtain ⟨u, hu, e1, e2, _⟩ := id h2
  constructor
  · rintro ⟨_, z⟩ ⟨k, hk⟩
    exact z ⟨k, hk, h.fredo F hk h2 h3⟩
  · intro z
    exact ⟨⟨u, hu, e1, e2⟩, fun ⟨k, hk, _⟩ => z ⟨k, hk⟩⟩
theorem LD.fplain (h : LD D m o dn ud) (F : Force D S) (n : Int) : ((1, n) ∈ S ∧ IsPlain D 1 n) ↔ n ∈ dn.map Prod.fst := by
  rw [h.stk.d1, h.f0 F]
  constructor
  · rintro ⟨⟨_, z⟩, hp⟩
    exact ⟨hp, fun ⟨j, hj, hk⟩ => z ⟨j, hj, (h.fundo F hj hp).mpr hk⟩⟩
  · rintro ⟨hp, z⟩
    obtain ⟨u, hu, e1, e2, _⟩ := id hp
    exact ⟨⟨⟨u, hu, e1, e2⟩, fun ⟨j, hj, hs⟩ => z ⟨j, hj, (h.fundo F hj hp).mp hs⟩⟩, hp⟩
theorem up_iff (n : Int) : UndoesPlain D 1 n ↔ ∃ q, UnD D n q ∧ IsPlain D 1 q := by
  constructor
  · rintro ⟨u, hu, e, t, h1, h2⟩
    obtain ⟨g1, g2⟩ := ofP_mem.mp hu
    exact ⟨t, ⟨u, g1, g2, e, h1⟩, h2⟩
  · rintro ⟨q, ⟨u, hu, e1, e2, e3⟩, h2⟩
    exact ⟨u, ofP_mem.mpr ⟨hu, e1⟩, e2, q, e3, h2⟩
theorem LD.redo_of (h : LD D m o dn ud) (F : Force D S) {r : Option Int} (hr : RedoOf D 1 S r) : r = (ud.getLast?).map Prod.snd := by
  obtain ⟨tgt, hm, e⟩ := hr
  have hm2 := hm.iff (P' := fun n => (∃ q, UnD D n q ∧ IsPlain D 1 q) ∧ ¬ ∃ k, UnD D k n) fun n => by
    rw [up_iff]
    constructor
    · rintro ⟨z1, q, z2, z3⟩
      exact ⟨⟨q, z2, z3⟩, (h.fundo F z2 z3).mp z1⟩
    · rintro ⟨⟨q, z2, z3⟩, z1⟩
      exact ⟨(h.fundo F z2 z3).mpr z1, q, z2, z3⟩
  rcases List.eq_nil_or_concat ud with z | ⟨us, x, z⟩
  · subst z
    cases tgt with
    | none => exact e
    | some k =>
      obtain ⟨⟨q, z2, z3⟩, z1⟩ := hm2.1
      have := h.stk.u2 k q z2 z3 z1 (by simp)
      rw [e]
      show (if ∃ n, IsPlain D 1 n ∧ k < n then none else some k) = none
      rw [if_pos this]
  · rw [List.concat_eq_append] at z
    subst z
    obtain ⟨a1, a2, a3, a4⟩ := h.stk.u1 x (List.mem_append_right _ (List.mem_singleton.mpr rfl))
    rw [List.getLast?_concat]
    cases tgt with
    | none => exact absurd ⟨⟨_, a1, a2⟩, a3⟩ (hm2 x.2)
    | some k =>
      have hk := hm2.2 x.2 ⟨⟨_, a1, a2⟩, a3⟩
      obtain ⟨⟨q, z2, z3⟩, z1⟩ := hm2.1
      have ek : k = x.2 := by
        by_cases mem : k ∈ (us ++ [x]).map Prod.snd
        · rw [List.map_append, List.mem_append] at mem
          rcases mem with y | y
          · have hu := h.stk.ui
            rw [List.map_append] at hu
            have := (List.pairwise_append.mp hu).2.2 k y x.2 (List.mem_singleton.mpr rfl)
            omega
          · exact List.mem_singleton.mp y
        · obtain ⟨n, hn, hlt⟩ := h.stk.u2 k q z2 z3 z1 mem
          exact absurd ⟨n, hn, by omega⟩ a4
      rw [e]
      show (if ∃ n, IsPlain D 1 n ∧ k < n then none else some k) = some x.2
      rw [ek, if_neg a4]
theorem pl_app {w : U} (n : Int) : IsPlain (D ++ [w]) 1 n ↔ IsPlain D 1 n ∨ (w.p = 1 ∧ w.n = n ∧ w.t = none) := by
  constructor
  · rintro ⟨u, hu, h⟩
    rcases List.mem_append.mp hu with z | z
    · exact .inl ⟨u, z, h⟩
    · rw [List.mem_singleton.mp z] at h
      exact .inr h
  · rintro (⟨u, hu, h⟩ | h)
    · exact ⟨u, List.mem_append_left _ hu, h⟩
    · exact ⟨w, by simp, h⟩
theorem un_app {w : U} (j n : Int) : UnD (D ++ [w]) j n ↔ UnD D j n ∨ (w.p = 1 ∧ w.n = j ∧ w.t = some n) := by
  constructor
  · rintro ⟨u, hu, h⟩
    rcases List.mem_append.mp hu with z | z
    · exact .inl ⟨u, z, h⟩
    · rw [List.mem_singleton.mp z] at h
      exact .inr h
  · rintro (⟨u, hu, h⟩ | h)
    · exact ⟨u, List.mem_append_left _ hu, h⟩
    · exact ⟨w, by simp, h⟩
/-- an edit of person 1 more -/
theorem LD.more (h : LD D m o dn ud) {w : U} {dn' ud' : List (Int × Int)} (hp : w.p = 1) (hn : w.n = (m : Int) + 1) (sz : dn'.length + ud'.length ≤ m + 1) (st : Stk (IsPlain (D ++ [w]) 1) (UnD (D ++ [w])) ((m : Int) + 1) dn' ud') : LD (D ++ [w]) (m + 1) o dn' ud' := by
  refine ⟨?_, ?_, fun u hu e => ?_, fun n h1 h2 => ?_, fun u hu => ?_, ?_, sz⟩
  · rw [List.map_append]
    refine List.nodup_append.mpr ⟨h.nd, by simp, fun a ha b hb e => ?_⟩
    have hb : b = w.id := List.mem_singleton.mp hb
    obtain ⟨u, hu, rfl⟩ := List.mem_map.mp ha
    rw [hb] at e
    have e1 : u.p = w.p := congrArg Prod.fst e
    have e2 : u.n = w.n := congrArg Prod.snd e
    have := h.p1 u hu (e1.trans hp)
    omega
  · rw [List.length_append, h.len]
    show m + o + 1 = m + 1 + o
    omega
  · rcases List.mem_append.mp hu with z | z
    · have := h.p1 u z e
      omega
    · rw [List.mem_singleton.mp z]
      omega
  · by_cases z : n = (m : Int) + 1
    · exact ⟨w, by simp, hp, by rw [hn, z]⟩
    · obtain ⟨u, hu, h3⟩ := h.ex n h1 (by omega)
      exact ⟨u, List.mem_append_left _ hu, h3⟩
  · rcases List.mem_append.mp hu with z | z
    · exact h.pp u z
    · rw [List.mem_singleton.mp z]
      exact .inl hp
  · have e : ((m + 1 : Nat) : Int) = (m : Int) + 1 := by omega
    rw [e]
    exact st
theorem LD.plain (h : LD D m o dn ud) {mm : Int} {v : List Int} : LD (D ++ [⟨1, (m : Int) + 1, none, mm, v⟩]) (m + 1) o (dn ++ [((m : Int) + 1, (m : Int) + 1)]) [] :=
  h.more rfl rfl (by have := h.sz; simp only [List.length_append, List.length_cons, List.length_nil] at this ⊢; omega) ((h.stk.plain (by omega)).iff (fun n => by rw [pl_app]; exact ⟨fun z => z.imp id fun z => z.2.1.symm, fun z => z.imp id fun z => ⟨rfl, z.symm, rfl⟩⟩) fun j n => by rw [un_app]; exact ⟨fun z => z.elim id fun z => (nomatch z.2.2), .inl⟩)
theorem LD.undo {ds : List (Int × Int)} {a l : Int} (h : LD D m o (ds ++ [(a, l)]) ud) {mm : Int} {v : List Int} : LD (D ++ [⟨1, (m : Int) + 1, some a, mm, v⟩]) (m + 1) o ds (ud ++ [(a, (m : Int) + 1)]) :=
  h.more rfl rfl (by have := h.sz; simp only [List.length_append, List.length_cons, List.length_nil] at this ⊢; omega) ((h.stk.undo (by omega)).iff (fun n => by rw [pl_app]; exact ⟨fun z => z.elim id fun z => (nomatch z.2.2), .inl⟩) fun j n => by rw [un_app]; exact ⟨fun z => z.imp id fun z => ⟨z.2.1.symm, (Option.some.inj z.2.2).symm⟩, fun z => z.imp id fun z => ⟨rfl, z.1.symm, by rw [z.2]⟩⟩)
theorem LD.redo {us : List (Int × Int)} {a u : Int} (h : LD D m o dn (us ++ [(a, u)])) {mm : Int} {v : List Int} : LD (D ++ [⟨1, (m : Int) + 1, some u, mm, v⟩]) (m + 1) o (dn ++ [(a, (m : Int) + 1)]) us :=
  h.more rfl rfl (by have := h.sz; simp only [List.length_append, List.length_cons, List.length_nil] at this ⊢; omega) ((h.stk.redo (by omega)).iff (fun n => by rw [pl_app]; exact ⟨fun z => z.elim id fun z => (nomatch z.2.2), .inl⟩) fun j n => by rw [un_app]; exact ⟨fun z => z.imp id fun z => ⟨z.2.1.symm, (Option.some.inj z.2.2).symm⟩, fun z => z.imp id fun z => ⟨rfl, z.1.symm, by rw [z.2]⟩⟩)
theorem LD.other (h : LD D m o dn ud) {mm : Int} {v : List Int} : LD (D ++ [⟨2, (o : Int) + 1, none, mm, v⟩]) m (o + 1) dn ud := by
  refine ⟨?_, ?_, fun u hu e => ?_, fun n h1 h2 => ?_, fun u hu => ?_, h.stk.iff (fun n => by rw [pl_app]; exact ⟨fun z => z.elim id fun z => absurd z.1 (by show ¬ (2 : Int) = 1; decide), .inl⟩) fun j n => by rw [un_app]; exact ⟨fun z => z.elim id fun z => absurd z.1 (by show ¬ (2 : Int) = 1; decide), .inl⟩, h.sz⟩
  · rw [List.map_append]
    refine List.nodup_append.mpr ⟨h.nd, by simp, fun a ha b hb e => ?_⟩
    have hb : b = (2, (o : Int) + 1) := List.mem_singleton.mp hb
    obtain ⟨u, hu, rfl⟩ := List.mem_map.mp ha
    rw [hb] at e
    have e1 : u.p = 2 := congrArg Prod.fst e
    have e2 : u.n = (o : Int) + 1 := congrArg Prod.snd e
    rcases h.pp u hu with z | z
    · omega
    · omega
  · rw [List.length_append, h.len]
    show m + o + 1 = m + (o + 1)
    omega
  · rcases List.mem_append.mp hu with z | z
    · exact h.p1 u z e
    · rw [List.mem_singleton.mp z] at e
      cases e
  · obtain ⟨u, hu, h3⟩ := h.ex n h1 h2
    exact ⟨u, List.mem_append_left _ hu, h3⟩
  · rcases List.mem_append.mp hu with z | z
    · rcases h.pp u z with y | ⟨y1, y2, y3, y4⟩
      · exact .inl y
      · exact .inr ⟨y1, y2, y3, by omega⟩
    · rw [List.mem_singleton.mp z]
      exact .inr ⟨rfl, rfl, by show (1 : Int) ≤ (o : Int) + 1; omega, by show (o : Int) + 1 ≤ ((o + 1 : Nat) : Int); omega⟩
/-- persons without undos, without edits -/
theorem LD.undo4 (h : LD D m o dn ud) {r : Option Int} (hr : MaxOf r (fun n => ((4 : Int), n) ∈ S ∧ IsPlain D 4 n)) : r = none := by
  refine hr.one (r' := none) fun n ⟨_, u, hu, e, _⟩ => ?_
  rcases h.pp u hu with z | z
  · omega
  · omega
theorem LD.redo2 (h : LD D m o dn ud) {r : Option Int} (hr : RedoOf D 2 S r) : r = none := by
  obtain ⟨tgt, hm, e⟩ := hr
  cases tgt with
  | none => exact e
  | some k =>
    obtain ⟨_, u, hu, _, t, ht, _⟩ := hm.1
    obtain ⟨h1, h2⟩ := ofP_mem.mp hu
    rcases h.pp u h1 with z | ⟨_, z, _⟩
    · omega
    · rw [ht] at z
      cases z
end
/-! ### the law -/
def spOther (K : PySem.W.Frag) : Sp := fun vs H Q _ => ∃ (o : Nat), vs = [.int o] ∧ ∀ (x : Addr) (H' : Hp), Same H H' → UAt H' (.ref x) ⟨2, (o : Int) + 1, none, 1, [0, (o : Int), 0, 0]⟩ → Q (.ref x) H'
theorem okLawOther (T : Txt K mg) : FnOk P w K mg base CX0 1 T.fLawOther T.fdLawOther ["k"] (spOther K) := by
  refine T.FLawOther.ok scLawOther (fun vs H Q E h => ?_) (fun cdv A outer s H vs Q E hr h => ?_)
  · obtain ⟨o, rfl, _⟩ := h
    rfl
  · obtain ⟨o, rfl, q⟩ := h
    -- slots k=0
    refine ⟨_, (pss_one (ps_ret (pe_tup (pa_cons (pe_tup (pa_cons pe_int (pa_cons (pe_op op_add (pv 0) pe_int) pa_nil))) (pa_cons (pe_tup (pa_cons pe_int (pa_cons (pv 0) (pa_cons pe_int (pa_cons pe_int pa_nil))))) (pa_cons (pe_tup (pa_cons pe_str (pa_cons pe_str (pa_cons (pe_tup (pa_cons pe_int (pa_cons pe_int pa_nil))) pa_nil)))) pa_nil)))))), ?_⟩
    refine ⟨_, rfl, _, _, rfl, rfl, (by show 2 ≤ sizeLine; decide), fun a ha => ?_⟩
    refine ⟨_, rfl, (by show 4 ≤ sizeLine; decide), fun b hb => ⟨(by show 2 ≤ sizeLine; decide), fun z hz => ⟨(by show 3 ≤ sizeLine; decide), fun c hc => ⟨(by show 3 ≤ sizeLine; decide), fun x hx => ?_⟩⟩⟩⟩
    have s1 := same_new (o := .tup [.int 2, .int ((o : Int) + 1)]) ha
    have s2 := same_new (o := .tup [.int 0, .int (o : Int), .int 0, .int 0]) hb
    have s3 := same_new (o := .tup [.int 0, .int 1]) hz
    have s4 := same_new (o := .tup [.str "delete", .str "row", .ref z]) hc
    have s5 := same_new (o := .tup [.ref a, .ref b, .ref c]) hx
    refine q x _ (s1.trans (s2.trans (s3.trans (s4.trans s5)))) ⟨x, a, b, c, rfl, upd_same, (s2.trans (s3.trans (s4.trans s5))) _ _ upd_same, (s3.trans (s4.trans s5)) _ _ upd_same, z, s5 _ _ upd_same, (s4.trans s5) _ _ upd_same⟩
def PAt (Ms : List Addr) (H : Hp) (x : V) (y : Int × Int) : Prop := ∃ q, x = .ref q ∧ q ∉ Ms ∧ H q = some (.lst [.int y.1, .int y.2])
theorem PAt.ext {Ms : List Addr} {H H' : Hp} {x : V} {y : Int × Int} (s : LamX.ExtN H H') (h : PAt Ms H x y) : PAt Ms H' x y := by
  obtain ⟨q, e, n, h⟩ := h
  exact ⟨q, e, n, s _ _ h fun ps z => by cases z⟩
theorem PAt.put {Ms : List Addr} {H : Hp} {M : Addr} {o : HO} {x : V} {y : Int × Int} (hM : M ∈ Ms) (h : PAt Ms H x y) : PAt Ms (upd H M o) x y := by
  obtain ⟨q, e, n, h⟩ := h
  exact ⟨q, e, n, by rw [upd_ne (fun z => n (by rw [z]; exact hM))]; exact h⟩
theorem RepG.drop1 {β : Type} {At : V → β → Prop} {rs : List V} {D : List β} (h : RepG At rs D) : RepG At rs.dropLast D.dropLast := by
  refine ⟨by rw [List.length_dropLast, List.length_dropLast, h.len], fun i x e h1 h2 => ?_⟩
  rw [List.getElem?_dropLast] at h1 h2
  split at h1
  · split at h2
    · exact h.at_ i x e h1 h2
    · cases h2
  · cases h1
structure WR (K : PySem.W.Frag) (T : List (Addr × Str)) (xs : List V) (a E Dn Ud : Addr) (H : Hp) (es dr ur : List V) (D : List U) (dn ud : List (Int × Int)) : Prop where
  scr : (Rd H a (.lst xs) ∧ a ≠ E ∧ a ≠ Dn ∧ a ≠ Ud) ∨ ∀ H', SqL K H' a xs
  tab : LamX.Tabs T H
  hE : H E = some (.lst es)
  hD : H Dn = some (.lst dr)
  hU : H Ud = some (.lst ur)
  ED : E ≠ Dn
  EU : E ≠ Ud
  DU : Dn ≠ Ud
  re : RepG (UAt H) es D
  rd : RepG (PAt [E, Dn, Ud] H) dr dn
  ru : RepG (PAt [E, Dn, Ud] H) ur ud
section
variable {K : PySem.W.Frag} {T : List (Addr × Str)} {xs : List V} {a E Dn Ud : Addr} {H : Hp} {es dr ur : List V} {D : List U} {dn ud : List (Int × Int)}
theorem WR.sq (h : WR K T xs a E Dn Ud H es dr ur D dn ud) : SqL K H a xs := by
  rcases h.scr with z | z
  · exact .inl z.1
  · exact z H
theorem rd_ext {H H' : Hp} {a : Addr} {xs : List V} (e : LamX.ExtN H H') (h : Rd H a (.lst xs)) : Rd H' a (.lst xs) := by
  rcases h with h | ⟨o, h⟩
  · exact .inl (e _ _ h fun ps z => by cases z)
  · exact .inr ⟨o, e _ _ h fun ps z => by cases z⟩
theorem rd_put {H : Hp} {a M : Addr} {xs : List V} {o : HO} (n : a ≠ M) (h : Rd H a (.lst xs)) : Rd (upd H M o) a (.lst xs) := by
  rcases h with h | ⟨u, h⟩
  · exact .inl (by rw [upd_ne n]; exact h)
  · exact .inr ⟨u, by rw [upd_ne n]; exact h⟩
theorem WR.ext {H' : Hp} (e : LamX.ExtN H H') (t : LamX.Tabs T H') (h : WR K T xs a E Dn Ud H es dr ur D dn ud) : WR K T xs a E Dn Ud H' es dr ur D dn ud :=
  ⟨h.scr.imp (fun z => ⟨rd_ext e z.1, z.2⟩) id, t, e _ _ h.hE (fun ps z => by cases z), e _ _ h.hD (fun ps z => by cases z), e _ _ h.hU (fun ps z => by cases z), h.ED, h.EU, h.DU, h.re.imp fun x u z => z.ts (TS.ext e), h.rd.imp fun x u z => z.ext e, h.ru.imp fun x u z => z.ext e⟩
theorem WR.same {H' : Hp} (e : Same H H') (h : WR K T xs a E Dn Ud H es dr ur D dn ud) : WR K T xs a E Dn Ud H' es dr ur D dn ud := h.ext (LamX.ExtN.of e) (h.tab.ext e)
theorem WR.putE (h : WR K T xs a E Dn Ud H es dr ur D dn ud) {x : V} {w : U} (hx : UAt H x w) : WR K T xs a E Dn Ud (upd H E (.lst (es ++ [x]))) (es ++ [x]) dr ur (D ++ [w]) dn ud := by
  have t := TS.lst (o := .lst (es ++ [x])) h.hE
  exact ⟨h.scr.imp (fun z => ⟨rd_put z.2.1 z.1, z.2⟩) id, tabs_mut h.tab h.hE (fun ps z => by cases z) lst_code, upd_same, by rw [upd_ne h.ED.symm]; exact h.hD, by rw [upd_ne h.EU.symm]; exact h.hU, h.ED, h.EU, h.DU, RepG.snoc (h.re.imp fun x u z => z.ts t) (hx.ts t), h.rd.imp fun x u z => z.put (by simp), h.ru.imp fun x u z => z.put (by simp)⟩
theorem WR.setD (h : WR K T xs a E Dn Ud H es dr ur D dn ud) {dr' : List V} {dn' : List (Int × Int)} (r : RepG (PAt [E, Dn, Ud] H) dr' dn') : WR K T xs a E Dn Ud (upd H Dn (.lst dr')) es dr' ur D dn' ud := by
  have t := TS.lst (o := .lst dr') h.hD
  exact ⟨h.scr.imp (fun z => ⟨rd_put z.2.2.1 z.1, z.2⟩) id, tabs_mut h.tab h.hD (fun ps z => by cases z) lst_code, by rw [upd_ne h.ED]; exact h.hE, upd_same, by rw [upd_ne h.DU.symm]; exact h.hU, h.ED, h.EU, h.DU, h.re.imp fun x u z => z.ts t, r.imp fun x u z => z.put (by simp), h.ru.imp fun x u z => z.put (by simp)⟩
theorem WR.setU (h : WR K T xs a E Dn Ud H es dr ur D dn ud) {ur' : List V} {ud' : List (Int × Int)} (r : RepG (PAt [E, Dn, Ud] H) ur' ud') : WR K T xs a E Dn Ud (upd H Ud (.lst ur')) es dr ur' D dn ud' := by
  have t := TS.lst (o := .lst ur') h.hU
  exact ⟨h.scr.imp (fun z => ⟨rd_put z.2.2.2 z.1, z.2⟩) id, tabs_mut h.tab h.hU (fun ps z => by cases z) lst_code, by rw [upd_ne h.EU]; exact h.hE, by rw [upd_ne h.DU]; exact h.hD, upd_same, h.ED, h.EU, h.DU, h.re.imp fun x u z => z.ts t, h.rd.imp fun x u z => z.put (by simp), r.imp fun x u z => z.put (by simp)⟩
theorem PAt.to {E Dn Ud U' : Addr} {H : Hp} {x : V} {y : Int × Int} (hU : H U' = none) (h : PAt [E, Dn, Ud] H x y) : PAt [E, Dn, U'] H x y := by
  obtain ⟨q, e, n, h⟩ := h
  refine ⟨q, e, fun z => ?_, h⟩
  rcases List.mem_cons.mp z with z | z
  · exact n (by rw [z]; simp)
  · rcases List.mem_cons.mp z with z | z
    · exact n (by rw [z]; simp)
    · rw [List.mem_singleton.mp z, hU] at h
      cases h
theorem WR.newU (h : WR K T xs a E Dn Ud H es dr ur D dn ud) {U' : Addr} (hU : H U' = none) : WR K T xs a E Dn U' (upd H U' (.lst [])) es dr [] D dn [] := by
  have s := same_new (o := .lst []) hU
  have n1 : E ≠ U' := ne_of_none h.hE hU
  have n2 : Dn ≠ U' := ne_of_none h.hD hU
  refine ⟨h.scr.imp (fun z => ⟨rd_ext (LamX.ExtN.of s) z.1, z.2.1, z.2.2.1, fun y => ?_⟩) id, h.tab.ext s, s _ _ h.hE, s _ _ h.hD, upd_same, h.ED, n1, n2, h.re.imp fun x u z => z.ts (TS.of s), h.rd.imp fun x u z => (z.to hU).ext (LamX.ExtN.of s), RepG.nil⟩
  rcases z.1 with e | ⟨o, e⟩ <;> rw [y, hU] at e <;> cases e
theorem WR.pair (h : WR K T xs a E Dn Ud H es dr ur D dn ud) {q : Addr} {y : Int × Int} (hq : H q = none) : PAt [E, Dn, Ud] (upd H q (.lst [.int y.1, .int y.2])) (.ref q) y := by
  refine ⟨q, rfl, fun z => ?_, upd_same⟩
  rcases List.mem_cons.mp z with z | z
  · rw [z, h.hE] at hq
    cases hq
  · rcases List.mem_cons.mp z with z | z
    · rw [z, h.hD] at hq
      cases hq
    · rw [List.mem_singleton.mp z, h.hU] at hq
      cases hq
theorem WR.eds {m o : Nat} (h : WR K T xs a E Dn Ud H es dr ur D dn ud) (l : LD D m o dn ud) (hl : m + o ≤ 63) : EdsAt K H E es D := ⟨SqL.of h.hE, h.re, l.nd, by rw [l.len]; exact hl⟩
theorem last_at {β : Type} {At : V → β → Prop} {rs : List V} {D : List β} {y : β} {ds : List β} (h : RepG At rs D) (e : D = ds ++ [y]) : ∃ x, rs[rs.length - 1]? = some x ∧ At x y ∧ D.dropLast = ds := by
  have hl := h.len
  rw [e, List.length_append] at hl
  have hl : rs.length = ds.length + 1 := hl
  obtain ⟨x, hx⟩ : ∃ x, rs[rs.length - 1]? = some x := ⟨_, List.getElem?_eq_getElem (by omega)⟩
  refine ⟨x, hx, h.at_ _ x y hx ?_, by rw [e, List.dropLast_concat]⟩
  rw [e, hl, Nat.add_sub_cancel, List.getElem?_append_right (Nat.le_refl _), Nat.sub_self]
  rfl
end
def optD : Option Int → PyData
  | none => .none
  | some m => .int m
theorem opt_dp {K : PySem.W.Frag} {H : Hp} (r : Option Int) : Dp K H (optV r) (optD r) := by
  cases r with
  | none => exact .non
  | some m => exact .int m
theorem opt_sh (r : Option Int) : SeqAt.shaped (optD r) = true := by
  cases r with
  | none => decide +kernel
  | some m => simp [optD, SeqAt.shaped, PyData.canLay0, PyData.depth]
def MidL (K : PySem.W.Frag) (T : List (Addr × Str)) (xs : List V) (a E Dn : Addr) (i : Nat) (lim : Int) (σ : L2.St) (H : Hp) : Prop :=
  ∃ (Ud : Addr) (es dr ur : List V) (D : List U) (m o : Nat) (dn ud : List (Int × Int)) (kd nv : Int) (sv : Addr) (c5 c9 c10 c11 : Option V), σ = [some (.ref a), some (.ref E), some (.ref Dn), some (.ref Ud), some (.int (o : Int)), c5, some (.int kd), some (.int nv), some (.ref sv), c9, c10, c11] ∧
    WR K T xs a E Dn Ud H es dr ur D dn ud ∧ LD D m o dn ud ∧ m + o ≤ i + 1 ∧ (kd < lim ∨ (m + o ≤ i ∧ nv = (m : Int) + 1 ∧ H sv = some (.tup [.int (m : Int), .int (o : Int), .int 0, .int 0])))
def spLaw (K : PySem.W.Frag) (T : List (Addr × Str)) : Sp := fun vs H Q _ => ∃ (a : Addr) (ns : List Int), vs = [.ref a] ∧ SqL K H a (ns.map V.int) ∧ ns.length ≤ 63 ∧ LamX.Tabs T H ∧ ∀ H', Q (.bl true) H'
theorem okLaw (T : Txt K mg) {c tp : Addr} (B : TabF K base mg T.fInForce c tp) : FnOk P w K mg base CX0 8 T.fLaw T.fdLaw ["script"] (spLaw K [(tp, qLam)]) := by
  refine T.FLaw.ok scLaw (fun vs H Q E h => ?_) (fun cdv A outer s H vs Q E hr h => ?_)
  · obtain ⟨a, ns, rfl, _⟩ := h
    rfl
  · obtain ⟨a, ns, rfl, hS, hl, hT, q⟩ := h
    -- slots script=0 edits=1 done=2 undone=3 others=4 k=5 kind=6 number=7 seen=8 top=9 due=10 pair=11
    refine ⟨_, (pss_cons (ps_set (i := 1) scLaw.nd rfl (Or.inl rfl) (pe_lst pa_nil))
        (pss_cons (ps_set (i := 2) scLaw.nd rfl (Or.inl rfl) (pe_lst pa_nil))
        (pss_cons (ps_set (i := 3) scLaw.nd rfl (Or.inl rfl) (pe_lst pa_nil))
        (pss_cons (ps_set (i := 4) scLaw.nd rfl (Or.inl rfl) pe_int)
        (pss_cons (ps_for PassesOwn.never rfl (pi_range1 rfl T.z_range (pa_cons pe_int pa_nil)) (pg_name (i := 5) scLaw.nd rfl (Or.inl rfl))
          (pss_one (ps_if (pt_cmpR op_lt (pe_op op_add (pv 5) pe_int) (pe_callB call_len_seq (by rfl) T.z_len PySem.boot_len (pa_cons (pv 0) pa_nil)) (nomark _))
            (pss_cons (ps_set (i := 6) scLaw.nd rfl (Or.inl rfl) (pe_op op_mod (pe_callTy call_int1 (by rfl) T.z_int (by decide +kernel) (pa_cons (pe_ix ix_list (pv 0) (pe_op op_add (pv 5) pe_int) (fun _ _ => rfl)) pa_nil)) pe_int))
            (pss_cons (ps_set (i := 7) scLaw.nd rfl (Or.inl rfl) (pe_op op_sub (pe_op op_add pe_int (pe_callB call_len_seq (by rfl) T.z_len PySem.boot_len (pa_cons (pv 1) pa_nil))) (pv 4)))
            (pss_cons (ps_set (i := 8) scLaw.nd rfl (Or.inl rfl) (pe_tup (pa_cons (pe_op op_sub (pv 7) pe_int) (pa_cons (pv 4) (pa_cons pe_int (pa_cons pe_int pa_nil))))))
            (C8.pss_cut (ps_if (pt_cmpR op_lt (pv 6) pe_int (nomark _))
              (pss_cons (ps_expr (pe_bm PySem.F.plainAttrs_list PySem.F.slot_list_append PySem.F.type_list_append mt_append (pv 1) (pa_cons (pe_tup (pa_cons (pe_tup (pa_cons pe_int (pa_cons (pv 7) pa_nil))) (pa_cons (pv 8) (pa_cons (pe_tup (pa_cons pe_str (pa_cons pe_str (pa_cons (pe_tup (pa_cons pe_int (pa_cons (pv 7) pa_nil))) pa_nil)))) pa_nil)))) pa_nil)))
              (pss_cons (ps_expr (pe_bm PySem.F.plainAttrs_list PySem.F.slot_list_append PySem.F.type_list_append mt_append (pv 2) (pa_cons (pe_lst (pa_cons (pv 7) (pa_cons (pv 7) pa_nil))) pa_nil)))
              (pss_one (ps_set (i := 3) scLaw.nd rfl (Or.inl rfl) (pe_lst pa_nil)))))
              pss_nil)
            (C8.pss_cut (ps_if (PW.pt (pw_and (pt_cmpR op_eq (pv 6) pe_int (nomark _)) (pw_and1 (pt_cmpR op_gt (pe_callB call_len_seq (by rfl) T.z_len PySem.boot_len (pa_cons (pv 2) pa_nil)) pe_int (nomark _)))))
              (pss_cons (ps_set (i := 9) scLaw.nd rfl (Or.inl rfl) (pe_bm0 PySem.F.plainAttrs_list PySem.F.slot_list_pop PySem.F.type_list_pop mt_pop (pv 2)))
              (pss_cons (ps_expr (pe_bm PySem.F.plainAttrs_list PySem.F.slot_list_append PySem.F.type_list_append mt_append (pv 1) (pa_cons (pe_tup (pa_cons (pe_tup (pa_cons pe_int (pa_cons (pv 7) pa_nil))) (pa_cons (pv 8) (pa_cons (pe_tup (pa_cons pe_str (pa_cons (pe_ix ix_list (pv 9) pe_int (fun _ _ => rfl)) pa_nil))) pa_nil)))) pa_nil)))
              (pss_one (ps_expr (pe_bm PySem.F.plainAttrs_list PySem.F.slot_list_append PySem.F.type_list_append mt_append (pv 3) (pa_cons (pe_lst (pa_cons (pe_ix ix_list (pv 9) pe_int (fun _ _ => rfl)) (pa_cons (pv 7) pa_nil))) pa_nil))))))
              pss_nil)
            (C8.pss_cut (ps_if (PW.pt (pw_and (pt_cmpR op_eq (pv 6) pe_int (nomark _)) (pw_and1 (pt_cmpR op_gt (pe_callB call_len_seq (by rfl) T.z_len PySem.boot_len (pa_cons (pv 3) pa_nil)) pe_int (nomark _)))))
              (pss_cons (ps_set (i := 9) scLaw.nd rfl (Or.inl rfl) (pe_bm0 PySem.F.plainAttrs_list PySem.F.slot_list_pop PySem.F.type_list_pop mt_pop (pv 3)))
              (pss_cons (ps_expr (pe_bm PySem.F.plainAttrs_list PySem.F.slot_list_append PySem.F.type_list_append mt_append (pv 1) (pa_cons (pe_tup (pa_cons (pe_tup (pa_cons pe_int (pa_cons (pv 7) pa_nil))) (pa_cons (pv 8) (pa_cons (pe_tup (pa_cons pe_str (pa_cons (pe_ix ix_list (pv 9) pe_int (fun _ _ => rfl)) pa_nil))) pa_nil)))) pa_nil)))
              (pss_one (ps_expr (pe_bm PySem.F.plainAttrs_list PySem.F.slot_list_append PySem.F.type_list_append mt_append (pv 2) (pa_cons (pe_lst (pa_cons (pe_ix ix_list (pv 9) pe_int (fun _ _ => rfl)) (pa_cons (pv 7) pa_nil))) pa_nil))))))
              pss_nil)
            (C8.pss_cut (ps_if (pt_cmpR op_eq (pv 6) pe_int (nomark _))
              (pss_cons (ps_expr (pe_bm PySem.F.plainAttrs_list PySem.F.slot_list_append PySem.F.type_list_append mt_append (pv 1) (pa_cons (pe_call (okLawOther T) (hr.mono (by decide)) (by rfl) T.gLawOther T.FLawOther.kp T.bLawOther .nil pass0 (pa_cons (pv 4) pa_nil)) pa_nil)))
              (pss_one (ps_set (i := 4) scLaw.nd rfl (Or.inl rfl) (pe_op op_add (pv 4) pe_int))))
              pss_nil)
            (pss_cons (ps_set (i := 10) scLaw.nd rfl (Or.inl rfl) (pe_lst (pa_cons pe_non (pa_cons pe_non pa_nil))))
            (C8.pss_cut (ps_if (pt_cmpR op_gt (pe_callB call_len_seq (by rfl) T.z_len PySem.boot_len (pa_cons (pv 2) pa_nil)) pe_int (nomark _))
              (pss_one (ps_asg (pe_callB (cr_max rfl) (by rfl) T.z_max (by decide +kernel) (pa_cons (pe_lc (own := [("pair", 11)]) (g := gName 11) (tt := tYes) rfl scLaw.nd (pi_list (pv 2)) (blkOk_by (own := [("pair", 11)]) (N := ["script", "edits", "done", "undone", "others", "k", "kind", "number", "seen", "top", "due", "pair"]) (sc := defScope sLaw) (by decide +kernel)) (fun _ _ _ _ _ => (pg_name (i := 11) scLaw.nd rfl (Or.inl rfl))) (fun _ _ _ _ _ => pts_nil) (fun _ _ _ _ _ => (pe_ix (ix_listK (K := K) rfl) (pv 11) pe_int (fun _ _ => rfl)))) pa_nil)) (pg_sub (pv 10) pe_int set_list)))
              pss_nil)
            (C8.pss_cut (ps_if (pt_cmpR op_gt (pe_callB call_len_seq (by rfl) T.z_len PySem.boot_len (pa_cons (pv 3) pa_nil)) pe_int (nomark _))
              (pss_one (ps_asg (pe_ix ix_list (pe_ix ix_list (pv 3) (pe_un un_neg pe_int) (fun _ _ => rfl)) pe_int (fun _ _ => rfl)) (pg_sub (pv 10) pe_int set_list)))
              pss_nil)
            (pss_cons (ps_if (PW.pt (pw_or (pt_cmpR (op_neD hr.units) (pe_call (okUndoTarget T B) (hr.mono (by decide)) (by rfl) T.gUndoTarget T.FUndoTarget.kp T.bUndoTarget .nil pass0 (pa_cons (pv 1) (pa_cons pe_int pa_nil))) (pe_ix ix_list (pv 10) pe_int (fun _ _ => rfl)) (nomark _)) (pw_or1 (pt_cmpR (op_neD hr.units) (pe_call (okRedoTarget T B) (hr.mono (by decide)) (by rfl) T.gRedoTarget T.FRedoTarget.kp T.bRedoTarget .nil pass0 (pa_cons (pv 1) (pa_cons pe_int pa_nil))) (pe_ix ix_list (pv 10) pe_int (fun _ _ => rfl)) (nomark _)))))
              (pss_one (ps_ret pe_bl))
              pss_nil)
            (pss_one (ps_if (PW.pt (pw_or (pt_cmpR op_notN (pe_call (okUndoTarget T B) (hr.mono (by decide)) (by rfl) T.gUndoTarget T.FUndoTarget.kp T.bUndoTarget .nil pass0 (pa_cons (pv 1) (pa_cons pe_int pa_nil))) pe_non (nomark _)) (pw_or1 (pt_cmpR op_notN (pe_call (okRedoTarget T B) (hr.mono (by decide)) (by rfl) T.gRedoTarget T.FRedoTarget.kp T.bRedoTarget .nil pass0 (pa_cons (pv 1) (pa_cons pe_int pa_nil))) pe_non (nomark _)))))
              (pss_one (ps_ret pe_bl))
              pss_nil)))))))))))))
            pss_nil)))
        (pss_one (ps_ret pe_bl))))))), ?_⟩
    refine ⟨Nat.zero_le _, fun E hE0 => ⟨Nat.zero_le _, fun Dn hD0 => ⟨Nat.zero_le _, fun Ud hU0 => ?_⟩⟩⟩
    have s1 := same_new (o := .lst []) hE0
    have s2 := same_new (o := .lst []) hD0
    have s3 := same_new (o := .lst []) hU0
    have hE2 := s2 _ _ (upd_same (H := H) (a := E) (o := .lst []))
    have nED : E ≠ Dn := fun z => by
      rw [← z, upd_same] at hD0
      cases hD0
    have nEU : E ≠ Ud := ne_of_none hE2 hU0
    have nDU : Dn ≠ Ud := fun z => by
      rw [← z, upd_same] at hU0
      cases hU0
    have W0 : WR K [(tp, qLam)] (ns.map V.int) a E Dn Ud (upd (upd (upd H E (.lst [])) Dn (.lst [])) Ud (.lst [])) [] [] [] [] [] [] := by
      refine ⟨?_, hT.ext (s1.trans (s2.trans s3)), s3 _ _ hE2, s3 _ _ upd_same, upd_same, nED, nEU, nDU, RepG.nil, RepG.nil, RepG.nil⟩
      rcases hS with z | z
      · have e1 : Rd H a (.lst (ns.map V.int)) := z
        have ne : ∀ {M : Addr} {H' : Hp}, H' M = none → Rd H' a (.lst (ns.map V.int)) → a ≠ M := fun hM r y => by
          rcases r with e | ⟨o, e⟩ <;> rw [y, hM] at e <;> cases e
        have e2 := rd_ext (LamX.ExtN.of s1) e1
        have e3 := rd_ext (LamX.ExtN.of s2) e2
        exact .inl ⟨rd_ext (LamX.ExtN.of s3) e3, ne hE0 e1, ne hD0 e2, ne hU0 e3⟩
      · exact .inr fun H' => .inr z
    generalize upd (upd (upd H E (.lst [])) Dn (.lst [])) Ud (.lst []) = H3 at W0
    refine ⟨30, rfl, by decide, by decide, for_range (lo := 0) (n := 30) (fun i σ H' => ∃ (Ud : Addr) (es dr ur : List V) (D : List U) (m o : Nat) (dn ud : List (Int × Int)) (c5 c6 c7 c8 c9 c10 c11 : Option V), σ = [some (.ref a), some (.ref E), some (.ref Dn), some (.ref Ud), some (.int (o : Int)), c5, c6, c7, c8, c9, c10, c11] ∧
      WR K [(tp, qLam)] (ns.map V.int) a E Dn Ud H' es dr ur D dn ud ∧ LD D m o dn ud ∧ m + o ≤ i) ⟨Ud, [], [], [], [], 0, 0, [], [], _, _, _, _, _, _, _, rfl, W0, LD.start, Nat.le_refl _⟩ ?_ (fun σ H' _ => q _)⟩
    rintro i σ H1 hi ⟨Ud, es, dr, ur, D, m, o, dn, ud, c5, c6, c7, c8, c9, c10, c11, rfl, W, L, hmo⟩
    refine ⟨_, rfl, _, _, rfl, rfl, _, rfl, a, _, rfl, .inl W.sq, _, _, rfl, rfl, _, rfl, ite2 (fun c => ?_) (fun _ => ⟨Ud, es, dr, ur, D, m, o, dn, ud, _, _, _, _, _, _, _, rfl, W, L, by omega⟩)⟩
    have c := of_decide_eq_true c
    rw [List.length_map] at c
    have hi1 : i + 1 < ns.length := by omega
    have ei : (0 + (i : Int)) + 1 = ((i + 1 : Nat) : Int) := by omega
    refine ⟨_, rfl, _, rfl, _, _, rfl, rfl, a, _, _, _, rfl, rfl, W.sq, by rw [ei]; exact atI_nat (getD_at hi1), .inl ⟨_, rfl, _, _, rfl, rfl, (by show (0 : Int) < _; decide), ?_⟩⟩
    have k0 : 0 ≤ ns.getD (i + 1) 0 % 5 ∧ ns.getD (i + 1) 0 % 5 < 5 := by omega
    have el : es.length = m + o := by rw [W.re.len, L.len]
    refine ⟨_, rfl, E, es, rfl, .inl (SqL.of W.hE), _, _, rfl, rfl, _, rfl, _, _, rfl, rfl, ?_⟩
    have en : (1 + (es.length : Int)) - (o : Int) = (m : Int) + 1 := by omega
    refine ⟨_, rfl, _, _, rfl, rfl, _, rfl, (by show 4 ≤ sizeLine; decide), fun sv hsv => ?_⟩
    have ssv := same_new (o := .tup [.int ((1 + (es.length : Int)) - (o : Int) - 1), .int (o : Int), .int 0, .int 0]) hsv
    have hsv2 : (upd H1 sv (.tup [.int ((1 + (es.length : Int)) - (o : Int) - 1), .int (o : Int), .int 0, .int 0])) sv = some (.tup [.int (m : Int), .int (o : Int), .int 0, .int 0]) := by
      rw [upd_same, en]
      show some (HO.tup [V.int ((m : Int) + 1 - 1), _, _, _]) = _
      rw [Int.add_sub_cancel]
    have W1 := W.same ssv
    refine ⟨fun σ H' => MidL K [(tp, qLam)] (ns.map V.int) a E Dn i 2 σ H', ?_, ?_⟩
    · refine ⟨_, rfl, _, _, rfl, rfl, _, rfl, ite2 (fun c1 => ?_) (fun c1 => ?_)⟩
      · have c1 := of_decide_eq_true c1
        refine ⟨_, rfl, .inl ⟨rfl, _, SqL.of W1.hE⟩, _, rfl, (by show 2 ≤ sizeLine; decide), fun ta hta => ⟨_, rfl, _, rfl, (by show 2 ≤ sizeLine; decide), fun tz htz => ⟨(by show 3 ≤ sizeLine; decide), fun tc htc => ⟨(by show 3 ≤ sizeLine; decide), fun tq htq => ?_⟩⟩⟩⟩
        have a1 := same_new (o := .tup [.int 1, .int ((1 + (es.length : Int)) - (o : Int))]) hta
        have a2 := same_new (o := .tup [.int 0, .int ((1 + (es.length : Int)) - (o : Int))]) htz
        have a3 := same_new (o := .tup [.str "delete", .str "row", .ref tz]) htc
        have a4 := same_new (o := .tup [.ref ta, .ref sv, .ref tc]) htq
        have W2 := (((W1.same a1).same a2).same a3).same a4
        have hw := (a2.trans (a3.trans a4)) _ _ (upd_same (a := ta) (o := .tup [.int 1, .int ((1 + (es.length : Int)) - (o : Int))]))
        have hz := (a3.trans a4) _ _ (upd_same (a := tz) (o := .tup [.int 0, .int ((1 + (es.length : Int)) - (o : Int))]))
        have hU : UAt _ (.ref tq) ⟨1, (m : Int) + 1, none, (m : Int) + 1, [(m : Int), (o : Int), 0, 0]⟩ := ⟨tq, ta, sv, tc, rfl, upd_same, hw.trans (by rw [en]), (a1.trans (a2.trans (a3.trans a4))) _ _ hsv2, tz, a4 _ _ upd_same, hz.trans (by rw [en])⟩
        have W3 := W2.putE hU
        refine ⟨E, _, _, rfl, rfl, W2.hE, small1000 (by omega), ?_⟩
        refine ⟨_, rfl, .inl ⟨rfl, _, SqL.of W3.hD⟩, _, rfl, _, rfl, (by show 2 ≤ sizeLine; decide), fun q1 hq1 => ?_⟩
        have b1 := same_new (o := .lst [.int ((1 + (es.length : Int)) - (o : Int)), .int ((1 + (es.length : Int)) - (o : Int))]) hq1
        have hpr := W3.pair (y := ((1 + (es.length : Int)) - (o : Int), (1 + (es.length : Int)) - (o : Int))) hq1
        have W4 := W3.same b1
        have W5 := W4.setD (RepG.snoc W4.rd hpr)
        refine ⟨Dn, _, _, rfl, rfl, W4.hD, small1000 (by have := W4.rd.len; have := L.sz; omega), ?_⟩
        refine ⟨Nat.zero_le _, fun U' hU' => ?_⟩
        have W6 := W5.newU hU'
        exact ⟨U', _, _, [], _, m + 1, o, _, [], _, _, sv, _, _, _, _, rfl, W6, by rw [en]; exact L.plain, by omega, .inl c1⟩
      · exact ⟨Ud, es, dr, ur, D, m, o, dn, ud, _, _, sv, _, _, _, _, rfl, W1, L, by omega, .inr ⟨hmo, en, hsv2⟩⟩
    rintro σ H2 ⟨Ud, es, dr, ur, D, m, o, dn, ud, kd, nv, sv, c5, c9, c10, c11, rfl, W, L, hmo2, st⟩
    refine ⟨fun σ H' => MidL K [(tp, qLam)] (ns.map V.int) a E Dn i 3 σ H', ?_, ?_⟩
    · have skip : kd ≠ 2 → MidL K [(tp, qLam)] (ns.map V.int) a E Dn i 3 [some (.ref a), some (.ref E), some (.ref Dn), some (.ref Ud), some (.int (o : Int)), c5, some (.int kd), some (.int nv), some (.ref sv), c9, c10, c11] H2 := fun ne => ⟨Ud, es, dr, ur, D, m, o, dn, ud, kd, nv, sv, _, _, _, _, rfl, W, L, hmo2, st.imp (fun z => by omega) id⟩
      refine ⟨_, rfl, rfl, _, rfl, ite2 (fun c1 => ?_) (fun c1 => skip fun z => c1 (decide_eq_true (congrArg V.int z)))⟩
      have ek : kd = 2 := V.int.inj (of_decide_eq_true c1)
      obtain ⟨hmi, en, hsv⟩ := st.resolve_left (by omega)
      refine ⟨_, rfl, Dn, _, rfl, .inl (SqL.of W.hD), _, _, rfl, rfl, _, rfl, ite2 (fun c2 => ?_) (fun _ => ⟨Ud, es, dr, ur, D, m, o, dn, ud, kd, nv, sv, _, _, _, _, rfl, W, L, hmo2, .inl (by omega)⟩)⟩
      have c2 := of_decide_eq_true c2
      obtain ⟨ds, y, eds⟩ : ∃ ds y, dn = ds ++ [y] := by
        rcases List.eq_nil_or_concat dn with z | ⟨ds, y, z⟩
        · have hl2 := W.rd.len
          rw [z] at hl2
          have hl2 : dr.length = 0 := hl2
          rw [hl2] at c2
          exact absurd c2 (by decide)
        · exact ⟨ds, y, by rw [z, List.concat_eq_append]⟩
      obtain ⟨x, hx, ⟨q1, rfl, nq, hq1⟩, ed⟩ := last_at W.rd eds
      have at1 : ∀ {H : Hp} {M : Addr} {o c : HO}, M ∈ [E, Dn, Ud] → H q1 = some c → (upd H M o) q1 = some c := fun hM e => by
        rw [upd_ne (fun z => nq (by rw [z]; exact hM))]
        exact e
      have mE : E ∈ [E, Dn, Ud] := by simp
      have mD : Dn ∈ [E, Dn, Ud] := by simp
      have mU : Ud ∈ [E, Dn, Ud] := by simp
      have W1 := W.setD (W.rd.drop1)
      have hsv1 : (upd H2 Dn (.lst dr.dropLast)) sv = some (.tup [.int (m : Int), .int (o : Int), .int 0, .int 0]) := TS.lst W.hD _ _ hsv
      have hq2 := at1 (o := .lst dr.dropLast) mD hq1
      refine ⟨_, rfl, .inl ⟨rfl, _, SqL.of W.hD⟩, Dn, dr, .ref q1, rfl, rfl, W.hD, hx, ?_⟩
      generalize upd H2 Dn (.lst dr.dropLast) = H3 at W1 hsv1 hq2
      refine ⟨_, rfl, .inl ⟨rfl, _, SqL.of W1.hE⟩, _, rfl, (by show 2 ≤ sizeLine; decide), fun ta hta => ?_⟩
      have a1 := same_new (o := .tup [.int 1, .int nv]) hta
      refine ⟨_, rfl, _, rfl, q1, _, _, _, rfl, rfl, SqL.of (a1 _ _ hq2), atI_nat (j := 0) rfl, (by show 2 ≤ sizeLine; decide), fun tc htc => ⟨(by show 3 ≤ sizeLine; decide), fun tq htq => ?_⟩⟩
      have a2 := same_new (o := .tup [.str "undo", .int y.1]) htc
      have a3 := same_new (o := .tup [.ref ta, .ref sv, .ref tc]) htq
      have W2 := ((W1.same a1).same a2).same a3
      have hw := (a2.trans a3) _ _ (upd_same (a := ta) (o := .tup [.int 1, .int nv]))
      have hU : UAt _ (.ref tq) ⟨1, (m : Int) + 1, some y.1, 0, [(m : Int), (o : Int), 0, 0]⟩ := ⟨tq, ta, sv, tc, rfl, upd_same, hw.trans (by rw [en]), (a1.trans (a2.trans a3)) _ _ hsv1, a3 _ _ upd_same⟩
      have W3 := W2.putE hU
      have hq3 := at1 (o := .lst (es ++ [.ref tq])) mE ((a1.trans (a2.trans a3)) _ _ hq2)
      have el : es.length = m + o := by rw [W.re.len, L.len]
      refine ⟨E, _, _, rfl, rfl, W2.hE, small1000 (by omega), ?_⟩
      refine ⟨_, rfl, .inl ⟨rfl, _, SqL.of W3.hU⟩, _, rfl, q1, _, _, _, rfl, rfl, SqL.of hq3, atI_nat (j := 0) rfl, _, rfl, (by show 2 ≤ sizeLine; decide), fun q2 hq2n => ?_⟩
      have b1 := same_new (o := .lst [.int y.1, .int nv]) hq2n
      have hpr := W3.pair (y := (y.1, nv)) hq2n
      have W4 := W3.same b1
      have W5 := W4.setU (RepG.snoc W4.ru hpr)
      refine ⟨Ud, _, _, rfl, rfl, W4.hU, small1000 (by have := W4.ru.len; have := L.sz; omega), ?_⟩
      rw [ed] at W5
      subst eds
      obtain ⟨y1, y2⟩ := y
      have W6 := W5
      exact ⟨Ud, _, _, _, _, m + 1, o, _, _, kd, nv, sv, _, _, _, _, rfl, W5, by rw [en]; exact L.undo, by omega, .inl (by omega)⟩
    rintro σ H2 ⟨Ud, es, dr, ur, D, m, o, dn, ud, kd, nv, sv, c5, c9, c10, c11, rfl, W, L, hmo2, st⟩
    refine ⟨fun σ H' => MidL K [(tp, qLam)] (ns.map V.int) a E Dn i 4 σ H', ?_, ?_⟩
    · have skip : kd ≠ 3 → MidL K [(tp, qLam)] (ns.map V.int) a E Dn i 4 [some (.ref a), some (.ref E), some (.ref Dn), some (.ref Ud), some (.int (o : Int)), c5, some (.int kd), some (.int nv), some (.ref sv), c9, c10, c11] H2 := fun ne => ⟨Ud, es, dr, ur, D, m, o, dn, ud, kd, nv, sv, _, _, _, _, rfl, W, L, hmo2, st.imp (fun z => by omega) id⟩
      refine ⟨_, rfl, rfl, _, rfl, ite2 (fun c1 => ?_) (fun c1 => skip fun z => c1 (decide_eq_true (congrArg V.int z)))⟩
      have ek : kd = 3 := V.int.inj (of_decide_eq_true c1)
      obtain ⟨hmi, en, hsv⟩ := st.resolve_left (by omega)
      refine ⟨_, rfl, Ud, _, rfl, .inl (SqL.of W.hU), _, _, rfl, rfl, _, rfl, ite2 (fun c2 => ?_) (fun _ => ⟨Ud, es, dr, ur, D, m, o, dn, ud, kd, nv, sv, _, _, _, _, rfl, W, L, hmo2, .inl (by omega)⟩)⟩
      have c2 := of_decide_eq_true c2
      obtain ⟨ds, y, eds⟩ : ∃ ds y, ud = ds ++ [y] := by
        rcases List.eq_nil_or_concat ud with z | ⟨ds, y, z⟩
        · have hl2 := W.ru.len
          rw [z] at hl2
          have hl2 : ur.length = 0 := hl2
          rw [hl2] at c2
          exact absurd c2 (by decide)
        · exact ⟨ds, y, by rw [z, List.concat_eq_append]⟩
      obtain ⟨x, hx, ⟨q1, rfl, nq, hq1⟩, ed⟩ := last_at W.ru eds
      have at1 : ∀ {H : Hp} {M : Addr} {o c : HO}, M ∈ [E, Dn, Ud] → H q1 = some c → (upd H M o) q1 = some c := fun hM e => by
        rw [upd_ne (fun z => nq (by rw [z]; exact hM))]
        exact e
      have mE : E ∈ [E, Dn, Ud] := by simp
      have mD : Dn ∈ [E, Dn, Ud] := by simp
      have mU : Ud ∈ [E, Dn, Ud] := by simp
      have W1 := W.setU (W.ru.drop1)
      have hsv1 : (upd H2 Ud (.lst ur.dropLast)) sv = some (.tup [.int (m : Int), .int (o : Int), .int 0, .int 0]) := TS.lst W.hU _ _ hsv
      have hq2 := at1 (o := .lst ur.dropLast) mU hq1
      refine ⟨_, rfl, .inl ⟨rfl, _, SqL.of W.hU⟩, Ud, ur, .ref q1, rfl, rfl, W.hU, hx, ?_⟩
      generalize upd H2 Ud (.lst ur.dropLast) = H3 at W1 hsv1 hq2
      refine ⟨_, rfl, .inl ⟨rfl, _, SqL.of W1.hE⟩, _, rfl, (by show 2 ≤ sizeLine; decide), fun ta hta => ?_⟩
      have a1 := same_new (o := .tup [.int 1, .int nv]) hta
      refine ⟨_, rfl, _, rfl, q1, _, _, _, rfl, rfl, SqL.of (a1 _ _ hq2), atI_nat (j := 1) rfl, (by show 2 ≤ sizeLine; decide), fun tc htc => ⟨(by show 3 ≤ sizeLine; decide), fun tq htq => ?_⟩⟩
      have a2 := same_new (o := .tup [.str "undo", .int y.2]) htc
      have a3 := same_new (o := .tup [.ref ta, .ref sv, .ref tc]) htq
      have W2 := ((W1.same a1).same a2).same a3
      have hw := (a2.trans a3) _ _ (upd_same (a := ta) (o := .tup [.int 1, .int nv]))
      have hU : UAt _ (.ref tq) ⟨1, (m : Int) + 1, some y.2, 0, [(m : Int), (o : Int), 0, 0]⟩ := ⟨tq, ta, sv, tc, rfl, upd_same, hw.trans (by rw [en]), (a1.trans (a2.trans a3)) _ _ hsv1, a3 _ _ upd_same⟩
      have W3 := W2.putE hU
      have hq3 := at1 (o := .lst (es ++ [.ref tq])) mE ((a1.trans (a2.trans a3)) _ _ hq2)
      have el : es.length = m + o := by rw [W.re.len, L.len]
      refine ⟨E, _, _, rfl, rfl, W2.hE, small1000 (by omega), ?_⟩
      refine ⟨_, rfl, .inl ⟨rfl, _, SqL.of W3.hD⟩, _, rfl, q1, _, _, _, rfl, rfl, SqL.of hq3, atI_nat (j := 0) rfl, _, rfl, (by show 2 ≤ sizeLine; decide), fun q2 hq2n => ?_⟩
      have b1 := same_new (o := .lst [.int y.1, .int nv]) hq2n
      have hpr := W3.pair (y := (y.1, nv)) hq2n
      have W4 := W3.same b1
      have W5 := W4.setD (RepG.snoc W4.rd hpr)
      refine ⟨Dn, _, _, rfl, rfl, W4.hD, small1000 (by have := W4.rd.len; have := L.sz; omega), ?_⟩
      rw [ed] at W5
      subst eds
      obtain ⟨y1, y2⟩ := y
      have W6 := W5
      exact ⟨Ud, _, _, _, _, m + 1, o, _, _, kd, nv, sv, _, _, _, _, rfl, W5, by rw [en]; exact L.redo, by omega, .inl (by omega)⟩
    rintro σ H2 ⟨Ud, es, dr, ur, D, m, o, dn, ud, kd, nv, sv, c5, c9, c10, c11, rfl, W, L, hmo2, st⟩
    refine ⟨fun σ H' => ∃ (Ud : Addr) (es dr ur : List V) (D : List U) (m o : Nat) (dn ud : List (Int × Int)) (c5 c6 c7 c8 c9 c10 c11 : Option V), σ = [some (.ref a), some (.ref E), some (.ref Dn), some (.ref Ud), some (.int (o : Int)), c5, c6, c7, c8, c9, c10, c11] ∧
      WR K [(tp, qLam)] (ns.map V.int) a E Dn Ud H' es dr ur D dn ud ∧ LD D m o dn ud ∧ m + o ≤ i + 1, ?_, ?_⟩
    · refine ⟨_, rfl, rfl, _, rfl, ite2 (fun c1 => ?_) (fun _ => ⟨Ud, es, dr, ur, D, m, o, dn, ud, _, _, _, _, _, _, _, rfl, W, L, hmo2⟩)⟩
      have ek : kd = 4 := V.int.inj (of_decide_eq_true c1)
      obtain ⟨hmi, en, hsv⟩ := st.resolve_left (by omega)
      refine ⟨_, rfl, .inl ⟨rfl, _, SqL.of W.hE⟩, _, rfl, o, rfl, fun x H3 s3 hU => ?_⟩
      have W1 := W.same s3
      have W2 := W1.putE hU
      have el : es.length = m + o := by rw [W.re.len, L.len]
      refine ⟨E, _, _, rfl, rfl, W1.hE, small1000 (by omega), ?_⟩
      exact ⟨_, rfl, _, _, rfl, rfl, Ud, _, dr, ur, _, m, o + 1, dn, ud, _, _, _, _, _, _, _, rfl, W2, L.other, by omega⟩
    rintro σ H2 ⟨Ud, es, dr, ur, D, m, o, dn, ud, c5, c6, c7, c8, c9, c10, c11, rfl, W, L, hmo2⟩
    refine ⟨(by show 2 ≤ sizeLine; decide), fun du hdu => ?_⟩
    have s0 := same_new (o := .lst [.non, .non]) hdu
    have hd0 := upd_same (H := H2) (a := du) (o := .lst [.non, .non])
    generalize upd H2 du (.lst [.non, .non]) = H3 at s0 hd0
    refine ⟨fun σ H' => ∃ (r0 : Option Int) (c11 : Option V), σ = [some (.ref a), some (.ref E), some (.ref Dn), some (.ref Ud), some (.int (o : Int)), c5, c6, c7, c8, c9, some (.ref du), c11] ∧ Same H2 H' ∧ H' du = some (.lst [optV r0, .non]) ∧ MaxOf r0 (fun n => n ∈ dn.map Prod.fst), ?_, ?_⟩
    · refine ⟨_, rfl, Dn, _, rfl, .inl (SqL.of (s0 _ _ W.hD)), _, _, rfl, rfl, _, rfl, ite2 (fun c1 => ?_) (fun c1 => ?_)⟩
      · have c1 := of_decide_eq_true c1
        refine ⟨_, rfl, Dn, rfl, ⟨_, SqL.of (s0 _ _ W.hD)⟩, fun N hN => ?_⟩
        refine lc_it (walk_list (a := Dn) (xs := dr)) (fun j H' => Same H3 H' ∧ H' N = some (.lst (((dn.take j).map Prod.fst).map V.int))) ⟨same_new hN, upd_same⟩ (fun j H' _ h => SqL.of (h.1 _ _ (s0 _ _ W.hD))) ?_ ?_
        · rintro j x H9 H4 hj ⟨s4, hN4⟩ ⟨rfl, hx⟩
          obtain ⟨y, hy, q1, rfl, nq, hq1⟩ := W.rd.get hx
          have hl2 := W.rd.len
          have := L.sz
          refine ⟨rfl, yesT ⟨_, rfl, q1, _, _, _, rfl, rfl, SqL.of (s4 _ _ (s0 _ _ hq1)), atI_nat (j := 0) rfl, _, hN4, small1000 (by rw [List.length_map, List.length_map, List.length_take]; omega), same_mut s4 hN, ?_⟩⟩
          rw [upd_same, List.take_add_one, hy, List.map_append, List.map_append]
          rfl
        · rintro H4 ⟨s4, hN4⟩
          rw [List.take_of_length_le (by rw [W.rd.len]; exact Nat.le_refl _)] at hN4
          refine ⟨N, dn.map Prod.fst, rfl, SqL.of hN4, by rw [List.length_map]; have := W.rd.len; omega, fun mx h1 h2 => ?_⟩
          refine ⟨_, rfl, du, _, _, 0, rfl, rfl, s4 _ _ hd0, rfl, ?_⟩
          exact ⟨some mx, _, rfl, same_mut (s0.trans s4) hdu, upd_same, h1, h2⟩
      · refine ⟨none, _, rfl, s0, hd0, fun n hn => ?_⟩
        cases dn with
        | nil => cases hn
        | cons y r =>
          have hl2 := W.rd.len
          exact c1 (decide_eq_true (by rw [hl2]; show (0 : Int) < ((r.length + 1 : Nat) : Int); omega))
    rintro σ H4 ⟨r0, c11, rfl, s4, hd4, hr0⟩
    refine ⟨fun σ H' => ∃ (c11 : Option V), σ = [some (.ref a), some (.ref E), some (.ref Dn), some (.ref Ud), some (.int (o : Int)), c5, c6, c7, c8, c9, some (.ref du), c11] ∧ Same H2 H' ∧ H' du = some (.lst [optV r0, optV ((ud.getLast?).map Prod.snd)]), ?_, ?_⟩
    · refine ⟨_, rfl, Ud, _, rfl, .inl (SqL.of (s4 _ _ W.hU)), _, _, rfl, rfl, _, rfl, ite2 (fun c1 => ?_) (fun c1 => ?_)⟩
      · have c1 := of_decide_eq_true c1
        obtain ⟨us, y, eus⟩ : ∃ us y, ud = us ++ [y] := by
          rcases List.eq_nil_or_concat ud with z | ⟨us, y, z⟩
          · have hl2 := W.ru.len
            rw [z] at hl2
            have hl2 : ur.length = 0 := hl2
            rw [hl2] at c1
            exact absurd c1 (by decide)
          · exact ⟨us, y, by rw [z, List.concat_eq_append]⟩
        obtain ⟨x, hx, ⟨q1, rfl, nq, hq1⟩, _⟩ := last_at W.ru eus
        have hul : 0 < ur.length := by omega
        have atl : atI ur (-1) = some (.ref q1) := by
          unfold atI ixN
          rw [if_neg (by omega), if_pos (by omega)]
          have e : (-1 + (ur.length : Int)).toNat = ur.length - 1 := by omega
          rw [e]
          exact hx
        refine ⟨_, rfl, 1, rfl, Ud, ur, -1, .ref q1, rfl, rfl, SqL.of (s4 _ _ W.hU), atl, q1, _, _, _, rfl, rfl, SqL.of (s4 _ _ hq1), atI_nat (j := 1) rfl, ?_⟩
        refine ⟨_, rfl, du, _, _, 1, rfl, rfl, hd4, rfl, ?_⟩
        refine ⟨_, rfl, same_mut s4 hdu, ?_⟩
        rw [upd_same, eus, List.getLast?_concat]
        rfl
      · refine ⟨_, rfl, s4, ?_⟩
        have eu : ud = [] := by
          cases ud with
          | nil => rfl
          | cons y r =>
            have hl2 := W.ru.len
            exact absurd (decide_eq_true (by rw [hl2]; show (0 : Int) < ((r.length + 1 : Nat) : Int); omega)) c1
        rw [eu]
        exact hd4
    rintro σ H5 ⟨c11, rfl, s5, hd5⟩
    have W5 := W.same s5
    have hmx : m + o ≤ 63 := by omega
    -- undo_target(edits, 1)
    refine ⟨_, rfl, E, es, D, 1, rfl, W5.eds L hmx, W5.tab, fun H6 r S e6 T6 F hr => ?_⟩
    have er : r = r0 := (hr.iff (P' := fun n => n ∈ dn.map Prod.fst) fun n => L.fplain F n).one hr0
    have hd6 : H6 du = some (.lst [optV r0, optV ((ud.getLast?).map Prod.snd)]) := e6 _ _ hd5 fun ps z => by cases z
    have W6 := W5.ext e6 T6
    refine ⟨_, rfl, du, _, _, _, rfl, rfl, SqL.of hd6, atI_nat (j := 0) rfl, optD r, optD r0, opt_dp r, opt_dp r0, opt_sh _, opt_sh _, ?_⟩
    rw [er, eqv_same (opt_sh _)]
    refine ⟨_, rfl, iteF ?_⟩
    -- redo_target(edits, 1)
    refine ⟨_, rfl, E, es, D, 1, rfl, W6.eds L hmx, L.wf 1, W6.tab, fun H7 r1 S1 e7 T7 F1 hr1 => ?_⟩
    have er1 := L.redo_of F1 hr1
    have hd7 : H7 du = some (.lst [optV r0, optV ((ud.getLast?).map Prod.snd)]) := e7 _ _ hd6 fun ps z => by cases z
    have W7 := W6.ext e7 T7
    refine ⟨_, rfl, du, _, _, _, rfl, rfl, SqL.of hd7, atI_nat (j := 1) rfl, optD r1, optD ((ud.getLast?).map Prod.snd), opt_dp r1, opt_dp _, opt_sh _, opt_sh _, ?_⟩
    rw [er1, eqv_same (opt_sh _)]
    refine ⟨_, rfl, iteF ?_⟩
    -- persons 4 and 2
    refine ⟨_, rfl, E, es, D, 4, rfl, W7.eds L hmx, W7.tab, fun H8 r2 S2 e8 T8 F2 hr2 => ?_⟩
    have er2 := L.undo4 hr2
    subst er2
    have W8 := W7.ext e8 T8
    refine ⟨rfl, _, rfl, ite2 (fun c => absurd c (by simp [optV])) (fun _ => ?_)⟩
    refine ⟨_, rfl, E, es, D, 2, rfl, W8.eds L hmx, L.wf 2, W8.tab, fun H9 r3 S3 e9 T9 F3 hr3 => ?_⟩
    have er3 := L.redo2 hr3
    subst er3
    refine ⟨rfl, _, rfl, ite2 (fun c => absurd c (by simp [optV])) (fun _ => ?_)⟩
    exact ⟨Ud, es, dr, ur, D, m, o, dn, ud, _, _, _, _, _, _, _, rfl, W8.ext e9 T9, L, hmo2⟩
end
set_option maxHeartbeats 0 in
theorem all_mk {l : PySem.W.OpenLaw} {w : World} {K : PySem.W.Frag} {h : Heap} {mg : Str → Option Value} {fa f1 f2 f3 f4 f5 f6 f7 f8 f9 : Addr} (X : K.In h) (G : h.Ns mainGlobals mg) (hfa : mg "law" = some (.ref fa))
    {od1 an1 od2 an2 od3 an3 od4 an4 od5 an5 od6 an6 od7 an7 od8 an8 od9 an9 : Option Addr} {sl1 sl2 sl3 sl4 sl5 sl6 sl7 sl8 sl9 : Array (Option Value)} {oc1 kV1 dc1 pm1 ct1 oc2 kV2 dc2 pm2 cd2 ct2 oc3 kV3 dc3 pm3 cd3 ct3 oc4 kV4 dc4 pm4 cd4 ct4 oc5 kV5 dc5 pm5 cd5 ct5 oc6 kV6 dc6 pm6 cd6 ct6 oc7 kV7 dc7 pm7 cd7 ct7 oc8 kV8 dc8 pm8 cd8 ct8 oc9 kV9 dc9 pm9 cd9 ct9 : Value}
    {cT tP : Addr}
    (a1 : PySem.W.nsIn K mainGlobals "in_force" = some (some (.ref f1))) (l1 : K.lookup f1 = some ⟨oc1, od1, .func (PySem.W.fnOf "in_force" "in_force" (defArgs sInForce) (defBody sInForce) (defScope sInForce) .none kV1 dc1 pm1 an1 (.ref cT) ct1), sl1⟩) (c1 : PySem.W.codeIn K (.ref cT) "in_force" = true) (k1 : PySem.W.keepIn K (.ref f1) = true)
    (a2 : PySem.W.nsIn K mainGlobals "_own_actions" = some (some (.ref f2))) (l2 : K.lookup f2 = some ⟨oc2, od2, .func (PySem.W.fnOf "_own_actions" "_own_actions" (defArgs sOwnActions) (defBody sOwnActions) (defScope sOwnActions) .none kV2 dc2 pm2 an2 cd2 ct2), sl2⟩) (c2 : PySem.W.codeIn K cd2 "_own_actions" = true) (k2 : PySem.W.keepIn K (.ref f2) = true)
    (a3 : PySem.W.nsIn K mainGlobals "_own_in_force" = some (some (.ref f3))) (l3 : K.lookup f3 = some ⟨oc3, od3, .func (PySem.W.fnOf "_own_in_force" "_own_in_force" (defArgs sOwnInForce) (defBody sOwnInForce) (defScope sOwnInForce) .none kV3 dc3 pm3 an3 cd3 ct3), sl3⟩) (c3 : PySem.W.codeIn K cd3 "_own_in_force" = true) (k3 : PySem.W.keepIn K (.ref f3) = true)
    (a4 : PySem.W.nsIn K mainGlobals "undo_target" = some (some (.ref f4))) (l4 : K.lookup f4 = some ⟨oc4, od4, .func (PySem.W.fnOf "undo_target" "undo_target" (defArgs sUndoTarget) (defBody sUndoTarget) (defScope sUndoTarget) .none kV4 dc4 pm4 an4 cd4 ct4), sl4⟩) (c4 : PySem.W.codeIn K cd4 "undo_target" = true) (k4 : PySem.W.keepIn K (.ref f4) = true)
    (a5 : PySem.W.nsIn K mainGlobals "_undoes_a_plain_edit" = some (some (.ref f5))) (l5 : K.lookup f5 = some ⟨oc5, od5, .func (PySem.W.fnOf "_undoes_a_plain_edit" "_undoes_a_plain_edit" (defArgs sUndoesAPlainEdit) (defBody sUndoesAPlainEdit) (defScope sUndoesAPlainEdit) .none kV5 dc5 pm5 an5 cd5 ct5), sl5⟩) (c5 : PySem.W.codeIn K cd5 "_undoes_a_plain_edit" = true) (k5 : PySem.W.keepIn K (.ref f5) = true)
    (a6 : PySem.W.nsIn K mainGlobals "redo_target" = some (some (.ref f6))) (l6 : K.lookup f6 = some ⟨oc6, od6, .func (PySem.W.fnOf "redo_target" "redo_target" (defArgs sRedoTarget) (defBody sRedoTarget) (defScope sRedoTarget) .none kV6 dc6 pm6 an6 cd6 ct6), sl6⟩) (c6 : PySem.W.codeIn K cd6 "redo_target" = true) (k6 : PySem.W.keepIn K (.ref f6) = true)
    (a7 : PySem.W.nsIn K mainGlobals "_law_cell" = some (some (.ref f7))) (l7 : K.lookup f7 = some ⟨oc7, od7, .func (PySem.W.fnOf "_law_cell" "_law_cell" (defArgs sLawCell) (defBody sLawCell) (defScope sLawCell) .none kV7 dc7 pm7 an7 cd7 ct7), sl7⟩) (c7 : PySem.W.codeIn K cd7 "_law_cell" = true) (k7 : PySem.W.keepIn K (.ref f7) = true)
    (a8 : PySem.W.nsIn K mainGlobals "_law_other" = some (some (.ref f8))) (l8 : K.lookup f8 = some ⟨oc8, od8, .func (PySem.W.fnOf "_law_other" "_law_other" (defArgs sLawOther) (defBody sLawOther) (defScope sLawOther) .none kV8 dc8 pm8 an8 cd8 ct8), sl8⟩) (c8 : PySem.W.codeIn K cd8 "_law_other" = true) (k8 : PySem.W.keepIn K (.ref f8) = true)
    (a9 : PySem.W.nsIn K mainGlobals "law" = some (some (.ref f9))) (l9 : K.lookup f9 = some ⟨oc9, od9, .func (PySem.W.fnOf "law" "law" (defArgs sLaw) (defBody sLaw) (defScope sLaw) .none kV9 dc9 pm9 an9 cd9 ct9), sl9⟩) (c9 : PySem.W.codeIn K cd9 "law" = true) (k9 : PySem.W.keepIn K (.ref f9) = true)
    (z_sorted : PySem.W.nsIn K mainGlobals "sorted" = some none)
    (z_max : PySem.W.nsIn K mainGlobals "max" = some none)
    (z_range : PySem.W.nsIn K mainGlobals "range" = some none)
    (z_any : PySem.W.nsIn K mainGlobals "any" = some none)
    (z_len : PySem.W.nsIn K mainGlobals "len" = some none)
    (z_int : PySem.W.nsIn K mainGlobals "int" = some none)
    (tn : K.lookup tP = none) (th : PySem.W.codeHdIn K cT tP = true) (tt : h.get? tP = some { cls := .none, data := .fields #[] }) : LamX.LawAtS l w K CX0 8 63 "script" mg fa h := by
  have e := hfa.symm.trans (PySem.W.mg_of X G a9)
  cases e
  have F1 := fun_mk (st := sInForce) l1 c1 k1
  have b1 := F1.binds (ps := ["edits"]) fun _ _ _ _ _ _ us hl => match us, hl with | [_], _ => rfl
  have F2 := fun_mk (st := sOwnActions) l2 c2 k2
  have b2 := F2.binds (ps := ["edits", "person"]) fun _ _ _ _ _ _ us hl => match us, hl with | [_, _], _ => rfl
  have F3 := fun_mk (st := sOwnInForce) l3 c3 k3
  have b3 := F3.binds (ps := ["edits", "person"]) fun _ _ _ _ _ _ us hl => match us, hl with | [_, _], _ => rfl
  have F4 := fun_mk (st := sUndoTarget) l4 c4 k4
  have b4 := F4.binds (ps := ["edits", "person"]) fun _ _ _ _ _ _ us hl => match us, hl with | [_, _], _ => rfl
  have F5 := fun_mk (st := sUndoesAPlainEdit) l5 c5 k5
  have b5 := F5.binds (ps := ["actions", "number"]) fun _ _ _ _ _ _ us hl => match us, hl with | [_, _], _ => rfl
  have F6 := fun_mk (st := sRedoTarget) l6 c6 k6
  have b6 := F6.binds (ps := ["edits", "person"]) fun _ _ _ _ _ _ us hl => match us, hl with | [_, _], _ => rfl
  have F7 := fun_mk (st := sLawCell) l7 c7 k7
  have b7 := F7.binds (ps := ["script", "k"]) fun _ _ _ _ _ _ us hl => match us, hl with | [_, _], _ => rfl
  have F8 := fun_mk (st := sLawOther) l8 c8 k8
  have b8 := F8.binds (ps := ["k"]) fun _ _ _ _ _ _ us hl => match us, hl with | [_], _ => rfl
  have F9 := fun_mk (st := sLaw) l9 c9 k9
  have b9 := F9.binds (ps := ["script"]) fun _ _ _ _ _ _ us hl => match us, hl with | [_], _ => rfl
  refine ⟨PySem.W.fnOf "law" "law" (defArgs sLaw) (defBody sLaw) (defScope sLaw) .none kV9 dc9 pm9 an9 cd9 ct9, [(cT, tP)], spLaw K [(tP, qLam)], ?_, ?_, ?_, fun s v => .of_eq rfl, ?_, ?_⟩
  · intro p hp
    rw [List.mem_singleton.mp hp]
    exact tt
  · intro p hp
    rw [List.mem_singleton.mp hp]
    exact tn
  · intro p hp
    rw [List.mem_singleton.mp hp]
    exact PySem.W.codeHd_of_K X th
  · intro H a ns hl hb hT hS
    refine ⟨a, ns, rfl, hS, hl, fun p hp => ?_, fun _ => rfl⟩
    rw [List.mem_singleton.mp hp]
    exact .nil (hT (cT, tP) (List.mem_cons_self ..))
  · intro base KB GB TB
    exact okLaw (P := l.prog) (w := w) (base := base) (⟨f1, _, F1, b1, PySem.W.mg_of X G a1, f2, _, F2, b2, PySem.W.mg_of X G a2, f3, _, F3, b3, PySem.W.mg_of X G a3, f4, _, F4, b4, PySem.W.mg_of X G a4, f5, _, F5, b5, PySem.W.mg_of X G a5, f6, _, F6, b6, PySem.W.mg_of X G a6, f7, _, F7, b7, PySem.W.mg_of X G a7, f8, _, F8, b8, PySem.W.mg_of X G a8, fa, _, F9, b9, PySem.W.mg_of X G a9, PySem.W.mg_none_of X G z_sorted, PySem.W.mg_none_of X G z_max, PySem.W.mg_none_of X G z_range, PySem.W.mg_none_of X G z_any, PySem.W.mg_none_of X G z_len, PySem.W.mg_none_of X G z_int⟩ : Txt K mg) ⟨⟨_, _, l1, rfl, rfl⟩, tn, TB (cT, tP) (List.mem_cons_self ..)⟩
theorem walk {l : PySem.W.OpenLaw} {q : Program} {loose : List Str} {XP : (Str → Option Value) → Heap → Prop} {YP : World → Heap → Prop} {d : DefRec} {K : Params → PySem.W.Frag} (hn : l.most = some 63) (hdf : d.params.defaults = [])
    (hY : ∀ (w : World) (h : Heap), YP w h → (K w.params).In h)
    (F : ∀ (w : World) (mg : Str → Option Value) (fa : Addr) (h : Heap), YP w h → (K w.params).In h → h.Ns mainGlobals mg → mg d.name = some (.ref fa) → LamX.LawAtS l w (K w.params) CX0 8 63 "script" mg fa h) :
    PySem.W.WalkO q loose XP YP l.row.toRowW d [] (fun f vs => PySem.call f vs) :=
  LamX.walk_ofTs (n := 63) (k := 8) (x := "script") (CX := fun _ => CX0) hn (by decide) hdf ⟨rfl, by decide, by decide⟩ hY F (fun _ _ _ _ _ z => z)
end My
open PySem PySem.W PyProof.Rows
set_option maxRecDepth 100000 in
set_option maxHeartbeats 0 in
theorem PySem.Challenge.cw_tablemates_k37_targets_of_undo_holds : PySem.Challenge.rw_tablemates_k37_targets_of_undo.Holds := by
  w_on; o_law; k_head; (case hw => w_witness2)
  k_fill
  refine My.walk (l := PySem.Challenge.rw_tablemates_k37_targets_of_undo) rfl rfl (fun w h Y => PySem.W.km_in_of Y) ?F
  case F =>
    intro w mg fa h Y KX G hmg
    refine' My.all_mk KX G hmg ?a1 ?l1 ?c1 ?k1 ?a2 ?l2 ?c2 ?k2 ?a3 ?l3 ?c3 ?k3 ?a4 ?l4 ?c4 ?k4 ?a5 ?l5 ?c5 ?k5 ?a6 ?l6 ?c6 ?k6 ?a7 ?l7 ?c7 ?k7 ?a8 ?l8 ?c8 ?k8 ?a9 ?l9 ?c9 ?k9 ?z_sorted ?z_max ?z_range ?z_any ?z_len ?z_int ?tn ?th ?tt
    (case a1 => k_is); (case l1 => k_is); (case c1 => k_is); (case k1 => k_is); (case a2 => k_is); (case l2 => k_is); (case c2 => k_is); (case k2 => k_is); (case a3 => k_is); (case l3 => k_is); (case c3 => k_is); (case k3 => k_is); (case a4 => k_is); (case l4 => k_is); (case c4 => k_is); (case k4 => k_is); (case a5 => k_is); (case l5 => k_is); (case c5 => k_is); (case k5 => k_is); (case a6 => k_is); (case l6 => k_is); (case c6 => k_is); (case k6 => k_is); (case a7 => k_is); (case l7 => k_is); (case c7 => k_is); (case k7 => k_is); (case a8 => k_is); (case l8 => k_is); (case c8 => k_is); (case k8 => k_is); (case a9 => k_is); (case l9 => k_is); (case c9 => k_is); (case k9 => k_is); (case z_sorted => k_is); (case z_max => k_is); (case z_range => k_is); (case z_any => k_is); (case z_len => k_is); (case z_int => k_is); (case tt => exact PySem.W.km_tabs_of Y _ (List.mem_cons_self ..)); (case tn => first | rfl | k_is | decide +kernel); (case th => first | rfl | k_is | decide +kernel)

import PyProof.Rows.All
import Wide.All
import OpenK.AllK
import Wide.FinOn
import HandS.ForMost
import HandS.Zip
import HandS.Walk
import HandS.Deep
import HandS.Conv
import HandS.Style
import HandS.SortInts
import HandS.Codes
import KE.KEqDeep
import HandS.SortKw
import KE.SortKeyHeap
import KE.SortData
import KE.LtData
import HandS.TupSets
import KE.KTupSum
import HandS.StrMore
import HandS.WordsExc
import HandS.Strs
import KE.IntTextText
import HandS.Rev
import HandS.DictTup
import HandS.Words
import KE.DataCmp
import HandS.CallLocal
import HandS.Lambda
import HandS.EndTab
import PySem.Challenge.RW_tablemates_k36_edits_in_force
set_option Elab.async false
set_option linter.all false
set_option maxRecDepth 100000
namespace My
open PySem PySem.Spec PyProof.Rows L2 RZ
def topS (i : Nat) : Stmt := PySem.Challenge.pw_tablemates_k36_edits_in_force.main.body.getD i (.Pass ⟨0, 0, 0, 0⟩)
abbrev sInForce : Stmt := topS 1
abbrev sInForceWithout : Stmt := topS 2
abbrev sLawCell : Stmt := topS 4
abbrev sLawForce : Stmt := topS 5
abbrev sLawPerson : Stmt := topS 6
abbrev sLaw : Stmt := topS 7
theorem scInForce : FnScope ["edits", "undone", "found", "edit_id", "_", "action"] ["edits"] (defScope sInForce) := ⟨rfl, rfl, rfl, by decide +kernel, rfl, by decide +kernel, by decide +kernel⟩
theorem scInForceWithout : FnScope ["edits", "persons", "edit_id"] ["edits", "persons"] (defScope sInForceWithout) := ⟨rfl, rfl, rfl, by decide +kernel, rfl, by decide +kernel, by decide +kernel⟩
theorem scLawCell : FnScope ["script", "k"] ["script", "k"] (defScope sLawCell) := ⟨rfl, rfl, rfl, by decide +kernel, rfl, by decide +kernel, by decide +kernel⟩
theorem scLawForce : FnScope ["edits", "found", "edit", "undone", "other"] ["edits"] (defScope sLawForce) := ⟨rfl, rfl, rfl, by decide +kernel, rfl, by decide +kernel, by decide +kernel⟩
theorem scLawPerson : FnScope ["script", "first", "person", "most", "edits", "k", "cell", "action", "seen"] ["script", "first", "person", "most"] (defScope sLawPerson) := ⟨rfl, rfl, rfl, by decide +kernel, rfl, by decide +kernel, by decide +kernel⟩
theorem scLaw : FnScope ["script", "edits", "due", "edit_id"] ["script"] (defScope sLaw) := ⟨rfl, rfl, rfl, by decide +kernel, rfl, by decide +kernel, by decide +kernel⟩
set_option maxHeartbeats 0 in
structure Txt (K : PySem.W.Frag) (mg : Str → Option Value) where
  fInForce : Addr
  fdInForce : FuncData
  FInForce : Fun K "in_force" "in_force" sInForce fInForce fdInForce
  bInForce : Binds K fdInForce ["edits"] []
  gInForce : mg "in_force" = some (.ref fInForce)
  fInForceWithout : Addr
  fdInForceWithout : FuncData
  FInForceWithout : Fun K "in_force_without" "in_force_without" sInForceWithout fInForceWithout fdInForceWithout
  bInForceWithout : Binds K fdInForceWithout ["edits", "persons"] []
  gInForceWithout : mg "in_force_without" = some (.ref fInForceWithout)
  fLawCell : Addr
  fdLawCell : FuncData
  FLawCell : Fun K "_law_cell" "_law_cell" sLawCell fLawCell fdLawCell
  bLawCell : Binds K fdLawCell ["script", "k"] []
  gLawCell : mg "_law_cell" = some (.ref fLawCell)
  fLawForce : Addr
  fdLawForce : FuncData
  FLawForce : Fun K "_law_force" "_law_force" sLawForce fLawForce fdLawForce
  bLawForce : Binds K fdLawForce ["edits"] []
  gLawForce : mg "_law_force" = some (.ref fLawForce)
  fLawPerson : Addr
  fdLawPerson : FuncData
  FLawPerson : Fun K "_law_person" "_law_person" sLawPerson fLawPerson fdLawPerson
  bLawPerson : Binds K fdLawPerson ["script", "first", "person", "most"] []
  gLawPerson : mg "_law_person" = some (.ref fLawPerson)
  fLaw : Addr
  fdLaw : FuncData
  FLaw : Fun K "law" "law" sLaw fLaw fdLaw
  bLaw : Binds K fdLaw ["script"] []
  gLaw : mg "law" = some (.ref fLaw)
  z_sorted : mg "sorted" = none
  z_range : mg "range" = none
  z_len : mg "len" = none
  z_list : mg "list" = none
  z_int : mg "int" = none
  z_tuple : mg "tuple" = none
section
variable {P : Program} {w : World} {K : PySem.W.Frag} {mg : Str → Option Value} {base : Heap}
/-! ### heaps -/
theorem _root_.L2.Same.tup {K : PySem.W.Frag} {H H' : Hp} {a : Addr} {xs : List V} (e : Same H H') (h : SqT K H a xs) : SqT K H' a xs := by
  rcases h with (h | ⟨o, h⟩) | h
  · exact .inl (.inl (e _ _ h))
  · exact .inl (.inr ⟨o, e _ _ h⟩)
  · exact .inr h
theorem same_new {H : Hp} {p : Addr} {o : HO} (h : H p = none) : Same H (upd H p o) := fun b x e => by
  rw [upd_ne (ne_of_none e h)]
  exact e
theorem same_mut {H H' : Hp} {p : Addr} {o : HO} (e : Same H H') (h : H p = none) : Same H (upd H' p o) := fun b x ha => by
  rw [upd_ne (ne_of_none ha h)]
  exact e b x ha
theorem walk_zipT {K : PySem.W.Frag} {a b : Addr} {xs ys : List V} {n : Nat} (hn : n = min xs.length ys.length) : Walk (ItzT K a b) n (fun H => SqT K H a xs ∧ SqT K H b ys) (YPair (fun i => xs[i]?) (fun i => ys[i]?)) := by
  subst hn
  refine ⟨fun i _ hi q => ?_, fun _ q => ⟨xs, ys, q.1, q.2, by omega⟩, fun i H v H' _ q y => ?_⟩
  · have h1 : i < xs.length := by omega
    have h2 : i < ys.length := by omega
    exact ⟨xs, ys, xs[i], ys[i], q.1, q.2, by simp [h1], by simp [h2]⟩
  · obtain ⟨T, x, z, h1, h2, h3, h4, h5⟩ := y
    exact ⟨T, x, z, h1, h2, h3, h4 xs q.1, h5 ys q.2⟩
/-- a function that hands back a bool or an int and changes nothing -/
theorem getD_at {ns : List Int} {i : Nat} (h : i < ns.length) : (ns.map V.int)[i]? = some (.int (ns.getD i 0)) := by
  rw [List.getElem?_map, List.getElem?_eq_getElem h, List.getD_eq_getElem?_getD, List.getElem?_eq_getElem h]
  rfl
theorem dp_ints {K : PySem.W.Frag} {H : Hp} : ∀ ns : List Int, DpAll K H (ns.map V.int) (ns.map PyData.int)
  | [] => .nil
  | n :: r => .cons (.int n) (dp_ints r)
theorem shaped_tup (ns : List Int) : SeqAt.shaped (.tuple (ns.map PyData.int)) = true := by
  simp [SeqAt.shaped, PyData.canLay0, PyData.depth, PySem.W.ke_canLayAll0, PySem.W.ke_depthAll]
theorem shaped_lst (ns : List Int) : SeqAt.shaped (.list (ns.map PyData.int)) = true := PySem.W.ke_shaped_ints ns
theorem eqv_same {d : PyData} (h : SeqAt.shaped d = true) : PyData.eqv d d = true := by
  refine SeqAt.eqv_refl d ?_
  unfold SeqAt.shaped at h
  exact (Bool.and_eq_true _ _ ▸ h).1
theorem yesT {σ : L2.St} {H : Hp} {A B : Hp → Prop} (h : A H) : tYes σ H (fun b H3 => if b = true then A H3 else B H3) := iteT (A := A H) (B := B H) h
/-! ### texts -/
open SX (S S_len S_cat slice_to slice_from num_S int_S)
open PySem.NumText (digitsVal AllDigits)
open TL (numL)
def cap (c : Nat) : Bool := decide (65 ≤ c ∧ c ≤ 90)
def dig (c : Nat) : Bool := decide (48 ≤ c ∧ c ≤ 57)
theorem dig_mem (c : Nat) : decide (c ∈ ("0123456789" : Str).cps.toList) = dig c := by
  have e : ("0123456789" : Str).cps.toList = [48, 49, 50, 51, 52, 53, 54, 55, 56, 57] := by decide +kernel
  rw [e]
  unfold dig
  refine decide_eq_decide.mpr ?_
  simp only [List.mem_cons, List.not_mem_nil, or_false]
  omega
theorem cap_mem (c : Nat) : decide (c ∈ ("ABCDEFGHIJKLMNOPQRSTUVWXYZ" : Str).cps.toList) = cap c := by
  have e : ("ABCDEFGHIJKLMNOPQRSTUVWXYZ" : Str).cps.toList = [65, 66, 67, 68, 69, 70, 71, 72, 73, 74, 75, 76, 77, 78, 79, 80, 81, 82, 83, 84, 85, 86, 87, 88, 89, 90] := by decide +kernel
  rw [e]
  unfold cap
  refine decide_eq_decide.mpr ?_
  simp only [List.mem_cons, List.not_mem_nil, or_false]
  omega
theorem walk_S {a : List Nat} : Walk (Its (S a)) a.length (fun _ => True) (fun i H v H' => H' = H ∧ ∃ c, a[i]? = some c ∧ v = .str (S [c])) :=
  ⟨fun i _ hi _ => by show i < a.toArray.size; simpa using hi, fun _ _ => by show a.toArray.size ≤ a.length; simp, fun i H v H' _ _ y => by
    obtain ⟨e, c, h1, h2⟩ := y
    exact ⟨e, c, by simpa using h1, h2⟩⟩
theorem tw_len {p : Nat → Bool} : ∀ {a : List Nat} {i c : Nat}, (∀ x ∈ a.take i, p x = true) → a[i]? = some c → p c = false → (a.takeWhile p).length = i
  | [], i, c, _, e, _ => by simp at e
  | x :: r, 0, c, _, e, hc => by
    have e2 := Option.some.inj e
    rw [List.takeWhile_cons, e2, hc]
    rfl
  | x :: r, i + 1, c, h, e, hc => by
    have hx : p x = true := h x (by simp)
    rw [List.takeWhile_cons, hx]
    show ((r.takeWhile p).length + 1) = i + 1
    rw [tw_len (fun y hy => h y (by rw [List.take_succ_cons]; exact List.mem_cons_of_mem _ hy)) (by simpa using e) hc]
theorem tw_all {p : Nat → Bool} {a : List Nat} (h : ∀ x ∈ a, p x = true) : (a.takeWhile p).length = a.length := by
  induction a with
  | nil => rfl
  | cons x r ih =>
    rw [List.takeWhile_cons, h x List.mem_cons_self]
    show (r.takeWhile p).length + 1 = r.length + 1
    rw [ih fun y hy => h y (List.mem_cons_of_mem _ hy)]
theorem tw_self {p : Nat → Bool} : ∀ {a : List Nat}, (∀ x ∈ a, p x = true) → a.takeWhile p = a
  | [], _ => rfl
  | x :: r, h => by rw [List.takeWhile_cons, h x List.mem_cons_self, if_pos rfl, tw_self fun y hy => h y (List.mem_cons_of_mem _ hy)]
theorem tw_le {p : Nat → Bool} (a : List Nat) : (a.takeWhile p).length ≤ a.length := by
  induction a with
  | nil => exact Nat.le_refl _
  | cons x r ih =>
    rw [List.takeWhile_cons]
    split
    · exact Nat.succ_le_succ ih
    · exact Nat.zero_le _
theorem tw_take {p : Nat → Bool} : ∀ (a : List Nat), ∀ x ∈ a.take (a.takeWhile p).length, p x = true
  | [], x, h => by simp at h
  | y :: r, x, h => by
    rw [List.takeWhile_cons] at h
    split at h
    · rename_i hy
      rw [List.length_cons, List.take_succ_cons] at h
      rcases List.mem_cons.mp h with e | e
      · rw [e]
        exact hy
      · exact tw_take r x e
    · simp at h
theorem tw_full {p : Nat → Bool} {a : List Nat} (h : (a.takeWhile p).length = a.length) : ∀ x ∈ a, p x = true := fun x hx => tw_take a x (by rw [h, List.take_length]; exact hx)
theorem tw_congr {p q : Nat → Bool} (h : ∀ c, p c = q c) (a : List Nat) : a.takeWhile p = a.takeWhile q := by
  rw [show p = q from funext h]
theorem in12 (n : Int) : inV (.int n) [.int 1, .int 2] = decide (n = 1 ∨ n = 2) := by
  show ((1 : Int) == n || ((2 : Int) == n || false)) = _
  rw [Bool.eq_iff_iff]
  simp only [Bool.or_false, Bool.or_eq_true, beq_iff_eq, decide_eq_true_eq]
  omega
theorem sz100 {n : Nat} (h : n ≤ 100000) : n ≤ sizeLine := Nat.le_trans h (by decide)
theorem item_by {α : Type} (f : α → V) {xs : List α} {k : Int} (h0 : 0 ≤ k) (h1 : k < xs.length) : ∃ v ∈ xs, atI (xs.map f) k = some (f v) := by
  obtain ⟨j, rfl⟩ := Int.eq_ofNat_of_zero_le h0
  have hj : j < xs.length := by omega
  exact ⟨xs[j], List.getElem_mem hj, atI_nat (by rw [List.getElem?_map, List.getElem?_eq_getElem hj]; rfl)⟩
theorem dig_all {a : List Nat} (h : a.all dig = true) : AllDigits a := fun c hc => of_decide_eq_true (List.all_eq_true.mp h c hc)
theorem int_dig {a : List Nat} (h : a.all dig = true) (hne : a ≠ []) (hl : a.length ≤ 640) : intText? (S a) = some ((digitsVal a : Nat) : Int) := intText_digits (x := S a) (dig_all h) hne (by rw [S_len]; omega)
/-! ### a run of signs -/
def rn (z : Str) (a : List Nat) : Nat := (a.takeWhile fun c => decide (c ∈ z.cps.toList)).length
theorem ext_tup (l : Addr) (items : Array Value) (n : Nat) (b : Addr) (items2 : Array Value) (n2 : Nat) (dd : Option Addr) (sl : Array (Option Value)) (hs0 : ¬(!items.isEmpty && Builtin.List.listTooLong (items.size + items2.size)) = true) (hs1 : items.size ≤ sizeLine) (hs2 : items.size + items2.size ≤ sizeLine + 1) :
    Meets (Builtin.«list.extend» ⟨[.ref l, .ref b], []⟩) (fun _ R s => s.heap.get? l = some { cls := .type "list", dict := none, data := .seq items n, slots := #[] } ∧ s.heap.get? b = some { cls := .type "tuple", dict := dd, data := .seq items2 n2, slots := sl } ∧ R (.ok (.ret Value.none)) { s with heap := s.heap.update l (Obj.mapSeq fun x => x ++ items2), toks := s.toks }) :=
  .of_wp fun prog w A R s h => by
    obtain ⟨hp, g, d, tk, os⟩ := s
    obtain ⟨hl, hb, h⟩ := h
    have f1 := AutoSeq1.idx_int
    have f2 := AutoSeq1.sub_tuple_tuple
    have f3 := AutoSeq1.sub_list_list
    have f4 := AutoSeq1.sub_tuple_list
    have f5 := AutoSeq1.sub_list_tuple
    have hz' : (items ++ items2).size ≤ sizeLine + 1 := by
      rw [Array.size_append]
      exact hs2
    wp_walk using (wpAny_updateSeq hl rfl (hz := hs1) (_hz' := hz')), AutoSeq1.wpAny_loadPart' hl, AutoSeq1.wpAny_loadPart' hb
    exact ⟨_, rfl, h⟩
def rExtT (K : PySem.W.Frag) : V → List V → Hp → VK → Prop := fun x vs H Q => ∃ l b xs zs, x = .ref l ∧ vs = [.ref b] ∧ H l = some (.lst xs) ∧ SqT K H b zs ∧ xs.length + zs.length ≤ sizeLine ∧ Q .non (upd H l (.lst (xs ++ zs)))
theorem mt_extT {X : Cx} : MtM X "list.extend" (rExtT X.K) := by
  intro pins s σ H x vs v us Q I rx rv h
  obtain ⟨l, b, xs, zs, rfl, rfl, hH, hB, hz, q⟩ := h
  cases rx
  obtain ⟨u, rfl, ru⟩ := rv.one
  cases ru
  obtain ⟨z, its, n, r, hl, e⟩ := I.lstM hH
  obtain ⟨its2, r2, ⟨⟨cls, dd, data, sl⟩, e2, hc, n2, hd⟩, hl2⟩ := I.tuple hB
  simp only at hc hd
  subst hc hd
  have ll2 := r2.length
  have hsz : its.toArray.size + its2.toArray.size ≤ sizeLine := by rw [List.size_toArray, List.size_toArray]; omega
  have hlong : ¬ (!its.toArray.isEmpty && Builtin.List.listTooLong (its.toArray.size + its2.toArray.size)) = true := by
    rw [notLongL hsz, Bool.and_false]
    exact Bool.false_ne_true
  refine call_meets PySem.F.slot_list_extend ⟨_, e, rfl⟩ PySem.F.entry_list_extend (PySem.F.args_list_extend_2 _ _)
    (ext_tup l its.toArray n b its2.toArray n2 dd sl hlong (by rw [List.size_toArray]; omega) (by omega)) ⟨e, e2, ?_⟩
  refine ⟨.non, _, I.lset (its' := its ++ its2) hH e (by simp) (r.append r2) ?_, rfl, q⟩
  rw [List.length_append]
  omega
def spCell (K : PySem.W.Frag) : Sp := fun vs H Q _ => ∃ (a : Addr) (ns : List Int) (k : Int), vs = [.ref a, .int k] ∧ 0 ≤ k ∧ SqL K H a (ns.map V.int) ∧ ∀ v : Int, Q (.int v) H
theorem okLawCell (T : Txt K mg) : FnOk P w K mg base CX0 1 T.fLawCell T.fdLawCell ["script", "k"] (spCell K) := by
  refine T.FLawCell.ok scLawCell (fun vs H Q E h => ?_) (fun cdv A outer s H vs Q E hr h => ?_)
  · obtain ⟨a, ns, k, rfl, _⟩ := h
    rfl
  · obtain ⟨a, ns, k, rfl, h0, hS, q⟩ := h
    obtain ⟨k, rfl⟩ := Int.eq_ofNat_of_zero_le h0
    -- slots script=0 k=1
    refine ⟨_, (pss_cons (ps_if (pt_cmpR op_lt (pv 1) (pe_callB call_len_seq (by rfl) T.z_len PySem.boot_len (pa_cons (pv 0) pa_nil)) (nomark _))
          (pss_one (ps_ret (pe_ix ix_list (pv 0) (pv 1) (fun _ _ => rfl))))
          pss_nil)
        (pss_one (ps_ret pe_int))), ?_⟩
    refine ⟨_, rfl, _, rfl, a, _, rfl, .inl hS, _, _, rfl, rfl, _, rfl, ite2 (fun c => ?_) (fun c => ?_)⟩
    · have hk : k < ns.length := by
        have c2 := of_decide_eq_true c
        rw [List.length_map] at c2
        omega
      exact ⟨_, rfl, _, rfl, a, _, _, _, rfl, rfl, hS, atI_nat (getD_at hk), q _⟩
    · exact q 0
theorem ix_tupK {X : Cx} {K : PySem.W.Frag} (h : X.K = K) : IxR X (rIxT K) := by
  subst h
  exact ix_tup
theorem ix_listK {X : Cx} {K : PySem.W.Frag} (h : X.K = K) : IxR X (rIxL K) := by
  subst h
  exact ix_list
theorem call_len_seqK {X : Cx} {K : PySem.W.Frag} (h : X.K = K) : CallR X (.builtin "len") (fun xs H Q => ∃ p ys, xs = [.ref p] ∧ (SqL K H p ys ∨ SqT K H p ys) ∧ Q (.int ys.length) H) := by
  subst h
  exact call_len_seq
theorem units65 {k : Nat} {A : Around} (r : Room k A) : A.units + 65 < cLine := by
  have := r.un
  omega
def rCountD (K : PySem.W.Frag) : V → List V → Hp → VK → Prop := fun x xs H Q => ∃ (a : Addr) (y : V) (d : PyData) (ds : List PyData), x = V.ref a ∧ xs = [y] ∧ Dp K H (V.ref a) (.list ds) ∧ Dp K H y d ∧
  SeqAt.shaped (.list ds) = true ∧ SeqAt.shaped d = true ∧ Q (.int ((ds.countP fun z => PyData.eqv z d : Nat) : Int)) H
theorem mt_countD {X : Cx} (hu : X.A.units + 65 < cLine) : MtR X "list.count" (rCountD X.K) := by
  intro pins s σ H x xs v us Q I rx rxs h
  obtain ⟨a, y, d, ds, rfl, rfl, hl, hy, sl, sd, q⟩ := h
  cases rx
  cases rxs with
  | cons ry rt =>
    rename_i uy ut
    cases rt
    obtain ⟨bs, r1⟩ := Dp.reads I d y uy hy ry
    have hxs : PyData.canLayAll0 ds = true := SeqAt.canLay_of_shaped sl
    have hroom : X.A.units + 1 + min (PyData.depthAll ds) d.depth < cLine := room_in_shaped sd hu
    cases hl with
    | lst hs ha =>
      obtain ⟨its, rv, ⟨⟨cls, dd, data, sls⟩, n, ho, hc, hdn, hdt⟩, hlen⟩ := I.list hs
      simp only at hc hdt
      subst hc hdt
      obtain ⟨as, h4⟩ := Dp.readsAll I ds _ its ha rv
      have hmap : its.map (SeqAt.readOf s.heap) = ds := SeqAt.readsAll_map ds its as hxs h4
      have hc : its.countP (fun u => PyData.eqv (SeqAt.readOf s.heap u) d) = ds.countP fun z => PyData.eqv z d := by
        conv => rhs; rw [← hmap, List.countP_map]
        rfl
      refine call_meets PySem.F.slot_list_count ⟨_, ho, rfl⟩ PySem.F.entry_list_count (PySem.F.args_list_count_2 _ _)
        (SeqAt.list_countAt a its.toArray n dd sls uy (fun u => PyData.eqv (SeqAt.readOf s.heap u) d)) ⟨ho, SeqAt.items_eqAt (vs := its.toArray) (show ReadsAll s.heap its.toArray.toList ds as from h4) r1 hxs (SeqAt.canLay_of_shaped sd) hroom, ?_⟩
      refine ⟨.int _, H, I.tok _, ⟨_, rfl⟩, ?_⟩
      rw [List.toList_toArray, hc]
      exact q
/-! ### ids -/
def idD (z : Int × Int) : PyData := .tuple [.int z.1, .int z.2]
theorem idD_lay (z : Int × Int) : (idD z).canLay0 = true := by simp [idD, PyData.canLay0, PyData.canLayAll0]
theorem idD_depth (z : Int × Int) : (idD z).depth = 1 := by simp [idD, PyData.depth, PyData.depthAll]
theorem idDs_lay : ∀ zs : List (Int × Int), PyData.canLayAll0 (zs.map idD) = true
  | [] => by simp [PyData.canLayAll0]
  | z :: zs => by simp [PyData.canLayAll0, idD_lay z, idDs_lay zs]
theorem idDs_depth : ∀ zs : List (Int × Int), PyData.depthAll (zs.map idD) ≤ 1
  | [] => by simp [PyData.depthAll]
  | z :: zs => by
    have h1 := idDs_depth zs
    have h2 := idD_depth z
    simp only [List.map_cons, PyData.depthAll]
    omega
theorem idD_shaped (z : Int × Int) : SeqAt.shaped (idD z) = true := by
  have h := idD_depth z
  show ((idD z).canLay0 && decide ((idD z).depth ≤ 64)) = true
  rw [Bool.and_eq_true]
  exact ⟨idD_lay z, decide_eq_true (by omega)⟩
theorem idDs_shaped (zs : List (Int × Int)) : SeqAt.shaped (.list (zs.map idD)) = true := by
  have h1 := idDs_depth zs
  have h2 : PyData.depth (.list (zs.map idD)) ≤ 64 := by
    simp only [PyData.depth]
    omega
  show (PyData.canLay0 (.list (zs.map idD)) && decide (PyData.depth (.list (zs.map idD)) ≤ 64)) = true
  rw [Bool.and_eq_true]
  exact ⟨by simp only [PyData.canLay0]; exact idDs_lay zs, decide_eq_true h2⟩
theorem idD_eqv (z w : Int × Int) : PyData.eqv (idD z) (idD w) = decide (z = w) := by
  obtain ⟨a, b⟩ := z
  obtain ⟨a', b'⟩ := w
  have e : PyData.eqv (idD (a, b)) (idD (a', b')) = ((a == a') && ((b == b') && true)) := by simp only [idD, PyData.eqv, PyData.eqvAll]
  rw [e, Bool.eq_iff_iff]
  simp
theorem idDs_any (zs : List (Int × Int)) (w : Int × Int) : ((zs.map idD).any fun z => PyData.eqv z (idD w)) = decide (w ∈ zs) := by
  rw [Bool.eq_iff_iff, List.any_eq_true]
  constructor
  · rintro ⟨x, hx, hw⟩
    obtain ⟨z, hz, rfl⟩ := List.mem_map.mp hx
    rw [idD_eqv] at hw
    rw [← of_decide_eq_true hw]
    exact decide_eq_true hz
  · intro h
    exact ⟨idD w, List.mem_map.mpr ⟨w, of_decide_eq_true h, rfl⟩, by rw [idD_eqv]; exact decide_eq_true rfl⟩
theorem idDs_count (zs : List (Int × Int)) (w : Int × Int) : ((zs.map idD).countP fun z => PyData.eqv z (idD w)) = zs.countP fun z => decide (z = w) := by
  rw [List.countP_map]
  refine List.countP_congr fun z _ => ?_
  show PyData.eqv (idD z) (idD w) = true ↔ _
  rw [idD_eqv]
/-! ### edits -/
structure Ed where
  p : Nat
  n : Int
  v : List Int
def Ed.id (e : Ed) : Int × Int := (1 + (e.p : Int), e.n)
structure OkE (e : Ed) : Prop where
  p : e.p < 4
  n : 1 ≤ e.n
  v : e.v.length = 4
  nh : e.n ≤ 20
  vh : ∀ z ∈ e.v, 0 ≤ z ∧ z ≤ 20
theorem OkE.at_ {e : Ed} (h : OkE e) {j : Nat} (hj : j < 4) : 0 ≤ e.v.getD j 0 ∧ e.v.getD j 0 ≤ 20 := by
  have : j < e.v.length := by rw [h.v]; exact hj
  rw [List.getD_eq_getElem?_getD, List.getElem?_eq_getElem this]
  exact h.vh _ (List.getElem_mem this)
inductive RepI (H : Hp) : List V → List Ed → Prop where
  | nil : RepI H [] []
  | cons {a : Addr} {e : Ed} {vs : List V} {ds : List Ed} : H a = some (.tup [.int (1 + (e.p : Int)), .int e.n]) → RepI H vs ds → RepI H (.ref a :: vs) (e :: ds)
def TK (H H' : Hp) : Prop := ∀ q xs, H q = some (.tup xs) → H' q = some (.tup xs)
theorem TK.of {H H' : Hp} (s : Same H H') : TK H H' := fun q xs h => s q _ h
theorem TK.trans {H H1 H2 : Hp} (a : TK H H1) (b : TK H1 H2) : TK H H2 := fun q xs h => b q xs (a q xs h)
theorem TK.mut {H : Hp} {d : Addr} {xs : List V} {o : HO} (h : H d = some (.lst xs)) : TK H (upd H d o) := fun q ys hq => by
  have : q ≠ d := fun z => by
    rw [z, h] at hq
    cases hq
  rw [upd_ne this]
  exact hq
theorem RepI.mono {H H' : Hp} (s : TK H H') : ∀ {vs ds}, RepI H vs ds → RepI H' vs ds
  | _, _, .nil => .nil
  | _, _, .cons h r => .cons (s _ _ h) (r.mono s)
theorem RepI.snoc {H : Hp} {a : Addr} {e : Ed} (h : H a = some (.tup [.int (1 + (e.p : Int)), .int e.n])) : ∀ {vs ds}, RepI H vs ds → RepI H (vs ++ [.ref a]) (ds ++ [e])
  | _, _, .nil => .cons h .nil
  | _, _, .cons h2 r => .cons h2 (r.snoc h)
theorem dp_id {K : PySem.W.Frag} {H : Hp} {a : Addr} {x y : Int} (h : H a = some (.tup [.int x, .int y])) : Dp K H (.ref a) (idD (x, y)) := .tup (SqT.of h) (.cons (.int _) (.cons (.int _) .nil))
theorem RepI.dp {K : PySem.W.Frag} {H : Hp} : ∀ {vs ds}, RepI H vs ds → DpAll K H vs ((ds.map Ed.id).map idD)
  | _, _, .nil => .nil
  | _, _, .cons h r => .cons (dp_id h) r.dp
def EdAt (H : Hp) (x : V) (e : Ed) : Prop := ∃ (q a b : Addr) (c : V), x = .ref q ∧ H q = some (.tup [.ref a, .ref b, c]) ∧ H a = some (.tup [.int (1 + (e.p : Int)), .int e.n]) ∧ H b = some (.tup (e.v.map V.int))
theorem EdAt.mono {H H' : Hp} {x : V} {e : Ed} (s : TK H H') (h : EdAt H x e) : EdAt H' x e := by
  obtain ⟨q, a, b, c, h0, h1, h2, h3⟩ := h
  exact ⟨q, a, b, c, h0, s _ _ h1, s _ _ h2, s _ _ h3⟩
structure Rep (H : Hp) (rs : List V) (D : List Ed) : Prop where
  len : rs.length = D.length
  at_ : ∀ (i : Nat) (x : V) (e : Ed), rs[i]? = some x → D[i]? = some e → EdAt H x e
theorem Rep.mono {H H' : Hp} {rs : List V} {D : List Ed} (s : TK H H') (h : Rep H rs D) : Rep H' rs D := ⟨h.len, fun i x e h1 h2 => (h.at_ i x e h1 h2).mono s⟩
theorem Rep.nil {H : Hp} : Rep H [] [] := ⟨rfl, fun i x e h => by simp at h⟩
theorem Rep.snoc {H : Hp} {rs : List V} {D : List Ed} {x : V} {e : Ed} (h : Rep H rs D) (E : EdAt H x e) : Rep H (rs ++ [x]) (D ++ [e]) := by
  refine ⟨by rw [List.length_append, List.length_append, h.len]; rfl, fun i y f h1 h2 => ?_⟩
  rcases Nat.lt_or_ge i rs.length with z | z
  · rw [List.getElem?_append_left z] at h1
    rw [List.getElem?_append_left (by rw [← h.len]; exact z)] at h2
    exact h.at_ i y f h1 h2
  · rw [List.getElem?_append_right z] at h1
    rw [List.getElem?_append_right (by rw [← h.len]; exact z), ← h.len] at h2
    generalize i - rs.length = j at h1 h2
    rcases j with _ | j
    · simp at h1 h2
      rw [← h1, ← h2]
      exact E
    · simp at h1
theorem Rep.rev {H : Hp} {rs : List V} {D : List Ed} (h : Rep H rs D) : Rep H rs.reverse D.reverse := by
  refine ⟨by rw [List.length_reverse, List.length_reverse, h.len], fun i x e h1 h2 => ?_⟩
  have hi : i < rs.length := by
    have := (List.getElem?_eq_some_iff.mp h1).1
    rwa [List.length_reverse] at this
  rw [List.getElem?_reverse hi] at h1
  rw [List.getElem?_reverse (by rw [← h.len]; exact hi), ← h.len] at h2
  exact h.at_ _ x e h1 h2
theorem Rep.get {H : Hp} {rs : List V} {D : List Ed} (h : Rep H rs D) {i : Nat} {x : V} (hx : rs[i]? = some x) : ∃ e, D[i]? = some e ∧ EdAt H x e := by
  have hi := (List.getElem?_eq_some_iff.mp hx).1
  have hi2 : i < D.length := by rw [← h.len]; exact hi
  have hd : D[i]? = some D[i] := List.getElem?_eq_getElem hi2
  exact ⟨_, hd, h.at_ i x _ hx hd⟩
def nums (D : List Ed) (p : Nat) : List Int := (D.filter fun e => decide (e.p = p)).map Ed.n
theorem nums_step {D : List Ed} {i p : Nat} {e : Ed} (h : D[i]? = some e) : nums (D.take (i + 1)) p = nums (D.take i) p ++ if e.p = p then [e.n] else [] := by
  unfold nums
  rw [List.take_add_one, h, List.filter_append, List.map_append]
  congr 1
  by_cases z : e.p = p
  · simp [z]
  · simp [z]
theorem nums_len (D : List Ed) (p : Nat) : (nums D p).length ≤ D.length := by
  unfold nums
  rw [List.length_map]
  exact List.length_filter_le _ _
theorem mem_nums {D : List Ed} {p : Nat} {k : Int} : k ∈ nums D p ↔ ∃ e ∈ D, e.p = p ∧ e.n = k := by
  unfold nums
  rw [List.mem_map]
  constructor
  · rintro ⟨e, he, rfl⟩
    have := List.mem_filter.mp he
    exact ⟨e, this.1, of_decide_eq_true this.2, rfl⟩
  · rintro ⟨e, he, hp, rfl⟩
    exact ⟨e, List.mem_filter.mpr ⟨he, decide_eq_true hp⟩, rfl⟩
/-! ### sorted(xs), xs of data -/
theorem each_of_vals : ∀ {bs : List (V × PyData)} {vs : List Value}, Vals (bs.map Prod.fst) vs → PySem.W.EachIs (fun (v : Value) (b : V × PyData) => RelV b.1 v) vs bs
  | [], _, h => by
    cases h
    exact .nil
  | _ :: _, _, h => by
    cases h with
    | cons h r => exact .cons h (each_of_vals r)
theorem vals_of_each : ∀ {vs : List Value} {bs : List (V × PyData)}, PySem.W.EachIs (fun (v : Value) (b : V × PyData) => RelV b.1 v) vs bs → Vals (bs.map Prod.fst) vs
  | _, _, .nil => .nil
  | _, _, .cons h r => .cons h (vals_of_each r)
theorem reads_of_each {X : Cx} {pins : List (Addr × Obj)} {σ : L2.St} {H : Hp} {s : Shared} (I : Inv X pins σ H s) : ∀ {vs : List Value} {bs : List (V × PyData)}, PySem.W.EachIs (fun (v : Value) (b : V × PyData) => RelV b.1 v) vs bs → (∀ b ∈ bs, Dp X.K H b.1 b.2) → PySem.W.EachIs (fun (v : Value) (b : V × PyData) => ∃ as, Reads s.heap v b.2 as) vs bs
  | _, _, .nil, _ => .nil
  | _, _, .cons h r, d => .cons (Dp.reads I _ _ _ (d _ (List.mem_cons_self ..)) h) (reads_of_each I r fun b hb => d b (List.mem_cons_of_mem _ hb))
def rSortedD (K : PySem.W.Frag) : List V → Hp → VK → Prop := fun vs H Q => ∃ (a : Addr) (bs : List (V × PyData)), vs = [V.ref a] ∧ SqL K H a (bs.map Prod.fst) ∧ (∀ b ∈ bs, Dp K H b.1 b.2) ∧ PySem.W.AllAlike (bs.map Prod.snd) ∧ PySem.W.Sortable (bs.map Prod.snd) ∧ (∀ b ∈ bs, b.2.depth ≤ 50) ∧
  ∀ p, H p = none → Q (.ref p) (upd H p (.lst ((bs.mergeSort (PySem.W.dataLe false Prod.snd)).map Prod.fst)))
theorem cr_sortedD {X : Cx} (hu : X.A.units + 64 < cLine) : CallR X (.builtin "sorted") (rSortedD X.K) := by
  intro pins s σ H vs us Q I r h
  obtain ⟨a, bs, rfl, hs, hd, hal, hso, hdp, q⟩ := h
  obtain ⟨its, rv, hl, hz⟩ := I.list hs
  rw [Vals.ref1 r]
  have e := each_of_vals rv
  refine PySem.W.sorted_data (enc := Prod.snd) hl.isList e (reads_of_each I e hd) hal hso (by rw [List.length_map] at hz; exact hz) (fun b hb => ?_) fun out h1 h2 => ?_
  · have := hdp b hb
    omega
  obtain ⟨ep, he'⟩ := PyProof.Rows.sortedAll_at s.heap its out.toArray
  have hlen : ((bs.mergeSort (PySem.W.dataLe false Prod.snd)).map Prod.fst).length ≤ sizeLine := by
    rw [List.length_map, List.length_mergeSort]
    rw [List.length_map] at hz
    exact hz
  exact ⟨.ref _, upd H (s.heap.objs.size + 1) (.lst ((bs.mergeSort (PySem.W.dataLe false Prod.snd)).map Prod.fst)), I.laid (t' := s.toks) (fun _ _ => PyProof.Rows.sortedAll_old) (Nat.le_succ _) ⟨hlen, out, ep, vals_of_each h2, he'⟩, rfl, q _ (I.hok.fresh (Nat.le_succ _))⟩
/-! ### sorted(xs, key=f), f a def -/
mutual
theorem dp_same {K : PySem.W.Frag} {H H' : Hp} (e : Same H H') : ∀ {v : V} {d : PyData}, Dp K H v d → Dp K H' v d
  | _, _, .non => .non
  | _, _, .bl b => .bl b
  | _, _, .int i => .int i
  | _, _, .str x => .str x
  | _, _, .lst h r => .lst (e.seq h) (dpAll_same e r)
  | _, _, .tup h r => .tup (Same.tup e h) (dpAll_same e r)
theorem dpAll_same {K : PySem.W.Frag} {H H' : Hp} (e : Same H H') : ∀ {vs : List V} {ds : List PyData}, DpAll K H vs ds → DpAll K H' vs ds
  | _, _, .nil => .nil
  | _, _, .cons h r => .cons (dp_same e h) (dpAll_same e r)
end
structure NewA (X : Cx) (pins : List (Addr × Obj)) (a : Addr) : Prop where
  big : X.s_0.heap.objs.size ≤ a
  loc : a ≠ X.env.locals
  fs : a ∉ X.fs
  cell : ∀ x c, X.env.cells.lookup x = some c → c ≠ a
  pin : ∀ p ∈ X.pn ++ pins, p.1 ≠ a
section
variable {X : Cx} {pins : List (Addr × Obj)} {σ : L2.St} {H : Hp} {s : Shared}
theorem NewA.of (I : Inv X pins σ H s) {a : Addr} (h : s.heap.objs.size ≤ a) : NewA X pins a := by
  refine ⟨Nat.le_trans I.sz h, fun z => ?_, I.nofs h, fun x c e z => ?_, fun p hp z => ?_⟩
  · have := I.lt
    rw [← z] at this
    exact Nat.lt_irrefl _ (Nat.lt_of_lt_of_le this h)
  · obtain ⟨v, o, ho, _⟩ := I.cell x c e
    rw [z] at ho
    exact Nat.lt_irrefl _ (Nat.lt_of_lt_of_le (Heap.lt_size ho) h)
  · obtain ⟨ho, _⟩ := I.pin p hp
    rw [z] at ho
    exact Nat.lt_irrefl _ (Nat.lt_of_lt_of_le (Heap.lt_size ho) h)
theorem NewA.cons {a b : Addr} {o : Obj} (N : NewA X pins a) (h : b ≠ a) : NewA X ((b, o) :: pins) a :=
  ⟨N.big, N.loc, N.fs, N.cell, fun p hp => by
    rcases List.mem_append.mp hp with z | z
    · exact N.pin p (List.mem_append_left _ z)
    · rcases List.mem_cons.mp z with z | z
      · rw [z]
        exact h
      · exact N.pin p (List.mem_append_right _ z)⟩
theorem pin_add {a : Addr} {o : Obj} (I : Inv X pins σ H s) (N : NewA X pins a) (ho : s.heap.get? a = some o) (hn : H a = none) (hd : ∀ v, o.data ≠ .cell v) : Inv X ((a, o) :: pins) σ H s :=
  I.pins_of fun p hp => by
    rcases List.mem_cons.mp hp with z | z
    · rw [z]
      exact ⟨ho, hn, N.loc, N.fs, hd⟩
    · exact I.pin p (List.mem_append_right _ z)
theorem pin_rest {q : Addr × Obj} (I : Inv X (q :: pins) σ H s) : Inv X pins σ H s := I.pins_of fun p hp => I.pin p (List.mem_append_right _ (List.mem_cons_of_mem _ hp))
theorem pin_set {a : Addr} {o o' : Obj} {h' : Heap} {t : Nat} (I : Inv X ((a, o) :: pins) σ H s) (N : NewA X pins a) (hs : Heap.SameBut a s.heap h') (ho : h'.get? a = some o') (hd : ∀ v, o'.data ≠ .cell v) : Inv X ((a, o') :: pins) σ H { s with heap := h', toks := t } := by
  have hn : H a = none := (I.pin (a, o) (List.mem_append_right _ (List.mem_cons_self ..))).2.1
  exact pin_add ((pin_rest I).turned (it := a) (fun b o hb e => (hs.2 b hb).trans e) hn N.loc (.inr N.big) N.cell N.pin) N ho hn hd
theorem ks_done {kS a : Addr} {h' : Heap} {tk c : Nat} {out : List Value} {xs : List V} (I : Inv X pins σ H s) (Nk : NewA X pins kS) (Na : NewA X pins a) (han : H a = none)
    (kp : ∀ b o, b ≠ kS → b ≠ a → s.heap.get? b = some o → h'.get? b = some o) (ha : h'.get? a = some (PyProof.Rows.seqObj "list" out.toArray c)) (hkn : H kS = none) (rv : Vals xs out) (hz : xs.length ≤ sizeLine) :
    Inv X pins σ (upd H a (.lst xs)) { s with heap := h', toks := tk } := by
  have n1 : ∀ {b : Addr}, b ∉ [kS, a] → b ≠ kS := fun h z => h (by rw [z]; exact List.mem_cons_self ..)
  have n2 : ∀ {b : Addr}, b ∉ [kS, a] → b ≠ a := fun h z => h (by rw [z]; exact List.mem_cons_of_mem _ (List.mem_cons_self ..))
  have na : ∀ {b : Addr} {u : HO}, H b = some u → b ≠ a := fun e z => by
    rw [z, han] at e
    cases e
  have nk : ∀ {b : Addr} {u : HO}, H b = some u → b ≠ kS := fun e z => by
    rw [z, hkn] at e
    cases e
  refine I.step (g' := s.gens) (d' := s.drawn) (ch := [kS, a]) (fun b hb => ?_) (fun b o _ _ hc e _ => kp b o (n1 hc) (n2 hc) e) (fun b o _ _ hc e _ => ⟨o.slots, kp b o (n1 hc) (n2 hc) e⟩) (fun b o hc _ n => by rw [upd_ne (n2 hc)]; exact n)
    (fun b o hc e => ⟨o, kp b o (n1 hc) (n2 hc) e⟩) (fun b xs e => by rw [upd_ne (na e)]; exact e) (fun b o u e => by rw [upd_ne (na e)]; exact e) (fun b ps e => ⟨#[], by rw [upd_ne (na e), e, Array.append_empty]⟩) (fun m hm => ?_) (fun b u e => ?_) I.bare
  · rcases List.mem_cons.mp hb with z | z
    · rw [z]
      exact ⟨.inr Nk.big, Nk.loc, Nk.cell, Nk.pin⟩
    · rw [List.mem_singleton.mp z]
      exact ⟨.inr Na.big, Na.loc, Na.cell, Na.pin⟩
  · obtain ⟨o, es, ep, ho, r⟩ := hm
    exact ⟨o, es, ep, kp _ o (fun z => Nk.loc z.symm) (fun z => Na.loc z.symm) ho, r⟩
  · by_cases hb : b = a
    · rw [hb, upd_same] at e
      cases e
      rw [hb]
      exact ⟨hz, out, c, rv, ha⟩
    · rw [upd_ne hb] at e
      refine (I.hok b u e).stay (fun d v hd q => ?_) (fun d q => by rw [upd_ne (na q)]; exact q) fun d xs q => by rw [upd_ne (na q)]; exact q
      rcases hd with z | z
      · rw [z] at q ⊢
        exact kp b v (nk e) hb q
      · exact kp d v (nk z) (na z) q
end
def dead : Obj → Obj := fun o => { o with data := .freed }
theorem dead_none {h : Heap} {a : Addr} {o : Obj} (e : h.get? a = some o) : (h.update a dead).get? a = none := by
  have hlt := Heap.lt_size e
  obtain ⟨os, lf⟩ := h
  have hlt2 : a < os.size := hlt
  show Heap.get? ⟨os.modify a dead, lf⟩ a = none
  unfold Heap.get?
  rw [Array.getElem?_modify, if_pos rfl, Array.getElem?_eq_getElem hlt2]
  rfl
def KeyTurn (X : Cx) (A : Around) (f : Value) (vs : List Value) (kz : List PyData) (H : Hp) : Prop :=
  ∀ (i : Nat) (u : Value) (k : PyData), vs[i]? = some u → kz[i]? = some k → ∀ (pins : List (Addr × Obj)) (σ : L2.St) (H1 : Hp) (s1 : Shared), Inv X pins σ H1 s1 → Same H H1 →
    wpAny (model X.prog X.w) A (call f [u]) (fun w s2 => ∃ y H2, Inv X pins σ H2 s2 ∧ Same H1 H2 ∧ RelV y w ∧ Dp X.K H2 y k) (fun _ _ => False) s1
theorem lst_nc {xs : Array Value} {n : Nat} : ∀ v, (PyProof.Rows.seqObj "list" xs n).data ≠ .cell v := fun v z => by cases z
theorem ks_snoc {R : Value → PyData → Prop} {u : Value} {k : PyData} (h : R u k) : ∀ {us : List Value} {ks : List PyData}, PySem.W.EachIs R us ks → PySem.W.EachIs R (us ++ [u]) (ks ++ [k])
  | _, _, .nil => .cons h .nil
  | _, _, .cons h1 r => .cons h1 (ks_snoc h r)
def KeysAt (K : PySem.W.Frag) (H : Hp) (us : List Value) (ks : List PyData) : Prop := PySem.W.EachIs (fun u k => ∃ y, RelV y u ∧ Dp K H y k) us ks
theorem ks_rest {X : Cx} {pins : List (Addr × Obj)} {σ : L2.St} {H : Hp} {s : Shared} {A : Around} {f : Value} {a kS : Addr} {e1 : Nat} {b : Bool} {vs : List Value} {kz : List PyData} {P : PySem.Fin → Shared → Prop} {E : Value → Shared → Prop}
    (I : Inv X ((kS, PyProof.Rows.seqObj "list" #[] 0) :: (a, PyProof.Rows.seqObj "list" #[] e1) :: pins) σ H s) (Nk : NewA X pins kS) (Na : NewA X pins a) (hka : kS ≠ a)
    (hlen : kz.length = vs.length) (hZ : vs.length ≤ sizeLine) (hal : PySem.W.AllAlike kz) (hsk : PySem.W.Sortable kz) (hu : ∀ d, d ∈ kz → A.units + d.depth < cLine) (turn : KeyTurn X A f vs kz H)
    (h : ∀ s' H' h' tk out c, Inv X pins σ H' s' → Same H H' → H' kS = none → H' a = none → (∀ b o, b ≠ kS → b ≠ a → s'.heap.get? b = some o → h'.get? b = some o) → h'.get? a = some (PyProof.Rows.seqObj "list" (List.toArray out) c) →
      PySem.W.KeyedOut b kz vs out → P (.done (.ret .none)) { s' with heap := h', toks := tk }) :
    wpAny (model X.prog X.w) A (PyProof.Rows.ksk_rest a f b vs.toArray e1 (.ref kS)) P E s := by
  unfold PyProof.Rows.ksk_rest
  apply wpAny_bind
  apply wpAny_rule
  try first
    | rw [List.forIn_toArray]
    | (rw [← Array.forIn_toList]; simp only [List.toList_toArray])
  apply wpAny_bind
  refine PyProof.Rows.ksk_fold (fun i t => ∃ H' ks ep, Inv X ((kS, PyProof.Rows.seqObj "list" ks ep) :: (a, PyProof.Rows.seqObj "list" #[] e1) :: pins) σ H' t ∧ Same H H' ∧ KeysAt X.K H' ks.toList (kz.take i)) vs 0 s
    ⟨H, #[], 0, I, Same.refl _, by rw [List.take_zero]; exact PySem.W.EachIs.nil⟩ (fun j u t hj hJ => ?_) fun t hJ => ?_
  · obtain ⟨H1, ks, ep, I1, S1, R1⟩ := hJ
    rw [Nat.zero_add] at R1 ⊢
    have hj2 : j < kz.length := by
      rw [hlen]
      exact (List.getElem?_eq_some_iff.mp hj).1
    have hk : kz[j]? = some kz[j] := List.getElem?_eq_getElem hj2
    have hn : ks.size ≤ vs.length := by
      have q := R1.length
      rw [Array.length_toList, List.length_take] at q
      omega
    apply wpAny_bind
    apply wpAny_attempt
    refine wpAny_mono (turn j u _ hj hk _ σ H1 t I1 S1) (fun w t2 hw => ?_) fun _ _ hF => hF.elim
    obtain ⟨y, H2, I2, S2, ry, dy⟩ := hw
    have pk := (I2.pin (kS, PyProof.Rows.seqObj "list" ks ep) (List.mem_append_right _ (List.mem_cons_self ..))).1
    have sb := Heap.SameBut.update t2.heap kS (Obj.mapSeq (·.push w))
    obtain ⟨c2, hc2⟩ : ∃ c2, (t2.heap.update kS (Obj.mapSeq (·.push w))).get? kS = some (PyProof.Rows.seqObj "list" (ks.push w) c2) := ⟨_, PyProof.Rows.get?_update_seq pk (·.push w)⟩
    have i3 := pin_set (t := t2.toks) I2 (Nk.cons fun z => hka z.symm) sb hc2 lst_nc
    apply wpAny_bind
    refine PyProof.Rows.listUpdate_at pk rfl ?_ (Nat.le_trans hn hZ) (Nat.le_trans (Nat.le_of_eq (Array.size_push ..)) (Nat.succ_le_succ (Nat.le_trans hn hZ)))
    refine wpAny_pure ⟨rfl, H2, ks.push w, c2, i3, S1.trans S2, ?_⟩
    have et : kz.take (j + 1) = kz.take j ++ [kz[j]] := by rw [List.take_add_one, hk]; rfl
    rw [et, Array.toList_push]
    exact ks_snoc ⟨y, ry, dy⟩ (R1.mono fun u k ⟨y, r, d⟩ => ⟨y, r, dp_same S2 d⟩)
  · obtain ⟨H1, ks, ep, I1, S1, R1⟩ := hJ
    rw [Nat.zero_add, ← hlen, List.take_length] at R1
    have pk := I1.pin (kS, PyProof.Rows.seqObj "list" ks ep) (List.mem_append_right _ (List.mem_cons_self ..))
    have pa := I1.pin (a, PyProof.Rows.seqObj "list" #[] e1) (List.mem_append_right _ (List.mem_cons_of_mem _ (List.mem_cons_self ..)))
    have hsz : ks.size = vs.length := by
      have q := R1.length
      rw [Array.length_toList] at q
      omega
    have er : PySem.W.EachIs (fun v k => ∃ as, Reads t.heap v k as) ks.toList kz := R1.mono fun u k ⟨y, r, d⟩ => Dp.reads I1 _ _ _ d r
    apply wpAny_bind
    refine PyProof.Rows.listItems_at pk.1 rfl ?_
    refine PySem.W.keyH_end (h₁ := t.heap.update kS dead) (κ := PySem.W.dataKind t.heap kz) (s := t) (a := a) (fun b o _ e => ?_) (dead_none pk.1) pk.1 pa.1 hka (PySem.W.SortsAt.data (s := t) er hal hsk hu) hsz hZ fun h3 tk3 c K3 hA => ?_
    · by_cases hb : b = kS
      · rw [hb, dead_none pk.1] at e
        cases e
      · rw [← (Heap.SameBut.update t.heap kS dead).2 b hb]
        exact e
    · refine h t H1 h3 tk3 _ c (pin_rest (pin_rest I1)) S1 pk.2.1 pa.2.1 (fun b o h1 h2 e => K3 b o h2 ?_) hA ⟨t.heap, ks.toList, hal, rfl, er⟩
      rw [(Heap.SameBut.update t.heap kS dead).2 b h1]
      exact e
theorem ks_sorted {X : Cx} {pins : List (Addr × Obj)} {σ : L2.St} {H : Hp} {s : Shared} {f : Value} {l : Addr} {kw : List (Str × Value)} {rev : Bool} {bs : List (V × PyData)} {Q : VK} (I : Inv X pins σ H s)
    (ha1 : argsOk "sorted" ⟨[.ref l], kw⟩) (ha2 : ∀ x, argsOk "list.sort" ⟨[.ref x], kw⟩) (ht : ∀ x, Builtin.«list.sort» ⟨[.ref x], kw⟩ = PyProof.Rows.ksk_tree x f rev)
    (hl : SqL X.K H l (bs.map Prod.fst)) (hal : PySem.W.AllAlike (bs.map Prod.snd)) (hsk : PySem.W.Sortable (bs.map Prod.snd)) (hd : ∀ b ∈ bs, X.A.units + 2 + b.2.depth < cLine)
    (turn : ∀ b ∈ bs, ∀ (u : Value), RelV b.1 u → ∀ (pins : List (Addr × Obj)) (σ : L2.St) (H1 : Hp) (s1 : Shared), Inv X pins σ H1 s1 → Same H H1 →
      wpAny (model X.prog X.w) X.A.in1.in1 (call f [u]) (fun w s2 => ∃ y H2, Inv X pins σ H2 s2 ∧ Same H1 H2 ∧ RelV y w ∧ Dp X.K H2 y b.2) (fun _ _ => False) s1)
    (q : ∀ p H', Same H H' → H' p = none → Q (.ref p) (upd H' p (.lst ((bs.mergeSort (PySem.W.dataLe rev Prod.snd)).map Prod.fst)))) :
    wpAny (model X.prog X.w) X.A (call (.builtin "sorted") [.ref l] kw) (EP X pins σ Q) X.xe s := by
  obtain ⟨its, rv, hi, hz⟩ := I.list hl
  have ea := each_of_vals rv
  have hlen : its.length = bs.length := by rw [← rv.length, List.length_map]
  have hz2 : its.length ≤ sizeLine := by rw [← rv.length]; exact hz
  refine PySem.W.sorted_of_sort hi.isList hz2 ha1 ha2 fun E' => ?_
  rw [ht]
  have nA : H (s.heap.objs.size + 1) = none := I.hok.fresh (Nat.le_succ _)
  have NA : NewA X pins (s.heap.objs.size + 1) := NewA.of I (Nat.le_succ _)
  have I0 : Inv X pins σ H { s with heap := PySem.W.copyHeap s.heap its, toks := s.toks } := I.kept fun _ _ => PySem.W.copyHeap_old
  have ho := PySem.W.copyHeap_at s.heap its
  have I0' := pin_add I0 NA ho nA lst_nc
  revert I0 I0' ho
  generalize PySem.W.copyHeap s.heap its = hc
  generalize hA : s.heap.objs.size + 1 = a at nA NA
  intro I0 ho I0'
  obtain ⟨e1, ho1⟩ : ∃ e1, (hc.update a (Obj.mapSeq fun _ => (#[] : Array Value))).get? a = some (PyProof.Rows.seqObj "list" #[] e1) := ⟨_, PyProof.Rows.get?_update_seq ho fun _ => #[]⟩
  have I1 := pin_set (t := s.toks) I0' NA (Heap.SameBut.update hc a (Obj.mapSeq fun _ => (#[] : Array Value))) ho1 lst_nc
  have I2 : Inv X ((a, PyProof.Rows.seqObj "list" #[] e1) :: pins) σ H { s with heap := (hc.update a (Obj.mapSeq fun _ => (#[] : Array Value))).push (PyProof.Rows.seqObj "tuple" its.toArray 0), toks := s.toks } := I1.kept fun _ _ e => Heap.get?_push_of_some _ e
  have I3 : Inv X ((a, PyProof.Rows.seqObj "list" #[] e1) :: pins) σ H { s with heap := ((hc.update a (Obj.mapSeq fun _ => (#[] : Array Value))).push (PyProof.Rows.seqObj "tuple" its.toArray 0)).push (PyProof.Rows.seqObj "list" #[] 0), toks := s.toks } := I2.kept fun _ _ e => Heap.get?_push_of_some _ e
  have NK := NewA.of I2 (Nat.le_refl _)
  have nK : H ((hc.update a (Obj.mapSeq fun _ => (#[] : Array Value))).push (PyProof.Rows.seqObj "tuple" its.toArray 0)).objs.size = none := I2.hok.fresh (Nat.le_refl _)
  have hk : (((hc.update a (Obj.mapSeq fun _ => (#[] : Array Value))).push (PyProof.Rows.seqObj "tuple" its.toArray 0)).push (PyProof.Rows.seqObj "list" #[] 0)).get? ((hc.update a (Obj.mapSeq fun _ => (#[] : Array Value))).push (PyProof.Rows.seqObj "tuple" its.toArray 0)).objs.size = some (PyProof.Rows.seqObj "list" #[] 0) := Heap.get?_push_size _ rfl
  have I4 := pin_add I3 NK hk nK lst_nc
  have hka : ((hc.update a (Obj.mapSeq fun _ => (#[] : Array Value))).push (PyProof.Rows.seqObj "tuple" its.toArray 0)).objs.size ≠ a := fun z => NK.pin (a, PyProof.Rows.seqObj "list" #[] e1) (List.mem_append_right _ (List.mem_cons_self ..)) z.symm
  have NK2 : NewA X pins ((hc.update a (Obj.mapSeq fun _ => (#[] : Array Value))).push (PyProof.Rows.seqObj "tuple" its.toArray 0)).objs.size := NewA.of (pin_rest I2) (Nat.le_refl _)
  unfold PyProof.Rows.ksk_tree
  apply wpAny_bind
  refine PyProof.Rows.listItems_at ho rfl ?_
  apply wpAny_bind
  refine PyProof.Rows.listUpdate_at ho rfl ?_ (by rw [List.size_toArray]; exact hz2) (Nat.zero_le _)
  apply wpAny_bind
  refine PyProof.Rows.seqEpoch_at ho1 rfl ?_
  apply wpAny_bind
  refine wpAny_newTuple ?_ (by show its.length ≤ _; exact hz2)
  apply wpAny_bind
  refine wpAny_newList ?_ (Nat.zero_le _)
  refine wpAny_holding ?_
  refine ks_rest (kz := bs.map Prod.snd) (vs := its) I4 NK2 NA hka (by rw [List.length_map, hlen]) hz2 hal hsk (fun d hd' => ?_) (fun i u k hu hk pins σ H1 s1 J S => ?_) fun s' H' h' tk out c J S n1 n2 kp hA' ko => ?_
  · obtain ⟨b, hb, rfl⟩ := List.mem_map.mp hd'
    exact hd b hb
  · rw [List.getElem?_map] at hk
    cases hb : bs[i]? with
    | none =>
      rw [hb] at hk
      cases hk
    | some b =>
      rw [hb] at hk
      cases hk
      refine turn b (List.mem_of_getElem? hb) u ?_ pins σ H1 s1 J S
      have hz' : (u, b) ∈ its.zip bs := List.mem_of_getElem? (i := i) (by rw [List.getElem?_zip_eq_some]; exact ⟨hu, hb⟩)
      exact ea.zip _ hz'
  · have eo := PySem.W.keyedOut_each (R := fun v b => RelV b.1 v) Prod.snd ko ea
    have ro := vals_of_each eo
    refine ⟨rfl, .ref a, upd H' a (.lst ((bs.mergeSort (PySem.W.dataLe rev Prod.snd)).map Prod.fst)), ks_done J NK2 NA n2 kp hA' n1 ro (by rw [ro.length, ko.length (by rw [List.length_map, hlen])]; exact hz2), rfl, q a H' S n2⟩
/-- a def as the key -/
theorem ks_turn {X : Cx} {CX : CXT} {k : Nat} {f : Addr} {fd : FuncData} {p : Str} {sp : Sp} {E : XK} {H : Hp} {b : V × PyData} (F : FnOk X.prog X.w X.K X.mg X.base CX k f fd [p] sp) (hr : Room k X.A.in1.in1) (hb : Binds X.K fd [p] [])
    (hx : ∀ H1 s1 e s2, CX X.stack H1 s1 E e s2 → False) (h : ∀ H1, Same H H1 → sp [b.1] H1 (fun y H2 => Same H1 H2 ∧ Dp X.K H2 y b.2) E) :
    ∀ (u : Value), RelV b.1 u → ∀ (pins : List (Addr × Obj)) (σ : L2.St) (H1 : Hp) (s1 : Shared), Inv X pins σ H1 s1 → Same H H1 →
      wpAny (model X.prog X.w) X.A.in1.in1 (call (.ref f) [u]) (fun w s2 => ∃ y H2, Inv X pins σ H2 s2 ∧ Same H1 H2 ∧ RelV y w ∧ Dp X.K H2 y b.2) (fun _ _ => False) s1 := by
  intro u ru pins σ H1 s1 I S
  refine wpAny_call (codeAny_mono (F.run X.A.in1.in1 X.stack s1 H1 ⟨[u], []⟩ [u] [b.1] _ E hr I.env0.in1.in1 (hb s1 [u] I.kIn rfl) (.cons ru .nil) (h H1 S)) fun r s' hq => ?_)
  cases r with
  | error e => exact hx _ _ _ _ hq
  | ok fl =>
    cases fl with
    | ret w =>
      obtain ⟨y, H2, I2, ry, S2, d⟩ := I.after hq
      exact ⟨y, H2, I2, S2, ry, d⟩
    | next => exact False.elim hq
    | brk => exact False.elim hq
    | cont => exact False.elim hq
def rSortedKf (K : PySem.W.Frag) (f : Addr) (sp : Sp) (E : XK) : List V → List V → Hp → VK → Prop := fun vs zs H Q => ∃ (a : Addr) (bs : List (V × PyData)), vs = [V.ref a] ∧ zs = [V.ref f] ∧ SqL K H a (bs.map Prod.fst) ∧ PySem.W.AllAlike (bs.map Prod.snd) ∧ PySem.W.Sortable (bs.map Prod.snd) ∧
  (∀ b ∈ bs, b.2.depth ≤ 50) ∧ (∀ b ∈ bs, ∀ H1, Same H H1 → sp [b.1] H1 (fun y H2 => Same H1 H2 ∧ Dp K H2 y b.2) E) ∧ ∀ p H', Same H H' → H' p = none → Q (.ref p) (upd H' p (.lst ((bs.mergeSort (PySem.W.dataLe false Prod.snd)).map Prod.fst)))
theorem cr_sortedKf {X : Cx} {CX : CXT} {k : Nat} {f : Addr} {fd : FuncData} {p : Str} {sp : Sp} {E : XK} (F : FnOk X.prog X.w X.K X.mg X.base CX k f fd [p] sp) (hr : Room (k + 2) X.A) (hb : Binds X.K fd [p] []) (hx : ∀ H1 s1 e s2, CX X.stack H1 s1 E e s2 → False) :
    CallRK X (.builtin "sorted") [Str.ofString "key"] (rSortedKf X.K f sp E) := by
  intro pins s σ H xs zs us ws Q I rx rz h
  obtain ⟨a, bs, rfl, rfl, hl, hal, hsk, hd, hf, q⟩ := h
  rw [Vals.ref1 rx, Vals.ref1 rz]
  have hu := hr.un
  exact ks_sorted (f := .ref f) (rev := false) I (PyProof.Rows.ksk_s1 _ _) (fun _ => PyProof.Rows.ksk_l1 _ _) (fun _ => PyProof.Rows.ksk_t1 _ _) hl hal hsk (fun b hb => by have := hd b hb; omega)
    (fun b hbm => ks_turn F hr.in1.in1 hb hx (hf b hbm)) q
/-! ### a lambda as the key of a sort -/
structure LamF (N ps : List Str) (scope : Scope) (params : Arguments) : Prop where
  sc : FnScope N ps scope
  clo : ∀ cells, cloFrom cells scope.names [] = []
  bind : ∀ (qual : Str) (body : Expr) (pm cv ctv : Value) (us : List Value), us.length = ps.length → bindArgs (PySem.W.kla_fn "<lambda>" qual params body scope [] pm cv ctv) ⟨us, []⟩ = pure (ps.zip us)
theorem run_lam {P : Program} {w : World} {K : PySem.W.Frag} {mg : Str → Option Value} {base : Heap} {k : Nat} {f c' : Addr} {qual : Str} {params : Arguments} {body : Expr} {scope : Scope} {pm ctv : Value}
    {N ps : List Str} (S : LamF N ps scope params) {A : Around} {outer : List Env} {s : Shared} {H : Hp} {us : List Value} {vs : List V} {Q : VK} {E : XK} {tb : TE} (hr : Room (k + 1) A) (e0 : Env0 P w K mg base A outer s H)
    (of1 : s.heap.get? f = some (PySem.W.kla_obj "<lambda>" qual params body scope [] pm c' ctv)) (hc : ∃ (oc : Obj) (us : Array Value) (t : Tok), s.heap.get? c' = some oc ∧ oc.data = .fields us ∧ us[1]? = some (.str qual t))
    (r : Vals vs us) (hl : vs.length = ps.length)
    (hbody : Room k (A.deeper (envOfC qual scope s.heap.objs.size f (.ref c'))) → PE (cxOf CX0 P w K mg base N qual scope f (.ref c') A outer s H E) body tb) (h : tb (L2.start N vs) H Q) :
    codeAny (model P w) A (.call (.ref f) ⟨us, []⟩) (CR CX0 outer P w H s Q E) s := by
  have lim : s.heap.NoLimit := e0.mod.nolimit.keeps fun b o e => (e0.bs b o e).1
  obtain ⟨oc, ws, t, hoc, hdc, hvc⟩ := hc
  have hul : us.length = ps.length := by rw [← r.length]; exact hl
  have hkind : ∀ y ∈ ps.zip us, scope.names.lookup y.1 = some .local ∨ (scope.names.lookup y.1 = some .cell ∧ ((cellsFrom (s.heap.objs.size + 1) scope.names []).lookup y.1).isSome = true) := fun ⟨n, v⟩ hy => by
    rcases S.sc.par n (List.of_mem_zip hy).1 with q | q
    · exact .inl q
    · exact .inr ⟨q, PySem.W.cellsFrom_some _ _ _ (.inl q)⟩
  refine PySem.W.kla_callFunE hr.depth of1 rfl S.sc.co S.sc.gen rfl ⟨c', oc, ws, t, rfl, hoc, hdc, hvc⟩ ?_
  rw [S.bind qual body pm (.ref c') ctv us hul]
  refine wpAny_pure (wpAny_newFunctionEnv_cells S.sc.kind hkind fun env he s1 x => ?_)
  subst he
  refine ⟨lim.keeps x.toInCall.keep, ?_⟩
  show codeAny _ _ (.expr body (envOfC qual scope s.heap.objs.size f (.ref c'))) _ _
  have I : Inv (cxOf CX0 P w K mg base N qual scope f (.ref c') A outer s H E) [] (L2.start N vs) H s1 := inv_start S.sc hr.hd e0 hl r x
  refine PySem.W.kla_codeExpr (wpAny_mono ((hbody (hr.deeper _)).run [] s1 _ H Q I h) (fun v s' hq => ?_) fun e s' hq => hq)
  obtain ⟨y, H', J, rv, q⟩ := hq
  exact ⟨y, H', J.os, J.bare, J.base, J.hok, rv, q⟩
theorem extN_same {H H1 H2 : Hp} (a : LamX.ExtN H H1) (b : Same H1 H2) : LamX.ExtN H H2 := fun x o h n => b x o (a x o h n)
def tSortLam (K : PySem.W.Frag) (T : List (Addr × Str)) (rev : Bool) (N : List Str) (tb : TE) (te : TE) : TE := fun σ H Q => te σ H fun x H1 => ∃ (a : Addr) (bs : List (V × PyData)), x = .ref a ∧ LamX.Tabs T H1 ∧ ∀ H2, LamX.ExtN H1 H2 → LamX.Tabs T H2 →
  SqL K H2 a (bs.map Prod.fst) ∧ PySem.W.AllAlike (bs.map Prod.snd) ∧ PySem.W.Sortable (bs.map Prod.snd) ∧ (∀ b ∈ bs, b.2.depth ≤ 50) ∧ (∀ b ∈ bs, ∀ H3, Same H2 H3 → tb (L2.start N [b.1]) H3 (fun y H4 => Same H3 H4 ∧ Dp K H4 y b.2)) ∧
  ∀ p H', Same H2 H' → H' p = none → Q (.ref p) (upd H' p (.lst ((bs.mergeSort (PySem.W.dataLe rev Prod.snd)).map Prod.fst)))
theorem pe_sortLam {X : Cx} {T : List (Addr × Str)} {c P : Addr} {p : Str} {N : List Str} {x : Str} {k : Nat} {e : Expr} {te tb : TE} {params : Arguments} {body : Expr} {scope : Scope} {lpos p0 kp1 kp2 pos : Pos} {e2 : Expr} {rev : Bool}
    (ha : PA X [e] (tCons te tNil)) (he2 : PE X e2 (tC (.bl rev))) (hg : Gl X x) (hm : X.mg x = none) (hv : bootBuiltins x = some (.builtin "sorted")) (TB : LamX.TabB X.base X.mg c P) (hcode : X.env.code = .ref c) (hmT : (P, X.env.qual ++ "<lambda>") ∈ T) (hu : ∀ q ∈ T, q.1 = P → q.2 = X.env.qual ++ "<lambda>")
    (hst : X.stack = X.env :: X.outer) (hfr : X.env.frame = some X.env.locals) (hr : Room (k + 3) X.A) (S : LamF N [p] scope params) (hdef : defaultsOf params X.env = ([], []))
    (hbody : ∀ (A : Around) (outer : List Env) (s : Shared) (H : Hp) (f c' : Addr), Room k (A.deeper (envOfC (X.env.qual ++ "<lambda>") scope s.heap.objs.size f (.ref c'))) → PE (cxOf CX0 X.prog X.w X.K X.mg X.base N (X.env.qual ++ "<lambda>") scope f (.ref c') A outer s H E0) body tb)
    (hn : x ≠ "__name__" := by decide) (hdb : (x == ("__debug__" : Str)) = false := by decide)
    (hpl1 : backTo pos (starEach [e] X.env) = (false, eval e X.env) :: backTo pos (starEach [] X.env) := by rfl) (hpl : (backTo pos (starEach [e] X.env)).any (·.1) = false := by rfl)
    (hall : (backToKw pos (keywordEach [⟨some "key", .Lambda params body scope lpos, kp1⟩, ⟨some "reverse", e2, kp2⟩] X.env)).all (·.1.isSome) = true := by rfl)
    (hnone : (backToKw pos (keywordEach [⟨some "key", .Lambda params body scope lpos, kp1⟩, ⟨some "reverse", e2, kp2⟩] X.env)).any (·.1.isNone) = false := by rfl)
    (hks : (backToKw pos (keywordEach [⟨some "key", .Lambda params body scope lpos, kp1⟩, ⟨some "reverse", e2, kp2⟩] X.env)).filterMap (·.1) = [Str.ofString "key", Str.ofString "reverse"] := by rfl) :
    PE X (.Call (.Name x p0) [e] [⟨some "key", .Lambda params body scope lpos, kp1⟩, ⟨some "reverse", e2, kp2⟩] pos) (tSortLam X.K T rev N tb te) := by
  refine ⟨fun pins s σ H Q I h => ?_⟩
  refine wpAny_Call_Name_kw (ld_blt I hg hm hv ?_ hn hdb)
  refine PyProof.Rows.callWith_kw (thn (ha.run pos pins s σ H (fun vs H1 => match vs with
    | [x] => ∃ (a : Addr) (bs : List (V × PyData)), x = .ref a ∧ LamX.Tabs T H1 ∧ ∀ H2, LamX.ExtN H1 H2 → LamX.Tabs T H2 →
        SqL X.K H2 a (bs.map Prod.fst) ∧ PySem.W.AllAlike (bs.map Prod.snd) ∧ PySem.W.Sortable (bs.map Prod.snd) ∧ (∀ b ∈ bs, b.2.depth ≤ 50) ∧ (∀ b ∈ bs, ∀ H3, Same H2 H3 → tb (L2.start N [b.1]) H3 (fun y H4 => Same H3 H4 ∧ Dp X.K H4 y b.2)) ∧
        ∀ p H', Same H2 H' → H' p = none → Q (.ref p) (upd H' p (.lst ((bs.mergeSort (PySem.W.dataLe rev Prod.snd)).map Prod.fst)))
    | _ => False) I h) fun us s1 hus => ?_) hpl1 hpl hall hnone
  obtain ⟨vs, H1, I1, r1, q1⟩ := hus
  rcases vs with _ | ⟨x, _ | ⟨_, _⟩⟩
  · exact q1.elim
  rotate_left
  · exact q1.elim
  obtain ⟨a, bs, rfl, hT, q⟩ := q1
  rw [Vals.ref1 r1]
  refine wpAny_evalAll_cons (wpAny_bind (LamX.lam_make2 I1 TB hcode hmT hu hT hdef (fun y hy e => absurd e (S.sc.nofree y hy)) fun f c' pm ctv H2 s2 I2 x2 T2 of2 nf nfr hc' => wpAny_bind (wpAny_standAt (wpAny_pure ?_))))
  rw [S.clo] at of2
  obtain ⟨hl, hal, hsk, hd, hf, hq⟩ := q H2 x2 T2
  have nL : f ≠ X.env.locals := fun z => nfr (by
    rw [hst]
    exact List.mem_filterMap.mpr ⟨X.env, List.mem_cons_self, by rw [hfr, z]⟩)
  have nF : f ∉ X.fs := fun hm => by
    obtain ⟨e, he, q⟩ := List.mem_filterMap.mp hm
    refine nfr ?_
    rw [hst]
    exact List.mem_filterMap.mpr ⟨e, List.mem_cons_of_mem _ he, q⟩
  have I3 : Inv X ((f, PySem.W.kla_obj "<lambda>" (X.env.qual ++ "<lambda>") params body scope [] pm c' ctv) :: pins) σ H2 s2 := I2.pins_of fun p hp => by
    rcases List.mem_cons.mp hp with z | z
    · rw [z]
      exact ⟨of2, nf, nL, nF, fun v z => by cases z⟩
    · exact I2.pin p (List.mem_append_right _ z)
  refine wpAny_evalAll_cons (wpAny_bind (thn (he2.run _ s2 σ H2 (fun v H3 => v = .bl rev ∧ H3 = H2) I3 ⟨rfl, rfl⟩) fun u s3 ⟨v, H3, I4, r4, ev, eH⟩ => wpAny_bind (wpAny_standAt (wpAny_pure ?_))))
  subst ev
  rw [eH] at I4
  obtain rfl : u = Value.bool rev := r4
  refine wpAny_evalAll_nil ?_
  rw [hks]
  have I5 := I4.toTry X.xe
  have hd2 := hr.un
  have fin := ks_sorted (f := .ref f) (rev := rev) (kw := [(Str.ofString "key", .ref f), (Str.ofString "reverse", .bool rev)]) (Q := Q) I5 (PyProof.Rows.ksk_s2 _ _ _) (fun _ => PyProof.Rows.ksk_l2 _ _ _) (fun _ => PyProof.Rows.ksk_t2 _ _ _) hl hal hsk (fun b hb => by
      have := hd b hb
      show X.A.units + 2 + b.2.depth < cLine
      omega) (fun b hb u ru pins2 σ2 H4 s4 J S4 => ?_) hq
  · refine wpAny_mono fin (fun u s' hu => ?_) (fun _ _ z => z)
    obtain ⟨y, H', J, ry, qy⟩ := hu
    exact ⟨y, H', pin_rest (J.ofTry I4.ok), ry, qy⟩
  · have of4 := (J.pin (f, PySem.W.kla_obj "<lambda>" (X.env.qual ++ "<lambda>") params body scope [] pm c' ctv) (List.mem_append_left _ (List.mem_append_right _ (List.mem_cons_self ..)))).1
    obtain ⟨oc, us2, t2, k1, k2, k3⟩ := (J.hok c' _ (S4 _ _ hc')).1
    refine wpAny_call (codeAny_mono (run_lam (qual := X.env.qual ++ "<lambda>") (E := E0) S (k := k) (hr.in1.in1) (J.env0.in1.in1) of4 ⟨oc, us2, t2, k1, k2, k3⟩ (.cons ru .nil) rfl (fun rm => hbody _ _ _ _ f c' rm) (hf b hb H4 S4)) fun r s' hq => ?_)
    cases r with
    | error e => exact hq.elim
    | ok fl =>
      cases fl with
      | ret w =>
        obtain ⟨y, H2, I2, ry, S2, d⟩ := J.after hq
        exact ⟨y, H2, I2, S2, ry, d⟩
      | next => exact False.elim hq
      | brk => exact False.elim hq
      | cont => exact False.elim hq
/-- c, the code object of the def at f, and its table tp -/
def TabF (K : PySem.W.Frag) (base : Heap) (mg : Str → Option Value) (f c tp : Addr) : Prop := (∃ (o : Obj) (fd : FuncData), K.lookup f = some o ∧ o.data = .func fd ∧ fd.code = .ref c) ∧ K.lookup tp = none ∧ LamX.TabB base mg c tp
theorem okC {x qual : Str} {st : Stmt} {f : Addr} {fd : FuncData} {N ps : List Str} {k : Nat} {sp : Sp} {c : Addr} (F : Fun K x qual st f fd) (hc : ∃ (o : Obj) (fd : FuncData), K.lookup f = some o ∧ o.data = .func fd ∧ fd.code = .ref c) (S : FnScope N ps (defScope st)) (len : ∀ vs H Q E, sp vs H Q E → vs.length = ps.length)
    (go : ∀ (A : Around) (outer : List Env) (s : Shared) (H : Hp) (vs : List V) (Q : VK) (E : XK), Room k (A.deeper (envOfC qual (defScope st) s.heap.objs.size f (.ref c))) → sp vs H Q E →
      ∃ t, PSs (cxOf CX0 P w K mg base N qual (defScope st) f (.ref c) A outer s H E).nox (defBody st) t ∧ t { nx := fun _ G => Q .non G, rt := Q } (L2.start N vs) H) : FnOk P w K mg base CX0 (k + 1) f fd ps sp := by
  obtain ⟨oc, od, kV, doc, pm, an, cdv, ct, osl, rfl, look, code⟩ := F.ex
  obtain ⟨o, fd, e1, e2, e3⟩ := hc
  rw [look] at e1
  have e4 := Option.some.inj e1
  rw [← e4] at e2
  have e5 : PySem.W.fnOf x qual (defArgs st) (defBody st) (defScope st) .none kV doc pm an cdv ct = fd := Data.func.inj e2
  have e6 : cdv = .ref c := by
    rw [← e5] at e3
    exact e3
  rw [e6] at look code ⊢
  refine fn_of look code S len fun A outer s H vs Q E room h => ?_
  obtain ⟨t, h1, h2⟩ := go A outer s H vs Q E room h
  exact ⟨t, h1.nox, h2⟩
def qLam : Str := (("in_force" : Str) ++ (".<locals>." : Str)) ++ ("<lambda>" : Str)
/-! ### rows of objects that stand for data -/
structure RepG {β : Type} (At : V → β → Prop) (rs : List V) (D : List β) : Prop where
  len : rs.length = D.length
  at_ : ∀ (i : Nat) (x : V) (e : β), rs[i]? = some x → D[i]? = some e → At x e
theorem RepG.nil {β : Type} {At : V → β → Prop} : RepG At [] [] := ⟨rfl, fun i x e h => by simp at h⟩
theorem RepG.imp {β : Type} {At At' : V → β → Prop} {rs : List V} {D : List β} (h : RepG At rs D) (f : ∀ x e, At x e → At' x e) : RepG At' rs D := ⟨h.len, fun i x e h1 h2 => f x e (h.at_ i x e h1 h2)⟩
theorem RepG.snoc {β : Type} {At : V → β → Prop} {rs : List V} {D : List β} {x : V} {e : β} (h : RepG At rs D) (E : At x e) : RepG At (rs ++ [x]) (D ++ [e]) := by
  refine ⟨by rw [List.length_append, List.length_append, h.len]; rfl, fun i y f h1 h2 => ?_⟩
  rcases Nat.lt_or_ge i rs.length with z | z
  · rw [List.getElem?_append_left z] at h1
    rw [List.getElem?_append_left (by rw [← h.len]; exact z)] at h2
    exact h.at_ i y f h1 h2
  · rw [List.getElem?_append_right z] at h1
    rw [List.getElem?_append_right (by rw [← h.len]; exact z), ← h.len] at h2
    generalize i - rs.length = j at h1 h2
    rcases j with _ | j
    · simp at h1 h2
      rw [← h1, ← h2]
      exact E
    · simp at h1
theorem RepG.get {β : Type} {At : V → β → Prop} {rs : List V} {D : List β} (h : RepG At rs D) {i : Nat} {x : V} (hx : rs[i]? = some x) : ∃ e, D[i]? = some e ∧ At x e := by
  have hi := (List.getElem?_eq_some_iff.mp hx).1
  have hi2 : i < D.length := by rw [← h.len]; exact hi
  have hd : D[i]? = some D[i] := List.getElem?_eq_getElem hi2
  exact ⟨_, hd, h.at_ i x _ hx hd⟩
theorem RepG.fst {β : Type} {At : V → β → Prop} {rs : List V} {D : List β} (h : RepG At rs D) : (rs.zip D).map Prod.fst = rs := List.map_fst_zip (Nat.le_of_eq h.len)
theorem RepG.snd {β : Type} {At : V → β → Prop} {rs : List V} {D : List β} (h : RepG At rs D) : (rs.zip D).map Prod.snd = D := List.map_snd_zip (Nat.le_of_eq h.len.symm)
theorem RepG.mem {β : Type} {At : V → β → Prop} {rs : List V} {D : List β} (h : RepG At rs D) : ∀ z ∈ rs.zip D, At z.1 z.2 := fun z hz => by
  obtain ⟨i, hi⟩ := List.mem_iff_getElem?.mp hz
  obtain ⟨h1, h2⟩ := List.getElem?_zip_eq_some.mp hi
  exact h.at_ i _ _ h1 h2
theorem RepG.of_zs {β : Type} {At : V → β → Prop} {zs : List (V × β)} (h : ∀ z ∈ zs, At z.1 z.2) : RepG At (zs.map Prod.fst) (zs.map Prod.snd) := by
  refine ⟨by rw [List.length_map, List.length_map], fun i x e h1 h2 => ?_⟩
  rw [List.getElem?_map] at h1 h2
  cases hz : zs[i]? with
  | none =>
    rw [hz] at h1
    cases h1
  | some z =>
    rw [hz] at h1 h2
    cases h1
    cases h2
    exact h z (List.mem_of_getElem? hz)
theorem RepG.dps {β : Type} {K : PySem.W.Frag} {H : Hp} {At : V → β → Prop} {k : β → PyData} (h2 : ∀ x e, At x e → Dp K H x (k e)) : ∀ {zs : List (V × β)}, (∀ z ∈ zs, At z.1 z.2) → DpAll K H (zs.map Prod.fst) ((zs.map Prod.snd).map k)
  | [], _ => .nil
  | z :: zs, h => .cons (h2 _ _ (h z (List.mem_cons_self ..))) (RepG.dps h2 fun y hy => h y (List.mem_cons_of_mem _ hy))
theorem units2 {k : Nat} {A : Around} (r : Room k A) : A.units + 1 < cLine := by
  have := units65 r
  omega
theorem units65b {k : Nat} {A : Around} (r : Room k A) : A.units + 64 < cLine := by
  have := r.un
  omega
/-! ### edits: who, the number, and what an undo undoes -/
structure U where
  p : Int
  n : Int
  t : Option Int
  m : Int
  v : List Int
def U.id (u : U) : Int × Int := (u.p, u.n)
def ActAt (H : Hp) (c : Addr) (u : U) : Prop := match u.t with
  | some t => H c = some (.tup [.str "undo", .int t])
  | none => ∃ z, H c = some (.tup [.str "delete", .str "row", .ref z]) ∧ H z = some (.tup [.int 0, .int u.m])
def UAt (H : Hp) (x : V) (u : U) : Prop := ∃ (q a b c : Addr), x = .ref q ∧ H q = some (.tup [.ref a, .ref b, .ref c]) ∧ H a = some (.tup [.int u.p, .int u.n]) ∧ H b = some (.tup (u.v.map V.int)) ∧ ActAt H c u
def IdAt (H : Hp) (x : V) (i : Int × Int) : Prop := ∃ a, x = .ref a ∧ H a = some (.tup [.int i.1, .int i.2])
def TS (H H' : Hp) : Prop := ∀ p us, H p = some (.tup us) → H' p = some (.tup us)
theorem TS.refl {H : Hp} : TS H H := fun _ _ h => h
theorem TS.trans {H H1 H2 : Hp} (a : TS H H1) (b : TS H1 H2) : TS H H2 := fun p us h => b p us (a p us h)
theorem TS.of {H H' : Hp} (s : Same H H') : TS H H' := fun p us h => s _ _ h
theorem TS.ext {H H' : Hp} (s : LamX.ExtN H H') : TS H H' := fun p us h => s _ _ h fun ps z => by cases z
theorem TS.lst {H : Hp} {L : Addr} {xs : List V} {o : HO} (h : H L = some (.lst xs)) : TS H (upd H L o) := fun p us e => by
  rw [upd_ne]
  · exact e
  · intro z
    rw [z, h] at e
    cases e
theorem TS.dT {H : Hp} {L : Addr} {xs : List (List Key × V)} {o : HO} (h : H L = some (.dT xs)) : TS H (upd H L o) := fun p us e => by
  rw [upd_ne]
  · exact e
  · intro z
    rw [z, h] at e
    cases e
theorem ActAt.ts {H H' : Hp} {c : Addr} {u : U} (t : TS H H') (h : ActAt H c u) : ActAt H' c u := by
  unfold ActAt at h ⊢
  split at h
  · exact t _ _ h
  · obtain ⟨z, h1, h2⟩ := h
    exact ⟨z, t _ _ h1, t _ _ h2⟩
theorem UAt.ts {H H' : Hp} {x : V} {u : U} (t : TS H H') (h : UAt H x u) : UAt H' x u := by
  obtain ⟨q, a, b, c, e, h1, h2, h3, h4⟩ := h
  exact ⟨q, a, b, c, e, t _ _ h1, t _ _ h2, t _ _ h3, h4.ts t⟩
theorem IdAt.ts {H H' : Hp} {x : V} {i : Int × Int} (t : TS H H') (h : IdAt H x i) : IdAt H' x i := by
  obtain ⟨a, e, h1⟩ := h
  exact ⟨a, e, t _ _ h1⟩
theorem IdAt.dp {K : PySem.W.Frag} {H : Hp} {x : V} {i : Int × Int} (h : IdAt H x i) : Dp K H x (idD i) := by
  obtain ⟨a, rfl, h1⟩ := h
  exact dp_id h1
/-! ### the order of ids -/
def ltI (a b : Int × Int) : Prop := a.1 < b.1 ∨ (a.1 = b.1 ∧ a.2 < b.2)
theorem ltI_idD (z w : Int × Int) : PySem.W.dataLt (idD z) (idD w) = true ↔ ltI z w := by
  unfold idD
  rw [PySem.W.dataLt_ii]
  exact decide_eq_true_iff
theorem alikeI (z w : Int × Int) : PySem.W.alike (idD z) (idD w) = true := by simp [idD, PySem.W.alike, PySem.W.alikeAll]
def gI {β : Type} (k : β → Int × Int) (z : V × β) : V × PyData := (z.1, idD (k z.2))
theorem sortI {β : Type} (rev : Bool) (k : β → Int × Int) (zs : List (V × β)) : ∃ Zs : List (V × β), ((zs.map (gI k)).mergeSort (PySem.W.dataLe rev Prod.snd)).map Prod.fst = Zs.map Prod.fst ∧ Zs.Perm zs ∧ Zs.Pairwise fun a b => if rev then ¬ ltI (k a.2) (k b.2) else ¬ ltI (k b.2) (k a.2) := by
  refine ⟨zs.mergeSort fun a b => PySem.W.dataLe rev id (idD (k a.2)) (idD (k b.2)), ?_, List.mergeSort_perm _ _, ?_⟩
  · rw [← List.map_mergeSort (f := gI k) (r := fun a b => PySem.W.dataLe rev id (idD (k a.2)) (idD (k b.2))) (s := PySem.W.dataLe rev Prod.snd) fun _ _ _ _ => rfl, List.map_map]
    rfl
  · have t : PySem.W.TotalLe (PySem.W.dataLe rev id) := PySem.W.sortLe_total _ rev _
    refine (List.pairwise_mergeSort (le := fun a b : V × β => PySem.W.dataLe rev id (idD (k a.2)) (idD (k b.2))) (fun a b c h1 h2 => t.trans _ _ _ h1 h2) (fun a b => by
      rw [Bool.or_eq_true]
      exact t.total _ _) zs).imp fun {a b} h => ?_
    cases rev with
    | false =>
      have h : (!PySem.W.dataLt (idD (k b.2)) (idD (k a.2))) = true := h
      intro z
      rw [(ltI_idD _ _).mpr z] at h
      cases h
    | true =>
      have h : (!PySem.W.dataLt (idD (k a.2)) (idD (k b.2))) = true := h
      intro z
      rw [(ltI_idD _ _).mpr z] at h
      cases h
/-! ### what is in force -/
def Undoes (u : U) (i : Int × Int) : Prop := u.p = i.1 ∧ u.t = some i.2 ∧ i.2 < u.n
def Force (D : List U) (S : List (Int × Int)) : Prop := ∀ i, i ∈ S ↔ (i ∈ D.map U.id ∧ ¬ ∃ u ∈ D, u.id ∈ S ∧ Undoes u i)
/-- met so far: the found ones, and the undone ones -/
structure Part (D : List U) (S : List (Int × Int)) (und : Int × Int → Prop) : Prop where
  mem : ∀ i, i ∈ S ↔ (i ∈ D.map U.id ∧ ¬ ∃ u ∈ D, u.id ∈ S ∧ Undoes u i)
  und : ∀ i, und i ↔ ∃ u ∈ D, u.id ∈ S ∧ Undoes u i
theorem Part.nil : Part [] [] (fun _ => False) := ⟨fun i => ⟨fun h => (nomatch h), fun h => (nomatch h.1)⟩, fun i => ⟨fun h => h.elim, fun ⟨_, h, _⟩ => (nomatch h)⟩⟩
theorem Undoes.lt {u : U} {i : Int × Int} (h : Undoes u i) : ltI i u.id := .inr ⟨h.1.symm, h.2.2⟩
theorem ltI_irr {i : Int × Int} (h : ltI i i) : False := by
  unfold ltI at h
  omega
theorem ltI_asym {i j : Int × Int} (h : ltI i j) (h2 : ltI j i) : False := by
  unfold ltI at h h2
  omega
/-- one more, smaller than all before -/
theorem Part.skip {D : List U} {S : List (Int × Int)} {und : Int × Int → Prop} {w : U} (P : Part D S und) (lt : ∀ u ∈ D, ltI w.id u.id) (h : und w.id) : Part (D ++ [w]) S und := by
  have nw : w.id ∉ S := fun z => by
    obtain ⟨u, hu, e⟩ := List.mem_map.mp ((P.mem _).mp z).1
    exact ltI_irr (e ▸ lt u hu)
  have ex : ∀ i, (∃ u ∈ D ++ [w], u.id ∈ S ∧ Undoes u i) ↔ ∃ u ∈ D, u.id ∈ S ∧ Undoes u i := fun i => by
    constructor
    · rintro ⟨u, hu, h1, h2⟩
      rcases List.mem_append.mp hu with z | z
      · exact ⟨u, z, h1, h2⟩
      · rw [List.mem_singleton.mp z] at h1
        exact absurd h1 nw
    · rintro ⟨u, hu, h1⟩
      exact ⟨u, List.mem_append_left _ hu, h1⟩
  refine ⟨fun i => ?_, fun i => by rw [ex]; exact P.und i⟩
  rw [ex, P.mem i, List.map_append, List.mem_append]
  constructor
  · rintro ⟨h1, h2⟩
    exact ⟨.inl h1, h2⟩
  · rintro ⟨h1 | h1, h2⟩
    · exact ⟨h1, h2⟩
    · rw [List.mem_singleton.mp h1] at h2
      exact absurd ((P.und _).mp h) h2
theorem Part.take {D : List U} {S : List (Int × Int)} {und : Int × Int → Prop} {w : U} (P : Part D S und) (lt : ∀ u ∈ D, ltI w.id u.id) (h : ¬ und w.id) : Part (D ++ [w]) (S ++ [w.id]) (fun i => und i ∨ Undoes w i) := by
  have ex : ∀ i, (∃ u ∈ D ++ [w], u.id ∈ S ++ [w.id] ∧ Undoes u i) ↔ (∃ u ∈ D, u.id ∈ S ∧ Undoes u i) ∨ Undoes w i := fun i => by
    constructor
    · rintro ⟨u, hu, h1, h2⟩
      rcases List.mem_append.mp hu with z | z
      · rcases List.mem_append.mp h1 with z1 | z1
        · exact .inl ⟨u, z, z1, h2⟩
        · have := lt u z
          rw [List.mem_singleton.mp z1] at this
          exact (ltI_irr this).elim
      · rw [List.mem_singleton.mp z] at h2
        exact .inr h2
    · rintro (⟨u, hu, h1, h2⟩ | h2)
      · exact ⟨u, List.mem_append_left _ hu, List.mem_append_left _ h1, h2⟩
      · exact ⟨w, by simp, by simp, h2⟩
  refine ⟨fun i => ?_, fun i => by rw [ex, P.und i]⟩
  rw [ex, List.mem_append, P.mem i, List.map_append, List.mem_append]
  constructor
  · rintro (⟨h1, h2⟩ | h1)
    · refine ⟨.inl h1, fun z => z.elim h2 fun z => ?_⟩
      obtain ⟨u, hu, e⟩ := List.mem_map.mp h1
      have := lt u hu
      rw [e] at this
      exact ltI_asym this z.lt
    · have h1 : i = w.id := List.mem_singleton.mp h1
      refine ⟨.inr (by rw [h1]; exact List.mem_singleton.mpr rfl), fun z => z.elim (fun z => ?_) fun z => ?_⟩
      · rw [h1] at z
        exact h ((P.und _).mpr z)
      · rw [h1] at z
        exact ltI_irr z.lt
  · rintro ⟨h1 | h1, h2⟩
    · exact .inl ⟨h1, fun z => h2 (.inl z)⟩
    · exact .inr h1
theorem Part.force {D D' : List U} {S : List (Int × Int)} {S' : List (Int × Int)} {und : Int × Int → Prop} (P : Part D S und) (e : ∀ u, u ∈ D' ↔ u ∈ D) (e2 : ∀ i, i ∈ S' ↔ i ∈ S) : Force D' S' := fun i => by
  rw [e2, P.mem i]
  constructor
  · rintro ⟨h1, h2⟩
    refine ⟨?_, fun ⟨u, hu, h3, h4⟩ => h2 ⟨u, (e u).mp hu, (e2 _).mp h3, h4⟩⟩
    obtain ⟨u, hu, rfl⟩ := List.mem_map.mp h1
    exact List.mem_map.mpr ⟨u, (e u).mpr hu, rfl⟩
  · rintro ⟨h1, h2⟩
    refine ⟨?_, fun ⟨u, hu, h3, h4⟩ => h2 ⟨u, (e u).mpr hu, (e2 _).mpr h3, h4⟩⟩
    obtain ⟨u, hu, rfl⟩ := List.mem_map.mp h1
    exact List.mem_map.mpr ⟨u, (e u).mp hu, rfl⟩
/-- there is but one -/
theorem Force.one {D D' : List U} {S S' : List (Int × Int)} (F : Force D S) (F' : Force D' S') (e : ∀ u, u ∈ D' ↔ u ∈ D) {N : Int} (hN : ∀ u ∈ D, u.n ≤ N) : ∀ i, i ∈ S ↔ i ∈ S' := by
  have key : ∀ (k : Nat) (i : Int × Int), (N - i.2).toNat = k → (i ∈ S ↔ i ∈ S') := fun k => by
    induction k using Nat.strongRecOn with
    | _ k ih =>
      intro i hk
      rw [F i, F' i]
      have e1 : i ∈ D.map U.id ↔ i ∈ D'.map U.id := by
        constructor
        · intro h
          obtain ⟨u, hu, rfl⟩ := List.mem_map.mp h
          exact List.mem_map.mpr ⟨u, (e u).mpr hu, rfl⟩
        · intro h
          obtain ⟨u, hu, rfl⟩ := List.mem_map.mp h
          exact List.mem_map.mpr ⟨u, (e u).mp hu, rfl⟩
      have e2 : (∃ u ∈ D, u.id ∈ S ∧ Undoes u i) ↔ ∃ u ∈ D', u.id ∈ S' ∧ Undoes u i := by
        have st : ∀ u ∈ D, Undoes u i → (u.id ∈ S ↔ u.id ∈ S') := fun u hu z => by
          have h1 := hN u hu
          have h2 := z.2.2
          refine ih _ ?_ u.id rfl
          show (N - u.n).toNat < k
          omega
        constructor
        · rintro ⟨u, hu, h1, h2⟩
          exact ⟨u, (e u).mpr hu, (st u hu h2).mp h1, h2⟩
        · rintro ⟨u, hu, h1, h2⟩
          have hu2 := (e u).mp hu
          exact ⟨u, hu2, (st u hu2 h2).mpr h1, h2⟩
      rw [e1, e2]
  exact fun i => key _ i rfl
/-- two rising lists with the same members are one -/
theorem rising_one : ∀ {S S' : List (Int × Int)}, S.Pairwise ltI → S'.Pairwise ltI → (∀ i, i ∈ S ↔ i ∈ S') → S = S'
  | [], [], _, _, _ => rfl
  | [], b :: r, _, _, h => nomatch (h b).mpr (List.mem_cons_self ..)
  | a :: r, [], _, _, h => nomatch (h a).mp (List.mem_cons_self ..)
  | a :: r, b :: r', h1, h2, h => by
    obtain ⟨a1, a2⟩ := List.pairwise_cons.mp h1
    obtain ⟨b1, b2⟩ := List.pairwise_cons.mp h2
    have e : a = b := by
      rcases List.mem_cons.mp ((h a).mp (List.mem_cons_self ..)) with z | z
      · exact z
      · rcases List.mem_cons.mp ((h b).mpr (List.mem_cons_self ..)) with z2 | z2
        · exact z2.symm
        · exact (ltI_asym (b1 a z) (a1 b z2)).elim
    subst e
    rw [rising_one a2 b2 fun i => ?_]
    constructor
    · intro z
      rcases List.mem_cons.mp ((h i).mp (List.mem_cons_of_mem _ z)) with y | y
      · rw [y] at z
        exact (ltI_irr (a1 a z)).elim
      · exact y
    · intro z
      rcases List.mem_cons.mp ((h i).mpr (List.mem_cons_of_mem _ z)) with y | y
      · rw [y] at z
        exact (ltI_irr (b1 a z)).elim
      · exact y
theorem sql_ext {K : PySem.W.Frag} {H H' : Hp} {a : Addr} {xs : List V} (e : LamX.ExtN H H') (h : SqL K H a xs) : SqL K H' a xs := by
  rcases h with (h | ⟨o, h⟩) | h
  · exact .inl (.inl (e _ _ h fun ps z => by cases z))
  · exact .inl (.inr ⟨o, e _ _ h fun ps z => by cases z⟩)
  · exact .inr h
def idK (z : Int × Int) : List Key := [.inl z.1, .inl z.2]
theorem idK_inj {z w : Int × Int} (h : idK z = idK w) : z = w := by
  injection h with z1 z2
  injection z2 with z2
  exact Prod.ext (Sum.inl.inj z1) (Sum.inl.inj z2)
theorem extN_mut {H H' : Hp} {M : Addr} {o : HO} (e : LamX.ExtN H H') (hM : H M = none) : LamX.ExtN H (upd H' M o) := fun b x h n => by
  rw [upd_ne (ne_of_none h hM)]
  exact e b x h n
theorem tabs_mut {T : List (Addr × Str)} {H : Hp} {M : Addr} {o0 o : HO} (t : LamX.Tabs T H) (h : H M = some o0) (n1 : ∀ ps, o0 ≠ .tbl ps) (n2 : ∀ c q, o0 ≠ LamX.CodeO c q) : LamX.Tabs T (upd H M o) := fun p hp => by
  obtain ⟨ps, h1, h2, h3⟩ := t p hp
  refine ⟨ps, ?_, h2, fun pos cv hc => ?_⟩
  · rw [upd_ne]
    · exact h1
    · intro z
      rw [z, h] at h1
      exact n1 ps (Option.some.inj h1)
  · obtain ⟨c, e1, e2⟩ := h3 pos cv hc
    refine ⟨c, e1, ?_⟩
    rw [upd_ne]
    · exact e2
    · intro z
      rw [z, h] at e2
      exact n2 _ _ (Option.some.inj e2)
theorem tabs_new {T : List (Addr × Str)} {H : Hp} {M : Addr} {o : HO} (t : LamX.Tabs T H) (h : H M = none) : LamX.Tabs T (upd H M o) := t.ext (same_new h)
theorem lst_code {xs : List V} : ∀ c q, HO.lst xs ≠ LamX.CodeO c q := fun c q z => by
  unfold LamX.CodeO at z
  cases z
theorem dT_code {xs : List (List Key × V)} : ∀ c q, HO.dT xs ≠ LamX.CodeO c q := fun c q z => by
  unfold LamX.CodeO at z
  cases z
def spIF (K : PySem.W.Frag) (T : List (Addr × Str)) : Sp := fun vs H Q _ => ∃ (L : Addr) (rs : List V) (D : List U), vs = [.ref L] ∧ SqL K H L rs ∧ RepG (UAt H) rs D ∧ (D.map U.id).Nodup ∧ D.length ≤ 63 ∧ LamX.Tabs T H ∧
  ∀ (p : Addr) (H' : Hp) (is : List V) (S : List (Int × Int)), LamX.ExtN H H' → LamX.Tabs T H' → H' p = some (.lst is) → RepG (IdAt H') is S → S.length ≤ 63 → S.Pairwise ltI → Force D S → Q (.ref p) H'
theorem okInForce (T : Txt K mg) {c tp : Addr} (B : TabF K base mg T.fInForce c tp) : FnOk P w K mg base CX0 5 T.fInForce T.fdInForce ["edits"] (spIF K [(tp, qLam)]) := by
  obtain ⟨hcd, hnl, TB⟩ := id B
  refine okC T.FInForce hcd scInForce (fun vs H Q E h => ?_) (fun A outer s H vs Q E hr h => ?_)
  · obtain ⟨L, rs, D, rfl, _⟩ := h
    rfl
  · obtain ⟨L, rs, D, rfl, hL, R, nd, hl, hT, q⟩ := h
    -- slots edits=0 undone=1 found=2 edit_id=3 _=4 action=5
    refine ⟨_, (pss_cons (ps_set (i := 1) scInForce.nd rfl (Or.inl rfl) pe_dnewT)
        (pss_cons (ps_set (i := 2) scInForce.nd rfl (Or.inl rfl) (pe_lst pa_nil))
        (pss_cons (ps_for PassesOwn.never rfl (pi_list (pe_sortLam (T := [(tp, qLam)]) (N := ["edit"]) (k := 0) (pa_cons (pv 0) pa_nil) pe_bl (by rfl) T.z_sorted (by decide +kernel) TB rfl (List.mem_cons_self ..) (fun q hq _ => congrArg Prod.snd (List.mem_singleton.mp hq)) rfl rfl (hr.mono (by decide)) ⟨⟨rfl, rfl, rfl, by decide, rfl, by decide +kernel, by decide +kernel⟩, fun _ => rfl, fun _ _ _ _ _ us hl => match us, hl with | [_], _ => rfl⟩ (by rfl) (fun _ _ _ _ _ _ rm => (pe_ix (ix_tupK (K := K) rfl) (pv 0) pe_int (fun _ _ => rfl))))) (pg_tup rfl (pgs_cons (pg_name (i := 3) scInForce.nd rfl (Or.inl rfl)) (pgs_cons (pg_name (i := 4) scInForce.nd rfl (Or.inl rfl)) (pgs_cons (pg_name (i := 5) scInForce.nd rfl (Or.inl rfl)) pgs_nil))))
          (pss_one (ps_if (pt_cmp (pc_dnotin (units2 hr) (pv 3) (pv 1)))
            (pss_cons (ps_expr (pe_bm PySem.F.plainAttrs_list PySem.F.slot_list_append PySem.F.type_list_append mt_append (pv 2) (pa_cons (pv 3) pa_nil)))
            (pss_one (ps_if (PW.pt (pw_and (pt_cmpR op_eq (pe_ix ix_tup (pv 5) pe_int (fun _ _ => rfl)) pe_str (nomark _)) (pw_and1 (pt_cmpR op_lt (pe_ix ix_tup (pv 5) pe_int (fun _ _ => rfl)) (pe_ix ix_tup (pv 3) pe_int (fun _ _ => rfl)) (nomark _)))))
              (pss_one (ps_dput (units2 hr) (pv 1) (pe_tup (pa_cons (pe_ix ix_tup (pv 3) pe_int (fun _ _ => rfl)) (pa_cons (pe_ix ix_tup (pv 5) pe_int (fun _ _ => rfl)) pa_nil))) pe_bl rfl))
              pss_nil)))
            pss_nil)))
        (pss_one (ps_ret (pe_callB (cr_sortedD (units65b hr)) (by rfl) T.z_sorted (by decide +kernel) (pa_cons (pv 2) pa_nil))))))), ?_⟩
    refine fun M hM => ⟨Nat.zero_le _, fun N hN => ?_⟩
    have s1 := same_new (o := .dT []) hM
    have s2 := same_new (o := .lst []) hN
    have hM2 := s2 _ _ (upd_same (H := H) (a := M) (o := .dT []))
    have s12 := s1.trans s2
    have nMN : M ≠ N := fun z => by
      rw [z, upd_same] at hN
      cases hN
    have hN2 := upd_same (H := upd H M (.dT [])) (a := N) (o := .lst [])
    generalize upd (upd H M (.dT [])) N (.lst []) = H2 at s12 hM2 hN2
    have T2 := hT.ext s12
    have zm : ∀ z ∈ rs.zip D, UAt H z.1 z.2 := R.mem
    obtain ⟨Zs, eZ, pZ, oZ⟩ := sortI true U.id (rs.zip D)
    have snd0 : (rs.zip D).map Prod.snd = D := R.snd
    have ndZ : (Zs.map fun z => z.2.id).Nodup := by
      have h1 : ((rs.zip D).map fun z => z.2.id) = D.map U.id := by
        rw [← snd0, List.map_map, snd0]
        rfl
      exact (pZ.map _).nodup_iff.mpr (by rw [h1]; exact nd)
    have memZ : ∀ u, u ∈ Zs.map Prod.snd ↔ u ∈ D := fun u => by
      rw [(pZ.map Prod.snd).mem_iff, snd0]
    have lenZ : Zs.length = D.length := by
      rw [pZ.length_eq, List.length_zip, R.len, Nat.min_self]
    have desc : ∀ (i j : Nat) (a b : V × U), i < j → Zs[i]? = some a → Zs[j]? = some b → ltI b.2.id a.2.id := fun i j a b hij ha hb => by
      obtain ⟨h1, h2⟩ := List.getElem?_eq_some_iff.mp ha
      obtain ⟨h3, h4⟩ := List.getElem?_eq_some_iff.mp hb
      have o := List.pairwise_iff_getElem.mp oZ i j h1 h3 hij
      rw [if_pos rfl, h2, h4] at o
      have n := List.pairwise_iff_getElem.mp ndZ i j (by rw [List.length_map]; exact h1) (by rw [List.length_map]; exact h3) hij
      rw [List.getElem_map, List.getElem_map, h2, h4] at n
      unfold ltI at o ⊢
      have n2 : ¬ (a.2.id.1 = b.2.id.1 ∧ a.2.id.2 = b.2.id.2) := fun z => n (Prod.ext z.1 z.2)
      omega
    refine ⟨_, rfl, L, (rs.zip D).map (gI U.id), rfl, T2, fun H3 x3 T3 => ?_⟩
    have ts3 : TS H H3 := (TS.of s12).trans (TS.ext x3)
    have e3 : LamX.ExtN H H3 := (LamX.ExtN.of s12).trans x3
    have hM3 : H3 M = some (.dT []) := x3 _ _ hM2 fun ps z => by cases z
    have hN3 : H3 N = some (.lst []) := x3 _ _ hN2 fun ps z => by cases z
    refine ⟨?_, ?_, .inl ?_, ?_, ?_, fun p H4 s4 hp => ?_⟩
    · rw [List.map_map]
      show SqL K H3 L ((rs.zip D).map Prod.fst)
      rw [R.fst]
      exact sql_ext e3 hL
    · intro d hd d' hd'
      rw [List.map_map] at hd hd'
      obtain ⟨z, hz, rfl⟩ := List.mem_map.mp hd
      obtain ⟨z', hz', rfl⟩ := List.mem_map.mp hd'
      exact alikeI _ _
    · intro d hd
      rw [List.map_map] at hd
      obtain ⟨z, hz, rfl⟩ := List.mem_map.mp hd
      exact ⟨_, _, rfl⟩
    · intro b hb
      obtain ⟨z, hz, rfl⟩ := List.mem_map.mp hb
      show (idD z.2.id).depth ≤ 50
      rw [idD_depth]
      decide
    · intro b hb H5 s5
      obtain ⟨z, hz, rfl⟩ := List.mem_map.mp hb
      obtain ⟨q0, a0, b0, c0, e0, h1, h2, h3, h4⟩ := (zm z hz).ts (ts3.trans (TS.of s5))
      exact ⟨z.1, rfl, q0, _, _, .ref a0, e0, rfl, SqT.of h1, atI_nat (j := 0) rfl, Same.refl _, dp_id h2⟩
    rw [eZ]
    have s5 := same_new (o := .lst (Zs.map Prod.fst)) hp
    have hp5 := upd_same (H := H4) (a := p) (o := .lst (Zs.map Prod.fst))
    have hM5 := s5 _ _ (s4 _ _ hM3)
    have hN5 := s5 _ _ (s4 _ _ hN3)
    have npM : p ≠ M := fun z => by
      rw [z, s4 _ _ hM3] at hp
      cases hp
    have npN : p ≠ N := fun z => by
      rw [z, s4 _ _ hN3] at hp
      cases hp
    have hN0 : H N = none := by
      cases h : H N with
      | none => rfl
      | some o =>
        rw [s1 _ _ h] at hN
        cases hN
    have e5 : LamX.ExtN H (upd H4 p (.lst (Zs.map Prod.fst))) := extN_same (extN_same e3 s4) s5
    have T5 := T3.ext (s4.trans s5)
    generalize upd H4 p (.lst (Zs.map Prod.fst)) = H5 at hp5 hM5 hN5 e5 T5
    refine ⟨p, rfl, ⟨_, SqL.of hp5⟩, for_it (walk_list (a := p) (xs := Zs.map Prod.fst)) (fun j σ H' => ∃ (kvs : List (List Key × V)) (is : List V) (S : List (Int × Int)) (und : Int × Int → Prop) (c3 c4 c5 : Option V), σ = [some (.ref L), some (.ref M), some (.ref N), c3, c4, c5] ∧ LamX.ExtN H H' ∧ LamX.Tabs [(tp, qLam)] H' ∧ H' p = some (.lst (Zs.map Prod.fst)) ∧
      H' M = some (.dT kvs) ∧ H' N = some (.lst is) ∧ RepG (IdAt H') is S ∧ Part ((Zs.take j).map Prod.snd) S und ∧ (∀ i, (valV kvs (idK i)).isSome = true ↔ und i) ∧ kvs.length ≤ j ∧ is.length ≤ j ∧ S.Pairwise (fun a b => ltI b a)) ?_ (fun j σ H' _ ⟨_, _, _, _, _, _, _, _, _, _, h, _⟩ => SqL.of h) ?_ ?_⟩
    · exact ⟨[], [], [], _, _, _, _, rfl, e5, T5, hp5, hM5, hN5, RepG.nil, Part.nil, fun i => ⟨fun z => (by cases z), fun z => z.elim⟩, Nat.le_refl _, Nat.le_refl _, .nil⟩
    · rintro j x σ H6 H7 hj ⟨kvs, is, S, und, c3, c4, c5, rfl, e6, T6, hp6, hM6, hN6, R6, P6, du, kl, il, Sd⟩ ⟨rfl, hx⟩
      rw [List.length_map] at hj
      rw [List.getElem?_map] at hx
      obtain ⟨z, hz, rfl⟩ : ∃ z, Zs[j]? = some z ∧ z.1 = x := by
        cases e : Zs[j]? with
        | none =>
          rw [e] at hx
          cases hx
        | some z =>
          rw [e] at hx
          exact ⟨z, rfl, Option.some.inj hx⟩
      obtain ⟨q0, a0, b0, c0, e0, h1, h2, h3, h4⟩ := (zm z (pZ.mem_iff.mp (List.mem_of_getElem? hz))).ts (TS.ext e6)
      have et : (Zs.take (j + 1)).map Prod.snd = (Zs.take j).map Prod.snd ++ [z.2] := by
        rw [List.take_add_one, hz, List.map_append]
        rfl
      have lt : ∀ u ∈ (Zs.take j).map Prod.snd, ltI z.2.id u.id := fun u hu => by
        obtain ⟨y, hy, rfl⟩ := List.mem_map.mp hu
        obtain ⟨i, hi⟩ := List.mem_iff_getElem?.mp hy
        have hi2 : i < j := by
          have := (List.getElem?_eq_some_iff.mp hi).1
          rw [List.length_take] at this
          omega
        rw [List.getElem?_take_of_lt hi2] at hi
        exact desc i j y z hi2 hi hz
      refine ⟨q0, _, e0, SqT.of h1, rfl, _, _, rfl, _, _, rfl, _, _, rfl, rfl, ?_⟩
      have dg : DGet H7 M (.ref a0) (valV kvs (idK z.2.id)) := DGet.t hM6 h2
      refine ⟨_, rfl, _, rfl, M, _, rfl, dg, _, rfl, ite2 (fun cc => ?_) (fun cc => ?_)⟩
      rotate_left
      · have un : und z.2.id := by
          refine (du _).mp ?_
          cases e : (valV kvs (idK z.2.id)).isSome with
          | true => rfl
          | false =>
            rw [e] at cc
            exact absurd rfl cc
        exact ⟨kvs, is, S, und, _, _, _, rfl, e6, T6, hp6, hM6, hN6, R6, by rw [et]; exact P6.skip lt un, du, by omega, by omega, Sd⟩
      have un : ¬ und z.2.id := fun y => by
        rw [(du _).mpr y] at cc
        cases cc
      have P8 := P6.take lt un
      rw [← et] at P8
      have Sd8 : (S ++ [z.2.id]).Pairwise (fun a b => ltI b a) := List.pairwise_append.mpr ⟨Sd, List.pairwise_singleton _ _, fun a ha b hb => by
        rw [List.mem_singleton.mp hb]
        obtain ⟨u, hu, rfl⟩ := List.mem_map.mp ((P6.mem a).mp ha).1
        exact lt u hu⟩
      refine ⟨_, rfl, .inl ⟨rfl, _, SqL.of hN6⟩, _, rfl, N, _, _, rfl, rfl, hN6, small1000 (by omega), ?_⟩
      have e8 := extN_mut (o := .lst (is ++ [.ref a0])) e6 hN0
      have T8 := tabs_mut (o := .lst (is ++ [.ref a0])) T6 hN6 (fun ps z => by cases z) lst_code
      have t8 := TS.lst (o := .lst (is ++ [.ref a0])) hN6
      have R8 : RepG (IdAt (upd H7 N (.lst (is ++ [.ref a0])))) (is ++ [.ref a0]) (S ++ [z.2.id]) := RepG.snoc (R6.imp fun x e h => h.ts t8) ⟨a0, rfl, t8 _ _ h2⟩
      have hN8 := upd_same (H := H7) (a := N) (o := .lst (is ++ [.ref a0]))
      have hM8 : (upd H7 N (.lst (is ++ [.ref a0]))) M = some (.dT kvs) := by rw [upd_ne nMN]; exact hM6
      have hp8 : (upd H7 N (.lst (is ++ [.ref a0]))) p = some (.lst (Zs.map Prod.fst)) := by rw [upd_ne npN]; exact hp6
      have h28 := t8 _ _ h2
      have h48 := h4.ts t8
      generalize upd H7 N (.lst (is ++ [.ref a0])) = H8 at e8 T8 R8 hN8 hM8 hp8 h28 h48
      have il8 : (is ++ [V.ref a0]).length ≤ j + 1 := by
        rw [List.length_append]
        exact Nat.add_le_add_right il 1
      have stay : z.2.t = none ∨ (∃ t, z.2.t = some t ∧ ¬ t < z.2.n) → ∀ i, (valV kvs (idK i)).isSome = true ↔ (und i ∨ Undoes z.2 i) := fun hh i => by
        rw [du i]
        constructor
        · exact .inl
        · rintro (h | h)
          · exact h
          · rcases hh with e | ⟨t, e, nl⟩
            · rw [h.2.1] at e
              cases e
            · have := h.2.1
              rw [e] at this
              have e2 := Option.some.inj this
              have := h.2.2
              omega
      cases hzt : z.2.t with
      | none =>
        unfold ActAt at h48
        rw [hzt] at h48
        obtain ⟨y0, k1, k2⟩ := h48
        refine ⟨_, rfl, c0, _, _, _, rfl, rfl, SqT.of k1, atI_nat (j := 0) rfl, rfl, _, rfl, ite2 (fun c1 => absurd (V.str.inj (of_decide_eq_true c1)) (by decide +kernel)) (fun _ => ?_)⟩
        exact ⟨kvs, _, _, _, _, _, _, rfl, e8, T8, hp8, hM8, hN8, R8, P8, stay (.inl hzt), by omega, il8, Sd8⟩
      | some t =>
        unfold ActAt at h48
        rw [hzt] at h48
        have k1 : H8 c0 = some (.tup [.str "undo", .int t]) := h48
        refine ⟨_, rfl, c0, _, _, _, rfl, rfl, SqT.of k1, atI_nat (j := 0) rfl, rfl, _, rfl, ite2 (fun _ => ?_) (fun c1 => absurd (decide_eq_true rfl) c1)⟩
        refine ⟨_, rfl, c0, _, _, _, rfl, rfl, SqT.of k1, atI_nat (j := 1) rfl, _, rfl, a0, _, _, _, rfl, rfl, SqT.of h28, atI_nat (j := 1) rfl, _, _, rfl, rfl, _, rfl, ite2 (fun c1 => ?_) (fun c1 => ?_)⟩
        rotate_left
        · exact ⟨kvs, _, _, _, _, _, _, rfl, e8, T8, hp8, hM8, hN8, R8, P8, stay (.inr ⟨t, hzt, fun y => c1 (decide_eq_true y)⟩), by omega, il8, Sd8⟩
        have c1 : t < z.2.n := of_decide_eq_true c1
        refine ⟨_, rfl, _, rfl, a0, _, _, _, rfl, rfl, SqT.of h28, atI_nat (j := 0) rfl, _, rfl, c0, _, _, _, rfl, rfl, SqT.of k1, atI_nat (j := 1) rfl, (by show 2 ≤ sizeLine; decide), fun t1 ht1 => ?_⟩
        have s9 := same_new (o := .tup [.int z.2.p, .int t]) ht1
        have hM9 := s9 _ _ hM8
        refine ⟨M, _, rfl, DPut.t (k := idK (z.2.p, t)) hM9 upd_same (small1000 (by omega)), ?_⟩
        have e9 := extN_mut (o := .dT (putK kvs (idK (z.2.p, t)) (.bl true))) (extN_same e8 s9) hM
        have T9 := tabs_mut (o := .dT (putK kvs (idK (z.2.p, t)) (.bl true))) (T8.ext s9) hM9 (fun ps z => by cases z) dT_code
        have t9 := TS.dT (o := .dT (putK kvs (idK (z.2.p, t)) (.bl true))) hM9
        have pl : (putK kvs (idK (z.2.p, t)) (V.bl true)).length ≤ kvs.length + 1 := by
          unfold putK
          split
          · rw [List.length_map]
            omega
          · rw [List.length_append]
            exact Nat.le_refl _
        refine ⟨_, _, _, _, _, _, _, rfl, e9, T9, ?_, upd_same, ?_, R8.imp fun x e h => h.ts ((TS.of s9).trans t9), P8, fun i => ?_, by omega, il8, Sd8⟩
        · rw [upd_ne npM]
          exact s9 _ _ hp8
        · rw [upd_ne nMN.symm]
          exact s9 _ _ hN8
        · rw [valV_put]
          by_cases hi : idK i = idK (z.2.p, t)
          · rw [if_pos hi]
            have hi := idK_inj hi
            exact ⟨fun _ => .inr ⟨by rw [hi], by rw [hi]; exact hzt, by rw [hi]; exact c1⟩, fun _ => rfl⟩
          · rw [if_neg hi, du i]
            refine ⟨.inl, fun h => h.elim id fun h => absurd ?_ hi⟩
            have h2 := h.2.1
            rw [hzt] at h2
            have h3 := Option.some.inj h2
            unfold idK
            rw [h.1, h3]
    · rintro σ H6 ⟨kvs, is, S, und, c3, c4, c5, rfl, e6, T6, hp6, hM6, hN6, R6, P6, du, kl, il, Sd⟩
      rw [List.length_map, List.take_length] at P6
      have R6r := R6
      obtain ⟨Ys, eY, pY, oY⟩ := sortI false id (is.zip S)
      have sndS : (is.zip S).map Prod.snd = S := R6.snd
      have nS : S.Nodup := Sd.imp (S := fun a b => a ≠ b) (fun {a b} h => fun (z : a = b) => ltI_irr (by rw [z] at h; exact h))
      have memY : ∀ i, i ∈ Ys.map Prod.snd ↔ i ∈ S := fun i => by rw [(pY.map Prod.snd).mem_iff, sndS]
      refine ⟨_, rfl, N, (is.zip S).map (gI id), rfl, ?_, ?_, ?_, .inl ?_, ?_, fun r hr6 => ?_⟩
      · rw [List.map_map]
        show SqL K H6 N ((is.zip S).map Prod.fst)
        rw [R6.fst]
        exact SqL.of hN6
      · intro b hb
        obtain ⟨z, hz, rfl⟩ := List.mem_map.mp hb
        exact (R6.mem z hz).dp
      · intro d hd d' hd'
        rw [List.map_map] at hd hd'
        obtain ⟨z, hz, rfl⟩ := List.mem_map.mp hd
        obtain ⟨z', hz', rfl⟩ := List.mem_map.mp hd'
        exact alikeI _ _
      · intro d hd
        rw [List.map_map] at hd
        obtain ⟨z, hz, rfl⟩ := List.mem_map.mp hd
        exact ⟨_, _, rfl⟩
      · intro b hb
        obtain ⟨z, hz, rfl⟩ := List.mem_map.mp hb
        show (idD z.2).depth ≤ 50
        rw [idD_depth]
        decide
      rw [eY]
      have s7 := same_new (o := .lst (Ys.map Prod.fst)) hr6
      refine q r _ (Ys.map Prod.fst) (Ys.map Prod.snd) (extN_same e6 s7) (T6.ext s7) upd_same (RepG.of_zs fun z hz => (R6.mem z (pY.mem_iff.mp hz)).ts (TS.of s7)) (by have il2 := il; rw [List.length_map] at il2; rw [List.length_map, pY.length_eq, List.length_zip]; omega) ?_ (P6.force (fun u => (memZ u).symm) memY)
      have nY : (Ys.map Prod.snd).Nodup := ((pY.map Prod.snd).nodup_iff).mpr (by rw [sndS]; exact nS)
      have nY2 : Ys.Pairwise fun a b => a.2 ≠ b.2 := List.pairwise_map.mp nY
      refine List.pairwise_map.mpr ((oY.and nY2).imp fun {a b} h => ?_)
      have h1 : ¬ ltI b.2 a.2 := h.1
      have h2 := h.2
      unfold ltI at h1 ⊢
      have n2 : ¬ (a.2.1 = b.2.1 ∧ a.2.2 = b.2.2) := fun z => h2 (Prod.ext z.1 z.2)
      omega
theorem op_notIn_seqK {X : Cx} {K : PySem.W.Frag} (h : X.K = K) : OpR X (compareOp .NotIn) (rIn K true) := by
  subst h
  exact op_notIn_seq
theorem op_in_seqK {X : Cx} {K : PySem.W.Frag} (h : X.K = K) : OpR X (compareOp .In) (rIn K false) := by
  subst h
  exact op_in_seq
theorem inV_ints (i : Int) : ∀ ps : List Int, inV (.int i) (ps.map V.int) = decide (i ∈ ps)
  | [] => by simp [inV]
  | p :: ps => by
    have := inV_ints i ps
    unfold inV at this ⊢
    have e : eqV (V.int p) (V.int i) = decide (p = i) := by
      show (p == i) = _
      rfl
    simp only [List.map_cons, List.any_cons, this, e]
    by_cases h : i = p
    · simp [h]
    · simp [h, Ne.symm h]
def spIFW (K : PySem.W.Frag) (T : List (Addr × Str)) : Sp := fun vs H Q _ => ∃ (L W : Addr) (rs : List V) (D : List U) (ps : List Int), vs = [.ref L, .ref W] ∧ SqL K H L rs ∧ RepG (UAt H) rs D ∧ (D.map U.id).Nodup ∧ D.length ≤ 63 ∧ SqT K H W (ps.map V.int) ∧ LamX.Tabs T H ∧
  ∀ (p : Addr) (H' : Hp) (is : List V) (S : List (Int × Int)), LamX.ExtN H H' → LamX.Tabs T H' → H' p = some (.lst is) → RepG (IdAt H') is (S.filter fun i => !decide (i.1 ∈ ps)) → S.Pairwise ltI → Force D S → Q (.ref p) H'
theorem sqt_ext {K : PySem.W.Frag} {H H' : Hp} {a : Addr} {xs : List V} (e : LamX.ExtN H H') (h : SqT K H a xs) : SqT K H' a xs := by
  rcases h with (h | ⟨o, h⟩) | h
  · exact .inl (.inl (e _ _ h fun ps z => by cases z))
  · exact .inl (.inr ⟨o, e _ _ h fun ps z => by cases z⟩)
  · exact .inr h
theorem okInForceWithout (T : Txt K mg) {c tp : Addr} (B : TabF K base mg T.fInForce c tp) : FnOk P w K mg base CX0 6 T.fInForceWithout T.fdInForceWithout ["edits", "persons"] (spIFW K [(tp, qLam)]) := by
  refine T.FInForceWithout.ok scInForceWithout (fun vs H Q E h => ?_) (fun cdv A outer s H vs Q E hr h => ?_)
  · obtain ⟨L, W, rs, D, ps, rfl, _⟩ := h
    rfl
  · obtain ⟨L, W, rs, D, ps, rfl, hL, R, nd, hl, hW, hT, q⟩ := h
    -- slots edits=0 persons=1 edit_id=2
    refine ⟨_, (pss_one (ps_ret (pe_lc (own := [("edit_id", 2)]) (g := gName 2) rfl scInForceWithout.nd (pi_list (pe_call (okInForce T B) (hr.mono (by decide)) (by rfl) T.gInForce T.FInForce.kp T.bInForce .nil pass0 (pa_cons (pv 0) pa_nil))) (blkOk_by (own := [("edit_id", 2)]) (N := ["edits", "persons", "edit_id"]) (sc := defScope sInForceWithout) (by decide +kernel)) (fun _ _ _ _ _ => (pg_name (i := 2) scInForceWithout.nd rfl (Or.inl rfl))) (fun _ _ _ _ _ => (pts_one (pt_cmpR (op_notIn_seqK (K := K) rfl) (pe_ix (ix_tupK (K := K) rfl) (pv 2) pe_int (fun _ _ => rfl)) (pv 1) rfl))) (fun _ _ _ _ _ => (pv 2))))), ?_⟩
    refine ⟨_, rfl, L, rs, D, rfl, hL, R, nd, hl, hT, fun p H1 is S e1 T1 hp R1 sl so F => ⟨p, rfl, ⟨_, SqL.of hp⟩, fun N hN => ?_⟩⟩
    refine lc_it (walk_list (a := p) (xs := is)) (fun j H' => Same H1 H' ∧ ∃ js : List V, H' N = some (.lst js) ∧ js.length ≤ j ∧ RepG (IdAt H1) js ((S.take j).filter fun i => !decide (i.1 ∈ ps))) ⟨same_new hN, [], upd_same, Nat.le_refl _, RepG.nil⟩ (fun j H' _ h => SqL.of (h.1 _ _ hp)) ?_ ?_
    · rintro j x H9 H4 hj ⟨s4, js, hN4, jl, R4⟩ ⟨rfl, hx⟩
      obtain ⟨i, hi, a, rfl, ha⟩ := R1.get hx
      have et : (S.take (j + 1)).filter (fun i => !decide (i.1 ∈ ps)) = (S.take j).filter (fun i => !decide (i.1 ∈ ps)) ++ (if i.1 ∈ ps then [] else [i]) := by
        rw [List.take_add_one, hi, List.filter_append]
        by_cases z : i.1 ∈ ps
        · simp [z]
        · simp [z]
      have ha4 := s4 _ _ ha
      refine ⟨rfl, _, rfl, a, _, _, _, rfl, rfl, SqT.of ha4, atI_nat (j := 0) rfl, _, rfl, W, ps.map V.int, rfl, .inr (s4.tup (sqt_ext e1 hW)), rfl, by simp [flatV], ?_⟩
      rw [inV_ints]
      refine ⟨_, rfl, ?_⟩
      rw [et]
      by_cases z : i.1 ∈ ps
      · rw [if_pos z, decide_eq_true z, List.append_nil]
        exact iteF ⟨s4, js, hN4, by omega, R4⟩
      · rw [if_neg z, decide_eq_false z]
        refine iteT ⟨_, rfl, js, hN4, small1000 (by have := R1.len; omega), same_mut s4 hN, js ++ [.ref a], upd_same, ?_, RepG.snoc R4 ⟨a, rfl, ha⟩⟩
        rw [List.length_append]
        exact Nat.add_le_add_right jl 1
    · rintro H2 ⟨s2, js, hN2, jl, R2⟩
      rw [List.take_of_length_le (by rw [R1.len]; exact Nat.le_refl _)] at R2
      exact q N H2 js S (extN_same e1 s2) (T1.ext s2) hN2 (R2.imp fun x e h => h.ts (TS.of s2)) so F
/-! ### sorted(xs), tuples that differ in their first items -/
open PySem.W PySem.Calls in
def hdD : PyData → PyData
  | .tuple (x :: _) => x
  | d => d
open PySem.W in
noncomputable def fstKind (ps : List (Value × PyData)) : PyProof.Rows.KeyKind where
  toKeyOrd := listOrd itemOrd
  keyOf v := open Classical in if q : ∃ d, (v, d) ∈ ps then some (keyToks (hdD q.choose)) else none
  dflt := ([] : List (Int ⊕ List Nat))
structure FstOk (h : Heap) (ps : List (Value × PyData)) : Prop where
  rd : ∀ p ∈ ps, ∃ as, Reads h p.1 p.2 as
  tup : ∀ p ∈ ps, ∃ x r, p.2 = .tuple (x :: r)
  al : ∀ p ∈ ps, ∀ p' ∈ ps, PySem.W.alike (hdD p.2) (hdD p'.2) = true
  self : ∀ p ∈ ps, PySem.W.alike p.2 p.2 = true
  one : ∀ p ∈ ps, ∀ p' ∈ ps, PyData.eqv (hdD p.2) (hdD p'.2) = true → p.2 = p'.2
theorem FstOk.hd {h : Heap} {ps : List (Value × PyData)} (F : FstOk h ps) {v : Value} {d d' : PyData} (m : (v, d) ∈ ps) (m' : (v, d') ∈ ps) : hdD d = hdD d' := by
  obtain ⟨as, r⟩ := F.rd _ m
  obtain ⟨as', r'⟩ := F.rd _ m'
  have hal := F.al _ m _ m'
  obtain ⟨x, t, e⟩ := F.tup _ m
  obtain ⟨x', t', e'⟩ := F.tup _ m'
  have e : d = .tuple (x :: t) := e
  have e' : d' = .tuple (x' :: t') := e'
  subst e
  subst e'
  cases r with
  | @tuple l o xs n _ _ h1 h2 h3 h4 =>
    cases r' with
    | @tuple l' o' xs' n' _ _ k1 k2 k3 k4 =>
      rw [h1] at k1
      cases k1
      rw [h3] at k3
      cases k3
      cases q : xs.toList with
      | nil =>
        rw [q] at h4
        cases h4
      | cons f fr =>
        rw [q] at h4 k4
        cases h4 with
        | cons r1 r2 =>
          cases k4 with
          | cons r1' r2' => exact PySem.W.alike_unique _ _ _ _ _ hal r1 r1'
theorem fst_some {h : Heap} {ps : List (Value × PyData)} (F : FstOk h ps) {v : Value} {d : PyData} (m : (v, d) ∈ ps) : (fstKind ps).keyOf v = some (PySem.W.keyToks (hdD d)) := by
  have q : ∃ d, (v, d) ∈ ps := ⟨d, m⟩
  have e : (fstKind ps).keyOf v = some (PySem.W.keyToks (hdD q.choose)) := by
    show (open Classical in if q : ∃ d, (v, d) ∈ ps then some (PySem.W.keyToks (hdD q.choose)) else none) = _
    rw [dif_pos q]
  rw [e, F.hd q.choose_spec m]
theorem fst_inv {h : Heap} {ps : List (Value × PyData)} (F : FstOk h ps) {v : Value} {k : List (Int ⊕ List Nat)} (e : (fstKind ps).keyOf v = some k) : ∃ d, (v, d) ∈ ps ∧ k = PySem.W.keyToks (hdD d) := by
  by_cases q : ∃ d, (v, d) ∈ ps
  · obtain ⟨d, m⟩ := q
    rw [fst_some F m] at e
    exact ⟨d, m, (Option.some.inj e).symm⟩
  · have e' : (fstKind ps).keyOf v = none := by
      show (open Classical in if q : ∃ d, (v, d) ∈ ps then some (PySem.W.keyToks (hdD q.choose)) else none) = _
      rw [dif_neg q]
      rfl
    rw [e'] at e
    cases e
open PySem.W PySem.Calls in
theorem sortsAt_first {prog : Program} {w : World} {A : Around} {s : Shared} {ps : List (Value × PyData)} (F : FstOk s.heap ps) (hu : ∀ p ∈ ps, A.units + p.2.depth < cLine) (e : EachIs (fun v d => ∃ as, Reads s.heap v d as) (ps.map Prod.fst) (ps.map Prod.snd)) : SortsAt prog w A s (fstKind ps) (ps.map Prod.fst) := by
  have ht : ∀ d, d ∈ ps.map Prod.snd → ∃ x r, d = .tuple (x :: r) := fun d hd => by
    obtain ⟨p, hp, rfl⟩ := List.mem_map.mp hd
    exact F.tup p hp
  refine ⟨fun v hv => ?_, ?_⟩
  · obtain ⟨p, hp, rfl⟩ := List.mem_map.mp hv
    exact ⟨_, fst_some F (show (p.1, p.2) ∈ ps from hp)⟩
  cases hps : ps with
  | nil =>
    exact ⟨general', fun E x y a b Q ha _ _ => (by
      rw [hps] at F
      obtain ⟨d, m, _⟩ := fst_inv F ha
      cases m), fun h2 => absurd h2 (by simp)⟩
  | cons p₀ ps₀ =>
    have m0 : p₀ ∈ ps := by rw [hps]; exact List.mem_cons_self ..
    rw [← hps]
    obtain ⟨x₀, r₀, e₀⟩ := F.tup p₀ m0
    have hfirst : ∀ p ∈ ps, ∀ x r, p.2 = .tuple (x :: r) → alike x x₀ = true := by
      intro p hp x r ex
      have q := F.al p hp p₀ m0
      rw [e₀, ex] at q
      exact q
    refine ⟨tuples' (dataType x₀ != Value.type "tuple"), ?_, fun h2 E Q hq => ?_⟩
    · intro E x y a b Q ha hb hq
      obtain ⟨d, md, rfl⟩ := fst_inv F ha
      obtain ⟨d', md', rfl⟩ := fst_inv F hb
      obtain ⟨as, ra⟩ := F.rd _ md
      obtain ⟨as', rb⟩ := F.rd _ md'
      obtain ⟨x1, r1, e1⟩ := F.tup _ md
      obtain ⟨x2, r2, e2⟩ := F.tup _ md'
      have e1 : d = .tuple (x1 :: r1) := e1
      have e2 : d' = .tuple (x2 :: r2) := e2
      have hal := F.al _ md _ md'
      have hself := F.self _ md
      have hone := F.one _ md _ md'
      have hfx := hfirst _ md x1 r1 e1
      have hud := hu _ md
      subst e1
      subst e2
      have hal : alike x1 x2 = true := hal
      have hq' : Q (PyProof.Rows.lexLt itemOrd (keyToks x1) (keyToks x2)) s := hq
      have hroom : A.units + min (PyData.tuple (x1 :: r1)).depth (PyData.tuple (x2 :: r2)).depth < cLine := Nat.lt_of_le_of_lt (Nat.add_le_add_left (Nat.min_le_left _ _) _) hud
      have nt : ∀ hb : (dataType x₀ != Value.type "tuple") = true, ∀ t, x1 ≠ .tuple t := fun hb t => by
        have q := dataType_alike hfx
        rw [← q] at hb
        exact dataType_tuple hb t
      cases ra with
      | @tuple l o xs n _ _ h1 h2 h3 h4 =>
        cases rb with
        | @tuple l' o' xs' n' _ _ k1 k2 k3 k4 =>
          have n1 : xs.size = (x1 :: r1).length := by simpa using SeqAt.ReadsAll.length _ _ _ h4
          have n2 : xs'.size = (x2 :: r2).length := by simpa using SeqAt.ReadsAll.length _ _ _ k4
          cases hx : PyData.eqv x1 x2 with
          | true =>
            have hdd : PyData.tuple (x1 :: r1) = PyData.tuple (x2 :: r2) := hone hx
            have hl : x1 :: r1 = x2 :: r2 := PyData.tuple.inj hdd
            obtain ⟨hx1, hr1⟩ := List.cons.inj hl
            subst hx1
            subst hr1
            have hq2 : Q (PyProof.Rows.lexLt itemOrd (keyToksAll (x1 :: r1)) (keyToksAll (x1 :: r1))) s := by
              rw [lex_irrefl] at hq' ⊢
              exact hq'
            refine kat_lt h1 h3 k1 k3 (katLex_alike (x1 :: r1) (x1 :: r1) 0 _ _ _ _ h4 k4 (by simpa [alike] using hself) (by have q := SeqAt.room_in hroom; omega) (fun hb _ x r t ex => ?_) (by rw [n1, n2]) hq2)
            obtain ⟨rfl, rfl⟩ := List.cons.inj ex
            exact nt hb t
          | false =>
            have hq2 : Q (dataLt x1 x2) s := hq'
            cases qa : xs.toList with
            | nil =>
              rw [qa] at h4
              cases h4
            | cons f fr =>
              cases qb : xs'.toList with
              | nil =>
                rw [qb] at k4
                cases k4
              | cons g gr =>
                rw [qa] at h4
                rw [qb] at k4
                cases h4 with
                | cons c1 c2 =>
                  cases k4 with
                  | cons d1 d2 =>
                    have rm := SeqAt.room_in hroom
                    have rm2 : A.units + min x1.depth x2.depth < cLine := by
                      have z1 : x1.depth ≤ PyData.depthAll (x1 :: r1) := by simp only [PyData.depthAll]; omega
                      have z2 : x2.depth ≤ PyData.depthAll (x2 :: r2) := by simp only [PyData.depthAll]; omega
                      omega
                    refine kat_lt h1 h3 k1 k3 ?_
                    rw [qa, qb, List.zip_cons_cons]
                    refine kat_cons (eqAt_alike x1 x2 A s _ _ _ _ c1 d1 hal rm2 prog w _ _ ?_)
                    rw [hx]
                    refine kat_no (oneLt_alike (fun hbi t => ?_) c1 d1 hal (ne_none_of hal hx) rm2 hq2)
                    rw [Bool.and_eq_true] at hbi
                    exact nt hbi.1 t
    · obtain ⟨fs, t1, t2, t3⟩ := each_katTups e ht
      refine kat_kind (T := dataType x₀) t1 (by omega) (fun f hf => ?_) (beq_self_eq_true _) hq
      obtain ⟨x, r, as, m1, m2⟩ := t3 f hf
      obtain ⟨p, hp, ep⟩ := List.mem_map.mp m1
      rw [← dataType_alike (hfirst p hp x r ep)]
      exact looks_reads m2
theorem each_zip {α β : Type} {R : α → β → Prop} : ∀ {as : List α} {bs : List β}, as.length = bs.length → (∀ p ∈ as.zip bs, R p.1 p.2) → PySem.W.EachIs R as bs
  | [], [], _, _ => .nil
  | [], _ :: _, h, _ => by cases h
  | _ :: _, [], h, _ => by cases h
  | a :: as, b :: bs, h, z => .cons (z (a, b) (List.mem_cons_self ..)) (each_zip (Nat.succ.inj h) fun p hp => z p (List.mem_cons_of_mem _ hp))
def rSortedF (K : PySem.W.Frag) : List V → Hp → VK → Prop := fun vs H Q => ∃ (a : Addr) (bs : List (V × PyData)), vs = [V.ref a] ∧ SqL K H a (bs.map Prod.fst) ∧ (∀ b ∈ bs, Dp K H b.1 b.2) ∧ (∀ b ∈ bs, ∃ x r, b.2 = .tuple (x :: r)) ∧ (∀ b ∈ bs, ∀ b' ∈ bs, PySem.W.alike (hdD b.2) (hdD b'.2) = true) ∧
  (∀ b ∈ bs, PySem.W.alike b.2 b.2 = true) ∧ (∀ b ∈ bs, ∀ b' ∈ bs, PyData.eqv (hdD b.2) (hdD b'.2) = true → b.2 = b'.2) ∧ (∀ b ∈ bs, b.2.depth ≤ 50) ∧
  ∀ p, H p = none → Q (.ref p) (upd H p (.lst ((bs.mergeSort (PySem.W.dataLe false fun b => hdD b.2)).map Prod.fst)))
theorem cr_sortedF {X : Cx} (hu : X.A.units + 64 < cLine) : CallR X (.builtin "sorted") (rSortedF X.K) := by
  intro pins s σ H vs us Q I r h
  obtain ⟨a, bs, rfl, hs, hd, ht, hal, hse, hone, hdp, q⟩ := h
  obtain ⟨its, rv, hl, hz⟩ := I.list hs
  rw [Vals.ref1 r]
  have e := each_of_vals rv
  have er := reads_of_each I e hd
  have hlen : its.length = bs.length := by rw [← rv.length, List.length_map]
  have er' : PySem.W.EachIs (fun v (b : V × PyData) => ∃ as, Reads (PySem.W.sortingHeap (PySem.W.copyHeap s.heap its) (s.heap.objs.size + 1) its) v b.2 as) its bs := er.mono fun _ _ ⟨as, r⟩ => ⟨as, PyProof.Rows.Reads.keeps (fun _ _ => PySem.W.sorting_copy_old) r⟩
  have hfst : (its.zip (bs.map Prod.snd)).map Prod.fst = its := List.map_fst_zip (by rw [List.length_map]; omega)
  have hsnd : (its.zip (bs.map Prod.snd)).map Prod.snd = bs.map Prod.snd := List.map_snd_zip (by rw [List.length_map]; omega)
  have mem : ∀ p ∈ its.zip (bs.map Prod.snd), ∃ b ∈ bs, p.2 = b.2 ∧ ∃ as, Reads (PySem.W.sortingHeap (PySem.W.copyHeap s.heap its) (s.heap.objs.size + 1) its) p.1 b.2 as := fun p hp => by
    obtain ⟨i, hi⟩ := List.mem_iff_getElem?.mp hp
    obtain ⟨h1, h2⟩ := List.getElem?_zip_eq_some.mp hi
    rw [List.getElem?_map] at h2
    cases hb : bs[i]? with
    | none =>
      rw [hb] at h2
      cases h2
    | some b =>
      rw [hb] at h2
      have e2 : b.2 = p.2 := Option.some.inj h2
      have hz' : (p.1, b) ∈ its.zip bs := List.mem_of_getElem? (i := i) (by rw [List.getElem?_zip_eq_some]; exact ⟨h1, hb⟩)
      exact ⟨b, List.mem_of_getElem? hb, e2.symm, er'.zip _ hz'⟩
  have F : FstOk (PySem.W.sortingHeap (PySem.W.copyHeap s.heap its) (s.heap.objs.size + 1) its) (its.zip (bs.map Prod.snd)) := by
    refine ⟨fun p hp => ?_, fun p hp => ?_, fun p hp p' hp' => ?_, fun p hp => ?_, fun p hp p' hp' => ?_⟩
    · obtain ⟨b, hb, e2, as, r⟩ := mem p hp
      exact ⟨as, by rw [e2]; exact r⟩
    · obtain ⟨b, hb, e2, _⟩ := mem p hp
      rw [e2]
      exact ht b hb
    · obtain ⟨b, hb, e2, _⟩ := mem p hp
      obtain ⟨b', hb', e2', _⟩ := mem p' hp'
      rw [e2, e2']
      exact hal b hb b' hb'
    · obtain ⟨b, hb, e2, _⟩ := mem p hp
      rw [e2]
      exact hse b hb
    · obtain ⟨b, hb, e2, _⟩ := mem p hp
      obtain ⟨b', hb', e2', _⟩ := mem p' hp'
      rw [e2, e2']
      exact hone b hb b' hb'
  have S := sortsAt_first (prog := X.prog) (w := X.w) (A := X.A.in1.in1) (s := { s with heap := PySem.W.sortingHeap (PySem.W.copyHeap s.heap its) (s.heap.objs.size + 1) its }) F (fun p hp => by
    obtain ⟨b, hb, e2, _⟩ := mem p hp
    have := hdp b hb
    rw [e2]
    show X.A.units + 2 + b.2.depth < cLine
    omega) (by
    rw [hfst, hsnd]
    exact PySem.W.each_map (R := fun v d => ∃ as, Reads (PySem.W.sortingHeap (PySem.W.copyHeap s.heap its) (s.heap.objs.size + 1) its) v d as) Prod.snd er')
  rw [hfst] at S
  have hz2 : its.length ≤ sizeLine := by
    rw [hlen]
    rw [List.length_map] at hz
    exact hz
  refine PySem.W.sorted_vals hl.isList S hz2 ?_
  have hk : PySem.W.EachIs (fun v (b : V × PyData) => (fstKind (its.zip (bs.map Prod.snd))).keyOf v = some (PySem.W.keyToks (hdD b.2))) its bs := by
    have z : ∀ p ∈ its.zip bs, (fstKind (its.zip (bs.map Prod.snd))).keyOf p.1 = some (PySem.W.keyToks (hdD p.2.2)) := fun p hp => by
      refine fst_some F ?_
      rw [List.zip_map_right]
      exact List.mem_map.mpr ⟨p, hp, rfl⟩
    exact each_zip hlen z
  have out := PySem.W.sortVals_each (κ := fstKind (its.zip (bs.map Prod.snd))) (rev := false) (fun b : V × PyData => PySem.W.keyToks (hdD b.2)) e hk
  obtain ⟨ep, he'⟩ := PyProof.Rows.sortedAll_at s.heap its (PySem.W.sortVals (fstKind (its.zip (bs.map Prod.snd))) false its its).toArray
  have hlen2 : ((bs.mergeSort (PySem.W.dataLe false fun b => hdD b.2)).map Prod.fst).length ≤ sizeLine := by
    rw [List.length_map, List.length_mergeSort]
    rw [List.length_map] at hz
    exact hz
  exact ⟨.ref _, upd H (s.heap.objs.size + 1) (.lst ((bs.mergeSort (PySem.W.dataLe false fun b => hdD b.2)).map Prod.fst)), I.laid (t' := s.toks) (fun _ _ => PyProof.Rows.sortedAll_old) (Nat.le_succ _) ⟨hlen2, _, ep, vals_of_each out, he'⟩, rfl, q _ (I.hok.fresh (Nat.le_succ _))⟩
def actD (u : U) : PyData := match u.t with
  | some t => .tuple [.str "undo", .int t]
  | none => .tuple [.str "delete", .str "row", .tuple [.int 0, .int u.m]]
def uD (u : U) : PyData := .tuple [idD u.id, .tuple (u.v.map PyData.int), actD u]
theorem hd_uD (u : U) : hdD (uD u) = idD u.id := rfl
theorem UAt.dp {K : PySem.W.Frag} {H : Hp} {x : V} {u : U} (h : UAt H x u) : Dp K H x (uD u) := by
  obtain ⟨q, a, b, c, rfl, h1, h2, h3, h4⟩ := h
  refine .tup (SqT.of h1) (.cons (dp_id h2) (.cons (.tup (SqT.of h3) (dp_ints _)) (.cons ?_ .nil)))
  unfold ActAt at h4
  unfold actD
  cases e : u.t with
  | none =>
    rw [e] at h4
    obtain ⟨z, k1, k2⟩ := h4
    exact .tup (SqT.of k1) (.cons (.str _) (.cons (.str _) (.cons (.tup (SqT.of k2) (.cons (.int _) (.cons (.int _) .nil))) .nil)))
  | some t =>
    rw [e] at h4
    have k1 : H c = some (.tup [.str "undo", .int t]) := h4
    exact .tup (SqT.of k1) (.cons (.str _) (.cons (.int _) .nil))
theorem alike_ints : ∀ v : List Int, PySem.W.alikeAll (v.map PyData.int) (v.map PyData.int) = true
  | [] => rfl
  | x :: r => by simp [PySem.W.alikeAll, PySem.W.alike, alike_ints r]
theorem alike_uD (u : U) : PySem.W.alike (uD u) (uD u) = true := by
  have h1 := alike_ints u.v
  have h2 := alikeI u.id u.id
  have h3 : PySem.W.alike (actD u) (actD u) = true := by
    unfold actD
    split <;> simp [PySem.W.alike, PySem.W.alikeAll]
  simp [uD, PySem.W.alike, PySem.W.alikeAll, h1, h2, h3]
theorem depth_uD (u : U) : (uD u).depth ≤ 50 := by
  have h2 := idD_depth u.id
  have h3 : (actD u).depth ≤ 3 := by
    unfold actD
    split <;> simp [PyData.depth, PyData.depthAll]
  have h4 : PyData.depthAll (u.v.map PyData.int) ≤ 1 := by
    generalize u.v = v
    induction v with
    | nil => simp [PyData.depthAll]
    | cons x r ih =>
      simp only [List.map_cons, PyData.depthAll, PyData.depth]
      omega
  simp only [uD, PyData.depth, PyData.depthAll]
  omega
theorem sortU (zs : List (V × U)) : ∃ Zs : List (V × U), ((zs.map fun z => (z.1, uD z.2)).mergeSort (PySem.W.dataLe false fun b => hdD b.2)).map Prod.fst = Zs.map Prod.fst ∧ Zs.Perm zs ∧ Zs.Pairwise fun a b => ¬ ltI b.2.id a.2.id := by
  refine ⟨zs.mergeSort fun a b => PySem.W.dataLe false id (idD a.2.id) (idD b.2.id), ?_, List.mergeSort_perm _ _, ?_⟩
  · rw [← List.map_mergeSort (f := fun z : V × U => (z.1, uD z.2)) (r := fun a b => PySem.W.dataLe false id (idD a.2.id) (idD b.2.id)) (s := PySem.W.dataLe false fun b : V × PyData => hdD b.2) fun _ _ _ _ => rfl, List.map_map]
    rfl
  · have t : PySem.W.TotalLe (PySem.W.dataLe false id) := PySem.W.sortLe_total _ false _
    refine (List.pairwise_mergeSort (le := fun a b : V × U => PySem.W.dataLe false id (idD a.2.id) (idD b.2.id)) (fun a b c h1 h2 => t.trans _ _ _ h1 h2) (fun a b => by
      rw [Bool.or_eq_true]
      exact t.total _ _) zs).imp fun {a b} h => ?_
    have h : (!PySem.W.dataLt (idD b.2.id) (idD a.2.id)) = true := h
    intro z
    rw [(ltI_idD _ _).mpr z] at h
    cases h
def spLForce (K : PySem.W.Frag) : Sp := fun vs H Q _ => ∃ (L : Addr) (rs : List V) (D : List U), vs = [.ref L] ∧ SqL K H L rs ∧ RepG (UAt H) rs D ∧ (D.map U.id).Nodup ∧ D.length ≤ 63 ∧
  ∀ (p : Addr) (H' : Hp) (is : List V) (S : List (Int × Int)), Same H H' → H' p = some (.lst is) → RepG (IdAt H') is S → S.length ≤ 63 → S.Pairwise ltI → Force D S → Q (.ref p) H'
theorem okLawForce (T : Txt K mg) : FnOk P w K mg base CX0 1 T.fLawForce T.fdLawForce ["edits"] (spLForce K) := by
  refine T.FLawForce.ok scLawForce (fun vs H Q E h => ?_) (fun cdv A outer s H vs Q E hr h => ?_)
  · obtain ⟨L, rs, D, rfl, _⟩ := h
    rfl
  · obtain ⟨L, rs, D, rfl, hL, R, nd, hl, q⟩ := h
    -- slots edits=0 found=1 edit=2 undone=3 other=4
    refine ⟨_, (pss_cons (ps_set (i := 1) scLawForce.nd rfl (Or.inl rfl) (pe_lst pa_nil))
        (pss_cons (ps_for PassesOwn.never rfl (pi_list (pe_revL (pe_callB (cr_sortedF (units65b hr)) (by rfl) T.z_sorted (by decide +kernel) (pa_cons (pv 0) pa_nil)))) (pg_name (i := 2) scLawForce.nd rfl (Or.inl rfl))
          (pss_cons (ps_set (i := 3) scLawForce.nd rfl (Or.inl rfl) pe_bl)
          (C8.pss_cut (ps_for PassesOwn.never rfl (pi_list (pv 0)) (pg_name (i := 4) scLawForce.nd rfl (Or.inl rfl))
            (pss_one (ps_if (PW.pt (pw_and (pt_cmpR (op_inD (units65 hr)) (pe_ix ix_tup (pv 4) pe_int (fun _ _ => rfl)) (pv 1) rfl) (pw_and (pt_cmpR op_eq (pe_ix ix_tup (pe_ix ix_tup (pv 4) pe_int (fun _ _ => rfl)) pe_int (fun _ _ => rfl)) (pe_ix ix_tup (pe_ix ix_tup (pv 2) pe_int (fun _ _ => rfl)) pe_int (fun _ _ => rfl)) (nomark _)) (pw_and1 (pt_cmpR op_eq (pe_ix ix_tup (pe_ix ix_tup (pv 4) pe_int (fun _ _ => rfl)) pe_int (fun _ _ => rfl)) pe_str (nomark _))))))
              (pss_one (ps_if (PW.pt (pw_and (pt_cmpR op_eq (pe_ix ix_tup (pe_ix ix_tup (pv 4) pe_int (fun _ _ => rfl)) pe_int (fun _ _ => rfl)) (pe_ix ix_tup (pe_ix ix_tup (pv 2) pe_int (fun _ _ => rfl)) pe_int (fun _ _ => rfl)) (nomark _)) (pw_and1 (pt_cmpR op_gt (pe_ix ix_tup (pe_ix ix_tup (pv 4) pe_int (fun _ _ => rfl)) pe_int (fun _ _ => rfl)) (pe_ix ix_tup (pe_ix ix_tup (pv 2) pe_int (fun _ _ => rfl)) pe_int (fun _ _ => rfl)) (nomark _)))))
                (pss_one (ps_set (i := 3) scLawForce.nd rfl (Or.inl rfl) pe_bl))
                pss_nil))
              pss_nil)))
          (pss_one (ps_if (pt_not (pt_val (pv 3)))
            (pss_one (ps_expr (pe_bm PySem.F.plainAttrs_list PySem.F.slot_list_append PySem.F.type_list_append mt_append (pv 1) (pa_cons (pe_ix ix_tup (pv 2) pe_int (fun _ _ => rfl)) pa_nil))))
            pss_nil)))))
        (pss_one (ps_ret (pe_callB (cr_sortedD (units65b hr)) (by rfl) T.z_sorted (by decide +kernel) (pa_cons (pv 1) pa_nil)))))), ?_⟩
    refine ⟨Nat.zero_le _, fun N hN => ?_⟩
    have s1 := same_new (o := .lst []) hN
    have s1b := hL
    have zm : ∀ z ∈ rs.zip D, UAt H z.1 z.2 := R.mem
    have snd0 : (rs.zip D).map Prod.snd = D := R.snd
    have memD : ∀ z ∈ rs.zip D, z.2 ∈ D := fun z hz => by
      rw [← snd0]
      exact List.mem_map.mpr ⟨z, hz, rfl⟩
    have one : ∀ u ∈ D, ∀ w ∈ D, u.id = w.id → u = w := fun u hu w hw e => by
      obtain ⟨i, hi⟩ := List.mem_iff_getElem?.mp hu
      obtain ⟨j, hj⟩ := List.mem_iff_getElem?.mp hw
      obtain ⟨h1, h2⟩ := List.getElem?_eq_some_iff.mp hi
      obtain ⟨h3, h4⟩ := List.getElem?_eq_some_iff.mp hj
      have n := List.pairwise_iff_getElem.mp nd
      rcases Nat.lt_trichotomy i j with z | z | z
      · have := n i j (by rw [List.length_map]; exact h1) (by rw [List.length_map]; exact h3) z
        rw [List.getElem_map, List.getElem_map, h2, h4] at this
        exact absurd e this
      · subst z
        rw [← h2, ← h4]
      · have := n j i (by rw [List.length_map]; exact h3) (by rw [List.length_map]; exact h1) z
        rw [List.getElem_map, List.getElem_map, h2, h4] at this
        exact absurd e.symm this
    obtain ⟨Zs, eZ, pZ, oZ⟩ := sortU (rs.zip D)
    have ndZ : (Zs.map fun z => z.2.id).Nodup := by
      have h1 : ((rs.zip D).map fun z => z.2.id) = D.map U.id := by
        rw [← snd0, List.map_map, snd0]
        rfl
      exact (pZ.map _).nodup_iff.mpr (by rw [h1]; exact nd)
    have memZ : ∀ u, u ∈ Zs.map Prod.snd ↔ u ∈ D := fun u => by
      rw [(pZ.map Prod.snd).mem_iff, snd0]
    have lenZ : Zs.length = D.length := by
      rw [pZ.length_eq, List.length_zip, R.len, Nat.min_self]
    refine ⟨_, rfl, L, (rs.zip D).map fun z => (z.1, uD z.2), rfl, ?_, ?_, ?_, ?_, ?_, ?_, ?_, fun r hr1 => ?_⟩
    · rw [List.map_map]
      show SqL K _ L ((rs.zip D).map Prod.fst)
      rw [R.fst]
      exact s1.seq hL
    · intro b hb
      obtain ⟨z, hz, rfl⟩ := List.mem_map.mp hb
      exact ((zm z hz).ts (TS.of s1)).dp
    · intro b hb
      obtain ⟨z, hz, rfl⟩ := List.mem_map.mp hb
      exact ⟨_, _, rfl⟩
    · intro b hb b' hb'
      obtain ⟨z, hz, rfl⟩ := List.mem_map.mp hb
      obtain ⟨z', hz', rfl⟩ := List.mem_map.mp hb'
      exact alikeI _ _
    · intro b hb
      obtain ⟨z, hz, rfl⟩ := List.mem_map.mp hb
      exact alike_uD _
    · intro b hb b' hb' e
      obtain ⟨z, hz, rfl⟩ := List.mem_map.mp hb
      obtain ⟨z', hz', rfl⟩ := List.mem_map.mp hb'
      have e : PyData.eqv (idD z.2.id) (idD z'.2.id) = true := e
      rw [idD_eqv] at e
      show uD z.2 = uD z'.2
      rw [one _ (memD z hz) _ (memD z' hz') (of_decide_eq_true e)]
    · intro b hb
      obtain ⟨z, hz, rfl⟩ := List.mem_map.mp hb
      exact depth_uD _
    rw [eZ]
    have desc : ∀ (i j : Nat) (a b : V × U), i < j → Zs.reverse[i]? = some a → Zs.reverse[j]? = some b → ltI b.2.id a.2.id := fun i j a b hij ha hb => by
      have oR : Zs.reverse.Pairwise fun a b => ¬ ltI a.2.id b.2.id := List.pairwise_reverse.mpr oZ
      have nR : (Zs.reverse.map fun z => z.2.id).Nodup := by
        rw [List.map_reverse]
        exact (List.reverse_perm _).nodup_iff.mpr ndZ
      obtain ⟨h1, h2⟩ := List.getElem?_eq_some_iff.mp ha
      obtain ⟨h3, h4⟩ := List.getElem?_eq_some_iff.mp hb
      have o := List.pairwise_iff_getElem.mp oR i j h1 h3 hij
      rw [h2, h4] at o
      have n := List.pairwise_iff_getElem.mp nR i j (by rw [List.length_map]; exact h1) (by rw [List.length_map]; exact h3) hij
      rw [List.getElem_map, List.getElem_map, h2, h4] at n
      unfold ltI at o ⊢
      have n2 : ¬ (a.2.id.1 = b.2.id.1 ∧ a.2.id.2 = b.2.id.2) := fun z => n (Prod.ext z.1 z.2)
      omega
    have s2 := same_new (o := .lst (Zs.map Prod.fst)) hr1
    refine ⟨r, _, rfl, SqL.of upd_same, fun p hp => ?_⟩
    rw [← List.map_reverse]
    have s3 := same_new (o := .lst (Zs.reverse.map Prod.fst)) hp
    have hN3 := s3 _ _ (s2 _ _ (upd_same (H := H) (a := N) (o := .lst [])))
    have hp3 := upd_same (H := upd (upd H N (.lst [])) r (.lst (Zs.map Prod.fst))) (a := p) (o := .lst (Zs.reverse.map Prod.fst))
    have s13 := s1.trans (s2.trans s3)
    have npN : p ≠ N := fun z => by
      rw [z, s2 _ _ upd_same] at hp
      cases hp
    generalize upd (upd (upd H N (.lst [])) r (.lst (Zs.map Prod.fst))) p (.lst (Zs.reverse.map Prod.fst)) = H3 at hN3 hp3 s13
    have zmR : ∀ z ∈ Zs.reverse, UAt H z.1 z.2 := fun z hz => zm z (pZ.mem_iff.mp (List.mem_reverse.mp hz))
    have lenR : Zs.reverse.length = D.length := by rw [List.length_reverse, lenZ]
    have memR : ∀ u, u ∈ Zs.reverse.map Prod.snd ↔ u ∈ D := fun u => by
      rw [List.map_reverse, List.mem_reverse, memZ]
    generalize Zs.reverse = Ys at hp3 desc zmR lenR memR
    refine ⟨p, rfl, ⟨_, SqL.of hp3⟩, for_it (walk_list (a := p) (xs := Ys.map Prod.fst)) (fun j σ H' => ∃ (is : List V) (S : List (Int × Int)) (und : Int × Int → Prop) (c2 c3 c4 : Option V), σ = [some (.ref L), some (.ref N), c2, c3, c4] ∧ Same H H' ∧ H' p = some (.lst (Ys.map Prod.fst)) ∧ H' N = some (.lst is) ∧ RepG (IdAt H') is S ∧ Part ((Ys.take j).map Prod.snd) S und ∧ is.length ≤ j ∧ S.Pairwise (fun a b => ltI b a)) ?_ (fun j σ H' _ ⟨_, _, _, _, _, _, _, _, h, _⟩ => SqL.of h) ?_ ?_⟩
    · exact ⟨[], [], _, _, _, _, rfl, s13, hp3, hN3, RepG.nil, Part.nil, Nat.le_refl _, .nil⟩
    · rintro j x σ H6 H7 hj ⟨is, S, und, c2, c3, c4, rfl, s6, hp6, hN6, R6, P6, il, Sd⟩ ⟨rfl, hx⟩
      rw [List.length_map] at hj
      rw [List.getElem?_map] at hx
      obtain ⟨z, hz, rfl⟩ : ∃ z, Ys[j]? = some z ∧ z.1 = x := by
        cases e : Ys[j]? with
        | none =>
          rw [e] at hx
          cases hx
        | some z =>
          rw [e] at hx
          exact ⟨z, rfl, Option.some.inj hx⟩
      obtain ⟨q0, a0, b0, c0, e0, h1, h2, h3, h4⟩ := (zmR z (List.mem_of_getElem? hz)).ts (TS.of s6)
      have et : (Ys.take (j + 1)).map Prod.snd = (Ys.take j).map Prod.snd ++ [z.2] := by
        rw [List.take_add_one, hz, List.map_append]
        rfl
      have lt : ∀ u ∈ (Ys.take j).map Prod.snd, ltI z.2.id u.id := fun u hu => by
        obtain ⟨y, hy, rfl⟩ := List.mem_map.mp hu
        obtain ⟨i, hi⟩ := List.mem_iff_getElem?.mp hy
        have hi2 : i < j := by
          have := (List.getElem?_eq_some_iff.mp hi).1
          rw [List.length_take] at this
          omega
        rw [List.getElem?_take_of_lt hi2] at hi
        exact desc i j y z hi2 hi hz
      have dS : Dp K H7 (.ref N) (.list (S.map idD)) := by
        refine .lst (SqL.of hN6) ?_
        have := RepG.dps (K := K) (H := H7) (k := idD) (fun x e h => IdAt.dp h) R6.mem
        rwa [R6.fst, R6.snd] at this
      refine ⟨fun σ H' => ∃ (b : Bool) (c4 : Option V), σ = [some (.ref L), some (.ref N), some z.1, some (.bl b), c4] ∧ H' = H7 ∧ (b = true ↔ ∃ u ∈ D, u.id ∈ S ∧ Undoes u z.2.id), ?_, ?_⟩
      · refine ⟨_, rfl, L, rfl, ⟨_, s6.seq hL⟩, for_it (walk_list (a := L) (xs := rs)) (fun t σ H' => ∃ (b : Bool) (c4 : Option V), σ = [some (.ref L), some (.ref N), some z.1, some (.bl b), c4] ∧ H' = H7 ∧ (b = true ↔ ∃ u ∈ D.take t, u.id ∈ S ∧ Undoes u z.2.id)) ?_ (fun t σ H' _ ⟨_, _, _, e, _⟩ => by rw [e]; exact s6.seq hL) ?_ ?_⟩
        · exact ⟨false, _, rfl, rfl, by simp⟩
        · rintro t x σ H8 H9 ht ⟨b, c5, rfl, rfl, hb⟩ ⟨rfl, hx⟩
          obtain ⟨u, hu, U0⟩ := R.get hx
          obtain ⟨q, a, b1, c, rfl, k1, k2, k3, k4⟩ := U0.ts (TS.of s6)
          have ex : (∃ u ∈ D.take (t + 1), u.id ∈ S ∧ Undoes u z.2.id) ↔ (∃ u ∈ D.take t, u.id ∈ S ∧ Undoes u z.2.id) ∨ (u.id ∈ S ∧ Undoes u z.2.id) := by
            rw [List.take_add_one, hu]
            constructor
            · rintro ⟨w, hw, h⟩
              rcases List.mem_append.mp hw with y | y
              · exact .inl ⟨w, y, h⟩
              · have y : w ∈ [u] := y
                rw [List.mem_singleton.mp y] at h
                exact .inr h
            · rintro (⟨w, hw, h⟩ | h)
              · exact ⟨w, List.mem_append_left _ hw, h⟩
              · exact ⟨u, List.mem_append_right _ (List.mem_singleton.mpr rfl), h⟩
          have no : ¬ (u.id ∈ S ∧ Undoes u z.2.id) → ∃ (b2 : Bool) (c4 : Option V), [some (V.ref L), some (V.ref N), some z.1, some (V.bl b), some (V.ref q)] = [some (V.ref L), some (V.ref N), some z.1, some (V.bl b2), c4] ∧ H9 = H9 ∧ (b2 = true ↔ ∃ u ∈ D.take (t + 1), u.id ∈ S ∧ Undoes u z.2.id) := fun h => ⟨b, _, rfl, rfl, by rw [ex, hb]; exact ⟨.inl, fun y => y.elim id fun y => absurd y h⟩⟩
          refine ⟨_, rfl, q, _, _, _, rfl, rfl, SqT.of k1, atI_nat (j := 0) rfl, _, rfl, idD u.id, S.map idD, dp_id k2, dS, idD_shaped _, idDs_shaped _, ?_⟩
          rw [idDs_any]
          refine ⟨_, rfl, ite2 (fun c1 => ?_) (fun c1 => no fun y => c1 (decide_eq_true y.1))⟩
          have c1 := of_decide_eq_true c1
          refine ⟨_, rfl, q, _, _, _, rfl, rfl, SqT.of k1, atI_nat (j := 0) rfl, a, _, _, _, rfl, rfl, SqT.of k2, atI_nat (j := 0) rfl, _, rfl, q0, _, _, _, e0, rfl, SqT.of h1, atI_nat (j := 0) rfl, a0, _, _, _, rfl, rfl, SqT.of h2, atI_nat (j := 0) rfl, rfl, _, rfl, ite2 (fun c2 => ?_) (fun c2 => no fun y => c2 (decide_eq_true (congrArg V.int y.2.1)))⟩
          have c2 : u.p = z.2.p := V.int.inj (of_decide_eq_true c2)
          unfold ActAt at k4
          cases hut : u.t with
          | none =>
            rw [hut] at k4
            obtain ⟨y0, j1, j2⟩ := k4
            refine ⟨_, rfl, q, _, _, _, rfl, rfl, SqT.of k1, atI_nat (j := 2) rfl, c, _, _, _, rfl, rfl, SqT.of j1, atI_nat (j := 0) rfl, rfl, _, rfl, ite2 (fun c3 => absurd (V.str.inj (of_decide_eq_true c3)) (by decide +kernel)) (fun _ => no fun y => ?_)⟩
            have := y.2.2.1
            rw [hut] at this
            cases this
          | some t0 =>
            rw [hut] at k4
            have j1 : H9 c = some (.tup [.str "undo", .int t0]) := k4
            refine ⟨_, rfl, q, _, _, _, rfl, rfl, SqT.of k1, atI_nat (j := 2) rfl, c, _, _, _, rfl, rfl, SqT.of j1, atI_nat (j := 0) rfl, rfl, _, rfl, ite2 (fun _ => ?_) (fun c3 => absurd (decide_eq_true rfl) c3)⟩
            refine ⟨_, rfl, q, _, _, _, rfl, rfl, SqT.of k1, atI_nat (j := 2) rfl, c, _, _, _, rfl, rfl, SqT.of j1, atI_nat (j := 1) rfl, _, rfl, q0, _, _, _, e0, rfl, SqT.of h1, atI_nat (j := 0) rfl, a0, _, _, _, rfl, rfl, SqT.of h2, atI_nat (j := 1) rfl, rfl, _, rfl, ite2 (fun c4 => ?_) (fun c4 => no fun y => ?_)⟩
            rotate_left
            · have := y.2.2.1
              rw [hut] at this
              exact c4 (decide_eq_true (congrArg V.int (Option.some.inj this)))
            have c4 : t0 = z.2.n := V.int.inj (of_decide_eq_true c4)
            refine ⟨_, rfl, q, _, _, _, rfl, rfl, SqT.of k1, atI_nat (j := 0) rfl, a, _, _, _, rfl, rfl, SqT.of k2, atI_nat (j := 1) rfl, _, rfl, q0, _, _, _, e0, rfl, SqT.of h1, atI_nat (j := 0) rfl, a0, _, _, _, rfl, rfl, SqT.of h2, atI_nat (j := 1) rfl, _, _, rfl, rfl, _, rfl, ite2 (fun c6 => ?_) (fun c6 => no fun y => ?_)⟩
            · have c6 := of_decide_eq_true c6
              refine ⟨true, _, rfl, rfl, ?_⟩
              rw [ex]
              exact ⟨fun _ => .inr ⟨c1, c2, by rw [hut, c4]; rfl, c6⟩, fun _ => rfl⟩
            · exact c6 (decide_eq_true y.2.2.2)
        · rintro σ H8 ⟨b, c5, rfl, rfl, hb⟩
          rw [List.take_of_length_le (by rw [R.len]; exact Nat.le_refl _)] at hb
          exact ⟨b, _, rfl, rfl, hb⟩
      rintro σ H8 ⟨b, c5, rfl, rfl, hb⟩
      have inY : ∀ u ∈ D, u.id ∈ S → u ∈ (Ys.take j).map Prod.snd := fun u hu hs => by
        obtain ⟨w, hw, e⟩ := List.mem_map.mp ((P6.mem _).mp hs).1
        have hw2 : w ∈ D := (memR w).mp (by
          obtain ⟨y, hy, rfl⟩ := List.mem_map.mp hw
          exact List.mem_map.mpr ⟨y, List.mem_of_mem_take hy, rfl⟩)
        rw [one u hu w hw2 e.symm]
        exact hw
      have hund : b = true ↔ und z.2.id := by
        rw [hb, P6.und]
        constructor
        · rintro ⟨u, hu, h1, h2⟩
          exact ⟨u, inY u hu h1, h1, h2⟩
        · rintro ⟨u, hu, h1, h2⟩
          refine ⟨u, (memR u).mp ?_, h1, h2⟩
          obtain ⟨y, hy, rfl⟩ := List.mem_map.mp hu
          exact List.mem_map.mpr ⟨y, List.mem_of_mem_take hy, rfl⟩
      cases b with
      | true =>
        refine ⟨_, rfl, _, rfl, iteF ?_⟩
        exact ⟨is, S, und, _, _, _, rfl, s6, hp6, hN6, R6, by rw [et]; exact P6.skip lt (hund.mp rfl), by omega, Sd⟩
      | false =>
        refine ⟨_, rfl, _, rfl, iteT ?_⟩
        have un : ¬ und z.2.id := fun y => by
          have := hund.mpr y
          cases this
        have P8 := P6.take lt un
        rw [← et] at P8
        refine ⟨_, rfl, .inl ⟨rfl, _, SqL.of hN6⟩, _, rfl, q0, _, _, _, e0, rfl, SqT.of h1, atI_nat (j := 0) rfl, N, _, _, rfl, rfl, hN6, small1000 (by omega), ?_⟩
        have t8 := TS.lst (o := .lst (is ++ [.ref a0])) hN6
        refine ⟨_, _, _, _, _, _, rfl, same_mut s6 hN, by rw [upd_ne npN]; exact hp6, upd_same, RepG.snoc (R6.imp fun x e h => h.ts t8) ⟨a0, rfl, t8 _ _ h2⟩, P8, ?_, ?_⟩
        · rw [List.length_append]
          exact Nat.add_le_add_right il 1
        · exact List.pairwise_append.mpr ⟨Sd, List.pairwise_singleton _ _, fun a ha b hb => by
            rw [List.mem_singleton.mp hb]
            obtain ⟨u, hu, rfl⟩ := List.mem_map.mp ((P6.mem a).mp ha).1
            exact lt u hu⟩
    · rintro σ H6 ⟨is, S, und, c2, c3, c4, rfl, s6, hp6, hN6, R6, P6, il, Sd⟩
      rw [List.length_map, List.take_length] at P6
      obtain ⟨Xs, eX, pX, oX⟩ := sortI false id (is.zip S)
      have sndS : (is.zip S).map Prod.snd = S := R6.snd
      have nS : S.Nodup := Sd.imp (S := fun a b => a ≠ b) (fun {a b} h => fun (z : a = b) => ltI_irr (by rw [z] at h; exact h))
      have memX : ∀ i, i ∈ Xs.map Prod.snd ↔ i ∈ S := fun i => by rw [(pX.map Prod.snd).mem_iff, sndS]
      refine ⟨_, rfl, N, (is.zip S).map (gI id), rfl, ?_, ?_, ?_, .inl ?_, ?_, fun r hr6 => ?_⟩
      · rw [List.map_map]
        show SqL K H6 N ((is.zip S).map Prod.fst)
        rw [R6.fst]
        exact SqL.of hN6
      · intro b hb
        obtain ⟨z, hz, rfl⟩ := List.mem_map.mp hb
        exact (R6.mem z hz).dp
      · intro d hd d' hd'
        rw [List.map_map] at hd hd'
        obtain ⟨z, hz, rfl⟩ := List.mem_map.mp hd
        obtain ⟨z', hz', rfl⟩ := List.mem_map.mp hd'
        exact alikeI _ _
      · intro d hd
        rw [List.map_map] at hd
        obtain ⟨z, hz, rfl⟩ := List.mem_map.mp hd
        exact ⟨_, _, rfl⟩
      · intro b hb
        obtain ⟨z, hz, rfl⟩ := List.mem_map.mp hb
        show (idD z.2).depth ≤ 50
        rw [idD_depth]
        decide
      rw [eX]
      have s7 := same_new (o := .lst (Xs.map Prod.fst)) hr6
      refine q r _ (Xs.map Prod.fst) (Xs.map Prod.snd) (s6.trans s7) upd_same (RepG.of_zs fun z hz => (R6.mem z (pX.mem_iff.mp hz)).ts (TS.of s7)) (by have il2 := il; rw [List.length_map] at il2; rw [List.length_map, pX.length_eq, List.length_zip]; omega) ?_ (P6.force (fun u => (memR u).symm) memX)
      have nX : (Xs.map Prod.snd).Nodup := ((pX.map Prod.snd).nodup_iff).mpr (by rw [sndS]; exact nS)
      have nX2 : Xs.Pairwise fun a b => a.2 ≠ b.2 := List.pairwise_map.mp nX
      refine List.pairwise_map.mpr ((oX.and nX2).imp fun {a b} h => ?_)
      have h1 : ¬ ltI b.2 a.2 := h.1
      have h2 := h.2
      unfold ltI at h1 ⊢
      have n2 : ¬ (a.2.1 = b.2.1 ∧ a.2.2 = b.2.2) := fun z => h2 (Prod.ext z.1 z.2)
      omega
theorem ixN_in {n j : Nat} (h : j < n) : ixN n (j : Int) = some j := by
  unfold ixN
  rw [if_pos (by omega), if_pos (by omega)]
  rfl
def spLPerson (K : PySem.W.Frag) : Sp := fun vs H Q _ => ∃ (a : Addr) (ns : List Int) (first p : Int) (m : Nat), vs = [.ref a, .int first, .int p, .int m] ∧ 0 ≤ first ∧ SqL K H a (ns.map V.int) ∧ 1 ≤ p ∧ p ≤ 4 ∧ m ≤ 12 ∧
  ∀ (L : Addr) (H' : Hp) (rs : List V) (D : List U), Same H H' → H' L = some (.lst rs) → RepG (UAt H') rs D → D.length = m → (∀ u ∈ D, u.p = p) → (D.map U.n) = (List.range m).map (fun (k : Nat) => (k : Int) + 1) → Q (.ref L) H'
theorem okLawPerson (T : Txt K mg) : FnOk P w K mg base CX0 2 T.fLawPerson T.fdLawPerson ["script", "first", "person", "most"] (spLPerson K) := by
  refine T.FLawPerson.ok scLawPerson (fun vs H Q E h => ?_) (fun cdv A outer s H vs Q E hr h => ?_)
  · obtain ⟨a, ns, first, p, m, rfl, _⟩ := h
    rfl
  · obtain ⟨a, ns, first, p, m, rfl, hf, hS, hp1, hp4, hm, q⟩ := h
    -- slots script=0 first=1 person=2 most=3 edits=4 k=5 cell=6 action=7 seen=8
    refine ⟨_, (pss_cons (ps_set (i := 4) scLawPerson.nd rfl (Or.inl rfl) (pe_lst pa_nil))
        (pss_cons (ps_for PassesOwn.never rfl (pi_range1 rfl T.z_range (pa_cons (pv 3) pa_nil)) (pg_name (i := 5) scLawPerson.nd rfl (Or.inl rfl))
          (pss_cons (ps_set (i := 6) scLawPerson.nd rfl (Or.inl rfl) (pe_call (okLawCell T) (hr.mono (by decide)) (by rfl) T.gLawCell T.FLawCell.kp T.bLawCell .nil pass0 (pa_cons (pv 0) (pa_cons (pe_op op_add (pv 1) (pv 5)) pa_nil))))
          (pss_cons (ps_set (i := 7) scLawPerson.nd rfl (Or.inl rfl) (pe_tup (pa_cons pe_str (pa_cons pe_str (pa_cons (pe_tup (pa_cons pe_int (pa_cons (pe_op op_add pe_int (pv 5)) pa_nil))) pa_nil)))))
          (C8.pss_cut (ps_if (PW.pt (pw_and (pt_cmpR op_gt (pe_op op_mod (pe_callTy call_int1 (by rfl) T.z_int (by decide +kernel) (pa_cons (pv 6) pa_nil)) pe_int) pe_int (nomark _)) (pw_and1 (pt_cmpR op_gt (pv 5) pe_int (nomark _)))))
            (pss_one (ps_set (i := 7) scLawPerson.nd rfl (Or.inl rfl) (pe_tup (pa_cons pe_str (pa_cons (pe_op op_add pe_int (pe_op op_mod (pe_callTy call_int1 (by rfl) T.z_int (by decide +kernel) (pa_cons (pe_op op_fdiv (pv 6) pe_int) pa_nil)) (pv 5))) pa_nil)))))
            pss_nil)
          (pss_cons (ps_set (i := 8) scLawPerson.nd rfl (Or.inl rfl) (pe_lst (pa_cons pe_int (pa_cons pe_int (pa_cons pe_int (pa_cons pe_int pa_nil))))))
          (pss_cons (ps_asg (pv 5) (pg_sub (pv 8) (pe_op op_sub (pv 2) pe_int) set_list))
          (pss_one (ps_expr (pe_bm PySem.F.plainAttrs_list PySem.F.slot_list_append PySem.F.type_list_append mt_append (pv 4) (pa_cons (pe_tup (pa_cons (pe_tup (pa_cons (pv 2) (pa_cons (pe_op op_add (pv 5) pe_int) pa_nil))) (pa_cons (pe_callTy call_tuple_of (by rfl) T.z_tuple (by decide +kernel) (pa_cons (pv 8) pa_nil)) (pa_cons (pv 7) pa_nil)))) pa_nil))))))))))
        (pss_one (ps_ret (pv 4))))), ?_⟩
    refine ⟨Nat.zero_le _, fun L hL0 => ?_⟩
    have s0 := same_new (o := .lst []) hL0
    refine ⟨_, rfl, (m : Int), rfl, by omega, by omega, for_range (lo := 0) (n := m) (fun i σ H' => ∃ (rs : List V) (D : List U) (c5 c6 c7 c8 : Option V), σ = [some (.ref a), some (.int first), some (.int p), some (.int (m : Int)), some (.ref L), c5, c6, c7, c8] ∧ Same H H' ∧ H' L = some (.lst rs) ∧ RepG (UAt H') rs D ∧ D.length = i ∧ (∀ u ∈ D, u.p = p) ∧ D.map U.n = (List.range i).map (fun (k : Nat) => (k : Int) + 1)) ⟨[], [], _, _, _, _, rfl, s0, upd_same, RepG.nil, rfl, (fun u hu => nomatch hu), rfl⟩ ?_ ?_⟩
    · rintro i σ H1 hi ⟨rs, D, c5, c6, c7, c8, rfl, s1, hL1, R1, Dl, Dp1, Dn⟩
      refine ⟨_, rfl, _, rfl, _, rfl, _, _, rfl, rfl, a, ns, _, rfl, by omega, s1.seq hS, fun v => ?_⟩
      refine ⟨_, rfl, _, _, rfl, rfl, (by show 2 ≤ sizeLine; decide), fun z hz => ⟨(by show 3 ≤ sizeLine; decide), fun c hc => ?_⟩⟩
      have s2 := same_new (o := .tup [.int 0, .int (1 + (0 + (i : Int)))]) hz
      have s3 := same_new (o := .tup [.str "delete", .str "row", .ref z]) hc
      have hz3 := s3 _ _ (upd_same (H := H1) (a := z) (o := .tup [.int 0, .int (1 + (0 + (i : Int)))]))
      have hc3 := upd_same (H := upd H1 z (.tup [.int 0, .int (1 + (0 + (i : Int)))])) (a := c) (o := .tup [.str "delete", .str "row", .ref z])
      have s13 := s2.trans s3
      generalize upd (upd H1 z (.tup [.int 0, .int (1 + (0 + (i : Int)))])) c (.tup [.str "delete", .str "row", .ref z]) = H3 at hz3 hc3 s13
      refine ⟨fun σ H' => Same H1 H' ∧ ∃ (c : Addr) (t : Option Int) (mm : Int), ActAt H' c ⟨0, 0, t, mm, []⟩ ∧ σ = [some (.ref a), some (.int first), some (.int p), some (.int (m : Int)), some (.ref L), some (.int (0 + (i : Int))), some (.int v), some (.ref c), c8], ?_, ?_⟩
      · have dflt : Same H1 H3 ∧ ∃ (c' : Addr) (t : Option Int) (mm : Int), ActAt H3 c' ⟨0, 0, t, mm, []⟩ ∧ [some (V.ref a), some (.int first), some (.int p), some (.int (m : Int)), some (.ref L), some (.int (0 + (i : Int))), some (.int v), some (.ref c), c8] = [some (.ref a), some (.int first), some (.int p), some (.int (m : Int)), some (.ref L), some (.int (0 + (i : Int))), some (.int v), some (.ref c'), c8] := ⟨s13, c, none, 1 + (0 + (i : Int)), ⟨z, hc3, hz3⟩, rfl⟩
        refine ⟨_, rfl, .inl ⟨_, rfl, _, _, rfl, rfl, (by show (0 : Int) < _; decide), _, _, rfl, rfl, _, rfl, ite2 (fun _ => ?_) (fun _ => dflt)⟩⟩
        refine ⟨_, rfl, _, _, rfl, rfl, _, rfl, ite2 (fun c1 => ?_) (fun _ => dflt)⟩
        have c1 := of_decide_eq_true c1
        refine ⟨_, rfl, _, _, rfl, rfl, ⟨by decide, by decide⟩, .inl ⟨_, rfl, _, rfl, _, _, rfl, rfl, c1, _, _, rfl, rfl, (by show 2 ≤ sizeLine; decide), fun c2 hc2 => ?_⟩⟩
        exact ⟨s13.trans (same_new hc2), c2, some _, 0, upd_same, rfl⟩
      rintro σ H4 ⟨s4, c, t, mm, hA, rfl⟩
      obtain ⟨j, rfl⟩ : ∃ j : Nat, p = (j : Int) + 1 := ⟨(p - 1).toNat, by omega⟩
      have ej : ((j : Int) + 1) - 1 = (j : Int) := by omega
      refine ⟨(by show 4 ≤ sizeLine; decide), fun s hs => ?_⟩
      refine ⟨_, rfl, _, rfl, _, rfl, _, _, rfl, rfl, s, _, _, j, rfl, rfl, upd_same, by rw [ej]; exact ixN_in (show j < 4 by omega), ?_⟩
      have hs2 : (upd (upd H4 s (.lst [.int 0, .int 0, .int 0, .int 0])) s (.lst (([V.int 0, .int 0, .int 0, .int 0]).set j (.int (0 + (i : Int)))))) s = some (.lst ((([0, 0, 0, 0] : List Int).set j (0 + (i : Int))).map V.int)) := by
        rw [upd_same, List.map_set]
        rfl
      have s5 : Same H4 (upd (upd H4 s (.lst [.int 0, .int 0, .int 0, .int 0])) s (.lst (([V.int 0, .int 0, .int 0, .int 0]).set j (.int (0 + (i : Int)))))) := same_mut (same_new hs) hs
      have s15 := s4.trans s5
      have hL5 := s15 _ _ hL1
      have hA5 := hA.ts (TS.of s5)
      generalize ([0, 0, 0, 0] : List Int).set j (0 + (i : Int)) = vv at hs2
      refine ⟨_, rfl, .inl ⟨rfl, _, SqL.of hL5⟩, _, rfl, _, rfl, _, _, rfl, rfl, (by show 2 ≤ sizeLine; decide), fun ta hta => ?_⟩
      have s6 := same_new (o := .tup [.int ((j : Int) + 1), .int ((0 + (i : Int)) + 1)]) hta
      refine ⟨_, rfl, s, _, rfl, .inl ⟨SqL.of (s6 _ _ hs2), fun tb htb => ?_⟩⟩
      have s7 := same_new (o := .tup (vv.map V.int)) htb
      refine ⟨_, rfl, (by show 3 ≤ sizeLine; decide), fun tq htq => ?_⟩
      have s8 := same_new (o := .tup [.ref ta, .ref tb, .ref c]) htq
      have s58 := s6.trans (s7.trans s8)
      have hL8 := s58 _ _ hL5
      refine ⟨L, _, _, rfl, rfl, hL8, small1000 (by have := R1.len; omega), ?_⟩
      have t9 := TS.lst (o := .lst (rs ++ [.ref tq])) hL8
      refine ⟨rs ++ [.ref tq], D ++ [⟨(j : Int) + 1, (i : Int) + 1, t, mm, vv⟩], _, _, _, _, rfl, same_mut (s1.trans (s15.trans s58)) hL0, upd_same, RepG.snoc (R1.imp fun x e h => h.ts ((TS.of (s15.trans s58)).trans t9)) ?_, ?_, ?_, ?_⟩
      · refine ⟨tq, ta, tb, c, rfl, t9 _ _ upd_same, ?_, t9 _ _ (s8 _ _ upd_same), ?_⟩
        · have := t9 _ _ (s8 _ _ (s7 _ _ (upd_same (a := ta) (o := .tup [.int ((j : Int) + 1), .int ((0 + (i : Int)) + 1)]))))
          refine Eq.trans this ?_
          show some (HO.tup [V.int ((j : Int) + 1), V.int (0 + (i : Int) + 1)]) = some (HO.tup [V.int ((j : Int) + 1), V.int ((i : Int) + 1)])
          rw [Int.zero_add]
        · exact hA5.ts ((TS.of s58).trans t9)
      · rw [List.length_append, Dl]
        rfl
      · intro u hu
        rcases List.mem_append.mp hu with y | y
        · exact Dp1 u y
        · rw [List.mem_singleton.mp y]
      · rw [List.map_append, Dn, List.range_succ, List.map_append]
        rfl
    · rintro σ H1 ⟨rs, D, c5, c6, c7, c8, rfl, s1, hL1, R1, Dl, Dp1, Dn⟩
      exact ⟨_, rfl, q _ _ rs D s1 hL1 R1 Dl Dp1 Dn⟩
theorem ids_dp {K : PySem.W.Frag} {H : Hp} {p : Addr} {is : List V} {S : List (Int × Int)} (hp : H p = some (.lst is)) (R : RepG (IdAt H) is S) : Dp K H (.ref p) (.list (S.map idD)) := by
  refine .lst (SqL.of hp) ?_
  have := RepG.dps (K := K) (H := H) (k := idD) (fun x e h => IdAt.dp h) R.mem
  rwa [R.fst, R.snd] at this
theorem RepG.rev {β : Type} {At : V → β → Prop} {rs : List V} {D : List β} (h : RepG At rs D) : RepG At rs.reverse D.reverse := by
  refine ⟨by rw [List.length_reverse, List.length_reverse, h.len], fun i x e h1 h2 => ?_⟩
  have hl := h.len
  have i1 := (List.getElem?_eq_some_iff.mp h1).1
  rw [List.length_reverse] at i1
  rw [List.getElem?_reverse i1] at h1
  rw [List.getElem?_reverse (by omega)] at h2
  rw [hl] at h1
  exact h.at_ _ x e h1 h2
theorem RepG.app {β : Type} {At : V → β → Prop} {rs rs' : List V} {D D' : List β} (h : RepG At rs D) (h' : RepG At rs' D') : RepG At (rs ++ rs') (D ++ D') := by
  refine ⟨by rw [List.length_append, List.length_append, h.len, h'.len], fun i x e h1 h2 => ?_⟩
  have hl := h.len
  rcases Nat.lt_or_ge i rs.length with z | z
  · rw [List.getElem?_append_left z] at h1
    rw [List.getElem?_append_left (by omega)] at h2
    exact h.at_ i x e h1 h2
  · rw [List.getElem?_append_right z] at h1
    rw [List.getElem?_append_right (by omega), ← hl] at h2
    exact h'.at_ _ x e h1 h2
theorem force_same {D D' : List U} {S S' : List (Int × Int)} (F : Force D S) (F' : Force D' S') (e : ∀ u, u ∈ D' ↔ u ∈ D) {N : Int} (hN : ∀ u ∈ D, u.n ≤ N) (s : S.Pairwise ltI) (s' : S'.Pairwise ltI) : S = S' := rising_one s s' (F.one F' e hN)
def spLaw (K : PySem.W.Frag) (T : List (Addr × Str)) : Sp := fun vs H Q _ => ∃ (a : Addr) (ns : List Int), vs = [.ref a] ∧ SqL K H a (ns.map V.int) ∧ ns.length ≤ 63 ∧ LamX.Tabs T H ∧ ∀ H', Q (.bl true) H'
theorem okLaw (T : Txt K mg) {c tp : Addr} (B : TabF K base mg T.fInForce c tp) : FnOk P w K mg base CX0 7 T.fLaw T.fdLaw ["script"] (spLaw K [(tp, qLam)]) := by
  refine T.FLaw.ok scLaw (fun vs H Q E h => ?_) (fun cdv A outer s H vs Q E hr h => ?_)
  · obtain ⟨a, ns, rfl, _⟩ := h
    rfl
  · obtain ⟨a, ns, rfl, hS, hl, hT, q⟩ := h
    -- slots script=0 edits=1 due=2 edit_id=3
    refine ⟨_, (pss_cons (ps_set (i := 1) scLaw.nd rfl (Or.inl rfl) (pe_call (okLawPerson T) (hr.mono (by decide)) (by rfl) T.gLawPerson T.FLawPerson.kp T.bLawPerson .nil pass0 (pa_cons (pv 0) (pa_cons pe_int (pa_cons pe_int (pa_cons (pe_op op_mod (pe_callTy call_int1 (by rfl) T.z_int (by decide +kernel) (pa_cons (pe_call (okLawCell T) (hr.mono (by decide)) (by rfl) T.gLawCell T.FLawCell.kp T.bLawCell .nil pass0 (pa_cons (pv 0) (pa_cons pe_int pa_nil))) pa_nil)) pe_int) pa_nil))))))
        (pss_cons (ps_set (i := 1) scLaw.nd rfl (Or.inl rfl) (pe_op op_cat (pv 1) (pe_call (okLawPerson T) (hr.mono (by decide)) (by rfl) T.gLawPerson T.FLawPerson.kp T.bLawPerson .nil pass0 (pa_cons (pv 0) (pa_cons pe_int (pa_cons pe_int (pa_cons (pe_op op_mod (pe_callTy call_int1 (by rfl) T.z_int (by decide +kernel) (pa_cons (pe_call (okLawCell T) (hr.mono (by decide)) (by rfl) T.gLawCell T.FLawCell.kp T.bLawCell .nil pass0 (pa_cons (pv 0) (pa_cons pe_int pa_nil))) pa_nil)) pe_int) pa_nil)))))))
        (pss_cons (ps_set (i := 2) scLaw.nd rfl (Or.inl rfl) (pe_call (okLawForce T) (hr.mono (by decide)) (by rfl) T.gLawForce T.FLawForce.kp T.bLawForce .nil pass0 (pa_cons (pv 1) pa_nil)))
        (pss_cons (ps_if (PW.pt (pw_or (pt_cmpR (op_neD hr.units) (pe_callTy call_list_of (by rfl) T.z_list (by decide +kernel) (pa_cons (pe_call (okInForce T B) (hr.mono (by decide)) (by rfl) T.gInForce T.FInForce.kp T.bInForce .nil pass0 (pa_cons (pe_callTy call_list_of (by rfl) T.z_list (by decide +kernel) (pa_cons (pv 1) pa_nil)) pa_nil)) pa_nil)) (pv 2) (nomark _)) (pw_or1 (pt_cmpR (op_neD hr.units) (pe_callTy call_list_of (by rfl) T.z_list (by decide +kernel) (pa_cons (pe_call (okInForce T B) (hr.mono (by decide)) (by rfl) T.gInForce T.FInForce.kp T.bInForce .nil pass0 (pa_cons (pe_revL (pv 1)) pa_nil)) pa_nil)) (pv 2) (nomark _)))))
          (pss_one (ps_ret pe_bl))
          pss_nil)
        (pss_cons (ps_if (pt_cmpR (op_neD hr.units) (pe_callTy call_list_of (by rfl) T.z_list (by decide +kernel) (pa_cons (pe_call (okInForceWithout T B) (hr.mono (by decide)) (by rfl) T.gInForceWithout T.FInForceWithout.kp T.bInForceWithout .nil pass0 (pa_cons (pv 1) (pa_cons (pe_tup (pa_cons pe_int pa_nil)) pa_nil))) pa_nil)) (pe_lc (own := [("edit_id", 3)]) (g := gName 3) rfl scLaw.nd (pi_list (pv 2)) (blkOk_by (own := [("edit_id", 3)]) (N := ["script", "edits", "due", "edit_id"]) (sc := defScope sLaw) (by decide +kernel)) (fun _ _ _ _ _ => (pg_name (i := 3) scLaw.nd rfl (Or.inl rfl))) (fun _ _ _ _ _ => (pts_one (pt_cmpR op_eq (pe_ix (ix_tupK (K := K) rfl) (pv 3) pe_int (fun _ _ => rfl)) pe_int (nomark _)))) (fun _ _ _ _ _ => (pv 3))) (nomark _))
          (pss_one (ps_ret pe_bl))
          pss_nil)
        (pss_cons (ps_if (pt_cmpR (op_neD hr.units) (pe_callTy call_list_of (by rfl) T.z_list (by decide +kernel) (pa_cons (pe_call (okInForceWithout T B) (hr.mono (by decide)) (by rfl) T.gInForceWithout T.FInForceWithout.kp T.bInForceWithout .nil pass0 (pa_cons (pv 1) (pa_cons (pe_tup (pa_cons pe_int (pa_cons pe_int pa_nil))) pa_nil))) pa_nil)) (pe_lst pa_nil) (nomark _))
          (pss_one (ps_ret pe_bl))
          pss_nil)
        (pss_one (ps_ret (pe_cmpR (op_eqD hr.units) (pe_callTy call_list_of (by rfl) T.z_list (by decide +kernel) (pa_cons (pe_call (okInForceWithout T B) (hr.mono (by decide)) (by rfl) T.gInForceWithout T.FInForceWithout.kp T.bInForceWithout .nil pass0 (pa_cons (pv 1) (pa_cons (pe_tup (pa_cons pe_int (pa_cons pe_int pa_nil))) pa_nil))) pa_nil)) (pv 2) (nomark _)))))))))), ?_⟩
    refine ⟨_, rfl, _, rfl, a, ns, 0, rfl, Int.le_refl _, hS, fun v0 => .inl ⟨_, rfl, _, _, rfl, rfl, (by show (0 : Int) < _; decide), ?_⟩⟩
    obtain ⟨m1, em1, lm1⟩ : ∃ m : Nat, v0 % 13 = (m : Int) ∧ m ≤ 12 := ⟨(v0 % 13).toNat, by omega, by omega⟩
    refine ⟨a, ns, 4, 1, m1, congrArg (fun z => [V.ref a, V.int 4, V.int 1, V.int z]) em1, by decide, hS, by decide, by decide, lm1, fun L1 H1 rs1 D1 s1 hL1 R1 l1 p1 n1 => ?_⟩
    refine ⟨_, rfl, _, rfl, _, rfl, a, ns, 1, rfl, by decide, s1.seq hS, fun v1 => .inl ⟨_, rfl, _, _, rfl, rfl, (by show (0 : Int) < _; decide), ?_⟩⟩
    obtain ⟨m2, em2, lm2⟩ : ∃ m : Nat, v1 % 13 = (m : Int) ∧ m ≤ 12 := ⟨(v1 % 13).toNat, by omega, by omega⟩
    refine ⟨a, ns, 20, 3, m2, congrArg (fun z => [V.ref a, V.int 20, V.int 3, V.int z]) em2, by decide, s1.seq hS, by decide, by decide, lm2, fun L2 H2 rs2 D2 s2 hL2 R2 l2 p2 n2 => ?_⟩
    refine ⟨L1, L2, _, _, rfl, rfl, s2 _ _ hL1, hL2, Nat.le_trans (show rs1.length + rs2.length ≤ 1000 by have := R1.len; have := R2.len; omega) (by decide), fun E hE => ?_⟩
    have s3 := same_new (o := .lst (rs1 ++ rs2)) hE
    have R3 : RepG (UAt (upd H2 E (.lst (rs1 ++ rs2)))) (rs1 ++ rs2) (D1 ++ D2) := RepG.app (R1.imp fun x e h => h.ts (TS.of (s2.trans s3))) (R2.imp fun x e h => h.ts (TS.of s3))
    have hE3 := upd_same (H := H2) (a := E) (o := .lst (rs1 ++ rs2))
    have s13 := s1.trans (s2.trans s3)
    have T3 := hT.ext s13
    generalize upd H2 E (.lst (rs1 ++ rs2)) = H3 at R3 hE3 s13 T3
    have nodup1 : ∀ {m : Nat}, ((List.range m).map fun (k : Nat) => (k : Int) + 1).Nodup := fun {m} => List.pairwise_map.mpr (List.nodup_range.imp fun {a b} h z => h (by omega))
    have ndp : ∀ {D : List U} {p : Int} {m : Nat}, (∀ u ∈ D, u.p = p) → (D.map U.n) = (List.range m).map (fun (k : Nat) => (k : Int) + 1) → (D.map U.id).Nodup := fun {D p m} _ hn => by
      have h := nodup1 (m := m)
      rw [← hn] at h
      exact List.pairwise_map.mpr ((List.pairwise_map.mp h).imp fun {a b} h z => h (congrArg Prod.snd z))
    have nd : ((D1 ++ D2).map U.id).Nodup := by
      rw [List.map_append]
      refine List.nodup_append.mpr ⟨ndp p1 n1, ndp p2 n2, fun x hx y hy e => ?_⟩
      obtain ⟨u, hu, rfl⟩ := List.mem_map.mp hx
      obtain ⟨w, hw, rfl⟩ := List.mem_map.mp hy
      have h1 := p1 u hu
      have h2 := p2 w hw
      have h3 : u.p = w.p := congrArg Prod.fst e
      omega
    have dl : (D1 ++ D2).length ≤ 63 := by
      rw [List.length_append]
      omega
    have hn1 : ∀ {D : List U} {m : Nat}, m ≤ 12 → (D.map U.n) = (List.range m).map (fun (k : Nat) => (k : Int) + 1) → ∀ u ∈ D, u.n ≤ 12 := fun {D m} hm hn u hu => by
      have h : u.n ∈ D.map U.n := List.mem_map.mpr ⟨u, hu, rfl⟩
      rw [hn] at h
      obtain ⟨k, hk, e⟩ := List.mem_map.mp h
      have := List.mem_range.mp hk
      omega
    have nN : ∀ u ∈ D1 ++ D2, u.n ≤ 12 := fun u hu => by
      rcases List.mem_append.mp hu with z | z
      · exact hn1 lm1 n1 u z
      · exact hn1 lm2 n2 u z
    have pp : ∀ u ∈ D1 ++ D2, u.p = 1 ∨ u.p = 3 := fun u hu => by
      rcases List.mem_append.mp hu with z | z
      · exact .inl (p1 u z)
      · exact .inr (p2 u z)
    generalize D1 ++ D2 = D at R3 nd dl nN pp
    generalize rs1 ++ rs2 = rs at R3 hE3
    refine ⟨_, rfl, E, rs, D, rfl, SqL.of hE3, R3, nd, dl, fun d H4 js S s4 hd R4 sl so F => ?_⟩
    have hE4 := s4 _ _ hE3
    have R34 := R3.imp fun x e h => h.ts (TS.of s4)
    have T4 := T3.ext s4
    -- in_force(list(edits))
    refine ⟨_, rfl, E, rs, rfl, .inl (SqL.of hE4), fun l1 hl1 => ⟨l1, rs, D, rfl, SqL.of upd_same, R34.imp fun x e h => h.ts (TS.of (same_new hl1)), nd, dl, T4.ext (same_new hl1), fun p H5 is5 S5 e5 T5 hp5 R5 sl5 so5 F5 => ?_⟩⟩
    have e45 : LamX.ExtN H4 H5 := (LamX.ExtN.of (same_new hl1)).trans e5
    refine ⟨p, _, rfl, .inl (SqL.of hp5), fun l2 hl2 => ⟨_, rfl, _, _, ids_dp upd_same (R5.imp fun x e h => h.ts (TS.of (same_new hl2))), ids_dp (S := S) (same_new hl2 _ _ (e45 _ _ hd fun ps z => by cases z)) (R4.imp fun x e h => h.ts ((TS.ext e45).trans (TS.of (same_new hl2)))), idDs_shaped _, idDs_shaped _, ?_⟩⟩
    rw [force_same F5 F (fun u => Iff.rfl) nN so5 so, eqv_same (idDs_shaped _)]
    refine ⟨_, rfl, iteF ?_⟩
    have e46 := extN_same e45 (same_new (o := .lst is5) hl2)
    have T6 := T5.ext (same_new (o := .lst is5) hl2)
    generalize upd H5 l2 (.lst is5) = H6 at e46 T6
    -- in_force(edits[::-1])
    refine ⟨_, rfl, E, rs, rfl, SqL.of (e46 _ _ hE4 fun ps z => by cases z), fun l3 hl3 => ⟨l3, rs.reverse, D.reverse, rfl, SqL.of upd_same, (R34.imp fun x e h => h.ts ((TS.ext e46).trans (TS.of (same_new hl3)))).rev, by rw [List.map_reverse]; exact (List.reverse_perm _).nodup_iff.mpr nd, by rw [List.length_reverse]; exact dl, T6.ext (same_new hl3), fun p7 H7 is7 S7 e7 T7 hp7 R7 sl7 so7 F7 => ?_⟩⟩
    have e47 : LamX.ExtN H4 H7 := (extN_same e46 (same_new hl3)).trans e7
    refine ⟨p7, _, rfl, .inl (SqL.of hp7), fun l4 hl4 => ⟨_, rfl, _, _, ids_dp upd_same (R7.imp fun x e h => h.ts (TS.of (same_new hl4))), ids_dp (S := S) (same_new hl4 _ _ (e47 _ _ hd fun ps z => by cases z)) (R4.imp fun x e h => h.ts ((TS.ext e47).trans (TS.of (same_new hl4)))), idDs_shaped _, idDs_shaped _, ?_⟩⟩
    rw [force_same F7 F (fun u => by rw [List.mem_reverse]) (fun u hu => nN u (List.mem_reverse.mp hu)) so7 so, eqv_same (idDs_shaped _)]
    refine ⟨_, rfl, iteF ?_⟩
    have e48 := extN_same e47 (same_new (o := .lst is7) hl4)
    have T8 := T7.ext (same_new (o := .lst is7) hl4)
    generalize upd H7 l4 (.lst is7) = H8 at e48 T8
    -- in_force_without(edits, (3,))
    refine ⟨_, rfl, (by show 1 ≤ sizeLine; decide), fun w hw => ?_⟩
    have sw := same_new (o := .tup [.int 3]) hw
    refine ⟨E, w, rs, D, [3], rfl, SqL.of (sw _ _ (e48 _ _ hE4 fun ps z => by cases z)), R34.imp (fun x e h => h.ts ((TS.ext e48).trans (TS.of sw))), nd, dl, SqT.of upd_same, T8.ext sw, fun p9 H9 is9 S9 e9 T9 hp9 R9 so9 F9 => ?_⟩
    have e49 : LamX.ExtN H4 H9 := (extN_same e48 sw).trans e9
    refine ⟨p9, _, rfl, .inl (SqL.of hp9), fun l5 hl5 => ?_⟩
    have e410 := extN_same e49 (same_new (o := .lst is9) hl5)
    have R10 := R9.imp fun x e h => h.ts (TS.of (same_new (o := .lst is9) hl5))
    have T10 := T9.ext (same_new (o := .lst is9) hl5)
    have hl510 := upd_same (H := H9) (a := l5) (o := .lst is9)
    generalize upd H9 l5 (.lst is9) = H10 at e410 R10 T10 hl510
    have hd10 : H10 d = some (.lst js) := e410 _ _ hd fun ps z => by cases z
    have R410 := R4.imp fun x e h => h.ts (TS.ext e410)
    have ppS : ∀ i ∈ S, i.1 = 1 ∨ i.1 = 3 := fun i hi => by
      obtain ⟨u, hu, rfl⟩ := List.mem_map.mp ((F i).mp hi).1
      exact pp u hu
    have eS9 : S9 = S := force_same F9 F (fun u => Iff.rfl) nN so9 so
    refine ⟨_, rfl, d, rfl, ⟨_, SqL.of hd10⟩, fun N2 hN2 => ?_⟩
    refine lc_it (walk_list (a := d) (xs := js)) (fun j H' => Same H10 H' ∧ ∃ ks : List V, H' N2 = some (.lst ks) ∧ ks.length ≤ j ∧ RepG (IdAt H10) ks ((S.take j).filter fun i => decide (i.1 = 1))) ⟨same_new hN2, [], upd_same, Nat.le_refl _, RepG.nil⟩ (fun j H' _ h => SqL.of (h.1 _ _ hd10)) ?_ ?_
    · rintro j x H11 H12 hj ⟨s4, ks, hN4, jl, R4⟩ ⟨rfl, hx⟩
      obtain ⟨i, hi, a1, rfl, ha⟩ := R410.get hx
      have et : (S.take (j + 1)).filter (fun i => decide (i.1 = 1)) = (S.take j).filter (fun i => decide (i.1 = 1)) ++ (if i.1 = 1 then [i] else []) := by
        rw [List.take_add_one, hi, List.filter_append]
        by_cases z : i.1 = 1
        · simp [z]
        · simp [z]
      have ha4 := s4 _ _ ha
      refine ⟨rfl, _, rfl, a1, _, _, _, rfl, rfl, SqT.of ha4, atI_nat (j := 0) rfl, rfl, _, rfl, ?_⟩
      rw [et]
      by_cases z : i.1 = 1
      · rw [if_pos z, decide_eq_true (congrArg V.int z)]
        refine iteT ⟨_, rfl, ks, hN4, small1000 (by have := R410.len; omega), same_mut s4 hN2, ks ++ [.ref a1], upd_same, ?_, RepG.snoc R4 ⟨a1, rfl, ha⟩⟩
        rw [List.length_append]
        exact Nat.add_le_add_right jl 1
      · rw [if_neg z, decide_eq_false (fun y => z (V.int.inj y)), List.append_nil]
        exact iteF ⟨s4, ks, hN4, by omega, R4⟩
    rintro H11 ⟨s11, ks, hN11, _, RK⟩
    rw [List.take_of_length_le (by rw [R410.len]; exact Nat.le_refl _)] at RK
    refine ⟨_, _, ids_dp (s11 _ _ hl510) (R10.imp fun x e h => h.ts (TS.of s11)), ids_dp hN11 (RK.imp fun x e h => h.ts (TS.of s11)), idDs_shaped _, idDs_shaped _, ?_⟩
    have ef : S9.filter (fun i => !decide (i.1 ∈ ([3] : List Int))) = S.filter (fun i => decide (i.1 = 1)) := by
      rw [eS9]
      refine List.filter_congr fun i hi => ?_
      rcases ppS i hi with z | z <;> simp [z]
    rw [ef, eqv_same (idDs_shaped _)]
    refine ⟨_, rfl, iteF ?_⟩
    have e411 := extN_same e410 s11
    have T11 := T10.ext s11
    -- in_force_without(edits, (1, 3))
    refine ⟨_, rfl, (by show 2 ≤ sizeLine; decide), fun w2 hw2 => ?_⟩
    have sw2 := same_new (o := .tup [.int 1, .int 3]) hw2
    refine ⟨E, w2, rs, D, [1, 3], rfl, SqL.of (sw2 _ _ (e411 _ _ hE4 fun ps z => by cases z)), R34.imp (fun x e h => h.ts ((TS.ext e411).trans (TS.of sw2))), nd, dl, SqT.of upd_same, T11.ext sw2, fun p12 H12 is12 S12 e12 T12 hp12 R12 so12 F12 => ?_⟩
    have e412 : LamX.ExtN H4 H12 := (extN_same e411 sw2).trans e12
    refine ⟨p12, _, rfl, .inl (SqL.of hp12), fun l6 hl6 => ⟨Nat.zero_le _, fun l7 hl7 => ?_⟩⟩
    have eS12 : S12 = S := force_same F12 F (fun u => Iff.rfl) nN so12 so
    have e0 : S12.filter (fun i => !decide (i.1 ∈ ([1, 3] : List Int))) = [] := by
      rw [eS12]
      refine List.filter_eq_nil_iff.mpr fun i hi => ?_
      rcases ppS i hi with z | z <;> simp [z]
    have s67 := (same_new (o := .lst is12) hl6).trans (same_new (o := .lst []) hl7)
    rw [e0] at R12
    refine ⟨_, _, ids_dp (same_new (o := .lst []) hl7 _ _ upd_same) (R12.imp fun x e h => h.ts (TS.of s67)), .lst (SqL.of upd_same) .nil, idDs_shaped _, by decide +kernel, ?_⟩
    refine ⟨_, rfl, iteF ?_⟩
    have e413 := extN_same e412 s67
    have T13 := T12.ext s67
    generalize upd (upd H12 l6 (.lst is12)) l7 (.lst []) = H13 at e413 T13
    -- in_force_without(edits, (2, 4))
    refine ⟨_, rfl, (by show 2 ≤ sizeLine; decide), fun w3 hw3 => ?_⟩
    have sw3 := same_new (o := .tup [.int 2, .int 4]) hw3
    refine ⟨E, w3, rs, D, [2, 4], rfl, SqL.of (sw3 _ _ (e413 _ _ hE4 fun ps z => by cases z)), R34.imp (fun x e h => h.ts ((TS.ext e413).trans (TS.of sw3))), nd, dl, SqT.of upd_same, T13.ext sw3, fun p14 H14 is14 S14 e14 T14 hp14 R14 so14 F14 => ?_⟩
    have e414 : LamX.ExtN H4 H14 := (extN_same e413 sw3).trans e14
    have eS14 : S14 = S := force_same F14 F (fun u => Iff.rfl) nN so14 so
    have e1 : S14.filter (fun i => !decide (i.1 ∈ ([2, 4] : List Int))) = S := by
      rw [eS14]
      refine List.filter_eq_self.mpr fun i hi => ?_
      rcases ppS i hi with z | z <;> simp [z]
    rw [e1] at R14
    refine ⟨p14, _, rfl, .inl (SqL.of hp14), fun l8 hl8 => ⟨_, rfl, _, _, ids_dp upd_same (R14.imp fun x e h => h.ts (TS.of (same_new hl8))), ids_dp (S := S) (same_new hl8 _ _ (e414 _ _ hd fun ps z => by cases z)) (R4.imp fun x e h => h.ts ((TS.ext e414).trans (TS.of (same_new hl8)))), idDs_shaped _, idDs_shaped _, ?_⟩⟩
    rw [eqv_same (idDs_shaped _)]
    exact q _
end
set_option maxHeartbeats 0 in
theorem all_mk {l : PySem.W.OpenLaw} {w : World} {K : PySem.W.Frag} {h : Heap} {mg : Str → Option Value} {fa f1 f2 f3 f4 f5 f6 : Addr} (X : K.In h) (G : h.Ns mainGlobals mg) (hfa : mg "law" = some (.ref fa))
    {od1 an1 od2 an2 od3 an3 od4 an4 od5 an5 od6 an6 : Option Addr} {sl1 sl2 sl3 sl4 sl5 sl6 : Array (Option Value)} {oc1 kV1 dc1 pm1 ct1 oc2 kV2 dc2 pm2 cd2 ct2 oc3 kV3 dc3 pm3 cd3 ct3 oc4 kV4 dc4 pm4 cd4 ct4 oc5 kV5 dc5 pm5 cd5 ct5 oc6 kV6 dc6 pm6 cd6 ct6 : Value}
    {cT tP : Addr}
    (a1 : PySem.W.nsIn K mainGlobals "in_force" = some (some (.ref f1))) (l1 : K.lookup f1 = some ⟨oc1, od1, .func (PySem.W.fnOf "in_force" "in_force" (defArgs sInForce) (defBody sInForce) (defScope sInForce) .none kV1 dc1 pm1 an1 (.ref cT) ct1), sl1⟩) (c1 : PySem.W.codeIn K (.ref cT) "in_force" = true) (k1 : PySem.W.keepIn K (.ref f1) = true)
    (a2 : PySem.W.nsIn K mainGlobals "in_force_without" = some (some (.ref f2))) (l2 : K.lookup f2 = some ⟨oc2, od2, .func (PySem.W.fnOf "in_force_without" "in_force_without" (defArgs sInForceWithout) (defBody sInForceWithout) (defScope sInForceWithout) .none kV2 dc2 pm2 an2 cd2 ct2), sl2⟩) (c2 : PySem.W.codeIn K cd2 "in_force_without" = true) (k2 : PySem.W.keepIn K (.ref f2) = true)
    (a3 : PySem.W.nsIn K mainGlobals "_law_cell" = some (some (.ref f3))) (l3 : K.lookup f3 = some ⟨oc3, od3, .func (PySem.W.fnOf "_law_cell" "_law_cell" (defArgs sLawCell) (defBody sLawCell) (defScope sLawCell) .none kV3 dc3 pm3 an3 cd3 ct3), sl3⟩) (c3 : PySem.W.codeIn K cd3 "_law_cell" = true) (k3 : PySem.W.keepIn K (.ref f3) = true)
    (a4 : PySem.W.nsIn K mainGlobals "_law_force" = some (some (.ref f4))) (l4 : K.lookup f4 = some ⟨oc4, od4, .func (PySem.W.fnOf "_law_force" "_law_force" (defArgs sLawForce) (defBody sLawForce) (defScope sLawForce) .none kV4 dc4 pm4 an4 cd4 ct4), sl4⟩) (c4 : PySem.W.codeIn K cd4 "_law_force" = true) (k4 : PySem.W.keepIn K (.ref f4) = true)
    (a5 : PySem.W.nsIn K mainGlobals "_law_person" = some (some (.ref f5))) (l5 : K.lookup f5 = some ⟨oc5, od5, .func (PySem.W.fnOf "_law_person" "_law_person" (defArgs sLawPerson) (defBody sLawPerson) (defScope sLawPerson) .none kV5 dc5 pm5 an5 cd5 ct5), sl5⟩) (c5 : PySem.W.codeIn K cd5 "_law_person" = true) (k5 : PySem.W.keepIn K (.ref f5) = true)
    (a6 : PySem.W.nsIn K mainGlobals "law" = some (some (.ref f6))) (l6 : K.lookup f6 = some ⟨oc6, od6, .func (PySem.W.fnOf "law" "law" (defArgs sLaw) (defBody sLaw) (defScope sLaw) .none kV6 dc6 pm6 an6 cd6 ct6), sl6⟩) (c6 : PySem.W.codeIn K cd6 "law" = true) (k6 : PySem.W.keepIn K (.ref f6) = true)
    (z_sorted : PySem.W.nsIn K mainGlobals "sorted" = some none)
    (z_range : PySem.W.nsIn K mainGlobals "range" = some none)
    (z_len : PySem.W.nsIn K mainGlobals "len" = some none)
    (z_list : PySem.W.nsIn K mainGlobals "list" = some none)
    (z_int : PySem.W.nsIn K mainGlobals "int" = some none)
    (z_tuple : PySem.W.nsIn K mainGlobals "tuple" = some none)
    (tn : K.lookup tP = none) (th : PySem.W.codeHdIn K cT tP = true) (tt : h.get? tP = some { cls := .none, data := .fields #[] }) : LamX.LawAtS l w K CX0 7 63 "script" mg fa h := by
  have e := hfa.symm.trans (PySem.W.mg_of X G a6)
  cases e
  have F1 := fun_mk (st := sInForce) l1 c1 k1
  have b1 := F1.binds (ps := ["edits"]) fun _ _ _ _ _ _ us hl => match us, hl with | [_], _ => rfl
  have F2 := fun_mk (st := sInForceWithout) l2 c2 k2
  have b2 := F2.binds (ps := ["edits", "persons"]) fun _ _ _ _ _ _ us hl => match us, hl with | [_, _], _ => rfl
  have F3 := fun_mk (st := sLawCell) l3 c3 k3
  have b3 := F3.binds (ps := ["script", "k"]) fun _ _ _ _ _ _ us hl => match us, hl with | [_, _], _ => rfl
  have F4 := fun_mk (st := sLawForce) l4 c4 k4
  have b4 := F4.binds (ps := ["edits"]) fun _ _ _ _ _ _ us hl => match us, hl with | [_], _ => rfl
  have F5 := fun_mk (st := sLawPerson) l5 c5 k5
  have b5 := F5.binds (ps := ["script", "first", "person", "most"]) fun _ _ _ _ _ _ us hl => match us, hl with | [_, _, _, _], _ => rfl
  have F6 := fun_mk (st := sLaw) l6 c6 k6
  have b6 := F6.binds (ps := ["script"]) fun _ _ _ _ _ _ us hl => match us, hl with | [_], _ => rfl
  refine ⟨PySem.W.fnOf "law" "law" (defArgs sLaw) (defBody sLaw) (defScope sLaw) .none kV6 dc6 pm6 an6 cd6 ct6, [(cT, tP)], spLaw K [(tP, qLam)], ?_, ?_, ?_, fun s v => .of_eq rfl, ?_, ?_⟩
  · intro p hp
    rw [List.mem_singleton.mp hp]
    exact tt
  · intro p hp
    rw [List.mem_singleton.mp hp]
    exact tn
  · intro p hp
    rw [List.mem_singleton.mp hp]
    exact PySem.W.codeHd_of_K X th
  · intro H a ns hl hb hT hS
    refine ⟨a, ns, rfl, hS, hl, fun p hp => ?_, fun _ => rfl⟩
    rw [List.mem_singleton.mp hp]
    exact .nil (hT (cT, tP) (List.mem_cons_self ..))
  · intro base KB GB TB
    exact okLaw (P := l.prog) (w := w) (base := base) (⟨f1, _, F1, b1, PySem.W.mg_of X G a1, f2, _, F2, b2, PySem.W.mg_of X G a2, f3, _, F3, b3, PySem.W.mg_of X G a3, f4, _, F4, b4, PySem.W.mg_of X G a4, f5, _, F5, b5, PySem.W.mg_of X G a5, fa, _, F6, b6, PySem.W.mg_of X G a6, PySem.W.mg_none_of X G z_sorted, PySem.W.mg_none_of X G z_range, PySem.W.mg_none_of X G z_len, PySem.W.mg_none_of X G z_list, PySem.W.mg_none_of X G z_int, PySem.W.mg_none_of X G z_tuple⟩ : Txt K mg) ⟨⟨_, _, l1, rfl, rfl⟩, tn, TB (cT, tP) (List.mem_cons_self ..)⟩
theorem walk {l : PySem.W.OpenLaw} {q : Program} {loose : List Str} {XP : (Str → Option Value) → Heap → Prop} {YP : World → Heap → Prop} {d : DefRec} {K : Params → PySem.W.Frag} (hn : l.most = some 63) (hdf : d.params.defaults = [])
    (hY : ∀ (w : World) (h : Heap), YP w h → (K w.params).In h)
    (F : ∀ (w : World) (mg : Str → Option Value) (fa : Addr) (h : Heap), YP w h → (K w.params).In h → h.Ns mainGlobals mg → mg d.name = some (.ref fa) → LamX.LawAtS l w (K w.params) CX0 7 63 "script" mg fa h) :
    PySem.W.WalkO q loose XP YP l.row.toRowW d [] (fun f vs => PySem.call f vs) :=
  LamX.walk_ofTs (n := 63) (k := 7) (x := "script") (CX := fun _ => CX0) hn (by decide) hdf ⟨rfl, by decide, by decide⟩ hY F (fun _ _ _ _ _ z => z)
end My
open PySem PySem.W PyProof.Rows
set_option maxRecDepth 100000 in
set_option maxHeartbeats 0 in
theorem PySem.Challenge.cw_tablemates_k36_edits_in_force_holds : PySem.Challenge.rw_tablemates_k36_edits_in_force.Holds := by
  w_on; o_law; k_head; (case hw => w_witness2)
  k_fill
  refine My.walk (l := PySem.Challenge.rw_tablemates_k36_edits_in_force) rfl rfl (fun w h Y => PySem.W.km_in_of Y) ?F
  case F =>
    intro w mg fa h Y KX G hmg
    refine' My.all_mk KX G hmg ?a1 ?l1 ?c1 ?k1 ?a2 ?l2 ?c2 ?k2 ?a3 ?l3 ?c3 ?k3 ?a4 ?l4 ?c4 ?k4 ?a5 ?l5 ?c5 ?k5 ?a6 ?l6 ?c6 ?k6 ?z_sorted ?z_range ?z_len ?z_list ?z_int ?z_tuple ?tn ?th ?tt
    (case a1 => k_is); (case l1 => k_is); (case c1 => k_is); (case k1 => k_is); (case a2 => k_is); (case l2 => k_is); (case c2 => k_is); (case k2 => k_is); (case a3 => k_is); (case l3 => k_is); (case c3 => k_is); (case k3 => k_is); (case a4 => k_is); (case l4 => k_is); (case c4 => k_is); (case k4 => k_is); (case a5 => k_is); (case l5 => k_is); (case c5 => k_is); (case k5 => k_is); (case a6 => k_is); (case l6 => k_is); (case c6 => k_is); (case k6 => k_is); (case z_sorted => k_is); (case z_range => k_is); (case z_len => k_is); (case z_list => k_is); (case z_int => k_is); (case z_tuple => k_is); (case tt => exact PySem.W.km_tabs_of Y _ (List.mem_cons_self ..)); (case tn => first | rfl | k_is | decide +kernel); (case th => first | rfl | k_is | decide +kernel)

import PyProof.Rows.All
import Wide.All
import OpenK.AllK
import Wide.FinOn
import HandS.ForMost
import HandS.Zip
import HandS.Walk
import HandS.Deep
import HandS.Conv
import HandS.Style
import HandS.SortInts
import HandS.Codes
import KE.KEqDeep
import HandS.SortKw
import KE.SortKeyHeap
import KE.SortData
import KE.LtData
import HandS.TupSets
import KE.KTupSum
import PySem.Challenge.RW_tablemates_k29_edits_in_order
set_option Elab.async false
set_option linter.all false
set_option maxRecDepth 100000
namespace My
open PySem PySem.Spec PyProof.Rows L2 RZ
def topS (i : Nat) : Stmt := PySem.Challenge.pw_tablemates_k29_edits_in_order.main.body.getD i (.Pass ⟨0, 0, 0, 0⟩)
abbrev sCounts : Stmt := topS 1
abbrev sStamp : Stmt := topS 4
abbrev sHasSeen : Stmt := topS 5
abbrev sPlace : Stmt := topS 6
abbrev sOrdered : Stmt := topS 7
abbrev sNumbers : Stmt := topS 8
abbrev sVersionOf : Stmt := topS 9
abbrev sLawCell : Stmt := topS 11
abbrev sLawDigits : Stmt := topS 12
abbrev sLawPadded : Stmt := topS 13
abbrev sLawEdits : Stmt := topS 14
abbrev sLaw : Stmt := topS 15
theorem scCounts : FnScope ["version", "edit_id", "person", "number"] ["version", "edit_id"] (defScope sCounts) := ⟨rfl, rfl, rfl, by decide +kernel, rfl, by decide +kernel, by decide +kernel⟩
theorem scStamp : FnScope ["edit"] ["edit"] (defScope sStamp) := ⟨rfl, rfl, rfl, by decide +kernel, rfl, by decide +kernel, by decide +kernel⟩
theorem scHasSeen : FnScope ["edit", "other"] ["edit", "other"] (defScope sHasSeen) := ⟨rfl, rfl, rfl, by decide +kernel, rfl, by decide +kernel, by decide +kernel⟩
theorem scPlace : FnScope ["edit"] ["edit"] (defScope sPlace) := ⟨rfl, rfl, rfl, by decide +kernel, rfl, by decide +kernel, by decide +kernel⟩
theorem scOrdered : FnScope ["edits", "edit"] ["edits"] (defScope sOrdered) := ⟨rfl, rfl, rfl, by decide +kernel, rfl, by decide +kernel, by decide +kernel⟩
theorem scNumbers : FnScope ["edits", "person", "edit"] ["edits", "person"] (defScope sNumbers) := ⟨rfl, rfl, rfl, by decide +kernel, rfl, by decide +kernel, by decide +kernel⟩
theorem scVersionOf : FnScope ["edits", "person"] ["edits"] (defScope sVersionOf) := ⟨rfl, rfl, rfl, by decide +kernel, rfl, by decide +kernel, by decide +kernel⟩
theorem scLawCell : FnScope ["script", "k"] ["script", "k"] (defScope sLawCell) := ⟨rfl, rfl, rfl, by decide +kernel, rfl, by decide +kernel, by decide +kernel⟩
theorem scLawDigits : FnScope ["cell", "k", "most", "digits", "turn", "seed"] ["cell", "k", "most"] (defScope sLawDigits) := ⟨rfl, rfl, rfl, by decide +kernel, rfl, by decide +kernel, by decide +kernel⟩
theorem scLawPadded : FnScope ["cell", "k", "d", "turn"] ["cell", "k"] (defScope sLawPadded) := ⟨rfl, rfl, rfl, by decide +kernel, rfl, by decide +kernel, by decide +kernel⟩
theorem scLawEdits : FnScope ["script", "edits", "k", "d", "edit_id", "seen", "j", "edit"] ["script"] (defScope sLawEdits) := ⟨rfl, rfl, rfl, by decide +kernel, rfl, by decide +kernel, by decide +kernel⟩
theorem scLaw : FnScope ["script", "edits", "told", "edit", "keys", "found", "other"] ["script"] (defScope sLaw) := ⟨rfl, rfl, rfl, by decide +kernel, rfl, by decide +kernel, by decide +kernel⟩
set_option maxHeartbeats 0 in
structure Txt (K : PySem.W.Frag) (mg : Str → Option Value) where
  fCounts : Addr
  fdCounts : FuncData
  FCounts : Fun K "counts" "counts" sCounts fCounts fdCounts
  bCounts : Binds K fdCounts ["version", "edit_id"] []
  gCounts : mg "counts" = some (.ref fCounts)
  fStamp : Addr
  fdStamp : FuncData
  FStamp : Fun K "stamp" "stamp" sStamp fStamp fdStamp
  bStamp : Binds K fdStamp ["edit"] []
  gStamp : mg "stamp" = some (.ref fStamp)
  fHasSeen : Addr
  fdHasSeen : FuncData
  FHasSeen : Fun K "has_seen" "has_seen" sHasSeen fHasSeen fdHasSeen
  bHasSeen : Binds K fdHasSeen ["edit", "other"] []
  gHasSeen : mg "has_seen" = some (.ref fHasSeen)
  fPlace : Addr
  fdPlace : FuncData
  FPlace : Fun K "place" "place" sPlace fPlace fdPlace
  bPlace : Binds K fdPlace ["edit"] []
  gPlace : mg "place" = some (.ref fPlace)
  fOrdered : Addr
  fdOrdered : FuncData
  FOrdered : Fun K "ordered" "ordered" sOrdered fOrdered fdOrdered
  bOrdered : Binds K fdOrdered ["edits"] []
  gOrdered : mg "ordered" = some (.ref fOrdered)
  fNumbers : Addr
  fdNumbers : FuncData
  FNumbers : Fun K "_numbers" "_numbers" sNumbers fNumbers fdNumbers
  bNumbers : Binds K fdNumbers ["edits", "person"] []
  gNumbers : mg "_numbers" = some (.ref fNumbers)
  fVersionOf : Addr
  fdVersionOf : FuncData
  FVersionOf : Fun K "version_of" "version_of" sVersionOf fVersionOf fdVersionOf
  bVersionOf : Binds K fdVersionOf ["edits"] []
  gVersionOf : mg "version_of" = some (.ref fVersionOf)
  fLawCell : Addr
  fdLawCell : FuncData
  FLawCell : Fun K "_law_cell" "_law_cell" sLawCell fLawCell fdLawCell
  bLawCell : Binds K fdLawCell ["script", "k"] []
  gLawCell : mg "_law_cell" = some (.ref fLawCell)
  fLawDigits : Addr
  fdLawDigits : FuncData
  FLawDigits : Fun K "_law_digits" "_law_digits" sLawDigits fLawDigits fdLawDigits
  bLawDigits : Binds K fdLawDigits ["cell", "k", "most"] []
  gLawDigits : mg "_law_digits" = some (.ref fLawDigits)
  fLawPadded : Addr
  fdLawPadded : FuncData
  FLawPadded : Fun K "_law_padded" "_law_padded" sLawPadded fLawPadded fdLawPadded
  bLawPadded : Binds K fdLawPadded ["cell", "k"] []
  gLawPadded : mg "_law_padded" = some (.ref fLawPadded)
  fLawEdits : Addr
  fdLawEdits : FuncData
  FLawEdits : Fun K "_law_edits" "_law_edits" sLawEdits fLawEdits fdLawEdits
  bLawEdits : Binds K fdLawEdits ["script"] []
  gLawEdits : mg "_law_edits" = some (.ref fLawEdits)
  fLaw : Addr
  fdLaw : FuncData
  FLaw : Fun K "law" "law" sLaw fLaw fdLaw
  bLaw : Binds K fdLaw ["script"] []
  gLaw : mg "law" = some (.ref fLaw)
  z_sorted : mg "sorted" = none
  z_tuple : mg "tuple" = none
  z_range : mg "range" = none
  z_sum : mg "sum" = none
  z_len : mg "len" = none
  z_set : mg "set" = none
  z_int : mg "int" = none
  z_repr : mg "repr" = none
  p_PERSONS : Addr
  g_PERSONS : mg "PERSONS" = some (.ref p_PERSONS)
  k_PERSONS : ∀ H, SqT K H p_PERSONS [.int 1, .int 2, .int 3, .int 4]
  w_PERSONS : ∃ o, K.lookup p_PERSONS = some o ∧ o.cls = .type "tuple" ∧ o.dict = none
section
variable {P : Program} {w : World} {K : PySem.W.Frag} {mg : Str → Option Value} {base : Heap}
/-! ### heaps -/
theorem _root_.L2.Same.tup {K : PySem.W.Frag} {H H' : Hp} {a : Addr} {xs : List V} (e : Same H H') (h : SqT K H a xs) : SqT K H' a xs := by
  rcases h with (h | ⟨o, h⟩) | h
  · exact .inl (.inl (e _ _ h))
  · exact .inl (.inr ⟨o, e _ _ h⟩)
  · exact .inr h
theorem same_new {H : Hp} {p : Addr} {o : HO} (h : H p = none) : Same H (upd H p o) := fun b x e => by
  rw [upd_ne (ne_of_none e h)]
  exact e
theorem same_mut {H H' : Hp} {p : Addr} {o : HO} (e : Same H H') (h : H p = none) : Same H (upd H' p o) := fun b x ha => by
  rw [upd_ne (ne_of_none ha h)]
  exact e b x ha
theorem walk_zipT {K : PySem.W.Frag} {a b : Addr} {xs ys : List V} {n : Nat} (hn : n = min xs.length ys.length) : Walk (ItzT K a b) n (fun H => SqT K H a xs ∧ SqT K H b ys) (YPair (fun i => xs[i]?) (fun i => ys[i]?)) := by
  subst hn
  refine ⟨fun i _ hi q => ?_, fun _ q => ⟨xs, ys, q.1, q.2, by omega⟩, fun i H v H' _ q y => ?_⟩
  · have h1 : i < xs.length := by omega
    have h2 : i < ys.length := by omega
    exact ⟨xs, ys, xs[i], ys[i], q.1, q.2, by simp [h1], by simp [h2]⟩
  · obtain ⟨T, x, z, h1, h2, h3, h4, h5⟩ := y
    exact ⟨T, x, z, h1, h2, h3, h4 xs q.1, h5 ys q.2⟩
/-- a function that hands back a bool or an int and changes nothing -/
theorem getD_at {ns : List Int} {i : Nat} (h : i < ns.length) : (ns.map V.int)[i]? = some (.int (ns.getD i 0)) := by
  rw [List.getElem?_map, List.getElem?_eq_getElem h, List.getD_eq_getElem?_getD, List.getElem?_eq_getElem h]
  rfl
theorem dp_ints {K : PySem.W.Frag} {H : Hp} : ∀ ns : List Int, DpAll K H (ns.map V.int) (ns.map PyData.int)
  | [] => .nil
  | n :: r => .cons (.int n) (dp_ints r)
theorem shaped_tup (ns : List Int) : SeqAt.shaped (.tuple (ns.map PyData.int)) = true := by
  simp [SeqAt.shaped, PyData.canLay0, PyData.depth, PySem.W.ke_canLayAll0, PySem.W.ke_depthAll]
theorem shaped_lst (ns : List Int) : SeqAt.shaped (.list (ns.map PyData.int)) = true := PySem.W.ke_shaped_ints ns
theorem eqv_same {d : PyData} (h : SeqAt.shaped d = true) : PyData.eqv d d = true := by
  refine SeqAt.eqv_refl d ?_
  unfold SeqAt.shaped at h
  exact (Bool.and_eq_true _ _ ▸ h).1
theorem yesT {σ : L2.St} {H : Hp} {A B : Hp → Prop} (h : A H) : tYes σ H (fun b H3 => if b = true then A H3 else B H3) := iteT (A := A H) (B := B H) h
def spCell (K : PySem.W.Frag) : Sp := fun vs H Q _ => ∃ (a : Addr) (ns : List Int) (k : Int), vs = [.ref a, .int k] ∧ 0 ≤ k ∧ SqL K H a (ns.map V.int) ∧ ∀ v : Int, Q (.int v) H
theorem okLawCell (T : Txt K mg) : FnOk P w K mg base CX0 1 T.fLawCell T.fdLawCell ["script", "k"] (spCell K) := by
  refine T.FLawCell.ok scLawCell (fun vs H Q E h => ?_) (fun cdv A outer s H vs Q E hr h => ?_)
  · obtain ⟨a, ns, k, rfl, _⟩ := h
    rfl
  · obtain ⟨a, ns, k, rfl, h0, hS, q⟩ := h
    obtain ⟨k, rfl⟩ := Int.eq_ofNat_of_zero_le h0
    -- slots script=0 k=1
    refine ⟨_, (pss_cons (ps_if (pt_cmpR op_lt (pv 1) (pe_callB call_len_seq (by rfl) T.z_len PySem.boot_len (pa_cons (pv 0) pa_nil)) (nomark _))
          (pss_one (ps_ret (pe_ix ix_list (pv 0) (pv 1) (fun _ _ => rfl))))
          pss_nil)
        (pss_one (ps_ret pe_int))), ?_⟩
    refine ⟨_, rfl, _, rfl, a, _, rfl, .inl hS, _, _, rfl, rfl, _, rfl, ite2 (fun c => ?_) (fun c => ?_)⟩
    · have hk : k < ns.length := by
        have c2 := of_decide_eq_true c
        rw [List.length_map] at c2
        omega
      exact ⟨_, rfl, _, rfl, a, _, _, _, rfl, rfl, hS, atI_nat (getD_at hk), q _⟩
    · exact q 0
def spCounts (K : PySem.W.Frag) : Sp := fun vs H Q _ => ∃ (a b : Addr) (ns : List Int) (i : Nat) (n : Int), vs = [.ref a, .ref b] ∧ SqT K H a (ns.map V.int) ∧ SqT K H b [.int (1 + (i : Int)), .int n] ∧ i < ns.length ∧ Q (.bl (decide (n ≤ ns.getD i 0))) H
theorem okCounts (T : Txt K mg) : FnOk P w K mg base CX0 1 T.fCounts T.fdCounts ["version", "edit_id"] (spCounts K) := by
  refine T.FCounts.ok scCounts (fun vs H Q E h => ?_) (fun cdv A outer s H vs Q E hr h => ?_)
  · obtain ⟨a, b, ns, i, n, rfl, _⟩ := h
    rfl
  · obtain ⟨a, b, ns, i, n, rfl, ha, hb, hi, q⟩ := h
    -- slots version=0 edit_id=1 person=2 number=3
    refine ⟨_, (pss_cons (ps_asg (pv 1) (pg_tup rfl (pgs_cons (pg_name (i := 2) scCounts.nd rfl (Or.inl rfl)) (pgs_cons (pg_name (i := 3) scCounts.nd rfl (Or.inl rfl)) pgs_nil))))
        (pss_one (ps_ret (pe_and (pe_chain op_le op_le pe_int (pv 2) (pe_callB call_len_seq (by rfl) T.z_len PySem.boot_len (pa_cons (pv 0) pa_nil))) (pe_one (pe_cmpR op_ge (pe_ix ix_tup (pv 0) (pe_op op_sub (pv 2) pe_int) (fun _ _ => rfl)) (pv 3) (nomark _))))))), ?_⟩
    refine ⟨_, rfl, b, _, rfl, hb, rfl, _, _, rfl, _, _, rfl, rfl, ?_⟩
    refine ⟨_, rfl, _, _, rfl, rfl, _, rfl, ?_⟩
    rw [if_pos (decide_eq_true (by omega))]
    refine ⟨_, rfl, a, _, rfl, .inr ha, _, _, rfl, rfl, _, rfl, ?_⟩
    rw [if_pos (decide_eq_true (by rw [List.length_map]; omega))]
    refine ⟨_, rfl, _, rfl, _, _, rfl, rfl, a, _, _, _, rfl, rfl, ha, ?_, _, rfl, _, _, rfl, rfl, q⟩
    rw [show (1 + (i : Int)) - 1 = ((i : Nat) : Int) by omega]
    exact atI_nat (getD_at hi)
structure Dig (ds : List Int) (n : Nat) : Prop where
  all : ∀ x ∈ ds, 0 ≤ x ∧ x < 1000
  len : ds.length ≤ n
theorem Dig.nil : Dig [] 0 := ⟨fun _ h => (nomatch h), Nat.le_refl _⟩
theorem Dig.more {ds : List Int} {n m : Nat} (h : Dig ds n) (hm : n ≤ m) : Dig ds m := ⟨h.all, Nat.le_trans h.len hm⟩
theorem Dig.add {ds : List Int} {n : Nat} (h : Dig ds n) (x : Int) : Dig (ds ++ [x % 1000]) (n + 1) := by
  refine ⟨fun y hy => ?_, ?_⟩
  · rcases List.mem_append.mp hy with q | q
    · exact h.all y q
    · obtain rfl : y = x % 1000 := by simpa using q
      omega
  · rw [List.length_append]
    have := h.len
    simp only [List.length_singleton]
    omega
def spDigits (K : PySem.W.Frag) : Sp := fun vs H Q _ => ∃ (c k : Int) (m : Nat), vs = [.int c, .int k, .int (m : Int)] ∧ m ≤ 1000 ∧ ∀ H' d ds, Same H H' → H d = none → H' d = some (.lst (ds.map V.int)) → Dig ds m → Q (.ref d) H'
theorem okLawDigits (T : Txt K mg) : FnOk P w K mg base CX0 1 T.fLawDigits T.fdLawDigits ["cell", "k", "most"] (spDigits K) := by
  refine T.FLawDigits.ok scLawDigits (fun vs H Q E h => ?_) (fun cdv A outer s H vs Q E hr h => ?_)
  · obtain ⟨c, k, m, rfl, _⟩ := h
    rfl
  · obtain ⟨c, k, m, rfl, hm, q⟩ := h
    -- slots cell=0 k=1 most=2 digits=3 turn=4 seed=5
    refine ⟨_, (pss_cons (ps_set (i := 3) scLawDigits.nd rfl (Or.inl rfl) (pe_lst pa_nil))
        (C8.pss_cut (ps_if (pt_cmpR op_lt (pv 0) pe_int (nomark _))
          (pss_one (ps_set (i := 0) scLawDigits.nd rfl (Or.inl rfl) (pe_op op_sub (pe_un un_neg pe_int) (pv 0))))
          pss_nil)
        (C8.pss_cut (ps_if (pt_cmpR op_ge (pv 0) (pe_op op_pow pe_int pe_int) (nomark _))
          (pss_one (ps_for PassesOwn.never rfl (pi_range1 rfl T.z_range (pa_cons pe_int pa_nil)) (pg_name (i := 4) scLawDigits.nd rfl (Or.inl rfl))
            (pss_one (ps_if (PW.pt (pw_and (pt_cmpR op_gt (pv 0) pe_int (nomark _)) (pw_and1 (pt_cmpR op_lt (pe_callB call_len_seq (by rfl) T.z_len PySem.boot_len (pa_cons (pv 3) pa_nil)) (pv 2) (nomark _)))))
              (pss_cons (ps_expr (pe_bm PySem.F.plainAttrs_list PySem.F.slot_list_append PySem.F.type_list_append mt_append (pv 3) (pa_cons (pe_op op_mod (pe_callTy call_int1 (by rfl) T.z_int (by decide +kernel) (pa_cons (pv 0) pa_nil)) pe_int) pa_nil)))
              (pss_one (ps_set (i := 0) scLawDigits.nd rfl (Or.inl rfl) (pe_op op_fdiv (pv 0) pe_int))))
              pss_nil))))
          (pss_cons (ps_set (i := 5) scLawDigits.nd rfl (Or.inl rfl) (pe_op op_mod (pe_callTy call_int1 (by rfl) T.z_int (by decide +kernel) (pa_cons (pe_op op_add (pe_op op_add (pe_op op_mul (pv 0) pe_int) (pe_op op_mul (pv 1) pe_int)) pe_int) pa_nil)) pe_int))
          (pss_one (ps_for PassesOwn.never rfl (pi_range1 rfl T.z_range (pa_cons (pv 2) pa_nil)) (pg_name (i := 4) scLawDigits.nd rfl (Or.inl rfl))
            (pss_cons (ps_set (i := 5) scLawDigits.nd rfl (Or.inl rfl) (pe_op op_mod (pe_callTy call_int1 (by rfl) T.z_int (by decide +kernel) (pa_cons (pe_op op_add (pe_op op_add (pe_op op_mul (pv 5) pe_int) (pe_op op_mul pe_int (pv 4))) pe_int) pa_nil)) pe_int))
            (pss_one (ps_expr (pe_bm PySem.F.plainAttrs_list PySem.F.slot_list_append PySem.F.type_list_append mt_append (pv 3) (pa_cons (pe_op op_mod (pe_callTy call_int1 (by rfl) T.z_int (by decide +kernel) (pa_cons (pe_op op_fdiv (pv 5) pe_int) pa_nil)) pe_int) pa_nil)))))))))
        (pss_one (ps_ret (pv 3)))))), ?_⟩
    refine ⟨Nat.zero_le _, fun d hd => ?_⟩
    refine ⟨fun σ H' => H' = upd H d (.lst []) ∧ ∃ c : Int, σ = [some (.int c), some (.int k), some (.int (m : Int)), some (.ref d), none, none], ?_, ?_⟩
    · refine ⟨_, rfl, _, _, rfl, rfl, _, rfl, ite2 (fun _ => ?_) (fun _ => ?_)⟩
      · exact ⟨_, rfl, _, rfl, _, _, rfl, rfl, rfl, _, rfl⟩
      · exact ⟨rfl, _, rfl⟩
    rintro σ H1 ⟨rfl, c, rfl⟩
    have h1 : (upd H d (.lst [])) d = some (.lst (([] : List Int).map V.int)) := upd_same
    refine ⟨fun σ H' => ∃ ds c0 c4 c5, σ = [c0, some (.int k), some (.int (m : Int)), some (.ref d), c4, c5] ∧ Same H H' ∧ H' d = some (.lst (ds.map V.int)) ∧ Dig ds m, ?_, ?_⟩
    · refine ⟨_, rfl, _, _, rfl, rfl, ⟨by decide, by decide, by decide⟩, _, _, rfl, rfl, _, rfl, ite2 (fun _ => ?_) (fun _ => ?_)⟩
      · refine ⟨60, rfl, by decide, by decide, for_range (lo := 0) (n := 60) (fun t σ H' => ∃ ds c c1, σ = [some (.int c), some (.int k), some (.int (m : Int)), some (.ref d), c1, none] ∧ Same H H' ∧ H' d = some (.lst (ds.map V.int)) ∧ Dig ds m) ⟨[], _, _, rfl, same_new hd, h1, Dig.nil.more (Nat.zero_le _)⟩ ?_ ?_⟩
        · rintro t σ H2 ht ⟨ds, c, c1, rfl, s2, hd2, D2⟩
          refine ⟨_, rfl, _, _, rfl, rfl, _, rfl, ite2 (fun _ => ?_) (fun _ => iteF ⟨ds, _, _, rfl, s2, hd2, D2⟩)⟩
          refine ⟨_, rfl, d, _, rfl, .inl (SqL.of hd2), _, rfl, _, _, rfl, rfl, _, rfl, ite2 (fun e => ?_) (fun _ => ⟨ds, _, _, rfl, s2, hd2, D2⟩)⟩
          have e2 := of_decide_eq_true e
          rw [List.length_map] at e2
          refine ⟨_, rfl, .inl ⟨rfl, _, SqL.of hd2⟩, _, rfl, .inl ⟨_, rfl, _, _, rfl, rfl, (by show (0 : Int) < _; decide), d, _, _, rfl, rfl, hd2, ?_, _, rfl, _, _, rfl, rfl, ⟨by decide, by decide⟩, ?_⟩⟩
          · rw [List.length_map]
            exact small1000 (by have := D2.len; omega)
          · refine ⟨ds ++ [c % 1000], _, _, rfl, same_mut s2 hd, by rw [upd_same, List.map_append]; rfl, ?_⟩
            have D3 : Dig ds (m - 1) := ⟨D2.all, by omega⟩
            exact (D3.add c).more (by omega)
        · rintro σ H2 ⟨ds, c, c1, rfl, s2, hd2, D2⟩
          exact ⟨ds, _, _, _, rfl, s2, hd2, D2⟩
      · refine ⟨_, rfl, _, _, rfl, rfl, .inr ⟨by decide, by decide⟩, _, rfl, _, _, rfl, rfl, .inr ⟨by decide, by decide⟩, _, _, rfl, rfl, _, _, rfl, rfl, .inl ⟨_, rfl, _, _, rfl, rfl, (by show (0 : Int) < _; decide), ?_⟩⟩
        refine ⟨_, rfl, _, rfl, by omega, by omega, for_range (lo := 0) (n := m) (fun t σ H' => ∃ ds c c1 sd, σ = [some (.int c), some (.int k), some (.int (m : Int)), some (.ref d), c1, some (.int sd)] ∧ Same H H' ∧ H' d = some (.lst (ds.map V.int)) ∧ Dig ds t) ⟨[], _, _, _, rfl, same_new hd, h1, Dig.nil⟩ ?_ ?_⟩
        · rintro t σ H2 ht ⟨ds, c, c1, sd, rfl, s2, hd2, D2⟩
          refine ⟨_, rfl, _, _, rfl, rfl, .inr ⟨by decide, by decide⟩, _, rfl, _, _, rfl, rfl, .inl ⟨by decide, by decide⟩, _, _, rfl, rfl, _, _, rfl, rfl, .inl ⟨_, rfl, _, _, rfl, rfl, (by show (0 : Int) < _; decide), ?_⟩⟩
          refine ⟨_, rfl, .inl ⟨rfl, _, SqL.of hd2⟩, _, rfl, _, _, rfl, rfl, ⟨by decide, by decide⟩, .inl ⟨_, rfl, _, _, rfl, rfl, (by show (0 : Int) < _; decide), d, _, _, rfl, rfl, hd2, ?_, ?_⟩⟩
          · rw [List.length_map]
            exact small1000 (by have := D2.len; omega)
          · exact ⟨ds ++ [_ % 1000], _, _, _, rfl, same_mut s2 hd, by rw [upd_same, List.map_append]; rfl, D2.add _⟩
        · rintro σ H2 ⟨ds, c, c1, sd, rfl, s2, hd2, D2⟩
          exact ⟨ds, _, _, _, rfl, s2, hd2, D2⟩
    rintro σ H1 ⟨ds, c0, c4, c5, rfl, s1, hd1, D⟩
    exact ⟨_, rfl, q _ d ds s1 hd hd1 D⟩
theorem ix_tupK {X : Cx} {K : PySem.W.Frag} (h : X.K = K) : IxR X (rIxT K) := by
  subst h
  exact ix_tup
theorem ix_listK {X : Cx} {K : PySem.W.Frag} (h : X.K = K) : IxR X (rIxL K) := by
  subst h
  exact ix_list
theorem call_len_seqK {X : Cx} {K : PySem.W.Frag} (h : X.K = K) : CallR X (.builtin "len") (fun xs H Q => ∃ p ys, xs = [.ref p] ∧ (SqL K H p ys ∨ SqT K H p ys) ∧ Q (.int ys.length) H) := by
  subst h
  exact call_len_seq
theorem units65 {k : Nat} {A : Around} (r : Room k A) : A.units + 65 < cLine := by
  have := r.un
  omega
def rCountD (K : PySem.W.Frag) : V → List V → Hp → VK → Prop := fun x xs H Q => ∃ (a : Addr) (y : V) (d : PyData) (ds : List PyData), x = V.ref a ∧ xs = [y] ∧ Dp K H (V.ref a) (.list ds) ∧ Dp K H y d ∧
  SeqAt.shaped (.list ds) = true ∧ SeqAt.shaped d = true ∧ Q (.int ((ds.countP fun z => PyData.eqv z d : Nat) : Int)) H
theorem mt_countD {X : Cx} (hu : X.A.units + 65 < cLine) : MtR X "list.count" (rCountD X.K) := by
  intro pins s σ H x xs v us Q I rx rxs h
  obtain ⟨a, y, d, ds, rfl, rfl, hl, hy, sl, sd, q⟩ := h
  cases rx
  cases rxs with
  | cons ry rt =>
    rename_i uy ut
    cases rt
    obtain ⟨bs, r1⟩ := Dp.reads I d y uy hy ry
    have hxs : PyData.canLayAll0 ds = true := SeqAt.canLay_of_shaped sl
    have hroom : X.A.units + 1 + min (PyData.depthAll ds) d.depth < cLine := room_in_shaped sd hu
    cases hl with
    | lst hs ha =>
      obtain ⟨its, rv, ⟨⟨cls, dd, data, sls⟩, n, ho, hc, hdn, hdt⟩, hlen⟩ := I.list hs
      simp only at hc hdt
      subst hc hdt
      obtain ⟨as, h4⟩ := Dp.readsAll I ds _ its ha rv
      have hmap : its.map (SeqAt.readOf s.heap) = ds := SeqAt.readsAll_map ds its as hxs h4
      have hc : its.countP (fun u => PyData.eqv (SeqAt.readOf s.heap u) d) = ds.countP fun z => PyData.eqv z d := by
        conv => rhs; rw [← hmap, List.countP_map]
        rfl
      refine call_meets PySem.F.slot_list_count ⟨_, ho, rfl⟩ PySem.F.entry_list_count (PySem.F.args_list_count_2 _ _)
        (SeqAt.list_countAt a its.toArray n dd sls uy (fun u => PyData.eqv (SeqAt.readOf s.heap u) d)) ⟨ho, SeqAt.items_eqAt (vs := its.toArray) (show ReadsAll s.heap its.toArray.toList ds as from h4) r1 hxs (SeqAt.canLay_of_shaped sd) hroom, ?_⟩
      refine ⟨.int _, H, I.tok _, ⟨_, rfl⟩, ?_⟩
      rw [List.toList_toArray, hc]
      exact q
/-! ### ids -/
def idD (z : Int × Int) : PyData := .tuple [.int z.1, .int z.2]
theorem idD_lay (z : Int × Int) : (idD z).canLay0 = true := by simp [idD, PyData.canLay0, PyData.canLayAll0]
theorem idD_depth (z : Int × Int) : (idD z).depth = 1 := by simp [idD, PyData.depth, PyData.depthAll]
theorem idDs_lay : ∀ zs : List (Int × Int), PyData.canLayAll0 (zs.map idD) = true
  | [] => by simp [PyData.canLayAll0]
  | z :: zs => by simp [PyData.canLayAll0, idD_lay z, idDs_lay zs]
theorem idDs_depth : ∀ zs : List (Int × Int), PyData.depthAll (zs.map idD) ≤ 1
  | [] => by simp [PyData.depthAll]
  | z :: zs => by
    have h1 := idDs_depth zs
    have h2 := idD_depth z
    simp only [List.map_cons, PyData.depthAll]
    omega
theorem idD_shaped (z : Int × Int) : SeqAt.shaped (idD z) = true := by
  have h := idD_depth z
  show ((idD z).canLay0 && decide ((idD z).depth ≤ 64)) = true
  rw [Bool.and_eq_true]
  exact ⟨idD_lay z, decide_eq_true (by omega)⟩
theorem idDs_shaped (zs : List (Int × Int)) : SeqAt.shaped (.list (zs.map idD)) = true := by
  have h1 := idDs_depth zs
  have h2 : PyData.depth (.list (zs.map idD)) ≤ 64 := by
    simp only [PyData.depth]
    omega
  show (PyData.canLay0 (.list (zs.map idD)) && decide (PyData.depth (.list (zs.map idD)) ≤ 64)) = true
  rw [Bool.and_eq_true]
  exact ⟨by simp only [PyData.canLay0]; exact idDs_lay zs, decide_eq_true h2⟩
theorem idD_eqv (z w : Int × Int) : PyData.eqv (idD z) (idD w) = decide (z = w) := by
  obtain ⟨a, b⟩ := z
  obtain ⟨a', b'⟩ := w
  have e : PyData.eqv (idD (a, b)) (idD (a', b')) = ((a == a') && ((b == b') && true)) := by simp only [idD, PyData.eqv, PyData.eqvAll]
  rw [e, Bool.eq_iff_iff]
  simp
theorem idDs_any (zs : List (Int × Int)) (w : Int × Int) : ((zs.map idD).any fun z => PyData.eqv z (idD w)) = decide (w ∈ zs) := by
  rw [Bool.eq_iff_iff, List.any_eq_true]
  constructor
  · rintro ⟨x, hx, hw⟩
    obtain ⟨z, hz, rfl⟩ := List.mem_map.mp hx
    rw [idD_eqv] at hw
    rw [← of_decide_eq_true hw]
    exact decide_eq_true hz
  · intro h
    exact ⟨idD w, List.mem_map.mpr ⟨w, of_decide_eq_true h, rfl⟩, by rw [idD_eqv]; exact decide_eq_true rfl⟩
theorem idDs_count (zs : List (Int × Int)) (w : Int × Int) : ((zs.map idD).countP fun z => PyData.eqv z (idD w)) = zs.countP fun z => decide (z = w) := by
  rw [List.countP_map]
  refine List.countP_congr fun z _ => ?_
  show PyData.eqv (idD z) (idD w) = true ↔ _
  rw [idD_eqv]
/-! ### edits -/
structure Ed where
  p : Nat
  n : Int
  v : List Int
def Ed.id (e : Ed) : Int × Int := (1 + (e.p : Int), e.n)
structure OkE (e : Ed) : Prop where
  p : e.p < 4
  n : 1 ≤ e.n
  v : e.v.length = 4
  nh : e.n ≤ 20
  vh : ∀ z ∈ e.v, 0 ≤ z ∧ z ≤ 20
theorem OkE.at_ {e : Ed} (h : OkE e) {j : Nat} (hj : j < 4) : 0 ≤ e.v.getD j 0 ∧ e.v.getD j 0 ≤ 20 := by
  have : j < e.v.length := by rw [h.v]; exact hj
  rw [List.getD_eq_getElem?_getD, List.getElem?_eq_getElem this]
  exact h.vh _ (List.getElem_mem this)
inductive RepI (H : Hp) : List V → List Ed → Prop where
  | nil : RepI H [] []
  | cons {a : Addr} {e : Ed} {vs : List V} {ds : List Ed} : H a = some (.tup [.int (1 + (e.p : Int)), .int e.n]) → RepI H vs ds → RepI H (.ref a :: vs) (e :: ds)
def TK (H H' : Hp) : Prop := ∀ q xs, H q = some (.tup xs) → H' q = some (.tup xs)
theorem TK.of {H H' : Hp} (s : Same H H') : TK H H' := fun q xs h => s q _ h
theorem TK.trans {H H1 H2 : Hp} (a : TK H H1) (b : TK H1 H2) : TK H H2 := fun q xs h => b q xs (a q xs h)
theorem TK.mut {H : Hp} {d : Addr} {xs : List V} {o : HO} (h : H d = some (.lst xs)) : TK H (upd H d o) := fun q ys hq => by
  have : q ≠ d := fun z => by
    rw [z, h] at hq
    cases hq
  rw [upd_ne this]
  exact hq
theorem RepI.mono {H H' : Hp} (s : TK H H') : ∀ {vs ds}, RepI H vs ds → RepI H' vs ds
  | _, _, .nil => .nil
  | _, _, .cons h r => .cons (s _ _ h) (r.mono s)
theorem RepI.snoc {H : Hp} {a : Addr} {e : Ed} (h : H a = some (.tup [.int (1 + (e.p : Int)), .int e.n])) : ∀ {vs ds}, RepI H vs ds → RepI H (vs ++ [.ref a]) (ds ++ [e])
  | _, _, .nil => .cons h .nil
  | _, _, .cons h2 r => .cons h2 (r.snoc h)
theorem dp_id {K : PySem.W.Frag} {H : Hp} {a : Addr} {x y : Int} (h : H a = some (.tup [.int x, .int y])) : Dp K H (.ref a) (idD (x, y)) := .tup (SqT.of h) (.cons (.int _) (.cons (.int _) .nil))
theorem RepI.dp {K : PySem.W.Frag} {H : Hp} : ∀ {vs ds}, RepI H vs ds → DpAll K H vs ((ds.map Ed.id).map idD)
  | _, _, .nil => .nil
  | _, _, .cons h r => .cons (dp_id h) r.dp
def EdAt (H : Hp) (x : V) (e : Ed) : Prop := ∃ (q a b : Addr) (c : V), x = .ref q ∧ H q = some (.tup [.ref a, .ref b, c]) ∧ H a = some (.tup [.int (1 + (e.p : Int)), .int e.n]) ∧ H b = some (.tup (e.v.map V.int))
theorem EdAt.mono {H H' : Hp} {x : V} {e : Ed} (s : TK H H') (h : EdAt H x e) : EdAt H' x e := by
  obtain ⟨q, a, b, c, h0, h1, h2, h3⟩ := h
  exact ⟨q, a, b, c, h0, s _ _ h1, s _ _ h2, s _ _ h3⟩
structure Rep (H : Hp) (rs : List V) (D : List Ed) : Prop where
  len : rs.length = D.length
  at_ : ∀ (i : Nat) (x : V) (e : Ed), rs[i]? = some x → D[i]? = some e → EdAt H x e
theorem Rep.mono {H H' : Hp} {rs : List V} {D : List Ed} (s : TK H H') (h : Rep H rs D) : Rep H' rs D := ⟨h.len, fun i x e h1 h2 => (h.at_ i x e h1 h2).mono s⟩
theorem Rep.nil {H : Hp} : Rep H [] [] := ⟨rfl, fun i x e h => by simp at h⟩
theorem Rep.snoc {H : Hp} {rs : List V} {D : List Ed} {x : V} {e : Ed} (h : Rep H rs D) (E : EdAt H x e) : Rep H (rs ++ [x]) (D ++ [e]) := by
  refine ⟨by rw [List.length_append, List.length_append, h.len]; rfl, fun i y f h1 h2 => ?_⟩
  rcases Nat.lt_or_ge i rs.length with z | z
  · rw [List.getElem?_append_left z] at h1
    rw [List.getElem?_append_left (by rw [← h.len]; exact z)] at h2
    exact h.at_ i y f h1 h2
  · rw [List.getElem?_append_right z] at h1
    rw [List.getElem?_append_right (by rw [← h.len]; exact z), ← h.len] at h2
    generalize i - rs.length = j at h1 h2
    rcases j with _ | j
    · simp at h1 h2
      rw [← h1, ← h2]
      exact E
    · simp at h1
theorem Rep.rev {H : Hp} {rs : List V} {D : List Ed} (h : Rep H rs D) : Rep H rs.reverse D.reverse := by
  refine ⟨by rw [List.length_reverse, List.length_reverse, h.len], fun i x e h1 h2 => ?_⟩
  have hi : i < rs.length := by
    have := (List.getElem?_eq_some_iff.mp h1).1
    rwa [List.length_reverse] at this
  rw [List.getElem?_reverse hi] at h1
  rw [List.getElem?_reverse (by rw [← h.len]; exact hi), ← h.len] at h2
  exact h.at_ _ x e h1 h2
theorem Rep.get {H : Hp} {rs : List V} {D : List Ed} (h : Rep H rs D) {i : Nat} {x : V} (hx : rs[i]? = some x) : ∃ e, D[i]? = some e ∧ EdAt H x e := by
  have hi := (List.getElem?_eq_some_iff.mp hx).1
  have hi2 : i < D.length := by rw [← h.len]; exact hi
  have hd : D[i]? = some D[i] := List.getElem?_eq_getElem hi2
  exact ⟨_, hd, h.at_ i x _ hx hd⟩
def nums (D : List Ed) (p : Nat) : List Int := (D.filter fun e => decide (e.p = p)).map Ed.n
theorem nums_step {D : List Ed} {i p : Nat} {e : Ed} (h : D[i]? = some e) : nums (D.take (i + 1)) p = nums (D.take i) p ++ if e.p = p then [e.n] else [] := by
  unfold nums
  rw [List.take_add_one, h, List.filter_append, List.map_append]
  congr 1
  by_cases z : e.p = p
  · simp [z]
  · simp [z]
theorem nums_len (D : List Ed) (p : Nat) : (nums D p).length ≤ D.length := by
  unfold nums
  rw [List.length_map]
  exact List.length_filter_le _ _
theorem mem_nums {D : List Ed} {p : Nat} {k : Int} : k ∈ nums D p ↔ ∃ e ∈ D, e.p = p ∧ e.n = k := by
  unfold nums
  rw [List.mem_map]
  constructor
  · rintro ⟨e, he, rfl⟩
    have := List.mem_filter.mp he
    exact ⟨e, this.1, of_decide_eq_true this.2, rfl⟩
  · rintro ⟨e, he, hp, rfl⟩
    exact ⟨e, List.mem_filter.mpr ⟨he, decide_eq_true hp⟩, rfl⟩
/-! ### sorted(xs), xs of data -/
theorem each_of_vals : ∀ {bs : List (V × PyData)} {vs : List Value}, Vals (bs.map Prod.fst) vs → PySem.W.EachIs (fun (v : Value) (b : V × PyData) => RelV b.1 v) vs bs
  | [], _, h => by
    cases h
    exact .nil
  | _ :: _, _, h => by
    cases h with
    | cons h r => exact .cons h (each_of_vals r)
theorem vals_of_each : ∀ {vs : List Value} {bs : List (V × PyData)}, PySem.W.EachIs (fun (v : Value) (b : V × PyData) => RelV b.1 v) vs bs → Vals (bs.map Prod.fst) vs
  | _, _, .nil => .nil
  | _, _, .cons h r => .cons h (vals_of_each r)
theorem reads_of_each {X : Cx} {pins : List (Addr × Obj)} {σ : L2.St} {H : Hp} {s : Shared} (I : Inv X pins σ H s) : ∀ {vs : List Value} {bs : List (V × PyData)}, PySem.W.EachIs (fun (v : Value) (b : V × PyData) => RelV b.1 v) vs bs → (∀ b ∈ bs, Dp X.K H b.1 b.2) → PySem.W.EachIs (fun (v : Value) (b : V × PyData) => ∃ as, Reads s.heap v b.2 as) vs bs
  | _, _, .nil, _ => .nil
  | _, _, .cons h r, d => .cons (Dp.reads I _ _ _ (d _ (List.mem_cons_self ..)) h) (reads_of_each I r fun b hb => d b (List.mem_cons_of_mem _ hb))
def rSortedD (K : PySem.W.Frag) : List V → Hp → VK → Prop := fun vs H Q => ∃ (a : Addr) (bs : List (V × PyData)), vs = [V.ref a] ∧ SqL K H a (bs.map Prod.fst) ∧ (∀ b ∈ bs, Dp K H b.1 b.2) ∧ PySem.W.AllAlike (bs.map Prod.snd) ∧ PySem.W.Sortable (bs.map Prod.snd) ∧ (∀ b ∈ bs, b.2.depth ≤ 50) ∧
  ∀ p, H p = none → Q (.ref p) (upd H p (.lst ((bs.mergeSort (PySem.W.dataLe false Prod.snd)).map Prod.fst)))
theorem cr_sortedD {X : Cx} (hu : X.A.units + 64 < cLine) : CallR X (.builtin "sorted") (rSortedD X.K) := by
  intro pins s σ H vs us Q I r h
  obtain ⟨a, bs, rfl, hs, hd, hal, hso, hdp, q⟩ := h
  obtain ⟨its, rv, hl, hz⟩ := I.list hs
  rw [Vals.ref1 r]
  have e := each_of_vals rv
  refine PySem.W.sorted_data (enc := Prod.snd) hl.isList e (reads_of_each I e hd) hal hso (by rw [List.length_map] at hz; exact hz) (fun b hb => ?_) fun out h1 h2 => ?_
  · have := hdp b hb
    omega
  obtain ⟨ep, he'⟩ := PyProof.Rows.sortedAll_at s.heap its out.toArray
  have hlen : ((bs.mergeSort (PySem.W.dataLe false Prod.snd)).map Prod.fst).length ≤ sizeLine := by
    rw [List.length_map, List.length_mergeSort]
    rw [List.length_map] at hz
    exact hz
  exact ⟨.ref _, upd H (s.heap.objs.size + 1) (.lst ((bs.mergeSort (PySem.W.dataLe false Prod.snd)).map Prod.fst)), I.laid (t' := s.toks) (fun _ _ => PyProof.Rows.sortedAll_old) (Nat.le_succ _) ⟨hlen, out, ep, vals_of_each h2, he'⟩, rfl, q _ (I.hok.fresh (Nat.le_succ _))⟩
/-! ### sorted(xs, key=f), f a def -/
mutual
theorem dp_same {K : PySem.W.Frag} {H H' : Hp} (e : Same H H') : ∀ {v : V} {d : PyData}, Dp K H v d → Dp K H' v d
  | _, _, .non => .non
  | _, _, .bl b => .bl b
  | _, _, .int i => .int i
  | _, _, .str x => .str x
  | _, _, .lst h r => .lst (e.seq h) (dpAll_same e r)
  | _, _, .tup h r => .tup (Same.tup e h) (dpAll_same e r)
theorem dpAll_same {K : PySem.W.Frag} {H H' : Hp} (e : Same H H') : ∀ {vs : List V} {ds : List PyData}, DpAll K H vs ds → DpAll K H' vs ds
  | _, _, .nil => .nil
  | _, _, .cons h r => .cons (dp_same e h) (dpAll_same e r)
end
structure NewA (X : Cx) (pins : List (Addr × Obj)) (a : Addr) : Prop where
  big : X.s_0.heap.objs.size ≤ a
  loc : a ≠ X.env.locals
  fs : a ∉ X.fs
  cell : ∀ x c, X.env.cells.lookup x = some c → c ≠ a
  pin : ∀ p ∈ X.pn ++ pins, p.1 ≠ a
section
variable {X : Cx} {pins : List (Addr × Obj)} {σ : L2.St} {H : Hp} {s : Shared}
theorem NewA.of (I : Inv X pins σ H s) {a : Addr} (h : s.heap.objs.size ≤ a) : NewA X pins a := by
  refine ⟨Nat.le_trans I.sz h, fun z => ?_, I.nofs h, fun x c e z => ?_, fun p hp z => ?_⟩
  · have := I.lt
    rw [← z] at this
    exact Nat.lt_irrefl _ (Nat.lt_of_lt_of_le this h)
  · obtain ⟨v, o, ho, _⟩ := I.cell x c e
    rw [z] at ho
    exact Nat.lt_irrefl _ (Nat.lt_of_lt_of_le (Heap.lt_size ho) h)
  · obtain ⟨ho, _⟩ := I.pin p hp
    rw [z] at ho
    exact Nat.lt_irrefl _ (Nat.lt_of_lt_of_le (Heap.lt_size ho) h)
theorem NewA.cons {a b : Addr} {o : Obj} (N : NewA X pins a) (h : b ≠ a) : NewA X ((b, o) :: pins) a :=
  ⟨N.big, N.loc, N.fs, N.cell, fun p hp => by
    rcases List.mem_append.mp hp with z | z
    · exact N.pin p (List.mem_append_left _ z)
    · rcases List.mem_cons.mp z with z | z
      · rw [z]
        exact h
      · exact N.pin p (List.mem_append_right _ z)⟩
theorem pin_add {a : Addr} {o : Obj} (I : Inv X pins σ H s) (N : NewA X pins a) (ho : s.heap.get? a = some o) (hn : H a = none) (hd : ∀ v, o.data ≠ .cell v) : Inv X ((a, o) :: pins) σ H s :=
  I.pins_of fun p hp => by
    rcases List.mem_cons.mp hp with z | z
    · rw [z]
      exact ⟨ho, hn, N.loc, N.fs, hd⟩
    · exact I.pin p (List.mem_append_right _ z)
theorem pin_rest {q : Addr × Obj} (I : Inv X (q :: pins) σ H s) : Inv X pins σ H s := I.pins_of fun p hp => I.pin p (List.mem_append_right _ (List.mem_cons_of_mem _ hp))
theorem pin_set {a : Addr} {o o' : Obj} {h' : Heap} {t : Nat} (I : Inv X ((a, o) :: pins) σ H s) (N : NewA X pins a) (hs : Heap.SameBut a s.heap h') (ho : h'.get? a = some o') (hd : ∀ v, o'.data ≠ .cell v) : Inv X ((a, o') :: pins) σ H { s with heap := h', toks := t } := by
  have hn : H a = none := (I.pin (a, o) (List.mem_append_right _ (List.mem_cons_self ..))).2.1
  exact pin_add ((pin_rest I).turned (it := a) (fun b o hb e => (hs.2 b hb).trans e) hn N.loc (.inr N.big) N.cell N.pin) N ho hn hd
theorem ks_done {kS a : Addr} {h' : Heap} {tk c : Nat} {out : List Value} {xs : List V} (I : Inv X pins σ H s) (Nk : NewA X pins kS) (Na : NewA X pins a) (han : H a = none)
    (kp : ∀ b o, b ≠ kS → b ≠ a → s.heap.get? b = some o → h'.get? b = some o) (ha : h'.get? a = some (PyProof.Rows.seqObj "list" out.toArray c)) (hkn : H kS = none) (rv : Vals xs out) (hz : xs.length ≤ sizeLine) :
    Inv X pins σ (upd H a (.lst xs)) { s with heap := h', toks := tk } := by
  have n1 : ∀ {b : Addr}, b ∉ [kS, a] → b ≠ kS := fun h z => h (by rw [z]; exact List.mem_cons_self ..)
  have n2 : ∀ {b : Addr}, b ∉ [kS, a] → b ≠ a := fun h z => h (by rw [z]; exact List.mem_cons_of_mem _ (List.mem_cons_self ..))
  have na : ∀ {b : Addr} {u : HO}, H b = some u → b ≠ a := fun e z => by
    rw [z, han] at e
    cases e
  have nk : ∀ {b : Addr} {u : HO}, H b = some u → b ≠ kS := fun e z => by
    rw [z, hkn] at e
    cases e
  refine I.step (g' := s.gens) (d' := s.drawn) (ch := [kS, a]) (fun b hb => ?_) (fun b o _ _ hc e _ => kp b o (n1 hc) (n2 hc) e) (fun b o _ _ hc e _ => ⟨o.slots, kp b o (n1 hc) (n2 hc) e⟩) (fun b o hc _ n => by rw [upd_ne (n2 hc)]; exact n)
    (fun b o hc e => ⟨o, kp b o (n1 hc) (n2 hc) e⟩) (fun b xs e => by rw [upd_ne (na e)]; exact e) (fun b o u e => by rw [upd_ne (na e)]; exact e) (fun b ps e => ⟨#[], by rw [upd_ne (na e), e, Array.append_empty]⟩) (fun m hm => ?_) (fun b u e => ?_) I.bare
  · rcases List.mem_cons.mp hb with z | z
    · rw [z]
      exact ⟨.inr Nk.big, Nk.loc, Nk.cell, Nk.pin⟩
    · rw [List.mem_singleton.mp z]
      exact ⟨.inr Na.big, Na.loc, Na.cell, Na.pin⟩
  · obtain ⟨o, es, ep, ho, r⟩ := hm
    exact ⟨o, es, ep, kp _ o (fun z => Nk.loc z.symm) (fun z => Na.loc z.symm) ho, r⟩
  · by_cases hb : b = a
    · rw [hb, upd_same] at e
      cases e
      rw [hb]
      exact ⟨hz, out, c, rv, ha⟩
    · rw [upd_ne hb] at e
      refine (I.hok b u e).stay (fun d v hd q => ?_) (fun d q => by rw [upd_ne (na q)]; exact q) fun d xs q => by rw [upd_ne (na q)]; exact q
      rcases hd with z | z
      · rw [z] at q ⊢
        exact kp b v (nk e) hb q
      · exact kp d v (nk z) (na z) q
end
def dead : Obj → Obj := fun o => { o with data := .freed }
theorem dead_none {h : Heap} {a : Addr} {o : Obj} (e : h.get? a = some o) : (h.update a dead).get? a = none := by
  have hlt := Heap.lt_size e
  obtain ⟨os, lf⟩ := h
  have hlt2 : a < os.size := hlt
  show Heap.get? ⟨os.modify a dead, lf⟩ a = none
  unfold Heap.get?
  rw [Array.getElem?_modify, if_pos rfl, Array.getElem?_eq_getElem hlt2]
  rfl
def KeyTurn (X : Cx) (A : Around) (f : Value) (vs : List Value) (kz : List PyData) (H : Hp) : Prop :=
  ∀ (i : Nat) (u : Value) (k : PyData), vs[i]? = some u → kz[i]? = some k → ∀ (pins : List (Addr × Obj)) (σ : L2.St) (H1 : Hp) (s1 : Shared), Inv X pins σ H1 s1 → Same H H1 →
    wpAny (model X.prog X.w) A (call f [u]) (fun w s2 => ∃ y H2, Inv X pins σ H2 s2 ∧ Same H1 H2 ∧ RelV y w ∧ Dp X.K H2 y k) (fun _ _ => False) s1
theorem lst_nc {xs : Array Value} {n : Nat} : ∀ v, (PyProof.Rows.seqObj "list" xs n).data ≠ .cell v := fun v z => by cases z
theorem ks_snoc {R : Value → PyData → Prop} {u : Value} {k : PyData} (h : R u k) : ∀ {us : List Value} {ks : List PyData}, PySem.W.EachIs R us ks → PySem.W.EachIs R (us ++ [u]) (ks ++ [k])
  | _, _, .nil => .cons h .nil
  | _, _, .cons h1 r => .cons h1 (ks_snoc h r)
def KeysAt (K : PySem.W.Frag) (H : Hp) (us : List Value) (ks : List PyData) : Prop := PySem.W.EachIs (fun u k => ∃ y, RelV y u ∧ Dp K H y k) us ks
theorem ks_rest {X : Cx} {pins : List (Addr × Obj)} {σ : L2.St} {H : Hp} {s : Shared} {A : Around} {f : Value} {a kS : Addr} {e1 : Nat} {b : Bool} {vs : List Value} {kz : List PyData} {P : PySem.Fin → Shared → Prop} {E : Value → Shared → Prop}
    (I : Inv X ((kS, PyProof.Rows.seqObj "list" #[] 0) :: (a, PyProof.Rows.seqObj "list" #[] e1) :: pins) σ H s) (Nk : NewA X pins kS) (Na : NewA X pins a) (hka : kS ≠ a)
    (hlen : kz.length = vs.length) (hZ : vs.length ≤ sizeLine) (hal : PySem.W.AllAlike kz) (hsk : PySem.W.Sortable kz) (hu : ∀ d, d ∈ kz → A.units + d.depth < cLine) (turn : KeyTurn X A f vs kz H)
    (h : ∀ s' H' h' tk out c, Inv X pins σ H' s' → Same H H' → H' kS = none → H' a = none → (∀ b o, b ≠ kS → b ≠ a → s'.heap.get? b = some o → h'.get? b = some o) → h'.get? a = some (PyProof.Rows.seqObj "list" (List.toArray out) c) →
      PySem.W.KeyedOut b kz vs out → P (.done (.ret .none)) { s' with heap := h', toks := tk }) :
    wpAny (model X.prog X.w) A (PyProof.Rows.ksk_rest a f b vs.toArray e1 (.ref kS)) P E s := by
  unfold PyProof.Rows.ksk_rest
  apply wpAny_bind
  apply wpAny_rule
  try first
    | rw [List.forIn_toArray]
    | (rw [← Array.forIn_toList]; simp only [List.toList_toArray])
  apply wpAny_bind
  refine PyProof.Rows.ksk_fold (fun i t => ∃ H' ks ep, Inv X ((kS, PyProof.Rows.seqObj "list" ks ep) :: (a, PyProof.Rows.seqObj "list" #[] e1) :: pins) σ H' t ∧ Same H H' ∧ KeysAt X.K H' ks.toList (kz.take i)) vs 0 s
    ⟨H, #[], 0, I, Same.refl _, by rw [List.take_zero]; exact PySem.W.EachIs.nil⟩ (fun j u t hj hJ => ?_) fun t hJ => ?_
  · obtain ⟨H1, ks, ep, I1, S1, R1⟩ := hJ
    rw [Nat.zero_add] at R1 ⊢
    have hj2 : j < kz.length := by
      rw [hlen]
      exact (List.getElem?_eq_some_iff.mp hj).1
    have hk : kz[j]? = some kz[j] := List.getElem?_eq_getElem hj2
    have hn : ks.size ≤ vs.length := by
      have q := R1.length
      rw [Array.length_toList, List.length_take] at q
      omega
    apply wpAny_bind
    apply wpAny_attempt
    refine wpAny_mono (turn j u _ hj hk _ σ H1 t I1 S1) (fun w t2 hw => ?_) fun _ _ hF => hF.elim
    obtain ⟨y, H2, I2, S2, ry, dy⟩ := hw
    have pk := (I2.pin (kS, PyProof.Rows.seqObj "list" ks ep) (List.mem_append_right _ (List.mem_cons_self ..))).1
    have sb := Heap.SameBut.update t2.heap kS (Obj.mapSeq (·.push w))
    obtain ⟨c2, hc2⟩ : ∃ c2, (t2.heap.update kS (Obj.mapSeq (·.push w))).get? kS = some (PyProof.Rows.seqObj "list" (ks.push w) c2) := ⟨_, PyProof.Rows.get?_update_seq pk (·.push w)⟩
    have i3 := pin_set (t := t2.toks) I2 (Nk.cons fun z => hka z.symm) sb hc2 lst_nc
    apply wpAny_bind
    refine PyProof.Rows.listUpdate_at pk rfl ?_ (Nat.le_trans hn hZ) (Nat.le_trans (Nat.le_of_eq (Array.size_push ..)) (Nat.succ_le_succ (Nat.le_trans hn hZ)))
    refine wpAny_pure ⟨rfl, H2, ks.push w, c2, i3, S1.trans S2, ?_⟩
    have et : kz.take (j + 1) = kz.take j ++ [kz[j]] := by rw [List.take_add_one, hk]; rfl
    rw [et, Array.toList_push]
    exact ks_snoc ⟨y, ry, dy⟩ (R1.mono fun u k ⟨y, r, d⟩ => ⟨y, r, dp_same S2 d⟩)
  · obtain ⟨H1, ks, ep, I1, S1, R1⟩ := hJ
    rw [Nat.zero_add, ← hlen, List.take_length] at R1
    have pk := I1.pin (kS, PyProof.Rows.seqObj "list" ks ep) (List.mem_append_right _ (List.mem_cons_self ..))
    have pa := I1.pin (a, PyProof.Rows.seqObj "list" #[] e1) (List.mem_append_right _ (List.mem_cons_of_mem _ (List.mem_cons_self ..)))
    have hsz : ks.size = vs.length := by
      have q := R1.length
      rw [Array.length_toList] at q
      omega
    have er : PySem.W.EachIs (fun v k => ∃ as, Reads t.heap v k as) ks.toList kz := R1.mono fun u k ⟨y, r, d⟩ => Dp.reads I1 _ _ _ d r
    apply wpAny_bind
    refine PyProof.Rows.listItems_at pk.1 rfl ?_
    refine PySem.W.keyH_end (h₁ := t.heap.update kS dead) (κ := PySem.W.dataKind t.heap kz) (s := t) (a := a) (fun b o _ e => ?_) (dead_none pk.1) pk.1 pa.1 hka (PySem.W.SortsAt.data (s := t) er hal hsk hu) hsz hZ fun h3 tk3 c K3 hA => ?_
    · by_cases hb : b = kS
      · rw [hb, dead_none pk.1] at e
        cases e
      · rw [← (Heap.SameBut.update t.heap kS dead).2 b hb]
        exact e
    · refine h t H1 h3 tk3 _ c (pin_rest (pin_rest I1)) S1 pk.2.1 pa.2.1 (fun b o h1 h2 e => K3 b o h2 ?_) hA ⟨t.heap, ks.toList, hal, rfl, er⟩
      rw [(Heap.SameBut.update t.heap kS dead).2 b h1]
      exact e
theorem ks_sorted {X : Cx} {pins : List (Addr × Obj)} {σ : L2.St} {H : Hp} {s : Shared} {f : Value} {l : Addr} {kw : List (Str × Value)} {rev : Bool} {bs : List (V × PyData)} {Q : VK} (I : Inv X pins σ H s)
    (ha1 : argsOk "sorted" ⟨[.ref l], kw⟩) (ha2 : ∀ x, argsOk "list.sort" ⟨[.ref x], kw⟩) (ht : ∀ x, Builtin.«list.sort» ⟨[.ref x], kw⟩ = PyProof.Rows.ksk_tree x f rev)
    (hl : SqL X.K H l (bs.map Prod.fst)) (hal : PySem.W.AllAlike (bs.map Prod.snd)) (hsk : PySem.W.Sortable (bs.map Prod.snd)) (hd : ∀ b ∈ bs, X.A.units + 2 + b.2.depth < cLine)
    (turn : ∀ b ∈ bs, ∀ (u : Value), RelV b.1 u → ∀ (pins : List (Addr × Obj)) (σ : L2.St) (H1 : Hp) (s1 : Shared), Inv X pins σ H1 s1 → Same H H1 →
      wpAny (model X.prog X.w) X.A.in1.in1 (call f [u]) (fun w s2 => ∃ y H2, Inv X pins σ H2 s2 ∧ Same H1 H2 ∧ RelV y w ∧ Dp X.K H2 y b.2) (fun _ _ => False) s1)
    (q : ∀ p H', Same H H' → H' p = none → Q (.ref p) (upd H' p (.lst ((bs.mergeSort (PySem.W.dataLe rev Prod.snd)).map Prod.fst)))) :
    wpAny (model X.prog X.w) X.A (call (.builtin "sorted") [.ref l] kw) (EP X pins σ Q) X.xe s := by
  obtain ⟨its, rv, hi, hz⟩ := I.list hl
  have ea := each_of_vals rv
  have hlen : its.length = bs.length := by rw [← rv.length, List.length_map]
  have hz2 : its.length ≤ sizeLine := by rw [← rv.length]; exact hz
  refine PySem.W.sorted_of_sort hi.isList hz2 ha1 ha2 fun E' => ?_
  rw [ht]
  have nA : H (s.heap.objs.size + 1) = none := I.hok.fresh (Nat.le_succ _)
  have NA : NewA X pins (s.heap.objs.size + 1) := NewA.of I (Nat.le_succ _)
  have I0 : Inv X pins σ H { s with heap := PySem.W.copyHeap s.heap its, toks := s.toks } := I.kept fun _ _ => PySem.W.copyHeap_old
  have ho := PySem.W.copyHeap_at s.heap its
  have I0' := pin_add I0 NA ho nA lst_nc
  revert I0 I0' ho
  generalize PySem.W.copyHeap s.heap its = hc
  generalize hA : s.heap.objs.size + 1 = a at nA NA
  intro I0 ho I0'
  obtain ⟨e1, ho1⟩ : ∃ e1, (hc.update a (Obj.mapSeq fun _ => (#[] : Array Value))).get? a = some (PyProof.Rows.seqObj "list" #[] e1) := ⟨_, PyProof.Rows.get?_update_seq ho fun _ => #[]⟩
  have I1 := pin_set (t := s.toks) I0' NA (Heap.SameBut.update hc a (Obj.mapSeq fun _ => (#[] : Array Value))) ho1 lst_nc
  have I2 : Inv X ((a, PyProof.Rows.seqObj "list" #[] e1) :: pins) σ H { s with heap := (hc.update a (Obj.mapSeq fun _ => (#[] : Array Value))).push (PyProof.Rows.seqObj "tuple" its.toArray 0), toks := s.toks } := I1.kept fun _ _ e => Heap.get?_push_of_some _ e
  have I3 : Inv X ((a, PyProof.Rows.seqObj "list" #[] e1) :: pins) σ H { s with heap := ((hc.update a (Obj.mapSeq fun _ => (#[] : Array Value))).push (PyProof.Rows.seqObj "tuple" its.toArray 0)).push (PyProof.Rows.seqObj "list" #[] 0), toks := s.toks } := I2.kept fun _ _ e => Heap.get?_push_of_some _ e
  have NK := NewA.of I2 (Nat.le_refl _)
  have nK : H ((hc.update a (Obj.mapSeq fun _ => (#[] : Array Value))).push (PyProof.Rows.seqObj "tuple" its.toArray 0)).objs.size = none := I2.hok.fresh (Nat.le_refl _)
  have hk : (((hc.update a (Obj.mapSeq fun _ => (#[] : Array Value))).push (PyProof.Rows.seqObj "tuple" its.toArray 0)).push (PyProof.Rows.seqObj "list" #[] 0)).get? ((hc.update a (Obj.mapSeq fun _ => (#[] : Array Value))).push (PyProof.Rows.seqObj "tuple" its.toArray 0)).objs.size = some (PyProof.Rows.seqObj "list" #[] 0) := Heap.get?_push_size _ rfl
  have I4 := pin_add I3 NK hk nK lst_nc
  have hka : ((hc.update a (Obj.mapSeq fun _ => (#[] : Array Value))).push (PyProof.Rows.seqObj "tuple" its.toArray 0)).objs.size ≠ a := fun z => NK.pin (a, PyProof.Rows.seqObj "list" #[] e1) (List.mem_append_right _ (List.mem_cons_self ..)) z.symm
  have NK2 : NewA X pins ((hc.update a (Obj.mapSeq fun _ => (#[] : Array Value))).push (PyProof.Rows.seqObj "tuple" its.toArray 0)).objs.size := NewA.of (pin_rest I2) (Nat.le_refl _)
  unfold PyProof.Rows.ksk_tree
  apply wpAny_bind
  refine PyProof.Rows.listItems_at ho rfl ?_
  apply wpAny_bind
  refine PyProof.Rows.listUpdate_at ho rfl ?_ (by rw [List.size_toArray]; exact hz2) (Nat.zero_le _)
  apply wpAny_bind
  refine PyProof.Rows.seqEpoch_at ho1 rfl ?_
  apply wpAny_bind
  refine wpAny_newTuple ?_ (by show its.length ≤ _; exact hz2)
  apply wpAny_bind
  refine wpAny_newList ?_ (Nat.zero_le _)
  refine wpAny_holding ?_
  refine ks_rest (kz := bs.map Prod.snd) (vs := its) I4 NK2 NA hka (by rw [List.length_map, hlen]) hz2 hal hsk (fun d hd' => ?_) (fun i u k hu hk pins σ H1 s1 J S => ?_) fun s' H' h' tk out c J S n1 n2 kp hA' ko => ?_
  · obtain ⟨b, hb, rfl⟩ := List.mem_map.mp hd'
    exact hd b hb
  · rw [List.getElem?_map] at hk
    cases hb : bs[i]? with
    | none =>
      rw [hb] at hk
      cases hk
    | some b =>
      rw [hb] at hk
      cases hk
      refine turn b (List.mem_of_getElem? hb) u ?_ pins σ H1 s1 J S
      have hz' : (u, b) ∈ its.zip bs := List.mem_of_getElem? (i := i) (by rw [List.getElem?_zip_eq_some]; exact ⟨hu, hb⟩)
      exact ea.zip _ hz'
  · have eo := PySem.W.keyedOut_each (R := fun v b => RelV b.1 v) Prod.snd ko ea
    have ro := vals_of_each eo
    refine ⟨rfl, .ref a, upd H' a (.lst ((bs.mergeSort (PySem.W.dataLe rev Prod.snd)).map Prod.fst)), ks_done J NK2 NA n2 kp hA' n1 ro (by rw [ro.length, ko.length (by rw [List.length_map, hlen])]; exact hz2), rfl, q a H' S n2⟩
/-- a def as the key -/
theorem ks_turn {X : Cx} {CX : CXT} {k : Nat} {f : Addr} {fd : FuncData} {p : Str} {sp : Sp} {E : XK} {H : Hp} {b : V × PyData} (F : FnOk X.prog X.w X.K X.mg X.base CX k f fd [p] sp) (hr : Room k X.A.in1.in1) (hb : Binds X.K fd [p] [])
    (hx : ∀ H1 s1 e s2, CX X.stack H1 s1 E e s2 → False) (h : ∀ H1, Same H H1 → sp [b.1] H1 (fun y H2 => Same H1 H2 ∧ Dp X.K H2 y b.2) E) :
    ∀ (u : Value), RelV b.1 u → ∀ (pins : List (Addr × Obj)) (σ : L2.St) (H1 : Hp) (s1 : Shared), Inv X pins σ H1 s1 → Same H H1 →
      wpAny (model X.prog X.w) X.A.in1.in1 (call (.ref f) [u]) (fun w s2 => ∃ y H2, Inv X pins σ H2 s2 ∧ Same H1 H2 ∧ RelV y w ∧ Dp X.K H2 y b.2) (fun _ _ => False) s1 := by
  intro u ru pins σ H1 s1 I S
  refine wpAny_call (codeAny_mono (F.run X.A.in1.in1 X.stack s1 H1 ⟨[u], []⟩ [u] [b.1] _ E hr I.env0.in1.in1 (hb s1 [u] I.kIn rfl) (.cons ru .nil) (h H1 S)) fun r s' hq => ?_)
  cases r with
  | error e => exact hx _ _ _ _ hq
  | ok fl =>
    cases fl with
    | ret w =>
      obtain ⟨y, H2, I2, ry, S2, d⟩ := I.after hq
      exact ⟨y, H2, I2, S2, ry, d⟩
    | next => exact False.elim hq
    | brk => exact False.elim hq
    | cont => exact False.elim hq
def rSortedKf (K : PySem.W.Frag) (f : Addr) (sp : Sp) (E : XK) : List V → List V → Hp → VK → Prop := fun vs zs H Q => ∃ (a : Addr) (bs : List (V × PyData)), vs = [V.ref a] ∧ zs = [V.ref f] ∧ SqL K H a (bs.map Prod.fst) ∧ PySem.W.AllAlike (bs.map Prod.snd) ∧ PySem.W.Sortable (bs.map Prod.snd) ∧
  (∀ b ∈ bs, b.2.depth ≤ 50) ∧ (∀ b ∈ bs, ∀ H1, Same H H1 → sp [b.1] H1 (fun y H2 => Same H1 H2 ∧ Dp K H2 y b.2) E) ∧ ∀ p H', Same H H' → H' p = none → Q (.ref p) (upd H' p (.lst ((bs.mergeSort (PySem.W.dataLe false Prod.snd)).map Prod.fst)))
theorem cr_sortedKf {X : Cx} {CX : CXT} {k : Nat} {f : Addr} {fd : FuncData} {p : Str} {sp : Sp} {E : XK} (F : FnOk X.prog X.w X.K X.mg X.base CX k f fd [p] sp) (hr : Room (k + 2) X.A) (hb : Binds X.K fd [p] []) (hx : ∀ H1 s1 e s2, CX X.stack H1 s1 E e s2 → False) :
    CallRK X (.builtin "sorted") [Str.ofString "key"] (rSortedKf X.K f sp E) := by
  intro pins s σ H xs zs us ws Q I rx rz h
  obtain ⟨a, bs, rfl, rfl, hl, hal, hsk, hd, hf, q⟩ := h
  rw [Vals.ref1 rx, Vals.ref1 rz]
  have hu := hr.un
  exact ks_sorted (f := .ref f) (rev := false) I (PyProof.Rows.ksk_s1 _ _) (fun _ => PyProof.Rows.ksk_l1 _ _) (fun _ => PyProof.Rows.ksk_t1 _ _) hl hal hsk (fun b hb => by have := hd b hb; omega)
    (fun b hbm => ks_turn F hr.in1.in1 hb hx (hf b hbm)) q
/-! ### len(set(xs)), xs tuples of ints; sum(t) -/
def rLenT (K : PySem.W.Frag) (P : Program) (w : World) : List V → Hp → VK → Prop := fun xs H Q => ∃ (a : Addr) (L : List (Addr × List Int)), xs = [V.ref a] ∧ H a = some (SetTO P w a L) ∧ (∀ p ∈ L, SqT K H p.1 (p.2.map V.int)) ∧ ((L.map (·.2)).Nodup → Q (.int L.length) H)
theorem call_lenT {X : Cx} : CallR X (.builtin "len") (rLenT X.K X.prog X.w) := by
  intro pins s σ H xs us Q I r h
  obtain ⟨a, L, rfl, ha, ht, q⟩ := h
  rw [Vals.ref1 r]
  obtain ⟨R0, _, _⟩ := I.hok a _ ha
  obtain ⟨es, ep, t, R⟩ := SetT0.full R0 fun p hp => I.isT (ht p hp)
  obtain ⟨o, ho, hex, hd⟩ := R.ob
  have hl : es.size = L.length := by
    rw [← Array.length_toList, R.rows]
    unfold rowsOf
    rw [List.length_map]
  have hf := R.few
  exact call_len_set ho hex hd R.fits (by rw [hl]; omega) ⟨.int L.length, H, I.tok _, ⟨_, by rw [hl]⟩, q R.nd⟩
def rSumT (K : PySem.W.Frag) : List V → Hp → VK → Prop := fun vs H Q => ∃ (a : Addr) (ns : List Int), vs = [V.ref a] ∧ SqT K H a (ns.map V.int) ∧ Q (.int ns.sum) H
theorem cr_sumT {X : Cx} (hc : X.calm = true) : CallR X (.builtin "sum") (rSumT X.K) := by
  intro pins s σ H vs us Q I r h
  obtain ⟨a, ns, rfl, ha, q⟩ := h
  rw [Vals.ref1 r]
  obtain ⟨its, rv, ht, hz⟩ := I.tuple ha
  have hi : IntsAre its ns := by simpa using rv.ints
  obtain ⟨xs, hx⟩ := hi.allInts.items
  have hn : numsOf its = ns := hi.numsOf
  have hn2 : numsOf (intItems xs).toList = ns := by rw [← hx]; exact hn
  rw [hx] at ht
  rw [nums_intItems] at hn2
  refine PySem.W.ktm_sumG (I.ok.hd hc) ht fun h' tk t' hk => ?_
  rw [preSum_eq, List.take_of_length_le (by simp), hn2]
  exact ⟨.int ns.sum, H, I.kept hk, ⟨_, rfl⟩, q⟩
theorem cr_sumTK {X : Cx} {K : PySem.W.Frag} (h : X.K = K) (hc : X.calm = true) : CallR X (.builtin "sum") (rSumT K) := by
  subst h
  exact cr_sumT hc
/-! ### rows of objects that stand for data -/
structure RepG {β : Type} (At : V → β → Prop) (rs : List V) (D : List β) : Prop where
  len : rs.length = D.length
  at_ : ∀ (i : Nat) (x : V) (e : β), rs[i]? = some x → D[i]? = some e → At x e
theorem RepG.nil {β : Type} {At : V → β → Prop} : RepG At [] [] := ⟨rfl, fun i x e h => by simp at h⟩
theorem RepG.imp {β : Type} {At At' : V → β → Prop} {rs : List V} {D : List β} (h : RepG At rs D) (f : ∀ x e, At x e → At' x e) : RepG At' rs D := ⟨h.len, fun i x e h1 h2 => f x e (h.at_ i x e h1 h2)⟩
theorem RepG.snoc {β : Type} {At : V → β → Prop} {rs : List V} {D : List β} {x : V} {e : β} (h : RepG At rs D) (E : At x e) : RepG At (rs ++ [x]) (D ++ [e]) := by
  refine ⟨by rw [List.length_append, List.length_append, h.len]; rfl, fun i y f h1 h2 => ?_⟩
  rcases Nat.lt_or_ge i rs.length with z | z
  · rw [List.getElem?_append_left z] at h1
    rw [List.getElem?_append_left (by rw [← h.len]; exact z)] at h2
    exact h.at_ i y f h1 h2
  · rw [List.getElem?_append_right z] at h1
    rw [List.getElem?_append_right (by rw [← h.len]; exact z), ← h.len] at h2
    generalize i - rs.length = j at h1 h2
    rcases j with _ | j
    · simp at h1 h2
      rw [← h1, ← h2]
      exact E
    · simp at h1
theorem RepG.get {β : Type} {At : V → β → Prop} {rs : List V} {D : List β} (h : RepG At rs D) {i : Nat} {x : V} (hx : rs[i]? = some x) : ∃ e, D[i]? = some e ∧ At x e := by
  have hi := (List.getElem?_eq_some_iff.mp hx).1
  have hi2 : i < D.length := by rw [← h.len]; exact hi
  have hd : D[i]? = some D[i] := List.getElem?_eq_getElem hi2
  exact ⟨_, hd, h.at_ i x _ hx hd⟩
theorem RepG.fst {β : Type} {At : V → β → Prop} {rs : List V} {D : List β} (h : RepG At rs D) : (rs.zip D).map Prod.fst = rs := List.map_fst_zip (Nat.le_of_eq h.len)
theorem RepG.snd {β : Type} {At : V → β → Prop} {rs : List V} {D : List β} (h : RepG At rs D) : (rs.zip D).map Prod.snd = D := List.map_snd_zip (Nat.le_of_eq h.len.symm)
theorem RepG.mem {β : Type} {At : V → β → Prop} {rs : List V} {D : List β} (h : RepG At rs D) : ∀ z ∈ rs.zip D, At z.1 z.2 := fun z hz => by
  obtain ⟨i, hi⟩ := List.mem_iff_getElem?.mp hz
  obtain ⟨h1, h2⟩ := List.getElem?_zip_eq_some.mp hi
  exact h.at_ i _ _ h1 h2
theorem RepG.of_zs {β : Type} {At : V → β → Prop} {zs : List (V × β)} (h : ∀ z ∈ zs, At z.1 z.2) : RepG At (zs.map Prod.fst) (zs.map Prod.snd) := by
  refine ⟨by rw [List.length_map, List.length_map], fun i x e h1 h2 => ?_⟩
  rw [List.getElem?_map] at h1 h2
  cases hz : zs[i]? with
  | none =>
    rw [hz] at h1
    cases h1
  | some z =>
    rw [hz] at h1 h2
    cases h1
    cases h2
    exact h z (List.mem_of_getElem? hz)
theorem RepG.dps {β : Type} {K : PySem.W.Frag} {H : Hp} {At : V → β → Prop} {k : β → PyData} (h2 : ∀ x e, At x e → Dp K H x (k e)) : ∀ {zs : List (V × β)}, (∀ z ∈ zs, At z.1 z.2) → DpAll K H (zs.map Prod.fst) ((zs.map Prod.snd).map k)
  | [], _ => .nil
  | z :: zs, h => .cons (h2 _ _ (h z (List.mem_cons_self ..))) (RepG.dps h2 fun y hy => h y (List.mem_cons_of_mem _ hy))
/-! ### the order of edits -/
def stampE (e : Ed) : Int := 1 + e.v.sum
def ltE (e f : Ed) : Prop := stampE e < stampE f ∨ (stampE e = stampE f ∧ (e.p < f.p ∨ (e.p = f.p ∧ e.n < f.n)))
instance (e f : Ed) : Decidable (ltE e f) := by unfold ltE; infer_instance
def keyE (e : Ed) : PyData := .tuple [.int (stampE e), idD e.id]
theorem alike_id (z w : Int × Int) : PySem.W.alike (idD z) (idD w) = true := by simp [idD, PySem.W.alike, PySem.W.alikeAll]
theorem lt_idD (e f : Ed) : PySem.W.dataLt (idD e.id) (idD f.id) = decide (e.p < f.p ∨ (e.p = f.p ∧ e.n < f.n)) := by
  unfold idD
  rw [PySem.W.dataLt_ii]
  refine decide_eq_decide.mpr ?_
  show (1 + (e.p : Int) < 1 + (f.p : Int) ∨ (1 + (e.p : Int) = 1 + (f.p : Int) ∧ e.n < f.n)) ↔ _
  omega
theorem id_iff (e f : Ed) : e.id = f.id ↔ e.p = f.p ∧ e.n = f.n := by
  constructor
  · intro h
    have h1 : 1 + (e.p : Int) = 1 + f.p := congrArg Prod.fst h
    exact ⟨by omega, congrArg Prod.snd h⟩
  · rintro ⟨h1, h2⟩
    unfold Ed.id
    rw [h1, h2]
theorem lt_keyE (e f : Ed) : PySem.W.dataLt (keyE e) (keyE f) = decide (ltE e f) := by
  unfold keyE
  rw [PySem.W.dataLt_pair (by simp [PySem.W.alike]) (alike_id _ _), idD_eqv, PySem.W.dataLt_int, lt_idD]
  simp only [PyData.eqv, beq_iff_eq, decide_eq_true_iff]
  have hi := id_iff e f
  by_cases h1 : stampE e = stampE f
  · rw [if_pos h1]
    by_cases h2 : e.id = f.id
    · rw [if_pos h2]
      have h3 := hi.mp h2
      refine (decide_eq_false ?_).symm
      unfold ltE
      omega
    · rw [if_neg h2]
      refine decide_eq_decide.mpr ?_
      unfold ltE
      omega
  · rw [if_neg h1]
    refine decide_eq_decide.mpr ?_
    unfold ltE
    omega
theorem keyE_alike (e f : Ed) : PySem.W.alike (keyE e) (keyE f) = true := by
  have := alike_id e.id f.id
  simp [keyE, PySem.W.alike, PySem.W.alikeAll, this]
theorem keyE_depth (e : Ed) : (keyE e).depth ≤ 50 := by
  have := idD_depth e.id
  simp only [keyE, PyData.depth, PyData.depthAll]
  omega
def spStamp (K : PySem.W.Frag) : Sp := fun vs H Q _ => ∃ (x : V) (e : Ed), vs = [x] ∧ EdAt H x e ∧ Q (.int (stampE e)) H
theorem okStamp (T : Txt K mg) : FnOk P w K mg base CX0 1 T.fStamp T.fdStamp ["edit"] (spStamp K) := by
  refine T.FStamp.ok scStamp (fun vs H Q E h => ?_) (fun cdv A outer s H vs Q E hr h => ?_)
  · obtain ⟨x, e, rfl, _⟩ := h
    rfl
  · obtain ⟨x, e, rfl, ⟨q0, a0, b0, c0, rfl, h1, h2, h3⟩, q⟩ := h
    -- slots edit=0
    refine ⟨_, (pss_one (ps_ret (pe_op op_add pe_int (pe_callB (cr_sumT rfl) (by rfl) T.z_sum (by decide +kernel) (pa_cons (pe_ix ix_tup (pv 0) pe_int (fun _ _ => rfl)) pa_nil))))), ?_⟩
    exact ⟨_, rfl, q0, _, _, _, rfl, rfl, SqT.of h1, atI_nat (j := 1) rfl, b0, e.v, rfl, SqT.of h3, _, _, rfl, rfl, q⟩
def spHasSeen (K : PySem.W.Frag) : Sp := fun vs H Q _ => ∃ (x y : V) (e f : Ed), vs = [x, y] ∧ EdAt H x e ∧ EdAt H y f ∧ OkE e ∧ OkE f ∧ Q (.bl (decide (f.n ≤ e.v.getD f.p 0))) H
theorem okHasSeen (T : Txt K mg) : FnOk P w K mg base CX0 2 T.fHasSeen T.fdHasSeen ["edit", "other"] (spHasSeen K) := by
  refine T.FHasSeen.ok scHasSeen (fun vs H Q E h => ?_) (fun cdv A outer s H vs Q E hr h => ?_)
  · obtain ⟨x, y, e, f, rfl, _⟩ := h
    rfl
  · obtain ⟨x, y, e, f, rfl, ⟨q1, a1, b1, c1, rfl, h1, h2, h3⟩, ⟨q2, a2, b2, c2, rfl, h4, h5, h6⟩, oe, of, q⟩ := h
    -- slots edit=0 other=1
    refine ⟨_, (pss_one (ps_ret (pe_call (okCounts T) (hr.mono (by decide)) (by rfl) T.gCounts T.FCounts.kp T.bCounts .nil pass0 (pa_cons (pe_ix ix_tup (pv 0) pe_int (fun _ _ => rfl)) (pa_cons (pe_ix ix_tup (pv 1) pe_int (fun _ _ => rfl)) pa_nil))))), ?_⟩
    exact ⟨_, rfl, q1, _, _, _, rfl, rfl, SqT.of h1, atI_nat (j := 1) rfl, _, rfl, q2, _, _, _, rfl, rfl, SqT.of h4, atI_nat (j := 0) rfl, b1, a2, e.v, f.p, f.n, rfl, SqT.of h3, SqT.of h5, by rw [oe.v]; exact of.p, q⟩
def spPlace (K : PySem.W.Frag) : Sp := fun vs H Q _ => ∃ (x : V) (e : Ed), vs = [x] ∧ EdAt H x e ∧ ∀ (p : Addr) (y : V) (H' : Hp), Same H H' → H' p = some (.tup [.int (stampE e), y]) → Dp K H' y (idD e.id) → Q (.ref p) H'
theorem okPlace (T : Txt K mg) : FnOk P w K mg base CX0 2 T.fPlace T.fdPlace ["edit"] (spPlace K) := by
  refine T.FPlace.ok scPlace (fun vs H Q E h => ?_) (fun cdv A outer s H vs Q E hr h => ?_)
  · obtain ⟨x, e, rfl, _⟩ := h
    rfl
  · obtain ⟨x, e, rfl, ⟨q0, a0, b0, c0, rfl, h1, h2, h3⟩, q⟩ := h
    -- slots edit=0
    refine ⟨_, (pss_one (ps_ret (pe_tup (pa_cons (pe_call (okStamp T) (hr.mono (by decide)) (by rfl) T.gStamp T.FStamp.kp T.bStamp .nil pass0 (pa_cons (pv 0) pa_nil)) (pa_cons (pe_ix ix_tup (pv 0) pe_int (fun _ _ => rfl)) pa_nil))))), ?_⟩
    refine ⟨_, rfl, _, e, rfl, ⟨q0, a0, b0, c0, rfl, h1, h2, h3⟩, _, rfl, q0, _, _, _, rfl, rfl, SqT.of h1, atI_nat (j := 0) rfl, (by show 2 ≤ sizeLine; decide), fun p hp => ?_⟩
    exact q p (.ref a0) _ (same_new hp) upd_same (dp_id (same_new hp _ _ h2))
def spOrdered (K : PySem.W.Frag) : Sp := fun vs H Q _ => ∃ (β : Type) (k : β → Ed) (L : Addr) (rs : List V) (D : List β), vs = [.ref L] ∧ SqL K H L rs ∧ RepG (fun x b => EdAt H x (k b)) rs D ∧ D.length ≤ 60 ∧ (D.map fun b => (k b).id).Nodup ∧
  ∀ (l : Addr) (H' : Hp) (zs : List (V × β)), Same H H' → zs.Perm (rs.zip D) → zs.Pairwise (fun a b => ¬ ltE (k b.2) (k a.2)) → H' l = some (.lst (zs.map Prod.fst)) → Q (.ref l) H'
theorem okOrdered (T : Txt K mg) : FnOk P w K mg base CX0 5 T.fOrdered T.fdOrdered ["edits"] (spOrdered K) := by
  refine T.FOrdered.ok scOrdered (fun vs H Q E h => ?_) (fun cdv A outer s H vs Q E hr h => ?_)
  · obtain ⟨β, k, L, rs, D, rfl, _⟩ := h
    rfl
  · obtain ⟨β, k, L, rs, D, rfl, hL, R, hz, nd, q⟩ := h
    -- slots edits=0 edit=1
    refine ⟨_, (pss_cons (ps_if (pt_cmpR op_eq (pe_callB call_lenT (by rfl) T.z_len PySem.boot_len (pa_cons (pe_callTy (cr_setOfT rfl hr.units) (by rfl) T.z_set (by decide +kernel) (pa_cons (pe_lc (own := [("edit", 1)]) (g := gName 1) (tt := tYes) rfl scOrdered.nd (pi_list (pv 0)) (blkOk_by (own := [("edit", 1)]) (N := ["edits", "edit"]) (sc := defScope sOrdered) (by decide +kernel)) (fun _ _ _ _ _ => (pg_name (i := 1) scOrdered.nd rfl (Or.inl rfl))) (fun _ _ _ _ _ => pts_nil) (fun _ _ _ _ _ => (pe_ix (ix_tupK (K := K) rfl) (pv 1) pe_int (fun _ _ => rfl)))) pa_nil)) pa_nil)) (pe_callB call_len_seq (by rfl) T.z_len PySem.boot_len (pa_cons (pv 0) pa_nil)) (nomark _))
          (pss_one (ps_ret (pe_callBK (cr_sortedKf (E := fun _ _ _ => True) (okPlace T) (hr.mono (by decide)) T.bPlace (fun _ _ _ _ z => z)) (by rfl) T.z_sorted (by decide +kernel) (pa_cons (pv 0) pa_nil) (pk_cons (pe_glob (v := .ref T.fPlace) rfl T.gPlace rfl) pk_nil))))
          pss_nil)
        (pss_one ps_never)), ?_⟩
    refine ⟨_, rfl, L, rfl, ⟨_, hL⟩, fun N hN => ?_⟩
    refine lc_it (walk_list (a := L) (xs := rs)) (fun i H' => Same H H' ∧ ∃ ks : List (Addr × List Int), H' N = some (.lst (ks.map fun p => V.ref p.1)) ∧ ks.map (·.2) = (D.take i).map (fun b => [1 + ((k b).p : Int), (k b).n]) ∧ ∀ p ∈ ks, H p.1 = some (.tup (p.2.map V.int)))
      ⟨same_new hN, [], upd_same, rfl, fun p hp => by simp at hp⟩ (fun i H' _ h => h.1.seq hL) ?_ ?_
    · rintro i x H1 H2 hi ⟨s1, ks, hN1, e1, t1⟩ ⟨rfl, hx⟩
      obtain ⟨e, he, E⟩ := R.get hx
      obtain ⟨q0, a0, b0, c0, rfl, h1, h2, h3⟩ := E
      refine ⟨rfl, yesT ⟨_, rfl, q0, _, _, _, rfl, rfl, SqT.of (s1 _ _ h1), atI_nat (j := 0) rfl, _, hN1, ?_, same_mut s1 hN, ks ++ [(a0, [1 + ((k e).p : Int), (k e).n])], ?_, ?_, ?_⟩⟩
      · rw [List.length_map]
        have := congrArg List.length e1
        rw [List.length_map, List.length_map, List.length_take] at this
        exact small1000 (by omega)
      · rw [upd_same, List.map_append]
        rfl
      · rw [List.take_add_one, he, List.map_append, List.map_append, e1]
        rfl
      · intro p hp
        rcases List.mem_append.mp hp with z | z
        · exact t1 p z
        · rw [List.mem_singleton.mp z]
          exact h2
    rintro H1 ⟨s1, ks, hN1, e1, t1⟩
    rw [List.take_of_length_le (by rw [R.len]; exact Nat.le_refl _)] at e1
    have kl : ks.length = D.length := by
      have := congrArg List.length e1
      rwa [List.length_map, List.length_map] at this
    have ndk : (ks.map (·.2)).Nodup := by
      rw [e1]
      refine List.pairwise_map.mpr ((List.pairwise_map.mp nd).imp fun {a b} hne z => hne ?_)
      injection z with z1 z2
      injection z2 with z2 z3
      exact Prod.ext z1 z2
    refine ⟨N, ks, rfl, SqL.of hN1, fun p hp => SqT.of (s1 _ _ (t1 p hp)), by omega, fun a M ha m1 m2 => ?_⟩
    have s2 := s1.trans (same_new (o := SetTO P w a M) ha)
    refine ⟨a, M, rfl, upd_same, fun p hp => SqT.of (s2 _ _ (t1 p (m1 p hp))), fun ndM => ?_⟩
    have ml : M.length = D.length := by
      have pm : (M.map (·.2)).Perm (ks.map (·.2)) := (List.perm_ext_iff_of_nodup ndM ndk).mpr fun z => ⟨fun hz => by
        obtain ⟨p, hp, rfl⟩ := List.mem_map.mp hz
        exact List.mem_map.mpr ⟨p, m1 p hp, rfl⟩, fun hz => by
        obtain ⟨p, hp, rfl⟩ := List.mem_map.mp hz
        exact m2 p hp⟩
      have := pm.length_eq
      rw [List.length_map, List.length_map] at this
      omega
    refine ⟨_, rfl, L, rs, rfl, .inl (s2.seq hL), rfl, _, rfl, ite2 (fun c => ?_) (fun c => ?_)⟩
    · have ez : ∀ z ∈ (rs.zip D).map fun z => ((z.1, keyE (k z.2)) : V × PyData), ∃ y ∈ rs.zip D, z = (y.1, keyE (k y.2)) := fun z hz => by
        obtain ⟨y, hy, rfl⟩ := List.mem_map.mp hz
        exact ⟨y, hy, rfl⟩
      refine ⟨_, rfl, L, (rs.zip D).map fun z => (z.1, keyE (k z.2)), rfl, rfl, ?_, ?_, .inl ?_, ?_, ?_, fun p H3 s3 hp => ?_⟩
      · rw [List.map_map]
        show SqL K _ L ((rs.zip D).map Prod.fst)
        rw [R.fst]
        exact s2.seq hL
      · intro d hd d' hd'
        obtain ⟨z, hz, rfl⟩ := List.mem_map.mp hd
        obtain ⟨z', hz', rfl⟩ := List.mem_map.mp hd'
        obtain ⟨y, _, rfl⟩ := ez z hz
        obtain ⟨y', _, rfl⟩ := ez z' hz'
        exact keyE_alike _ _
      · intro d hd
        obtain ⟨z, hz, rfl⟩ := List.mem_map.mp hd
        obtain ⟨y, _, rfl⟩ := ez z hz
        exact ⟨_, _, rfl⟩
      · intro z hz
        obtain ⟨y, _, rfl⟩ := ez z hz
        exact keyE_depth _
      · intro z hz H3 s3
        obtain ⟨y, hy, rfl⟩ := ez z hz
        exact ⟨y.1, k y.2, rfl, (R.mem y hy).mono (TK.of (s2.trans s3)), fun p v H4 s4 hp hv => ⟨s4, .tup (SqT.of hp) (.cons (.int _) (.cons hv .nil))⟩⟩
      · have em : ((((rs.zip D).map fun z => ((z.1, keyE (k z.2)) : V × PyData)).mergeSort (PySem.W.dataLe false Prod.snd)).map Prod.fst) = ((rs.zip D).mergeSort fun a b => decide (¬ ltE (k b.2) (k a.2))).map Prod.fst := by
          rw [← List.map_mergeSort (r := fun a b : V × β => decide (¬ ltE (k b.2) (k a.2))) (f := fun z : V × β => ((z.1, keyE (k z.2)) : V × PyData)), List.map_map]
          · rfl
          · intro a _ b _
            show _ = !PySem.W.dataLt (keyE (k b.2)) (keyE (k a.2))
            rw [lt_keyE, ← decide_not]
        rw [em]
        refine q p _ _ ((s2.trans s3).trans (same_new hp)) (List.mergeSort_perm _ _) ?_ upd_same
        refine (List.pairwise_mergeSort (le := fun a b : V × β => decide (¬ ltE (k b.2) (k a.2))) (fun a b c h1 h2 => ?_) (fun a b => ?_) _).imp fun h => of_decide_eq_true h
        · have h1 := of_decide_eq_true h1
          have h2 := of_decide_eq_true h2
          refine decide_eq_true fun h3 => ?_
          unfold ltE at h1 h2 h3
          omega
        · rw [Bool.or_eq_true, decide_eq_true_iff, decide_eq_true_iff]
          unfold ltE
          omega
    · exact absurd (decide_eq_true (by rw [ml, R.len])) c
def spNumbers (K : PySem.W.Frag) : Sp := fun vs H Q _ => ∃ (L : Addr) (rs : List V) (D : List Ed) (p : Nat), vs = [.ref L, .int (1 + (p : Int))] ∧ SqL K H L rs ∧ Rep H rs D ∧ D.length ≤ 40 ∧ ∀ (ys : List Int) (l : Addr) (H' : Hp), Same H H' → ys.Perm (nums D p) → ys.Pairwise (· ≤ ·) → H' l = some (.lst (ys.map V.int)) → Q (.ref l) H'
theorem okNumbers (T : Txt K mg) : FnOk P w K mg base CX0 1 T.fNumbers T.fdNumbers ["edits", "person"] (spNumbers K) := by
  refine T.FNumbers.ok scNumbers (fun vs H Q E h => ?_) (fun cdv A outer s H vs Q E hr h => ?_)
  · obtain ⟨L, rs, D, p, rfl, _⟩ := h
    rfl
  · obtain ⟨L, rs, D, p, rfl, hL, R, hz, q⟩ := h
    -- slots edits=0 person=1 edit=2
    refine ⟨_, (pss_one (ps_ret (pe_callB cr_sortedI (by rfl) T.z_sorted (by decide +kernel) (pa_cons (pe_lc (own := [("edit", 2)]) (g := gName 2) rfl scNumbers.nd (pi_list (pv 0)) (blkOk_by (own := [("edit", 2)]) (N := ["edits", "person", "edit"]) (sc := defScope sNumbers) (by decide +kernel)) (fun _ _ _ _ _ => (pg_name (i := 2) scNumbers.nd rfl (Or.inl rfl))) (fun _ _ _ _ _ => (pts_one (pt_cmpR op_eq (pe_ix (ix_tupK (K := K) rfl) (pe_ix (ix_tupK (K := K) rfl) (pv 2) pe_int (fun _ _ => rfl)) pe_int (fun _ _ => rfl)) (pv 1) (nomark _)))) (fun _ _ _ _ _ => (pe_ix (ix_tupK (K := K) rfl) (pe_ix (ix_tupK (K := K) rfl) (pv 2) pe_int (fun _ _ => rfl)) pe_int (fun _ _ => rfl)))) pa_nil)))), ?_⟩
    refine ⟨_, rfl, L, rfl, ⟨_, hL⟩, fun N hN => ?_⟩
    refine lc_it (walk_list (a := L) (xs := rs)) (fun i H' => Same H H' ∧ H' N = some (.lst ((nums (D.take i) p).map V.int))) ⟨same_new hN, upd_same⟩ (fun i H' _ h => h.1.seq hL) ?_ ?_
    · rintro i x H1 H2 hi ⟨s1, hN1⟩ ⟨rfl, hx⟩
      obtain ⟨e, he, E⟩ := R.get hx
      obtain ⟨q0, a0, b0, c0, rfl, h1, h2, h3⟩ := E.mono (TK.of s1)
      have st := nums_step (p := p) he
      refine ⟨rfl, _, rfl, q0, _, _, _, rfl, rfl, SqT.of h1, atI_nat (j := 0) rfl, a0, _, _, _, rfl, rfl, SqT.of h2, atI_nat (j := 0) rfl, _, rfl, rfl, _, rfl, ite2 (fun c => ?_) (fun c => ?_)⟩
      · have ep : e.p = p := by
          have := V.int.inj (of_decide_eq_true c)
          omega
        rw [if_pos ep] at st
        refine ⟨_, rfl, q0, _, _, _, rfl, rfl, SqT.of h1, atI_nat (j := 0) rfl, a0, _, _, _, rfl, rfl, SqT.of h2, atI_nat (j := 1) rfl, _, hN1, ?_, ?_, ?_⟩
        · rw [List.length_map]
          exact small1000 (by have := nums_len (D.take i) p; rw [List.length_take] at this; omega)
        · exact same_mut s1 hN
        · rw [upd_same, st, List.map_append]
          rfl
      · have ep : ¬ e.p = p := fun z => c (decide_eq_true (by rw [z]))
        rw [if_neg ep, List.append_nil] at st
        exact ⟨s1, by rw [st]; exact hN1⟩
    · rintro H1 ⟨s1, hN1⟩
      rw [List.take_of_length_le (by rw [R.len]; exact Nat.le_refl _)] at hN1
      exact ⟨N, _, rfl, SqL.of hN1, fun ys l hp hs hl => q ys l _ (s1.trans (same_new hl)) hp hs upd_same⟩
/-- what includes says of two rows -/
def incl (ns ms : List Int) : List Bool := (List.range ns.length).map fun i => decide (ms.getD i 0 ≤ ns.getD i 0)
/-! ### closed lists -/
def vers (D : List Ed) : List Int := (List.range 4).map fun p : Nat => ((nums D p).length : Int)
theorem vers_at (D : List Ed) {j : Nat} (h : j < 4) : (vers D).getD j 0 = ((nums D j).length : Int) := by
  unfold vers
  rw [List.getD_eq_getElem?_getD, List.getElem?_map, List.getElem?_range h]
  rfl
def gapOk (D : List Ed) (p : Nat) : Prop := (nums D p).Nodup ∧ ∀ m ∈ nums D p, ∀ k, 1 ≤ k → k ≤ m → k ∈ nums D p
def row (n : Nat) (a : Int) : List Int := (List.range n).map fun i : Nat => a + (i : Int)
theorem mem_row {n : Nat} {a k : Int} : k ∈ row n a ↔ a ≤ k ∧ k < a + n := by
  unfold row
  rw [List.mem_map]
  constructor
  · rintro ⟨i, hi, rfl⟩
    have := List.mem_range.mp hi
    omega
  · intro h
    exact ⟨(k - a).toNat, List.mem_range.mpr (by omega), by omega⟩
theorem row_succ (n : Nat) (a : Int) : row (n + 1) a = a :: row n (a + 1) := by
  unfold row
  rw [List.range_succ_eq_map, List.map_cons, List.map_map]
  congr 1
  · omega
  · refine List.map_congr_left fun i _ => ?_
    show a + ((i + 1 : Nat) : Int) = a + 1 + (i : Int)
    omega
theorem row_len (n : Nat) (a : Int) : (row n a).length = n := by
  unfold row
  rw [List.length_map, List.length_range]
theorem row_nodup : ∀ (n : Nat) (a : Int), (row n a).Nodup
  | 0, a => List.nodup_nil
  | n + 1, a => by
    rw [row_succ]
    refine List.nodup_cons.mpr ⟨fun h => ?_, row_nodup n (a + 1)⟩
    have := mem_row.mp h
    omega
theorem up_list : ∀ (ys : List Int) (a : Int), ys.Pairwise (· < ·) → (∀ m ∈ ys, a ≤ m) → (∀ m ∈ ys, ∀ k, a ≤ k → k ≤ m → k ∈ ys) → ys = row ys.length a
  | [], a, _, _, _ => rfl
  | y :: t, a, hs, hl, hc => by
    obtain ⟨h1, h2⟩ := List.pairwise_cons.mp hs
    have hy := hl y (List.mem_cons_self ..)
    have ha : a ∈ y :: t := hc y (List.mem_cons_self ..) a (by omega) hy
    have e : y = a := by
      rcases List.mem_cons.mp ha with z | z
      · exact z.symm
      · have := h1 a z
        omega
    subst e
    rw [List.length_cons, row_succ, ← up_list t (y + 1) h2 (fun m hm => by have := h1 m hm; omega) fun m hm k hk1 hk2 => ?_]
    have := hc m (List.mem_cons_of_mem _ hm) k (by omega) hk2
    rcases List.mem_cons.mp this with z | z
    · omega
    · exact z
theorem gap_row {D : List Ed} {p : Nat} {ys : List Int} (h1 : ∀ e ∈ D, OkE e) (hp : ys.Perm (nums D p)) (hs : ys.Pairwise (· ≤ ·)) : ys = row ys.length 1 ↔ gapOk D p := by
  constructor
  · intro e
    refine ⟨hp.nodup_iff.mp (by rw [e]; exact row_nodup _ _), fun m hm k k1 km => ?_⟩
    have hm2 := hp.mem_iff.mpr hm
    rw [e] at hm2
    have := mem_row.mp hm2
    refine hp.mem_iff.mp ?_
    rw [e]
    exact mem_row.mpr ⟨k1, by omega⟩
  · rintro ⟨hn, hc⟩
    refine up_list ys 1 ?_ (fun m hm => ?_) fun m hm k k1 km => hp.mem_iff.mpr (hc m (hp.mem_iff.mp hm) k k1 km)
    · refine (hs.and (hp.nodup_iff.mpr hn)).imp fun h => ?_
      have := h.1
      have := h.2
      omega
    · obtain ⟨e, he, _, rfl⟩ := mem_nums.mp (hp.mem_iff.mp hm)
      exact (h1 e he).n
theorem sorted_of (xs : List Int) : ∃ ys : List Int, ys.Perm xs ∧ ys.Pairwise (· ≤ ·) := by
  refine ⟨xs.mergeSort fun a b => decide (a ≤ b), List.mergeSort_perm _ _, ?_⟩
  refine (List.pairwise_mergeSort (le := fun a b : Int => decide (a ≤ b)) (fun a b c h1 h2 => ?_) (fun a b => ?_) xs).imp fun h => of_decide_eq_true h
  · have := of_decide_eq_true h1
    have := of_decide_eq_true h2
    exact decide_eq_true (by omega)
  · rw [Bool.or_eq_true, decide_eq_true_iff, decide_eq_true_iff]
    omega
theorem gap_mem {D : List Ed} {p : Nat} (h1 : ∀ e ∈ D, OkE e) (g : gapOk D p) {k : Int} : k ∈ nums D p ↔ 1 ≤ k ∧ k ≤ (nums D p).length := by
  obtain ⟨ys, hp, hs⟩ := sorted_of (nums D p)
  have e := (gap_row h1 hp hs).mpr g
  rw [← hp.mem_iff, e, mem_row, hp.length_eq]
  omega
structure FitsP (e : Ed) (D : List Ed) : Prop where
  own : e.v.getD e.p 0 = e.n - 1
  held : ∀ j < 4, e.v.getD j 0 ≤ (vers D).getD j 0
  seen : ∀ o ∈ D, o.n ≤ e.v.getD o.p 0 → ∀ j < 4, o.v.getD j 0 ≤ e.v.getD j 0
structure FitsL (e : Ed) (D : List Ed) : Prop where
  once : ((D.map Ed.id).countP fun z => decide (z = e.id)) ≤ 1
  own : e.v.getD e.p 0 = e.n - 1
  held : ∀ j < 4, ∀ m : Int, 1 ≤ m → m ≤ e.v.getD j 0 → (1 + (j : Int), m) ∈ D.map Ed.id
  below : ∀ m : Int, 1 ≤ m → m < e.n → (1 + (e.p : Int), m) ∈ D.map Ed.id
  seen : ∀ o ∈ D, o.n ≤ e.v.getD o.p 0 → ∀ j < 4, o.v.getD j 0 ≤ e.v.getD j 0
def ClP (D : List Ed) : Prop := (∀ p < 4, gapOk D p) ∧ ∀ e ∈ D, FitsP e D
def Cl (D : List Ed) : Prop := ∀ e ∈ D, FitsL e D
theorem mem_ids {D : List Ed} {p : Nat} {m : Int} : (1 + (p : Int), m) ∈ D.map Ed.id ↔ m ∈ nums D p := by
  rw [mem_nums, List.mem_map]
  constructor
  · rintro ⟨e, he, h⟩
    have h1 := congrArg Prod.fst h
    have h2 := congrArg Prod.snd h
    exact ⟨e, he, by have : 1 + (e.p : Int) = 1 + p := h1; omega, h2⟩
  · rintro ⟨e, he, rfl, rfl⟩
    exact ⟨e, he, rfl⟩
theorem count_id {D : List Ed} (e : Ed) : ((D.map Ed.id).countP fun z => decide (z = e.id)) = (nums D e.p).count e.n := by
  unfold nums List.count
  rw [List.countP_map, List.countP_map, List.countP_filter]
  refine List.countP_congr fun f _ => ?_
  show decide (f.id = e.id) = true ↔ ((f.n == e.n) && decide (f.p = e.p)) = true
  rw [decide_eq_true_iff, Bool.and_eq_true, beq_iff_eq, decide_eq_true_iff]
  constructor
  · intro h
    have h1 : 1 + (f.p : Int) = 1 + e.p := congrArg Prod.fst h
    exact ⟨congrArg Prod.snd h, by omega⟩
  · rintro ⟨h1, h2⟩
    unfold Ed.id
    rw [h1, h2]
theorem cl_iff {D : List Ed} (h1 : ∀ e ∈ D, OkE e) : ClP D ↔ Cl D := by
  constructor
  · rintro ⟨g, f⟩ e he
    have F := f e he
    have O := h1 e he
    refine ⟨?_, F.own, fun j hj m m1 m2 => ?_, fun m m1 m2 => ?_, F.seen⟩
    · rw [count_id]
      exact List.nodup_iff_count.mp (g e.p O.p).1 _
    · have := F.held j hj
      rw [vers_at D hj] at this
      exact mem_ids.mpr ((gap_mem h1 (g j hj)).mpr ⟨m1, by omega⟩)
    · exact mem_ids.mpr ((g e.p O.p).2 e.n (mem_nums.mpr ⟨e, he, rfl, rfl⟩) m m1 (by omega))
  · intro c
    have g : ∀ p < 4, gapOk D p := fun p hp => by
      refine ⟨List.nodup_iff_count.mpr fun a => ?_, fun m hm k k1 km => ?_⟩
      · by_cases ha : a ∈ nums D p
        · obtain ⟨e, he, rfl, rfl⟩ := mem_nums.mp ha
          rw [← count_id]
          exact (c e he).once
        · rw [List.count_eq_zero_of_not_mem ha]
          omega
      · obtain ⟨e, he, rfl, rfl⟩ := mem_nums.mp hm
        by_cases z : k = e.n
        · rw [z]
          exact hm
        · exact mem_ids.mp ((c e he).below k k1 (by omega))
    refine ⟨g, fun e he => ⟨(c e he).own, fun j hj => ?_, (c e he).seen⟩⟩
    rw [vers_at D hj]
    by_cases z : e.v.getD j 0 ≤ 0
    · omega
    · have := mem_ids.mp ((c e he).held j hj _ (by omega) (Int.le_refl _))
      exact ((gap_mem h1 (g j hj)).mp this).2
theorem cl_rev {D : List Ed} : Cl D.reverse ↔ Cl D := by
  have h : ∀ D : List Ed, Cl D → Cl D.reverse := fun D c e he => by
    have F := c e (List.mem_reverse.mp he)
    refine ⟨?_, F.own, fun j hj m m1 m2 => ?_, fun m m1 m2 => ?_, fun o ho => F.seen o (List.mem_reverse.mp ho)⟩
    · rw [List.map_reverse, List.countP_reverse]
      exact F.once
    · rw [List.map_reverse]
      exact List.mem_reverse.mpr (F.held j hj m m1 m2)
    · rw [List.map_reverse]
      exact List.mem_reverse.mpr (F.below m m1 m2)
  refine ⟨fun c => ?_, h D⟩
  have := h _ c
  rwa [List.reverse_reverse] at this
theorem incl_all {ns ms : List Int} (h : ns.length = 4) : (incl ns ms).all id = true ↔ ∀ j < 4, ms.getD j 0 ≤ ns.getD j 0 := by
  unfold incl
  rw [List.all_map, List.all_eq_true, h]
  constructor
  · intro H j hj
    exact of_decide_eq_true (H j (List.mem_range.mpr hj))
  · intro H j hj
    exact decide_eq_true (H j (List.mem_range.mp hj))
theorem vers_len (D : List Ed) : (vers D).length = 4 := rfl
theorem all_snoc {bs : List Bool} {b : Bool} {P R : Prop} (h : bs.all id = true ↔ P) (h2 : b = true ↔ R) : (bs ++ [b]).all id = true ↔ P ∧ R := by
  rw [List.all_append, Bool.and_eq_true, h]
  simp [h2]
theorem take_all {D : List Ed} {i : Nat} {e : Ed} (h : D[i]? = some e) {P : Ed → Prop} : (∀ o ∈ D.take (i + 1), P o) ↔ (∀ o ∈ D.take i, P o) ∧ P e := by
  rw [List.take_add_one, h]
  constructor
  · intro H
    exact ⟨fun o ho => H o (List.mem_append.mpr (.inl ho)), H e (List.mem_append.mpr (.inr (by simp)))⟩
  · rintro ⟨H1, H2⟩ o ho
    rcases List.mem_append.mp ho with z | z
    · exact H1 o z
    · obtain rfl : o = e := by simpa using z
      exact H2
theorem row_rg (n : Nat) : rgV 1 ((n : Int) + 1) = (row n 1).map V.int := by
  unfold rgV row
  rw [show ((n : Int) + 1 - 1).toNat = n by omega, List.map_map]
  rfl
def spVersionOf (K : PySem.W.Frag) : Sp := fun vs H Q _ => ∃ (L : Addr) (rs : List V) (D : List Ed), vs = [.ref L] ∧ SqL K H L rs ∧ Rep H rs D ∧ D.length ≤ 40 ∧ ∀ (t : Addr) (H' : Hp), Same H H' → H' t = some (.tup ((vers D).map V.int)) → Q (.ref t) H'
theorem okVersionOf (T : Txt K mg) : FnOk P w K mg base CX0 2 T.fVersionOf T.fdVersionOf ["edits"] (spVersionOf K) := by
  refine T.FVersionOf.ok scVersionOf (fun vs H Q E h => ?_) (fun cdv A outer s H vs Q E hr h => ?_)
  · obtain ⟨L, rs, D, rfl, _⟩ := h
    rfl
  · obtain ⟨L, rs, D, rfl, hL, R, hz, q⟩ := h
    -- slots edits=0 person=1
    refine ⟨_, (pss_one (ps_ret (pe_callTy call_tuple_of (by rfl) T.z_tuple (by decide +kernel) (pa_cons (pe_lc (own := [("person", 1)]) (g := gName 1) (tt := tYes) rfl scVersionOf.nd (pi_tup (pe_glob (v := (.ref T.p_PERSONS)) rfl T.g_PERSONS rfl)) (blkOk_by (own := [("person", 1)]) (N := ["edits", "person"]) (sc := defScope sVersionOf) (by decide +kernel)) (fun _ _ _ _ _ => (pg_name (i := 1) scVersionOf.nd rfl (Or.inl rfl))) (fun _ _ _ _ _ => pts_nil) (fun _ _ _ _ _ => (pe_callB (call_len_seqK (K := K) rfl) (by rfl) T.z_len PySem.boot_len (pa_cons (pe_call (okNumbers T) (hr.mono (by decide)) (by rfl) T.gNumbers T.FNumbers.kp T.bNumbers .nil pass0 (pa_cons (pv 0) (pa_cons (pv 1) pa_nil))) pa_nil)))) pa_nil)))), ?_⟩
    refine ⟨T.p_PERSONS, rfl, ⟨_, T.k_PERSONS _⟩, fun N hN => ?_⟩
    refine lc_it (walk_tup (a := T.p_PERSONS) (xs := [.int 1, .int 2, .int 3, .int 4])) (fun i H' => Same H H' ∧ H' N = some (.lst (((vers D).take i).map V.int))) ⟨same_new hN, upd_same⟩ (fun i H' _ h => T.k_PERSONS H') ?_ ?_
    · rintro i x H1 H2 hi ⟨s1, hN1⟩ ⟨rfl, hx⟩
      have hi4 : i < 4 := hi
      have ex : x = .int (1 + (i : Int)) := by
        rcases i with _ | _ | _ | _ | i
        · exact (Option.some.inj hx).symm
        · exact (Option.some.inj hx).symm
        · exact (Option.some.inj hx).symm
        · exact (Option.some.inj hx).symm
        · omega
      subst ex
      refine ⟨rfl, yesT ⟨_, rfl, _, rfl, L, rs, D, i, rfl, s1.seq hL, R.mono (TK.of s1), hz, fun ys l H3 s2 hp hs hl => ⟨l, _, rfl, .inl (SqL.of hl), _, s2 _ _ hN1, ?_, ?_, ?_⟩⟩⟩
      · rw [List.length_map, List.length_take]
        exact small1000 (by omega)
      · exact same_mut (s1.trans s2) hN
      · have e : (vers D)[i]? = some ((nums D i).length : Int) := by
          unfold vers
          rw [List.getElem?_map, List.getElem?_range hi4]
          rfl
        rw [upd_same, List.take_add_one, e, List.map_append, List.length_map, hp.length_eq]
        rfl
    · rintro H1 ⟨s1, hN1⟩
      exact ⟨N, _, rfl, .inl ⟨SqL.of hN1, fun t ht => q t _ (s1.trans (same_new ht)) upd_same⟩⟩
def spPadded (K : PySem.W.Frag) : Sp := fun vs H Q _ => ∃ (c k : Int), vs = [.int c, .int k] ∧ ∀ (H' : Hp) (d : Addr) (ds : List Int), Same H H' → H' d = some (.lst (ds.map V.int)) → 20 ≤ ds.length → Q (.ref d) H'
theorem okLawPadded (T : Txt K mg) : FnOk P w K mg base CX0 2 T.fLawPadded T.fdLawPadded ["cell", "k"] (spPadded K) := by
  refine T.FLawPadded.ok scLawPadded (fun vs H Q E h => ?_) (fun cdv A outer s H vs Q E hr h => ?_)
  · obtain ⟨c, k, rfl, _⟩ := h
    rfl
  · obtain ⟨c, k, rfl, q⟩ := h
    -- slots cell=0 k=1 d=2 turn=3
    refine ⟨_, (pss_cons (ps_set (i := 2) scLawPadded.nd rfl (Or.inl rfl) (pe_call (okLawDigits T) (hr.mono (by decide)) (by rfl) T.gLawDigits T.FLawDigits.kp T.bLawDigits .nil pass0 (pa_cons (pv 0) (pa_cons (pv 1) (pa_cons pe_int pa_nil)))))
        (pss_cons (ps_for PassesOwn.never rfl (pi_range1 rfl T.z_range (pa_cons pe_int pa_nil)) (pg_name (i := 3) scLawPadded.nd rfl (Or.inl rfl))
          (pss_one (ps_expr (pe_bm PySem.F.plainAttrs_list PySem.F.slot_list_append PySem.F.type_list_append mt_append (pv 2) (pa_cons (pv 3) pa_nil)))))
        (pss_one (ps_ret (pv 2))))), ?_⟩
    refine ⟨_, rfl, _, rfl, c, k, 20, rfl, by decide, fun H1 d ds s1 hdn hd1 D => ?_⟩
    have dl := D.len
    refine ⟨20, rfl, by decide, by decide, for_range (lo := 0) (n := 20) (fun i σ H' => ∃ (es : List Int) (c3 : Option V), σ = [some (.int c), some (.int k), some (.ref d), c3] ∧ Same H H' ∧ H' d = some (.lst (es.map V.int)) ∧ i ≤ es.length ∧ es.length ≤ 20 + i) ⟨ds, _, rfl, s1, hd1, Nat.zero_le _, by omega⟩ ?_ ?_⟩
    · rintro i σ H2 hi ⟨es, c3, rfl, s2, hd2, l1, l2⟩
      refine ⟨_, rfl, .inl ⟨rfl, _, SqL.of hd2⟩, _, rfl, d, _, _, rfl, rfl, hd2, ?_, es ++ [0 + (i : Int)], _, rfl, same_mut s2 hdn, ?_, ?_, ?_⟩
      · rw [List.length_map]
        exact small1000 (by omega)
      · rw [upd_same, List.map_append]
        rfl
      · rw [List.length_append]
        exact Nat.add_le_add_right l1 1
      · rw [List.length_append]
        show es.length + 1 ≤ _
        omega
    · rintro σ H2 ⟨es, c3, rfl, s2, hd2, l1, l2⟩
      exact ⟨_, rfl, q _ d es s2 hd2 l1⟩
theorem ixN_nat {n j : Nat} (h : j < n) : ixN n (j : Int) = some j := by
  unfold ixN
  rw [if_pos (by omega), if_pos (by omega)]
  rfl
theorem set_int {zs : List Int} {j : Nat} {v : Int} : (zs.map V.int).set j (.int v) = (zs.set j v).map V.int := by rw [List.map_set]
/-! ### the edits of the law -/
def UAt (H : Hp) (x : V) (u : Ed × Int) : Prop := ∃ q a b c, x = .ref q ∧ H q = some (.tup [.ref a, .ref b, .ref c]) ∧ H a = some (.tup [.int (1 + (u.1.p : Int)), .int u.1.n]) ∧ H b = some (.tup (u.1.v.map V.int)) ∧ H c = some (.tup [.str "undo", .int u.2])
theorem UAt.mono {H H' : Hp} {x : V} {u : Ed × Int} (s : TK H H') (h : UAt H x u) : UAt H' x u := by
  obtain ⟨q, a, b, c, h0, h1, h2, h3, h4⟩ := h
  exact ⟨q, a, b, c, h0, s _ _ h1, s _ _ h2, s _ _ h3, s _ _ h4⟩
theorem UAt.ed {H : Hp} {x : V} {u : Ed × Int} (h : UAt H x u) : EdAt H x u.1 := by
  obtain ⟨q, a, b, c, h0, h1, h2, h3, h4⟩ := h
  exact ⟨q, a, b, _, h0, h1, h2, h3⟩
def dataU (u : Ed × Int) : PyData := .tuple [idD u.1.id, .tuple (u.1.v.map PyData.int), .tuple [.str "undo", .int u.2]]
theorem UAt.dp {K : PySem.W.Frag} {H : Hp} {x : V} {u : Ed × Int} (h : UAt H x u) : Dp K H x (dataU u) := by
  obtain ⟨q, a, b, c, rfl, h1, h2, h3, h4⟩ := h
  exact .tup (SqT.of h1) (.cons (dp_id h2) (.cons (.tup (SqT.of h3) (dp_ints _)) (.cons (.tup (SqT.of h4) (.cons (.str _) (.cons (.int _) .nil))) .nil)))
theorem dataU_lay (u : Ed × Int) : (dataU u).canLay0 = true := by
  have := idD_lay u.1.id
  have h3 : PyData.canLayAll0 (u.1.v.map PyData.int) = true := PySem.W.ke_canLayAll0 _
  simp only [dataU, PyData.canLay0, PyData.canLayAll0, this, h3, Bool.and_true, Bool.true_and]
  decide +kernel
theorem dataU_depth (u : Ed × Int) : (dataU u).depth ≤ 2 := by
  have h1 := idD_depth u.1.id
  have h2 := PySem.W.depth_ints u.1.v
  simp only [dataU, PyData.depth, PyData.depthAll, h2]
  omega
theorem lays {β : Type} {k : β → PyData} (h : ∀ b, (k b).canLay0 = true) : ∀ D : List β, PyData.canLayAll0 (D.map k) = true
  | [] => by simp [PyData.canLayAll0]
  | b :: D => by simp [PyData.canLayAll0, h b, lays h D]
theorem depths {β : Type} {k : β → PyData} {n : Nat} (h : ∀ b, (k b).depth ≤ n) : ∀ D : List β, PyData.depthAll (D.map k) ≤ n
  | [] => by simp [PyData.depthAll]
  | b :: D => by
    have h1 := h b
    have h2 := depths h D
    simp only [List.map_cons, PyData.depthAll]
    omega
theorem shapeds {β : Type} {k : β → PyData} {n : Nat} (h1 : ∀ b, (k b).canLay0 = true) (h2 : ∀ b, (k b).depth ≤ n) (hn : n ≤ 63) (D : List β) : SeqAt.shaped (.list (D.map k)) = true := by
  have e := depths h2 D
  show (PyData.canLay0 (.list (D.map k)) && decide (PyData.depth (.list (D.map k)) ≤ 64)) = true
  rw [Bool.and_eq_true]
  refine ⟨by simp only [PyData.canLay0]; exact lays h1 D, decide_eq_true ?_⟩
  simp only [PyData.depth]
  omega
theorem dataU_alike (u w : Ed × Int) : PySem.W.alike (dataU u) (dataU w) = true := by
  have h1 := alike_id u.1.id w.1.id
  have h2 := PySem.W.alike_ints u.1.v w.1.v
  simp [dataU, PySem.W.alike, PySem.W.alikeAll, h1, h2]
def spEdits (K : PySem.W.Frag) : Sp := fun vs H Q _ => ∃ (a : Addr) (ns : List Int), vs = [.ref a] ∧ SqL K H a (ns.map V.int) ∧ ∀ (H' : Hp) (L : Addr) (rs : List V) (D : List (Ed × Int)), Same H H' → H' L = some (.lst rs) → RepG (UAt H') rs D → D.length ≤ 9 → (∀ u ∈ D, OkE u.1) → (D.map fun u => u.1.id).Nodup → Q (.ref L) H'
theorem okLawEdits (T : Txt K mg) : FnOk P w K mg base CX0 3 T.fLawEdits T.fdLawEdits ["script"] (spEdits K) := by
  refine T.FLawEdits.ok scLawEdits (fun vs H Q E h => ?_) (fun cdv A outer s H vs Q E hr h => ?_)
  · obtain ⟨a, ns, rfl, _⟩ := h
    rfl
  · obtain ⟨a, ns, rfl, hS, q⟩ := h
    -- slots script=0 edits=1 k=2 d=3 edit_id=4 seen=5 j=6 edit=7
    refine ⟨_, (pss_cons (ps_set (i := 1) scLawEdits.nd rfl (Or.inl rfl) (pe_lst pa_nil))
        (pss_cons (ps_for PassesOwn.never rfl (pi_range1 rfl T.z_range (pa_cons (pe_op op_mod (pe_callTy call_int1 (by rfl) T.z_int (by decide +kernel) (pa_cons (pe_call (okLawCell T) (hr.mono (by decide)) (by rfl) T.gLawCell T.FLawCell.kp T.bLawCell .nil pass0 (pa_cons (pv 0) (pa_cons pe_int pa_nil))) pa_nil)) pe_int) pa_nil)) (pg_name (i := 2) scLawEdits.nd rfl (Or.inl rfl))
          (pss_cons (ps_set (i := 3) scLawEdits.nd rfl (Or.inr rfl) (pe_call (okLawPadded T) (hr.mono (by decide)) (by rfl) T.gLawPadded T.FLawPadded.kp T.bLawPadded .nil pass0 (pa_cons (pe_call (okLawCell T) (hr.mono (by decide)) (by rfl) T.gLawCell T.FLawCell.kp T.bLawCell .nil pass0 (pa_cons (pv 0) (pa_cons (pe_op op_add pe_int (pv 2)) pa_nil))) (pa_cons (pe_op op_add pe_int (pv 2)) pa_nil))))
          (pss_cons (ps_set (i := 4) scLawEdits.nd rfl (Or.inl rfl) (pe_tup (pa_cons (pe_op op_add pe_int (pe_op op_mod (pe_callTy call_int1 (by rfl) T.z_int (by decide +kernel) (pa_cons (pe_ix ix_list (pv 3) pe_int (fun _ _ => rfl)) pa_nil)) pe_int)) (pa_cons (pe_op op_add pe_int (pe_op op_mod (pe_callTy call_int1 (by rfl) T.z_int (by decide +kernel) (pa_cons (pe_ix ix_list (pv 3) pe_int (fun _ _ => rfl)) pa_nil)) pe_int)) pa_nil))))
          (pss_cons (ps_set (i := 5) scLawEdits.nd rfl (Or.inl rfl) (pe_callTy call_tuple_of (by rfl) T.z_tuple (by decide +kernel) (pa_cons (pe_lc (own := [("j", 6)]) (g := gName 6) (tt := tYes) rfl scLawEdits.nd (pi_range1 rfl T.z_range (pa_cons pe_int pa_nil)) (blkOk_by (own := [("j", 6)]) (N := ["script", "edits", "k", "d", "edit_id", "seen", "j", "edit"]) (sc := defScope sLawEdits) (by decide +kernel)) (fun _ _ _ _ _ => (pg_name (i := 6) scLawEdits.nd rfl (Or.inl rfl))) (fun _ _ _ _ _ => pts_nil) (fun _ _ _ _ _ => (pe_op op_mod (pe_callTy call_int1 (by rfl) T.z_int (by decide +kernel) (pa_cons (pe_ix (ix_listK (K := K) rfl) (pv 3) (pe_op op_add pe_int (pv 6)) (fun _ _ => rfl)) pa_nil)) pe_int))) pa_nil)))
          (pss_one (ps_if (pt_cmpR (op_notInD (units65 hr)) (pv 4) (pe_lc (own := [("edit", 7)]) (g := gName 7) (tt := tYes) rfl scLawEdits.nd (pi_list (pv 1)) (blkOk_by (own := [("edit", 7)]) (N := ["script", "edits", "k", "d", "edit_id", "seen", "j", "edit"]) (sc := defScope sLawEdits) (by decide +kernel)) (fun _ _ _ _ _ => (pg_name (i := 7) scLawEdits.nd rfl (Or.inl rfl))) (fun _ _ _ _ _ => pts_nil) (fun _ _ _ _ _ => (pe_ix (ix_tupK (K := K) rfl) (pv 7) pe_int (fun _ _ => rfl)))) rfl)
            (pss_one (ps_expr (pe_bm PySem.F.plainAttrs_list PySem.F.slot_list_append PySem.F.type_list_append mt_append (pv 1) (pa_cons (pe_tup (pa_cons (pv 4) (pa_cons (pv 5) (pa_cons (pe_tup (pa_cons pe_str (pa_cons (pe_op op_mod (pe_callTy call_int1 (by rfl) T.z_int (by decide +kernel) (pa_cons (pe_ix ix_list (pv 3) pe_int (fun _ _ => rfl)) pa_nil)) pe_int) pa_nil))) pa_nil)))) pa_nil))))
            pss_nil))))))
        (pss_one (ps_ret (pv 1))))), ?_⟩
    refine ⟨Nat.zero_le _, fun L hL0 => ?_⟩
    have s0 : Same H (upd H L (.lst [])) := same_new hL0
    have hL1 : (upd H L (.lst [])) L = some (.lst []) := upd_same
    generalize upd H L (.lst []) = H1 at s0 hL1
    refine ⟨_, rfl, a, ns, _, rfl, by decide, s0.seq hS, fun v => .inl ⟨_, rfl, _, _, rfl, rfl, (by show (0 : Int) < _; decide), ?_⟩⟩
    refine ⟨v % 10, rfl, by omega, by omega, for_range (lo := 0) (n := (v % 10).toNat) (fun i σ H' => ∃ (rs : List V) (D : List (Ed × Int)) (c2 c3 c4 c5 c6 c7 : Option V), σ = [some (.ref a), some (.ref L), c2, c3, c4, c5, c6, c7] ∧ Same H H' ∧ H' L = some (.lst rs) ∧ RepG (UAt H') rs D ∧ D.length ≤ i ∧ (∀ u ∈ D, OkE u.1) ∧ (D.map fun u => u.1.id).Nodup) ⟨[], [], _, _, _, _, _, _, rfl, s0, hL1, RepG.nil, Nat.le_refl _, fun u hu => by simp at hu, List.nodup_nil⟩ ?_ ?_⟩
    · rintro i σ H2 hi ⟨rs, D, c2, c3, c4, c5, c6, c7, rfl, s2, hL2, R2, Dl, ok, nd⟩
      refine ⟨_, rfl, _, rfl, _, _, rfl, rfl, a, ns, _, rfl, by omega, s2.seq hS, fun v => ⟨_, rfl, _, _, rfl, rfl, v, _, rfl, fun H3 d ds s3 hd3 dl => ?_⟩⟩
      have gd : ∀ j : Nat, j < 20 → atI (ds.map V.int) ((j : Nat) : Int) = some (.int (ds.getD j 0)) := fun j hj => atI_nat (getD_at (by omega))
      refine ⟨_, rfl, d, _, _, _, rfl, rfl, SqL.of hd3, gd 0 (by decide), .inl ⟨_, rfl, _, _, rfl, rfl, (by show (0 : Int) < _; decide), _, _, rfl, rfl, ?_⟩⟩
      obtain ⟨p, ep, hp⟩ : ∃ p : Nat, ds.getD 0 0 % 4 = (p : Int) ∧ p < 4 := ⟨(ds.getD 0 0 % 4).toNat, by omega, by omega⟩
      rw [ep]
      refine ⟨_, rfl, d, _, _, _, rfl, rfl, SqL.of hd3, gd 1 (by decide), .inl ⟨_, rfl, _, _, rfl, rfl, (by show (0 : Int) < _; decide), _, _, rfl, rfl, (by show 2 ≤ sizeLine; decide), fun a1 ha1 => ?_⟩⟩
      have t1 : Same H3 (upd H3 a1 (.tup [.int (1 + (p : Int)), .int (1 + ds.getD 1 0 % 5)])) := same_new ha1
      have k1 : (upd H3 a1 (.tup [.int (1 + (p : Int)), .int (1 + ds.getD 1 0 % 5)])) a1 = some (.tup [.int (1 + (p : Int)), .int (1 + ds.getD 1 0 % 5)]) := upd_same
      generalize upd H3 a1 (.tup [.int (1 + (p : Int)), .int (1 + ds.getD 1 0 % 5)]) = G1 at t1 k1
      have hd4 := t1 _ _ hd3
      refine ⟨_, rfl, by decide, by decide, fun N hN => ?_⟩
      refine lc_it (walk_range (lo := 0) (n := 4)) (fun j H' => Same G1 H' ∧ ∃ xs : List Int, H' N = some (.lst (xs.map V.int)) ∧ xs.length = j ∧ ∀ z ∈ xs, 0 ≤ z ∧ z ≤ 20) ⟨same_new hN, [], upd_same, rfl, fun z hz => by simp at hz⟩ (fun _ _ _ _ => True.intro) ?_ ?_
      · rintro j x H9 H4 hj ⟨s4, xs, hN4, xl, xb⟩ ⟨rfl, rfl⟩
        have ej : (2 : Int) + (0 + (j : Int)) = ((2 + j : Nat) : Int) := by omega
        refine ⟨rfl, yesT ⟨_, rfl, _, rfl, _, _, rfl, rfl, d, _, _, _, rfl, rfl, SqL.of (s4 _ _ hd4), by rw [ej]; exact gd (2 + j) (by omega), .inl ⟨_, rfl, _, _, rfl, rfl, (by show (0 : Int) < _; decide), _, hN4, ?_, same_mut s4 hN, xs ++ [ds.getD (2 + j) 0 % 5], ?_, ?_, ?_⟩⟩⟩
        · rw [List.length_map]
          exact small1000 (by omega)
        · rw [upd_same, List.map_append]
          rfl
        · rw [List.length_append, xl]
          rfl
        · intro z hz
          rcases List.mem_append.mp hz with y | y
          · exact xb z y
          · rw [List.mem_singleton.mp y]
            omega
      rintro H4 ⟨s4, xs, hN4, xl, xb⟩
      refine ⟨N, _, rfl, .inl ⟨SqL.of hN4, fun b1 hb1 => ?_⟩⟩
      have t2 : Same H4 (upd H4 b1 (.tup (xs.map V.int))) := same_new hb1
      have k2 : (upd H4 b1 (.tup (xs.map V.int))) b1 = some (.tup (xs.map V.int)) := upd_same
      generalize upd H4 b1 (.tup (xs.map V.int)) = G2 at t2 k2
      have s24 : Same H2 G2 := ((s3.trans t1).trans s4).trans t2
      have R4 := R2.imp fun x e h => h.mono (TK.of s24)
      have hL4 := s24 _ _ hL2
      refine ⟨_, rfl, _, rfl, L, rfl, ⟨_, SqL.of hL4⟩, fun M hM => ?_⟩
      refine lc_it (walk_list (a := L) (xs := rs)) (fun t H' => Same G2 H' ∧ ∃ is, H' M = some (.lst is) ∧ is.length ≤ t ∧ RepI H' is ((D.map Prod.fst).take t)) ⟨same_new hM, [], upd_same, Nat.le_refl _, .nil⟩ (fun t H' _ h => SqL.of (h.1 _ _ hL4)) ?_ ?_
      · rintro t x H9 H5 ht ⟨s5, is, hN5, il, ri⟩ ⟨rfl, hx⟩
        obtain ⟨e, he, E⟩ := R4.get hx
        obtain ⟨q0, a0, b0, c0, rfl, h1, h2, h3⟩ := E.ed.mono (TK.of s5)
        refine ⟨rfl, yesT ⟨_, rfl, q0, _, _, _, rfl, rfl, SqT.of h1, atI_nat (j := 0) rfl, is, hN5, ?_, same_mut s5 hM, is ++ [.ref a0], upd_same, ?_, ?_⟩⟩
        · exact small1000 (by have := R2.len; omega)
        · rw [List.length_append]
          exact Nat.add_le_add_right il 1
        · rw [List.take_add_one, List.getElem?_map, he]
          exact (ri.snoc h2).mono (TK.mut hN5)
      rintro H5 ⟨s5, is, hN5, il, ri⟩
      have et : (D.map Prod.fst).take rs.length = D.map Prod.fst := List.take_of_length_le (by rw [R2.len, List.length_map]; exact Nat.le_refl _)
      rw [et] at ri
      have ids : Dp K H5 (.ref M) (.list (((D.map Prod.fst).map Ed.id).map idD)) := .lst (SqL.of hN5) ri.dp
      have k1' := (s4.trans t2).trans s5 _ _ k1
      refine ⟨idD (1 + (p : Int), 1 + ds.getD 1 0 % 5), _, dp_id k1', ids, idD_shaped _, idDs_shaped _, ?_⟩
      rw [idDs_any]
      have s25 := s24.trans s5
      refine ⟨_, rfl, ite2 (fun c => ?_) (fun c => ?_)⟩
      · have hL5 := s25 _ _ hL2
        have fresh : (1 + (p : Int), 1 + ds.getD 1 0 % 5) ∉ (D.map Prod.fst).map Ed.id := by simpa using c
        refine ⟨_, rfl, .inl ⟨rfl, _, SqL.of hL5⟩, _, rfl, _, rfl, _, rfl, d, _, _, _, rfl, rfl, SqL.of (((s4.trans t2).trans s5) _ _ hd4), gd 6 (by decide), .inl ⟨_, rfl, _, _, rfl, rfl, (by show (0 : Int) < _; decide), (by show 2 ≤ sizeLine; decide), fun u1 hu1 => ⟨(by show 3 ≤ sizeLine; decide), fun q1 hq1 => ?_⟩⟩⟩
        have t3 : Same H5 (upd H5 u1 (.tup [.str "undo", .int (ds.getD 6 0 % 5)])) := same_new hu1
        have t4 : Same (upd H5 u1 (.tup [.str "undo", .int (ds.getD 6 0 % 5)])) (upd (upd H5 u1 (.tup [.str "undo", .int (ds.getD 6 0 % 5)])) q1 (.tup [.ref a1, .ref b1, .ref u1])) := same_new hq1
        have t34 := t3.trans t4
        have E : UAt (upd (upd H5 u1 (.tup [.str "undo", .int (ds.getD 6 0 % 5)])) q1 (.tup [.ref a1, .ref b1, .ref u1])) (.ref q1) (⟨p, 1 + ds.getD 1 0 % 5, xs⟩, ds.getD 6 0 % 5) :=
          ⟨q1, a1, b1, u1, rfl, upd_same, t34 _ _ k1', t34 _ _ (s5 _ _ k2), t4 _ _ upd_same⟩
        have hLG := t34 _ _ hL5
        refine ⟨L, _, _, rfl, rfl, hLG, small1000 (by have := R2.len; omega), rs ++ [.ref q1], D ++ [(⟨p, 1 + ds.getD 1 0 % 5, xs⟩, ds.getD 6 0 % 5)], _, _, _, _, _, _, rfl, same_mut ((s2.trans s25).trans t34) hL0, upd_same, ((R2.imp fun x e h => h.mono (TK.of (s25.trans t34))).snoc E).imp fun x e h => h.mono (TK.mut hLG), ?_, fun u hu => ?_, ?_⟩
        · rw [List.length_append]
          exact Nat.add_le_add_right Dl 1
        · rcases List.mem_append.mp hu with z | z
          · exact ok u z
          · rw [List.mem_singleton.mp z]
            exact ⟨hp, by show 1 ≤ 1 + ds.getD 1 0 % 5; omega, xl, by show 1 + ds.getD 1 0 % 5 ≤ 20; omega, xb⟩
        · rw [List.map_append]
          refine List.nodup_append.mpr ⟨nd, List.nodup_cons.mpr ⟨List.not_mem_nil, List.nodup_nil⟩, fun x hx y hy z => fresh ?_⟩
          obtain ⟨u, hu, rfl⟩ := List.mem_map.mp hx
          have : y = (1 + (p : Int), 1 + ds.getD 1 0 % 5) := List.mem_singleton.mp hy
          rw [← this, ← z]
          exact List.mem_map.mpr ⟨u.1, List.mem_map.mpr ⟨u, hu, rfl⟩, rfl⟩
      · exact ⟨rs, D, _, _, _, _, _, _, rfl, s2.trans s25, s25 _ _ hL2, R2.imp fun x e h => h.mono (TK.of s25), by omega, ok, nd⟩
    · rintro σ H2 ⟨rs, D, c2, c3, c4, c5, c6, c7, rfl, s2, hL2, R2, Dl, ok, nd⟩
      exact ⟨_, rfl, q H2 L rs D s2 hL2 R2 (by omega) ok nd⟩
theorem units65b {k : Nat} {A : Around} (r : Room k A) : A.units + 64 < cLine := by
  have := r.un
  omega
/-! ### the law -/
def leD (d e : PyData) : Bool := PySem.W.dataLe false id d e
theorem leD_sorted (D : List PyData) : (D.mergeSort leD).Pairwise fun a b => leD a b = true := by
  have t : PySem.W.TotalLe leD := PySem.W.sortLe_total _ false _
  exact List.pairwise_mergeSort (le := leD) (fun a b c h1 h2 => t.trans a b c h1 h2) (fun a b => by
    rw [Bool.or_eq_true]
    exact t.total a b) D
theorem sort_snd (bs : List (V × PyData)) : (bs.mergeSort (PySem.W.dataLe false Prod.snd)).map Prod.snd = (bs.map Prod.snd).mergeSort leD := List.map_mergeSort fun _ _ _ _ => rfl
theorem alike_refl_of {d : PyData} (h : PySem.W.alike d d = true) : PySem.W.alike d d = true := h
theorem dataU_anti {D : List (Ed × Int)} (nd : (D.map fun u => u.1.id).Nodup) : ∀ u ∈ D, ∀ w ∈ D, leD (dataU u) (dataU w) = true → leD (dataU w) (dataU u) = true → u = w := by
  intro u hu w hw h1 h2
  have h1' : (!PySem.W.dataLt (dataU w) (dataU u)) = true := h1
  have h2' : (!PySem.W.dataLt (dataU u) (dataU w)) = true := h2
  unfold dataU at h1' h2'
  rw [PySem.W.dataLt_tuple, PySem.W.dataLt_cons (alike_id _ _), idD_eqv, lt_idD] at h1' h2'
  by_cases hi : u.1.id = w.1.id
  · obtain ⟨i, hi1, e1⟩ := List.mem_iff_getElem.mp hu
    obtain ⟨j, hj1, e2⟩ := List.mem_iff_getElem.mp hw
    have ni := List.pairwise_iff_getElem.mp nd
    have hij : i = j := by
      rcases Nat.lt_trichotomy i j with z | z | z
      · have := ni i j (by rw [List.length_map]; exact hi1) (by rw [List.length_map]; exact hj1) z
        rw [List.getElem_map, List.getElem_map, e1, e2] at this
        exact absurd hi this
      · exact z
      · have := ni j i (by rw [List.length_map]; exact hj1) (by rw [List.length_map]; exact hi1) z
        rw [List.getElem_map, List.getElem_map, e1, e2] at this
        exact absurd hi.symm this
    subst hij
    rw [← e1, ← e2]
  · have hk := fun z => hi ((id_iff u.1 w.1).mpr z)
    rw [decide_eq_false hi, if_neg Bool.false_ne_true] at h2'
    rw [decide_eq_false (fun z => hi z.symm), if_neg Bool.false_ne_true] at h1'
    simp only [Bool.not_eq_true', decide_eq_false_iff_not] at h1' h2'
    exact absurd ⟨by omega, by omega⟩ hk
theorem sorts_same {D D' : List (Ed × Int)} (nd : (D.map fun u => u.1.id).Nodup) (p : D'.Perm D) : (D'.map dataU).mergeSort leD = (D.map dataU).mergeSort leD := by
  have m : ∀ (E : List (Ed × Int)) d, d ∈ (E.map dataU).mergeSort leD → ∃ u ∈ E, dataU u = d := fun E d hd => List.mem_map.mp ((List.mergeSort_perm _ _).mem_iff.mp hd)
  refine List.Perm.eq_of_pairwise (le := fun a b => leD a b = true) (fun a b ha hb h1 h2 => ?_) (leD_sorted _) (leD_sorted _) (((List.mergeSort_perm _ _).trans (p.map _)).trans (List.mergeSort_perm _ _).symm)
  obtain ⟨u, hu, rfl⟩ := m D' a ha
  obtain ⟨w, hw, rfl⟩ := m D b hb
  rw [dataU_anti nd u (p.mem_iff.mp hu) w hw h1 h2]
def keyT (e : Ed) : PyData := .tuple [.int (stampE e), .int (1 + (e.p : Int)), .int e.n]
theorem keyT_le {e f : Ed} (h : ¬ ltE f e) : leD (keyT e) (keyT f) = true := by
  show (!PySem.W.dataLt (keyT f) (keyT e)) = true
  unfold keyT
  rw [PySem.W.dataLt_tuple, PySem.W.dataLt_cons (by simp [PySem.W.alike]), PySem.W.dataLt_int, ← PySem.W.dataLt_tuple, PySem.W.dataLt_ii]
  simp only [PyData.eqv, beq_iff_eq, Bool.not_eq_true']
  by_cases z : stampE f = stampE e
  · rw [if_pos z]
    refine decide_eq_false fun y => h ?_
    unfold ltE
    omega
  · rw [if_neg z]
    refine decide_eq_false fun y => h ?_
    unfold ltE
    omega
theorem keyT_lay (e : Ed) : (keyT e).canLay0 = true := by simp [keyT, PyData.canLay0, PyData.canLayAll0]
theorem keyT_depth (e : Ed) : (keyT e).depth ≤ 2 := by simp [keyT, PyData.depth, PyData.depthAll]
theorem keyT_alike (e f : Ed) : PySem.W.alike (keyT e) (keyT f) = true := by simp [keyT, PySem.W.alike, PySem.W.alikeAll]
theorem dpAll_bs {K : PySem.W.Frag} {H : Hp} : ∀ {bs : List (V × PyData)}, (∀ b ∈ bs, Dp K H b.1 b.2) → DpAll K H (bs.map Prod.fst) (bs.map Prod.snd)
  | [], _ => .nil
  | b :: bs, h => .cons (h b (List.mem_cons_self ..)) (dpAll_bs fun c hc => h c (List.mem_cons_of_mem _ hc))
theorem dp_sorted {K : PySem.W.Frag} {H : Hp} {bs : List (V × PyData)} {p : Addr} (h : ∀ b ∈ bs, Dp K H b.1 b.2) (hp : H p = some (.lst ((bs.mergeSort (PySem.W.dataLe false Prod.snd)).map Prod.fst))) : Dp K H (.ref p) (.list ((bs.map Prod.snd).mergeSort leD)) := by
  rw [← sort_snd]
  exact .lst (SqL.of hp) (dpAll_bs fun b hb => h b ((List.mergeSort_perm _ _).mem_iff.mp hb))
theorem map_leD {β : Type} (k : β → PyData) (D : List β) : (D.map k).mergeSort leD = (D.mergeSort fun a b => leD (k a) (k b)).map k := (List.map_mergeSort (f := k) (r := fun a b => leD (k a) (k b)) (s := leD) fun _ _ _ _ => rfl).symm
theorem vers_get (D : List Ed) (j : Nat) : (vers D)[j]? = if j < 4 then some ((nums D j).length : Int) else none := by
  unfold vers
  rw [List.getElem?_map]
  by_cases h : j < 4
  · rw [if_pos h, List.getElem?_range h]
    rfl
  · rw [if_neg h, List.getElem?_eq_none (by rw [List.length_range]; omega)]
    rfl
theorem vers_step {D : List Ed} {i : Nat} {e : Ed} (h : D[i]? = some e) (hp : e.p < 4) : vers (D.take (i + 1)) = (vers (D.take i)).set e.p ((vers (D.take i)).getD e.p 0 + 1) := by
  refine List.ext_getElem? fun j => ?_
  rw [List.getElem?_set, vers_at _ hp, vers_get, vers_get, nums_step h, vers_len]
  by_cases hj : e.p = j
  · subst hj
    rw [if_pos hp, if_pos rfl, if_pos hp, if_pos rfl, List.length_append]
    rfl
  · rw [if_neg hj, if_neg hj, List.append_nil]
def spLaw (K : PySem.W.Frag) : Sp := fun vs H Q _ => ∃ (a : Addr) (ns : List Int), vs = [.ref a] ∧ SqL K H a (ns.map V.int) ∧ ns.length ≤ 63 ∧ ∀ H', Q (.bl true) H'
theorem okLaw (T : Txt K mg) : FnOk P w K mg base CX0 6 T.fLaw T.fdLaw ["script"] (spLaw K) := by
  refine T.FLaw.ok scLaw (fun vs H Q E h => ?_) (fun cdv A outer s H vs Q E hr h => ?_)
  · obtain ⟨a, ns, rfl, _⟩ := h
    rfl
  · obtain ⟨a, ns, rfl, hS, hlen, q⟩ := h
    -- slots script=0 edits=1 told=2 edit=3 keys=4 found=5 other=6
    refine ⟨_, (pss_cons (ps_set (i := 1) scLaw.nd rfl (Or.inl rfl) (pe_call (okLawEdits T) (hr.mono (by decide)) (by rfl) T.gLawEdits T.FLawEdits.kp T.bLawEdits .nil pass0 (pa_cons (pv 0) pa_nil)))
        (pss_cons (ps_set (i := 2) scLaw.nd rfl (Or.inl rfl) (pe_call (okOrdered T) (hr.mono (by decide)) (by rfl) T.gOrdered T.FOrdered.kp T.bOrdered .nil pass0 (pa_cons (pv 1) pa_nil)))
        (pss_cons (ps_if (pt_cmpR (op_neD hr.units) (pe_callB (cr_sortedD (units65b hr)) (by rfl) T.z_sorted (by decide +kernel) (pa_cons (pv 2) pa_nil)) (pe_callB (cr_sortedD (units65b hr)) (by rfl) T.z_sorted (by decide +kernel) (pa_cons (pv 1) pa_nil)) (nomark _))
          (pss_one (ps_ret pe_bl))
          pss_nil)
        (pss_cons (ps_setLc (i := 4) (own := [("edit", 3)]) (g := gName 3) (tt := tYes) rfl scLaw.nd rfl rfl (sw_true rfl rfl rfl (by decide +kernel)) (pi_list (pv 2)) (blkOk_by (own := [("edit", 3)]) (N := ["script", "edits", "told", "edit", "keys", "found", "other"]) (sc := defScope sLaw) (by decide +kernel)) (fun _ _ _ _ _ => (pg_name (i := 3) scLaw.nd rfl (Or.inl rfl))) (fun _ _ _ _ _ => pts_nil) (fun _ _ _ _ _ => (pe_tup (pa_cons (pe_op op_add pe_int (pe_callB (cr_sumTK (K := K) rfl rfl) (by rfl) T.z_sum (by decide +kernel) (pa_cons (pe_ix (ix_tupK (K := K) rfl) (pv 3) pe_int (fun _ _ => rfl)) pa_nil))) (pa_cons (pe_ix (ix_tupK (K := K) rfl) (pe_ix (ix_tupK (K := K) rfl) (pv 3) pe_int (fun _ _ => rfl)) pe_int (fun _ _ => rfl)) (pa_cons (pe_ix (ix_tupK (K := K) rfl) (pe_ix (ix_tupK (K := K) rfl) (pv 3) pe_int (fun _ _ => rfl)) pe_int (fun _ _ => rfl)) pa_nil))))))
        (pss_cons (ps_if (pt_cmpR (op_neD hr.units) (pv 4) (pe_callB (cr_sortedD (units65b hr)) (by rfl) T.z_sorted (by decide +kernel) (pa_cons (pv 4) pa_nil)) (nomark _))
          (pss_one (ps_ret pe_bl))
          pss_nil)
        (pss_cons (ps_set (i := 5) scLaw.nd rfl (Or.inl rfl) (pe_lst (pa_cons pe_int (pa_cons pe_int (pa_cons pe_int (pa_cons pe_int pa_nil))))))
        (pss_cons (ps_for PassesOwn.never rfl (pi_list (pv 1)) (pg_name (i := 3) scLaw.nd rfl (Or.inl rfl))
          (pss_cons (ps_asg (pe_op op_add (pe_ix ix_list (pv 5) (pe_op op_sub (pe_ix ix_tup (pe_ix ix_tup (pv 3) pe_int (fun _ _ => rfl)) pe_int (fun _ _ => rfl)) pe_int) (fun _ _ => rfl)) pe_int) (pg_sub (pv 5) (pe_op op_sub (pe_ix ix_tup (pe_ix ix_tup (pv 3) pe_int (fun _ _ => rfl)) pe_int (fun _ _ => rfl)) pe_int) set_list))
          (pss_cons (ps_if (pt_cmpR op_ne (pe_call (okStamp T) (hr.mono (by decide)) (by rfl) T.gStamp T.FStamp.kp T.bStamp .nil pass0 (pa_cons (pv 3) pa_nil)) (pe_op op_add (pe_op op_add (pe_op op_add (pe_op op_add pe_int (pe_ix ix_tup (pe_ix ix_tup (pv 3) pe_int (fun _ _ => rfl)) pe_int (fun _ _ => rfl))) (pe_ix ix_tup (pe_ix ix_tup (pv 3) pe_int (fun _ _ => rfl)) pe_int (fun _ _ => rfl))) (pe_ix ix_tup (pe_ix ix_tup (pv 3) pe_int (fun _ _ => rfl)) pe_int (fun _ _ => rfl))) (pe_ix ix_tup (pe_ix ix_tup (pv 3) pe_int (fun _ _ => rfl)) pe_int (fun _ _ => rfl))) (nomark _))
            (pss_one (ps_ret pe_bl))
            pss_nil)
          (pss_one (ps_for PassesOwn.never rfl (pi_list (pv 1)) (pg_name (i := 6) scLaw.nd rfl (Or.inl rfl))
            (pss_one (ps_if (PW.pt (pw_and (pt_cmpR (op_neD hr.units) (pe_ix ix_tup (pv 6) pe_int (fun _ _ => rfl)) (pe_ix ix_tup (pv 3) pe_int (fun _ _ => rfl)) (nomark _)) (pw_and1 (pt_cmpR op_ne (pe_call (okHasSeen T) (hr.mono (by decide)) (by rfl) T.gHasSeen T.FHasSeen.kp T.bHasSeen .nil pass0 (pa_cons (pv 3) (pa_cons (pv 6) pa_nil))) (pe_cmpR op_ge (pe_ix ix_tup (pe_ix ix_tup (pv 3) pe_int (fun _ _ => rfl)) (pe_op op_sub (pe_ix ix_tup (pe_ix ix_tup (pv 6) pe_int (fun _ _ => rfl)) pe_int (fun _ _ => rfl)) pe_int) (fun _ _ => rfl)) (pe_ix ix_tup (pe_ix ix_tup (pv 6) pe_int (fun _ _ => rfl)) pe_int (fun _ _ => rfl)) (nomark _)) (nomark _)))))
              (pss_one (ps_ret pe_bl))
              pss_nil)))))))
        (pss_one (ps_ret (pe_cmpR (op_eqD hr.units) (pe_call (okVersionOf T) (hr.mono (by decide)) (by rfl) T.gVersionOf T.FVersionOf.kp T.bVersionOf .nil pass0 (pa_cons (pv 1) pa_nil)) (pe_callTy call_tuple_of (by rfl) T.z_tuple (by decide +kernel) (pa_cons (pv 5) pa_nil)) (nomark _))))))))))), ?_⟩
    refine ⟨_, rfl, a, ns, rfl, hS, fun H1 L rs D s1 hL R Dl ok nd => ?_⟩
    refine ⟨_, rfl, Ed × Int, Prod.fst, L, rs, D, rfl, SqL.of hL, R.imp fun x e h => h.ed, by omega, nd, fun l H2 zs s2 pz sz hl => ?_⟩
    have hL2 := s2 _ _ hL
    have R2 := R.imp fun x e h => h.mono (TK.of s2)
    have zm : ∀ z ∈ zs, UAt H2 z.1 z.2 := fun z hz => R2.mem z (pz.mem_iff.mp hz)
    have pD : (zs.map Prod.snd).Perm D := by
      have := pz.map Prod.snd
      rwa [R.snd] at this
    have dz : ∀ H', Same H2 H' → ∀ b ∈ zs.map (fun z => ((z.1, dataU z.2) : V × PyData)), Dp K H' b.1 b.2 := fun H' s b hb => by
      obtain ⟨z, hz, rfl⟩ := List.mem_map.mp hb
      exact ((zm z hz).mono (TK.of s)).dp
    have dD : ∀ H', Same H2 H' → ∀ b ∈ (rs.zip D).map (fun z => ((z.1, dataU z.2) : V × PyData)), Dp K H' b.1 b.2 := fun H' s b hb => by
      obtain ⟨z, hz, rfl⟩ := List.mem_map.mp hb
      exact ((R2.mem z hz).mono (TK.of s)).dp
    have al : ∀ Z : List (V × (Ed × Int)), PySem.W.AllAlike ((Z.map (fun z => ((z.1, dataU z.2) : V × PyData))).map Prod.snd) := fun Z d hd d' hd' => by
      obtain ⟨b, hb, rfl⟩ := List.mem_map.mp hd
      obtain ⟨b', hb', rfl⟩ := List.mem_map.mp hd'
      obtain ⟨z, hz, rfl⟩ := List.mem_map.mp hb
      obtain ⟨z', hz', rfl⟩ := List.mem_map.mp hb'
      exact dataU_alike _ _
    have so : ∀ Z : List (V × (Ed × Int)), PySem.W.Sortable ((Z.map (fun z => ((z.1, dataU z.2) : V × PyData))).map Prod.snd) := fun Z => .inl fun d hd => by
      obtain ⟨b, hb, rfl⟩ := List.mem_map.mp hd
      obtain ⟨z, hz, rfl⟩ := List.mem_map.mp hb
      exact ⟨_, _, rfl⟩
    have dh : ∀ Z : List (V × (Ed × Int)), ∀ b ∈ Z.map (fun z => ((z.1, dataU z.2) : V × PyData)), b.2.depth ≤ 50 := fun Z b hb => by
      obtain ⟨z, hz, rfl⟩ := List.mem_map.mp hb
      have := dataU_depth z.2
      show (dataU z.2).depth ≤ 50
      omega
    have mf : ∀ Z : List (V × (Ed × Int)), (Z.map (fun z => ((z.1, dataU z.2) : V × PyData))).map Prod.fst = Z.map Prod.fst := fun Z => by
      rw [List.map_map]
      rfl
    have ms : ∀ Z : List (V × (Ed × Int)), (Z.map (fun z => ((z.1, dataU z.2) : V × PyData))).map Prod.snd = (Z.map Prod.snd).map dataU := fun Z => by
      rw [List.map_map, List.map_map]
      rfl
    refine ⟨_, rfl, l, _, rfl, by rw [mf]; exact SqL.of hl, dz _ (Same.refl _), al _, so _, dh _, fun p1 hp1 => ?_⟩
    have s3 := same_new (o := .lst (((zs.map (fun z => ((z.1, dataU z.2) : V × PyData))).mergeSort (PySem.W.dataLe false Prod.snd)).map Prod.fst)) hp1
    have k1 := upd_same (H := H2) (a := p1) (o := .lst (((zs.map (fun z => ((z.1, dataU z.2) : V × PyData))).mergeSort (PySem.W.dataLe false Prod.snd)).map Prod.fst))
    generalize upd H2 p1 (.lst (((zs.map (fun z => ((z.1, dataU z.2) : V × PyData))).mergeSort (PySem.W.dataLe false Prod.snd)).map Prod.fst)) = H3 at s3 k1
    have hL3 := s3 _ _ hL2
    refine ⟨_, rfl, L, (rs.zip D).map (fun z => (z.1, dataU z.2)), rfl, by rw [mf, R.fst]; exact SqL.of hL3, dD _ s3, al _, so _, dh _, fun p2 hp2 => ?_⟩
    have s4 := same_new (o := .lst ((((rs.zip D).map (fun z => ((z.1, dataU z.2) : V × PyData))).mergeSort (PySem.W.dataLe false Prod.snd)).map Prod.fst)) hp2
    have k2 := upd_same (H := H3) (a := p2) (o := .lst ((((rs.zip D).map (fun z => ((z.1, dataU z.2) : V × PyData))).mergeSort (PySem.W.dataLe false Prod.snd)).map Prod.fst))
    generalize upd H3 p2 (.lst ((((rs.zip D).map (fun z => ((z.1, dataU z.2) : V × PyData))).mergeSort (PySem.W.dataLe false Prod.snd)).map Prod.fst)) = H4 at s4 k2
    have s34 := s3.trans s4
    have e1 := dp_sorted (K := K) (dz _ s34) (s4 _ _ k1)
    have e2 := dp_sorted (K := K) (dD _ s34) k2
    rw [ms, sorts_same nd pD] at e1
    rw [ms, R.snd] at e2
    have sh : SeqAt.shaped (.list ((D.map dataU).mergeSort leD)) = true := by
      rw [map_leD]
      exact shapeds dataU_lay dataU_depth (by decide) _
    refine ⟨_, _, e1, e2, sh, sh, ?_⟩
    rw [eqv_same sh]
    refine ⟨_, rfl, iteF ?_⟩
    -- keys
    have hl4 := s34 _ _ hl
    refine ⟨_, rfl, l, rfl, ⟨_, SqL.of hl4⟩, fun N hN => ?_⟩
    refine lc_it (walk_list (a := l) (xs := zs.map Prod.fst)) (fun i H' => Same H4 H' ∧ ∃ ks : List (Addr × Ed), H' N = some (.lst (ks.map fun k => V.ref k.1)) ∧ ks.map Prod.snd = (zs.map fun z => z.2.1).take i ∧ ∀ k ∈ ks, H' k.1 = some (.tup [.int (stampE k.2), .int (1 + (k.2.p : Int)), .int k.2.n])) ⟨same_new hN, [], upd_same, rfl, fun k hk => by simp at hk⟩ (fun i H' _ h => SqL.of (h.1 _ _ hl4)) ?_ ?_
    · rintro i x H9 H5 hi ⟨s5, ks, hN5, ek, tk⟩ ⟨rfl, hx⟩
      rw [List.getElem?_map] at hx
      obtain ⟨z, hz, rfl⟩ : ∃ z, zs[i]? = some z ∧ z.1 = x := by
        cases hz : zs[i]? with
        | none =>
          rw [hz] at hx
          cases hx
        | some z =>
          rw [hz] at hx
          exact ⟨z, rfl, Option.some.inj hx⟩
      have E := ((zm z (List.mem_of_getElem? hz)).mono (TK.of (s34.trans s5))).ed
      have kl : ks.length ≤ 63 := by
        have := congrArg List.length ek
        rw [List.length_map, List.length_take, List.length_map] at this
        have := pz.length_eq
        rw [List.length_zip] at this
        omega
      obtain ⟨x, ⟨e, m⟩⟩ := z
      obtain ⟨q0, a0, b0, c0, ex, h1, h2, h3⟩ := E
      have ex : x = .ref q0 := ex
      subst ex
      refine ⟨rfl, yesT ⟨_, rfl, q0, _, _, _, rfl, rfl, SqT.of h1, atI_nat (j := 1) rfl, b0, _, rfl, SqT.of h3, _, _, rfl, rfl, _, rfl, q0, _, _, _, rfl, rfl, SqT.of h1, atI_nat (j := 0) rfl, a0, _, _, _, rfl, rfl, SqT.of h2, atI_nat (j := 0) rfl, _, rfl, q0, _, _, _, rfl, rfl, SqT.of h1, atI_nat (j := 0) rfl, a0, _, _, _, rfl, rfl, SqT.of h2, atI_nat (j := 1) rfl, (by show 3 ≤ sizeLine; decide), fun t ht => ?_⟩⟩
      have s6 : Same H5 (upd H5 t (.tup [.int (1 + e.v.sum), .int (1 + (e.p : Int)), .int e.n])) := same_new ht
      refine ⟨_, s6 _ _ hN5, ?_, same_mut (s5.trans s6) hN, ks ++ [(t, e)], ?_, ?_, ?_⟩
      · rw [List.length_map]
        exact small1000 (by omega)
      · rw [upd_same, List.map_append]
        rfl
      · rw [List.take_add_one, List.getElem?_map, hz, List.map_append, ek]
        rfl
      · intro k hk
        have hne : ∀ {b : Addr} {xs : List V}, (upd H5 t (.tup [.int (1 + e.v.sum), .int (1 + (e.p : Int)), .int e.n])) b = some (.tup xs) → b ≠ N := fun hb z => by
          rw [z, s6 _ _ hN5] at hb
          cases hb
        rcases List.mem_append.mp hk with y | y
        · have := s6 _ _ (tk k y)
          rw [upd_ne (hne this)]
          exact this
        · rw [List.mem_singleton.mp y]
          have h9 : (upd H5 t (.tup [.int (1 + e.v.sum), .int (1 + (e.p : Int)), .int e.n])) t = some (.tup [.int (1 + e.v.sum), .int (1 + (e.p : Int)), .int e.n]) := upd_same
          show upd _ N _ t = _
          rw [upd_ne (hne h9)]
          exact h9
    rintro H5 ⟨s5, ks, hN5, ek, tk⟩
    rw [List.take_of_length_le (by rw [List.length_map, List.length_map]; exact Nat.le_refl _)] at ek
    have tl : ks.map Prod.snd = zs.map fun z => z.2.1 := ek
    -- sorted(keys)
    have dk : ∀ H', Same H5 H' → ∀ b ∈ ks.map (fun k => ((.ref k.1, keyT k.2) : V × PyData)), Dp K H' b.1 b.2 := fun H' s b hb => by
      obtain ⟨k, hk, rfl⟩ := List.mem_map.mp hb
      exact .tup (SqT.of (s _ _ (tk k hk))) (.cons (.int _) (.cons (.int _) (.cons (.int _) .nil)))
    have kf : (ks.map (fun k => ((.ref k.1, keyT k.2) : V × PyData))).map Prod.fst = ks.map fun k => V.ref k.1 := by
      rw [List.map_map]
      rfl
    have ksn : (ks.map (fun k => ((.ref k.1, keyT k.2) : V × PyData))).map Prod.snd = (ks.map Prod.snd).map keyT := by
      rw [List.map_map, List.map_map]
      rfl
    have dks : (ks.map Prod.snd).map keyT = ((ks.map Prod.snd).map keyT).mergeSort leD := by
      refine (List.mergeSort_of_pairwise ?_).symm
      rw [tl, List.map_map, List.pairwise_map]
      exact sz.imp fun h => keyT_le h
    refine ⟨_, rfl, _, rfl, N, ks.map (fun k => (.ref k.1, keyT k.2)), rfl, by rw [kf]; exact SqL.of hN5, dk _ (Same.refl _), ?_, .inl ?_, ?_, fun p3 hp3 => ?_⟩
    · intro d hd d' hd'
      rw [ksn] at hd hd'
      obtain ⟨e, _, rfl⟩ := List.mem_map.mp hd
      obtain ⟨e', _, rfl⟩ := List.mem_map.mp hd'
      exact keyT_alike _ _
    · intro d hd
      rw [ksn] at hd
      obtain ⟨e, _, rfl⟩ := List.mem_map.mp hd
      exact ⟨_, _, rfl⟩
    · intro b hb
      obtain ⟨k, hk, rfl⟩ := List.mem_map.mp hb
      have := keyT_depth k.2
      show (keyT k.2).depth ≤ 50
      omega
    have s6 := same_new (o := .lst (((ks.map (fun k => ((.ref k.1, keyT k.2) : V × PyData))).mergeSort (PySem.W.dataLe false Prod.snd)).map Prod.fst)) hp3
    have k3 := upd_same (H := H5) (a := p3) (o := .lst (((ks.map (fun k => ((.ref k.1, keyT k.2) : V × PyData))).mergeSort (PySem.W.dataLe false Prod.snd)).map Prod.fst))
    generalize upd H5 p3 (.lst (((ks.map (fun k => ((.ref k.1, keyT k.2) : V × PyData))).mergeSort (PySem.W.dataLe false Prod.snd)).map Prod.fst)) = H6 at s6 k3
    have f2 := dp_sorted (K := K) (dk _ s6) k3
    have f1 : Dp K H6 (.ref N) (.list ((ks.map Prod.snd).map keyT)) := by
      rw [← ksn]
      refine .lst (SqL.of (s6 _ _ hN5)) ?_
      rw [← kf]
      exact dpAll_bs (dk _ s6)
    rw [ksn, ← dks] at f2
    have sh3 := shapeds keyT_lay keyT_depth (by decide) (ks.map Prod.snd)
    refine ⟨_, _, f1, f2, sh3, sh3, ?_⟩
    rw [eqv_same sh3]
    refine ⟨_, rfl, iteF ?_⟩
    -- the loop
    have s26 : Same H2 H6 := (s34.trans s5).trans s6
    refine ⟨(by show 4 ≤ sizeLine; decide), fun S hS0 => ?_⟩
    have s7 := same_new (o := .lst (([0, 0, 0, 0] : List Int).map V.int)) hS0
    have hS7 := upd_same (H := H6) (a := S) (o := .lst (([0, 0, 0, 0] : List Int).map V.int))
    have hL6 := s26 _ _ hL2
    have R6 := R2.imp fun x e h => h.mono (TK.of s26)
    refine ⟨_, rfl, L, rfl, ⟨_, SqL.of (s7 _ _ hL6)⟩, for_list (K := K) (a := L) (xs := rs) (fun i σ H' => ∃ c3 c6, σ = [some (.ref a), some (.ref L), some (.ref l), c3, some (.ref N), some (.ref S), c6] ∧ Same H6 H' ∧ H' S = some (.lst ((vers ((D.map Prod.fst).take i)).map V.int))) ⟨_, _, rfl, s7, hS7⟩ (fun i σ H' _ ⟨_, _, _, s, _⟩ => SqL.of (s _ _ hL6)) ?_ ?_⟩
    · rintro i x σ H8 hx ⟨c3, c6, rfl, s8, hS8⟩
      obtain ⟨u, hu, E⟩ := R6.get hx
      have oe := ok u (List.mem_of_getElem? hu)
      have hu' : (D.map Prod.fst)[i]? = some u.1 := by
        rw [List.getElem?_map, hu]
        rfl
      obtain ⟨q0, a0, b0, c0, rfl, h1, h2, h3⟩ := (E.mono (TK.of s8)).ed
      obtain ⟨e, m⟩ := u
      have hp4 : e.p < 4 := oe.p
      have at1 : atI ((vers ((D.map Prod.fst).take i)).map V.int) ((1 + (e.p : Int)) - 1) = some (.int ((vers ((D.map Prod.fst).take i)).getD e.p 0)) := by
        rw [show (1 + (e.p : Int)) - 1 = ((e.p : Nat) : Int) by omega]
        exact atI_nat (getD_at (by rw [vers_len]; exact hp4))
      have ix1 : ixN ((vers ((D.map Prod.fst).take i)).map V.int).length ((1 + (e.p : Int)) - 1) = some e.p := by
        rw [show (1 + (e.p : Int)) - 1 = ((e.p : Nat) : Int) by omega]
        exact ixN_nat (by rw [List.length_map, vers_len]; exact hp4)
      refine ⟨_, rfl, _, rfl, q0, _, _, _, rfl, rfl, SqT.of h1, atI_nat (j := 0) rfl, a0, _, _, _, rfl, rfl, SqT.of h2, atI_nat (j := 0) rfl, _, _, rfl, rfl, S, _, _, _, rfl, rfl, SqL.of hS8, at1, _, _, rfl, rfl, _, rfl, _, rfl, q0, _, _, _, rfl, rfl, SqT.of h1, atI_nat (j := 0) rfl, a0, _, _, _, rfl, rfl, SqT.of h2, atI_nat (j := 0) rfl, _, _, rfl, rfl, S, _, _, _, rfl, rfl, hS8, ix1, ?_⟩
      rw [set_int, ← vers_step hu' hp4]
      have s9 : Same H6 (upd H8 S (.lst ((vers ((D.map Prod.fst).take (i + 1))).map V.int))) := same_mut s8 hS0
      have hS9 : (upd H8 S (.lst ((vers ((D.map Prod.fst).take (i + 1))).map V.int))) S = some (.lst ((vers ((D.map Prod.fst).take (i + 1))).map V.int)) := upd_same
      have E9 := E.mono (TK.of s9)
      generalize upd H8 S (.lst ((vers ((D.map Prod.fst).take (i + 1))).map V.int)) = H9 at s9 hS9 E9
      obtain ⟨q1, a1, b1, c1, ez, g1, g2, g3⟩ := E9.ed
      cases ez
      have E9' : EdAt H9 (.ref q0) e := ⟨q0, a1, b1, c1, rfl, g1, g2, g3⟩
      have atv : ∀ j : Nat, j < 4 → atI (e.v.map V.int) ((j : Nat) : Int) = some (.int (e.v.getD j 0)) := fun j hj => atI_nat (getD_at (by rw [oe.v]; exact hj))
      have es : stampE e = 1 + e.v.getD 0 0 + e.v.getD 1 0 + e.v.getD 2 0 + e.v.getD 3 0 := by
        have hl := oe.v
        revert hl
        unfold stampE
        rcases e.v with _ | ⟨v0, _ | ⟨v1, _ | ⟨v2, _ | ⟨v3, _ | ⟨v4, t⟩⟩⟩⟩⟩ <;> intro hl <;> simp at hl ⊢ <;> omega
      refine ⟨_, rfl, _, e, rfl, E9', _, rfl, q0, _, _, _, rfl, rfl, SqT.of g1, atI_nat (j := 1) rfl, b1, _, _, _, rfl, rfl, SqT.of g3, atv 0 (by decide), _, _, rfl, rfl, _, rfl, q0, _, _, _, rfl, rfl, SqT.of g1, atI_nat (j := 1) rfl, b1, _, _, _, rfl, rfl, SqT.of g3, atv 1 (by decide), _, _, rfl, rfl, _, rfl, q0, _, _, _, rfl, rfl, SqT.of g1, atI_nat (j := 1) rfl, b1, _, _, _, rfl, rfl, SqT.of g3, atv 2 (by decide), _, _, rfl, rfl, _, rfl, q0, _, _, _, rfl, rfl, SqT.of g1, atI_nat (j := 1) rfl, b1, _, _, _, rfl, rfl, SqT.of g3, atv 3 (by decide), _, _, rfl, rfl, rfl, _, rfl, ite2 (fun c => ?_) (fun c => ?_)⟩
      · rw [es] at c
        simp at c
      refine ⟨_, rfl, L, rfl, ⟨_, SqL.of (s9 _ _ hL6)⟩, for_list (K := K) (a := L) (xs := rs) (fun t σ H' => H' = H9 ∧ ∃ c6, σ = [some (.ref a), some (.ref L), some (.ref l), some (.ref q0), some (.ref N), some (.ref S), c6]) ⟨rfl, _, rfl⟩ (fun t σ H' _ ⟨h, _⟩ => by rw [h]; exact SqL.of (s9 _ _ hL6)) ?_ ?_⟩
      · rintro t y σ H10 hy ⟨rfl, c6, rfl⟩
        obtain ⟨w, hw, F⟩ := R6.get hy
        have of := ok w (List.mem_of_getElem? hw)
        obtain ⟨q5, a5, b5, c5, rfl, f1, f2, f3⟩ := (F.mono (TK.of s9)).ed
        obtain ⟨f, m2⟩ := w
        have F9 : EdAt H10 (.ref q5) f := ⟨q5, a5, b5, c5, rfl, f1, f2, f3⟩
        refine ⟨_, rfl, q5, _, _, _, rfl, rfl, SqT.of f1, atI_nat (j := 0) rfl, _, rfl, q0, _, _, _, rfl, rfl, SqT.of g1, atI_nat (j := 0) rfl, _, _, dp_id f2, dp_id g2, idD_shaped _, idD_shaped _, ?_⟩
        have nx : ∃ c6, [some (V.ref a), some (V.ref L), some (V.ref l), some (V.ref q0), some (V.ref N), some (V.ref S), some (V.ref q5)] = [some (V.ref a), some (V.ref L), some (V.ref l), some (V.ref q0), some (V.ref N), some (V.ref S), c6] := ⟨_, rfl⟩
        have atp : atI (e.v.map V.int) ((1 + (f.p : Int)) - 1) = some (.int (e.v.getD f.p 0)) := by
          rw [show (1 + (f.p : Int)) - 1 = ((f.p : Nat) : Int) by omega]
          exact atv f.p of.p
        refine ⟨_, rfl, ite2 (fun c => ?_) (fun _ => iteF ⟨rfl, nx⟩)⟩
        refine ⟨_, rfl, _, rfl, .ref q0, .ref q5, e, f, rfl, E9', F9, oe, of, _, rfl, q0, _, _, _, rfl, rfl, SqT.of g1, atI_nat (j := 1) rfl, _, rfl, q5, _, _, _, rfl, rfl, SqT.of f1, atI_nat (j := 0) rfl, a5, _, _, _, rfl, rfl, SqT.of f2, atI_nat (j := 0) rfl, _, _, rfl, rfl, b1, _, _, _, rfl, rfl, SqT.of g3, atp, _, rfl, q5, _, _, _, rfl, rfl, SqT.of f1, atI_nat (j := 0) rfl, a5, _, _, _, rfl, rfl, SqT.of f2, atI_nat (j := 1) rfl, _, _, rfl, rfl, rfl, _, rfl, ite2 (fun c => ?_) (fun c => ⟨rfl, nx⟩)⟩
        have eb : decide (f.n ≤ e.v.getD f.p 0) = decide (e.v.getD f.p 0 ≥ f.n) := rfl
        simp at c
      rintro σ H10 ⟨rfl, c6, rfl⟩
      exact ⟨_, _, rfl, s9, hS9⟩
    · rintro σ H8 ⟨c3, c6, rfl, s8, hS8⟩
      rw [List.take_of_length_le (by rw [List.length_map, R2.len]; exact Nat.le_refl _)] at hS8
      have R8 : Rep H8 rs (D.map Prod.fst) := by
        refine ⟨by rw [List.length_map, R.len], fun i x e hx he => ?_⟩
        rw [List.getElem?_map] at he
        cases hu : D[i]? with
        | none =>
          rw [hu] at he
          cases he
        | some u =>
          rw [hu] at he
          cases he
          exact ((R6.at_ i x u hx hu).mono (TK.of s8)).ed
      refine ⟨_, rfl, L, rs, D.map Prod.fst, rfl, SqL.of (s8 _ _ hL6), R8, by rw [List.length_map]; omega, fun t H9 s9 ht => ?_⟩
      refine ⟨_, rfl, S, _, rfl, .inl ⟨SqL.of (s9 _ _ hS8), fun y hy => ?_⟩⟩
      have s10 := same_new (o := .tup ((vers (D.map Prod.fst)).map V.int)) hy
      have sh := shaped_tup (vers (D.map Prod.fst))
      refine ⟨_, _, .tup (SqT.of (s10 _ _ ht)) (dp_ints _), .tup (SqT.of upd_same) (dp_ints _), sh, sh, ?_⟩
      rw [eqv_same sh]
      exact q _
end
set_option maxHeartbeats 0 in
theorem all_mk {l : PySem.W.OpenLaw} {w : World} {K : PySem.W.Frag} {h : Heap} {mg : Str → Option Value} {fa f1 f2 f3 f4 f5 f6 f7 f8 f9 f10 f11 f12 : Addr} (X : K.In h) (G : h.Ns mainGlobals mg) (hfa : mg "law" = some (.ref fa))
    {od1 an1 od2 an2 od3 an3 od4 an4 od5 an5 od6 an6 od7 an7 od8 an8 od9 an9 od10 an10 od11 an11 od12 an12 : Option Addr} {sl1 sl2 sl3 sl4 sl5 sl6 sl7 sl8 sl9 sl10 sl11 sl12 : Array (Option Value)} {oc1 kV1 dc1 pm1 cd1 ct1 oc2 kV2 dc2 pm2 cd2 ct2 oc3 kV3 dc3 pm3 cd3 ct3 oc4 kV4 dc4 pm4 cd4 ct4 oc5 kV5 dc5 pm5 cd5 ct5 oc6 kV6 dc6 pm6 cd6 ct6 oc7 kV7 dc7 pm7 cd7 ct7 oc8 kV8 dc8 pm8 cd8 ct8 oc9 kV9 dc9 pm9 cd9 ct9 oc10 kV10 dc10 pm10 cd10 ct10 oc11 kV11 dc11 pm11 cd11 ct11 oc12 kV12 dc12 pm12 cd12 ct12 : Value}
    (a1 : PySem.W.nsIn K mainGlobals "counts" = some (some (.ref f1))) (l1 : K.lookup f1 = some ⟨oc1, od1, .func (PySem.W.fnOf "counts" "counts" (defArgs sCounts) (defBody sCounts) (defScope sCounts) .none kV1 dc1 pm1 an1 cd1 ct1), sl1⟩) (c1 : PySem.W.codeIn K cd1 "counts" = true) (k1 : PySem.W.keepIn K (.ref f1) = true)
    (a2 : PySem.W.nsIn K mainGlobals "stamp" = some (some (.ref f2))) (l2 : K.lookup f2 = some ⟨oc2, od2, .func (PySem.W.fnOf "stamp" "stamp" (defArgs sStamp) (defBody sStamp) (defScope sStamp) .none kV2 dc2 pm2 an2 cd2 ct2), sl2⟩) (c2 : PySem.W.codeIn K cd2 "stamp" = true) (k2 : PySem.W.keepIn K (.ref f2) = true)
    (a3 : PySem.W.nsIn K mainGlobals "has_seen" = some (some (.ref f3))) (l3 : K.lookup f3 = some ⟨oc3, od3, .func (PySem.W.fnOf "has_seen" "has_seen" (defArgs sHasSeen) (defBody sHasSeen) (defScope sHasSeen) .none kV3 dc3 pm3 an3 cd3 ct3), sl3⟩) (c3 : PySem.W.codeIn K cd3 "has_seen" = true) (k3 : PySem.W.keepIn K (.ref f3) = true)
    (a4 : PySem.W.nsIn K mainGlobals "place" = some (some (.ref f4))) (l4 : K.lookup f4 = some ⟨oc4, od4, .func (PySem.W.fnOf "place" "place" (defArgs sPlace) (defBody sPlace) (defScope sPlace) .none kV4 dc4 pm4 an4 cd4 ct4), sl4⟩) (c4 : PySem.W.codeIn K cd4 "place" = true) (k4 : PySem.W.keepIn K (.ref f4) = true)
    (a5 : PySem.W.nsIn K mainGlobals "ordered" = some (some (.ref f5))) (l5 : K.lookup f5 = some ⟨oc5, od5, .func (PySem.W.fnOf "ordered" "ordered" (defArgs sOrdered) (defBody sOrdered) (defScope sOrdered) .none kV5 dc5 pm5 an5 cd5 ct5), sl5⟩) (c5 : PySem.W.codeIn K cd5 "ordered" = true) (k5 : PySem.W.keepIn K (.ref f5) = true)
    (a6 : PySem.W.nsIn K mainGlobals "_numbers" = some (some (.ref f6))) (l6 : K.lookup f6 = some ⟨oc6, od6, .func (PySem.W.fnOf "_numbers" "_numbers" (defArgs sNumbers) (defBody sNumbers) (defScope sNumbers) .none kV6 dc6 pm6 an6 cd6 ct6), sl6⟩) (c6 : PySem.W.codeIn K cd6 "_numbers" = true) (k6 : PySem.W.keepIn K (.ref f6) = true)
    (a7 : PySem.W.nsIn K mainGlobals "version_of" = some (some (.ref f7))) (l7 : K.lookup f7 = some ⟨oc7, od7, .func (PySem.W.fnOf "version_of" "version_of" (defArgs sVersionOf) (defBody sVersionOf) (defScope sVersionOf) .none kV7 dc7 pm7 an7 cd7 ct7), sl7⟩) (c7 : PySem.W.codeIn K cd7 "version_of" = true) (k7 : PySem.W.keepIn K (.ref f7) = true)
    (a8 : PySem.W.nsIn K mainGlobals "_law_cell" = some (some (.ref f8))) (l8 : K.lookup f8 = some ⟨oc8, od8, .func (PySem.W.fnOf "_law_cell" "_law_cell" (defArgs sLawCell) (defBody sLawCell) (defScope sLawCell) .none kV8 dc8 pm8 an8 cd8 ct8), sl8⟩) (c8 : PySem.W.codeIn K cd8 "_law_cell" = true) (k8 : PySem.W.keepIn K (.ref f8) = true)
    (a9 : PySem.W.nsIn K mainGlobals "_law_digits" = some (some (.ref f9))) (l9 : K.lookup f9 = some ⟨oc9, od9, .func (PySem.W.fnOf "_law_digits" "_law_digits" (defArgs sLawDigits) (defBody sLawDigits) (defScope sLawDigits) .none kV9 dc9 pm9 an9 cd9 ct9), sl9⟩) (c9 : PySem.W.codeIn K cd9 "_law_digits" = true) (k9 : PySem.W.keepIn K (.ref f9) = true)
    (a10 : PySem.W.nsIn K mainGlobals "_law_padded" = some (some (.ref f10))) (l10 : K.lookup f10 = some ⟨oc10, od10, .func (PySem.W.fnOf "_law_padded" "_law_padded" (defArgs sLawPadded) (defBody sLawPadded) (defScope sLawPadded) .none kV10 dc10 pm10 an10 cd10 ct10), sl10⟩) (c10 : PySem.W.codeIn K cd10 "_law_padded" = true) (k10 : PySem.W.keepIn K (.ref f10) = true)
    (a11 : PySem.W.nsIn K mainGlobals "_law_edits" = some (some (.ref f11))) (l11 : K.lookup f11 = some ⟨oc11, od11, .func (PySem.W.fnOf "_law_edits" "_law_edits" (defArgs sLawEdits) (defBody sLawEdits) (defScope sLawEdits) .none kV11 dc11 pm11 an11 cd11 ct11), sl11⟩) (c11 : PySem.W.codeIn K cd11 "_law_edits" = true) (k11 : PySem.W.keepIn K (.ref f11) = true)
    (a12 : PySem.W.nsIn K mainGlobals "law" = some (some (.ref f12))) (l12 : K.lookup f12 = some ⟨oc12, od12, .func (PySem.W.fnOf "law" "law" (defArgs sLaw) (defBody sLaw) (defScope sLaw) .none kV12 dc12 pm12 an12 cd12 ct12), sl12⟩) (c12 : PySem.W.codeIn K cd12 "law" = true) (k12 : PySem.W.keepIn K (.ref f12) = true)
    (z_sorted : PySem.W.nsIn K mainGlobals "sorted" = some none)
    (z_tuple : PySem.W.nsIn K mainGlobals "tuple" = some none)
    (z_range : PySem.W.nsIn K mainGlobals "range" = some none)
    (z_sum : PySem.W.nsIn K mainGlobals "sum" = some none)
    (z_len : PySem.W.nsIn K mainGlobals "len" = some none)
    (z_set : PySem.W.nsIn K mainGlobals "set" = some none)
    (z_int : PySem.W.nsIn K mainGlobals "int" = some none)
    (z_repr : PySem.W.nsIn K mainGlobals "repr" = some none)
    {ap_PERSONS : Addr} {n_PERSONS : Nat} {sl_PERSONS : Array (Option Value)} {t_PERSONS_0 t_PERSONS_1 t_PERSONS_2 t_PERSONS_3 : Nat} (x_PERSONS : PySem.W.nsIn K mainGlobals "PERSONS" = some (some (.ref ap_PERSONS))) (y_PERSONS : K.lookup ap_PERSONS = some ⟨.type "tuple", none, .seq ⟨[.int 1 t_PERSONS_0, .int 2 t_PERSONS_1, .int 3 t_PERSONS_2, .int 4 t_PERSONS_3]⟩ n_PERSONS, sl_PERSONS⟩)
    : ∃ fd : FuncData, (∀ (s : Shared) (v : Value), BindsTo s fd ⟨[v], []⟩ [("script", v)]) ∧ ∀ base : Heap, K.In base → base.Ns mainGlobals mg → FnOk l.prog w K mg base CX0 6 fa fd ["script"] (spLaw K) := by
  have e := hfa.symm.trans (PySem.W.mg_of X G a12)
  cases e
  have F1 := fun_mk (st := sCounts) l1 c1 k1
  have b1 := F1.binds (ps := ["version", "edit_id"]) fun _ _ _ _ _ _ us hl => match us, hl with | [_, _], _ => rfl
  have F2 := fun_mk (st := sStamp) l2 c2 k2
  have b2 := F2.binds (ps := ["edit"]) fun _ _ _ _ _ _ us hl => match us, hl with | [_], _ => rfl
  have F3 := fun_mk (st := sHasSeen) l3 c3 k3
  have b3 := F3.binds (ps := ["edit", "other"]) fun _ _ _ _ _ _ us hl => match us, hl with | [_, _], _ => rfl
  have F4 := fun_mk (st := sPlace) l4 c4 k4
  have b4 := F4.binds (ps := ["edit"]) fun _ _ _ _ _ _ us hl => match us, hl with | [_], _ => rfl
  have F5 := fun_mk (st := sOrdered) l5 c5 k5
  have b5 := F5.binds (ps := ["edits"]) fun _ _ _ _ _ _ us hl => match us, hl with | [_], _ => rfl
  have F6 := fun_mk (st := sNumbers) l6 c6 k6
  have b6 := F6.binds (ps := ["edits", "person"]) fun _ _ _ _ _ _ us hl => match us, hl with | [_, _], _ => rfl
  have F7 := fun_mk (st := sVersionOf) l7 c7 k7
  have b7 := F7.binds (ps := ["edits"]) fun _ _ _ _ _ _ us hl => match us, hl with | [_], _ => rfl
  have F8 := fun_mk (st := sLawCell) l8 c8 k8
  have b8 := F8.binds (ps := ["script", "k"]) fun _ _ _ _ _ _ us hl => match us, hl with | [_, _], _ => rfl
  have F9 := fun_mk (st := sLawDigits) l9 c9 k9
  have b9 := F9.binds (ps := ["cell", "k", "most"]) fun _ _ _ _ _ _ us hl => match us, hl with | [_, _, _], _ => rfl
  have F10 := fun_mk (st := sLawPadded) l10 c10 k10
  have b10 := F10.binds (ps := ["cell", "k"]) fun _ _ _ _ _ _ us hl => match us, hl with | [_, _], _ => rfl
  have F11 := fun_mk (st := sLawEdits) l11 c11 k11
  have b11 := F11.binds (ps := ["script"]) fun _ _ _ _ _ _ us hl => match us, hl with | [_], _ => rfl
  have F12 := fun_mk (st := sLaw) l12 c12 k12
  have b12 := F12.binds (ps := ["script"]) fun _ _ _ _ _ _ us hl => match us, hl with | [_], _ => rfl
  exact ⟨PySem.W.fnOf "law" "law" (defArgs sLaw) (defBody sLaw) (defScope sLaw) .none kV12 dc12 pm12 an12 cd12 ct12, fun s v => .of_eq rfl, fun base _ _ => okLaw (P := l.prog) (w := w) (base := base) (⟨f1, _, F1, b1, PySem.W.mg_of X G a1, f2, _, F2, b2, PySem.W.mg_of X G a2, f3, _, F3, b3, PySem.W.mg_of X G a3, f4, _, F4, b4, PySem.W.mg_of X G a4, f5, _, F5, b5, PySem.W.mg_of X G a5, f6, _, F6, b6, PySem.W.mg_of X G a6, f7, _, F7, b7, PySem.W.mg_of X G a7, f8, _, F8, b8, PySem.W.mg_of X G a8, f9, _, F9, b9, PySem.W.mg_of X G a9, f10, _, F10, b10, PySem.W.mg_of X G a10, f11, _, F11, b11, PySem.W.mg_of X G a11, fa, _, F12, b12, PySem.W.mg_of X G a12, PySem.W.mg_none_of X G z_sorted, PySem.W.mg_none_of X G z_tuple, PySem.W.mg_none_of X G z_range, PySem.W.mg_none_of X G z_sum, PySem.W.mg_none_of X G z_len, PySem.W.mg_none_of X G z_set, PySem.W.mg_none_of X G z_int, PySem.W.mg_none_of X G z_repr, ap_PERSONS, PySem.W.mg_of X G x_PERSONS, fun H => .inr ⟨_, _, _, y_PERSONS, rfl, rfl, (by show 4 ≤ sizeLine; decide), (.cons ⟨_, rfl⟩ (.cons ⟨_, rfl⟩ (.cons ⟨_, rfl⟩ (.cons ⟨_, rfl⟩ .nil))))⟩, ⟨_, y_PERSONS, rfl, rfl⟩⟩ : Txt K mg)⟩
theorem walk {l : PySem.W.OpenLaw} {q : Program} {loose : List Str} {XP : (Str → Option Value) → Heap → Prop} {YP : World → Heap → Prop} {d : DefRec} {K : Params → PySem.W.Frag} (hn : l.most = some 63) (hdf : d.params.defaults = [])
    (hY : ∀ (w : World) (h : Heap), YP w h → (K w.params).In h)
    (F : ∀ (w : World) (mg : Str → Option Value) (fa : Addr) (h : Heap), (K w.params).In h → h.Ns mainGlobals mg → mg d.name = some (.ref fa) →
      ∃ fd : FuncData, (∀ (s : Shared) (u : Value), BindsTo s fd ⟨[u], []⟩ [("script", u)]) ∧ ∀ base : Heap, (K w.params).In base → base.Ns mainGlobals mg → FnOk l.prog w (K w.params) mg base CX0 6 fa fd ["script"] (spLaw (K w.params))) :
    PySem.W.WalkO q loose XP YP l.row.toRowW d [] (fun f vs => PySem.call f vs) :=
  L2.walk_of (n := 63) (k := 6) (x := "script") (CX := fun _ => CX0) (sp := fun w => spLaw (K w.params)) hn (by decide) hdf ⟨rfl, by decide, by decide⟩ hY F (fun _ _ a ns hl _ hS => ⟨a, ns, rfl, hS, hl, fun _ => rfl⟩) fun _ _ _ _ _ z => z
end My
open PySem PySem.W PyProof.Rows
set_option maxRecDepth 100000 in
set_option maxHeartbeats 0 in
theorem PySem.Challenge.cw_tablemates_k29_edits_in_order_holds : PySem.Challenge.rw_tablemates_k29_edits_in_order.Holds := by
  w_on; o_law; k_head; (case hw => w_witness2)
  k_fill
  refine My.walk (l := PySem.Challenge.rw_tablemates_k29_edits_in_order) rfl rfl (fun w h Y => PySem.W.km_in_of Y) ?F
  case F =>
    intro w mg fa h KX G hmg
    refine' My.all_mk KX G hmg ?a1 ?l1 ?c1 ?k1 ?a2 ?l2 ?c2 ?k2 ?a3 ?l3 ?c3 ?k3 ?a4 ?l4 ?c4 ?k4 ?a5 ?l5 ?c5 ?k5 ?a6 ?l6 ?c6 ?k6 ?a7 ?l7 ?c7 ?k7 ?a8 ?l8 ?c8 ?k8 ?a9 ?l9 ?c9 ?k9 ?a10 ?l10 ?c10 ?k10 ?a11 ?l11 ?c11 ?k11 ?a12 ?l12 ?c12 ?k12 ?z_sorted ?z_tuple ?z_range ?z_sum ?z_len ?z_set ?z_int ?z_repr ?x_PERSONS ?y_PERSONS
    (case a1 => k_is); (case l1 => k_is); (case c1 => k_is); (case k1 => k_is); (case a2 => k_is); (case l2 => k_is); (case c2 => k_is); (case k2 => k_is); (case a3 => k_is); (case l3 => k_is); (case c3 => k_is); (case k3 => k_is); (case a4 => k_is); (case l4 => k_is); (case c4 => k_is); (case k4 => k_is); (case a5 => k_is); (case l5 => k_is); (case c5 => k_is); (case k5 => k_is); (case a6 => k_is); (case l6 => k_is); (case c6 => k_is); (case k6 => k_is); (case a7 => k_is); (case l7 => k_is); (case c7 => k_is); (case k7 => k_is); (case a8 => k_is); (case l8 => k_is); (case c8 => k_is); (case k8 => k_is); (case a9 => k_is); (case l9 => k_is); (case c9 => k_is); (case k9 => k_is); (case a10 => k_is); (case l10 => k_is); (case c10 => k_is); (case k10 => k_is); (case a11 => k_is); (case l11 => k_is); (case c11 => k_is); (case k11 => k_is); (case a12 => k_is); (case l12 => k_is); (case c12 => k_is); (case k12 => k_is); (case z_sorted => k_is); (case z_tuple => k_is); (case z_range => k_is); (case z_sum => k_is); (case z_len => k_is); (case z_set => k_is); (case z_int => k_is); (case z_repr => k_is); (case x_PERSONS => k_is); (case y_PERSONS => k_is)

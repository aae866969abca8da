import PyProof.Rows.All
import Wide.All
import OpenK.AllK
import Wide.FinOn
import HandS.ForMost
import HandS.Zip
import HandS.Walk
import HandS.Deep
import HandS.Conv
import HandS.Style
import HandS.SortInts
import HandS.Codes
import KE.KEqDeep
import PySem.Challenge.RW_tablemates_k30_closed_lists
set_option Elab.async false
set_option linter.all false
set_option maxRecDepth 100000
namespace My
open PySem PySem.Spec PyProof.Rows L2 RZ
def topS (i : Nat) : Stmt := PySem.Challenge.pw_tablemates_k30_closed_lists.main.body.getD i (.Pass ⟨0, 0, 0, 0⟩)
abbrev sCounts : Stmt := topS 1
abbrev sIncludes : Stmt := topS 2
abbrev sHasSeen : Stmt := topS 5
abbrev sNumbers : Stmt := topS 6
abbrev sVersionOf : Stmt := topS 7
abbrev sWithoutGap : Stmt := topS 8
abbrev sFits : Stmt := topS 9
abbrev sClosed : Stmt := topS 10
abbrev sLawCell : Stmt := topS 12
abbrev sLawDigits : Stmt := topS 13
abbrev sLawPadded : Stmt := topS 14
abbrev sLawList : Stmt := topS 15
abbrev sLawIsClosed : Stmt := topS 16
abbrev sLaw : Stmt := topS 17
theorem scCounts : FnScope ["version", "edit_id", "person", "number"] ["version", "edit_id"] (defScope sCounts) := ⟨rfl, rfl, rfl, by decide +kernel, rfl, by decide +kernel, by decide +kernel⟩
theorem scIncludes : FnScope ["version", "other", "mine", "theirs"] ["version", "other"] (defScope sIncludes) := ⟨rfl, rfl, rfl, by decide +kernel, rfl, by decide +kernel, by decide +kernel⟩
theorem scHasSeen : FnScope ["edit", "other"] ["edit", "other"] (defScope sHasSeen) := ⟨rfl, rfl, rfl, by decide +kernel, rfl, by decide +kernel, by decide +kernel⟩
theorem scNumbers : FnScope ["edits", "person", "edit"] ["edits", "person"] (defScope sNumbers) := ⟨rfl, rfl, rfl, by decide +kernel, rfl, by decide +kernel, by decide +kernel⟩
theorem scVersionOf : FnScope ["edits", "person"] ["edits"] (defScope sVersionOf) := ⟨rfl, rfl, rfl, by decide +kernel, rfl, by decide +kernel, by decide +kernel⟩
theorem scWithoutGap : FnScope ["edits", "person", "numbers"] ["edits", "person"] (defScope sWithoutGap) := ⟨rfl, rfl, rfl, by decide +kernel, rfl, by decide +kernel, by decide +kernel⟩
theorem scFits : FnScope ["edit", "edits", "held", "person", "number", "other"] ["edit", "edits", "held"] (defScope sFits) := ⟨rfl, rfl, rfl, by decide +kernel, rfl, by decide +kernel, by decide +kernel⟩
theorem scClosed : FnScope ["edits", "held", "person", "edit"] ["edits"] (defScope sClosed) := ⟨rfl, rfl, rfl, by decide +kernel, rfl, by decide +kernel, by decide +kernel⟩
theorem scLawCell : FnScope ["script", "k"] ["script", "k"] (defScope sLawCell) := ⟨rfl, rfl, rfl, by decide +kernel, rfl, by decide +kernel, by decide +kernel⟩
theorem scLawDigits : FnScope ["cell", "k", "most", "digits", "turn", "seed"] ["cell", "k", "most"] (defScope sLawDigits) := ⟨rfl, rfl, rfl, by decide +kernel, rfl, by decide +kernel, by decide +kernel⟩
theorem scLawPadded : FnScope ["cell", "k", "d", "turn"] ["cell", "k"] (defScope sLawPadded) := ⟨rfl, rfl, rfl, by decide +kernel, rfl, by decide +kernel, by decide +kernel⟩
theorem scLawList : FnScope ["script", "edits", "k", "d", "person", "edit", "number", "seen", "j"] ["script"] (defScope sLawList) := ⟨rfl, rfl, rfl, by decide +kernel, rfl, by decide +kernel, by decide +kernel⟩
theorem scLawIsClosed : FnScope ["edits", "edit", "ids", "j", "number", "other"] ["edits"] (defScope sLawIsClosed) := ⟨rfl, rfl, rfl, by decide +kernel, rfl, by decide +kernel, by decide +kernel⟩
theorem scLaw : FnScope ["script", "edits"] ["script"] (defScope sLaw) := ⟨rfl, rfl, rfl, by decide +kernel, rfl, by decide +kernel, by decide +kernel⟩
set_option maxHeartbeats 0 in
structure Txt (K : PySem.W.Frag) (mg : Str → Option Value) where
  fCounts : Addr
  fdCounts : FuncData
  FCounts : Fun K "counts" "counts" sCounts fCounts fdCounts
  bCounts : Binds K fdCounts ["version", "edit_id"] []
  gCounts : mg "counts" = some (.ref fCounts)
  fIncludes : Addr
  fdIncludes : FuncData
  FIncludes : Fun K "includes" "includes" sIncludes fIncludes fdIncludes
  bIncludes : Binds K fdIncludes ["version", "other"] []
  gIncludes : mg "includes" = some (.ref fIncludes)
  fHasSeen : Addr
  fdHasSeen : FuncData
  FHasSeen : Fun K "has_seen" "has_seen" sHasSeen fHasSeen fdHasSeen
  bHasSeen : Binds K fdHasSeen ["edit", "other"] []
  gHasSeen : mg "has_seen" = some (.ref fHasSeen)
  fNumbers : Addr
  fdNumbers : FuncData
  FNumbers : Fun K "_numbers" "_numbers" sNumbers fNumbers fdNumbers
  bNumbers : Binds K fdNumbers ["edits", "person"] []
  gNumbers : mg "_numbers" = some (.ref fNumbers)
  fVersionOf : Addr
  fdVersionOf : FuncData
  FVersionOf : Fun K "version_of" "version_of" sVersionOf fVersionOf fdVersionOf
  bVersionOf : Binds K fdVersionOf ["edits"] []
  gVersionOf : mg "version_of" = some (.ref fVersionOf)
  fWithoutGap : Addr
  fdWithoutGap : FuncData
  FWithoutGap : Fun K "_without_gap" "_without_gap" sWithoutGap fWithoutGap fdWithoutGap
  bWithoutGap : Binds K fdWithoutGap ["edits", "person"] []
  gWithoutGap : mg "_without_gap" = some (.ref fWithoutGap)
  fFits : Addr
  fdFits : FuncData
  FFits : Fun K "fits" "fits" sFits fFits fdFits
  bFits : Binds K fdFits ["edit", "edits", "held"] []
  gFits : mg "fits" = some (.ref fFits)
  fClosed : Addr
  fdClosed : FuncData
  FClosed : Fun K "closed" "closed" sClosed fClosed fdClosed
  bClosed : Binds K fdClosed ["edits"] []
  gClosed : mg "closed" = some (.ref fClosed)
  fLawCell : Addr
  fdLawCell : FuncData
  FLawCell : Fun K "_law_cell" "_law_cell" sLawCell fLawCell fdLawCell
  bLawCell : Binds K fdLawCell ["script", "k"] []
  gLawCell : mg "_law_cell" = some (.ref fLawCell)
  fLawDigits : Addr
  fdLawDigits : FuncData
  FLawDigits : Fun K "_law_digits" "_law_digits" sLawDigits fLawDigits fdLawDigits
  bLawDigits : Binds K fdLawDigits ["cell", "k", "most"] []
  gLawDigits : mg "_law_digits" = some (.ref fLawDigits)
  fLawPadded : Addr
  fdLawPadded : FuncData
  FLawPadded : Fun K "_law_padded" "_law_padded" sLawPadded fLawPadded fdLawPadded
  bLawPadded : Binds K fdLawPadded ["cell", "k"] []
  gLawPadded : mg "_law_padded" = some (.ref fLawPadded)
  fLawList : Addr
  fdLawList : FuncData
  FLawList : Fun K "_law_list" "_law_list" sLawList fLawList fdLawList
  bLawList : Binds K fdLawList ["script"] []
  gLawList : mg "_law_list" = some (.ref fLawList)
  fLawIsClosed : Addr
  fdLawIsClosed : FuncData
  FLawIsClosed : Fun K "_law_is_closed" "_law_is_closed" sLawIsClosed fLawIsClosed fdLawIsClosed
  bLawIsClosed : Binds K fdLawIsClosed ["edits"] []
  gLawIsClosed : mg "_law_is_closed" = some (.ref fLawIsClosed)
  fLaw : Addr
  fdLaw : FuncData
  FLaw : Fun K "law" "law" sLaw fLaw fdLaw
  bLaw : Binds K fdLaw ["script"] []
  gLaw : mg "law" = some (.ref fLaw)
  z_all : mg "all" = none
  z_sorted : mg "sorted" = none
  z_tuple : mg "tuple" = none
  z_range : mg "range" = none
  z_list : mg "list" = none
  z_len : mg "len" = none
  z_int : mg "int" = none
  z_zip : mg "zip" = none
  z_max : mg "max" = none
  p_PERSONS : Addr
  g_PERSONS : mg "PERSONS" = some (.ref p_PERSONS)
  k_PERSONS : ∀ H, SqT K H p_PERSONS [.int 1, .int 2, .int 3, .int 4]
  w_PERSONS : ∃ o, K.lookup p_PERSONS = some o ∧ o.cls = .type "tuple" ∧ o.dict = none
section
variable {P : Program} {w : World} {K : PySem.W.Frag} {mg : Str → Option Value} {base : Heap}
/-! ### heaps -/
theorem _root_.L2.Same.tup {K : PySem.W.Frag} {H H' : Hp} {a : Addr} {xs : List V} (e : Same H H') (h : SqT K H a xs) : SqT K H' a xs := by
  rcases h with (h | ⟨o, h⟩) | h
  · exact .inl (.inl (e _ _ h))
  · exact .inl (.inr ⟨o, e _ _ h⟩)
  · exact .inr h
theorem same_new {H : Hp} {p : Addr} {o : HO} (h : H p = none) : Same H (upd H p o) := fun b x e => by
  rw [upd_ne (ne_of_none e h)]
  exact e
theorem same_mut {H H' : Hp} {p : Addr} {o : HO} (e : Same H H') (h : H p = none) : Same H (upd H' p o) := fun b x ha => by
  rw [upd_ne (ne_of_none ha h)]
  exact e b x ha
theorem walk_zipT {K : PySem.W.Frag} {a b : Addr} {xs ys : List V} {n : Nat} (hn : n = min xs.length ys.length) : Walk (ItzT K a b) n (fun H => SqT K H a xs ∧ SqT K H b ys) (YPair (fun i => xs[i]?) (fun i => ys[i]?)) := by
  subst hn
  refine ⟨fun i _ hi q => ?_, fun _ q => ⟨xs, ys, q.1, q.2, by omega⟩, fun i H v H' _ q y => ?_⟩
  · have h1 : i < xs.length := by omega
    have h2 : i < ys.length := by omega
    exact ⟨xs, ys, xs[i], ys[i], q.1, q.2, by simp [h1], by simp [h2]⟩
  · obtain ⟨T, x, z, h1, h2, h3, h4, h5⟩ := y
    exact ⟨T, x, z, h1, h2, h3, h4 xs q.1, h5 ys q.2⟩
/-- a function that hands back a bool or an int and changes nothing -/
theorem getD_at {ns : List Int} {i : Nat} (h : i < ns.length) : (ns.map V.int)[i]? = some (.int (ns.getD i 0)) := by
  rw [List.getElem?_map, List.getElem?_eq_getElem h, List.getD_eq_getElem?_getD, List.getElem?_eq_getElem h]
  rfl
theorem dp_ints {K : PySem.W.Frag} {H : Hp} : ∀ ns : List Int, DpAll K H (ns.map V.int) (ns.map PyData.int)
  | [] => .nil
  | n :: r => .cons (.int n) (dp_ints r)
theorem shaped_tup (ns : List Int) : SeqAt.shaped (.tuple (ns.map PyData.int)) = true := by
  simp [SeqAt.shaped, PyData.canLay0, PyData.depth, PySem.W.ke_canLayAll0, PySem.W.ke_depthAll]
theorem shaped_lst (ns : List Int) : SeqAt.shaped (.list (ns.map PyData.int)) = true := PySem.W.ke_shaped_ints ns
theorem eqv_same {d : PyData} (h : SeqAt.shaped d = true) : PyData.eqv d d = true := by
  refine SeqAt.eqv_refl d ?_
  unfold SeqAt.shaped at h
  exact (Bool.and_eq_true _ _ ▸ h).1
theorem yesT {σ : L2.St} {H : Hp} {A B : Hp → Prop} (h : A H) : tYes σ H (fun b H3 => if b = true then A H3 else B H3) := iteT (A := A H) (B := B H) h
def spCell (K : PySem.W.Frag) : Sp := fun vs H Q _ => ∃ (a : Addr) (ns : List Int) (k : Int), vs = [.ref a, .int k] ∧ 0 ≤ k ∧ SqL K H a (ns.map V.int) ∧ ∀ v : Int, Q (.int v) H
theorem okLawCell (T : Txt K mg) : FnOk P w K mg base CX0 1 T.fLawCell T.fdLawCell ["script", "k"] (spCell K) := by
  refine T.FLawCell.ok scLawCell (fun vs H Q E h => ?_) (fun cdv A outer s H vs Q E hr h => ?_)
  · obtain ⟨a, ns, k, rfl, _⟩ := h
    rfl
  · obtain ⟨a, ns, k, rfl, h0, hS, q⟩ := h
    obtain ⟨k, rfl⟩ := Int.eq_ofNat_of_zero_le h0
    -- slots script=0 k=1
    refine ⟨_, (pss_cons (ps_if (pt_cmpR op_lt (pv 1) (pe_callB call_len_seq (by rfl) T.z_len PySem.boot_len (pa_cons (pv 0) pa_nil)) (nomark _))
          (pss_one (ps_ret (pe_ix ix_list (pv 0) (pv 1) (fun _ _ => rfl))))
          pss_nil)
        (pss_one (ps_ret pe_int))), ?_⟩
    refine ⟨_, rfl, _, rfl, a, _, rfl, .inl hS, _, _, rfl, rfl, _, rfl, ite2 (fun c => ?_) (fun c => ?_)⟩
    · have hk : k < ns.length := by
        have c2 := of_decide_eq_true c
        rw [List.length_map] at c2
        omega
      exact ⟨_, rfl, _, rfl, a, _, _, _, rfl, rfl, hS, atI_nat (getD_at hk), q _⟩
    · exact q 0
def spCounts (K : PySem.W.Frag) : Sp := fun vs H Q _ => ∃ (a b : Addr) (ns : List Int) (i : Nat) (n : Int), vs = [.ref a, .ref b] ∧ SqT K H a (ns.map V.int) ∧ SqT K H b [.int (1 + (i : Int)), .int n] ∧ i < ns.length ∧ Q (.bl (decide (n ≤ ns.getD i 0))) H
theorem okCounts (T : Txt K mg) : FnOk P w K mg base CX0 1 T.fCounts T.fdCounts ["version", "edit_id"] (spCounts K) := by
  refine T.FCounts.ok scCounts (fun vs H Q E h => ?_) (fun cdv A outer s H vs Q E hr h => ?_)
  · obtain ⟨a, b, ns, i, n, rfl, _⟩ := h
    rfl
  · obtain ⟨a, b, ns, i, n, rfl, ha, hb, hi, q⟩ := h
    -- slots version=0 edit_id=1 person=2 number=3
    refine ⟨_, (pss_cons (ps_asg (pv 1) (pg_tup rfl (pgs_cons (pg_name (i := 2) scCounts.nd rfl (Or.inl rfl)) (pgs_cons (pg_name (i := 3) scCounts.nd rfl (Or.inl rfl)) pgs_nil))))
        (pss_one (ps_ret (pe_and (pe_chain op_le op_le pe_int (pv 2) (pe_callB call_len_seq (by rfl) T.z_len PySem.boot_len (pa_cons (pv 0) pa_nil))) (pe_one (pe_cmpR op_ge (pe_ix ix_tup (pv 0) (pe_op op_sub (pv 2) pe_int) (fun _ _ => rfl)) (pv 3) (nomark _))))))), ?_⟩
    refine ⟨_, rfl, b, _, rfl, hb, rfl, _, _, rfl, _, _, rfl, rfl, ?_⟩
    refine ⟨_, rfl, _, _, rfl, rfl, _, rfl, ?_⟩
    rw [if_pos (decide_eq_true (by omega))]
    refine ⟨_, rfl, a, _, rfl, .inr ha, _, _, rfl, rfl, _, rfl, ?_⟩
    rw [if_pos (decide_eq_true (by rw [List.length_map]; omega))]
    refine ⟨_, rfl, _, rfl, _, _, rfl, rfl, a, _, _, _, rfl, rfl, ha, ?_, _, rfl, _, _, rfl, rfl, q⟩
    rw [show (1 + (i : Int)) - 1 = ((i : Nat) : Int) by omega]
    exact atI_nat (getD_at hi)
/-- what includes says of two rows -/
def incl (ns ms : List Int) : List Bool := (List.range ns.length).map fun i => decide (ms.getD i 0 ≤ ns.getD i 0)
def spIncludes (K : PySem.W.Frag) : Sp := fun vs H Q _ => ∃ (a b : Addr) (ns ms : List Int), vs = [.ref a, .ref b] ∧ SqT K H a (ns.map V.int) ∧ SqT K H b (ms.map V.int) ∧ ns.length = ms.length ∧ ns.length ≤ 1000 ∧ ∀ H', Same H H' → Q (.bl ((incl ns ms).all id)) H'
theorem okIncludes (T : Txt K mg) : FnOk P w K mg base CX0 1 T.fIncludes T.fdIncludes ["version", "other"] (spIncludes K) := by
  refine T.FIncludes.ok scIncludes (fun vs H Q E h => ?_) (fun cdv A outer s H vs Q E hr h => ?_)
  · obtain ⟨a, b, ns, ms, rfl, _⟩ := h
    rfl
  · obtain ⟨a, b, ns, ms, rfl, ha, hb, hl, hz, q⟩ := h
    -- slots version=0 other=1 mine=2 theirs=3
    refine ⟨_, (pss_one (ps_ret (pe_callB (cr_all rfl) (by rfl) T.z_all (by decide +kernel) (pa_cons (pe_lc (own := [("mine", 2), ("theirs", 3)]) (g := gTup K 2 (gCons (gName 2) (gCons (gName 3) gNil))) (tt := tYes) rfl scIncludes.nd (pi_zipA (by rfl) T.z_zip (pa_cons (pv 0) (pa_cons (pv 1) pa_nil))) (blkOk_by (own := [("mine", 2), ("theirs", 3)]) (N := ["version", "other", "mine", "theirs"]) (sc := defScope sIncludes) (by decide +kernel)) (fun _ _ _ _ _ => (pg_tup rfl (pgs_cons (pg_name (i := 2) scIncludes.nd rfl (Or.inl rfl)) (pgs_cons (pg_name (i := 3) scIncludes.nd rfl (Or.inl rfl)) pgs_nil)))) (fun _ _ _ _ _ => pts_nil) (fun _ _ _ _ _ => (pe_cmpR op_ge (pv 2) (pv 3) (nomark _)))) pa_nil)))), ?_⟩
    refine ⟨_, rfl, _, rfl, a, b, _, _, rfl, .inr ⟨ha, hb, fun D hD => ?_⟩⟩
    refine lc_it (walk_zipT (n := ns.length) (by rw [List.length_map, List.length_map]; omega)) (fun i H' => Same H H' ∧ H' D = some (.lst (((incl ns ms).take i).map V.bl))) ⟨same_new hD, upd_same⟩ (fun i H' _ h => ⟨h.1.tup ha, h.1.tup hb⟩) ?_ ?_
    · rintro i x H1 H2 hi ⟨s1, hD1⟩ ⟨T, y, z, rfl, nT, rfl, e1, e2⟩
      have f1 := Option.some.inj ((getD_at hi).symm.trans e1)
      have f2 := Option.some.inj ((getD_at (ns := ms) (by omega)).symm.trans e2)
      subst f1 f2
      refine ⟨T, _, rfl, .inl (.inl upd_same), rfl, _, _, rfl, _, _, rfl, rfl, rfl, ?_⟩
      refine yesT ⟨_, rfl, _, rfl, _, _, rfl, rfl, ((incl ns ms).take i).map V.bl, ?_, ?_, ?_, ?_⟩
      · rw [upd_ne (ne_of_none hD1 nT)]
        exact hD1
      · rw [List.length_map, List.length_take]
        exact small1000 (by omega)
      · exact same_mut (s1.trans (same_new nT)) hD
      · rw [upd_same, List.take_add_one]
        have e : (incl ns ms)[i]? = some (decide (ms.getD i 0 ≤ ns.getD i 0)) := by
          unfold incl
          rw [List.getElem?_map, List.getElem?_range hi]
          rfl
        rw [e, List.map_append]
        rfl
    · rintro H1 ⟨s1, hD1⟩
      have e : (incl ns ms).take ns.length = incl ns ms := List.take_of_length_le (by unfold incl; rw [List.length_map, List.length_range]; exact Nat.le_refl _)
      rw [e] at hD1
      exact ⟨D, _, rfl, .inl (.inl hD1), q _ s1⟩
structure Dig (ds : List Int) (n : Nat) : Prop where
  all : ∀ x ∈ ds, 0 ≤ x ∧ x < 1000
  len : ds.length ≤ n
theorem Dig.nil : Dig [] 0 := ⟨fun _ h => (nomatch h), Nat.le_refl _⟩
theorem Dig.more {ds : List Int} {n m : Nat} (h : Dig ds n) (hm : n ≤ m) : Dig ds m := ⟨h.all, Nat.le_trans h.len hm⟩
theorem Dig.add {ds : List Int} {n : Nat} (h : Dig ds n) (x : Int) : Dig (ds ++ [x % 1000]) (n + 1) := by
  refine ⟨fun y hy => ?_, ?_⟩
  · rcases List.mem_append.mp hy with q | q
    · exact h.all y q
    · obtain rfl : y = x % 1000 := by simpa using q
      omega
  · rw [List.length_append]
    have := h.len
    simp only [List.length_singleton]
    omega
def spDigits (K : PySem.W.Frag) : Sp := fun vs H Q _ => ∃ (c k : Int) (m : Nat), vs = [.int c, .int k, .int (m : Int)] ∧ m ≤ 1000 ∧ ∀ H' d ds, Same H H' → H d = none → H' d = some (.lst (ds.map V.int)) → Dig ds m → Q (.ref d) H'
theorem okLawDigits (T : Txt K mg) : FnOk P w K mg base CX0 1 T.fLawDigits T.fdLawDigits ["cell", "k", "most"] (spDigits K) := by
  refine T.FLawDigits.ok scLawDigits (fun vs H Q E h => ?_) (fun cdv A outer s H vs Q E hr h => ?_)
  · obtain ⟨c, k, m, rfl, _⟩ := h
    rfl
  · obtain ⟨c, k, m, rfl, hm, q⟩ := h
    -- slots cell=0 k=1 most=2 digits=3 turn=4 seed=5
    refine ⟨_, (pss_cons (ps_set (i := 3) scLawDigits.nd rfl (Or.inl rfl) (pe_lst pa_nil))
        (C8.pss_cut (ps_if (pt_cmpR op_lt (pv 0) pe_int (nomark _))
          (pss_one (ps_set (i := 0) scLawDigits.nd rfl (Or.inl rfl) (pe_op op_sub (pe_un un_neg pe_int) (pv 0))))
          pss_nil)
        (C8.pss_cut (ps_if (pt_cmpR op_ge (pv 0) (pe_op op_pow pe_int pe_int) (nomark _))
          (pss_one (ps_for PassesOwn.never rfl (pi_range1 rfl T.z_range (pa_cons pe_int pa_nil)) (pg_name (i := 4) scLawDigits.nd rfl (Or.inl rfl))
            (pss_one (ps_if (PW.pt (pw_and (pt_cmpR op_gt (pv 0) pe_int (nomark _)) (pw_and1 (pt_cmpR op_lt (pe_callB call_len_seq (by rfl) T.z_len PySem.boot_len (pa_cons (pv 3) pa_nil)) (pv 2) (nomark _)))))
              (pss_cons (ps_expr (pe_bm PySem.F.plainAttrs_list PySem.F.slot_list_append PySem.F.type_list_append mt_append (pv 3) (pa_cons (pe_op op_mod (pe_callTy call_int1 (by rfl) T.z_int (by decide +kernel) (pa_cons (pv 0) pa_nil)) pe_int) pa_nil)))
              (pss_one (ps_set (i := 0) scLawDigits.nd rfl (Or.inl rfl) (pe_op op_fdiv (pv 0) pe_int))))
              pss_nil))))
          (pss_cons (ps_set (i := 5) scLawDigits.nd rfl (Or.inl rfl) (pe_op op_mod (pe_callTy call_int1 (by rfl) T.z_int (by decide +kernel) (pa_cons (pe_op op_add (pe_op op_add (pe_op op_mul (pv 0) pe_int) (pe_op op_mul (pv 1) pe_int)) pe_int) pa_nil)) pe_int))
          (pss_one (ps_for PassesOwn.never rfl (pi_range1 rfl T.z_range (pa_cons (pv 2) pa_nil)) (pg_name (i := 4) scLawDigits.nd rfl (Or.inl rfl))
            (pss_cons (ps_set (i := 5) scLawDigits.nd rfl (Or.inl rfl) (pe_op op_mod (pe_callTy call_int1 (by rfl) T.z_int (by decide +kernel) (pa_cons (pe_op op_add (pe_op op_add (pe_op op_mul (pv 5) pe_int) (pe_op op_mul pe_int (pv 4))) pe_int) pa_nil)) pe_int))
            (pss_one (ps_expr (pe_bm PySem.F.plainAttrs_list PySem.F.slot_list_append PySem.F.type_list_append mt_append (pv 3) (pa_cons (pe_op op_mod (pe_callTy call_int1 (by rfl) T.z_int (by decide +kernel) (pa_cons (pe_op op_fdiv (pv 5) pe_int) pa_nil)) pe_int) pa_nil)))))))))
        (pss_one (ps_ret (pv 3)))))), ?_⟩
    refine ⟨Nat.zero_le _, fun d hd => ?_⟩
    refine ⟨fun σ H' => H' = upd H d (.lst []) ∧ ∃ c : Int, σ = [some (.int c), some (.int k), some (.int (m : Int)), some (.ref d), none, none], ?_, ?_⟩
    · refine ⟨_, rfl, _, _, rfl, rfl, _, rfl, ite2 (fun _ => ?_) (fun _ => ?_)⟩
      · exact ⟨_, rfl, _, rfl, _, _, rfl, rfl, rfl, _, rfl⟩
      · exact ⟨rfl, _, rfl⟩
    rintro σ H1 ⟨rfl, c, rfl⟩
    have h1 : (upd H d (.lst [])) d = some (.lst (([] : List Int).map V.int)) := upd_same
    refine ⟨fun σ H' => ∃ ds c0 c4 c5, σ = [c0, some (.int k), some (.int (m : Int)), some (.ref d), c4, c5] ∧ Same H H' ∧ H' d = some (.lst (ds.map V.int)) ∧ Dig ds m, ?_, ?_⟩
    · refine ⟨_, rfl, _, _, rfl, rfl, ⟨by decide, by decide, by decide⟩, _, _, rfl, rfl, _, rfl, ite2 (fun _ => ?_) (fun _ => ?_)⟩
      · refine ⟨60, rfl, by decide, by decide, for_range (lo := 0) (n := 60) (fun t σ H' => ∃ ds c c1, σ = [some (.int c), some (.int k), some (.int (m : Int)), some (.ref d), c1, none] ∧ Same H H' ∧ H' d = some (.lst (ds.map V.int)) ∧ Dig ds m) ⟨[], _, _, rfl, same_new hd, h1, Dig.nil.more (Nat.zero_le _)⟩ ?_ ?_⟩
        · rintro t σ H2 ht ⟨ds, c, c1, rfl, s2, hd2, D2⟩
          refine ⟨_, rfl, _, _, rfl, rfl, _, rfl, ite2 (fun _ => ?_) (fun _ => iteF ⟨ds, _, _, rfl, s2, hd2, D2⟩)⟩
          refine ⟨_, rfl, d, _, rfl, .inl (SqL.of hd2), _, rfl, _, _, rfl, rfl, _, rfl, ite2 (fun e => ?_) (fun _ => ⟨ds, _, _, rfl, s2, hd2, D2⟩)⟩
          have e2 := of_decide_eq_true e
          rw [List.length_map] at e2
          refine ⟨_, rfl, .inl ⟨rfl, _, SqL.of hd2⟩, _, rfl, .inl ⟨_, rfl, _, _, rfl, rfl, (by show (0 : Int) < _; decide), d, _, _, rfl, rfl, hd2, ?_, _, rfl, _, _, rfl, rfl, ⟨by decide, by decide⟩, ?_⟩⟩
          · rw [List.length_map]
            exact small1000 (by have := D2.len; omega)
          · refine ⟨ds ++ [c % 1000], _, _, rfl, same_mut s2 hd, by rw [upd_same, List.map_append]; rfl, ?_⟩
            have D3 : Dig ds (m - 1) := ⟨D2.all, by omega⟩
            exact (D3.add c).more (by omega)
        · rintro σ H2 ⟨ds, c, c1, rfl, s2, hd2, D2⟩
          exact ⟨ds, _, _, _, rfl, s2, hd2, D2⟩
      · refine ⟨_, rfl, _, _, rfl, rfl, .inr ⟨by decide, by decide⟩, _, rfl, _, _, rfl, rfl, .inr ⟨by decide, by decide⟩, _, _, rfl, rfl, _, _, rfl, rfl, .inl ⟨_, rfl, _, _, rfl, rfl, (by show (0 : Int) < _; decide), ?_⟩⟩
        refine ⟨_, rfl, _, rfl, by omega, by omega, for_range (lo := 0) (n := m) (fun t σ H' => ∃ ds c c1 sd, σ = [some (.int c), some (.int k), some (.int (m : Int)), some (.ref d), c1, some (.int sd)] ∧ Same H H' ∧ H' d = some (.lst (ds.map V.int)) ∧ Dig ds t) ⟨[], _, _, _, rfl, same_new hd, h1, Dig.nil⟩ ?_ ?_⟩
        · rintro t σ H2 ht ⟨ds, c, c1, sd, rfl, s2, hd2, D2⟩
          refine ⟨_, rfl, _, _, rfl, rfl, .inr ⟨by decide, by decide⟩, _, rfl, _, _, rfl, rfl, .inl ⟨by decide, by decide⟩, _, _, rfl, rfl, _, _, rfl, rfl, .inl ⟨_, rfl, _, _, rfl, rfl, (by show (0 : Int) < _; decide), ?_⟩⟩
          refine ⟨_, rfl, .inl ⟨rfl, _, SqL.of hd2⟩, _, rfl, _, _, rfl, rfl, ⟨by decide, by decide⟩, .inl ⟨_, rfl, _, _, rfl, rfl, (by show (0 : Int) < _; decide), d, _, _, rfl, rfl, hd2, ?_, ?_⟩⟩
          · rw [List.length_map]
            exact small1000 (by have := D2.len; omega)
          · exact ⟨ds ++ [_ % 1000], _, _, _, rfl, same_mut s2 hd, by rw [upd_same, List.map_append]; rfl, D2.add _⟩
        · rintro σ H2 ⟨ds, c, c1, sd, rfl, s2, hd2, D2⟩
          exact ⟨ds, _, _, _, rfl, s2, hd2, D2⟩
    rintro σ H1 ⟨ds, c0, c4, c5, rfl, s1, hd1, D⟩
    exact ⟨_, rfl, q _ d ds s1 hd hd1 D⟩
theorem ix_tupK {X : Cx} {K : PySem.W.Frag} (h : X.K = K) : IxR X (rIxT K) := by
  subst h
  exact ix_tup
theorem ix_listK {X : Cx} {K : PySem.W.Frag} (h : X.K = K) : IxR X (rIxL K) := by
  subst h
  exact ix_list
theorem call_len_seqK {X : Cx} {K : PySem.W.Frag} (h : X.K = K) : CallR X (.builtin "len") (fun xs H Q => ∃ p ys, xs = [.ref p] ∧ (SqL K H p ys ∨ SqT K H p ys) ∧ Q (.int ys.length) H) := by
  subst h
  exact call_len_seq
theorem units65 {k : Nat} {A : Around} (r : Room k A) : A.units + 65 < cLine := by
  have := r.un
  omega
def rCountD (K : PySem.W.Frag) : V → List V → Hp → VK → Prop := fun x xs H Q => ∃ (a : Addr) (y : V) (d : PyData) (ds : List PyData), x = V.ref a ∧ xs = [y] ∧ Dp K H (V.ref a) (.list ds) ∧ Dp K H y d ∧
  SeqAt.shaped (.list ds) = true ∧ SeqAt.shaped d = true ∧ Q (.int ((ds.countP fun z => PyData.eqv z d : Nat) : Int)) H
theorem mt_countD {X : Cx} (hu : X.A.units + 65 < cLine) : MtR X "list.count" (rCountD X.K) := by
  intro pins s σ H x xs v us Q I rx rxs h
  obtain ⟨a, y, d, ds, rfl, rfl, hl, hy, sl, sd, q⟩ := h
  cases rx
  cases rxs with
  | cons ry rt =>
    rename_i uy ut
    cases rt
    obtain ⟨bs, r1⟩ := Dp.reads I d y uy hy ry
    have hxs : PyData.canLayAll0 ds = true := SeqAt.canLay_of_shaped sl
    have hroom : X.A.units + 1 + min (PyData.depthAll ds) d.depth < cLine := room_in_shaped sd hu
    cases hl with
    | lst hs ha =>
      obtain ⟨its, rv, ⟨⟨cls, dd, data, sls⟩, n, ho, hc, hdn, hdt⟩, hlen⟩ := I.list hs
      simp only at hc hdt
      subst hc hdt
      obtain ⟨as, h4⟩ := Dp.readsAll I ds _ its ha rv
      have hmap : its.map (SeqAt.readOf s.heap) = ds := SeqAt.readsAll_map ds its as hxs h4
      have hc : its.countP (fun u => PyData.eqv (SeqAt.readOf s.heap u) d) = ds.countP fun z => PyData.eqv z d := by
        conv => rhs; rw [← hmap, List.countP_map]
        rfl
      refine call_meets PySem.F.slot_list_count ⟨_, ho, rfl⟩ PySem.F.entry_list_count (PySem.F.args_list_count_2 _ _)
        (SeqAt.list_countAt a its.toArray n dd sls uy (fun u => PyData.eqv (SeqAt.readOf s.heap u) d)) ⟨ho, SeqAt.items_eqAt (vs := its.toArray) (show ReadsAll s.heap its.toArray.toList ds as from h4) r1 hxs (SeqAt.canLay_of_shaped sd) hroom, ?_⟩
      refine ⟨.int _, H, I.tok _, ⟨_, rfl⟩, ?_⟩
      rw [List.toList_toArray, hc]
      exact q
/-! ### ids -/
def idD (z : Int × Int) : PyData := .tuple [.int z.1, .int z.2]
theorem idD_lay (z : Int × Int) : (idD z).canLay0 = true := by simp [idD, PyData.canLay0, PyData.canLayAll0]
theorem idD_depth (z : Int × Int) : (idD z).depth = 1 := by simp [idD, PyData.depth, PyData.depthAll]
theorem idDs_lay : ∀ zs : List (Int × Int), PyData.canLayAll0 (zs.map idD) = true
  | [] => by simp [PyData.canLayAll0]
  | z :: zs => by simp [PyData.canLayAll0, idD_lay z, idDs_lay zs]
theorem idDs_depth : ∀ zs : List (Int × Int), PyData.depthAll (zs.map idD) ≤ 1
  | [] => by simp [PyData.depthAll]
  | z :: zs => by
    have h1 := idDs_depth zs
    have h2 := idD_depth z
    simp only [List.map_cons, PyData.depthAll]
    omega
theorem idD_shaped (z : Int × Int) : SeqAt.shaped (idD z) = true := by
  have h := idD_depth z
  show ((idD z).canLay0 && decide ((idD z).depth ≤ 64)) = true
  rw [Bool.and_eq_true]
  exact ⟨idD_lay z, decide_eq_true (by omega)⟩
theorem idDs_shaped (zs : List (Int × Int)) : SeqAt.shaped (.list (zs.map idD)) = true := by
  have h1 := idDs_depth zs
  have h2 : PyData.depth (.list (zs.map idD)) ≤ 64 := by
    simp only [PyData.depth]
    omega
  show (PyData.canLay0 (.list (zs.map idD)) && decide (PyData.depth (.list (zs.map idD)) ≤ 64)) = true
  rw [Bool.and_eq_true]
  exact ⟨by simp only [PyData.canLay0]; exact idDs_lay zs, decide_eq_true h2⟩
theorem idD_eqv (z w : Int × Int) : PyData.eqv (idD z) (idD w) = decide (z = w) := by
  obtain ⟨a, b⟩ := z
  obtain ⟨a', b'⟩ := w
  have e : PyData.eqv (idD (a, b)) (idD (a', b')) = ((a == a') && ((b == b') && true)) := by simp only [idD, PyData.eqv, PyData.eqvAll]
  rw [e, Bool.eq_iff_iff]
  simp
theorem idDs_any (zs : List (Int × Int)) (w : Int × Int) : ((zs.map idD).any fun z => PyData.eqv z (idD w)) = decide (w ∈ zs) := by
  rw [Bool.eq_iff_iff, List.any_eq_true]
  constructor
  · rintro ⟨x, hx, hw⟩
    obtain ⟨z, hz, rfl⟩ := List.mem_map.mp hx
    rw [idD_eqv] at hw
    rw [← of_decide_eq_true hw]
    exact decide_eq_true hz
  · intro h
    exact ⟨idD w, List.mem_map.mpr ⟨w, of_decide_eq_true h, rfl⟩, by rw [idD_eqv]; exact decide_eq_true rfl⟩
theorem idDs_count (zs : List (Int × Int)) (w : Int × Int) : ((zs.map idD).countP fun z => PyData.eqv z (idD w)) = zs.countP fun z => decide (z = w) := by
  rw [List.countP_map]
  refine List.countP_congr fun z _ => ?_
  show PyData.eqv (idD z) (idD w) = true ↔ _
  rw [idD_eqv]
/-! ### edits -/
structure Ed where
  p : Nat
  n : Int
  v : List Int
def Ed.id (e : Ed) : Int × Int := (1 + (e.p : Int), e.n)
structure OkE (e : Ed) : Prop where
  p : e.p < 4
  n : 1 ≤ e.n
  v : e.v.length = 4
  nh : e.n ≤ 20
  vh : ∀ z ∈ e.v, 0 ≤ z ∧ z ≤ 20
theorem OkE.at_ {e : Ed} (h : OkE e) {j : Nat} (hj : j < 4) : 0 ≤ e.v.getD j 0 ∧ e.v.getD j 0 ≤ 20 := by
  have : j < e.v.length := by rw [h.v]; exact hj
  rw [List.getD_eq_getElem?_getD, List.getElem?_eq_getElem this]
  exact h.vh _ (List.getElem_mem this)
inductive RepI (H : Hp) : List V → List Ed → Prop where
  | nil : RepI H [] []
  | cons {a : Addr} {e : Ed} {vs : List V} {ds : List Ed} : H a = some (.tup [.int (1 + (e.p : Int)), .int e.n]) → RepI H vs ds → RepI H (.ref a :: vs) (e :: ds)
def TK (H H' : Hp) : Prop := ∀ q xs, H q = some (.tup xs) → H' q = some (.tup xs)
theorem TK.of {H H' : Hp} (s : Same H H') : TK H H' := fun q xs h => s q _ h
theorem TK.trans {H H1 H2 : Hp} (a : TK H H1) (b : TK H1 H2) : TK H H2 := fun q xs h => b q xs (a q xs h)
theorem TK.mut {H : Hp} {d : Addr} {xs : List V} {o : HO} (h : H d = some (.lst xs)) : TK H (upd H d o) := fun q ys hq => by
  have : q ≠ d := fun z => by
    rw [z, h] at hq
    cases hq
  rw [upd_ne this]
  exact hq
theorem RepI.mono {H H' : Hp} (s : TK H H') : ∀ {vs ds}, RepI H vs ds → RepI H' vs ds
  | _, _, .nil => .nil
  | _, _, .cons h r => .cons (s _ _ h) (r.mono s)
theorem RepI.snoc {H : Hp} {a : Addr} {e : Ed} (h : H a = some (.tup [.int (1 + (e.p : Int)), .int e.n])) : ∀ {vs ds}, RepI H vs ds → RepI H (vs ++ [.ref a]) (ds ++ [e])
  | _, _, .nil => .cons h .nil
  | _, _, .cons h2 r => .cons h2 (r.snoc h)
theorem dp_id {K : PySem.W.Frag} {H : Hp} {a : Addr} {x y : Int} (h : H a = some (.tup [.int x, .int y])) : Dp K H (.ref a) (idD (x, y)) := .tup (SqT.of h) (.cons (.int _) (.cons (.int _) .nil))
theorem RepI.dp {K : PySem.W.Frag} {H : Hp} : ∀ {vs ds}, RepI H vs ds → DpAll K H vs ((ds.map Ed.id).map idD)
  | _, _, .nil => .nil
  | _, _, .cons h r => .cons (dp_id h) r.dp
def EdAt (H : Hp) (x : V) (e : Ed) : Prop := ∃ (q a b : Addr) (c : V), x = .ref q ∧ H q = some (.tup [.ref a, .ref b, c]) ∧ H a = some (.tup [.int (1 + (e.p : Int)), .int e.n]) ∧ H b = some (.tup (e.v.map V.int))
theorem EdAt.mono {H H' : Hp} {x : V} {e : Ed} (s : TK H H') (h : EdAt H x e) : EdAt H' x e := by
  obtain ⟨q, a, b, c, h0, h1, h2, h3⟩ := h
  exact ⟨q, a, b, c, h0, s _ _ h1, s _ _ h2, s _ _ h3⟩
structure Rep (H : Hp) (rs : List V) (D : List Ed) : Prop where
  len : rs.length = D.length
  at_ : ∀ (i : Nat) (x : V) (e : Ed), rs[i]? = some x → D[i]? = some e → EdAt H x e
theorem Rep.mono {H H' : Hp} {rs : List V} {D : List Ed} (s : TK H H') (h : Rep H rs D) : Rep H' rs D := ⟨h.len, fun i x e h1 h2 => (h.at_ i x e h1 h2).mono s⟩
theorem Rep.nil {H : Hp} : Rep H [] [] := ⟨rfl, fun i x e h => by simp at h⟩
theorem Rep.snoc {H : Hp} {rs : List V} {D : List Ed} {x : V} {e : Ed} (h : Rep H rs D) (E : EdAt H x e) : Rep H (rs ++ [x]) (D ++ [e]) := by
  refine ⟨by rw [List.length_append, List.length_append, h.len]; rfl, fun i y f h1 h2 => ?_⟩
  rcases Nat.lt_or_ge i rs.length with z | z
  · rw [List.getElem?_append_left z] at h1
    rw [List.getElem?_append_left (by rw [← h.len]; exact z)] at h2
    exact h.at_ i y f h1 h2
  · rw [List.getElem?_append_right z] at h1
    rw [List.getElem?_append_right (by rw [← h.len]; exact z), ← h.len] at h2
    generalize i - rs.length = j at h1 h2
    rcases j with _ | j
    · simp at h1 h2
      rw [← h1, ← h2]
      exact E
    · simp at h1
theorem Rep.rev {H : Hp} {rs : List V} {D : List Ed} (h : Rep H rs D) : Rep H rs.reverse D.reverse := by
  refine ⟨by rw [List.length_reverse, List.length_reverse, h.len], fun i x e h1 h2 => ?_⟩
  have hi : i < rs.length := by
    have := (List.getElem?_eq_some_iff.mp h1).1
    rwa [List.length_reverse] at this
  rw [List.getElem?_reverse hi] at h1
  rw [List.getElem?_reverse (by rw [← h.len]; exact hi), ← h.len] at h2
  exact h.at_ _ x e h1 h2
theorem Rep.get {H : Hp} {rs : List V} {D : List Ed} (h : Rep H rs D) {i : Nat} {x : V} (hx : rs[i]? = some x) : ∃ e, D[i]? = some e ∧ EdAt H x e := by
  have hi := (List.getElem?_eq_some_iff.mp hx).1
  have hi2 : i < D.length := by rw [← h.len]; exact hi
  have hd : D[i]? = some D[i] := List.getElem?_eq_getElem hi2
  exact ⟨_, hd, h.at_ i x _ hx hd⟩
def nums (D : List Ed) (p : Nat) : List Int := (D.filter fun e => decide (e.p = p)).map Ed.n
theorem nums_step {D : List Ed} {i p : Nat} {e : Ed} (h : D[i]? = some e) : nums (D.take (i + 1)) p = nums (D.take i) p ++ if e.p = p then [e.n] else [] := by
  unfold nums
  rw [List.take_add_one, h, List.filter_append, List.map_append]
  congr 1
  by_cases z : e.p = p
  · simp [z]
  · simp [z]
theorem nums_len (D : List Ed) (p : Nat) : (nums D p).length ≤ D.length := by
  unfold nums
  rw [List.length_map]
  exact List.length_filter_le _ _
theorem mem_nums {D : List Ed} {p : Nat} {k : Int} : k ∈ nums D p ↔ ∃ e ∈ D, e.p = p ∧ e.n = k := by
  unfold nums
  rw [List.mem_map]
  constructor
  · rintro ⟨e, he, rfl⟩
    have := List.mem_filter.mp he
    exact ⟨e, this.1, of_decide_eq_true this.2, rfl⟩
  · rintro ⟨e, he, hp, rfl⟩
    exact ⟨e, List.mem_filter.mpr ⟨he, decide_eq_true hp⟩, rfl⟩
/-! ### closed lists -/
def vers (D : List Ed) : List Int := (List.range 4).map fun p : Nat => ((nums D p).length : Int)
theorem vers_at (D : List Ed) {j : Nat} (h : j < 4) : (vers D).getD j 0 = ((nums D j).length : Int) := by
  unfold vers
  rw [List.getD_eq_getElem?_getD, List.getElem?_map, List.getElem?_range h]
  rfl
def gapOk (D : List Ed) (p : Nat) : Prop := (nums D p).Nodup ∧ ∀ m ∈ nums D p, ∀ k, 1 ≤ k → k ≤ m → k ∈ nums D p
def row (n : Nat) (a : Int) : List Int := (List.range n).map fun i : Nat => a + (i : Int)
theorem mem_row {n : Nat} {a k : Int} : k ∈ row n a ↔ a ≤ k ∧ k < a + n := by
  unfold row
  rw [List.mem_map]
  constructor
  · rintro ⟨i, hi, rfl⟩
    have := List.mem_range.mp hi
    omega
  · intro h
    exact ⟨(k - a).toNat, List.mem_range.mpr (by omega), by omega⟩
theorem row_succ (n : Nat) (a : Int) : row (n + 1) a = a :: row n (a + 1) := by
  unfold row
  rw [List.range_succ_eq_map, List.map_cons, List.map_map]
  congr 1
  · omega
  · refine List.map_congr_left fun i _ => ?_
    show a + ((i + 1 : Nat) : Int) = a + 1 + (i : Int)
    omega
theorem row_len (n : Nat) (a : Int) : (row n a).length = n := by
  unfold row
  rw [List.length_map, List.length_range]
theorem row_nodup : ∀ (n : Nat) (a : Int), (row n a).Nodup
  | 0, a => List.nodup_nil
  | n + 1, a => by
    rw [row_succ]
    refine List.nodup_cons.mpr ⟨fun h => ?_, row_nodup n (a + 1)⟩
    have := mem_row.mp h
    omega
theorem up_list : ∀ (ys : List Int) (a : Int), ys.Pairwise (· < ·) → (∀ m ∈ ys, a ≤ m) → (∀ m ∈ ys, ∀ k, a ≤ k → k ≤ m → k ∈ ys) → ys = row ys.length a
  | [], a, _, _, _ => rfl
  | y :: t, a, hs, hl, hc => by
    obtain ⟨h1, h2⟩ := List.pairwise_cons.mp hs
    have hy := hl y (List.mem_cons_self ..)
    have ha : a ∈ y :: t := hc y (List.mem_cons_self ..) a (by omega) hy
    have e : y = a := by
      rcases List.mem_cons.mp ha with z | z
      · exact z.symm
      · have := h1 a z
        omega
    subst e
    rw [List.length_cons, row_succ, ← up_list t (y + 1) h2 (fun m hm => by have := h1 m hm; omega) fun m hm k hk1 hk2 => ?_]
    have := hc m (List.mem_cons_of_mem _ hm) k (by omega) hk2
    rcases List.mem_cons.mp this with z | z
    · omega
    · exact z
theorem gap_row {D : List Ed} {p : Nat} {ys : List Int} (h1 : ∀ e ∈ D, OkE e) (hp : ys.Perm (nums D p)) (hs : ys.Pairwise (· ≤ ·)) : ys = row ys.length 1 ↔ gapOk D p := by
  constructor
  · intro e
    refine ⟨hp.nodup_iff.mp (by rw [e]; exact row_nodup _ _), fun m hm k k1 km => ?_⟩
    have hm2 := hp.mem_iff.mpr hm
    rw [e] at hm2
    have := mem_row.mp hm2
    refine hp.mem_iff.mp ?_
    rw [e]
    exact mem_row.mpr ⟨k1, by omega⟩
  · rintro ⟨hn, hc⟩
    refine up_list ys 1 ?_ (fun m hm => ?_) fun m hm k k1 km => hp.mem_iff.mpr (hc m (hp.mem_iff.mp hm) k k1 km)
    · refine (hs.and (hp.nodup_iff.mpr hn)).imp fun h => ?_
      have := h.1
      have := h.2
      omega
    · obtain ⟨e, he, _, rfl⟩ := mem_nums.mp (hp.mem_iff.mp hm)
      exact (h1 e he).n
theorem sorted_of (xs : List Int) : ∃ ys : List Int, ys.Perm xs ∧ ys.Pairwise (· ≤ ·) := by
  refine ⟨xs.mergeSort fun a b => decide (a ≤ b), List.mergeSort_perm _ _, ?_⟩
  refine (List.pairwise_mergeSort (le := fun a b : Int => decide (a ≤ b)) (fun a b c h1 h2 => ?_) (fun a b => ?_) xs).imp fun h => of_decide_eq_true h
  · have := of_decide_eq_true h1
    have := of_decide_eq_true h2
    exact decide_eq_true (by omega)
  · rw [Bool.or_eq_true, decide_eq_true_iff, decide_eq_true_iff]
    omega
theorem gap_mem {D : List Ed} {p : Nat} (h1 : ∀ e ∈ D, OkE e) (g : gapOk D p) {k : Int} : k ∈ nums D p ↔ 1 ≤ k ∧ k ≤ (nums D p).length := by
  obtain ⟨ys, hp, hs⟩ := sorted_of (nums D p)
  have e := (gap_row h1 hp hs).mpr g
  rw [← hp.mem_iff, e, mem_row, hp.length_eq]
  omega
structure FitsP (e : Ed) (D : List Ed) : Prop where
  own : e.v.getD e.p 0 = e.n - 1
  held : ∀ j < 4, e.v.getD j 0 ≤ (vers D).getD j 0
  seen : ∀ o ∈ D, o.n ≤ e.v.getD o.p 0 → ∀ j < 4, o.v.getD j 0 ≤ e.v.getD j 0
structure FitsL (e : Ed) (D : List Ed) : Prop where
  once : ((D.map Ed.id).countP fun z => decide (z = e.id)) ≤ 1
  own : e.v.getD e.p 0 = e.n - 1
  held : ∀ j < 4, ∀ m : Int, 1 ≤ m → m ≤ e.v.getD j 0 → (1 + (j : Int), m) ∈ D.map Ed.id
  below : ∀ m : Int, 1 ≤ m → m < e.n → (1 + (e.p : Int), m) ∈ D.map Ed.id
  seen : ∀ o ∈ D, o.n ≤ e.v.getD o.p 0 → ∀ j < 4, o.v.getD j 0 ≤ e.v.getD j 0
def ClP (D : List Ed) : Prop := (∀ p < 4, gapOk D p) ∧ ∀ e ∈ D, FitsP e D
def Cl (D : List Ed) : Prop := ∀ e ∈ D, FitsL e D
theorem mem_ids {D : List Ed} {p : Nat} {m : Int} : (1 + (p : Int), m) ∈ D.map Ed.id ↔ m ∈ nums D p := by
  rw [mem_nums, List.mem_map]
  constructor
  · rintro ⟨e, he, h⟩
    have h1 := congrArg Prod.fst h
    have h2 := congrArg Prod.snd h
    exact ⟨e, he, by have : 1 + (e.p : Int) = 1 + p := h1; omega, h2⟩
  · rintro ⟨e, he, rfl, rfl⟩
    exact ⟨e, he, rfl⟩
theorem count_id {D : List Ed} (e : Ed) : ((D.map Ed.id).countP fun z => decide (z = e.id)) = (nums D e.p).count e.n := by
  unfold nums List.count
  rw [List.countP_map, List.countP_map, List.countP_filter]
  refine List.countP_congr fun f _ => ?_
  show decide (f.id = e.id) = true ↔ ((f.n == e.n) && decide (f.p = e.p)) = true
  rw [decide_eq_true_iff, Bool.and_eq_true, beq_iff_eq, decide_eq_true_iff]
  constructor
  · intro h
    have h1 : 1 + (f.p : Int) = 1 + e.p := congrArg Prod.fst h
    exact ⟨congrArg Prod.snd h, by omega⟩
  · rintro ⟨h1, h2⟩
    unfold Ed.id
    rw [h1, h2]
theorem cl_iff {D : List Ed} (h1 : ∀ e ∈ D, OkE e) : ClP D ↔ Cl D := by
  constructor
  · rintro ⟨g, f⟩ e he
    have F := f e he
    have O := h1 e he
    refine ⟨?_, F.own, fun j hj m m1 m2 => ?_, fun m m1 m2 => ?_, F.seen⟩
    · rw [count_id]
      exact List.nodup_iff_count.mp (g e.p O.p).1 _
    · have := F.held j hj
      rw [vers_at D hj] at this
      exact mem_ids.mpr ((gap_mem h1 (g j hj)).mpr ⟨m1, by omega⟩)
    · exact mem_ids.mpr ((g e.p O.p).2 e.n (mem_nums.mpr ⟨e, he, rfl, rfl⟩) m m1 (by omega))
  · intro c
    have g : ∀ p < 4, gapOk D p := fun p hp => by
      refine ⟨List.nodup_iff_count.mpr fun a => ?_, fun m hm k k1 km => ?_⟩
      · by_cases ha : a ∈ nums D p
        · obtain ⟨e, he, rfl, rfl⟩ := mem_nums.mp ha
          rw [← count_id]
          exact (c e he).once
        · rw [List.count_eq_zero_of_not_mem ha]
          omega
      · obtain ⟨e, he, rfl, rfl⟩ := mem_nums.mp hm
        by_cases z : k = e.n
        · rw [z]
          exact hm
        · exact mem_ids.mp ((c e he).below k k1 (by omega))
    refine ⟨g, fun e he => ⟨(c e he).own, fun j hj => ?_, (c e he).seen⟩⟩
    rw [vers_at D hj]
    by_cases z : e.v.getD j 0 ≤ 0
    · omega
    · have := mem_ids.mp ((c e he).held j hj _ (by omega) (Int.le_refl _))
      exact ((gap_mem h1 (g j hj)).mp this).2
theorem cl_rev {D : List Ed} : Cl D.reverse ↔ Cl D := by
  have h : ∀ D : List Ed, Cl D → Cl D.reverse := fun D c e he => by
    have F := c e (List.mem_reverse.mp he)
    refine ⟨?_, F.own, fun j hj m m1 m2 => ?_, fun m m1 m2 => ?_, fun o ho => F.seen o (List.mem_reverse.mp ho)⟩
    · rw [List.map_reverse, List.countP_reverse]
      exact F.once
    · rw [List.map_reverse]
      exact List.mem_reverse.mpr (F.held j hj m m1 m2)
    · rw [List.map_reverse]
      exact List.mem_reverse.mpr (F.below m m1 m2)
  refine ⟨fun c => ?_, h D⟩
  have := h _ c
  rwa [List.reverse_reverse] at this
theorem incl_all {ns ms : List Int} (h : ns.length = 4) : (incl ns ms).all id = true ↔ ∀ j < 4, ms.getD j 0 ≤ ns.getD j 0 := by
  unfold incl
  rw [List.all_map, List.all_eq_true, h]
  constructor
  · intro H j hj
    exact of_decide_eq_true (H j (List.mem_range.mpr hj))
  · intro H j hj
    exact decide_eq_true (H j (List.mem_range.mp hj))
theorem vers_len (D : List Ed) : (vers D).length = 4 := rfl
theorem all_snoc {bs : List Bool} {b : Bool} {P R : Prop} (h : bs.all id = true ↔ P) (h2 : b = true ↔ R) : (bs ++ [b]).all id = true ↔ P ∧ R := by
  rw [List.all_append, Bool.and_eq_true, h]
  simp [h2]
theorem take_all {D : List Ed} {i : Nat} {e : Ed} (h : D[i]? = some e) {P : Ed → Prop} : (∀ o ∈ D.take (i + 1), P o) ↔ (∀ o ∈ D.take i, P o) ∧ P e := by
  rw [List.take_add_one, h]
  constructor
  · intro H
    exact ⟨fun o ho => H o (List.mem_append.mpr (.inl ho)), H e (List.mem_append.mpr (.inr (by simp)))⟩
  · rintro ⟨H1, H2⟩ o ho
    rcases List.mem_append.mp ho with z | z
    · exact H1 o z
    · obtain rfl : o = e := by simpa using z
      exact H2
theorem row_rg (n : Nat) : rgV 1 ((n : Int) + 1) = (row n 1).map V.int := by
  unfold rgV row
  rw [show ((n : Int) + 1 - 1).toNat = n by omega, List.map_map]
  rfl
def spHasSeen (K : PySem.W.Frag) : Sp := fun vs H Q _ => ∃ (x y : V) (e f : Ed), vs = [x, y] ∧ EdAt H x e ∧ EdAt H y f ∧ OkE e ∧ OkE f ∧ Q (.bl (decide (f.n ≤ e.v.getD f.p 0))) H
theorem okHasSeen (T : Txt K mg) : FnOk P w K mg base CX0 2 T.fHasSeen T.fdHasSeen ["edit", "other"] (spHasSeen K) := by
  refine T.FHasSeen.ok scHasSeen (fun vs H Q E h => ?_) (fun cdv A outer s H vs Q E hr h => ?_)
  · obtain ⟨x, y, e, f, rfl, _⟩ := h
    rfl
  · obtain ⟨x, y, e, f, rfl, ⟨q1, a1, b1, c1, rfl, h1, h2, h3⟩, ⟨q2, a2, b2, c2, rfl, h4, h5, h6⟩, oe, of, q⟩ := h
    -- slots edit=0 other=1
    refine ⟨_, (pss_one (ps_ret (pe_call (okCounts T) (hr.mono (by decide)) (by rfl) T.gCounts T.FCounts.kp T.bCounts .nil pass0 (pa_cons (pe_ix ix_tup (pv 0) pe_int (fun _ _ => rfl)) (pa_cons (pe_ix ix_tup (pv 1) pe_int (fun _ _ => rfl)) pa_nil))))), ?_⟩
    exact ⟨_, rfl, q1, _, _, _, rfl, rfl, SqT.of h1, atI_nat (j := 1) rfl, _, rfl, q2, _, _, _, rfl, rfl, SqT.of h4, atI_nat (j := 0) rfl, b1, a2, e.v, f.p, f.n, rfl, SqT.of h3, SqT.of h5, by rw [oe.v]; exact of.p, q⟩
def spNumbers (K : PySem.W.Frag) : Sp := fun vs H Q _ => ∃ (L : Addr) (rs : List V) (D : List Ed) (p : Nat), vs = [.ref L, .int (1 + (p : Int))] ∧ SqL K H L rs ∧ Rep H rs D ∧ D.length ≤ 40 ∧ ∀ (ys : List Int) (l : Addr) (H' : Hp), Same H H' → ys.Perm (nums D p) → ys.Pairwise (· ≤ ·) → H' l = some (.lst (ys.map V.int)) → Q (.ref l) H'
theorem okNumbers (T : Txt K mg) : FnOk P w K mg base CX0 1 T.fNumbers T.fdNumbers ["edits", "person"] (spNumbers K) := by
  refine T.FNumbers.ok scNumbers (fun vs H Q E h => ?_) (fun cdv A outer s H vs Q E hr h => ?_)
  · obtain ⟨L, rs, D, p, rfl, _⟩ := h
    rfl
  · obtain ⟨L, rs, D, p, rfl, hL, R, hz, q⟩ := h
    -- slots edits=0 person=1 edit=2
    refine ⟨_, (pss_one (ps_ret (pe_callB cr_sortedI (by rfl) T.z_sorted (by decide +kernel) (pa_cons (pe_lc (own := [("edit", 2)]) (g := gName 2) rfl scNumbers.nd (pi_list (pv 0)) (blkOk_by (own := [("edit", 2)]) (N := ["edits", "person", "edit"]) (sc := defScope sNumbers) (by decide +kernel)) (fun _ _ _ _ _ => (pg_name (i := 2) scNumbers.nd rfl (Or.inl rfl))) (fun _ _ _ _ _ => (pts_one (pt_cmpR op_eq (pe_ix (ix_tupK (K := K) rfl) (pe_ix (ix_tupK (K := K) rfl) (pv 2) pe_int (fun _ _ => rfl)) pe_int (fun _ _ => rfl)) (pv 1) (nomark _)))) (fun _ _ _ _ _ => (pe_ix (ix_tupK (K := K) rfl) (pe_ix (ix_tupK (K := K) rfl) (pv 2) pe_int (fun _ _ => rfl)) pe_int (fun _ _ => rfl)))) pa_nil)))), ?_⟩
    refine ⟨_, rfl, L, rfl, ⟨_, hL⟩, fun N hN => ?_⟩
    refine lc_it (walk_list (a := L) (xs := rs)) (fun i H' => Same H H' ∧ H' N = some (.lst ((nums (D.take i) p).map V.int))) ⟨same_new hN, upd_same⟩ (fun i H' _ h => h.1.seq hL) ?_ ?_
    · rintro i x H1 H2 hi ⟨s1, hN1⟩ ⟨rfl, hx⟩
      obtain ⟨e, he, E⟩ := R.get hx
      obtain ⟨q0, a0, b0, c0, rfl, h1, h2, h3⟩ := E.mono (TK.of s1)
      have st := nums_step (p := p) he
      refine ⟨rfl, _, rfl, q0, _, _, _, rfl, rfl, SqT.of h1, atI_nat (j := 0) rfl, a0, _, _, _, rfl, rfl, SqT.of h2, atI_nat (j := 0) rfl, _, rfl, rfl, _, rfl, ite2 (fun c => ?_) (fun c => ?_)⟩
      · have ep : e.p = p := by
          have := V.int.inj (of_decide_eq_true c)
          omega
        rw [if_pos ep] at st
        refine ⟨_, rfl, q0, _, _, _, rfl, rfl, SqT.of h1, atI_nat (j := 0) rfl, a0, _, _, _, rfl, rfl, SqT.of h2, atI_nat (j := 1) rfl, _, hN1, ?_, ?_, ?_⟩
        · rw [List.length_map]
          exact small1000 (by have := nums_len (D.take i) p; rw [List.length_take] at this; omega)
        · exact same_mut s1 hN
        · rw [upd_same, st, List.map_append]
          rfl
      · have ep : ¬ e.p = p := fun z => c (decide_eq_true (by rw [z]))
        rw [if_neg ep, List.append_nil] at st
        exact ⟨s1, by rw [st]; exact hN1⟩
    · rintro H1 ⟨s1, hN1⟩
      rw [List.take_of_length_le (by rw [R.len]; exact Nat.le_refl _)] at hN1
      exact ⟨N, _, rfl, SqL.of hN1, fun ys l hp hs hl => q ys l _ (s1.trans (same_new hl)) hp hs upd_same⟩
def spVersionOf (K : PySem.W.Frag) : Sp := fun vs H Q _ => ∃ (L : Addr) (rs : List V) (D : List Ed), vs = [.ref L] ∧ SqL K H L rs ∧ Rep H rs D ∧ D.length ≤ 40 ∧ ∀ (t : Addr) (H' : Hp), Same H H' → H' t = some (.tup ((vers D).map V.int)) → Q (.ref t) H'
theorem okVersionOf (T : Txt K mg) : FnOk P w K mg base CX0 2 T.fVersionOf T.fdVersionOf ["edits"] (spVersionOf K) := by
  refine T.FVersionOf.ok scVersionOf (fun vs H Q E h => ?_) (fun cdv A outer s H vs Q E hr h => ?_)
  · obtain ⟨L, rs, D, rfl, _⟩ := h
    rfl
  · obtain ⟨L, rs, D, rfl, hL, R, hz, q⟩ := h
    -- slots edits=0 person=1
    refine ⟨_, (pss_one (ps_ret (pe_callTy call_tuple_of (by rfl) T.z_tuple (by decide +kernel) (pa_cons (pe_lc (own := [("person", 1)]) (g := gName 1) (tt := tYes) rfl scVersionOf.nd (pi_tup (pe_glob (v := (.ref T.p_PERSONS)) rfl T.g_PERSONS rfl)) (blkOk_by (own := [("person", 1)]) (N := ["edits", "person"]) (sc := defScope sVersionOf) (by decide +kernel)) (fun _ _ _ _ _ => (pg_name (i := 1) scVersionOf.nd rfl (Or.inl rfl))) (fun _ _ _ _ _ => pts_nil) (fun _ _ _ _ _ => (pe_callB (call_len_seqK (K := K) rfl) (by rfl) T.z_len PySem.boot_len (pa_cons (pe_call (okNumbers T) (hr.mono (by decide)) (by rfl) T.gNumbers T.FNumbers.kp T.bNumbers .nil pass0 (pa_cons (pv 0) (pa_cons (pv 1) pa_nil))) pa_nil)))) pa_nil)))), ?_⟩
    refine ⟨T.p_PERSONS, rfl, ⟨_, T.k_PERSONS _⟩, fun N hN => ?_⟩
    refine lc_it (walk_tup (a := T.p_PERSONS) (xs := [.int 1, .int 2, .int 3, .int 4])) (fun i H' => Same H H' ∧ H' N = some (.lst (((vers D).take i).map V.int))) ⟨same_new hN, upd_same⟩ (fun i H' _ h => T.k_PERSONS H') ?_ ?_
    · rintro i x H1 H2 hi ⟨s1, hN1⟩ ⟨rfl, hx⟩
      have hi4 : i < 4 := hi
      have ex : x = .int (1 + (i : Int)) := by
        rcases i with _ | _ | _ | _ | i
        · exact (Option.some.inj hx).symm
        · exact (Option.some.inj hx).symm
        · exact (Option.some.inj hx).symm
        · exact (Option.some.inj hx).symm
        · omega
      subst ex
      refine ⟨rfl, yesT ⟨_, rfl, _, rfl, L, rs, D, i, rfl, s1.seq hL, R.mono (TK.of s1), hz, fun ys l H3 s2 hp hs hl => ⟨l, _, rfl, .inl (SqL.of hl), _, s2 _ _ hN1, ?_, ?_, ?_⟩⟩⟩
      · rw [List.length_map, List.length_take]
        exact small1000 (by omega)
      · exact same_mut (s1.trans s2) hN
      · have e : (vers D)[i]? = some ((nums D i).length : Int) := by
          unfold vers
          rw [List.getElem?_map, List.getElem?_range hi4]
          rfl
        rw [upd_same, List.take_add_one, e, List.map_append, List.length_map, hp.length_eq]
        rfl
    · rintro H1 ⟨s1, hN1⟩
      exact ⟨N, _, rfl, .inl ⟨SqL.of hN1, fun t ht => q t _ (s1.trans (same_new ht)) upd_same⟩⟩
def spGap (K : PySem.W.Frag) : Sp := fun vs H Q _ => ∃ (L : Addr) (rs : List V) (D : List Ed) (p : Nat), vs = [.ref L, .int (1 + (p : Int))] ∧ SqL K H L rs ∧ Rep H rs D ∧ D.length ≤ 40 ∧ (∀ e ∈ D, OkE e) ∧ ∀ (b : Bool) (H' : Hp), Same H H' → (b = true ↔ gapOk D p) → Q (.bl b) H'
theorem okWithoutGap (T : Txt K mg) : FnOk P w K mg base CX0 2 T.fWithoutGap T.fdWithoutGap ["edits", "person"] (spGap K) := by
  refine T.FWithoutGap.ok scWithoutGap (fun vs H Q E h => ?_) (fun cdv A outer s H vs Q E hr h => ?_)
  · obtain ⟨L, rs, D, p, rfl, _⟩ := h
    rfl
  · obtain ⟨L, rs, D, p, rfl, hL, R, hz, ok, q⟩ := h
    -- slots edits=0 person=1 numbers=2
    refine ⟨_, (pss_cons (ps_set (i := 2) scWithoutGap.nd rfl (Or.inl rfl) (pe_call (okNumbers T) (hr.mono (by decide)) (by rfl) T.gNumbers T.FNumbers.kp T.bNumbers .nil pass0 (pa_cons (pv 0) (pa_cons (pv 1) pa_nil))))
        (pss_one (ps_ret (pe_cmpR (op_eqD hr.units) (pv 2) (pe_listRg rfl rfl T.z_list (prg_2 rfl T.z_range pe_int (pe_op op_add (pe_callB call_len_seq (by rfl) T.z_len PySem.boot_len (pa_cons (pv 2) pa_nil)) pe_int))) (nomark _))))), ?_⟩
    refine ⟨_, rfl, _, rfl, L, rs, D, p, rfl, hL, R, hz, fun ys l H1 s1 hp hs hl => ?_⟩
    have hlen : ys.length ≤ 40 := by
      rw [hp.length_eq]
      have := nums_len D p
      omega
    refine ⟨_, rfl, _, rfl, l, _, rfl, .inl (SqL.of hl), _, _, rfl, rfl, _, _, rfl, rfl, ?_, fun r hr => ?_⟩
    · rw [List.length_map]
      exact RgOk.of_le (by omega) (by omega) (by omega) (by omega)
    have s2 : Same H1 (upd H1 r (.lst (rgV 1 (((ys.map V.int).length : Int) + 1)))) := same_new hr
    have hr2 : (upd H1 r (.lst (rgV 1 (((ys.map V.int).length : Int) + 1)))) r = some (.lst ((row ys.length 1).map V.int)) := by
      rw [upd_same, List.length_map, row_rg]
    refine ⟨_, _, .lst (SqL.of (s2 _ _ hl)) (dp_ints ys), .lst (SqL.of hr2) (dp_ints _), shaped_lst _, shaped_lst _, q _ _ (s1.trans s2) ?_⟩
    rw [← gap_row ok hp hs]
    simp only [PyData.eqv, PySem.W.ked_eqvAll, decide_eq_true_iff]
def spFits (K : PySem.W.Frag) : Sp := fun vs H Q _ => ∃ (x : V) (e : Ed) (L h : Addr) (rs : List V) (D : List Ed), vs = [x, .ref L, .ref h] ∧ EdAt H x e ∧ OkE e ∧ SqL K H L rs ∧ Rep H rs D ∧ D.length ≤ 40 ∧ (∀ e ∈ D, OkE e) ∧ SqT K H h ((vers D).map V.int) ∧ ∀ (b : Bool) (H' : Hp), Same H H' → (b = true ↔ FitsP e D) → Q (.bl b) H'
theorem okFits (T : Txt K mg) : FnOk P w K mg base CX0 3 T.fFits T.fdFits ["edit", "edits", "held"] (spFits K) := by
  refine T.FFits.ok scFits (fun vs H Q E h => ?_) (fun cdv A outer s H vs Q E hr h => ?_)
  · obtain ⟨x, e, L, h, rs, D, rfl, _⟩ := h
    rfl
  · obtain ⟨x, e, L, h, rs, D, rfl, ⟨q0, a0, b0, c0, rfl, h1, h2, h3⟩, oe, hL, R, hz, ok, hh, q⟩ := h
    -- slots edit=0 edits=1 held=2 person=3 number=4 other=5
    refine ⟨_, (pss_cons (ps_asg (pe_ix ix_tup (pv 0) pe_int (fun _ _ => rfl)) (pg_tup rfl (pgs_cons (pg_name (i := 3) scFits.nd rfl (Or.inl rfl)) (pgs_cons (pg_name (i := 4) scFits.nd rfl (Or.inl rfl)) pgs_nil))))
        (pss_cons (ps_if (PW.pt (pw_or (pt_cmpR op_notIn_seq (pv 3) (pe_glob (v := (.ref T.p_PERSONS)) rfl T.g_PERSONS rfl) rfl) (pw_or1 (pt_cmpR op_ne (pe_ix ix_tup (pe_ix ix_tup (pv 0) pe_int (fun _ _ => rfl)) (pe_op op_sub (pv 3) pe_int) (fun _ _ => rfl)) (pe_op op_sub (pv 4) pe_int) (nomark _)))))
          (pss_one (ps_ret pe_bl))
          pss_nil)
        (pss_cons (ps_if (pt_not (pt_val (pe_call (okIncludes T) (hr.mono (by decide)) (by rfl) T.gIncludes T.FIncludes.kp T.bIncludes .nil pass0 (pa_cons (pv 2) (pa_cons (pe_ix ix_tup (pv 0) pe_int (fun _ _ => rfl)) pa_nil)))))
          (pss_one (ps_ret pe_bl))
          pss_nil)
        (pss_one (ps_ret (pe_callB (cr_all rfl) (by rfl) T.z_all (by decide +kernel) (pa_cons (pe_lc (own := [("other", 5)]) (g := gName 5) rfl scFits.nd (pi_list (pv 1)) (blkOk_by (own := [("other", 5)]) (N := ["edit", "edits", "held", "person", "number", "other"]) (sc := defScope sFits) (by decide +kernel)) (fun _ _ _ _ _ => (pg_name (i := 5) scFits.nd rfl (Or.inl rfl))) (fun _ _ _ _ _ => (pts_one (pt_val (pe_call (okHasSeen T) (hr.mono (by decide)) (by rfl) T.gHasSeen T.FHasSeen.kp T.bHasSeen .nil pass0 (pa_cons (pv 0) (pa_cons (pv 5) pa_nil)))))) (fun _ _ _ _ _ => (pe_call (okIncludes T) (hr.mono (by decide)) (by rfl) T.gIncludes T.FIncludes.kp T.bIncludes .nil pass0 (pa_cons (pe_ix (ix_tupK (K := K) rfl) (pv 0) pe_int (fun _ _ => rfl)) (pa_cons (pe_ix (ix_tupK (K := K) rfl) (pv 5) pe_int (fun _ _ => rfl)) pa_nil))))) pa_nil))))))), ?_⟩
    refine ⟨_, rfl, q0, _, _, _, rfl, rfl, SqT.of h1, atI_nat (j := 0) rfl, a0, _, rfl, SqT.of h2, rfl, _, _, rfl, _, _, rfl, rfl, ?_⟩
    have hp4 := oe.p
    have inP : inV (.int (1 + (e.p : Int))) [.int 1, .int 2, .int 3, .int 4] = true := by
      have : e.p = 0 ∨ e.p = 1 ∨ e.p = 2 ∨ e.p = 3 := by omega
      rcases this with z | z | z | z <;> rw [z] <;> rfl
    refine ⟨_, rfl, T.p_PERSONS, _, rfl, .inr (T.k_PERSONS _), rfl, rfl, _, rfl, ?_⟩
    rw [inP]
    refine iteF ?_
    have at1 : atI (e.v.map V.int) ((1 + (e.p : Int)) - 1) = some (.int (e.v.getD e.p 0)) := by
      rw [show (1 + (e.p : Int)) - 1 = ((e.p : Nat) : Int) by omega]
      exact atI_nat (getD_at (by rw [oe.v]; exact hp4))
    refine ⟨_, rfl, q0, _, _, _, rfl, rfl, SqT.of h1, atI_nat (j := 1) rfl, _, rfl, _, _, rfl, rfl, b0, _, _, _, rfl, rfl, SqT.of h3, at1, _, rfl, _, _, rfl, rfl, rfl, _, rfl, ite2 (fun c => ?_) (fun c => ?_)⟩
    · refine q false H (Same.refl H) ⟨(fun z => nomatch z), fun F => ?_⟩
      rw [F.own] at c
      simp at c
    have own : e.v.getD e.p 0 = e.n - 1 := by
      simpa using c
    refine ⟨_, rfl, _, rfl, q0, _, _, _, rfl, rfl, SqT.of h1, atI_nat (j := 1) rfl, h, b0, vers D, e.v, rfl, hh, SqT.of h3, by rw [oe.v, vers_len], by rw [vers_len]; decide, fun H1 s1 => ?_⟩
    have ih := incl_all (ms := e.v) (vers_len D)
    refine ⟨_, rfl, ite2 (fun c => ?_) (fun c => ?_)⟩
    · refine q false H1 s1 ⟨(fun z => nomatch z), fun F => ?_⟩
      rw [ih.mpr F.held] at c
      cases c
    have held := ih.mp (by simpa using c)
    refine ⟨_, rfl, L, rfl, ⟨_, s1.seq hL⟩, fun N hN => ?_⟩
    refine lc_it (walk_list (a := L) (xs := rs)) (fun i H' => Same H1 H' ∧ ∃ bs : List Bool, H' N = some (.lst (bs.map V.bl)) ∧ bs.length ≤ i ∧ (bs.all id = true ↔ ∀ o ∈ D.take i, o.n ≤ e.v.getD o.p 0 → ∀ j < 4, o.v.getD j 0 ≤ e.v.getD j 0)) ⟨same_new hN, [], upd_same, Nat.le_refl _, ⟨fun _ o ho => by simp at ho, fun _ => rfl⟩⟩ (fun i H' _ h => h.1.seq (s1.seq hL)) ?_ ?_
    · rintro i x H9 H2 hi ⟨s2, bs, hN2, bl, hb⟩ ⟨rfl, hx⟩
      obtain ⟨o, ho, E⟩ := R.get hx
      have oo : OkE o := ok o (List.mem_of_getElem? ho)
      have s12 := s1.trans s2
      have E2 := E.mono (TK.of s12)
      have Ee : EdAt H2 (.ref q0) e := ⟨q0, a0, b0, c0, rfl, s12 _ _ h1, s12 _ _ h2, s12 _ _ h3⟩
      refine ⟨rfl, _, rfl, _, rfl, _, _, e, o, rfl, Ee, E2, oe, oo, ?_⟩
      obtain ⟨q5, a5, b5, c5, rfl, h4, h5, h6⟩ := E2
      have ti := take_all ho (P := fun o => o.n ≤ e.v.getD o.p 0 → ∀ j < 4, o.v.getD j 0 ≤ e.v.getD j 0)
      refine ⟨_, rfl, ite2 (fun c => ?_) (fun c => ?_)⟩
      · refine ⟨_, rfl, q0, _, _, _, rfl, rfl, SqT.of (s12 _ _ h1), atI_nat (j := 1) rfl, _, rfl, q5, _, _, _, rfl, rfl, SqT.of h4, atI_nat (j := 1) rfl, b0, b5, e.v, o.v, rfl, SqT.of (s12 _ _ h3), SqT.of h6, by rw [oe.v, oo.v], by rw [oe.v]; decide, fun H3 s3 => ⟨_, s3 _ _ hN2, ?_, same_mut (s2.trans s3) hN, bs ++ [(incl e.v o.v).all id], ?_, ?_, ?_⟩⟩
        · rw [List.length_map]
          exact small1000 (by have := R.len; omega)
        · rw [upd_same, List.map_append]
          rfl
        · rw [List.length_append]
          exact Nat.add_le_add_right bl 1
        · rw [ti]
          refine all_snoc hb ?_
          rw [incl_all oe.v]
          exact ⟨fun z _ => z, fun z => z (of_decide_eq_true c)⟩
      · refine ⟨s2, bs, hN2, by omega, ?_⟩
        rw [ti, hb]
        exact ⟨fun z => ⟨z, fun y => absurd (decide_eq_true y) c⟩, fun z => z.1⟩
    · rintro H2 ⟨s2, bs, hN2, bl, hb⟩
      rw [List.take_of_length_le (by rw [R.len]; exact Nat.le_refl _)] at hb
      exact ⟨N, bs, rfl, SqL.of hN2, q _ _ (s1.trans s2) ⟨fun z => ⟨own, held, hb.mp z⟩, fun F => hb.mpr F.seen⟩⟩
def spClosed (K : PySem.W.Frag) : Sp := fun vs H Q _ => ∃ (L : Addr) (rs : List V) (D : List Ed), vs = [.ref L] ∧ SqL K H L rs ∧ Rep H rs D ∧ D.length ≤ 40 ∧ (∀ e ∈ D, OkE e) ∧ ∀ (b : Bool) (H' : Hp), Same H H' → (b = true ↔ Cl D) → Q (.bl b) H'
theorem okClosed (T : Txt K mg) : FnOk P w K mg base CX0 4 T.fClosed T.fdClosed ["edits"] (spClosed K) := by
  refine T.FClosed.ok scClosed (fun vs H Q E h => ?_) (fun cdv A outer s H vs Q E hr h => ?_)
  · obtain ⟨L, rs, D, rfl, _⟩ := h
    rfl
  · obtain ⟨L, rs, D, rfl, hL, R, hz, ok, q⟩ := h
    -- slots edits=0 held=1 person=2 edit=3
    refine ⟨_, (pss_cons (ps_if (pt_not (pt_val (pe_callB (cr_all rfl) (by rfl) T.z_all (by decide +kernel) (pa_cons (pe_lc (own := [("person", 2)]) (g := gName 2) (tt := tYes) rfl scClosed.nd (pi_tup (pe_glob (v := (.ref T.p_PERSONS)) rfl T.g_PERSONS rfl)) (blkOk_by (own := [("person", 2)]) (N := ["edits", "held", "person", "edit"]) (sc := defScope sClosed) (by decide +kernel)) (fun _ _ _ _ _ => (pg_name (i := 2) scClosed.nd rfl (Or.inl rfl))) (fun _ _ _ _ _ => pts_nil) (fun _ _ _ _ _ => (pe_call (okWithoutGap T) (hr.mono (by decide)) (by rfl) T.gWithoutGap T.FWithoutGap.kp T.bWithoutGap .nil pass0 (pa_cons (pv 0) (pa_cons (pv 2) pa_nil))))) pa_nil))))
          (pss_one (ps_ret pe_bl))
          pss_nil)
        (pss_cons (ps_set (i := 1) scClosed.nd rfl (Or.inr rfl) (pe_call (okVersionOf T) (hr.mono (by decide)) (by rfl) T.gVersionOf T.FVersionOf.kp T.bVersionOf .nil pass0 (pa_cons (pv 0) pa_nil)))
        (pss_one (ps_ret (pe_callB (cr_all rfl) (by rfl) T.z_all (by decide +kernel) (pa_cons (pe_lc (own := [("edit", 3)]) (g := gName 3) (tt := tYes) rfl scClosed.nd (pi_list (pv 0)) (blkOk_by (own := [("edit", 3)]) (N := ["edits", "held", "person", "edit"]) (sc := defScope sClosed) (by decide +kernel)) (fun _ _ _ _ _ => (pg_name (i := 3) scClosed.nd rfl (Or.inl rfl))) (fun _ _ _ _ _ => pts_nil) (fun _ _ _ _ _ => (pe_call (okFits T) (hr.mono (by decide)) (by rfl) T.gFits T.FFits.kp T.bFits .nil pass0 (pa_cons (pv 3) (pa_cons (pv 0) (pa_cons (pv 1) pa_nil)))))) pa_nil)))))), ?_⟩
    refine ⟨T.p_PERSONS, rfl, ⟨_, T.k_PERSONS _⟩, fun N hN => ?_⟩
    refine lc_it (walk_tup (a := T.p_PERSONS) (xs := [.int 1, .int 2, .int 3, .int 4])) (fun i H' => Same H H' ∧ ∃ bs : List Bool, H' N = some (.lst (bs.map V.bl)) ∧ bs.length ≤ i ∧ (bs.all id = true ↔ ∀ p < i, gapOk D p)) ⟨same_new hN, [], upd_same, Nat.le_refl _, ⟨fun _ p hp => absurd hp (Nat.not_lt_zero _), fun _ => rfl⟩⟩ (fun i H' _ h => T.k_PERSONS H') ?_ ?_
    · rintro i x H9 H1 hi ⟨s1, bs, hN1, bl, hb⟩ ⟨rfl, hx⟩
      have hi4 : i < 4 := hi
      have ex : x = .int (1 + (i : Int)) := by
        rcases i with _ | _ | _ | _ | i
        · exact (Option.some.inj hx).symm
        · exact (Option.some.inj hx).symm
        · exact (Option.some.inj hx).symm
        · exact (Option.some.inj hx).symm
        · omega
      subst ex
      refine ⟨rfl, yesT ⟨_, rfl, _, rfl, L, rs, D, i, rfl, s1.seq hL, R.mono (TK.of s1), hz, ok, fun b H3 s2 hb2 => ⟨_, s2 _ _ hN1, ?_, same_mut (s1.trans s2) hN, bs ++ [b], ?_, ?_, ?_⟩⟩⟩
      · rw [List.length_map]
        exact small1000 (by omega)
      · rw [upd_same, List.map_append]
        rfl
      · rw [List.length_append]
        exact Nat.add_le_add_right bl 1
      · rw [all_snoc hb hb2]
        constructor
        · rintro ⟨z1, z2⟩ p hp
          by_cases z : p = i
          · rw [z]
            exact z2
          · exact z1 p (by omega)
        · exact fun z => ⟨fun p hp => z p (by omega), z i (by omega)⟩
    rintro H1 ⟨s1, bs, hN1, bl, hb⟩
    refine ⟨N, bs, rfl, SqL.of hN1, ?_⟩
    refine ⟨_, rfl, ite2 (fun c => ?_) (fun c => ?_)⟩
    · refine q false H1 s1 ⟨(fun z => nomatch z), fun C => ?_⟩
      rw [hb.mpr ((cl_iff ok).mpr C).1] at c
      cases c
    have gaps := hb.mp (by simpa using c)
    refine ⟨_, rfl, L, rs, D, rfl, s1.seq hL, R.mono (TK.of s1), hz, fun t H2 s2 ht => ?_⟩
    have s12 := s1.trans s2
    refine ⟨_, rfl, L, rfl, ⟨_, s12.seq hL⟩, fun M hM => ?_⟩
    refine lc_it (walk_list (a := L) (xs := rs)) (fun i H' => Same H2 H' ∧ ∃ bs : List Bool, H' M = some (.lst (bs.map V.bl)) ∧ bs.length ≤ i ∧ (bs.all id = true ↔ ∀ e ∈ D.take i, FitsP e D)) ⟨same_new hM, [], upd_same, Nat.le_refl _, ⟨fun _ o ho => by simp at ho, fun _ => rfl⟩⟩ (fun i H' _ h => h.1.seq (s12.seq hL)) ?_ ?_
    · rintro i x H9 H3 hi ⟨s3, bs, hM3, bl, hb⟩ ⟨rfl, hx⟩
      obtain ⟨e, he, E⟩ := R.get hx
      have s13 := s12.trans s3
      have ti := take_all he (P := fun e => FitsP e D)
      refine ⟨rfl, yesT ⟨_, rfl, _, rfl, _, rfl, x, e, L, t, rs, D, rfl, E.mono (TK.of s13), ok e (List.mem_of_getElem? he), s13.seq hL, R.mono (TK.of s13), hz, ok, SqT.of (s3 _ _ ht), fun b H4 s4 hb2 => ⟨_, s4 _ _ hM3, ?_, same_mut (s3.trans s4) hM, bs ++ [b], ?_, ?_, ?_⟩⟩⟩
      · rw [List.length_map]
        exact small1000 (by have := R.len; omega)
      · rw [upd_same, List.map_append]
        rfl
      · rw [List.length_append]
        exact Nat.add_le_add_right bl 1
      · rw [ti]
        exact all_snoc hb hb2
    · rintro H3 ⟨s3, bs, hM3, bl, hb⟩
      rw [List.take_of_length_le (by rw [R.len]; exact Nat.le_refl _)] at hb
      exact ⟨M, bs, rfl, SqL.of hM3, q _ _ (s12.trans s3) (hb.trans ⟨fun z => (cl_iff ok).mp ⟨gaps, z⟩, fun z => ((cl_iff ok).mpr z).2⟩)⟩
def spIsClosed (K : PySem.W.Frag) : Sp := fun vs H Q _ => ∃ (L : Addr) (rs : List V) (D : List Ed), vs = [.ref L] ∧ SqL K H L rs ∧ Rep H rs D ∧ D.length ≤ 40 ∧ (∀ e ∈ D, OkE e) ∧ ∀ (b : Bool) (H' : Hp), Same H H' → (b = true ↔ Cl D) → Q (.bl b) H'
theorem okLawIsClosed (T : Txt K mg) : FnOk P w K mg base CX0 1 T.fLawIsClosed T.fdLawIsClosed ["edits"] (spIsClosed K) := by
  refine T.FLawIsClosed.ok scLawIsClosed (fun vs H Q E h => ?_) (fun cdv A outer s H vs Q E hr h => ?_)
  · obtain ⟨L, rs, D, rfl, _⟩ := h
    rfl
  · obtain ⟨L, rs, D, rfl, hL, R, hz, ok, q⟩ := h
    -- slots edits=0 edit=1 ids=2 j=3 number=4 other=5
    refine ⟨_, (pss_cons (ps_setLc (i := 2) (own := [("edit", 1)]) (g := gName 1) (tt := tYes) rfl scLawIsClosed.nd rfl rfl (sw_true rfl rfl rfl (by decide +kernel)) (pi_list (pv 0)) (blkOk_by (own := [("edit", 1)]) (N := ["edits", "edit", "ids", "j", "number", "other"]) (sc := defScope sLawIsClosed) (by decide +kernel)) (fun _ _ _ _ _ => (pg_name (i := 1) scLawIsClosed.nd rfl (Or.inl rfl))) (fun _ _ _ _ _ => pts_nil) (fun _ _ _ _ _ => (pe_ix (ix_tupK (K := K) rfl) (pv 1) pe_int (fun _ _ => rfl))))
        (pss_cons (ps_for PassesOwn.never rfl (pi_list (pv 0)) (pg_name (i := 1) scLawIsClosed.nd rfl (Or.inl rfl))
          (pss_cons (ps_if (PW.pt (pw_or (pt_cmpR op_gt (pe_bm PySem.F.plainAttrs_list PySem.F.slot_list_count PySem.F.type_list_count (mt_countD (units65 hr)) (pv 2) (pa_cons (pe_ix ix_tup (pv 1) pe_int (fun _ _ => rfl)) pa_nil)) pe_int (nomark _)) (pw_or1 (pt_cmpR op_ne (pe_ix ix_tup (pe_ix ix_tup (pv 1) pe_int (fun _ _ => rfl)) (pe_op op_sub (pe_ix ix_tup (pe_ix ix_tup (pv 1) pe_int (fun _ _ => rfl)) pe_int (fun _ _ => rfl)) pe_int) (fun _ _ => rfl)) (pe_op op_sub (pe_ix ix_tup (pe_ix ix_tup (pv 1) pe_int (fun _ _ => rfl)) pe_int (fun _ _ => rfl)) pe_int) (nomark _)))))
            (pss_one (ps_ret pe_bl))
            pss_nil)
          (pss_cons (ps_for PassesOwn.never rfl (pi_range1 rfl T.z_range (pa_cons pe_int pa_nil)) (pg_name (i := 3) scLawIsClosed.nd rfl (Or.inl rfl))
            (pss_one (ps_for PassesOwn.never rfl (pi_range2 rfl T.z_range (pa_cons pe_int (pa_cons (pe_op op_add (pe_ix ix_tup (pe_ix ix_tup (pv 1) pe_int (fun _ _ => rfl)) (pv 3) (fun _ _ => rfl)) pe_int) pa_nil))) (pg_name (i := 4) scLawIsClosed.nd rfl (Or.inl rfl))
              (pss_one (ps_if (pt_cmpR (op_notInD (units65 hr)) (pe_tup (pa_cons (pe_op op_add (pv 3) pe_int) (pa_cons (pv 4) pa_nil))) (pv 2) rfl)
                (pss_one (ps_ret pe_bl))
                pss_nil)))))
          (pss_cons (ps_for PassesOwn.never rfl (pi_range2 rfl T.z_range (pa_cons pe_int (pa_cons (pe_ix ix_tup (pe_ix ix_tup (pv 1) pe_int (fun _ _ => rfl)) pe_int (fun _ _ => rfl)) pa_nil))) (pg_name (i := 4) scLawIsClosed.nd rfl (Or.inl rfl))
            (pss_one (ps_if (pt_cmpR (op_notInD (units65 hr)) (pe_tup (pa_cons (pe_ix ix_tup (pe_ix ix_tup (pv 1) pe_int (fun _ _ => rfl)) pe_int (fun _ _ => rfl)) (pa_cons (pv 4) pa_nil))) (pv 2) rfl)
              (pss_one (ps_ret pe_bl))
              pss_nil)))
          (pss_one (ps_for PassesOwn.never rfl (pi_list (pv 0)) (pg_name (i := 5) scLawIsClosed.nd rfl (Or.inl rfl))
            (pss_one (ps_if (pt_cmpR op_ge (pe_ix ix_tup (pe_ix ix_tup (pv 1) pe_int (fun _ _ => rfl)) (pe_op op_sub (pe_ix ix_tup (pe_ix ix_tup (pv 5) pe_int (fun _ _ => rfl)) pe_int (fun _ _ => rfl)) pe_int) (fun _ _ => rfl)) (pe_ix ix_tup (pe_ix ix_tup (pv 5) pe_int (fun _ _ => rfl)) pe_int (fun _ _ => rfl)) (nomark _))
              (pss_one (ps_for PassesOwn.never rfl (pi_range1 rfl T.z_range (pa_cons pe_int pa_nil)) (pg_name (i := 3) scLawIsClosed.nd rfl (Or.inl rfl))
                (pss_one (ps_if (pt_cmpR op_gt (pe_ix ix_tup (pe_ix ix_tup (pv 5) pe_int (fun _ _ => rfl)) (pv 3) (fun _ _ => rfl)) (pe_ix ix_tup (pe_ix ix_tup (pv 1) pe_int (fun _ _ => rfl)) (pv 3) (fun _ _ => rfl)) (nomark _))
                  (pss_one (ps_ret pe_bl))
                  pss_nil))))
              pss_nil))))))))
        (pss_one (ps_ret pe_bl)))), ?_⟩
    refine ⟨_, rfl, L, rfl, ⟨_, hL⟩, fun N hN => ?_⟩
    refine lc_it (walk_list (a := L) (xs := rs)) (fun i H' => Same H H' ∧ ∃ is, H' N = some (.lst is) ∧ is.length ≤ i ∧ RepI H' is (D.take i)) ⟨same_new hN, [], upd_same, Nat.le_refl _, .nil⟩ (fun i H' _ h => h.1.seq hL) ?_ ?_
    · rintro i x H9 H2 hi ⟨s1, is, hN1, il, ri⟩ ⟨rfl, hx⟩
      obtain ⟨e, he, E⟩ := R.get hx
      obtain ⟨q0, a0, b0, c0, rfl, h1, h2, h3⟩ := E.mono (TK.of s1)
      refine ⟨rfl, yesT ⟨_, rfl, q0, _, _, _, rfl, rfl, SqT.of h1, atI_nat (j := 0) rfl, is, hN1, ?_, same_mut s1 hN, is ++ [.ref a0], upd_same, ?_, ?_⟩⟩
      · exact small1000 (by have := R.len; omega)
      · rw [List.length_append]
        exact Nat.add_le_add_right il 1
      · rw [List.take_add_one, he]
        exact (ri.snoc h2).mono (TK.mut hN1)
    rintro H1 ⟨s1, is, hN1, il, ri⟩
    rw [List.take_of_length_le (by rw [R.len]; exact Nat.le_refl _)] at ri
    have R1 := R.mono (TK.of s1)
    have hL1 := s1.seq hL
    have ids : ∀ H', Same H1 H' → Dp K H' (.ref N) (.list ((D.map Ed.id).map idD)) := fun H' s => .lst (SqL.of (s _ _ hN1)) (ri.mono (TK.of s)).dp
    refine ⟨_, rfl, L, rfl, ⟨_, hL1⟩, for_list (K := K) (a := L) (xs := rs) (fun i σ H' => ∃ c1 c3 c4 c5, σ = [some (.ref L), c1, some (.ref N), c3, c4, c5] ∧ Same H1 H' ∧ ∀ e ∈ D.take i, FitsL e D) ⟨_, _, _, _, rfl, Same.refl H1, fun e he => by simp at he⟩ (fun i σ H' _ ⟨_, _, _, _, _, s, _⟩ => s.seq hL1) ?_ ?_⟩
    · rintro i x σ H2 hx ⟨c1, c3, c4, c5, rfl, s2, fi⟩
      obtain ⟨e, he, E⟩ := R1.get hx
      have em := List.mem_of_getElem? he
      have oe := ok e em
      have qf : ∀ H', Same H1 H' → ¬ FitsL e D → Q (.bl false) H' := fun H' s nf => q false H' (s1.trans s) ⟨(fun z => nomatch z), fun C => absurd (C e em) nf⟩
      have ti := take_all he (P := fun e => FitsL e D)
      obtain ⟨q0, a0, b0, c0, rfl, h1, h2, h3⟩ := E
      have hp4 := oe.p
      have at1 : ∀ p : Nat, p < 4 → atI (e.v.map V.int) ((1 + (p : Int)) - 1) = some (.int (e.v.getD p 0)) := fun p hp => by
        rw [show (1 + (p : Int)) - 1 = ((p : Nat) : Int) by omega]
        exact atI_nat (getD_at (by rw [oe.v]; exact hp))
      have at0 : ∀ p : Nat, p < 4 → atI (e.v.map V.int) (0 + (p : Int)) = some (.int (e.v.getD p 0)) := fun p hp => by
        rw [Int.zero_add]
        exact atI_nat (getD_at (by rw [oe.v]; exact hp))
      refine ⟨_, rfl, .inl ⟨rfl, _, SqL.of (s2 _ _ hN1)⟩, _, rfl, q0, _, _, _, rfl, rfl, SqT.of (s2 _ _ h1), atI_nat (j := 0) rfl, N, .ref a0, idD e.id, _, rfl, rfl, ids _ s2, dp_id (s2 _ _ h2), idDs_shaped _, idD_shaped _, ?_⟩
      rw [idDs_count]
      refine ⟨_, _, rfl, rfl, _, rfl, ite2 (fun c => qf _ s2 fun F => ?_) (fun c => ?_)⟩
      · have := F.once
        have := of_decide_eq_true c
        omega
      have once : ((D.map Ed.id).countP fun z => decide (z = e.id)) ≤ 1 := by
        have : ¬ (1 : Int) < _ := fun z => c (decide_eq_true z)
        omega
      refine ⟨_, rfl, q0, _, _, _, rfl, rfl, SqT.of (s2 _ _ h1), atI_nat (j := 1) rfl, _, rfl, q0, _, _, _, rfl, rfl, SqT.of (s2 _ _ h1), atI_nat (j := 0) rfl, a0, _, _, _, rfl, rfl, SqT.of (s2 _ _ h2), atI_nat (j := 0) rfl, _, _, rfl, rfl, b0, _, _, _, rfl, rfl, SqT.of (s2 _ _ h3), at1 _ hp4, _, rfl, q0, _, _, _, rfl, rfl, SqT.of (s2 _ _ h1), atI_nat (j := 0) rfl, a0, _, _, _, rfl, rfl, SqT.of (s2 _ _ h2), atI_nat (j := 1) rfl, _, _, rfl, rfl, rfl, _, rfl, ite2 (fun c => qf _ s2 fun F => ?_) (fun c => ?_)⟩
      · rw [F.own] at c
        simp at c
      have own : e.v.getD e.p 0 = e.n - 1 := by
        simpa using c
      -- what it counts is there
      refine ⟨4, rfl, by decide, by decide, for_range (lo := 0) (n := 4) (fun j σ H' => ∃ c3 c4, σ = [some (.ref L), some (.ref q0), some (.ref N), c3, c4, c5] ∧ Same H1 H' ∧ ∀ j' < j, ∀ m : Int, 1 ≤ m → m ≤ e.v.getD j' 0 → (1 + (j' : Int), m) ∈ D.map Ed.id) ⟨_, _, rfl, s2, fun j' hj => absurd hj (Nat.not_lt_zero _)⟩ ?_ ?_⟩
      · rintro j σ H3 hj ⟨c3, c4, rfl, s3, fj⟩
        have vb := oe.at_ hj
        refine ⟨_, rfl, q0, _, _, _, rfl, rfl, SqT.of (s3 _ _ h1), atI_nat (j := 1) rfl, _, rfl, b0, _, _, _, rfl, rfl, SqT.of (s3 _ _ h3), at0 _ hj, _, _, rfl, rfl, _, _, rfl, ⟨by decide, by decide, by omega, by omega⟩, for_range (lo := 1) (n := (e.v.getD j 0 + 1 - 1).toNat) (fun t σ H' => ∃ c4, σ = [some (.ref L), some (.ref q0), some (.ref N), some (.int (0 + (j : Int))), c4, c5] ∧ Same H1 H' ∧ ∀ m : Int, 1 ≤ m → m ≤ t → (1 + (j : Int), m) ∈ D.map Ed.id) ⟨_, rfl, s3, fun m m1 m2 => by omega⟩ ?_ ?_⟩
        · rintro t σ H4 ht ⟨c4, rfl, s4, ft⟩
          refine ⟨_, rfl, _, _, rfl, rfl, _, rfl, (by show 2 ≤ sizeLine; decide), fun u hu => ?_⟩
          have s5 := s4.trans (same_new (o := .tup [.int (0 + (j : Int) + 1), .int (1 + (t : Int))]) hu)
          refine ⟨_, rfl, idD (0 + (j : Int) + 1, 1 + (t : Int)), _, dp_id upd_same, ids _ s5, idD_shaped _, idDs_shaped _, ?_⟩
          rw [idDs_any, show ((0 : Int) + (j : Int) + 1) = 1 + (j : Int) by omega]
          refine ⟨_, rfl, ite2 (fun c => qf _ s5 fun F => ?_) (fun c => ?_)⟩
          · have := F.held j hj (1 + (t : Int)) (by omega) (by omega)
            rw [decide_eq_true this] at c
            cases c
          · have hm : (1 + (j : Int), 1 + (t : Int)) ∈ D.map Ed.id := by simpa using c
            refine ⟨_, rfl, s5, fun m m1 m2 => ?_⟩
            by_cases z : m = 1 + (t : Int)
            · rw [z]
              exact hm
            · exact ft m m1 (by omega)
        · rintro σ H4 ⟨c4, rfl, s4, ft⟩
          refine ⟨_, _, rfl, s4, fun j' hj' m m1 m2 => ?_⟩
          by_cases z : j' = j
          · subst z
            exact ft m m1 (by omega)
          · exact fj j' (by omega) m m1 m2
      rintro σ H3 ⟨c3, c4, rfl, s3, held⟩
      -- no gap below it
      have nb := oe.nh
      have n1 := oe.n
      refine ⟨_, rfl, q0, _, _, _, rfl, rfl, SqT.of (s3 _ _ h1), atI_nat (j := 0) rfl, a0, _, _, _, rfl, rfl, SqT.of (s3 _ _ h2), atI_nat (j := 1) rfl, _, _, rfl, ⟨by decide, by decide, by omega, by omega⟩, for_range (lo := 1) (n := (e.n - 1).toNat) (fun t σ H' => ∃ c4, σ = [some (.ref L), some (.ref q0), some (.ref N), c3, c4, c5] ∧ Same H1 H' ∧ ∀ m : Int, 1 ≤ m → m ≤ t → (1 + (e.p : Int), m) ∈ D.map Ed.id) ⟨_, rfl, s3, fun m m1 m2 => by omega⟩ ?_ ?_⟩
      · rintro t σ H4 ht ⟨c4, rfl, s4, ft⟩
        refine ⟨_, rfl, q0, _, _, _, rfl, rfl, SqT.of (s4 _ _ h1), atI_nat (j := 0) rfl, a0, _, _, _, rfl, rfl, SqT.of (s4 _ _ h2), atI_nat (j := 0) rfl, _, rfl, (by show 2 ≤ sizeLine; decide), fun u hu => ?_⟩
        have s5 := s4.trans (same_new (o := .tup [.int (1 + (e.p : Int)), .int (1 + (t : Int))]) hu)
        refine ⟨_, rfl, idD (1 + (e.p : Int), 1 + (t : Int)), _, dp_id upd_same, ids _ s5, idD_shaped _, idDs_shaped _, ?_⟩
        rw [idDs_any]
        refine ⟨_, rfl, ite2 (fun c => qf _ s5 fun F => ?_) (fun c => ?_)⟩
        · have := F.below (1 + (t : Int)) (by omega) (by omega)
          rw [decide_eq_true this] at c
          cases c
        · have hm : (1 + (e.p : Int), 1 + (t : Int)) ∈ D.map Ed.id := by simpa using c
          refine ⟨_, rfl, s5, fun m m1 m2 => ?_⟩
          by_cases z : m = 1 + (t : Int)
          · rw [z]
            exact hm
          · exact ft m m1 (by omega)
      rintro σ H4 ⟨c4, rfl, s4, ft⟩
      have below : ∀ m : Int, 1 ≤ m → m < e.n → (1 + (e.p : Int), m) ∈ D.map Ed.id := fun m m1 m2 => ft m m1 (by omega)
      -- what it has seen has seen no more
      refine ⟨_, rfl, L, rfl, ⟨_, s4.seq hL1⟩, for_list (K := K) (a := L) (xs := rs) (fun k σ H' => ∃ c3 c5, σ = [some (.ref L), some (.ref q0), some (.ref N), c3, c4, c5] ∧ Same H1 H' ∧ ∀ o ∈ D.take k, o.n ≤ e.v.getD o.p 0 → ∀ j < 4, o.v.getD j 0 ≤ e.v.getD j 0) ⟨_, _, rfl, s4, fun e he => by simp at he⟩ (fun i σ H' _ ⟨_, _, _, s, _⟩ => s.seq hL1) ?_ ?_⟩
      · rintro k y σ H5 hy ⟨c3, c5, rfl, s5, fk⟩
        obtain ⟨o, ho, E⟩ := R1.get hy
        have om := List.mem_of_getElem? ho
        have oo := ok o om
        have to := take_all ho (P := fun o => o.n ≤ e.v.getD o.p 0 → ∀ j < 4, o.v.getD j 0 ≤ e.v.getD j 0)
        obtain ⟨q5, a5, b5, d5, rfl, h4, h5, h6⟩ := E
        refine ⟨_, rfl, q0, _, _, _, rfl, rfl, SqT.of (s5 _ _ h1), atI_nat (j := 1) rfl, _, rfl, q5, _, _, _, rfl, rfl, SqT.of (s5 _ _ h4), atI_nat (j := 0) rfl, a5, _, _, _, rfl, rfl, SqT.of (s5 _ _ h5), atI_nat (j := 0) rfl, _, _, rfl, rfl, b0, _, _, _, rfl, rfl, SqT.of (s5 _ _ h3), at1 _ oo.p, _, rfl, q5, _, _, _, rfl, rfl, SqT.of (s5 _ _ h4), atI_nat (j := 0) rfl, a5, _, _, _, rfl, rfl, SqT.of (s5 _ _ h5), atI_nat (j := 1) rfl, _, _, rfl, rfl, _, rfl, ite2 (fun c => ?_) (fun c => ?_)⟩
        · have seen := of_decide_eq_true c
          refine ⟨4, rfl, by decide, by decide, for_range (lo := 0) (n := 4) (fun j σ H' => ∃ c3, σ = [some (.ref L), some (.ref q0), some (.ref N), c3, c4, some (.ref q5)] ∧ Same H1 H' ∧ ∀ j' < j, o.v.getD j' 0 ≤ e.v.getD j' 0) ⟨_, rfl, s5, fun j' hj => absurd hj (Nat.not_lt_zero _)⟩ ?_ ?_⟩
          · rintro j σ H6 hj ⟨c3, rfl, s6, fj⟩
            have at5 : atI (o.v.map V.int) (0 + (j : Int)) = some (.int (o.v.getD j 0)) := by
              rw [Int.zero_add]
              exact atI_nat (getD_at (by rw [oo.v]; exact hj))
            refine ⟨_, rfl, q5, _, _, _, rfl, rfl, SqT.of (s6 _ _ h4), atI_nat (j := 1) rfl, _, rfl, b5, _, _, _, rfl, rfl, SqT.of (s6 _ _ h6), at5, _, rfl, q0, _, _, _, rfl, rfl, SqT.of (s6 _ _ h1), atI_nat (j := 1) rfl, _, rfl, b0, _, _, _, rfl, rfl, SqT.of (s6 _ _ h3), at0 _ hj, _, _, rfl, rfl, _, rfl, ite2 (fun c => qf _ s6 fun F => ?_) (fun c => ?_)⟩
            · have := F.seen o om seen j hj
              have := of_decide_eq_true c
              omega
            · refine ⟨_, rfl, s6, fun j' hj' => ?_⟩
              by_cases z : j' = j
              · subst z
                have : ¬ _ < _ := fun y => c (decide_eq_true y)
                exact Int.not_lt.mp this
              · exact fj j' (by omega)
          · rintro σ H6 ⟨c3, rfl, s6, fj⟩
            exact ⟨_, _, rfl, s6, to.mpr ⟨fk, fun _ => fj⟩⟩
        · exact ⟨_, _, rfl, s5, to.mpr ⟨fk, fun z => absurd (decide_eq_true z) c⟩⟩
      · rintro σ H5 ⟨c3, c5, rfl, s5, fk⟩
        rw [List.take_of_length_le (by rw [R.len]; exact Nat.le_refl _)] at fk
        exact ⟨_, _, _, _, rfl, s5, ti.mpr ⟨fi, ⟨once, own, held, below, fk⟩⟩⟩
    · rintro σ H2 ⟨c1, c3, c4, c5, rfl, s2, fi⟩
      rw [List.take_of_length_le (by rw [R.len]; exact Nat.le_refl _)] at fi
      exact q true H2 (s1.trans s2) ⟨fun _ => fi, fun _ => rfl⟩
def spPadded (K : PySem.W.Frag) : Sp := fun vs H Q _ => ∃ (c k : Int), vs = [.int c, .int k] ∧ ∀ (H' : Hp) (d : Addr) (ds : List Int), Same H H' → H' d = some (.lst (ds.map V.int)) → 20 ≤ ds.length → Q (.ref d) H'
theorem okLawPadded (T : Txt K mg) : FnOk P w K mg base CX0 2 T.fLawPadded T.fdLawPadded ["cell", "k"] (spPadded K) := by
  refine T.FLawPadded.ok scLawPadded (fun vs H Q E h => ?_) (fun cdv A outer s H vs Q E hr h => ?_)
  · obtain ⟨c, k, rfl, _⟩ := h
    rfl
  · obtain ⟨c, k, rfl, q⟩ := h
    -- slots cell=0 k=1 d=2 turn=3
    refine ⟨_, (pss_cons (ps_set (i := 2) scLawPadded.nd rfl (Or.inl rfl) (pe_call (okLawDigits T) (hr.mono (by decide)) (by rfl) T.gLawDigits T.FLawDigits.kp T.bLawDigits .nil pass0 (pa_cons (pv 0) (pa_cons (pv 1) (pa_cons pe_int pa_nil)))))
        (pss_cons (ps_for PassesOwn.never rfl (pi_range1 rfl T.z_range (pa_cons pe_int pa_nil)) (pg_name (i := 3) scLawPadded.nd rfl (Or.inl rfl))
          (pss_one (ps_expr (pe_bm PySem.F.plainAttrs_list PySem.F.slot_list_append PySem.F.type_list_append mt_append (pv 2) (pa_cons (pv 3) pa_nil)))))
        (pss_one (ps_ret (pv 2))))), ?_⟩
    refine ⟨_, rfl, _, rfl, c, k, 20, rfl, by decide, fun H1 d ds s1 hdn hd1 D => ?_⟩
    have dl := D.len
    refine ⟨20, rfl, by decide, by decide, for_range (lo := 0) (n := 20) (fun i σ H' => ∃ (es : List Int) (c3 : Option V), σ = [some (.int c), some (.int k), some (.ref d), c3] ∧ Same H H' ∧ H' d = some (.lst (es.map V.int)) ∧ i ≤ es.length ∧ es.length ≤ 20 + i) ⟨ds, _, rfl, s1, hd1, Nat.zero_le _, by omega⟩ ?_ ?_⟩
    · rintro i σ H2 hi ⟨es, c3, rfl, s2, hd2, l1, l2⟩
      refine ⟨_, rfl, .inl ⟨rfl, _, SqL.of hd2⟩, _, rfl, d, _, _, rfl, rfl, hd2, ?_, es ++ [0 + (i : Int)], _, rfl, same_mut s2 hdn, ?_, ?_, ?_⟩
      · rw [List.length_map]
        exact small1000 (by omega)
      · rw [upd_same, List.map_append]
        rfl
      · rw [List.length_append]
        exact Nat.add_le_add_right l1 1
      · rw [List.length_append]
        show es.length + 1 ≤ _
        omega
    · rintro σ H2 ⟨es, c3, rfl, s2, hd2, l1, l2⟩
      exact ⟨_, rfl, q _ d es s2 hd2 l1⟩
theorem ixN_nat {n j : Nat} (h : j < n) : ixN n (j : Int) = some j := by
  unfold ixN
  rw [if_pos (by omega), if_pos (by omega)]
  rfl
theorem set_int {zs : List Int} {j : Nat} {v : Int} : (zs.map V.int).set j (.int v) = (zs.set j v).map V.int := by rw [List.map_set]
structure Z4 (zs : List Int) : Prop where
  len : zs.length = 4
  all : ∀ z ∈ zs, 0 ≤ z ∧ z ≤ 20
theorem Z4.set {zs : List Int} (h : Z4 zs) {v : Int} (v0 : 0 ≤ v) (v1 : v ≤ 20) (j : Nat) : Z4 (zs.set j v) := by
  refine ⟨by rw [List.length_set, h.len], fun z hz => ?_⟩
  rcases List.mem_or_eq_of_mem_set hz with q | q
  · exact h.all z q
  · rw [q]
    exact ⟨v0, v1⟩
theorem Z4.at_ {zs : List Int} (h : Z4 zs) {j : Nat} (hj : j < 4) : 0 ≤ zs.getD j 0 ∧ zs.getD j 0 ≤ 20 := by
  have : j < zs.length := by rw [h.len]; exact hj
  rw [List.getD_eq_getElem?_getD, List.getElem?_eq_getElem this]
  exact h.all _ (List.getElem_mem this)
theorem max_in {a b : Int} (h1 : 0 ≤ a ∧ a ≤ 20) (h2 : b ≤ 20) : 0 ≤ (if b > a then b else a) ∧ (if b > a then b else a) ≤ 20 := by
  by_cases z : b > a
  · rw [if_pos z]
    omega
  · rw [if_neg z]
    exact h1
def spList (K : PySem.W.Frag) : Sp := fun vs H Q _ => ∃ (a : Addr) (ns : List Int), vs = [.ref a] ∧ SqL K H a (ns.map V.int) ∧ ∀ (H' : Hp) (L : Addr) (rs : List V) (D : List Ed), Same H H' → H' L = some (.lst rs) → Rep H' rs D → D.length ≤ 8 → (∀ e ∈ D, OkE e) → Q (.ref L) H'
theorem okLawList (T : Txt K mg) : FnOk P w K mg base CX0 3 T.fLawList T.fdLawList ["script"] (spList K) := by
  refine T.FLawList.ok scLawList (fun vs H Q E h => ?_) (fun cdv A outer s H vs Q E hr h => ?_)
  · obtain ⟨a, ns, rfl, _⟩ := h
    rfl
  · obtain ⟨a, ns, rfl, hS, q⟩ := h
    -- slots script=0 edits=1 k=2 d=3 person=4 edit=5 number=6 seen=7 j=8
    refine ⟨_, (pss_cons (ps_set (i := 1) scLawList.nd rfl (Or.inl rfl) (pe_lst pa_nil))
        (pss_cons (ps_for PassesOwn.never rfl (pi_range1 rfl T.z_range (pa_cons (pe_op op_mod (pe_callTy call_int1 (by rfl) T.z_int (by decide +kernel) (pa_cons (pe_call (okLawCell T) (hr.mono (by decide)) (by rfl) T.gLawCell T.FLawCell.kp T.bLawCell .nil pass0 (pa_cons (pv 0) (pa_cons pe_int pa_nil))) pa_nil)) pe_int) pa_nil)) (pg_name (i := 2) scLawList.nd rfl (Or.inl rfl))
          (pss_cons (ps_set (i := 3) scLawList.nd rfl (Or.inl rfl) (pe_call (okLawPadded T) (hr.mono (by decide)) (by rfl) T.gLawPadded T.FLawPadded.kp T.bLawPadded .nil pass0 (pa_cons (pe_call (okLawCell T) (hr.mono (by decide)) (by rfl) T.gLawCell T.FLawCell.kp T.bLawCell .nil pass0 (pa_cons (pv 0) (pa_cons (pe_op op_add pe_int (pv 2)) pa_nil))) (pa_cons (pe_op op_add pe_int (pv 2)) pa_nil))))
          (pss_cons (ps_set (i := 4) scLawList.nd rfl (Or.inr rfl) (pe_op op_add pe_int (pe_op op_mod (pe_callTy call_int1 (by rfl) T.z_int (by decide +kernel) (pa_cons (pe_ix ix_list (pv 3) pe_int (fun _ _ => rfl)) pa_nil)) pe_int)))
          (pss_cons (ps_set (i := 6) scLawList.nd rfl (Or.inl rfl) (pe_op op_add pe_int (pe_callB call_len_seq (by rfl) T.z_len PySem.boot_len (pa_cons (pe_lc (own := [("edit", 5)]) (g := gName 5) rfl scLawList.nd (pi_list (pv 1)) (blkOk_by (own := [("edit", 5)]) (N := ["script", "edits", "k", "d", "person", "edit", "number", "seen", "j"]) (sc := defScope sLawList) (by decide +kernel)) (fun _ _ _ _ _ => (pg_name (i := 5) scLawList.nd rfl (Or.inl rfl))) (fun _ _ _ _ _ => (pts_one (pt_cmpR op_eq (pe_ix (ix_tupK (K := K) rfl) (pe_ix (ix_tupK (K := K) rfl) (pv 5) pe_int (fun _ _ => rfl)) pe_int (fun _ _ => rfl)) (pv 4) (nomark _)))) (fun _ _ _ _ _ => (pv 5))) pa_nil))))
          (pss_cons (ps_set (i := 7) scLawList.nd rfl (Or.inl rfl) (pe_lst (pa_cons pe_int (pa_cons pe_int (pa_cons pe_int (pa_cons pe_int pa_nil))))))
          (pss_cons (ps_for PassesOwn.never rfl (pi_list (pv 1)) (pg_name (i := 5) scLawList.nd rfl (Or.inl rfl))
            (pss_one (ps_if (PW.pt (pw_or (pt_cmpR op_eq (pe_ix ix_tup (pe_ix ix_tup (pv 5) pe_int (fun _ _ => rfl)) pe_int (fun _ _ => rfl)) (pv 4) (nomark _)) (pw_or1 (pt_cmpR op_eq (pe_op op_mod (pe_callTy call_int1 (by rfl) T.z_int (by decide +kernel) (pa_cons (pe_ix ix_list (pv 3) pe_int (fun _ _ => rfl)) pa_nil)) pe_int) pe_int (nomark _)))))
              (pss_cons (ps_asg (pe_callB (call_max2 rfl) (by rfl) T.z_max (by decide +kernel) (pa_cons (pe_ix ix_list (pv 7) (pe_op op_sub (pe_ix ix_tup (pe_ix ix_tup (pv 5) pe_int (fun _ _ => rfl)) pe_int (fun _ _ => rfl)) pe_int) (fun _ _ => rfl)) (pa_cons (pe_ix ix_tup (pe_ix ix_tup (pv 5) pe_int (fun _ _ => rfl)) pe_int (fun _ _ => rfl)) pa_nil))) (pg_sub (pv 7) (pe_op op_sub (pe_ix ix_tup (pe_ix ix_tup (pv 5) pe_int (fun _ _ => rfl)) pe_int (fun _ _ => rfl)) pe_int) set_list))
              (pss_one (ps_for PassesOwn.never rfl (pi_range1 rfl T.z_range (pa_cons pe_int pa_nil)) (pg_name (i := 8) scLawList.nd rfl (Or.inl rfl))
                (pss_one (ps_asg (pe_callB (call_max2 rfl) (by rfl) T.z_max (by decide +kernel) (pa_cons (pe_ix ix_list (pv 7) (pv 8) (fun _ _ => rfl)) (pa_cons (pe_ix ix_tup (pe_ix ix_tup (pv 5) pe_int (fun _ _ => rfl)) (pv 8) (fun _ _ => rfl)) pa_nil))) (pg_sub (pv 7) (pv 8) set_list))))))
              pss_nil)))
          (pss_cons (ps_asg (pe_op op_sub (pv 6) pe_int) (pg_sub (pv 7) (pe_op op_sub (pv 4) pe_int) set_list))
          (C8.pss_cut (ps_if (pt_cmpR op_eq (pe_op op_mod (pe_callTy call_int1 (by rfl) T.z_int (by decide +kernel) (pa_cons (pe_ix ix_list (pv 3) pe_int (fun _ _ => rfl)) pa_nil)) pe_int) pe_int (nomark _))
            (pss_one (ps_asg (pe_op op_mod (pe_callTy call_int1 (by rfl) T.z_int (by decide +kernel) (pa_cons (pe_ix ix_list (pv 3) pe_int (fun _ _ => rfl)) pa_nil)) pe_int) (pg_sub (pv 7) (pe_op op_mod (pe_callTy call_int1 (by rfl) T.z_int (by decide +kernel) (pa_cons (pe_ix ix_list (pv 3) pe_int (fun _ _ => rfl)) pa_nil)) pe_int) set_list)))
            pss_nil)
          (C8.pss_cut (ps_if (pt_cmpR op_eq (pe_op op_mod (pe_callTy call_int1 (by rfl) T.z_int (by decide +kernel) (pa_cons (pe_ix ix_list (pv 3) pe_int (fun _ _ => rfl)) pa_nil)) pe_int) pe_int (nomark _))
            (pss_one (ps_set (i := 6) scLawList.nd rfl (Or.inl rfl) (pe_op op_add (pv 6) pe_int)))
            pss_nil)
          (C8.pss_cut (ps_if (PW.pt (pw_and (pt_cmpR op_eq (pe_op op_mod (pe_callTy call_int1 (by rfl) T.z_int (by decide +kernel) (pa_cons (pe_ix ix_list (pv 3) pe_int (fun _ _ => rfl)) pa_nil)) pe_int) pe_int (nomark _)) (pw_and1 (pt_cmpR op_gt (pv 6) pe_int (nomark _)))))
            (pss_one (ps_set (i := 6) scLawList.nd rfl (Or.inl rfl) (pe_op op_sub (pv 6) pe_int)))
            pss_nil)
          (pss_one (ps_expr (pe_bm PySem.F.plainAttrs_list PySem.F.slot_list_append PySem.F.type_list_append mt_append (pv 1) (pa_cons (pe_tup (pa_cons (pe_tup (pa_cons (pv 4) (pa_cons (pv 6) pa_nil))) (pa_cons (pe_callTy call_tuple_of (by rfl) T.z_tuple (by decide +kernel) (pa_cons (pv 7) pa_nil)) (pa_cons (pe_tup (pa_cons pe_str (pa_cons (pe_op op_mod (pe_callTy call_int1 (by rfl) T.z_int (by decide +kernel) (pa_cons (pe_ix ix_list (pv 3) pe_int (fun _ _ => rfl)) pa_nil)) pe_int) pa_nil))) pa_nil)))) pa_nil))))))))))))))
        (pss_one (ps_ret (pv 1))))), ?_⟩
    refine ⟨Nat.zero_le _, fun L hL0 => ?_⟩
    have s0 : Same H (upd H L (.lst [])) := same_new hL0
    have hL1 : (upd H L (.lst [])) L = some (.lst []) := upd_same
    generalize upd H L (.lst []) = H1 at s0 hL1
    refine ⟨_, rfl, a, ns, _, rfl, by decide, s0.seq hS, fun v => .inl ⟨_, rfl, _, _, rfl, rfl, (by show (0 : Int) < _; decide), ?_⟩⟩
    refine ⟨v % 8, rfl, by omega, by omega, for_range (lo := 0) (n := (v % 8).toNat) (fun i σ H' => ∃ (rs : List V) (D : List Ed) (c2 c3 c4 c5 c6 c7 c8 : Option V), σ = [some (.ref a), some (.ref L), c2, c3, c4, c5, c6, c7, c8] ∧ Same H H' ∧ H' L = some (.lst rs) ∧ Rep H' rs D ∧ D.length ≤ i ∧ ∀ e ∈ D, OkE e) ⟨[], [], _, _, _, _, _, _, _, rfl, s0, hL1, Rep.nil, Nat.le_refl _, fun e he => nomatch he⟩ ?_ ?_⟩
    · rintro i σ H2 hi ⟨rs, D, c2, c3, c4, c5, c6, c7, c8, rfl, s2, hL2, R2, Dl, ok⟩
      refine ⟨_, rfl, _, rfl, _, _, rfl, rfl, a, ns, _, rfl, by omega, s2.seq hS, fun v => ⟨_, rfl, _, _, rfl, rfl, v, _, rfl, fun H3 d ds s3 hd3 dl => ?_⟩⟩
      have gd : ∀ j : Nat, j < 20 → atI (ds.map V.int) ((j : Nat) : Int) = some (.int (ds.getD j 0)) := fun j hj => atI_nat (getD_at (by omega))
      refine ⟨_, rfl, d, _, _, _, rfl, rfl, SqL.of hd3, gd 0 (by decide), .inl ⟨_, rfl, _, _, rfl, rfl, (by show (0 : Int) < _; decide), _, _, rfl, rfl, ?_⟩⟩
      obtain ⟨p, ep, hp⟩ : ∃ p : Nat, ds.getD 0 0 % 4 = (p : Int) ∧ p < 4 := ⟨(ds.getD 0 0 % 4).toNat, by omega, by omega⟩
      rw [ep]
      -- number
      have hL3 := s3 _ _ hL2
      refine ⟨_, rfl, L, rfl, ⟨_, SqL.of hL3⟩, fun N hN => ?_⟩
      refine lc_it (walk_list (a := L) (xs := rs)) (fun i H' => Same H3 H' ∧ ∃ acc, H' N = some (.lst acc) ∧ acc.length ≤ i) ⟨same_new hN, [], upd_same, Nat.le_refl _⟩ (fun i H' _ h => SqL.of (h.1 _ _ hL3)) ?_ ?_
      · rintro t x H9 H4 ht ⟨s4, acc, hN4, al⟩ ⟨rfl, hx⟩
        obtain ⟨e, he, E⟩ := R2.get hx
        obtain ⟨q0, a0, b0, c0, rfl, h1, h2, h3⟩ := E.mono (TK.of (s3.trans s4))
        refine ⟨rfl, _, rfl, q0, _, _, _, rfl, rfl, SqT.of h1, atI_nat (j := 0) rfl, a0, _, _, _, rfl, rfl, SqT.of h2, atI_nat (j := 0) rfl, _, rfl, rfl, _, rfl, ite2 (fun c => ?_) (fun c => ?_)⟩
        · refine ⟨_, rfl, acc, hN4, small1000 (by have := R2.len; omega), same_mut s4 hN, _, upd_same, ?_⟩
          rw [List.length_append]
          exact Nat.add_le_add_right al 1
        · exact ⟨s4, acc, hN4, by omega⟩
      rintro H4 ⟨s4, acc, hN4, al⟩
      refine ⟨N, _, rfl, .inl (SqL.of hN4), _, _, rfl, rfl, ?_⟩
      have num1 : (1 : Int) ≤ 1 + (acc.length : Int) := by omega
      have num2 : 1 + (acc.length : Int) ≤ 18 := by have := R2.len; omega
      -- seen
      refine ⟨(by show 4 ≤ sizeLine; decide), fun S hS0 => ?_⟩
      have s5 : Same H4 (upd H4 S (.lst [.int 0, .int 0, .int 0, .int 0])) := same_new hS0
      have hS5 : (upd H4 S (.lst [.int 0, .int 0, .int 0, .int 0])) S = some (.lst (([0, 0, 0, 0] : List Int).map V.int)) := upd_same
      generalize upd H4 S (.lst [.int 0, .int 0, .int 0, .int 0]) = H5 at s5 hS5
      have z0 : Z4 [0, 0, 0, 0] := ⟨rfl, fun z hz => by simp at hz; omega⟩
      have hL4 := s4 _ _ hL3
      have hd4 := s4 _ _ hd3
      have R4 := R2.mono (TK.of (s3.trans s4))
      refine ⟨_, rfl, L, rfl, ⟨_, SqL.of (s5 _ _ hL4)⟩, for_list (K := K) (a := L) (xs := rs) (fun t σ H' => ∃ (c5 c8 : Option V) (zs : List Int), σ = [some (.ref a), some (.ref L), some (.int (0 + (i : Int))), some (.ref d), some (.int (1 + (p : Int))), c5, some (.int (1 + (acc.length : Int))), some (.ref S), c8] ∧ Same H4 H' ∧ H' S = some (.lst (zs.map V.int)) ∧ Z4 zs) ⟨_, _, _, rfl, s5, hS5, z0⟩ (fun t σ H' _ ⟨_, _, _, _, s, _⟩ => SqL.of (s _ _ hL4)) ?_ ?_⟩
      · rintro t x σ H6 hx ⟨c5, c8, zs, rfl, s6, hS6, Z⟩
        obtain ⟨e, he, E⟩ := R4.get hx
        have oe := ok e (List.mem_of_getElem? he)
        obtain ⟨q0, a0, b0, c0, rfl, h1, h2, h3⟩ := E
        have hp4 := oe.p
        have at1 : atI (zs.map V.int) ((1 + (e.p : Int)) - 1) = some (.int (zs.getD e.p 0)) := by
          rw [show (1 + (e.p : Int)) - 1 = ((e.p : Nat) : Int) by omega]
          exact atI_nat (getD_at (by rw [Z.len]; exact hp4))
        have ix1 : ixN (zs.map V.int).length ((1 + (e.p : Int)) - 1) = some e.p := by
          rw [show (1 + (e.p : Int)) - 1 = ((e.p : Nat) : Int) by omega]
          exact ixN_nat (by rw [List.length_map, Z.len]; exact hp4)
        refine ⟨_, rfl, q0, _, _, _, rfl, rfl, SqT.of (s6 _ _ h1), atI_nat (j := 0) rfl, a0, _, _, _, rfl, rfl, SqT.of (s6 _ _ h2), atI_nat (j := 0) rfl, _, rfl, rfl, _, rfl, ite2 (fun c => ?_) (fun c => ⟨_, rfl, d, _, _, _, rfl, rfl, SqL.of (s6 _ _ hd4), gd 1 (by decide), .inl ⟨_, rfl, _, _, rfl, rfl, (by show (0 : Int) < _; decide), rfl, _, rfl, ite2 (fun c => ?_) (fun c => ⟨_, _, zs, rfl, s6, hS6, Z⟩)⟩⟩)⟩
        all_goals
          refine ⟨_, rfl, _, rfl, q0, _, _, _, rfl, rfl, SqT.of (s6 _ _ h1), atI_nat (j := 0) rfl, a0, _, _, _, rfl, rfl, SqT.of (s6 _ _ h2), atI_nat (j := 0) rfl, _, _, rfl, rfl, S, _, _, _, rfl, rfl, SqL.of hS6, at1, _, rfl, q0, _, _, _, rfl, rfl, SqT.of (s6 _ _ h1), atI_nat (j := 0) rfl, a0, _, _, _, rfl, rfl, SqT.of (s6 _ _ h2), atI_nat (j := 1) rfl, _, _, rfl, _, rfl, _, rfl, q0, _, _, _, rfl, rfl, SqT.of (s6 _ _ h1), atI_nat (j := 0) rfl, a0, _, _, _, rfl, rfl, SqT.of (s6 _ _ h2), atI_nat (j := 0) rfl, _, _, rfl, rfl, S, _, _, _, rfl, rfl, hS6, ix1, ?_⟩
          have mi := max_in (Z.at_ hp4) oe.nh
          have s7 : Same H4 (upd H6 S (.lst ((zs.map V.int).set e.p (.int (if e.n > zs.getD e.p 0 then e.n else zs.getD e.p 0))))) := same_mut s6 hS0
          have hS7 : (upd H6 S (.lst ((zs.map V.int).set e.p (.int (if e.n > zs.getD e.p 0 then e.n else zs.getD e.p 0))))) S = some (.lst ((zs.set e.p (if e.n > zs.getD e.p 0 then e.n else zs.getD e.p 0)).map V.int)) := by
            rw [upd_same, set_int]
          have Z7 := Z.set mi.1 mi.2 e.p
          refine ⟨4, rfl, by decide, by decide, for_range (lo := 0) (n := 4) (fun j σ H' => ∃ (c8 : Option V) (zs : List Int), σ = [some (.ref a), some (.ref L), some (.int (0 + (i : Int))), some (.ref d), some (.int (1 + (p : Int))), some (.ref q0), some (.int (1 + (acc.length : Int))), some (.ref S), c8] ∧ Same H4 H' ∧ H' S = some (.lst (zs.map V.int)) ∧ Z4 zs) ⟨_, _, rfl, s7, hS7, Z7⟩ ?_ ?_⟩
          · rintro j σ H8 hj ⟨c8, xs, rfl, s8, hS8, Z8⟩
            have ae : atI (e.v.map V.int) (0 + (j : Int)) = some (.int (e.v.getD j 0)) := by
              rw [Int.zero_add]
              exact atI_nat (getD_at (by rw [oe.v]; exact hj))
            have ax : atI (xs.map V.int) (0 + (j : Int)) = some (.int (xs.getD j 0)) := by
              rw [Int.zero_add]
              exact atI_nat (getD_at (by rw [Z8.len]; exact hj))
            have ix : ixN (xs.map V.int).length (0 + (j : Int)) = some j := by
              rw [Int.zero_add]
              exact ixN_nat (by rw [List.length_map, Z8.len]; exact hj)
            refine ⟨_, rfl, _, rfl, S, _, _, _, rfl, rfl, SqL.of hS8, ax, _, rfl, q0, _, _, _, rfl, rfl, SqT.of (s8 _ _ h1), atI_nat (j := 1) rfl, _, rfl, b0, _, _, _, rfl, rfl, SqT.of (s8 _ _ h3), ae, _, _, rfl, _, rfl, _, rfl, S, _, _, _, rfl, rfl, hS8, ix, ?_⟩
            have mi := max_in (Z8.at_ hj) (oe.at_ hj).2
            exact ⟨_, xs.set j (if e.v.getD j 0 > xs.getD j 0 then e.v.getD j 0 else xs.getD j 0), rfl, same_mut s8 hS0, by rw [upd_same, set_int], Z8.set mi.1 mi.2 j⟩
          · rintro σ H8 ⟨c8, xs, rfl, s8, hS8, Z8⟩
            exact ⟨_, _, xs, rfl, s8, hS8, Z8⟩
      rintro σ H6 ⟨c5, c8, zs, rfl, s6, hS6, Z⟩
      have ixp : ∀ zs : List Int, Z4 zs → ∀ p : Nat, p < 4 → ixN (zs.map V.int).length ((p : Nat) : Int) = some p := fun zs Z p hp => ixN_nat (by rw [List.length_map, Z.len]; exact hp)
      -- seen[person - 1] = number - 1
      refine ⟨_, rfl, _, _, rfl, rfl, _, rfl, _, rfl, _, _, rfl, rfl, S, _, _, p, rfl, rfl, hS6, ?_, ?_⟩
      · rw [show (1 + (p : Int)) - 1 = ((p : Nat) : Int) by omega]
        exact ixp zs Z p hp
      have s7 : Same H4 (upd H6 S (.lst ((zs.map V.int).set p (.int (1 + (acc.length : Int) - 1))))) := same_mut s6 hS0
      have hS7 : (upd H6 S (.lst ((zs.map V.int).set p (.int (1 + (acc.length : Int) - 1))))) S = some (.lst ((zs.set p (1 + (acc.length : Int) - 1)).map V.int)) := by
        rw [upd_same, set_int]
      have Z7 := Z.set (v := 1 + (acc.length : Int) - 1) (by omega) (by omega) p
      -- an entry changed
      refine ⟨fun σ H' => ∃ (zs : List Int), σ = [some (.ref a), some (.ref L), some (.int (0 + (i : Int))), some (.ref d), some (.int (1 + (p : Int))), c5, some (.int (1 + (acc.length : Int))), some (.ref S), c8] ∧ Same H4 H' ∧ H' S = some (.lst (zs.map V.int)) ∧ Z4 zs, ?_, ?_⟩
      · refine ⟨_, rfl, d, _, _, _, rfl, rfl, SqL.of (s7 _ _ hd4), gd 2 (by decide), .inl ⟨_, rfl, _, _, rfl, rfl, (by show (0 : Int) < _; decide), rfl, _, rfl, ite2 (fun c => ?_) (fun c => ⟨_, rfl, s7, hS7, Z7⟩)⟩⟩
        refine ⟨_, rfl, d, _, _, _, rfl, rfl, SqL.of (s7 _ _ hd4), gd 4 (by decide), .inl ⟨_, rfl, _, _, rfl, rfl, (by show (0 : Int) < _; decide), _, rfl, _, rfl, d, _, _, _, rfl, rfl, SqL.of (s7 _ _ hd4), gd 3 (by decide), .inl ⟨_, rfl, _, _, rfl, rfl, (by show (0 : Int) < _; decide), S, _, _, (ds.getD 3 0 % 4).toNat, rfl, rfl, hS7, ?_, ?_⟩⟩⟩
        · rw [show ds.getD 3 0 % 4 = (((ds.getD 3 0 % 4).toNat : Nat) : Int) by omega]
          exact ixp _ Z7 _ (by omega)
        · exact ⟨(zs.set p (1 + (acc.length : Int) - 1)).set (ds.getD 3 0 % 4).toNat (ds.getD 4 0 % 4), rfl, same_mut s7 hS0, by rw [upd_same, set_int], Z7.set (by omega) (by omega) _⟩
      rintro σ H8 ⟨xs, rfl, s8, hS8, Z8⟩
      -- a number changed
      refine ⟨fun σ H' => H' = H8 ∧ ∃ num : Int, σ = [some (.ref a), some (.ref L), some (.int (0 + (i : Int))), some (.ref d), some (.int (1 + (p : Int))), c5, some (.int num), some (.ref S), c8] ∧ 1 ≤ num ∧ num ≤ 20, ?_, ?_⟩
      · refine ⟨_, rfl, d, _, _, _, rfl, rfl, SqL.of (s8 _ _ hd4), gd 2 (by decide), .inl ⟨_, rfl, _, _, rfl, rfl, (by show (0 : Int) < _; decide), rfl, _, rfl, ite2 (fun c => ⟨_, rfl, _, _, rfl, rfl, rfl, 1 + (acc.length : Int) + 1, rfl, by omega, by omega⟩) (fun c => ⟨rfl, 1 + (acc.length : Int), rfl, by omega, by omega⟩)⟩⟩
      rintro σ H9 ⟨rfl, nu2, rfl, n1, n2⟩
      refine ⟨fun σ H' => H' = H9 ∧ ∃ num : Int, σ = [some (.ref a), some (.ref L), some (.int (0 + (i : Int))), some (.ref d), some (.int (1 + (p : Int))), c5, some (.int num), some (.ref S), c8] ∧ 1 ≤ num ∧ num ≤ 20, ?_, ?_⟩
      · refine ⟨_, rfl, d, _, _, _, rfl, rfl, SqL.of (s8 _ _ hd4), gd 2 (by decide), .inl ⟨_, rfl, _, _, rfl, rfl, (by show (0 : Int) < _; decide), rfl, _, rfl, ite2 (fun c => ?_) (fun c => iteF ⟨rfl, nu2, rfl, n1, n2⟩)⟩⟩
        refine ⟨_, rfl, _, _, rfl, rfl, _, rfl, ite2 (fun c => ?_) (fun c => ⟨rfl, nu2, rfl, n1, n2⟩)⟩
        have := of_decide_eq_true c
        exact ⟨_, rfl, _, _, rfl, rfl, rfl, nu2 - 1, rfl, by omega, by omega⟩
      rintro σ H10 ⟨rfl, nu3, rfl, m1, m2⟩
      -- the edit
      have hL8 := s8 _ _ hL4
      have hd8 := s8 _ _ hd4
      have sH8 : Same H H10 := ((s2.trans s3).trans s4).trans s8
      have R8 := R4.mono (TK.of s8)
      refine ⟨_, rfl, .inl ⟨rfl, _, SqL.of hL8⟩, _, rfl, _, rfl, (by show 2 ≤ sizeLine; decide), fun a1 ha1 => ?_⟩
      have t1 : Same H10 (upd H10 a1 (.tup [.int (1 + (p : Int)), .int nu3])) := same_new ha1
      have k1 : (upd H10 a1 (.tup [.int (1 + (p : Int)), .int nu3])) a1 = some (.tup [.int (1 + (p : Int)), .int nu3]) := upd_same
      generalize upd H10 a1 (.tup [.int (1 + (p : Int)), .int nu3]) = G1 at t1 k1
      refine ⟨_, rfl, S, _, rfl, .inl ⟨SqL.of (t1 _ _ hS8), fun b1 hb1 => ?_⟩⟩
      have t2 : Same G1 (upd G1 b1 (.tup (xs.map V.int))) := same_new hb1
      have k2 : (upd G1 b1 (.tup (xs.map V.int))) b1 = some (.tup (xs.map V.int)) := upd_same
      generalize upd G1 b1 (.tup (xs.map V.int)) = G2 at t2 k2
      refine ⟨_, rfl, d, _, _, _, rfl, rfl, SqL.of ((t1.trans t2) _ _ hd8), gd 5 (by decide), .inl ⟨_, rfl, _, _, rfl, rfl, (by show (0 : Int) < _; decide), (by show 2 ≤ sizeLine; decide), fun u1 hu1 => ⟨(by show 3 ≤ sizeLine; decide), fun q1 hq1 => ?_⟩⟩⟩
      have t3 : Same G2 (upd G2 u1 (.tup [.str "undo", .int (ds.getD 5 0 % 3)])) := same_new hu1
      have t4 : Same (upd G2 u1 (.tup [.str "undo", .int (ds.getD 5 0 % 3)])) (upd (upd G2 u1 (.tup [.str "undo", .int (ds.getD 5 0 % 3)])) q1 (.tup [.ref a1, .ref b1, .ref u1])) := same_new hq1
      have t34 := t3.trans t4
      have t24 := t2.trans t34
      have t14 := t1.trans t24
      have hLG := t14 _ _ hL8
      have E : EdAt (upd (upd G2 u1 (.tup [.str "undo", .int (ds.getD 5 0 % 3)])) q1 (.tup [.ref a1, .ref b1, .ref u1])) (.ref q1) ⟨p, nu3, xs⟩ := ⟨q1, a1, b1, _, rfl, upd_same, t24 _ _ k1, t34 _ _ k2⟩
      refine ⟨L, _, _, rfl, rfl, hLG, small1000 (by have := R2.len; omega), rs ++ [.ref q1], D ++ [⟨p, nu3, xs⟩], _, _, _, _, _, _, _, rfl, same_mut (sH8.trans t14) hL0, upd_same, ((R8.mono (TK.of t14)).snoc E).mono (TK.mut hLG), ?_, fun e he => ?_⟩
      · rw [List.length_append]
        exact Nat.add_le_add_right Dl 1
      · rcases List.mem_append.mp he with z | z
        · exact ok e z
        · obtain rfl : e = ⟨p, nu3, xs⟩ := by simpa using z
          exact ⟨hp, m1, Z8.len, m2, Z8.all⟩
    · rintro σ H2 ⟨rs, D, c2, c3, c4, c5, c6, c7, c8, rfl, s2, hL2, R2, Dl, ok⟩
      exact ⟨_, rfl, q H2 L rs D s2 hL2 R2 (by omega) ok⟩
def spLaw (K : PySem.W.Frag) : Sp := fun vs H Q _ => ∃ (a : Addr) (ns : List Int), vs = [.ref a] ∧ SqL K H a (ns.map V.int) ∧ ns.length ≤ 63 ∧ ∀ H', Q (.bl true) H'
theorem okLaw (T : Txt K mg) : FnOk P w K mg base CX0 5 T.fLaw T.fdLaw ["script"] (spLaw K) := by
  refine T.FLaw.ok scLaw (fun vs H Q E h => ?_) (fun cdv A outer s H vs Q E hr h => ?_)
  · obtain ⟨a, ns, rfl, _⟩ := h
    rfl
  · obtain ⟨a, ns, rfl, hS, hlen, q⟩ := h
    -- slots script=0 edits=1
    refine ⟨_, (pss_cons (ps_set (i := 1) scLaw.nd rfl (Or.inl rfl) (pe_call (okLawList T) (hr.mono (by decide)) (by rfl) T.gLawList T.FLawList.kp T.bLawList .nil pass0 (pa_cons (pv 0) pa_nil)))
        (pss_one (ps_ret (pe_and (pe_cmpR op_eq (pe_call (okClosed T) (hr.mono (by decide)) (by rfl) T.gClosed T.FClosed.kp T.bClosed .nil pass0 (pa_cons (pe_callTy call_list_of (by rfl) T.z_list (by decide +kernel) (pa_cons (pv 1) pa_nil)) pa_nil)) (pe_call (okLawIsClosed T) (hr.mono (by decide)) (by rfl) T.gLawIsClosed T.FLawIsClosed.kp T.bLawIsClosed .nil pass0 (pa_cons (pv 1) pa_nil)) (nomark _)) (pe_one (pe_cmpR op_eq (pe_call (okClosed T) (hr.mono (by decide)) (by rfl) T.gClosed T.FClosed.kp T.bClosed .nil pass0 (pa_cons (pe_revL (pv 1)) pa_nil)) (pe_call (okLawIsClosed T) (hr.mono (by decide)) (by rfl) T.gLawIsClosed T.FLawIsClosed.kp T.bLawIsClosed .nil pass0 (pa_cons (pv 1) pa_nil)) (nomark _))))))), ?_⟩
    have beq : ∀ {b c : Bool} {P : Prop}, (b = true ↔ P) → (c = true ↔ P) → b = c := fun h1 h2 => by
      rw [Bool.eq_iff_iff]
      exact h1.trans h2.symm
    refine ⟨_, rfl, a, ns, rfl, hS, fun H1 L rs D s1 hL R Dl ok => ?_⟩
    refine ⟨_, rfl, L, _, rfl, .inl (SqL.of hL), fun l hl => ?_⟩
    have s2 := same_new (o := .lst rs) hl
    refine ⟨l, rs, D, rfl, SqL.of upd_same, R.mono (TK.of s2), by omega, ok, fun b1 H2 s3 hb1 => ?_⟩
    have s13 := s2.trans s3
    refine ⟨_, rfl, L, rs, D, rfl, SqL.of (s13 _ _ hL), R.mono (TK.of s13), by omega, ok, fun b2 H3 s4 hb2 => ?_⟩
    have s14 := s13.trans s4
    rw [beq hb1 hb2]
    refine ⟨rfl, _, rfl, ?_⟩
    rw [decide_eq_true rfl]
    refine iteT ?_
    refine ⟨_, rfl, L, _, rfl, SqL.of (s14 _ _ hL), fun r hr => ?_⟩
    have s5 := same_new (o := .lst rs.reverse) hr
    have s15 := s14.trans s5
    have okr : ∀ e ∈ D.reverse, OkE e := fun e he => ok e (List.mem_reverse.mp he)
    refine ⟨r, rs.reverse, D.reverse, rfl, SqL.of upd_same, (R.mono (TK.of s15)).rev, by rw [List.length_reverse]; omega, okr, fun b3 H4 s6 hb3 => ?_⟩
    have s16 := s15.trans s6
    refine ⟨_, rfl, L, rs, D, rfl, SqL.of (s16 _ _ hL), R.mono (TK.of s16), by omega, ok, fun b4 H5 s7 hb4 => ?_⟩
    rw [beq (hb3.trans cl_rev) hb4]
    refine ⟨rfl, ?_⟩
    rw [decide_eq_true rfl]
    exact q _
end
set_option maxHeartbeats 0 in
theorem all_mk {l : PySem.W.OpenLaw} {w : World} {K : PySem.W.Frag} {h : Heap} {mg : Str → Option Value} {fa f1 f2 f3 f4 f5 f6 f7 f8 f9 f10 f11 f12 f13 f14 : Addr} (X : K.In h) (G : h.Ns mainGlobals mg) (hfa : mg "law" = some (.ref fa))
    {od1 an1 od2 an2 od3 an3 od4 an4 od5 an5 od6 an6 od7 an7 od8 an8 od9 an9 od10 an10 od11 an11 od12 an12 od13 an13 od14 an14 : Option Addr} {sl1 sl2 sl3 sl4 sl5 sl6 sl7 sl8 sl9 sl10 sl11 sl12 sl13 sl14 : Array (Option Value)} {oc1 kV1 dc1 pm1 cd1 ct1 oc2 kV2 dc2 pm2 cd2 ct2 oc3 kV3 dc3 pm3 cd3 ct3 oc4 kV4 dc4 pm4 cd4 ct4 oc5 kV5 dc5 pm5 cd5 ct5 oc6 kV6 dc6 pm6 cd6 ct6 oc7 kV7 dc7 pm7 cd7 ct7 oc8 kV8 dc8 pm8 cd8 ct8 oc9 kV9 dc9 pm9 cd9 ct9 oc10 kV10 dc10 pm10 cd10 ct10 oc11 kV11 dc11 pm11 cd11 ct11 oc12 kV12 dc12 pm12 cd12 ct12 oc13 kV13 dc13 pm13 cd13 ct13 oc14 kV14 dc14 pm14 cd14 ct14 : Value}
    (a1 : PySem.W.nsIn K mainGlobals "counts" = some (some (.ref f1))) (l1 : K.lookup f1 = some ⟨oc1, od1, .func (PySem.W.fnOf "counts" "counts" (defArgs sCounts) (defBody sCounts) (defScope sCounts) .none kV1 dc1 pm1 an1 cd1 ct1), sl1⟩) (c1 : PySem.W.codeIn K cd1 "counts" = true) (k1 : PySem.W.keepIn K (.ref f1) = true)
    (a2 : PySem.W.nsIn K mainGlobals "includes" = some (some (.ref f2))) (l2 : K.lookup f2 = some ⟨oc2, od2, .func (PySem.W.fnOf "includes" "includes" (defArgs sIncludes) (defBody sIncludes) (defScope sIncludes) .none kV2 dc2 pm2 an2 cd2 ct2), sl2⟩) (c2 : PySem.W.codeIn K cd2 "includes" = true) (k2 : PySem.W.keepIn K (.ref f2) = true)
    (a3 : PySem.W.nsIn K mainGlobals "has_seen" = some (some (.ref f3))) (l3 : K.lookup f3 = some ⟨oc3, od3, .func (PySem.W.fnOf "has_seen" "has_seen" (defArgs sHasSeen) (defBody sHasSeen) (defScope sHasSeen) .none kV3 dc3 pm3 an3 cd3 ct3), sl3⟩) (c3 : PySem.W.codeIn K cd3 "has_seen" = true) (k3 : PySem.W.keepIn K (.ref f3) = true)
    (a4 : PySem.W.nsIn K mainGlobals "_numbers" = some (some (.ref f4))) (l4 : K.lookup f4 = some ⟨oc4, od4, .func (PySem.W.fnOf "_numbers" "_numbers" (defArgs sNumbers) (defBody sNumbers) (defScope sNumbers) .none kV4 dc4 pm4 an4 cd4 ct4), sl4⟩) (c4 : PySem.W.codeIn K cd4 "_numbers" = true) (k4 : PySem.W.keepIn K (.ref f4) = true)
    (a5 : PySem.W.nsIn K mainGlobals "version_of" = some (some (.ref f5))) (l5 : K.lookup f5 = some ⟨oc5, od5, .func (PySem.W.fnOf "version_of" "version_of" (defArgs sVersionOf) (defBody sVersionOf) (defScope sVersionOf) .none kV5 dc5 pm5 an5 cd5 ct5), sl5⟩) (c5 : PySem.W.codeIn K cd5 "version_of" = true) (k5 : PySem.W.keepIn K (.ref f5) = true)
    (a6 : PySem.W.nsIn K mainGlobals "_without_gap" = some (some (.ref f6))) (l6 : K.lookup f6 = some ⟨oc6, od6, .func (PySem.W.fnOf "_without_gap" "_without_gap" (defArgs sWithoutGap) (defBody sWithoutGap) (defScope sWithoutGap) .none kV6 dc6 pm6 an6 cd6 ct6), sl6⟩) (c6 : PySem.W.codeIn K cd6 "_without_gap" = true) (k6 : PySem.W.keepIn K (.ref f6) = true)
    (a7 : PySem.W.nsIn K mainGlobals "fits" = some (some (.ref f7))) (l7 : K.lookup f7 = some ⟨oc7, od7, .func (PySem.W.fnOf "fits" "fits" (defArgs sFits) (defBody sFits) (defScope sFits) .none kV7 dc7 pm7 an7 cd7 ct7), sl7⟩) (c7 : PySem.W.codeIn K cd7 "fits" = true) (k7 : PySem.W.keepIn K (.ref f7) = true)
    (a8 : PySem.W.nsIn K mainGlobals "closed" = some (some (.ref f8))) (l8 : K.lookup f8 = some ⟨oc8, od8, .func (PySem.W.fnOf "closed" "closed" (defArgs sClosed) (defBody sClosed) (defScope sClosed) .none kV8 dc8 pm8 an8 cd8 ct8), sl8⟩) (c8 : PySem.W.codeIn K cd8 "closed" = true) (k8 : PySem.W.keepIn K (.ref f8) = true)
    (a9 : PySem.W.nsIn K mainGlobals "_law_cell" = some (some (.ref f9))) (l9 : K.lookup f9 = some ⟨oc9, od9, .func (PySem.W.fnOf "_law_cell" "_law_cell" (defArgs sLawCell) (defBody sLawCell) (defScope sLawCell) .none kV9 dc9 pm9 an9 cd9 ct9), sl9⟩) (c9 : PySem.W.codeIn K cd9 "_law_cell" = true) (k9 : PySem.W.keepIn K (.ref f9) = true)
    (a10 : PySem.W.nsIn K mainGlobals "_law_digits" = some (some (.ref f10))) (l10 : K.lookup f10 = some ⟨oc10, od10, .func (PySem.W.fnOf "_law_digits" "_law_digits" (defArgs sLawDigits) (defBody sLawDigits) (defScope sLawDigits) .none kV10 dc10 pm10 an10 cd10 ct10), sl10⟩) (c10 : PySem.W.codeIn K cd10 "_law_digits" = true) (k10 : PySem.W.keepIn K (.ref f10) = true)
    (a11 : PySem.W.nsIn K mainGlobals "_law_padded" = some (some (.ref f11))) (l11 : K.lookup f11 = some ⟨oc11, od11, .func (PySem.W.fnOf "_law_padded" "_law_padded" (defArgs sLawPadded) (defBody sLawPadded) (defScope sLawPadded) .none kV11 dc11 pm11 an11 cd11 ct11), sl11⟩) (c11 : PySem.W.codeIn K cd11 "_law_padded" = true) (k11 : PySem.W.keepIn K (.ref f11) = true)
    (a12 : PySem.W.nsIn K mainGlobals "_law_list" = some (some (.ref f12))) (l12 : K.lookup f12 = some ⟨oc12, od12, .func (PySem.W.fnOf "_law_list" "_law_list" (defArgs sLawList) (defBody sLawList) (defScope sLawList) .none kV12 dc12 pm12 an12 cd12 ct12), sl12⟩) (c12 : PySem.W.codeIn K cd12 "_law_list" = true) (k12 : PySem.W.keepIn K (.ref f12) = true)
    (a13 : PySem.W.nsIn K mainGlobals "_law_is_closed" = some (some (.ref f13))) (l13 : K.lookup f13 = some ⟨oc13, od13, .func (PySem.W.fnOf "_law_is_closed" "_law_is_closed" (defArgs sLawIsClosed) (defBody sLawIsClosed) (defScope sLawIsClosed) .none kV13 dc13 pm13 an13 cd13 ct13), sl13⟩) (c13 : PySem.W.codeIn K cd13 "_law_is_closed" = true) (k13 : PySem.W.keepIn K (.ref f13) = true)
    (a14 : PySem.W.nsIn K mainGlobals "law" = some (some (.ref f14))) (l14 : K.lookup f14 = some ⟨oc14, od14, .func (PySem.W.fnOf "law" "law" (defArgs sLaw) (defBody sLaw) (defScope sLaw) .none kV14 dc14 pm14 an14 cd14 ct14), sl14⟩) (c14 : PySem.W.codeIn K cd14 "law" = true) (k14 : PySem.W.keepIn K (.ref f14) = true)
    (z_all : PySem.W.nsIn K mainGlobals "all" = some none)
    (z_sorted : PySem.W.nsIn K mainGlobals "sorted" = some none)
    (z_tuple : PySem.W.nsIn K mainGlobals "tuple" = some none)
    (z_range : PySem.W.nsIn K mainGlobals "range" = some none)
    (z_list : PySem.W.nsIn K mainGlobals "list" = some none)
    (z_len : PySem.W.nsIn K mainGlobals "len" = some none)
    (z_int : PySem.W.nsIn K mainGlobals "int" = some none)
    (z_zip : PySem.W.nsIn K mainGlobals "zip" = some none)
    (z_max : PySem.W.nsIn K mainGlobals "max" = some none)
    {ap_PERSONS : Addr} {n_PERSONS : Nat} {sl_PERSONS : Array (Option Value)} {t_PERSONS_0 t_PERSONS_1 t_PERSONS_2 t_PERSONS_3 : Nat} (x_PERSONS : PySem.W.nsIn K mainGlobals "PERSONS" = some (some (.ref ap_PERSONS))) (y_PERSONS : K.lookup ap_PERSONS = some ⟨.type "tuple", none, .seq ⟨[.int 1 t_PERSONS_0, .int 2 t_PERSONS_1, .int 3 t_PERSONS_2, .int 4 t_PERSONS_3]⟩ n_PERSONS, sl_PERSONS⟩)
    : ∃ fd : FuncData, (∀ (s : Shared) (v : Value), BindsTo s fd ⟨[v], []⟩ [("script", v)]) ∧ ∀ base : Heap, K.In base → base.Ns mainGlobals mg → FnOk l.prog w K mg base CX0 5 fa fd ["script"] (spLaw K) := by
  have e := hfa.symm.trans (PySem.W.mg_of X G a14)
  cases e
  have F1 := fun_mk (st := sCounts) l1 c1 k1
  have b1 := F1.binds (ps := ["version", "edit_id"]) fun _ _ _ _ _ _ us hl => match us, hl with | [_, _], _ => rfl
  have F2 := fun_mk (st := sIncludes) l2 c2 k2
  have b2 := F2.binds (ps := ["version", "other"]) fun _ _ _ _ _ _ us hl => match us, hl with | [_, _], _ => rfl
  have F3 := fun_mk (st := sHasSeen) l3 c3 k3
  have b3 := F3.binds (ps := ["edit", "other"]) fun _ _ _ _ _ _ us hl => match us, hl with | [_, _], _ => rfl
  have F4 := fun_mk (st := sNumbers) l4 c4 k4
  have b4 := F4.binds (ps := ["edits", "person"]) fun _ _ _ _ _ _ us hl => match us, hl with | [_, _], _ => rfl
  have F5 := fun_mk (st := sVersionOf) l5 c5 k5
  have b5 := F5.binds (ps := ["edits"]) fun _ _ _ _ _ _ us hl => match us, hl with | [_], _ => rfl
  have F6 := fun_mk (st := sWithoutGap) l6 c6 k6
  have b6 := F6.binds (ps := ["edits", "person"]) fun _ _ _ _ _ _ us hl => match us, hl with | [_, _], _ => rfl
  have F7 := fun_mk (st := sFits) l7 c7 k7
  have b7 := F7.binds (ps := ["edit", "edits", "held"]) fun _ _ _ _ _ _ us hl => match us, hl with | [_, _, _], _ => rfl
  have F8 := fun_mk (st := sClosed) l8 c8 k8
  have b8 := F8.binds (ps := ["edits"]) fun _ _ _ _ _ _ us hl => match us, hl with | [_], _ => rfl
  have F9 := fun_mk (st := sLawCell) l9 c9 k9
  have b9 := F9.binds (ps := ["script", "k"]) fun _ _ _ _ _ _ us hl => match us, hl with | [_, _], _ => rfl
  have F10 := fun_mk (st := sLawDigits) l10 c10 k10
  have b10 := F10.binds (ps := ["cell", "k", "most"]) fun _ _ _ _ _ _ us hl => match us, hl with | [_, _, _], _ => rfl
  have F11 := fun_mk (st := sLawPadded) l11 c11 k11
  have b11 := F11.binds (ps := ["cell", "k"]) fun _ _ _ _ _ _ us hl => match us, hl with | [_, _], _ => rfl
  have F12 := fun_mk (st := sLawList) l12 c12 k12
  have b12 := F12.binds (ps := ["script"]) fun _ _ _ _ _ _ us hl => match us, hl with | [_], _ => rfl
  have F13 := fun_mk (st := sLawIsClosed) l13 c13 k13
  have b13 := F13.binds (ps := ["edits"]) fun _ _ _ _ _ _ us hl => match us, hl with | [_], _ => rfl
  have F14 := fun_mk (st := sLaw) l14 c14 k14
  have b14 := F14.binds (ps := ["script"]) fun _ _ _ _ _ _ us hl => match us, hl with | [_], _ => rfl
  exact ⟨PySem.W.fnOf "law" "law" (defArgs sLaw) (defBody sLaw) (defScope sLaw) .none kV14 dc14 pm14 an14 cd14 ct14, fun s v => .of_eq rfl, fun base _ _ => okLaw (P := l.prog) (w := w) (base := base) (⟨f1, _, F1, b1, PySem.W.mg_of X G a1, f2, _, F2, b2, PySem.W.mg_of X G a2, f3, _, F3, b3, PySem.W.mg_of X G a3, f4, _, F4, b4, PySem.W.mg_of X G a4, f5, _, F5, b5, PySem.W.mg_of X G a5, f6, _, F6, b6, PySem.W.mg_of X G a6, f7, _, F7, b7, PySem.W.mg_of X G a7, f8, _, F8, b8, PySem.W.mg_of X G a8, f9, _, F9, b9, PySem.W.mg_of X G a9, f10, _, F10, b10, PySem.W.mg_of X G a10, f11, _, F11, b11, PySem.W.mg_of X G a11, f12, _, F12, b12, PySem.W.mg_of X G a12, f13, _, F13, b13, PySem.W.mg_of X G a13, fa, _, F14, b14, PySem.W.mg_of X G a14, PySem.W.mg_none_of X G z_all, PySem.W.mg_none_of X G z_sorted, PySem.W.mg_none_of X G z_tuple, PySem.W.mg_none_of X G z_range, PySem.W.mg_none_of X G z_list, PySem.W.mg_none_of X G z_len, PySem.W.mg_none_of X G z_int, PySem.W.mg_none_of X G z_zip, PySem.W.mg_none_of X G z_max, ap_PERSONS, PySem.W.mg_of X G x_PERSONS, fun H => .inr ⟨_, _, _, y_PERSONS, rfl, rfl, (by show 4 ≤ sizeLine; decide), (.cons ⟨_, rfl⟩ (.cons ⟨_, rfl⟩ (.cons ⟨_, rfl⟩ (.cons ⟨_, rfl⟩ .nil))))⟩, ⟨_, y_PERSONS, rfl, rfl⟩⟩ : Txt K mg)⟩
theorem walk {l : PySem.W.OpenLaw} {q : Program} {loose : List Str} {XP : (Str → Option Value) → Heap → Prop} {YP : World → Heap → Prop} {d : DefRec} {K : Params → PySem.W.Frag} (hn : l.most = some 63) (hdf : d.params.defaults = [])
    (hY : ∀ (w : World) (h : Heap), YP w h → (K w.params).In h)
    (F : ∀ (w : World) (mg : Str → Option Value) (fa : Addr) (h : Heap), (K w.params).In h → h.Ns mainGlobals mg → mg d.name = some (.ref fa) →
      ∃ fd : FuncData, (∀ (s : Shared) (u : Value), BindsTo s fd ⟨[u], []⟩ [("script", u)]) ∧ ∀ base : Heap, (K w.params).In base → base.Ns mainGlobals mg → FnOk l.prog w (K w.params) mg base CX0 5 fa fd ["script"] (spLaw (K w.params))) :
    PySem.W.WalkO q loose XP YP l.row.toRowW d [] (fun f vs => PySem.call f vs) :=
  L2.walk_of (n := 63) (k := 5) (x := "script") (CX := fun _ => CX0) (sp := fun w => spLaw (K w.params)) hn (by decide) hdf ⟨rfl, by decide, by decide⟩ hY F (fun _ _ a ns hl _ hS => ⟨a, ns, rfl, hS, hl, fun _ => rfl⟩) fun _ _ _ _ _ z => z
end My
open PySem PySem.W PyProof.Rows
set_option maxRecDepth 100000 in
set_option maxHeartbeats 0 in
theorem PySem.Challenge.cw_tablemates_k30_closed_lists_holds : PySem.Challenge.rw_tablemates_k30_closed_lists.Holds := by
  w_on; o_law; k_head; (case hw => w_witness2)
  k_fill
  refine My.walk (l := PySem.Challenge.rw_tablemates_k30_closed_lists) rfl rfl (fun w h Y => PySem.W.kIn_of Y) ?F
  case F =>
    intro w mg fa h KX G hmg
    refine' My.all_mk KX G hmg ?a1 ?l1 ?c1 ?k1 ?a2 ?l2 ?c2 ?k2 ?a3 ?l3 ?c3 ?k3 ?a4 ?l4 ?c4 ?k4 ?a5 ?l5 ?c5 ?k5 ?a6 ?l6 ?c6 ?k6 ?a7 ?l7 ?c7 ?k7 ?a8 ?l8 ?c8 ?k8 ?a9 ?l9 ?c9 ?k9 ?a10 ?l10 ?c10 ?k10 ?a11 ?l11 ?c11 ?k11 ?a12 ?l12 ?c12 ?k12 ?a13 ?l13 ?c13 ?k13 ?a14 ?l14 ?c14 ?k14 ?z_all ?z_sorted ?z_tuple ?z_range ?z_list ?z_len ?z_int ?z_zip ?z_max ?x_PERSONS ?y_PERSONS
    (case a1 => k_is); (case l1 => k_is); (case c1 => k_is); (case k1 => k_is); (case a2 => k_is); (case l2 => k_is); (case c2 => k_is); (case k2 => k_is); (case a3 => k_is); (case l3 => k_is); (case c3 => k_is); (case k3 => k_is); (case a4 => k_is); (case l4 => k_is); (case c4 => k_is); (case k4 => k_is); (case a5 => k_is); (case l5 => k_is); (case c5 => k_is); (case k5 => k_is); (case a6 => k_is); (case l6 => k_is); (case c6 => k_is); (case k6 => k_is); (case a7 => k_is); (case l7 => k_is); (case c7 => k_is); (case k7 => k_is); (case a8 => k_is); (case l8 => k_is); (case c8 => k_is); (case k8 => k_is); (case a9 => k_is); (case l9 => k_is); (case c9 => k_is); (case k9 => k_is); (case a10 => k_is); (case l10 => k_is); (case c10 => k_is); (case k10 => k_is); (case a11 => k_is); (case l11 => k_is); (case c11 => k_is); (case k11 => k_is); (case a12 => k_is); (case l12 => k_is); (case c12 => k_is); (case k12 => k_is); (case a13 => k_is); (case l13 => k_is); (case c13 => k_is); (case k13 => k_is); (case a14 => k_is); (case l14 => k_is); (case c14 => k_is); (case k14 => k_is); (case z_all => k_is); (case z_sorted => k_is); (case z_tuple => k_is); (case z_range => k_is); (case z_list => k_is); (case z_len => k_is); (case z_int => k_is); (case z_zip => k_is); (case z_max => k_is); (case x_PERSONS => k_is); (case y_PERSONS => k_is)

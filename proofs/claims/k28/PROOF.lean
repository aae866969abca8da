import PyProof.Rows.All
import Wide.All
import OpenK.AllK
import Wide.FinOn
import HandS.ForMost
import HandS.Zip
import HandS.Walk
import PySem.Challenge.RW_tablemates_k28_versions_count
set_option Elab.async false
set_option linter.all false
set_option maxRecDepth 100000
namespace My
open PySem PySem.Spec PyProof.Rows L2 RZ
def topS (i : Nat) : Stmt := PySem.Challenge.pw_tablemates_k28_versions_count.main.body.getD i (.Pass ⟨0, 0, 0, 0⟩)
abbrev sNothing : Stmt := topS 1
abbrev sCounts : Stmt := topS 2
abbrev sIncludes : Stmt := topS 3
abbrev sJoined : Stmt := topS 4
abbrev sLawCell : Stmt := topS 6
abbrev sLaw : Stmt := topS 7
theorem scNothing : FnScope [] [] (defScope sNothing) := ⟨rfl, rfl, rfl, by decide +kernel, rfl, by decide +kernel, by decide +kernel⟩
theorem scCounts : FnScope ["version", "edit_id", "person", "number"] ["version", "edit_id"] (defScope sCounts) := ⟨rfl, rfl, rfl, by decide +kernel, rfl, by decide +kernel, by decide +kernel⟩
theorem scIncludes : FnScope ["version", "other", "mine", "theirs"] ["version", "other"] (defScope sIncludes) := ⟨rfl, rfl, rfl, by decide +kernel, rfl, by decide +kernel, by decide +kernel⟩
theorem scJoined : FnScope ["version", "other", "mine", "theirs"] ["version", "other"] (defScope sJoined) := ⟨rfl, rfl, rfl, by decide +kernel, rfl, by decide +kernel, by decide +kernel⟩
theorem scLawCell : FnScope ["script", "k"] ["script", "k"] (defScope sLawCell) := ⟨rfl, rfl, rfl, by decide +kernel, rfl, by decide +kernel, by decide +kernel⟩
theorem scLaw : FnScope ["script", "k", "version", "other", "person", "number", "least", "most"] ["script"] (defScope sLaw) := ⟨rfl, rfl, rfl, by decide +kernel, rfl, by decide +kernel, by decide +kernel⟩
set_option maxHeartbeats 0 in
structure Txt (K : PySem.W.Frag) (mg : Str → Option Value) where
  fNothing : Addr
  fdNothing : FuncData
  FNothing : Fun K "nothing" "nothing" sNothing fNothing fdNothing
  bNothing : Binds K fdNothing [] []
  gNothing : mg "nothing" = some (.ref fNothing)
  fCounts : Addr
  fdCounts : FuncData
  FCounts : Fun K "counts" "counts" sCounts fCounts fdCounts
  bCounts : Binds K fdCounts ["version", "edit_id"] []
  gCounts : mg "counts" = some (.ref fCounts)
  fIncludes : Addr
  fdIncludes : FuncData
  FIncludes : Fun K "includes" "includes" sIncludes fIncludes fdIncludes
  bIncludes : Binds K fdIncludes ["version", "other"] []
  gIncludes : mg "includes" = some (.ref fIncludes)
  fJoined : Addr
  fdJoined : FuncData
  FJoined : Fun K "joined" "joined" sJoined fJoined fdJoined
  bJoined : Binds K fdJoined ["version", "other"] []
  gJoined : mg "joined" = some (.ref fJoined)
  fLawCell : Addr
  fdLawCell : FuncData
  FLawCell : Fun K "_law_cell" "_law_cell" sLawCell fLawCell fdLawCell
  bLawCell : Binds K fdLawCell ["script", "k"] []
  gLawCell : mg "_law_cell" = some (.ref fLawCell)
  fLaw : Addr
  fdLaw : FuncData
  FLaw : Fun K "law" "law" sLaw fLaw fdLaw
  bLaw : Binds K fdLaw ["script"] []
  gLaw : mg "law" = some (.ref fLaw)
  z_all : mg "all" = none
  z_tuple : mg "tuple" = none
  z_range : mg "range" = none
  z_len : mg "len" = none
  z_max : mg "max" = none
  z_int : mg "int" = none
  z_zip : mg "zip" = none
section
variable {P : Program} {w : World} {K : PySem.W.Frag} {mg : Str → Option Value} {base : Heap}
-- levels nothing=1 counts=1 includes=1 joined=1 _law_cell=1 law=2
/-! ### heaps -/
theorem _root_.L2.Same.tup {K : PySem.W.Frag} {H H' : Hp} {a : Addr} {xs : List V} (e : Same H H') (h : SqT K H a xs) : SqT K H' a xs := by
  rcases h with (h | ⟨o, h⟩) | h
  · exact .inl (.inl (e _ _ h))
  · exact .inl (.inr ⟨o, e _ _ h⟩)
  · exact .inr h
theorem same_new {H : Hp} {p : Addr} {o : HO} (h : H p = none) : Same H (upd H p o) := fun b x e => by
  rw [upd_ne (ne_of_none e h)]
  exact e
theorem same_mut {H H' : Hp} {p : Addr} {o : HO} (e : Same H H') (h : H p = none) : Same H (upd H' p o) := fun b x ha => by
  rw [upd_ne (ne_of_none ha h)]
  exact e b x ha
theorem walk_zipT {K : PySem.W.Frag} {a b : Addr} {xs ys : List V} {n : Nat} (hn : n = min xs.length ys.length) : Walk (ItzT K a b) n (fun H => SqT K H a xs ∧ SqT K H b ys) (YPair (fun i => xs[i]?) (fun i => ys[i]?)) := by
  subst hn
  refine ⟨fun i _ hi q => ?_, fun _ q => ⟨xs, ys, q.1, q.2, by omega⟩, fun i H v H' _ q y => ?_⟩
  · have h1 : i < xs.length := by omega
    have h2 : i < ys.length := by omega
    exact ⟨xs, ys, xs[i], ys[i], q.1, q.2, by simp [h1], by simp [h2]⟩
  · obtain ⟨T, x, z, h1, h2, h3, h4, h5⟩ := y
    exact ⟨T, x, z, h1, h2, h3, h4 xs q.1, h5 ys q.2⟩
/-- a function that hands back a bool or an int and changes nothing -/
theorem getD_at {ns : List Int} {i : Nat} (h : i < ns.length) : (ns.map V.int)[i]? = some (.int (ns.getD i 0)) := by
  rw [List.getElem?_map, List.getElem?_eq_getElem h, List.getD_eq_getElem?_getD, List.getElem?_eq_getElem h]
  rfl
theorem dp_ints {K : PySem.W.Frag} {H : Hp} : ∀ ns : List Int, DpAll K H (ns.map V.int) (ns.map PyData.int)
  | [] => .nil
  | n :: r => .cons (.int n) (dp_ints r)
theorem shaped_tup (ns : List Int) : SeqAt.shaped (.tuple (ns.map PyData.int)) = true := by
  simp [SeqAt.shaped, PyData.canLay0, PyData.depth, PySem.W.ke_canLayAll0, PySem.W.ke_depthAll]
theorem shaped_lst (ns : List Int) : SeqAt.shaped (.list (ns.map PyData.int)) = true := PySem.W.ke_shaped_ints ns
theorem eqv_same {d : PyData} (h : SeqAt.shaped d = true) : PyData.eqv d d = true := by
  refine SeqAt.eqv_refl d ?_
  unfold SeqAt.shaped at h
  exact (Bool.and_eq_true _ _ ▸ h).1
theorem yesT {σ : L2.St} {H : Hp} {A B : Hp → Prop} (h : A H) : tYes σ H (fun b H3 => if b = true then A H3 else B H3) := iteT (A := A H) (B := B H) h
def four : List V := [.int 0, .int 0, .int 0, .int 0]
def spNothing (K : PySem.W.Frag) : Sp := fun vs H Q _ => vs = [] ∧ ∀ p, H p = none → Q (.ref p) (upd H p (.tup four))
theorem okNothing (T : Txt K mg) : FnOk P w K mg base CX0 1 T.fNothing T.fdNothing [] (spNothing K) := by
  refine T.FNothing.ok scNothing (fun vs H Q E h => ?_) (fun cdv A outer s H vs Q E hr h => ?_)
  · obtain ⟨rfl, _⟩ := h
    rfl
  · obtain ⟨rfl, q⟩ := h
    -- slots 
    refine ⟨_, (pss_one (ps_ret (pe_tup (pa_cons pe_int (pa_cons pe_int (pa_cons pe_int (pa_cons pe_int pa_nil))))))), ?_⟩
    exact ⟨by show 4 ≤ sizeLine; decide, q⟩
def spCounts (K : PySem.W.Frag) : Sp := fun vs H Q _ => ∃ (a b : Addr) (ns : List Int) (i : Nat) (n : Int), vs = [.ref a, .ref b] ∧ SqT K H a (ns.map V.int) ∧ SqT K H b [.int (1 + (i : Int)), .int n] ∧ i < ns.length ∧ Q (.bl (decide (n ≤ ns.getD i 0))) H
theorem okCounts (T : Txt K mg) : FnOk P w K mg base CX0 1 T.fCounts T.fdCounts ["version", "edit_id"] (spCounts K) := by
  refine T.FCounts.ok scCounts (fun vs H Q E h => ?_) (fun cdv A outer s H vs Q E hr h => ?_)
  · obtain ⟨a, b, ns, i, n, rfl, _⟩ := h
    rfl
  · obtain ⟨a, b, ns, i, n, rfl, ha, hb, hi, q⟩ := h
    -- slots version=0 edit_id=1 person=2 number=3
    refine ⟨_, (pss_cons (ps_asg (pv 1) (pg_tup rfl (pgs_cons (pg_name (i := 2) scCounts.nd rfl (Or.inl rfl)) (pgs_cons (pg_name (i := 3) scCounts.nd rfl (Or.inl rfl)) pgs_nil))))
        (pss_one (ps_ret (pe_and (pe_chain op_le op_le pe_int (pv 2) (pe_callB call_len_seq (by rfl) T.z_len PySem.boot_len (pa_cons (pv 0) pa_nil))) (pe_one (pe_cmpR op_ge (pe_ix ix_tup (pv 0) (pe_op op_sub (pv 2) pe_int) (fun _ _ => rfl)) (pv 3) (nomark _))))))), ?_⟩
    refine ⟨_, rfl, b, _, rfl, hb, rfl, _, _, rfl, _, _, rfl, rfl, ?_⟩
    refine ⟨_, rfl, _, _, rfl, rfl, _, rfl, ?_⟩
    rw [if_pos (decide_eq_true (by omega))]
    refine ⟨_, rfl, a, _, rfl, .inr ha, _, _, rfl, rfl, _, rfl, ?_⟩
    rw [if_pos (decide_eq_true (by rw [List.length_map]; omega))]
    refine ⟨_, rfl, _, rfl, _, _, rfl, rfl, a, _, _, _, rfl, rfl, ha, ?_, _, rfl, _, _, rfl, rfl, q⟩
    rw [show (1 + (i : Int)) - 1 = ((i : Nat) : Int) by omega]
    exact atI_nat (getD_at hi)
/-- what includes says of two rows -/
def incl (ns ms : List Int) : List Bool := (List.range ns.length).map fun i => decide (ms.getD i 0 ≤ ns.getD i 0)
def most (ns ms : List Int) : List Int := (List.range ns.length).map fun i => if ms.getD i 0 > ns.getD i 0 then ms.getD i 0 else ns.getD i 0
def spIncludes (K : PySem.W.Frag) : Sp := fun vs H Q _ => ∃ (a b : Addr) (ns ms : List Int), vs = [.ref a, .ref b] ∧ SqT K H a (ns.map V.int) ∧ SqT K H b (ms.map V.int) ∧ ns.length = ms.length ∧ ns.length ≤ 1000 ∧ ∀ H', Same H H' → Q (.bl ((incl ns ms).all id)) H'
theorem okIncludes (T : Txt K mg) : FnOk P w K mg base CX0 1 T.fIncludes T.fdIncludes ["version", "other"] (spIncludes K) := by
  refine T.FIncludes.ok scIncludes (fun vs H Q E h => ?_) (fun cdv A outer s H vs Q E hr h => ?_)
  · obtain ⟨a, b, ns, ms, rfl, _⟩ := h
    rfl
  · obtain ⟨a, b, ns, ms, rfl, ha, hb, hl, hz, q⟩ := h
    -- slots version=0 other=1 mine=2 theirs=3
    refine ⟨_, (pss_one (ps_ret (pe_callB (cr_all rfl) (by rfl) T.z_all (by decide +kernel) (pa_cons (pe_lc (own := [("mine", 2), ("theirs", 3)]) (g := gTup K 2 (gCons (gName 2) (gCons (gName 3) gNil))) (tt := tYes) rfl scIncludes.nd (pi_zipA (by rfl) T.z_zip (pa_cons (pv 0) (pa_cons (pv 1) pa_nil))) (blkOk_by (own := [("mine", 2), ("theirs", 3)]) (N := ["version", "other", "mine", "theirs"]) (sc := defScope sIncludes) (by decide +kernel)) (fun _ _ _ _ _ => (pg_tup rfl (pgs_cons (pg_name (i := 2) scIncludes.nd rfl (Or.inl rfl)) (pgs_cons (pg_name (i := 3) scIncludes.nd rfl (Or.inl rfl)) pgs_nil)))) (fun _ _ _ _ _ => pts_nil) (fun _ _ _ _ _ => (pe_cmpR op_ge (pv 2) (pv 3) (nomark _)))) pa_nil)))), ?_⟩
    refine ⟨_, rfl, _, rfl, a, b, _, _, rfl, .inr ⟨ha, hb, fun D hD => ?_⟩⟩
    refine lc_it (walk_zipT (n := ns.length) (by rw [List.length_map, List.length_map]; omega)) (fun i H' => Same H H' ∧ H' D = some (.lst (((incl ns ms).take i).map V.bl))) ⟨same_new hD, upd_same⟩ (fun i H' _ h => ⟨h.1.tup ha, h.1.tup hb⟩) ?_ ?_
    · rintro i x H1 H2 hi ⟨s1, hD1⟩ ⟨T, y, z, rfl, nT, rfl, e1, e2⟩
      have f1 := Option.some.inj ((getD_at hi).symm.trans e1)
      have f2 := Option.some.inj ((getD_at (ns := ms) (by omega)).symm.trans e2)
      subst f1 f2
      refine ⟨T, _, rfl, .inl (.inl upd_same), rfl, _, _, rfl, _, _, rfl, rfl, rfl, ?_⟩
      refine yesT ⟨_, rfl, _, rfl, _, _, rfl, rfl, ((incl ns ms).take i).map V.bl, ?_, ?_, ?_, ?_⟩
      · rw [upd_ne (ne_of_none hD1 nT)]
        exact hD1
      · rw [List.length_map, List.length_take]
        exact small1000 (by omega)
      · exact same_mut (s1.trans (same_new nT)) hD
      · rw [upd_same, List.take_add_one]
        have e : (incl ns ms)[i]? = some (decide (ms.getD i 0 ≤ ns.getD i 0)) := by
          unfold incl
          rw [List.getElem?_map, List.getElem?_range hi]
          rfl
        rw [e, List.map_append]
        rfl
    · rintro H1 ⟨s1, hD1⟩
      have e : (incl ns ms).take ns.length = incl ns ms := List.take_of_length_le (by unfold incl; rw [List.length_map, List.length_range]; exact Nat.le_refl _)
      rw [e] at hD1
      exact ⟨D, _, rfl, .inl (.inl hD1), q _ s1⟩
def spJoined (K : PySem.W.Frag) : Sp := fun vs H Q _ => ∃ (a b : Addr) (ns ms : List Int), vs = [.ref a, .ref b] ∧ SqT K H a (ns.map V.int) ∧ SqT K H b (ms.map V.int) ∧ ns.length = ms.length ∧ ns.length ≤ 1000 ∧ ∀ H' p, Same H H' → H' p = some (.tup ((most ns ms).map V.int)) → Q (.ref p) H'
theorem okJoined (T : Txt K mg) : FnOk P w K mg base CX0 1 T.fJoined T.fdJoined ["version", "other"] (spJoined K) := by
  refine T.FJoined.ok scJoined (fun vs H Q E h => ?_) (fun cdv A outer s H vs Q E hr h => ?_)
  · obtain ⟨a, b, ns, ms, rfl, _⟩ := h
    rfl
  · obtain ⟨a, b, ns, ms, rfl, ha, hb, hl, hz, q⟩ := h
    -- slots version=0 other=1 mine=2 theirs=3
    refine ⟨_, (pss_one (ps_ret (pe_callTy call_tuple_of (by rfl) T.z_tuple (by decide +kernel) (pa_cons (pe_lc (own := [("mine", 2), ("theirs", 3)]) (g := gTup K 2 (gCons (gName 2) (gCons (gName 3) gNil))) (tt := tYes) rfl scJoined.nd (pi_zipA (by rfl) T.z_zip (pa_cons (pv 0) (pa_cons (pv 1) pa_nil))) (blkOk_by (own := [("mine", 2), ("theirs", 3)]) (N := ["version", "other", "mine", "theirs"]) (sc := defScope sJoined) (by decide +kernel)) (fun _ _ _ _ _ => (pg_tup rfl (pgs_cons (pg_name (i := 2) scJoined.nd rfl (Or.inl rfl)) (pgs_cons (pg_name (i := 3) scJoined.nd rfl (Or.inl rfl)) pgs_nil)))) (fun _ _ _ _ _ => pts_nil) (fun _ _ _ _ _ => (pe_callB (call_max2 rfl) (by rfl) T.z_max (by decide +kernel) (pa_cons (pv 2) (pa_cons (pv 3) pa_nil))))) pa_nil)))), ?_⟩
    refine ⟨_, rfl, _, rfl, a, b, _, _, rfl, .inr ⟨ha, hb, fun D hD => ?_⟩⟩
    refine lc_it (walk_zipT (n := ns.length) (by rw [List.length_map, List.length_map]; omega)) (fun i H' => Same H H' ∧ H' D = some (.lst (((most ns ms).take i).map V.int))) ⟨same_new hD, upd_same⟩ (fun i H' _ h => ⟨h.1.tup ha, h.1.tup hb⟩) ?_ ?_
    · rintro i x H1 H2 hi ⟨s1, hD1⟩ ⟨T, y, z, rfl, nT, rfl, e1, e2⟩
      have f1 := Option.some.inj ((getD_at hi).symm.trans e1)
      have f2 := Option.some.inj ((getD_at (ns := ms) (by omega)).symm.trans e2)
      subst f1 f2
      refine ⟨T, _, rfl, .inl (.inl upd_same), rfl, _, _, rfl, _, _, rfl, rfl, rfl, ?_⟩
      refine yesT ⟨_, rfl, _, rfl, _, _, rfl, ((most ns ms).take i).map V.int, ?_, ?_, ?_, ?_⟩
      · rw [upd_ne (ne_of_none hD1 nT)]
        exact hD1
      · rw [List.length_map, List.length_take]
        exact small1000 (by omega)
      · exact same_mut (s1.trans (same_new nT)) hD
      · rw [upd_same, List.take_add_one]
        have e : (most ns ms)[i]? = some (if ms.getD i 0 > ns.getD i 0 then ms.getD i 0 else ns.getD i 0) := by
          unfold most
          rw [List.getElem?_map, List.getElem?_range hi]
          rfl
        rw [e, List.map_append]
        rfl
    · rintro H1 ⟨s1, hD1⟩
      have e : (most ns ms).take ns.length = most ns ms := List.take_of_length_le (by unfold most; rw [List.length_map, List.length_range]; exact Nat.le_refl _)
      rw [e] at hD1
      refine ⟨D, _, rfl, .inl ⟨.inl (.inl hD1), fun l hl => ?_⟩⟩
      exact q _ l (s1.trans (same_new hl)) upd_same
def spCell (K : PySem.W.Frag) : Sp := fun vs H Q _ => ∃ (a : Addr) (ns : List Int) (k : Int), vs = [.ref a, .int k] ∧ 0 ≤ k ∧ SqL K H a (ns.map V.int) ∧ ∀ v : Int, Q (.int v) H
theorem okLawCell (T : Txt K mg) : FnOk P w K mg base CX0 1 T.fLawCell T.fdLawCell ["script", "k"] (spCell K) := by
  refine T.FLawCell.ok scLawCell (fun vs H Q E h => ?_) (fun cdv A outer s H vs Q E hr h => ?_)
  · obtain ⟨a, ns, k, rfl, _⟩ := h
    rfl
  · obtain ⟨a, ns, k, rfl, h0, hS, q⟩ := h
    obtain ⟨k, rfl⟩ := Int.eq_ofNat_of_zero_le h0
    -- slots script=0 k=1
    refine ⟨_, (pss_cons (ps_if (pt_cmpR op_lt (pv 1) (pe_callB call_len_seq (by rfl) T.z_len PySem.boot_len (pa_cons (pv 0) pa_nil)) (nomark _))
          (pss_one (ps_ret (pe_ix ix_list (pv 0) (pv 1) (fun _ _ => rfl))))
          pss_nil)
        (pss_one (ps_ret pe_int))), ?_⟩
    refine ⟨_, rfl, _, rfl, a, _, rfl, .inl hS, _, _, rfl, rfl, _, rfl, ite2 (fun c => ?_) (fun c => ?_)⟩
    · have hk : k < ns.length := by
        have c2 := of_decide_eq_true c
        rw [List.length_map] at c2
        omega
      exact ⟨_, rfl, _, rfl, a, _, _, _, rfl, rfl, hS, atI_nat (getD_at hk), q _⟩
    · exact q 0
def spLaw (K : PySem.W.Frag) : Sp := fun vs H Q _ => ∃ (a : Addr) (ns : List Int), vs = [.ref a] ∧ SqL K H a (ns.map V.int) ∧ ns.length ≤ 63 ∧ ∀ H', Q (.bl true) H'
theorem okLaw (T : Txt K mg) : FnOk P w K mg base CX0 2 T.fLaw T.fdLaw ["script"] (spLaw K) := by
  refine T.FLaw.ok scLaw (fun vs H Q E h => ?_) (fun cdv A outer s H vs Q E hr h => ?_)
  · obtain ⟨a, ns, rfl, _⟩ := h
    rfl
  · obtain ⟨a, ns, rfl, hS, hlen, q⟩ := h
    -- slots script=0 k=1 version=2 other=3 person=4 number=5 least=6 most=7
    refine ⟨_, (pss_cons (ps_set (i := 2) scLaw.nd rfl (Or.inl rfl) (pe_callTy call_tuple_of (by rfl) T.z_tuple (by decide +kernel) (pa_cons (pe_lc (own := [("k", 1)]) (g := gName 1) (tt := tYes) rfl scLaw.nd (pi_range1 rfl T.z_range (pa_cons pe_int pa_nil)) (blkOk_by (own := [("k", 1)]) (N := ["script", "k", "version", "other", "person", "number", "least", "most"]) (sc := defScope sLaw) (by decide +kernel)) (fun _ _ _ _ _ => (pg_name (i := 1) scLaw.nd rfl (Or.inl rfl))) (fun _ _ _ _ _ => pts_nil) (fun _ _ _ _ _ => (pe_op op_mod (pe_callTy call_int1 (by rfl) T.z_int (by decide +kernel) (pa_cons (pe_call (okLawCell T) (hr.mono (by decide)) (by rfl) T.gLawCell T.FLawCell.kp T.bLawCell .nil pass0 (pa_cons (pv 0) (pa_cons (pv 1) pa_nil))) pa_nil)) pe_int))) pa_nil)))
        (pss_cons (ps_set (i := 3) scLaw.nd rfl (Or.inl rfl) (pe_callTy call_tuple_of (by rfl) T.z_tuple (by decide +kernel) (pa_cons (pe_lc (own := [("k", 1)]) (g := gName 1) (tt := tYes) rfl scLaw.nd (pi_range1 rfl T.z_range (pa_cons pe_int pa_nil)) (blkOk_by (own := [("k", 1)]) (N := ["script", "k", "version", "other", "person", "number", "least", "most"]) (sc := defScope sLaw) (by decide +kernel)) (fun _ _ _ _ _ => (pg_name (i := 1) scLaw.nd rfl (Or.inl rfl))) (fun _ _ _ _ _ => pts_nil) (fun _ _ _ _ _ => (pe_op op_mod (pe_callTy call_int1 (by rfl) T.z_int (by decide +kernel) (pa_cons (pe_call (okLawCell T) (hr.mono (by decide)) (by rfl) T.gLawCell T.FLawCell.kp T.bLawCell .nil pass0 (pa_cons (pv 0) (pa_cons (pe_op op_add pe_int (pv 1)) pa_nil))) pa_nil)) pe_int))) pa_nil)))
        (pss_cons (ps_set (i := 4) scLaw.nd rfl (Or.inl rfl) (pe_op op_add pe_int (pe_op op_mod (pe_callTy call_int1 (by rfl) T.z_int (by decide +kernel) (pa_cons (pe_call (okLawCell T) (hr.mono (by decide)) (by rfl) T.gLawCell T.FLawCell.kp T.bLawCell .nil pass0 (pa_cons (pv 0) (pa_cons pe_int pa_nil))) pa_nil)) pe_int)))
        (pss_cons (ps_set (i := 5) scLaw.nd rfl (Or.inl rfl) (pe_op op_add pe_int (pe_op op_mod (pe_callTy call_int1 (by rfl) T.z_int (by decide +kernel) (pa_cons (pe_call (okLawCell T) (hr.mono (by decide)) (by rfl) T.gLawCell T.FLawCell.kp T.bLawCell .nil pass0 (pa_cons (pv 0) (pa_cons pe_int pa_nil))) pa_nil)) pe_int)))
        (pss_cons (ps_if (pt_cmpR op_ne (pe_call (okCounts T) (hr.mono (by decide)) (by rfl) T.gCounts T.FCounts.kp T.bCounts .nil pass0 (pa_cons (pv 2) (pa_cons (pe_tup (pa_cons (pv 4) (pa_cons (pv 5) pa_nil))) pa_nil))) (pe_cmpR op_ge (pe_ix ix_tup (pv 2) (pe_op op_sub (pv 4) pe_int) (fun _ _ => rfl)) (pv 5) (nomark _)) (nomark _))
          (pss_one (ps_ret pe_bl))
          pss_nil)
        (pss_cons (ps_set (i := 6) scLaw.nd rfl (Or.inl rfl) pe_bl)
        (pss_cons (ps_set (i := 7) scLaw.nd rfl (Or.inl rfl) (pe_lst pa_nil))
        (pss_cons (ps_for PassesOwn.never rfl (pi_range1 rfl T.z_range (pa_cons pe_int pa_nil)) (pg_name (i := 1) scLaw.nd rfl (Or.inl rfl))
          (pss_cons (ps_if (pt_cmpR op_gt (pe_ix ix_tup (pv 3) (pv 1) (fun _ _ => rfl)) (pe_ix ix_tup (pv 2) (pv 1) (fun _ _ => rfl)) (nomark _))
            (pss_one (ps_set (i := 6) scLaw.nd rfl (Or.inl rfl) pe_bl))
            pss_nil)
          (pss_one (ps_expr (pe_bm PySem.F.plainAttrs_list PySem.F.slot_list_append PySem.F.type_list_append mt_append (pv 7) (pa_cons (pe_callB (call_max2 rfl) (by rfl) T.z_max (by decide +kernel) (pa_cons (pe_ix ix_tup (pv 2) (pv 1) (fun _ _ => rfl)) (pa_cons (pe_ix ix_tup (pv 3) (pv 1) (fun _ _ => rfl)) pa_nil))) pa_nil))))))
        (pss_cons (ps_if (PW.pt (pw_or (pt_cmpR op_ne (pe_call (okIncludes T) (hr.mono (by decide)) (by rfl) T.gIncludes T.FIncludes.kp T.bIncludes .nil pass0 (pa_cons (pv 2) (pa_cons (pv 3) pa_nil))) (pv 6) (nomark _)) (pw_or1 (pt_not (pt_val (pe_call (okIncludes T) (hr.mono (by decide)) (by rfl) T.gIncludes T.FIncludes.kp T.bIncludes .nil pass0 (pa_cons (pv 2) (pa_cons (pe_call0 (okNothing T) (hr.mono (by decide)) (by rfl) T.gNothing T.FNothing.kp T.bNothing .nil pass0) pa_nil))))))))
          (pss_one (ps_ret pe_bl))
          pss_nil)
        (pss_one (ps_ret (pe_and (pe_cmpR (op_eqD hr.units) (pe_call (okJoined T) (hr.mono (by decide)) (by rfl) T.gJoined T.FJoined.kp T.bJoined .nil pass0 (pa_cons (pv 2) (pa_cons (pv 3) pa_nil))) (pe_callTy call_tuple_of (by rfl) T.z_tuple (by decide +kernel) (pa_cons (pv 7) pa_nil)) (nomark _)) (pe_one (pe_cmpR (op_eqD hr.units) (pe_call0 (okNothing T) (hr.mono (by decide)) (by rfl) T.gNothing T.FNothing.kp T.bNothing .nil pass0) (pe_tup (pa_cons pe_int (pa_cons pe_int (pa_cons pe_int (pa_cons pe_int pa_nil))))) (nomark _))))))))))))))), ?_⟩
    -- version = tuple([..])
    refine ⟨4, rfl, by decide, by decide, fun D hD => ?_⟩
    refine lc_range (lo := 0) (n := 4) (fun i H' => ∃ ms : List Int, ms.length = i ∧ (∀ x ∈ ms, 0 ≤ x) ∧ Same H H' ∧ H' D = some (.lst (ms.map V.int))) ⟨[], rfl, (fun _ h => nomatch h), same_new hD, upd_same⟩ ?_ ?_
    · rintro i H1 hi ⟨ms, hl, h0, s1, hD1⟩
      refine ⟨rfl, yesT ⟨_, rfl, _, rfl, a, ns, _, rfl, by omega, s1.seq hS, fun v => .inl ⟨_, rfl, _, _, rfl, rfl, (by show (0 : Int) < _; decide), _, hD1, ?_, ms ++ [v % 7], ?_, ?_, ?_, ?_⟩⟩⟩
      · rw [List.length_map]
        exact small1000 (by omega)
      · rw [List.length_append, hl]
        rfl
      · intro x hx
        rcases List.mem_append.mp hx with h | h
        · exact h0 x h
        · obtain rfl : x = v % 7 := by simpa using h
          exact Int.emod_nonneg _ (by decide)
      · exact same_mut s1 hD
      · rw [upd_same, List.map_append]
        rfl
    rintro H1 ⟨vs, hvl, hv0, s1, hD1⟩
    refine ⟨D, _, rfl, .inl ⟨.inl (.inl hD1), fun p1 hp1 => ?_⟩⟩
    have s1' : Same H (upd H1 p1 (.tup (vs.map V.int))) := s1.trans (same_new hp1)
    have t1 : (upd H1 p1 (.tup (vs.map V.int))) p1 = some (.tup (vs.map V.int)) := upd_same
    generalize upd H1 p1 (.tup (vs.map V.int)) = H2 at s1' t1
    -- other = tuple([..])
    refine ⟨4, rfl, by decide, by decide, fun D2 hD2 => ?_⟩
    refine lc_range (lo := 0) (n := 4) (fun i H' => ∃ ms : List Int, ms.length = i ∧ Same H2 H' ∧ H' D2 = some (.lst (ms.map V.int))) ⟨[], rfl, same_new hD2, upd_same⟩ ?_ ?_
    · rintro i H1 hi ⟨ms, hl, s1, hD1⟩
      refine ⟨rfl, yesT ⟨_, rfl, _, rfl, _, _, rfl, rfl, a, ns, _, rfl, by omega, s1.seq (s1'.seq hS), fun v => .inl ⟨_, rfl, _, _, rfl, rfl, (by show (0 : Int) < _; decide), _, hD1, ?_, ms ++ [v % 7], ?_, ?_, ?_⟩⟩⟩
      · rw [List.length_map]
        exact small1000 (by omega)
      · rw [List.length_append, hl]
        rfl
      · exact same_mut s1 hD2
      · rw [upd_same, List.map_append]
        rfl
    rintro H3 ⟨os, hol, s3, hD3⟩
    refine ⟨D2, _, rfl, .inl ⟨.inl (.inl hD3), fun p2 hp2 => ?_⟩⟩
    have s4 : Same H2 (upd H3 p2 (.tup (os.map V.int))) := s3.trans (same_new hp2)
    have t2 : (upd H3 p2 (.tup (os.map V.int))) p2 = some (.tup (os.map V.int)) := upd_same
    generalize upd H3 p2 (.tup (os.map V.int)) = H4 at s4 t2
    have t1' := s4 _ _ t1
    -- person, number
    refine ⟨_, rfl, a, ns, _, rfl, by decide, s4.seq (s1'.seq hS), fun v => .inl ⟨_, rfl, _, _, rfl, rfl, (by show (0 : Int) < _; decide), _, _, rfl, rfl, ?_⟩⟩
    obtain ⟨i, ei, hi⟩ : ∃ i : Nat, v % 4 = (i : Int) ∧ i < 4 := ⟨(v % 4).toNat, by omega, by omega⟩
    rw [ei]
    refine ⟨_, rfl, a, ns, _, rfl, by decide, s4.seq (s1'.seq hS), fun v2 => .inl ⟨_, rfl, _, _, rfl, rfl, (by show (0 : Int) < _; decide), _, _, rfl, rfl, ?_⟩⟩
    -- if counts(..) != ..
    refine ⟨_, rfl, _, rfl, _, rfl, by show 2 ≤ sizeLine; decide, fun t ht => ?_⟩
    have n1 := ne_of_none t1' ht
    refine ⟨p1, t, vs, i, 1 + v2 % 8, rfl, (same_new ht).tup (SqT.of t1'), SqT.of upd_same, by omega, ?_⟩
    refine ⟨_, rfl, _, rfl, _, _, rfl, rfl, p1, _, _, _, rfl, rfl, (same_new ht).tup (SqT.of t1'), ?_, _, rfl, _, _, rfl, rfl, rfl, _, rfl, iteNS rfl ?_⟩
    · rw [show (1 + (i : Int)) - 1 = ((i : Nat) : Int) by omega]
      exact atI_nat (getD_at (by omega))
    have s5 : Same H4 (upd H4 t (.tup [.int (1 + (i : Int)), .int (1 + v2 % 8)])) := same_new ht
    have t15 := s5 _ _ t1'
    have t25 := s5 _ _ t2
    generalize upd H4 t (.tup [.int (1 + (i : Int)), .int (1 + v2 % 8)]) = H5 at s5 t15 t25
    -- least = True; most = []
    refine ⟨Nat.zero_le _, fun m hm => ?_⟩
    have h6 : (upd H5 m (.lst [])) m = some (.lst []) := upd_same
    -- the loop
    refine ⟨4, rfl, by decide, by decide, for_range (lo := 0) (n := 4) (fun j σ H' => ∃ k0, σ = [some (.ref a), k0, some (.ref p1), some (.ref p2), some (.int (1 + (i : Int))), some (.int (1 + v2 % 8)), some (.bl (((incl vs os).take j).all id)), some (.ref m)] ∧ Same H5 H' ∧ H' m = some (.lst (((most vs os).take j).map V.int)))
      ⟨_, rfl, same_new hm, h6⟩ ?_ ?_⟩
    · rintro j σ H6 hj ⟨k0, rfl, s6, hm6⟩
      have a1 := s6 _ _ t15
      have a2 := s6 _ _ t25
      have e1 : (incl vs os)[j]? = some (decide (os.getD j 0 ≤ vs.getD j 0)) := by
        unfold incl
        rw [List.getElem?_map, List.getElem?_range (by omega)]
        rfl
      have e2 : (most vs os)[j]? = some (if os.getD j 0 > vs.getD j 0 then os.getD j 0 else vs.getD j 0) := by
        unfold most
        rw [List.getElem?_map, List.getElem?_range (by omega)]
        rfl
      have z1 : atI (vs.map V.int) (0 + (j : Int)) = some (.int (vs.getD j 0)) := by
        rw [Int.zero_add]
        exact atI_nat (getD_at (by omega))
      have z2 : atI (os.map V.int) (0 + (j : Int)) = some (.int (os.getD j 0)) := by
        rw [Int.zero_add]
        exact atI_nat (getD_at (by omega))
      have nm : ∀ b o, H5 b = some o → b ≠ m := fun b o e => ne_of_none e hm
      have el : ((incl vs os).take (j + 1)).all id = (((incl vs os).take j).all id && decide (os.getD j 0 ≤ vs.getD j 0)) := by
        rw [List.take_add_one, e1, List.all_append]
        simp
      refine ⟨_, rfl, _, rfl, p2, _, _, _, rfl, rfl, SqT.of a2, z2, _, rfl, _, rfl, p1, _, _, _, rfl, rfl, SqT.of a1, z1, _, _, rfl, rfl, _, rfl, ?_⟩
      refine ite2 (fun c => ?_) (fun c => ?_)
      all_goals
        refine ⟨_, rfl, .inl ⟨rfl, _, SqL.of hm6⟩, _, rfl, _, rfl, p1, _, _, _, rfl, rfl, SqT.of a1, z1, _, rfl, _, rfl, p2, _, _, _, rfl, rfl, SqT.of a2, z2, _, _, rfl, m, _, _, rfl, rfl, hm6, ?_, ?_⟩
        · rw [List.length_map, List.length_take]
          exact small1000 (by omega)
        · refine ⟨some (.int (0 + (j : Int))), ?_, fun b o e => ?_, ?_⟩
          rotate_left
          · rw [upd_ne (nm b o e)]
            exact s6 b o e
          · rw [upd_same, List.take_add_one, e2, List.map_append]
            rfl
          · rw [el]
            first
            | (have c2 := of_decide_eq_true c
               rw [decide_eq_false (by omega), Bool.and_false]
               rfl)
            | (rw [decide_eq_true (by
                 have c2 : ¬ (vs.getD j 0 < os.getD j 0) := fun z => c (decide_eq_true z)
                 omega), Bool.and_true]
               rfl)
    rintro σ H6 ⟨k0, rfl, s6, hm6⟩
    have a1 := s6 _ _ t15
    have a2 := s6 _ _ t25
    have ea : (incl vs os).take 4 = incl vs os := List.take_of_length_le (by unfold incl; rw [List.length_map, List.length_range]; omega)
    have eb : (most vs os).take 4 = most vs os := List.take_of_length_le (by unfold most; rw [List.length_map, List.length_range]; omega)
    rw [ea]
    rw [eb] at hm6
    -- if includes(..) != least or not includes(version, nothing())
    refine ⟨_, rfl, _, rfl, p1, p2, vs, os, rfl, SqT.of a1, SqT.of a2, by omega, by omega, fun H7 s7 => ?_⟩
    refine ⟨_, rfl, rfl, _, rfl, iteNS rfl ?_⟩
    refine ⟨_, rfl, rfl, fun p3 hp3 => ?_⟩
    have s8 : Same H6 (upd H7 p3 (.tup four)) := s7.trans (same_new hp3)
    have t3 : (upd H7 p3 (.tup four)) p3 = some (.tup four) := upd_same
    generalize upd H7 p3 (.tup four) = H8 at s8 t3
    refine ⟨p1, p3, vs, [0, 0, 0, 0], rfl, SqT.of (s8 _ _ a1), SqT.of t3, by rw [hvl]; rfl, by omega, fun H9 s9 => ?_⟩
    have all0 : (incl vs [0, 0, 0, 0]).all id = true := by
      rw [List.all_eq_true]
      intro x hx
      obtain ⟨j, hj, rfl⟩ := List.mem_map.mp hx
      have hj4 := List.mem_range.mp hj
      have e0 : ([0, 0, 0, 0] : List Int).getD j 0 = 0 := by
        rcases j with _ | _ | _ | _ | j <;> rfl
      rw [e0]
      have hx0 : 0 ≤ vs.getD j 0 := by
        rw [List.getD_eq_getElem?_getD, List.getElem?_eq_getElem hj4]
        exact hv0 _ (List.getElem_mem hj4)
      exact decide_eq_true hx0
    rw [all0]
    refine ⟨_, rfl, iteF ?_⟩
    -- return joined(..) == tuple(most) and nothing() == (0, 0, 0, 0)
    have s10 := s8.trans s9
    refine ⟨_, rfl, _, rfl, p1, p2, vs, os, rfl, SqT.of (s10 _ _ a1), SqT.of (s10 _ _ a2), by omega, by omega, fun H10 p4 s11 t4 => ?_⟩
    have s12 := s10.trans s11
    refine ⟨_, rfl, m, _, rfl, .inl ⟨SqL.of (s12 _ _ hm6), fun l hl => ?_⟩⟩
    refine ⟨_, _, .tup (SqT.of ((same_new hl) _ _ t4)) (dp_ints _), .tup (SqT.of upd_same) (dp_ints _), shaped_tup _, shaped_tup _, _, rfl, ?_⟩
    rw [if_pos (eqv_same (shaped_tup _))]
    refine ⟨rfl, fun p5 hp5 => ⟨by show 4 ≤ sizeLine; decide, fun p6 hp6 => ?_⟩⟩
    refine ⟨_, _, .tup (SqT.of ((same_new hp6) _ _ upd_same)) (dp_ints [0, 0, 0, 0]), .tup (SqT.of upd_same) (dp_ints [0, 0, 0, 0]), shaped_tup _, shaped_tup _, ?_⟩
    rw [eqv_same (shaped_tup _)]
    exact q _
end
set_option maxHeartbeats 0 in
theorem all_mk {l : PySem.W.OpenLaw} {w : World} {K : PySem.W.Frag} {h : Heap} {mg : Str → Option Value} {fa f1 f2 f3 f4 f5 f6 : Addr} (X : K.In h) (G : h.Ns mainGlobals mg) (hfa : mg "law" = some (.ref fa))
    {od1 an1 od2 an2 od3 an3 od4 an4 od5 an5 od6 an6 : Option Addr} {sl1 sl2 sl3 sl4 sl5 sl6 : Array (Option Value)} {oc1 kV1 dc1 pm1 cd1 ct1 oc2 kV2 dc2 pm2 cd2 ct2 oc3 kV3 dc3 pm3 cd3 ct3 oc4 kV4 dc4 pm4 cd4 ct4 oc5 kV5 dc5 pm5 cd5 ct5 oc6 kV6 dc6 pm6 cd6 ct6 : Value}
    (a1 : PySem.W.nsIn K mainGlobals "nothing" = some (some (.ref f1))) (l1 : K.lookup f1 = some ⟨oc1, od1, .func (PySem.W.fnOf "nothing" "nothing" (defArgs sNothing) (defBody sNothing) (defScope sNothing) .none kV1 dc1 pm1 an1 cd1 ct1), sl1⟩) (c1 : PySem.W.codeIn K cd1 "nothing" = true) (k1 : PySem.W.keepIn K (.ref f1) = true)
    (a2 : PySem.W.nsIn K mainGlobals "counts" = some (some (.ref f2))) (l2 : K.lookup f2 = some ⟨oc2, od2, .func (PySem.W.fnOf "counts" "counts" (defArgs sCounts) (defBody sCounts) (defScope sCounts) .none kV2 dc2 pm2 an2 cd2 ct2), sl2⟩) (c2 : PySem.W.codeIn K cd2 "counts" = true) (k2 : PySem.W.keepIn K (.ref f2) = true)
    (a3 : PySem.W.nsIn K mainGlobals "includes" = some (some (.ref f3))) (l3 : K.lookup f3 = some ⟨oc3, od3, .func (PySem.W.fnOf "includes" "includes" (defArgs sIncludes) (defBody sIncludes) (defScope sIncludes) .none kV3 dc3 pm3 an3 cd3 ct3), sl3⟩) (c3 : PySem.W.codeIn K cd3 "includes" = true) (k3 : PySem.W.keepIn K (.ref f3) = true)
    (a4 : PySem.W.nsIn K mainGlobals "joined" = some (some (.ref f4))) (l4 : K.lookup f4 = some ⟨oc4, od4, .func (PySem.W.fnOf "joined" "joined" (defArgs sJoined) (defBody sJoined) (defScope sJoined) .none kV4 dc4 pm4 an4 cd4 ct4), sl4⟩) (c4 : PySem.W.codeIn K cd4 "joined" = true) (k4 : PySem.W.keepIn K (.ref f4) = true)
    (a5 : PySem.W.nsIn K mainGlobals "_law_cell" = some (some (.ref f5))) (l5 : K.lookup f5 = some ⟨oc5, od5, .func (PySem.W.fnOf "_law_cell" "_law_cell" (defArgs sLawCell) (defBody sLawCell) (defScope sLawCell) .none kV5 dc5 pm5 an5 cd5 ct5), sl5⟩) (c5 : PySem.W.codeIn K cd5 "_law_cell" = true) (k5 : PySem.W.keepIn K (.ref f5) = true)
    (a6 : PySem.W.nsIn K mainGlobals "law" = some (some (.ref f6))) (l6 : K.lookup f6 = some ⟨oc6, od6, .func (PySem.W.fnOf "law" "law" (defArgs sLaw) (defBody sLaw) (defScope sLaw) .none kV6 dc6 pm6 an6 cd6 ct6), sl6⟩) (c6 : PySem.W.codeIn K cd6 "law" = true) (k6 : PySem.W.keepIn K (.ref f6) = true)
    (z_all : PySem.W.nsIn K mainGlobals "all" = some none)
    (z_tuple : PySem.W.nsIn K mainGlobals "tuple" = some none)
    (z_range : PySem.W.nsIn K mainGlobals "range" = some none)
    (z_len : PySem.W.nsIn K mainGlobals "len" = some none)
    (z_max : PySem.W.nsIn K mainGlobals "max" = some none)
    (z_int : PySem.W.nsIn K mainGlobals "int" = some none)
    (z_zip : PySem.W.nsIn K mainGlobals "zip" = some none)
    : ∃ fd : FuncData, (∀ (s : Shared) (v : Value), BindsTo s fd ⟨[v], []⟩ [("script", v)]) ∧ ∀ base : Heap, K.In base → base.Ns mainGlobals mg → FnOk l.prog w K mg base CX0 2 fa fd ["script"] (spLaw K) := by
  have e := hfa.symm.trans (PySem.W.mg_of X G a6)
  cases e
  have F1 := fun_mk (st := sNothing) l1 c1 k1
  have b1 := F1.binds (ps := []) fun _ _ _ _ _ _ us hl => match us, hl with | [], _ => rfl
  have F2 := fun_mk (st := sCounts) l2 c2 k2
  have b2 := F2.binds (ps := ["version", "edit_id"]) fun _ _ _ _ _ _ us hl => match us, hl with | [_, _], _ => rfl
  have F3 := fun_mk (st := sIncludes) l3 c3 k3
  have b3 := F3.binds (ps := ["version", "other"]) fun _ _ _ _ _ _ us hl => match us, hl with | [_, _], _ => rfl
  have F4 := fun_mk (st := sJoined) l4 c4 k4
  have b4 := F4.binds (ps := ["version", "other"]) fun _ _ _ _ _ _ us hl => match us, hl with | [_, _], _ => rfl
  have F5 := fun_mk (st := sLawCell) l5 c5 k5
  have b5 := F5.binds (ps := ["script", "k"]) fun _ _ _ _ _ _ us hl => match us, hl with | [_, _], _ => rfl
  have F6 := fun_mk (st := sLaw) l6 c6 k6
  have b6 := F6.binds (ps := ["script"]) fun _ _ _ _ _ _ us hl => match us, hl with | [_], _ => rfl
  exact ⟨PySem.W.fnOf "law" "law" (defArgs sLaw) (defBody sLaw) (defScope sLaw) .none kV6 dc6 pm6 an6 cd6 ct6, fun s v => .of_eq rfl, fun base _ _ => okLaw (P := l.prog) (w := w) (base := base) (⟨f1, _, F1, b1, PySem.W.mg_of X G a1, f2, _, F2, b2, PySem.W.mg_of X G a2, f3, _, F3, b3, PySem.W.mg_of X G a3, f4, _, F4, b4, PySem.W.mg_of X G a4, f5, _, F5, b5, PySem.W.mg_of X G a5, fa, _, F6, b6, PySem.W.mg_of X G a6, PySem.W.mg_none_of X G z_all, PySem.W.mg_none_of X G z_tuple, PySem.W.mg_none_of X G z_range, PySem.W.mg_none_of X G z_len, PySem.W.mg_none_of X G z_max, PySem.W.mg_none_of X G z_int, PySem.W.mg_none_of X G z_zip⟩ : Txt K mg)⟩
theorem walk {l : PySem.W.OpenLaw} {q : Program} {loose : List Str} {XP : (Str → Option Value) → Heap → Prop} {YP : World → Heap → Prop} {d : DefRec} {K : Params → PySem.W.Frag} (hn : l.most = some 63) (hdf : d.params.defaults = [])
    (hY : ∀ (w : World) (h : Heap), YP w h → (K w.params).In h)
    (F : ∀ (w : World) (mg : Str → Option Value) (fa : Addr) (h : Heap), (K w.params).In h → h.Ns mainGlobals mg → mg d.name = some (.ref fa) →
      ∃ fd : FuncData, (∀ (s : Shared) (u : Value), BindsTo s fd ⟨[u], []⟩ [("script", u)]) ∧ ∀ base : Heap, (K w.params).In base → base.Ns mainGlobals mg → FnOk l.prog w (K w.params) mg base CX0 2 fa fd ["script"] (spLaw (K w.params))) :
    PySem.W.WalkO q loose XP YP l.row.toRowW d [] (fun f vs => PySem.call f vs) :=
  L2.walk_of (n := 63) (k := 2) (x := "script") (CX := fun _ => CX0) (sp := fun w => spLaw (K w.params)) hn (by decide) hdf ⟨rfl, by decide, by decide⟩ hY F (fun _ _ a ns hl _ hS => ⟨a, ns, rfl, hS, hl, fun _ => rfl⟩) fun _ _ _ _ _ z => z
end My
open PySem PySem.W PyProof.Rows
set_option maxRecDepth 100000 in
set_option maxHeartbeats 0 in
theorem PySem.Challenge.cw_tablemates_k28_versions_count_holds : PySem.Challenge.rw_tablemates_k28_versions_count.Holds := by
  w_on; o_law; k_head; (case hw => w_witness2)
  k_fill
  refine My.walk (l := PySem.Challenge.rw_tablemates_k28_versions_count) rfl rfl (fun w h Y => PySem.W.kIn_of Y) ?F
  case F =>
    intro w mg fa h KX G hmg
    refine' My.all_mk KX G hmg ?a1 ?l1 ?c1 ?k1 ?a2 ?l2 ?c2 ?k2 ?a3 ?l3 ?c3 ?k3 ?a4 ?l4 ?c4 ?k4 ?a5 ?l5 ?c5 ?k5 ?a6 ?l6 ?c6 ?k6 ?z_all ?z_tuple ?z_range ?z_len ?z_max ?z_int ?z_zip
    (case a1 => k_is); (case l1 => k_is); (case c1 => k_is); (case k1 => k_is); (case a2 => k_is); (case l2 => k_is); (case c2 => k_is); (case k2 => k_is); (case a3 => k_is); (case l3 => k_is); (case c3 => k_is); (case k3 => k_is); (case a4 => k_is); (case l4 => k_is); (case c4 => k_is); (case k4 => k_is); (case a5 => k_is); (case l5 => k_is); (case c5 => k_is); (case k5 => k_is); (case a6 => k_is); (case l6 => k_is); (case c6 => k_is); (case k6 => k_is); (case z_all => k_is); (case z_tuple => k_is); (case z_range => k_is); (case z_len => k_is); (case z_max => k_is); (case z_int => k_is); (case z_zip => k_is)

import PyProof.Rows.All
import Wide.All
import OpenK.AllK
import Wide.FinOn
import HandS.ForMost
import HandS.Zip
import HandS.Walk
import HandS.Gcd
import HandS.Wide
import HandS.IsInst
import HandS.Codes
import PySem.Challenge.RW_tablemates_k01_lowest_terms
set_option Elab.async false
set_option linter.all false
set_option maxRecDepth 100000
namespace My
open PySem PySem.Spec PyProof.Rows L2 RZ
def topS (i : Nat) : Stmt := PySem.Challenge.pw_tablemates_k01_lowest_terms.main.body.getD i (.Pass ⟨0, 0, 0, 0⟩)
abbrev sFraction : Stmt := topS 2
abbrev sLawCell : Stmt := topS 4
abbrev sLawDigits : Stmt := topS 5
abbrev sLawDraw : Stmt := topS 6
abbrev sLawBig : Stmt := topS 7
abbrev sLawGcd : Stmt := topS 8
abbrev sLawSame : Stmt := topS 9
abbrev sLaw : Stmt := topS 10
theorem scFraction : FnScope ["n", "d", "common"] ["n", "d"] (defScope sFraction) := ⟨rfl, rfl, rfl, by decide +kernel, rfl, by decide +kernel, by decide +kernel⟩
theorem scLawCell : FnScope ["script", "k"] ["script", "k"] (defScope sLawCell) := ⟨rfl, rfl, rfl, by decide +kernel, rfl, by decide +kernel, by decide +kernel⟩
theorem scLawDigits : FnScope ["script", "first", "last", "digits", "k", "cell", "turn", "seed"] ["script", "first", "last"] (defScope sLawDigits) := ⟨rfl, rfl, rfl, by decide +kernel, rfl, by decide +kernel, by decide +kernel⟩
theorem scLawDraw : FnScope ["box", "many", "at"] ["box", "many"] (defScope sLawDraw) := ⟨rfl, rfl, rfl, by decide +kernel, rfl, by decide +kernel, by decide +kernel⟩
theorem scLawBig : FnScope ["box", "size", "number", "k"] ["box", "size"] (defScope sLawBig) := ⟨rfl, rfl, rfl, by decide +kernel, rfl, by decide +kernel, by decide +kernel⟩
theorem scLawGcd : FnScope ["a", "b", "turn", "rest"] ["a", "b"] (defScope sLawGcd) := ⟨rfl, rfl, rfl, by decide +kernel, rfl, by decide +kernel, by decide +kernel⟩
theorem scLawSame : FnScope ["actual", "due", "k"] ["actual", "due"] (defScope sLawSame) := ⟨rfl, rfl, rfl, by decide +kernel, rfl, by decide +kernel, by decide +kernel⟩
theorem scLaw : FnScope ["script", "box", "n", "d", "factor", "x", "over", "under"] ["script"] (defScope sLaw) := ⟨rfl, rfl, rfl, by decide +kernel, rfl, by decide +kernel, by decide +kernel⟩
set_option maxHeartbeats 0 in
structure Txt (K : PySem.W.Frag) (mg : Str → Option Value) where
  fFraction : Addr
  fdFraction : FuncData
  FFraction : Fun K "fraction" "fraction" sFraction fFraction fdFraction
  bFraction : Binds K fdFraction ["n", "d"] []
  gFraction : mg "fraction" = some (.ref fFraction)
  fLawCell : Addr
  fdLawCell : FuncData
  FLawCell : Fun K "_law_cell" "_law_cell" sLawCell fLawCell fdLawCell
  bLawCell : Binds K fdLawCell ["script", "k"] []
  gLawCell : mg "_law_cell" = some (.ref fLawCell)
  fLawDigits : Addr
  fdLawDigits : FuncData
  FLawDigits : Fun K "_law_digits" "_law_digits" sLawDigits fLawDigits fdLawDigits
  bLawDigits : Binds K fdLawDigits ["script", "first", "last"] []
  gLawDigits : mg "_law_digits" = some (.ref fLawDigits)
  fLawDraw : Addr
  fdLawDraw : FuncData
  FLawDraw : Fun K "_law_draw" "_law_draw" sLawDraw fLawDraw fdLawDraw
  bLawDraw : Binds K fdLawDraw ["box", "many"] []
  gLawDraw : mg "_law_draw" = some (.ref fLawDraw)
  fLawBig : Addr
  fdLawBig : FuncData
  FLawBig : Fun K "_law_big" "_law_big" sLawBig fLawBig fdLawBig
  bLawBig : Binds K fdLawBig ["box", "size"] []
  gLawBig : mg "_law_big" = some (.ref fLawBig)
  fLawGcd : Addr
  fdLawGcd : FuncData
  FLawGcd : Fun K "_law_gcd" "_law_gcd" sLawGcd fLawGcd fdLawGcd
  bLawGcd : Binds K fdLawGcd ["a", "b"] []
  gLawGcd : mg "_law_gcd" = some (.ref fLawGcd)
  fLawSame : Addr
  fdLawSame : FuncData
  FLawSame : Fun K "_law_same" "_law_same" sLawSame fLawSame fdLawSame
  bLawSame : Binds K fdLawSame ["actual", "due"] []
  gLawSame : mg "_law_same" = some (.ref fLawSame)
  fLaw : Addr
  fdLaw : FuncData
  FLaw : Fun K "law" "law" sLaw fLaw fdLaw
  bLaw : Binds K fdLaw ["script"] []
  gLaw : mg "law" = some (.ref fLaw)
  z_range : mg "range" = none
  z_abs : mg "abs" = none
  z_isinstance : mg "isinstance" = none
  z_bool : mg "bool" = none
  z_str : mg "str" = none
  z_len : mg "len" = none
  z_list : mg "list" = none
  z_tuple : mg "tuple" = none
  z_int : mg "int" = none
  g_gcd : mg "gcd" = some (.builtin "math.gcd")
section
variable {P : Program} {w : World} {K : PySem.W.Frag} {mg : Str → Option Value} {base : Heap}
/-! ### heaps -/
theorem _root_.L2.Same.tup {K : PySem.W.Frag} {H H' : Hp} {a : Addr} {xs : List V} (e : Same H H') (h : SqT K H a xs) : SqT K H' a xs := by
  rcases h with (h | ⟨o, h⟩) | h
  · exact .inl (.inl (e _ _ h))
  · exact .inl (.inr ⟨o, e _ _ h⟩)
  · exact .inr h
theorem same_new {H : Hp} {p : Addr} {o : HO} (h : H p = none) : Same H (upd H p o) := fun b x e => by
  rw [upd_ne (ne_of_none e h)]
  exact e
theorem same_mut {H H' : Hp} {p : Addr} {o : HO} (e : Same H H') (h : H p = none) : Same H (upd H' p o) := fun b x ha => by
  rw [upd_ne (ne_of_none ha h)]
  exact e b x ha
theorem walk_zipT {K : PySem.W.Frag} {a b : Addr} {xs ys : List V} {n : Nat} (hn : n = min xs.length ys.length) : Walk (ItzT K a b) n (fun H => SqT K H a xs ∧ SqT K H b ys) (YPair (fun i => xs[i]?) (fun i => ys[i]?)) := by
  subst hn
  refine ⟨fun i _ hi q => ?_, fun _ q => ⟨xs, ys, q.1, q.2, by omega⟩, fun i H v H' _ q y => ?_⟩
  · have h1 : i < xs.length := by omega
    have h2 : i < ys.length := by omega
    exact ⟨xs, ys, xs[i], ys[i], q.1, q.2, by simp [h1], by simp [h2]⟩
  · obtain ⟨T, x, z, h1, h2, h3, h4, h5⟩ := y
    exact ⟨T, x, z, h1, h2, h3, h4 xs q.1, h5 ys q.2⟩
/-- a function that hands back a bool or an int and changes nothing -/
theorem getD_at {ns : List Int} {i : Nat} (h : i < ns.length) : (ns.map V.int)[i]? = some (.int (ns.getD i 0)) := by
  rw [List.getElem?_map, List.getElem?_eq_getElem h, List.getD_eq_getElem?_getD, List.getElem?_eq_getElem h]
  rfl
theorem dp_ints {K : PySem.W.Frag} {H : Hp} : ∀ ns : List Int, DpAll K H (ns.map V.int) (ns.map PyData.int)
  | [] => .nil
  | n :: r => .cons (.int n) (dp_ints r)
theorem shaped_tup (ns : List Int) : SeqAt.shaped (.tuple (ns.map PyData.int)) = true := by
  simp [SeqAt.shaped, PyData.canLay0, PyData.depth, PySem.W.ke_canLayAll0, PySem.W.ke_depthAll]
theorem shaped_lst (ns : List Int) : SeqAt.shaped (.list (ns.map PyData.int)) = true := PySem.W.ke_shaped_ints ns
theorem eqv_same {d : PyData} (h : SeqAt.shaped d = true) : PyData.eqv d d = true := by
  refine SeqAt.eqv_refl d ?_
  unfold SeqAt.shaped at h
  exact (Bool.and_eq_true _ _ ▸ h).1
theorem yesT {σ : L2.St} {H : Hp} {A B : Hp → Prop} (h : A H) : tYes σ H (fun b H3 => if b = true then A H3 else B H3) := iteT (A := A H) (B := B H) h
def spCell (K : PySem.W.Frag) : Sp := fun vs H Q _ => ∃ (a : Addr) (ns : List Int) (k : Int), vs = [.ref a, .int k] ∧ 0 ≤ k ∧ SqL K H a (ns.map V.int) ∧ ∀ v : Int, Q (.int v) H
theorem okLawCell (T : Txt K mg) : FnOk P w K mg base CX0 1 T.fLawCell T.fdLawCell ["script", "k"] (spCell K) := by
  refine T.FLawCell.ok scLawCell (fun vs H Q E h => ?_) (fun cdv A outer s H vs Q E hr h => ?_)
  · obtain ⟨a, ns, k, rfl, _⟩ := h
    rfl
  · obtain ⟨a, ns, k, rfl, h0, hS, q⟩ := h
    obtain ⟨k, rfl⟩ := Int.eq_ofNat_of_zero_le h0
    -- slots script=0 k=1
    refine ⟨_, (pss_cons (ps_if (pt_cmpR op_lt (pv 1) (pe_callB call_len_seq (by rfl) T.z_len PySem.boot_len (pa_cons (pv 0) pa_nil)) (nomark _))
          (pss_one (ps_ret (pe_ix ix_list (pv 0) (pv 1) (fun _ _ => rfl))))
          pss_nil)
        (pss_one (ps_ret pe_int))), ?_⟩
    refine ⟨_, rfl, _, rfl, a, _, rfl, .inl hS, _, _, rfl, rfl, _, rfl, ite2 (fun c => ?_) (fun c => ?_)⟩
    · have hk : k < ns.length := by
        have c2 := of_decide_eq_true c
        rw [List.length_map] at c2
        omega
      exact ⟨_, rfl, _, rfl, a, _, _, _, rfl, rfl, hS, atI_nat (getD_at hk), q _⟩
    · exact q 0
/-! ### numbers that a law draws -/
structure Dig (ds : List Int) (n : Nat) : Prop where
  all : ∀ x ∈ ds, 0 ≤ x ∧ x < 1000
  len : ds.length ≤ n
theorem Dig.nil : Dig [] 0 := ⟨fun _ h => (nomatch h), Nat.le_refl _⟩
theorem Dig.more {ds : List Int} {n m : Nat} (h : Dig ds n) (hm : n ≤ m) : Dig ds m := ⟨h.all, Nat.le_trans h.len hm⟩
theorem Dig.add {ds : List Int} {n : Nat} (h : Dig ds n) (x : Int) : Dig (ds ++ [x % 1000]) (n + 1) := by
  refine ⟨fun y hy => ?_, ?_⟩
  · rcases List.mem_append.mp hy with q | q
    · exact h.all y q
    · obtain rfl : y = x % 1000 := by simpa using q
      omega
  · rw [List.length_append]
    have := h.len
    simp only [List.length_singleton]
    omega
def spDigits (K : PySem.W.Frag) : Sp := fun vs H Q _ => ∃ (a : Addr) (ns : List Int) (lo : Nat) (hi : Nat), vs = [.ref a, .int (lo : Int), .int (hi : Int)] ∧ lo ≤ hi ∧ hi ≤ 1000 ∧ SqL K H a (ns.map V.int) ∧
  ∀ H' d ds, Same H H' → H d = none → H' d = some (.lst (ds.map V.int)) → Dig ds (60 * (hi - lo)) → Q (.ref d) H'
theorem okLawDigits (T : Txt K mg) : FnOk P w K mg base CX0 2 T.fLawDigits T.fdLawDigits ["script", "first", "last"] (spDigits K) := by
  refine T.FLawDigits.ok scLawDigits (fun vs H Q E h => ?_) (fun cdv A outer s H vs Q E hr h => ?_)
  · obtain ⟨a, ns, lo, hi, rfl, _⟩ := h
    rfl
  · obtain ⟨a, ns, lo, hi, rfl, hlh, hh, hS, q⟩ := h
    -- slots script=0 first=1 last=2 digits=3 k=4 cell=5 turn=6 seed=7
    refine ⟨_, (pss_cons (ps_set (i := 3) scLawDigits.nd rfl (Or.inl rfl) (pe_lst pa_nil))
        (pss_cons (ps_for PassesOwn.never rfl (pi_range2 rfl T.z_range (pa_cons (pv 1) (pa_cons (pv 2) pa_nil))) (pg_name (i := 4) scLawDigits.nd rfl (Or.inl rfl))
          (pss_cons (ps_set (i := 5) scLawDigits.nd rfl (Or.inl rfl) (pe_call (okLawCell T) (hr.mono (by decide)) (by rfl) T.gLawCell T.FLawCell.kp T.bLawCell .nil pass0 (pa_cons (pv 0) (pa_cons (pv 4) pa_nil))))
          (pss_cons (ps_if (pt_cmpR op_lt (pv 5) pe_int (nomark _))
            (pss_one (ps_set (i := 5) scLawDigits.nd rfl (Or.inl rfl) (pe_op op_sub pe_int (pe_op op_mul pe_int (pv 5)))))
            pss_nil)
          (pss_one (ps_if (pt_cmpR op_ge (pv 5) (pe_op op_pow pe_int pe_int) (nomark _))
            (pss_one (ps_for PassesOwn.never rfl (pi_range1 rfl T.z_range (pa_cons pe_int pa_nil)) (pg_name (i := 6) scLawDigits.nd rfl (Or.inl rfl))
              (pss_one (ps_if (pt_cmpR op_gt (pv 5) pe_int (nomark _))
                (pss_cons (ps_expr (pe_bm PySem.F.plainAttrs_list PySem.F.slot_list_append PySem.F.type_list_append mt_append (pv 3) (pa_cons (pe_op op_mod (pe_callTy call_int1 (by rfl) T.z_int (by decide +kernel) (pa_cons (pv 5) pa_nil)) pe_int) pa_nil)))
                (pss_one (ps_set (i := 5) scLawDigits.nd rfl (Or.inl rfl) (pe_op op_fdiv (pv 5) pe_int))))
                pss_nil))))
            (pss_cons (ps_set (i := 7) scLawDigits.nd rfl (Or.inl rfl) (pe_op op_mod (pe_callTy call_int1 (by rfl) T.z_int (by decide +kernel) (pa_cons (pe_op op_add (pe_op op_add (pe_op op_mul (pv 5) pe_int) (pe_op op_mul (pv 4) pe_int)) pe_int) pa_nil)) pe_int))
            (pss_one (ps_for PassesOwn.never rfl (pi_range1 rfl T.z_range (pa_cons pe_int pa_nil)) (pg_name (i := 6) scLawDigits.nd rfl (Or.inl rfl))
              (pss_cons (ps_set (i := 7) scLawDigits.nd rfl (Or.inl rfl) (pe_op op_mod (pe_callTy call_int1 (by rfl) T.z_int (by decide +kernel) (pa_cons (pe_op op_add (pe_op op_add (pe_op op_mul (pv 7) pe_int) (pe_op op_mul pe_int (pv 6))) pe_int) pa_nil)) pe_int))
              (pss_one (ps_expr (pe_bm PySem.F.plainAttrs_list PySem.F.slot_list_append PySem.F.type_list_append mt_append (pv 3) (pa_cons (pe_op op_mod (pe_callTy call_int1 (by rfl) T.z_int (by decide +kernel) (pa_cons (pe_op op_fdiv (pv 7) pe_int) pa_nil)) pe_int) pa_nil)))))))))))))
        (pss_one (ps_ret (pv 3))))), ?_⟩
    refine ⟨Nat.zero_le _, fun d hd => ?_⟩
    refine ⟨_, rfl, _, rfl, _, _, rfl, ⟨by omega, by omega, by omega, by omega⟩, ?_⟩
    refine for_range (lo := lo) (n := ((hi : Int) - lo).toNat) (fun i σ H' => ∃ ds c0 c1 c2 c3, σ = [some (.ref a), some (.int (lo : Int)), some (.int (hi : Int)), some (.ref d), c0, c1, c2, c3] ∧ Same H H' ∧ H' d = some (.lst (ds.map V.int)) ∧ Dig ds (60 * i))
      ⟨[], _, _, _, _, rfl, same_new hd, upd_same, Dig.nil⟩ ?_ ?_
    · rintro i σ H1 hi2 ⟨ds, c0, c1, c2, c3, rfl, s1, hd1, D⟩
      -- cell = _law_cell(script, k)
      refine ⟨_, rfl, _, rfl, a, ns, _, rfl, by omega, s1.seq hS, fun v => ?_⟩
      -- if cell < 0
      refine ⟨_, rfl, _, _, rfl, rfl, _, rfl, ite2 (fun _ => ?_) (fun _ => ?_)⟩
      · refine ⟨_, rfl, _, _, rfl, rfl, .inl ⟨by decide, by decide⟩, _, _, rfl, rfl, ?_⟩
        refine ⟨_, rfl, _, _, rfl, rfl, ⟨by decide, by decide, by decide⟩, _, _, rfl, rfl, _, rfl, ite2 (fun _ => ?_) (fun _ => ?_)⟩
        · refine ⟨60, rfl, by decide, by decide, for_range (lo := 0) (n := 60) (fun t σ H' => ∃ ds c c1, σ = [some (.ref a), some (.int (lo : Int)), some (.int (hi : Int)), some (.ref d), some (.int ((lo : Int) + i)), some (.int c), c1, c3] ∧ Same H H' ∧ H' d = some (.lst (ds.map V.int)) ∧ Dig ds (60 * i + t)) ⟨ds, _, _, rfl, s1, hd1, D⟩ ?_ ?_⟩
          · rintro t σ H2 ht ⟨ds, c, c1, rfl, s2, hd2, D2⟩
            refine ⟨_, rfl, _, _, rfl, rfl, _, rfl, ite2 (fun _ => ?_) (fun _ => ?_)⟩
            · refine ⟨_, rfl, .inl ⟨rfl, _, SqL.of hd2⟩, _, rfl, .inl ⟨_, rfl, _, _, rfl, rfl, (by show (0 : Int) < _; decide), d, _, _, rfl, rfl, hd2, ?_, _, rfl, _, _, rfl, rfl, ⟨by decide, by decide⟩, ?_⟩⟩
              · rw [List.length_map]
                exact Nat.lt_of_le_of_lt D2.len (Nat.lt_of_lt_of_le (show 60 * i + t < 100000 by omega) (by decide))
              · exact ⟨ds ++ [c % 1000], _, _, rfl, same_mut s2 hd, by rw [upd_same, List.map_append]; rfl, D2.add c⟩
            · exact ⟨ds, _, _, rfl, s2, hd2, D2.more (Nat.le_succ _)⟩
          · rintro σ H2 ⟨ds, c, c1, rfl, s2, hd2, D2⟩
            exact ⟨ds, _, _, _, _, rfl, s2, hd2, D2⟩
        · refine ⟨_, rfl, _, _, rfl, rfl, .inr ⟨by decide, by decide⟩, _, rfl, _, _, rfl, rfl, .inr ⟨by decide, by decide⟩, _, _, rfl, rfl, _, _, rfl, rfl, .inl ⟨_, rfl, _, _, rfl, rfl, (by show (0 : Int) < _; decide), ?_⟩⟩
          refine ⟨12, rfl, by decide, by decide, for_range (lo := 0) (n := 12) (fun t σ H' => ∃ ds c c1 sd, σ = [some (.ref a), some (.int (lo : Int)), some (.int (hi : Int)), some (.ref d), some (.int ((lo : Int) + i)), some (.int c), c1, some (.int sd)] ∧ Same H H' ∧ H' d = some (.lst (ds.map V.int)) ∧ Dig ds (60 * i + t)) ⟨ds, _, _, _, rfl, s1, hd1, D⟩ ?_ ?_⟩
          · rintro t σ H2 ht ⟨ds, c, c1, sd, rfl, s2, hd2, D2⟩
            refine ⟨_, rfl, _, _, rfl, rfl, .inr ⟨by decide, by decide⟩, _, rfl, _, _, rfl, rfl, .inl ⟨by decide, by decide⟩, _, _, rfl, rfl, _, _, rfl, rfl, .inl ⟨_, rfl, _, _, rfl, rfl, (by show (0 : Int) < _; decide), ?_⟩⟩
            refine ⟨_, rfl, .inl ⟨rfl, _, SqL.of hd2⟩, _, rfl, _, _, rfl, rfl, ⟨by decide, by decide⟩, .inl ⟨_, rfl, _, _, rfl, rfl, (by show (0 : Int) < _; decide), d, _, _, rfl, rfl, hd2, ?_, ?_⟩⟩
            · rw [List.length_map]
              exact Nat.lt_of_le_of_lt D2.len (Nat.lt_of_lt_of_le (show 60 * i + t < 100000 by omega) (by decide))
            · exact ⟨ds ++ [_ % 1000], _, _, _, rfl, same_mut s2 hd, by rw [upd_same, List.map_append]; rfl, D2.add _⟩
          · rintro σ H2 ⟨ds, c, c1, sd, rfl, s2, hd2, D2⟩
            exact ⟨ds, _, _, _, _, rfl, s2, hd2, D2.more (by omega)⟩
      · refine ⟨_, rfl, _, _, rfl, rfl, ⟨by decide, by decide, by decide⟩, _, _, rfl, rfl, _, rfl, ite2 (fun _ => ?_) (fun _ => ?_)⟩
        · refine ⟨60, rfl, by decide, by decide, for_range (lo := 0) (n := 60) (fun t σ H' => ∃ ds c c1, σ = [some (.ref a), some (.int (lo : Int)), some (.int (hi : Int)), some (.ref d), some (.int ((lo : Int) + i)), some (.int c), c1, c3] ∧ Same H H' ∧ H' d = some (.lst (ds.map V.int)) ∧ Dig ds (60 * i + t)) ⟨ds, _, _, rfl, s1, hd1, D⟩ ?_ ?_⟩
          · rintro t σ H2 ht ⟨ds, c, c1, rfl, s2, hd2, D2⟩
            refine ⟨_, rfl, _, _, rfl, rfl, _, rfl, ite2 (fun _ => ?_) (fun _ => ?_)⟩
            · refine ⟨_, rfl, .inl ⟨rfl, _, SqL.of hd2⟩, _, rfl, .inl ⟨_, rfl, _, _, rfl, rfl, (by show (0 : Int) < _; decide), d, _, _, rfl, rfl, hd2, ?_, _, rfl, _, _, rfl, rfl, ⟨by decide, by decide⟩, ?_⟩⟩
              · rw [List.length_map]
                exact Nat.lt_of_le_of_lt D2.len (Nat.lt_of_lt_of_le (show 60 * i + t < 100000 by omega) (by decide))
              · exact ⟨ds ++ [c % 1000], _, _, rfl, same_mut s2 hd, by rw [upd_same, List.map_append]; rfl, D2.add c⟩
            · exact ⟨ds, _, _, rfl, s2, hd2, D2.more (Nat.le_succ _)⟩
          · rintro σ H2 ⟨ds, c, c1, rfl, s2, hd2, D2⟩
            exact ⟨ds, _, _, _, _, rfl, s2, hd2, D2⟩
        · refine ⟨_, rfl, _, _, rfl, rfl, .inr ⟨by decide, by decide⟩, _, rfl, _, _, rfl, rfl, .inr ⟨by decide, by decide⟩, _, _, rfl, rfl, _, _, rfl, rfl, .inl ⟨_, rfl, _, _, rfl, rfl, (by show (0 : Int) < _; decide), ?_⟩⟩
          refine ⟨12, rfl, by decide, by decide, for_range (lo := 0) (n := 12) (fun t σ H' => ∃ ds c c1 sd, σ = [some (.ref a), some (.int (lo : Int)), some (.int (hi : Int)), some (.ref d), some (.int ((lo : Int) + i)), some (.int c), c1, some (.int sd)] ∧ Same H H' ∧ H' d = some (.lst (ds.map V.int)) ∧ Dig ds (60 * i + t)) ⟨ds, _, _, _, rfl, s1, hd1, D⟩ ?_ ?_⟩
          · rintro t σ H2 ht ⟨ds, c, c1, sd, rfl, s2, hd2, D2⟩
            refine ⟨_, rfl, _, _, rfl, rfl, .inr ⟨by decide, by decide⟩, _, rfl, _, _, rfl, rfl, .inl ⟨by decide, by decide⟩, _, _, rfl, rfl, _, _, rfl, rfl, .inl ⟨_, rfl, _, _, rfl, rfl, (by show (0 : Int) < _; decide), ?_⟩⟩
            refine ⟨_, rfl, .inl ⟨rfl, _, SqL.of hd2⟩, _, rfl, _, _, rfl, rfl, ⟨by decide, by decide⟩, .inl ⟨_, rfl, _, _, rfl, rfl, (by show (0 : Int) < _; decide), d, _, _, rfl, rfl, hd2, ?_, ?_⟩⟩
            · rw [List.length_map]
              exact Nat.lt_of_le_of_lt D2.len (Nat.lt_of_lt_of_le (show 60 * i + t < 100000 by omega) (by decide))
            · exact ⟨ds ++ [_ % 1000], _, _, _, rfl, same_mut s2 hd, by rw [upd_same, List.map_append]; rfl, D2.add _⟩
          · rintro σ H2 ⟨ds, c, c1, sd, rfl, s2, hd2, D2⟩
            exact ⟨ds, _, _, _, _, rfl, s2, hd2, D2.more (by omega)⟩
    · rintro σ H1 ⟨ds, c0, c1, c2, c3, rfl, s1, hd1, D⟩
      exact ⟨_, rfl, q _ d ds s1 hd hd1 (by rw [show ((hi : Int) - lo).toNat = hi - lo by omega] at D; exact D)⟩
/-- all but the box stays, and the box keeps its list -/
structure Kp (b : Addr) (H H' : Hp) : Prop where
  k : ∀ c o, c ≠ b → H c = some o → H' c = some o
  d : ∀ (x j : V), H b = some (.lst [x, j]) → ∃ j', H' b = some (.lst [x, j'])
instance {b : Addr} {H H' : Hp} : CoeFun (Kp b H H') (fun _ => ∀ c o, c ≠ b → H c = some o → H' c = some o) := ⟨Kp.k⟩
theorem Kp.refl {b : Addr} {H : Hp} : Kp b H H := ⟨fun _ _ _ h => h, fun _ j h => ⟨j, h⟩⟩
theorem Kp.trans {b : Addr} {H H1 H2 : Hp} (x : Kp b H H1) (y : Kp b H1 H2) : Kp b H H2 := ⟨fun c o n h => y.k c o n (x.k c o n h), fun v j h => by
  obtain ⟨j1, h1⟩ := x.d v j h
  exact y.d v j1 h1⟩
theorem Kp.of {b : Addr} {H H1 : Hp} (x : Same H H1) : Kp b H H1 := ⟨fun c o _ h => x c o h, fun _ j h => ⟨j, x _ _ h⟩⟩
theorem Kp.same {b : Addr} {H H1 H2 : Hp} (x : Same H H1) (h : H b = none) (y : Kp b H1 H2) : Same H H2 := fun c o e => y.k c o (ne_of_none e h) (x c o e)
/-- a box of drawn digits and the place of the next one -/
def Box (H : Hp) (b : Addr) : Prop := ∃ (d : Addr) (ds : List Int) (i : Nat), H b = some (.lst [.ref d, .int (i : Int)]) ∧ H d = some (.lst (ds.map V.int)) ∧ b ≠ d
theorem Box.same {H H' : Hp} {b : Addr} (s : Same H H') (h : Box H b) : Box H' b := by
  obtain ⟨d, ds, i, h1, h2, h3⟩ := h
  exact ⟨d, ds, i, s _ _ h1, s _ _ h2, h3⟩
def spDraw (K : PySem.W.Frag) : Sp := fun vs H Q _ => ∃ (b : Addr) (m : Int), vs = [.ref b, .int m] ∧ 0 < m ∧ Box H b ∧ ∀ x H', 0 ≤ x → x < m → Box H' b → Kp b H H' → Q (.int x) H'
theorem okLawDraw (T : Txt K mg) : FnOk P w K mg base CX0 1 T.fLawDraw T.fdLawDraw ["box", "many"] (spDraw K) := by
  refine T.FLawDraw.ok scLawDraw (fun vs H Q E h => ?_) (fun cdv A outer s H vs Q E hr h => ?_)
  · obtain ⟨b, m, rfl, _⟩ := h
    rfl
  · obtain ⟨b, m, rfl, hm, ⟨d, ds, i, hb, hd, nbd⟩, q⟩ := h
    -- slots box=0 many=1 at=2
    refine ⟨_, (pss_cons (ps_set (i := 2) scLawDraw.nd rfl (Or.inl rfl) (pe_ix ix_list (pv 0) pe_int (fun _ _ => rfl)))
        (pss_cons (ps_asg (pe_op op_add (pv 2) pe_int) (pg_sub (pv 0) pe_int set_list))
        (pss_cons (ps_if (pt_cmpR op_lt (pv 2) (pe_callB call_len_seq (by rfl) T.z_len PySem.boot_len (pa_cons (pe_ix ix_list (pv 0) pe_int (fun _ _ => rfl)) pa_nil)) (nomark _))
          (pss_one (ps_ret (pe_op op_mod (pe_callTy call_int1 (by rfl) T.z_int (by decide +kernel) (pa_cons (pe_ix ix_list (pe_ix ix_list (pv 0) pe_int (fun _ _ => rfl)) (pv 2) (fun _ _ => rfl)) pa_nil)) (pv 1))))
          pss_nil)
        (pss_one (ps_ret pe_int))))), ?_⟩
    refine ⟨_, rfl, b, _, _, _, rfl, rfl, SqL.of hb, atI_nat (j := 1) rfl, _, rfl, _, _, rfl, rfl, _, rfl, b, _, _, 1, rfl, rfl, hb, rfl, ?_⟩
    have hb' : (upd H b (.lst ([.ref d, .int (i : Int)].set 1 (.int ((i : Int) + 1))))) b = some (.lst [.ref d, .int ((i : Int) + 1)]) := upd_same
    have hd' : (upd H b (.lst ([.ref d, .int (i : Int)].set 1 (.int ((i : Int) + 1))))) d = some (.lst (ds.map V.int)) := by
      rw [upd_ne nbd.symm]
      exact hd
    have kp : Kp b H (upd H b (.lst ([.ref d, .int (i : Int)].set 1 (.int ((i : Int) + 1))))) := ⟨fun c o n e => by
      rw [upd_ne n]
      exact e, fun x j h => by
      rw [hb] at h
      cases h
      exact ⟨_, hb'⟩⟩
    refine ⟨_, rfl, _, rfl, b, _, _, _, rfl, rfl, SqL.of hb', atI_nat (j := 0) rfl, d, _, rfl, .inl (SqL.of hd'), _, _, rfl, rfl, _, rfl, ite2 (fun c => ?_) (fun c => ?_)⟩
    · have hk : i < ds.length := by
        have c2 := of_decide_eq_true c
        rw [List.length_map] at c2
        omega
      refine ⟨_, rfl, b, _, _, _, rfl, rfl, SqL.of hb', atI_nat (j := 0) rfl, _, rfl, d, _, _, _, rfl, rfl, SqL.of hd', atI_nat (getD_at hk), .inl ⟨_, rfl, _, rfl, _, _, rfl, rfl, hm, ?_⟩⟩
      exact q _ _ (Int.emod_nonneg _ (by omega)) (Int.emod_lt_of_pos _ hm) ⟨d, ds, i + 1, hb', hd', nbd⟩ kp
    · exact q _ _ (Int.le_refl _) hm ⟨d, ds, i + 1, hb', hd', nbd⟩ kp
def spBig (K : PySem.W.Frag) : Sp := fun vs H Q _ => ∃ (b : Addr) (m : Int), vs = [.ref b, .int m] ∧ 0 ≤ m ∧ m ≤ 1000 ∧ Box H b ∧ ∀ x H', 0 ≤ x → x < 1000 ^ m.toNat → Box H' b → Kp b H H' → Q (.int x) H'
theorem okLawBig (T : Txt K mg) : FnOk P w K mg base CX0 2 T.fLawBig T.fdLawBig ["box", "size"] (spBig K) := by
  refine T.FLawBig.ok scLawBig (fun vs H Q E h => ?_) (fun cdv A outer s H vs Q E hr h => ?_)
  · obtain ⟨b, m, rfl, _⟩ := h
    rfl
  · obtain ⟨b, m, rfl, hm0, hm, hB, q⟩ := h
    obtain ⟨m, rfl⟩ := Int.eq_ofNat_of_zero_le hm0
    rw [Int.toNat_natCast] at q
    -- slots box=0 size=1 number=2 k=3
    refine ⟨_, (pss_cons (ps_set (i := 2) scLawBig.nd rfl (Or.inl rfl) pe_int)
        (pss_cons (ps_for PassesOwn.never rfl (pi_range1 rfl T.z_range (pa_cons (pv 1) pa_nil)) (pg_name (i := 3) scLawBig.nd rfl (Or.inl rfl))
          (pss_one (ps_set (i := 2) scLawBig.nd rfl (Or.inl rfl) (pe_op op_add (pe_op op_mul (pv 2) pe_int) (pe_call (okLawDraw T) (hr.mono (by decide)) (by rfl) T.gLawDraw T.FLawDraw.kp T.bLawDraw .nil pass0 (pa_cons (pv 0) (pa_cons pe_int pa_nil)))))))
        (pss_one (ps_ret (pv 2))))), ?_⟩
    refine ⟨_, rfl, _, rfl, by omega, by omega, for_range (lo := 0) (n := m) (fun t σ H' => ∃ x c, σ = [some (.ref b), some (.int (m : Int)), some (.int x), c] ∧ 0 ≤ x ∧ x < 1000 ^ t ∧ Box H' b ∧ Kp b H H') ⟨0, _, rfl, by decide, by decide, hB, Kp.refl⟩ ?_ ?_⟩
    · rintro t σ H1 ht ⟨x, c, rfl, h0, h1, hB1, k1⟩
      refine ⟨_, rfl, _, _, rfl, rfl, .inr ⟨by decide, by decide⟩, _, rfl, b, 1000, rfl, by decide, hB1, fun y H2 y0 y1 hB2 k2 => ?_⟩
      refine ⟨_, _, rfl, rfl, x * 1000 + y, _, rfl, by omega, ?_, hB2, k1.trans k2⟩
      rw [Int.pow_succ]
      omega
    · rintro σ H1 ⟨x, c, rfl, h0, h1, hB1, k1⟩
      exact ⟨_, rfl, q x _ h0 h1 hB1 k1⟩
/-! ### the greatest common divisor by Euclid's steps -/
theorem half_step {a b : Nat} (hb : 0 < b) (hba : b ≤ a) : 2 * (b * (a % b)) ≤ a * b := by
  have h1 := Nat.mod_lt a hb
  have h2 : b + a % b ≤ a := by
    have e := Nat.div_add_mod a b
    have q : 1 ≤ a / b := (Nat.one_le_div_iff hb).mpr hba
    have z : b * 1 ≤ b * (a / b) := Nat.mul_le_mul_left b q
    omega
  have h3 : 2 * (a % b) ≤ a := by omega
  calc 2 * (b * (a % b)) = b * (2 * (a % b)) := by rw [Nat.mul_left_comm]
    _ ≤ b * a := Nat.mul_le_mul_left b h3
    _ = a * b := Nat.mul_comm b a
def spGcd (K : PySem.W.Frag) : Sp := fun vs H Q _ => ∃ (x y : Int), vs = [.int x, .int y] ∧ x.natAbs * y.natAbs < 2 ^ 890 ∧ Q (.int ((Nat.gcd x.natAbs y.natAbs : Nat) : Int)) H
theorem abs_eq (x : Int) : (if x < 0 then -x else x) = ((x.natAbs : Nat) : Int) := by
  split <;> omega
theorem okLawGcd (T : Txt K mg) : FnOk P w K mg base CX0 1 T.fLawGcd T.fdLawGcd ["a", "b"] (spGcd K) := by
  refine T.FLawGcd.ok scLawGcd (fun vs H Q E h => ?_) (fun cdv A outer s H vs Q E hr h => ?_)
  · obtain ⟨x, y, rfl, _⟩ := h
    rfl
  · obtain ⟨x, y, rfl, hz, q⟩ := h
    -- slots a=0 b=1 turn=2 rest=3
    refine ⟨_, (pss_cons (ps_set (i := 0) scLawGcd.nd rfl (Or.inl rfl) (pe_callB call_abs (by rfl) T.z_abs (by decide +kernel) (pa_cons (pv 0) pa_nil)))
        (pss_cons (ps_set (i := 1) scLawGcd.nd rfl (Or.inl rfl) (pe_callB call_abs (by rfl) T.z_abs (by decide +kernel) (pa_cons (pv 1) pa_nil)))
        (pss_cons (ps_for PassesOwn.never rfl (pi_range1 rfl T.z_range (pa_cons pe_int pa_nil)) (pg_name (i := 2) scLawGcd.nd rfl (Or.inl rfl))
          (pss_cons (ps_if (pt_cmpR op_eq (pv 1) pe_int (nomark _))
            (pss_one ps_break)
            pss_nil)
          (pss_cons (ps_set (i := 3) scLawGcd.nd rfl (Or.inl rfl) (pe_op op_mod (pe_callTy call_int1 (by rfl) T.z_int (by decide +kernel) (pa_cons (pv 0) pa_nil)) (pv 1)))
          (pss_cons (ps_set (i := 0) scLawGcd.nd rfl (Or.inl rfl) (pv 1))
          (pss_one (ps_set (i := 1) scLawGcd.nd rfl (Or.inl rfl) (pv 3)))))))
        (pss_one (ps_ret (pv 0)))))), ?_⟩
    refine ⟨_, rfl, _, rfl, ?_⟩
    refine ⟨_, rfl, _, rfl, ?_⟩
    rw [abs_eq, abs_eq]
    generalize x.natAbs = a0 at hz q ⊢
    generalize y.natAbs = b0 at hz q ⊢
    refine ⟨900, rfl, by decide, by decide, for_range (lo := 0) (n := 900) (fun t σ H' => ∃ (a b : Nat) (c c1 : Option V), σ = [some (.int (a : Int)), some (.int (b : Int)), c, c1] ∧ H' = H ∧ Nat.gcd a b = Nat.gcd a0 b0 ∧ (t = 0 ∨ b ≤ a) ∧ (a * b) * 2 ^ (t - 1) < 2 ^ 890) ⟨a0, b0, _, _, rfl, rfl, rfl, .inl rfl, by simpa using hz⟩ ?_ ?_⟩
    · rintro t σ H1 ht ⟨a, b, c, c1, rfl, rfl, hg, ho, hs⟩
      refine ⟨_, rfl, rfl, _, rfl, ite2 (fun e => ?_) (fun e => ?_)⟩
      · have e2 : b = 0 := by
          have e3 := V.int.inj (of_decide_eq_true e)
          omega
        subst e2
        rw [Nat.gcd_zero_right] at hg
        refine ⟨_, rfl, ?_⟩
        rw [hg]
        exact q
      · have hb : 0 < b := by
          rcases Nat.eq_zero_or_pos b with z | z
          · subst z
            exact absurd (decide_eq_true rfl) e
          · exact z
        refine ⟨_, rfl, .inl ⟨_, rfl, _, rfl, _, _, rfl, rfl, (by show (0 : Int) < (b : Int); omega), ?_⟩⟩
        refine ⟨_, rfl, _, rfl, b, a % b, _, _, rfl, rfl, ?_, .inr (Nat.le_of_lt (Nat.mod_lt a hb)), ?_⟩
        · rw [← hg, Nat.gcd_comm a b, Nat.gcd_rec b a, Nat.gcd_comm]
        · rcases ho with z | z
          · subst z
            rw [show (2 : Nat) ^ (0 + 1 - 1) = 2 ^ (0 - 1) from rfl]
            refine Nat.lt_of_le_of_lt (Nat.mul_le_mul_right _ ?_) hs
            rw [Nat.mul_comm a b]
            exact Nat.mul_le_mul_left b (Nat.mod_le a b)
          · have h2 := half_step hb z
            rcases t with _ | t
            · refine Nat.lt_of_le_of_lt (Nat.mul_le_mul_right _ ?_) hs
              omega
            · show b * (a % b) * 2 ^ (t + 1) < 2 ^ 890
              refine Nat.lt_of_le_of_lt ?_ (show (a * b) * 2 ^ t < 2 ^ 890 from hs)
              rw [Nat.pow_succ, Nat.mul_comm (2 ^ t) 2, ← Nat.mul_assoc]
              refine Nat.mul_le_mul_right _ ?_
              rw [Nat.mul_comm]
              exact h2
    · rintro σ H1 ⟨a, b, c, c1, rfl, rfl, hg, ho, hs⟩
      have hb : a * b = 0 := by
        rcases Nat.eq_zero_or_pos (a * b) with z | z
        · exact z
        · exfalso
          have h1 : 1 * 2 ^ (900 - 1) ≤ (a * b) * 2 ^ (900 - 1) := Nat.mul_le_mul_right _ z
          have h2 : (2 : Nat) ^ 890 ≤ 1 * 2 ^ (900 - 1) := by decide
          omega
      have hb0 : b = 0 := by
        rcases Nat.mul_eq_zero.mp hb with z | z
        · rcases ho with w | w <;> omega
        · exact z
      subst hb0
      rw [Nat.gcd_zero_right] at hg
      refine ⟨_, rfl, ?_⟩
      rw [hg]
      exact q
/-! ### the law's own comparison -/
def Scal : V → Prop
  | .non => True
  | .bl _ => True
  | .int _ => True
  | .str _ => True
  | _ => False
def Lk (H : Hp) : Nat → V → V → Prop
  | 0, x, y => x = y ∧ Scal y
  | n + 1, x, y => (x = y ∧ Scal y) ∨
    (∃ a b xs ys, x = .ref a ∧ y = .ref b ∧ H a = some (.tup xs) ∧ H b = some (.tup ys) ∧ xs.length = ys.length ∧ xs.length ≤ 100000 ∧ ∀ (i : Nat) u v, xs[i]? = some u → ys[i]? = some v → Lk H n u v) ∨
    (∃ a b xs ys, x = .ref a ∧ y = .ref b ∧ H a = some (.lst xs) ∧ H b = some (.lst ys) ∧ xs.length = ys.length ∧ xs.length ≤ 100000 ∧ ∀ (i : Nat) u v, xs[i]? = some u → ys[i]? = some v → Lk H n u v)
theorem isi {K : PySem.W.Frag} {H : Hp} {x : V} {t c : String} {b : Bool} {Q : VK} (ty : TyX K H x (.type t)) (h : kitB t c = some b) (q : Q (.bl b) H) : rIsi K [x, .ty c] H Q := ⟨x, .ty c, _, _, b, rfl, .ty c, ty, kit_ty h, q⟩
def spSame (K : PySem.W.Frag) (n : Nat) : Sp := fun vs H Q _ => ∃ (x y : V), vs = [x, y] ∧ Lk H n x y ∧ Q (.bl true) H
theorem okLawSame (T : Txt K mg) : ∀ n : Nat, FnOk P w K mg base CX0 (n + 1) T.fLawSame T.fdLawSame ["actual", "due"] (spSame K n)
  | 0 => by
    refine T.FLawSame.ok scLawSame (fun vs H Q E h => ?_) (fun cdv A outer s H vs Q E hr h => ?_)
    · obtain ⟨x, y, rfl, _⟩ := h
      rfl
    · obtain ⟨x, y, rfl, ⟨rfl, sy⟩, q⟩ := h
      -- slots actual=0 due=1 k=2
      refine ⟨_, (pss_cons (ps_if (PW.pt (pw_or (pt_val (pe_callB call_isi (by rfl) T.z_isinstance (by decide +kernel) (pa_cons (pv 1) (pa_cons (pe_bltn (v := .ty "list") (by rfl) T.z_list (by decide +kernel) rfl) pa_nil)))) (pw_or1 (pt_val (pe_callB call_isi (by rfl) T.z_isinstance (by decide +kernel) (pa_cons (pv 1) (pa_cons (pe_bltn (v := .ty "tuple") (by rfl) T.z_tuple (by decide +kernel) rfl) pa_nil)))))))
            (pss_cons ps_never
            (pss_cons ps_never
            (pss_cons ps_never
            (pss_one ps_never))))
            pss_nil)
          (pss_cons (ps_if (pt_cmpR op_isN (pv 1) pe_non (nomark _))
            (pss_one (ps_ret (pe_cmpR op_isN (pv 0) pe_non (nomark _))))
            pss_nil)
          (pss_cons (ps_if (pt_val (pe_callB call_isi (by rfl) T.z_isinstance (by decide +kernel) (pa_cons (pv 1) (pa_cons (pe_bltn (v := .ty "bool") (by rfl) T.z_bool (by decide +kernel) rfl) pa_nil))))
            (pss_one (ps_ret (pe_and (pe_callB call_isi (by rfl) T.z_isinstance (by decide +kernel) (pa_cons (pv 0) (pa_cons (pe_bltn (v := .ty "bool") (by rfl) T.z_bool (by decide +kernel) rfl) pa_nil))) (pe_one (pe_cmpR op_eq (pv 0) (pv 1) (nomark _))))))
            pss_nil)
          (pss_cons (ps_if (pt_val (pe_callB call_isi (by rfl) T.z_isinstance (by decide +kernel) (pa_cons (pv 1) (pa_cons (pe_bltn (v := .ty "str") (by rfl) T.z_str (by decide +kernel) rfl) pa_nil))))
            (pss_one (ps_ret (pe_and (pe_callB call_isi (by rfl) T.z_isinstance (by decide +kernel) (pa_cons (pv 0) (pa_cons (pe_bltn (v := .ty "str") (by rfl) T.z_str (by decide +kernel) rfl) pa_nil))) (pe_one (pe_cmpR op_eq (pv 0) (pv 1) (nomark _))))))
            pss_nil)
          (pss_one (ps_ret (pe_and (pe_callB call_isi (by rfl) T.z_isinstance (by decide +kernel) (pa_cons (pv 0) (pa_cons (pe_bltn (v := .ty "int") (by rfl) T.z_int (by decide +kernel) rfl) pa_nil))) (pe_and (pe_not (pe_callB call_isi (by rfl) T.z_isinstance (by decide +kernel) (pa_cons (pv 0) (pa_cons (pe_bltn (v := .ty "bool") (by rfl) T.z_bool (by decide +kernel) rfl) pa_nil)))) (pe_one (pe_cmpR op_eq (pv 0) (pv 1) (nomark _))))))))))), ?_⟩
      cases x with
      | non =>
        refine ⟨_, rfl, _, _, _, _, false, rfl, .ty _, .base (.non), kit_ty (by decide +kernel), _, rfl, iteF ⟨_, rfl, _, _, _, _, false, rfl, .ty _, .base (.non), kit_ty (by decide +kernel), _, rfl, iteF ?_⟩⟩
        refine ⟨_, rfl, rfl, _, rfl, ite2 (fun _ => ?_) (fun c => absurd (decide_eq_true rfl) c)⟩
        refine ⟨_, rfl, rfl, ?_⟩
        rw [decide_eq_true rfl]
        exact q
      | bl v =>
        refine ⟨_, rfl, _, _, _, _, false, rfl, .ty _, .base (.bl v), kit_ty (by decide +kernel), _, rfl, iteF ⟨_, rfl, _, _, _, _, false, rfl, .ty _, .base (.bl v), kit_ty (by decide +kernel), _, rfl, iteF ?_⟩⟩
        refine ⟨_, rfl, rfl, _, rfl, ite2 (fun c => (nomatch (of_decide_eq_true c))) (fun _ => ?_)⟩
        refine ⟨_, rfl, _, _, _, _, true, rfl, .ty _, .base (.bl v), kit_ty (by decide +kernel), _, rfl, iteT ?_⟩
        refine ⟨_, rfl, _, _, _, _, true, rfl, .ty _, .base (.bl v), kit_ty (by decide +kernel), _, rfl, iteT ?_⟩
        refine ⟨_, rfl, _, rfl, rfl, ?_⟩
        rw [decide_eq_true rfl]
        exact q
      | int v =>
        refine ⟨_, rfl, _, _, _, _, false, rfl, .ty _, .base (.int v), kit_ty (by decide +kernel), _, rfl, iteF ⟨_, rfl, _, _, _, _, false, rfl, .ty _, .base (.int v), kit_ty (by decide +kernel), _, rfl, iteF ?_⟩⟩
        refine ⟨_, rfl, rfl, _, rfl, ite2 (fun c => (nomatch (of_decide_eq_true c))) (fun _ => ?_)⟩
        refine ⟨_, rfl, _, _, _, _, false, rfl, .ty _, .base (.int v), kit_ty (by decide +kernel), _, rfl, iteF ?_⟩
        refine ⟨_, rfl, _, _, _, _, false, rfl, .ty _, .base (.int v), kit_ty (by decide +kernel), _, rfl, iteF ?_⟩
        refine ⟨_, rfl, _, _, _, _, true, rfl, .ty _, .base (.int v), kit_ty (by decide +kernel), _, rfl, iteT ?_⟩
        refine ⟨_, rfl, _, _, _, _, false, rfl, .ty _, .base (.int v), kit_ty (by decide +kernel), _, rfl, _, rfl, iteT ?_⟩
        refine ⟨_, rfl, _, rfl, rfl, ?_⟩
        rw [decide_eq_true rfl]
        exact q
      | str v =>
        refine ⟨_, rfl, _, _, _, _, false, rfl, .ty _, .base (.str v), kit_ty (by decide +kernel), _, rfl, iteF ⟨_, rfl, _, _, _, _, false, rfl, .ty _, .base (.str v), kit_ty (by decide +kernel), _, rfl, iteF ?_⟩⟩
        refine ⟨_, rfl, rfl, _, rfl, ite2 (fun c => (nomatch (of_decide_eq_true c))) (fun _ => ?_)⟩
        refine ⟨_, rfl, _, _, _, _, false, rfl, .ty _, .base (.str v), kit_ty (by decide +kernel), _, rfl, iteF ?_⟩
        refine ⟨_, rfl, _, _, _, _, true, rfl, .ty _, .base (.str v), kit_ty (by decide +kernel), _, rfl, iteT ?_⟩
        refine ⟨_, rfl, _, _, _, _, true, rfl, .ty _, .base (.str v), kit_ty (by decide +kernel), _, rfl, iteT ?_⟩
        refine ⟨_, rfl, _, rfl, rfl, ?_⟩
        rw [decide_eq_true rfl]
        exact q
      | _ => exact sy.elim
  | n + 1 => by
    have IH := okLawSame T n
    refine T.FLawSame.ok scLawSame (fun vs H Q E h => ?_) (fun cdv A outer s H vs Q E hr h => ?_)
    · obtain ⟨x, y, rfl, _⟩ := h
      rfl
    · obtain ⟨x, y, rfl, hL, q⟩ := h
      -- slots actual=0 due=1 k=2
      refine ⟨_, (pss_cons (ps_if (PW.pt (pw_or (pt_val (pe_callB call_isi (by rfl) T.z_isinstance (by decide +kernel) (pa_cons (pv 1) (pa_cons (pe_bltn (v := .ty "list") (by rfl) T.z_list (by decide +kernel) rfl) pa_nil)))) (pw_or1 (pt_val (pe_callB call_isi (by rfl) T.z_isinstance (by decide +kernel) (pa_cons (pv 1) (pa_cons (pe_bltn (v := .ty "tuple") (by rfl) T.z_tuple (by decide +kernel) rfl) pa_nil)))))))
            (pss_cons (ps_if (PW.pt (pw_or (pt_cmpR op_ne (pe_callB call_isi (by rfl) T.z_isinstance (by decide +kernel) (pa_cons (pv 1) (pa_cons (pe_bltn (v := .ty "list") (by rfl) T.z_list (by decide +kernel) rfl) pa_nil))) (pe_callB call_isi (by rfl) T.z_isinstance (by decide +kernel) (pa_cons (pv 0) (pa_cons (pe_bltn (v := .ty "list") (by rfl) T.z_list (by decide +kernel) rfl) pa_nil))) (nomark _)) (pw_or1 (pt_cmpR op_ne (pe_callB call_isi (by rfl) T.z_isinstance (by decide +kernel) (pa_cons (pv 1) (pa_cons (pe_bltn (v := .ty "tuple") (by rfl) T.z_tuple (by decide +kernel) rfl) pa_nil))) (pe_callB call_isi (by rfl) T.z_isinstance (by decide +kernel) (pa_cons (pv 0) (pa_cons (pe_bltn (v := .ty "tuple") (by rfl) T.z_tuple (by decide +kernel) rfl) pa_nil))) (nomark _)))))
              (pss_one (ps_ret pe_bl))
              pss_nil)
            (pss_cons (ps_if (pt_cmpR op_ne (pe_callB call_len_seq (by rfl) T.z_len PySem.boot_len (pa_cons (pv 0) pa_nil)) (pe_callB call_len_seq (by rfl) T.z_len PySem.boot_len (pa_cons (pv 1) pa_nil)) (nomark _))
              (pss_one (ps_ret pe_bl))
              pss_nil)
            (pss_cons (ps_for PassesOwn.never rfl (pi_range1 rfl T.z_range (pa_cons (pe_callB call_len_seq (by rfl) T.z_len PySem.boot_len (pa_cons (pv 1) pa_nil)) pa_nil)) (pg_name (i := 2) scLawSame.nd rfl (Or.inl rfl))
              (pss_one (ps_if (pt_not (pt_val (pe_call IH (hr.mono (Nat.le_refl _)) (by rfl) T.gLawSame T.FLawSame.kp T.bLawSame .nil pass0 (pa_cons (pe_ix ix_seq (pv 0) (pv 2) (fun _ _ => rfl)) (pa_cons (pe_ix ix_seq (pv 1) (pv 2) (fun _ _ => rfl)) pa_nil)))))
                (pss_one (ps_ret pe_bl))
                pss_nil)))
            (pss_one (ps_ret pe_bl)))))
            pss_nil)
          (pss_cons (ps_if (pt_cmpR op_isN (pv 1) pe_non (nomark _))
            (pss_one (ps_ret (pe_cmpR op_isN (pv 0) pe_non (nomark _))))
            pss_nil)
          (pss_cons (ps_if (pt_val (pe_callB call_isi (by rfl) T.z_isinstance (by decide +kernel) (pa_cons (pv 1) (pa_cons (pe_bltn (v := .ty "bool") (by rfl) T.z_bool (by decide +kernel) rfl) pa_nil))))
            (pss_one (ps_ret (pe_and (pe_callB call_isi (by rfl) T.z_isinstance (by decide +kernel) (pa_cons (pv 0) (pa_cons (pe_bltn (v := .ty "bool") (by rfl) T.z_bool (by decide +kernel) rfl) pa_nil))) (pe_one (pe_cmpR op_eq (pv 0) (pv 1) (nomark _))))))
            pss_nil)
          (pss_cons (ps_if (pt_val (pe_callB call_isi (by rfl) T.z_isinstance (by decide +kernel) (pa_cons (pv 1) (pa_cons (pe_bltn (v := .ty "str") (by rfl) T.z_str (by decide +kernel) rfl) pa_nil))))
            (pss_one (ps_ret (pe_and (pe_callB call_isi (by rfl) T.z_isinstance (by decide +kernel) (pa_cons (pv 0) (pa_cons (pe_bltn (v := .ty "str") (by rfl) T.z_str (by decide +kernel) rfl) pa_nil))) (pe_one (pe_cmpR op_eq (pv 0) (pv 1) (nomark _))))))
            pss_nil)
          (pss_one (ps_ret (pe_and (pe_callB call_isi (by rfl) T.z_isinstance (by decide +kernel) (pa_cons (pv 0) (pa_cons (pe_bltn (v := .ty "int") (by rfl) T.z_int (by decide +kernel) rfl) pa_nil))) (pe_and (pe_not (pe_callB call_isi (by rfl) T.z_isinstance (by decide +kernel) (pa_cons (pv 0) (pa_cons (pe_bltn (v := .ty "bool") (by rfl) T.z_bool (by decide +kernel) rfl) pa_nil)))) (pe_one (pe_cmpR op_eq (pv 0) (pv 1) (nomark _))))))))))), ?_⟩
      rcases hL with ⟨rfl, sy⟩ | ⟨a, b, xs, ys, rfl, rfl, ha, hb, hl, hz, hi⟩ | ⟨a, b, xs, ys, rfl, rfl, ha, hb, hl, hz, hi⟩
      · cases x with
        | non =>
          refine ⟨_, rfl, _, _, _, _, false, rfl, .ty _, .base (.non), kit_ty (by decide +kernel), _, rfl, iteF ⟨_, rfl, _, _, _, _, false, rfl, .ty _, .base (.non), kit_ty (by decide +kernel), _, rfl, iteF ?_⟩⟩
          refine ⟨_, rfl, rfl, _, rfl, ite2 (fun _ => ?_) (fun c => absurd (decide_eq_true rfl) c)⟩
          refine ⟨_, rfl, rfl, ?_⟩
          rw [decide_eq_true rfl]
          exact q
        | bl v =>
          refine ⟨_, rfl, _, _, _, _, false, rfl, .ty _, .base (.bl v), kit_ty (by decide +kernel), _, rfl, iteF ⟨_, rfl, _, _, _, _, false, rfl, .ty _, .base (.bl v), kit_ty (by decide +kernel), _, rfl, iteF ?_⟩⟩
          refine ⟨_, rfl, rfl, _, rfl, ite2 (fun c => (nomatch (of_decide_eq_true c))) (fun _ => ?_)⟩
          refine ⟨_, rfl, _, _, _, _, true, rfl, .ty _, .base (.bl v), kit_ty (by decide +kernel), _, rfl, iteT ?_⟩
          refine ⟨_, rfl, _, _, _, _, true, rfl, .ty _, .base (.bl v), kit_ty (by decide +kernel), _, rfl, iteT ?_⟩
          refine ⟨_, rfl, _, rfl, rfl, ?_⟩
          rw [decide_eq_true rfl]
          exact q
        | int v =>
          refine ⟨_, rfl, _, _, _, _, false, rfl, .ty _, .base (.int v), kit_ty (by decide +kernel), _, rfl, iteF ⟨_, rfl, _, _, _, _, false, rfl, .ty _, .base (.int v), kit_ty (by decide +kernel), _, rfl, iteF ?_⟩⟩
          refine ⟨_, rfl, rfl, _, rfl, ite2 (fun c => (nomatch (of_decide_eq_true c))) (fun _ => ?_)⟩
          refine ⟨_, rfl, _, _, _, _, false, rfl, .ty _, .base (.int v), kit_ty (by decide +kernel), _, rfl, iteF ?_⟩
          refine ⟨_, rfl, _, _, _, _, false, rfl, .ty _, .base (.int v), kit_ty (by decide +kernel), _, rfl, iteF ?_⟩
          refine ⟨_, rfl, _, _, _, _, true, rfl, .ty _, .base (.int v), kit_ty (by decide +kernel), _, rfl, iteT ?_⟩
          refine ⟨_, rfl, _, _, _, _, false, rfl, .ty _, .base (.int v), kit_ty (by decide +kernel), _, rfl, _, rfl, iteT ?_⟩
          refine ⟨_, rfl, _, rfl, rfl, ?_⟩
          rw [decide_eq_true rfl]
          exact q
        | str v =>
          refine ⟨_, rfl, _, _, _, _, false, rfl, .ty _, .base (.str v), kit_ty (by decide +kernel), _, rfl, iteF ⟨_, rfl, _, _, _, _, false, rfl, .ty _, .base (.str v), kit_ty (by decide +kernel), _, rfl, iteF ?_⟩⟩
          refine ⟨_, rfl, rfl, _, rfl, ite2 (fun c => (nomatch (of_decide_eq_true c))) (fun _ => ?_)⟩
          refine ⟨_, rfl, _, _, _, _, false, rfl, .ty _, .base (.str v), kit_ty (by decide +kernel), _, rfl, iteF ?_⟩
          refine ⟨_, rfl, _, _, _, _, true, rfl, .ty _, .base (.str v), kit_ty (by decide +kernel), _, rfl, iteT ?_⟩
          refine ⟨_, rfl, _, _, _, _, true, rfl, .ty _, .base (.str v), kit_ty (by decide +kernel), _, rfl, iteT ?_⟩
          refine ⟨_, rfl, _, rfl, rfl, ?_⟩
          rw [decide_eq_true rfl]
          exact q
        | _ => exact sy.elim
      · refine ⟨_, rfl, _, _, _, _, false, rfl, .ty _, .base (.tup hb), kit_ty (by decide +kernel), _, rfl, iteF ⟨_, rfl, _, _, _, _, true, rfl, .ty _, .base (.tup hb), kit_ty (by decide +kernel), _, rfl, iteT ?_⟩⟩
        refine ⟨_, rfl, _, _, _, _, false, rfl, .ty _, .base (.tup hb), kit_ty (by decide +kernel), _, rfl, _, _, _, _, false, rfl, .ty _, .base (.tup ha), kit_ty (by decide +kernel), rfl, _, rfl, iteNS rfl ?_⟩
        refine ⟨_, rfl, _, _, _, _, true, rfl, .ty _, .base (.tup hb), kit_ty (by decide +kernel), _, rfl, _, _, _, _, true, rfl, .ty _, .base (.tup ha), kit_ty (by decide +kernel), rfl, _, rfl, iteNS rfl ?_⟩
        refine ⟨_, rfl, a, _, rfl, .inr (SqT.of ha), _, rfl, b, _, rfl, .inr (SqT.of hb), rfl, _, rfl, iteNS (by rw [hl]) ?_⟩
        refine ⟨_, rfl, b, _, rfl, .inr (SqT.of hb), _, rfl, by omega, by omega, for_range (lo := 0) (n := ys.length) (fun i σ H' => H' = H ∧ ∃ k, σ = [some (.ref a), some (.ref b), k]) ⟨rfl, _, rfl⟩ ?_ ?_⟩
        · rintro i σ H1 hi2 ⟨rfl, k, rfl⟩
          have e1 : xs[i]? = some xs[i] := List.getElem?_eq_getElem (by omega)
          have e2 : ys[i]? = some ys[i] := List.getElem?_eq_getElem hi2
          have z : (0 : Int) + (i : Int) = ((i : Nat) : Int) := Int.zero_add _
          refine ⟨_, rfl, _, rfl, .inr (.inl ⟨a, _, _, _, rfl, rfl, SqT.of ha, by rw [z]; exact atI_nat e1, _, rfl, _, rfl, .inr (.inl ⟨b, _, _, _, rfl, rfl, SqT.of hb, by rw [z]; exact atI_nat e2, ?_⟩)⟩)⟩
          exact ⟨_, _, rfl, hi i _ _ e1 e2, _, rfl, iteF ⟨rfl, _, rfl⟩⟩
        · rintro σ H1 ⟨rfl, k, rfl⟩
          exact q
      · refine ⟨_, rfl, _, _, _, _, true, rfl, .ty _, .base (.lst hb), kit_ty (by decide +kernel), _, rfl, iteT ?_⟩
        refine ⟨_, rfl, _, _, _, _, true, rfl, .ty _, .base (.lst hb), kit_ty (by decide +kernel), _, rfl, _, _, _, _, true, rfl, .ty _, .base (.lst ha), kit_ty (by decide +kernel), rfl, _, rfl, iteNS rfl ?_⟩
        refine ⟨_, rfl, _, _, _, _, false, rfl, .ty _, .base (.lst hb), kit_ty (by decide +kernel), _, rfl, _, _, _, _, false, rfl, .ty _, .base (.lst ha), kit_ty (by decide +kernel), rfl, _, rfl, iteNS rfl ?_⟩
        refine ⟨_, rfl, a, _, rfl, .inl (SqL.of ha), _, rfl, b, _, rfl, .inl (SqL.of hb), rfl, _, rfl, iteNS (by rw [hl]) ?_⟩
        refine ⟨_, rfl, b, _, rfl, .inl (SqL.of hb), _, rfl, by omega, by omega, for_range (lo := 0) (n := ys.length) (fun i σ H' => H' = H ∧ ∃ k, σ = [some (.ref a), some (.ref b), k]) ⟨rfl, _, rfl⟩ ?_ ?_⟩
        · rintro i σ H1 hi2 ⟨rfl, k, rfl⟩
          have e1 : xs[i]? = some xs[i] := List.getElem?_eq_getElem (by omega)
          have e2 : ys[i]? = some ys[i] := List.getElem?_eq_getElem hi2
          have z : (0 : Int) + (i : Int) = ((i : Nat) : Int) := Int.zero_add _
          refine ⟨_, rfl, _, rfl, .inl (⟨a, _, _, _, rfl, rfl, SqL.of ha, by rw [z]; exact atI_nat e1, _, rfl, _, rfl, .inl (⟨b, _, _, _, rfl, rfl, SqL.of hb, by rw [z]; exact atI_nat e2, ?_⟩)⟩)⟩
          exact ⟨_, _, rfl, hi i _ _ e1 e2, _, rfl, iteF ⟨rfl, _, rfl⟩⟩
        · rintro σ H1 ⟨rfl, k, rfl⟩
          exact q
/-! ### fractions in lowest terms -/
theorem op_fdivZ {X : Cx} : OpR X (binaryOp .FloorDiv) (rI (fun _ j => j ≠ 0 ∧ j.natAbs.log2 < 9000) fun i j => .int (i.fdiv j)) := opI fun i j _ _ _ _ _ hc q => floordiv_int hc.1 q (.inl (PyProof.noPylong_of_log2 hc.2))
structure Low (n d x y : Int) : Prop where
  pos : 0 < y
  eq : x * d = n * y
  cop : Nat.gcd x.natAbs y.natAbs = 1
  lx : x.natAbs ≤ n.natAbs
  ly : y.natAbs ≤ d.natAbs
def cmn (n d : Int) : Int := if d < 0 then -((Nat.gcd n.natAbs d.natAbs : Nat) : Int) else ((Nat.gcd n.natAbs d.natAbs : Nat) : Int)
theorem cmn_abs (n d : Int) : (cmn n d).natAbs = Nat.gcd n.natAbs d.natAbs := by
  unfold cmn
  split <;> omega
theorem low_of {n d : Int} (hd : d ≠ 0) : Low n d (n.fdiv (cmn n d)) (d.fdiv (cmn n d)) := by
  have hg : 0 < Nat.gcd n.natAbs d.natAbs := Nat.gcd_pos_of_pos_right _ (by omega)
  have ha := cmn_abs n d
  have hc : cmn n d ≠ 0 := by omega
  have d1 : cmn n d ∣ n := Int.natAbs_dvd_natAbs.mp (by rw [ha]; exact Nat.gcd_dvd_left _ _)
  have d2 : cmn n d ∣ d := Int.natAbs_dvd_natAbs.mp (by rw [ha]; exact Nat.gcd_dvd_right _ _)
  have sg : 0 < d → 0 < cmn n d := fun h => by
    unfold cmn
    rw [if_neg (by omega)]
    omega
  have sg2 : d < 0 → cmn n d < 0 := fun h => by
    unfold cmn
    rw [if_pos h]
    omega
  obtain ⟨x, hx⟩ := d1
  obtain ⟨y, hy⟩ := d2
  generalize cmn n d = c at *
  have e1 : n.fdiv c = x := by rw [hx]; exact Int.mul_fdiv_cancel_left _ hc
  have e2 : d.fdiv c = y := by rw [hy]; exact Int.mul_fdiv_cancel_left _ hc
  rw [e1, e2]
  have y0 : 0 < y := by
    rcases Int.lt_trichotomy d 0 with h | h | h
    · have hc2 := sg2 h
      rcases Int.lt_trichotomy y 0 with z | z | z
      · have := Int.mul_pos_of_neg_of_neg hc2 z
        omega
      · subst z
        simp at hy
        omega
      · exact z
    · exact absurd h hd
    · have hc2 := sg h
      rcases Int.lt_trichotomy y 0 with z | z | z
      · have := Int.mul_neg_of_pos_of_neg hc2 z
        omega
      · subst z
        simp at hy
        omega
      · exact z
  have en : n.natAbs = c.natAbs * x.natAbs := by rw [hx, Int.natAbs_mul]
  have ed : d.natAbs = c.natAbs * y.natAbs := by rw [hy, Int.natAbs_mul]
  refine ⟨y0, ?_, ?_, ?_, ?_⟩
  · rw [hx, hy, Int.mul_assoc, Int.mul_comm x, Int.mul_assoc, Int.mul_comm x]
  · rw [en, ed, Nat.gcd_mul_left] at ha
    rw [en, ed, Nat.gcd_mul_left] at hg
    have z : c.natAbs * 1 = c.natAbs * Nat.gcd x.natAbs y.natAbs := by rw [Nat.mul_one]; exact ha
    exact (Nat.eq_of_mul_eq_mul_left (by omega) z).symm
  · rw [en]
    exact Nat.le_mul_of_pos_left _ (by omega)
  · rw [ed]
    exact Nat.le_mul_of_pos_left _ (by omega)
def spFraction (K : PySem.W.Frag) : Sp := fun vs H Q _ => ∃ (n d : Int), vs = [.int n, .int d] ∧ d ≠ 0 ∧ d.natAbs < 2 ^ 900 ∧ ∀ p x y, H p = none → Low n d x y → Q (.ref p) (upd H p (.tup [.int x, .int y]))
theorem okFraction (T : Txt K mg) : FnOk P w K mg base CX0 1 T.fFraction T.fdFraction ["n", "d"] (spFraction K) := by
  refine T.FFraction.ok scFraction (fun vs H Q E h => ?_) (fun cdv A outer s H vs Q E hr h => ?_)
  · obtain ⟨n, d, rfl, _⟩ := h
    rfl
  · obtain ⟨n, d, rfl, hd, hz, q⟩ := h
    -- slots n=0 d=1 common=2
    refine ⟨_, (pss_cons (ps_set (i := 2) scFraction.nd rfl (Or.inl rfl) (pe_callBfun cr_gcd (by rfl) T.g_gcd (pa_cons (pv 0) (pa_cons (pv 1) pa_nil))))
        (C8.pss_cut (ps_if (pt_cmpR op_lt (pv 1) pe_int (nomark _))
          (pss_one (ps_set (i := 2) scFraction.nd rfl (Or.inl rfl) (pe_un un_neg (pv 2))))
          pss_nil)
        (pss_one (ps_ret (pe_tup (pa_cons (pe_op op_fdivZ (pv 0) (pv 2)) (pa_cons (pe_op op_fdivZ (pv 1) (pv 2)) pa_nil))))))), ?_⟩
    have hb : (cmn n d).natAbs < 2 ^ 900 := by
      rw [cmn_abs]
      exact Nat.lt_of_le_of_lt (Nat.le_of_dvd (by omega) (Nat.gcd_dvd_right _ _)) hz
    have hl : (cmn n d).natAbs.log2 < 9000 := Nat.lt_of_lt_of_le (PySem.Flt.log2_lt_of (by decide) hb) (by decide)
    have h0 : cmn n d ≠ 0 := by
      have := cmn_abs n d
      have hg : 0 < Nat.gcd n.natAbs d.natAbs := Nat.gcd_pos_of_pos_right _ (by omega)
      omega
    refine ⟨_, rfl, _, rfl, _, _, rfl, ?_⟩
    refine ⟨fun σ H' => H' = H ∧ σ = [some (.int n), some (.int d), some (.int (cmn n d))], ?_, ?_⟩
    · refine ⟨_, rfl, _, _, rfl, rfl, _, rfl, ite2 (fun c => ?_) (fun c => ?_)⟩
      · refine ⟨_, rfl, _, rfl, rfl, ?_⟩
        have c2 : d < 0 := of_decide_eq_true c
        unfold cmn
        rw [if_pos c2]
        rfl
      · refine ⟨rfl, ?_⟩
        have c2 : ¬ d < 0 := fun z => c (decide_eq_true z)
        unfold cmn
        rw [if_neg c2]
        rfl
    · rintro σ H' ⟨rfl, rfl⟩
      refine ⟨_, rfl, _, rfl, _, _, rfl, rfl, ⟨h0, hl⟩, _, rfl, _, rfl, _, _, rfl, rfl, ⟨h0, hl⟩, (by show 2 ≤ sizeLine; decide), fun p hp => ?_⟩
      exact q p _ _ hp (low_of hd)
def spLaw (K : PySem.W.Frag) : Sp := fun vs H Q _ => ∃ (a : Addr) (ns : List Int), vs = [.ref a] ∧ SqL K H a (ns.map V.int) ∧ ns.length ≤ 63 ∧ ∀ H', Q (.bl true) H'
theorem okLaw (T : Txt K mg) : FnOk P w K mg base CX0 3 T.fLaw T.fdLaw ["script"] (spLaw K) := by
  refine T.FLaw.ok scLaw (fun vs H Q E h => ?_) (fun cdv A outer s H vs Q E hr h => ?_)
  · obtain ⟨a, ns, rfl, _⟩ := h
    rfl
  · obtain ⟨a, ns, rfl, hS, hlen, q⟩ := h
    -- slots script=0 box=1 n=2 d=3 factor=4 x=5 over=6 under=7
    refine ⟨_, (pss_cons (ps_set (i := 1) scLaw.nd rfl (Or.inl rfl) (pe_lst (pa_cons (pe_call (okLawDigits T) (hr.mono (by decide)) (by rfl) T.gLawDigits T.FLawDigits.kp T.bLawDigits .nil pass0 (pa_cons (pv 0) (pa_cons pe_int (pa_cons pe_int pa_nil)))) (pa_cons pe_int pa_nil))))
        (pss_cons (ps_set (i := 2) scLaw.nd rfl (Or.inl rfl) (pe_call (okLawBig T) (hr.mono (by decide)) (by rfl) T.gLawBig T.FLawBig.kp T.bLawBig .nil pass0 (pa_cons (pv 1) (pa_cons (pe_call (okLawDraw T) (hr.mono (by decide)) (by rfl) T.gLawDraw T.FLawDraw.kp T.bLawDraw .nil pass0 (pa_cons (pv 1) (pa_cons pe_int pa_nil))) pa_nil))))
        (pss_cons (ps_set (i := 3) scLaw.nd rfl (Or.inl rfl) (pe_op op_add pe_int (pe_call (okLawBig T) (hr.mono (by decide)) (by rfl) T.gLawBig T.FLawBig.kp T.bLawBig .nil pass0 (pa_cons (pv 1) (pa_cons (pe_call (okLawDraw T) (hr.mono (by decide)) (by rfl) T.gLawDraw T.FLawDraw.kp T.bLawDraw .nil pass0 (pa_cons (pv 1) (pa_cons pe_int pa_nil))) pa_nil)))))
        (pss_cons (ps_set (i := 4) scLaw.nd rfl (Or.inl rfl) (pe_op op_add pe_int (pe_call (okLawBig T) (hr.mono (by decide)) (by rfl) T.gLawBig T.FLawBig.kp T.bLawBig .nil pass0 (pa_cons (pv 1) (pa_cons (pe_call (okLawDraw T) (hr.mono (by decide)) (by rfl) T.gLawDraw T.FLawDraw.kp T.bLawDraw .nil pass0 (pa_cons (pv 1) (pa_cons pe_int pa_nil))) pa_nil)))))
        (C8.pss_cut (ps_if (pt_cmpR op_eq (pe_call (okLawDraw T) (hr.mono (by decide)) (by rfl) T.gLawDraw T.FLawDraw.kp T.bLawDraw .nil pass0 (pa_cons (pv 1) (pa_cons pe_int pa_nil))) pe_int (nomark _))
          (pss_one (ps_set (i := 2) scLaw.nd rfl (Or.inl rfl) (pe_op op_sub pe_int (pv 2))))
          pss_nil)
        (C8.pss_cut (ps_if (pt_cmpR op_eq (pe_call (okLawDraw T) (hr.mono (by decide)) (by rfl) T.gLawDraw T.FLawDraw.kp T.bLawDraw .nil pass0 (pa_cons (pv 1) (pa_cons pe_int pa_nil))) pe_int (nomark _))
          (pss_one (ps_set (i := 3) scLaw.nd rfl (Or.inl rfl) (pe_op op_sub pe_int (pv 3))))
          pss_nil)
        (pss_cons (ps_set (i := 5) scLaw.nd rfl (Or.inl rfl) (pe_call (okFraction T) (hr.mono (by decide)) (by rfl) T.gFraction T.FFraction.kp T.bFraction .nil pass0 (pa_cons (pe_op op_mul (pv 2) (pv 4)) (pa_cons (pe_op op_mul (pv 3) (pv 4)) pa_nil))))
        (pss_cons (ps_if (PW.pt (pw_or (pt_not (pt_val (pe_callB call_isi (by rfl) T.z_isinstance (by decide +kernel) (pa_cons (pv 5) (pa_cons (pe_bltn (v := .ty "tuple") (by rfl) T.z_tuple (by decide +kernel) rfl) pa_nil))))) (pw_or1 (pt_cmpR op_ne (pe_callB call_len_seq (by rfl) T.z_len PySem.boot_len (pa_cons (pv 5) pa_nil)) pe_int (nomark _)))))
          (pss_one (ps_ret pe_bl))
          pss_nil)
        (pss_cons (ps_set (i := 6) scLaw.nd rfl (Or.inl rfl) (pe_ix ix_tup (pv 5) pe_int (fun _ _ => rfl)))
        (pss_cons (ps_set (i := 7) scLaw.nd rfl (Or.inl rfl) (pe_ix ix_tup (pv 5) pe_int (fun _ _ => rfl)))
        (pss_cons (ps_if (PW.pt (pw_or (pt_not (pt_val (pe_call (okLawSame T 0) (hr.mono (by decide)) (by rfl) T.gLawSame T.FLawSame.kp T.bLawSame .nil pass0 (pa_cons (pv 6) (pa_cons (pe_callTy call_int1 (by rfl) T.z_int (by decide +kernel) (pa_cons (pv 6) pa_nil)) pa_nil))))) (pw_or1 (pt_not (pt_val (pe_call (okLawSame T 0) (hr.mono (by decide)) (by rfl) T.gLawSame T.FLawSame.kp T.bLawSame .nil pass0 (pa_cons (pv 7) (pa_cons (pe_callTy call_int1 (by rfl) T.z_int (by decide +kernel) (pa_cons (pv 7) pa_nil)) pa_nil))))))))
          (pss_one (ps_ret pe_bl))
          pss_nil)
        (pss_cons (ps_if (PW.pt (pw_or (pt_cmpR op_lt (pv 7) pe_int (nomark _)) (pw_or1 (pt_cmpR op_ne (pe_op op_mul (pv 6) (pv 3)) (pe_op op_mul (pv 2) (pv 7)) (nomark _)))))
          (pss_one (ps_ret pe_bl))
          pss_nil)
        (pss_one (ps_ret (pe_cmpR op_eq (pe_call (okLawGcd T) (hr.mono (by decide)) (by rfl) T.gLawGcd T.FLawGcd.kp T.bLawGcd .nil pass0 (pa_cons (pv 6) (pa_cons (pv 7) pa_nil))) pe_int (nomark _)))))))))))))))), ?_⟩
    have pw : ∀ m : Int, 0 ≤ m → m < 7 → (1000 : Int) ^ m.toNat ≤ 10 ^ 18 := fun m h0 h1 => by
      have e : m = 0 ∨ m = 1 ∨ m = 2 ∨ m = 3 ∨ m = 4 ∨ m = 5 ∨ m = 6 := by omega
      rcases e with rfl | rfl | rfl | rfl | rfl | rfl | rfl <;> decide
    have pw3 : ∀ m : Int, 0 ≤ m → m < 3 → (1000 : Int) ^ m.toNat ≤ 10 ^ 6 := fun m h0 h1 => by
      have e : m = 0 ∨ m = 1 ∨ m = 2 := by omega
      rcases e with rfl | rfl | rfl <;> decide
    -- box
    refine ⟨_, rfl, a, ns, 0, 63, rfl, by decide, by decide, hS, fun H1 d0 ds s1 hdn hd0 _ => ⟨by show 2 ≤ sizeLine; decide, fun b hb => ?_⟩⟩
    have hb2 : b ≠ d0 := fun z => by
      rw [z, hd0] at hb
      cases hb
    have B0 : Box (upd H1 b (.lst [.ref d0, .int 0])) b := ⟨d0, ds, 0, upd_same, by rw [upd_ne hb2.symm]; exact hd0, hb2⟩
    -- n, d, factor
    refine ⟨_, rfl, _, rfl, b, 7, rfl, by decide, B0, fun m1 H2 m0 m7 B1 _ => ⟨b, m1, rfl, m0, by omega, B1, fun n H3 n0 n1 B2 _ => ?_⟩⟩
    refine ⟨_, rfl, _, rfl, b, 7, rfl, by decide, B2, fun m2 H4 p0 p7 B3 _ => ⟨b, m2, rfl, p0, by omega, B3, fun d1 H5 d10 d11 B4 _ => ⟨_, _, rfl, rfl, ?_⟩⟩⟩
    refine ⟨_, rfl, _, rfl, b, 3, rfl, by decide, B4, fun m3 H6 r0 r7 B5 _ => ⟨b, m3, rfl, r0, by omega, B5, fun f1 H7 f10 f11 B6 _ => ⟨_, _, rfl, rfl, ?_⟩⟩⟩
    have bn := pw m1 m0 m7
    have bd := pw m2 p0 p7
    have bf := pw3 m3 r0 r7
    refine ⟨fun σ H' => ∃ n : Int, σ = [some (.ref a), some (.ref b), some (.int n), some (.int (1 + d1)), some (.int (1 + f1)), none, none, none] ∧ n.natAbs < 10 ^ 18 ∧ Box H' b, ?_, ?_⟩
    · refine ⟨_, rfl, b, 2, rfl, by decide, B6, fun y H8 y0 y1 B7 _ => ⟨rfl, _, rfl, ite2 (fun _ => ?_) (fun _ => ?_)⟩⟩
      · exact ⟨_, rfl, _, _, rfl, rfl, 0 - n, rfl, by omega, B7⟩
      · exact ⟨n, rfl, by omega, B7⟩
    clear n0 n1 bn
    rintro σ H8 ⟨n, rfl, hn, B7⟩
    refine ⟨fun σ H' => ∃ d : Int, σ = [some (.ref a), some (.ref b), some (.int n), some (.int d), some (.int (1 + f1)), none, none, none] ∧ d.natAbs ≤ 10 ^ 18 ∧ d ≠ 0 ∧ Box H' b, ?_, ?_⟩
    · refine ⟨_, rfl, b, 2, rfl, by decide, B7, fun y H8 y0 y1 B8 _ => ⟨rfl, _, rfl, ite2 (fun _ => ?_) (fun _ => ?_)⟩⟩
      · exact ⟨_, rfl, _, _, rfl, rfl, 0 - (1 + d1), rfl, by omega, by omega, B8⟩
      · exact ⟨1 + d1, rfl, by omega, by omega, B8⟩
    rintro σ H9 ⟨d, rfl, hd, hd0, B8⟩
    have hdf : d * (1 + f1) ≠ 0 := Int.mul_ne_zero hd0 (by omega)
    have zd : (d * (1 + f1)).natAbs < 2 ^ 200 := by
      rw [Int.natAbs_mul]
      refine Nat.lt_of_le_of_lt (Nat.mul_le_mul hd (show (1 + f1).natAbs ≤ 10 ^ 6 by omega)) (by decide)
    have zn : (n * (1 + f1)).natAbs < 2 ^ 200 := by
      rw [Int.natAbs_mul]
      refine Nat.lt_of_le_of_lt (Nat.mul_le_mul (Nat.le_of_lt hn) (show (1 + f1).natAbs ≤ 10 ^ 6 by omega)) (by decide)
    -- x = fraction(..)
    refine ⟨_, rfl, _, rfl, _, _, rfl, rfl, .inl ⟨by omega, by omega⟩, _, rfl, _, rfl, _, _, rfl, rfl, .inl ⟨by omega, by omega⟩, _, _, rfl, hdf, Nat.lt_trans zd (by decide), fun p x y hp L => ?_⟩
    generalize hH : upd H9 p (.tup [.int x, .int y]) = H10
    have hx : H10 p = some (.tup [.int x, .int y]) := by rw [← hH]; exact upd_same
    refine ⟨_, rfl, _, _, _, _, true, rfl, .ty _, .base (.tup hx), kit_ty (by decide +kernel), _, rfl, iteF ⟨_, rfl, p, _, rfl, .inr (SqT.of hx), rfl, _, rfl, iteNS rfl ?_⟩⟩
    refine ⟨_, rfl, p, _, _, _, rfl, rfl, SqT.of hx, atI_nat (j := 0) rfl, ?_⟩
    refine ⟨_, rfl, p, _, _, _, rfl, rfl, SqT.of hx, atI_nat (j := 1) rfl, ?_⟩
    refine ⟨_, rfl, _, rfl, .inl ⟨_, rfl, _, _, rfl, ⟨rfl, trivial⟩, _, rfl, iteF ⟨_, rfl, _, rfl, .inl ⟨_, rfl, _, _, rfl, ⟨rfl, trivial⟩, _, rfl, iteF ?_⟩⟩⟩⟩
    have hy := L.pos
    have e : x * d = n * y := by
      have h := L.eq
      have h2 : (x * d) * (1 + f1) = (n * y) * (1 + f1) := by
        rw [Int.mul_assoc, h, Int.mul_assoc, Int.mul_comm (1 + f1) y, ← Int.mul_assoc]
      exact Int.eq_of_mul_eq_mul_right (by omega) h2
    refine ⟨_, rfl, _, _, rfl, rfl, _, rfl, ite2 (fun c => absurd (of_decide_eq_true c) (by omega)) (fun _ => ?_)⟩
    refine ⟨_, rfl, _, rfl, _, _, rfl, rfl, .inr ⟨by omega, by omega⟩, _, rfl, _, rfl, _, _, rfl, rfl, .inl ⟨by omega, by omega⟩, rfl, _, rfl, iteNS (congrArg V.int e) ?_⟩
    have z : x.natAbs * y.natAbs < 2 ^ 890 := by
      refine Nat.lt_of_le_of_lt (Nat.mul_le_mul (Nat.le_trans L.lx (Nat.le_of_lt zn)) (Nat.le_trans L.ly (Nat.le_of_lt zd))) (by decide)
    refine ⟨_, rfl, _, rfl, x, y, rfl, z, rfl, ?_⟩
    rw [L.cop, show decide (V.int ((1 : Nat) : Int) = V.int 1) = true from decide_eq_true rfl]
    exact q _
end
set_option maxHeartbeats 0 in
theorem all_mk {l : PySem.W.OpenLaw} {w : World} {K : PySem.W.Frag} {h : Heap} {mg : Str → Option Value} {fa f1 f2 f3 f4 f5 f6 f7 f8 : Addr} (X : K.In h) (G : h.Ns mainGlobals mg) (hfa : mg "law" = some (.ref fa))
    {od1 an1 od2 an2 od3 an3 od4 an4 od5 an5 od6 an6 od7 an7 od8 an8 : Option Addr} {sl1 sl2 sl3 sl4 sl5 sl6 sl7 sl8 : Array (Option Value)} {oc1 kV1 dc1 pm1 cd1 ct1 oc2 kV2 dc2 pm2 cd2 ct2 oc3 kV3 dc3 pm3 cd3 ct3 oc4 kV4 dc4 pm4 cd4 ct4 oc5 kV5 dc5 pm5 cd5 ct5 oc6 kV6 dc6 pm6 cd6 ct6 oc7 kV7 dc7 pm7 cd7 ct7 oc8 kV8 dc8 pm8 cd8 ct8 : Value}
    (a1 : PySem.W.nsIn K mainGlobals "fraction" = some (some (.ref f1))) (l1 : K.lookup f1 = some ⟨oc1, od1, .func (PySem.W.fnOf "fraction" "fraction" (defArgs sFraction) (defBody sFraction) (defScope sFraction) .none kV1 dc1 pm1 an1 cd1 ct1), sl1⟩) (c1 : PySem.W.codeIn K cd1 "fraction" = true) (k1 : PySem.W.keepIn K (.ref f1) = true)
    (a2 : PySem.W.nsIn K mainGlobals "_law_cell" = some (some (.ref f2))) (l2 : K.lookup f2 = some ⟨oc2, od2, .func (PySem.W.fnOf "_law_cell" "_law_cell" (defArgs sLawCell) (defBody sLawCell) (defScope sLawCell) .none kV2 dc2 pm2 an2 cd2 ct2), sl2⟩) (c2 : PySem.W.codeIn K cd2 "_law_cell" = true) (k2 : PySem.W.keepIn K (.ref f2) = true)
    (a3 : PySem.W.nsIn K mainGlobals "_law_digits" = some (some (.ref f3))) (l3 : K.lookup f3 = some ⟨oc3, od3, .func (PySem.W.fnOf "_law_digits" "_law_digits" (defArgs sLawDigits) (defBody sLawDigits) (defScope sLawDigits) .none kV3 dc3 pm3 an3 cd3 ct3), sl3⟩) (c3 : PySem.W.codeIn K cd3 "_law_digits" = true) (k3 : PySem.W.keepIn K (.ref f3) = true)
    (a4 : PySem.W.nsIn K mainGlobals "_law_draw" = some (some (.ref f4))) (l4 : K.lookup f4 = some ⟨oc4, od4, .func (PySem.W.fnOf "_law_draw" "_law_draw" (defArgs sLawDraw) (defBody sLawDraw) (defScope sLawDraw) .none kV4 dc4 pm4 an4 cd4 ct4), sl4⟩) (c4 : PySem.W.codeIn K cd4 "_law_draw" = true) (k4 : PySem.W.keepIn K (.ref f4) = true)
    (a5 : PySem.W.nsIn K mainGlobals "_law_big" = some (some (.ref f5))) (l5 : K.lookup f5 = some ⟨oc5, od5, .func (PySem.W.fnOf "_law_big" "_law_big" (defArgs sLawBig) (defBody sLawBig) (defScope sLawBig) .none kV5 dc5 pm5 an5 cd5 ct5), sl5⟩) (c5 : PySem.W.codeIn K cd5 "_law_big" = true) (k5 : PySem.W.keepIn K (.ref f5) = true)
    (a6 : PySem.W.nsIn K mainGlobals "_law_gcd" = some (some (.ref f6))) (l6 : K.lookup f6 = some ⟨oc6, od6, .func (PySem.W.fnOf "_law_gcd" "_law_gcd" (defArgs sLawGcd) (defBody sLawGcd) (defScope sLawGcd) .none kV6 dc6 pm6 an6 cd6 ct6), sl6⟩) (c6 : PySem.W.codeIn K cd6 "_law_gcd" = true) (k6 : PySem.W.keepIn K (.ref f6) = true)
    (a7 : PySem.W.nsIn K mainGlobals "_law_same" = some (some (.ref f7))) (l7 : K.lookup f7 = some ⟨oc7, od7, .func (PySem.W.fnOf "_law_same" "_law_same" (defArgs sLawSame) (defBody sLawSame) (defScope sLawSame) .none kV7 dc7 pm7 an7 cd7 ct7), sl7⟩) (c7 : PySem.W.codeIn K cd7 "_law_same" = true) (k7 : PySem.W.keepIn K (.ref f7) = true)
    (a8 : PySem.W.nsIn K mainGlobals "law" = some (some (.ref f8))) (l8 : K.lookup f8 = some ⟨oc8, od8, .func (PySem.W.fnOf "law" "law" (defArgs sLaw) (defBody sLaw) (defScope sLaw) .none kV8 dc8 pm8 an8 cd8 ct8), sl8⟩) (c8 : PySem.W.codeIn K cd8 "law" = true) (k8 : PySem.W.keepIn K (.ref f8) = true)
    (z_range : PySem.W.nsIn K mainGlobals "range" = some none)
    (z_abs : PySem.W.nsIn K mainGlobals "abs" = some none)
    (z_isinstance : PySem.W.nsIn K mainGlobals "isinstance" = some none)
    (z_bool : PySem.W.nsIn K mainGlobals "bool" = some none)
    (z_str : PySem.W.nsIn K mainGlobals "str" = some none)
    (z_len : PySem.W.nsIn K mainGlobals "len" = some none)
    (z_list : PySem.W.nsIn K mainGlobals "list" = some none)
    (z_tuple : PySem.W.nsIn K mainGlobals "tuple" = some none)
    (z_int : PySem.W.nsIn K mainGlobals "int" = some none)
    (x_gcd : PySem.W.nsIn K mainGlobals "gcd" = some (some (.builtin "math.gcd")))
    : ∃ fd : FuncData, (∀ (s : Shared) (v : Value), BindsTo s fd ⟨[v], []⟩ [("script", v)]) ∧ ∀ base : Heap, K.In base → base.Ns mainGlobals mg → FnOk l.prog w K mg base CX0 3 fa fd ["script"] (spLaw K) := by
  have e := hfa.symm.trans (PySem.W.mg_of X G a8)
  cases e
  have F1 := fun_mk (st := sFraction) l1 c1 k1
  have b1 := F1.binds (ps := ["n", "d"]) fun _ _ _ _ _ _ us hl => match us, hl with | [_, _], _ => rfl
  have F2 := fun_mk (st := sLawCell) l2 c2 k2
  have b2 := F2.binds (ps := ["script", "k"]) fun _ _ _ _ _ _ us hl => match us, hl with | [_, _], _ => rfl
  have F3 := fun_mk (st := sLawDigits) l3 c3 k3
  have b3 := F3.binds (ps := ["script", "first", "last"]) fun _ _ _ _ _ _ us hl => match us, hl with | [_, _, _], _ => rfl
  have F4 := fun_mk (st := sLawDraw) l4 c4 k4
  have b4 := F4.binds (ps := ["box", "many"]) fun _ _ _ _ _ _ us hl => match us, hl with | [_, _], _ => rfl
  have F5 := fun_mk (st := sLawBig) l5 c5 k5
  have b5 := F5.binds (ps := ["box", "size"]) fun _ _ _ _ _ _ us hl => match us, hl with | [_, _], _ => rfl
  have F6 := fun_mk (st := sLawGcd) l6 c6 k6
  have b6 := F6.binds (ps := ["a", "b"]) fun _ _ _ _ _ _ us hl => match us, hl with | [_, _], _ => rfl
  have F7 := fun_mk (st := sLawSame) l7 c7 k7
  have b7 := F7.binds (ps := ["actual", "due"]) fun _ _ _ _ _ _ us hl => match us, hl with | [_, _], _ => rfl
  have F8 := fun_mk (st := sLaw) l8 c8 k8
  have b8 := F8.binds (ps := ["script"]) fun _ _ _ _ _ _ us hl => match us, hl with | [_], _ => rfl
  exact ⟨PySem.W.fnOf "law" "law" (defArgs sLaw) (defBody sLaw) (defScope sLaw) .none kV8 dc8 pm8 an8 cd8 ct8, fun s v => .of_eq rfl, fun base _ _ => okLaw (P := l.prog) (w := w) (base := base) (⟨f1, _, F1, b1, PySem.W.mg_of X G a1, f2, _, F2, b2, PySem.W.mg_of X G a2, f3, _, F3, b3, PySem.W.mg_of X G a3, f4, _, F4, b4, PySem.W.mg_of X G a4, f5, _, F5, b5, PySem.W.mg_of X G a5, f6, _, F6, b6, PySem.W.mg_of X G a6, f7, _, F7, b7, PySem.W.mg_of X G a7, fa, _, F8, b8, PySem.W.mg_of X G a8, PySem.W.mg_none_of X G z_range, PySem.W.mg_none_of X G z_abs, PySem.W.mg_none_of X G z_isinstance, PySem.W.mg_none_of X G z_bool, PySem.W.mg_none_of X G z_str, PySem.W.mg_none_of X G z_len, PySem.W.mg_none_of X G z_list, PySem.W.mg_none_of X G z_tuple, PySem.W.mg_none_of X G z_int, PySem.W.mg_of X G x_gcd⟩ : Txt K mg)⟩
theorem walk {l : PySem.W.OpenLaw} {q : Program} {loose : List Str} {XP : (Str → Option Value) → Heap → Prop} {YP : World → Heap → Prop} {d : DefRec} {K : Params → PySem.W.Frag} (hn : l.most = some 63) (hdf : d.params.defaults = [])
    (hY : ∀ (w : World) (h : Heap), YP w h → (K w.params).In h)
    (F : ∀ (w : World) (mg : Str → Option Value) (fa : Addr) (h : Heap), (K w.params).In h → h.Ns mainGlobals mg → mg d.name = some (.ref fa) →
      ∃ fd : FuncData, (∀ (s : Shared) (u : Value), BindsTo s fd ⟨[u], []⟩ [("script", u)]) ∧ ∀ base : Heap, (K w.params).In base → base.Ns mainGlobals mg → FnOk l.prog w (K w.params) mg base CX0 3 fa fd ["script"] (spLaw (K w.params))) :
    PySem.W.WalkO q loose XP YP l.row.toRowW d [] (fun f vs => PySem.call f vs) :=
  L2.walk_of (n := 63) (k := 3) (x := "script") (CX := fun _ => CX0) (sp := fun w => spLaw (K w.params)) hn (by decide) hdf ⟨rfl, by decide, by decide⟩ hY F (fun _ _ a ns hl _ hS => ⟨a, ns, rfl, hS, hl, fun _ => rfl⟩) fun _ _ _ _ _ z => z
end My
open PySem PySem.W PyProof.Rows
set_option maxRecDepth 100000 in
set_option maxHeartbeats 0 in
theorem PySem.Challenge.cw_tablemates_k01_lowest_terms_holds : PySem.Challenge.rw_tablemates_k01_lowest_terms.Holds := by
  w_on; o_law; k_head; (case hw => w_witness2)
  k_fill
  refine My.walk (l := PySem.Challenge.rw_tablemates_k01_lowest_terms) rfl rfl (fun w h Y => PySem.W.kIn_of Y) ?F
  case F =>
    intro w mg fa h KX G hmg
    refine' My.all_mk KX G hmg ?a1 ?l1 ?c1 ?k1 ?a2 ?l2 ?c2 ?k2 ?a3 ?l3 ?c3 ?k3 ?a4 ?l4 ?c4 ?k4 ?a5 ?l5 ?c5 ?k5 ?a6 ?l6 ?c6 ?k6 ?a7 ?l7 ?c7 ?k7 ?a8 ?l8 ?c8 ?k8 ?z_range ?z_abs ?z_isinstance ?z_bool ?z_str ?z_len ?z_list ?z_tuple ?z_int ?x_gcd
    (case a1 => k_is); (case l1 => k_is); (case c1 => k_is); (case k1 => k_is); (case a2 => k_is); (case l2 => k_is); (case c2 => k_is); (case k2 => k_is); (case a3 => k_is); (case l3 => k_is); (case c3 => k_is); (case k3 => k_is); (case a4 => k_is); (case l4 => k_is); (case c4 => k_is); (case k4 => k_is); (case a5 => k_is); (case l5 => k_is); (case c5 => k_is); (case k5 => k_is); (case a6 => k_is); (case l6 => k_is); (case c6 => k_is); (case k6 => k_is); (case a7 => k_is); (case l7 => k_is); (case c7 => k_is); (case k7 => k_is); (case a8 => k_is); (case l8 => k_is); (case c8 => k_is); (case k8 => k_is); (case z_range => k_is); (case z_abs => k_is); (case z_isinstance => k_is); (case z_bool => k_is); (case z_str => k_is); (case z_len => k_is); (case z_list => k_is); (case z_tuple => k_is); (case z_int => k_is); (case x_gcd => k_is)

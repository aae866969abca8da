import PyProof.Rows.All
import Wide.All
import OpenK.AllK
import Wide.FinOn
import HandS.ForMost
import HandS.Zip
import HandS.Walk
import HandS.Codes
import PySem.Challenge.RW_tablemates_k31_integers_as_bytes
set_option Elab.async false
set_option linter.all false
set_option maxRecDepth 100000
namespace My
open PySem PySem.Spec PyProof.Rows L2 RZ
def topS (i : Nat) : Stmt := PySem.Challenge.pw_tablemates_k31_integers_as_bytes.main.body.getD i (.Pass ⟨0, 0, 0, 0⟩)
abbrev sNumberBytes : Stmt := topS 1
abbrev sLawCell : Stmt := topS 3
abbrev sLawDigits : Stmt := topS 4
abbrev sLawInteger : Stmt := topS 5
abbrev sLaw : Stmt := topS 6
theorem scNumberBytes : FnScope ["n", "found"] ["n"] (defScope sNumberBytes) := ⟨rfl, rfl, rfl, by decide +kernel, rfl, by decide +kernel, by decide +kernel⟩
theorem scLawCell : FnScope ["script", "k"] ["script", "k"] (defScope sLawCell) := ⟨rfl, rfl, rfl, by decide +kernel, rfl, by decide +kernel, by decide +kernel⟩
theorem scLawDigits : FnScope ["cell", "k", "most", "digits", "turn", "seed"] ["cell", "k", "most"] (defScope sLawDigits) := ⟨rfl, rfl, rfl, by decide +kernel, rfl, by decide +kernel, by decide +kernel⟩
theorem scLawInteger : FnScope ["script", "k", "cell", "n", "digit", "powers"] ["script", "k"] (defScope sLawInteger) := ⟨rfl, rfl, rfl, by decide +kernel, rfl, by decide +kernel, by decide +kernel⟩
theorem scLaw : FnScope ["script", "k", "n", "data", "total", "scale", "j"] ["script"] (defScope sLaw) := ⟨rfl, rfl, rfl, by decide +kernel, rfl, by decide +kernel, by decide +kernel⟩
set_option maxHeartbeats 0 in
structure Txt (K : PySem.W.Frag) (mg : Str → Option Value) where
  fNumberBytes : Addr
  fdNumberBytes : FuncData
  FNumberBytes : Fun K "number_bytes" "number_bytes" sNumberBytes fNumberBytes fdNumberBytes
  bNumberBytes : Binds K fdNumberBytes ["n"] []
  gNumberBytes : mg "number_bytes" = some (.ref fNumberBytes)
  fLawCell : Addr
  fdLawCell : FuncData
  FLawCell : Fun K "_law_cell" "_law_cell" sLawCell fLawCell fdLawCell
  bLawCell : Binds K fdLawCell ["script", "k"] []
  gLawCell : mg "_law_cell" = some (.ref fLawCell)
  fLawDigits : Addr
  fdLawDigits : FuncData
  FLawDigits : Fun K "_law_digits" "_law_digits" sLawDigits fLawDigits fdLawDigits
  bLawDigits : Binds K fdLawDigits ["cell", "k", "most"] []
  gLawDigits : mg "_law_digits" = some (.ref fLawDigits)
  fLawInteger : Addr
  fdLawInteger : FuncData
  FLawInteger : Fun K "_law_integer" "_law_integer" sLawInteger fLawInteger fdLawInteger
  bLawInteger : Binds K fdLawInteger ["script", "k"] []
  gLawInteger : mg "_law_integer" = some (.ref fLawInteger)
  fLaw : Addr
  fdLaw : FuncData
  FLaw : Fun K "law" "law" sLaw fLaw fdLaw
  bLaw : Binds K fdLaw ["script"] []
  gLaw : mg "law" = some (.ref fLaw)
  z_range : mg "range" = none
  z_len : mg "len" = none
  z_int : mg "int" = none
section
variable {P : Program} {w : World} {K : PySem.W.Frag} {mg : Str → Option Value} {base : Heap}
/-! ### heaps -/
theorem _root_.L2.Same.tup {K : PySem.W.Frag} {H H' : Hp} {a : Addr} {xs : List V} (e : Same H H') (h : SqT K H a xs) : SqT K H' a xs := by
  rcases h with (h | ⟨o, h⟩) | h
  · exact .inl (.inl (e _ _ h))
  · exact .inl (.inr ⟨o, e _ _ h⟩)
  · exact .inr h
theorem same_new {H : Hp} {p : Addr} {o : HO} (h : H p = none) : Same H (upd H p o) := fun b x e => by
  rw [upd_ne (ne_of_none e h)]
  exact e
theorem same_mut {H H' : Hp} {p : Addr} {o : HO} (e : Same H H') (h : H p = none) : Same H (upd H' p o) := fun b x ha => by
  rw [upd_ne (ne_of_none ha h)]
  exact e b x ha
theorem walk_zipT {K : PySem.W.Frag} {a b : Addr} {xs ys : List V} {n : Nat} (hn : n = min xs.length ys.length) : Walk (ItzT K a b) n (fun H => SqT K H a xs ∧ SqT K H b ys) (YPair (fun i => xs[i]?) (fun i => ys[i]?)) := by
  subst hn
  refine ⟨fun i _ hi q => ?_, fun _ q => ⟨xs, ys, q.1, q.2, by omega⟩, fun i H v H' _ q y => ?_⟩
  · have h1 : i < xs.length := by omega
    have h2 : i < ys.length := by omega
    exact ⟨xs, ys, xs[i], ys[i], q.1, q.2, by simp [h1], by simp [h2]⟩
  · obtain ⟨T, x, z, h1, h2, h3, h4, h5⟩ := y
    exact ⟨T, x, z, h1, h2, h3, h4 xs q.1, h5 ys q.2⟩
/-- a function that hands back a bool or an int and changes nothing -/
theorem getD_at {ns : List Int} {i : Nat} (h : i < ns.length) : (ns.map V.int)[i]? = some (.int (ns.getD i 0)) := by
  rw [List.getElem?_map, List.getElem?_eq_getElem h, List.getD_eq_getElem?_getD, List.getElem?_eq_getElem h]
  rfl
theorem dp_ints {K : PySem.W.Frag} {H : Hp} : ∀ ns : List Int, DpAll K H (ns.map V.int) (ns.map PyData.int)
  | [] => .nil
  | n :: r => .cons (.int n) (dp_ints r)
theorem shaped_tup (ns : List Int) : SeqAt.shaped (.tuple (ns.map PyData.int)) = true := by
  simp [SeqAt.shaped, PyData.canLay0, PyData.depth, PySem.W.ke_canLayAll0, PySem.W.ke_depthAll]
theorem shaped_lst (ns : List Int) : SeqAt.shaped (.list (ns.map PyData.int)) = true := PySem.W.ke_shaped_ints ns
theorem eqv_same {d : PyData} (h : SeqAt.shaped d = true) : PyData.eqv d d = true := by
  refine SeqAt.eqv_refl d ?_
  unfold SeqAt.shaped at h
  exact (Bool.and_eq_true _ _ ▸ h).1
theorem yesT {σ : L2.St} {H : Hp} {A B : Hp → Prop} (h : A H) : tYes σ H (fun b H3 => if b = true then A H3 else B H3) := iteT (A := A H) (B := B H) h
def spCell (K : PySem.W.Frag) : Sp := fun vs H Q _ => ∃ (a : Addr) (ns : List Int) (k : Int), vs = [.ref a, .int k] ∧ 0 ≤ k ∧ SqL K H a (ns.map V.int) ∧ ∀ v : Int, Q (.int v) H
theorem okLawCell (T : Txt K mg) : FnOk P w K mg base CX0 1 T.fLawCell T.fdLawCell ["script", "k"] (spCell K) := by
  refine T.FLawCell.ok scLawCell (fun vs H Q E h => ?_) (fun cdv A outer s H vs Q E hr h => ?_)
  · obtain ⟨a, ns, k, rfl, _⟩ := h
    rfl
  · obtain ⟨a, ns, k, rfl, h0, hS, q⟩ := h
    obtain ⟨k, rfl⟩ := Int.eq_ofNat_of_zero_le h0
    -- slots script=0 k=1
    refine ⟨_, (pss_cons (ps_if (pt_cmpR op_lt (pv 1) (pe_callB call_len_seq (by rfl) T.z_len PySem.boot_len (pa_cons (pv 0) pa_nil)) (nomark _))
          (pss_one (ps_ret (pe_ix ix_list (pv 0) (pv 1) (fun _ _ => rfl))))
          pss_nil)
        (pss_one (ps_ret pe_int))), ?_⟩
    refine ⟨_, rfl, _, rfl, a, _, rfl, .inl hS, _, _, rfl, rfl, _, rfl, ite2 (fun c => ?_) (fun c => ?_)⟩
    · have hk : k < ns.length := by
        have c2 := of_decide_eq_true c
        rw [List.length_map] at c2
        omega
      exact ⟨_, rfl, _, rfl, a, _, _, _, rfl, rfl, hS, atI_nat (getD_at hk), q _⟩
    · exact q 0
/-! ### integers as bytes -/
def nb (n : Nat) : List Int := if h : 128 ≤ n then (128 + ((n % 128 : Nat) : Int)) :: nb (n / 128) else [(n : Int)]
termination_by n
decreasing_by omega
theorem nb_small {n : Nat} (h : n < 128) : nb n = [(n : Int)] := by
  rw [nb, dif_neg (by omega)]
theorem nb_big {n : Nat} (h : 128 ≤ n) : nb n = (128 + ((n % 128 : Nat) : Int)) :: nb (n / 128) := by
  rw [nb, dif_pos h]
theorem nb_pos (n : Nat) : 0 < (nb n).length := by
  by_cases h : 128 ≤ n
  · rw [nb_big h]
    exact Nat.succ_pos _
  · rw [nb_small (by omega)]
    exact Nat.succ_pos _
theorem nb_len : ∀ (k n : Nat), n < 128 ^ (k + 1) → (nb n).length ≤ k + 1
  | 0, n, h => by
    rw [nb_small (by simpa using h)]
    exact Nat.le_refl _
  | k + 1, n, h => by
    by_cases h1 : 128 ≤ n
    · rw [nb_big h1, List.length_cons]
      have h2 : n / 128 < 128 ^ (k + 1) := by
        rw [Nat.div_lt_iff_lt_mul (by decide), ← Nat.pow_succ]
        exact h
      have := nb_len k (n / 128) h2
      omega
    · rw [nb_small (by omega)]
      show 1 ≤ k + 1 + 1
      omega
def val : List Int → Int
  | [] => 0
  | b :: r => b % 128 + 128 * val r
theorem val_nb (n : Nat) : val (nb n) = n := by
  induction n using Nat.strongRecOn with
  | _ n ih =>
    by_cases h : 128 ≤ n
    · rw [nb_big h]
      show (128 + ((n % 128 : Nat) : Int)) % 128 + 128 * val (nb (n / 128)) = n
      rw [ih (n / 128) (by omega)]
      omega
    · rw [nb_small (by omega)]
      show (n : Int) % 128 + 128 * 0 = n
      omega
theorem val_app (xs : List Int) (b : Int) : val (xs ++ [b]) = val xs + b % 128 * 128 ^ xs.length := by
  induction xs with
  | nil =>
    show b % 128 + 128 * 0 = 0 + b % 128 * 128 ^ 0
    omega
  | cons x r ih =>
    show x % 128 + 128 * val (r ++ [b]) = x % 128 + 128 * val r + b % 128 * 128 ^ (r.length + 1)
    rw [ih, Int.mul_add, Int.pow_succ, ← Int.mul_assoc (b % 128), Int.mul_comm (b % 128 * 128 ^ r.length) 128]
    omega
theorem nb_item (n : Nat) : ∀ (j : Nat) (b : Int), (nb n)[j]? = some b → (j + 1 < (nb n).length → 128 ≤ b ∧ b ≤ 255) ∧ (j + 1 = (nb n).length → 0 ≤ b ∧ b < 128 ∧ (b = 0 → n = 0)) := by
  induction n using Nat.strongRecOn with
  | _ n ih =>
    intro j b e
    by_cases h : 128 ≤ n
    · rw [nb_big h] at e ⊢
      rcases j with _ | j
      · have e2 := Option.some.inj e
        have := nb_pos (n / 128)
        rw [List.length_cons]
        refine ⟨fun _ => by omega, fun z => by omega⟩
      · rw [List.getElem?_cons_succ] at e
        obtain ⟨h1, h2⟩ := ih (n / 128) (by omega) j b e
        rw [List.length_cons]
        refine ⟨fun z => h1 (by omega), fun z => ?_⟩
        obtain ⟨a1, a2, a3⟩ := h2 (by omega)
        exact ⟨a1, a2, fun z => by have := a3 z; omega⟩
    · rw [nb_small (by omega)] at e ⊢
      rcases j with _ | j
      · have e2 := Option.some.inj e
        refine ⟨fun z => by simp at z, fun _ => by omega⟩
      · simp at e
def spNumberBytes (K : PySem.W.Frag) : Sp := fun vs H Q _ => ∃ (n : Nat), vs = [.int (n : Int)] ∧ (nb n).length ≤ 1000 ∧ ∀ d H', H d = none → Same H H' → H' d = some (.lst ((nb n).map V.int)) → Q (.ref d) H'
theorem okNumberBytes (T : Txt K mg) : FnOk P w K mg base CX0 1 T.fNumberBytes T.fdNumberBytes ["n"] (spNumberBytes K) := by
  refine T.FNumberBytes.ok scNumberBytes (fun vs H Q E h => ?_) (fun cdv A outer s H vs Q E hr h => ?_)
  · obtain ⟨n, rfl, _⟩ := h
    rfl
  · obtain ⟨n0, rfl, hz, q⟩ := h
    -- slots n=0 found=1
    refine ⟨_, (pss_cons (ps_set (i := 1) scNumberBytes.nd rfl (Or.inl rfl) (pe_lst pa_nil))
        (pss_cons (ps_while PassesOwn.never (pt_cmpR op_ge (pv 0) pe_int (nomark _))
          (pss_cons (ps_expr (pe_bm PySem.F.plainAttrs_list PySem.F.slot_list_append PySem.F.type_list_append mt_append (pv 1) (pa_cons (pe_op op_add pe_int (pe_op op_mod (pv 0) pe_int)) pa_nil)))
          (pss_one (ps_set (i := 0) scNumberBytes.nd rfl (Or.inl rfl) (pe_op op_fdiv (pv 0) pe_int)))))
        (pss_cons (ps_expr (pe_bm PySem.F.plainAttrs_list PySem.F.slot_list_append PySem.F.type_list_append mt_append (pv 1) (pa_cons (pv 0) pa_nil)))
        (pss_one (ps_ret (pv 1)))))), ?_⟩
    refine ⟨Nat.zero_le _, fun d hd => ?_⟩
    refine while_by (fun σ H' => ∃ (n : Nat) (acc : List Int), σ = [some (.int (n : Int)), some (.ref d)] ∧ Same H H' ∧ H' d = some (.lst (acc.map V.int)) ∧ acc ++ nb n = nb n0) (fun σ _ => match σ with | [some (.int n), _] => n.toNat | _ => 0) ⟨n0, [], rfl, same_new hd, upd_same, rfl⟩ ?_ (fun σ H Q Q' m h => by
      obtain ⟨v, hv, i, j, e1, e2, b, e3, q⟩ := h
      exact ⟨v, hv, i, j, e1, e2, b, e3, m _ _ q⟩)
    rintro σ H1 ⟨n, acc, rfl, s1, hd1, e⟩
    have el : acc.length + (nb n).length = (nb n0).length := by rw [← e, List.length_append]
    refine ⟨_, rfl, _, _, rfl, rfl, _, rfl, ite2 (fun c => ?_) (fun c => ?_)⟩
    · have hn : 128 ≤ n := by
        have c2 := of_decide_eq_true c
        omega
      refine ⟨_, rfl, .inl ⟨rfl, _, SqL.of hd1⟩, _, rfl, _, _, rfl, rfl, (by show (0 : Int) < _; decide), _, _, rfl, rfl, d, _, _, rfl, rfl, hd1, ?_, _, rfl, _, _, rfl, rfl, ⟨by decide, by decide⟩, ?_⟩
      · rw [List.length_map]
        exact small1000 (by omega)
      · refine ⟨⟨n / 128, acc ++ [128 + ((n % 128 : Nat) : Int)], ?_, same_mut s1 hd, ?_, ?_⟩, ?_⟩
        · show [some (V.int ((n : Int) / 128)), some (V.ref d)] = _
          rfl
        · rw [upd_same, List.map_append]
          rfl
        · rw [← e, nb_big hn, List.append_assoc]
          rfl
        · show ((n : Int) / 128).toNat < ((n : Int)).toNat
          omega
    · have hn : n < 128 := by
        rcases Nat.lt_or_ge n 128 with z | z
        · exact z
        · exact absurd (decide_eq_true (show (128 : Int) ≤ (n : Int) by omega)) c
      rw [nb_small hn] at e
      refine ⟨_, rfl, .inl ⟨rfl, _, SqL.of hd1⟩, _, rfl, d, _, _, rfl, rfl, hd1, ?_, ?_⟩
      · rw [List.length_map]
        exact small1000 (by omega)
      · refine ⟨_, rfl, q d _ hd (same_mut s1 hd) ?_⟩
        rw [upd_same, ← e, List.map_append]
        rfl
structure Dig (ds : List Int) (n : Nat) : Prop where
  all : ∀ x ∈ ds, 0 ≤ x ∧ x < 1000
  len : ds.length ≤ n
theorem Dig.nil : Dig [] 0 := ⟨fun _ h => (nomatch h), Nat.le_refl _⟩
theorem Dig.more {ds : List Int} {n m : Nat} (h : Dig ds n) (hm : n ≤ m) : Dig ds m := ⟨h.all, Nat.le_trans h.len hm⟩
theorem Dig.add {ds : List Int} {n : Nat} (h : Dig ds n) (x : Int) : Dig (ds ++ [x % 1000]) (n + 1) := by
  refine ⟨fun y hy => ?_, ?_⟩
  · rcases List.mem_append.mp hy with q | q
    · exact h.all y q
    · obtain rfl : y = x % 1000 := by simpa using q
      omega
  · rw [List.length_append]
    have := h.len
    simp only [List.length_singleton]
    omega
def spDigits (K : PySem.W.Frag) : Sp := fun vs H Q _ => ∃ (c k : Int) (m : Nat), vs = [.int c, .int k, .int (m : Int)] ∧ m ≤ 1000 ∧ ∀ H' d ds, Same H H' → H d = none → H' d = some (.lst (ds.map V.int)) → Dig ds m → Q (.ref d) H'
theorem okLawDigits (T : Txt K mg) : FnOk P w K mg base CX0 1 T.fLawDigits T.fdLawDigits ["cell", "k", "most"] (spDigits K) := by
  refine T.FLawDigits.ok scLawDigits (fun vs H Q E h => ?_) (fun cdv A outer s H vs Q E hr h => ?_)
  · obtain ⟨c, k, m, rfl, _⟩ := h
    rfl
  · obtain ⟨c, k, m, rfl, hm, q⟩ := h
    -- slots cell=0 k=1 most=2 digits=3 turn=4 seed=5
    refine ⟨_, (pss_cons (ps_set (i := 3) scLawDigits.nd rfl (Or.inl rfl) (pe_lst pa_nil))
        (C8.pss_cut (ps_if (pt_cmpR op_lt (pv 0) pe_int (nomark _))
          (pss_one (ps_set (i := 0) scLawDigits.nd rfl (Or.inl rfl) (pe_op op_sub (pe_un un_neg pe_int) (pv 0))))
          pss_nil)
        (C8.pss_cut (ps_if (pt_cmpR op_ge (pv 0) (pe_op op_pow pe_int pe_int) (nomark _))
          (pss_one (ps_for PassesOwn.never rfl (pi_range1 rfl T.z_range (pa_cons pe_int pa_nil)) (pg_name (i := 4) scLawDigits.nd rfl (Or.inl rfl))
            (pss_one (ps_if (PW.pt (pw_and (pt_cmpR op_gt (pv 0) pe_int (nomark _)) (pw_and1 (pt_cmpR op_lt (pe_callB call_len_seq (by rfl) T.z_len PySem.boot_len (pa_cons (pv 3) pa_nil)) (pv 2) (nomark _)))))
              (pss_cons (ps_expr (pe_bm PySem.F.plainAttrs_list PySem.F.slot_list_append PySem.F.type_list_append mt_append (pv 3) (pa_cons (pe_op op_mod (pe_callTy call_int1 (by rfl) T.z_int (by decide +kernel) (pa_cons (pv 0) pa_nil)) pe_int) pa_nil)))
              (pss_one (ps_set (i := 0) scLawDigits.nd rfl (Or.inl rfl) (pe_op op_fdiv (pv 0) pe_int))))
              pss_nil))))
          (pss_cons (ps_set (i := 5) scLawDigits.nd rfl (Or.inl rfl) (pe_op op_mod (pe_callTy call_int1 (by rfl) T.z_int (by decide +kernel) (pa_cons (pe_op op_add (pe_op op_add (pe_op op_mul (pv 0) pe_int) (pe_op op_mul (pv 1) pe_int)) pe_int) pa_nil)) pe_int))
          (pss_one (ps_for PassesOwn.never rfl (pi_range1 rfl T.z_range (pa_cons (pv 2) pa_nil)) (pg_name (i := 4) scLawDigits.nd rfl (Or.inl rfl))
            (pss_cons (ps_set (i := 5) scLawDigits.nd rfl (Or.inl rfl) (pe_op op_mod (pe_callTy call_int1 (by rfl) T.z_int (by decide +kernel) (pa_cons (pe_op op_add (pe_op op_add (pe_op op_mul (pv 5) pe_int) (pe_op op_mul pe_int (pv 4))) pe_int) pa_nil)) pe_int))
            (pss_one (ps_expr (pe_bm PySem.F.plainAttrs_list PySem.F.slot_list_append PySem.F.type_list_append mt_append (pv 3) (pa_cons (pe_op op_mod (pe_callTy call_int1 (by rfl) T.z_int (by decide +kernel) (pa_cons (pe_op op_fdiv (pv 5) pe_int) pa_nil)) pe_int) pa_nil)))))))))
        (pss_one (ps_ret (pv 3)))))), ?_⟩
    refine ⟨Nat.zero_le _, fun d hd => ?_⟩
    refine ⟨fun σ H' => H' = upd H d (.lst []) ∧ ∃ c : Int, σ = [some (.int c), some (.int k), some (.int (m : Int)), some (.ref d), none, none], ?_, ?_⟩
    · refine ⟨_, rfl, _, _, rfl, rfl, _, rfl, ite2 (fun _ => ?_) (fun _ => ?_)⟩
      · exact ⟨_, rfl, _, rfl, _, _, rfl, rfl, rfl, _, rfl⟩
      · exact ⟨rfl, _, rfl⟩
    rintro σ H1 ⟨rfl, c, rfl⟩
    have h1 : (upd H d (.lst [])) d = some (.lst (([] : List Int).map V.int)) := upd_same
    refine ⟨fun σ H' => ∃ ds c0 c4 c5, σ = [c0, some (.int k), some (.int (m : Int)), some (.ref d), c4, c5] ∧ Same H H' ∧ H' d = some (.lst (ds.map V.int)) ∧ Dig ds m, ?_, ?_⟩
    · refine ⟨_, rfl, _, _, rfl, rfl, ⟨by decide, by decide, by decide⟩, _, _, rfl, rfl, _, rfl, ite2 (fun _ => ?_) (fun _ => ?_)⟩
      · refine ⟨60, rfl, by decide, by decide, for_range (lo := 0) (n := 60) (fun t σ H' => ∃ ds c c1, σ = [some (.int c), some (.int k), some (.int (m : Int)), some (.ref d), c1, none] ∧ Same H H' ∧ H' d = some (.lst (ds.map V.int)) ∧ Dig ds m) ⟨[], _, _, rfl, same_new hd, h1, Dig.nil.more (Nat.zero_le _)⟩ ?_ ?_⟩
        · rintro t σ H2 ht ⟨ds, c, c1, rfl, s2, hd2, D2⟩
          refine ⟨_, rfl, _, _, rfl, rfl, _, rfl, ite2 (fun _ => ?_) (fun _ => iteF ⟨ds, _, _, rfl, s2, hd2, D2⟩)⟩
          refine ⟨_, rfl, d, _, rfl, .inl (SqL.of hd2), _, rfl, _, _, rfl, rfl, _, rfl, ite2 (fun e => ?_) (fun _ => ⟨ds, _, _, rfl, s2, hd2, D2⟩)⟩
          have e2 := of_decide_eq_true e
          rw [List.length_map] at e2
          refine ⟨_, rfl, .inl ⟨rfl, _, SqL.of hd2⟩, _, rfl, .inl ⟨_, rfl, _, _, rfl, rfl, (by show (0 : Int) < _; decide), d, _, _, rfl, rfl, hd2, ?_, _, rfl, _, _, rfl, rfl, ⟨by decide, by decide⟩, ?_⟩⟩
          · rw [List.length_map]
            exact small1000 (by have := D2.len; omega)
          · refine ⟨ds ++ [c % 1000], _, _, rfl, same_mut s2 hd, by rw [upd_same, List.map_append]; rfl, ?_⟩
            have D3 : Dig ds (m - 1) := ⟨D2.all, by omega⟩
            exact (D3.add c).more (by omega)
        · rintro σ H2 ⟨ds, c, c1, rfl, s2, hd2, D2⟩
          exact ⟨ds, _, _, _, rfl, s2, hd2, D2⟩
      · refine ⟨_, rfl, _, _, rfl, rfl, .inr ⟨by decide, by decide⟩, _, rfl, _, _, rfl, rfl, .inr ⟨by decide, by decide⟩, _, _, rfl, rfl, _, _, rfl, rfl, .inl ⟨_, rfl, _, _, rfl, rfl, (by show (0 : Int) < _; decide), ?_⟩⟩
        refine ⟨_, rfl, _, rfl, by omega, by omega, for_range (lo := 0) (n := m) (fun t σ H' => ∃ ds c c1 sd, σ = [some (.int c), some (.int k), some (.int (m : Int)), some (.ref d), c1, some (.int sd)] ∧ Same H H' ∧ H' d = some (.lst (ds.map V.int)) ∧ Dig ds t) ⟨[], _, _, _, rfl, same_new hd, h1, Dig.nil⟩ ?_ ?_⟩
        · rintro t σ H2 ht ⟨ds, c, c1, sd, rfl, s2, hd2, D2⟩
          refine ⟨_, rfl, _, _, rfl, rfl, .inr ⟨by decide, by decide⟩, _, rfl, _, _, rfl, rfl, .inl ⟨by decide, by decide⟩, _, _, rfl, rfl, _, _, rfl, rfl, .inl ⟨_, rfl, _, _, rfl, rfl, (by show (0 : Int) < _; decide), ?_⟩⟩
          refine ⟨_, rfl, .inl ⟨rfl, _, SqL.of hd2⟩, _, rfl, _, _, rfl, rfl, ⟨by decide, by decide⟩, .inl ⟨_, rfl, _, _, rfl, rfl, (by show (0 : Int) < _; decide), d, _, _, rfl, rfl, hd2, ?_, ?_⟩⟩
          · rw [List.length_map]
            exact small1000 (by have := D2.len; omega)
          · exact ⟨ds ++ [_ % 1000], _, _, _, rfl, same_mut s2 hd, by rw [upd_same, List.map_append]; rfl, D2.add _⟩
        · rintro σ H2 ⟨ds, c, c1, sd, rfl, s2, hd2, D2⟩
          exact ⟨ds, _, _, _, rfl, s2, hd2, D2⟩
    rintro σ H1 ⟨ds, c0, c4, c5, rfl, s1, hd1, D⟩
    exact ⟨_, rfl, q _ d ds s1 hd hd1 D⟩
theorem item_of {ns : List Int} {k : Int} (h0 : 0 ≤ k) (h1 : k < ns.length) : ∃ v ∈ ns, atI (ns.map V.int) k = some (.int v) := by
  obtain ⟨j, rfl⟩ := Int.eq_ofNat_of_zero_le h0
  have hj : j < ns.length := by omega
  exact ⟨ns.getD j 0, by rw [List.getD_eq_getElem?_getD, List.getElem?_eq_getElem hj]; exact List.getElem_mem hj, atI_nat (getD_at hj)⟩
def spInteger (K : PySem.W.Frag) : Sp := fun vs H Q _ => ∃ (a : Addr) (ns : List Int) (k : Int), vs = [.ref a, .int k] ∧ 0 ≤ k ∧ SqL K H a (ns.map V.int) ∧ ∀ (n : Nat) H', Same H H' → n < 128 ^ 16 → Q (.int (n : Int)) H'
theorem okLawInteger (T : Txt K mg) : FnOk P w K mg base CX0 2 T.fLawInteger T.fdLawInteger ["script", "k"] (spInteger K) := by
  refine T.FLawInteger.ok scLawInteger (fun vs H Q E h => ?_) (fun cdv A outer s H vs Q E hr h => ?_)
  · obtain ⟨a, ns, k, rfl, _⟩ := h
    rfl
  · obtain ⟨a, ns, k, rfl, h0, hS, q⟩ := h
    -- slots script=0 k=1 cell=2 n=3 digit=4 powers=5
    refine ⟨_, (pss_cons (ps_set (i := 2) scLawInteger.nd rfl (Or.inl rfl) (pe_call (okLawCell T) (hr.mono (by decide)) (by rfl) T.gLawCell T.FLawCell.kp T.bLawCell .nil pass0 (pa_cons (pv 0) (pa_cons (pv 1) pa_nil))))
        (pss_cons (ps_set (i := 3) scLawInteger.nd rfl (Or.inl rfl) pe_int)
        (pss_cons (ps_for PassesOwn.never rfl (pi_list (pe_call (okLawDigits T) (hr.mono (by decide)) (by rfl) T.gLawDigits T.FLawDigits.kp T.bLawDigits .nil pass0 (pa_cons (pv 2) (pa_cons (pv 1) (pa_cons (pe_op op_mod (pe_callTy call_int1 (by rfl) T.z_int (by decide +kernel) (pa_cons (pv 2) pa_nil)) pe_int) pa_nil))))) (pg_name (i := 4) scLawInteger.nd rfl (Or.inl rfl))
          (pss_one (ps_set (i := 3) scLawInteger.nd rfl (Or.inl rfl) (pe_op op_add (pe_op op_mul (pv 3) pe_int) (pe_callTy call_int1 (by rfl) T.z_int (by decide +kernel) (pa_cons (pv 4) pa_nil))))))
        (C8.pss_cut (ps_if (pt_cmpR op_eq (pe_op op_mod (pe_callTy call_int1 (by rfl) T.z_int (by decide +kernel) (pa_cons (pv 2) pa_nil)) pe_int) pe_int (nomark _))
          (pss_cons (ps_set (i := 5) scLawInteger.nd rfl (Or.inl rfl) (pe_lst (pa_cons pe_int (pa_cons pe_int (pa_cons pe_int (pa_cons pe_int (pa_cons pe_int (pa_cons pe_int (pa_cons pe_int (pa_cons pe_int pa_nil))))))))))
          (pss_one (ps_set (i := 3) scLawInteger.nd rfl (Or.inl rfl) (pe_op op_sub (pe_op op_add (pe_ix ix_list (pv 5) (pe_op op_mod (pe_callTy call_int1 (by rfl) T.z_int (by decide +kernel) (pa_cons (pe_op op_fdiv (pv 2) pe_int) pa_nil)) pe_int) (fun _ _ => rfl)) (pe_op op_mod (pe_callTy call_int1 (by rfl) T.z_int (by decide +kernel) (pa_cons (pe_op op_fdiv (pv 2) pe_int) pa_nil)) pe_int)) pe_int))))
          pss_nil)
        (pss_one (ps_ret (pv 3))))))), ?_⟩
    refine ⟨_, rfl, _, rfl, a, ns, k, rfl, h0, hS, fun c => ?_⟩
    have hm : 0 ≤ c % 11 ∧ c % 11 < 11 := by omega
    obtain ⟨m, em⟩ := Int.eq_ofNat_of_zero_le hm.1
    refine ⟨_, rfl, _, rfl, _, rfl, .inl ⟨_, rfl, _, _, rfl, rfl, (by show (0 : Int) < _; decide), c, k, m, ?_, by omega, fun H1 d ds s1 hdn hd1 D => ?_⟩⟩
    · show [V.int c, V.int k, V.int (c % 11)] = _
      rw [em]
    refine ⟨d, rfl, ⟨_, SqL.of hd1⟩, for_list (K := K) (a := d) (xs := ds.map V.int) (fun i σ H' => ∃ (n : Int) (c1 : Option V), σ = [some (.ref a), some (.int k), some (.int c), some (.int n), c1, none] ∧ H' = H1 ∧ 0 ≤ n ∧ n < 1000 ^ i) ⟨0, _, rfl, rfl, by decide, by decide⟩ (fun i σ H' _ ⟨_, _, _, e, _⟩ => by rw [e]; exact SqL.of hd1) ?_ ?_⟩
    · rintro i x σ H2 hi ⟨n, c1, rfl, rfl, n0, n1⟩
      obtain ⟨y, hy, rfl⟩ : ∃ y ∈ ds, x = V.int y := by
        have hx := List.mem_of_getElem? hi
        obtain ⟨y, hy, e⟩ := List.mem_map.mp hx
        exact ⟨y, hy, e.symm⟩
      have hb := D.all y hy
      refine ⟨_, rfl, _, _, rfl, rfl, .inr ⟨by decide, by decide⟩, _, rfl, .inl ⟨_, rfl, _, _, rfl, rfl, n * 1000 + y, _, rfl, rfl, by omega, ?_⟩⟩
      rw [Int.pow_succ]
      omega
    · rintro σ H2 ⟨n, c1, rfl, rfl, n0, n1⟩
      have nz : n < 128 ^ 16 := by
        refine Int.lt_of_lt_of_le n1 ?_
        rw [List.length_map]
        have hl : ds.length ≤ 10 := by have := D.len; omega
        have h2 : (1000 : Nat) ^ ds.length ≤ 1000 ^ 10 := Nat.pow_le_pow_right (by decide) hl
        have h3 : ((1000 : Nat) ^ ds.length : Nat) ≤ 128 ^ 16 := Nat.le_trans h2 (by decide)
        have h4 : (((1000 : Nat) ^ ds.length : Nat) : Int) = (1000 : Int) ^ ds.length := by
          rw [Int.natCast_pow]
          rfl
        rw [← h4]
        omega
      refine ⟨fun σ H' => Same H H' ∧ ∃ (n : Nat) (c5 : Option V), σ = [some (.ref a), some (.int k), some (.int c), some (.int (n : Int)), c1, c5] ∧ n < 128 ^ 16, ?_, ?_⟩
      · refine ⟨_, rfl, .inl ⟨_, rfl, _, _, rfl, rfl, (by show (0 : Int) < _; decide), rfl, _, rfl, ite2 (fun _ => ?_) (fun _ => ?_)⟩⟩
        · refine ⟨(by show 8 ≤ sizeLine; decide), fun l hl => ?_⟩
          obtain ⟨v, hv, ev⟩ := item_of (ns := [1, 128, 16384, 2097152, 268435456, 34359738368, 4398046511104, 562949953421312]) (k := c / 3 % 8) (by omega) (by show c / 3 % 8 < 8; omega)
          have v1 : 1 ≤ v ∧ v ≤ 562949953421312 := by
            simp only [List.mem_cons, List.not_mem_nil, or_false] at hv
            omega
          refine ⟨_, rfl, _, rfl, _, _, rfl, rfl, ⟨by decide, by decide⟩, .inl ⟨_, rfl, _, _, rfl, rfl, (by show (0 : Int) < _; decide), l, _, _, _, rfl, rfl, SqL.of upd_same, ev, _, rfl, _, _, rfl, rfl, ⟨by decide, by decide⟩, .inl ⟨_, rfl, _, _, rfl, rfl, (by show (0 : Int) < _; decide), _, _, rfl, rfl, _, _, rfl, rfl, s1.trans (same_new hl), (v + c / 24 % 3 - 1).toNat, some (.ref l), ?_, ?_⟩⟩⟩
          · show [some (V.ref a), some (V.int k), some (V.int c), some (V.int (v + c / 24 % 3 - 1)), c1, some (V.ref l)] = _
            rw [Int.toNat_of_nonneg (by omega)]
          · have : (v + c / 24 % 3 - 1).toNat ≤ 562949953421314 := by omega
            exact Nat.lt_of_le_of_lt this (by decide)
        · refine ⟨s1, n.toNat, none, ?_, by omega⟩
          rw [Int.toNat_of_nonneg n0]
      · rintro σ H3 ⟨s3, n, c5, rfl, hn⟩
        exact ⟨_, rfl, q n _ s3 hn⟩
def spLaw (K : PySem.W.Frag) : Sp := fun vs H Q _ => ∃ (a : Addr) (ns : List Int), vs = [.ref a] ∧ SqL K H a (ns.map V.int) ∧ ns.length ≤ 63 ∧ ∀ H', Q (.bl true) H'
theorem okLaw (T : Txt K mg) : FnOk P w K mg base CX0 3 T.fLaw T.fdLaw ["script"] (spLaw K) := by
  refine T.FLaw.ok scLaw (fun vs H Q E h => ?_) (fun cdv A outer s H vs Q E hr h => ?_)
  · obtain ⟨a, ns, rfl, _⟩ := h
    rfl
  · obtain ⟨a, ns, rfl, hS, hlen, q⟩ := h
    -- slots script=0 k=1 n=2 data=3 total=4 scale=5 j=6
    refine ⟨_, (pss_cons (ps_for PassesOwn.never rfl (pi_range1 rfl T.z_range (pa_cons pe_int pa_nil)) (pg_name (i := 1) scLaw.nd rfl (Or.inl rfl))
          (pss_cons (ps_set (i := 2) scLaw.nd rfl (Or.inl rfl) (pe_call (okLawInteger T) (hr.mono (by decide)) (by rfl) T.gLawInteger T.FLawInteger.kp T.bLawInteger .nil pass0 (pa_cons (pv 0) (pa_cons (pv 1) pa_nil))))
          (pss_cons (ps_set (i := 3) scLaw.nd rfl (Or.inl rfl) (pe_call (okNumberBytes T) (hr.mono (by decide)) (by rfl) T.gNumberBytes T.FNumberBytes.kp T.bNumberBytes .nil pass0 (pa_cons (pv 2) pa_nil)))
          (pss_cons (ps_set (i := 4) scLaw.nd rfl (Or.inl rfl) pe_int)
          (pss_cons (ps_set (i := 5) scLaw.nd rfl (Or.inl rfl) pe_int)
          (pss_cons (ps_for PassesOwn.never rfl (pi_range1 rfl T.z_range (pa_cons (pe_callB call_len_seq (by rfl) T.z_len PySem.boot_len (pa_cons (pv 3) pa_nil)) pa_nil)) (pg_name (i := 6) scLaw.nd rfl (Or.inl rfl))
            (pss_cons (ps_if (PW.pt (pw_or (pt_cmpR op_ne (pe_cmpR op_ge (pe_ix ix_list (pv 3) (pv 6) (fun _ _ => rfl)) pe_int (nomark _)) (pe_cmpR op_lt (pv 6) (pe_op op_sub (pe_callB call_len_seq (by rfl) T.z_len PySem.boot_len (pa_cons (pv 3) pa_nil)) pe_int) (nomark _)) (nomark _)) (pw_or1 (pt_cmpR op_gt (pe_ix ix_list (pv 3) (pv 6) (fun _ _ => rfl)) pe_int (nomark _)))))
              (pss_one (ps_ret pe_bl))
              pss_nil)
            (pss_cons (ps_set (i := 4) scLaw.nd rfl (Or.inl rfl) (pe_op op_add (pv 4) (pe_op op_mul (pe_op op_mod (pe_callTy call_int1 (by rfl) T.z_int (by decide +kernel) (pa_cons (pe_ix ix_list (pv 3) (pv 6) (fun _ _ => rfl)) pa_nil)) pe_int) (pv 5))))
            (pss_one (ps_set (i := 5) scLaw.nd rfl (Or.inl rfl) (pe_op op_mul (pv 5) pe_int))))))
          (pss_one (ps_if (PW.pt (pw_or (pt_cmpR op_ne (pv 4) (pv 2) (nomark _)) (pw_or1 (PW.pt (pw_and (pt_cmpR op_eq (pe_ix ix_list (pv 3) (pe_un un_neg pe_int) (fun _ _ => rfl)) pe_int (nomark _)) (pw_and1 (pt_cmpR op_gt (pv 2) pe_int (nomark _))))))))
            (pss_one (ps_ret pe_bl))
            pss_nil))))))))
        (pss_one (ps_ret pe_bl))), ?_⟩
    refine ⟨12, rfl, by decide, by decide, for_range (lo := 0) (n := 12) (fun i σ H' => ∃ c1 c2 c3 c4 c5 c6, σ = [some (.ref a), c1, c2, c3, c4, c5, c6] ∧ Same H H') ⟨_, _, _, _, _, _, rfl, Same.refl H⟩ ?_ (fun σ H' _ => q _)⟩
    rintro i σ H1 hi ⟨c1, c2, c3, c4, c5, c6, rfl, s1⟩
    refine ⟨_, rfl, _, rfl, a, ns, _, rfl, by omega, s1.seq hS, fun n H2 s2 hn => ?_⟩
    have hl := nb_len 15 n hn
    have hp := nb_pos n
    refine ⟨_, rfl, n, rfl, by omega, fun d H3 hdn s3 hd => ?_⟩
    have s13 := (s1.trans s2).trans s3
    refine ⟨_, rfl, d, _, rfl, .inl (SqL.of hd), _, rfl, by rw [List.length_map]; omega, by rw [List.length_map]; omega, for_range (lo := 0) (n := ((nb n).map V.int).length) (fun j σ H' => ∃ c6, σ = [some (.ref a), some (.int (0 + (i : Int))), some (.int (n : Int)), some (.ref d), some (.int (val ((nb n).take j))), some (.int (128 ^ j)), c6] ∧ H' = H3) ⟨_, rfl, rfl⟩ ?_ ?_⟩
    · rintro j σ H4 hj ⟨c6, rfl, rfl⟩
      rw [List.length_map] at hj
      have ej : (nb n)[j]? = some ((nb n).getD j 0) := by
        rw [List.getD_eq_getElem?_getD, List.getElem?_eq_getElem hj]
        rfl
      have at1 : atI ((nb n).map V.int) (0 + (j : Int)) = some (.int ((nb n).getD j 0)) := by
        rw [Int.zero_add]
        exact atI_nat (getD_at hj)
      obtain ⟨f1, f2⟩ := nb_item n j _ ej
      have et : (nb n).take (j + 1) = (nb n).take j ++ [(nb n).getD j 0] := by
        rw [List.take_add_one, ej]
        rfl
      have lt : ((nb n).take j).length = j := by
        rw [List.length_take]
        omega
      generalize (nb n).getD j 0 = b at ej at1 f1 f2 et
      refine ⟨_, rfl, _, rfl, d, _, _, _, rfl, rfl, SqL.of hd, at1, _, _, rfl, rfl, _, rfl, _, rfl, d, _, rfl, .inl (SqL.of hd), _, _, rfl, rfl, _, _, rfl, rfl, rfl, _, rfl, iteNS ?_ ?_⟩
      · refine congrArg V.bl (decide_eq_decide.mpr ?_)
        rw [List.length_map]
        rcases Nat.lt_or_ge (j + 1) (nb n).length with z | z
        · have := f1 z
          omega
        · have := f2 (by omega)
          omega
      · have b255 : ¬ 255 < b := by
          rcases Nat.lt_or_ge (j + 1) (nb n).length with z | z
          · have := f1 z
            omega
          · have := f2 (by omega)
            omega
        refine ⟨_, rfl, _, rfl, d, _, _, _, rfl, rfl, SqL.of hd, at1, _, _, rfl, rfl, _, rfl, ite2 (fun c => absurd (of_decide_eq_true c) b255) (fun _ => ?_)⟩
        refine ⟨_, rfl, _, rfl, _, rfl, d, _, _, _, rfl, rfl, SqL.of hd, at1, .inl ⟨_, rfl, _, _, rfl, rfl, (by show (0 : Int) < _; decide), _, rfl, _, _, rfl, rfl, .inl ⟨by omega, by omega⟩, _, _, rfl, rfl, ?_⟩⟩
        refine ⟨_, rfl, _, _, rfl, rfl, .inr ⟨by decide, by decide⟩, some (.int (0 + (j : Int))), ?_, rfl⟩
        show [some (V.ref a), some (V.int (0 + (i : Int))), some (V.int (n : Int)), some (V.ref d), some (V.int (val ((nb n).take j) + b % 128 * 128 ^ j)), some (V.int (128 ^ j * 128)), some (V.int (0 + (j : Int)))] = _
        rw [et, val_app, lt, Int.pow_succ]
    · rintro σ H4 ⟨c6, rfl, rfl⟩
      have ea : (nb n).take ((nb n).map V.int).length = nb n := List.take_of_length_le (by rw [List.length_map]; exact Nat.le_refl _)
      rw [ea, val_nb]
      have hne : nb n ≠ [] := fun z => by
        rw [z] at hp
        cases hp
      have hz : ((nb n).map V.int) = ((nb n).dropLast.map V.int) ++ [.int ((nb n).getLast hne)] := by
        rw [← List.map_singleton, ← List.map_append, List.dropLast_concat_getLast]
      have at2 : atI ((nb n).map V.int) (-1) = some (.int ((nb n).getLast hne)) := by
        rw [hz]
        exact atI_last _ _
      have hlast := (nb_item n ((nb n).length - 1) ((nb n).getLast hne) (by rw [List.getLast_eq_getElem, List.getElem?_eq_getElem])).2 (by omega)
      refine ⟨_, rfl, _, rfl, rfl, _, rfl, iteNS rfl ?_⟩
      refine ⟨_, rfl, _, rfl, d, _, _, _, rfl, rfl, SqL.of hd, at2, rfl, _, rfl, ite2 (fun c => ?_) (fun c => iteF ⟨_, _, _, _, _, _, rfl, s13⟩)⟩
      have hn0 : n = 0 := hlast.2.2 (V.int.inj (of_decide_eq_true c))
      refine ⟨_, rfl, _, _, rfl, rfl, _, rfl, ite2 (fun c2 => absurd (of_decide_eq_true c2) (by omega)) (fun _ => ⟨_, _, _, _, _, _, rfl, s13⟩)⟩
end
set_option maxHeartbeats 0 in
theorem all_mk {l : PySem.W.OpenLaw} {w : World} {K : PySem.W.Frag} {h : Heap} {mg : Str → Option Value} {fa f1 f2 f3 f4 f5 : Addr} (X : K.In h) (G : h.Ns mainGlobals mg) (hfa : mg "law" = some (.ref fa))
    {od1 an1 od2 an2 od3 an3 od4 an4 od5 an5 : Option Addr} {sl1 sl2 sl3 sl4 sl5 : Array (Option Value)} {oc1 kV1 dc1 pm1 cd1 ct1 oc2 kV2 dc2 pm2 cd2 ct2 oc3 kV3 dc3 pm3 cd3 ct3 oc4 kV4 dc4 pm4 cd4 ct4 oc5 kV5 dc5 pm5 cd5 ct5 : Value}
    (a1 : PySem.W.nsIn K mainGlobals "number_bytes" = some (some (.ref f1))) (l1 : K.lookup f1 = some ⟨oc1, od1, .func (PySem.W.fnOf "number_bytes" "number_bytes" (defArgs sNumberBytes) (defBody sNumberBytes) (defScope sNumberBytes) .none kV1 dc1 pm1 an1 cd1 ct1), sl1⟩) (c1 : PySem.W.codeIn K cd1 "number_bytes" = true) (k1 : PySem.W.keepIn K (.ref f1) = true)
    (a2 : PySem.W.nsIn K mainGlobals "_law_cell" = some (some (.ref f2))) (l2 : K.lookup f2 = some ⟨oc2, od2, .func (PySem.W.fnOf "_law_cell" "_law_cell" (defArgs sLawCell) (defBody sLawCell) (defScope sLawCell) .none kV2 dc2 pm2 an2 cd2 ct2), sl2⟩) (c2 : PySem.W.codeIn K cd2 "_law_cell" = true) (k2 : PySem.W.keepIn K (.ref f2) = true)
    (a3 : PySem.W.nsIn K mainGlobals "_law_digits" = some (some (.ref f3))) (l3 : K.lookup f3 = some ⟨oc3, od3, .func (PySem.W.fnOf "_law_digits" "_law_digits" (defArgs sLawDigits) (defBody sLawDigits) (defScope sLawDigits) .none kV3 dc3 pm3 an3 cd3 ct3), sl3⟩) (c3 : PySem.W.codeIn K cd3 "_law_digits" = true) (k3 : PySem.W.keepIn K (.ref f3) = true)
    (a4 : PySem.W.nsIn K mainGlobals "_law_integer" = some (some (.ref f4))) (l4 : K.lookup f4 = some ⟨oc4, od4, .func (PySem.W.fnOf "_law_integer" "_law_integer" (defArgs sLawInteger) (defBody sLawInteger) (defScope sLawInteger) .none kV4 dc4 pm4 an4 cd4 ct4), sl4⟩) (c4 : PySem.W.codeIn K cd4 "_law_integer" = true) (k4 : PySem.W.keepIn K (.ref f4) = true)
    (a5 : PySem.W.nsIn K mainGlobals "law" = some (some (.ref f5))) (l5 : K.lookup f5 = some ⟨oc5, od5, .func (PySem.W.fnOf "law" "law" (defArgs sLaw) (defBody sLaw) (defScope sLaw) .none kV5 dc5 pm5 an5 cd5 ct5), sl5⟩) (c5 : PySem.W.codeIn K cd5 "law" = true) (k5 : PySem.W.keepIn K (.ref f5) = true)
    (z_range : PySem.W.nsIn K mainGlobals "range" = some none)
    (z_len : PySem.W.nsIn K mainGlobals "len" = some none)
    (z_int : PySem.W.nsIn K mainGlobals "int" = some none)
    : ∃ fd : FuncData, (∀ (s : Shared) (v : Value), BindsTo s fd ⟨[v], []⟩ [("script", v)]) ∧ ∀ base : Heap, K.In base → base.Ns mainGlobals mg → FnOk l.prog w K mg base CX0 3 fa fd ["script"] (spLaw K) := by
  have e := hfa.symm.trans (PySem.W.mg_of X G a5)
  cases e
  have F1 := fun_mk (st := sNumberBytes) l1 c1 k1
  have b1 := F1.binds (ps := ["n"]) fun _ _ _ _ _ _ us hl => match us, hl with | [_], _ => rfl
  have F2 := fun_mk (st := sLawCell) l2 c2 k2
  have b2 := F2.binds (ps := ["script", "k"]) fun _ _ _ _ _ _ us hl => match us, hl with | [_, _], _ => rfl
  have F3 := fun_mk (st := sLawDigits) l3 c3 k3
  have b3 := F3.binds (ps := ["cell", "k", "most"]) fun _ _ _ _ _ _ us hl => match us, hl with | [_, _, _], _ => rfl
  have F4 := fun_mk (st := sLawInteger) l4 c4 k4
  have b4 := F4.binds (ps := ["script", "k"]) fun _ _ _ _ _ _ us hl => match us, hl with | [_, _], _ => rfl
  have F5 := fun_mk (st := sLaw) l5 c5 k5
  have b5 := F5.binds (ps := ["script"]) fun _ _ _ _ _ _ us hl => match us, hl with | [_], _ => rfl
  exact ⟨PySem.W.fnOf "law" "law" (defArgs sLaw) (defBody sLaw) (defScope sLaw) .none kV5 dc5 pm5 an5 cd5 ct5, fun s v => .of_eq rfl, fun base _ _ => okLaw (P := l.prog) (w := w) (base := base) (⟨f1, _, F1, b1, PySem.W.mg_of X G a1, f2, _, F2, b2, PySem.W.mg_of X G a2, f3, _, F3, b3, PySem.W.mg_of X G a3, f4, _, F4, b4, PySem.W.mg_of X G a4, fa, _, F5, b5, PySem.W.mg_of X G a5, PySem.W.mg_none_of X G z_range, PySem.W.mg_none_of X G z_len, PySem.W.mg_none_of X G z_int⟩ : Txt K mg)⟩
theorem walk {l : PySem.W.OpenLaw} {q : Program} {loose : List Str} {XP : (Str → Option Value) → Heap → Prop} {YP : World → Heap → Prop} {d : DefRec} {K : Params → PySem.W.Frag} (hn : l.most = some 63) (hdf : d.params.defaults = [])
    (hY : ∀ (w : World) (h : Heap), YP w h → (K w.params).In h)
    (F : ∀ (w : World) (mg : Str → Option Value) (fa : Addr) (h : Heap), (K w.params).In h → h.Ns mainGlobals mg → mg d.name = some (.ref fa) →
      ∃ fd : FuncData, (∀ (s : Shared) (u : Value), BindsTo s fd ⟨[u], []⟩ [("script", u)]) ∧ ∀ base : Heap, (K w.params).In base → base.Ns mainGlobals mg → FnOk l.prog w (K w.params) mg base CX0 3 fa fd ["script"] (spLaw (K w.params))) :
    PySem.W.WalkO q loose XP YP l.row.toRowW d [] (fun f vs => PySem.call f vs) :=
  L2.walk_of (n := 63) (k := 3) (x := "script") (CX := fun _ => CX0) (sp := fun w => spLaw (K w.params)) hn (by decide) hdf ⟨rfl, by decide, by decide⟩ hY F (fun _ _ a ns hl _ hS => ⟨a, ns, rfl, hS, hl, fun _ => rfl⟩) fun _ _ _ _ _ z => z
end My
open PySem PySem.W PyProof.Rows
set_option maxRecDepth 100000 in
set_option maxHeartbeats 0 in
theorem PySem.Challenge.cw_tablemates_k31_integers_as_bytes_holds : PySem.Challenge.rw_tablemates_k31_integers_as_bytes.Holds := by
  w_on; o_law; k_head; (case hw => w_witness2)
  k_fill
  refine My.walk (l := PySem.Challenge.rw_tablemates_k31_integers_as_bytes) rfl rfl (fun w h Y => PySem.W.kIn_of Y) ?F
  case F =>
    intro w mg fa h KX G hmg
    refine' My.all_mk KX G hmg ?a1 ?l1 ?c1 ?k1 ?a2 ?l2 ?c2 ?k2 ?a3 ?l3 ?c3 ?k3 ?a4 ?l4 ?c4 ?k4 ?a5 ?l5 ?c5 ?k5 ?z_range ?z_len ?z_int
    (case a1 => k_is); (case l1 => k_is); (case c1 => k_is); (case k1 => k_is); (case a2 => k_is); (case l2 => k_is); (case c2 => k_is); (case k2 => k_is); (case a3 => k_is); (case l3 => k_is); (case c3 => k_is); (case k3 => k_is); (case a4 => k_is); (case l4 => k_is); (case c4 => k_is); (case k4 => k_is); (case a5 => k_is); (case l5 => k_is); (case c5 => k_is); (case k5 => k_is); (case z_range => k_is); (case z_len => k_is); (case z_int => k_is)

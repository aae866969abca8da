import PyProof.Rows.All
import Wide.All
import OpenK.AllK
import Wide.FinOn
import HandS.Head3
import KE.KDictKeyed
import PySem.Challenge.RW_tablemates_k45_moved_contents
import HandS.ForMost
import HandS.Zip
import HandS.Walk
import HandS.Gcd
import HandS.Wide
import HandS.Deep
import HandS.Conv
import HandS.Style
import HandS.SortInts
import HandS.Codes
import KE.KEqDeep
import HandS.SortKw
import KE.SortKeyHeap
import KE.SortData
import KE.LtData
import HandS.TupSets
import KE.KTupSum
import HandS.StrMore
import HandS.WordsExc
import HandS.Strs
import HandS.DictTup
import HandS.Words
import KE.DataCmp
import HandS.Dict
import HandS.DictEq
import HandS.IsInst
import HandS.ExcInit
import HandS.ExcField
import HandS.ExcIs
import HandS.ExcOwn
import HandS.ExcCtx
import HandS.HotCalls
import HandS.ExcInitHot
import KE.KExcIs
import KE.IntTextText
import KE.KDictCopyH
import HandS.CallLocal
import KE.DataMinMax
import HandS.Lambda
import HandS.Nested
import HandS.NestedK
import HandS.EndTab
set_option Elab.async false
set_option linter.all false
set_option maxRecDepth 100000
namespace HS
open PySem PySem.W PySem.Calls PyProof.Rows

section
variable {p : Program} {w : World}
/-- steps of the machine; ok holds where each of them starts -/
inductive Goes (p : Program) (w : World) (ok : Thread → Prop) : Shared → Thread → Shared → Thread → Prop
  | here (s : Shared) (t : Thread) : Goes p w ok s t s t
  | next {s : Shared} {t : Thread} {s1 : Shared} {t1 : Thread} {s2 : Shared} {t2 : Thread} (c : t.calm = true) (g : ok t) (e : step (denote table) p w s t = .go s1 t1) (r : Goes p w ok s1 t1 s2 t2) : Goes p w ok s t s2 t2
abbrev Free : Thread → Prop := fun _ => True
theorem Goes.trans {ok : Thread → Prop} {s t s1 t1 s2 t2} (a : Goes p w ok s t s1 t1) (b : Goes p w ok s1 t1 s2 t2) : Goes p w ok s t s2 t2 := by
  induction a with
  | here => exact b
  | next c g e _ ih => exact .next c g e (ih b)
theorem Goes.free {ok : Thread → Prop} {s t s1 t1} (a : Goes p w ok s t s1 t1) : Goes p w Free s t s1 t1 := by
  induction a with
  | here => exact .here _ _
  | next c _ e _ ih => exact .next c trivial e ih
theorem Goes.life {ok : Thread → Prop} {s t s1 t1} (a : Goes p w ok s t s1 t1) : s1.heap.life = s.heap.life := by
  induction a with
  | here => rfl
  | next _ _ e _ ih => exact ih.trans (step_life _ _ _ _ _ _ _ e)
/-- the scheduler takes the same way -/
theorem Goes.sched {ok : Thread → Prop} {s t s1 t1} (a : Goes p w ok s t s1 t1) : s.asleep → ∃ m, schedN (denote table) p w m (.single s t) = .running (.single s1 t1) := by
  induction a with
  | here => exact fun _ => ⟨0, rfl⟩
  | @next s t s1 t1 s2 t2 c _ e _ ih =>
    intro z
    obtain ⟨m, hm⟩ := ih (Shared.asleep_of_life (step_life _ _ _ _ _ _ _ e) z)
    have q : sstep (denote table) p w (.single s t) = .go (.single s1 t1) := by
      rcases sstep_single (denote table) p w s t c z with x | x
      · rw [x, e]; rfl
      · rw [e] at x; cases x
    refine ⟨m + 1, ?_⟩
    unfold schedN
    rw [q]
    exact hm
/-- a piece's run -/
theorem Goes.of_seg {n₀ : Nat} {ann : Option Value} {b : Nat} : ∀ {n : Nat} {s s' : Shared} {t : Thread} {f : Flow} {c' : Code} {p' : Pos}, segRun table p w n₀ ann b n s t = some (f, s', c', p') →
    ∃ t1, Goes p w (fun x => endAt b x = none) s t s' t1 ∧ endAt b t1 = some f ∧ t1.code = c' ∧ t1.pos = p' ∧
      s'.os = s.os ∧ ∀ a o, a < n₀ → a ≠ mainNs → a ≠ cStatics → ann ≠ some (.ref a) → s.heap.get? a = some o → s'.heap.get? a = some o
  | 0, _, _, _, _, _, _, h => by cases h
  | n + 1, s, s', t, f, c', p', h => by
    unfold segRun at h
    cases he : endAt b t with
    | some g =>
      rw [he] at h
      have h2 : some (g, s, t.code, t.pos) = some (f, s', c', p') := h
      have h3 : g = f ∧ s = s' ∧ t.code = c' ∧ t.pos = p' := by simpa using h2
      obtain ⟨rfl, rfl, rfl, rfl⟩ := h3
      exact ⟨t, .here _ _, he, rfl, rfl, rfl, fun _ _ _ _ _ _ x => x⟩
    | none =>
      rw [he] at h
      cases hk : stepOk n₀ ann t with
      | false => rw [hk] at h; cases h
      | true =>
        rw [hk] at h
        cases hs : step (denote table) p w s t with
        | halt o x => rw [hs] at h; cases h
        | go x y =>
          rw [hs] at h
          obtain ⟨t1, g, e1, e2, e3, eo, fr⟩ := Goes.of_seg (n := n) h
          obtain ⟨kc, ku⟩ := Bool.and_eq_true_iff.mp hk
          refine ⟨t1, .next kc he hs g, e1, e2, e3, eo.trans (step_os_same hs (by revert ku; cases t.cur <;> simp)), fun a o h1 h2 h3 h4 h5 => fr a o h1 h2 h3 h4 ?_⟩
          rw [step_heap (denote table) p w s x t y hs]
          revert ku
          cases t.cur with
          | update d q u k =>
            intro ku
            have ne : a ≠ d := by
              intro q2
              rw [← q2] at ku
              simp only [Bool.or_eq_true, Nat.ble_eq, beq_iff_eq] at ku
              rcases ku with ((z | z) | z) | z
              · omega
              · exact h2 z
              · exact h3 z
              · exact h4 z
            exact (Heap.get?_update_ne _ _ _ _ ne).trans h5
          | alloc u k => exact fun _ => Heap.get?_push_of_some u h5
          | _ => exact fun _ => h5
/-- the top's run -/
theorem Goes.of_top {n₀ : Nat} {ann : Option Value} : ∀ {n : Nat} {s s' : Shared} {t : Thread}, topRun table p w n₀ ann n s t = some s' → ∃ t1, Goes p w Free s t s' t1 ∧ through t1 = true
  | 0, _, _, _, h => by cases h
  | n + 1, s, s', t, h => by
    unfold topRun at h
    cases he : through t with
    | true =>
      rw [he] at h
      have h2 : some s = some s' := h
      injection h2 with h2
      exact ⟨t, h2 ▸ .here _ _, he⟩
    | false =>
      rw [he] at h
      cases hk : stepOk n₀ ann t with
      | false => rw [hk] at h; cases h
      | true =>
        rw [hk] at h
        cases hs : step (denote table) p w s t with
        | halt o x => rw [hs] at h; cases h
        | go x y =>
          rw [hs] at h
          obtain ⟨t1, g, e1⟩ := Goes.of_top (n := n) h
          exact ⟨t1, .next (Bool.and_eq_true_iff.mp hk).1 trivial hs g, e1⟩
/-- so many steps of the top -/
theorem Goes.of_go {n₀ : Nat} {ann : Option Value} : ∀ {n : Nat} {s s' : Shared} {t t' : Thread}, topGo table p w n₀ ann n s t = some (s', t') → Goes p w Free s t s' t' ∧ s'.os = s.os ∧
      ∀ a o, a < n₀ → a ≠ mainNs → a ≠ cStatics → ann ≠ some (.ref a) → s.heap.get? a = some o → s'.heap.get? a = some o
  | 0, s, s', t, t', h => by
    have h2 : some (s, t) = some (s', t') := h
    injection h2 with h2
    obtain ⟨rfl, rfl⟩ := Prod.mk.inj h2
    exact ⟨.here _ _, rfl, fun _ _ _ _ _ _ x => x⟩
  | n + 1, s, s', t, t', h => by
    unfold topGo at h
    cases he : through t with
    | true => rw [he] at h; cases h
    | false =>
      rw [he] at h
      cases hk : stepOk n₀ ann t with
      | false => rw [hk] at h; cases h
      | true =>
        rw [hk] at h
        cases hs : step (denote table) p w s t with
        | halt o x => rw [hs] at h; cases h
        | go x y =>
          rw [hs] at h
          obtain ⟨g, eo, fr⟩ := Goes.of_go (n := n) h
          obtain ⟨kc, ku⟩ := Bool.and_eq_true_iff.mp hk
          refine ⟨.next kc trivial hs g, eo.trans (step_os_same hs (by revert ku; cases t.cur <;> simp)), fun a o h1 h2 h3 h4 h5 => fr a o h1 h2 h3 h4 ?_⟩
          rw [step_heap (denote table) p w s x t y hs]
          revert ku
          cases t.cur with
          | update d q u k =>
            intro ku
            have ne : a ≠ d := by
              intro q2
              rw [← q2] at ku
              simp only [Bool.or_eq_true, Nat.ble_eq, beq_iff_eq] at ku
              rcases ku with ((z | z) | z) | z
              · omega
              · exact h2 z
              · exact h3 z
              · exact h4 z
            exact (Heap.get?_update_ne _ _ _ _ ne).trans h5
          | alloc u k => exact fun _ => Heap.get?_push_of_some u h5
          | _ => exact fun _ => h5
end

section
variable {p : Program} {w : World} {α : Type} {B : List Frame} {K' : α → Sem Fin} {H' : Value → Sem Fin} {gd : Bool → Bool} {lv : List Value → List Value} {res : α → Flow}
theorem calm_outer {x : Sem α} {code : Code} {pos : Pos} (hp : ∀ a, x ≠ .pure a) (hr : ∀ e, x ≠ .raise e) {K : α → Sem Fin} (h : Thread.calm ⟨x.wrap K deadEnd gd lv, code, pos, B⟩ = true) : Thread.calm ⟨x.wrap K' H' gd lv, code, pos, B⟩ = true := by
  cases x with
  | pure a => exact absurd rfl (hp a)
  | raise e => exact absurd rfl (hr e)
  | _ => exact h
theorem calm_inner (hB : splitAtGen B = none) {K : α → Sem Fin} {H : Value → Sem Fin} {cur : Sem Fin} {code : Code} {pos : Pos} {a b : List Frame} (F : Frames2 K K' H H' gd lv B a b) (h : Thread.calm ⟨cur, code, pos, a⟩ = true) : Thread.calm ⟨cur, code, pos, b⟩ = true := by
  refine Eq.trans ?_ h
  rcases F.split hB with ⟨u, v⟩ | ⟨_, _, _, _, _, _, _, _, u, v, _⟩
  · cases cur <;> first | rfl | simp only [Thread.calm, Thread.yieldsInsideHandler, Thread.atCollectorCode, Thread.atExit, u, v]
  · cases cur <;> first | rfl | simp only [Thread.calm, Thread.yieldsInsideHandler, Thread.atCollectorCode, Thread.atExit, u, v]
/-- a piece's run, with what follows -/
theorem glue (hB : splitAtGen B = none) {s t s1 t1} (a : Goes p w (fun x => endAt B.length x = none) s t s1 t1) : ∀ {t' : Thread} {f : Flow}, Rel2 (fun a => .pure (.done (res a))) K' deadEnd H' gd lv B t t' → endAt B.length t1 = some f →
    ∃ x, res x = f ∧ Goes p w Free s t' s1 ⟨K' x, t1.code, t1.pos, B⟩ := by
  induction a with
  | here s t =>
    intro t' f R e
    obtain ⟨cur, code, pos, st⟩ := t
    obtain ⟨cur', code', pos', st'⟩ := t'
    obtain ⟨e1, e2, R⟩ := R
    dsimp only at e1 e2 R
    subst e1 e2
    rcases R with ⟨rfl, rfl, x, rfl, rfl⟩ | ⟨rfl, F⟩
    · cases x with
      | pure y =>
        simp only [endAt, Sem.wrap, beq_self_eq_true, Option.some.injEq] at e
        exact ⟨y, e, .here _ _⟩
      | _ => simp [endAt, Sem.wrap] at e
    · have l := F.longer.1
      have z : (st.length == B.length) = false := beq_eq_false_iff_ne.mpr (Nat.ne_of_gt l)
      simp only [endAt, z] at e
      cases e
  | @next s t sa ta sb tb c g e r ih =>
    intro t' f R ef
    obtain ⟨cur, code, pos, st⟩ := t
    obtain ⟨cur', code', pos', st'⟩ := t'
    obtain ⟨e1, e2, R⟩ := R
    dsimp only at e1 e2 R
    subst e1 e2
    rcases R with ⟨rfl, rfl, x, rfl, rfl⟩ | ⟨rfl, F⟩
    · have hp : ∀ y, x ≠ .pure y := by
        intro y q
        rw [q] at g
        simp [endAt, Sem.wrap] at g
      have hr : ∀ u, x ≠ .raise u := by
        intro u q
        rw [q] at e
        obtain ⟨heap, gens, drawn, toks, os⟩ := s
        simp only [Sem.wrap, step] at e
        cases e
      obtain ⟨t2, st2, R2⟩ := step_outer (K' := K') (H' := H') hB hp e
      obtain ⟨y, hy, gy⟩ := ih R2 ef
      exact ⟨y, hy, .next (calm_outer hp hr c) trivial st2 gy⟩
    · obtain ⟨t2, st2, R2⟩ := step_inner hB F e
      obtain ⟨y, hy, gy⟩ := ih R2 ef
      exact ⟨y, hy, .next (calm_inner hB F c) trivial st2 gy⟩
end

section
variable {p : Program} {w : World}
/-- the machine without its notes, and the machine itself -/
theorem Goes.of_bare {ok : Thread → Prop} (hok : ∀ a b : Thread, a.forget = b.forget → ok a → ok b) : ∀ (n : Nat) {s t s' t'}, runNI (denote table) p w n s t = .running s' t' →
    (∀ k, k < n → ∀ s1 t1, runNI (denote table) p w k s t = .running s1 t1 → ok t1) → ∀ {σ : Shared} {τ : Thread}, s.forget = σ.forget → t.forget = τ.forget →
      ∃ σ' τ', Goes p w ok σ τ σ' τ' ∧ s'.forget = σ'.forget ∧ t'.forget = τ'.forget
  | 0, s, t, s', t', h, _, σ, τ, es, et => by
    have h2 : Run.running s t = .running s' t' := h
    injection h2 with h1 h2
    exact ⟨σ, τ, .here _ _, h1 ▸ es, h2 ▸ et⟩
  | n + 1, s, t, s', t', h, hk, σ, τ, es, et => by
    simp only [runNI] at h
    cases hl : t.loud with
    | true => rw [stepI_loud _ _ _ hl] at h; cases h
    | false =>
      have hI := stepI_quiet (denote table) p w (s := s) hl
      cases hs : stepK (denote table) p w s t with
      | halt o x => rw [hI, hs] at h; cases h
      | go x y =>
        rw [hI, hs] at h
        have q := (stepK_forget (denote table) p w s t).trans (step_same (denote table) p w es et)
        rw [hs] at q
        cases hr : step (denote table) p w σ τ with
        | halt o z => rw [hr] at q; cases q
        | go σ1 τ1 =>
          rw [hr] at q
          simp only [Step.forget] at q
          injection q with qa qb
          have calm : t.calm = true := by
            rw [Thread.calm_eq, hl]
            cases hf : t.refused with
            | false => rfl
            | true =>
              obtain ⟨v, ev⟩ := stepK_refused (denote table) p w (s := s) hf
              rw [hs] at ev; cases ev
          have calm2 : τ.calm = true := by rw [← Thread.calm_forget, ← et, Thread.calm_forget]; exact calm
          have ok0 : ok t := hk 0 (Nat.succ_pos n) s t rfl
          obtain ⟨σ', τ', g, a, b⟩ := Goes.of_bare hok n h (fun k lt s1 t1 e => hk (k + 1) (Nat.succ_lt_succ lt) s1 t1 (by simp only [runNI, hI, hs]; exact e)) qa qb
          exact ⟨σ', τ', .next calm2 (hok t τ et ok0) hr g, a, b⟩
/-- what the program logic says of a tree, for the tree that ends a piece -/
theorem wp_end {M : Model} {Γ : Ctx} {α : Type} {res : α → Flow} (m : Sem α) : ∀ (Q : α → Pos → Shared → Prop) (q : Pos) (s : Shared), Sem.wp M Γ m Q (fun _ _ _ => False) q s →
    Sem.wp M Γ (m.wrap (fun a => (.pure (.done (res a)) : Sem Fin)) deadEnd id id) (fun fin q' s' => ∃ a, fin = .done (res a) ∧ Q a q' s') (fun _ _ _ => False) q s := by
  induction m with
  | pure a => exact fun Q q s h => ⟨a, rfl, h⟩
  | raise e => exact fun Q q s h => h.elim
  | unsupported _ => exact fun Q q s h => h.elim
  | finish _ => exact fun Q q s h => h.elim
  | rule _ k ih => exact fun Q q s h => ih () Q q s h
  | «at» q0 k ih => exact fun Q q s h => ih () Q q0 s h
  | load _ _ k ih => exact fun Q q s h => let ⟨o, ho, h⟩ := h; ⟨o, ho, ih o Q q s h⟩
  | update _ _ _ k ih => exact fun Q q s h => ⟨h.1, ih () Q q _ h.2⟩
  | loadIfAlive _ k ih => exact fun Q q s h => ih _ Q q s h
  | point _ k ih => exact fun Q q s h => ih () Q q s h
  | register _ k _ => exact fun Q q s h => h.elim
  | alloc _ k ih => exact fun Q q s h => ih _ Q q _ h
  | fresh k ih => exact fun Q q s h => ih _ Q q _ h
  | ask k ih => exact fun Q q s h => ih _ Q q _ h
  | choose _ _ k ih => exact fun Q q s h => ⟨h.1, ih _ Q q _ h.2⟩
  | os _ _ k ih => exact fun Q q s h => ih _ Q q _ h
  | call _ _ _ _ k ih => exact fun Q q s h => let ⟨r, s1, hr, h⟩ := h; ⟨r, s1, hr, ih r Q q s1 h⟩
  | handled _ k ih => exact fun Q q s h => ih _ Q q s h
  | genState _ k ih => exact fun Q q s h => let ⟨x, hx, h⟩ := h; ⟨x, hx, ih _ Q q s h⟩
  | newGen _ k ih => exact fun Q q s h => ih _ Q q _ h
  | resume _ _ _ k ih => exact fun Q q s h => let ⟨r, s1, hw, h⟩ := h; ⟨r, s1, hw, ih r Q q s1 h⟩
  | «yield» _ _ _ k _ => exact fun Q q s h => h.elim
  | stack k ih => exact fun Q q s h => ih _ Q q s h
  | fork _ k _ => exact fun Q q s h => h.elim
  | thread k ih => exact fun Q q s h => ih _ Q q s h
  | await _ _ _ _ k _ => exact fun Q q s h => h.elim
theorem forget_len (st : List Frame) : (forgetAll st).length = st.length := List.length_map _
/-- a piece by the program logic -/
theorem Goes.of_wp {α : Type} {res : α → Flow} {m : Sem α} {c : Code} {q : Pos} {fr : Frame} {s : Shared} {Q : α → Shared → Prop} (hg : ∀ a s', Q a s' → s'.gens = #[])
    (h : Sem.wp (model p w) (Ctx.of c [fr]) m (fun a _ s' => Q a s') (fun _ _ _ => False) q s) :
    ∃ t1 a s', Goes p w (fun x => endAt 1 x = none) s ⟨m.wrap (fun a => (.pure (.done (res a)) : Sem Fin)) deadEnd id id, c, q, [fr]⟩ s' t1 ∧ endAt 1 t1 = some (res a) ∧ t1.code = c ∧ Q a s' := by
  have h1 : ∀ (t : Sem Fin) (c : Code) (q : Pos), (∀ a, t ≠ .pure a) → endAt 1 ⟨t, c, q, [fr]⟩ = none := fun t c q hp => by
    cases t with
    | pure a => exact absurd rfl (hp a)
    | _ => rfl
  have h2 : ∀ (t : Sem Fin) (c : Code) (q : Pos) (pre : List Frame) (F : Frame), endAt 1 ⟨t, c, q, pre ++ F :: [fr]⟩ = none := fun t c q pre F => by
    have z : ((pre ++ F :: [fr]).length == 1) = false := beq_eq_false_iff_ne.mpr (by simp)
    unfold endAt
    dsimp only
    rw [z]
  have h3 : ∀ a b : Thread, a.forget = b.forget → endAt 1 a = none → endAt 1 b = none := fun a b e x => by
    obtain ⟨cur, code, pos, st⟩ := a
    obtain ⟨cur', code', pos', st'⟩ := b
    simp only [Thread.forget, Thread.mk.injEq] at e
    obtain ⟨rfl, _, _, f4⟩ := e
    have len : st.length = st'.length := by
      have z := congrArg List.length f4
      rw [forget_len, forget_len] at z
      exact z
    show endAt 1 ⟨cur, code', pos', st'⟩ = none
    unfold endAt at x ⊢
    dsimp only at x ⊢
    rw [← len]
    exact x
  obtain ⟨s', q', leaf, ⟨n, hn, hall⟩, hl⟩ := wp_comesBy (M := model p w) (Good := fun x => endAt 1 x = none) (Ctx.fits_of c [fr]) h1 h2 _ _ _ q s (wp_end (res := res) m _ q s h)
  rcases hl with ⟨fin, rfl, a, rfl, hq⟩ | ⟨_, _, z⟩
  · obtain ⟨σ', τ', g, e1, e2⟩ := Goes.of_bare (p := p) (w := w) (ok := fun x => endAt 1 x = none) h3 n hn hall rfl rfl
    obtain ⟨cur, code, pos, st⟩ := τ'
    simp only [Thread.forget, Thread.mk.injEq] at e2
    obtain ⟨f1, f2, _, f4⟩ := e2
    have es : σ' = s' := (Shared.eq_of_forget_eq e1.symm (hg a s' hq))
    subst f1 f2 es
    refine ⟨_, a, _, g, ?_, rfl, hq⟩
    have len : st.length = 1 := by
      have z := congrArg List.length f4
      rw [forget_len, forget_len] at z
      exact z.symm
    show endAt 1 ⟨.pure (.done (res a)), c, pos, st⟩ = some (res a)
    unfold endAt
    dsimp only
    rw [len]
    rfl
  · exact z.elim
end
end HS
namespace HS
open PySem PySem.W PySem.Calls PyProof.Rows

/-- what stands behind the top of p, at a world -/
def Stands (p q : Program) (loose : List Str) (R : WRecords) (XP : (Str → Option Value) → Heap → Prop) (YP : World → Heap → Prop) (w : World) : Prop :=
  (∃ s, AfterRun (opening p) w s) ∧ ∀ s, AfterRun (opening p) w s → ∃ z, fenceModules? p s = some z ∧ z.gens = #[] ∧ ∃ e, TopRan p w z e ∧ e.asleep ∧ e.gens = #[] ∧ e.heap.isNs mainGlobals = true ∧
    Ground q loose R XP w e (e.heap.nsMap mainGlobals) (e.heap.nsMap builtinsNs) e.heap ∧ RecFacts R e.heap ∧ YP w e.heap

theorem topFrame_split (q0 : Pos) : splitAtGen [topFrame q0] = none := rfl
theorem pieces_rel {l rest : List Stmt} {env : Env} {c : Code} {q q0 : Pos} : Rel2 (fun a => (.pure (.done (id a)) : Sem Fin)) (fun f => match f with | .next => (execs rest env).wrap doneF (leaveH env) id id | f => doneF f) deadEnd (leaveH env) id id [topFrame q0]
    (piecesOf l env c q [topFrame q0]) (restOf (l ++ rest) env c q [topFrame q0]) := by
  refine ⟨rfl, rfl, .inl ⟨rfl, rfl, execs l env, rfl, ?_⟩⟩
  show (execs (l ++ rest) env).wrap doneF (leaveH env) id id = _
  rw [execs_app_wrap]
  exact congrArg (fun k => Sem.wrap k (leaveH env) id id (execs l env)) (funext fun f => by cases f <;> rfl)
theorem one_rel {st : Stmt} {rest : List Stmt} {env : Env} {c : Code} {q q0 : Pos} : Rel2 (fun a => (.pure (.done (id a)) : Sem Fin)) (fun f => match f with | .next => (execs rest env).wrap doneF (leaveH env) id id | f => doneF f) deadEnd (leaveH env) id id [topFrame q0]
    (pieceOf st env c q [topFrame q0]) (restOf (st :: rest) env c q [topFrame q0]) := by
  refine ⟨rfl, rfl, .inl ⟨rfl, rfl, exec st env, rfl, ?_⟩⟩
  show (execs (st :: rest) env).wrap doneF (leaveH env) id id = _
  rw [execs_cons_wrap]
  exact congrArg (fun k => Sem.wrap k (leaveH env) id id (exec st env)) (funext fun f => by cases f <;> rfl)
section
variable {p q : Program} {loose : List Str} {R : WRecords} {Xt : Shared → Bool} {XP : (Str → Option Value) → Heap → Prop} {YP : World → Heap → Prop} {w : World} {N n1 nA nB : Nat} {ann : Option Value}
  {s0 s1 s3 s4 : Shared} {A B : List Stmt} {st : Stmt} {env : Env} {pos1 q0 q3 : Pos}
theorem stands_of (hop : fencedOpening table p w N = some s0) (hg : (s0.heap.isNs mainGlobals && s0.gens.size == 0) = true) (ha : s0.heap.nsMap mainGlobals "__annotations__" = ann)
    (hpre : topGo table p w s0.heap.objs.size ann n1 s0 (topStub p) = some (s1, ⟨denote table (.body (A ++ st :: B) env), .body (A ++ st :: B) env, pos1, [topFrame q0]⟩))
    (hbs : blockStart (A ++ st :: B) env = pure ())
    (hA : segRun table p w s0.heap.objs.size ann 1 nA s1 (piecesOf A env (.body (A ++ st :: B) env) pos1 [topFrame q0]) = some (.next, s3, .body (A ++ st :: B) env, q3))
    (hW : Sem.wp (model p w) (Ctx.of (.body (A ++ st :: B) env) [topFrame q0]) (exec st env) (fun f _ s' => f = .next ∧ s' = s4) (fun _ _ _ => False) q3 s3)
    (g4 : s4.gens = #[]) (o4 : s4.os = s3.os) (f4 : ∀ a o, a ≠ mainNs → s3.heap.get? a = some o → s4.heap.get? a = some o)
    (hB : ∀ q4, ∃ s5, topRun table p w s0.heap.objs.size ann nB s4 (restOf B env (.body (A ++ st :: B) env) q4 [topFrame q0]) = some s5 ∧
      (staticsOk (importedModules p.main.body) s0.heap s5.heap && namesBound p s5.heap && gensDone s5 && laidKept s0.heap s5.heap) = true ∧ openSeen q loose (importedModules p.main.body) Xt true s5 = openGood q loose ∧ YP w s5.heap)
    (hch : chainsOk q = true) (hX : ∀ s, Xt s = true → XP (s.heap.nsMap mainGlobals) s.heap ∧ RecFacts R s.heap)
 : Stands p q loose R XP YP w := by
  obtain ⟨si, i1, i2⟩ := Option.bind_eq_some_iff.mp hop
  have AR : AfterImport (opening p) w si := AfterImport.of_importEnds i1
  refine ⟨⟨si, AR⟩, fun s' hs' => ?_⟩
  have es : s' = si := AfterImport.unique hs' AR
  subst es
  have z0 : s0.asleep := Shared.asleep_of_life (fence_lifeW i2) AR.life
  obtain ⟨mg0, gz⟩ := Bool.and_eq_true_iff.mp hg
  -- the ways, one behind the other
  obtain ⟨w1, o1, f1⟩ := Goes.of_go hpre
  obtain ⟨t3, w3, e3, c3, p3, o3, f3⟩ := Goes.of_seg hA
  obtain ⟨x3, hx3, g3⟩ := glue (topFrame_split q0) w3 (pieces_rel (rest := st :: B)) e3
  have hx3 : x3 = .next := hx3
  subst hx3
  rw [c3, p3] at g3
  obtain ⟨t4, x4, s4', w4, e4, c4, hx4, hs4⟩ := Goes.of_wp (res := id) (Q := fun f s' => f = .next ∧ s' = s4) (fun a s' h => by rw [h.2]; exact g4) hW
  subst hx4 hs4
  obtain ⟨x5, hx5, g5⟩ := glue (topFrame_split q0) w4 (one_rel (rest := B)) e4
  have hx5 : x5 = .next := hx5
  subst hx5
  rw [c4] at g5
  obtain ⟨s5, hB5, looks, sees, y⟩ := hB t4.pos
  obtain ⟨t6, g6, th6⟩ := Goes.of_top hB5
  have entry : (⟨denote table (.body (A ++ st :: B) env), .body (A ++ st :: B) env, pos1, [topFrame q0]⟩ : Thread) = restOf (A ++ st :: B) env (.body (A ++ st :: B) env) pos1 [topFrame q0] := by
    rw [body_wrap, hbs]
    rfl
  rw [entry] at w1
  have way : Goes p w Free s0 (topStub p) s5 t6 := w1.trans (g3.trans (g5.trans g6))
  obtain ⟨m, hm⟩ := way.sched z0
  have l3 : s4'.heap.life = s0.heap.life := (w1.trans (g3.trans g5)).life
  obtain ⟨_, _, o6, f6⟩ := topRun_spec _ _ _ _ (Shared.asleep_of_life l3 z0) hB5
  have eos : s5.os = s0.os := o6.trans (o4.trans (o3.trans o1))
  obtain ⟨looks, lk4⟩ := Bool.and_eq_true_iff.mp looks
  obtain ⟨looks, lk3⟩ := Bool.and_eq_true_iff.mp looks
  obtain ⟨lk1, lk2⟩ := Bool.and_eq_true_iff.mp looks
  obtain ⟨G, k0, k1, k2, k3, k4, k5⟩ := ground_of_open (w := w) (XP := fun mg h => XP mg h ∧ RecFacts R h) hX hch sees
  have G0 : Ground q loose [] XP w s5 (s5.heap.nsMap mainGlobals) (s5.heap.nsMap builtinsNs) s5.heap := ⟨G.T, G.B, G.D, G.TE, G.TD, G.W, G.X.1, G.cls, G.has, G.apart, G.once, G.K⟩
  refine ⟨s0, i2, Array.eq_empty_of_size_eq_zero (beq_iff_eq.mp gz), s5, ⟨⟨m, t6, hm, th6⟩, way.life, Shared.rest_eq eos, fun b o hb hn => ?_, k2, statics_of_ok lk1, k3, k4, k5, gens_of_done lk3, names_of_bound lk2, laid_of_kept lk4⟩,
    Shared.asleep_of_life way.life z0, Array.eq_empty_of_size_eq_zero (beq_iff_eq.mp k0), k1, RecFacts.ground G.X.2 G0, G.X.2, y⟩
  have n1' : b ≠ mainNs := fun e => hn (.inl e)
  have n2' : b ≠ cStatics := fun e => hn (.inr (.inl e))
  have n3' : ann ≠ some (.ref b) := fun e => hn (.inr (.inr ((Pin.globalOf_eq mg0 _).trans (ha.trans e))))
  have lt := Heap.lt_size hb
  exact f6 b o lt n1' n2' n3' (f4 b o n1' (f3 b o lt n1' n2' n3' (f1 b o lt n1' n2' n3' hb)))
end

theorem own_holds {r : OpenRow} {q : Program} {loose : List Str} {XP : (Str → Option Value) → Heap → Prop} {YP : World → Heap → Prop} {d : DefRec} {kwd : List (Str × Expr)}
    (beh : ∀ w, Stands r.prog q loose r.records XP YP w)
    (yk : ∀ w h h', YP w h → (∀ b o, h.get? b = some o → h'.get? b = some o) → YP w h') (xk : ∀ mg h h', XP mg h → (∀ b o, h.get? b = some o → h'.get? b = some o) → XP mg h')
    (hdef : defOf q r.name = some (d, kwd)) (hp : r.prog.theDef r.name = some (d.params, d.body, d.scope)) (hk : kwWritten? d.params.kwonlyargs d.params.kw_defaults = some kwd) (hwr : (!r.writes || r.records.isEmpty) = true)
    (k1 : r.wellSaid = true) (hop : opensWell r.prog = true) (hfr : frees r.toRowW = true) (hwi : r.within.isEmpty = true) (hb : r.prog.bare) (hw : r.toRowW.promised)
    (call : WalkO q loose XP YP r.toRowW d kwd fun f vs => PySem.call f vs) : r.Holds := by
  obtain ⟨f1, f2, f3, f4, f5⟩ := frees_parts hfr
  have idt := ident_freeW f2 f3 f4
  have wi : r.toRowW.claim.within = [] := List.isEmpty_iff.mp hwi
  refine ⟨k1, hw, ⟨hb, hop, by show r.toRowW.makers.map _ = []; rw [f5]; rfl⟩, hw.witness, fun w => ⟨(beh w).1, fun sI hI => ?_⟩⟩
  obtain ⟨z, e1, e2, e, T, zz, eg, en, G, RF, y⟩ := (beh w).2 sI hI
  refine ⟨z, e1, e2, e, T, fun n hn => ?_, RF.1, RF.2.1, ?_⟩
  · have : n = r.name := by split at hn <;> simp_all
    subst this
    have G0 : Ground q loose [] XP w e (e.heap.nsMap mainGlobals) (e.heap.nsMap builtinsNs) e.heap := ⟨G.T, G.B, G.D, G.TE, G.TD, G.W, G.X, G.cls, (fun c hc => (nomatch hc)), (fun c c' a hc => (nomatch hc)), (fun c fs hf => (nomatch hf)), G.K⟩
    exact pinned_of_view en G0 hdef hp hk
  refine ClaimW.callFrom_of_specG (c := r.toRowW.claim) zz eg ?_
  intro args pa la ord ho
  obtain ⟨⟨vs, t⟩, laid⟩ := Option.isSome_iff_exists.mp (layAllW_isSome (P := w.params) (ord := ord) G.has args r.toRowW.args e (pre_splitW pa).1)
  have kp := layAllW_keeps _ _ _ laid
  have rest := layAllW_rest _ _ _ laid
  obtain ⟨as, rd, ins, old⟩ := reads_layAllW ho _ _ _ laid la t.heap fun _ _ x => x
  have L : Laid r.toRowW.records w e t args vs as := ⟨⟨ord, ho, laid⟩, rd, ins, old, kp, rest.1.trans eg, rest.2.2.1⟩
  have G1 := G.keeps xk kp
  obtain ⟨a, o, pm, cd, doc, dV, kV, g1, g2, g3, g4, g5⟩ := G1.fn hdef
  have said := call w e t _ _ G1 (yk _ _ _ y kp) a o pm cd doc dV kV g2 g3 g4 g5 (defOf_name hdef ▸ g1) L.gens args vs as pa la L.reads L.well (L.low G.low)
  have fin : ∀ res s', GoodWG r.toRowW.claim (classAt e.heap) (ExcName.means e.heap) args t res s' → r.toRowW.claim.Ends e args vs t res s' ∧ s'.os = e.os ∧ AllBare s'.gens ∧ (r.writes = true → namesKept r.prog r.keeps e.heap s'.heap ∧
      ∀ x ∈ r.records, ∀ a, classAt e.heap x.1 = some a → recordClass s'.heap a x.1 (x.2.map (·.1)) = true) := fun res s' g => by
    have u := g.laid (c := r.toRowW.claim) f1 wi idt L
    exact ⟨u.1, u.2.1, u.2.2, fun hq => ⟨namesKept_of T en r.keeps kp g.2.1.old, noTable hwr hq⟩⟩
  refine ⟨vs, t, laid, ?_⟩
  refine wpAny_bind (wpAny_nsGet G1.T.g ?_)
  rw [g1]
  exact wpAny_bind (wpAny_mono said (fun v s' g => wpAny_pure ⟨_, rfl, fin _ s' g⟩) fun u s' g => fin _ s' g)
end HS
namespace HS
open PySem PySem.W PySem.Calls PyProof.Rows

/-! ### heaps with a list of objects behind them -/
def ap (h : Heap) (L : List Obj) : Heap := ⟨h.objs ++ L.toArray, h.life⟩
theorem ap_nil (h : Heap) : ap h [] = h := by
  obtain ⟨a, l⟩ := h
  show (⟨a ++ ([] : List Obj).toArray, l⟩ : Heap) = _
  simp
theorem ap_size (h : Heap) (L : List Obj) : (ap h L).objs.size = h.objs.size + L.length := by
  show (h.objs ++ L.toArray).size = _
  simp
theorem ap_push (h : Heap) (L : List Obj) (o : Obj) : (ap h L).push o = ap h (L ++ [o]) := by
  show (⟨(h.objs ++ L.toArray).push o, h.life⟩ : Heap) = ⟨h.objs ++ (L ++ [o]).toArray, h.life⟩
  congr 1
  apply Array.ext'
  simp
theorem ap_upd (h : Heap) (L : List Obj) (i : Nat) (f : Obj → Obj) : (ap h L).update (h.objs.size + i) f = ap h (L.modify i f) := by
  show (⟨(h.objs ++ L.toArray).modify (h.objs.size + i) f, h.life⟩ : Heap) = ⟨h.objs ++ (L.modify i f).toArray, h.life⟩
  congr 1
  apply Array.ext_getElem?
  intro j
  rw [Array.getElem?_modify, Array.getElem?_append, Array.getElem?_append]
  by_cases c : j < h.objs.size
  · have : ¬ h.objs.size + i = j := by omega
    simp [c, this]
  · by_cases e : h.objs.size + i = j
    · subst e
      simp [List.getElem?_modify]
      rw [if_neg c, if_neg c]
    · have e2 : ¬ i = j - h.objs.size := by omega
      simp [c, e, List.getElem?_modify, e2]
theorem ap_get {h : Heap} {L : List Obj} {i : Nat} {o : Obj} (e : L[i]? = some o) (f : o.isFreed = false) : (ap h L).get? (h.objs.size + i) = some o := by
  have z : (ap h L).objs[h.objs.size + i]? = some o := by
    show (h.objs ++ L.toArray)[h.objs.size + i]? = some o
    rw [Array.getElem?_append]
    simp [e]
  unfold Heap.get?
  rw [z]
  obtain ⟨c, d, dt, sl⟩ := o
  cases dt <;> first | rfl | cases f
theorem ap_old {h : Heap} {L : List Obj} {a : Nat} {o : Obj} (e : h.get? a = some o) : (ap h L).get? a = some o := by
  have lt := Heap.lt_size e
  unfold Heap.get? at e ⊢
  have z : (ap h L).objs[a]? = h.objs[a]? := by
    show (h.objs ++ L.toArray)[a]? = _
    rw [Array.getElem?_append, if_pos lt]
  rw [z]
  exact e

/-! ### what a display of such keys lays -/
abbrev Ent := Str × Str × Str
def keyO (a b : Str) (t : Nat) : Obj := { cls := .type "tuple", dict := none, data := .seq [Value.str a t, Value.str b (t + 1)].toArray }
def dictO (es : List DictEntry) (n : Nat) : Obj := { cls := .type "dict", data := .dict es.toArray n }
section
variable {prog : Program} {w : World} {A : Around} {E : Value → Shared → Prop}
abbrev kn (prog : Program) (w : World) : HeapKind prog w (List Str) := tupleKind (strKind prog w)
abbrev XS := List (List Str × Addr × Value)
theorem keyO_is {h : Heap} {a : Addr} {x y : Str} {t : Nat} (e : h.get? a = some (keyO x y t)) : (kn prog w).is h [x, y] a :=
  ⟨_, _, _, e, rfl, rfl, .cons (by show (x == x) = true; simp) (.cons (by show (y == y) = true; simp) .nil)⟩
theorem mapKeys_dictO (es : List DictEntry) (n : Nat) (e : DictEntry) : Obj.mapDictKeys (·.push e) (dictO es n) = dictO (es ++ [e]) (n + 1) := by
  show (⟨Value.type "dict", none, Data.dict (es.toArray.push e) (n + 1), #[]⟩ : Obj) = ⟨Value.type "dict", none, Data.dict (es ++ [e]).toArray (n + 1), #[]⟩
  congr 2
  simp

/-- a new key -/
theorem set_new {s : Shared} {d a : Addr} {xs : XS} {n : Nat} {x y : Str} {v : Value} {Q : Unit → Shared → Prop} (hu : A.units < cLine) (hk : (kn prog w).is s.heap [x, y] a) (hd : s.heap.get? d = some (dictO (xs.map (entryOfKey (kn prog w))) n))
    (his : ∀ z ∈ xs, (kn prog w).is s.heap z.1 z.2.1) (hn : (xs.map (·.1)).Nodup) (hno : [x, y] ∉ xs.map (·.1)) (hl : xs.length ≤ 100)
    (h : Q () { s with heap := s.heap.update d (Obj.mapDictKeys (·.push (entryOfKey (kn prog w) ([x, y], a, v)))), toks := s.toks + 3 }) : wpAny (model prog w) A (dictSet d (.ref a) v) Q E s := by
  have len : 100 ≤ sizeLine := by decide
  unfold dictSet
  refine wpAny_holding (wpAny_bind ((kn prog w).pyHash hu hk ?_))
  unfold dictSetHashed
  refine wpAny_holding (wpAny_bind (wpAny_dictFind_heap (s := { s with toks := s.toks + (kn prog w).draws [x, y] }) (knd := kn prog w) (es := (xs.map (entryOfKey (kn prog w))).toArray) (ep := n) hu hk hd rfl rfl his hn (fun _ => ?_) fun j p hj => ?_))
  · exact wpAny_bind (wpAny_rule (wpAny_updateDictKeys (s := { s with toks := s.toks + (kn prog w).draws [x, y] }) hd rfl h (hz := by simp; omega)))
  · exact absurd (List.mem_map.mpr ⟨_, List.mem_of_getElem? hj, rfl⟩) hno
theorem put_new {s : Shared} {d a : Addr} {xs : XS} {n : Nat} {x y : Str} {v : Value} {Q : Unit → Shared → Prop} (hu : A.units < cLine) (hk : (kn prog w).is s.heap [x, y] a) (hd : s.heap.get? d = some (dictO (xs.map (entryOfKey (kn prog w))) n))
    (his : ∀ z ∈ xs, (kn prog w).is s.heap z.1 z.2.1) (hn : (xs.map (·.1)).Nodup) (hno : [x, y] ∉ xs.map (·.1)) (hl : xs.length ≤ 100)
    (h : Q () { s with heap := s.heap.update d (Obj.mapDictKeys (·.push (entryOfKey (kn prog w) ([x, y], a, v)))) }) : wpAny (model prog w) A (dictPut d ((kn prog w).hash [x, y]) (.ref a) v) Q E s := by
  have len : 100 ≤ sizeLine := by decide
  unfold dictPut
  refine wpAny_bind (wpAny_dictFind_heap (knd := kn prog w) (es := (xs.map (entryOfKey (kn prog w))).toArray) (ep := n) hu hk hd rfl rfl his hn (fun _ => ?_) fun j p hj => ?_)
  · exact wpAny_updateDictKeys hd rfl h (hz := by simp; omega)
  · exact absurd (List.mem_map.mpr ⟨_, List.mem_of_getElem? hj, rfl⟩) hno

/-- a pair of trees is a written entry -/
structure Tells (prog : Program) (w : World) (A : Around) (x : Sem Value × Sem Value) (e : Ent) : Prop where
  key : ∀ (E : Value → Shared → Prop) (s : Shared) (Q : Value → Shared → Prop), Q (.ref s.heap.objs.size) { s with heap := s.heap.push (keyO e.1 e.2.1 s.toks), toks := s.toks + 2 } → wpAny (model prog w) A x.1 Q E s
  val : ∀ (E : Value → Shared → Prop) (s : Shared) (Q : Value → Shared → Prop), Q (.str e.2.2 s.toks) { s with toks := s.toks + 1 } → wpAny (model prog w) A x.2 Q E s
theorem tells_written {env : Env} {a b v : Str} {k1 k2 k3 k4 : Nat} {p1 p2 p3 p4 : Pos} {x : Sem Value} (hx : x = (do let y ← eval (.Constant (.str v) k4 p4) env; standAt p3; pure y)) :
    Tells prog w A (eval (.Tuple [.Constant (.str a) k1 p1, .Constant (.str b) k2 p2] k3 p3) env, x) (a, b, v) := by
  subst hx
  refine ⟨fun E s Q h => ?_, fun E s Q h => ?_⟩
  · show wpAny _ _ (do standAt p3; newTuple (← spliced [(false, mkText a), (false, mkText b)])) Q E s
    refine wpAny_bind (wpAny_standAt (wpAny_bind (wpAny_bind (wpAny_mkText (wpAny_bind (wpAny_pure (wpAny_bind (wpAny_holding (wpAny_bind (wpAny_mkText (wpAny_bind (wpAny_pure (wpAny_bind (wpAny_holding (wpAny_pure (wpAny_pure (wpAny_pure ?_)))))))))))))))))
    exact wpAny_newObj_type h
  · exact wpAny_bind (wpAny_mkText (wpAny_bind (wpAny_standAt (wpAny_pure h))))

inductive All : List (Sem Value × Sem Value) → List Ent → Prop
  | nil : All [] []
  | cons {x e ps es} (h : Tells prog w A x e) (r : All ps es) : All (x :: ps) (e :: es)
def keyOf (e : Ent) : List Str := [e.1, e.2.1]
def TI (H : Heap) (xs : XS) : Prop := ∀ z ∈ xs, ∃ x y t, z.1 = [x, y] ∧ H.get? z.2.1 = some (keyO x y t)
def Kp (H H' : Heap) : Prop := ∀ a x y t, H.get? a = some (keyO x y t) → H'.get? a = some (keyO x y t)
theorem TI.kp {H H' : Heap} {xs : XS} (h : TI H xs) (k : Kp H H') : TI H' xs := fun z hz => let ⟨x, y, t, e1, e2⟩ := h z hz; ⟨x, y, t, e1, k _ _ _ _ e2⟩
theorem TI.is {H : Heap} {xs : XS} (h : TI H xs) : ∀ z ∈ xs, (kn prog w).is H z.1 z.2.1 := fun z hz => by
  obtain ⟨x, y, t, e1, e2⟩ := h z hz
  rw [e1]
  exact keyO_is e2
theorem TI.snoc {H : Heap} {xs : XS} {x y : Str} {a : Addr} {v : Value} {t : Nat} (h : TI H xs) (e : H.get? a = some (keyO x y t)) : TI H (xs ++ [([x, y], a, v)]) := fun z hz => by
  rcases List.mem_append.mp hz with q | q
  · exact h z q
  · rw [List.mem_singleton.mp q]
    exact ⟨x, y, t, rfl, e⟩
theorem keyO_ne {x y : Str} {t : Nat} {es : List DictEntry} {n : Nat} : keyO x y t ≠ dictO es n := fun e => by
  have z : Value.type "tuple" = Value.type "dict" := congrArg Obj.cls e
  exact absurd (Value.type.inj z) (by decide)
theorem Kp.push (H : Heap) (o : Obj) : Kp H (H.push o) := fun _ _ _ _ e => Heap.get?_push_of_some _ e
theorem Kp.upd {H : Heap} {d : Addr} {es : List DictEntry} {n : Nat} (f : Obj → Obj) (e : H.get? d = some (dictO es n)) : Kp H (H.update d f) := fun a x y t q => by
  have ne : d ≠ a := fun z => by
    rw [z, q] at e
    exact keyO_ne (Option.some.inj e)
  exact (Heap.get?_update_other _ _ ne).trans q
theorem Kp.trans {H H' H'' : Heap} (a : Kp H H') (b : Kp H' H'') : Kp H H'' := fun _ _ _ _ e => b _ _ _ _ (a _ _ _ _ e)

/-- behind h: pre, the dict at work, L -/
def sx (prog : Program) (w : World) (h : Heap) (pre : List Obj) (xs : XS) (n : Nat) (L : List Obj) : Heap := ap h (pre ++ dictO (xs.map (entryOfKey (kn prog w))) n :: L)
theorem sx_get (h : Heap) (pre : List Obj) (xs : XS) (n : Nat) (L : List Obj) : (sx prog w h pre xs n L).get? (h.objs.size + pre.length) = some (dictO (xs.map (entryOfKey (kn prog w))) n) :=
  ap_get (by rw [List.getElem?_append_right (Nat.le_refl _), Nat.sub_self]; rfl) rfl
theorem sx_push (h : Heap) (pre : List Obj) (xs : XS) (n : Nat) (L : List Obj) (o : Obj) : (sx prog w h pre xs n L).push o = sx prog w h pre xs n (L ++ [o]) := by
  unfold sx
  rw [ap_push, List.append_assoc, List.cons_append]
theorem sx_size (h : Heap) (pre : List Obj) (xs : XS) (n : Nat) (L : List Obj) : (sx prog w h pre xs n L).objs.size = h.objs.size + pre.length + 1 + L.length := by
  unfold sx
  rw [ap_size, List.length_append, List.length_cons]
  omega
theorem modify_at (f : Obj → Obj) (o : Obj) (L : List Obj) : ∀ pre : List Obj, (pre ++ o :: L).modify pre.length f = pre ++ f o :: L
  | [] => rfl
  | p :: pre => by
    show p :: ((pre ++ o :: L).modify pre.length f) = _
    rw [modify_at f o L pre]
    rfl
theorem sx_upd (h : Heap) (pre : List Obj) (xs : XS) (n : Nat) (L : List Obj) (z : List Str × Addr × Value) :
    (sx prog w h pre xs n L).update (h.objs.size + pre.length) (Obj.mapDictKeys (·.push (entryOfKey (kn prog w) z))) = sx prog w h pre (xs ++ [z]) (n + 1) L := by
  unfold sx
  rw [ap_upd]
  congr 1
  rw [modify_at, List.map_append]
  show pre ++ (Obj.mapDictKeys (·.push (entryOfKey (kn prog w) z)) (dictO (xs.map (entryOfKey (kn prog w))) n)) :: L = _
  rw [mapKeys_dictO]
  rfl
theorem set_sx {h : Heap} {pre : List Obj} {xs : XS} {n : Nat} {L : List Obj} {s : Shared} {x y : Str} {a : Addr} {v : Value} {t : Nat} {Q : Unit → Shared → Prop} (hu : A.units < cLine) (hs : s.heap = sx prog w h pre xs n L) (ti : TI s.heap xs) (ea : s.heap.get? a = some (keyO x y t))
    (hn : (xs.map (·.1)).Nodup) (hno : [x, y] ∉ xs.map (·.1)) (hl : xs.length ≤ 100)
    (hq : TI (sx prog w h pre (xs ++ [([x, y], a, v)]) (n + 1) L) (xs ++ [([x, y], a, v)]) → Kp s.heap (sx prog w h pre (xs ++ [([x, y], a, v)]) (n + 1) L) → Q () { s with heap := sx prog w h pre (xs ++ [([x, y], a, v)]) (n + 1) L, toks := s.toks + 3 }) :
    wpAny (model prog w) A (dictSet (h.objs.size + pre.length) (.ref a) v) Q E s := by
  have g : s.heap.get? (h.objs.size + pre.length) = some (dictO (xs.map (entryOfKey (kn prog w))) n) := by rw [hs]; exact sx_get h pre xs n L
  refine set_new hu (keyO_is ea) g ti.is hn hno hl ?_
  have e : s.heap.update (h.objs.size + pre.length) (Obj.mapDictKeys (·.push (entryOfKey (kn prog w) ([x, y], a, v)))) = sx prog w h pre (xs ++ [([x, y], a, v)]) (n + 1) L := by rw [hs, sx_upd]
  have k : Kp s.heap (sx prog w h pre (xs ++ [([x, y], a, v)]) (n + 1) L) := e ▸ Kp.upd _ g
  rw [e]
  exact hq ((ti.snoc ea).kp k) k
theorem put_sx {h : Heap} {pre : List Obj} {xs : XS} {n : Nat} {L : List Obj} {s : Shared} {x y : Str} {a : Addr} {v : Value} {t : Nat} {Q : Unit → Shared → Prop} (hu : A.units < cLine) (hs : s.heap = sx prog w h pre xs n L) (ti : TI s.heap xs) (ea : s.heap.get? a = some (keyO x y t))
    (hn : (xs.map (·.1)).Nodup) (hno : [x, y] ∉ xs.map (·.1)) (hl : xs.length ≤ 100)
    (hq : TI (sx prog w h pre (xs ++ [([x, y], a, v)]) (n + 1) L) (xs ++ [([x, y], a, v)]) → Kp s.heap (sx prog w h pre (xs ++ [([x, y], a, v)]) (n + 1) L) → Q () { s with heap := sx prog w h pre (xs ++ [([x, y], a, v)]) (n + 1) L }) :
    wpAny (model prog w) A (dictPut (h.objs.size + pre.length) ((kn prog w).hash [x, y]) (.ref a) v) Q E s := by
  have g : s.heap.get? (h.objs.size + pre.length) = some (dictO (xs.map (entryOfKey (kn prog w))) n) := by rw [hs]; exact sx_get h pre xs n L
  refine put_new hu (keyO_is ea) g ti.is hn hno hl ?_
  have e : s.heap.update (h.objs.size + pre.length) (Obj.mapDictKeys (·.push (entryOfKey (kn prog w) ([x, y], a, v)))) = sx prog w h pre (xs ++ [([x, y], a, v)]) (n + 1) L := by rw [hs, sx_upd]
  have k : Kp s.heap (sx prog w h pre (xs ++ [([x, y], a, v)]) (n + 1) L) := e ▸ Kp.upd _ g
  rw [e]
  exact hq ((ti.snoc ea).kp k) k

/-- a long display -/
def entsL : Addr → Nat → List Ent → XS
  | _, _, [] => []
  | a, t, (x, y, v) :: r => ([x, y], a, .str v (t + 2)) :: entsL (a + 1) (t + 6) r
def objsL : Nat → List Ent → List Obj
  | _, [] => []
  | t, (x, y, _) :: r => keyO x y t :: objsL (t + 6) r
theorem long_ok {h : Heap} {pre : List Obj} (hu : A.units < cLine) : ∀ {ps : List (Sem Value × Sem Value)} {es : List Ent} (_ : All (prog := prog) (w := w) (A := A) ps es) {xs : XS} {n : Nat} {L : List Obj} {s : Shared} {Q : PUnit → Shared → Prop}, s.heap = sx prog w h pre xs n L → TI s.heap xs →
    (xs.map (·.1) ++ es.map keyOf).Nodup → xs.length + es.length ≤ 100 →
    (TI (sx prog w h pre (xs ++ entsL (h.objs.size + pre.length + 1 + L.length) s.toks es) (n + es.length) (L ++ objsL s.toks es)) (xs ++ entsL (h.objs.size + pre.length + 1 + L.length) s.toks es) →
      Q ⟨⟩ { s with heap := sx prog w h pre (xs ++ entsL (h.objs.size + pre.length + 1 + L.length) s.toks es) (n + es.length) (L ++ objsL s.toks es), toks := s.toks + 6 * es.length }) →
    wpAny (model prog w) A (forIn ps PUnit.unit fun x _ => do let kv ← x.1; let vv ← holding [kv] x.2; holding [kv, vv] (dictSet (h.objs.size + pre.length) kv vv); pure (ForInStep.yield PUnit.unit)) Q E s
  | _, _, .nil, xs, n, L, s, Q, hs, ti, hn, hl, hq => by
    rw [List.forIn_nil]
    refine wpAny_pure ?_
    simp only [entsL, objsL, List.append_nil, List.length_nil, Nat.add_zero, Nat.mul_zero] at hq
    rw [← hs] at hq
    exact hq ti
  | _, _, .cons (x := x) (e := e) (ps := ps) (es := es) hx r, xs, n, L, s, Q, hs, ti, hn, hl, hq => by
    obtain ⟨p, q, v⟩ := e
    rw [List.forIn_cons]
    refine wpAny_bind (wpAny_bind (hx.key _ _ _ (wpAny_bind (wpAny_holding (hx.val _ _ _ (wpAny_bind (wpAny_holding ?_)))))))
    have es1 : s.heap.push (keyO p q s.toks) = sx prog w h pre xs n (L ++ [keyO p q s.toks]) := by rw [hs, sx_push]
    have sz : s.heap.objs.size = h.objs.size + pre.length + 1 + L.length := by rw [hs, sx_size]
    have hn' : (xs.map (·.1)).Nodup ∧ [p, q] ∉ xs.map (·.1) := by
      rw [List.map_cons, List.nodup_append] at hn
      exact ⟨hn.1, fun m => hn.2.2 _ m _ List.mem_cons_self rfl⟩
    refine set_sx (s := { s with heap := s.heap.push (keyO p q s.toks), toks := s.toks + 2 + 1 }) (t := s.toks) hu es1 (ti.kp (Kp.push _ _)) (Heap.get?_push_size _ rfl) hn'.1 hn'.2 (by simp only [List.length_cons] at hl; omega) fun ti2 _ => ?_
    refine wpAny_pure ?_
    refine long_ok hu r (s := { s with heap := sx prog w h pre (xs ++ [([p, q], s.heap.objs.size, .str v (s.toks + 2))]) (n + 1) (L ++ [keyO p q s.toks]), toks := s.toks + 2 + 1 + 3 }) rfl ti2 ?_ ?_ ?_
    · rw [List.map_append, List.append_assoc]
      exact hn
    · simp only [List.length_append, List.length_cons, List.length_nil] at hl ⊢
      omega
    · have k1 : xs ++ [([p, q], s.heap.objs.size, Value.str v (s.toks + 2))] ++ entsL (h.objs.size + pre.length + 1 + (L ++ [keyO p q s.toks]).length) (s.toks + 2 + 1 + 3) es = xs ++ entsL (h.objs.size + pre.length + 1 + L.length) s.toks ((p, q, v) :: es) := by
        rw [sz, List.append_assoc, List.length_append]
        rfl
      have k2 : n + 1 + es.length = n + ((p, q, v) :: es).length := by simp only [List.length_cons]; omega
      have k3 : L ++ [keyO p q s.toks] ++ objsL (s.toks + 2 + 1 + 3) es = L ++ objsL s.toks ((p, q, v) :: es) := by
        rw [List.append_assoc]
        rfl
      have k4 : s.toks + 2 + 1 + 3 + 6 * es.length = s.toks + 6 * ((p, q, v) :: es).length := by simp only [List.length_cons]; omega
      dsimp only
      rw [k1, k2, k3, k4]
      exact hq

/-- a short display: the pairs first -/
def valsS : Addr → Nat → List Ent → List (Value × Value)
  | _, _, [] => []
  | a, t, (_, _, v) :: r => (.ref a, .str v (t + 2)) :: valsS (a + 1) (t + 3) r
def entsS : Addr → Nat → List Ent → XS
  | _, _, [] => []
  | a, t, (x, y, v) :: r => ([x, y], a, .str v (t + 2)) :: entsS (a + 1) (t + 3) r
def objsS : Nat → List Ent → List Obj
  | _, [] => []
  | t, (x, y, _) :: r => keyO x y t :: objsS (t + 3) r
theorem pairs_ok {h : Heap} {pre : List Obj} {xs : XS} {n : Nat} : ∀ {ps : List (Sem Value × Sem Value)} {es : List Ent} (_ : All (prog := prog) (w := w) (A := A) ps es) {L : List Obj} {s : Shared} {Q : List (Value × Value) → Shared → Prop}, s.heap = sx prog w h pre xs n L →
    (TI (sx prog w h pre xs n (L ++ objsS s.toks es)) (entsS (h.objs.size + pre.length + 1 + L.length) s.toks es) → Kp s.heap (sx prog w h pre xs n (L ++ objsS s.toks es)) →
      Q (valsS (h.objs.size + pre.length + 1 + L.length) s.toks es) { s with heap := sx prog w h pre xs n (L ++ objsS s.toks es), toks := s.toks + 3 * es.length }) →
    wpAny (model prog w) A (evalPairs ps) Q E s
  | _, _, .nil, L, s, Q, hs, hq => by
    refine wpAny_pure ?_
    simp only [entsS, objsS, valsS, List.append_nil, List.length_nil, Nat.add_zero, Nat.mul_zero] at hq
    rw [← hs] at hq
    exact hq (fun z hz => (nomatch hz)) fun _ _ _ _ e => e
  | _, _, .cons (x := x) (e := e) (ps := ps) (es := es) hx r, L, s, Q, hs, hq => by
    obtain ⟨p, q, v⟩ := e
    obtain ⟨x1, x2⟩ := x
    show wpAny _ _ (x1 >>= fun kv => holding [kv] x2 >>= fun vv => do return (kv, vv) :: (← holding [kv, vv] (evalPairs ps))) Q E s
    have sz : s.heap.objs.size = h.objs.size + pre.length + 1 + L.length := by rw [hs, sx_size]
    have es1 : s.heap.push (keyO p q s.toks) = sx prog w h pre xs n (L ++ [keyO p q s.toks]) := by rw [hs, sx_push]
    refine wpAny_bind (hx.key _ _ _ (wpAny_bind (wpAny_holding (hx.val _ _ _ (wpAny_bind (wpAny_holding ?_))))))
    refine pairs_ok r (s := { s with heap := s.heap.push (keyO p q s.toks), toks := s.toks + 2 + 1 }) es1 fun ti kp => wpAny_pure ?_
    have k1 : h.objs.size + pre.length + 1 + (L ++ [keyO p q s.toks]).length = s.heap.objs.size + 1 := by rw [sz, List.length_append]; rfl
    have k3 : L ++ [keyO p q s.toks] ++ objsS (s.toks + 2 + 1) es = L ++ objsS s.toks ((p, q, v) :: es) := by rw [List.append_assoc]; rfl
    have k4 : s.toks + 2 + 1 + 3 * es.length = s.toks + 3 * ((p, q, v) :: es).length := by simp only [List.length_cons]; omega
    dsimp only at ti kp ⊢
    rw [k1, k3] at ti
    rw [k3] at kp
    rw [k1, k3, k4]
    have ea := kp _ _ _ _ (Heap.get?_push_size s.heap (o := keyO p q s.toks) rfl)
    refine cast (by rw [← sz]; rfl) (hq ?_ (Kp.trans (Kp.push _ _) kp))
    intro z hz
    rw [← sz] at hz
    rcases List.mem_cons.mp hz with rfl | hz
    · exact ⟨p, q, _, rfl, ea⟩
    · exact ti z hz
theorem sets_ok {h : Heap} {pre : List Obj} (hu : A.units < cLine) : ∀ {es : List Ent} {ad : Addr} {t : Nat} {xs : XS} {n : Nat} {L : List Obj} {s : Shared} {Q : PUnit → Shared → Prop}, s.heap = sx prog w h pre xs n L → TI s.heap xs → TI s.heap (entsS ad t es) →
    (xs.map (·.1) ++ es.map keyOf).Nodup → xs.length + es.length ≤ 100 →
    (TI (sx prog w h pre (xs ++ entsS ad t es) (n + es.length) L) (xs ++ entsS ad t es) → Kp s.heap (sx prog w h pre (xs ++ entsS ad t es) (n + es.length) L) →
      Q ⟨⟩ { s with heap := sx prog w h pre (xs ++ entsS ad t es) (n + es.length) L, toks := s.toks + 3 * es.length }) →
    wpAny (model prog w) A (forIn (valsS ad t es) PUnit.unit fun x _ => do dictSet (h.objs.size + pre.length) x.1 x.2; pure (ForInStep.yield PUnit.unit)) Q E s
  | [], ad, t, xs, n, L, s, Q, hs, ti, _, hn, hl, hq => by
    show wpAny _ _ (forIn [] PUnit.unit _) Q E s
    rw [List.forIn_nil]
    refine wpAny_pure ?_
    simp only [entsS, List.append_nil, List.length_nil, Nat.add_zero, Nat.mul_zero] at hq
    rw [← hs] at hq
    exact hq ti fun _ _ _ _ e => e
  | (p, q, v) :: es, ad, t, xs, n, L, s, Q, hs, ti, tj, hn, hl, hq => by
    show wpAny _ _ (forIn ((Value.ref ad, Value.str v (t + 2)) :: valsS (ad + 1) (t + 3) es) PUnit.unit _) Q E s
    rw [List.forIn_cons]
    obtain ⟨x, y, u, e1, e2⟩ := tj _ List.mem_cons_self
    have e3 : p = x ∧ q = y := by simpa using e1
    obtain ⟨rfl, rfl⟩ := e3
    have e2 : s.heap.get? ad = some (keyO p q u) := e2
    have hn' : (xs.map (·.1)).Nodup ∧ [p, q] ∉ xs.map (·.1) := by
      rw [List.map_cons, List.nodup_append] at hn
      exact ⟨hn.1, fun m => hn.2.2 _ m _ List.mem_cons_self rfl⟩
    refine wpAny_bind (wpAny_bind (set_sx (t := u) hu hs ti e2 hn'.1 hn'.2 (by simp only [List.length_cons] at hl; omega) fun ti2 kp => wpAny_pure ?_))
    refine sets_ok hu (es := es) (ad := ad + 1) (t := t + 3) (s := { s with heap := sx prog w h pre (xs ++ [([p, q], ad, .str v (t + 2))]) (n + 1) L, toks := s.toks + 3 }) rfl ti2 (TI.kp (fun z hz => tj z (List.mem_cons_of_mem _ hz)) kp) ?_ ?_ fun ti3 kp3 => ?_
    · rw [List.map_append, List.append_assoc]
      exact hn
    · simp only [List.length_append, List.length_cons, List.length_nil] at hl ⊢
      omega
    · have k1 : xs ++ [([p, q], ad, Value.str v (t + 2))] ++ entsS (ad + 1) (t + 3) es = xs ++ entsS ad t ((p, q, v) :: es) := by rw [List.append_assoc]; rfl
      have k2 : n + 1 + es.length = n + ((p, q, v) :: es).length := by simp only [List.length_cons]; omega
      have k4 : s.toks + 3 + 3 * es.length = s.toks + 3 * ((p, q, v) :: es).length := by simp only [List.length_cons]; omega
      dsimp only at ti3 kp3 ⊢
      rw [k1, k2] at ti3 kp3
      rw [k1, k2, k4]
      exact hq ti3 (kp.trans kp3)

/-- one dict's entries into another's -/
theorem merge_loop {h : Heap} {L : List Obj} {sub : Addr} {ys : XS} {m : Nat} (hu : A.units < cLine) (hl : ys.length ≤ 50) : ∀ (rest : XS) (i : Nat), i + rest.length = ys.length → ys.drop i = rest → ∀ {xs : XS} {n : Nat} {s : Shared} {Q : PUnit → Shared → Prop}, s.heap = sx prog w h [] xs n L → TI s.heap xs → TI s.heap ys →
    s.heap.get? sub = some (dictO (ys.map (entryOfKey (kn prog w))) m) → sub ≠ h.objs.size → (xs.map (·.1) ++ rest.map (·.1)).Nodup → xs.length + rest.length ≤ 100 →
    (TI (sx prog w h [] (xs ++ rest) (n + rest.length) L) (xs ++ rest) → Q ⟨⟩ { s with heap := sx prog w h [] (xs ++ rest) (n + rest.length) L }) →
    wpAny (model prog w) A (forIn (List.range' i rest.length) PUnit.unit fun i _ => do
      let some e := (← dictEntries sub)[i]? | unsupported "dict.changed-during-merge"
      holding [e.key, e.val] do
        if false = true then
          if (← dictFind h.objs.size e.key e.hash).isSome then rule "dict.merge.duplicate-key"; raiseNew (← newExc (.type "KeyError") [e.key])
        dictPut h.objs.size e.hash e.key e.val
      if (← dictEpoch sub) != m then unsupported "dict.changed-during-merge"
      pure (ForInStep.yield PUnit.unit)) Q E s
  | [], i, hi, hd, xs, n, s, Q, hs, ti, tj, hsub, hne, hn, hl2, hq => by
    show wpAny _ _ (forIn [] PUnit.unit _) Q E s
    rw [List.forIn_nil]
    refine wpAny_pure ?_
    simp only [List.append_nil, List.length_nil, Nat.add_zero] at hq
    rw [← hs] at hq
    exact hq ti
  | z :: rest, i, hi, hd, xs, n, s, Q, hs, ti, tj, hsub, hne, hn, hl2, hq => by
    have hz : ys[i]? = some z := by
      have q := congrArg (·[0]?) hd
      simpa using q
    show wpAny _ _ (forIn (i :: List.range' (i + 1) rest.length) PUnit.unit _) Q E s
    rw [List.forIn_cons]
    obtain ⟨k, ad, v⟩ := z
    obtain ⟨x, y, u, e1, e2⟩ := tj _ (List.mem_of_getElem? hz)
    have e1 : k = [x, y] := e1
    subst e1
    have e2 : s.heap.get? ad = some (keyO x y u) := e2
    have hn' : (xs.map (·.1)).Nodup ∧ [x, y] ∉ xs.map (·.1) := by
      rw [List.map_cons, List.nodup_append] at hn
      exact ⟨hn.1, fun m => hn.2.2 _ m _ List.mem_cons_self rfl⟩
    have en : ((ys.map (entryOfKey (kn prog w))).toArray)[i]? = some (entryOfKey (kn prog w) ([x, y], ad, v)) := by
      rw [List.getElem?_toArray, List.getElem?_map, hz]
      rfl
    refine wpAny_bind (wpAny_bind (wpAny_dictEntries hsub rfl ?_))
    rw [en]
    refine wpAny_bind (wpAny_holding ?_)
    show wpAny _ _ (dictPut h.objs.size ((kn prog w).hash [x, y]) (.ref ad) v) _ _ _
    refine put_sx (pre := []) (t := u) hu hs ti e2 hn'.1 hn'.2 (by simp only [List.length_cons] at hl2; omega) fun ti2 kp => ?_
    have hsub2 : (sx prog w h [] (xs ++ [([x, y], ad, v)]) (n + 1) L).get? sub = some (dictO (ys.map (entryOfKey (kn prog w))) m) := by
      rw [← sx_upd, ← hs]
      exact (Heap.get?_update_other _ _ (fun q => hne q.symm)).trans hsub
    refine wpAny_bind (wpAny_dictEpoch (s := { s with heap := sx prog w h [] (xs ++ [([x, y], ad, v)]) (n + 1) L }) hsub2 rfl ?_)
    rw [if_neg (by simp)]
    refine wpAny_pure ?_
    refine merge_loop hu hl rest (i + 1) (by simp only [List.length_cons] at hi; omega) (by rw [← List.drop_drop, hd]; rfl) (s := { s with heap := sx prog w h [] (xs ++ [([x, y], ad, v)]) (n + 1) L }) rfl ti2 (tj.kp kp) hsub2 hne ?_ ?_ fun ti3 => ?_
    · rw [List.map_append, List.append_assoc]
      exact hn
    · simp only [List.length_append, List.length_cons, List.length_nil] at hl2 ⊢
      omega
    · have k1 : xs ++ [([x, y], ad, v)] ++ rest = xs ++ ([x, y], ad, v) :: rest := by rw [List.append_assoc]; rfl
      have k2 : n + 1 + rest.length = n + (([x, y], ad, v) :: rest).length := by simp only [List.length_cons]; omega
      dsimp only at ti3 ⊢
      rw [k1, k2] at ti3
      rw [k1, k2]
      exact hq ti3
end
end HS
namespace HS
open PySem PySem.W PySem.Calls PyProof.Rows
section
variable {prog : Program} {w : World} {A : Around}
abbrev No : Value → Shared → Prop := fun _ _ => False
theorem gathers {α : Type} {f : (Option (Sem Value) × Sem Value) → (Option α × List (Sem Value × Sem Value)) → Sem (ForInStep (Option α × List (Sem Value × Sem Value)))}
    (hf : ∀ k v m r, ((r ++ [(k, v)]).length == 17) = false → f (some k, v) (m, r) = pure (.yield (m, r ++ [(k, v)]))) (rest : List (Option (Sem Value) × Sem Value)) (m : Option α) :
    ∀ (ps r : List (Sem Value × Sem Value)), r.length + ps.length ≤ 16 → forIn (ps.map (fun x => (some x.1, x.2)) ++ rest) (m, r) f = forIn rest (m, r ++ ps) f
  | [], r, _ => by rw [List.append_nil]; rfl
  | x :: ps, r, h => by
    have e : ((r ++ [(x.1, x.2)]).length == 17) = false := by
      simp only [List.length_append, List.length_cons, List.length_nil] at h ⊢
      exact beq_eq_false_iff_ne.mpr (by omega)
    show forIn ((some x.1, x.2) :: (ps.map (fun x => (some x.1, x.2)) ++ rest)) (m, r) f = _
    rw [List.forIn_cons, hf _ _ _ _ e]
    show forIn (ps.map (fun x => (some x.1, x.2)) ++ rest) (m, r ++ [(x.1, x.2)]) f = _
    rw [gathers hf rest m ps _ (by simp only [List.length_append, List.length_cons, List.length_nil] at h ⊢; omega), List.append_assoc]
    rfl
theorem display_ok {p1 p2 : List (Sem Value × Sem Value)} {x y : Sem Value × Sem Value} {s : Shared} {Q : Value → Shared → Prop} (h1 : p1.length = 16) (h2 : p2.length ≤ 14)
    (h : wpAny (model prog w) A (subDict (p1 ++ [x])) (fun d s1 => wpAny (model prog w) A (subDict (y :: p2)) (fun sub s2 => wpAny (model prog w) A (mergeMapping d (.ref sub) false) (fun _ s3 => Q (.ref d) s3) No s2) No s1) No s) :
    wpAny (model prog w) A (dictDisplay ((p1 ++ x :: y :: p2).map fun z => (some z.1, z.2))) Q No s := by
  unfold dictDisplay
  rw [List.map_append]
  dsimp only
  rw [gathers (fun k v m r e => by dsimp only; rw [e]; rfl) _ none p1 [] (by simp [h1])]
  have e17 : (([] ++ p1 ++ [(x.1, x.2)]).length == 17) = true := by simp [h1]
  have ne17 : (([] ++ p1 ++ [(x.1, x.2)]).isEmpty) = false := by simp
  rw [List.map_cons, List.forIn_cons]
  dsimp only
  rw [e17, if_pos rfl, ne17, if_neg Bool.false_ne_true]
  refine wpAny_bind (wpAny_bind (wpAny_bind (wpAny_bind (wpAny_mono h (fun d s1 h1' => ?_) fun _ _ z => z))))
  refine wpAny_pure (wpAny_pure ?_)
  dsimp only
  rw [show (y :: p2).map (fun z => (some z.1, z.2)) = (y :: p2).map (fun z => (some z.1, z.2)) ++ [] from (List.append_nil _).symm, gathers (fun k v m r e => by dsimp only; rw [e]; rfl) [] (some d) (y :: p2) [] (by simp only [List.length_cons, List.length_nil]; omega), List.forIn_nil]
  refine wpAny_pure ?_
  dsimp only
  rw [if_neg (by simp)]
  refine wpAny_bind (wpAny_bind (wpAny_holding (wpAny_mono h1' (fun sub s2 h2' => ?_) fun _ _ z => z)))
  refine wpAny_bind (wpAny_onRaise (wpAny_holding (wpAny_mono h2' (fun _ s3 h3 => wpAny_pure (wpAny_pure h3)) fun _ _ z => z.elim)))

theorem sub_long {ps : List (Sem Value × Sem Value)} {es : List Ent} (al : All (prog := prog) (w := w) (A := A) ps es) (hu : A.units < cLine) (hl : 15 < ps.length) (hl2 : es.length ≤ 100) (hn : (es.map keyOf).Nodup) {s : Shared} {Q : Addr → Shared → Prop}
    (hq : TI (sx prog w s.heap [] (entsL (s.heap.objs.size + 1) s.toks es) es.length (objsL s.toks es)) (entsL (s.heap.objs.size + 1) s.toks es) →
      Q s.heap.objs.size { s with heap := sx prog w s.heap [] (entsL (s.heap.objs.size + 1) s.toks es) es.length (objsL s.toks es), toks := s.toks + 6 * es.length }) :
    wpAny (model prog w) A (subDict ps) Q No s := by
  unfold subDict
  refine wpAny_bind (wpAny_alloc ?_)
  refine wpAny_bind (wpAny_holding ?_)
  rw [if_neg (by omega)]
  refine wpAny_bind (wpAny_rule ?_)
  have e0 : s.heap.push { cls := .type "dict", data := .dict #[] } = sx prog w s.heap [] [] 0 [] := by
    show _ = ap s.heap [dictO [] 0]
    rw [show ap s.heap [dictO [] 0] = (ap s.heap []).push (dictO [] 0) from (ap_push s.heap [] _).symm, ap_nil]
    rfl
  refine wpAny_bind (long_ok (h := s.heap) (pre := []) (L := []) (n := 0) (xs := []) hu al e0 (fun z hz => (nomatch hz)) hn (by simp only [List.length_nil]; omega) fun ti => wpAny_pure ?_)
  simp only [List.nil_append, List.length_nil, Nat.zero_add, Nat.add_zero] at ti ⊢
  exact wpAny_pure (hq ti)
theorem sub_short {h : Heap} {xs : XS} {n : Nat} {L : List Obj} {ps : List (Sem Value × Sem Value)} {es : List Ent} (al : All (prog := prog) (w := w) (A := A) ps es) (hu : A.units < cLine) (hl : ps.length ≤ 15) (hl2 : es.length ≤ 100) (hn : (es.map keyOf).Nodup) {s : Shared} {Q : Addr → Shared → Prop}
    (hs : s.heap = sx prog w h [] xs n L) (tx : TI s.heap xs)
    (hq : ∀ (ents : XS) (H : Heap), ents = entsS (h.objs.size + 1 + L.length + 1) s.toks es → H = sx prog w h [] xs n (L ++ dictO (ents.map (entryOfKey (kn prog w))) es.length :: objsS s.toks es) → TI H xs → TI H ents →
      H.get? (h.objs.size + 1 + L.length) = some (dictO (ents.map (entryOfKey (kn prog w))) es.length) →
      Q (h.objs.size + 1 + L.length) { s with heap := H, toks := s.toks + 6 * es.length }) :
    wpAny (model prog w) A (subDict ps) Q No s := by
  have sz : s.heap.objs.size = h.objs.size + 1 + L.length := by rw [hs, sx_size]; rfl
  have szp : h.objs.size + (dictO (xs.map (entryOfKey (kn prog w))) n :: L).length = h.objs.size + 1 + L.length := by rw [List.length_cons]; omega
  unfold subDict
  refine wpAny_bind (wpAny_alloc ?_)
  refine wpAny_bind (wpAny_holding ?_)
  rw [if_pos hl]
  have e0 : s.heap.push { cls := .type "dict", data := .dict #[] } = sx prog w h (dictO (xs.map (entryOfKey (kn prog w))) n :: L) [] 0 [] := by
    rw [hs]
    unfold sx
    rw [List.nil_append]
    exact ap_push h (dictO (xs.map (entryOfKey (kn prog w))) n :: L) (dictO [] 0)
  refine wpAny_bind (pairs_ok (h := h) (pre := dictO (xs.map (entryOfKey (kn prog w))) n :: L) (L := []) (n := 0) (xs := []) al e0 fun te k1 => ?_)
  refine wpAny_holding ?_
  simp only [List.nil_append, List.length_nil, Nat.add_zero] at te k1 ⊢
  rw [szp] at te ⊢
  have goal := sets_ok (prog := prog) (w := w) (A := A) (E := No) (h := h) (pre := dictO (xs.map (entryOfKey (kn prog w))) n :: L) hu (es := es) (ad := h.objs.size + 1 + L.length + 1) (t := s.toks) (xs := []) (n := 0) (L := objsS s.toks es)
    (s := { s with heap := sx prog w h (dictO (xs.map (entryOfKey (kn prog w))) n :: L) [] 0 (objsS s.toks es), toks := s.toks + 3 * es.length }) (Q := fun _ s' => wpAny (model prog w) A (pure ()) (fun _ s' => wpAny (model prog w) A (pure (h.objs.size + 1 + L.length)) Q No s') No s') rfl (fun z hz => (nomatch hz)) te hn (by simp only [List.length_nil]; omega) fun ti2 k2 => ?_
  · rw [szp] at goal
    rw [sz]
    exact wpAny_bind goal
  · simp only [List.nil_append, Nat.zero_add] at ti2 k2 ⊢
    refine wpAny_pure (wpAny_pure ?_)
    have eh : sx prog w h (dictO (xs.map (entryOfKey (kn prog w))) n :: L) (entsS (h.objs.size + 1 + L.length + 1) s.toks es) es.length (objsS s.toks es) =
        sx prog w h [] xs n (L ++ dictO ((entsS (h.objs.size + 1 + L.length + 1) s.toks es).map (entryOfKey (kn prog w))) es.length :: objsS s.toks es) := rfl
    have g := sx_get (prog := prog) (w := w) h (dictO (xs.map (entryOfKey (kn prog w))) n :: L) (entsS (h.objs.size + 1 + L.length + 1) s.toks es) es.length (objsS s.toks es)
    rw [szp] at g
    have k4 : s.toks + 3 * es.length + 3 * es.length = s.toks + 6 * es.length := by omega
    rw [k4]
    exact hq _ _ rfl eh (tx.kp (Kp.trans (Kp.push _ _) (Kp.trans k1 k2))) ti2 g
theorem merge_ok {h : Heap} {xs ys : XS} {n m : Nat} {L : List Obj} {sub : Addr} {s : Shared} {Q : Unit → Shared → Prop} (hu : A.units < cLine) (hl : ys.length ≤ 50) (hl2 : xs.length + ys.length ≤ 100) (hx : xs ≠ []) (hs : s.heap = sx prog w h [] xs n L) (ti : TI s.heap xs) (tj : TI s.heap ys)
    (hsub : s.heap.get? sub = some (dictO (ys.map (entryOfKey (kn prog w))) m)) (hne : sub ≠ h.objs.size) (hsm : (sub == sysModules) = false) (hn : (xs.map (·.1) ++ ys.map (·.1)).Nodup)
    (hq : TI (sx prog w h [] (xs ++ ys) (n + ys.length) L) (xs ++ ys) → Q () { s with heap := sx prog w h [] (xs ++ ys) (n + ys.length) L }) :
    wpAny (model prog w) A (mergeMapping h.objs.size (.ref sub) false) Q No s := by
  have tI : s.TypeIs (.ref sub) "dict" := ⟨_, hsub, rfl⟩
  have g : s.heap.get? h.objs.size = some (dictO (xs.map (entryOfKey (kn prog w))) n) := by rw [hs]; exact sx_get h [] xs n L
  unfold mergeMapping
  refine wpAny_bind (wpAny_isInstance tI isSubtype_dict_dict ?_)
  dsimp only
  rw [if_pos rfl]
  refine wpAny_bind (wpAny_specialOf tI F.slot_dict_iter.lookup (wpAny_bind (wpAny_pure ?_)))
  rw [show (some (Value.builtin "dict.__iter__") == some (Value.builtin "dict.__iter__")) = true from beq_self_eq_true _]
  dsimp only
  rw [hsm, if_neg Bool.false_ne_true]
  refine wpAny_bind (wpAny_dictEntries g rfl ?_)
  have em : ((xs.map (entryOfKey (kn prog w))).toArray.isEmpty) = false := by
    cases xs with
    | nil => exact absurd rfl hx
    | cons a l => rfl
  rw [em, if_neg Bool.false_ne_true]
  refine wpAny_bind (wpAny_dictEntries hsub rfl (wpAny_bind (wpAny_dictEpoch hsub rfl ?_)))
  have es : ((ys.map (entryOfKey (kn prog w))).toArray.size) = ys.length := by simp
  rw [es, List.range_eq_range']
  exact wpAny_bind (merge_loop (prog := prog) (w := w) (A := A) (E := No) hu hl ys 0 (by simp) rfl hs ti tj hsub hne hn hl2 fun ti2 => wpAny_pure (hq ti2))
end
end HS
namespace HS
open PySem PySem.W PySem.Calls PyProof.Rows
def readEnts : List (Option Expr) → List Expr → Option (List Ent)
  | [], [] => some []
  | some (.Tuple [.Constant (.str a) _ _, .Constant (.str b) _ _] _ _) :: ks, .Constant (.str v) _ _ :: vs => (readEnts ks vs).map ((a, b, v) :: ·)
  | _, _ => none
section
variable {prog : Program} {w : World} {A : Around}
theorem read_ok {env : Env} {pd : Pos} : ∀ {ks : List (Option Expr)} {vs : List Expr} {es : List Ent}, readEnts ks vs = some es →
    ∃ ps, (evalEachOpt ks env).zip ((evalEach vs env).map fun v => do let x ← v; standAt pd; pure x) = ps.map (fun z => (some z.1, z.2)) ∧ All (prog := prog) (w := w) (A := A) ps es
  | [], [], es, h => by
    have e : es = [] := (Option.some.inj h).symm
    subst e
    exact ⟨[], rfl, .nil⟩
  | [], _ :: _, _, h => by cases h
  | none :: _, _, _, h => by simp [readEnts] at h
  | some k :: ks, vs, es, h => by
    unfold readEnts at h
    split at h
    · simp_all
    · rename_i _ a k1 p1 b k2 p2 k3 p3 ks' v k4 p4 vs' e1
      obtain ⟨e3, rfl⟩ := List.cons.inj e1
      have e3 := Option.some.inj e3
      subst e3
      obtain ⟨es', h1, rfl⟩ := Option.map_eq_some_iff.mp h
      obtain ⟨ps, h2, h3⟩ := read_ok (env := env) (pd := pd) h1
      refine ⟨(eval (.Tuple [.Constant (.str a) k1 p1, .Constant (.str b) k2 p2] k3 p3) env, (do let x ← eval (.Constant (.str v) k4 p4) env; standAt pd; pure x)) :: ps, ?_, .cons ?_ h3⟩
      · show (some (eval _ env), _) :: ((evalEachOpt _ env).zip ((evalEach _ env).map _)) = _
        rw [h2]
        rfl
      · refine ⟨(tells_written (x := (do let y ← eval (.Constant (.str v) k4 p4) env; standAt p3; pure y)) rfl).key, fun E s Q h => ?_⟩
        exact wpAny_bind (wpAny_mkText (wpAny_bind (wpAny_standAt (wpAny_pure h))))
    · cases h
theorem All.length {ps : List (Sem Value × Sem Value)} {es : List Ent} (h : All (prog := prog) (w := w) (A := A) ps es) : ps.length = es.length := by
  induction h with
  | nil => rfl
  | cons _ _ ih => simp [ih]
theorem All.take {ps : List (Sem Value × Sem Value)} {es : List Ent} (h : All (prog := prog) (w := w) (A := A) ps es) : ∀ n, All (prog := prog) (w := w) (A := A) (ps.take n) (es.take n) := by
  induction h with
  | nil => exact fun n => by cases n <;> exact .nil
  | cons a _ ih =>
    intro n
    cases n with
    | zero => exact .nil
    | succ n => exact .cons a (ih n)
theorem All.drop {ps : List (Sem Value × Sem Value)} {es : List Ent} (h : All (prog := prog) (w := w) (A := A) ps es) : ∀ n, All (prog := prog) (w := w) (A := A) (ps.drop n) (es.drop n) := by
  induction h with
  | nil => exact fun n => by cases n <;> exact .nil
  | cons a b ih =>
    intro n
    cases n with
    | zero => exact .cons a b
    | succ n => exact ih n
theorem set_name {s : Shared} {nm : Str} {v : Value} {o : Obj} {es : Array DictEntry} {n : Nat} {E : Value → Shared → Prop} {Q : Unit → Shared → Prop} (ho : s.heap.get? mainNs = some o) (hd : o.data = .dict es n) (hr : aRefKeyMayBeTheName nm es = false)
    (h : Q () { s with heap := s.heap.update mainNs (Obj.putName nm (PyData.keyHash w.params nm) (.str nm s.toks) v), toks := s.toks + 1 }) : wpAny (model prog w) A (nsSet mainNs nm v) Q E s := by
  unfold nsSet strHash
  refine wpAny_bind (wpAny_bind (wpAny_askSetting (wpAny_pure ?_)))
  refine wpAny_bind (wpAny_mkText (wpAny_bind (wpAny_loadPart ho ?_)))
  rw [hd]
  dsimp only
  rw [hr]
  exact wpAny_bind (wpAny_pure (wpAny_updatePart (s := { s with toks := s.toks + 1 }) ho h))
def x1 (a t : Nat) (es : List Ent) : XS := entsL (a + 1) t (es.take 17)
def x2 (a t : Nat) (es : List Ent) : XS := entsS (a + 19) (t + 102) (es.drop 17)
/-- what the display leaves behind h: o the dict, o2 the dict that was merged into it -/
def laid (t : Nat) (es : List Ent) (o o2 : Obj) : List Obj := o :: (objsL t (es.take 17) ++ o2 :: objsS (t + 102) (es.drop 17))
def top1 (prog : Program) (w : World) (a t : Nat) (es : List Ent) : Obj := dictO ((x1 a t es ++ x2 a t es).map (entryOfKey (kn prog w))) es.length
def top2 (prog : Program) (w : World) (a t : Nat) (es : List Ent) : Obj := dictO ((x2 a t es).map (entryOfKey (kn prog w))) (es.drop 17).length
def endS (w : World) (nm : Str) (s : Shared) (es : List Ent) (o o2 : Obj) : Shared :=
  { s with heap := (ap s.heap (laid s.toks es o o2)).update mainNs (Obj.putName nm (PyData.keyHash w.params nm) (.str nm (s.toks + 6 * es.length)) (.ref s.heap.objs.size)), toks := s.toks + 6 * es.length + 1 }
theorem entsL_keys : ∀ (es : List Ent) (a t : Nat), (entsL a t es).map (·.1) = es.map keyOf
  | [], _, _ => rfl
  | (x, y, v) :: r, a, t => by
    show [x, y] :: (entsL (a + 1) (t + 6) r).map (·.1) = _
    rw [entsL_keys r]
    rfl
theorem entsS_keys : ∀ (es : List Ent) (a t : Nat), (entsS a t es).map (·.1) = es.map keyOf
  | [], _, _ => rfl
  | (x, y, v) :: r, a, t => by
    show [x, y] :: (entsS (a + 1) (t + 3) r).map (·.1) = _
    rw [entsS_keys r]
    rfl
theorem entsL_len : ∀ (es : List Ent) (a t : Nat), (entsL a t es).length = es.length
  | [], _, _ => rfl
  | _ :: r, a, t => congrArg (· + 1) (entsL_len r _ _)
theorem entsS_len : ∀ (es : List Ent) (a t : Nat), (entsS a t es).length = es.length
  | [], _, _ => rfl
  | _ :: r, a, t => congrArg (· + 1) (entsS_len r _ _)
theorem objsL_len : ∀ (es : List Ent) (t : Nat), (objsL t es).length = es.length
  | [], _ => rfl
  | _ :: r, t => congrArg (· + 1) (objsL_len r _)
theorem steps_wp {env : Env} {nm : Str} {pn pd pos : Pos} {ks : List (Option Expr)} {vs : List Expr} {es : List Ent} {s : Shared} {o : Obj} {es0 : Array DictEntry} {n0 : Nat} {Q : Flow → Shared → Prop}
    (hr : readEnts ks vs = some es) (hl : 18 ≤ es.length) (hl2 : es.length ≤ 31) (hn : (es.map keyOf).Nodup) (hu : A.units < cLine) (hst : ∀ v, storeName env nm v = nsSet mainNs nm v)
    (ho : s.heap.get? mainNs = some o) (hd : o.data = .dict es0 n0) (hrf : aRefKeyMayBeTheName nm es0 = false) (hsm : (s.heap.objs.size + 18 == sysModules) = false)
    (hq : (∀ z ∈ x1 s.heap.objs.size s.toks es ++ x2 s.heap.objs.size s.toks es, ∃ x y t, z.1 = [x, y] ∧ (endS w nm s es (top1 prog w s.heap.objs.size s.toks es) (top2 prog w s.heap.objs.size s.toks es)).heap.get? z.2.1 = some (keyO x y t)) →
      Q .next (endS w nm s es (top1 prog w s.heap.objs.size s.toks es) (top2 prog w s.heap.objs.size s.toks es))) :
    wpAny (model prog w) A (exec (.Assign [.Name nm pn] (.Dict ks vs pd) pos) env) Q No s := by
  obtain ⟨ps, hz, al⟩ := read_ok (prog := prog) (w := w) (A := A) (env := env) (pd := pd) hr
  have pl := al.length
  show wpAny _ _ (do
    standAt pos
    if ← (pure false : Sem Bool) then do
      evalThenUse (.Dict ks vs pd) env fun v => assignAll v ((assignEach [.Name nm pn] env).map (·.2))
      pure .next
    else do
      let v ← (do standAt pd; dictDisplay ((evalEachOpt ks env).zip ((evalEach vs env).map fun v => do let x ← v; standAt pd; pure x)))
      assignStores env v (← (pure none : Sem (Option (List Str)))) [fun v => do standAt pn; bindName env nm v]) Q No s
  refine wpAny_bind (wpAny_standAt (wpAny_bind (wpAny_pure ?_)))
  rw [if_neg Bool.false_ne_true]
  refine wpAny_bind (wpAny_bind (wpAny_standAt ?_))
  rw [hz]
  have sp : ps = ps.take 16 ++ (ps.drop 16).head (by intro q; have := congrArg List.length q; simp at this; omega) :: (ps.drop 17).head (by intro q; have := congrArg List.length q; simp at this; omega) :: ps.drop 18 := by
    have a1 : ps.drop 16 = (ps.drop 16).head (by intro q; have := congrArg List.length q; simp at this; omega) :: ps.drop 17 := by
      rw [List.head_drop]
      exact List.drop_eq_getElem_cons (by omega)
    have a2 : ps.drop 17 = (ps.drop 17).head (by intro q; have := congrArg List.length q; simp at this; omega) :: ps.drop 18 := by
      rw [List.head_drop]
      exact List.drop_eq_getElem_cons (by omega)
    rw [← a2, ← a1, List.take_append_drop]
  have s1 : ps.take 17 = ps.take 16 ++ [(ps.drop 16).head (by intro q; have := congrArg List.length q; simp at this; omega)] := by
    rw [List.head_drop, List.take_append_getElem (by omega)]
  have s2 : ps.drop 17 = (ps.drop 17).head (by intro q; have := congrArg List.length q; simp at this; omega) :: ps.drop 18 := by
    rw [List.head_drop]
    exact List.drop_eq_getElem_cons (by omega)
  have keys : (es.take 17).map keyOf ++ (es.drop 17).map keyOf = es.map keyOf := by rw [← List.map_append, List.take_append_drop]
  have l1 : (es.take 17).length = 17 := by rw [List.length_take]; omega
  have l2 : (es.drop 17).length = es.length - 17 := List.length_drop
  have n12 : ((es.take 17).map keyOf ++ (es.drop 17).map keyOf).Nodup := by rw [keys]; exact hn
  obtain ⟨n1, n2, _⟩ := List.nodup_append.mp n12
  rw [sp]
  refine display_ok (by rw [List.length_take]; omega) (by rw [List.length_drop]; omega) ?_
  rw [← s1]
  refine sub_long (al.take 17) hu (by rw [List.length_take]; omega) (by omega) n1 fun ti => ?_
  rw [← s2]
  have ol : (objsL s.toks (es.take 17)).length = 17 := by rw [objsL_len, l1]
  have t6 : s.toks + 6 * (es.take 17).length = s.toks + 102 := by rw [l1]
  refine sub_short (h := s.heap) (xs := entsL (s.heap.objs.size + 1) s.toks (es.take 17)) (n := (es.take 17).length) (L := objsL s.toks (es.take 17)) (al.drop 17) hu (by rw [List.length_drop]; omega) (by omega) n2 rfl ti fun ents H he hH tx te hg => ?_
  have a18 : s.heap.objs.size + 1 + (objsL s.toks (es.take 17)).length = s.heap.objs.size + 18 := by rw [ol]
  rw [a18] at hg ⊢
  have he2 : ents = x2 s.heap.objs.size s.toks es := by
    rw [he]
    show entsS (s.heap.objs.size + 1 + (objsL s.toks (es.take 17)).length + 1) (s.toks + 6 * (es.take 17).length) (es.drop 17) = _
    rw [a18, t6]
    rfl
  have elen : ents.length = es.length - 17 := by rw [he, entsS_len, l2]
  have xlen : (entsL (s.heap.objs.size + 1) s.toks (es.take 17)).length = 17 := by rw [entsL_len, l1]
  refine merge_ok (h := s.heap) (xs := entsL (s.heap.objs.size + 1) s.toks (es.take 17)) (ys := ents) (n := (es.take 17).length) (m := (es.drop 17).length) hu (by rw [elen]; omega) (by rw [xlen, elen]; omega) (by intro q; rw [q] at xlen; cases xlen) hH tx te hg (fun q => by have q : s.heap.objs.size + 18 = s.heap.objs.size := q; omega) hsm ?_ fun ti3 => ?_
  · rw [entsL_keys, he, entsS_keys]
    exact n12
  have fin : sx prog w s.heap [] (entsL (s.heap.objs.size + 1) s.toks (es.take 17) ++ ents) ((es.take 17).length + ents.length) (objsL s.toks (es.take 17) ++ dictO (ents.map (entryOfKey (kn prog w))) (es.drop 17).length :: objsS (s.toks + 6 * (es.take 17).length) (es.drop 17)) =
      ap s.heap (laid s.toks es (top1 prog w s.heap.objs.size s.toks es) (top2 prog w s.heap.objs.size s.toks es)) := by
    rw [he2] at elen ⊢
    rw [t6, elen, l1, show 17 + (es.length - 17) = es.length by omega]
    rfl
  dsimp only at ti3 ⊢
  rw [fin] at ti3 ⊢
  have tk : s.toks + 6 * (es.take 17).length + 6 * (es.drop 17).length = s.toks + 6 * es.length := by rw [l1, l2]; omega
  rw [tk]
  refine wpAny_bind (wpAny_pure ?_)
  show wpAny _ _ (do (do standAt pn; bindName env nm (.ref s.heap.objs.size)); pure Flow.next) Q No _
  refine wpAny_bind (wpAny_bind (wpAny_standAt ?_))
  unfold bindName
  refine wpAny_bind (wpAny_holding (wpAny_point ?_))
  rw [hst]
  refine wpAny_bind (set_name (ap_old ho) hd hrf (wpAny_point (wpAny_pure (hq ?_))))
  intro z hz
  obtain ⟨x, y, t, e1, e2⟩ := ti3 z (by rw [he2]; exact hz)
  refine ⟨x, y, t, e1, ?_⟩
  have ne : mainNs ≠ z.2.1 := fun q => by
    rw [← q, ap_old ho] at e2
    have e3 : o = keyO x y t := Option.some.inj e2
    rw [e3] at hd
    cases hd
  exact (Heap.get?_update_other _ _ ne).trans e2
end
end HS
noncomputable section
namespace HS
open PySem PySem.W PySem.Calls PyProof.Rows HandSHeadRun
section
variable (st : SharedT → Thread → Option (SharedT × Thread)) (n0 : Nat) (ann : Option Value)
/-- so many steps of the top -/
def goK : Nat → SharedT → Thread → Option (SharedT × Thread)
  | 0, s, t => some (s, t)
  | m + 1, s, t => match through t with
    | true => none
    | false => match stepOk n0 ann t with
      | false => none
      | true => match st s t with
        | some r => frS r.1 fun s' => goK m s' r.2
        | none => none
/-- a piece, to its end -/
def sgF : Nat → SharedT → Thread → Option (Flow × SharedT × Code × Pos)
  | 0, _, _ => none
  | m + 1, s, t => match endAt 1 t with
    | some f => some (f, s, t.code, t.pos)
    | none => match stepOk n0 ann t with
      | false => none
      | true => match st s t with
        | some r => frS r.1 fun s' => sgF m s' r.2
        | none => none
end
section
variable {tb : String → Option Builtin} {p : Program} {w : World} {n0 : Nat} {ann : Option Value}
theorem goK_ok : ∀ {m : Nat} {s s' : SharedT} {t t' : Thread}, goK (stepT (denote tb) p w) n0 ann m s t = some (s', t') → topGo tb p w n0 ann m s.abs t = some (s'.abs, t')
  | 0, s, s', t, t', h => by
    have h2 : some (s, t) = some (s', t') := h
    injection h2 with h2
    obtain ⟨rfl, rfl⟩ := Prod.mk.inj h2
    rfl
  | m + 1, s, s', t, t', h => by
    unfold goK at h
    unfold topGo
    cases ht : through t with
    | true => rw [ht] at h; cases h
    | false =>
      rw [ht] at h
      dsimp only at h ⊢
      cases hk : stepOk n0 ann t with
      | false => rw [hk] at h; cases h
      | true =>
        rw [hk] at h
        dsimp only at h ⊢
        cases hs : stepT (denote tb) p w s t with
        | none => rw [hs] at h; cases h
        | some r =>
          rw [hs] at h
          dsimp only at h
          rw [frS_eq] at h
          rw [stepT_spec (s' := r.1) (t' := r.2) hs]
          exact goK_ok h
theorem sgF_ok : ∀ {m : Nat} {s s' : SharedT} {t : Thread} {f : Flow} {c : Code} {q : Pos}, sgF (stepT (denote tb) p w) n0 ann m s t = some (f, s', c, q) → segRun tb p w n0 ann 1 m s.abs t = some (f, s'.abs, c, q)
  | 0, _, _, _, _, _, _, h => by cases h
  | m + 1, s, s', t, f, c, q, h => by
    unfold sgF at h
    unfold segRun
    cases ht : endAt 1 t with
    | some g =>
      rw [ht] at h
      dsimp only at h ⊢
      have h3 : g = f ∧ s = s' ∧ t.code = c ∧ t.pos = q := by simpa using h
      obtain ⟨rfl, rfl, rfl, rfl⟩ := h3
      rfl
    | none =>
      rw [ht] at h
      dsimp only at h ⊢
      cases hk : stepOk n0 ann t with
      | false => rw [hk] at h; cases h
      | true =>
        rw [hk] at h
        dsimp only at h ⊢
        cases hs : stepT (denote tb) p w s t with
        | none => rw [hs] at h; cases h
        | some r =>
          rw [hs] at h
          dsimp only at h
          rw [frS_eq] at h
          rw [stepT_spec (s' := r.1) (t' := r.2) hs]
          exact sgF_ok h
end
structure At where
  s0 : Shared
  x : SharedT
  t1 : Thread
  f : Flow
  x3 : SharedT
  c3 : Code
  q3 : Pos
/-- the boot, the imports, the top up to a statement -/
def runA (st : Program → SharedT → Thread → Option (SharedT × Thread)) (fence : Program → Shared → Option Shared) (M n1 nA : Nat) (p : Program) (th : Thread) : Option At := match impF (st (opening p)) M (startT (opening p)) (start (opening p)).2 with
  | some s => (match fence p s.abs with
    | some s0 => (match s0.heap.isNs mainGlobals && s0.gens.size == 0 with
      | true => (match treeOf s0 with
        | some x => frS x fun x => (match goK (st p) x.n (s0.heap.nsMap mainGlobals "__annotations__") n1 x (topStub p) with
          | some r1 => frS r1.1 fun x1 => (match sgF (st p) x.n (s0.heap.nsMap mainGlobals "__annotations__") nA x1 th with
            | some r3 => some ⟨s0, x, r1.2, r3.1, r3.2.1, r3.2.2.1, r3.2.2.2⟩
            | none => none)
          | none => none)
        | none => none)
      | false => none)
    | none => none)
  | none => none
theorem runA_ok {M n1 nA : Nat} {p : Program} {w : World} {th : Thread} {r : At} (h : runA (fun q => stepT (denote treeTable) q w) fenceModules? M n1 nA p th = some r) :
    fencedOpening treeTable p w M = some r.s0 ∧ (r.s0.heap.isNs mainGlobals && r.s0.gens.size == 0) = true ∧ r.s0.heap.objs.size = r.x.n ∧ ∃ s1, topGo treeTable p w r.x.n (r.s0.heap.nsMap mainGlobals "__annotations__") n1 r.s0 (topStub p) = some (s1, r.t1) ∧
      segRun treeTable p w r.x.n (r.s0.heap.nsMap mainGlobals "__annotations__") 1 nA s1 th = some (r.f, r.x3.abs, r.c3, r.q3) := by
  unfold runA at h
  cases e1 : impF (stepT (denote treeTable) (opening p) w) M (startT (opening p)) (start (opening p)).2 with
  | none => simp only [e1] at h; cases h
  | some s =>
    simp only [e1] at h
    have a1 := impF_ok e1
    rw [startT_eq] at a1
    cases e2 : fenceModules? p s.abs with
    | none => simp only [e2] at h; cases h
    | some z =>
      simp only [e2] at h
      cases e3 : z.heap.isNs mainGlobals && z.gens.size == 0 with
      | false => simp only [e3] at h; cases h
      | true =>
        simp only [e3] at h
        cases e4 : treeOf z with
        | none => simp only [e4] at h; cases h
        | some x =>
          simp only [e4] at h
          rw [frS_eq] at h
          obtain ⟨ex, en⟩ := treeOf_eq e4
          cases e5 : goK (stepT (denote treeTable) p w) x.n (z.heap.nsMap mainGlobals "__annotations__") n1 x (topStub p) with
          | none => simp only [e5] at h; cases h
          | some r1 =>
            simp only [e5] at h
            rw [frS_eq] at h
            cases e6 : sgF (stepT (denote treeTable) p w) x.n (z.heap.nsMap mainGlobals "__annotations__") nA r1.1 th with
            | none => simp only [e6] at h; cases h
            | some r3 =>
              simp only [e6] at h
              have er : r = ⟨z, x, r1.2, r3.1, r3.2.1, r3.2.2.1, r3.2.2.2⟩ := (Option.some.inj h).symm
              subst er
              have b1 := goK_ok (s' := r1.1) (t' := r1.2) e5
              rw [ex] at b1
              refine ⟨?_, e3, en, r1.1.abs, b1, sgF_ok (f := r3.1) (s' := r3.2.1) (c := r3.2.2.1) (q := r3.2.2.2) e6⟩
              unfold fencedOpening
              rw [a1]
              exact e2
theorem runA_twin (M n1 nA : Nat) (p : Program) (th : Thread) (w : World) : runA (fun q => stepT (denote treeTable) q w) fenceModules? M n1 nA p th = runA (fun q => stepQ (denQ tabQ) q w) fenceQ M n1 nA p th := by
  rw [stepQ_eq, denQ_eq, tabQ_eq, fenceQ_eq]
def execsQ : List Stmt → Env → Sem Flow := PySem.W.Fast.tw12563942051412417395
theorem execsQ_eq : @PySem.execs = execsQ := PySem.W.Fast.te12563942051412417395
def blkQ : List Stmt → Env → Sem Unit := PySem.W.Fast.tw1066825118222455980
theorem blkQ_eq : @PySem.blockStart = blkQ := PySem.W.Fast.te1066825118222455980
/-- the thread of a piece; of what follows -/
def thA (l : List Stmt) (env : Env) (c : Code) (q q0 : Pos) : Thread := ⟨(execsQ l env).wrap doneF deadEnd id id, c, q, [topFrame q0]⟩
def thB (l : List Stmt) (env : Env) (c : Code) (q q0 : Pos) : Thread := ⟨(execsQ l env).wrap doneF (leaveH env) id id, c, q, [topFrame q0]⟩
theorem thA_eq (l : List Stmt) (env : Env) (c : Code) (q q0 : Pos) : thA l env c q q0 = piecesOf l env c q [topFrame q0] := by
  unfold thA
  rw [← execsQ_eq]
theorem thB_eq (l : List Stmt) (env : Env) (c : Code) (q q0 : Pos) : thB l env c q q0 = restOf l env c q [topFrame q0] := by
  unfold thB
  rw [← execsQ_eq]
  rfl
/-- no name of the namespace is in the way -/
def roomFor (nm : Str) (o : Option Obj) : Bool := match o with
  | some ⟨_, _, .dict es _, _⟩ => !aRefKeyMayBeTheName nm es
  | _ => false
/-- the state behind the display -/
def behind (w : World) (nm : Str) (es : List Ent) (x : SharedT) (o o2 : Obj) : Option SharedT := match putAll (laid x.toks es o o2) x.tree x.n with
  | some r => (match (r.1.get mainNs).isSome with
    | true => some ⟨r.1.set mainNs (Obj.putName nm (PyData.keyHash w.params nm) (.str nm (x.toks + 6 * es.length)) (.ref x.n)), r.2, x.life, x.gens, x.drawn, x.toks + 6 * es.length + 1, x.os⟩
    | false => none)
  | none => none
theorem foldl_ap : ∀ (l : List Obj) (h : Heap) (L : List Obj), l.foldl (fun h o => h.push o) (ap h L) = ap h (L ++ l)
  | [], h, L => by rw [List.append_nil]; rfl
  | o :: l, h, L => by
    show l.foldl _ ((ap h L).push o) = _
    rw [ap_push, foldl_ap l h (L ++ [o]), List.append_assoc]
    rfl
theorem behind_ok {w : World} {nm : Str} {es : List Ent} {x x4 : SharedT} {o o2 : Obj} (h : behind w nm es x o o2 = some x4) : x4.abs = endS w nm x.abs es o o2 := by
  unfold behind at h
  cases e1 : putAll (laid x.toks es o o2) x.tree x.n with
  | none => rw [e1] at h; cases h
  | some r =>
    rw [e1] at h
    dsimp only at h
    cases e2 : (r.1.get mainNs).isSome with
    | false => rw [e2] at h; cases h
    | true =>
      rw [e2] at h
      dsimp only at h
      obtain ⟨om, hm⟩ := Option.isSome_iff_exists.mp e2
      have ex := (Option.some.inj h).symm
      subst ex
      have a1 := putAll_ok (life := x.life) (l := laid x.toks es o o2) (t := x.tree) (n := x.n) (t' := r.1) (n' := r.2) e1
      have a2 : absHeap r.1 r.2 x.life = ap x.abs.heap (laid x.toks es o o2) := by
        rw [a1]
        have q := foldl_ap (laid x.toks es o o2) (absHeap x.tree x.n x.life) []
        rw [ap_nil, List.nil_append] at q
        exact q
      have sz : x.abs.heap.objs.size = x.n := absHeap_size x.tree x.n x.life
      show (⟨absHeap (r.1.set mainNs _) r.2 x.life, x.gens, x.drawn, x.toks + 6 * es.length + 1, x.os⟩ : Shared) = _
      rw [absHeap_set hm, a2]
      unfold endS
      rw [sz]
      rfl
section
variable {p q : Program} {loose : List Str} {R : WRecords} {Xt : Shared → Bool} {XP : (Str → Option Value) → Heap → Prop} {K : Params → Frag} {as : List Addr} {M n1 nA nB : Nat} {ann : Option Value} {b A B : List Stmt} {env : Env} {pos1 q0 q3 : Pos}
  {nm : Str} {pn pd pos : Pos} {ks : List (Option Expr)} {vs : List Expr} {es : List Ent} {a0 t0 : Nat}
/-- what the run leaves to the law's proof: the written part, and the table -/
def YS (K : Params → Frag) (a0 t0 : Nat) (es : List Ent) (prog : Program) : World → Heap → Prop := fun w h => InK K w h ∧ h.get? a0 = some (top1 prog w a0 t0 es)
theorem YS.keeps {prog : Program} (w : World) (h h' : Heap) (y : YS K a0 t0 es prog w h) (k : ∀ b o, h.get? b = some o → h'.get? b = some o) : YS K a0 t0 es prog w h' := ⟨y.1.keeps w h h' k, k _ _ y.2⟩
theorem Stands.mono {YP YP' : World → Heap → Prop} {w : World} (y : ∀ h, YP w h → YP' w h) (s : Stands p q loose R XP YP w) : Stands p q loose R XP YP' w :=
  ⟨s.1, fun x hx => let ⟨z, a, b, e, c, d, f, g, h, i, j⟩ := s.2 x hx; ⟨z, a, b, e, c, d, f, g, h, i, y _ j⟩⟩
/-- the table's keys stand in the written part -/
def tellsB (K : Frag) (xs : XS) : Bool := xs.all fun z => match z.1, K.lookup z.2.1 with
  | [x, y], some ⟨.type t, _, .seq items _, _⟩ => t == "tuple" && (match items.toList with
    | [.str x' _, .str y' _] => x' == x && y' == y
    | _ => false)
  | _, _ => false
theorem dict_of {P : Program} {w : World} {K : Frag} {xs : XS} {n a0 : Nat} (tb : tellsB K xs = true) (hl : K.lookup a0 = some (dictO (xs.map (entryOfKey (kn P w))) n)) (nd : (xs.map (·.1)).Nodup) (h : Heap) (X : K.In h) : h.DictOfH (kn P w) a0 xs := by
  refine ⟨_, _, _, X _ _ hl, ⟨rfl, rfl, rfl⟩, rfl, rfl, fun z hz => ?_, nd⟩
  have q := List.all_eq_true.mp tb z hz
  obtain ⟨k, a, v⟩ := z
  dsimp only at q ⊢
  split at q
  · rename_i x y t d items m sl e
    obtain ⟨q1, q2⟩ := Bool.and_eq_true_iff.mp q
    split at q2
    · rename_i x' u y' u' ei
      obtain ⟨q3, q4⟩ := Bool.and_eq_true_iff.mp q2
      have e3 : x' = x := eq_of_beq q3
      have e4 : y' = y := eq_of_beq q4
      have e5 : t = "tuple" := eq_of_beq q1
      subst e3 e4 e5
      exact ⟨_, items, m, X _ _ e, rfl, rfl, by rw [ei]; exact .cons (by show (x' == x') = true; simp) (.cons (by show (y' == y') = true; simp) .nil)⟩
    · cases q2
  · cases q
/-- a table's object by the world's settings alone -/
def hashP (P : Params) (ks : List Str) : Int := reduceHash (Builtin.Tuple.tupleHashOf (ks.map fun x => if x.cps.isEmpty = true then 0 else reduceHash (P.strHash x.cps)))
def tabO (P : Params) (a0 t0 : Nat) (es : List Ent) : Obj := dictO ((x1 a0 t0 es ++ x2 a0 t0 es).map fun z => ⟨hashP P z.1, .ref z.2.1, z.2.2⟩) es.length
theorem tabO_eq (prog : Program) (w : World) (a0 t0 : Nat) (es : List Ent) : top1 prog w a0 t0 es = tabO w.params a0 t0 es := rfl
/-- the written part with the table -/
theorem with_tab {K : Params → Frag} {prog : Program} {w : World} {h : Heap} (y : YS (fun P => (K P).filter fun x => !(x.1 == a0)) a0 t0 es prog w h) (hk : (K w.params).lookup a0 = some (tabO w.params a0 t0 es)) : InK K w h := by
  intro a o e
  by_cases c : a = a0
  · rw [c, hk] at e
    rw [c, ← Option.some.inj e, ← tabO_eq prog]
    exact y.2
  · refine y.1 a o ?_
    show ((K w.params).filter fun x => !(x.1 == a0)).lookup a = some o
    have gen : ∀ l : Frag, l.lookup a = some o → (l.filter fun x => !(x.1 == a0)).lookup a = some o := by
      intro l
      induction l with
      | nil => exact fun z => z
      | cons p l ih =>
        obtain ⟨b, ob⟩ := p
        intro z
        rw [List.lookup_cons] at z
        by_cases d : b = a0
        · have ne : (a == b) = false := beq_eq_false_iff_ne.mpr (fun q => c (q.trans d))
          rw [ne] at z
          rw [List.filter_cons_of_neg (by simp [d])]
          exact ih z
        · rw [List.filter_cons_of_pos (by simp [d]), List.lookup_cons]
          cases q : a == b with
          | true => rw [q] at z; exact z
          | false => rw [q] at z; exact ih z
    exact gen _ e
def EqA (p : Program) (w : World) (M n1 nA : Nat) (b A : List Stmt) (env : Env) (pos1 q0 q3 : Pos) (ann : Option Value) (nm : Str) (a0 t0 : Nat) : Prop :=
  (runA (fun q => stepQ (denQ tabQ) q w) fenceQ M n1 nA p (thA A env (.body b env) pos1 q0)).map (fun r => (r.t1, r.f, r.c3, r.q3, r.s0.heap.nsMap mainGlobals "__annotations__", r.x3.n, r.x3.toks, r.x3.gens.size == 0, roomFor nm (getT r.x3 mainNs))) =
    some (⟨denQ tabQ (.body b env), .body b env, pos1, [topFrame q0]⟩, .next, .body b env, q3, ann, a0, t0, true, true)
def EqB (p q : Program) (loose : List Str) (Xt : Shared → Bool) (K : Params → Frag) (as : List Addr) (w : World) (M n1 nA nB : Nat) (b A B : List Stmt) (env : Env) (pos1 q0 : Pos) (ann : Option Value) (nm : Str) (es : List Ent) (a0 t0 : Nat) : Prop :=
  ∀ (D1 D2 : List DictEntry) (q4 : Pos),
  ((runA (fun q => stepQ (denQ tabQ) q w) fenceQ M n1 nA p (thA A env (.body b env) pos1 q0)).bind fun r => (behind w nm es r.x3 (dictO D1 es.length) (dictO D2 (es.drop 17).length)).bind fun x4 => frS x4 fun x4 => (goF (stepQ (denQ tabQ) p w) r.x.n ann nB x4 (thB B env (.body b env) q4 q0)).map fun s5 =>
      (looksF p r.s0.heap s5.abs, seenQ q loose (importedModules p.main.body) Xt s5.abs, as.map (getT s5), (List.range (es.length + 2)).map fun i => getT s5 (a0 + i))) =
    some (true, openGood q loose, (K w.params).map (fun x => some x.2), (laid t0 es (dictO D1 es.length) (dictO D2 (es.drop 17).length)).map some)
section
variable {p : Program} {w : World} {M n1 nA nB : Nat} {b A B : List Stmt} {env : Env} {pos1 q0 : Pos} {ann : Option Value} {nm : Str} {es : List Ent} {α β : Type}
/-- what a look at the run's end says -/
def EqG {α : Type} (p : Program) (w : World) (M n1 nA nB : Nat) (b A B : List Stmt) (env : Env) (pos1 q0 : Pos) (ann : Option Value) (nm : Str) (es : List Ent) (g : At → SharedT → α) (v : List DictEntry → List DictEntry → α) : Prop :=
  ∀ (D1 D2 : List DictEntry) (q4 : Pos),
  ((runA (fun q => stepQ (denQ tabQ) q w) fenceQ M n1 nA p (thA A env (.body b env) pos1 q0)).bind fun r => (behind w nm es r.x3 (dictO D1 es.length) (dictO D2 (es.drop 17).length)).bind fun x4 => frS x4 fun x4 => (goF (stepQ (denQ tabQ) p w) r.x.n ann nB x4 (thB B env (.body b env) q4 q0)).map fun s5 => g r s5) = some (v D1 D2)
theorem EqG.and {g1 : At → SharedT → α} {v1 : List DictEntry → List DictEntry → α} {g2 : At → SharedT → β} {v2 : List DictEntry → List DictEntry → β} (h1 : EqG p w M n1 nA nB b A B env pos1 q0 ann nm es g1 v1) (h2 : EqG p w M n1 nA nB b A B env pos1 q0 ann nm es g2 v2) :
    EqG p w M n1 nA nB b A B env pos1 q0 ann nm es (fun r s => (g1 r s, g2 r s)) (fun x y => (v1 x y, v2 x y)) := by
  intro D1 D2 q4
  have a1 := h1 D1 D2 q4
  have a2 := h2 D1 D2 q4
  obtain ⟨r, e1, a1⟩ := Option.bind_eq_some_iff.mp a1
  rw [e1] at a2 ⊢
  rw [Option.bind_some] at a2 ⊢
  obtain ⟨x4, e2, a1⟩ := Option.bind_eq_some_iff.mp a1
  rw [e2] at a2 ⊢
  rw [Option.bind_some, frS_eq] at a2 ⊢
  rw [frS_eq] at a1
  obtain ⟨s5, e3, a1⟩ := Option.map_eq_some_iff.mp a1
  rw [e3] at a2 ⊢
  rw [Option.map_some] at a2 ⊢
  exact congrArg some (by show (g1 r s5, g2 r s5) = (v1 D1 D2, v2 D1 D2); rw [a1, Option.some.inj a2])
theorem EqG.map {g : At → SharedT → α} {v : List DictEntry → List DictEntry → α} (f : α → β) (h : EqG p w M n1 nA nB b A B env pos1 q0 ann nm es g v) :
    EqG p w M n1 nA nB b A B env pos1 q0 ann nm es (fun r s => f (g r s)) (fun x y => f (v x y)) := by
  intro D1 D2 q4
  have a1 := h D1 D2 q4
  obtain ⟨r, e1, a1⟩ := Option.bind_eq_some_iff.mp a1
  rw [e1]
  rw [Option.bind_some]
  obtain ⟨x4, e2, a1⟩ := Option.bind_eq_some_iff.mp a1
  rw [e2]
  rw [Option.bind_some, frS_eq]
  rw [frS_eq] at a1
  obtain ⟨s5, e3, a1⟩ := Option.map_eq_some_iff.mp a1
  rw [e3]
  rw [Option.map_some]
  exact congrArg (fun z => some (f z)) a1
end
section
variable (p q : Program) (loose : List Str) (Xt : Shared → Bool) (K : Params → Frag) (as : List Addr) (w : World) (es : List Ent) (a0 t0 : Nat)
def seenZ (s5 : SharedT) := seenQ q loose (importedModules p.main.body) Xt s5.abs
def G1 (r : At) (s5 : SharedT) := (looksF p r.s0.heap s5.abs, as.map (getT s5), (List.range (es.length + 2)).map (fun i => getT s5 (a0 + i)), (seenZ p q loose Xt s5).1, (seenZ p q loose Xt s5).2.1)
def V1 (D1 D2 : List DictEntry) := (true, (K w.params).map (fun x => some x.2), (laid t0 es (dictO D1 es.length) (dictO D2 (es.drop 17).length)).map some, expectedOf q, bltViewBooted)
def G2 (_ : At) (s5 : SharedT) := ((seenZ p q loose Xt s5).2.2.1, (seenZ p q loose Xt s5).2.2.2.1)
def V2 (_ _ : List DictEntry) := (true, true)
def G3 (_ : At) (s5 : SharedT) := ((seenZ p q loose Xt s5).2.2.2.2.1, (seenZ p q loose Xt s5).2.2.2.2.2.1)
def V3 (_ _ : List DictEntry) := (pinGoodD (drecsOf q), plainGoodE q (looseW q loose))
def G4 (_ : At) (s5 : SharedT) := (seenZ p q loose Xt s5).2.2.2.2.2.2
def V4 (_ _ : List DictEntry) := (plainGoodD q loose, wideGood q, clsGoodW q loose)
end
theorem eqB_of {p q : Program} {loose : List Str} {Xt : Shared → Bool} {K : Params → Frag} {as : List Addr} {w : World} {M n1 nA nB : Nat} {b A B : List Stmt} {env : Env} {pos1 q0 : Pos} {ann : Option Value} {nm : Str} {es : List Ent} {a0 t0 : Nat}
    (h1 : EqG p w M n1 nA nB b A B env pos1 q0 ann nm es (G1 p q loose Xt as es a0) (V1 q K w es t0)) (h2 : EqG p w M n1 nA nB b A B env pos1 q0 ann nm es (G2 p q loose Xt) V2)
    (h3 : EqG p w M n1 nA nB b A B env pos1 q0 ann nm es (G3 p q loose Xt) (V3 q loose)) (h4 : EqG p w M n1 nA nB b A B env pos1 q0 ann nm es (G4 p q loose Xt) (V4 q loose)) :
    EqB p q loose Xt K as w M n1 nA nB b A B env pos1 q0 ann nm es a0 t0 := by
  have h := h1.and (h2.and (h3.and h4))
  have k := EqG.map (fun z => (z.1.1, (z.1.2.2.2.1, z.1.2.2.2.2, z.2.1.1, z.2.1.2, z.2.2.1.1, z.2.2.1.2, z.2.2.2), z.1.2.1, z.1.2.2.1)) h
  intro D1 D2 q4
  exact k D1 D2 q4
theorem objsS_len : ∀ (es : List Ent) (t : Nat), (objsS t es).length = es.length
  | [], _ => rfl
  | _ :: r, t => congrArg (· + 1) (objsS_len r _)
theorem laid_len (t : Nat) (es : List Ent) (o o2 : Obj) (h : 17 ≤ es.length) : (laid t es o o2).length = es.length + 2 := by
  show (objsL t (es.take 17) ++ o2 :: objsS (t + 102) (es.drop 17)).length + 1 = _
  rw [List.length_append, List.length_cons, objsL_len, objsS_len, List.length_take, List.length_drop]
  omega
theorem entsL_at : ∀ (es : List Ent) (a t : Nat), ∀ z ∈ entsL a t es, ∃ (i : Nat) (x y : Str) (u : Nat), z.1 = [x, y] ∧ z.2.1 = a + i ∧ (objsL t es)[i]? = some (keyO x y u)
  | [], _, _, z, h => (nomatch h)
  | (x, y, v) :: r, a, t, z, h => by
    rcases List.mem_cons.mp h with rfl | h
    · exact ⟨0, x, y, t, rfl, rfl, rfl⟩
    · obtain ⟨i, x', y', u, e1, e2, e3⟩ := entsL_at r (a + 1) (t + 6) z h
      exact ⟨i + 1, x', y', u, e1, e2.trans (by show (a + 1 + i : Nat) = a + (i + 1); omega), e3⟩
theorem entsS_at : ∀ (es : List Ent) (a t : Nat), ∀ z ∈ entsS a t es, ∃ (i : Nat) (x y : Str) (u : Nat), z.1 = [x, y] ∧ z.2.1 = a + i ∧ (objsS t es)[i]? = some (keyO x y u)
  | [], _, _, z, h => (nomatch h)
  | (x, y, v) :: r, a, t, z, h => by
    rcases List.mem_cons.mp h with rfl | h
    · exact ⟨0, x, y, t, rfl, rfl, rfl⟩
    · obtain ⟨i, x', y', u, e1, e2, e3⟩ := entsS_at r (a + 1) (t + 3) z h
      exact ⟨i + 1, x', y', u, e1, e2.trans (by show (a + 1 + i : Nat) = a + (i + 1); omega), e3⟩
theorem laid_at {t a : Nat} {es : List Ent} {o o2 : Obj} (h : 17 ≤ es.length) : ∀ z ∈ x1 a t es ++ x2 a t es, ∃ (i : Nat) (x y : Str) (u : Nat), z.1 = [x, y] ∧ z.2.1 = a + i ∧ (laid t es o o2)[i]? = some (keyO x y u) := fun z hz => by
  have l17 : (objsL t (es.take 17)).length = 17 := by rw [objsL_len, List.length_take]; omega
  rcases List.mem_append.mp hz with m | m
  · obtain ⟨i, x, y, u, e1, e2, e3⟩ := entsL_at _ _ _ z m
    refine ⟨i + 1, x, y, u, e1, e2.trans (by show (a + 1 + i : Nat) = a + (i + 1); omega), ?_⟩
    show (objsL t (es.take 17) ++ o2 :: objsS (t + 102) (es.drop 17))[i]? = _
    rw [List.getElem?_append_left (List.getElem?_eq_some_iff.mp e3).1]
    exact e3
  · obtain ⟨i, x, y, u, e1, e2, e3⟩ := entsS_at _ _ _ z m
    refine ⟨i + 19, x, y, u, e1, e2.trans (by show (a + 19 + i : Nat) = a + (i + 19); omega), ?_⟩
    show (objsL t (es.take 17) ++ o2 :: objsS (t + 102) (es.drop 17))[i + 18]? = _
    rw [List.getElem?_append_right (by rw [l17]; omega), l17, show i + 18 - 17 = i + 1 by omega]
    exact e3
theorem stands_steps {w : World} (hb : b = A ++ .Assign [.Name nm pn] (.Dict ks vs pd) pos :: B) (hr : readEnts ks vs = some es) (hl : 18 ≤ es.length) (hl2 : es.length ≤ 31) (hn : (es.map keyOf).Nodup)
    (hst : ∀ v, storeName env nm v = nsSet mainNs nm v) (hbs : blockStart b env = pure ()) (hun : (Ctx.of (.body b env) [topFrame q0]).units < cLine) (hsm : (a0 + 18 == sysModules) = false) (ham : mainNs < a0)
    (ea : EqA p w M n1 nA b A env pos1 q0 q3 ann nm a0 t0) (eb : EqB p q loose Xt K as w M n1 nA nB b A B env pos1 q0 ann nm es a0 t0)
    (hch : chainsOk q = true) (hX : ∀ s, Xt s = true → XP (s.heap.nsMap mainGlobals) s.heap ∧ RecFacts R s.heap) (hK : ∀ P, as = (K P).map (·.1)) : Stands p q loose R XP (YS K a0 t0 es p) w := by
  unfold EqA at ea
  unfold EqB at eb
  rw [← runA_twin] at ea
  have eb2 := eb ((x1 a0 t0 es ++ x2 a0 t0 es).map (entryOfKey (kn p w))) ((x2 a0 t0 es).map (entryOfKey (kn p w)))
  rw [← runA_twin] at eb2
  obtain ⟨r, hrun, er⟩ := Option.map_eq_some_iff.mp ea
  rw [hrun] at eb2
  simp only [Option.bind_some] at eb2
  simp only [Prod.mk.injEq] at er
  obtain ⟨r1, r2, r3, r4, r5, r6, r7, r8, r9⟩ := er
  obtain ⟨c1, c2, c3, s1, c4, c5⟩ := runA_ok hrun
  rw [r1, ← denQ_eq, ← tabQ_eq] at c4
  rw [r2, r3, r4, thA_eq] at c5
  rw [r5] at c4 c5
  have sz : r.x3.abs.heap.objs.size = a0 := by rw [← r6]; exact absHeap_size r.x3.tree r.x3.n r.x3.life
  have tk : r.x3.abs.toks = t0 := r7
  obtain ⟨om, hom, esm, nmm, hdm, hrm⟩ : ∃ om, r.x3.abs.heap.get? mainNs = some om ∧ ∃ es0 n0, om.data = .dict es0 n0 ∧ aRefKeyMayBeTheName nm es0 = false := by
    rw [getT_eq] at r9
    cases g : r.x3.abs.heap.get? mainNs with
    | none => rw [g] at r9; cases r9
    | some om =>
      rw [g] at r9
      obtain ⟨cc, dd, dt, sl⟩ := om
      cases dt with
      | dict e n => exact ⟨_, rfl, e, n, rfl, by simpa [roomFor] using r9⟩
      | _ => cases r9
  have g3 : r.x3.abs.gens = #[] := Array.eq_empty_of_size_eq_zero (beq_iff_eq.mp r8)
  cases hbh : behind w nm es r.x3 (dictO ((x1 a0 t0 es ++ x2 a0 t0 es).map (entryOfKey (kn p w))) es.length) (dictO ((x2 a0 t0 es).map (entryOfKey (kn p w))) (es.drop 17).length) with
  | none => rw [hbh] at eb2; exact absurd (eb2 default) (by intro z; cases z)
  | some x4 =>
  rw [hbh] at eb2
  simp only [Option.bind_some, frS_eq] at eb2
  have e4 := behind_ok hbh
  have t1 : top1 p w a0 t0 es = dictO ((x1 a0 t0 es ++ x2 a0 t0 es).map (entryOfKey (kn p w))) es.length := rfl
  have t2 : top2 p w a0 t0 es = dictO ((x2 a0 t0 es).map (entryOfKey (kn p w))) (es.drop 17).length := rfl
  rw [← t1, ← t2] at e4
  -- the run behind it, from any place
  have run4 : ∀ q4, ∃ s5, goF (stepT (denote treeTable) p w) r.x.n ann nB x4 (thB B env (.body b env) q4 q0) = some s5 ∧ looksF p r.s0.heap s5.abs = true ∧ openSeen q loose (importedModules p.main.body) Xt true s5.abs = openGood q loose ∧
      as.map s5.abs.heap.get? = (K w.params).map (fun x => some x.2) ∧ (List.range (es.length + 2)).map (fun i => s5.abs.heap.get? (a0 + i)) = (laid t0 es (top1 p w a0 t0 es) (top2 p w a0 t0 es)).map some := fun q4 => by
    obtain ⟨s5, g5, e5⟩ := Option.map_eq_some_iff.mp (eb2 q4)
    rw [← stepQ_eq, ← denQ_eq, ← tabQ_eq] at g5
    simp only [Prod.mk.injEq] at e5
    obtain ⟨k1, k2, k3, k4⟩ := e5
    refine ⟨s5, g5, k1, ?_, ?_, ?_⟩
    · rw [seenQ_eq]; exact k2
    · rw [← k3]
      exact List.map_congr_left fun a _ => (getT_eq s5 a).symm
    · rw [t1, t2, ← k4]
      exact List.map_congr_left fun a _ => (getT_eq s5 _).symm
  have hsz : (x1 a0 t0 es ++ x2 a0 t0 es).map (·.1) = es.map keyOf := by
    rw [List.map_append]
    show (entsL (a0 + 1) t0 (es.take 17)).map (·.1) ++ (entsS (a0 + 19) (t0 + 102) (es.drop 17)).map (·.1) = _
    rw [entsL_keys, entsS_keys, ← List.map_append, List.take_append_drop]
  have yes : ∀ s5 : SharedT, as.map s5.abs.heap.get? = (K w.params).map (fun x => some x.2) → (List.range (es.length + 2)).map (fun i => s5.abs.heap.get? (a0 + i)) = (laid t0 es (top1 p w a0 t0 es) (top2 p w a0 t0 es)).map some →
      YS K a0 t0 es p w s5.abs.heap := fun s5 k3 k4 => by
    have at_ : ∀ i o, (laid t0 es (top1 p w a0 t0 es) (top2 p w a0 t0 es))[i]? = some o → s5.abs.heap.get? (a0 + i) = some o := fun i o e => by
      have q := congrArg (·[i]?) k4
      have lt : i < es.length + 2 := by
        have z := (List.getElem?_eq_some_iff.mp e).1
        rw [laid_len _ _ _ _ (by omega)] at z
        exact z
      simp only [List.getElem?_map, List.getElem?_range lt, Option.map_some, e] at q
      exact Option.some.inj q
    exact ⟨InK.of hK w s5.abs k3, at_ 0 _ rfl⟩
  subst hb
  have inA : (Ctx.of (.body (A ++ .Assign [.Name nm pn] (.Dict ks vs pd) pos :: B) env) [topFrame q0]).In { handled := none, depth := frameCount (Ctx.of (.body (A ++ .Assign [.Name nm pn] (.Dict ks vs pd) pos :: B) env) [topFrame q0]).below + (Ctx.of (.body (A ++ .Assign [.Name nm pn] (.Dict ks vs pd) pos :: B) env) [topFrame q0]).code.weight, units := (Ctx.of (.body (A ++ .Assign [.Name nm pn] (.Dict ks vs pd) pos :: B) env) [topFrame q0]).units } :=
    ⟨rfl, Nat.le_refl _, fun _ z => (by cases z), fun _ z => (by cases z), Nat.le_refl _⟩
  have c1' : fencedOpening table p w M = some r.s0 := by rw [table_eq_tree]; exact c1
  have ne4 : mainNs < r.x3.abs.heap.objs.size := by rw [sz]; exact ham
  refine stands_of (nB := nB) (s3 := r.x3.abs) (s4 := endS w nm r.x3.abs es (top1 p w a0 t0 es) (top2 p w a0 t0 es)) c1' c2 r5 (by rw [table_eq_tree, c3]; exact c4) hbs (by rw [table_eq_tree, c3]; exact c5) ?_ g3 rfl ?_ (fun q4 => ?_) hch hX
  · have said := steps_wp (prog := p) (w := w) (A := { handled := none, depth := frameCount (Ctx.of (.body (A ++ .Assign [.Name nm pn] (.Dict ks vs pd) pos :: B) env) [topFrame q0]).below + (Ctx.of (.body (A ++ .Assign [.Name nm pn] (.Dict ks vs pd) pos :: B) env) [topFrame q0]).code.weight, units := (Ctx.of (.body (A ++ .Assign [.Name nm pn] (.Dict ks vs pd) pos :: B) env) [topFrame q0]).units })
      (env := env) (pn := pn) (pd := pd) (pos := pos) (s := r.x3.abs) (Q := fun f s' => f = .next ∧ s' = endS w nm r.x3.abs es (top1 p w a0 t0 es) (top2 p w a0 t0 es)) hr hl hl2 hn hun hst hom hdm hrm (by rw [sz]; exact hsm) (fun _ => by rw [sz, tk]; exact ⟨rfl, rfl⟩)
    exact said _ _ inA
  · intro a o ne e
    show ((ap r.x3.abs.heap _).update mainNs _).get? a = some o
    exact (Heap.get?_update_other _ _ (fun z => ne z.symm)).trans (ap_old e)
  · obtain ⟨s5, g5, k1, k2, k3, k4⟩ := run4 q4
    have g6 := goF_ok g5
    rw [e4, thB_eq] at g6
    exact ⟨s5.abs, by rw [table_eq_tree, c3]; exact g6, k1, k2, yes s5 k3 k4⟩
end
end HS
end
namespace My.Hd
open PySem PySem.W PyProof.Rows HS
abbrev pp : Program := PySem.Challenge.pw_tablemates_k45_moved_contents
noncomputable section
def bb : List Stmt := behindTheImports pp
def tS (i : Nat) : Stmt := (pp.main.body[i]?).getD (.Pass ⟨0, 0, 0, 0⟩)
def mS (i j : Nat) : Stmt := match tS i with
  | .ClassDef _ _ _ b _ _ _ _ _ _ _ => (b[j]?).getD (.Pass ⟨0, 0, 0, 0⟩)
  | _ => .Pass ⟨0, 0, 0, 0⟩
def fO (s : Stmt) (qual : Str) (d : Option Addr) (df kd doc pm : Value) (an : Option Addr) (cd ct : Value) (bl : Addr) (sl : Array (Option Value)) : Obj := match s with
  | .FunctionDef n ps b _ _ _ sc _ _ _ => ⟨.type "function", d, .func ⟨n, qual, ps, .stmts b, sc, 3, [], df, kd, doc, pm, an, cd, ct, bl⟩, sl⟩
  | _ => default
def envM : Env := { scope := pp.main.scope, locals := mainNs, globals := mainNs, cells := [], code := .ref 41, frame := some 42 }
def pz : Pos := ⟨0, 0, 0, 0⟩
def keys (s : Stmt) : List (Option Expr) := match s with
  | .Assign _ (.Dict ks _ _) _ => ks
  | _ => []
def vals (s : Stmt) : List Expr := match s with
  | .Assign _ (.Dict _ vs _) _ => vs
  | _ => []
def posS (s : Stmt) : Pos × Pos × Pos := match s with
  | .Assign (.Name _ a :: _) (.Dict _ _ b) c => (a, b, c)
  | _ => default
def sS : Stmt := (bb[44]?).getD (.Pass ⟨0, 0, 0, 0⟩)
def ee : List Ent := (readEnts (keys sS) (vals sS)).getD []
def qq : Program := view pp [0, 2, 3, 5, 7, 8, 9, 10, 11, 12, 13, 15, 16, 17, 18, 19, 20, 21, 22, 23, 25, 26, 27, 28, 29, 30, 31, 32, 33, 34, 35, 37, 38, 39, 40, 41, 43, 44, 45, 46, 47, 48, 49, 50, 51, 52, 53, 54, 55, 56, 57, 58, 60, 62, 63, 64, 65, 66, 67, 68, 69, 70]
def KK : Params → Frag := fun P =>
  (nat_lit 3, Obj.mk (Value.type "dict") Option.none (Data.dict #[DictEntry.mk (PyData.keyHash P (Str.ofString "__name__")) (Value.str (Str.ofString "__name__") 165) (Value.str (Str.ofString "law_tablemates_k45_moved_contents") 965), DictEntry.mk (PyData.keyHash P (Str.ofString "__doc__")) (Value.str (Str.ofString "__doc__") 166) Value.none, DictEntry.mk (PyData.keyHash P (Str.ofString "__package__")) (Value.str (Str.ofString "__package__") 167) Value.none, DictEntry.mk (PyData.keyHash P (Str.ofString "__loader__")) (Value.str (Str.ofString "__loader__") 168) (Value.builtin "__main__.__loader__#opaque"), DictEntry.mk (PyData.keyHash P (Str.ofString "__spec__")) (Value.str (Str.ofString "__spec__") 169) Value.none, DictEntry.mk (PyData.keyHash P (Str.ofString "__annotations__")) (Value.str (Str.ofString "__annotations__") 170) (Value.ref 6), DictEntry.mk (PyData.keyHash P (Str.ofString "__builtins__")) (Value.str (Str.ofString "__builtins__") 171) (Value.ref 4), DictEntry.mk (PyData.keyHash P (Str.ofString "__file__")) (Value.str (Str.ofString "__file__") 173) (Value.str (Str.ofString "/claim/cut.py") 172), DictEntry.mk (PyData.keyHash P (Str.ofString "__cached__")) (Value.str (Str.ofString "__cached__") 174) Value.none, DictEntry.mk (PyData.keyHash P (Str.ofString "gcd")) (Value.str (Str.ofString "gcd") 369) (Value.builtin "math.gcd"), DictEntry.mk (PyData.keyHash P (Str.ofString "TableError")) (Value.str (Str.ofString "TableError") 395) (Value.ref 52), DictEntry.mk (PyData.keyHash P (Str.ofString "FormulaFault")) (Value.str (Str.ofString "FormulaFault") 422) (Value.ref 72), DictEntry.mk (PyData.keyHash P (Str.ofString "fraction")) (Value.str (Str.ofString "fraction") 433) (Value.ref 81), DictEntry.mk (PyData.keyHash P (Str.ofString "DIGITS")) (Value.str (Str.ofString "DIGITS") 437) (Value.str (Str.ofString "0123456789") 436), DictEntry.mk (PyData.keyHash P (Str.ofString "MOST_BEFORE_POINT")) (Value.str (Str.ofString "MOST_BEFORE_POINT") 439) (Value.int 12 438), DictEntry.mk (PyData.keyHash P (Str.ofString "MOST_BEHIND_POINT")) (Value.str (Str.ofString "MOST_BEHIND_POINT") 441) (Value.int 6 440), DictEntry.mk (PyData.keyHash P (Str.ofString "PARTS")) (Value.str (Str.ofString "PARTS") 445) (Value.int 1000000 444), DictEntry.mk (PyData.keyHash P (Str.ofString "_is_digits")) (Value.str (Str.ofString "_is_digits") 451) (Value.ref 86), DictEntry.mk (PyData.keyHash P (Str.ofString "read_decimal")) (Value.str (Str.ofString "read_decimal") 461) (Value.ref 93), DictEntry.mk (PyData.keyHash P (Str.ofString "read_number")) (Value.str (Str.ofString "read_number") 469) (Value.ref 100), DictEntry.mk (PyData.keyHash P (Str.ofString "CAPITALS")) (Value.str (Str.ofString "CAPITALS") 473) (Value.str (Str.ofString "ABCDEFGHIJKLMNOPQRSTUVWXYZ") 472), DictEntry.mk (PyData.keyHash P (Str.ofString "SMALL")) (Value.str (Str.ofString "SMALL") 475) (Value.str (Str.ofString "abcdefghijklmnopqrstuvwxyz") 474), DictEntry.mk (PyData.keyHash P (Str.ofString "SIGNS")) (Value.str (Str.ofString "SIGNS") 477) (Value.str (Str.ofString "+-*/(),:") 476), DictEntry.mk (PyData.keyHash P (Str.ofString "LONGEST_WORD")) (Value.str (Str.ofString "LONGEST_WORD") 479) (Value.int 8 478), DictEntry.mk (PyData.keyHash P (Str.ofString "_run_end")) (Value.str (Str.ofString "_run_end") 488) (Value.ref 107), DictEntry.mk (PyData.keyHash P (Str.ofString "read_address")) (Value.str (Str.ofString "read_address") 500) (Value.ref 114), DictEntry.mk (PyData.keyHash P (Str.ofString "_token_end")) (Value.str (Str.ofString "_token_end") 510) (Value.ref 121), DictEntry.mk (PyData.keyHash P (Str.ofString "_kind")) (Value.str (Str.ofString "_kind") 518) (Value.ref 128), DictEntry.mk (PyData.keyHash P (Str.ofString "token_list")) (Value.str (Str.ofString "token_list") 528) (Value.ref 135), DictEntry.mk (PyData.keyHash P (Str.ofString "CALLS")) (Value.str (Str.ofString "CALLS") 535) (Value.ref 136), DictEntry.mk (PyData.keyHash P (Str.ofString "SUMS")) (Value.str (Str.ofString "SUMS") 538) (Value.ref 137), DictEntry.mk (PyData.keyHash P (Str.ofString "PRODUCTS")) (Value.str (Str.ofString "PRODUCTS") 541) (Value.ref 138), DictEntry.mk (PyData.keyHash P (Str.ofString "GONE")) (Value.str (Str.ofString "GONE") 543) (Value.str (Str.ofString "gone") 542), DictEntry.mk (PyData.keyHash P (Str.ofString "SHORTEST_NAME")) (Value.str (Str.ofString "SHORTEST_NAME") 545) (Value.int 2 544), DictEntry.mk (PyData.keyHash P (Str.ofString "is_name_word")) (Value.str (Str.ofString "is_name_word") 551) (Value.ref 143), DictEntry.mk (PyData.keyHash P (Str.ofString "size")) (Value.str (Str.ofString "size") 558) (Value.ref 150), DictEntry.mk (PyData.keyHash P (Str.ofString "named_cells")) (Value.str (Str.ofString "named_cells") 565) (Value.ref 157), DictEntry.mk (PyData.keyHash P (Str.ofString "areas_of")) (Value.str (Str.ofString "areas_of") 572) (Value.ref 164), DictEntry.mk (PyData.keyHash P (Str.ofString "_mapped_areas")) (Value.str (Str.ofString "_mapped_areas") 582) (Value.ref 171), DictEntry.mk (PyData.keyHash P (Str.ofString "mapped")) (Value.str (Str.ofString "mapped") 591) (Value.ref 178), DictEntry.mk (PyData.keyHash P (Str.ofString "GONE_PART")) (Value.str (Str.ofString "GONE_PART") 595) (Value.ref 179), DictEntry.mk (PyData.keyHash P (Str.ofString "with_tree")) (Value.str (Str.ofString "with_tree") 603) (Value.ref 186), DictEntry.mk (PyData.keyHash P (Str.ofString "_moved_corners")) (Value.str (Str.ofString "_moved_corners") 617) (Value.ref 193), DictEntry.mk (PyData.keyHash P (Str.ofString "moved_tree")) (Value.str (Str.ofString "moved_tree") 633) (Value.ref 200), DictEntry.mk (PyData.keyHash P (Str.ofString "moved_content")) (Value.str (Str.ofString "moved_content") 648) (Value.ref 207), DictEntry.mk (PyData.keyHash P (Str.ofString "MOST_TOKENS")) (Value.str (Str.ofString "MOST_TOKENS") 652) (Value.int 30 651), DictEntry.mk (PyData.keyHash P (Str.ofString "MOST_BRACKETS")) (Value.str (Str.ofString "MOST_BRACKETS") 654) (Value.int 6 653), DictEntry.mk (PyData.keyHash P (Str.ofString "STEPS")) (Value.str (Str.ofString "STEPS") 811) (Value.ref 208), DictEntry.mk (PyData.keyHash P (Str.ofString "_symbol")) (Value.str (Str.ofString "_symbol") 820) (Value.ref 242), DictEntry.mk (PyData.keyHash P (Str.ofString "_depth_behind")) (Value.str (Str.ofString "_depth_behind") 829) (Value.ref 249), DictEntry.mk (PyData.keyHash P (Str.ofString "_walk")) (Value.str (Str.ofString "_walk") 841) (Value.ref 256), DictEntry.mk (PyData.keyHash P (Str.ofString "_chain")) (Value.str (Str.ofString "_chain") 854) (Value.ref 263), DictEntry.mk (PyData.keyHash P (Str.ofString "_formula")) (Value.str (Str.ofString "_formula") 862) (Value.ref 270), DictEntry.mk (PyData.keyHash P (Str.ofString "_term")) (Value.str (Str.ofString "_term") 870) (Value.ref 277), DictEntry.mk (PyData.keyHash P (Str.ofString "_factor")) (Value.str (Str.ofString "_factor") 880) (Value.ref 284), DictEntry.mk (PyData.keyHash P (Str.ofString "_primary")) (Value.str (Str.ofString "_primary") 894) (Value.ref 291), DictEntry.mk (PyData.keyHash P (Str.ofString "_call")) (Value.str (Str.ofString "_call") 905) (Value.ref 298), DictEntry.mk (PyData.keyHash P (Str.ofString "_area")) (Value.str (Str.ofString "_area") 915) (Value.ref 305), DictEntry.mk (PyData.keyHash P (Str.ofString "_block")) (Value.str (Str.ofString "_block") 927) (Value.ref 312), DictEntry.mk (PyData.keyHash P (Str.ofString "_off_grid")) (Value.str (Str.ofString "_off_grid") 938) (Value.ref 319), DictEntry.mk (PyData.keyHash P (Str.ofString "read_formula")) (Value.str (Str.ofString "read_formula") 952) (Value.ref 326), DictEntry.mk (PyData.keyHash P (Str.ofString "read_content")) (Value.str (Str.ofString "read_content") 964) (Value.ref 333), DictEntry.mk (PyData.keyHash P (Str.ofString "_law_cell")) (Value.str (Str.ofString "_law_cell") 974) (Value.ref 340), DictEntry.mk (PyData.keyHash P (Str.ofString "_law_digits")) (Value.str (Str.ofString "_law_digits") 986) (Value.ref 347), DictEntry.mk (PyData.keyHash P (Str.ofString "_law_padded")) (Value.str (Str.ofString "_law_padded") 996) (Value.ref 354), DictEntry.mk (PyData.keyHash P (Str.ofString "_law_address")) (Value.str (Str.ofString "_law_address") 1003) (Value.ref 361), DictEntry.mk (PyData.keyHash P (Str.ofString "_law_text")) (Value.str (Str.ofString "_law_text") 1014) (Value.ref 368), DictEntry.mk (PyData.keyHash P (Str.ofString "_law_read")) (Value.str (Str.ofString "_law_read") 1023) (Value.ref 375), DictEntry.mk (PyData.keyHash P (Str.ofString "_law_frame")) (Value.str (Str.ofString "_law_frame") 1030) (Value.ref 382), DictEntry.mk (PyData.keyHash P (Str.ofString "_law_areas")) (Value.str (Str.ofString "_law_areas") 1047) (Value.ref 389), DictEntry.mk (PyData.keyHash P (Str.ofString "law")) (Value.str (Str.ofString "law") 1065) (Value.ref 396)] 71) #[]) ::
  (nat_lit 43, Obj.mk (Value.type "tuple") Option.none (Data.seq #[Value.type "ValueError"]) #[]) ::
  (nat_lit 50, Obj.mk (Value.type "tuple") Option.none (Data.seq #[]) #[]) ::
  (nat_lit 51, Obj.mk (Value.type "dict") Option.none (Data.dict #[DictEntry.mk (PyData.keyHash P (Str.ofString "__module__")) (Value.str (Str.ofString "__module__") 385) (Value.str (Str.ofString "tablemates.errors") 376), DictEntry.mk (PyData.keyHash P (Str.ofString "__firstlineno__")) (Value.str (Str.ofString "__firstlineno__") 389) (Value.int 3 388), DictEntry.mk (PyData.keyHash P (Str.ofString "__static_attributes__")) (Value.str (Str.ofString "__static_attributes__") 390) (Value.ref 50), DictEntry.mk (PyData.keyHash P (Str.ofString "__weakref__")) (Value.str (Str.ofString "__weakref__") 392) (Value.ref 53), DictEntry.mk (PyData.keyHash P (Str.ofString "__doc__")) (Value.str (Str.ofString "__doc__") 393) Value.none] 3) #[]) ::
  (nat_lit 52, Obj.mk (Value.type "type") Option.none (Data.cls (ClassData.mk (Str.ofString "TableError") [Value.type "ValueError"] [Value.ref 52, Value.type "ValueError", Value.type "Exception", Value.type "BaseException", Value.type "object"] 51 (Str.ofString "TableError") Bool.true [] [Value.ref 72] Bool.false Option.none Bool.false)) #[Option.some (Value.ref 43), Option.none, Option.some (Value.str (Str.ofString "TableError") 378), Option.some (Value.str (Str.ofString "TableError") 386), Option.some (Value.builtin "ValueError.__new__"), Option.some (Value.bool Bool.true)]) ::
  (nat_lit 53, Obj.mk (Value.type "getset_descriptor") Option.none (Data.fields #[Value.str (Str.ofString "__weakref__") 391, Value.ref 52, Value.builtin "ExceptionGroup.__weakref__", Value.none]) #[]) ::
  (nat_lit 56, Obj.mk (Value.type "tuple") Option.none (Data.seq #[Value.ref 52]) #[]) ::
  (nat_lit 63, Obj.mk (Value.type "tuple") Option.none (Data.seq #[]) #[]) ::
  (nat_lit 65, Obj.mk (Value.type "tuple") Option.none (Data.seq #[Value.str (Str.ofString "self") 411, Value.str (Str.ofString "place") 412, Value.str (Str.ofString "word") 413]) #[]) ::
  (nat_lit 66, Obj.mk (Value.type "tuple") Option.none (Data.seq #[]) #[]) ::
  (nat_lit 68, Obj.mk (Value.type "code") Option.none (Data.fields #[Value.str (Str.ofString "__init__") 408, Value.str (Str.ofString "FormulaFault.__init__") 409, Value.str (Str.ofString "/claim/cut.py") 410, Value.int 7 0, Value.int 3 0, Value.int 0 0, Value.int 0 0, Value.int 3 0, Value.ref 63, Value.bool Bool.true, Value.int 370 0, Value.ref 64, Value.none, Value.ref 65, Value.ref 66, Value.ref 67, Value.int 414 0, Value.int 7 0, Value.str (Str.ofString "/claim/cut.py") 415]) #[]) ::
  (nat_lit 69, fO (mS 3 0) (Str.ofString "FormulaFault.__init__") Option.none (Value.none) (Value.none) (Value.none) (Value.str (Str.ofString "tablemates.errors") 376) Option.none (Value.ref 68) (Value.none) 0 #[]) ::
  (nat_lit 70, Obj.mk (Value.type "tuple") Option.none (Data.seq #[Value.str (Str.ofString "place") 417, Value.str (Str.ofString "word") 418]) #[]) ::
  (nat_lit 71, Obj.mk (Value.type "dict") Option.none (Data.dict #[DictEntry.mk (PyData.keyHash P (Str.ofString "__module__")) (Value.str (Str.ofString "__module__") 403) (Value.str (Str.ofString "tablemates.errors") 376), DictEntry.mk (PyData.keyHash P (Str.ofString "__firstlineno__")) (Value.str (Str.ofString "__firstlineno__") 407) (Value.int 5 406), DictEntry.mk (PyData.keyHash P (Str.ofString "__init__")) (Value.str (Str.ofString "__init__") 416) (Value.ref 69), DictEntry.mk (PyData.keyHash P (Str.ofString "__static_attributes__")) (Value.str (Str.ofString "__static_attributes__") 419) (Value.ref 70), DictEntry.mk (PyData.keyHash P (Str.ofString "__doc__")) (Value.str (Str.ofString "__doc__") 420) Value.none] 2) #[]) ::
  (nat_lit 72, Obj.mk (Value.type "type") Option.none (Data.cls (ClassData.mk (Str.ofString "FormulaFault") [Value.ref 52] [Value.ref 72, Value.ref 52, Value.type "ValueError", Value.type "Exception", Value.type "BaseException", Value.type "object"] 71 (Str.ofString "FormulaFault") Bool.true [] [] Bool.false Option.none Bool.false)) #[Option.some (Value.ref 56), Option.none, Option.some (Value.str (Str.ofString "FormulaFault") 396), Option.some (Value.str (Str.ofString "FormulaFault") 404), Option.some (Value.builtin "ValueError.__new__"), Option.some (Value.bool Bool.true)]) ::
  (nat_lit 75, Obj.mk (Value.type "tuple") Option.none (Data.seq #[]) #[]) ::
  (nat_lit 77, Obj.mk (Value.type "tuple") Option.none (Data.seq #[Value.str (Str.ofString "n") 428, Value.str (Str.ofString "d") 429, Value.str (Str.ofString "common") 430]) #[]) ::
  (nat_lit 78, Obj.mk (Value.type "tuple") Option.none (Data.seq #[]) #[]) ::
  (nat_lit 80, Obj.mk (Value.type "code") Option.none (Data.fields #[Value.str (Str.ofString "fraction") 425, Value.str (Str.ofString "fraction") 426, Value.str (Str.ofString "/claim/cut.py") 427, Value.int 11 0, Value.int 2 0, Value.int 0 0, Value.int 0 0, Value.int 3 0, Value.ref 75, Value.bool Bool.true, Value.int 370 0, Value.ref 76, Value.none, Value.ref 77, Value.ref 78, Value.ref 79, Value.int 431 0, Value.int 11 0, Value.str (Str.ofString "/claim/cut.py") 432]) #[]) ::
  (nat_lit 81, fO (tS 5) (Str.ofString "fraction") Option.none (Value.none) (Value.none) (Value.none) (Value.str (Str.ofString "tablemates.fractions") 423) Option.none (Value.ref 80) (Value.none) 0 #[]) ::
  (nat_lit 82, Obj.mk (Value.type "tuple") Option.none (Data.seq #[]) #[]) ::
  (nat_lit 85, Obj.mk (Value.type "code") Option.none (Data.fields #[Value.str (Str.ofString "_is_digits") 446, Value.str (Str.ofString "_is_digits") 447, Value.str (Str.ofString "/claim/cut.py") 448, Value.int 21 0, Value.int 1 0, Value.int 0 0, Value.int 0 0, Value.int 3 0, Value.ref 82, Value.bool Bool.true, Value.int 370 0, Value.ref 83, Value.none, Value.none, Value.none, Value.ref 84, Value.int 449 0, Value.int 21 0, Value.str (Str.ofString "/claim/cut.py") 450]) #[]) ::
  (nat_lit 86, fO (tS 11) (Str.ofString "_is_digits") Option.none (Value.none) (Value.none) (Value.none) (Value.str (Str.ofString "tablemates.decimals") 434) Option.none (Value.ref 85) (Value.none) 0 #[]) ::
  (nat_lit 87, Obj.mk (Value.type "tuple") Option.none (Data.seq #[]) #[]) ::
  (nat_lit 89, Obj.mk (Value.type "tuple") Option.none (Data.seq #[Value.str (Str.ofString "text") 455, Value.str (Str.ofString "whole") 456, Value.str (Str.ofString "point") 457, Value.str (Str.ofString "rest") 458]) #[]) ::
  (nat_lit 90, Obj.mk (Value.type "tuple") Option.none (Data.seq #[]) #[]) ::
  (nat_lit 92, Obj.mk (Value.type "code") Option.none (Data.fields #[Value.str (Str.ofString "read_decimal") 452, Value.str (Str.ofString "read_decimal") 453, Value.str (Str.ofString "/claim/cut.py") 454, Value.int 23 0, Value.int 1 0, Value.int 0 0, Value.int 0 0, Value.int 3 0, Value.ref 87, Value.bool Bool.true, Value.int 370 0, Value.ref 88, Value.none, Value.ref 89, Value.ref 90, Value.ref 91, Value.int 459 0, Value.int 23 0, Value.str (Str.ofString "/claim/cut.py") 460]) #[]) ::
  (nat_lit 93, fO (tS 12) (Str.ofString "read_decimal") Option.none (Value.none) (Value.none) (Value.none) (Value.str (Str.ofString "tablemates.decimals") 434) Option.none (Value.ref 92) (Value.none) 0 #[]) ::
  (nat_lit 94, Obj.mk (Value.type "tuple") Option.none (Data.seq #[]) #[]) ::
  (nat_lit 96, Obj.mk (Value.type "tuple") Option.none (Data.seq #[Value.str (Str.ofString "text") 465, Value.str (Str.ofString "x") 466]) #[]) ::
  (nat_lit 97, Obj.mk (Value.type "tuple") Option.none (Data.seq #[]) #[]) ::
  (nat_lit 99, Obj.mk (Value.type "code") Option.none (Data.fields #[Value.str (Str.ofString "read_number") 462, Value.str (Str.ofString "read_number") 463, Value.str (Str.ofString "/claim/cut.py") 464, Value.int 32 0, Value.int 1 0, Value.int 0 0, Value.int 0 0, Value.int 3 0, Value.ref 94, Value.bool Bool.true, Value.int 370 0, Value.ref 95, Value.none, Value.ref 96, Value.ref 97, Value.ref 98, Value.int 467 0, Value.int 32 0, Value.str (Str.ofString "/claim/cut.py") 468]) #[]) ::
  (nat_lit 100, fO (tS 13) (Str.ofString "read_number") Option.none (Value.none) (Value.none) (Value.none) (Value.str (Str.ofString "tablemates.decimals") 434) Option.none (Value.ref 99) (Value.none) 0 #[]) ::
  (nat_lit 101, Obj.mk (Value.type "tuple") Option.none (Data.seq #[]) #[]) ::
  (nat_lit 103, Obj.mk (Value.type "tuple") Option.none (Data.seq #[Value.str (Str.ofString "text") 483, Value.str (Str.ofString "at") 484, Value.str (Str.ofString "characters") 485]) #[]) ::
  (nat_lit 104, Obj.mk (Value.type "tuple") Option.none (Data.seq #[]) #[]) ::
  (nat_lit 106, Obj.mk (Value.type "code") Option.none (Data.fields #[Value.str (Str.ofString "_run_end") 480, Value.str (Str.ofString "_run_end") 481, Value.str (Str.ofString "/claim/cut.py") 482, Value.int 42 0, Value.int 3 0, Value.int 0 0, Value.int 0 0, Value.int 3 0, Value.ref 101, Value.bool Bool.true, Value.int 370 0, Value.ref 102, Value.none, Value.ref 103, Value.ref 104, Value.ref 105, Value.int 486 0, Value.int 42 0, Value.str (Str.ofString "/claim/cut.py") 487]) #[]) ::
  (nat_lit 107, fO (tS 19) (Str.ofString "_run_end") Option.none (Value.none) (Value.none) (Value.none) (Value.str (Str.ofString "tablemates.tokens") 470) Option.none (Value.ref 106) (Value.none) 0 #[]) ::
  (nat_lit 108, Obj.mk (Value.type "tuple") Option.none (Data.seq #[]) #[]) ::
  (nat_lit 110, Obj.mk (Value.type "tuple") Option.none (Data.seq #[Value.str (Str.ofString "text") 492, Value.str (Str.ofString "middle") 493, Value.str (Str.ofString "letters") 494, Value.str (Str.ofString "digits") 495, Value.str (Str.ofString "column") 496, Value.str (Str.ofString "letter") 497]) #[]) ::
  (nat_lit 111, Obj.mk (Value.type "tuple") Option.none (Data.seq #[]) #[]) ::
  (nat_lit 113, Obj.mk (Value.type "code") Option.none (Data.fields #[Value.str (Str.ofString "read_address") 489, Value.str (Str.ofString "read_address") 490, Value.str (Str.ofString "/claim/cut.py") 491, Value.int 46 0, Value.int 1 0, Value.int 0 0, Value.int 0 0, Value.int 3 0, Value.ref 108, Value.bool Bool.true, Value.int 370 0, Value.ref 109, Value.none, Value.ref 110, Value.ref 111, Value.ref 112, Value.int 498 0, Value.int 46 0, Value.str (Str.ofString "/claim/cut.py") 499]) #[]) ::
  (nat_lit 114, fO (tS 20) (Str.ofString "read_address") Option.none (Value.none) (Value.none) (Value.none) (Value.str (Str.ofString "tablemates.tokens") 470) Option.none (Value.ref 113) (Value.none) 0 #[]) ::
  (nat_lit 115, Obj.mk (Value.type "tuple") Option.none (Data.seq #[]) #[]) ::
  (nat_lit 117, Obj.mk (Value.type "tuple") Option.none (Data.seq #[Value.str (Str.ofString "text") 504, Value.str (Str.ofString "at") 505, Value.str (Str.ofString "end") 506, Value.str (Str.ofString "behind") 507]) #[]) ::
  (nat_lit 118, Obj.mk (Value.type "tuple") Option.none (Data.seq #[]) #[]) ::
  (nat_lit 120, Obj.mk (Value.type "code") Option.none (Data.fields #[Value.str (Str.ofString "_token_end") 501, Value.str (Str.ofString "_token_end") 502, Value.str (Str.ofString "/claim/cut.py") 503, Value.int 58 0, Value.int 2 0, Value.int 0 0, Value.int 0 0, Value.int 3 0, Value.ref 115, Value.bool Bool.true, Value.int 370 0, Value.ref 116, Value.none, Value.ref 117, Value.ref 118, Value.ref 119, Value.int 508 0, Value.int 58 0, Value.str (Str.ofString "/claim/cut.py") 509]) #[]) ::
  (nat_lit 121, fO (tS 21) (Str.ofString "_token_end") Option.none (Value.none) (Value.none) (Value.none) (Value.str (Str.ofString "tablemates.tokens") 470) Option.none (Value.ref 120) (Value.none) 0 #[]) ::
  (nat_lit 122, Obj.mk (Value.type "tuple") Option.none (Data.seq #[]) #[]) ::
  (nat_lit 124, Obj.mk (Value.type "tuple") Option.none (Data.seq #[Value.str (Str.ofString "token") 514, Value.str (Str.ofString "first") 515]) #[]) ::
  (nat_lit 125, Obj.mk (Value.type "tuple") Option.none (Data.seq #[]) #[]) ::
  (nat_lit 127, Obj.mk (Value.type "code") Option.none (Data.fields #[Value.str (Str.ofString "_kind") 511, Value.str (Str.ofString "_kind") 512, Value.str (Str.ofString "/claim/cut.py") 513, Value.int 70 0, Value.int 1 0, Value.int 0 0, Value.int 0 0, Value.int 3 0, Value.ref 122, Value.bool Bool.true, Value.int 370 0, Value.ref 123, Value.none, Value.ref 124, Value.ref 125, Value.ref 126, Value.int 516 0, Value.int 70 0, Value.str (Str.ofString "/claim/cut.py") 517]) #[]) ::
  (nat_lit 128, fO (tS 22) (Str.ofString "_kind") Option.none (Value.none) (Value.none) (Value.none) (Value.str (Str.ofString "tablemates.tokens") 470) Option.none (Value.ref 127) (Value.none) 0 #[]) ::
  (nat_lit 129, Obj.mk (Value.type "tuple") Option.none (Data.seq #[]) #[]) ::
  (nat_lit 131, Obj.mk (Value.type "tuple") Option.none (Data.seq #[Value.str (Str.ofString "text") 522, Value.str (Str.ofString "found") 523, Value.str (Str.ofString "at") 524, Value.str (Str.ofString "end") 525]) #[]) ::
  (nat_lit 132, Obj.mk (Value.type "tuple") Option.none (Data.seq #[]) #[]) ::
  (nat_lit 134, Obj.mk (Value.type "code") Option.none (Data.fields #[Value.str (Str.ofString "token_list") 519, Value.str (Str.ofString "token_list") 520, Value.str (Str.ofString "/claim/cut.py") 521, Value.int 81 0, Value.int 1 0, Value.int 0 0, Value.int 0 0, Value.int 3 0, Value.ref 129, Value.bool Bool.true, Value.int 370 0, Value.ref 130, Value.none, Value.ref 131, Value.ref 132, Value.ref 133, Value.int 526 0, Value.int 81 0, Value.str (Str.ofString "/claim/cut.py") 527]) #[]) ::
  (nat_lit 135, fO (tS 23) (Str.ofString "token_list") Option.none (Value.none) (Value.none) (Value.none) (Value.str (Str.ofString "tablemates.tokens") 470) Option.none (Value.ref 134) (Value.none) 0 #[]) ::
  (nat_lit 136, Obj.mk (Value.type "tuple") Option.none (Data.seq #[Value.str (Str.ofString "sum") 531, Value.str (Str.ofString "count") 532, Value.str (Str.ofString "min") 533, Value.str (Str.ofString "max") 534]) #[]) ::
  (nat_lit 137, Obj.mk (Value.type "tuple") Option.none (Data.seq #[Value.str (Str.ofString "+") 536, Value.str (Str.ofString "-") 537]) #[]) ::
  (nat_lit 138, Obj.mk (Value.type "tuple") Option.none (Data.seq #[Value.str (Str.ofString "*") 539, Value.str (Str.ofString "/") 540]) #[]) ::
  (nat_lit 139, Obj.mk (Value.type "tuple") Option.none (Data.seq #[]) #[]) ::
  (nat_lit 142, Obj.mk (Value.type "code") Option.none (Data.fields #[Value.str (Str.ofString "is_name_word") 546, Value.str (Str.ofString "is_name_word") 547, Value.str (Str.ofString "/claim/cut.py") 548, Value.int 96 0, Value.int 1 0, Value.int 0 0, Value.int 0 0, Value.int 3 0, Value.ref 139, Value.bool Bool.true, Value.int 370 0, Value.ref 140, Value.none, Value.none, Value.none, Value.ref 141, Value.int 549 0, Value.int 96 0, Value.str (Str.ofString "/claim/cut.py") 550]) #[]) ::
  (nat_lit 143, fO (tS 30) (Str.ofString "is_name_word") Option.none (Value.none) (Value.none) (Value.none) (Value.str (Str.ofString "tablemates.trees") 529) Option.none (Value.ref 142) (Value.none) 0 #[]) ::
  (nat_lit 144, Obj.mk (Value.type "tuple") Option.none (Data.seq #[]) #[]) ::
  (nat_lit 146, Obj.mk (Value.type "tuple") Option.none (Data.seq #[Value.str (Str.ofString "tree") 555]) #[]) ::
  (nat_lit 147, Obj.mk (Value.type "tuple") Option.none (Data.seq #[]) #[]) ::
  (nat_lit 149, Obj.mk (Value.type "code") Option.none (Data.fields #[Value.str (Str.ofString "size") 552, Value.str (Str.ofString "size") 553, Value.str (Str.ofString "/claim/cut.py") 554, Value.int 102 0, Value.int 1 0, Value.int 0 0, Value.int 0 0, Value.int 3 0, Value.ref 144, Value.bool Bool.true, Value.int 370 0, Value.ref 145, Value.none, Value.ref 146, Value.ref 147, Value.ref 148, Value.int 556 0, Value.int 102 0, Value.str (Str.ofString "/claim/cut.py") 557]) #[]) ::
  (nat_lit 150, fO (tS 31) (Str.ofString "size") Option.none (Value.none) (Value.none) (Value.none) (Value.str (Str.ofString "tablemates.trees") 529) Option.none (Value.ref 149) (Value.none) 0 #[]) ::
  (nat_lit 151, Obj.mk (Value.type "tuple") Option.none (Data.seq #[]) #[]) ::
  (nat_lit 153, Obj.mk (Value.type "tuple") Option.none (Data.seq #[Value.str (Str.ofString "tree") 562]) #[]) ::
  (nat_lit 154, Obj.mk (Value.type "tuple") Option.none (Data.seq #[]) #[]) ::
  (nat_lit 156, Obj.mk (Value.type "code") Option.none (Data.fields #[Value.str (Str.ofString "named_cells") 559, Value.str (Str.ofString "named_cells") 560, Value.str (Str.ofString "/claim/cut.py") 561, Value.int 110 0, Value.int 1 0, Value.int 0 0, Value.int 0 0, Value.int 3 0, Value.ref 151, Value.bool Bool.true, Value.int 370 0, Value.ref 152, Value.none, Value.ref 153, Value.ref 154, Value.ref 155, Value.int 563 0, Value.int 110 0, Value.str (Str.ofString "/claim/cut.py") 564]) #[]) ::
  (nat_lit 157, fO (tS 32) (Str.ofString "named_cells") Option.none (Value.none) (Value.none) (Value.none) (Value.str (Str.ofString "tablemates.trees") 529) Option.none (Value.ref 156) (Value.none) 0 #[]) ::
  (nat_lit 158, Obj.mk (Value.type "tuple") Option.none (Data.seq #[]) #[]) ::
  (nat_lit 160, Obj.mk (Value.type "tuple") Option.none (Data.seq #[Value.str (Str.ofString "tree") 569]) #[]) ::
  (nat_lit 161, Obj.mk (Value.type "tuple") Option.none (Data.seq #[]) #[]) ::
  (nat_lit 163, Obj.mk (Value.type "code") Option.none (Data.fields #[Value.str (Str.ofString "areas_of") 566, Value.str (Str.ofString "areas_of") 567, Value.str (Str.ofString "/claim/cut.py") 568, Value.int 118 0, Value.int 1 0, Value.int 0 0, Value.int 0 0, Value.int 3 0, Value.ref 158, Value.bool Bool.true, Value.int 370 0, Value.ref 159, Value.none, Value.ref 160, Value.ref 161, Value.ref 162, Value.int 570 0, Value.int 118 0, Value.str (Str.ofString "/claim/cut.py") 571]) #[]) ::
  (nat_lit 164, fO (tS 33) (Str.ofString "areas_of") Option.none (Value.none) (Value.none) (Value.none) (Value.str (Str.ofString "tablemates.trees") 529) Option.none (Value.ref 163) (Value.none) 0 #[]) ::
  (nat_lit 165, Obj.mk (Value.type "tuple") Option.none (Data.seq #[]) #[]) ::
  (nat_lit 167, Obj.mk (Value.type "tuple") Option.none (Data.seq #[Value.str (Str.ofString "areas") 576, Value.str (Str.ofString "area") 577, Value.str (Str.ofString "found") 578, Value.str (Str.ofString "old") 579]) #[]) ::
  (nat_lit 168, Obj.mk (Value.type "tuple") Option.none (Data.seq #[]) #[]) ::
  (nat_lit 170, Obj.mk (Value.type "code") Option.none (Data.fields #[Value.str (Str.ofString "_mapped_areas") 573, Value.str (Str.ofString "_mapped_areas") 574, Value.str (Str.ofString "/claim/cut.py") 575, Value.int 126 0, Value.int 2 0, Value.int 0 0, Value.int 0 0, Value.int 3 0, Value.ref 165, Value.bool Bool.true, Value.int 370 0, Value.ref 166, Value.none, Value.ref 167, Value.ref 168, Value.ref 169, Value.int 580 0, Value.int 126 0, Value.str (Str.ofString "/claim/cut.py") 581]) #[]) ::
  (nat_lit 171, fO (tS 34) (Str.ofString "_mapped_areas") Option.none (Value.none) (Value.none) (Value.none) (Value.str (Str.ofString "tablemates.trees") 529) Option.none (Value.ref 170) (Value.none) 0 #[]) ::
  (nat_lit 172, Obj.mk (Value.type "tuple") Option.none (Data.seq #[]) #[]) ::
  (nat_lit 174, Obj.mk (Value.type "tuple") Option.none (Data.seq #[Value.str (Str.ofString "tree") 586, Value.str (Str.ofString "cell") 587, Value.str (Str.ofString "area") 588]) #[]) ::
  (nat_lit 175, Obj.mk (Value.type "tuple") Option.none (Data.seq #[]) #[]) ::
  (nat_lit 177, Obj.mk (Value.type "code") Option.none (Data.fields #[Value.str (Str.ofString "mapped") 583, Value.str (Str.ofString "mapped") 584, Value.str (Str.ofString "/claim/cut.py") 585, Value.int 133 0, Value.int 3 0, Value.int 0 0, Value.int 0 0, Value.int 3 0, Value.ref 172, Value.bool Bool.true, Value.int 370 0, Value.ref 173, Value.none, Value.ref 174, Value.ref 175, Value.ref 176, Value.int 589 0, Value.int 133 0, Value.str (Str.ofString "/claim/cut.py") 590]) #[]) ::
  (nat_lit 178, fO (tS 35) (Str.ofString "mapped") Option.none (Value.none) (Value.none) (Value.none) (Value.str (Str.ofString "tablemates.trees") 529) Option.none (Value.ref 177) (Value.none) 0 #[]) ::
  (nat_lit 179, Obj.mk (Value.type "tuple") Option.none (Data.seq #[Value.str (Str.ofString "gone") 594]) #[]) ::
  (nat_lit 180, Obj.mk (Value.type "tuple") Option.none (Data.seq #[]) #[]) ::
  (nat_lit 182, Obj.mk (Value.type "tuple") Option.none (Data.seq #[Value.str (Str.ofString "content") 599, Value.str (Str.ofString "changed") 600]) #[]) ::
  (nat_lit 183, Obj.mk (Value.type "tuple") Option.none (Data.seq #[]) #[]) ::
  (nat_lit 185, Obj.mk (Value.type "code") Option.none (Data.fields #[Value.str (Str.ofString "with_tree") 596, Value.str (Str.ofString "with_tree") 597, Value.str (Str.ofString "/claim/cut.py") 598, Value.int 145 0, Value.int 2 0, Value.int 0 0, Value.int 0 0, Value.int 3 0, Value.ref 180, Value.bool Bool.true, Value.int 370 0, Value.ref 181, Value.none, Value.ref 182, Value.ref 183, Value.ref 184, Value.int 601 0, Value.int 145 0, Value.str (Str.ofString "/claim/cut.py") 602]) #[]) ::
  (nat_lit 186, fO (tS 38) (Str.ofString "with_tree") Option.none (Value.none) (Value.none) (Value.none) (Value.str (Str.ofString "tablemates.keeping") 592) Option.none (Value.ref 185) (Value.none) 0 #[]) ::
  (nat_lit 187, Obj.mk (Value.type "tuple") Option.none (Data.seq #[]) #[]) ::
  (nat_lit 189, Obj.mk (Value.type "tuple") Option.none (Data.seq #[Value.str (Str.ofString "part") 607, Value.str (Str.ofString "down") 608, Value.str (Str.ofString "right") 609, Value.str (Str.ofString "rows") 610, Value.str (Str.ofString "columns") 611, Value.str (Str.ofString "found") 612, Value.str (Str.ofString "row") 613, Value.str (Str.ofString "column") 614]) #[]) ::
  (nat_lit 190, Obj.mk (Value.type "tuple") Option.none (Data.seq #[]) #[]) ::
  (nat_lit 192, Obj.mk (Value.type "code") Option.none (Data.fields #[Value.str (Str.ofString "_moved_corners") 604, Value.str (Str.ofString "_moved_corners") 605, Value.str (Str.ofString "/claim/cut.py") 606, Value.int 147 0, Value.int 5 0, Value.int 0 0, Value.int 0 0, Value.int 3 0, Value.ref 187, Value.bool Bool.true, Value.int 370 0, Value.ref 188, Value.none, Value.ref 189, Value.ref 190, Value.ref 191, Value.int 615 0, Value.int 147 0, Value.str (Str.ofString "/claim/cut.py") 616]) #[]) ::
  (nat_lit 193, fO (tS 39) (Str.ofString "_moved_corners") Option.none (Value.none) (Value.none) (Value.none) (Value.str (Str.ofString "tablemates.keeping") 592) Option.none (Value.ref 192) (Value.none) 0 #[]) ::
  (nat_lit 194, Obj.mk (Value.type "tuple") Option.none (Data.seq #[]) #[]) ::
  (nat_lit 195, Obj.mk Value.none Option.none (Data.fields #[]) #[]) ::
  (nat_lit 196, Obj.mk (Value.type "tuple") Option.none (Data.seq #[Value.str (Str.ofString "tree") 621, Value.str (Str.ofString "down") 622, Value.str (Str.ofString "right") 623, Value.str (Str.ofString "rows") 624, Value.str (Str.ofString "columns") 625, Value.str (Str.ofString "moved_area") 626]) #[]) ::
  (nat_lit 197, Obj.mk (Value.type "tuple") Option.none (Data.seq #[Value.str (Str.ofString "down") 627, Value.str (Str.ofString "right") 628, Value.str (Str.ofString "rows") 629, Value.str (Str.ofString "columns") 630]) #[]) ::
  (nat_lit 199, Obj.mk (Value.type "code") Option.none (Data.fields #[Value.str (Str.ofString "moved_tree") 618, Value.str (Str.ofString "moved_tree") 619, Value.str (Str.ofString "/claim/cut.py") 620, Value.int 154 0, Value.int 5 0, Value.int 0 0, Value.int 0 0, Value.int 3 0, Value.ref 194, Value.bool Bool.true, Value.int 370 0, Value.ref 195, Value.none, Value.ref 196, Value.ref 197, Value.ref 198, Value.int 631 0, Value.int 154 0, Value.str (Str.ofString "/claim/cut.py") 632]) #[]) ::
  (nat_lit 200, fO (tS 40) (Str.ofString "moved_tree") Option.none (Value.none) (Value.none) (Value.none) (Value.str (Str.ofString "tablemates.keeping") 592) Option.none (Value.ref 199) (Value.none) 0 #[]) ::
  (nat_lit 201, Obj.mk (Value.type "tuple") Option.none (Data.seq #[]) #[]) ::
  (nat_lit 202, Obj.mk Value.none Option.none (Data.fields #[]) #[]) ::
  (nat_lit 203, Obj.mk (Value.type "tuple") Option.none (Data.seq #[Value.str (Str.ofString "content") 637, Value.str (Str.ofString "down") 638, Value.str (Str.ofString "right") 639, Value.str (Str.ofString "rows") 640, Value.str (Str.ofString "columns") 641]) #[]) ::
  (nat_lit 204, Obj.mk (Value.type "tuple") Option.none (Data.seq #[Value.str (Str.ofString "down") 642, Value.str (Str.ofString "right") 643, Value.str (Str.ofString "rows") 644, Value.str (Str.ofString "columns") 645]) #[]) ::
  (nat_lit 206, Obj.mk (Value.type "code") Option.none (Data.fields #[Value.str (Str.ofString "moved_content") 634, Value.str (Str.ofString "moved_content") 635, Value.str (Str.ofString "/claim/cut.py") 636, Value.int 161 0, Value.int 5 0, Value.int 0 0, Value.int 0 0, Value.int 3 0, Value.ref 201, Value.bool Bool.true, Value.int 370 0, Value.ref 202, Value.none, Value.ref 203, Value.ref 204, Value.ref 205, Value.int 646 0, Value.int 161 0, Value.str (Str.ofString "/claim/cut.py") 647]) #[]) ::
  (nat_lit 207, fO (tS 41) (Str.ofString "moved_content") Option.none (Value.none) (Value.none) (Value.none) (Value.str (Str.ofString "tablemates.keeping") 592) Option.none (Value.ref 206) (Value.none) 0 #[]) ::
  (nat_lit 208, tabO P 208 655 ee) ::
  (nat_lit 209, Obj.mk (Value.type "tuple") Option.none (Data.seq #[Value.str (Str.ofString "factor") 655, Value.str (Str.ofString "-") 656]) #[]) ::
  (nat_lit 210, Obj.mk (Value.type "tuple") Option.none (Data.seq #[Value.str (Str.ofString "factor") 661, Value.str (Str.ofString "decimal") 662]) #[]) ::
  (nat_lit 211, Obj.mk (Value.type "tuple") Option.none (Data.seq #[Value.str (Str.ofString "factor") 667, Value.str (Str.ofString "address") 668]) #[]) ::
  (nat_lit 212, Obj.mk (Value.type "tuple") Option.none (Data.seq #[Value.str (Str.ofString "factor") 673, Value.str (Str.ofString "gone") 674]) #[]) ::
  (nat_lit 213, Obj.mk (Value.type "tuple") Option.none (Data.seq #[Value.str (Str.ofString "factor") 679, Value.str (Str.ofString "call") 680]) #[]) ::
  (nat_lit 214, Obj.mk (Value.type "tuple") Option.none (Data.seq #[Value.str (Str.ofString "factor") 685, Value.str (Str.ofString "(") 686]) #[]) ::
  (nat_lit 215, Obj.mk (Value.type "tuple") Option.none (Data.seq #[Value.str (Str.ofString "primary") 691, Value.str (Str.ofString "decimal") 692]) #[]) ::
  (nat_lit 216, Obj.mk (Value.type "tuple") Option.none (Data.seq #[Value.str (Str.ofString "primary") 697, Value.str (Str.ofString "address") 698]) #[]) ::
  (nat_lit 217, Obj.mk (Value.type "tuple") Option.none (Data.seq #[Value.str (Str.ofString "primary") 703, Value.str (Str.ofString "gone") 704]) #[]) ::
  (nat_lit 218, Obj.mk (Value.type "tuple") Option.none (Data.seq #[Value.str (Str.ofString "primary") 709, Value.str (Str.ofString "call") 710]) #[]) ::
  (nat_lit 219, Obj.mk (Value.type "tuple") Option.none (Data.seq #[Value.str (Str.ofString "primary") 715, Value.str (Str.ofString "(") 716]) #[]) ::
  (nat_lit 220, Obj.mk (Value.type "tuple") Option.none (Data.seq #[Value.str (Str.ofString "behind") 721, Value.str (Str.ofString "+") 722]) #[]) ::
  (nat_lit 221, Obj.mk (Value.type "tuple") Option.none (Data.seq #[Value.str (Str.ofString "behind") 727, Value.str (Str.ofString "-") 728]) #[]) ::
  (nat_lit 222, Obj.mk (Value.type "tuple") Option.none (Data.seq #[Value.str (Str.ofString "behind") 733, Value.str (Str.ofString "*") 734]) #[]) ::
  (nat_lit 223, Obj.mk (Value.type "tuple") Option.none (Data.seq #[Value.str (Str.ofString "behind") 739, Value.str (Str.ofString "/") 740]) #[]) ::
  (nat_lit 224, Obj.mk (Value.type "tuple") Option.none (Data.seq #[Value.str (Str.ofString "behind") 745, Value.str (Str.ofString ")") 746]) #[]) ::
  (nat_lit 225, Obj.mk (Value.type "tuple") Option.none (Data.seq #[Value.str (Str.ofString "call") 751, Value.str (Str.ofString "(") 752]) #[]) ::
  (nat_lit 227, Obj.mk (Value.type "tuple") Option.none (Data.seq #[Value.str (Str.ofString "area") 757, Value.str (Str.ofString "address") 758]) #[]) ::
  (nat_lit 228, Obj.mk (Value.type "tuple") Option.none (Data.seq #[Value.str (Str.ofString "area") 760, Value.str (Str.ofString "gone") 761]) #[]) ::
  (nat_lit 229, Obj.mk (Value.type "tuple") Option.none (Data.seq #[Value.str (Str.ofString "area") 763, Value.str (Str.ofString "name") 764]) #[]) ::
  (nat_lit 230, Obj.mk (Value.type "tuple") Option.none (Data.seq #[Value.str (Str.ofString "corner") 766, Value.str (Str.ofString ":") 767]) #[]) ::
  (nat_lit 231, Obj.mk (Value.type "tuple") Option.none (Data.seq #[Value.str (Str.ofString "corner") 769, Value.str (Str.ofString ",") 770]) #[]) ::
  (nat_lit 232, Obj.mk (Value.type "tuple") Option.none (Data.seq #[Value.str (Str.ofString "corner") 772, Value.str (Str.ofString ")") 773]) #[]) ::
  (nat_lit 233, Obj.mk (Value.type "tuple") Option.none (Data.seq #[Value.str (Str.ofString "other") 775, Value.str (Str.ofString "address") 776]) #[]) ::
  (nat_lit 234, Obj.mk (Value.type "tuple") Option.none (Data.seq #[Value.str (Str.ofString "last") 778, Value.str (Str.ofString ",") 779]) #[]) ::
  (nat_lit 235, Obj.mk (Value.type "tuple") Option.none (Data.seq #[Value.str (Str.ofString "last") 781, Value.str (Str.ofString ")") 782]) #[]) ::
  (nat_lit 236, Obj.mk (Value.type "tuple") Option.none (Data.seq #[]) #[]) ::
  (nat_lit 238, Obj.mk (Value.type "tuple") Option.none (Data.seq #[Value.str (Str.ofString "token") 815, Value.str (Str.ofString "kind") 816, Value.str (Str.ofString "string") 817]) #[]) ::
  (nat_lit 239, Obj.mk (Value.type "tuple") Option.none (Data.seq #[]) #[]) ::
  (nat_lit 241, Obj.mk (Value.type "code") Option.none (Data.fields #[Value.str (Str.ofString "_symbol") 812, Value.str (Str.ofString "_symbol") 813, Value.str (Str.ofString "/claim/cut.py") 814, Value.int 167 0, Value.int 1 0, Value.int 0 0, Value.int 0 0, Value.int 3 0, Value.ref 236, Value.bool Bool.true, Value.int 370 0, Value.ref 237, Value.none, Value.ref 238, Value.ref 239, Value.ref 240, Value.int 818 0, Value.int 167 0, Value.str (Str.ofString "/claim/cut.py") 819]) #[]) ::
  (nat_lit 242, fO (tS 46) (Str.ofString "_symbol") Option.none (Value.none) (Value.none) (Value.none) (Value.str (Str.ofString "tablemates.grammar") 649) Option.none (Value.ref 241) (Value.none) 0 #[]) ::
  (nat_lit 243, Obj.mk (Value.type "tuple") Option.none (Data.seq #[]) #[]) ::
  (nat_lit 245, Obj.mk (Value.type "tuple") Option.none (Data.seq #[Value.str (Str.ofString "state") 824, Value.str (Str.ofString "symbol") 825, Value.str (Str.ofString "depth") 826]) #[]) ::
  (nat_lit 246, Obj.mk (Value.type "tuple") Option.none (Data.seq #[]) #[]) ::
  (nat_lit 248, Obj.mk (Value.type "code") Option.none (Data.fields #[Value.str (Str.ofString "_depth_behind") 821, Value.str (Str.ofString "_depth_behind") 822, Value.str (Str.ofString "/claim/cut.py") 823, Value.int 178 0, Value.int 3 0, Value.int 0 0, Value.int 0 0, Value.int 3 0, Value.ref 243, Value.bool Bool.true, Value.int 370 0, Value.ref 244, Value.none, Value.ref 245, Value.ref 246, Value.ref 247, Value.int 827 0, Value.int 178 0, Value.str (Str.ofString "/claim/cut.py") 828]) #[]) ::
  (nat_lit 249, fO (tS 47) (Str.ofString "_depth_behind") Option.none (Value.none) (Value.none) (Value.none) (Value.str (Str.ofString "tablemates.grammar") 649) Option.none (Value.ref 248) (Value.none) 0 #[]) ::
  (nat_lit 250, Obj.mk (Value.type "tuple") Option.none (Data.seq #[]) #[]) ::
  (nat_lit 252, Obj.mk (Value.type "tuple") Option.none (Data.seq #[Value.str (Str.ofString "tokens") 833, Value.str (Str.ofString "state") 834, Value.str (Str.ofString "depth") 835, Value.str (Str.ofString "at") 836, Value.str (Str.ofString "token") 837, Value.str (Str.ofString "symbol") 838]) #[]) ::
  (nat_lit 253, Obj.mk (Value.type "tuple") Option.none (Data.seq #[]) #[]) ::
  (nat_lit 255, Obj.mk (Value.type "code") Option.none (Data.fields #[Value.str (Str.ofString "_walk") 830, Value.str (Str.ofString "_walk") 831, Value.str (Str.ofString "/claim/cut.py") 832, Value.int 184 0, Value.int 1 0, Value.int 0 0, Value.int 0 0, Value.int 3 0, Value.ref 250, Value.bool Bool.true, Value.int 370 0, Value.ref 251, Value.none, Value.ref 252, Value.ref 253, Value.ref 254, Value.int 839 0, Value.int 184 0, Value.str (Str.ofString "/claim/cut.py") 840]) #[]) ::
  (nat_lit 256, fO (tS 48) (Str.ofString "_walk") Option.none (Value.none) (Value.none) (Value.none) (Value.str (Str.ofString "tablemates.grammar") 649) Option.none (Value.ref 255) (Value.none) 0 #[]) ::
  (nat_lit 257, Obj.mk (Value.type "tuple") Option.none (Data.seq #[]) #[]) ::
  (nat_lit 259, Obj.mk (Value.type "tuple") Option.none (Data.seq #[Value.str (Str.ofString "tokens") 845, Value.str (Str.ofString "at") 846, Value.str (Str.ofString "signs") 847, Value.str (Str.ofString "part") 848, Value.str (Str.ofString "left") 849, Value.str (Str.ofString "sign") 850, Value.str (Str.ofString "right") 851]) #[]) ::
  (nat_lit 260, Obj.mk (Value.type "tuple") Option.none (Data.seq #[]) #[]) ::
  (nat_lit 262, Obj.mk (Value.type "code") Option.none (Data.fields #[Value.str (Str.ofString "_chain") 842, Value.str (Str.ofString "_chain") 843, Value.str (Str.ofString "/claim/cut.py") 844, Value.int 194 0, Value.int 4 0, Value.int 0 0, Value.int 0 0, Value.int 3 0, Value.ref 257, Value.bool Bool.true, Value.int 370 0, Value.ref 258, Value.none, Value.ref 259, Value.ref 260, Value.ref 261, Value.int 852 0, Value.int 194 0, Value.str (Str.ofString "/claim/cut.py") 853]) #[]) ::
  (nat_lit 263, fO (tS 49) (Str.ofString "_chain") Option.none (Value.none) (Value.none) (Value.none) (Value.str (Str.ofString "tablemates.grammar") 649) Option.none (Value.ref 262) (Value.none) 0 #[]) ::
  (nat_lit 264, Obj.mk (Value.type "tuple") Option.none (Data.seq #[]) #[]) ::
  (nat_lit 266, Obj.mk (Value.type "tuple") Option.none (Data.seq #[Value.str (Str.ofString "tokens") 858, Value.str (Str.ofString "at") 859]) #[]) ::
  (nat_lit 267, Obj.mk (Value.type "tuple") Option.none (Data.seq #[]) #[]) ::
  (nat_lit 269, Obj.mk (Value.type "code") Option.none (Data.fields #[Value.str (Str.ofString "_formula") 855, Value.str (Str.ofString "_formula") 856, Value.str (Str.ofString "/claim/cut.py") 857, Value.int 201 0, Value.int 2 0, Value.int 0 0, Value.int 0 0, Value.int 3 0, Value.ref 264, Value.bool Bool.true, Value.int 370 0, Value.ref 265, Value.none, Value.ref 266, Value.ref 267, Value.ref 268, Value.int 860 0, Value.int 201 0, Value.str (Str.ofString "/claim/cut.py") 861]) #[]) ::
  (nat_lit 270, fO (tS 50) (Str.ofString "_formula") Option.none (Value.none) (Value.none) (Value.none) (Value.str (Str.ofString "tablemates.grammar") 649) Option.none (Value.ref 269) (Value.none) 0 #[]) ::
  (nat_lit 271, Obj.mk (Value.type "tuple") Option.none (Data.seq #[]) #[]) ::
  (nat_lit 273, Obj.mk (Value.type "tuple") Option.none (Data.seq #[Value.str (Str.ofString "tokens") 866, Value.str (Str.ofString "at") 867]) #[]) ::
  (nat_lit 274, Obj.mk (Value.type "tuple") Option.none (Data.seq #[]) #[]) ::
  (nat_lit 276, Obj.mk (Value.type "code") Option.none (Data.fields #[Value.str (Str.ofString "_term") 863, Value.str (Str.ofString "_term") 864, Value.str (Str.ofString "/claim/cut.py") 865, Value.int 203 0, Value.int 2 0, Value.int 0 0, Value.int 0 0, Value.int 3 0, Value.ref 271, Value.bool Bool.true, Value.int 370 0, Value.ref 272, Value.none, Value.ref 273, Value.ref 274, Value.ref 275, Value.int 868 0, Value.int 203 0, Value.str (Str.ofString "/claim/cut.py") 869]) #[]) ::
  (nat_lit 277, fO (tS 51) (Str.ofString "_term") Option.none (Value.none) (Value.none) (Value.none) (Value.str (Str.ofString "tablemates.grammar") 649) Option.none (Value.ref 276) (Value.none) 0 #[]) ::
  (nat_lit 278, Obj.mk (Value.type "tuple") Option.none (Data.seq #[]) #[]) ::
  (nat_lit 280, Obj.mk (Value.type "tuple") Option.none (Data.seq #[Value.str (Str.ofString "tokens") 874, Value.str (Str.ofString "at") 875, Value.str (Str.ofString "tree") 876, Value.str (Str.ofString "end") 877]) #[]) ::
  (nat_lit 281, Obj.mk (Value.type "tuple") Option.none (Data.seq #[]) #[]) ::
  (nat_lit 283, Obj.mk (Value.type "code") Option.none (Data.fields #[Value.str (Str.ofString "_factor") 871, Value.str (Str.ofString "_factor") 872, Value.str (Str.ofString "/claim/cut.py") 873, Value.int 205 0, Value.int 2 0, Value.int 0 0, Value.int 0 0, Value.int 3 0, Value.ref 278, Value.bool Bool.true, Value.int 370 0, Value.ref 279, Value.none, Value.ref 280, Value.ref 281, Value.ref 282, Value.int 878 0, Value.int 205 0, Value.str (Str.ofString "/claim/cut.py") 879]) #[]) ::
  (nat_lit 284, fO (tS 52) (Str.ofString "_factor") Option.none (Value.none) (Value.none) (Value.none) (Value.str (Str.ofString "tablemates.grammar") 649) Option.none (Value.ref 283) (Value.none) 0 #[]) ::
  (nat_lit 285, Obj.mk (Value.type "tuple") Option.none (Data.seq #[]) #[]) ::
  (nat_lit 287, Obj.mk (Value.type "tuple") Option.none (Data.seq #[Value.str (Str.ofString "tokens") 884, Value.str (Str.ofString "at") 885, Value.str (Str.ofString "kind") 886, Value.str (Str.ofString "string") 887, Value.str (Str.ofString "row") 888, Value.str (Str.ofString "column") 889, Value.str (Str.ofString "tree") 890, Value.str (Str.ofString "end") 891]) #[]) ::
  (nat_lit 288, Obj.mk (Value.type "tuple") Option.none (Data.seq #[]) #[]) ::
  (nat_lit 290, Obj.mk (Value.type "code") Option.none (Data.fields #[Value.str (Str.ofString "_primary") 881, Value.str (Str.ofString "_primary") 882, Value.str (Str.ofString "/claim/cut.py") 883, Value.int 210 0, Value.int 2 0, Value.int 0 0, Value.int 0 0, Value.int 3 0, Value.ref 285, Value.bool Bool.true, Value.int 370 0, Value.ref 286, Value.none, Value.ref 287, Value.ref 288, Value.ref 289, Value.int 892 0, Value.int 210 0, Value.str (Str.ofString "/claim/cut.py") 893]) #[]) ::
  (nat_lit 291, fO (tS 53) (Str.ofString "_primary") Option.none (Value.none) (Value.none) (Value.none) (Value.str (Str.ofString "tablemates.grammar") 649) Option.none (Value.ref 290) (Value.none) 0 #[]) ::
  (nat_lit 292, Obj.mk (Value.type "tuple") Option.none (Data.seq #[]) #[]) ::
  (nat_lit 294, Obj.mk (Value.type "tuple") Option.none (Data.seq #[Value.str (Str.ofString "tokens") 898, Value.str (Str.ofString "at") 899, Value.str (Str.ofString "areas") 900, Value.str (Str.ofString "end") 901, Value.str (Str.ofString "area") 902]) #[]) ::
  (nat_lit 295, Obj.mk (Value.type "tuple") Option.none (Data.seq #[]) #[]) ::
  (nat_lit 297, Obj.mk (Value.type "code") Option.none (Data.fields #[Value.str (Str.ofString "_call") 895, Value.str (Str.ofString "_call") 896, Value.str (Str.ofString "/claim/cut.py") 897, Value.int 223 0, Value.int 2 0, Value.int 0 0, Value.int 0 0, Value.int 3 0, Value.ref 292, Value.bool Bool.true, Value.int 370 0, Value.ref 293, Value.none, Value.ref 294, Value.ref 295, Value.ref 296, Value.int 903 0, Value.int 223 0, Value.str (Str.ofString "/claim/cut.py") 904]) #[]) ::
  (nat_lit 298, fO (tS 54) (Str.ofString "_call") Option.none (Value.none) (Value.none) (Value.none) (Value.str (Str.ofString "tablemates.grammar") 649) Option.none (Value.ref 297) (Value.none) 0 #[]) ::
  (nat_lit 299, Obj.mk (Value.type "tuple") Option.none (Data.seq #[]) #[]) ::
  (nat_lit 301, Obj.mk (Value.type "tuple") Option.none (Data.seq #[Value.str (Str.ofString "tokens") 909, Value.str (Str.ofString "at") 910, Value.str (Str.ofString "kind") 911, Value.str (Str.ofString "string") 912]) #[]) ::
  (nat_lit 302, Obj.mk (Value.type "tuple") Option.none (Data.seq #[]) #[]) ::
  (nat_lit 304, Obj.mk (Value.type "code") Option.none (Data.fields #[Value.str (Str.ofString "_area") 906, Value.str (Str.ofString "_area") 907, Value.str (Str.ofString "/claim/cut.py") 908, Value.int 230 0, Value.int 2 0, Value.int 0 0, Value.int 0 0, Value.int 3 0, Value.ref 299, Value.bool Bool.true, Value.int 370 0, Value.ref 300, Value.none, Value.ref 301, Value.ref 302, Value.ref 303, Value.int 913 0, Value.int 230 0, Value.str (Str.ofString "/claim/cut.py") 914]) #[]) ::
  (nat_lit 305, fO (tS 55) (Str.ofString "_area") Option.none (Value.none) (Value.none) (Value.none) (Value.str (Str.ofString "tablemates.grammar") 649) Option.none (Value.ref 304) (Value.none) 0 #[]) ::
  (nat_lit 306, Obj.mk (Value.type "tuple") Option.none (Data.seq #[]) #[]) ::
  (nat_lit 308, Obj.mk (Value.type "tuple") Option.none (Data.seq #[Value.str (Str.ofString "corner") 919, Value.str (Str.ofString "other") 920, Value.str (Str.ofString "top") 921, Value.str (Str.ofString "left") 922, Value.str (Str.ofString "bottom") 923, Value.str (Str.ofString "right") 924]) #[]) ::
  (nat_lit 309, Obj.mk (Value.type "tuple") Option.none (Data.seq #[]) #[]) ::
  (nat_lit 311, Obj.mk (Value.type "code") Option.none (Data.fields #[Value.str (Str.ofString "_block") 916, Value.str (Str.ofString "_block") 917, Value.str (Str.ofString "/claim/cut.py") 918, Value.int 239 0, Value.int 2 0, Value.int 0 0, Value.int 0 0, Value.int 3 0, Value.ref 306, Value.bool Bool.true, Value.int 370 0, Value.ref 307, Value.none, Value.ref 308, Value.ref 309, Value.ref 310, Value.int 925 0, Value.int 239 0, Value.str (Str.ofString "/claim/cut.py") 926]) #[]) ::
  (nat_lit 312, fO (tS 56) (Str.ofString "_block") Option.none (Value.none) (Value.none) (Value.none) (Value.str (Str.ofString "tablemates.grammar") 649) Option.none (Value.ref 311) (Value.none) 0 #[]) ::
  (nat_lit 313, Obj.mk (Value.type "tuple") Option.none (Data.seq #[]) #[]) ::
  (nat_lit 315, Obj.mk (Value.type "tuple") Option.none (Data.seq #[Value.str (Str.ofString "token") 931, Value.str (Str.ofString "rows") 932, Value.str (Str.ofString "columns") 933, Value.str (Str.ofString "row") 934, Value.str (Str.ofString "column") 935]) #[]) ::
  (nat_lit 316, Obj.mk (Value.type "tuple") Option.none (Data.seq #[]) #[]) ::
  (nat_lit 318, Obj.mk (Value.type "code") Option.none (Data.fields #[Value.str (Str.ofString "_off_grid") 928, Value.str (Str.ofString "_off_grid") 929, Value.str (Str.ofString "/claim/cut.py") 930, Value.int 245 0, Value.int 3 0, Value.int 0 0, Value.int 0 0, Value.int 3 0, Value.ref 313, Value.bool Bool.true, Value.int 370 0, Value.ref 314, Value.none, Value.ref 315, Value.ref 316, Value.ref 317, Value.int 936 0, Value.int 245 0, Value.str (Str.ofString "/claim/cut.py") 937]) #[]) ::
  (nat_lit 319, fO (tS 57) (Str.ofString "_off_grid") Option.none (Value.none) (Value.none) (Value.none) (Value.str (Str.ofString "tablemates.grammar") 649) Option.none (Value.ref 318) (Value.none) 0 #[]) ::
  (nat_lit 320, Obj.mk (Value.type "tuple") Option.none (Data.seq #[]) #[]) ::
  (nat_lit 322, Obj.mk (Value.type "tuple") Option.none (Data.seq #[Value.str (Str.ofString "text") 942, Value.str (Str.ofString "rows") 943, Value.str (Str.ofString "columns") 944, Value.str (Str.ofString "found") 945, Value.str (Str.ofString "many") 946, Value.str (Str.ofString "whole") 947, Value.str (Str.ofString "at") 948, Value.str (Str.ofString "token") 949]) #[]) ::
  (nat_lit 323, Obj.mk (Value.type "tuple") Option.none (Data.seq #[]) #[]) ::
  (nat_lit 325, Obj.mk (Value.type "code") Option.none (Data.fields #[Value.str (Str.ofString "read_formula") 939, Value.str (Str.ofString "read_formula") 940, Value.str (Str.ofString "/claim/cut.py") 941, Value.int 250 0, Value.int 3 0, Value.int 0 0, Value.int 0 0, Value.int 3 0, Value.ref 320, Value.bool Bool.true, Value.int 370 0, Value.ref 321, Value.none, Value.ref 322, Value.ref 323, Value.ref 324, Value.int 950 0, Value.int 250 0, Value.str (Str.ofString "/claim/cut.py") 951]) #[]) ::
  (nat_lit 326, fO (tS 58) (Str.ofString "read_formula") Option.none (Value.none) (Value.none) (Value.none) (Value.str (Str.ofString "tablemates.grammar") 649) Option.none (Value.ref 325) (Value.none) 0 #[]) ::
  (nat_lit 327, Obj.mk (Value.type "tuple") Option.none (Data.seq #[]) #[]) ::
  (nat_lit 329, Obj.mk (Value.type "tuple") Option.none (Data.seq #[Value.str (Str.ofString "text") 958, Value.str (Str.ofString "rows") 959, Value.str (Str.ofString "columns") 960, Value.str (Str.ofString "x") 961]) #[]) ::
  (nat_lit 330, Obj.mk (Value.type "tuple") Option.none (Data.seq #[]) #[]) ::
  (nat_lit 332, Obj.mk (Value.type "code") Option.none (Data.fields #[Value.str (Str.ofString "read_content") 955, Value.str (Str.ofString "read_content") 956, Value.str (Str.ofString "/claim/cut.py") 957, Value.int 264 0, Value.int 3 0, Value.int 0 0, Value.int 0 0, Value.int 3 0, Value.ref 327, Value.bool Bool.true, Value.int 370 0, Value.ref 328, Value.none, Value.ref 329, Value.ref 330, Value.ref 331, Value.int 962 0, Value.int 264 0, Value.str (Str.ofString "/claim/cut.py") 963]) #[]) ::
  (nat_lit 333, fO (tS 60) (Str.ofString "read_content") Option.none (Value.none) (Value.none) (Value.none) (Value.str (Str.ofString "tablemates.contents") 953) Option.none (Value.ref 332) (Value.none) 0 #[]) ::
  (nat_lit 334, Obj.mk (Value.type "tuple") Option.none (Data.seq #[]) #[]) ::
  (nat_lit 336, Obj.mk (Value.type "tuple") Option.none (Data.seq #[Value.str (Str.ofString "script") 970, Value.str (Str.ofString "k") 971]) #[]) ::
  (nat_lit 337, Obj.mk (Value.type "tuple") Option.none (Data.seq #[]) #[]) ::
  (nat_lit 339, Obj.mk (Value.type "code") Option.none (Data.fields #[Value.str (Str.ofString "_law_cell") 967, Value.str (Str.ofString "_law_cell") 968, Value.str (Str.ofString "/claim/cut.py") 969, Value.int 272 0, Value.int 2 0, Value.int 0 0, Value.int 0 0, Value.int 3 0, Value.ref 334, Value.bool Bool.true, Value.int 370 0, Value.ref 335, Value.none, Value.ref 336, Value.ref 337, Value.ref 338, Value.int 972 0, Value.int 272 0, Value.str (Str.ofString "/claim/cut.py") 973]) #[]) ::
  (nat_lit 340, fO (tS 62) (Str.ofString "_law_cell") Option.none (Value.none) (Value.none) (Value.none) (Value.str (Str.ofString "law_tablemates_k45_moved_contents") 965) Option.none (Value.ref 339) (Value.none) 0 #[]) ::
  (nat_lit 341, Obj.mk (Value.type "tuple") Option.none (Data.seq #[]) #[]) ::
  (nat_lit 343, Obj.mk (Value.type "tuple") Option.none (Data.seq #[Value.str (Str.ofString "cell") 978, Value.str (Str.ofString "k") 979, Value.str (Str.ofString "most") 980, Value.str (Str.ofString "digits") 981, Value.str (Str.ofString "turn") 982, Value.str (Str.ofString "seed") 983]) #[]) ::
  (nat_lit 344, Obj.mk (Value.type "tuple") Option.none (Data.seq #[]) #[]) ::
  (nat_lit 346, Obj.mk (Value.type "code") Option.none (Data.fields #[Value.str (Str.ofString "_law_digits") 975, Value.str (Str.ofString "_law_digits") 976, Value.str (Str.ofString "/claim/cut.py") 977, Value.int 276 0, Value.int 3 0, Value.int 0 0, Value.int 0 0, Value.int 3 0, Value.ref 341, Value.bool Bool.true, Value.int 370 0, Value.ref 342, Value.none, Value.ref 343, Value.ref 344, Value.ref 345, Value.int 984 0, Value.int 276 0, Value.str (Str.ofString "/claim/cut.py") 985]) #[]) ::
  (nat_lit 347, fO (tS 63) (Str.ofString "_law_digits") Option.none (Value.none) (Value.none) (Value.none) (Value.str (Str.ofString "law_tablemates_k45_moved_contents") 965) Option.none (Value.ref 346) (Value.none) 0 #[]) ::
  (nat_lit 348, Obj.mk (Value.type "tuple") Option.none (Data.seq #[]) #[]) ::
  (nat_lit 350, Obj.mk (Value.type "tuple") Option.none (Data.seq #[Value.str (Str.ofString "cell") 990, Value.str (Str.ofString "k") 991, Value.str (Str.ofString "d") 992, Value.str (Str.ofString "turn") 993]) #[]) ::
  (nat_lit 351, Obj.mk (Value.type "tuple") Option.none (Data.seq #[]) #[]) ::
  (nat_lit 353, Obj.mk (Value.type "code") Option.none (Data.fields #[Value.str (Str.ofString "_law_padded") 987, Value.str (Str.ofString "_law_padded") 988, Value.str (Str.ofString "/claim/cut.py") 989, Value.int 291 0, Value.int 2 0, Value.int 0 0, Value.int 0 0, Value.int 3 0, Value.ref 348, Value.bool Bool.true, Value.int 370 0, Value.ref 349, Value.none, Value.ref 350, Value.ref 351, Value.ref 352, Value.int 994 0, Value.int 291 0, Value.str (Str.ofString "/claim/cut.py") 995]) #[]) ::
  (nat_lit 354, fO (tS 64) (Str.ofString "_law_padded") Option.none (Value.none) (Value.none) (Value.none) (Value.str (Str.ofString "law_tablemates_k45_moved_contents") 965) Option.none (Value.ref 353) (Value.none) 0 #[]) ::
  (nat_lit 355, Obj.mk (Value.type "tuple") Option.none (Data.seq #[]) #[]) ::
  (nat_lit 357, Obj.mk (Value.type "tuple") Option.none (Data.seq #[Value.str (Str.ofString "digit") 1000]) #[]) ::
  (nat_lit 358, Obj.mk (Value.type "tuple") Option.none (Data.seq #[]) #[]) ::
  (nat_lit 360, Obj.mk (Value.type "code") Option.none (Data.fields #[Value.str (Str.ofString "_law_address") 997, Value.str (Str.ofString "_law_address") 998, Value.str (Str.ofString "/claim/cut.py") 999, Value.int 296 0, Value.int 1 0, Value.int 0 0, Value.int 0 0, Value.int 3 0, Value.ref 355, Value.bool Bool.true, Value.int 370 0, Value.ref 356, Value.none, Value.ref 357, Value.ref 358, Value.ref 359, Value.int 1001 0, Value.int 296 0, Value.str (Str.ofString "/claim/cut.py") 1002]) #[]) ::
  (nat_lit 361, fO (tS 65) (Str.ofString "_law_address") Option.none (Value.none) (Value.none) (Value.none) (Value.str (Str.ofString "law_tablemates_k45_moved_contents") 965) Option.none (Value.ref 360) (Value.none) 0 #[]) ::
  (nat_lit 362, Obj.mk (Value.type "tuple") Option.none (Data.seq #[]) #[]) ::
  (nat_lit 364, Obj.mk (Value.type "tuple") Option.none (Data.seq #[Value.str (Str.ofString "d") 1007, Value.str (Str.ofString "kind") 1008, Value.str (Str.ofString "one") 1009, Value.str (Str.ofString "other") 1010, Value.str (Str.ofString "number") 1011]) #[]) ::
  (nat_lit 365, Obj.mk (Value.type "tuple") Option.none (Data.seq #[]) #[]) ::
  (nat_lit 367, Obj.mk (Value.type "code") Option.none (Data.fields #[Value.str (Str.ofString "_law_text") 1004, Value.str (Str.ofString "_law_text") 1005, Value.str (Str.ofString "/claim/cut.py") 1006, Value.int 298 0, Value.int 1 0, Value.int 0 0, Value.int 0 0, Value.int 3 0, Value.ref 362, Value.bool Bool.true, Value.int 370 0, Value.ref 363, Value.none, Value.ref 364, Value.ref 365, Value.ref 366, Value.int 1012 0, Value.int 298 0, Value.str (Str.ofString "/claim/cut.py") 1013]) #[]) ::
  (nat_lit 368, fO (tS 66) (Str.ofString "_law_text") Option.none (Value.none) (Value.none) (Value.none) (Value.str (Str.ofString "law_tablemates_k45_moved_contents") 965) Option.none (Value.ref 367) (Value.none) 0 #[]) ::
  (nat_lit 369, Obj.mk (Value.type "tuple") Option.none (Data.seq #[]) #[]) ::
  (nat_lit 371, Obj.mk (Value.type "tuple") Option.none (Data.seq #[Value.str (Str.ofString "d") 1018, Value.str (Str.ofString "rows") 1019, Value.str (Str.ofString "columns") 1020]) #[]) ::
  (nat_lit 372, Obj.mk (Value.type "tuple") Option.none (Data.seq #[]) #[]) ::
  (nat_lit 374, Obj.mk (Value.type "code") Option.none (Data.fields #[Value.str (Str.ofString "_law_read") 1015, Value.str (Str.ofString "_law_read") 1016, Value.str (Str.ofString "/claim/cut.py") 1017, Value.int 318 0, Value.int 3 0, Value.int 0 0, Value.int 0 0, Value.int 3 0, Value.ref 369, Value.bool Bool.true, Value.int 370 0, Value.ref 370, Value.none, Value.ref 371, Value.ref 372, Value.ref 373, Value.int 1021 0, Value.int 318 0, Value.str (Str.ofString "/claim/cut.py") 1022]) #[]) ::
  (nat_lit 375, fO (tS 67) (Str.ofString "_law_read") Option.none (Value.none) (Value.none) (Value.none) (Value.str (Str.ofString "law_tablemates_k45_moved_contents") 965) Option.none (Value.ref 374) (Value.none) 0 #[]) ::
  (nat_lit 376, Obj.mk (Value.type "tuple") Option.none (Data.seq #[]) #[]) ::
  (nat_lit 378, Obj.mk (Value.type "tuple") Option.none (Data.seq #[Value.str (Str.ofString "tree") 1027]) #[]) ::
  (nat_lit 379, Obj.mk (Value.type "tuple") Option.none (Data.seq #[]) #[]) ::
  (nat_lit 381, Obj.mk (Value.type "code") Option.none (Data.fields #[Value.str (Str.ofString "_law_frame") 1024, Value.str (Str.ofString "_law_frame") 1025, Value.str (Str.ofString "/claim/cut.py") 1026, Value.int 323 0, Value.int 1 0, Value.int 0 0, Value.int 0 0, Value.int 3 0, Value.ref 376, Value.bool Bool.true, Value.int 370 0, Value.ref 377, Value.none, Value.ref 378, Value.ref 379, Value.ref 380, Value.int 1028 0, Value.int 323 0, Value.str (Str.ofString "/claim/cut.py") 1029]) #[]) ::
  (nat_lit 382, fO (tS 68) (Str.ofString "_law_frame") Option.none (Value.none) (Value.none) (Value.none) (Value.str (Str.ofString "law_tablemates_k45_moved_contents") 965) Option.none (Value.ref 381) (Value.none) 0 #[]) ::
  (nat_lit 383, Obj.mk (Value.type "tuple") Option.none (Data.seq #[]) #[]) ::
  (nat_lit 385, Obj.mk (Value.type "tuple") Option.none (Data.seq #[Value.str (Str.ofString "tree") 1034, Value.str (Str.ofString "down") 1035, Value.str (Str.ofString "right") 1036, Value.str (Str.ofString "rows") 1037, Value.str (Str.ofString "columns") 1038, Value.str (Str.ofString "found") 1039, Value.str (Str.ofString "area") 1040, Value.str (Str.ofString "top") 1041, Value.str (Str.ofString "left") 1042, Value.str (Str.ofString "low") 1043, Value.str (Str.ofString "far") 1044]) #[]) ::
  (nat_lit 386, Obj.mk (Value.type "tuple") Option.none (Data.seq #[]) #[]) ::
  (nat_lit 388, Obj.mk (Value.type "code") Option.none (Data.fields #[Value.str (Str.ofString "_law_areas") 1031, Value.str (Str.ofString "_law_areas") 1032, Value.str (Str.ofString "/claim/cut.py") 1033, Value.int 333 0, Value.int 5 0, Value.int 0 0, Value.int 0 0, Value.int 3 0, Value.ref 383, Value.bool Bool.true, Value.int 370 0, Value.ref 384, Value.none, Value.ref 385, Value.ref 386, Value.ref 387, Value.int 1045 0, Value.int 333 0, Value.str (Str.ofString "/claim/cut.py") 1046]) #[]) ::
  (nat_lit 389, fO (tS 69) (Str.ofString "_law_areas") Option.none (Value.none) (Value.none) (Value.none) (Value.str (Str.ofString "law_tablemates_k45_moved_contents") 965) Option.none (Value.ref 388) (Value.none) 0 #[]) ::
  (nat_lit 390, Obj.mk (Value.type "tuple") Option.none (Data.seq #[]) #[]) ::
  (nat_lit 392, Obj.mk (Value.type "tuple") Option.none (Data.seq #[Value.str (Str.ofString "script") 1051, Value.str (Str.ofString "rows") 1052, Value.str (Str.ofString "columns") 1053, Value.str (Str.ofString "k") 1054, Value.str (Str.ofString "cell") 1055, Value.str (Str.ofString "d") 1056, Value.str (Str.ofString "content") 1057, Value.str (Str.ofString "down") 1058, Value.str (Str.ofString "right") 1059, Value.str (Str.ofString "moved") 1060, Value.str (Str.ofString "due") 1061, Value.str (Str.ofString "place") 1062]) #[]) ::
  (nat_lit 393, Obj.mk (Value.type "tuple") Option.none (Data.seq #[]) #[]) ::
  (nat_lit 395, Obj.mk (Value.type "code") Option.none (Data.fields #[Value.str (Str.ofString "law") 1048, Value.str (Str.ofString "law") 1049, Value.str (Str.ofString "/claim/cut.py") 1050, Value.int 348 0, Value.int 1 0, Value.int 0 0, Value.int 0 0, Value.int 3 0, Value.ref 390, Value.bool Bool.true, Value.int 370 0, Value.ref 391, Value.none, Value.ref 392, Value.ref 393, Value.ref 394, Value.int 1063 0, Value.int 348 0, Value.str (Str.ofString "/claim/cut.py") 1064]) #[]) ::
  (nat_lit 396, fO (tS 70) (Str.ofString "law") Option.none (Value.none) (Value.none) (Value.none) (Value.str (Str.ofString "law_tablemates_k45_moved_contents") 965) Option.none (Value.ref 395) (Value.none) 0 #[]) ::
  []
def K1 : Params → Frag := fun P => (KK P).filter fun x => !(x.1 == 208)
def aa : List Addr := [3, 43, 50, 51, 52, 53, 56, 63, 65, 66, 68, 69, 70, 71, 72, 75, 77, 78, 80, 81, 82, 85, 86, 87, 89, 90, 92, 93, 94, 96, 97, 99, 100, 101, 103, 104, 106, 107, 108, 110, 111, 113, 114, 115, 117, 118, 120, 121, 122, 124, 125, 127, 128, 129, 131, 132, 134, 135, 136, 137, 138, 139, 142, 143, 144, 146, 147, 149, 150, 151, 153, 154, 156, 157, 158, 160, 161, 163, 164, 165, 167, 168, 170, 171, 172, 174, 175, 177, 178, 179, 180, 182, 183, 185, 186, 187, 189, 190, 192, 193, 194, 195, 196, 197, 199, 200, 201, 202, 203, 204, 206, 207, 209, 210, 211, 212, 213, 214, 215, 216, 217, 218, 219, 220, 221, 222, 223, 224, 225, 227, 228, 229, 230, 231, 232, 233, 234, 235, 236, 238, 239, 241, 242, 243, 245, 246, 248, 249, 250, 252, 253, 255, 256, 257, 259, 260, 262, 263, 264, 266, 267, 269, 270, 271, 273, 274, 276, 277, 278, 280, 281, 283, 284, 285, 287, 288, 290, 291, 292, 294, 295, 297, 298, 299, 301, 302, 304, 305, 306, 308, 309, 311, 312, 313, 315, 316, 318, 319, 320, 322, 323, 325, 326, 327, 329, 330, 332, 333, 334, 336, 337, 339, 340, 341, 343, 344, 346, 347, 348, 350, 351, 353, 354, 355, 357, 358, 360, 361, 362, 364, 365, 367, 368, 369, 371, 372, 374, 375, 376, 378, 379, 381, 382, 383, 385, 386, 388, 389, 390, 392, 393, 395, 396]
def STX : XS := x1 208 655 ee ++ x2 208 655 ee
/-- the written part without the tables of code objects -/
def KL : Params → Frag := fun P =>
  (nat_lit 3, Obj.mk (Value.type "dict") Option.none (Data.dict #[DictEntry.mk (PyData.keyHash P (Str.ofString "__name__")) (Value.str (Str.ofString "__name__") 165) (Value.str (Str.ofString "law_tablemates_k45_moved_contents") 965), DictEntry.mk (PyData.keyHash P (Str.ofString "__doc__")) (Value.str (Str.ofString "__doc__") 166) Value.none, DictEntry.mk (PyData.keyHash P (Str.ofString "__package__")) (Value.str (Str.ofString "__package__") 167) Value.none, DictEntry.mk (PyData.keyHash P (Str.ofString "__loader__")) (Value.str (Str.ofString "__loader__") 168) (Value.builtin "__main__.__loader__#opaque"), DictEntry.mk (PyData.keyHash P (Str.ofString "__spec__")) (Value.str (Str.ofString "__spec__") 169) Value.none, DictEntry.mk (PyData.keyHash P (Str.ofString "__annotations__")) (Value.str (Str.ofString "__annotations__") 170) (Value.ref 6), DictEntry.mk (PyData.keyHash P (Str.ofString "__builtins__")) (Value.str (Str.ofString "__builtins__") 171) (Value.ref 4), DictEntry.mk (PyData.keyHash P (Str.ofString "__file__")) (Value.str (Str.ofString "__file__") 173) (Value.str (Str.ofString "/claim/cut.py") 172), DictEntry.mk (PyData.keyHash P (Str.ofString "__cached__")) (Value.str (Str.ofString "__cached__") 174) Value.none, DictEntry.mk (PyData.keyHash P (Str.ofString "gcd")) (Value.str (Str.ofString "gcd") 369) (Value.builtin "math.gcd"), DictEntry.mk (PyData.keyHash P (Str.ofString "TableError")) (Value.str (Str.ofString "TableError") 395) (Value.ref 52), DictEntry.mk (PyData.keyHash P (Str.ofString "FormulaFault")) (Value.str (Str.ofString "FormulaFault") 422) (Value.ref 72), DictEntry.mk (PyData.keyHash P (Str.ofString "fraction")) (Value.str (Str.ofString "fraction") 433) (Value.ref 81), DictEntry.mk (PyData.keyHash P (Str.ofString "DIGITS")) (Value.str (Str.ofString "DIGITS") 437) (Value.str (Str.ofString "0123456789") 436), DictEntry.mk (PyData.keyHash P (Str.ofString "MOST_BEFORE_POINT")) (Value.str (Str.ofString "MOST_BEFORE_POINT") 439) (Value.int 12 438), DictEntry.mk (PyData.keyHash P (Str.ofString "MOST_BEHIND_POINT")) (Value.str (Str.ofString "MOST_BEHIND_POINT") 441) (Value.int 6 440), DictEntry.mk (PyData.keyHash P (Str.ofString "PARTS")) (Value.str (Str.ofString "PARTS") 445) (Value.int 1000000 444), DictEntry.mk (PyData.keyHash P (Str.ofString "_is_digits")) (Value.str (Str.ofString "_is_digits") 451) (Value.ref 86), DictEntry.mk (PyData.keyHash P (Str.ofString "read_decimal")) (Value.str (Str.ofString "read_decimal") 461) (Value.ref 93), DictEntry.mk (PyData.keyHash P (Str.ofString "read_number")) (Value.str (Str.ofString "read_number") 469) (Value.ref 100), DictEntry.mk (PyData.keyHash P (Str.ofString "CAPITALS")) (Value.str (Str.ofString "CAPITALS") 473) (Value.str (Str.ofString "ABCDEFGHIJKLMNOPQRSTUVWXYZ") 472), DictEntry.mk (PyData.keyHash P (Str.ofString "SMALL")) (Value.str (Str.ofString "SMALL") 475) (Value.str (Str.ofString "abcdefghijklmnopqrstuvwxyz") 474), DictEntry.mk (PyData.keyHash P (Str.ofString "SIGNS")) (Value.str (Str.ofString "SIGNS") 477) (Value.str (Str.ofString "+-*/(),:") 476), DictEntry.mk (PyData.keyHash P (Str.ofString "LONGEST_WORD")) (Value.str (Str.ofString "LONGEST_WORD") 479) (Value.int 8 478), DictEntry.mk (PyData.keyHash P (Str.ofString "_run_end")) (Value.str (Str.ofString "_run_end") 488) (Value.ref 107), DictEntry.mk (PyData.keyHash P (Str.ofString "read_address")) (Value.str (Str.ofString "read_address") 500) (Value.ref 114), DictEntry.mk (PyData.keyHash P (Str.ofString "_token_end")) (Value.str (Str.ofString "_token_end") 510) (Value.ref 121), DictEntry.mk (PyData.keyHash P (Str.ofString "_kind")) (Value.str (Str.ofString "_kind") 518) (Value.ref 128), DictEntry.mk (PyData.keyHash P (Str.ofString "token_list")) (Value.str (Str.ofString "token_list") 528) (Value.ref 135), DictEntry.mk (PyData.keyHash P (Str.ofString "CALLS")) (Value.str (Str.ofString "CALLS") 535) (Value.ref 136), DictEntry.mk (PyData.keyHash P (Str.ofString "SUMS")) (Value.str (Str.ofString "SUMS") 538) (Value.ref 137), DictEntry.mk (PyData.keyHash P (Str.ofString "PRODUCTS")) (Value.str (Str.ofString "PRODUCTS") 541) (Value.ref 138), DictEntry.mk (PyData.keyHash P (Str.ofString "GONE")) (Value.str (Str.ofString "GONE") 543) (Value.str (Str.ofString "gone") 542), DictEntry.mk (PyData.keyHash P (Str.ofString "SHORTEST_NAME")) (Value.str (Str.ofString "SHORTEST_NAME") 545) (Value.int 2 544), DictEntry.mk (PyData.keyHash P (Str.ofString "is_name_word")) (Value.str (Str.ofString "is_name_word") 551) (Value.ref 143), DictEntry.mk (PyData.keyHash P (Str.ofString "size")) (Value.str (Str.ofString "size") 558) (Value.ref 150), DictEntry.mk (PyData.keyHash P (Str.ofString "named_cells")) (Value.str (Str.ofString "named_cells") 565) (Value.ref 157), DictEntry.mk (PyData.keyHash P (Str.ofString "areas_of")) (Value.str (Str.ofString "areas_of") 572) (Value.ref 164), DictEntry.mk (PyData.keyHash P (Str.ofString "_mapped_areas")) (Value.str (Str.ofString "_mapped_areas") 582) (Value.ref 171), DictEntry.mk (PyData.keyHash P (Str.ofString "mapped")) (Value.str (Str.ofString "mapped") 591) (Value.ref 178), DictEntry.mk (PyData.keyHash P (Str.ofString "GONE_PART")) (Value.str (Str.ofString "GONE_PART") 595) (Value.ref 179), DictEntry.mk (PyData.keyHash P (Str.ofString "with_tree")) (Value.str (Str.ofString "with_tree") 603) (Value.ref 186), DictEntry.mk (PyData.keyHash P (Str.ofString "_moved_corners")) (Value.str (Str.ofString "_moved_corners") 617) (Value.ref 193), DictEntry.mk (PyData.keyHash P (Str.ofString "moved_tree")) (Value.str (Str.ofString "moved_tree") 633) (Value.ref 200), DictEntry.mk (PyData.keyHash P (Str.ofString "moved_content")) (Value.str (Str.ofString "moved_content") 648) (Value.ref 207), DictEntry.mk (PyData.keyHash P (Str.ofString "MOST_TOKENS")) (Value.str (Str.ofString "MOST_TOKENS") 652) (Value.int 30 651), DictEntry.mk (PyData.keyHash P (Str.ofString "MOST_BRACKETS")) (Value.str (Str.ofString "MOST_BRACKETS") 654) (Value.int 6 653), DictEntry.mk (PyData.keyHash P (Str.ofString "STEPS")) (Value.str (Str.ofString "STEPS") 811) (Value.ref 208), DictEntry.mk (PyData.keyHash P (Str.ofString "_symbol")) (Value.str (Str.ofString "_symbol") 820) (Value.ref 242), DictEntry.mk (PyData.keyHash P (Str.ofString "_depth_behind")) (Value.str (Str.ofString "_depth_behind") 829) (Value.ref 249), DictEntry.mk (PyData.keyHash P (Str.ofString "_walk")) (Value.str (Str.ofString "_walk") 841) (Value.ref 256), DictEntry.mk (PyData.keyHash P (Str.ofString "_chain")) (Value.str (Str.ofString "_chain") 854) (Value.ref 263), DictEntry.mk (PyData.keyHash P (Str.ofString "_formula")) (Value.str (Str.ofString "_formula") 862) (Value.ref 270), DictEntry.mk (PyData.keyHash P (Str.ofString "_term")) (Value.str (Str.ofString "_term") 870) (Value.ref 277), DictEntry.mk (PyData.keyHash P (Str.ofString "_factor")) (Value.str (Str.ofString "_factor") 880) (Value.ref 284), DictEntry.mk (PyData.keyHash P (Str.ofString "_primary")) (Value.str (Str.ofString "_primary") 894) (Value.ref 291), DictEntry.mk (PyData.keyHash P (Str.ofString "_call")) (Value.str (Str.ofString "_call") 905) (Value.ref 298), DictEntry.mk (PyData.keyHash P (Str.ofString "_area")) (Value.str (Str.ofString "_area") 915) (Value.ref 305), DictEntry.mk (PyData.keyHash P (Str.ofString "_block")) (Value.str (Str.ofString "_block") 927) (Value.ref 312), DictEntry.mk (PyData.keyHash P (Str.ofString "_off_grid")) (Value.str (Str.ofString "_off_grid") 938) (Value.ref 319), DictEntry.mk (PyData.keyHash P (Str.ofString "read_formula")) (Value.str (Str.ofString "read_formula") 952) (Value.ref 326), DictEntry.mk (PyData.keyHash P (Str.ofString "read_content")) (Value.str (Str.ofString "read_content") 964) (Value.ref 333), DictEntry.mk (PyData.keyHash P (Str.ofString "_law_cell")) (Value.str (Str.ofString "_law_cell") 974) (Value.ref 340), DictEntry.mk (PyData.keyHash P (Str.ofString "_law_digits")) (Value.str (Str.ofString "_law_digits") 986) (Value.ref 347), DictEntry.mk (PyData.keyHash P (Str.ofString "_law_padded")) (Value.str (Str.ofString "_law_padded") 996) (Value.ref 354), DictEntry.mk (PyData.keyHash P (Str.ofString "_law_address")) (Value.str (Str.ofString "_law_address") 1003) (Value.ref 361), DictEntry.mk (PyData.keyHash P (Str.ofString "_law_text")) (Value.str (Str.ofString "_law_text") 1014) (Value.ref 368), DictEntry.mk (PyData.keyHash P (Str.ofString "_law_read")) (Value.str (Str.ofString "_law_read") 1023) (Value.ref 375), DictEntry.mk (PyData.keyHash P (Str.ofString "_law_frame")) (Value.str (Str.ofString "_law_frame") 1030) (Value.ref 382), DictEntry.mk (PyData.keyHash P (Str.ofString "_law_areas")) (Value.str (Str.ofString "_law_areas") 1047) (Value.ref 389), DictEntry.mk (PyData.keyHash P (Str.ofString "law")) (Value.str (Str.ofString "law") 1065) (Value.ref 396)] 71) #[]) ::
  (nat_lit 43, Obj.mk (Value.type "tuple") Option.none (Data.seq #[Value.type "ValueError"]) #[]) ::
  (nat_lit 50, Obj.mk (Value.type "tuple") Option.none (Data.seq #[]) #[]) ::
  (nat_lit 51, Obj.mk (Value.type "dict") Option.none (Data.dict #[DictEntry.mk (PyData.keyHash P (Str.ofString "__module__")) (Value.str (Str.ofString "__module__") 385) (Value.str (Str.ofString "tablemates.errors") 376), DictEntry.mk (PyData.keyHash P (Str.ofString "__firstlineno__")) (Value.str (Str.ofString "__firstlineno__") 389) (Value.int 3 388), DictEntry.mk (PyData.keyHash P (Str.ofString "__static_attributes__")) (Value.str (Str.ofString "__static_attributes__") 390) (Value.ref 50), DictEntry.mk (PyData.keyHash P (Str.ofString "__weakref__")) (Value.str (Str.ofString "__weakref__") 392) (Value.ref 53), DictEntry.mk (PyData.keyHash P (Str.ofString "__doc__")) (Value.str (Str.ofString "__doc__") 393) Value.none] 3) #[]) ::
  (nat_lit 52, Obj.mk (Value.type "type") Option.none (Data.cls (ClassData.mk (Str.ofString "TableError") [Value.type "ValueError"] [Value.ref 52, Value.type "ValueError", Value.type "Exception", Value.type "BaseException", Value.type "object"] 51 (Str.ofString "TableError") Bool.true [] [Value.ref 72] Bool.false Option.none Bool.false)) #[Option.some (Value.ref 43), Option.none, Option.some (Value.str (Str.ofString "TableError") 378), Option.some (Value.str (Str.ofString "TableError") 386), Option.some (Value.builtin "ValueError.__new__"), Option.some (Value.bool Bool.true)]) ::
  (nat_lit 53, Obj.mk (Value.type "getset_descriptor") Option.none (Data.fields #[Value.str (Str.ofString "__weakref__") 391, Value.ref 52, Value.builtin "ExceptionGroup.__weakref__", Value.none]) #[]) ::
  (nat_lit 56, Obj.mk (Value.type "tuple") Option.none (Data.seq #[Value.ref 52]) #[]) ::
  (nat_lit 63, Obj.mk (Value.type "tuple") Option.none (Data.seq #[]) #[]) ::
  (nat_lit 65, Obj.mk (Value.type "tuple") Option.none (Data.seq #[Value.str (Str.ofString "self") 411, Value.str (Str.ofString "place") 412, Value.str (Str.ofString "word") 413]) #[]) ::
  (nat_lit 66, Obj.mk (Value.type "tuple") Option.none (Data.seq #[]) #[]) ::
  (nat_lit 68, Obj.mk (Value.type "code") Option.none (Data.fields #[Value.str (Str.ofString "__init__") 408, Value.str (Str.ofString "FormulaFault.__init__") 409, Value.str (Str.ofString "/claim/cut.py") 410, Value.int 7 0, Value.int 3 0, Value.int 0 0, Value.int 0 0, Value.int 3 0, Value.ref 63, Value.bool Bool.true, Value.int 370 0, Value.ref 64, Value.none, Value.ref 65, Value.ref 66, Value.ref 67, Value.int 414 0, Value.int 7 0, Value.str (Str.ofString "/claim/cut.py") 415]) #[]) ::
  (nat_lit 69, fO (mS 3 0) (Str.ofString "FormulaFault.__init__") Option.none (Value.none) (Value.none) (Value.none) (Value.str (Str.ofString "tablemates.errors") 376) Option.none (Value.ref 68) (Value.none) 0 #[]) ::
  (nat_lit 70, Obj.mk (Value.type "tuple") Option.none (Data.seq #[Value.str (Str.ofString "place") 417, Value.str (Str.ofString "word") 418]) #[]) ::
  (nat_lit 71, Obj.mk (Value.type "dict") Option.none (Data.dict #[DictEntry.mk (PyData.keyHash P (Str.ofString "__module__")) (Value.str (Str.ofString "__module__") 403) (Value.str (Str.ofString "tablemates.errors") 376), DictEntry.mk (PyData.keyHash P (Str.ofString "__firstlineno__")) (Value.str (Str.ofString "__firstlineno__") 407) (Value.int 5 406), DictEntry.mk (PyData.keyHash P (Str.ofString "__init__")) (Value.str (Str.ofString "__init__") 416) (Value.ref 69), DictEntry.mk (PyData.keyHash P (Str.ofString "__static_attributes__")) (Value.str (Str.ofString "__static_attributes__") 419) (Value.ref 70), DictEntry.mk (PyData.keyHash P (Str.ofString "__doc__")) (Value.str (Str.ofString "__doc__") 420) Value.none] 2) #[]) ::
  (nat_lit 72, Obj.mk (Value.type "type") Option.none (Data.cls (ClassData.mk (Str.ofString "FormulaFault") [Value.ref 52] [Value.ref 72, Value.ref 52, Value.type "ValueError", Value.type "Exception", Value.type "BaseException", Value.type "object"] 71 (Str.ofString "FormulaFault") Bool.true [] [] Bool.false Option.none Bool.false)) #[Option.some (Value.ref 56), Option.none, Option.some (Value.str (Str.ofString "FormulaFault") 396), Option.some (Value.str (Str.ofString "FormulaFault") 404), Option.some (Value.builtin "ValueError.__new__"), Option.some (Value.bool Bool.true)]) ::
  (nat_lit 75, Obj.mk (Value.type "tuple") Option.none (Data.seq #[]) #[]) ::
  (nat_lit 77, Obj.mk (Value.type "tuple") Option.none (Data.seq #[Value.str (Str.ofString "n") 428, Value.str (Str.ofString "d") 429, Value.str (Str.ofString "common") 430]) #[]) ::
  (nat_lit 78, Obj.mk (Value.type "tuple") Option.none (Data.seq #[]) #[]) ::
  (nat_lit 80, Obj.mk (Value.type "code") Option.none (Data.fields #[Value.str (Str.ofString "fraction") 425, Value.str (Str.ofString "fraction") 426, Value.str (Str.ofString "/claim/cut.py") 427, Value.int 11 0, Value.int 2 0, Value.int 0 0, Value.int 0 0, Value.int 3 0, Value.ref 75, Value.bool Bool.true, Value.int 370 0, Value.ref 76, Value.none, Value.ref 77, Value.ref 78, Value.ref 79, Value.int 431 0, Value.int 11 0, Value.str (Str.ofString "/claim/cut.py") 432]) #[]) ::
  (nat_lit 81, fO (tS 5) (Str.ofString "fraction") Option.none (Value.none) (Value.none) (Value.none) (Value.str (Str.ofString "tablemates.fractions") 423) Option.none (Value.ref 80) (Value.none) 0 #[]) ::
  (nat_lit 82, Obj.mk (Value.type "tuple") Option.none (Data.seq #[]) #[]) ::
  (nat_lit 85, Obj.mk (Value.type "code") Option.none (Data.fields #[Value.str (Str.ofString "_is_digits") 446, Value.str (Str.ofString "_is_digits") 447, Value.str (Str.ofString "/claim/cut.py") 448, Value.int 21 0, Value.int 1 0, Value.int 0 0, Value.int 0 0, Value.int 3 0, Value.ref 82, Value.bool Bool.true, Value.int 370 0, Value.ref 83, Value.none, Value.none, Value.none, Value.ref 84, Value.int 449 0, Value.int 21 0, Value.str (Str.ofString "/claim/cut.py") 450]) #[]) ::
  (nat_lit 86, fO (tS 11) (Str.ofString "_is_digits") Option.none (Value.none) (Value.none) (Value.none) (Value.str (Str.ofString "tablemates.decimals") 434) Option.none (Value.ref 85) (Value.none) 0 #[]) ::
  (nat_lit 87, Obj.mk (Value.type "tuple") Option.none (Data.seq #[]) #[]) ::
  (nat_lit 89, Obj.mk (Value.type "tuple") Option.none (Data.seq #[Value.str (Str.ofString "text") 455, Value.str (Str.ofString "whole") 456, Value.str (Str.ofString "point") 457, Value.str (Str.ofString "rest") 458]) #[]) ::
  (nat_lit 90, Obj.mk (Value.type "tuple") Option.none (Data.seq #[]) #[]) ::
  (nat_lit 92, Obj.mk (Value.type "code") Option.none (Data.fields #[Value.str (Str.ofString "read_decimal") 452, Value.str (Str.ofString "read_decimal") 453, Value.str (Str.ofString "/claim/cut.py") 454, Value.int 23 0, Value.int 1 0, Value.int 0 0, Value.int 0 0, Value.int 3 0, Value.ref 87, Value.bool Bool.true, Value.int 370 0, Value.ref 88, Value.none, Value.ref 89, Value.ref 90, Value.ref 91, Value.int 459 0, Value.int 23 0, Value.str (Str.ofString "/claim/cut.py") 460]) #[]) ::
  (nat_lit 93, fO (tS 12) (Str.ofString "read_decimal") Option.none (Value.none) (Value.none) (Value.none) (Value.str (Str.ofString "tablemates.decimals") 434) Option.none (Value.ref 92) (Value.none) 0 #[]) ::
  (nat_lit 94, Obj.mk (Value.type "tuple") Option.none (Data.seq #[]) #[]) ::
  (nat_lit 96, Obj.mk (Value.type "tuple") Option.none (Data.seq #[Value.str (Str.ofString "text") 465, Value.str (Str.ofString "x") 466]) #[]) ::
  (nat_lit 97, Obj.mk (Value.type "tuple") Option.none (Data.seq #[]) #[]) ::
  (nat_lit 99, Obj.mk (Value.type "code") Option.none (Data.fields #[Value.str (Str.ofString "read_number") 462, Value.str (Str.ofString "read_number") 463, Value.str (Str.ofString "/claim/cut.py") 464, Value.int 32 0, Value.int 1 0, Value.int 0 0, Value.int 0 0, Value.int 3 0, Value.ref 94, Value.bool Bool.true, Value.int 370 0, Value.ref 95, Value.none, Value.ref 96, Value.ref 97, Value.ref 98, Value.int 467 0, Value.int 32 0, Value.str (Str.ofString "/claim/cut.py") 468]) #[]) ::
  (nat_lit 100, fO (tS 13) (Str.ofString "read_number") Option.none (Value.none) (Value.none) (Value.none) (Value.str (Str.ofString "tablemates.decimals") 434) Option.none (Value.ref 99) (Value.none) 0 #[]) ::
  (nat_lit 101, Obj.mk (Value.type "tuple") Option.none (Data.seq #[]) #[]) ::
  (nat_lit 103, Obj.mk (Value.type "tuple") Option.none (Data.seq #[Value.str (Str.ofString "text") 483, Value.str (Str.ofString "at") 484, Value.str (Str.ofString "characters") 485]) #[]) ::
  (nat_lit 104, Obj.mk (Value.type "tuple") Option.none (Data.seq #[]) #[]) ::
  (nat_lit 106, Obj.mk (Value.type "code") Option.none (Data.fields #[Value.str (Str.ofString "_run_end") 480, Value.str (Str.ofString "_run_end") 481, Value.str (Str.ofString "/claim/cut.py") 482, Value.int 42 0, Value.int 3 0, Value.int 0 0, Value.int 0 0, Value.int 3 0, Value.ref 101, Value.bool Bool.true, Value.int 370 0, Value.ref 102, Value.none, Value.ref 103, Value.ref 104, Value.ref 105, Value.int 486 0, Value.int 42 0, Value.str (Str.ofString "/claim/cut.py") 487]) #[]) ::
  (nat_lit 107, fO (tS 19) (Str.ofString "_run_end") Option.none (Value.none) (Value.none) (Value.none) (Value.str (Str.ofString "tablemates.tokens") 470) Option.none (Value.ref 106) (Value.none) 0 #[]) ::
  (nat_lit 108, Obj.mk (Value.type "tuple") Option.none (Data.seq #[]) #[]) ::
  (nat_lit 110, Obj.mk (Value.type "tuple") Option.none (Data.seq #[Value.str (Str.ofString "text") 492, Value.str (Str.ofString "middle") 493, Value.str (Str.ofString "letters") 494, Value.str (Str.ofString "digits") 495, Value.str (Str.ofString "column") 496, Value.str (Str.ofString "letter") 497]) #[]) ::
  (nat_lit 111, Obj.mk (Value.type "tuple") Option.none (Data.seq #[]) #[]) ::
  (nat_lit 113, Obj.mk (Value.type "code") Option.none (Data.fields #[Value.str (Str.ofString "read_address") 489, Value.str (Str.ofString "read_address") 490, Value.str (Str.ofString "/claim/cut.py") 491, Value.int 46 0, Value.int 1 0, Value.int 0 0, Value.int 0 0, Value.int 3 0, Value.ref 108, Value.bool Bool.true, Value.int 370 0, Value.ref 109, Value.none, Value.ref 110, Value.ref 111, Value.ref 112, Value.int 498 0, Value.int 46 0, Value.str (Str.ofString "/claim/cut.py") 499]) #[]) ::
  (nat_lit 114, fO (tS 20) (Str.ofString "read_address") Option.none (Value.none) (Value.none) (Value.none) (Value.str (Str.ofString "tablemates.tokens") 470) Option.none (Value.ref 113) (Value.none) 0 #[]) ::
  (nat_lit 115, Obj.mk (Value.type "tuple") Option.none (Data.seq #[]) #[]) ::
  (nat_lit 117, Obj.mk (Value.type "tuple") Option.none (Data.seq #[Value.str (Str.ofString "text") 504, Value.str (Str.ofString "at") 505, Value.str (Str.ofString "end") 506, Value.str (Str.ofString "behind") 507]) #[]) ::
  (nat_lit 118, Obj.mk (Value.type "tuple") Option.none (Data.seq #[]) #[]) ::
  (nat_lit 120, Obj.mk (Value.type "code") Option.none (Data.fields #[Value.str (Str.ofString "_token_end") 501, Value.str (Str.ofString "_token_end") 502, Value.str (Str.ofString "/claim/cut.py") 503, Value.int 58 0, Value.int 2 0, Value.int 0 0, Value.int 0 0, Value.int 3 0, Value.ref 115, Value.bool Bool.true, Value.int 370 0, Value.ref 116, Value.none, Value.ref 117, Value.ref 118, Value.ref 119, Value.int 508 0, Value.int 58 0, Value.str (Str.ofString "/claim/cut.py") 509]) #[]) ::
  (nat_lit 121, fO (tS 21) (Str.ofString "_token_end") Option.none (Value.none) (Value.none) (Value.none) (Value.str (Str.ofString "tablemates.tokens") 470) Option.none (Value.ref 120) (Value.none) 0 #[]) ::
  (nat_lit 122, Obj.mk (Value.type "tuple") Option.none (Data.seq #[]) #[]) ::
  (nat_lit 124, Obj.mk (Value.type "tuple") Option.none (Data.seq #[Value.str (Str.ofString "token") 514, Value.str (Str.ofString "first") 515]) #[]) ::
  (nat_lit 125, Obj.mk (Value.type "tuple") Option.none (Data.seq #[]) #[]) ::
  (nat_lit 127, Obj.mk (Value.type "code") Option.none (Data.fields #[Value.str (Str.ofString "_kind") 511, Value.str (Str.ofString "_kind") 512, Value.str (Str.ofString "/claim/cut.py") 513, Value.int 70 0, Value.int 1 0, Value.int 0 0, Value.int 0 0, Value.int 3 0, Value.ref 122, Value.bool Bool.true, Value.int 370 0, Value.ref 123, Value.none, Value.ref 124, Value.ref 125, Value.ref 126, Value.int 516 0, Value.int 70 0, Value.str (Str.ofString "/claim/cut.py") 517]) #[]) ::
  (nat_lit 128, fO (tS 22) (Str.ofString "_kind") Option.none (Value.none) (Value.none) (Value.none) (Value.str (Str.ofString "tablemates.tokens") 470) Option.none (Value.ref 127) (Value.none) 0 #[]) ::
  (nat_lit 129, Obj.mk (Value.type "tuple") Option.none (Data.seq #[]) #[]) ::
  (nat_lit 131, Obj.mk (Value.type "tuple") Option.none (Data.seq #[Value.str (Str.ofString "text") 522, Value.str (Str.ofString "found") 523, Value.str (Str.ofString "at") 524, Value.str (Str.ofString "end") 525]) #[]) ::
  (nat_lit 132, Obj.mk (Value.type "tuple") Option.none (Data.seq #[]) #[]) ::
  (nat_lit 134, Obj.mk (Value.type "code") Option.none (Data.fields #[Value.str (Str.ofString "token_list") 519, Value.str (Str.ofString "token_list") 520, Value.str (Str.ofString "/claim/cut.py") 521, Value.int 81 0, Value.int 1 0, Value.int 0 0, Value.int 0 0, Value.int 3 0, Value.ref 129, Value.bool Bool.true, Value.int 370 0, Value.ref 130, Value.none, Value.ref 131, Value.ref 132, Value.ref 133, Value.int 526 0, Value.int 81 0, Value.str (Str.ofString "/claim/cut.py") 527]) #[]) ::
  (nat_lit 135, fO (tS 23) (Str.ofString "token_list") Option.none (Value.none) (Value.none) (Value.none) (Value.str (Str.ofString "tablemates.tokens") 470) Option.none (Value.ref 134) (Value.none) 0 #[]) ::
  (nat_lit 136, Obj.mk (Value.type "tuple") Option.none (Data.seq #[Value.str (Str.ofString "sum") 531, Value.str (Str.ofString "count") 532, Value.str (Str.ofString "min") 533, Value.str (Str.ofString "max") 534]) #[]) ::
  (nat_lit 137, Obj.mk (Value.type "tuple") Option.none (Data.seq #[Value.str (Str.ofString "+") 536, Value.str (Str.ofString "-") 537]) #[]) ::
  (nat_lit 138, Obj.mk (Value.type "tuple") Option.none (Data.seq #[Value.str (Str.ofString "*") 539, Value.str (Str.ofString "/") 540]) #[]) ::
  (nat_lit 139, Obj.mk (Value.type "tuple") Option.none (Data.seq #[]) #[]) ::
  (nat_lit 142, Obj.mk (Value.type "code") Option.none (Data.fields #[Value.str (Str.ofString "is_name_word") 546, Value.str (Str.ofString "is_name_word") 547, Value.str (Str.ofString "/claim/cut.py") 548, Value.int 96 0, Value.int 1 0, Value.int 0 0, Value.int 0 0, Value.int 3 0, Value.ref 139, Value.bool Bool.true, Value.int 370 0, Value.ref 140, Value.none, Value.none, Value.none, Value.ref 141, Value.int 549 0, Value.int 96 0, Value.str (Str.ofString "/claim/cut.py") 550]) #[]) ::
  (nat_lit 143, fO (tS 30) (Str.ofString "is_name_word") Option.none (Value.none) (Value.none) (Value.none) (Value.str (Str.ofString "tablemates.trees") 529) Option.none (Value.ref 142) (Value.none) 0 #[]) ::
  (nat_lit 144, Obj.mk (Value.type "tuple") Option.none (Data.seq #[]) #[]) ::
  (nat_lit 146, Obj.mk (Value.type "tuple") Option.none (Data.seq #[Value.str (Str.ofString "tree") 555]) #[]) ::
  (nat_lit 147, Obj.mk (Value.type "tuple") Option.none (Data.seq #[]) #[]) ::
  (nat_lit 149, Obj.mk (Value.type "code") Option.none (Data.fields #[Value.str (Str.ofString "size") 552, Value.str (Str.ofString "size") 553, Value.str (Str.ofString "/claim/cut.py") 554, Value.int 102 0, Value.int 1 0, Value.int 0 0, Value.int 0 0, Value.int 3 0, Value.ref 144, Value.bool Bool.true, Value.int 370 0, Value.ref 145, Value.none, Value.ref 146, Value.ref 147, Value.ref 148, Value.int 556 0, Value.int 102 0, Value.str (Str.ofString "/claim/cut.py") 557]) #[]) ::
  (nat_lit 150, fO (tS 31) (Str.ofString "size") Option.none (Value.none) (Value.none) (Value.none) (Value.str (Str.ofString "tablemates.trees") 529) Option.none (Value.ref 149) (Value.none) 0 #[]) ::
  (nat_lit 151, Obj.mk (Value.type "tuple") Option.none (Data.seq #[]) #[]) ::
  (nat_lit 153, Obj.mk (Value.type "tuple") Option.none (Data.seq #[Value.str (Str.ofString "tree") 562]) #[]) ::
  (nat_lit 154, Obj.mk (Value.type "tuple") Option.none (Data.seq #[]) #[]) ::
  (nat_lit 156, Obj.mk (Value.type "code") Option.none (Data.fields #[Value.str (Str.ofString "named_cells") 559, Value.str (Str.ofString "named_cells") 560, Value.str (Str.ofString "/claim/cut.py") 561, Value.int 110 0, Value.int 1 0, Value.int 0 0, Value.int 0 0, Value.int 3 0, Value.ref 151, Value.bool Bool.true, Value.int 370 0, Value.ref 152, Value.none, Value.ref 153, Value.ref 154, Value.ref 155, Value.int 563 0, Value.int 110 0, Value.str (Str.ofString "/claim/cut.py") 564]) #[]) ::
  (nat_lit 157, fO (tS 32) (Str.ofString "named_cells") Option.none (Value.none) (Value.none) (Value.none) (Value.str (Str.ofString "tablemates.trees") 529) Option.none (Value.ref 156) (Value.none) 0 #[]) ::
  (nat_lit 158, Obj.mk (Value.type "tuple") Option.none (Data.seq #[]) #[]) ::
  (nat_lit 160, Obj.mk (Value.type "tuple") Option.none (Data.seq #[Value.str (Str.ofString "tree") 569]) #[]) ::
  (nat_lit 161, Obj.mk (Value.type "tuple") Option.none (Data.seq #[]) #[]) ::
  (nat_lit 163, Obj.mk (Value.type "code") Option.none (Data.fields #[Value.str (Str.ofString "areas_of") 566, Value.str (Str.ofString "areas_of") 567, Value.str (Str.ofString "/claim/cut.py") 568, Value.int 118 0, Value.int 1 0, Value.int 0 0, Value.int 0 0, Value.int 3 0, Value.ref 158, Value.bool Bool.true, Value.int 370 0, Value.ref 159, Value.none, Value.ref 160, Value.ref 161, Value.ref 162, Value.int 570 0, Value.int 118 0, Value.str (Str.ofString "/claim/cut.py") 571]) #[]) ::
  (nat_lit 164, fO (tS 33) (Str.ofString "areas_of") Option.none (Value.none) (Value.none) (Value.none) (Value.str (Str.ofString "tablemates.trees") 529) Option.none (Value.ref 163) (Value.none) 0 #[]) ::
  (nat_lit 165, Obj.mk (Value.type "tuple") Option.none (Data.seq #[]) #[]) ::
  (nat_lit 167, Obj.mk (Value.type "tuple") Option.none (Data.seq #[Value.str (Str.ofString "areas") 576, Value.str (Str.ofString "area") 577, Value.str (Str.ofString "found") 578, Value.str (Str.ofString "old") 579]) #[]) ::
  (nat_lit 168, Obj.mk (Value.type "tuple") Option.none (Data.seq #[]) #[]) ::
  (nat_lit 170, Obj.mk (Value.type "code") Option.none (Data.fields #[Value.str (Str.ofString "_mapped_areas") 573, Value.str (Str.ofString "_mapped_areas") 574, Value.str (Str.ofString "/claim/cut.py") 575, Value.int 126 0, Value.int 2 0, Value.int 0 0, Value.int 0 0, Value.int 3 0, Value.ref 165, Value.bool Bool.true, Value.int 370 0, Value.ref 166, Value.none, Value.ref 167, Value.ref 168, Value.ref 169, Value.int 580 0, Value.int 126 0, Value.str (Str.ofString "/claim/cut.py") 581]) #[]) ::
  (nat_lit 171, fO (tS 34) (Str.ofString "_mapped_areas") Option.none (Value.none) (Value.none) (Value.none) (Value.str (Str.ofString "tablemates.trees") 529) Option.none (Value.ref 170) (Value.none) 0 #[]) ::
  (nat_lit 172, Obj.mk (Value.type "tuple") Option.none (Data.seq #[]) #[]) ::
  (nat_lit 174, Obj.mk (Value.type "tuple") Option.none (Data.seq #[Value.str (Str.ofString "tree") 586, Value.str (Str.ofString "cell") 587, Value.str (Str.ofString "area") 588]) #[]) ::
  (nat_lit 175, Obj.mk (Value.type "tuple") Option.none (Data.seq #[]) #[]) ::
  (nat_lit 177, Obj.mk (Value.type "code") Option.none (Data.fields #[Value.str (Str.ofString "mapped") 583, Value.str (Str.ofString "mapped") 584, Value.str (Str.ofString "/claim/cut.py") 585, Value.int 133 0, Value.int 3 0, Value.int 0 0, Value.int 0 0, Value.int 3 0, Value.ref 172, Value.bool Bool.true, Value.int 370 0, Value.ref 173, Value.none, Value.ref 174, Value.ref 175, Value.ref 176, Value.int 589 0, Value.int 133 0, Value.str (Str.ofString "/claim/cut.py") 590]) #[]) ::
  (nat_lit 178, fO (tS 35) (Str.ofString "mapped") Option.none (Value.none) (Value.none) (Value.none) (Value.str (Str.ofString "tablemates.trees") 529) Option.none (Value.ref 177) (Value.none) 0 #[]) ::
  (nat_lit 179, Obj.mk (Value.type "tuple") Option.none (Data.seq #[Value.str (Str.ofString "gone") 594]) #[]) ::
  (nat_lit 180, Obj.mk (Value.type "tuple") Option.none (Data.seq #[]) #[]) ::
  (nat_lit 182, Obj.mk (Value.type "tuple") Option.none (Data.seq #[Value.str (Str.ofString "content") 599, Value.str (Str.ofString "changed") 600]) #[]) ::
  (nat_lit 183, Obj.mk (Value.type "tuple") Option.none (Data.seq #[]) #[]) ::
  (nat_lit 185, Obj.mk (Value.type "code") Option.none (Data.fields #[Value.str (Str.ofString "with_tree") 596, Value.str (Str.ofString "with_tree") 597, Value.str (Str.ofString "/claim/cut.py") 598, Value.int 145 0, Value.int 2 0, Value.int 0 0, Value.int 0 0, Value.int 3 0, Value.ref 180, Value.bool Bool.true, Value.int 370 0, Value.ref 181, Value.none, Value.ref 182, Value.ref 183, Value.ref 184, Value.int 601 0, Value.int 145 0, Value.str (Str.ofString "/claim/cut.py") 602]) #[]) ::
  (nat_lit 186, fO (tS 38) (Str.ofString "with_tree") Option.none (Value.none) (Value.none) (Value.none) (Value.str (Str.ofString "tablemates.keeping") 592) Option.none (Value.ref 185) (Value.none) 0 #[]) ::
  (nat_lit 187, Obj.mk (Value.type "tuple") Option.none (Data.seq #[]) #[]) ::
  (nat_lit 189, Obj.mk (Value.type "tuple") Option.none (Data.seq #[Value.str (Str.ofString "part") 607, Value.str (Str.ofString "down") 608, Value.str (Str.ofString "right") 609, Value.str (Str.ofString "rows") 610, Value.str (Str.ofString "columns") 611, Value.str (Str.ofString "found") 612, Value.str (Str.ofString "row") 613, Value.str (Str.ofString "column") 614]) #[]) ::
  (nat_lit 190, Obj.mk (Value.type "tuple") Option.none (Data.seq #[]) #[]) ::
  (nat_lit 192, Obj.mk (Value.type "code") Option.none (Data.fields #[Value.str (Str.ofString "_moved_corners") 604, Value.str (Str.ofString "_moved_corners") 605, Value.str (Str.ofString "/claim/cut.py") 606, Value.int 147 0, Value.int 5 0, Value.int 0 0, Value.int 0 0, Value.int 3 0, Value.ref 187, Value.bool Bool.true, Value.int 370 0, Value.ref 188, Value.none, Value.ref 189, Value.ref 190, Value.ref 191, Value.int 615 0, Value.int 147 0, Value.str (Str.ofString "/claim/cut.py") 616]) #[]) ::
  (nat_lit 193, fO (tS 39) (Str.ofString "_moved_corners") Option.none (Value.none) (Value.none) (Value.none) (Value.str (Str.ofString "tablemates.keeping") 592) Option.none (Value.ref 192) (Value.none) 0 #[]) ::
  (nat_lit 194, Obj.mk (Value.type "tuple") Option.none (Data.seq #[]) #[]) ::
  (nat_lit 196, Obj.mk (Value.type "tuple") Option.none (Data.seq #[Value.str (Str.ofString "tree") 621, Value.str (Str.ofString "down") 622, Value.str (Str.ofString "right") 623, Value.str (Str.ofString "rows") 624, Value.str (Str.ofString "columns") 625, Value.str (Str.ofString "moved_area") 626]) #[]) ::
  (nat_lit 197, Obj.mk (Value.type "tuple") Option.none (Data.seq #[Value.str (Str.ofString "down") 627, Value.str (Str.ofString "right") 628, Value.str (Str.ofString "rows") 629, Value.str (Str.ofString "columns") 630]) #[]) ::
  (nat_lit 199, Obj.mk (Value.type "code") Option.none (Data.fields #[Value.str (Str.ofString "moved_tree") 618, Value.str (Str.ofString "moved_tree") 619, Value.str (Str.ofString "/claim/cut.py") 620, Value.int 154 0, Value.int 5 0, Value.int 0 0, Value.int 0 0, Value.int 3 0, Value.ref 194, Value.bool Bool.true, Value.int 370 0, Value.ref 195, Value.none, Value.ref 196, Value.ref 197, Value.ref 198, Value.int 631 0, Value.int 154 0, Value.str (Str.ofString "/claim/cut.py") 632]) #[]) ::
  (nat_lit 200, fO (tS 40) (Str.ofString "moved_tree") Option.none (Value.none) (Value.none) (Value.none) (Value.str (Str.ofString "tablemates.keeping") 592) Option.none (Value.ref 199) (Value.none) 0 #[]) ::
  (nat_lit 201, Obj.mk (Value.type "tuple") Option.none (Data.seq #[]) #[]) ::
  (nat_lit 203, Obj.mk (Value.type "tuple") Option.none (Data.seq #[Value.str (Str.ofString "content") 637, Value.str (Str.ofString "down") 638, Value.str (Str.ofString "right") 639, Value.str (Str.ofString "rows") 640, Value.str (Str.ofString "columns") 641]) #[]) ::
  (nat_lit 204, Obj.mk (Value.type "tuple") Option.none (Data.seq #[Value.str (Str.ofString "down") 642, Value.str (Str.ofString "right") 643, Value.str (Str.ofString "rows") 644, Value.str (Str.ofString "columns") 645]) #[]) ::
  (nat_lit 206, Obj.mk (Value.type "code") Option.none (Data.fields #[Value.str (Str.ofString "moved_content") 634, Value.str (Str.ofString "moved_content") 635, Value.str (Str.ofString "/claim/cut.py") 636, Value.int 161 0, Value.int 5 0, Value.int 0 0, Value.int 0 0, Value.int 3 0, Value.ref 201, Value.bool Bool.true, Value.int 370 0, Value.ref 202, Value.none, Value.ref 203, Value.ref 204, Value.ref 205, Value.int 646 0, Value.int 161 0, Value.str (Str.ofString "/claim/cut.py") 647]) #[]) ::
  (nat_lit 207, fO (tS 41) (Str.ofString "moved_content") Option.none (Value.none) (Value.none) (Value.none) (Value.str (Str.ofString "tablemates.keeping") 592) Option.none (Value.ref 206) (Value.none) 0 #[]) ::
  (nat_lit 208, tabO P 208 655 ee) ::
  (nat_lit 209, Obj.mk (Value.type "tuple") Option.none (Data.seq #[Value.str (Str.ofString "factor") 655, Value.str (Str.ofString "-") 656]) #[]) ::
  (nat_lit 210, Obj.mk (Value.type "tuple") Option.none (Data.seq #[Value.str (Str.ofString "factor") 661, Value.str (Str.ofString "decimal") 662]) #[]) ::
  (nat_lit 211, Obj.mk (Value.type "tuple") Option.none (Data.seq #[Value.str (Str.ofString "factor") 667, Value.str (Str.ofString "address") 668]) #[]) ::
  (nat_lit 212, Obj.mk (Value.type "tuple") Option.none (Data.seq #[Value.str (Str.ofString "factor") 673, Value.str (Str.ofString "gone") 674]) #[]) ::
  (nat_lit 213, Obj.mk (Value.type "tuple") Option.none (Data.seq #[Value.str (Str.ofString "factor") 679, Value.str (Str.ofString "call") 680]) #[]) ::
  (nat_lit 214, Obj.mk (Value.type "tuple") Option.none (Data.seq #[Value.str (Str.ofString "factor") 685, Value.str (Str.ofString "(") 686]) #[]) ::
  (nat_lit 215, Obj.mk (Value.type "tuple") Option.none (Data.seq #[Value.str (Str.ofString "primary") 691, Value.str (Str.ofString "decimal") 692]) #[]) ::
  (nat_lit 216, Obj.mk (Value.type "tuple") Option.none (Data.seq #[Value.str (Str.ofString "primary") 697, Value.str (Str.ofString "address") 698]) #[]) ::
  (nat_lit 217, Obj.mk (Value.type "tuple") Option.none (Data.seq #[Value.str (Str.ofString "primary") 703, Value.str (Str.ofString "gone") 704]) #[]) ::
  (nat_lit 218, Obj.mk (Value.type "tuple") Option.none (Data.seq #[Value.str (Str.ofString "primary") 709, Value.str (Str.ofString "call") 710]) #[]) ::
  (nat_lit 219, Obj.mk (Value.type "tuple") Option.none (Data.seq #[Value.str (Str.ofString "primary") 715, Value.str (Str.ofString "(") 716]) #[]) ::
  (nat_lit 220, Obj.mk (Value.type "tuple") Option.none (Data.seq #[Value.str (Str.ofString "behind") 721, Value.str (Str.ofString "+") 722]) #[]) ::
  (nat_lit 221, Obj.mk (Value.type "tuple") Option.none (Data.seq #[Value.str (Str.ofString "behind") 727, Value.str (Str.ofString "-") 728]) #[]) ::
  (nat_lit 222, Obj.mk (Value.type "tuple") Option.none (Data.seq #[Value.str (Str.ofString "behind") 733, Value.str (Str.ofString "*") 734]) #[]) ::
  (nat_lit 223, Obj.mk (Value.type "tuple") Option.none (Data.seq #[Value.str (Str.ofString "behind") 739, Value.str (Str.ofString "/") 740]) #[]) ::
  (nat_lit 224, Obj.mk (Value.type "tuple") Option.none (Data.seq #[Value.str (Str.ofString "behind") 745, Value.str (Str.ofString ")") 746]) #[]) ::
  (nat_lit 225, Obj.mk (Value.type "tuple") Option.none (Data.seq #[Value.str (Str.ofString "call") 751, Value.str (Str.ofString "(") 752]) #[]) ::
  (nat_lit 227, Obj.mk (Value.type "tuple") Option.none (Data.seq #[Value.str (Str.ofString "area") 757, Value.str (Str.ofString "address") 758]) #[]) ::
  (nat_lit 228, Obj.mk (Value.type "tuple") Option.none (Data.seq #[Value.str (Str.ofString "area") 760, Value.str (Str.ofString "gone") 761]) #[]) ::
  (nat_lit 229, Obj.mk (Value.type "tuple") Option.none (Data.seq #[Value.str (Str.ofString "area") 763, Value.str (Str.ofString "name") 764]) #[]) ::
  (nat_lit 230, Obj.mk (Value.type "tuple") Option.none (Data.seq #[Value.str (Str.ofString "corner") 766, Value.str (Str.ofString ":") 767]) #[]) ::
  (nat_lit 231, Obj.mk (Value.type "tuple") Option.none (Data.seq #[Value.str (Str.ofString "corner") 769, Value.str (Str.ofString ",") 770]) #[]) ::
  (nat_lit 232, Obj.mk (Value.type "tuple") Option.none (Data.seq #[Value.str (Str.ofString "corner") 772, Value.str (Str.ofString ")") 773]) #[]) ::
  (nat_lit 233, Obj.mk (Value.type "tuple") Option.none (Data.seq #[Value.str (Str.ofString "other") 775, Value.str (Str.ofString "address") 776]) #[]) ::
  (nat_lit 234, Obj.mk (Value.type "tuple") Option.none (Data.seq #[Value.str (Str.ofString "last") 778, Value.str (Str.ofString ",") 779]) #[]) ::
  (nat_lit 235, Obj.mk (Value.type "tuple") Option.none (Data.seq #[Value.str (Str.ofString "last") 781, Value.str (Str.ofString ")") 782]) #[]) ::
  (nat_lit 236, Obj.mk (Value.type "tuple") Option.none (Data.seq #[]) #[]) ::
  (nat_lit 238, Obj.mk (Value.type "tuple") Option.none (Data.seq #[Value.str (Str.ofString "token") 815, Value.str (Str.ofString "kind") 816, Value.str (Str.ofString "string") 817]) #[]) ::
  (nat_lit 239, Obj.mk (Value.type "tuple") Option.none (Data.seq #[]) #[]) ::
  (nat_lit 241, Obj.mk (Value.type "code") Option.none (Data.fields #[Value.str (Str.ofString "_symbol") 812, Value.str (Str.ofString "_symbol") 813, Value.str (Str.ofString "/claim/cut.py") 814, Value.int 167 0, Value.int 1 0, Value.int 0 0, Value.int 0 0, Value.int 3 0, Value.ref 236, Value.bool Bool.true, Value.int 370 0, Value.ref 237, Value.none, Value.ref 238, Value.ref 239, Value.ref 240, Value.int 818 0, Value.int 167 0, Value.str (Str.ofString "/claim/cut.py") 819]) #[]) ::
  (nat_lit 242, fO (tS 46) (Str.ofString "_symbol") Option.none (Value.none) (Value.none) (Value.none) (Value.str (Str.ofString "tablemates.grammar") 649) Option.none (Value.ref 241) (Value.none) 0 #[]) ::
  (nat_lit 243, Obj.mk (Value.type "tuple") Option.none (Data.seq #[]) #[]) ::
  (nat_lit 245, Obj.mk (Value.type "tuple") Option.none (Data.seq #[Value.str (Str.ofString "state") 824, Value.str (Str.ofString "symbol") 825, Value.str (Str.ofString "depth") 826]) #[]) ::
  (nat_lit 246, Obj.mk (Value.type "tuple") Option.none (Data.seq #[]) #[]) ::
  (nat_lit 248, Obj.mk (Value.type "code") Option.none (Data.fields #[Value.str (Str.ofString "_depth_behind") 821, Value.str (Str.ofString "_depth_behind") 822, Value.str (Str.ofString "/claim/cut.py") 823, Value.int 178 0, Value.int 3 0, Value.int 0 0, Value.int 0 0, Value.int 3 0, Value.ref 243, Value.bool Bool.true, Value.int 370 0, Value.ref 244, Value.none, Value.ref 245, Value.ref 246, Value.ref 247, Value.int 827 0, Value.int 178 0, Value.str (Str.ofString "/claim/cut.py") 828]) #[]) ::
  (nat_lit 249, fO (tS 47) (Str.ofString "_depth_behind") Option.none (Value.none) (Value.none) (Value.none) (Value.str (Str.ofString "tablemates.grammar") 649) Option.none (Value.ref 248) (Value.none) 0 #[]) ::
  (nat_lit 250, Obj.mk (Value.type "tuple") Option.none (Data.seq #[]) #[]) ::
  (nat_lit 252, Obj.mk (Value.type "tuple") Option.none (Data.seq #[Value.str (Str.ofString "tokens") 833, Value.str (Str.ofString "state") 834, Value.str (Str.ofString "depth") 835, Value.str (Str.ofString "at") 836, Value.str (Str.ofString "token") 837, Value.str (Str.ofString "symbol") 838]) #[]) ::
  (nat_lit 253, Obj.mk (Value.type "tuple") Option.none (Data.seq #[]) #[]) ::
  (nat_lit 255, Obj.mk (Value.type "code") Option.none (Data.fields #[Value.str (Str.ofString "_walk") 830, Value.str (Str.ofString "_walk") 831, Value.str (Str.ofString "/claim/cut.py") 832, Value.int 184 0, Value.int 1 0, Value.int 0 0, Value.int 0 0, Value.int 3 0, Value.ref 250, Value.bool Bool.true, Value.int 370 0, Value.ref 251, Value.none, Value.ref 252, Value.ref 253, Value.ref 254, Value.int 839 0, Value.int 184 0, Value.str (Str.ofString "/claim/cut.py") 840]) #[]) ::
  (nat_lit 256, fO (tS 48) (Str.ofString "_walk") Option.none (Value.none) (Value.none) (Value.none) (Value.str (Str.ofString "tablemates.grammar") 649) Option.none (Value.ref 255) (Value.none) 0 #[]) ::
  (nat_lit 257, Obj.mk (Value.type "tuple") Option.none (Data.seq #[]) #[]) ::
  (nat_lit 259, Obj.mk (Value.type "tuple") Option.none (Data.seq #[Value.str (Str.ofString "tokens") 845, Value.str (Str.ofString "at") 846, Value.str (Str.ofString "signs") 847, Value.str (Str.ofString "part") 848, Value.str (Str.ofString "left") 849, Value.str (Str.ofString "sign") 850, Value.str (Str.ofString "right") 851]) #[]) ::
  (nat_lit 260, Obj.mk (Value.type "tuple") Option.none (Data.seq #[]) #[]) ::
  (nat_lit 262, Obj.mk (Value.type "code") Option.none (Data.fields #[Value.str (Str.ofString "_chain") 842, Value.str (Str.ofString "_chain") 843, Value.str (Str.ofString "/claim/cut.py") 844, Value.int 194 0, Value.int 4 0, Value.int 0 0, Value.int 0 0, Value.int 3 0, Value.ref 257, Value.bool Bool.true, Value.int 370 0, Value.ref 258, Value.none, Value.ref 259, Value.ref 260, Value.ref 261, Value.int 852 0, Value.int 194 0, Value.str (Str.ofString "/claim/cut.py") 853]) #[]) ::
  (nat_lit 263, fO (tS 49) (Str.ofString "_chain") Option.none (Value.none) (Value.none) (Value.none) (Value.str (Str.ofString "tablemates.grammar") 649) Option.none (Value.ref 262) (Value.none) 0 #[]) ::
  (nat_lit 264, Obj.mk (Value.type "tuple") Option.none (Data.seq #[]) #[]) ::
  (nat_lit 266, Obj.mk (Value.type "tuple") Option.none (Data.seq #[Value.str (Str.ofString "tokens") 858, Value.str (Str.ofString "at") 859]) #[]) ::
  (nat_lit 267, Obj.mk (Value.type "tuple") Option.none (Data.seq #[]) #[]) ::
  (nat_lit 269, Obj.mk (Value.type "code") Option.none (Data.fields #[Value.str (Str.ofString "_formula") 855, Value.str (Str.ofString "_formula") 856, Value.str (Str.ofString "/claim/cut.py") 857, Value.int 201 0, Value.int 2 0, Value.int 0 0, Value.int 0 0, Value.int 3 0, Value.ref 264, Value.bool Bool.true, Value.int 370 0, Value.ref 265, Value.none, Value.ref 266, Value.ref 267, Value.ref 268, Value.int 860 0, Value.int 201 0, Value.str (Str.ofString "/claim/cut.py") 861]) #[]) ::
  (nat_lit 270, fO (tS 50) (Str.ofString "_formula") Option.none (Value.none) (Value.none) (Value.none) (Value.str (Str.ofString "tablemates.grammar") 649) Option.none (Value.ref 269) (Value.none) 0 #[]) ::
  (nat_lit 271, Obj.mk (Value.type "tuple") Option.none (Data.seq #[]) #[]) ::
  (nat_lit 273, Obj.mk (Value.type "tuple") Option.none (Data.seq #[Value.str (Str.ofString "tokens") 866, Value.str (Str.ofString "at") 867]) #[]) ::
  (nat_lit 274, Obj.mk (Value.type "tuple") Option.none (Data.seq #[]) #[]) ::
  (nat_lit 276, Obj.mk (Value.type "code") Option.none (Data.fields #[Value.str (Str.ofString "_term") 863, Value.str (Str.ofString "_term") 864, Value.str (Str.ofString "/claim/cut.py") 865, Value.int 203 0, Value.int 2 0, Value.int 0 0, Value.int 0 0, Value.int 3 0, Value.ref 271, Value.bool Bool.true, Value.int 370 0, Value.ref 272, Value.none, Value.ref 273, Value.ref 274, Value.ref 275, Value.int 868 0, Value.int 203 0, Value.str (Str.ofString "/claim/cut.py") 869]) #[]) ::
  (nat_lit 277, fO (tS 51) (Str.ofString "_term") Option.none (Value.none) (Value.none) (Value.none) (Value.str (Str.ofString "tablemates.grammar") 649) Option.none (Value.ref 276) (Value.none) 0 #[]) ::
  (nat_lit 278, Obj.mk (Value.type "tuple") Option.none (Data.seq #[]) #[]) ::
  (nat_lit 280, Obj.mk (Value.type "tuple") Option.none (Data.seq #[Value.str (Str.ofString "tokens") 874, Value.str (Str.ofString "at") 875, Value.str (Str.ofString "tree") 876, Value.str (Str.ofString "end") 877]) #[]) ::
  (nat_lit 281, Obj.mk (Value.type "tuple") Option.none (Data.seq #[]) #[]) ::
  (nat_lit 283, Obj.mk (Value.type "code") Option.none (Data.fields #[Value.str (Str.ofString "_factor") 871, Value.str (Str.ofString "_factor") 872, Value.str (Str.ofString "/claim/cut.py") 873, Value.int 205 0, Value.int 2 0, Value.int 0 0, Value.int 0 0, Value.int 3 0, Value.ref 278, Value.bool Bool.true, Value.int 370 0, Value.ref 279, Value.none, Value.ref 280, Value.ref 281, Value.ref 282, Value.int 878 0, Value.int 205 0, Value.str (Str.ofString "/claim/cut.py") 879]) #[]) ::
  (nat_lit 284, fO (tS 52) (Str.ofString "_factor") Option.none (Value.none) (Value.none) (Value.none) (Value.str (Str.ofString "tablemates.grammar") 649) Option.none (Value.ref 283) (Value.none) 0 #[]) ::
  (nat_lit 285, Obj.mk (Value.type "tuple") Option.none (Data.seq #[]) #[]) ::
  (nat_lit 287, Obj.mk (Value.type "tuple") Option.none (Data.seq #[Value.str (Str.ofString "tokens") 884, Value.str (Str.ofString "at") 885, Value.str (Str.ofString "kind") 886, Value.str (Str.ofString "string") 887, Value.str (Str.ofString "row") 888, Value.str (Str.ofString "column") 889, Value.str (Str.ofString "tree") 890, Value.str (Str.ofString "end") 891]) #[]) ::
  (nat_lit 288, Obj.mk (Value.type "tuple") Option.none (Data.seq #[]) #[]) ::
  (nat_lit 290, Obj.mk (Value.type "code") Option.none (Data.fields #[Value.str (Str.ofString "_primary") 881, Value.str (Str.ofString "_primary") 882, Value.str (Str.ofString "/claim/cut.py") 883, Value.int 210 0, Value.int 2 0, Value.int 0 0, Value.int 0 0, Value.int 3 0, Value.ref 285, Value.bool Bool.true, Value.int 370 0, Value.ref 286, Value.none, Value.ref 287, Value.ref 288, Value.ref 289, Value.int 892 0, Value.int 210 0, Value.str (Str.ofString "/claim/cut.py") 893]) #[]) ::
  (nat_lit 291, fO (tS 53) (Str.ofString "_primary") Option.none (Value.none) (Value.none) (Value.none) (Value.str (Str.ofString "tablemates.grammar") 649) Option.none (Value.ref 290) (Value.none) 0 #[]) ::
  (nat_lit 292, Obj.mk (Value.type "tuple") Option.none (Data.seq #[]) #[]) ::
  (nat_lit 294, Obj.mk (Value.type "tuple") Option.none (Data.seq #[Value.str (Str.ofString "tokens") 898, Value.str (Str.ofString "at") 899, Value.str (Str.ofString "areas") 900, Value.str (Str.ofString "end") 901, Value.str (Str.ofString "area") 902]) #[]) ::
  (nat_lit 295, Obj.mk (Value.type "tuple") Option.none (Data.seq #[]) #[]) ::
  (nat_lit 297, Obj.mk (Value.type "code") Option.none (Data.fields #[Value.str (Str.ofString "_call") 895, Value.str (Str.ofString "_call") 896, Value.str (Str.ofString "/claim/cut.py") 897, Value.int 223 0, Value.int 2 0, Value.int 0 0, Value.int 0 0, Value.int 3 0, Value.ref 292, Value.bool Bool.true, Value.int 370 0, Value.ref 293, Value.none, Value.ref 294, Value.ref 295, Value.ref 296, Value.int 903 0, Value.int 223 0, Value.str (Str.ofString "/claim/cut.py") 904]) #[]) ::
  (nat_lit 298, fO (tS 54) (Str.ofString "_call") Option.none (Value.none) (Value.none) (Value.none) (Value.str (Str.ofString "tablemates.grammar") 649) Option.none (Value.ref 297) (Value.none) 0 #[]) ::
  (nat_lit 299, Obj.mk (Value.type "tuple") Option.none (Data.seq #[]) #[]) ::
  (nat_lit 301, Obj.mk (Value.type "tuple") Option.none (Data.seq #[Value.str (Str.ofString "tokens") 909, Value.str (Str.ofString "at") 910, Value.str (Str.ofString "kind") 911, Value.str (Str.ofString "string") 912]) #[]) ::
  (nat_lit 302, Obj.mk (Value.type "tuple") Option.none (Data.seq #[]) #[]) ::
  (nat_lit 304, Obj.mk (Value.type "code") Option.none (Data.fields #[Value.str (Str.ofString "_area") 906, Value.str (Str.ofString "_area") 907, Value.str (Str.ofString "/claim/cut.py") 908, Value.int 230 0, Value.int 2 0, Value.int 0 0, Value.int 0 0, Value.int 3 0, Value.ref 299, Value.bool Bool.true, Value.int 370 0, Value.ref 300, Value.none, Value.ref 301, Value.ref 302, Value.ref 303, Value.int 913 0, Value.int 230 0, Value.str (Str.ofString "/claim/cut.py") 914]) #[]) ::
  (nat_lit 305, fO (tS 55) (Str.ofString "_area") Option.none (Value.none) (Value.none) (Value.none) (Value.str (Str.ofString "tablemates.grammar") 649) Option.none (Value.ref 304) (Value.none) 0 #[]) ::
  (nat_lit 306, Obj.mk (Value.type "tuple") Option.none (Data.seq #[]) #[]) ::
  (nat_lit 308, Obj.mk (Value.type "tuple") Option.none (Data.seq #[Value.str (Str.ofString "corner") 919, Value.str (Str.ofString "other") 920, Value.str (Str.ofString "top") 921, Value.str (Str.ofString "left") 922, Value.str (Str.ofString "bottom") 923, Value.str (Str.ofString "right") 924]) #[]) ::
  (nat_lit 309, Obj.mk (Value.type "tuple") Option.none (Data.seq #[]) #[]) ::
  (nat_lit 311, Obj.mk (Value.type "code") Option.none (Data.fields #[Value.str (Str.ofString "_block") 916, Value.str (Str.ofString "_block") 917, Value.str (Str.ofString "/claim/cut.py") 918, Value.int 239 0, Value.int 2 0, Value.int 0 0, Value.int 0 0, Value.int 3 0, Value.ref 306, Value.bool Bool.true, Value.int 370 0, Value.ref 307, Value.none, Value.ref 308, Value.ref 309, Value.ref 310, Value.int 925 0, Value.int 239 0, Value.str (Str.ofString "/claim/cut.py") 926]) #[]) ::
  (nat_lit 312, fO (tS 56) (Str.ofString "_block") Option.none (Value.none) (Value.none) (Value.none) (Value.str (Str.ofString "tablemates.grammar") 649) Option.none (Value.ref 311) (Value.none) 0 #[]) ::
  (nat_lit 313, Obj.mk (Value.type "tuple") Option.none (Data.seq #[]) #[]) ::
  (nat_lit 315, Obj.mk (Value.type "tuple") Option.none (Data.seq #[Value.str (Str.ofString "token") 931, Value.str (Str.ofString "rows") 932, Value.str (Str.ofString "columns") 933, Value.str (Str.ofString "row") 934, Value.str (Str.ofString "column") 935]) #[]) ::
  (nat_lit 316, Obj.mk (Value.type "tuple") Option.none (Data.seq #[]) #[]) ::
  (nat_lit 318, Obj.mk (Value.type "code") Option.none (Data.fields #[Value.str (Str.ofString "_off_grid") 928, Value.str (Str.ofString "_off_grid") 929, Value.str (Str.ofString "/claim/cut.py") 930, Value.int 245 0, Value.int 3 0, Value.int 0 0, Value.int 0 0, Value.int 3 0, Value.ref 313, Value.bool Bool.true, Value.int 370 0, Value.ref 314, Value.none, Value.ref 315, Value.ref 316, Value.ref 317, Value.int 936 0, Value.int 245 0, Value.str (Str.ofString "/claim/cut.py") 937]) #[]) ::
  (nat_lit 319, fO (tS 57) (Str.ofString "_off_grid") Option.none (Value.none) (Value.none) (Value.none) (Value.str (Str.ofString "tablemates.grammar") 649) Option.none (Value.ref 318) (Value.none) 0 #[]) ::
  (nat_lit 320, Obj.mk (Value.type "tuple") Option.none (Data.seq #[]) #[]) ::
  (nat_lit 322, Obj.mk (Value.type "tuple") Option.none (Data.seq #[Value.str (Str.ofString "text") 942, Value.str (Str.ofString "rows") 943, Value.str (Str.ofString "columns") 944, Value.str (Str.ofString "found") 945, Value.str (Str.ofString "many") 946, Value.str (Str.ofString "whole") 947, Value.str (Str.ofString "at") 948, Value.str (Str.ofString "token") 949]) #[]) ::
  (nat_lit 323, Obj.mk (Value.type "tuple") Option.none (Data.seq #[]) #[]) ::
  (nat_lit 325, Obj.mk (Value.type "code") Option.none (Data.fields #[Value.str (Str.ofString "read_formula") 939, Value.str (Str.ofString "read_formula") 940, Value.str (Str.ofString "/claim/cut.py") 941, Value.int 250 0, Value.int 3 0, Value.int 0 0, Value.int 0 0, Value.int 3 0, Value.ref 320, Value.bool Bool.true, Value.int 370 0, Value.ref 321, Value.none, Value.ref 322, Value.ref 323, Value.ref 324, Value.int 950 0, Value.int 250 0, Value.str (Str.ofString "/claim/cut.py") 951]) #[]) ::
  (nat_lit 326, fO (tS 58) (Str.ofString "read_formula") Option.none (Value.none) (Value.none) (Value.none) (Value.str (Str.ofString "tablemates.grammar") 649) Option.none (Value.ref 325) (Value.none) 0 #[]) ::
  (nat_lit 327, Obj.mk (Value.type "tuple") Option.none (Data.seq #[]) #[]) ::
  (nat_lit 329, Obj.mk (Value.type "tuple") Option.none (Data.seq #[Value.str (Str.ofString "text") 958, Value.str (Str.ofString "rows") 959, Value.str (Str.ofString "columns") 960, Value.str (Str.ofString "x") 961]) #[]) ::
  (nat_lit 330, Obj.mk (Value.type "tuple") Option.none (Data.seq #[]) #[]) ::
  (nat_lit 332, Obj.mk (Value.type "code") Option.none (Data.fields #[Value.str (Str.ofString "read_content") 955, Value.str (Str.ofString "read_content") 956, Value.str (Str.ofString "/claim/cut.py") 957, Value.int 264 0, Value.int 3 0, Value.int 0 0, Value.int 0 0, Value.int 3 0, Value.ref 327, Value.bool Bool.true, Value.int 370 0, Value.ref 328, Value.none, Value.ref 329, Value.ref 330, Value.ref 331, Value.int 962 0, Value.int 264 0, Value.str (Str.ofString "/claim/cut.py") 963]) #[]) ::
  (nat_lit 333, fO (tS 60) (Str.ofString "read_content") Option.none (Value.none) (Value.none) (Value.none) (Value.str (Str.ofString "tablemates.contents") 953) Option.none (Value.ref 332) (Value.none) 0 #[]) ::
  (nat_lit 334, Obj.mk (Value.type "tuple") Option.none (Data.seq #[]) #[]) ::
  (nat_lit 336, Obj.mk (Value.type "tuple") Option.none (Data.seq #[Value.str (Str.ofString "script") 970, Value.str (Str.ofString "k") 971]) #[]) ::
  (nat_lit 337, Obj.mk (Value.type "tuple") Option.none (Data.seq #[]) #[]) ::
  (nat_lit 339, Obj.mk (Value.type "code") Option.none (Data.fields #[Value.str (Str.ofString "_law_cell") 967, Value.str (Str.ofString "_law_cell") 968, Value.str (Str.ofString "/claim/cut.py") 969, Value.int 272 0, Value.int 2 0, Value.int 0 0, Value.int 0 0, Value.int 3 0, Value.ref 334, Value.bool Bool.true, Value.int 370 0, Value.ref 335, Value.none, Value.ref 336, Value.ref 337, Value.ref 338, Value.int 972 0, Value.int 272 0, Value.str (Str.ofString "/claim/cut.py") 973]) #[]) ::
  (nat_lit 340, fO (tS 62) (Str.ofString "_law_cell") Option.none (Value.none) (Value.none) (Value.none) (Value.str (Str.ofString "law_tablemates_k45_moved_contents") 965) Option.none (Value.ref 339) (Value.none) 0 #[]) ::
  (nat_lit 341, Obj.mk (Value.type "tuple") Option.none (Data.seq #[]) #[]) ::
  (nat_lit 343, Obj.mk (Value.type "tuple") Option.none (Data.seq #[Value.str (Str.ofString "cell") 978, Value.str (Str.ofString "k") 979, Value.str (Str.ofString "most") 980, Value.str (Str.ofString "digits") 981, Value.str (Str.ofString "turn") 982, Value.str (Str.ofString "seed") 983]) #[]) ::
  (nat_lit 344, Obj.mk (Value.type "tuple") Option.none (Data.seq #[]) #[]) ::
  (nat_lit 346, Obj.mk (Value.type "code") Option.none (Data.fields #[Value.str (Str.ofString "_law_digits") 975, Value.str (Str.ofString "_law_digits") 976, Value.str (Str.ofString "/claim/cut.py") 977, Value.int 276 0, Value.int 3 0, Value.int 0 0, Value.int 0 0, Value.int 3 0, Value.ref 341, Value.bool Bool.true, Value.int 370 0, Value.ref 342, Value.none, Value.ref 343, Value.ref 344, Value.ref 345, Value.int 984 0, Value.int 276 0, Value.str (Str.ofString "/claim/cut.py") 985]) #[]) ::
  (nat_lit 347, fO (tS 63) (Str.ofString "_law_digits") Option.none (Value.none) (Value.none) (Value.none) (Value.str (Str.ofString "law_tablemates_k45_moved_contents") 965) Option.none (Value.ref 346) (Value.none) 0 #[]) ::
  (nat_lit 348, Obj.mk (Value.type "tuple") Option.none (Data.seq #[]) #[]) ::
  (nat_lit 350, Obj.mk (Value.type "tuple") Option.none (Data.seq #[Value.str (Str.ofString "cell") 990, Value.str (Str.ofString "k") 991, Value.str (Str.ofString "d") 992, Value.str (Str.ofString "turn") 993]) #[]) ::
  (nat_lit 351, Obj.mk (Value.type "tuple") Option.none (Data.seq #[]) #[]) ::
  (nat_lit 353, Obj.mk (Value.type "code") Option.none (Data.fields #[Value.str (Str.ofString "_law_padded") 987, Value.str (Str.ofString "_law_padded") 988, Value.str (Str.ofString "/claim/cut.py") 989, Value.int 291 0, Value.int 2 0, Value.int 0 0, Value.int 0 0, Value.int 3 0, Value.ref 348, Value.bool Bool.true, Value.int 370 0, Value.ref 349, Value.none, Value.ref 350, Value.ref 351, Value.ref 352, Value.int 994 0, Value.int 291 0, Value.str (Str.ofString "/claim/cut.py") 995]) #[]) ::
  (nat_lit 354, fO (tS 64) (Str.ofString "_law_padded") Option.none (Value.none) (Value.none) (Value.none) (Value.str (Str.ofString "law_tablemates_k45_moved_contents") 965) Option.none (Value.ref 353) (Value.none) 0 #[]) ::
  (nat_lit 355, Obj.mk (Value.type "tuple") Option.none (Data.seq #[]) #[]) ::
  (nat_lit 357, Obj.mk (Value.type "tuple") Option.none (Data.seq #[Value.str (Str.ofString "digit") 1000]) #[]) ::
  (nat_lit 358, Obj.mk (Value.type "tuple") Option.none (Data.seq #[]) #[]) ::
  (nat_lit 360, Obj.mk (Value.type "code") Option.none (Data.fields #[Value.str (Str.ofString "_law_address") 997, Value.str (Str.ofString "_law_address") 998, Value.str (Str.ofString "/claim/cut.py") 999, Value.int 296 0, Value.int 1 0, Value.int 0 0, Value.int 0 0, Value.int 3 0, Value.ref 355, Value.bool Bool.true, Value.int 370 0, Value.ref 356, Value.none, Value.ref 357, Value.ref 358, Value.ref 359, Value.int 1001 0, Value.int 296 0, Value.str (Str.ofString "/claim/cut.py") 1002]) #[]) ::
  (nat_lit 361, fO (tS 65) (Str.ofString "_law_address") Option.none (Value.none) (Value.none) (Value.none) (Value.str (Str.ofString "law_tablemates_k45_moved_contents") 965) Option.none (Value.ref 360) (Value.none) 0 #[]) ::
  (nat_lit 362, Obj.mk (Value.type "tuple") Option.none (Data.seq #[]) #[]) ::
  (nat_lit 364, Obj.mk (Value.type "tuple") Option.none (Data.seq #[Value.str (Str.ofString "d") 1007, Value.str (Str.ofString "kind") 1008, Value.str (Str.ofString "one") 1009, Value.str (Str.ofString "other") 1010, Value.str (Str.ofString "number") 1011]) #[]) ::
  (nat_lit 365, Obj.mk (Value.type "tuple") Option.none (Data.seq #[]) #[]) ::
  (nat_lit 367, Obj.mk (Value.type "code") Option.none (Data.fields #[Value.str (Str.ofString "_law_text") 1004, Value.str (Str.ofString "_law_text") 1005, Value.str (Str.ofString "/claim/cut.py") 1006, Value.int 298 0, Value.int 1 0, Value.int 0 0, Value.int 0 0, Value.int 3 0, Value.ref 362, Value.bool Bool.true, Value.int 370 0, Value.ref 363, Value.none, Value.ref 364, Value.ref 365, Value.ref 366, Value.int 1012 0, Value.int 298 0, Value.str (Str.ofString "/claim/cut.py") 1013]) #[]) ::
  (nat_lit 368, fO (tS 66) (Str.ofString "_law_text") Option.none (Value.none) (Value.none) (Value.none) (Value.str (Str.ofString "law_tablemates_k45_moved_contents") 965) Option.none (Value.ref 367) (Value.none) 0 #[]) ::
  (nat_lit 369, Obj.mk (Value.type "tuple") Option.none (Data.seq #[]) #[]) ::
  (nat_lit 371, Obj.mk (Value.type "tuple") Option.none (Data.seq #[Value.str (Str.ofString "d") 1018, Value.str (Str.ofString "rows") 1019, Value.str (Str.ofString "columns") 1020]) #[]) ::
  (nat_lit 372, Obj.mk (Value.type "tuple") Option.none (Data.seq #[]) #[]) ::
  (nat_lit 374, Obj.mk (Value.type "code") Option.none (Data.fields #[Value.str (Str.ofString "_law_read") 1015, Value.str (Str.ofString "_law_read") 1016, Value.str (Str.ofString "/claim/cut.py") 1017, Value.int 318 0, Value.int 3 0, Value.int 0 0, Value.int 0 0, Value.int 3 0, Value.ref 369, Value.bool Bool.true, Value.int 370 0, Value.ref 370, Value.none, Value.ref 371, Value.ref 372, Value.ref 373, Value.int 1021 0, Value.int 318 0, Value.str (Str.ofString "/claim/cut.py") 1022]) #[]) ::
  (nat_lit 375, fO (tS 67) (Str.ofString "_law_read") Option.none (Value.none) (Value.none) (Value.none) (Value.str (Str.ofString "law_tablemates_k45_moved_contents") 965) Option.none (Value.ref 374) (Value.none) 0 #[]) ::
  (nat_lit 376, Obj.mk (Value.type "tuple") Option.none (Data.seq #[]) #[]) ::
  (nat_lit 378, Obj.mk (Value.type "tuple") Option.none (Data.seq #[Value.str (Str.ofString "tree") 1027]) #[]) ::
  (nat_lit 379, Obj.mk (Value.type "tuple") Option.none (Data.seq #[]) #[]) ::
  (nat_lit 381, Obj.mk (Value.type "code") Option.none (Data.fields #[Value.str (Str.ofString "_law_frame") 1024, Value.str (Str.ofString "_law_frame") 1025, Value.str (Str.ofString "/claim/cut.py") 1026, Value.int 323 0, Value.int 1 0, Value.int 0 0, Value.int 0 0, Value.int 3 0, Value.ref 376, Value.bool Bool.true, Value.int 370 0, Value.ref 377, Value.none, Value.ref 378, Value.ref 379, Value.ref 380, Value.int 1028 0, Value.int 323 0, Value.str (Str.ofString "/claim/cut.py") 1029]) #[]) ::
  (nat_lit 382, fO (tS 68) (Str.ofString "_law_frame") Option.none (Value.none) (Value.none) (Value.none) (Value.str (Str.ofString "law_tablemates_k45_moved_contents") 965) Option.none (Value.ref 381) (Value.none) 0 #[]) ::
  (nat_lit 383, Obj.mk (Value.type "tuple") Option.none (Data.seq #[]) #[]) ::
  (nat_lit 385, Obj.mk (Value.type "tuple") Option.none (Data.seq #[Value.str (Str.ofString "tree") 1034, Value.str (Str.ofString "down") 1035, Value.str (Str.ofString "right") 1036, Value.str (Str.ofString "rows") 1037, Value.str (Str.ofString "columns") 1038, Value.str (Str.ofString "found") 1039, Value.str (Str.ofString "area") 1040, Value.str (Str.ofString "top") 1041, Value.str (Str.ofString "left") 1042, Value.str (Str.ofString "low") 1043, Value.str (Str.ofString "far") 1044]) #[]) ::
  (nat_lit 386, Obj.mk (Value.type "tuple") Option.none (Data.seq #[]) #[]) ::
  (nat_lit 388, Obj.mk (Value.type "code") Option.none (Data.fields #[Value.str (Str.ofString "_law_areas") 1031, Value.str (Str.ofString "_law_areas") 1032, Value.str (Str.ofString "/claim/cut.py") 1033, Value.int 333 0, Value.int 5 0, Value.int 0 0, Value.int 0 0, Value.int 3 0, Value.ref 383, Value.bool Bool.true, Value.int 370 0, Value.ref 384, Value.none, Value.ref 385, Value.ref 386, Value.ref 387, Value.int 1045 0, Value.int 333 0, Value.str (Str.ofString "/claim/cut.py") 1046]) #[]) ::
  (nat_lit 389, fO (tS 69) (Str.ofString "_law_areas") Option.none (Value.none) (Value.none) (Value.none) (Value.str (Str.ofString "law_tablemates_k45_moved_contents") 965) Option.none (Value.ref 388) (Value.none) 0 #[]) ::
  (nat_lit 390, Obj.mk (Value.type "tuple") Option.none (Data.seq #[]) #[]) ::
  (nat_lit 392, Obj.mk (Value.type "tuple") Option.none (Data.seq #[Value.str (Str.ofString "script") 1051, Value.str (Str.ofString "rows") 1052, Value.str (Str.ofString "columns") 1053, Value.str (Str.ofString "k") 1054, Value.str (Str.ofString "cell") 1055, Value.str (Str.ofString "d") 1056, Value.str (Str.ofString "content") 1057, Value.str (Str.ofString "down") 1058, Value.str (Str.ofString "right") 1059, Value.str (Str.ofString "moved") 1060, Value.str (Str.ofString "due") 1061, Value.str (Str.ofString "place") 1062]) #[]) ::
  (nat_lit 393, Obj.mk (Value.type "tuple") Option.none (Data.seq #[]) #[]) ::
  (nat_lit 395, Obj.mk (Value.type "code") Option.none (Data.fields #[Value.str (Str.ofString "law") 1048, Value.str (Str.ofString "law") 1049, Value.str (Str.ofString "/claim/cut.py") 1050, Value.int 348 0, Value.int 1 0, Value.int 0 0, Value.int 0 0, Value.int 3 0, Value.ref 390, Value.bool Bool.true, Value.int 370 0, Value.ref 391, Value.none, Value.ref 392, Value.ref 393, Value.ref 394, Value.int 1063 0, Value.int 348 0, Value.str (Str.ofString "/claim/cut.py") 1064]) #[]) ::
  (nat_lit 396, fO (tS 70) (Str.ofString "law") Option.none (Value.none) (Value.none) (Value.none) (Value.str (Str.ofString "law_tablemates_k45_moved_contents") 965) Option.none (Value.ref 395) (Value.none) 0 #[]) ::
  []
end
end My.Hd
namespace My.Hd
open PySem PySem.W PyProof.Rows HS
set_option maxHeartbeats 0
theorem ea (w : World) : EqA pp w 5000 12 20000 bb (bb.take 44) envM pz pz ⟨165, 0, 165, 13⟩ (some (.ref 6)) "STEPS" 208 655 := by
  unfold EqA
  kernel_rfl
theorem eb1 (w : World) : EqG pp w 5000 12 20000 20000 bb (bb.take 44) (bb.drop 45) envM pz pz (some (.ref 6)) "STEPS" ee (G1 pp qq ["PARTS", "STEPS"] (fun s => xlAt qq [] s && recOk [] s) aa ee 208) (V1 qq K1 w ee 655) := by
  unfold EqG
  intro D1 D2 q4
  kernel_rfl
theorem eb2 (w : World) : EqG pp w 5000 12 20000 20000 bb (bb.take 44) (bb.drop 45) envM pz pz (some (.ref 6)) "STEPS" ee (G2 pp qq ["PARTS", "STEPS"] (fun s => xlAt qq [] s && recOk [] s)) V2 := by
  unfold EqG
  intro D1 D2 q4
  kernel_rfl
theorem eb3 (w : World) : EqG pp w 5000 12 20000 20000 bb (bb.take 44) (bb.drop 45) envM pz pz (some (.ref 6)) "STEPS" ee (G3 pp qq ["PARTS", "STEPS"] (fun s => xlAt qq [] s && recOk [] s)) (V3 qq ["PARTS", "STEPS"]) := by
  unfold EqG
  intro D1 D2 q4
  kernel_rfl
theorem eb4 (w : World) : EqG pp w 5000 12 20000 20000 bb (bb.take 44) (bb.drop 45) envM pz pz (some (.ref 6)) "STEPS" ee (G4 pp qq ["PARTS", "STEPS"] (fun s => xlAt qq [] s && recOk [] s)) (V4 qq ["PARTS", "STEPS"]) := by
  unfold EqG
  intro D1 D2 q4
  kernel_rfl
theorem st (w : World) : Stands pp qq ["PARTS", "STEPS"] [] (XL qq []) (InK KK) w := by
  refine Stands.mono (fun h y => with_tab (prog := pp) y (by kernel_rfl)) (stands_steps (K := K1) (A := bb.take 44) (B := bb.drop 45) (env := envM) (nm := "STEPS") (pn := (posS sS).1) (pd := (posS sS).2.1) (pos := (posS sS).2.2) (by kernel_rfl) (ks := keys sS) (vs := vals sS) (by kernel_rfl) (by decide +kernel) (by decide +kernel) (by decide +kernel) (fun v => by rfl) (by rfl) (by decide +kernel) (by decide +kernel) (by decide +kernel) (ea w) (eqB_of (eb1 w) (eb2 w) (eb3 w) (eb4 w)) (by decide +kernel)
    (fun s z => ⟨xl_of s (Bool.and_eq_true_iff.mp z).1, recFacts_of (Bool.and_eq_true_iff.mp z).2⟩) (fun P => by kernel_rfl))
theorem stDict (P : Program) (w : World) (h : Heap) (X : (KK w.params).In h) : h.DictOfH (kn P w) 208 STX := dict_of (n := ee.length) (by kernel_rfl) (by kernel_rfl) (by decide +kernel) h X
end My.Hd
namespace My
open PySem PySem.Spec PyProof.Rows L2 RZ
def aST : Addr := 208
/-! ### the table of the grammar's steps -/
def rowsT : List (Str × Str × Str) := [("factor", "-", "primary"), ("factor", "decimal", "behind"), ("factor", "address", "behind"), ("factor", "gone", "behind"), ("factor", "call", "call"), ("factor", "(", "factor"),
  ("primary", "decimal", "behind"), ("primary", "address", "behind"), ("primary", "gone", "behind"), ("primary", "call", "call"), ("primary", "(", "factor"),
  ("behind", "+", "factor"), ("behind", "-", "factor"), ("behind", "*", "factor"), ("behind", "/", "factor"), ("behind", ")", "behind"), ("call", "(", "area"),
  ("area", "address", "corner"), ("area", "gone", "last"), ("area", "name", "last"), ("corner", ":", "other"), ("corner", ",", "area"), ("corner", ")", "behind"), ("other", "address", "last"), ("last", ",", "area"), ("last", ")", "behind")]
def stepT (a b : Str) : Option Str := (rowsT.find? fun e => decide (e.1 = a ∧ e.2.1 = b)).map (·.2.2)
inductive TabIs : List (List PySem.Leaf × Addr × Value) → List (Str × Str × Str) → Prop
  | nil : TabIs [] []
  | cons {a b s : Str} {ad : Addr} {t : Nat} {xs : List (List PySem.Leaf × Addr × Value)} {es : List (Str × Str × Str)} (r : TabIs xs es) : TabIs (([.text a, .text b], ad, .str s t) :: xs) ((a, b, s) :: es)
structure StepsC (P : Program) (w : World) (K : PySem.W.Frag) : Prop where
  tab : ∃ xs, (∀ h : Heap, K.In h → h.DictOfH (tupleKind (PySem.leafKind P w)) aST xs) ∧ TabIs xs rowsT
/-- the second of a step's key: a text or none -/
def kL : Option Str → PySem.Leaf
  | some t => .text t
  | none => .none
def kO : Option Str → V
  | some t => .str t
  | none => .non
def stepO (s : Str) (t : Option Str) : Option Str := t.bind (stepT s)
theorem TabIs.at_ {xs : List (List PySem.Leaf × Addr × Value)} {es : List (Str × Str × Str)} (r : TabIs xs es) (a b : Str) : (atKey xs [.text a, .text b] = none ∧ (es.find? fun e => decide (e.1 = a ∧ e.2.1 = b)).map (·.2.2) = none) ∨
    ∃ ad s t, atKey xs [.text a, .text b] = some (ad, .str s t) ∧ (es.find? fun e => decide (e.1 = a ∧ e.2.1 = b)).map (·.2.2) = some s := by
  induction r with
  | nil => exact .inl ⟨rfl, rfl⟩
  | @cons x y s ad t xs es r ih =>
    by_cases c : x = a ∧ y = b
    · obtain ⟨rfl, rfl⟩ := c
      refine .inr ⟨ad, s, t, ?_, ?_⟩
      · simp [atKey]
      · simp
    · have k : ¬ (([PySem.Leaf.text x, PySem.Leaf.text y] : List PySem.Leaf) = [.text a, .text b]) := by
        intro e
        apply c
        simpa using e
      have e1 : atKey (([.text x, .text y], ad, .str s t) :: xs) [.text a, .text b] = atKey xs [.text a, .text b] := by
        unfold atKey
        rw [List.find?_cons_of_neg (by simpa using k)]
      have e2 : (((x, y, s) :: es).find? fun e => decide (e.1 = a ∧ e.2.1 = b)) = es.find? fun e => decide (e.1 = a ∧ e.2.1 = b) := by
        rw [List.find?_cons_of_neg (by simpa using c)]
      rw [e1, e2]
      exact ih
theorem TabIs.no {xs : List (List PySem.Leaf × Addr × Value)} {es : List (Str × Str × Str)} (r : TabIs xs es) (a : Str) : atKey xs [.text a, .none] = none := by
  induction r with
  | nil => rfl
  | @cons x y s ad t xs es r ih =>
    have e1 : atKey (([.text x, .text y], ad, .str s t) :: xs) [.text a, .none] = atKey xs [.text a, .none] := by
      unfold atKey
      rw [List.find?_cons_of_neg (by simp)]
    rw [e1]
    exact ih
theorem leaf_key {P : Program} {w : World} {H : Hp} {h : Heap} {a : Addr} {s : Str} {t : Option Str} (ok : HOk P w H h) (e : H a = some (.tup [.str s, kO t])) : (tupleKind (PySem.leafKind P w)).is h [.text s, kL t] a := by
  obtain ⟨_, its, r, o, h1, h2, n, h3⟩ := (show ObjOk P w H h a (.tup [.str s, kO t]) from ok a _ e)
  refine ⟨o, its.toArray, n, h1, h2, h3, ?_⟩
  cases r with
  | cons r1 r2 =>
    cases r2 with
    | cons r2 r3 =>
      cases r3
      obtain ⟨u, rfl⟩ := r1
      cases t with
      | some t =>
        obtain ⟨u2, rfl⟩ := r2
        exact .cons (by show (s == s) = true; simp) (.cons (by show (t == t) = true; simp) .nil)
      | none =>
        have : _ = Value.none := r2
        subst this
        exact .cons (by show (s == s) = true; simp) (.cons rfl .nil)
section
open PySem PySem.Calls PyProof.Rows PyProof.V PySem.Spec
variable {X : Cx}
/-- STEPS.get((state, symbol)): the symbol a text or none -/
theorem pe_stepsGet {o e : Expr} {to te : TE} {apos cpos : Pos} (SC : StepsC X.prog X.w X.K) (hu : X.A.units + 1 < cLine) (ho : PE X o to) (he : PE X e te)
    (hbase : attributeBase o "get" X.env (eval o X.env) = eval o X.env := by rfl)
    (hfew : ((backTo cpos (starEach [e] X.env)).all (fun x => !x.1) && (backToKw cpos (keywordEach [] X.env)).all (fun x => x.1.isSome)
      && decide ([e].length + ([] : List Keyword).length + (if ([] : List Keyword).isEmpty then 0 else 1) < 30)) = true := by rfl)
    (hline : (apos.endLine == cpos.line) = true := by rfl) (hs : starEach [e] X.env = [(false, eval e X.env)] := by rfl) :
    PE X (.Call (.Attribute o "get" apos) [e] [] cpos) (fun σ H Q => to σ H fun x H1 => x = .ref aST ∧ tCons te tNil σ H1 fun ys H2 => ∃ (b : Addr) (s : Str) (t : Option Str), ys = [.ref b] ∧ H2 b = some (.tup [.str s, kO t]) ∧ Q (match stepO s t with | some u => .str u | none => .non) H2) := by
  refine ⟨fun pins s σ H Q I h => ?_⟩
  have ha : PA X [e] (tCons te tNil) := pa_cons (hs := hs) he pa_nil
  refine wpAny_Call_method_late hbase hfew hline rfl (thn (ho.run pins s σ H _ I h) fun v s1 ⟨x, H1, I1, r1, ex, q1⟩ => ?_)
  subst ex
  obtain rfl : v = Value.ref aST := r1
  obtain ⟨xs, tab, ti⟩ := SC.tab
  have dd := tab s1.heap I1.kIn
  obtain ⟨od, es, ep, od1, od2, _⟩ := id dd
  refine ⟨"dict", "dict.get", PySem.F.plainAttrs_dict, PySem.F.slot_dict_get, PySem.F.type_dict_get, dd.typeIs, fun a ea => ⟨od, by cases ea; exact od1, od2.2.1⟩, ?_⟩
  have hA := ha.run cpos pins s1 σ H1 (fun vs H2 => ∃ (b : Addr) (s : Str) (t : Option Str), vs = [.ref b] ∧ H2 b = some (.tup [.str s, kO t]) ∧ Q (match stepO s t with | some u => .str u | none => .non) H2) I1 q1
  rw [hs] at hA ⊢
  refine Calls.callWith_builtin rfl (Calls.evalArgs_plain ?_)
  refine thn hA fun us s2 ⟨vs, H2, I2, r2, b, s', t', ev, hb, q2⟩ => ?_
  subst ev
  obtain ⟨u, rfl, ru⟩ := r2.one
  obtain rfl : u = Value.ref b := ru
  have dd2 := tab s2.heap I2.kIn
  have ky : (tupleKind (PySem.leafKind X.prog X.w)).is s2.heap [.text s', kL t'] b := leaf_key I2.hok hb
  refine call_meetsIn PySem.F.slot_dict_get dd2.typeIs PySem.F.entry_dict_get (PySem.F.args_dict_get_2 _ _) (meetsH_dict_get (tupleKind (PySem.leafKind X.prog X.w)) aST b (by decide)) ⟨tupleKind_room_in1 hu, _, xs, ky, dd2, ?_⟩
  cases t' with
  | none =>
    rw [show stepO s' none = none from rfl] at q2
    rw [show kL none = PySem.Leaf.none from rfl, ti.no]
    exact ⟨.non, H2, I2.tok _, rfl, q2⟩
  | some t' =>
    rw [show stepO s' (some t') = stepT s' t' from rfl] at q2
    rw [show kL (some t') = PySem.Leaf.text t' from rfl]
    rcases ti.at_ s' t' with ⟨e1, e2⟩ | ⟨ad, r, tk, e1, e2⟩
    · rw [show stepT s' t' = none from e2] at q2
      rw [e1]
      exact ⟨.non, H2, I2.tok _, rfl, q2⟩
    · rw [show stepT s' t' = some r from e2] at q2
      rw [e1]
      exact ⟨.str r, H2, I2.tok _, ⟨_, rfl⟩, q2⟩
end
def topS (i : Nat) : Stmt := PySem.Challenge.pw_tablemates_k45_moved_contents.main.body.getD i (.Pass ⟨0, 0, 0, 0⟩)
abbrev sFraction : Stmt := topS 5
abbrev sIsDigits : Stmt := topS 11
abbrev sReadDecimal : Stmt := topS 12
abbrev sReadNumber : Stmt := topS 13
abbrev sRunEnd : Stmt := topS 19
abbrev sReadAddress : Stmt := topS 20
abbrev sTokenEnd : Stmt := topS 21
abbrev sKind : Stmt := topS 22
abbrev sTokenList : Stmt := topS 23
abbrev sIsNameWord : Stmt := topS 30
abbrev sSize : Stmt := topS 31
abbrev sNamedCells : Stmt := topS 32
abbrev sAreasOf : Stmt := topS 33
abbrev sMappedAreas : Stmt := topS 34
abbrev sMapped : Stmt := topS 35
abbrev sWithTree : Stmt := topS 38
abbrev sMovedCorners : Stmt := topS 39
abbrev sMovedTree : Stmt := topS 40
abbrev sMovedContent : Stmt := topS 41
abbrev sSymbol : Stmt := topS 46
abbrev sDepthBehind : Stmt := topS 47
abbrev sWalk : Stmt := topS 48
abbrev sChain : Stmt := topS 49
abbrev sFormula : Stmt := topS 50
abbrev sTerm : Stmt := topS 51
abbrev sFactor : Stmt := topS 52
abbrev sPrimary : Stmt := topS 53
abbrev sCall : Stmt := topS 54
abbrev sArea : Stmt := topS 55
abbrev sBlock : Stmt := topS 56
abbrev sOffGrid : Stmt := topS 57
abbrev sReadFormula : Stmt := topS 58
abbrev sReadContent : Stmt := topS 60
abbrev sLawCell : Stmt := topS 62
abbrev sLawDigits : Stmt := topS 63
abbrev sLawPadded : Stmt := topS 64
abbrev sLawAddress : Stmt := topS 65
abbrev sLawText : Stmt := topS 66
abbrev sLawRead : Stmt := topS 67
abbrev sLawFrame : Stmt := topS 68
abbrev sLawAreas : Stmt := topS 69
abbrev sLaw : Stmt := topS 70
abbrev sFormulaFault_Init : Stmt := inClass (topS 3) 0
theorem scFormulaFault_Init : FnScope ["self", "place", "word"] ["self", "place", "word"] (defScope sFormulaFault_Init) := ⟨rfl, rfl, rfl, by decide +kernel, rfl, by decide +kernel, by decide +kernel⟩
/-! ### error classes with fields -/
structure ExK (K : PySem.W.Frag) (C : Addr) : Prop where
  cl : PySem.W.isClsIn K C = true
  x : XfC K C
  cc : PySem.W.findIn K (.ref C) "__class__" = some (some (.builtin "object.__class__"))
  cn : PySem.W.specialIn K (.builtin "object.__class__") "__get__" = some (some (.builtin "getset_descriptor.__get__"))
  ct : PySem.W.takesIn K (.builtin "object.__class__") = some true
  cm : PySem.W.mroIn K C (.type "object") = some true
theorem kit_self {K : PySem.W.Frag} {t : Value} : PySem.W.kitOne K t t = some true := if_pos (beq_self_eq_true t)
theorem scFraction : FnScope ["n", "d", "common"] ["n", "d"] (defScope sFraction) := ⟨rfl, rfl, rfl, by decide +kernel, rfl, by decide +kernel, by decide +kernel⟩
theorem scIsDigits : FnScope ["text", "character"] ["text"] (defScope sIsDigits) := ⟨rfl, rfl, rfl, by decide +kernel, rfl, by decide +kernel, by decide +kernel⟩
theorem scReadDecimal : FnScope ["text", "whole", "point", "rest"] ["text"] (defScope sReadDecimal) := ⟨rfl, rfl, rfl, by decide +kernel, rfl, by decide +kernel, by decide +kernel⟩
theorem scReadNumber : FnScope ["text", "x"] ["text"] (defScope sReadNumber) := ⟨rfl, rfl, rfl, by decide +kernel, rfl, by decide +kernel, by decide +kernel⟩
theorem scRunEnd : FnScope ["text", "at", "characters"] ["text", "at", "characters"] (defScope sRunEnd) := ⟨rfl, rfl, rfl, by decide +kernel, rfl, by decide +kernel, by decide +kernel⟩
theorem scReadAddress : FnScope ["text", "middle", "letters", "digits", "column", "letter"] ["text"] (defScope sReadAddress) := ⟨rfl, rfl, rfl, by decide +kernel, rfl, by decide +kernel, by decide +kernel⟩
theorem scTokenEnd : FnScope ["text", "at", "end", "behind"] ["text", "at"] (defScope sTokenEnd) := ⟨rfl, rfl, rfl, by decide +kernel, rfl, by decide +kernel, by decide +kernel⟩
theorem scKind : FnScope ["token", "first"] ["token"] (defScope sKind) := ⟨rfl, rfl, rfl, by decide +kernel, rfl, by decide +kernel, by decide +kernel⟩
theorem scTokenList : FnScope ["text", "found", "at", "end"] ["text"] (defScope sTokenList) := ⟨rfl, rfl, rfl, by decide +kernel, rfl, by decide +kernel, by decide +kernel⟩
theorem scIsNameWord : FnScope ["text", "character"] ["text"] (defScope sIsNameWord) := ⟨rfl, rfl, rfl, by decide +kernel, rfl, by decide +kernel, by decide +kernel⟩
theorem scSize : FnScope ["tree"] ["tree"] (defScope sSize) := ⟨rfl, rfl, rfl, by decide +kernel, rfl, by decide +kernel, by decide +kernel⟩
theorem scNamedCells : FnScope ["tree"] ["tree"] (defScope sNamedCells) := ⟨rfl, rfl, rfl, by decide +kernel, rfl, by decide +kernel, by decide +kernel⟩
theorem scAreasOf : FnScope ["tree"] ["tree"] (defScope sAreasOf) := ⟨rfl, rfl, rfl, by decide +kernel, rfl, by decide +kernel, by decide +kernel⟩
theorem scMappedAreas : FnScope ["areas", "area", "found", "old"] ["areas", "area"] (defScope sMappedAreas) := ⟨rfl, rfl, rfl, by decide +kernel, rfl, by decide +kernel, by decide +kernel⟩
theorem scMapped : FnScope ["tree", "cell", "area"] ["tree", "cell", "area"] (defScope sMapped) := ⟨rfl, rfl, rfl, by decide +kernel, rfl, by decide +kernel, by decide +kernel⟩
theorem scWithTree : FnScope ["content", "changed"] ["content", "changed"] (defScope sWithTree) := ⟨rfl, rfl, rfl, by decide +kernel, rfl, by decide +kernel, by decide +kernel⟩
theorem scMovedCorners : FnScope ["part", "down", "right", "rows", "columns", "found", "row", "column"] ["part", "down", "right", "rows", "columns"] (defScope sMovedCorners) := ⟨rfl, rfl, rfl, by decide +kernel, rfl, by decide +kernel, by decide +kernel⟩
theorem scMovedTree : FnScope ["tree", "down", "right", "rows", "columns", "moved_area"] ["tree", "down", "right", "rows", "columns"] (defScope sMovedTree) := ⟨rfl, rfl, rfl, by decide +kernel, rfl, by decide +kernel, by decide +kernel⟩
theorem scMovedContent : FnScope ["content", "down", "right", "rows", "columns"] ["content", "down", "right", "rows", "columns"] (defScope sMovedContent) := ⟨rfl, rfl, rfl, by decide +kernel, rfl, by decide +kernel, by decide +kernel⟩
theorem scSymbol : FnScope ["token", "kind", "string"] ["token"] (defScope sSymbol) := ⟨rfl, rfl, rfl, by decide +kernel, rfl, by decide +kernel, by decide +kernel⟩
theorem scDepthBehind : FnScope ["state", "symbol", "depth"] ["state", "symbol", "depth"] (defScope sDepthBehind) := ⟨rfl, rfl, rfl, by decide +kernel, rfl, by decide +kernel, by decide +kernel⟩
theorem scWalk : FnScope ["tokens", "state", "depth", "at", "token", "symbol"] ["tokens"] (defScope sWalk) := ⟨rfl, rfl, rfl, by decide +kernel, rfl, by decide +kernel, by decide +kernel⟩
theorem scChain : FnScope ["tokens", "at", "signs", "part", "left", "sign", "right"] ["tokens", "at", "signs", "part"] (defScope sChain) := ⟨rfl, rfl, rfl, by decide +kernel, rfl, by decide +kernel, by decide +kernel⟩
theorem scFormula : FnScope ["tokens", "at"] ["tokens", "at"] (defScope sFormula) := ⟨rfl, rfl, rfl, by decide +kernel, rfl, by decide +kernel, by decide +kernel⟩
theorem scTerm : FnScope ["tokens", "at"] ["tokens", "at"] (defScope sTerm) := ⟨rfl, rfl, rfl, by decide +kernel, rfl, by decide +kernel, by decide +kernel⟩
theorem scFactor : FnScope ["tokens", "at", "tree", "end"] ["tokens", "at"] (defScope sFactor) := ⟨rfl, rfl, rfl, by decide +kernel, rfl, by decide +kernel, by decide +kernel⟩
theorem scPrimary : FnScope ["tokens", "at", "kind", "string", "row", "column", "tree", "end"] ["tokens", "at"] (defScope sPrimary) := ⟨rfl, rfl, rfl, by decide +kernel, rfl, by decide +kernel, by decide +kernel⟩
theorem scCall : FnScope ["tokens", "at", "areas", "end", "area"] ["tokens", "at"] (defScope sCall) := ⟨rfl, rfl, rfl, by decide +kernel, rfl, by decide +kernel, by decide +kernel⟩
theorem scArea : FnScope ["tokens", "at", "kind", "string"] ["tokens", "at"] (defScope sArea) := ⟨rfl, rfl, rfl, by decide +kernel, rfl, by decide +kernel, by decide +kernel⟩
theorem scBlock : FnScope ["corner", "other", "top", "left", "bottom", "right"] ["corner", "other"] (defScope sBlock) := ⟨rfl, rfl, rfl, by decide +kernel, rfl, by decide +kernel, by decide +kernel⟩
theorem scOffGrid : FnScope ["token", "rows", "columns", "row", "column"] ["token", "rows", "columns"] (defScope sOffGrid) := ⟨rfl, rfl, rfl, by decide +kernel, rfl, by decide +kernel, by decide +kernel⟩
theorem scReadFormula : FnScope ["text", "rows", "columns", "found", "many", "whole", "at", "token"] ["text", "rows", "columns"] (defScope sReadFormula) := ⟨rfl, rfl, rfl, by decide +kernel, rfl, by decide +kernel, by decide +kernel⟩
theorem scReadContent : FnScope ["text", "rows", "columns", "x"] ["text", "rows", "columns"] (defScope sReadContent) := ⟨rfl, rfl, rfl, by decide +kernel, rfl, by decide +kernel, by decide +kernel⟩
theorem scLawCell : FnScope ["script", "k"] ["script", "k"] (defScope sLawCell) := ⟨rfl, rfl, rfl, by decide +kernel, rfl, by decide +kernel, by decide +kernel⟩
theorem scLawDigits : FnScope ["cell", "k", "most", "digits", "turn", "seed"] ["cell", "k", "most"] (defScope sLawDigits) := ⟨rfl, rfl, rfl, by decide +kernel, rfl, by decide +kernel, by decide +kernel⟩
theorem scLawPadded : FnScope ["cell", "k", "d", "turn"] ["cell", "k"] (defScope sLawPadded) := ⟨rfl, rfl, rfl, by decide +kernel, rfl, by decide +kernel, by decide +kernel⟩
theorem scLawAddress : FnScope ["digit"] ["digit"] (defScope sLawAddress) := ⟨rfl, rfl, rfl, by decide +kernel, rfl, by decide +kernel, by decide +kernel⟩
theorem scLawText : FnScope ["d", "kind", "one", "other", "number"] ["d"] (defScope sLawText) := ⟨rfl, rfl, rfl, by decide +kernel, rfl, by decide +kernel, by decide +kernel⟩
theorem scLawRead : FnScope ["d", "rows", "columns"] ["d", "rows", "columns"] (defScope sLawRead) := ⟨rfl, rfl, rfl, by decide +kernel, rfl, by decide +kernel, by decide +kernel⟩
theorem scLawFrame : FnScope ["tree"] ["tree"] (defScope sLawFrame) := ⟨rfl, rfl, rfl, by decide +kernel, rfl, by decide +kernel, by decide +kernel⟩
theorem scLawAreas : FnScope ["tree", "down", "right", "rows", "columns", "found", "area", "top", "left", "low", "far"] ["tree", "down", "right", "rows", "columns"] (defScope sLawAreas) := ⟨rfl, rfl, rfl, by decide +kernel, rfl, by decide +kernel, by decide +kernel⟩
theorem scLaw : FnScope ["script", "rows", "columns", "k", "cell", "d", "content", "down", "right", "moved", "due", "place"] ["script"] (defScope sLaw) := ⟨rfl, rfl, rfl, by decide +kernel, rfl, by decide +kernel, by decide +kernel⟩
set_option maxHeartbeats 0 in
structure Txt (P : Program) (w : World) (K : PySem.W.Frag) (mg : Str → Option Value) where
  sT : StepsC P w K
  fFraction : Addr
  fdFraction : FuncData
  FFraction : Fun K "fraction" "fraction" sFraction fFraction fdFraction
  bFraction : Binds K fdFraction ["n", "d"] []
  gFraction : mg "fraction" = some (.ref fFraction)
  fIsDigits : Addr
  fdIsDigits : FuncData
  FIsDigits : Fun K "_is_digits" "_is_digits" sIsDigits fIsDigits fdIsDigits
  bIsDigits : Binds K fdIsDigits ["text"] []
  gIsDigits : mg "_is_digits" = some (.ref fIsDigits)
  fReadDecimal : Addr
  fdReadDecimal : FuncData
  FReadDecimal : Fun K "read_decimal" "read_decimal" sReadDecimal fReadDecimal fdReadDecimal
  bReadDecimal : Binds K fdReadDecimal ["text"] []
  gReadDecimal : mg "read_decimal" = some (.ref fReadDecimal)
  fReadNumber : Addr
  fdReadNumber : FuncData
  FReadNumber : Fun K "read_number" "read_number" sReadNumber fReadNumber fdReadNumber
  bReadNumber : Binds K fdReadNumber ["text"] []
  gReadNumber : mg "read_number" = some (.ref fReadNumber)
  fRunEnd : Addr
  fdRunEnd : FuncData
  FRunEnd : Fun K "_run_end" "_run_end" sRunEnd fRunEnd fdRunEnd
  bRunEnd : Binds K fdRunEnd ["text", "at", "characters"] []
  gRunEnd : mg "_run_end" = some (.ref fRunEnd)
  fReadAddress : Addr
  fdReadAddress : FuncData
  FReadAddress : Fun K "read_address" "read_address" sReadAddress fReadAddress fdReadAddress
  bReadAddress : Binds K fdReadAddress ["text"] []
  gReadAddress : mg "read_address" = some (.ref fReadAddress)
  fTokenEnd : Addr
  fdTokenEnd : FuncData
  FTokenEnd : Fun K "_token_end" "_token_end" sTokenEnd fTokenEnd fdTokenEnd
  bTokenEnd : Binds K fdTokenEnd ["text", "at"] []
  gTokenEnd : mg "_token_end" = some (.ref fTokenEnd)
  fKind : Addr
  fdKind : FuncData
  FKind : Fun K "_kind" "_kind" sKind fKind fdKind
  bKind : Binds K fdKind ["token"] []
  gKind : mg "_kind" = some (.ref fKind)
  fTokenList : Addr
  fdTokenList : FuncData
  FTokenList : Fun K "token_list" "token_list" sTokenList fTokenList fdTokenList
  bTokenList : Binds K fdTokenList ["text"] []
  gTokenList : mg "token_list" = some (.ref fTokenList)
  fIsNameWord : Addr
  fdIsNameWord : FuncData
  FIsNameWord : Fun K "is_name_word" "is_name_word" sIsNameWord fIsNameWord fdIsNameWord
  bIsNameWord : Binds K fdIsNameWord ["text"] []
  gIsNameWord : mg "is_name_word" = some (.ref fIsNameWord)
  fSize : Addr
  fdSize : FuncData
  FSize : Fun K "size" "size" sSize fSize fdSize
  bSize : Binds K fdSize ["tree"] []
  gSize : mg "size" = some (.ref fSize)
  fNamedCells : Addr
  fdNamedCells : FuncData
  FNamedCells : Fun K "named_cells" "named_cells" sNamedCells fNamedCells fdNamedCells
  bNamedCells : Binds K fdNamedCells ["tree"] []
  gNamedCells : mg "named_cells" = some (.ref fNamedCells)
  fAreasOf : Addr
  fdAreasOf : FuncData
  FAreasOf : Fun K "areas_of" "areas_of" sAreasOf fAreasOf fdAreasOf
  bAreasOf : Binds K fdAreasOf ["tree"] []
  gAreasOf : mg "areas_of" = some (.ref fAreasOf)
  fMappedAreas : Addr
  fdMappedAreas : FuncData
  FMappedAreas : Fun K "_mapped_areas" "_mapped_areas" sMappedAreas fMappedAreas fdMappedAreas
  bMappedAreas : Binds K fdMappedAreas ["areas", "area"] []
  gMappedAreas : mg "_mapped_areas" = some (.ref fMappedAreas)
  fMapped : Addr
  fdMapped : FuncData
  FMapped : Fun K "mapped" "mapped" sMapped fMapped fdMapped
  bMapped : Binds K fdMapped ["tree", "cell", "area"] []
  gMapped : mg "mapped" = some (.ref fMapped)
  fWithTree : Addr
  fdWithTree : FuncData
  FWithTree : Fun K "with_tree" "with_tree" sWithTree fWithTree fdWithTree
  bWithTree : Binds K fdWithTree ["content", "changed"] []
  gWithTree : mg "with_tree" = some (.ref fWithTree)
  fMovedCorners : Addr
  fdMovedCorners : FuncData
  FMovedCorners : Fun K "_moved_corners" "_moved_corners" sMovedCorners fMovedCorners fdMovedCorners
  bMovedCorners : Binds K fdMovedCorners ["part", "down", "right", "rows", "columns"] []
  gMovedCorners : mg "_moved_corners" = some (.ref fMovedCorners)
  fMovedTree : Addr
  fdMovedTree : FuncData
  FMovedTree : Fun K "moved_tree" "moved_tree" sMovedTree fMovedTree fdMovedTree
  bMovedTree : Binds K fdMovedTree ["tree", "down", "right", "rows", "columns"] []
  gMovedTree : mg "moved_tree" = some (.ref fMovedTree)
  fMovedContent : Addr
  fdMovedContent : FuncData
  FMovedContent : Fun K "moved_content" "moved_content" sMovedContent fMovedContent fdMovedContent
  bMovedContent : Binds K fdMovedContent ["content", "down", "right", "rows", "columns"] []
  gMovedContent : mg "moved_content" = some (.ref fMovedContent)
  fSymbol : Addr
  fdSymbol : FuncData
  FSymbol : Fun K "_symbol" "_symbol" sSymbol fSymbol fdSymbol
  bSymbol : Binds K fdSymbol ["token"] []
  gSymbol : mg "_symbol" = some (.ref fSymbol)
  fDepthBehind : Addr
  fdDepthBehind : FuncData
  FDepthBehind : Fun K "_depth_behind" "_depth_behind" sDepthBehind fDepthBehind fdDepthBehind
  bDepthBehind : Binds K fdDepthBehind ["state", "symbol", "depth"] []
  gDepthBehind : mg "_depth_behind" = some (.ref fDepthBehind)
  fWalk : Addr
  fdWalk : FuncData
  FWalk : Fun K "_walk" "_walk" sWalk fWalk fdWalk
  bWalk : Binds K fdWalk ["tokens"] []
  gWalk : mg "_walk" = some (.ref fWalk)
  fChain : Addr
  fdChain : FuncData
  FChain : Fun K "_chain" "_chain" sChain fChain fdChain
  bChain : Binds K fdChain ["tokens", "at", "signs", "part"] []
  gChain : mg "_chain" = some (.ref fChain)
  fFormula : Addr
  fdFormula : FuncData
  FFormula : Fun K "_formula" "_formula" sFormula fFormula fdFormula
  bFormula : Binds K fdFormula ["tokens", "at"] []
  gFormula : mg "_formula" = some (.ref fFormula)
  fTerm : Addr
  fdTerm : FuncData
  FTerm : Fun K "_term" "_term" sTerm fTerm fdTerm
  bTerm : Binds K fdTerm ["tokens", "at"] []
  gTerm : mg "_term" = some (.ref fTerm)
  fFactor : Addr
  fdFactor : FuncData
  FFactor : Fun K "_factor" "_factor" sFactor fFactor fdFactor
  bFactor : Binds K fdFactor ["tokens", "at"] []
  gFactor : mg "_factor" = some (.ref fFactor)
  fPrimary : Addr
  fdPrimary : FuncData
  FPrimary : Fun K "_primary" "_primary" sPrimary fPrimary fdPrimary
  bPrimary : Binds K fdPrimary ["tokens", "at"] []
  gPrimary : mg "_primary" = some (.ref fPrimary)
  fCall : Addr
  fdCall : FuncData
  FCall : Fun K "_call" "_call" sCall fCall fdCall
  bCall : Binds K fdCall ["tokens", "at"] []
  gCall : mg "_call" = some (.ref fCall)
  fArea : Addr
  fdArea : FuncData
  FArea : Fun K "_area" "_area" sArea fArea fdArea
  bArea : Binds K fdArea ["tokens", "at"] []
  gArea : mg "_area" = some (.ref fArea)
  fBlock : Addr
  fdBlock : FuncData
  FBlock : Fun K "_block" "_block" sBlock fBlock fdBlock
  bBlock : Binds K fdBlock ["corner", "other"] []
  gBlock : mg "_block" = some (.ref fBlock)
  fOffGrid : Addr
  fdOffGrid : FuncData
  FOffGrid : Fun K "_off_grid" "_off_grid" sOffGrid fOffGrid fdOffGrid
  bOffGrid : Binds K fdOffGrid ["token", "rows", "columns"] []
  gOffGrid : mg "_off_grid" = some (.ref fOffGrid)
  fReadFormula : Addr
  fdReadFormula : FuncData
  FReadFormula : Fun K "read_formula" "read_formula" sReadFormula fReadFormula fdReadFormula
  bReadFormula : Binds K fdReadFormula ["text", "rows", "columns"] []
  gReadFormula : mg "read_formula" = some (.ref fReadFormula)
  fReadContent : Addr
  fdReadContent : FuncData
  FReadContent : Fun K "read_content" "read_content" sReadContent fReadContent fdReadContent
  bReadContent : Binds K fdReadContent ["text", "rows", "columns"] []
  gReadContent : mg "read_content" = some (.ref fReadContent)
  fLawCell : Addr
  fdLawCell : FuncData
  FLawCell : Fun K "_law_cell" "_law_cell" sLawCell fLawCell fdLawCell
  bLawCell : Binds K fdLawCell ["script", "k"] []
  gLawCell : mg "_law_cell" = some (.ref fLawCell)
  fLawDigits : Addr
  fdLawDigits : FuncData
  FLawDigits : Fun K "_law_digits" "_law_digits" sLawDigits fLawDigits fdLawDigits
  bLawDigits : Binds K fdLawDigits ["cell", "k", "most"] []
  gLawDigits : mg "_law_digits" = some (.ref fLawDigits)
  fLawPadded : Addr
  fdLawPadded : FuncData
  FLawPadded : Fun K "_law_padded" "_law_padded" sLawPadded fLawPadded fdLawPadded
  bLawPadded : Binds K fdLawPadded ["cell", "k"] []
  gLawPadded : mg "_law_padded" = some (.ref fLawPadded)
  fLawAddress : Addr
  fdLawAddress : FuncData
  FLawAddress : Fun K "_law_address" "_law_address" sLawAddress fLawAddress fdLawAddress
  bLawAddress : Binds K fdLawAddress ["digit"] []
  gLawAddress : mg "_law_address" = some (.ref fLawAddress)
  fLawText : Addr
  fdLawText : FuncData
  FLawText : Fun K "_law_text" "_law_text" sLawText fLawText fdLawText
  bLawText : Binds K fdLawText ["d"] []
  gLawText : mg "_law_text" = some (.ref fLawText)
  fLawRead : Addr
  fdLawRead : FuncData
  FLawRead : Fun K "_law_read" "_law_read" sLawRead fLawRead fdLawRead
  bLawRead : Binds K fdLawRead ["d", "rows", "columns"] []
  gLawRead : mg "_law_read" = some (.ref fLawRead)
  fLawFrame : Addr
  fdLawFrame : FuncData
  FLawFrame : Fun K "_law_frame" "_law_frame" sLawFrame fLawFrame fdLawFrame
  bLawFrame : Binds K fdLawFrame ["tree"] []
  gLawFrame : mg "_law_frame" = some (.ref fLawFrame)
  fLawAreas : Addr
  fdLawAreas : FuncData
  FLawAreas : Fun K "_law_areas" "_law_areas" sLawAreas fLawAreas fdLawAreas
  bLawAreas : Binds K fdLawAreas ["tree", "down", "right", "rows", "columns"] []
  gLawAreas : mg "_law_areas" = some (.ref fLawAreas)
  fLaw : Addr
  fdLaw : FuncData
  FLaw : Fun K "law" "law" sLaw fLaw fdLaw
  bLaw : Binds K fdLaw ["script"] []
  gLaw : mg "law" = some (.ref fLaw)
  z_all : mg "all" = none
  z_tuple : mg "tuple" = none
  z_zip : mg "zip" = none
  z_enumerate : mg "enumerate" = none
  z_min : mg "min" = none
  z_max : mg "max" = none
  z_range : mg "range" = none
  z_str : mg "str" = none
  z_int : mg "int" = none
  z_len : mg "len" = none
  z_list : mg "list" = none
  g_gcd : mg "gcd" = some (.builtin "math.gcd")
  t_DIGITS : Nat
  g_DIGITS : mg "DIGITS" = some (.str "0123456789" t_DIGITS)
  t_MOST_BEFORE_POINT : Nat
  g_MOST_BEFORE_POINT : mg "MOST_BEFORE_POINT" = some (.int 12 t_MOST_BEFORE_POINT)
  t_MOST_BEHIND_POINT : Nat
  g_MOST_BEHIND_POINT : mg "MOST_BEHIND_POINT" = some (.int 6 t_MOST_BEHIND_POINT)
  t_PARTS : Nat
  g_PARTS : mg "PARTS" = some (.int 1000000 t_PARTS)
  t_CAPITALS : Nat
  g_CAPITALS : mg "CAPITALS" = some (.str "ABCDEFGHIJKLMNOPQRSTUVWXYZ" t_CAPITALS)
  t_SMALL : Nat
  g_SMALL : mg "SMALL" = some (.str "abcdefghijklmnopqrstuvwxyz" t_SMALL)
  t_SIGNS : Nat
  g_SIGNS : mg "SIGNS" = some (.str "+-*/(),:" t_SIGNS)
  t_LONGEST_WORD : Nat
  g_LONGEST_WORD : mg "LONGEST_WORD" = some (.int 8 t_LONGEST_WORD)
  t_GONE : Nat
  g_GONE : mg "GONE" = some (.str "gone" t_GONE)
  t_SHORTEST_NAME : Nat
  g_SHORTEST_NAME : mg "SHORTEST_NAME" = some (.int 2 t_SHORTEST_NAME)
  t_MOST_TOKENS : Nat
  g_MOST_TOKENS : mg "MOST_TOKENS" = some (.int 30 t_MOST_TOKENS)
  t_MOST_BRACKETS : Nat
  g_MOST_BRACKETS : mg "MOST_BRACKETS" = some (.int 6 t_MOST_BRACKETS)
  g_STEPS : mg "STEPS" = some (.ref aST)
  p_CALLS : Addr
  g_CALLS : mg "CALLS" = some (.ref p_CALLS)
  k_CALLS : ∀ H, SqT K H p_CALLS [.str "sum", .str "count", .str "min", .str "max"]
  w_CALLS : ∃ o, K.lookup p_CALLS = some o ∧ o.cls = .type "tuple" ∧ o.dict = none
  p_SUMS : Addr
  g_SUMS : mg "SUMS" = some (.ref p_SUMS)
  k_SUMS : ∀ H, SqT K H p_SUMS [.str "+", .str "-"]
  w_SUMS : ∃ o, K.lookup p_SUMS = some o ∧ o.cls = .type "tuple" ∧ o.dict = none
  p_PRODUCTS : Addr
  g_PRODUCTS : mg "PRODUCTS" = some (.ref p_PRODUCTS)
  k_PRODUCTS : ∀ H, SqT K H p_PRODUCTS [.str "*", .str "/"]
  w_PRODUCTS : ∃ o, K.lookup p_PRODUCTS = some o ∧ o.cls = .type "tuple" ∧ o.dict = none
  p_GONE_PART : Addr
  g_GONE_PART : mg "GONE_PART" = some (.ref p_GONE_PART)
  k_GONE_PART : ∀ H, SqT K H p_GONE_PART [.str "gone"]
  w_GONE_PART : ∃ o, K.lookup p_GONE_PART = some o ∧ o.cls = .type "tuple" ∧ o.dict = none
  cTableError : Addr
  gKTableError : mg "TableError" = some (.ref cTableError)
  cFormulaFault : Addr
  gKFormulaFault : mg "FormulaFault" = some (.ref cFormulaFault)
  oKFormulaFault : OexC K cFormulaFault
  xKFormulaFault : XfC K cFormulaFault
  eKFormulaFault : ExK K cFormulaFault
  fFormulaFault_Init : Addr
  fdFormulaFault_Init : FuncData
  FFormulaFault_Init : Fun K "__init__" "FormulaFault.__init__" sFormulaFault_Init fFormulaFault_Init fdFormulaFault_Init
  bFormulaFault_Init : Binds K fdFormulaFault_Init ["self", "place", "word"] []
  iKFormulaFault : PySem.W.findIn K (.ref cFormulaFault) "__init__" = some (some (.ref fFormulaFault_Init))
  tKFormulaFault : PySem.W.typeIn K (.ref fFormulaFault_Init) = some (.type "function")
  nKFormulaFault_place : PySem.W.findIn K (.ref cFormulaFault) "place" = some none
  nKFormulaFault_word : PySem.W.findIn K (.ref cFormulaFault) "word" = some none
  mKFormulaFault_TableError : PySem.W.exmOne K (.ref cFormulaFault) (.ref cTableError) = some true
  mKFormulaFault_FormulaFault : PySem.W.exmOne K (.ref cFormulaFault) (.ref cFormulaFault) = some true
  kKFormulaFault_FormulaFault : PySem.W.kitOne K (.ref cFormulaFault) (.ref cFormulaFault) = some true
section
variable {P : Program} {w : World} {K : PySem.W.Frag} {mg : Str → Option Value} {base : Heap}
/-! ### heaps -/
theorem _root_.L2.Same.tup {K : PySem.W.Frag} {H H' : Hp} {a : Addr} {xs : List V} (e : Same H H') (h : SqT K H a xs) : SqT K H' a xs := by
  rcases h with (h | ⟨o, h⟩) | h
  · exact .inl (.inl (e _ _ h))
  · exact .inl (.inr ⟨o, e _ _ h⟩)
  · exact .inr h
theorem same_new {H : Hp} {p : Addr} {o : HO} (h : H p = none) : Same H (upd H p o) := fun b x e => by
  rw [upd_ne (ne_of_none e h)]
  exact e
theorem same_mut {H H' : Hp} {p : Addr} {o : HO} (e : Same H H') (h : H p = none) : Same H (upd H' p o) := fun b x ha => by
  rw [upd_ne (ne_of_none ha h)]
  exact e b x ha
theorem walk_zipT {K : PySem.W.Frag} {a b : Addr} {xs ys : List V} {n : Nat} (hn : n = min xs.length ys.length) : Walk (ItzT K a b) n (fun H => SqT K H a xs ∧ SqT K H b ys) (YPair (fun i => xs[i]?) (fun i => ys[i]?)) := by
  subst hn
  refine ⟨fun i _ hi q => ?_, fun _ q => ⟨xs, ys, q.1, q.2, by omega⟩, fun i H v H' _ q y => ?_⟩
  · have h1 : i < xs.length := by omega
    have h2 : i < ys.length := by omega
    exact ⟨xs, ys, xs[i], ys[i], q.1, q.2, by simp [h1], by simp [h2]⟩
  · obtain ⟨T, x, z, h1, h2, h3, h4, h5⟩ := y
    exact ⟨T, x, z, h1, h2, h3, h4 xs q.1, h5 ys q.2⟩
/-- a function that hands back a bool or an int and changes nothing -/
theorem getD_at {ns : List Int} {i : Nat} (h : i < ns.length) : (ns.map V.int)[i]? = some (.int (ns.getD i 0)) := by
  rw [List.getElem?_map, List.getElem?_eq_getElem h, List.getD_eq_getElem?_getD, List.getElem?_eq_getElem h]
  rfl
theorem dp_ints {K : PySem.W.Frag} {H : Hp} : ∀ ns : List Int, DpAll K H (ns.map V.int) (ns.map PyData.int)
  | [] => .nil
  | n :: r => .cons (.int n) (dp_ints r)
theorem shaped_tup (ns : List Int) : SeqAt.shaped (.tuple (ns.map PyData.int)) = true := by
  simp [SeqAt.shaped, PyData.canLay0, PyData.depth, PySem.W.ke_canLayAll0, PySem.W.ke_depthAll]
theorem shaped_lst (ns : List Int) : SeqAt.shaped (.list (ns.map PyData.int)) = true := PySem.W.ke_shaped_ints ns
theorem eqv_same {d : PyData} (h : SeqAt.shaped d = true) : PyData.eqv d d = true := by
  refine SeqAt.eqv_refl d ?_
  unfold SeqAt.shaped at h
  exact (Bool.and_eq_true _ _ ▸ h).1
theorem yesT {σ : L2.St} {H : Hp} {A B : Hp → Prop} (h : A H) : tYes σ H (fun b H3 => if b = true then A H3 else B H3) := iteT (A := A H) (B := B H) h
open L2H
/-! ### errors: made, raised, caught -/
theorem takesN {X : Cx} : L2N.Takes X (fun _ _ _ _ => False) := fun _ _ z => by
  obtain ⟨_, _, _, _, _, _, _, _, _, _, _, _, _, _, _, _, no⟩ := z
  exact no.elim
theorem hot_of {X : Cx} {a : Addr} {oe : Obj} {cls : Value} {d : Option Addr} {pn : List (Addr × Obj)} (hz : L2N.Zn cls d oe) (hf : ∃ vs, oe.data = .fields vs) : HotC (X.suite a ((a, oe) :: pn)) := by
  obtain ⟨vs, hv⟩ := hf
  exact ⟨(a, oe), ⟨rfl, vs, hv, hz.2.2 vs hv⟩, List.mem_cons_self ..⟩
theorem okN {x qual : Str} {st : Stmt} {f : Addr} {fd : FuncData} {N ps : List Str} {k : Nat} {sp : Sp} (F : Fun K x qual st f fd) (S : FnScope N ps (defScope st)) (len : ∀ vs H Q E, sp vs H Q E → vs.length = ps.length)
    (go : ∀ (cdv : Value) (A : Around) (outer : List Env) (s : Shared) (H : Hp) (vs : List V) (Q : VK) (E : XK), Room k (A.deeper (envOfC qual (defScope st) s.heap.objs.size f cdv)) → sp vs H Q E →
      ∃ t, PSs (cxOf (L2N.CX P w) P w K mg base N qual (defScope st) f cdv A outer s H E) (defBody st) t ∧ t { nx := fun _ G => Q .non G, rt := Q } (start N vs) H) : FnOk P w K mg base (L2N.CX P w) (k + 1) f fd ps sp := by
  obtain ⟨oc, od, kV, doc, pm, an, cdv, ct, osl, rfl, look, code⟩ := F.ex
  exact fn_of look code S len fun A outer s H vs Q E room h => go cdv A outer s H vs Q E room h
theorem okHot {x qual : Str} {st : Stmt} {f : Addr} {fd : FuncData} {N ps : List Str} {k : Nat} {sp : Sp} (F : Fun K x qual st f fd) (S : FnScope N ps (defScope st)) (len : ∀ vs H Q E, sp vs H Q E → vs.length = ps.length)
    (go : ∀ (cdv : Value) (A : Around) (outer : List Env) (s : Shared) (H : Hp) (vs : List V) (Q : VK) (E : XK) (p : Addr × Obj), Hot1 A p → RoomH k (A.deeper (envOfC qual (defScope st) s.heap.objs.size f cdv)) → sp vs H Q E →
      ∃ t, PSs (cxH CX0 P w K mg base N qual (defScope st) f cdv A outer s H E p) (defBody st) t ∧ t { nx := fun _ G => Q .non G, rt := Q } (start N vs) H) : FnH P w K mg base CX0 (k + 1) f fd ps sp := by
  obtain ⟨oc, od, kV, doc, pm, an, cdv, ct, osl, rfl, look, code⟩ := F.ex
  exact fn_ofH look code S len fun A outer s H vs Q E p hot room h => go cdv A outer s H vs Q E p hot room h
/-- isinstance(e, D) of the error that the suite holds -/
def rIsX (K : PySem.W.Frag) (a C : Addr) (cls : Value) (d : Option Addr) : List V → Hp → VK → Prop := fun xs H Q => ∃ (D dd : Addr) (fs : List (Str × V)) (b : Bool), xs = [.ref a, .ref D] ∧ cls = .ref C ∧ d = some dd ∧ H dd = some (.xd fs) ∧ PySem.W.kitOne K (.ref C) (.ref D) = some b ∧ Q (.bl b) H
theorem cr_isX {X : Cx} {a C : Addr} {cls : Value} {d : Option Addr} {oe : Obj} {pn : List (Addr × Obj)} (Z : ExK X.K C) (hz : Zc cls d oe) (hf : ∃ vs, oe.data = .fields vs) : CallR (X.suite a ((a, oe) :: pn)) (.builtin "isinstance") (rIsX X.K a C cls d) := by
  intro pins s σ H xs us Q I r h
  obtain ⟨D, dd, fs, b, rfl, rfl, rfl, hd, e, q⟩ := h
  cases r with
  | cons r1 rr =>
    cases rr with
    | cons r2 rr =>
      cases rr
      cases r1
      cases r2
      have there := (I.pin (a, oe) (List.mem_append_left _ (List.mem_cons_self ..))).1
      obtain ⟨vs, hv⟩ := hf
      have ox : ObjOk X.prog X.w H s.heap dd (.xd fs) := I.hok dd _ hd
      obtain ⟨m, hn, _⟩ := ox
      obtain ⟨od, ho, _⟩ := lookIn_ns hn
      have J : PySem.W.InstAt s.heap a oe C (some od) := ⟨there, hz.1, by unfold PySem.W.notCls; rw [hv] <;> rfl, by rw [hz.2]; exact ho⟩
      exact PySem.W.kia_one (PySem.W.kitx_exc Z.cl Z.x.ga Z.x.gg Z.x.exC Z.cc Z.cn Z.ct Z.cm) I.kIn J e (fun z => nomatch z) fun tk => ⟨.bl b, H, I.tok tk, rfl, q⟩
/-- C(e, ..), made where nothing is handled -/
theorem mkN {X : Cx} {CX : CXT} {nm : Str} {C g : Addr} {j : Nat} {fd : FuncData} {pz : List Str} {sp : Sp} {e0 : Expr} {er : List Expr} {tg : TA} {p1 p2 : Pos} (O : OexC X.K C) (hI : PySem.W.findIn X.K (.ref C) "__init__" = some (some (.ref g)))
    (hT : PySem.W.typeIn X.K (.ref g) = some (.type "function")) (G : FnOk X.prog X.w X.K X.mg X.base CX j g fd pz sp) (rm : Room (j + 1) X.A) (bn : Binds X.K fd pz []) (no : Passes CX X (fun _ _ _ => False)) (gl : Gl X nm) (at_ : X.mg nm = some (.ref C)) (as : PA X (e0 :: er) tg)
    (nd : (nm == ("__debug__" : Str)) = false := by decide) (st : starEach (e0 :: er) X.env = (false, eval e0 X.env) :: starEach er X.env := by rfl) (pl : (backTo p2 (starEach er X.env)).any (·.1) = false := by rfl) :
    L2N.PMk X (.Call (.Name nm p1) (e0 :: er) [] p2) (tMkO C sp [] tg) := by
  intro pins s σ H Q I h
  obtain ⟨n1, n2, n3, n4, bm, n5, n6, n7, n8, n9, m0, m1, m2, m3, m5, hC, hbm⟩ := O.cls
  refine wpAny_Call_Name_kw (ld_glob I gl at_ ?_ nd)
  refine PySem.W.callWith_K (h₀ := X.base) I.ok.mod.kin O.kC (thn (as.run p2 pins s σ H _ I h) fun us s1 ⟨vs, H1, J1, r1, hz, q1⟩ => ⟨J1.kIn, ?_⟩) st pl
  show wpAny _ _ (call (.ref C) us) _ _ _
  obtain ⟨hp, gs, dr, tok, os⟩ := s1
  have up1 : hp.objs.size ≤ hp.objs.size + 1 := Nat.le_succ _
  have hq := q1 (hp.objs.size + 1) (J1.hok.fresh up1)
  have old : ∀ b o, hp.get? b = some o → ((hp.push (PySem.W.kdv_tup us)).push (PySem.HandSPX.excO C hp.objs.size)).get? b = some o := fun b o z => Heap.get?_push_of_some _ (Heap.get?_push_of_some _ z)
  have new : ((hp.push (PySem.W.kdv_tup us)).push (PySem.HandSPX.excO C hp.objs.size)).get? (hp.objs.size + 1) = some (PySem.HandSPX.excO C hp.objs.size) := by heap_get
  have J2 : Inv X pins σ (upd H1 (hp.objs.size + 1) (exo (hp.objs.size + 1) C none)) ⟨(hp.push (PySem.W.kdv_tup us)).push (PySem.HandSPX.excO C hp.objs.size), gs, dr, tok, os⟩ := J1.laid (t' := tok) old up1 (exo_ok new)
  rw [List.append_nil] at hq
  have r2 : Vals (V.ref (hp.objs.size + 1) :: vs) (Value.ref (hp.objs.size + 1) :: us) := .cons rfl r1
  have nl : (Value.ref (hp.objs.size + 1) :: us).length = pz.length := r2.length.symm.trans (G.len _ _ _ _ hq)
  have bd := bn ⟨(hp.push (PySem.W.kdv_tup us)).push (PySem.HandSPX.excO C hp.objs.size), gs, dr, tok, os⟩ (Value.ref (hp.objs.size + 1) :: us) J2.kIn (by rw [List.append_nil]; exact nl)
  rw [List.append_nil] at bd
  have sz : us.length ≤ sizeLine := by
    rw [← r1.length, sizeLine_eq]
    omega
  refine wpAny_call (PySem.HandSPX.call_own F.excBase_ValueError (fun z => PySem.HandSPX.refsVE_contains z bm hbm) (J1.kIn _ _ hC) (PySem.W.looks_findIn J1.kIn hI) (fun z => PySem.W.bind_fn J1.kIn z hT) sz (codeAny_mono (G.run _ X.stack _ _ ⟨Value.ref (hp.objs.size + 1) :: us, []⟩ _ _ _ (fun _ _ _ => False) (rm.make C us []) (J2.env0.make C us []) bd r2 hq) fun r s2 w => ?_))
  cases r with
  | error er => exact no pins σ _ _ er s2 J2 w
  | ok fl =>
    cases fl with
    | ret u =>
      obtain ⟨v, H2, os2, bare2, un2, hok2, rv, ev, d, fs, ea, ed, hd1, q2⟩ := w
      subst ev
      obtain ⟨h2, gs2, dr2, tok2, os3⟩ := s2
      obtain ⟨t0, G2, J, _, ge, hoe, na⟩ := mk_end0 (d2 := dr2) (t2 := tok2) J1 up1 old un2 hok2 os2 bare2 ea ed hd1
      have kG : ∀ b o, G2.get? b = some o → h2.get? b = some o := by assumption
      exact ⟨rv, hp.objs.size + 1, _, _, ⟨G2, gs2, dr2, tok2, os3⟩, _, .ref C, some d, rfl, J, kG, ge, hoe, ⟨rfl, rfl, fun vs hv => by cases hv; rfl⟩, rfl, rfl, na, rfl, bare2, raises_own O.exC O.tyC, q2⟩
    | next => exact w.elim
    | brk => exact w.elim
    | cont => exact w.elim
/-- the promise of an __init__ that keeps its one argument -/
def spIni (K : PySem.W.Frag) (C : Addr) (f : Str) : Sp := fun vs H Q _ => ∃ (a : Addr) (y : V), vs = [.ref a, y] ∧ H a = some (exo a C none) ∧ ∀ d, H d = none → d ≠ a → Q .non (upd (upd H d (exd d [(f, y)])) a (exo a C (some d)))
theorem mk_heap {H : Hp} {a d : Addr} {o1 o2 o3 o4 : HO} (ha : H a = none) (hd : d ≠ a) : upd (del (upd (upd (upd H a o1) d o2) a o3) a) d o4 = upd H d o4 := by
  funext b
  by_cases h1 : b = d
  · rw [h1, upd_same, upd_same]
  · rw [upd_ne h1, upd_ne h1]
    by_cases h2 : b = a
    · rw [h2, del_same, ha]
    · rw [del_ne h2, upd_ne h2, upd_ne h1, upd_ne h2]
/-- what raising such an error asks -/
theorem ini_of {K : PySem.W.Frag} {C : Addr} {f : Str} {y : V} {H : Hp} {Q : XK} (q : ∀ d, H d = none → Q (.ref C) (some d) (upd H d (.xd [(f, y)]))) : ∀ a, H a = none → spIni K C f (.ref a :: ([y] ++ [])) (upd H a (exo a C none))
    (fun v H2 => v = .non ∧ ∃ (d : Addr) (fs : List (Str × V)), H2 a = some (exo a C (some d)) ∧ H2 d = some (exd d fs) ∧ H d = none ∧ Q (.ref C) (some d) (upd (del H2 a) d (.xd fs))) (fun _ _ _ => False) := fun a ha =>
  ⟨a, y, rfl, upd_same, fun d hd hne => by
    have hd0 : H d = none := by
      rw [upd_ne hne] at hd
      exact hd
    refine ⟨rfl, d, [(f, y)], upd_same, by rw [upd_ne hne, upd_same], hd0, ?_⟩
    rw [mk_heap ha hne]
    exact q d hd0⟩
/-! ### methods that may raise -/
def tMethE (C : Addr) (m : Str) (sp : Sp) (E : L2.St → XK) (ta : TE) (t : TA) : TE := fun σ H Q => ta σ H fun x H1 => ∃ a dx fs, x = .ref a ∧ H1 a = some (.ins C dx fs) ∧ fs.lookup m = none ∧ t σ H1 fun vs H2 => sp (x :: vs) H2 Q (E σ)
theorem pe_methE {X : Cx} {CX : CXT} {k : Nat} {C f : Addr} {fd : FuncData} {ps : List Str} {m : Str} {sp : Sp} {E : L2.St → XK} {o e : Expr} {es : List Expr} {ta : TE} {t : TA} {apos pos : Pos} {pl : Sem Bool} (he : PE X o ta) (c : Cls X.K C) (hm : Meth X.K C m f)
    (F : FnOk X.prog X.w X.K X.mg X.base CX k f fd ps sp) (hr : Room k X.A) (hb : Binds X.K fd ps []) (hx : ∀ σ, PassesAt CX X σ (E σ)) (ha : PA X (e :: es) t)
    (hst : starEach (e :: es) X.env = (false, eval e X.env) :: starEach es X.env := by rfl) (hpl : (backTo pos (starEach es X.env)).any (·.1) = false := by rfl)
    (ht : eval (.Call (.Attribute o m apos) (e :: es) [] pos) X.env = (do
      let ov ← eval o X.env
      standAt apos.atName
      let (f, first) ← holding [ov] (getMethod ov m pl)
      callWith pos f first (backTo pos (starEach (e :: es) X.env)) (backToKw pos (keywordEach [] X.env))) := by rfl) :
    PE X (.Call (.Attribute o m apos) (e :: es) [] pos) (tMethE C m sp E ta t) := by
  refine ⟨fun pins s σ H Q I h => ?_⟩
  refine PySem.W.methodCall_KW (pl := pl) (thn (he.run pins s σ H _ I h) fun u s1 ⟨x, H1, I1, rx, a, dx, fs, ex, ea, l, q⟩ => ?_) ht
  subst ex
  obtain rfl : u = Value.ref a := rx
  refine getmeth_ok I1 ea c hm l ?_
  refine PySem.W.callWith_K (first := [.ref a]) (h₀ := X.base) I.ok.mod.kin hm.kp (thn (ha.run pos pins s1 σ H1 _ I1 q) fun us s2 ⟨vs, H2, I2, r, q2⟩ => ⟨I2.kIn, ?_⟩) hst hpl
  exact run_fnS (us := .ref a :: us) (vs := .ref a :: vs) F hr hb (hx σ) I2 (.cons rfl r) q2
theorem pe_methE0 {X : Cx} {CX : CXT} {k : Nat} {C f : Addr} {fd : FuncData} {ps : List Str} {m : Str} {sp : Sp} {E : L2.St → XK} {o : Expr} {ta : TE} {apos pos : Pos} {pl : Sem Bool} (he : PE X o ta) (c : Cls X.K C) (hm : Meth X.K C m f)
    (F : FnOk X.prog X.w X.K X.mg X.base CX k f fd ps sp) (hr : Room k X.A) (hb : Binds X.K fd ps []) (hx : ∀ σ, PassesAt CX X σ (E σ))
    (ht : eval (.Call (.Attribute o m apos) [] [] pos) X.env = (do
      let ov ← eval o X.env
      standAt apos.atName
      let (f, first) ← holding [ov] (getMethod ov m pl)
      callWith pos f first (backTo pos (starEach [] X.env)) (backToKw pos (keywordEach [] X.env))) := by rfl) :
    PE X (.Call (.Attribute o m apos) [] [] pos) (tMethE C m sp E ta tNil) := by
  refine ⟨fun pins s σ H Q I h => ?_⟩
  refine PySem.W.methodCall_KW (pl := pl) (thn (he.run pins s σ H _ I h) fun u s1 ⟨x, H1, I1, rx, a, dx, fs, ex, ea, l, q⟩ => ?_) ht
  subst ex
  obtain rfl : u = Value.ref a := rx
  refine getmeth_ok I1 ea c hm l ?_
  exact PySem.W.callWith_K0 (first := [.ref a]) I1.kIn hm.kp (run_fnS (us := [.ref a]) (vs := [.ref a]) F hr hb (hx σ) I1 (.cons rfl .nil) q)
theorem pe_fldK {X : Cx} {K : PySem.W.Frag} {e : Expr} {f : Str} {pos : Pos} {ta : TE} (h : X.K = K) (he : PE X e ta) (hb : attributeBase e f X.env (eval e X.env) = eval e X.env) : PE X (.Attribute e f pos) (tFld K ta f) := by
  subst h
  exact pe_fld he hb
theorem ps_fldK {X : Cx} {K : PySem.W.Frag} {o value : Expr} {f : Str} {pos pos' : Pos} {ta tv : TE} (h : X.K = K) (ha : PE X o ta) (hv : PE X value tv) (hs : swapsWith value (some (.Attribute o f pos')) pos.line X.env = pure false) : PS X (.Assign [.Attribute o f pos'] value pos) (sFld K ta tv f) := by
  subst h
  exact ps_fld ha hv hs
/-! ### texts -/
open SX (S S_len S_cat slice_to slice_from num_S int_S)
open PySem.NumText (digitsVal AllDigits)
open TL (numL)
def cap (c : Nat) : Bool := decide (65 ≤ c ∧ c ≤ 90)
def dig (c : Nat) : Bool := decide (48 ≤ c ∧ c ≤ 57)
theorem dig_mem (c : Nat) : decide (c ∈ ("0123456789" : Str).cps.toList) = dig c := by
  have e : ("0123456789" : Str).cps.toList = [48, 49, 50, 51, 52, 53, 54, 55, 56, 57] := by decide +kernel
  rw [e]
  unfold dig
  refine decide_eq_decide.mpr ?_
  simp only [List.mem_cons, List.not_mem_nil, or_false]
  omega
theorem cap_mem (c : Nat) : decide (c ∈ ("ABCDEFGHIJKLMNOPQRSTUVWXYZ" : Str).cps.toList) = cap c := by
  have e : ("ABCDEFGHIJKLMNOPQRSTUVWXYZ" : Str).cps.toList = [65, 66, 67, 68, 69, 70, 71, 72, 73, 74, 75, 76, 77, 78, 79, 80, 81, 82, 83, 84, 85, 86, 87, 88, 89, 90] := by decide +kernel
  rw [e]
  unfold cap
  refine decide_eq_decide.mpr ?_
  simp only [List.mem_cons, List.not_mem_nil, or_false]
  omega
theorem walk_S {a : List Nat} : Walk (Its (S a)) a.length (fun _ => True) (fun i H v H' => H' = H ∧ ∃ c, a[i]? = some c ∧ v = .str (S [c])) :=
  ⟨fun i _ hi _ => by show i < a.toArray.size; simpa using hi, fun _ _ => by show a.toArray.size ≤ a.length; simp, fun i H v H' _ _ y => by
    obtain ⟨e, c, h1, h2⟩ := y
    exact ⟨e, c, by simpa using h1, h2⟩⟩
theorem tw_len {p : Nat → Bool} : ∀ {a : List Nat} {i c : Nat}, (∀ x ∈ a.take i, p x = true) → a[i]? = some c → p c = false → (a.takeWhile p).length = i
  | [], i, c, _, e, _ => by simp at e
  | x :: r, 0, c, _, e, hc => by
    have e2 := Option.some.inj e
    rw [List.takeWhile_cons, e2, hc]
    rfl
  | x :: r, i + 1, c, h, e, hc => by
    have hx : p x = true := h x (by simp)
    rw [List.takeWhile_cons, hx]
    show ((r.takeWhile p).length + 1) = i + 1
    rw [tw_len (fun y hy => h y (by rw [List.take_succ_cons]; exact List.mem_cons_of_mem _ hy)) (by simpa using e) hc]
theorem tw_all {p : Nat → Bool} {a : List Nat} (h : ∀ x ∈ a, p x = true) : (a.takeWhile p).length = a.length := by
  induction a with
  | nil => rfl
  | cons x r ih =>
    rw [List.takeWhile_cons, h x List.mem_cons_self]
    show (r.takeWhile p).length + 1 = r.length + 1
    rw [ih fun y hy => h y (List.mem_cons_of_mem _ hy)]
theorem tw_self {p : Nat → Bool} : ∀ {a : List Nat}, (∀ x ∈ a, p x = true) → a.takeWhile p = a
  | [], _ => rfl
  | x :: r, h => by rw [List.takeWhile_cons, h x List.mem_cons_self, if_pos rfl, tw_self fun y hy => h y (List.mem_cons_of_mem _ hy)]
theorem tw_le {p : Nat → Bool} (a : List Nat) : (a.takeWhile p).length ≤ a.length := by
  induction a with
  | nil => exact Nat.le_refl _
  | cons x r ih =>
    rw [List.takeWhile_cons]
    split
    · exact Nat.succ_le_succ ih
    · exact Nat.zero_le _
theorem tw_take {p : Nat → Bool} : ∀ (a : List Nat), ∀ x ∈ a.take (a.takeWhile p).length, p x = true
  | [], x, h => by simp at h
  | y :: r, x, h => by
    rw [List.takeWhile_cons] at h
    split at h
    · rename_i hy
      rw [List.length_cons, List.take_succ_cons] at h
      rcases List.mem_cons.mp h with e | e
      · rw [e]
        exact hy
      · exact tw_take r x e
    · simp at h
theorem tw_full {p : Nat → Bool} {a : List Nat} (h : (a.takeWhile p).length = a.length) : ∀ x ∈ a, p x = true := fun x hx => tw_take a x (by rw [h, List.take_length]; exact hx)
theorem tw_congr {p q : Nat → Bool} (h : ∀ c, p c = q c) (a : List Nat) : a.takeWhile p = a.takeWhile q := by
  rw [show p = q from funext h]
theorem in12 (n : Int) : inV (.int n) [.int 1, .int 2] = decide (n = 1 ∨ n = 2) := by
  show ((1 : Int) == n || ((2 : Int) == n || false)) = _
  rw [Bool.eq_iff_iff]
  simp only [Bool.or_false, Bool.or_eq_true, beq_iff_eq, decide_eq_true_eq]
  omega
theorem small9000 {n : Nat} (h : n ≤ 9000) : n < sizeLine := Nat.lt_of_le_of_lt h (by decide)
theorem sz100 {n : Nat} (h : n ≤ 100000) : n ≤ sizeLine := Nat.le_trans h (by decide)
theorem item_by {α : Type} (f : α → V) {xs : List α} {k : Int} (h0 : 0 ≤ k) (h1 : k < xs.length) : ∃ v ∈ xs, atI (xs.map f) k = some (f v) := by
  obtain ⟨j, rfl⟩ := Int.eq_ofNat_of_zero_le h0
  have hj : j < xs.length := by omega
  exact ⟨xs[j], List.getElem_mem hj, atI_nat (by rw [List.getElem?_map, List.getElem?_eq_getElem hj]; rfl)⟩
theorem dig_all {a : List Nat} (h : a.all dig = true) : AllDigits a := fun c hc => of_decide_eq_true (List.all_eq_true.mp h c hc)
theorem int_dig {a : List Nat} (h : a.all dig = true) (hne : a ≠ []) (hl : a.length ≤ 640) : intText? (S a) = some ((digitsVal a : Nat) : Int) := intText_digits (x := S a) (dig_all h) hne (by rw [S_len]; omega)
/-! ### a run of signs -/
def rn (z : Str) (a : List Nat) : Nat := (a.takeWhile fun c => decide (c ∈ z.cps.toList)).length
def TK (H H' : Hp) : Prop := ∀ q xs, H q = some (.tup xs) → H' q = some (.tup xs)
theorem TK.of {H H' : Hp} (s : Same H H') : TK H H' := fun q xs h => s q _ h
theorem TK.trans {H H1 H2 : Hp} (a : TK H H1) (b : TK H1 H2) : TK H H2 := fun q xs h => b q xs (a q xs h)
theorem TK.mut {H : Hp} {d : Addr} {xs : List V} {o : HO} (h : H d = some (.lst xs)) : TK H (upd H d o) := fun q ys hq => by
  have : q ≠ d := fun z => by
    rw [z, h] at hq
    cases hq
  rw [upd_ne this]
  exact hq
end
end My
namespace My
open PySem PySem.Spec PyProof.Rows L2 RZ
section
variable {P : Program} {w : World} {K : PySem.W.Frag} {mg : Str → Option Value} {base : Heap}
open L2H
open SX (S S_len S_cat slice_to slice_from num_S int_S)
open PySem.NumText (digitsVal AllDigits)
open TL (numL)
def spCell (K : PySem.W.Frag) : Sp := fun vs H Q _ => ∃ (a : Addr) (ns : List Int) (k : Int), vs = [.ref a, .int k] ∧ 0 ≤ k ∧ SqL K H a (ns.map V.int) ∧ ∀ v : Int, Q (.int v) H
theorem okLawCell (T : Txt P w K mg) : FnOk P w K mg base CX0 1 T.fLawCell T.fdLawCell ["script", "k"] (spCell K) := by
  refine T.FLawCell.ok scLawCell (fun vs H Q E h => ?_) (fun cdv A outer s H vs Q E hr h => ?_)
  · obtain ⟨a, ns, k, rfl, _⟩ := h
    rfl
  · obtain ⟨a, ns, k, rfl, h0, hS, q⟩ := h
    obtain ⟨k, rfl⟩ := Int.eq_ofNat_of_zero_le h0
    -- slots script=0 k=1
    refine ⟨_, (pss_cons (ps_if (pt_cmpR op_lt (pv 1) (pe_callB call_len_seq (by rfl) T.z_len PySem.boot_len (pa_cons (pv 0) pa_nil)) (nomark _))
          (pss_one (ps_ret (pe_ix ix_list (pv 0) (pv 1) (fun _ _ => rfl))))
          pss_nil)
        (pss_one (ps_ret pe_int))), ?_⟩
    refine ⟨_, rfl, _, rfl, a, _, rfl, .inl hS, _, _, rfl, rfl, _, rfl, ite2 (fun c => ?_) (fun c => ?_)⟩
    · have hk : k < ns.length := by
        have c2 := of_decide_eq_true c
        rw [List.length_map] at c2
        omega
      exact ⟨_, rfl, _, rfl, a, _, _, _, rfl, rfl, hS, atI_nat (getD_at hk), q _⟩
    · exact q 0
/-! ### numbers that a law draws -/
structure Dig (ds : List Int) (n : Nat) : Prop where
  all : ∀ x ∈ ds, 0 ≤ x ∧ x < 1000
  len : ds.length ≤ n
theorem Dig.nil : Dig [] 0 := ⟨fun _ h => (nomatch h), Nat.le_refl _⟩
theorem Dig.more {ds : List Int} {n m : Nat} (h : Dig ds n) (hm : n ≤ m) : Dig ds m := ⟨h.all, Nat.le_trans h.len hm⟩
theorem Dig.add {ds : List Int} {n : Nat} (h : Dig ds n) (x : Int) : Dig (ds ++ [x % 1000]) (n + 1) := by
  refine ⟨fun y hy => ?_, ?_⟩
  · rcases List.mem_append.mp hy with q | q
    · exact h.all y q
    · obtain rfl : y = x % 1000 := by simpa using q
      omega
  · rw [List.length_append]
    have := h.len
    simp only [List.length_singleton]
    omega
/-- all but the box stays, and the box keeps its list -/
structure Kp (b : Addr) (H H' : Hp) : Prop where
  k : ∀ c o, c ≠ b → H c = some o → H' c = some o
  d : ∀ (x j : V), H b = some (.lst [x, j]) → ∃ j', H' b = some (.lst [x, j'])
instance {b : Addr} {H H' : Hp} : CoeFun (Kp b H H') (fun _ => ∀ c o, c ≠ b → H c = some o → H' c = some o) := ⟨Kp.k⟩
theorem Kp.refl {b : Addr} {H : Hp} : Kp b H H := ⟨fun _ _ _ h => h, fun _ j h => ⟨j, h⟩⟩
theorem Kp.trans {b : Addr} {H H1 H2 : Hp} (x : Kp b H H1) (y : Kp b H1 H2) : Kp b H H2 := ⟨fun c o n h => y.k c o n (x.k c o n h), fun v j h => by
  obtain ⟨j1, h1⟩ := x.d v j h
  exact y.d v j1 h1⟩
theorem Kp.of {b : Addr} {H H1 : Hp} (x : Same H H1) : Kp b H H1 := ⟨fun c o _ h => x c o h, fun _ j h => ⟨j, x _ _ h⟩⟩
theorem Kp.same {b : Addr} {H H1 H2 : Hp} (x : Same H H1) (h : H b = none) (y : Kp b H1 H2) : Same H H2 := fun c o e => y.k c o (ne_of_none e h) (x c o e)
/-- a box of drawn digits and the place of the next one -/
def Box (H : Hp) (b : Addr) : Prop := ∃ (d : Addr) (ds : List Int) (i : Nat), H b = some (.lst [.ref d, .int (i : Int)]) ∧ H d = some (.lst (ds.map V.int)) ∧ b ≠ d
theorem Box.same {H H' : Hp} {b : Addr} (s : Same H H') (h : Box H b) : Box H' b := by
  obtain ⟨d, ds, i, h1, h2, h3⟩ := h
  exact ⟨d, ds, i, s _ _ h1, s _ _ h2, h3⟩
/-! ### trees -/
abbrev OkS : Type := {w : Str // PyData.strOk w = true}
inductive Ar where
  | gone
  | name (w : OkS)
  | block (a b c d : Int)
inductive Tr where
  | gone
  | num (x y : Int)
  | cell (r c : Int)
  | neg (t : Tr)
  | op (s : Str) (l r : Tr)
  | call (n : Str) (as : List Ar)
def ArAt (H : Hp) (v : V) : Ar → Prop
  | .gone => ∃ q, v = .ref q ∧ H q = some (.tup [.str "gone"])
  | .name w => ∃ q, v = .ref q ∧ H q = some (.tup [.str "name", .str w.1])
  | .block a b c d => ∃ q, v = .ref q ∧ H q = some (.tup [.str "block", .int a, .int b, .int c, .int d])
inductive Ars (H : Hp) : List V → List Ar → Prop where
  | nil : Ars H [] []
  | cons {v : V} {a : Ar} {vs : List V} {as : List Ar} : ArAt H v a → Ars H vs as → Ars H (v :: vs) (a :: as)
def TrAt (H : Hp) : V → Tr → Prop
  | v, .gone => ∃ q, v = .ref q ∧ H q = some (.tup [.str "gone"])
  | v, .num x y => ∃ q p, v = .ref q ∧ H q = some (.tup [.str "num", .ref p]) ∧ H p = some (.tup [.int x, .int y])
  | v, .cell r c => ∃ q, v = .ref q ∧ H q = some (.tup [.str "cell", .int r, .int c])
  | v, .neg t => ∃ q u, v = .ref q ∧ H q = some (.tup [.str "neg", u]) ∧ TrAt H u t
  | v, .op s l r => ∃ q u w, v = .ref q ∧ H q = some (.tup [.str "op", .str s, u, w]) ∧ TrAt H u l ∧ TrAt H w r
  | v, .call n as => ∃ q p vs, v = .ref q ∧ H q = some (.tup [.str "call", .str n, .ref p]) ∧ H p = some (.tup vs) ∧ Ars H vs as
theorem ArAt.mono {H H' : Hp} (s : TK H H') {v : V} : ∀ {a : Ar}, ArAt H v a → ArAt H' v a
  | .gone, ⟨q, h, h1⟩ => ⟨q, h, s _ _ h1⟩
  | .name _, ⟨q, h, h1⟩ => ⟨q, h, s _ _ h1⟩
  | .block _ _ _ _, ⟨q, h, h1⟩ => ⟨q, h, s _ _ h1⟩
theorem Ars.mono {H H' : Hp} (s : TK H H') : ∀ {vs as}, Ars H vs as → Ars H' vs as
  | _, _, .nil => .nil
  | _, _, .cons h r => .cons (h.mono s) (r.mono s)
theorem Ars.len {H : Hp} : ∀ {vs as}, Ars H vs as → vs.length = as.length
  | _, _, .nil => rfl
  | _, _, .cons _ r => congrArg (· + 1) r.len
theorem Ars.app {H : Hp} {us : List V} {bs : List Ar} (h : Ars H us bs) : ∀ {vs as}, Ars H vs as → Ars H (vs ++ us) (as ++ bs)
  | _, _, .nil => h
  | _, _, .cons h2 r => .cons h2 (Ars.app h r)
theorem Ars.get {H : Hp} : ∀ {vs as}, Ars H vs as → ∀ (i : Nat) x, vs[i]? = some x → ∃ a, as[i]? = some a ∧ ArAt H x a
  | _, _, .nil, i, x, h => by simp at h
  | _, _, .cons (a := a) h r, 0, x, e => ⟨a, rfl, by cases e; exact h⟩
  | _, _, .cons h r, i + 1, x, e => r.get i x (by simpa using e)
theorem TrAt.mono {H H' : Hp} (s : TK H H') : ∀ {t : Tr} {v : V}, TrAt H v t → TrAt H' v t
  | .gone, _, ⟨q, h, h1⟩ => ⟨q, h, s _ _ h1⟩
  | .num _ _, _, ⟨q, p, h, h1, h2⟩ => ⟨q, p, h, s _ _ h1, s _ _ h2⟩
  | .cell _ _, _, ⟨q, h, h1⟩ => ⟨q, h, s _ _ h1⟩
  | .neg _, _, ⟨q, u, h, h1, h2⟩ => ⟨q, u, h, s _ _ h1, h2.mono s⟩
  | .op _ _ _, _, ⟨q, u, w, h, h1, h2, h3⟩ => ⟨q, u, w, h, s _ _ h1, h2.mono s, h3.mono s⟩
  | .call _ _, _, ⟨q, p, vs, h, h1, h2, h3⟩ => ⟨q, p, vs, h, s _ _ h1, s _ _ h2, h3.mono s⟩
def Tr.h : Tr → Nat
  | .neg t => t.h + 1
  | .op _ l r => max l.h r.h + 1
  | _ => 0
def Tr.ok (m : Nat) : Tr → Prop
  | .neg t => t.ok m
  | .op _ l r => l.ok m ∧ r.ok m
  | .call _ as => as.length ≤ m
  | _ => True
def sz : Tr → Int
  | .neg t => 1 + sz t
  | .op _ l r => 1 + sz l + sz r
  | .call _ as => 1 + (as.length : Int)
  | _ => 1
def tcells : Tr → List (Int × Int)
  | .cell r c => [(r, c)]
  | .neg t => tcells t
  | .op _ l r => tcells l ++ tcells r
  | _ => []
def tareas : Tr → List Ar
  | .call _ as => as
  | .neg t => tareas t
  | .op _ l r => tareas l ++ tareas r
  | _ => []
def mr : Ar → List Ar
  | .gone => []
  | .name w => [.name w]
  | .block a b c d => [.gone, .block a b (c + 2) d]
def orGone : List Ar → List Ar
  | [] => [.gone]
  | as => as
def dn (r c : Int) : Tr := if r > 5 then .gone else .cell (r + 1) c
def mp : Tr → Tr
  | .cell r c => dn r c
  | .neg t => .neg (mp t)
  | .op s l r => .op s (mp l) (mp r)
  | .call n as => .call n (orGone (as.flatMap mr))
  | t => t
theorem ifN {a b : Str} {A B : Prop} (h : a ≠ b) (q : B) : if decide (V.str a = V.str b) = true then A else B := by
  rw [if_neg fun z => h (V.str.inj (of_decide_eq_true z))]
  exact q
theorem ifY {a : Str} {A B : Prop} (q : A) : if decide (V.str a = V.str a) = true then A else B := by
  rw [if_pos (decide_eq_true rfl)]
  exact q
theorem w1 : ("gone" : Str) ≠ "neg" ∧ ("gone" : Str) ≠ "op" ∧ ("gone" : Str) ≠ "call" ∧ ("gone" : Str) ≠ "cell" ∧ ("gone" : Str) ≠ "name" := by decide +kernel
theorem w2 : ("num" : Str) ≠ "neg" ∧ ("num" : Str) ≠ "op" ∧ ("num" : Str) ≠ "call" ∧ ("num" : Str) ≠ "cell" := by decide +kernel
theorem w3 : ("cell" : Str) ≠ "neg" ∧ ("cell" : Str) ≠ "op" ∧ ("cell" : Str) ≠ "call" := by decide +kernel
theorem w4 : ("neg" : Str) ≠ "op" ∧ ("neg" : Str) ≠ "call" ∧ ("neg" : Str) ≠ "cell" := by decide +kernel
theorem w5 : ("op" : Str) ≠ "neg" ∧ ("op" : Str) ≠ "call" ∧ ("op" : Str) ≠ "cell" := by decide +kernel
theorem w6 : ("call" : Str) ≠ "neg" ∧ ("call" : Str) ≠ "op" ∧ ("call" : Str) ≠ "cell" := by decide +kernel
theorem w7 : ("name" : Str) ≠ "gone" ∧ ("block" : Str) ≠ "gone" ∧ ("block" : Str) ≠ "name" := by decide +kernel
theorem hop {s : Str} {l r : Tr} {n : Nat} (h : (Tr.op s l r).h < n + 1) : l.h < n ∧ r.h < n := by
  have : max l.h r.h + 1 < n + 1 := h
  omega
theorem hneg {t : Tr} {n : Nat} (h : (Tr.neg t).h < n + 1) : t.h < n := by
  have : t.h + 1 < n + 1 := h
  omega
theorem pow_le {n : Nat} (h : n ≤ 8) : 2 ^ n ≤ 256 := Nat.le_trans (Nat.pow_le_pow_right (by decide) h) (by decide)
theorem tcells_len : ∀ {t : Tr} {n : Nat}, t.h < n + 1 → (tcells t).length ≤ 2 ^ n
  | .gone, n, _ => Nat.zero_le _
  | .num _ _, n, _ => Nat.zero_le _
  | .cell _ _, n, _ => Nat.one_le_two_pow
  | .call _ _, n, _ => Nat.zero_le _
  | .neg t, 0, h => absurd (hneg h) (Nat.not_lt_zero _)
  | .neg t, n + 1, h => Nat.le_trans (tcells_len (t := t) (hneg h)) (Nat.pow_le_pow_right (by decide) (Nat.le_succ n))
  | .op s l r, 0, h => absurd (hop h).1 (Nat.not_lt_zero _)
  | .op s l r, n + 1, h => by
    have a := tcells_len (hop h).1
    have b := tcells_len (hop h).2
    show (tcells l ++ tcells r).length ≤ _
    rw [List.length_append, Nat.pow_succ]
    omega
theorem tareas_len {m : Nat} : ∀ {t : Tr} {n : Nat}, t.h < n + 1 → t.ok m → (tareas t).length ≤ m * 2 ^ n
  | .gone, n, _, _ => Nat.zero_le _
  | .num _ _, n, _, _ => Nat.zero_le _
  | .cell _ _, n, _, _ => Nat.zero_le _
  | .call _ as, n, _, o => Nat.le_trans o (Nat.le_mul_of_pos_right _ Nat.one_le_two_pow)
  | .neg t, 0, h, _ => absurd (hneg h) (Nat.not_lt_zero _)
  | .neg t, n + 1, h, o => Nat.le_trans (tareas_len (t := t) (hneg h) o) (Nat.mul_le_mul_left _ (Nat.pow_le_pow_right (by decide) (Nat.le_succ n)))
  | .op s l r, 0, h, _ => absurd (hop h).1 (Nat.not_lt_zero _)
  | .op s l r, n + 1, h, o => by
    have a := tareas_len (hop h).1 o.1
    have b := tareas_len (hop h).2 o.2
    show (tareas l ++ tareas r).length ≤ _
    rw [List.length_append, Nat.pow_succ, ← Nat.mul_assoc]
    omega
inductive Cls (H : Hp) : List V → List (Int × Int) → Prop where
  | nil : Cls H [] []
  | cons {q : Addr} {z : Int × Int} {vs : List V} {zs : List (Int × Int)} : H q = some (.tup [.int z.1, .int z.2]) → Cls H vs zs → Cls H (.ref q :: vs) (z :: zs)
theorem Cls.mono {H H' : Hp} (s : TK H H') : ∀ {vs zs}, Cls H vs zs → Cls H' vs zs
  | _, _, .nil => .nil
  | _, _, .cons h r => .cons (s _ _ h) (r.mono s)
theorem Cls.len {H : Hp} : ∀ {vs zs}, Cls H vs zs → vs.length = zs.length
  | _, _, .nil => rfl
  | _, _, .cons _ r => congrArg (· + 1) r.len
theorem Cls.app {H : Hp} {us : List V} {ys : List (Int × Int)} (h : Cls H us ys) : ∀ {vs zs}, Cls H vs zs → Cls H (vs ++ us) (zs ++ ys)
  | _, _, .nil => h
  | _, _, .cons h2 r => .cons h2 (Cls.app h r)
end
end My
namespace My
open PySem PySem.Spec PyProof.Rows L2 RZ
section
variable {P : Program} {w : World} {K : PySem.W.Frag} {mg : Str → Option Value} {base : Heap}
open L2H
open SX (S S_len S_cat slice_to slice_from num_S int_S)
open PySem.NumText (digitsVal AllDigits)
open TL (numL)
/-! ### fractions in lowest terms -/
theorem op_fdivZ {X : Cx} : OpR X (binaryOp .FloorDiv) (rI (fun _ j => j ≠ 0 ∧ j.natAbs.log2 < 9000) fun i j => .int (i.fdiv j)) := opI fun i j _ _ _ _ _ hc q => floordiv_int hc.1 q (.inl (PyProof.noPylong_of_log2 hc.2))
structure Low (n d x y : Int) : Prop where
  pos : 0 < y
  eq : x * d = n * y
  cop : Nat.gcd x.natAbs y.natAbs = 1
  lx : x.natAbs ≤ n.natAbs
  ly : y.natAbs ≤ d.natAbs
def cmn (n d : Int) : Int := if d < 0 then -((Nat.gcd n.natAbs d.natAbs : Nat) : Int) else ((Nat.gcd n.natAbs d.natAbs : Nat) : Int)
theorem cmn_abs (n d : Int) : (cmn n d).natAbs = Nat.gcd n.natAbs d.natAbs := by
  unfold cmn
  split <;> omega
theorem low_of {n d : Int} (hd : d ≠ 0) : Low n d (n.fdiv (cmn n d)) (d.fdiv (cmn n d)) := by
  have hg : 0 < Nat.gcd n.natAbs d.natAbs := Nat.gcd_pos_of_pos_right _ (by omega)
  have ha := cmn_abs n d
  have hc : cmn n d ≠ 0 := by omega
  have d1 : cmn n d ∣ n := Int.natAbs_dvd_natAbs.mp (by rw [ha]; exact Nat.gcd_dvd_left _ _)
  have d2 : cmn n d ∣ d := Int.natAbs_dvd_natAbs.mp (by rw [ha]; exact Nat.gcd_dvd_right _ _)
  have sg : 0 < d → 0 < cmn n d := fun h => by
    unfold cmn
    rw [if_neg (by omega)]
    omega
  have sg2 : d < 0 → cmn n d < 0 := fun h => by
    unfold cmn
    rw [if_pos h]
    omega
  obtain ⟨x, hx⟩ := d1
  obtain ⟨y, hy⟩ := d2
  generalize cmn n d = c at *
  have e1 : n.fdiv c = x := by rw [hx]; exact Int.mul_fdiv_cancel_left _ hc
  have e2 : d.fdiv c = y := by rw [hy]; exact Int.mul_fdiv_cancel_left _ hc
  rw [e1, e2]
  have y0 : 0 < y := by
    rcases Int.lt_trichotomy d 0 with h | h | h
    · have hc2 := sg2 h
      rcases Int.lt_trichotomy y 0 with z | z | z
      · have := Int.mul_pos_of_neg_of_neg hc2 z
        omega
      · subst z
        simp at hy
        omega
      · exact z
    · exact absurd h hd
    · have hc2 := sg h
      rcases Int.lt_trichotomy y 0 with z | z | z
      · have := Int.mul_neg_of_pos_of_neg hc2 z
        omega
      · subst z
        simp at hy
        omega
      · exact z
  have en : n.natAbs = c.natAbs * x.natAbs := by rw [hx, Int.natAbs_mul]
  have ed : d.natAbs = c.natAbs * y.natAbs := by rw [hy, Int.natAbs_mul]
  refine ⟨y0, ?_, ?_, ?_, ?_⟩
  · rw [hx, hy, Int.mul_assoc, Int.mul_comm x, Int.mul_assoc, Int.mul_comm x]
  · rw [en, ed, Nat.gcd_mul_left] at ha
    rw [en, ed, Nat.gcd_mul_left] at hg
    have z : c.natAbs * 1 = c.natAbs * Nat.gcd x.natAbs y.natAbs := by rw [Nat.mul_one]; exact ha
    exact (Nat.eq_of_mul_eq_mul_left (by omega) z).symm
  · rw [en]
    exact Nat.le_mul_of_pos_left _ (by omega)
  · rw [ed]
    exact Nat.le_mul_of_pos_left _ (by omega)
def spFraction (K : PySem.W.Frag) : Sp := fun vs H Q _ => ∃ (n d : Int), vs = [.int n, .int d] ∧ d ≠ 0 ∧ d.natAbs < 2 ^ 900 ∧ ∀ p x y, H p = none → Low n d x y → Q (.ref p) (upd H p (.tup [.int x, .int y]))
theorem okFraction (T : Txt P w K mg) : FnOk P w K mg base CX0 1 T.fFraction T.fdFraction ["n", "d"] (spFraction K) := by
  refine T.FFraction.ok scFraction (fun vs H Q E h => ?_) (fun cdv A outer s H vs Q E hr h => ?_)
  · obtain ⟨n, d, rfl, _⟩ := h
    rfl
  · obtain ⟨n, d, rfl, hd, hz, q⟩ := h
    -- slots n=0 d=1 common=2
    refine ⟨_, (pss_cons (ps_set (i := 2) scFraction.nd rfl (Or.inl rfl) (pe_callBfun cr_gcd (by rfl) T.g_gcd (pa_cons (pv 0) (pa_cons (pv 1) pa_nil))))
        (C8.pss_cut (ps_if (pt_cmpR op_lt (pv 1) pe_int (nomark _))
          (pss_one (ps_set (i := 2) scFraction.nd rfl (Or.inl rfl) (pe_un un_neg (pv 2))))
          pss_nil)
        (pss_one (ps_ret (pe_tup (pa_cons (pe_op op_fdivZ (pv 0) (pv 2)) (pa_cons (pe_op op_fdivZ (pv 1) (pv 2)) pa_nil))))))), ?_⟩
    have hb : (cmn n d).natAbs < 2 ^ 900 := by
      rw [cmn_abs]
      exact Nat.lt_of_le_of_lt (Nat.le_of_dvd (by omega) (Nat.gcd_dvd_right _ _)) hz
    have hl : (cmn n d).natAbs.log2 < 9000 := Nat.lt_of_lt_of_le (PySem.Flt.log2_lt_of (by decide) hb) (by decide)
    have h0 : cmn n d ≠ 0 := by
      have := cmn_abs n d
      have hg : 0 < Nat.gcd n.natAbs d.natAbs := Nat.gcd_pos_of_pos_right _ (by omega)
      omega
    refine ⟨_, rfl, _, rfl, _, _, rfl, ?_⟩
    refine ⟨fun σ H' => H' = H ∧ σ = [some (.int n), some (.int d), some (.int (cmn n d))], ?_, ?_⟩
    · refine ⟨_, rfl, _, _, rfl, rfl, _, rfl, ite2 (fun c => ?_) (fun c => ?_)⟩
      · refine ⟨_, rfl, _, rfl, rfl, ?_⟩
        have c2 : d < 0 := of_decide_eq_true c
        unfold cmn
        rw [if_pos c2]
        rfl
      · refine ⟨rfl, ?_⟩
        have c2 : ¬ d < 0 := fun z => c (decide_eq_true z)
        unfold cmn
        rw [if_neg c2]
        rfl
    · rintro σ H' ⟨rfl, rfl⟩
      refine ⟨_, rfl, _, rfl, _, _, rfl, rfl, ⟨h0, hl⟩, _, rfl, _, rfl, _, _, rfl, rfl, ⟨h0, hl⟩, (by show 2 ≤ sizeLine; decide), fun p hp => ?_⟩
      exact q p _ _ hp (low_of hd)
def spRunEnd (K : PySem.W.Frag) : Sp := fun vs H Q _ => ∃ (a : List Nat) (i : Nat) (z : Str), vs = [.str (S a), .int (i : Int), .str z] ∧ a.length ≤ 100000 ∧ Q (.int ((i + rn z (a.drop i) : Nat) : Int)) H
theorem okRunEnd (T : Txt P w K mg) : FnOk P w K mg base CX0 1 T.fRunEnd T.fdRunEnd ["text", "at", "characters"] (spRunEnd K) := by
  refine T.FRunEnd.ok scRunEnd (fun vs H Q E h => ?_) (fun cdv A outer s H vs Q E hr h => ?_)
  · obtain ⟨a, i, z, rfl, _⟩ := h
    rfl
  · obtain ⟨a, i0, z, rfl, ha, q⟩ := h
    -- slots text=0 at=1 characters=2
    refine ⟨_, (pss_cons (ps_while PassesOwn.never (PW.pt (pw_and (pt_cmpR op_lt (pv 1) (pe_callB call_len_str (by rfl) T.z_len PySem.boot_len (pa_cons (pv 0) pa_nil)) (nomark _)) (pw_and1 (pt_cmpR op_in_sign (pe_ix ix_str (pv 0) (pv 1) (fun _ _ => rfl)) (pv 2) rfl))))
          (pss_one (ps_set (i := 1) scRunEnd.nd rfl (Or.inl rfl) (pe_op op_add (pv 1) pe_int))))
        (pss_one (ps_ret (pv 1)))), ?_⟩
    refine while_by (fun σ H' => H' = H ∧ ∃ i : Nat, σ = [some (.str (S a)), some (.int (i : Int)), some (.str z)] ∧ i + rn z (a.drop i) = i0 + rn z (a.drop i0)) (fun σ _ => match σ with | [_, some (.int n), _] => a.length - n.toNat | _ => 0) ⟨rfl, i0, rfl, rfl⟩ ?_ (fun σ H Q Q' m h => by
      obtain ⟨v, hv, v2, hv2, z2, e1, e2, i, j, e3, e4, k, e5, q⟩ := h
      refine ⟨v, hv, v2, hv2, z2, e1, e2, i, j, e3, e4, k, e5, ?_⟩
      cases k with
      | false => exact m _ _ q
      | true =>
        obtain ⟨w, hw, w2, hw2, z3, i3, c3, f1, f2, f3, f4, w3, hw3, c4, z4, g1, g2, k4, g3, q⟩ := q
        exact ⟨w, hw, w2, hw2, z3, i3, c3, f1, f2, f3, f4, w3, hw3, c4, z4, g1, g2, k4, g3, m _ _ q⟩)
    rintro σ H1 ⟨rfl, i, rfl, e⟩
    refine ⟨_, rfl, _, rfl, S a, rfl, by rw [S_len]; exact sz100 ha, _, _, rfl, rfl, _, rfl, ite2 (fun c => ?_) (fun c => ?_)⟩
    · have hi : i < a.length := by
        have c2 := of_decide_eq_true c
        rw [S_len] at c2
        omega
      have ec : a[i]? = some a[i] := List.getElem?_eq_getElem hi
      have ed : a.drop i = a[i] :: a.drop (i + 1) := List.drop_eq_getElem_cons hi
      generalize a[i] = c at ec ed
      refine ⟨_, rfl, _, rfl, S a, _, c, rfl, rfl, by rw [S_len]; exact sz100 ha, atI_nat (show a[i]? = some c from ec), _, rfl, c, z, rfl, rfl, _, rfl, ite2 (fun c2 => ?_) (fun c2 => ?_)⟩
      · have e3 : decide (c ∈ z.cps.toList) = true := c2
        refine ⟨_, rfl, _, _, rfl, rfl, ⟨rfl, i + 1, rfl, ?_⟩, ?_⟩
        · rw [← e, ed]
          unfold rn
          rw [List.takeWhile_cons, e3]
          simp only [if_true, List.length_cons]
          omega
        · show a.length - ((i : Int) + 1).toNat < a.length - ((i : Int)).toNat
          omega
      · have e3 : decide (c ∈ z.cps.toList) = false := Bool.eq_false_iff.mpr c2
        refine ⟨_, rfl, ?_⟩
        rw [ed] at e
        unfold rn at e q
        rw [List.takeWhile_cons, e3] at e
        simp only [Bool.false_eq_true, if_false, List.length_nil, Nat.add_zero] at e
        rw [e]
        exact q
    · have hi : a.length ≤ i := by
        rcases Nat.lt_or_ge i a.length with h | h
        · exact absurd (decide_eq_true (show (i : Int) < ((S a).length : Int) by rw [S_len]; omega)) c
        · exact h
      refine iteF ⟨_, rfl, ?_⟩
      rw [List.drop_eq_nil_of_le hi] at e
      have e2 : i = i0 + rn z (a.drop i0) := e
      rw [e2]
      exact q
/-! ### decimals -/
theorem mt_ljustF {X : Cx} : MtR X "str.ljust" (fun x xs H Q => ∃ (a : Str) (i : Int) (f : Str), x = .str a ∧ xs = [.int i, .str f] ∧ PadOk i = true ∧ f.length = 1 ∧ Q (.str (Txt.ljustF a i (f.cps.getD 0 0))) H) := by
  intro pins s σ H x xs v us Q I rx rs h
  obtain ⟨a, i, f, rfl, rfl, hc, hf, h⟩ := h
  obtain ⟨t, rfl⟩ := rx
  cases rs with
  | cons r1 rs =>
    cases rs with
    | cons r2 rs =>
      cases rs
      obtain ⟨u, rfl⟩ := r1
      obtain ⟨z, rfl⟩ := r2
      exact ljust_fill hc hf fun t' k => ⟨.str _, H, I.tok k, ⟨t', rfl⟩, h⟩
structure Lw (n d x y : Int) : Prop where
  pos : 0 < y
  eq : x * d = n * y
  cop : Nat.gcd x.natAbs y.natAbs = 1
theorem Low.lw {n d x y : Int} (h : Low n d x y) : Lw n d x y := ⟨h.pos, h.eq, h.cop⟩
theorem Lw.scale {n d k x y : Int} (hk : k ≠ 0) (h : Lw (n * k) (d * k) x y) : Lw n d x y := by
  refine ⟨h.pos, ?_, h.cop⟩
  have e := h.eq
  refine Int.eq_of_mul_eq_mul_right hk ?_
  rw [Int.mul_assoc, e, Int.mul_assoc, Int.mul_assoc, Int.mul_comm k y]
theorem Lw.neg {n d x y : Int} (h : Lw n d x y) : Lw (-n) d (-x) y := ⟨h.pos, by rw [Int.neg_mul, Int.neg_mul, h.eq], by rw [Int.natAbs_neg]; exact h.cop⟩
theorem lw_one {n d x y x2 y2 : Int} (hd : d ≠ 0) (a : Lw n d x y) (b : Lw n d x2 y2) : x = x2 ∧ y = y2 := by
  have h : x * y2 = x2 * y := by
    have h1 : (x * y2) * d = (x2 * y) * d := by
      rw [Int.mul_assoc, Int.mul_comm y2, ← Int.mul_assoc, a.eq, Int.mul_assoc x2, Int.mul_comm y d, ← Int.mul_assoc, b.eq, Int.mul_assoc, Int.mul_assoc, Int.mul_comm y]
    exact Int.eq_of_mul_eq_mul_right hd h1
  have hN : x.natAbs * y2.natAbs = x2.natAbs * y.natAbs := by
    rw [← Int.natAbs_mul, ← Int.natAbs_mul, h]
  have c1 : Nat.Coprime x.natAbs y.natAbs := a.cop
  have c2 : Nat.Coprime x2.natAbs y2.natAbs := b.cop
  have d1 : y.natAbs ∣ y2.natAbs := c1.symm.dvd_of_dvd_mul_left (by rw [hN]; exact Nat.dvd_mul_left _ _)
  have d2 : y2.natAbs ∣ y.natAbs := c2.symm.dvd_of_dvd_mul_left (by rw [← hN]; exact Nat.dvd_mul_left _ _)
  have ey : y.natAbs = y2.natAbs := Nat.dvd_antisymm d1 d2
  have p1 := a.pos
  have p2 := b.pos
  have e : y = y2 := by omega
  subst e
  exact ⟨Int.eq_of_mul_eq_mul_right (by omega) h, rfl⟩
/-! a text at its first point -/
def pre46 (a : List Nat) : List Nat := a.takeWhile fun c => decide (c ≠ 46)
def post46 (a : List Nat) : List Nat := a.drop ((pre46 a).length + 1)
theorem split46 : ∀ {a : List Nat}, 46 ∈ a → a = pre46 a ++ 46 :: post46 a ∧ 46 ∉ pre46 a
  | [], h => by simp at h
  | c :: r, h => by
    by_cases hc : c = 46
    · subst hc
      exact ⟨rfl, by simp [pre46]⟩
    · have h2 : 46 ∈ r := by
        rcases List.mem_cons.mp h with z | z
        · exact absurd z.symm hc
        · exact z
      obtain ⟨e1, e2⟩ := split46 h2
      have e3 : pre46 (c :: r) = c :: pre46 r := by
        unfold pre46
        rw [List.takeWhile_cons, if_pos (decide_eq_true hc)]
      have e4 : post46 (c :: r) = post46 r := by
        unfold post46
        rw [e3, List.length_cons, List.drop_succ_cons]
      rw [e3, e4]
      refine ⟨?_, ?_⟩
      · rw [List.cons_append, ← e1]
      · intro z
        rcases List.mem_cons.mp z with y | y
        · exact hc y.symm
        · exact e2 y
theorem none46 {a : List Nat} (h : 46 ∉ a) : pre46 a = a ∧ post46 a = [] := by
  have e : pre46 a = a := by
    unfold pre46
    exact tw_self fun x hx => decide_eq_true fun z => h (z ▸ hx)
  refine ⟨e, ?_⟩
  unfold post46
  rw [e]
  exact List.drop_eq_nil_of_le (by omega)
theorem len46 (a : List Nat) : (pre46 a).length ≤ a.length ∧ (post46 a).length ≤ a.length := ⟨tw_le a, by unfold post46; rw [List.length_drop]; omega⟩
def isD (a : List Nat) : Bool := !a.isEmpty && a.all dig
theorem isD_of {a : List Nat} (h : isD a = true) : a ≠ [] ∧ a.all dig = true := by
  unfold isD at h
  rw [Bool.and_eq_true] at h
  refine ⟨fun z => ?_, h.2⟩
  rw [z] at h
  exact absurd h.1 (by decide)
def okD (a : List Nat) : Prop := isD (pre46 a) = true ∧ (pre46 a).length ≤ 12 ∧ (46 ∈ a → isD (post46 a) = true ∧ (post46 a).length ≤ 6)
def numD (a : List Nat) : Int := ((digitsVal (pre46 a ++ post46 a) : Nat) : Int)
def denD (a : List Nat) : Int := 10 ^ (post46 a).length
theorem denD_ne (a : List Nat) : denD a ≠ 0 := by
  unfold denD
  have : (0 : Int) < 10 ^ (post46 a).length := Int.pow_pos (by decide)
  omega
theorem zeros_val (a : List Nat) : ∀ k : Nat, digitsVal (a ++ List.replicate k 48) = digitsVal a * 10 ^ k
  | 0 => by simp
  | k + 1 => by
    rw [List.replicate_succ', ← List.append_assoc, PySem.NumText.digitsVal_snoc, zeros_val a k, Nat.pow_succ, Nat.mul_assoc]
    rfl
theorem fold_lt : ∀ (a : List Nat) (acc : Nat), a.all dig = true → a.foldl (fun acc c => acc * 10 + (c - 48)) acc < (acc + 1) * 10 ^ a.length
  | [], acc, _ => by simp
  | c :: r, acc, h => by
    rw [List.all_cons, Bool.and_eq_true] at h
    have hc : 48 ≤ c ∧ c ≤ 57 := of_decide_eq_true h.1
    refine Nat.lt_of_lt_of_le (fold_lt r (acc * 10 + (c - 48)) h.2) ?_
    rw [List.length_cons, Nat.pow_succ, Nat.mul_comm (10 ^ r.length) 10, ← Nat.mul_assoc]
    exact Nat.mul_le_mul_right _ (by omega)
theorem val_lt {a : List Nat} (h : a.all dig = true) : digitsVal a < 10 ^ a.length := by
  have := fold_lt a 0 h
  rw [Nat.zero_add, Nat.one_mul] at this
  exact this
theorem val_lt18 {a : List Nat} (h : a.all dig = true) (hl : a.length ≤ 18) : digitsVal a < 10 ^ 18 := Nat.lt_of_lt_of_le (val_lt h) (Nat.pow_le_pow_right (by decide) hl)
theorem pt_S : ("." : Str) = S [46] := by decide +kernel
theorem emp_S : ("" : Str) = S [] := by decide +kernel
theorem str_eq (a : List Nat) : decide (V.str (S a) = V.str ("" : Str)) = a.isEmpty := by
  rw [emp_S]
  cases a with
  | nil => exact decide_eq_true rfl
  | cons c r => exact decide_eq_false fun z => by have := SX.S_inj (V.str.inj z); cases this
def spIsD (K : PySem.W.Frag) : Sp := fun vs H Q _ => ∃ (a : List Nat), vs = [.str (S a)] ∧ a.length ≤ 2500 ∧ ∀ H', Same H H' → Q (.bl (isD a)) H'
theorem okIsDigits (T : Txt P w K mg) : FnOk P w K mg base CX0 1 T.fIsDigits T.fdIsDigits ["text"] (spIsD K) := by
  refine T.FIsDigits.ok scIsDigits (fun vs H Q E h => ?_) (fun cdv A outer s H vs Q E hr h => ?_)
  · obtain ⟨a, rfl, _⟩ := h
    rfl
  · obtain ⟨a, rfl, ha, q⟩ := h
    -- slots text=0 character=1
    refine ⟨_, (pss_one (ps_ret (pe_and (pe_cmpR op_ne (pv 0) pe_str (nomark _)) (pe_one (pe_callB (cr_all rfl) (by rfl) T.z_all (by decide +kernel) (pa_cons (pe_lc (own := [("character", 1)]) (g := gName 1) (tt := tYes) rfl scIsDigits.nd (pi_str (pv 0)) (blkOk_by (own := [("character", 1)]) (N := ["text", "character"]) (sc := defScope sIsDigits) (by decide +kernel)) (fun _ _ _ _ _ => (pg_name (i := 1) scIsDigits.nd rfl (Or.inl rfl))) (fun _ _ _ _ _ => pts_nil) (fun _ _ _ _ _ => (pe_cmpR op_in_sign (pv 1) (pe_glob (v := (.str "0123456789")) rfl T.g_DIGITS ⟨_, rfl⟩) rfl))) pa_nil)))))), ?_⟩
    refine ⟨_, rfl, rfl, _, rfl, ?_⟩
    rw [str_eq]
    cases he : a.isEmpty with
    | true =>
      have q2 := q H (Same.refl H)
      unfold isD at q2
      rw [he] at q2
      exact iteF q2
    | false =>
      refine iteT ⟨_, rfl, S a, rfl, fun D hD => ?_⟩
      refine lc_it (walk_S (a := a)) (fun i H' => Same H H' ∧ H' D = some (.lst (((a.take i).map dig).map V.bl))) ⟨same_new hD, upd_same⟩ (fun _ _ _ _ => trivial) ?_ ?_
      · rintro i v H1 H2 hi ⟨s1, hD1⟩ ⟨rfl, c, ec, rfl⟩
        refine ⟨rfl, yesT ⟨_, rfl, c, _, rfl, rfl, ((a.take i).map dig).map V.bl, hD1, ?_, same_mut s1 hD, ?_⟩⟩
        · rw [List.length_map, List.length_map, List.length_take]
          exact small9000 (by omega)
        · rw [upd_same, List.take_add_one, ec, dig_mem, List.map_append, List.map_append]
          rfl
      · rintro H1 ⟨s1, hD1⟩
        rw [List.take_length] at hD1
        refine ⟨D, a.map dig, rfl, SqL.of hD1, ?_⟩
        have q2 := q H1 s1
        unfold isD at q2
        rw [he] at q2
        rw [List.all_map]
        exact q2
def spDec (K : PySem.W.Frag) : Sp := fun vs H Q _ => ∃ (a : List Nat), vs = [.str (S a)] ∧ a.length ≤ 2500 ∧ (¬ okD a → ∀ H', Same H H' → Q .non H') ∧ (okD a → ∀ p x y H', Same H H' → H' p = some (.tup [.int x, .int y]) → Lw (numD a) (denD a) x y → Q (.ref p) H')
theorem ljust6 (q : List Nat) : Txt.ljustF (S q) 6 (("0" : Str).cps.getD 0 0) = S (q ++ List.replicate (6 - q.length) 48) := by
  refine TL.ext_tl ?_
  show (Txt.ljustF (S q) 6 (("0" : Str).cps.getD 0 0)).cps.toList = _
  rw [PyProof.Rows.ljustF_list, S_len, show (("0" : Str).cps.getD 0 0) = 48 by decide +kernel]
  rfl
theorem okReadDecimal (T : Txt P w K mg) : FnOk P w K mg base CX0 2 T.fReadDecimal T.fdReadDecimal ["text"] (spDec K) := by
  refine T.FReadDecimal.ok scReadDecimal (fun vs H Q E h => ?_) (fun cdv A outer s H vs Q E hr h => ?_)
  · obtain ⟨a, rfl, _⟩ := h
    rfl
  · obtain ⟨a, rfl, ha, q1, q2⟩ := h
    -- slots text=0 whole=1 point=2 rest=3
    refine ⟨_, (pss_cons (ps_asg (pe_bm PySem.F.plainAttrs_str PySem.F.slot_str_partition PySem.F.type_str_partition mt_partition (pv 0) (pa_cons pe_str pa_nil)) (pg_tup rfl (pgs_cons (pg_name (i := 1) scReadDecimal.nd rfl (Or.inl rfl)) (pgs_cons (pg_name (i := 2) scReadDecimal.nd rfl (Or.inl rfl)) (pgs_cons (pg_name (i := 3) scReadDecimal.nd rfl (Or.inl rfl)) pgs_nil)))))
        (pss_cons (ps_if (PW.pt (pw_or (pt_not (pt_val (pe_call (okIsDigits T) (hr.mono (by decide)) (by rfl) T.gIsDigits T.FIsDigits.kp T.bIsDigits .nil pass0 (pa_cons (pv 1) pa_nil)))) (pw_or1 (pt_cmpR op_gt (pe_callB call_len_str (by rfl) T.z_len PySem.boot_len (pa_cons (pv 1) pa_nil)) (pe_glob (v := (.int 12)) rfl T.g_MOST_BEFORE_POINT ⟨_, rfl⟩) (nomark _)))))
          (pss_one (ps_ret pe_non))
          pss_nil)
        (pss_cons (ps_if (pt_cmpR op_eq (pv 2) pe_str (nomark _))
          (pss_one (ps_ret (pe_tup (pa_cons (pe_callTy call_int_str (by rfl) T.z_int (by decide +kernel) (pa_cons (pv 1) pa_nil)) (pa_cons pe_int pa_nil)))))
          pss_nil)
        (pss_cons (ps_if (PW.pt (pw_or (pt_not (pt_val (pe_call (okIsDigits T) (hr.mono (by decide)) (by rfl) T.gIsDigits T.FIsDigits.kp T.bIsDigits .nil pass0 (pa_cons (pv 3) pa_nil)))) (pw_or1 (pt_cmpR op_gt (pe_callB call_len_str (by rfl) T.z_len PySem.boot_len (pa_cons (pv 3) pa_nil)) (pe_glob (v := (.int 6)) rfl T.g_MOST_BEHIND_POINT ⟨_, rfl⟩) (nomark _)))))
          (pss_one (ps_ret pe_non))
          pss_nil)
        (pss_one (ps_ret (pe_call (okFraction T) (hr.mono (by decide)) (by rfl) T.gFraction T.FFraction.kp T.bFraction .nil pass0 (pa_cons (pe_callTy call_int_str (by rfl) T.z_int (by decide +kernel) (pa_cons (pe_op op_add_str (pv 1) (pe_bm PySem.F.plainAttrs_str PySem.F.slot_str_ljust PySem.F.type_str_ljust mt_ljustF (pv 3) (pa_cons (pe_glob (v := (.int 6)) rfl T.g_MOST_BEHIND_POINT ⟨_, rfl⟩) (pa_cons pe_str pa_nil)))) pa_nil)) (pa_cons (pe_glob (v := (.int 1000000)) rfl T.g_PARTS ⟨_, rfl⟩) pa_nil))))))))), ?_⟩
    obtain ⟨l1, l2⟩ := len46 a
    refine ⟨_, rfl, rfl, S a, ".", rfl, rfl, by decide +kernel, by rw [S_len]; exact sz100 (by omega), fun p0 hp0 => ?_⟩
    refine ⟨p0, _, rfl, SqT.of upd_same, rfl, _, _, rfl, _, _, rfl, _, _, rfl, rfl, ?_⟩
    by_cases hpt : 46 ∈ a
    · obtain ⟨ea, hn⟩ := split46 hpt
      have e : Txt.partition (S a) "." = (S (pre46 a), S [46], S (post46 a)) := by
        rw [pt_S]
        refine SX.partition_some (b := [46]) (by decide) ?_
        conv => lhs; rw [ea]
        exact SX.par_head (c := 46) (sep := []) (post46 a) hn
      rw [e]
      unfold okD at q1 q2
      unfold numD denD at q2
      generalize pre46 a = w at *
      generalize post46 a = r at *
      have s0 := same_new (o := .tup [.str (S w), .str (S [46]), .str (S r)]) hp0
      refine ⟨_, rfl, w, rfl, by omega, fun H1 s1 => ⟨_, rfl, ?_⟩⟩
      by_cases c1 : isD w = true
      rotate_left
      · rw [Bool.not_eq_true] at c1
        rw [c1]
        exact iteT (iteT (q1 (fun z => by rw [c1] at z; cases z.1) _ (s0.trans s1)))
      rw [c1]
      refine iteF ⟨_, rfl, S w, rfl, by rw [S_len]; exact sz100 (by omega), _, _, rfl, rfl, _, rfl, ?_⟩
      rw [S_len]
      by_cases c2 : w.length ≤ 12
      rotate_left
      · rw [decide_eq_true (by omega)]
        exact iteT (q1 (fun z => c2 z.2.1) _ (s0.trans s1))
      rw [decide_eq_false (by omega)]
      refine iteF ⟨_, rfl, rfl, _, rfl, ?_⟩
      rw [str_eq]
      refine iteF ?_
      refine ⟨_, rfl, r, rfl, by omega, fun H2 s2 => ⟨_, rfl, ?_⟩⟩
      have s02 := (s0.trans s1).trans s2
      by_cases c3 : isD r = true
      rotate_left
      · rw [Bool.not_eq_true] at c3
        rw [c3]
        exact iteT (iteT (q1 (fun z => by rw [c3] at z; cases (z.2.2 hpt).1) _ s02))
      rw [c3]
      refine iteF ⟨_, rfl, S r, rfl, by rw [S_len]; exact sz100 (by omega), _, _, rfl, rfl, _, rfl, ?_⟩
      rw [S_len]
      by_cases c4 : r.length ≤ 6
      rotate_left
      · rw [decide_eq_true (by omega)]
        exact iteT (q1 (fun z => c4 (z.2.2 hpt).2) _ s02)
      rw [decide_eq_false (by omega)]
      refine iteF ?_
      obtain ⟨w0, w1⟩ := isD_of c1
      obtain ⟨r0, r1⟩ := isD_of c3
      have hk : r.length + (6 - r.length) = 6 := by omega
      have lz : (r ++ List.replicate (6 - r.length) 48).length = 6 := by rw [List.length_append, List.length_replicate, hk]
      have da : (w ++ (r ++ List.replicate (6 - r.length) 48)).all dig = true := by
        rw [List.all_append, List.all_append, w1, r1, Bool.true_and, Bool.true_and]
        exact List.all_eq_true.mpr fun x hx => by rw [List.eq_of_mem_replicate hx]; rfl
      have la : (w ++ (r ++ List.replicate (6 - r.length) 48)).length ≤ 18 := by rw [List.length_append, lz]; omega
      have na : w ++ (r ++ List.replicate (6 - r.length) 48) ≠ [] := fun z => by
        rw [List.append_eq_nil_iff] at z
        exact w0 z.1
      have hv := val_lt18 da la
      refine ⟨_, rfl, _, rfl, rfl, S r, 6, "0", rfl, rfl, rfl, by decide +kernel, ?_⟩
      rw [ljust6]
      refine ⟨S w, S (r ++ List.replicate (6 - r.length) 48), rfl, rfl, by rw [S_len, S_len, lz]; exact sz100 (by omega), ?_⟩
      rw [S_cat]
      refine ⟨S (w ++ (r ++ List.replicate (6 - r.length) 48)), _, rfl, int_dig da na (by omega), by rw [S_len]; omega, _, _, rfl, by decide, by decide, fun p x y hp L => ?_⟩
      refine q2 ⟨c1, c2, fun _ => ⟨c3, c4⟩⟩ p x y _ (s02.trans (same_new hp)) upd_same ?_
      refine Lw.scale (k := 10 ^ (6 - r.length)) (by have : (0 : Int) < 10 ^ (6 - r.length) := Int.pow_pos (by decide); omega) ?_
      have L2 := L.lw
      rw [← List.append_assoc, zeros_val] at L2
      have e6 : (10 : Int) ^ r.length * 10 ^ (6 - r.length) = 1000000 := by
        rw [← Int.pow_add, hk]
        rfl
      rw [e6]
      have e7 : (((digitsVal (w ++ r) * 10 ^ (6 - r.length) : Nat)) : Int) = ((digitsVal (w ++ r) : Nat) : Int) * 10 ^ (6 - r.length) := by
        rw [Int.natCast_mul, Int.natCast_pow]
        rfl
      rw [e7] at L2
      exact L2
    · obtain ⟨e1, e2⟩ := none46 hpt
      have e : Txt.partition (S a) "." = (S a, S [], S []) := by
        rw [pt_S]
        exact SX.partition_none (b := [46]) (by decide) (SX.par_head_none (c := 46) (sep := []) hpt)
      rw [e]
      unfold okD at q1 q2
      unfold numD denD at q2
      rw [e1] at q1 q2
      rw [e2, List.append_nil] at q2
      have s0 := same_new (o := .tup [.str (S a), .str (S []), .str (S [])]) hp0
      refine ⟨_, rfl, a, rfl, by omega, fun H1 s1 => ⟨_, rfl, ?_⟩⟩
      by_cases c1 : isD a = true
      rotate_left
      · rw [Bool.not_eq_true] at c1
        rw [c1]
        exact iteT (iteT (q1 (fun z => by rw [c1] at z; cases z.1) _ (s0.trans s1)))
      rw [c1]
      refine iteF ⟨_, rfl, S a, rfl, by rw [S_len]; exact sz100 (by omega), _, _, rfl, rfl, _, rfl, ?_⟩
      rw [S_len]
      by_cases c2 : a.length ≤ 12
      rotate_left
      · rw [decide_eq_true (by omega)]
        exact iteT (q1 (fun z => c2 z.2.1) _ (s0.trans s1))
      rw [decide_eq_false (by omega)]
      refine iteF ⟨_, rfl, rfl, _, rfl, ?_⟩
      rw [str_eq]
      refine iteT ?_
      obtain ⟨w0, w1⟩ := isD_of c1
      refine ⟨_, rfl, S a, _, rfl, int_dig w1 w0 (by omega), by rw [S_len]; omega, (by show 2 ≤ sizeLine; decide), fun p hp => ?_⟩
      refine q2 ⟨c1, c2, fun z => absurd z hpt⟩ p _ _ _ ((s0.trans s1).trans (same_new hp)) upd_same ⟨by decide, ?_, ?_⟩
      · show _ * (10 : Int) ^ 0 = _ * 1
        rfl
      · exact Nat.gcd_one_right _
def negN (a : List Nat) : Prop := a.head? = some 45
def bodyN (a : List Nat) : List Nat := if a.head? = some 45 then a.drop 1 else a
def spNumb (K : PySem.W.Frag) : Sp := fun vs H Q _ => ∃ (a : List Nat), vs = [.str (S a)] ∧ a.length ≤ 2500 ∧ (¬ okD (bodyN a) → ∀ H', Same H H' → Q .non H') ∧
  (okD (bodyN a) → ∀ p x y H', Same H H' → H' p = some (.tup [.int (if a.head? = some 45 then -x else x), .int y]) → Lw (numD (bodyN a)) (denD (bodyN a)) x y → Q (.ref p) H')
theorem minus_S : ("-" : Str) = S [45] := by decide +kernel
theorem starts_minus (a : List Nat) : Txt.startswith (S a) "-" = decide (a.head? = some 45) := by
  unfold Txt.startswith
  rw [minus_S, StrLaws.subAt_eq]
  cases a with
  | nil => rfl
  | cons c r =>
    rw [Bool.eq_iff_iff, Bool.and_eq_true]
    simp [S_len]
theorem okReadNumber (T : Txt P w K mg) : FnOk P w K mg base CX0 3 T.fReadNumber T.fdReadNumber ["text"] (spNumb K) := by
  refine T.FReadNumber.ok scReadNumber (fun vs H Q E h => ?_) (fun cdv A outer s H vs Q E hr h => ?_)
  · obtain ⟨a, rfl, _⟩ := h
    rfl
  · obtain ⟨a, rfl, ha, q1, q2⟩ := h
    -- slots text=0 x=1
    refine ⟨_, (pss_cons (ps_if (pt_not (pt_val (pe_bm PySem.F.plainAttrs_str PySem.F.slot_str_startswith PySem.F.type_str_startswith mt_startswith (pv 0) (pa_cons pe_str pa_nil))))
          (pss_one (ps_ret (pe_call (okReadDecimal T) (hr.mono (by decide)) (by rfl) T.gReadDecimal T.FReadDecimal.kp T.bReadDecimal .nil pass0 (pa_cons (pv 0) pa_nil))))
          pss_nil)
        (pss_cons (ps_set (i := 1) scReadNumber.nd rfl (Or.inl rfl) (pe_call (okReadDecimal T) (hr.mono (by decide)) (by rfl) T.gReadDecimal T.FReadDecimal.kp T.bReadDecimal .nil pass0 (pa_cons (pe_slice C8.sl_txt (pv 0) (po_some pe_int) po_none) pa_nil)))
        (pss_one (ps_ret (pe_ifExp (pt_cmpR op_isN (pv 1) pe_non (nomark _)) pe_non (pe_tup (pa_cons (pe_un un_neg (pe_ix ix_tup (pv 1) pe_int (fun _ _ => rfl))) (pa_cons (pe_ix ix_tup (pv 1) pe_int (fun _ _ => rfl)) pa_nil)))))))), ?_⟩
    refine ⟨_, rfl, rfl, S a, "-", rfl, rfl, _, rfl, ?_⟩
    rw [starts_minus]
    by_cases hm : a.head? = some 45
    · rw [decide_eq_true hm]
      refine iteF ?_
      unfold bodyN at q1 q2
      rw [if_pos hm] at q1 q2
      refine ⟨_, rfl, 1, rfl, S a, rfl, by rw [S_len]; exact sz100 (by omega), ?_⟩
      rw [slice_from (by decide)]
      refine ⟨a.drop 1, rfl, by rw [List.length_drop]; omega, fun h1 H1 s1 => ?_, fun h1 p x y H1 s1 hp L => ?_⟩
      · refine ⟨_, rfl, rfl, _, rfl, ite2 (fun _ => q1 h1 _ s1) (fun z => absurd (decide_eq_true rfl) z)⟩
      · refine ⟨_, rfl, rfl, _, rfl, ite2 (fun z => (nomatch (of_decide_eq_true z))) (fun _ => ?_)⟩
        refine ⟨_, rfl, p, _, _, _, rfl, rfl, SqT.of hp, atI_nat (j := 0) rfl, _, rfl, _, rfl, p, _, _, _, rfl, rfl, SqT.of hp, atI_nat (j := 1) rfl, (by show 2 ≤ sizeLine; decide), fun p2 hp2 => ?_⟩
        refine q2 h1 p2 x y _ (s1.trans (same_new hp2)) ?_ L
        rw [if_pos hm]
        exact upd_same
    · rw [decide_eq_false hm]
      refine iteT ?_
      unfold bodyN at q1 q2
      rw [if_neg hm] at q1 q2
      refine ⟨_, rfl, a, rfl, ha, q1, fun h1 p x y H1 s1 hp L => ?_⟩
      refine q2 h1 p x y H1 s1 ?_ L
      rw [if_neg hm]
      exact hp
/-! ### addresses -/
def colv (l : List Nat) : Int := l.foldl (fun (t : Int) c => t * 26 + ((c - 65 : Nat) : Int) + 1) 0
def okA (a : List Nat) : Prop := ((a.takeWhile cap).length = 1 ∨ (a.takeWhile cap).length = 2) ∧ ((a.drop (a.takeWhile cap).length).length = 1 ∨ (a.drop (a.takeWhile cap).length).length = 2) ∧ (a.drop (a.takeWhile cap).length).head? ≠ some 48 ∧ (a.drop (a.takeWhile cap).length).all dig = true
def rowA (a : List Nat) : Int := ((digitsVal (a.drop (a.takeWhile cap).length) : Nat) : Int) - 1
def colA (a : List Nat) : Int := colv (a.take (a.takeWhile cap).length) - 1
def spAddr (K : PySem.W.Frag) : Sp := fun vs H Q _ => ∃ (a : List Nat), vs = [.str (S a)] ∧ a.length ≤ 2500 ∧ (¬ okA a → ∀ H', Same H H' → Q .non H') ∧ (okA a → ∀ p H', Same H H' → H' p = some (.tup [.int (rowA a), .int (colA a)]) → Q (.ref p) H')
theorem idx26 {c : Nat} (h : cap c = true) : Txt.index0 ("ABCDEFGHIJKLMNOPQRSTUVWXYZ" : Str) (S [c]) = some (c - 65) := by
  have h2 : 65 ≤ c ∧ c ≤ 90 := of_decide_eq_true h
  have all : ∀ k : Fin 26, Txt.index0 ("ABCDEFGHIJKLMNOPQRSTUVWXYZ" : Str) (S [65 + k.val]) = some k.val := by decide +kernel
  have e := all ⟨c - 65, by omega⟩
  rw [show 65 + (c - 65) = c by omega] at e
  exact e
theorem okReadAddress (T : Txt P w K mg) : FnOk P w K mg base CX0 2 T.fReadAddress T.fdReadAddress ["text"] (spAddr K) := by
  refine T.FReadAddress.ok scReadAddress (fun vs H Q E h => ?_) (fun cdv A outer s H vs Q E hr h => ?_)
  · obtain ⟨a, rfl, _⟩ := h
    rfl
  · obtain ⟨a, rfl, ha, q1, q2⟩ := h
    -- slots text=0 middle=1 letters=2 digits=3 column=4 letter=5
    refine ⟨_, (pss_cons (ps_set (i := 1) scReadAddress.nd rfl (Or.inl rfl) (pe_call (okRunEnd T) (hr.mono (by decide)) (by rfl) T.gRunEnd T.FRunEnd.kp T.bRunEnd .nil pass0 (pa_cons (pv 0) (pa_cons pe_int (pa_cons (pe_glob (v := (.str "ABCDEFGHIJKLMNOPQRSTUVWXYZ")) rfl T.g_CAPITALS ⟨_, rfl⟩) pa_nil)))))
        (pss_cons (ps_set (i := 2) scReadAddress.nd rfl (Or.inl rfl) (pe_slice C8.sl_txt (pv 0) po_none (po_some (pv 1))))
        (pss_cons (ps_set (i := 3) scReadAddress.nd rfl (Or.inl rfl) (pe_slice C8.sl_txt (pv 0) (po_some (pv 1)) po_none))
        (pss_cons (ps_if (PW.pt (pw_or (pt_cmpR op_notIn_seq (pe_callB call_len_str (by rfl) T.z_len PySem.boot_len (pa_cons (pv 2) pa_nil)) (pe_tup (pa_cons pe_int (pa_cons pe_int pa_nil))) rfl) (pw_or1 (pt_cmpR op_notIn_seq (pe_callB call_len_str (by rfl) T.z_len PySem.boot_len (pa_cons (pv 3) pa_nil)) (pe_tup (pa_cons pe_int (pa_cons pe_int pa_nil))) rfl))))
          (pss_one (ps_ret pe_non))
          pss_nil)
        (pss_cons (ps_if (PW.pt (pw_or (pt_cmpR op_eq (pe_ix ix_str (pv 3) pe_int (fun _ _ => rfl)) pe_str (nomark _)) (pw_or1 (pt_cmpR op_lt (pe_call (okRunEnd T) (hr.mono (by decide)) (by rfl) T.gRunEnd T.FRunEnd.kp T.bRunEnd .nil pass0 (pa_cons (pv 3) (pa_cons pe_int (pa_cons (pe_glob (v := (.str "0123456789")) rfl T.g_DIGITS ⟨_, rfl⟩) pa_nil)))) (pe_callB call_len_str (by rfl) T.z_len PySem.boot_len (pa_cons (pv 3) pa_nil)) (nomark _)))))
          (pss_one (ps_ret pe_non))
          pss_nil)
        (pss_cons (ps_set (i := 4) scReadAddress.nd rfl (Or.inl rfl) pe_int)
        (pss_cons (ps_for PassesOwn.never rfl (pi_str (pv 2)) (pg_name (i := 5) scReadAddress.nd rfl (Or.inl rfl))
          (pss_one (ps_set (i := 4) scReadAddress.nd rfl (Or.inl rfl) (pe_op op_add (pe_op op_add (pe_op op_mul (pv 4) (pe_callB call_len_str (by rfl) T.z_len PySem.boot_len (pa_cons (pe_glob (v := (.str "ABCDEFGHIJKLMNOPQRSTUVWXYZ")) rfl T.g_CAPITALS ⟨_, rfl⟩) pa_nil))) (pe_bmS PySem.F.plainAttrs_str PySem.F.slot_str_index PySem.F.type_str_index (mt_indexX rfl takes0) (pe_glob (v := (.str "ABCDEFGHIJKLMNOPQRSTUVWXYZ")) rfl T.g_CAPITALS ⟨_, rfl⟩) (pa_cons (pv 5) pa_nil))) pe_int))))
        (pss_one (ps_ret (pe_tup (pa_cons (pe_op op_sub (pe_callTy call_int_str (by rfl) T.z_int (by decide +kernel) (pa_cons (pv 3) pa_nil)) pe_int) (pa_cons (pe_op op_sub (pv 4) pe_int) pa_nil)))))))))))), ?_⟩
    have em : rn ("ABCDEFGHIJKLMNOPQRSTUVWXYZ" : Str) (a.drop 0) = (a.takeWhile cap).length := by
      unfold rn
      rw [List.drop_zero, tw_congr cap_mem]
    refine ⟨_, rfl, a, 0, _, rfl, by omega, ?_⟩
    rw [em, Nat.zero_add]
    have hm := tw_le (p := cap) a
    have hcap := tw_take (p := cap) a
    unfold okA at q1 q2
    unfold rowA colA at q2
    generalize (a.takeWhile cap).length = m at q1 q2 hm hcap
    refine ⟨_, rfl, _, rfl, _, rfl, S a, rfl, by rw [S_len]; exact sz100 (by omega), ?_⟩
    rw [slice_to (by omega), Int.toNat_natCast]
    refine ⟨_, rfl, _, rfl, _, rfl, S a, rfl, by rw [S_len]; exact sz100 (by omega), ?_⟩
    rw [slice_from (by omega), Int.toNat_natCast]
    have lL : (a.take m).length = m := by rw [List.length_take]; omega
    have lD : (a.drop m).length ≤ 2500 := by rw [List.length_drop]; omega
    generalize a.take m = L at *
    generalize a.drop m = D at *
    -- if len(letters) not in (1, 2) or len(digits) not in (1, 2)
    refine ⟨_, rfl, S L, rfl, by rw [S_len]; exact sz100 (by omega), (by show 2 ≤ sizeLine; decide), fun t ht => ?_⟩
    refine ⟨t, _, rfl, .inr (SqT.of upd_same), rfl, rfl, _, rfl, ?_⟩
    rw [S_len, lL]
    show if (!inV (V.int (m : Int)) [.int 1, .int 2]) = true then _ else _
    rw [in12]
    by_cases c1 : m = 1 ∨ m = 2
    rotate_left
    · rw [decide_eq_false (by omega)]
      refine iteT (q1 (fun z => c1 z.1) _ (same_new ht))
    rw [decide_eq_true (by omega)]
    refine iteF ?_
    refine ⟨_, rfl, S D, rfl, by rw [S_len]; exact sz100 (by omega), (by show 2 ≤ sizeLine; decide), fun t2 ht2 => ?_⟩
    have s2 := (same_new (o := .tup [.int 1, .int 2]) ht).trans (same_new (o := .tup [.int 1, .int 2]) ht2)
    refine ⟨t2, _, rfl, .inr (SqT.of upd_same), rfl, rfl, _, rfl, ?_⟩
    rw [S_len]
    show if (!inV (V.int (D.length : Int)) [.int 1, .int 2]) = true then _ else _
    rw [in12]
    by_cases c2 : D.length = 1 ∨ D.length = 2
    rotate_left
    · rw [decide_eq_false (by omega)]
      refine iteT (q1 (fun z => c2 z.2.1) _ s2)
    rw [decide_eq_true (by omega)]
    refine iteF ?_
    -- if digits[0] == '0' or ..
    obtain ⟨x, r, rfl⟩ : ∃ x r, D = x :: r := by
      cases D with
      | nil => simp at c2
      | cons x r => exact ⟨x, r, rfl⟩
    refine ⟨_, rfl, S (x :: r), 0, x, rfl, rfl, by rw [S_len]; exact sz100 (by omega), atI_nat (j := 0) rfl, rfl, _, rfl, ?_⟩
    by_cases c3 : x = 48
    · subst c3
      refine ite2 (fun _ => ?_) (fun z => absurd (decide_eq_true rfl) z)
      refine iteT (q1 (fun z => z.2.2.1 rfl) _ s2)
    refine ite2 (fun z => ?_) (fun _ => ?_)
    · have z2 := SX.S_inj (a := [x]) (b := [48]) (V.str.inj (of_decide_eq_true z))
      simp at z2
      exact absurd z2 c3
    refine ⟨_, rfl, x :: r, 0, _, rfl, by omega, ?_⟩
    have er : rn ("0123456789" : Str) ((x :: r).drop 0) = ((x :: r).takeWhile dig).length := by
      unfold rn
      rw [List.drop_zero, tw_congr dig_mem]
    rw [er, Nat.zero_add]
    refine ⟨_, rfl, S (x :: r), rfl, by rw [S_len]; exact sz100 (by omega), _, _, rfl, rfl, _, rfl, ?_⟩
    rw [S_len]
    by_cases c4 : (x :: r).all dig = true
    rotate_left
    · have hlt : ((x :: r).takeWhile dig).length < (x :: r).length := by
        rcases Nat.lt_or_ge ((x :: r).takeWhile dig).length (x :: r).length with h | h
        · exact h
        · exact absurd (List.all_eq_true.mpr (tw_full (Nat.le_antisymm (tw_le _) h))) c4
      rw [decide_eq_true (by omega)]
      refine iteT (q1 (fun z => c4 z.2.2.2) _ s2)
    rw [tw_all (List.all_eq_true.mp c4), decide_eq_false (by omega)]
    refine iteF ?_
    -- column
    refine ⟨_, rfl, S L, rfl, for_it (walk_S (a := L)) (fun i σ H' => ∃ c5, σ = [some (.str (S a)), some (.int (m : Int)), some (.str (S L)), some (.str (S (x :: r))), some (.int (colv (L.take i))), c5] ∧ Same H H') ⟨_, rfl, s2⟩ (fun _ _ _ _ _ => trivial) ?_ ?_⟩
    · rintro i v σ H1 H2 hi ⟨c5, rfl, s3⟩ ⟨rfl, c, ec, rfl⟩
      have hc : cap c = true := hcap c (List.mem_of_getElem? ec)
      refine ⟨_, rfl, _, rfl, by decide +kernel, _, _, rfl, rfl, .inr ⟨by decide +kernel, by decide +kernel⟩, rfl, _, rfl, _, _, rfl, rfl, (fun k ek => ?_), (fun z => by rw [idx26 hc] at z; cases z)⟩
      rw [idx26 hc] at ek
      cases ek
      refine ⟨_, _, rfl, rfl, _, _, rfl, rfl, some (.str (S [c])), ?_, s3⟩
      have et : L.take (i + 1) = L.take i ++ [c] := by rw [List.take_add_one, ec]; rfl
      rw [et]
      unfold colv
      rw [List.foldl_append]
      rfl
    · rintro σ H1 ⟨c5, rfl, s3⟩
      rw [List.take_length]
      have hne : (x :: r) ≠ [] := List.cons_ne_nil _ _
      refine ⟨_, rfl, S (x :: r), _, rfl, int_dig c4 hne (by omega), by rw [S_len]; omega, _, _, rfl, rfl, _, rfl, _, _, rfl, rfl, (by show 2 ≤ sizeLine; decide), fun p hp => ?_⟩
      exact q2 ⟨c1, c2, fun z => c3 (Option.some.inj z), c4⟩ p _ (s3.trans (same_new hp)) upd_same
/-! ### tokens -/
def sml (c : Nat) : Bool := decide (97 ≤ c ∧ c ≤ 122)
theorem sml_mem (c : Nat) : decide (c ∈ ("abcdefghijklmnopqrstuvwxyz" : Str).cps.toList) = sml c := by
  have e : ("abcdefghijklmnopqrstuvwxyz" : Str).cps.toList = [97, 98, 99, 100, 101, 102, 103, 104, 105, 106, 107, 108, 109, 110, 111, 112, 113, 114, 115, 116, 117, 118, 119, 120, 121, 122] := by decide +kernel
  rw [e]
  unfold sml
  refine decide_eq_decide.mpr ?_
  simp only [List.mem_cons, List.not_mem_nil, or_false]
  omega
def sgnC (c : Nat) : Bool := decide (c ∈ [43, 45, 42, 47, 40, 41, 44, 58])
theorem sgn_mem (c : Nat) : decide (c ∈ ("+-*/(),:" : Str).cps.toList) = sgnC c := by
  have e : ("+-*/(),:" : Str).cps.toList = [43, 45, 42, 47, 40, 41, 44, 58] := by decide +kernel
  rw [e]
  rfl
theorem rn_dig (a : List Nat) : rn ("0123456789" : Str) a = (a.takeWhile dig).length := by
  unfold rn
  rw [tw_congr dig_mem]
theorem rn_cap (a : List Nat) : rn ("ABCDEFGHIJKLMNOPQRSTUVWXYZ" : Str) a = (a.takeWhile cap).length := by
  unfold rn
  rw [tw_congr cap_mem]
theorem rn_sml (a : List Nat) : rn ("abcdefghijklmnopqrstuvwxyz" : Str) a = (a.takeWhile sml).length := by
  unfold rn
  rw [tw_congr sml_mem]
theorem slice_mid {a : List Nat} {i j : Nat} (h : i ≤ j) : Txt.slice (S a) (some (i : Int)) (some (j : Int)) = S ((a.drop i).take (j - i)) := by
  rw [← C8.cutS_slice]
  unfold cutS
  rw [S_len, HT.sIx_nat, HT.sIx_nat]
  show S ((a.drop (min i a.length)).take (min j a.length - min i a.length)) = _
  rcases Nat.lt_or_ge a.length i with z | z
  · rw [Nat.min_eq_right (by omega), Nat.min_eq_right (by omega), Nat.sub_self, List.take_zero, List.drop_eq_nil_of_le (by omega), List.take_nil]
  · rw [Nat.min_eq_left z]
    rcases Nat.lt_or_ge a.length j with y | y
    · rw [Nat.min_eq_right (by omega), List.take_of_length_le (by rw [List.length_drop]; exact Nat.le_refl _), List.take_of_length_le (by rw [List.length_drop]; omega)]
    · rw [Nat.min_eq_left y]
def tokLen (a : List Nat) : Nat :=
  if dig (a.headD 0) = true then
    (if a[(a.takeWhile dig).length]? = some 46 ∧ 0 < ((a.drop ((a.takeWhile dig).length + 1)).takeWhile dig).length then (a.takeWhile dig).length + 1 + ((a.drop ((a.takeWhile dig).length + 1)).takeWhile dig).length else (a.takeWhile dig).length)
  else if cap (a.headD 0) = true then (a.takeWhile cap).length + ((a.drop (a.takeWhile cap).length).takeWhile dig).length
  else if sml (a.headD 0) = true then (a.takeWhile sml).length
  else 1
theorem tw_head {p : Nat → Bool} {c : Nat} {r : List Nat} (h : p c = true) : 0 < ((c :: r).takeWhile p).length := by
  rw [List.takeWhile_cons, h]
  exact Nat.succ_pos _
theorem tokLen_pos (c : Nat) (r : List Nat) : 0 < tokLen (c :: r) := by
  unfold tokLen
  split
  · rename_i h
    have := tw_head (r := r) (show dig c = true from h)
    split <;> omega
  · split
    · rename_i h
      have := tw_head (r := r) (show cap c = true from h)
      omega
    · split
      · rename_i h
        exact tw_head h
      · exact Nat.one_pos
theorem tokLen_le {c : Nat} {r : List Nat} : tokLen (c :: r) ≤ (c :: r).length := by
  have h1 := tw_le (p := dig) (c :: r)
  have h2 := tw_le (p := cap) (c :: r)
  have h3 := tw_le (p := sml) (c :: r)
  have h4 := tw_le (p := dig) ((c :: r).drop ((c :: r).takeWhile cap).length)
  have h5 := tw_le (p := dig) ((c :: r).drop (((c :: r).takeWhile dig).length + 1))
  rw [List.length_drop] at h4 h5
  unfold tokLen
  split
  · split
    · rename_i h
      omega
    · exact h1
  · split
    · omega
    · split
      · exact h3
      · rw [List.length_cons]
        omega
noncomputable instance (a : List Nat) : Decidable (okA a) := Classical.propDecidable _
noncomputable instance (a : List Nat) : Decidable (okD a) := Classical.propDecidable _
noncomputable def kindOf (t : List Nat) : Str :=
  if dig (t.headD 0) = true ∧ okD t then "decimal"
  else if cap (t.headD 0) = true ∧ okA t then "address"
  else if sml (t.headD 0) = true ∧ t.length ≤ 8 then "word"
  else if sgnC (t.headD 0) = true then "sign"
  else "bad"
noncomputable def toks (a : List Nat) : List (Str × List Nat) :=
  match a with
  | [] => []
  | c :: r => if c = 32 then toks ((c :: r).drop (tokLen (c :: r))) else (kindOf ((c :: r).take (tokLen (c :: r))), (c :: r).take (tokLen (c :: r))) :: toks ((c :: r).drop (tokLen (c :: r)))
termination_by a.length
decreasing_by
  all_goals
    rw [List.length_drop]
    have := tokLen_pos c r
    simp only [List.length_cons]
    omega
theorem toks_nil : toks [] = [] := by rw [toks]
theorem toks_cons (c : Nat) (r : List Nat) : toks (c :: r) = if c = 32 then toks ((c :: r).drop (tokLen (c :: r))) else (kindOf ((c :: r).take (tokLen (c :: r))), (c :: r).take (tokLen (c :: r))) :: toks ((c :: r).drop (tokLen (c :: r))) := by rw [toks]
/-- a list of tuples (kind, text) in the heap -/
inductive Rep (H : Hp) : List V → List (Str × List Nat) → Prop where
  | nil : Rep H [] []
  | cons {q : Addr} {k : Str} {t : List Nat} {vs : List V} {ds : List (Str × List Nat)} : H q = some (.tup [.str k, .str (S t)]) → Rep H vs ds → Rep H (.ref q :: vs) ((k, t) :: ds)
theorem TK.kp {b : Addr} {H H' : Hp} (w : Kp b H H') (hb : Box H b) : TK H H' := fun q xs h => by
  refine w q _ (fun z => ?_) h
  obtain ⟨_, _, _, h2, _, _⟩ := hb
  rw [z, h2] at h
  cases h
theorem Rep.mono {H H' : Hp} (s : TK H H') : ∀ {vs ds}, Rep H vs ds → Rep H' vs ds
  | _, _, .nil => .nil
  | _, _, .cons h r => .cons (s _ _ h) (r.mono s)
theorem Rep.snoc {H : Hp} {q : Addr} {k : Str} {t : List Nat} (h : H q = some (.tup [.str k, .str (S t)])) : ∀ {vs ds}, Rep H vs ds → Rep H (vs ++ [.ref q]) (ds ++ [(k, t)])
  | _, _, .nil => .cons h .nil
  | _, _, .cons h2 r => .cons h2 (r.snoc h)
theorem Rep.len {H : Hp} : ∀ {vs ds}, Rep H vs ds → vs.length = ds.length
  | _, _, .nil => rfl
  | _, _, .cons _ r => congrArg (· + 1) r.len
def spTokenEnd (K : PySem.W.Frag) : Sp := fun vs H Q _ => ∃ (a : List Nat) (i : Nat), vs = [.str (S a), .int (i : Int)] ∧ i < a.length ∧ a.length ≤ 2500 ∧ Q (.int ((i + tokLen (a.drop i) : Nat) : Int)) H
theorem okTokenEnd (T : Txt P w K mg) : FnOk P w K mg base CX0 2 T.fTokenEnd T.fdTokenEnd ["text", "at"] (spTokenEnd K) := by
  refine T.FTokenEnd.ok scTokenEnd (fun vs H Q E h => ?_) (fun cdv A outer s H vs Q E hr h => ?_)
  · obtain ⟨a, i, rfl, _⟩ := h
    rfl
  · obtain ⟨a, i, rfl, hi, ha, q⟩ := h
    -- slots text=0 at=1 end=2 behind=3
    refine ⟨_, (pss_cons (ps_if (pt_cmpR op_in_sign (pe_ix ix_str (pv 0) (pv 1) (fun _ _ => rfl)) (pe_glob (v := (.str "0123456789")) rfl T.g_DIGITS ⟨_, rfl⟩) rfl)
          (pss_cons (ps_set (i := 2) scTokenEnd.nd rfl (Or.inl rfl) (pe_call (okRunEnd T) (hr.mono (by decide)) (by rfl) T.gRunEnd T.FRunEnd.kp T.bRunEnd .nil pass0 (pa_cons (pv 0) (pa_cons (pv 1) (pa_cons (pe_glob (v := (.str "0123456789")) rfl T.g_DIGITS ⟨_, rfl⟩) pa_nil)))))
          (pss_cons (ps_set (i := 3) scTokenEnd.nd rfl (Or.inl rfl) (pe_call (okRunEnd T) (hr.mono (by decide)) (by rfl) T.gRunEnd T.FRunEnd.kp T.bRunEnd .nil pass0 (pa_cons (pv 0) (pa_cons (pe_op op_add (pv 2) pe_int) (pa_cons (pe_glob (v := (.str "0123456789")) rfl T.g_DIGITS ⟨_, rfl⟩) pa_nil)))))
          (pss_cons (ps_if (PW.pt (pw_and (pt_cmpR op_eq (pe_slice C8.sl_txt (pv 0) (po_some (pv 2)) (po_some (pe_op op_add (pv 2) pe_int))) pe_str (nomark _)) (pw_and1 (pt_cmpR op_gt (pv 3) (pe_op op_add (pv 2) pe_int) (nomark _)))))
            (pss_one (ps_ret (pv 3)))
            pss_nil)
          (pss_one (ps_ret (pv 2))))))
          pss_nil)
        (pss_cons (ps_if (pt_cmpR op_in_sign (pe_ix ix_str (pv 0) (pv 1) (fun _ _ => rfl)) (pe_glob (v := (.str "ABCDEFGHIJKLMNOPQRSTUVWXYZ")) rfl T.g_CAPITALS ⟨_, rfl⟩) rfl)
          (pss_one (ps_ret (pe_call (okRunEnd T) (hr.mono (by decide)) (by rfl) T.gRunEnd T.FRunEnd.kp T.bRunEnd .nil pass0 (pa_cons (pv 0) (pa_cons (pe_call (okRunEnd T) (hr.mono (by decide)) (by rfl) T.gRunEnd T.FRunEnd.kp T.bRunEnd .nil pass0 (pa_cons (pv 0) (pa_cons (pv 1) (pa_cons (pe_glob (v := (.str "ABCDEFGHIJKLMNOPQRSTUVWXYZ")) rfl T.g_CAPITALS ⟨_, rfl⟩) pa_nil)))) (pa_cons (pe_glob (v := (.str "0123456789")) rfl T.g_DIGITS ⟨_, rfl⟩) pa_nil))))))
          pss_nil)
        (pss_cons (ps_if (pt_cmpR op_in_sign (pe_ix ix_str (pv 0) (pv 1) (fun _ _ => rfl)) (pe_glob (v := (.str "abcdefghijklmnopqrstuvwxyz")) rfl T.g_SMALL ⟨_, rfl⟩) rfl)
          (pss_one (ps_ret (pe_call (okRunEnd T) (hr.mono (by decide)) (by rfl) T.gRunEnd T.FRunEnd.kp T.bRunEnd .nil pass0 (pa_cons (pv 0) (pa_cons (pv 1) (pa_cons (pe_glob (v := (.str "abcdefghijklmnopqrstuvwxyz")) rfl T.g_SMALL ⟨_, rfl⟩) pa_nil))))))
          pss_nil)
        (pss_one (ps_ret (pe_op op_add (pv 1) pe_int)))))), ?_⟩
    have ec : a[i]? = some a[i] := List.getElem?_eq_getElem hi
    have eh : (a.drop i).headD 0 = a[i] := by rw [List.drop_eq_getElem_cons hi]; rfl
    have zS : (S a).length ≤ sizeLine := by rw [S_len]; exact sz100 (by omega)
    unfold tokLen at q
    rw [eh] at q
    generalize a[i] = c at ec q
    have atc : atI (S a).cps.toList (i : Int) = some c := atI_nat (show a[i]? = some c from ec)
    refine ⟨_, rfl, _, rfl, S a, _, c, rfl, rfl, zS, atc, c, _, rfl, rfl, _, rfl, ?_⟩
    rw [dig_mem]
    cases h1 : dig c with
    | true =>
      rw [if_pos h1] at q
      refine iteT ⟨_, rfl, _, rfl, a, i, _, rfl, by omega, ?_⟩
      rw [rn_dig]
      generalize hk : ((a.drop i).takeWhile dig).length = k at q
      have hk1 := tw_le (p := dig) (a.drop i)
      rw [hk, List.length_drop] at hk1
      refine ⟨_, rfl, _, rfl, _, _, rfl, rfl, a, i + k + 1, _, rfl, by omega, ?_⟩
      rw [rn_dig]
      have ed : a.drop (i + k + 1) = (a.drop i).drop (k + 1) := by rw [List.drop_drop, Nat.add_assoc]
      rw [ed]
      generalize ((List.drop (k + 1) (List.drop i a)).takeWhile dig).length = m at q
      refine ⟨_, rfl, _, rfl, _, rfl, _, rfl, _, _, rfl, rfl, _, rfl, S a, rfl, zS, ?_⟩
      have e1 : Txt.slice (S a) (some ((i + k : Nat) : Int)) (some (((i + k : Nat) : Int) + 1)) = S ((a.drop (i + k)).take 1) := by
        have := slice_mid (a := a) (show i + k ≤ i + k + 1 by omega)
        rw [show i + k + 1 - (i + k) = 1 by omega] at this
        exact this
      rw [e1]
      refine ⟨rfl, _, rfl, ?_⟩
      have e2 : decide (V.str (S ((a.drop (i + k)).take 1)) = V.str ("." : Str)) = decide ((a.drop i)[k]? = some 46) := by
        rw [pt_S]
        refine decide_eq_decide.mpr ?_
        rw [List.getElem?_drop]
        cases e3 : a.drop (i + k) with
        | nil =>
          have hl : a.length ≤ i + k := by
            have := congrArg List.length e3
            rw [List.length_drop] at this
            simp at this
            omega
          rw [List.getElem?_eq_none (by omega)]
          refine ⟨fun z => ?_, fun z => by cases z⟩
          have := SX.S_inj (V.str.inj z)
          cases this
        | cons x r =>
          have e4 : a[i + k]? = some x := by
            have := congrArg (fun l => l[0]?) e3
            rw [List.getElem?_drop] at this
            simpa using this
          rw [e4]
          refine ⟨fun z => ?_, fun z => ?_⟩
          · have := SX.S_inj (V.str.inj z)
            simp at this
            rw [this]
          · rw [Option.some.inj z]
            rfl
      show if decide (V.str (S ((a.drop (i + k)).take 1)) = V.str ("." : Str)) = true then _ else _
      rw [e2]
      by_cases h2 : (a.drop i)[k]? = some 46
      · rw [decide_eq_true h2]
        refine iteT ⟨_, rfl, _, rfl, _, _, rfl, rfl, _, _, rfl, rfl, _, rfl, ?_⟩
        by_cases h3 : 0 < m
        · rw [if_pos ⟨h2, h3⟩] at q
          refine ite2 (fun _ => ⟨_, rfl, ?_⟩) (fun z => absurd (decide_eq_true (by omega)) z)
          rw [show i + k + 1 + m = i + (k + 1 + m) by omega]
          exact q
        · rw [if_neg fun z => h3 z.2] at q
          refine ite2 (fun z => absurd (of_decide_eq_true z) (by omega)) (fun _ => ⟨_, rfl, q⟩)
      · rw [decide_eq_false h2]
        rw [if_neg fun z => h2 z.1] at q
        exact iteF (iteF ⟨_, rfl, q⟩)
    | false =>
      rw [if_neg (by rw [h1]; decide)] at q
      refine iteF ⟨_, rfl, _, rfl, S a, _, c, rfl, rfl, zS, atc, c, _, rfl, rfl, _, rfl, ?_⟩
      rw [cap_mem]
      cases h2 : cap c with
      | true =>
        rw [if_pos h2] at q
        refine iteT ⟨_, rfl, _, rfl, _, rfl, a, i, _, rfl, by omega, ?_⟩
        rw [rn_cap]
        generalize ((a.drop i).takeWhile cap).length = k at q
        refine ⟨a, i + k, _, rfl, by omega, ?_⟩
        rw [rn_dig, ← List.drop_drop, Nat.add_assoc]
        exact q
      | false =>
        rw [if_neg (by rw [h2]; decide)] at q
        refine iteF ⟨_, rfl, _, rfl, S a, _, c, rfl, rfl, zS, atc, c, _, rfl, rfl, _, rfl, ?_⟩
        rw [sml_mem]
        cases h3 : sml c with
        | true =>
          rw [if_pos h3] at q
          refine iteT ⟨_, rfl, _, rfl, a, i, _, rfl, by omega, ?_⟩
          rw [rn_sml]
          exact q
        | false =>
          rw [if_neg (by rw [h3]; decide)] at q
          exact iteF ⟨_, rfl, _, _, rfl, rfl, q⟩
def spKind (K : PySem.W.Frag) : Sp := fun vs H Q _ => ∃ (c : Nat) (r : List Nat), vs = [.str (S (c :: r))] ∧ (c :: r).length ≤ 2500 ∧ ∀ H', Same H H' → Q (.str (kindOf (c :: r))) H'
theorem okKind (T : Txt P w K mg) : FnOk P w K mg base CX0 3 T.fKind T.fdKind ["token"] (spKind K) := by
  refine T.FKind.ok scKind (fun vs H Q E h => ?_) (fun cdv A outer s H vs Q E hr h => ?_)
  · obtain ⟨c, r, rfl, _⟩ := h
    rfl
  · obtain ⟨c, r, rfl, ha, q⟩ := h
    -- slots token=0 first=1
    refine ⟨_, (pss_cons (ps_set (i := 1) scKind.nd rfl (Or.inl rfl) (pe_ix ix_str (pv 0) pe_int (fun _ _ => rfl)))
        (pss_cons (ps_if (PW.pt (pw_and (pt_cmpR op_in_sign (pv 1) (pe_glob (v := (.str "0123456789")) rfl T.g_DIGITS ⟨_, rfl⟩) rfl) (pw_and1 (pt_cmpR op_notN (pe_call (okReadDecimal T) (hr.mono (by decide)) (by rfl) T.gReadDecimal T.FReadDecimal.kp T.bReadDecimal .nil pass0 (pa_cons (pv 0) pa_nil)) pe_non (nomark _)))))
          (pss_one (ps_ret pe_str))
          pss_nil)
        (pss_cons (ps_if (PW.pt (pw_and (pt_cmpR op_in_sign (pv 1) (pe_glob (v := (.str "ABCDEFGHIJKLMNOPQRSTUVWXYZ")) rfl T.g_CAPITALS ⟨_, rfl⟩) rfl) (pw_and1 (pt_cmpR op_notN (pe_call (okReadAddress T) (hr.mono (by decide)) (by rfl) T.gReadAddress T.FReadAddress.kp T.bReadAddress .nil pass0 (pa_cons (pv 0) pa_nil)) pe_non (nomark _)))))
          (pss_one (ps_ret pe_str))
          pss_nil)
        (pss_cons (ps_if (PW.pt (pw_and (pt_cmpR op_in_sign (pv 1) (pe_glob (v := (.str "abcdefghijklmnopqrstuvwxyz")) rfl T.g_SMALL ⟨_, rfl⟩) rfl) (pw_and1 (pt_cmpR op_le (pe_callB call_len_str (by rfl) T.z_len PySem.boot_len (pa_cons (pv 0) pa_nil)) (pe_glob (v := (.int 8)) rfl T.g_LONGEST_WORD ⟨_, rfl⟩) (nomark _)))))
          (pss_one (ps_ret pe_str))
          pss_nil)
        (pss_cons (ps_if (pt_cmpR op_in_sign (pv 1) (pe_glob (v := (.str "+-*/(),:")) rfl T.g_SIGNS ⟨_, rfl⟩) rfl)
          (pss_one (ps_ret pe_str))
          pss_nil)
        (pss_one (ps_ret pe_str))))))), ?_⟩
    have zS : (S (c :: r)).length ≤ sizeLine := by rw [S_len]; exact sz100 (by omega)
    have eh : (c :: r).headD 0 = c := rfl
    unfold kindOf at q
    rw [eh] at q
    refine ⟨_, rfl, S (c :: r), 0, c, rfl, rfl, zS, atI_nat (j := 0) rfl, ?_⟩
    -- a decimal
    refine ⟨_, rfl, c, _, rfl, rfl, _, rfl, ?_⟩
    rw [dig_mem]
    refine ite2 (fun h1 => ⟨_, rfl, c :: r, rfl, ha, fun hn H1 s1 => ?_, fun ho p x y H1 s1 _ _ => ?_⟩) (fun h1 => iteF ?_)
    rotate_left
    · refine ⟨rfl, _, rfl, iteT ?_⟩
      have q2 := q H1 s1
      rw [if_pos ⟨h1, ho⟩] at q2
      exact q2
    rotate_left
    · refine ⟨rfl, _, rfl, iteF ?_⟩
      have hno : ¬ (dig c = true ∧ okD (c :: r)) := fun z => hn z.2
      have q2 : ∀ H', Same H H' → Q (.str (if cap c = true ∧ okA (c :: r) then "address" else if sml c = true ∧ (c :: r).length ≤ 8 then "word" else if sgnC c = true then "sign" else "bad")) H' := fun H' s => by
        have := q H' s
        rw [if_neg hno] at this
        exact this
      clear q
      refine ⟨_, rfl, c, _, rfl, rfl, _, rfl, ?_⟩
      rw [cap_mem]
      refine ite2 (fun g1 => ⟨_, rfl, c :: r, rfl, ha, fun hn2 H2 s2 => ?_, fun ho2 p2 H2 s2 _ => ?_⟩) (fun g1 => iteF ?_)
      rotate_left
      · refine ⟨rfl, _, rfl, iteT ?_⟩
        have q3 := q2 H2 (s1.trans s2)
        rw [if_pos ⟨g1, ho2⟩] at q3
        exact q3
      rotate_left
      · refine ⟨rfl, _, rfl, iteF ?_⟩
        have hno2 : ¬ (cap c = true ∧ okA (c :: r)) := fun z => hn2 z.2
        have q3 := q2 H2 (s1.trans s2)
        rw [if_neg hno2] at q3
        refine ⟨_, rfl, c, _, rfl, rfl, _, rfl, ?_⟩
        rw [sml_mem]
        have fin : ∀ (Hz : Hp), (¬ (sml c = true ∧ (c :: r).length ≤ 8)) → True := fun _ _ => trivial
        by_cases k1 : sml c = true ∧ (c :: r).length ≤ 8
        · rw [if_pos k1] at q3
          rw [k1.1]
          refine iteT ⟨_, rfl, S (c :: r), rfl, zS, _, _, rfl, rfl, _, rfl, ?_⟩
          rw [S_len]
          exact ite2 (fun _ => q3) (fun z => absurd (decide_eq_true (by have := k1.2; omega)) z)
        · rw [if_neg k1] at q3
          refine ite2 (fun w1 => ⟨_, rfl, S (c :: r), rfl, zS, _, _, rfl, rfl, _, rfl, ?_⟩) (fun w1 => iteF ?_)
          · rw [S_len]
            refine ite2 (fun z => absurd ⟨w1, by have := of_decide_eq_true z; omega⟩ k1) (fun _ => ?_)
            refine ⟨_, rfl, c, _, rfl, rfl, _, rfl, ?_⟩
            rw [sgn_mem]
            refine ite2 (fun w2 => ?_) (fun w2 => ?_)
            · rw [if_pos w2] at q3
              exact q3
            · rw [if_neg w2] at q3
              exact q3
          · refine ⟨_, rfl, c, _, rfl, rfl, _, rfl, ?_⟩
            rw [sgn_mem]
            refine ite2 (fun w2 => ?_) (fun w2 => ?_)
            · rw [if_pos w2] at q3
              exact q3
            · rw [if_neg w2] at q3
              exact q3
      · have hno2 : ¬ (cap c = true ∧ okA (c :: r)) := fun z => g1 z.1
        have q3 := q2 H1 s1
        rw [if_neg hno2] at q3
        refine ⟨_, rfl, c, _, rfl, rfl, _, rfl, ?_⟩
        rw [sml_mem]
        have fin : ∀ (Hz : Hp), (¬ (sml c = true ∧ (c :: r).length ≤ 8)) → True := fun _ _ => trivial
        by_cases k1 : sml c = true ∧ (c :: r).length ≤ 8
        · rw [if_pos k1] at q3
          rw [k1.1]
          refine iteT ⟨_, rfl, S (c :: r), rfl, zS, _, _, rfl, rfl, _, rfl, ?_⟩
          rw [S_len]
          exact ite2 (fun _ => q3) (fun z => absurd (decide_eq_true (by have := k1.2; omega)) z)
        · rw [if_neg k1] at q3
          refine ite2 (fun w1 => ⟨_, rfl, S (c :: r), rfl, zS, _, _, rfl, rfl, _, rfl, ?_⟩) (fun w1 => iteF ?_)
          · rw [S_len]
            refine ite2 (fun z => absurd ⟨w1, by have := of_decide_eq_true z; omega⟩ k1) (fun _ => ?_)
            refine ⟨_, rfl, c, _, rfl, rfl, _, rfl, ?_⟩
            rw [sgn_mem]
            refine ite2 (fun w2 => ?_) (fun w2 => ?_)
            · rw [if_pos w2] at q3
              exact q3
            · rw [if_neg w2] at q3
              exact q3
          · refine ⟨_, rfl, c, _, rfl, rfl, _, rfl, ?_⟩
            rw [sgn_mem]
            refine ite2 (fun w2 => ?_) (fun w2 => ?_)
            · rw [if_pos w2] at q3
              exact q3
            · rw [if_neg w2] at q3
              exact q3
    · have hno : ¬ (dig c = true ∧ okD (c :: r)) := fun z => h1 z.1
      have q2 : ∀ H', Same H H' → Q (.str (if cap c = true ∧ okA (c :: r) then "address" else if sml c = true ∧ (c :: r).length ≤ 8 then "word" else if sgnC c = true then "sign" else "bad")) H' := fun H' s => by
        have := q H' s
        rw [if_neg hno] at this
        exact this
      clear q
      have s1 := Same.refl H
      refine ⟨_, rfl, c, _, rfl, rfl, _, rfl, ?_⟩
      rw [cap_mem]
      refine ite2 (fun g1 => ⟨_, rfl, c :: r, rfl, ha, fun hn2 H2 s2 => ?_, fun ho2 p2 H2 s2 _ => ?_⟩) (fun g1 => iteF ?_)
      rotate_left
      · refine ⟨rfl, _, rfl, iteT ?_⟩
        have q3 := q2 H2 (s1.trans s2)
        rw [if_pos ⟨g1, ho2⟩] at q3
        exact q3
      rotate_left
      · refine ⟨rfl, _, rfl, iteF ?_⟩
        have hno2 : ¬ (cap c = true ∧ okA (c :: r)) := fun z => hn2 z.2
        have q3 := q2 H2 (s1.trans s2)
        rw [if_neg hno2] at q3
        refine ⟨_, rfl, c, _, rfl, rfl, _, rfl, ?_⟩
        rw [sml_mem]
        have fin : ∀ (Hz : Hp), (¬ (sml c = true ∧ (c :: r).length ≤ 8)) → True := fun _ _ => trivial
        by_cases k1 : sml c = true ∧ (c :: r).length ≤ 8
        · rw [if_pos k1] at q3
          rw [k1.1]
          refine iteT ⟨_, rfl, S (c :: r), rfl, zS, _, _, rfl, rfl, _, rfl, ?_⟩
          rw [S_len]
          exact ite2 (fun _ => q3) (fun z => absurd (decide_eq_true (by have := k1.2; omega)) z)
        · rw [if_neg k1] at q3
          refine ite2 (fun w1 => ⟨_, rfl, S (c :: r), rfl, zS, _, _, rfl, rfl, _, rfl, ?_⟩) (fun w1 => iteF ?_)
          · rw [S_len]
            refine ite2 (fun z => absurd ⟨w1, by have := of_decide_eq_true z; omega⟩ k1) (fun _ => ?_)
            refine ⟨_, rfl, c, _, rfl, rfl, _, rfl, ?_⟩
            rw [sgn_mem]
            refine ite2 (fun w2 => ?_) (fun w2 => ?_)
            · rw [if_pos w2] at q3
              exact q3
            · rw [if_neg w2] at q3
              exact q3
          · refine ⟨_, rfl, c, _, rfl, rfl, _, rfl, ?_⟩
            rw [sgn_mem]
            refine ite2 (fun w2 => ?_) (fun w2 => ?_)
            · rw [if_pos w2] at q3
              exact q3
            · rw [if_neg w2] at q3
              exact q3
      · have hno2 : ¬ (cap c = true ∧ okA (c :: r)) := fun z => g1 z.1
        have q3 := q2 H s1
        rw [if_neg hno2] at q3
        refine ⟨_, rfl, c, _, rfl, rfl, _, rfl, ?_⟩
        rw [sml_mem]
        have fin : ∀ (Hz : Hp), (¬ (sml c = true ∧ (c :: r).length ≤ 8)) → True := fun _ _ => trivial
        by_cases k1 : sml c = true ∧ (c :: r).length ≤ 8
        · rw [if_pos k1] at q3
          rw [k1.1]
          refine iteT ⟨_, rfl, S (c :: r), rfl, zS, _, _, rfl, rfl, _, rfl, ?_⟩
          rw [S_len]
          exact ite2 (fun _ => q3) (fun z => absurd (decide_eq_true (by have := k1.2; omega)) z)
        · rw [if_neg k1] at q3
          refine ite2 (fun w1 => ⟨_, rfl, S (c :: r), rfl, zS, _, _, rfl, rfl, _, rfl, ?_⟩) (fun w1 => iteF ?_)
          · rw [S_len]
            refine ite2 (fun z => absurd ⟨w1, by have := of_decide_eq_true z; omega⟩ k1) (fun _ => ?_)
            refine ⟨_, rfl, c, _, rfl, rfl, _, rfl, ?_⟩
            rw [sgn_mem]
            refine ite2 (fun w2 => ?_) (fun w2 => ?_)
            · rw [if_pos w2] at q3
              exact q3
            · rw [if_neg w2] at q3
              exact q3
          · refine ⟨_, rfl, c, _, rfl, rfl, _, rfl, ?_⟩
            rw [sgn_mem]
            refine ite2 (fun w2 => ?_) (fun w2 => ?_)
            · rw [if_pos w2] at q3
              exact q3
            · rw [if_neg w2] at q3
              exact q3
def spTokens (K : PySem.W.Frag) : Sp := fun vs H Q _ => ∃ (a : List Nat), vs = [.str (S a)] ∧ a.length ≤ 2500 ∧ ∀ d H' rs, Same H H' → H' d = some (.lst rs) → Rep H' rs (toks a) → Q (.ref d) H'
theorem spc_S : (" " : Str) = S [32] := by decide +kernel
theorem toks_len : ∀ (n : Nat) (a : List Nat), a.length ≤ n → (toks a).length ≤ n
  | n, [], _ => by rw [toks_nil]; exact Nat.zero_le _
  | 0, c :: r, h => by simp at h
  | n + 1, c :: r, h => by
    have hp := tokLen_pos c r
    have hl : ((c :: r).drop (tokLen (c :: r))).length ≤ n := by
      rw [List.length_drop]
      omega
    have ih := toks_len n _ hl
    rw [toks_cons]
    split
    · omega
    · rw [List.length_cons]
      omega
theorem okTokenList (T : Txt P w K mg) : FnOk P w K mg base CX0 4 T.fTokenList T.fdTokenList ["text"] (spTokens K) := by
  refine T.FTokenList.ok scTokenList (fun vs H Q E h => ?_) (fun cdv A outer s H vs Q E hr h => ?_)
  · obtain ⟨a, rfl, _⟩ := h
    rfl
  · obtain ⟨a, rfl, ha, q⟩ := h
    -- slots text=0 found=1 at=2 end=3
    refine ⟨_, (pss_cons (ps_set (i := 1) scTokenList.nd rfl (Or.inl rfl) (pe_lst pa_nil))
        (pss_cons (ps_set (i := 2) scTokenList.nd rfl (Or.inl rfl) pe_int)
        (pss_cons (ps_while PassesOwn.never (pt_cmpR op_lt (pv 2) (pe_callB call_len_str (by rfl) T.z_len PySem.boot_len (pa_cons (pv 0) pa_nil)) (nomark _))
          (pss_cons (ps_set (i := 3) scTokenList.nd rfl (Or.inl rfl) (pe_call (okTokenEnd T) (hr.mono (by decide)) (by rfl) T.gTokenEnd T.FTokenEnd.kp T.bTokenEnd .nil pass0 (pa_cons (pv 0) (pa_cons (pv 2) pa_nil))))
          (C8.pss_cut (ps_if (pt_cmpR op_ne (pe_ix ix_str (pv 0) (pv 2) (fun _ _ => rfl)) pe_str (nomark _))
            (pss_one (ps_expr (pe_bm PySem.F.plainAttrs_list PySem.F.slot_list_append PySem.F.type_list_append mt_append (pv 1) (pa_cons (pe_tup (pa_cons (pe_call (okKind T) (hr.mono (by decide)) (by rfl) T.gKind T.FKind.kp T.bKind .nil pass0 (pa_cons (pe_slice C8.sl_txt (pv 0) (po_some (pv 2)) (po_some (pv 3))) pa_nil)) (pa_cons (pe_slice C8.sl_txt (pv 0) (po_some (pv 2)) (po_some (pv 3))) pa_nil))) pa_nil))))
            pss_nil)
          (pss_one (ps_set (i := 2) scTokenList.nd rfl (Or.inl rfl) (pv 3))))))
        (pss_one (ps_ret (pv 1)))))), ?_⟩
    have zS : (S a).length ≤ sizeLine := by rw [S_len]; exact sz100 (by omega)
    refine ⟨Nat.zero_le _, fun d hd => ?_⟩
    refine while_by (fun σ H' => ∃ (i : Nat) (rs : List V) (ds : List (Str × List Nat)) (c3 : Option V), σ = [some (.str (S a)), some (.ref d), some (.int (i : Int)), c3] ∧ i ≤ a.length ∧ Same H H' ∧ H' d = some (.lst rs) ∧ Rep H' rs ds ∧ ds ++ toks (a.drop i) = toks a) (fun σ _ => match σ with | [_, _, some (.int n), _] => a.length - n.toNat | _ => 0) ⟨0, [], [], none, rfl, Nat.zero_le _, same_new hd, upd_same, .nil, rfl⟩ ?_ (fun σ H Q Q' m h => by
      obtain ⟨v, hv, v2, hv2, z2, e1, e2, i, j, e3, e4, k, e5, q⟩ := h
      exact ⟨v, hv, v2, hv2, z2, e1, e2, i, j, e3, e4, k, e5, m _ _ q⟩)
    rintro σ H1 ⟨i, rs, ds, c3, rfl, hi, s1, hd1, R1, e1⟩
    have ll : rs.length ≤ 2500 := by
      rw [R1.len]
      have := toks_len a.length a (Nat.le_refl _)
      rw [← e1, List.length_append] at this
      omega
    refine ⟨_, rfl, _, rfl, S a, rfl, zS, _, _, rfl, rfl, _, rfl, ite2 (fun c => ?_) (fun c => ?_)⟩
    · have hlt : i < a.length := by
        have c2 := of_decide_eq_true c
        rw [S_len] at c2
        omega
      have ec : a[i]? = some a[i] := List.getElem?_eq_getElem hlt
      have ed : a.drop i = a[i] :: a.drop (i + 1) := List.drop_eq_getElem_cons hlt
      generalize a[i] = ch at ec ed
      have hp : 0 < tokLen (a.drop i) := by rw [ed]; exact tokLen_pos _ _
      have hle : i + tokLen (a.drop i) ≤ a.length := by
        have h := tokLen_le (c := ch) (r := a.drop (i + 1))
        rw [← ed, List.length_drop] at h
        omega
      refine ⟨_, rfl, _, rfl, a, i, rfl, hlt, ha, ?_⟩
      have ek : toks (a.drop i) = if ch = 32 then toks (a.drop (i + tokLen (a.drop i))) else (kindOf ((a.drop i).take (tokLen (a.drop i))), (a.drop i).take (tokLen (a.drop i))) :: toks (a.drop (i + tokLen (a.drop i))) := by
        rw [← List.drop_drop]
        conv => lhs; rw [ed, toks_cons]
        rw [← ed]
      refine ⟨fun σ H' => ∃ (rs : List V) (ds : List (Str × List Nat)), σ = [some (.str (S a)), some (.ref d), some (.int (i : Int)), some (.int ((i + tokLen (a.drop i) : Nat) : Int))] ∧ Same H H' ∧ H' d = some (.lst rs) ∧ Rep H' rs ds ∧ ds ++ toks (a.drop (i + tokLen (a.drop i))) = toks a, ?_, ?_⟩
      · refine ⟨_, rfl, _, rfl, S a, _, ch, rfl, rfl, zS, atI_nat (show a[i]? = some ch from ec), rfl, _, rfl, ?_⟩
        have e32 : decide (V.str ⟨#[ch]⟩ = V.str (" " : Str)) = decide (ch = 32) := by
          rw [spc_S]
          refine decide_eq_decide.mpr ⟨fun z => ?_, fun z => by rw [z]⟩
          have := SX.S_inj (a := [ch]) (b := [32]) (V.str.inj z)
          simpa using this
        rw [e32]
        by_cases h32 : ch = 32
        · rw [decide_eq_true h32]
          refine iteF ⟨rs, ds, rfl, s1, hd1, R1, ?_⟩
          rw [if_pos h32] at ek
          rw [← ek]
          exact e1
        · rw [decide_eq_false h32]
          rw [if_neg h32] at ek
          have esl : Txt.slice (S a) (some (i : Int)) (some ((i + tokLen (a.drop i) : Nat) : Int)) = S ((a.drop i).take (tokLen (a.drop i))) := by
            have := slice_mid (a := a) (show i ≤ i + tokLen (a.drop i) by omega)
            rw [show i + tokLen (a.drop i) - i = tokLen (a.drop i) by omega] at this
            exact this
          obtain ⟨w, hw⟩ : ∃ w, (a.drop i).take (tokLen (a.drop i)) = ch :: w := by
            rw [ed] at hp ⊢
            obtain ⟨n, hn⟩ : ∃ n, tokLen (ch :: a.drop (i + 1)) = n + 1 := ⟨_, (Nat.succ_pred_eq_of_pos hp).symm⟩
            rw [hn]
            exact ⟨_, rfl⟩
          have wl : (ch :: w).length ≤ 2500 := by
            rw [← hw, List.length_take, List.length_drop]
            omega
          refine iteT ⟨_, rfl, .inl ⟨rfl, _, SqL.of hd1⟩, _, rfl, _, rfl, _, rfl, _, rfl, _, rfl, S a, rfl, zS, ?_⟩
          rw [esl, hw]
          refine ⟨ch, w, rfl, wl, fun H2 s2 => ?_⟩
          refine ⟨_, rfl, _, rfl, _, rfl, _, rfl, _, rfl, S a, rfl, zS, ?_⟩
          rw [esl, hw]
          refine ⟨(by show 2 ≤ sizeLine; decide), fun t ht => ?_⟩
          have hd2 := s2 _ _ hd1
          have hd3 : (upd H2 t (.tup [.str (kindOf (ch :: w)), .str (S (ch :: w))])) d = some (.lst rs) := by
            rw [upd_ne (ne_of_none hd2 ht)]
            exact hd2
          refine ⟨d, _, _, rfl, rfl, hd3, small9000 (by omega), rs ++ [.ref t], ds ++ [(kindOf (ch :: w), ch :: w)], rfl, same_mut ((s1.trans s2).trans (same_new ht)) hd, upd_same, ?_, ?_⟩
          · have R2 := (R1.mono (TK.of s2)).mono (TK.of (same_new (o := .tup [.str (kindOf (ch :: w)), .str (S (ch :: w))]) ht))
            refine Rep.snoc ?_ (R2.mono (TK.mut hd3))
            rw [upd_ne (fun z => by
              rw [z, hd2] at ht
              cases ht)]
            exact upd_same
          · rw [List.append_assoc]
            rw [ek, hw] at e1
            exact e1
      rintro σ H3 ⟨rs3, ds3, rfl, s3, hd3, R3, e3⟩
      refine ⟨_, rfl, ⟨i + tokLen (a.drop i), rs3, ds3, some (.int ((i + tokLen (a.drop i) : Nat) : Int)), rfl, hle, s3, hd3, R3, e3⟩, ?_⟩
      show a.length - (((i + tokLen (a.drop i) : Nat) : Int)).toNat < a.length - ((i : Nat) : Int).toNat
      omega
    · have hge : a.length ≤ i := by
        rcases Nat.lt_or_ge i a.length with h | h
        · exact absurd (decide_eq_true (show (i : Int) < ((S a).length : Int) by rw [S_len]; omega)) c
        · exact h
      rw [List.drop_eq_nil_of_le hge, toks_nil, List.append_nil] at e1
      rw [e1] at R1
      exact ⟨_, rfl, q d H1 rs s1 hd1 R1⟩
end
end My
namespace My
open PySem PySem.Spec PyProof.Rows L2 RZ
section
variable {P : Program} {w : World} {K : PySem.W.Frag} {mg : Str → Option Value} {base : Heap}
open L2H
open SX (S S_len S_cat slice_to slice_from num_S int_S)
open PySem.NumText (digitsVal AllDigits)
open TL (numL)
/-! ### drawn tokens -/
theorem at_mem {xs : List Nat} {k : Int} (h0 : 0 ≤ k) (h1 : k < xs.length) : ∃ v ∈ xs, atI xs k = some v := by
  obtain ⟨j, rfl⟩ := Int.eq_ofNat_of_zero_le h0
  exact ⟨xs[j]'(by omega), List.getElem_mem _, atI_nat (List.getElem?_eq_getElem _)⟩
theorem op_mul_str {X : Cx} : OpR X (binaryOp .Mult) (fun x y H Q => ∃ (z : Str) (k : Int), x = .str z ∧ y = .int k ∧ MulOk z k ∧ Q (.str (Txt.mul z k)) H) := by
  intro pins s σ H x y v u Q I rx ry h
  obtain ⟨z, k, rfl, rfl, hk, q⟩ := h
  obtain ⟨t, rfl⟩ := rx
  obtain ⟨t2, rfl⟩ := ry
  exact PySem.SB.mul hk fun t' k' => ⟨.str _, H, I.tok k', ⟨t', rfl⟩, q⟩
theorem spc_ok {k : Int} (h0 : 0 ≤ k) (h1 : k < 2) : MulOk (" " : Str) k ∧ Txt.mul (" " : Str) k = S (List.replicate k.toNat 32) := by
  have e : k = 0 ∨ k = 1 := by omega
  rcases e with rfl | rfl
  · exact ⟨by unfold MulOk; decide +kernel, by decide +kernel⟩
  · exact ⟨by unfold MulOk; decide +kernel, by decide +kernel⟩
theorem len_add {u v : List Nat} (h1 : u.length ≤ 2500) (h2 : v.length ≤ 2500) : (S u).length + (S v).length ≤ sizeLine := by
  rw [S_len, S_len]
  exact sz100 (by omega)
def spDText (K : PySem.W.Frag) : Sp := fun vs H Q _ => ∃ (b : Addr) (m : Int), vs = [.ref b, .int m] ∧ 0 ≤ m ∧ m ≤ 100 ∧ Box H b ∧ ∀ t H', t.length = m.toNat → t.all dig = true → Box H' b → Kp b H H' → Q (.str (S t)) H'
def ck (c : Nat) : Nat := if dig c = true then 1 else if cap c = true then 2 else if sml c = true then 3 else 0
theorem ck1 {c : Nat} : ck c = 1 ↔ dig c = true := by
  unfold ck
  split
  · rename_i h
    exact ⟨fun _ => h, fun _ => rfl⟩
  · rename_i h
    refine ⟨fun z => ?_, fun z => absurd z h⟩
    split at z
    · cases z
    · split at z <;> cases z
theorem cap_nd {c : Nat} (h : cap c = true) : dig c = false := by
  have := of_decide_eq_true h
  exact decide_eq_false (by omega)
theorem sml_nd {c : Nat} (h : sml c = true) : dig c = false ∧ cap c = false := by
  have := of_decide_eq_true h
  exact ⟨decide_eq_false (by omega), decide_eq_false (by omega)⟩
theorem ck2 {c : Nat} (h : cap c = true) : ck c = 2 := by
  unfold ck
  rw [cap_nd h, h]
  rfl
theorem ck3 {c : Nat} (h : sml c = true) : ck c = 3 := by
  unfold ck
  rw [(sml_nd h).1, (sml_nd h).2, h]
  rfl
theorem ck0 {c : Nat} (h : ck c = 0) : dig c = false ∧ cap c = false ∧ sml c = false := by
  refine ⟨?_, ?_, ?_⟩
  · rw [← Bool.not_eq_true]
    intro z
    rw [ck1.mpr z] at h
    cases h
  · rw [← Bool.not_eq_true]
    intro z
    rw [ck2 z] at h
    cases h
  · rw [← Bool.not_eq_true]
    intro z
    rw [ck3 z] at h
    cases h
inductive Shape : List Nat → Prop where
  | num {ds : List Nat} : ds ≠ [] → ds.all dig = true → Shape ds
  | pt {ds es : List Nat} : ds ≠ [] → ds.all dig = true → es ≠ [] → es.all dig = true → Shape (ds ++ 46 :: es)
  | place {cs ds : List Nat} : cs ≠ [] → cs.all cap = true → ds.all dig = true → Shape (cs ++ ds)
  | word {cs : List Nat} : cs ≠ [] → cs.all sml = true → Shape cs
  | one {c : Nat} : ck c = 0 → c ≠ 32 → Shape [c]
def rtB (t : List Nat) (c : Nat) : Bool :=
  if c = 46 ∧ ck (t.getLastD 0) = 1 then (decide (46 ∉ t) && decide (ck (t.headD 0) = 1))
  else if ck (t.getLastD 0) = 2 ∧ ck c = 1 then true
  else (decide (0 < ck (t.getLastD 0)) && decide (ck (t.getLastD 0) = ck c))
theorem tw_app {p : Nat → Bool} {l r : List Nat} (hl : l.all p = true) (hr : ∀ c, r.head? = some c → p c = false) : ((l ++ r).takeWhile p).length = l.length := by
  cases r with
  | nil =>
    rw [List.append_nil]
    exact tw_all (List.all_eq_true.mp hl)
  | cons c t =>
    refine tw_len (c := c) ?_ ?_ (hr c rfl)
    · rw [List.take_left]
      exact List.all_eq_true.mp hl
    · rw [List.getElem?_append_right (Nat.le_refl _), Nat.sub_self]
      rfl
theorem last_mem {l : List Nat} (h : l ≠ []) : l.getLastD 0 ∈ l := by
  cases l with
  | nil => exact absurd rfl h
  | cons c r =>
    rw [List.getLastD_cons, List.getLastD_eq_getLast?]
    cases e : r.getLast? with
    | none =>
      rw [List.getLast?_eq_none_iff] at e
      rw [e]
      exact List.mem_cons_self
    | some x => exact List.mem_cons_of_mem _ (List.mem_of_getLast? e)
theorem head_mem {l : List Nat} (h : l ≠ []) : l.headD 0 ∈ l := by
  cases l with
  | nil => exact absurd rfl h
  | cons c r => exact List.mem_cons_self
theorem headD_app {l r : List Nat} (h : l ≠ []) : (l ++ r).headD 0 = l.headD 0 := by
  cases l with
  | nil => exact absurd rfl h
  | cons c t => rfl
theorem lastD_app {l r : List Nat} (h : r ≠ []) : (l ++ r).getLastD 0 = r.getLastD 0 := by
  rw [List.getLastD_eq_getLast?, List.getLastD_eq_getLast?, List.getLast?_append]
  cases e : r.getLast? with
  | none => exact absurd (List.getLast?_eq_none_iff.mp e) h
  | some x => rfl
theorem all_at {p : Nat → Bool} {l : List Nat} (h : l.all p = true) {x : Nat} (hx : x ∈ l) : p x = true := List.all_eq_true.mp h x hx
theorem nd46 : dig 46 = false := by decide
theorem free46 {l : List Nat} (h : l.all dig = true) : 46 ∉ l := fun z => by
  have := all_at h z
  cases this
/-- a token is told as it stands, if what follows does not run into it -/
theorem safe {t rest : List Nat} (h : Shape t) (hr : ∀ c, rest.head? = some c → c = 32 ∨ rtB t c = false) : tokLen (t ++ rest) = t.length := by
  have ndig : ∀ t : List Nat, (∀ c, rest.head? = some c → c = 32 ∨ rtB t c = false) → ck (t.getLastD 0) = 1 ∨ ck (t.getLastD 0) = 2 → ∀ c, rest.head? = some c → dig c = false := fun t hr hl c hc => by
    rcases hr c hc with rfl | hb
    · decide
    · rw [← Bool.not_eq_true]
      intro z
      have hc1 := ck1.mpr z
      have h46 : c ≠ 46 := fun y => by rw [y] at z; cases z
      unfold rtB at hb
      rw [if_neg fun y => h46 y.1] at hb
      rcases hl with hl | hl
      · rw [hl, hc1] at hb
        simp at hb
      · rw [if_pos ⟨hl, hc1⟩] at hb
        cases hb
  cases h with
  | num h1 h2 =>
    have hl : ck (t.getLastD 0) = 1 := ck1.mpr (all_at h2 (last_mem h1))
    have hn := ndig t hr (.inl hl)
    have tw := tw_app (r := rest) h2 hn
    unfold tokLen
    rw [headD_app h1, if_pos (all_at h2 (head_mem h1)), tw, if_neg]
    rintro ⟨z, _⟩
    rw [List.getElem?_append_right (Nat.le_refl _), Nat.sub_self] at z
    have zh : rest.head? = some 46 := by
      cases rest with
      | nil => cases z
      | cons c r => exact z
    rcases hr 46 zh with y | y
    · cases y
    · unfold rtB at y
      rw [if_pos ⟨rfl, hl⟩, decide_eq_true (free46 h2), decide_eq_true (ck1.mpr (all_at h2 (head_mem h1)))] at y
      cases y
  | @pt ds es h1 h2 h3 h4 =>
    have e1 : (ds ++ 46 :: es) ++ rest = ds ++ (46 :: (es ++ rest)) := by rw [List.append_assoc]; rfl
    have hl : ck ((ds ++ 46 :: es).getLastD 0) = 1 := by
      rw [lastD_app (List.cons_ne_nil _ _)]
      rw [show (46 :: es).getLastD 0 = es.getLastD 46 from List.getLastD_cons ..]
      have : es.getLastD 46 ∈ es := by
        rw [List.getLastD_eq_getLast?]
        cases e : es.getLast? with
        | none => exact absurd (List.getLast?_eq_none_iff.mp e) h3
        | some x => exact List.mem_of_getLast? e
      exact ck1.mpr (all_at h4 this)
    have hn := ndig _ hr (.inl hl)
    have tw := tw_app (r := 46 :: (es ++ rest)) h2 (fun c hc => by rw [← Option.some.inj hc]; exact nd46)
    have tw2 := tw_app (r := rest) h4 hn
    have dr : (ds ++ (46 :: (es ++ rest))).drop (ds.length + 1) = es ++ rest := by
      rw [← List.drop_drop, List.drop_left]
      rfl
    have at46 : (ds ++ (46 :: (es ++ rest)))[ds.length]? = some 46 := by
      rw [List.getElem?_append_right (Nat.le_refl _), Nat.sub_self]
      rfl
    have el : 0 < es.length := List.length_pos_iff.mpr h3
    rw [e1]
    unfold tokLen
    rw [headD_app h1, if_pos (all_at h2 (head_mem h1)), tw, dr, tw2, if_pos ⟨at46, el⟩, List.length_append, List.length_cons]
    omega
  | @place cs ds h1 h2 h3 =>
    have hd0 : dig (cs.headD 0) = false := cap_nd (all_at h2 (head_mem h1))
    have hlast : ck ((cs ++ ds).getLastD 0) = 1 ∨ ck ((cs ++ ds).getLastD 0) = 2 := by
      by_cases hds : ds = []
      · rw [hds, List.append_nil]
        exact .inr (ck2 (all_at h2 (last_mem h1)))
      · rw [lastD_app hds]
        exact .inl (ck1.mpr (all_at h3 (last_mem hds)))
    have hn := ndig _ hr hlast
    have ncap : ∀ c, (ds ++ rest).head? = some c → cap c = false := fun c hc => by
      cases ds with
      | cons x r =>
        have : x = c := Option.some.inj hc
        have hx := all_at h3 (List.mem_cons_self (a := x) (l := r))
        rw [this] at hx
        rw [← Bool.not_eq_true]
        intro z
        rw [cap_nd z] at hx
        cases hx
      | nil =>
        rw [List.append_nil] at hr
        rcases hr c hc with rfl | hb
        · decide
        · rw [← Bool.not_eq_true]
          intro z
          have l2 := ck2 (all_at h2 (last_mem h1))
          unfold rtB at hb
          rw [l2, ck2 z] at hb
          simp at hb
    have tw := tw_app (r := ds ++ rest) h2 ncap
    have tw2 := tw_app (r := rest) h3 hn
    rw [List.append_assoc]
    unfold tokLen
    rw [headD_app h1, if_neg (by rw [hd0]; decide), if_pos (all_at h2 (head_mem h1)), tw, List.drop_left, tw2, List.length_append]
  | word h1 h2 =>
    obtain ⟨n1, n2⟩ := sml_nd (all_at h2 (head_mem h1))
    have nsml : ∀ c, rest.head? = some c → sml c = false := fun c hc => by
      rcases hr c hc with rfl | hb
      · decide
      · rw [← Bool.not_eq_true]
        intro z
        have l3 := ck3 (all_at h2 (last_mem h1))
        unfold rtB at hb
        rw [l3, ck3 z] at hb
        simp at hb
    have tw := tw_app (r := rest) h2 nsml
    unfold tokLen
    rw [headD_app h1, if_neg (by rw [n1]; decide), if_neg (by rw [n2]; decide), if_pos (all_at h2 (head_mem h1)), tw]
  | @one c h1 h2 =>
    obtain ⟨n1, n2, n3⟩ := ck0 h1
    have eh : ([c] ++ rest).headD 0 = c := rfl
    unfold tokLen
    rw [eh, if_neg (by rw [n1]; decide), if_neg (by rw [n2]; decide), if_neg (by rw [n3]; decide)]
    rfl
theorem shape_cons {t : List Nat} (h : Shape t) : ∃ c r, t = c :: r ∧ c ≠ 32 := by
  have ne : ∀ {p : Nat → Bool} {l : List Nat}, l ≠ [] → l.all p = true → p 32 = false → ∃ c r, l = c :: r ∧ c ≠ 32 := fun {p l} h1 h2 h3 => by
    cases l with
    | nil => exact absurd rfl h1
    | cons c r =>
      refine ⟨c, r, rfl, fun z => ?_⟩
      have := all_at h2 (List.mem_cons_self (a := c) (l := r))
      rw [z, h3] at this
      cases this
  cases h with
  | num h1 h2 => exact ne h1 h2 (by decide)
  | pt h1 h2 _ _ =>
    obtain ⟨c, r, e, hc⟩ := ne h1 h2 (by decide)
    rw [e]
    exact ⟨c, _, rfl, hc⟩
  | place h1 h2 _ =>
    obtain ⟨c, r, e, hc⟩ := ne h1 h2 (by decide)
    rw [e]
    exact ⟨c, _, rfl, hc⟩
  | word h1 h2 => exact ne h1 h2 (by decide)
  | one h1 h2 => exact ⟨_, [], rfl, h2⟩
theorem toks_tok {t rest : List Nat} (h : Shape t) (hr : ∀ c, rest.head? = some c → c = 32 ∨ rtB t c = false) : toks (t ++ rest) = (kindOf t, t) :: toks rest := by
  have hs := safe h hr
  obtain ⟨c, r, rfl, hc⟩ := shape_cons h
  rw [List.cons_append] at hs ⊢
  rw [toks_cons, if_neg hc, hs]
  rw [← List.cons_append, List.take_left, List.drop_left]
theorem toks_spc (r : List Nat) : ∀ n : Nat, toks (List.replicate n 32 ++ r) = toks r
  | 0 => rfl
  | n + 1 => by
    rw [List.replicate_succ, List.cons_append, toks_cons, if_pos rfl]
    have : tokLen (32 :: (List.replicate n 32 ++ r)) = 1 := rfl
    rw [this]
    exact toks_spc r n
def Inv2 (D : List (Str × List Nat)) (w : List Nat) : Prop := ∀ tail : List Nat, (∀ k t, D.getLast? = some (k, t) → ∀ c, tail.head? = some c → c = 32 ∨ rtB t c = false) → toks (w ++ tail) = D ++ toks tail
theorem Inv2.start (n : Nat) : Inv2 [] (List.replicate n 32) := fun tail _ => toks_spc tail n
theorem Inv2.step {D : List (Str × List Nat)} {w t : List Nat} {n : Nat} (h : Inv2 D w) (hs : Shape t) (hn : ∀ k u, D.getLast? = some (k, u) → n = 0 → rtB u (t.headD 0) = false) : Inv2 (D ++ [(kindOf t, t)]) (w ++ List.replicate n 32 ++ t) := fun tail ht => by
  have h1 : toks (w ++ (List.replicate n 32 ++ (t ++ tail))) = D ++ toks (List.replicate n 32 ++ (t ++ tail)) := h _ fun k u e c hc => by
    cases n with
    | zero =>
      obtain ⟨x, r, rfl, _⟩ := shape_cons hs
      have : x = c := Option.some.inj hc
      rw [← this]
      exact .inr (hn k u e rfl)
    | succ n =>
      have : 32 = c := Option.some.inj hc
      exact .inl this.symm
  have h2 := toks_tok (rest := tail) hs fun c hc => ht _ _ (List.getLast?_concat ..) c hc
  rw [toks_spc, h2] at h1
  rw [List.append_assoc, List.append_assoc, h1, List.append_assoc]
  rfl
/-! the kinds of these tokens -/
structure TokOk (k : Str) (t : List Nat) : Prop where
  sh : Shape t
  kd : kindOf t = k
theorem sgn_nd {c : Nat} (h : ck c ≠ 0) : sgnC c = false := by
  refine decide_eq_false fun z => h ?_
  simp only [List.mem_cons, List.not_mem_nil, or_false] at z
  rcases z with rfl | rfl | rfl | rfl | rfl | rfl | rfl | rfl <;> rfl
theorem pre46_app {ds es : List Nat} (h : 46 ∉ ds) : pre46 (ds ++ 46 :: es) = ds ∧ post46 (ds ++ 46 :: es) = es := by
  have e : pre46 (ds ++ 46 :: es) = ds := by
    induction ds with
    | nil => rfl
    | cons c r ih =>
      have hc : c ≠ 46 := fun z => h (by rw [z]; exact List.mem_cons_self)
      have e := ih fun z => h (List.mem_cons_of_mem _ z)
      unfold pre46 at e ⊢
      rw [List.cons_append, List.takeWhile_cons, if_pos (decide_eq_true hc), e]
  refine ⟨e, ?_⟩
  unfold post46
  rw [e, ← List.drop_drop, List.drop_left]
  rfl
theorem isD_mk {a : List Nat} (h1 : a ≠ []) (h2 : a.all dig = true) : isD a = true := by
  unfold isD
  rw [h2, Bool.and_true]
  cases a with
  | nil => exact absurd rfl h1
  | cons _ _ => rfl
theorem kind_dig {t : List Nat} (h : dig (t.headD 0) = true) : kindOf t = if okD t then ("decimal" : Str) else "bad" := by
  have h1 : cap (t.headD 0) = false := by
    rw [← Bool.not_eq_true]
    intro z
    rw [cap_nd z] at h
    cases h
  have h2 : sml (t.headD 0) = false := by
    rw [← Bool.not_eq_true]
    intro z
    rw [(sml_nd z).1] at h
    cases h
  have h3 : sgnC (t.headD 0) = false := sgn_nd (by rw [ck1.mpr h]; decide)
  unfold kindOf
  have n1 : ¬ (cap (t.headD 0) = true ∧ okA t) := fun z => by
    rw [h1] at z
    exact Bool.noConfusion z.1
  have n2 : ¬ (sml (t.headD 0) = true ∧ t.length ≤ 8) := fun z => by
    rw [h2] at z
    exact Bool.noConfusion z.1
  have n3 : ¬ (sgnC (t.headD 0) = true) := fun z => by
    rw [h3] at z
    exact Bool.noConfusion z
  by_cases o : okD t
  · rw [if_pos ⟨h, o⟩, if_pos o]
  · rw [if_neg (fun z => o z.2), if_neg n1, if_neg n2, if_neg n3, if_neg o]
theorem kind_cap {t : List Nat} (h : cap (t.headD 0) = true) : kindOf t = if okA t then ("address" : Str) else "bad" := by
  have h1 := cap_nd h
  have h2 : sml (t.headD 0) = false := by
    rw [← Bool.not_eq_true]
    intro z
    rw [(sml_nd z).2] at h
    cases h
  have h3 : sgnC (t.headD 0) = false := sgn_nd (by rw [ck2 h]; decide)
  unfold kindOf
  have n1 : ¬ (dig (t.headD 0) = true ∧ okD t) := fun z => by
    rw [h1] at z
    exact Bool.noConfusion z.1
  have n2 : ¬ (sml (t.headD 0) = true ∧ t.length ≤ 8) := fun z => by
    rw [h2] at z
    exact Bool.noConfusion z.1
  have n3 : ¬ (sgnC (t.headD 0) = true) := fun z => by
    rw [h3] at z
    exact Bool.noConfusion z
  rw [if_neg n1]
  by_cases o : okA t
  · rw [if_pos ⟨h, o⟩, if_pos o]
  · rw [if_neg (fun z => o z.2), if_neg n2, if_neg n3, if_neg o]
theorem kind_sml {t : List Nat} (h : sml (t.headD 0) = true) : kindOf t = if t.length ≤ 8 then ("word" : Str) else "bad" := by
  obtain ⟨h1, h2⟩ := sml_nd h
  have h3 : sgnC (t.headD 0) = false := sgn_nd (by rw [ck3 h]; decide)
  unfold kindOf
  have n1 : ¬ (dig (t.headD 0) = true ∧ okD t) := fun z => by
    rw [h1] at z
    exact Bool.noConfusion z.1
  have n2 : ¬ (cap (t.headD 0) = true ∧ okA t) := fun z => by
    rw [h2] at z
    exact Bool.noConfusion z.1
  have n3 : ¬ (sgnC (t.headD 0) = true) := fun z => by
    rw [h3] at z
    exact Bool.noConfusion z
  rw [if_neg n1, if_neg n2]
  by_cases o : t.length ≤ 8
  · rw [if_pos ⟨h, o⟩, if_pos o]
  · rw [if_neg (fun z => o z.2), if_neg n3, if_neg o]
theorem kind_one {c : Nat} (h : ck c = 0) : kindOf [c] = if sgnC c = true then ("sign" : Str) else "bad" := by
  obtain ⟨h1, h2, h3⟩ := ck0 h
  have e : [c].headD 0 = c := rfl
  unfold kindOf
  have n1 : ¬ (dig ([c].headD 0) = true ∧ okD [c]) := fun z => by
    rw [e, h1] at z
    exact Bool.noConfusion z.1
  have n2 : ¬ (cap ([c].headD 0) = true ∧ okA [c]) := fun z => by
    rw [e, h2] at z
    exact Bool.noConfusion z.1
  have n3 : ¬ (sml ([c].headD 0) = true ∧ [c].length ≤ 8) := fun z => by
    rw [e, h3] at z
    exact Bool.noConfusion z.1
  rw [if_neg n1, if_neg n2, if_neg n3]
  rfl
theorem tok_num {ds : List Nat} (h1 : ds ≠ []) (h2 : ds.all dig = true) : TokOk (if ds.length ≤ 12 then "decimal" else "bad") ds := by
  refine ⟨.num h1 h2, ?_⟩
  rw [kind_dig (all_at h2 (head_mem h1))]
  obtain ⟨e1, e2⟩ := none46 (free46 h2)
  have : okD ds ↔ ds.length ≤ 12 := by
    unfold okD
    rw [e1]
    exact ⟨fun z => z.2.1, fun z => ⟨isD_mk h1 h2, z, fun y => absurd y (free46 h2)⟩⟩
  by_cases o : ds.length ≤ 12
  · rw [if_pos (this.mpr o), if_pos o]
  · rw [if_neg fun z => o (this.mp z), if_neg o]
theorem tok_pt {ds es : List Nat} (h1 : ds ≠ []) (h2 : ds.all dig = true) (h3 : es ≠ []) (h4 : es.all dig = true) : TokOk (if ds.length ≤ 12 ∧ es.length ≤ 6 then "decimal" else "bad") (ds ++ 46 :: es) := by
  refine ⟨.pt h1 h2 h3 h4, ?_⟩
  rw [kind_dig (by rw [headD_app h1]; exact all_at h2 (head_mem h1))]
  obtain ⟨e1, e2⟩ := pre46_app (es := es) (free46 h2)
  have : okD (ds ++ 46 :: es) ↔ (ds.length ≤ 12 ∧ es.length ≤ 6) := by
    unfold okD
    rw [e1, e2]
    exact ⟨fun z => ⟨z.2.1, (z.2.2 (by simp)).2⟩, fun z => ⟨isD_mk h1 h2, z.1, fun _ => ⟨isD_mk h3 h4, z.2⟩⟩⟩
  by_cases o : ds.length ≤ 12 ∧ es.length ≤ 6
  · rw [if_pos (this.mpr o), if_pos o]
  · rw [if_neg fun z => o (this.mp z), if_neg o]
theorem tok_place {cs ds : List Nat} (h1 : cs ≠ []) (h2 : cs.all cap = true) (h3 : ds.all dig = true) : Shape (cs ++ ds) ∧ kindOf (cs ++ ds) = if cs.length ≤ 2 ∧ (ds.length = 1 ∨ ds.length = 2) ∧ ds.head? ≠ some 48 then ("address" : Str) else "bad" := by
  refine ⟨.place h1 h2 h3, ?_⟩
  rw [kind_cap (by rw [headD_app h1]; exact all_at h2 (head_mem h1))]
  have tw := tw_app (r := ds) h2 fun c hc => by
    have hx := all_at h3 (List.mem_of_mem_head? hc)
    rw [← Bool.not_eq_true]
    intro z
    rw [cap_nd z] at hx
    cases hx
  have cl : 0 < cs.length := List.length_pos_iff.mpr h1
  have : okA (cs ++ ds) ↔ (cs.length ≤ 2 ∧ (ds.length = 1 ∨ ds.length = 2) ∧ ds.head? ≠ some 48) := by
    unfold okA
    rw [tw, List.drop_left]
    exact ⟨fun z => ⟨by omega, z.2.1, z.2.2.1⟩, fun z => ⟨by omega, z.2.1, z.2.2, h3⟩⟩
  by_cases o : cs.length ≤ 2 ∧ (ds.length = 1 ∨ ds.length = 2) ∧ ds.head? ≠ some 48
  · rw [if_pos (this.mpr o), if_pos o]
  · rw [if_neg fun z => o (this.mp z), if_neg o]
theorem tok_word {cs : List Nat} (h1 : cs ≠ []) (h2 : cs.all sml = true) : TokOk (if cs.length ≤ 8 then "word" else "bad") cs := ⟨.word h1 h2, kind_sml (all_at h2 (head_mem h1))⟩
/-! the law's own drawing of them -/
/-- a fraction in range -/
structure Fr (n d : Int) : Prop where
  lo : -1000000000000000000 ≤ n
  hi : n ≤ 1000000000000000000
  pos : 0 < d
  top : d ≤ 1000000000000000000
/-- in range and in lowest terms -/
def Fl (n d : Int) : Prop := Fr n d ∧ Nat.gcd n.natAbs d.natAbs = 1
/-! ### the greatest common divisor by Euclid's steps -/
theorem half_step {a b : Nat} (hb : 0 < b) (hba : b ≤ a) : 2 * (b * (a % b)) ≤ a * b := by
  have h1 := Nat.mod_lt a hb
  have h2 : b + a % b ≤ a := by
    have e := Nat.div_add_mod a b
    have q : 1 ≤ a / b := (Nat.one_le_div_iff hb).mpr hba
    have z : b * 1 ≤ b * (a / b) := Nat.mul_le_mul_left b q
    omega
  have h3 : 2 * (a % b) ≤ a := by omega
  calc 2 * (b * (a % b)) = b * (2 * (a % b)) := by rw [Nat.mul_left_comm]
    _ ≤ b * a := Nat.mul_le_mul_left b h3
    _ = a * b := Nat.mul_comm b a
def spGcd (K : PySem.W.Frag) : Sp := fun vs H Q _ => ∃ (x y : Int), vs = [.int x, .int y] ∧ x.natAbs * y.natAbs < 2 ^ 890 ∧ Q (.int ((Nat.gcd x.natAbs y.natAbs : Nat) : Int)) H
theorem abs_eq (x : Int) : (if x < 0 then -x else x) = ((x.natAbs : Nat) : Int) := by
  split <;> omega
/-! ### fractions in lowest terms -/
def spLowest (K : PySem.W.Frag) : Sp := fun vs H Q _ => ∃ (n d : Int), vs = [.int n, .int d] ∧ d ≠ 0 ∧ n.natAbs < 2 ^ 400 ∧ d.natAbs < 2 ^ 400 ∧ ∀ p x y, H p = none → Low n d x y → Q (.ref p) (upd H p (.tup [.int x, .int y]))
def lets (c : Nat) : List Nat := if c < 26 then [65 + c] else [65 + (c / 26 - 1), 65 + c % 26]
def addr (row col : Nat) : List Nat := lets col ++ numL (row + 1)
theorem lets_len (c : Nat) : (lets c).length ≤ 2 := by
  unfold lets
  split <;> simp
theorem caps_at {k : Int} (h0 : 0 ≤ k) (h1 : k < 26) : atI ("ABCDEFGHIJKLMNOPQRSTUVWXYZ" : Str).cps.toList k = some (65 + k.toNat) := by
  obtain ⟨j, rfl⟩ := Int.eq_ofNat_of_zero_le h0
  have all : ∀ j : Fin 26, ("ABCDEFGHIJKLMNOPQRSTUVWXYZ" : Str).cps.toList[j.val]? = some (65 + j.val) := by decide +kernel
  exact atI_nat (all ⟨j, by omega⟩)
def spWrite (K : PySem.W.Frag) : Sp := fun vs H Q _ => ∃ (row col : Nat), vs = [.int (row : Int), .int (col : Int)] ∧ row < 99 ∧ col < 702 ∧ ∀ H', Same H H' → Q (.str (S (addr row col))) H'
theorem log_small {n : Int} (h0 : 0 ≤ n) (h : n < 10 ^ 18) : n.natAbs.log2 < 1920 := Nat.lt_of_lt_of_le (PySem.Flt.log2_lt_of (k := 100) (by decide) (Nat.lt_trans (show n.natAbs < 10 ^ 18 by omega) (by decide))) (by decide)
theorem num_len {row : Nat} (h : row < 99) : (numL (row + 1)).length ≤ 2 := TL.numL_len (by decide) (by omega)
theorem dot_S : ("." : Str) = S [46] := by decide +kernel
/-! ### words -/
def five : List Str := ["sum", "count", "min", "max", "gone"]
structure IsW (a : List Nat) : Prop where
  lo : 2 ≤ a.length
  hi : a.length ≤ 8
  no : S a ∉ five
  all : a.all sml = true
theorem inV_strs (s : Str) : ∀ xs : List Str, inV (.str s) (xs.map V.str) = decide (s ∈ xs)
  | [] => rfl
  | x :: xs => by
    have e : inV (.str s) ((x :: xs).map V.str) = ((x == s) || inV (.str s) (xs.map V.str)) := rfl
    rw [e, inV_strs s xs, Bool.eq_iff_iff]
    simp only [Bool.or_eq_true, beq_iff_eq, decide_eq_true_iff, List.mem_cons]
    exact ⟨fun h => h.elim (fun z => .inl z.symm) .inr, fun h => h.elim (fun z => .inl z.symm) .inr⟩
end
end My
namespace My
open PySem PySem.Spec PyProof.Rows L2 RZ
section
variable {P : Program} {w : World} {K : PySem.W.Frag} {mg : Str → Option Value} {base : Heap}
open L2H
open SX (S S_len S_cat slice_to slice_from num_S int_S)
open PySem.NumText (digitsVal AllDigits)
open TL (numL)
/-! ### the grammar: tokens, what is written, what is read -/
inductive Tk where
  | dec (x y : Int)
  | cel (r c : Int)
  | gone
  | fn (n : Str)
  | name (w : OkS)
  | sg (c : Nat)
  | bad
def hd (ts : List Tk) (p : Nat → Bool) : Bool := match ts with
  | .sg c :: _ => p c
  | _ => false
def isSum (c : Nat) : Bool := c == 43 || c == 45
def isProd (c : Nat) : Bool := c == 42 || c == 47
inductive Lv where
  | form
  | term
  | fact
  | prim
deriving DecidableEq
/-- an area is read; something stands behind it -/
inductive PA : List Tk → Ar → List Tk → Prop
  | gone {r : List Tk} : PA (.gone :: r) .gone r
  | name {w : OkS} {r : List Tk} : PA (.name w :: r) (.name w) r
  | two {a b c d : Int} {r : List Tk} : PA (.cel a b :: .sg 58 :: .cel c d :: r) (.block (min a c) (min b d) (max a c) (max b d)) r
  | one {a b : Int} {x : Tk} {r : List Tk} : x ≠ .sg 58 → PA (.cel a b :: x :: r) (.block a b a b) (x :: r)
/-- the areas of a call, from its bracket on -/
inductive PAs : List Tk → List Ar → List Tk → Prop
  | stop {r : List Tk} : PAs (.sg 41 :: r) [] r
  | step {x : Tk} {ts r1 r2 : List Tk} {a : Ar} {as : List Ar} : x ≠ .sg 41 → PA ts a r1 → PAs r1 as r2 → PAs (x :: ts) (a :: as) r2
mutual
/-- what is read at a level, inside of at most n brackets -/
inductive PT : Nat → Lv → List Tk → Tr → List Tk → Prop
  | form {n : Nat} {ts r r' : List Tk} {l t : Tr} : PT n .term ts l r → PL n isSum .term l r t r' → PT n .form ts t r'
  | term {n : Nat} {ts r r' : List Tk} {l t : Tr} : PT n .fact ts l r → PL n isProd .fact l r t r' → PT n .term ts t r'
  | fact {n : Nat} {ts r : List Tk} {t : Tr} : (∀ us, ts ≠ .sg 45 :: us) → PT n .prim ts t r → PT n .fact ts t r
  | neg {n : Nat} {ts r : List Tk} {t : Tr} : PT n .prim ts t r → PT n .fact (.sg 45 :: ts) (.neg t) r
  | dec {n : Nat} {x y : Int} {r : List Tk} : PT n .prim (.dec x y :: r) (.num x y) r
  | cel {n : Nat} {x y : Int} {r : List Tk} : PT n .prim (.cel x y :: r) (.cell x y) r
  | gone {n : Nat} {r : List Tk} : PT n .prim (.gone :: r) .gone r
  | par {n : Nat} {ts r : List Tk} {t : Tr} : PT n .form ts t (.sg 41 :: r) → PT (n + 1) .prim (.sg 40 :: ts) t r
  | call {n : Nat} {w : Str} {ts r : List Tk} {as : List Ar} : PAs ts as r → PT n .prim (.fn w :: ts) (.call w as) r
/-- a chain goes on -/
inductive PL : Nat → (Nat → Bool) → Lv → Tr → List Tk → Tr → List Tk → Prop
  | stop {n : Nat} {p : Nat → Bool} {v : Lv} {l : Tr} {r : List Tk} : hd r p = false → PL n p v l r l r
  | step {n : Nat} {p : Nat → Bool} {v : Lv} {l x t : Tr} {c : Nat} {ts r r' : List Tk} : p c = true → PT n v ts x r → PL n p v (.op (S [c]) l x) r t r' → PL n p v l (.sg c :: ts) t r'
end
mutual
theorem PT.up {n : Nat} : ∀ {v : Lv} {ts r : List Tk} {t : Tr}, PT n v ts t r → PT (n + 1) v ts t r
  | _, _, _, _, .form a b => .form a.up b.up
  | _, _, _, _, .term a b => .term a.up b.up
  | _, _, _, _, .fact h a => .fact h a.up
  | _, _, _, _, .neg a => .neg a.up
  | _, _, _, _, .dec => .dec
  | _, _, _, _, .cel => .cel
  | _, _, _, _, .gone => .gone
  | _, _, _, _, .par a => .par a.up
  | _, _, _, _, .call a => .call a
theorem PL.up {n : Nat} : ∀ {p : Nat → Bool} {v : Lv} {l : Tr} {ts r : List Tk} {t : Tr}, PL n p v l ts t r → PL (n + 1) p v l ts t r
  | _, _, _, _, _, _, .stop h => .stop h
  | _, _, _, _, _, _, .step h a b => .step h a.up b.up
end
/-- an area, as it is written -/
inductive WA : Ar → List Tk → Prop
  | gone : WA .gone [.gone]
  | name {w : OkS} : WA (.name w) [.name w]
  | one {a b : Int} : WA (.block a b a b) [.cel a b]
  | two {a b c d : Int} : WA (.block (min a c) (min b d) (max a c) (max b d)) [.cel a b, .sg 58, .cel c d]
/-- more areas, each behind its comma -/
inductive WAs : List Ar → List Tk → Prop
  | nil : WAs [] []
  | cons {a : Ar} {as : List Ar} {ts us : List Tk} : WA a ts → WAs as us → WAs (a :: as) (.sg 44 :: ts ++ us)
def powC (c : Nat) : Nat := if isProd c then 2 else 1
/-- a tree of a strength, as it is written, in at most n brackets; b: it may stand in brackets of its own -/
inductive WT : Nat → Bool → Nat → Tr → List Tk → Prop
  | dec {n : Nat} {b : Bool} {x y : Int} : WT n b 4 (.num x y) [.dec x y]
  | cel {n : Nat} {b : Bool} {x y : Int} : WT n b 4 (.cell x y) [.cel x y]
  | gone {n : Nat} {b : Bool} : WT n b 4 .gone [.gone]
  | call {n : Nat} {b : Bool} {w : Str} {a : Ar} {as : List Ar} {ts us : List Tk} : WA a ts → WAs as us → WT n b 4 (.call w (a :: as)) (.fn w :: .sg 40 :: ts ++ us ++ [.sg 41])
  | neg {n : Nat} {b : Bool} {k : Nat} {t : Tr} {ts : List Tk} : WT n true k t ts → 4 ≤ k → WT n b 3 (.neg t) (.sg 45 :: ts)
  | op {n : Nat} {b : Bool} {c i j : Nat} {l r : Tr} {ts us : List Tk} : (isSum c || isProd c) = true → WT n true i l ts → powC c ≤ i → WT n true j r us → powC c + 1 ≤ j → WT n b (powC c) (.op (S [c]) l r) (ts ++ .sg c :: us)
  | par {n k : Nat} {t : Tr} {ts : List Tk} : WT n false k t ts → WT (n + 1) true 4 t (.sg 40 :: ts ++ [.sg 41])
theorem pa_of {a : Ar} {ts : List Tk} (h : WA a ts) {x : Tk} {r : List Tk} (n : x ≠ .sg 58) : PA (ts ++ x :: r) a (x :: r) := by
  cases h with
  | gone => exact .gone
  | name => exact .name
  | one => exact .one n
  | two => exact .two
theorem pas_of : ∀ {as : List Ar} {us : List Tk}, WAs as us → ∀ (r : List Tk), PAs (us ++ .sg 41 :: r) as r ∧ ∃ x s, us ++ .sg 41 :: r = x :: s ∧ x ≠ .sg 58
  | _, _, .nil, r => ⟨.stop, _, _, rfl, fun z => by cases z⟩
  | _, _, .cons (ts := ts) (us := us) a as, r => by
    obtain ⟨h1, x, s, h2, h3⟩ := pas_of as r
    refine ⟨?_, _, _, rfl, fun z => by cases z⟩
    rw [show Tk.sg 44 :: ts ++ us ++ Tk.sg 41 :: r = Tk.sg 44 :: (ts ++ (us ++ Tk.sg 41 :: r)) by simp]
    refine .step (fun z => by cases z) ?_ h1
    rw [h2]
    exact pa_of a h3
theorem pow_one {c : Nat} (h : 2 ≤ powC c) : isProd c = true := by
  unfold powC at h
  by_cases z : isProd c = true
  · exact z
  · rw [if_neg z] at h
    omega
/-- what each strength is read as -/
structure Rd4 (n k : Nat) (t : Tr) (ts : List Tk) : Prop where
  prim : 4 ≤ k → ∀ r, PT n .prim (ts ++ r) t r
  fact : 3 ≤ k → ∀ r, PT n .fact (ts ++ r) t r
  prod : 2 ≤ k → ∀ r, ∃ l r1, PT n .fact (ts ++ r) l r1 ∧ ∀ t' r', PL n isProd .fact t r t' r' → PL n isProd .fact l r1 t' r'
  sum : ∀ r, hd r isProd = false → ∃ l r1, PT n .term (ts ++ r) l r1 ∧ ∀ t' r', PL n isSum .term t r t' r' → PL n isSum .term l r1 t' r'
theorem Rd4.of_fact {n k : Nat} {t : Tr} {ts : List Tk} (prim : 4 ≤ k → ∀ r, PT n .prim (ts ++ r) t r) (fact : ∀ r, PT n .fact (ts ++ r) t r) : Rd4 n k t ts :=
  ⟨prim, fun _ => fact, fun _ r => ⟨t, r, fact r, fun _ _ h => h⟩, fun r h => ⟨t, r, .term (fact r) (.stop h), fun _ _ h => h⟩⟩
theorem Rd4.of_prim {n : Nat} {t : Tr} {ts : List Tk} (prim : ∀ r, PT n .prim (ts ++ r) t r) (no : ∀ r us, ts ++ r ≠ .sg 45 :: us) : Rd4 n 4 t ts := .of_fact (fun _ => prim) fun r => .fact (no r) (prim r)
theorem Rd4.form {n k : Nat} {t : Tr} {ts : List Tk} (h : Rd4 n k t ts) {r : List Tk} (h1 : hd r isProd = false) (h2 : hd r isSum = false) : PT n .form (ts ++ r) t r := by
  obtain ⟨l, r1, a, b⟩ := h.sum r h1
  exact .form a (b _ _ (.stop h2))
theorem wt_reads : ∀ {n : Nat} {b : Bool} {k : Nat} {t : Tr} {ts : List Tk}, WT n b k t ts → Rd4 n k t ts
  | _, _, _, _, _, .dec => .of_prim (fun r => .dec) fun r us z => by cases z
  | _, _, _, _, _, .cel => .of_prim (fun r => .cel) fun r us z => by cases z
  | _, _, _, _, _, .gone => .of_prim (fun r => .gone) fun r us z => by cases z
  | _, _, _, _, _, .call (w := w) (ts := ts) (us := us) a as => by
    refine .of_prim (fun r => ?_) fun r us z => by cases z
    obtain ⟨h1, x, s, h2, h3⟩ := pas_of as r
    rw [show Tk.fn w :: Tk.sg 40 :: ts ++ us ++ [Tk.sg 41] ++ r = Tk.fn w :: Tk.sg 40 :: (ts ++ (us ++ Tk.sg 41 :: r)) by simp]
    refine .call (.step (fun z => by cases z) ?_ h1)
    rw [h2]
    exact pa_of a h3
  | _, _, _, _, _, .neg h k4 => .of_fact (fun z => absurd z (by decide)) fun r => .neg ((wt_reads h).prim k4 r)
  | n, _, _, _, _, .op (c := c) (l := l) (r := x) (ts := ts) (us := us) hc hl kl hr kr => by
    have il := wt_reads hl
    have ir := wt_reads hr
    by_cases z : isProd c = true
    · have p2 : powC c = 2 := if_pos z
      rw [p2] at kl kr ⊢
      have ns : hd (.sg c :: us) isSum = false := by
        show isSum c = false
        unfold isProd at z
        unfold isSum
        simp at z ⊢
        omega
      have prod : ∀ r, ∃ l1 r1, PT n .fact (ts ++ .sg c :: us ++ r) l1 r1 ∧ ∀ t' r', PL n isProd .fact (.op (S [c]) l x) r t' r' → PL n isProd .fact l1 r1 t' r' := fun r => by
        obtain ⟨l1, r1, h1, h2⟩ := il.prod kl (.sg c :: (us ++ r))
        rw [List.append_assoc, List.cons_append]
        exact ⟨l1, r1, h1, fun t' r' h => h2 _ _ (.step z (ir.fact kr r) h)⟩
      refine ⟨fun h => absurd h (by decide), fun h => absurd h (by decide), fun _ => prod, fun r hr => ?_⟩
      obtain ⟨l1, r1, h1, h2⟩ := prod r
      exact ⟨_, r, .term h1 (h2 _ _ (.stop hr)), fun _ _ h => h⟩
    · have p1 : powC c = 1 := if_neg z
      rw [p1] at kl kr ⊢
      have s1 : isSum c = true := by
        cases e : isSum c with
        | true => rfl
        | false =>
          rw [e] at hc
          exact absurd hc z
      refine ⟨fun h => absurd h (by decide), fun h => absurd h (by decide), fun h => absurd h (by decide), fun r hr => ?_⟩
      obtain ⟨l1, r1, h1, h2⟩ := il.sum (.sg c :: (us ++ r)) (Bool.eq_false_iff.mpr z)
      rw [List.append_assoc, List.cons_append]
      refine ⟨l1, r1, h1, fun t' r' h => h2 _ _ (.step s1 ?_ h)⟩
      obtain ⟨l2, r2, h3, h4⟩ := ir.prod kr r
      exact .term h3 (h4 _ _ (.stop hr))
  | _, _, _, _, _, .par (ts := ts) h => by
    have i := wt_reads h
    refine .of_prim (fun r => ?_) fun r us z => by cases z
    rw [show Tk.sg 40 :: ts ++ [Tk.sg 41] ++ r = Tk.sg 40 :: (ts ++ Tk.sg 41 :: r) by simp]
    exact .par (i.form rfl rfl)
theorem cap_lets {c : Nat} (h : c < 702) : ∀ x ∈ lets c, cap x = true := by
  intro x hx
  unfold lets at hx
  unfold cap
  refine decide_eq_true ?_
  split at hx
  · simp only [List.mem_cons, List.not_mem_nil, or_false] at hx
    omega
  · simp only [List.mem_cons, List.not_mem_nil, or_false] at hx
    omega
theorem num_two {n : Nat} (h0 : 0 < n) (h : n < 100) : ∃ x r, numL n = x :: r ∧ r.length ≤ 1 ∧ x ≠ 48 ∧ cap x = false := by
  rcases Nat.lt_or_ge n 10 with h1 | h1
  · refine ⟨48 + n, [], TL.numL_lt h1, by decide, by omega, ?_⟩
    unfold cap
    exact decide_eq_false (by omega)
  · refine ⟨48 + n / 10, [48 + n % 10], ?_, by simp, by omega, ?_⟩
    · rw [TL.numL_step h1, TL.numL_lt (show n / 10 < 10 by omega)]
      rfl
    · unfold cap
      exact decide_eq_false (by omega)
theorem colv_lets {c : Nat} (h : c < 702) : colv (lets c) - 1 = c := by
  unfold lets colv
  split
  · show (0 * 26 + ((65 + c - 65 : Nat) : Int) + 1) - 1 = c
    omega
  · show ((0 * 26 + ((65 + (c / 26 - 1) - 65 : Nat) : Int) + 1) * 26 + ((65 + c % 26 - 65 : Nat) : Int) + 1) - 1 = c
    omega
theorem addr_tw {row col : Nat} (hr : row < 99) (hc : col < 702) : ((addr row col).takeWhile cap).length = (lets col).length := by
  obtain ⟨x, r, e, _, _, hx⟩ := num_two (n := row + 1) (by omega) (by omega)
  unfold addr
  refine tw_len (c := x) ?_ ?_ hx
  · rw [List.take_left]
    exact cap_lets hc
  · rw [List.getElem?_append_right (Nat.le_refl _), Nat.sub_self, e]
    rfl
theorem addr_ok {row col : Nat} (hr : row < 99) (hc : col < 702) : okA (addr row col) ∧ rowA (addr row col) = row ∧ colA (addr row col) = col := by
  have e1 := addr_tw hr hc
  have e2 : (addr row col).drop (lets col).length = numL (row + 1) := List.drop_left
  have e3 : (addr row col).take (lets col).length = lets col := List.take_left
  obtain ⟨x, r, e, hl, hx, _⟩ := num_two (n := row + 1) (by omega) (by omega)
  unfold okA rowA colA
  rw [e1, e2, e3]
  refine ⟨⟨?_, ?_, ?_, ?_⟩, ?_, colv_lets hc⟩
  · unfold lets
    split
    · exact .inl rfl
    · exact .inr rfl
  · rw [e, List.length_cons]
    omega
  · rw [e]
    exact fun z => hx (Option.some.inj z)
  · exact List.all_eq_true.mpr fun c h => decide_eq_true (TL.numL_digits (row + 1) c h)
  · rw [TL.numL_val]
    omega
/-! ### texts of tokens -/
theorem WT.up : ∀ {n : Nat} {b : Bool} {k : Nat} {t : Tr} {ts : List Tk}, WT n b k t ts → WT (n + 1) b k t ts
  | _, _, _, _, _, .dec => .dec
  | _, _, _, _, _, .cel => .cel
  | _, _, _, _, _, .gone => .gone
  | _, _, _, _, _, .call a as => .call a as
  | _, _, _, _, _, .neg h k => .neg h.up k
  | _, _, _, _, _, .op hc l kl r kr => .op hc l.up kl r.up kr
  | _, _, _, _, _, .par h => .par h.up
theorem WT.ups {n : Nat} {b : Bool} {k : Nat} {t : Tr} {ts : List Tk} (h : WT n b k t ts) : ∀ {m : Nat}, n ≤ m → WT m b k t ts
  | 0, z => by
    have : n = 0 := by omega
    subst this
    exact h
  | m + 1, z => by
    rcases Nat.lt_or_ge m n with y | y
    · have : n = m + 1 := by omega
      subst this
      exact h
    · exact (h.ups y).up
def kdT : Tk → Str
  | .dec _ _ => "decimal"
  | .cel _ _ => "address"
  | .gone => "word"
  | .fn _ => "word"
  | .name _ => "word"
  | .sg _ => "sign"
  | .bad => "bad"
def callsL : List Str := ["sum", "count", "min", "max"]
def valT (u : List Nat) : Tk → Prop
  | .dec a b => okD u ∧ Lw (numD u) (denD u) a b
  | .cel r c => okA u ∧ rowA u = r ∧ colA u = c
  | .gone => S u = "gone"
  | .fn n => S u = n ∧ n ∈ callsL
  | .name w => S u = w.1 ∧ IsW u
  | .sg c => u = [c] ∧ sgnC c = true
  | .bad => True
def lenT : Tk → Nat
  | .dec _ _ => 20
  | .cel _ _ => 4
  | .gone => 4
  | .fn _ => 5
  | .name _ => 8
  | .sg _ => 1
  | .bad => 20
/-- this text is this token -/
structure TX (u : List Nat) (x : Tk) : Prop where
  sh : Shape u
  kd : kindOf u = kdT x
  len : u.length ≤ lenT x
  val : valT u x
inductive TXs : List (List Nat) → List Tk → Prop
  | nil : TXs [] []
  | cons {u : List Nat} {x : Tk} {us : List (List Nat)} {xs : List Tk} (h : TX u x) (r : TXs us xs) : TXs (u :: us) (x :: xs)
theorem TXs.app : ∀ {us : List (List Nat)} {xs : List Tk} {vs : List (List Nat)} {ys : List Tk}, TXs us xs → TXs vs ys → TXs (us ++ vs) (xs ++ ys)
  | _, _, _, _, .nil, h => h
  | _, _, _, _, .cons a r, h => .cons a (r.app h)
theorem TXs.len : ∀ {us : List (List Nat)} {xs : List Tk}, TXs us xs → us.length = xs.length
  | _, _, .nil => rfl
  | _, _, .cons _ r => congrArg (· + 1) r.len
theorem TXs.one {u : List Nat} {x : Tk} (h : TX u x) : TXs [u] [x] := .cons h .nil
theorem TXs.at_ : ∀ {us : List (List Nat)} {xs : List Tk}, TXs us xs → ∀ (i : Nat) (x : Tk), xs[i]? = some x → ∃ u, us[i]? = some u ∧ TX u x
  | _, _, .nil, i, x, h => by simp at h
  | _, _, .cons (u := u) h r, 0, x, e => ⟨u, rfl, by cases e; exact h⟩
  | _, _, .cons h r, i + 1, x, e => r.at_ i x (by simpa using e)
theorem tx_sig {c : Nat} (h : sgnC c = true) : TX [c] (.sg c) := by
  have all : ∀ c ∈ ([43, 45, 42, 47, 40, 41, 44, 58] : List Nat), ck c = 0 ∧ c ≠ 32 := by decide
  obtain ⟨h1, h2⟩ := all c (of_decide_eq_true h)
  refine ⟨.one h1 h2, ?_, Nat.le_refl 1, rfl, h⟩
  rw [kind_one h1, if_pos h]
  rfl
theorem tx_word {u : List Nat} (h1 : u ≠ []) (h2 : u.all sml = true) (h3 : u.length ≤ 8) : Shape u ∧ kindOf u = "word" ∧ u.length ≤ 8 := by
  have t := tok_word h1 h2
  rw [if_pos h3] at t
  exact ⟨t.sh, t.kd, h3⟩
def goneL : List Nat := [103, 111, 110, 101]
theorem gone_S : ("gone" : Str) = S goneL := by decide +kernel
theorem tx_gone : TX goneL .gone := by
  obtain ⟨a, b, c⟩ := tx_word (u := goneL) (by decide) (by decide) (by decide)
  exact ⟨a, b, Nat.le_refl 4, gone_S.symm⟩
theorem tx_name {u : List Nat} (h : IsW u) (o : PyData.strOk (S u) = true) : TX u (.name ⟨S u, o⟩) := by
  obtain ⟨a, b, c⟩ := tx_word (u := u) (fun z => by have := h.lo; rw [z] at this; simp at this) h.all h.hi
  exact ⟨a, b, c, rfl, h⟩
theorem calls_u : ∀ n ∈ callsL, n.cps.toList ≠ [] ∧ n.cps.toList.all sml = true ∧ n.cps.toList.length ≤ 5 := by decide +kernel
theorem S_selfT (s : Str) : S s.cps.toList = s := by
  show (⟨s.cps.toList.toArray⟩ : Str) = s
  rw [Array.toArray_toList]
theorem tx_fn {n : Str} (h : n ∈ callsL) : TX n.cps.toList (.fn n) := by
  obtain ⟨h1, h2, h3⟩ := calls_u n h
  obtain ⟨a, b, c⟩ := tx_word h1 h2 (by omega)
  exact ⟨a, b, h3, S_selfT n, h⟩
theorem tx_cel {r c : Nat} (hr : r < 99) (hc : c < 702) : TX (addr r c) (.cel (r : Int) (c : Int)) := by
  obtain ⟨o, h1, h2⟩ := addr_ok hr hc
  obtain ⟨x, s, e, _, _, _⟩ := num_two (n := r + 1) (by omega) (by omega)
  have l1 := lets_len c
  have l2 := num_len hr
  have nl : lets c ≠ [] := by
    unfold lets
    split <;> simp
  have t := tok_place (cs := lets c) (ds := numL (r + 1)) nl (List.all_eq_true.mpr (cap_lets hc)) (List.all_eq_true.mpr fun d h => decide_eq_true (TL.numL_digits (r + 1) d h))
  refine ⟨t.1, ?_, ?_, o, h1, h2⟩
  · have hd : cap ((addr r c).headD 0) = true := by
      unfold addr
      rw [headD_app nl]
      exact cap_lets hc _ (head_mem nl)
    rw [kind_cap hd, if_pos o]
    rfl
  · show (addr r c).length ≤ 4
    unfold addr
    rw [List.length_append]
    omega
theorem dec_whole {t : List Nat} (h1 : t ≠ []) (h2 : t.all dig = true) (h3 : t.length ≤ 12) : TX t (.dec ((digitsVal t : Nat) : Int) 1) := by
  have k := tok_num h1 h2
  rw [if_pos h3] at k
  have n46 := none46 (free46 h2)
  refine ⟨k.sh, k.kd, (by show t.length ≤ 20; omega), ?_, ?_⟩
  · unfold okD
    rw [n46.1]
    exact ⟨isD_mk h1 h2, h3, fun z => absurd z (free46 h2)⟩
  · unfold numD denD
    rw [n46.1, n46.2, List.append_nil]
    refine ⟨by decide, ?_, Nat.gcd_one_right _⟩
    rfl
theorem dec_point {t1 t2 : List Nat} {x y d : Int} (h1 : t1 ≠ []) (h2 : t1.all dig = true) (h3 : t2 ≠ []) (h4 : t2.all dig = true) (l1 : t1.length ≤ 6) (l2 : t2.length ≤ 6) (hd : d = 10 ^ t2.length) (L : Low ((digitsVal (t1 ++ t2) : Nat) : Int) d x y) : TX (t1 ++ 46 :: t2) (.dec x y) := by
  have k := tok_pt h1 h2 h3 h4
  rw [if_pos ⟨by omega, l2⟩] at k
  obtain ⟨p1, p2⟩ := pre46_app (ds := t1) (es := t2) (free46 h2)
  refine ⟨k.sh, k.kd, (by show (t1 ++ 46 :: t2).length ≤ 20; rw [List.length_append, List.length_cons]; omega), ?_, ?_⟩
  · unfold okD
    rw [p1, p2]
    exact ⟨isD_mk h1 h2, by omega, fun _ => ⟨isD_mk h3 h4, l2⟩⟩
  · unfold numD denD
    rw [p1, p2, ← hd]
    exact L.lw
/-! no two tokens but signs stand side by side -/
def sgB : Tk → Bool
  | .sg _ => true
  | _ => false
def Alt : List Tk → Prop
  | x :: y :: r => (sgB x || sgB y) = true ∧ Alt (y :: r)
  | _ => True
theorem alt_sg {c : Nat} : ∀ {r : List Tk}, Alt r → Alt (.sg c :: r)
  | [], _ => trivial
  | _ :: _, h => ⟨rfl, h⟩
theorem alt_mid {c : Nat} : ∀ {l r : List Tk}, Alt l → Alt r → Alt (l ++ .sg c :: r)
  | [], _, _, h => alt_sg h
  | [x], _, _, h => ⟨by simp [sgB], alt_sg h⟩
  | x :: y :: l, _, h, h2 => ⟨h.1, alt_mid (l := y :: l) h.2 h2⟩
theorem WA.alt {a : Ar} {ts : List Tk} (h : WA a ts) : Alt ts := by
  cases h with
  | two => exact ⟨rfl, rfl, trivial⟩
  | _ => exact trivial
theorem WAs.alt : ∀ {as : List Ar} {us : List Tk}, WAs as us → ∀ {l : List Tk}, Alt l → Alt (l ++ us)
  | _, _, .nil, l, h => by rw [List.append_nil]; exact h
  | _, _, .cons (ts := ts) (us := us) a as, l, h => by
    have e : l ++ (.sg 44 :: ts ++ us) = (l ++ .sg 44 :: ts) ++ us := by simp
    rw [e]
    exact as.alt (alt_mid h a.alt)
theorem WT.alt : ∀ {n : Nat} {b : Bool} {k : Nat} {t : Tr} {ts : List Tk}, WT n b k t ts → Alt ts
  | _, _, _, _, _, .dec => trivial
  | _, _, _, _, _, .cel => trivial
  | _, _, _, _, _, .gone => trivial
  | _, _, _, _, _, .call (w := w) (ts := ts) (us := us) a as => by
    have h : Alt ((([Tk.fn w] ++ .sg 40 :: ts) ++ us) ++ .sg 41 :: []) := alt_mid (as.alt (alt_mid (l := [Tk.fn w]) trivial a.alt)) trivial
    simpa using h
  | _, _, _, _, _, .neg h _ => alt_sg h.alt
  | _, _, _, _, _, .op _ l _ r _ => alt_mid l.alt r.alt
  | _, _, _, _, _, .par h => alt_sg (alt_mid h.alt trivial)
/-! the walk over tokens -/
def symT : Tk → Str
  | .dec _ _ => "decimal"
  | .cel _ _ => "address"
  | .gone => "gone"
  | .fn _ => "call"
  | .name _ => "name"
  | .sg c => S [c]
  | .bad => "bad"
def dpB (s y : Str) (d : Int) : Int := if y = "(" ∧ s ≠ "call" then d + 1 else if y = ")" ∧ s = "behind" then d - 1 else d
/-- the tokens are walked from a state and a depth to another -/
inductive Wk : Str → Int → List Tk → Str → Int → Prop
  | nil {s : Str} {d : Int} : Wk s d [] s d
  | cons {s s1 s2 : Str} {d d2 : Int} {x : Tk} {r : List Tk} : stepT s (symT x) = some s1 → 0 ≤ dpB s (symT x) d → dpB s (symT x) d ≤ 6 → Wk s1 (dpB s (symT x) d) r s2 d2 → Wk s d (x :: r) s2 d2
theorem Wk.app : ∀ {s s1 s2 : Str} {d d1 d2 : Int} {l r : List Tk}, Wk s d l s1 d1 → Wk s1 d1 r s2 d2 → Wk s d (l ++ r) s2 d2
  | _, _, _, _, _, _, _, _, .nil, h => h
  | _, _, _, _, _, _, _, _, .cons a b c r, h => .cons a b c (r.app h)
/-- a step that keeps the depth -/
theorem Wk.keep {s s1 y : Str} {d : Int} {x : Tk} (e : symT x = y) (h : stepT s y = some s1 ∧ ¬ (y = "(" ∧ s ≠ "call") ∧ ¬ (y = ")" ∧ s = "behind")) (h0 : 0 ≤ d) (h1 : d ≤ 6) : Wk s d [x] s1 d := by
  have z : dpB s (symT x) d = d := by
    unfold dpB
    rw [e, if_neg h.2.1, if_neg h.2.2]
  exact .cons (by rw [e]; exact h.1) (by omega) (by omega) (by rw [z]; exact .nil)
theorem Wk.open_ {s s1 : Str} {d : Int} (h : stepT s "(" = some s1 ∧ s ≠ "call") (h0 : 0 ≤ d) (h1 : d < 6) : Wk s d [.sg 40] s1 (d + 1) := by
  have e : symT (.sg 40) = "(" := by decide +kernel
  have z : dpB s (symT (.sg 40)) d = d + 1 := by
    unfold dpB
    rw [e, if_pos ⟨rfl, h.2⟩]
  exact .cons (by rw [e]; exact h.1) (by omega) (by omega) (by rw [z]; exact .nil)
theorem Wk.shut {d : Int} (h0 : 0 ≤ d) (h1 : d ≤ 6) : Wk "behind" (d + 1) [.sg 41] "behind" d := by
  have e : symT (.sg 41) = ")" := by decide +kernel
  have z : dpB "behind" (symT (.sg 41)) (d + 1) = d := by
    unfold dpB
    rw [e, if_neg (by decide +kernel), if_pos ⟨rfl, rfl⟩]
    omega
  exact .cons (by rw [e]; show stepT "behind" ")" = some "behind"; decide +kernel) (by omega) (by omega) (by rw [z]; exact .nil)
theorem WA.wk {a : Ar} {ts : List Tk} (h : WA a ts) {d : Int} (h0 : 0 ≤ d) (h1 : d ≤ 6) : ∃ s : Str, (s = ("last" : Str) ∨ s = ("corner" : Str)) ∧ Wk "area" d ts s d := by
  cases h with
  | gone => exact ⟨_, .inl rfl, .keep rfl (by decide +kernel) h0 h1⟩
  | name => exact ⟨_, .inl rfl, .keep (y := "name") rfl (by decide +kernel) h0 h1⟩
  | one => exact ⟨_, .inr rfl, .keep (y := "address") rfl (by decide +kernel) h0 h1⟩
  | two => exact ⟨_, .inl rfl, .app (l := [_]) (s1 := "corner") (.keep (y := "address") rfl (by decide +kernel) h0 h1) (.app (l := [_]) (s1 := "other") (.keep rfl (by decide +kernel) h0 h1) (.keep (y := "address") rfl (by decide +kernel) h0 h1))⟩
theorem WAs.wk : ∀ {as : List Ar} {us : List Tk}, WAs as us → ∀ {d : Int}, 0 ≤ d → d ≤ 6 → ∀ {s : Str}, (s = ("last" : Str) ∨ s = ("corner" : Str)) → ∃ s' : Str, (s' = ("last" : Str) ∨ s' = ("corner" : Str)) ∧ Wk s d us s' d
  | _, _, .nil, d, h0, h1, s, hs => ⟨s, hs, .nil⟩
  | _, _, .cons (ts := ts) (us := us) a as, d, h0, h1, s, hs => by
    obtain ⟨s1, e1, w1⟩ := a.wk h0 h1
    obtain ⟨s2, e2, w2⟩ := as.wk h0 h1 e1
    refine ⟨s2, e2, ?_⟩
    have w0 : Wk s d [.sg 44] "area" d := by
      rcases hs with rfl | rfl
      · exact .keep rfl (by decide +kernel) h0 h1
      · exact .keep rfl (by decide +kernel) h0 h1
    exact (w0.app w1).app w2
theorem WT.wk : ∀ {n : Nat} {b : Bool} {k : Nat} {t : Tr} {ts : List Tk}, WT n b k t ts → ∀ {d : Int}, 0 ≤ d → d + n ≤ 6 → Wk "factor" d ts "behind" d ∧ (4 ≤ k → Wk "primary" d ts "behind" d)
  | _, _, _, _, _, .dec, d, h0, h1 => ⟨.keep (y := "decimal") rfl (by decide +kernel) h0 (by omega), fun _ => .keep (y := "decimal") rfl (by decide +kernel) h0 (by omega)⟩
  | _, _, _, _, _, .cel, d, h0, h1 => ⟨.keep (y := "address") rfl (by decide +kernel) h0 (by omega), fun _ => .keep (y := "address") rfl (by decide +kernel) h0 (by omega)⟩
  | _, _, _, _, _, .gone, d, h0, h1 => ⟨.keep rfl (by decide +kernel) h0 (by omega), fun _ => .keep rfl (by decide +kernel) h0 (by omega)⟩
  | _, _, _, _, _, .call (w := w) (ts := ts) (us := us) a as, d, h0, h1 => by
    have h6 : d ≤ 6 := by omega
    obtain ⟨s1, e1, w1⟩ := a.wk h0 h6
    obtain ⟨s2, e2, w2⟩ := as.wk h0 h6 e1
    have w3 : Wk s2 d [.sg 41] "behind" d := by
      rcases e2 with rfl | rfl
      · exact .keep rfl (by decide +kernel) h0 h6
      · exact .keep rfl (by decide +kernel) h0 h6
    have w0 : Wk "call" d [.sg 40] "area" d := .keep rfl (by decide +kernel) h0 h6
    have wr := w0.app ((w1.app w2).app w3)
    have e : Tk.fn w :: Tk.sg 40 :: ts ++ us ++ [Tk.sg 41] = [Tk.fn w] ++ ([Tk.sg 40] ++ (ts ++ us ++ [Tk.sg 41])) := by simp
    rw [e]
    exact ⟨.app (s1 := "call") (.keep (y := "call") rfl (by decide +kernel) h0 h6) wr, fun _ => .app (s1 := "call") (.keep (y := "call") rfl (by decide +kernel) h0 h6) wr⟩
  | _, _, _, _, _, .neg (ts := ts) h k4, d, h0, h1 => by
    have w := (h.wk h0 h1).2 k4
    exact ⟨.app (l := [Tk.sg 45]) (s1 := "primary") (.keep rfl (by decide +kernel) h0 (by omega)) w, fun z => absurd z (by decide)⟩
  | _, _, _, _, _, .op (c := c) hc l _ r _, d, h0, h1 => by
    have w1 := (l.wk h0 h1).1
    have w2 := (r.wk h0 h1).1
    have w0 : Wk "behind" d [.sg c] "factor" d := by
      have cs : c = 43 ∨ c = 45 ∨ c = 42 ∨ c = 47 := by
        unfold isSum isProd at hc
        simp at hc
        omega
      rcases cs with rfl | rfl | rfl | rfl
      · exact .keep rfl (by decide +kernel) h0 (by omega)
      · exact .keep rfl (by decide +kernel) h0 (by omega)
      · exact .keep rfl (by decide +kernel) h0 (by omega)
      · exact .keep rfl (by decide +kernel) h0 (by omega)
    refine ⟨w1.app (w0.app w2), fun z => ?_⟩
    unfold powC at z
    split at z <;> omega
  | _, _, _, _, _, .par (n := n) (ts := ts) h, d, h0, h1 => by
    have w := (h.wk (d := d + 1) (by omega) (by omega)).1
    have w2 := w.app (.shut h0 (by omega))
    exact ⟨.app (l := [Tk.sg 40]) (.open_ (by decide +kernel) h0 (by omega)) w2, fun _ => .app (l := [Tk.sg 40]) (.open_ (by decide +kernel) h0 (by omega)) w2⟩
/-! how long a text can be -/
def wg : List Tk → Nat
  | [] => 0
  | x :: r => lenT x + 1 + wg r
theorem wg_app : ∀ (l r : List Tk), wg (l ++ r) = wg l + wg r
  | [], r => (Nat.zero_add _).symm
  | x :: l, r => by
    show lenT x + 1 + wg (l ++ r) = lenT x + 1 + wg l + wg r
    rw [wg_app l r]
    omega
theorem WA.wg {a : Ar} {ts : List Tk} (h : WA a ts) : wg ts ≤ 12 := by
  cases h with
  | gone => show 4 + 1 + 0 ≤ 12; decide
  | name => show 8 + 1 + 0 ≤ 12; decide
  | one => show 4 + 1 + 0 ≤ 12; decide
  | two => show 4 + 1 + (1 + 1 + (4 + 1 + 0)) ≤ 12; decide
theorem WAs.wg : ∀ {as : List Ar} {us : List Tk}, WAs as us → My.wg us ≤ 14 * as.length
  | _, _, .nil => Nat.le_refl 0
  | _, _, .cons (as := as) (ts := ts) (us := us) a r => by
    have h1 := a.wg
    have h2 := r.wg
    show My.wg (Tk.sg 44 :: (ts ++ us)) ≤ 14 * (as.length + 1)
    show 1 + 1 + My.wg (ts ++ us) ≤ _
    rw [wg_app]
    omega
def gap (b : Bool) : Nat := if b then 6 else 10
theorem gap_le (b : Bool) : gap b ≤ 10 := by cases b <;> decide
theorem two_le (h : Nat) : 1 ≤ 2 ^ h := Nat.one_le_two_pow
theorem WT.wg : ∀ {n : Nat} {b : Bool} {k : Nat} {t : Tr} {ts : List Tk}, WT n b k t ts → t.ok 3 → My.wg ts + gap b ≤ 60 * 2 ^ t.h
  | _, b, _, _, _, .dec, _ => by
    have := gap_le b
    show 20 + 1 + 0 + gap b ≤ 60 * 1
    omega
  | _, b, _, _, _, .cel, _ => by
    have := gap_le b
    show 4 + 1 + 0 + gap b ≤ 60 * 1
    omega
  | _, b, _, _, _, .gone, _ => by
    have := gap_le b
    show 4 + 1 + 0 + gap b ≤ 60 * 1
    omega
  | _, b, _, _, _, .call (as := as) (ts := ts) (us := us) a r, o => by
    have h1 := a.wg
    have h2 := r.wg
    have h3 : as.length + 1 ≤ 3 := o
    have := gap_le b
    show 5 + 1 + (1 + 1 + My.wg (ts ++ us ++ [Tk.sg 41])) + gap b ≤ 60 * 1
    rw [wg_app, wg_app]
    show 5 + 1 + (1 + 1 + (My.wg ts + My.wg us + (1 + 1 + 0))) + gap b ≤ 60 * 1
    omega
  | _, b, _, _, _, .neg (t := t) (ts := ts) h _, o => by
    have i := h.wg o
    have := gap_le b
    have t2 := two_le t.h
    show 1 + 1 + My.wg ts + gap b ≤ 60 * 2 ^ (t.h + 1)
    rw [Nat.pow_succ]
    have : gap true = 6 := rfl
    omega
  | _, b, _, _, _, .op (l := l) (r := r) (ts := ts) (us := us) _ hl _ hr _, o => by
    have i1 := hl.wg o.1
    have i2 := hr.wg o.2
    have := gap_le b
    have g : gap true = 6 := rfl
    have m1 : 2 ^ l.h ≤ 2 ^ max l.h r.h := Nat.pow_le_pow_right (by decide) (Nat.le_max_left _ _)
    have m2 : 2 ^ r.h ≤ 2 ^ max l.h r.h := Nat.pow_le_pow_right (by decide) (Nat.le_max_right _ _)
    show My.wg (ts ++ Tk.sg _ :: us) + gap b ≤ 60 * 2 ^ (max l.h r.h + 1)
    rw [wg_app, Nat.pow_succ]
    show My.wg ts + (1 + 1 + My.wg us) + gap b ≤ _
    omega
  | _, _, _, t, _, .par (ts := ts) h, o => by
    have i := h.wg o
    have g : gap false = 10 := rfl
    have g2 : gap true = 6 := rfl
    show 1 + 1 + My.wg (ts ++ [Tk.sg 41]) + gap true ≤ 60 * 2 ^ t.h
    rw [wg_app]
    show 1 + 1 + (My.wg ts + (1 + 1 + 0)) + gap true ≤ _
    omega
end
end My
namespace My
open PySem PySem.Spec PyProof.Rows L2 RZ
section
variable {P : Program} {w : World} {K : PySem.W.Frag} {mg : Str → Option Value} {base : Heap}
open L2H
open SX (S S_len S_cat slice_to slice_from num_S int_S)
open PySem.NumText (digitsVal AllDigits)
open TL (numL)
/-! ### the text of a formula -/
def tsz : List (List Nat) → Nat
  | [] => 0
  | u :: r => u.length + 1 + tsz r
theorem tsz_app : ∀ (l r : List (List Nat)), tsz (l ++ r) = tsz l + tsz r
  | [], r => (Nat.zero_add _).symm
  | x :: l, r => by
    show x.length + 1 + tsz (l ++ r) = x.length + 1 + tsz l + tsz r
    rw [tsz_app l r]
    omega
theorem TXs.tsz : ∀ {us : List (List Nat)} {xs : List Tk}, TXs us xs → My.tsz us ≤ wg xs
  | _, _, .nil => Nat.le_refl 0
  | _, _, .cons (u := u) (x := x) (us := us) (xs := xs) h r => by
    have h1 := h.len
    have h2 := r.tsz
    show u.length + 1 + My.tsz us ≤ lenT x + 1 + wg xs
    omega
theorem tsz_take (us : List (List Nat)) (i : Nat) : tsz (us.take i) ≤ tsz us := by
  have := tsz_app (us.take i) (us.drop i)
  rw [List.take_append_drop] at this
  omega
noncomputable def dU (us : List (List Nat)) : List (Str × List Nat) := us.map fun u => (kindOf u, u)
theorem sg_ck {c : Nat} (h : sgnC c = true) : ck c = 0 ∧ c ≠ 46 := by
  have all : ∀ c ∈ ([43, 45, 42, 47, 40, 41, 44, 58] : List Nat), ck c = 0 ∧ c ≠ 46 := by decide
  exact all c (of_decide_eq_true h)
theorem rtB_left {c d : Nat} (h : sgnC c = true) : rtB [c] d = false := by
  obtain ⟨h1, _⟩ := sg_ck h
  unfold rtB
  show (if d = 46 ∧ ck c = 1 then _ else if ck c = 2 ∧ ck d = 1 then true else (decide (0 < ck c) && decide (ck c = ck d))) = false
  rw [h1]
  simp
theorem rtB_right {u : List Nat} {c : Nat} (h : sgnC c = true) : rtB u c = false := by
  obtain ⟨h1, h2⟩ := sg_ck h
  unfold rtB
  rw [h1]
  simp [h2]
  intro z y
  omega
theorem alt_at : ∀ {xs : List Tk} (i : Nat) (x y : Tk), Alt xs → xs[i]? = some x → xs[i + 1]? = some y → (sgB x || sgB y) = true
  | a :: b :: r, 0, x, y, h, e1, e2 => by
    cases e1
    cases e2
    exact h.1
  | a :: b :: r, i + 1, x, y, h, e1, e2 => alt_at (xs := b :: r) i x y h.2 e1 e2
  | [a], i, x, y, h, e1, e2 => by simp at e2
  | [], i, x, y, h, e1, e2 => by simp at e1
theorem TX.rt {u v : List Nat} {x y : Tk} (h1 : TX u x) (h2 : TX v y) (h : (sgB x || sgB y) = true) : rtB u (v.headD 0) = false := by
  cases x with
  | sg c =>
    obtain ⟨rfl, s⟩ := h1.val
    exact rtB_left s
  | _ =>
    cases y with
    | sg c =>
      obtain ⟨rfl, s⟩ := h2.val
      exact rtB_right s
    | _ => cases h
end
end My
namespace My
open PySem PySem.Spec PyProof.Rows L2 RZ
section
variable {P : Program} {w : World} {K : PySem.W.Frag} {mg : Str → Option Value} {base : Heap}
open L2H
open SX (S S_len S_cat slice_to slice_from num_S int_S)
open PySem.NumText (digitsVal AllDigits)
open TL (numL)
theorem strOk_sml {a : List Nat} (h : a.all sml = true) : PyData.strOk (S a) = true := by
  show (a.toArray).all (fun c => decide (c < 0x110000)) = true
  rw [List.all_toArray, List.all_eq_true]
  intro c hc
  have : 97 ≤ c ∧ c ≤ 122 := of_decide_eq_true (List.all_eq_true.mp h c hc)
  exact decide_eq_true (by omega)
theorem five_len : ∀ v ∈ five, v.length ≤ 5 := by decide +kernel
theorem five_x : ∀ v ∈ five, v ++ S [120] ∉ five := by decide +kernel
def spIsWord (K : PySem.W.Frag) : Sp := fun vs H Q _ => ∃ (a : List Nat), vs = [.str (S a)] ∧ a.length ≤ 2500 ∧ ∀ (b : Bool) (H' : Hp), Same H H' → (b = true ↔ IsW a) → Q (.bl b) H'
theorem okIsNameWord (T : Txt P w K mg) : FnOk P w K mg base CX0 1 T.fIsNameWord T.fdIsNameWord ["text"] (spIsWord K) := by
  refine T.FIsNameWord.ok scIsNameWord (fun vs H Q E h => ?_) (fun cdv A outer s H vs Q E hr h => ?_)
  · obtain ⟨a, rfl, _⟩ := h
    rfl
  · obtain ⟨a, rfl, hz, q⟩ := h
    -- slots text=0 character=1
    refine ⟨_, (pss_cons (ps_if (pt_not (pt_chain op_le op_le (pe_glob (v := (.int 2)) rfl T.g_SHORTEST_NAME ⟨_, rfl⟩) (pe_callB call_len_str (by rfl) T.z_len PySem.boot_len (pa_cons (pv 0) pa_nil)) (pe_glob (v := (.int 8)) rfl T.g_LONGEST_WORD ⟨_, rfl⟩)))
          (pss_one (ps_ret pe_bl))
          pss_nil)
        (pss_cons (ps_if (PW.pt (pw_or (pt_cmpR op_in_seq (pv 0) (pe_glob (v := (.ref T.p_CALLS)) rfl T.g_CALLS rfl) rfl) (pw_or1 (pt_cmpR op_eq (pv 0) (pe_glob (v := (.str "gone")) rfl T.g_GONE ⟨_, rfl⟩) (nomark _)))))
          (pss_one (ps_ret pe_bl))
          pss_nil)
        (pss_one (ps_ret (pe_callB (cr_all rfl) (by rfl) T.z_all (by decide +kernel) (pa_cons (pe_lc (own := [("character", 1)]) (g := gName 1) (tt := tYes) rfl scIsNameWord.nd (pi_str (pv 0)) (blkOk_by (own := [("character", 1)]) (N := ["text", "character"]) (sc := defScope sIsNameWord) (by decide +kernel)) (fun _ _ _ _ _ => (pg_name (i := 1) scIsNameWord.nd rfl (Or.inl rfl))) (fun _ _ _ _ _ => pts_nil) (fun _ _ _ _ _ => (pe_cmpR op_in_sign (pv 1) (pe_glob (v := (.str "abcdefghijklmnopqrstuvwxyz")) rfl T.g_SMALL ⟨_, rfl⟩) rfl))) pa_nil)))))), ?_⟩
    refine ⟨_, rfl, S a, rfl, by rw [S_len]; exact sz100 (by omega), _, _, rfl, rfl, _, rfl, ?_⟩
    rw [S_len]
    by_cases lo : 2 ≤ a.length
    · rw [if_pos (decide_eq_true (by omega))]
      refine ⟨_, _, rfl, rfl, _, rfl, ?_⟩
      by_cases hi : a.length ≤ 8
      · rw [decide_eq_true (show (a.length : Int) ≤ 8 by omega)]
        refine iteF ?_
        refine ⟨_, rfl, T.p_CALLS, _, rfl, .inr (T.k_CALLS _), rfl, rfl, _, rfl, ?_⟩
        have e4 : inV (.str (S a)) [.str "sum", .str "count", .str "min", .str "max"] = decide (S a ∈ (["sum", "count", "min", "max"] : List Str)) := inV_strs (S a) ["sum", "count", "min", "max"]
        rw [e4]
        refine ite2 (fun c => q false H (Same.refl H) ⟨(fun z => nomatch z), fun W => absurd ?_ W.no⟩) (fun c => ?_)
        · have := of_decide_eq_true c
          exact List.mem_append.mpr (.inl this : S a ∈ (["sum", "count", "min", "max"] : List Str) ∨ S a ∈ (["gone"] : List Str))
        have c4 : S a ∉ (["sum", "count", "min", "max"] : List Str) := fun z => c (decide_eq_true z)
        refine ⟨_, rfl, rfl, _, rfl, ite2 (fun c => q false H (Same.refl H) ⟨(fun z => nomatch z), fun W => absurd ?_ W.no⟩) (fun c => ?_)⟩
        · have := V.str.inj (of_decide_eq_true c)
          exact List.mem_append.mpr (.inr (by rw [this]; exact List.mem_singleton.mpr rfl) : S a ∈ (["sum", "count", "min", "max"] : List Str) ∨ S a ∈ (["gone"] : List Str))
        have c5 : S a ≠ "gone" := fun z => c (decide_eq_true (by rw [z]))
        have no : S a ∉ five := fun z => by
          rcases (List.mem_append.mp (show S a ∈ (["sum", "count", "min", "max"] : List Str) ++ (["gone"] : List Str) from z)) with y | y
          · exact c4 y
          · exact c5 (by simpa using y)
        refine ⟨_, rfl, S a, rfl, fun N hN => ?_⟩
        refine lc_it (walk_S (a := a)) (fun i H' => Same H H' ∧ ∃ bs : List Bool, H' N = some (.lst (bs.map V.bl)) ∧ bs.length ≤ i ∧ (bs.all id = true ↔ (a.take i).all sml = true)) ⟨same_new hN, [], upd_same, Nat.le_refl _, ⟨fun _ => by simp, fun _ => rfl⟩⟩ (fun i H' _ h => trivial) ?_ ?_
        · rintro i x H9 H1 hi ⟨s1, bs, hN1, bl, hb⟩ ⟨rfl, c, hc, rfl⟩
          refine ⟨rfl, yesT ⟨_, rfl, c, _, rfl, rfl, _, hN1, ?_, same_mut s1 hN, bs ++ [sml c], ?_, ?_, ?_⟩⟩
          · rw [List.length_map]
            exact small1000 (by omega)
          · rw [upd_same, List.map_append, sml_mem]
            rfl
          · rw [List.length_append]
            exact Nat.add_le_add_right bl 1
          · rw [List.take_add_one, hc, List.all_append, List.all_append, Bool.and_eq_true, Bool.and_eq_true, hb]
            simp
        · rintro H1 ⟨s1, bs, hN1, bl, hb⟩
          rw [List.take_length] at hb
          exact ⟨N, bs, rfl, SqL.of hN1, q _ H1 s1 (hb.trans ⟨fun z => ⟨lo, hi, no, z⟩, fun W => W.all⟩)⟩
      · rw [decide_eq_false (show ¬ (a.length : Int) ≤ 8 by omega)]
        exact iteT (q false H (Same.refl H) ⟨(fun z => nomatch z), fun W => absurd W.hi hi⟩)
    · rw [if_neg (fun z => lo (by have := of_decide_eq_true z; omega))]
      exact ⟨_, rfl, iteT (q false H (Same.refl H) ⟨(fun z => nomatch z), fun W => absurd W.lo lo⟩)⟩
/-! ### the walk over any tokens -/
/-- what a text is for the grammar -/
noncomputable def symU (u : List Nat) : Option Str :=
  if kindOf u = "sign" then some (S u) else if kindOf u ≠ "word" then some (kindOf u) else if S u = "gone" then some "gone" else if S u ∈ callsL then some "call" else open Classical in if IsW u then some "name" else none
def dpO (s : Str) (y : Option Str) (d : Int) : Int := match y with
  | some y => dpB s y d
  | none => d
/-- the walk: where it ends, and whether all is a formula -/
def walkF : Str → Int → List (Option Str) → Nat → Nat × Bool
  | s, d, [], i => (i, decide (s = "behind") && decide (d = 0))
  | s, d, y :: r, i => match stepO s y with
    | some s1 => if 0 ≤ dpO s y d ∧ dpO s y d ≤ 6 then walkF s1 (dpO s y d) r (i + 1) else (i, false)
    | none => (i, false)
def Tok (H : Hp) (q : Addr) (u : List Nat) : Prop := H q = some (.tup [.str (kindOf u), .str (S u)])
def spSymbol (K : PySem.W.Frag) : Sp := fun vs H Q _ => ∃ (q : Addr) (u : List Nat), vs = [.ref q] ∧ Tok H q u ∧ u.length ≤ 2500 ∧ ∀ H', Same H H' → Q (kO (symU u)) H'
theorem okSymbol (T : Txt P w K mg) : FnOk P w K mg base CX0 2 T.fSymbol T.fdSymbol ["token"] (spSymbol K) := by
  refine T.FSymbol.ok scSymbol (fun vs H Q E h => ?_) (fun cdv A outer s H vs Q E hr h => ?_)
  · obtain ⟨q, u, rfl, _⟩ := h
    rfl
  · obtain ⟨p, u, rfl, hp, hz, q⟩ := h
    -- slots token=0 kind=1 string=2
    refine ⟨_, (pss_cons (ps_asg (pv 0) (pg_tup rfl (pgs_cons (pg_name (i := 1) scSymbol.nd rfl (Or.inl rfl)) (pgs_cons (pg_name (i := 2) scSymbol.nd rfl (Or.inl rfl)) pgs_nil))))
        (pss_cons (ps_if (pt_cmpR op_eq (pv 1) pe_str (nomark _))
          (pss_one (ps_ret (pv 2)))
          pss_nil)
        (pss_cons (ps_if (pt_cmpR op_ne (pv 1) pe_str (nomark _))
          (pss_one (ps_ret (pv 1)))
          pss_nil)
        (pss_cons (ps_if (pt_cmpR op_eq (pv 2) (pe_glob (v := (.str "gone")) rfl T.g_GONE ⟨_, rfl⟩) (nomark _))
          (pss_one (ps_ret pe_str))
          pss_nil)
        (pss_cons (ps_if (pt_cmpR op_in_seq (pv 2) (pe_glob (v := (.ref T.p_CALLS)) rfl T.g_CALLS rfl) rfl)
          (pss_one (ps_ret pe_str))
          pss_nil)
        (pss_one (ps_ret (pe_ifExp (pt_val (pe_call (okIsNameWord T) (hr.mono (by decide)) (by rfl) T.gIsNameWord T.FIsNameWord.kp T.bIsNameWord .nil pass0 (pa_cons (pv 2) pa_nil))) pe_str pe_non)))))))), ?_⟩
    unfold Tok at hp
    refine ⟨_, rfl, p, _, rfl, SqT.of hp, rfl, _, _, rfl, _, _, rfl, rfl, ?_⟩
    unfold symU at q
    by_cases c1 : kindOf u = "sign"
    · rw [if_pos c1] at q
      refine ⟨_, rfl, rfl, _, rfl, ?_⟩
      rw [c1]
      exact ifY ⟨_, rfl, q H (Same.refl H)⟩
    rw [if_neg c1] at q
    by_cases c2 : kindOf u = "word"
    · rw [if_neg (fun z => z c2)] at q
      refine ⟨_, rfl, rfl, _, rfl, ifN c1 ⟨_, rfl, rfl, _, rfl, ?_⟩⟩
      rw [c2, decide_eq_true rfl]
      refine iteF ⟨_, rfl, rfl, _, rfl, ?_⟩
      by_cases c3 : S u = "gone"
      · rw [if_pos c3] at q
        rw [c3]
        exact ifY (q H (Same.refl H))
      rw [if_neg c3] at q
      refine ifN c3 ⟨_, rfl, T.p_CALLS, _, rfl, .inr (T.k_CALLS _), rfl, rfl, _, rfl, ?_⟩
      have e4 : inV (.str (S u)) [.str "sum", .str "count", .str "min", .str "max"] = decide (S u ∈ callsL) := inV_strs (S u) callsL
      rw [e4]
      by_cases c4 : S u ∈ callsL
      · rw [if_pos c4] at q
        rw [decide_eq_true c4]
        exact iteT (q H (Same.refl H))
      rw [if_neg c4] at q
      rw [decide_eq_false c4]
      refine iteF ⟨_, rfl, u, rfl, hz, fun b H' sm hb => ⟨b, rfl, ?_⟩⟩
      by_cases c5 : IsW u
      · rw [if_pos c5] at q
        rw [hb.mpr c5]
        exact iteT (q H' sm)
      · rw [if_neg c5] at q
        have : b = false := by
          cases b with
          | true => exact absurd (hb.mp rfl) c5
          | false => rfl
        rw [this]
        exact iteF (q H' sm)
    · rw [if_pos c2] at q
      refine ⟨_, rfl, rfl, _, rfl, ifN c1 ⟨_, rfl, rfl, _, rfl, ?_⟩⟩
      rw [decide_eq_false fun z => c2 (V.str.inj z)]
      exact iteT ⟨_, rfl, q H (Same.refl H)⟩
def spDepth (K : PySem.W.Frag) : Sp := fun vs H Q _ => ∃ (s : Str) (y : Option Str) (d : Int), vs = [.str s, kO y, .int d] ∧ Q (.int (dpO s y d)) H
theorem okDepthBehind (T : Txt P w K mg) : FnOk P w K mg base CX0 1 T.fDepthBehind T.fdDepthBehind ["state", "symbol", "depth"] (spDepth K) := by
  refine T.FDepthBehind.ok scDepthBehind (fun vs H Q E h => ?_) (fun cdv A outer s H vs Q E hr h => ?_)
  · obtain ⟨s, y, d, rfl, _⟩ := h
    rfl
  · obtain ⟨s, y, d, rfl, q⟩ := h
    -- slots state=0 symbol=1 depth=2
    refine ⟨_, (pss_cons (ps_if (PW.pt (pw_and (pt_cmpR op_eq (pv 1) pe_str (nomark _)) (pw_and1 (pt_cmpR op_ne (pv 0) pe_str (nomark _)))))
          (pss_one (ps_ret (pe_op op_add (pv 2) pe_int)))
          pss_nil)
        (pss_cons (ps_if (PW.pt (pw_and (pt_cmpR op_eq (pv 1) pe_str (nomark _)) (pw_and1 (pt_cmpR op_eq (pv 0) pe_str (nomark _)))))
          (pss_one (ps_ret (pe_op op_sub (pv 2) pe_int)))
          pss_nil)
        (pss_one (ps_ret (pv 2))))), ?_⟩
    cases y with
    | none =>
      exact ⟨_, rfl, rfl, _, rfl, iteF (iteF ⟨_, rfl, rfl, _, rfl, iteF (iteF ⟨_, rfl, q⟩)⟩)⟩
    | some y =>
    have q : Q (.int (dpB s y d)) H := q
    rw [show kO (some y) = V.str y from rfl]
    unfold dpB at q
    by_cases c1 : y = "("
    · subst c1
      refine ⟨_, rfl, rfl, _, rfl, ifY ⟨_, rfl, rfl, _, rfl, ?_⟩⟩
      by_cases c2 : s = "call"
      · subst c2
        have n1 : ("(" : Str) ≠ ")" := by decide +kernel
        rw [if_neg (fun z => z.2 rfl), if_neg (fun z => n1 z.1)] at q
        rw [decide_eq_true rfl]
        refine iteF ⟨_, rfl, rfl, _, rfl, ?_⟩
        rw [decide_eq_false fun z => n1 (V.str.inj z)]
        exact iteF (iteF ⟨_, rfl, q⟩)
      · rw [if_pos ⟨rfl, c2⟩] at q
        rw [decide_eq_false fun z => c2 (V.str.inj z)]
        exact iteT ⟨_, rfl, _, _, rfl, rfl, q⟩
    · rw [if_neg (fun z => c1 z.1)] at q
      refine ⟨_, rfl, rfl, _, rfl, ?_⟩
      rw [decide_eq_false fun z => c1 (V.str.inj z)]
      refine iteF (iteF ⟨_, rfl, rfl, _, rfl, ?_⟩)
      by_cases c2 : y = ")"
      · subst c2
        rw [decide_eq_true rfl]
        refine iteT ⟨_, rfl, rfl, _, rfl, ?_⟩
        by_cases c3 : s = "behind"
        · subst c3
          rw [if_pos ⟨rfl, rfl⟩] at q
          rw [decide_eq_true rfl]
          exact iteT ⟨_, rfl, _, _, rfl, rfl, q⟩
        · rw [if_neg (fun z => c3 z.2)] at q
          rw [decide_eq_false fun z => c3 (V.str.inj z)]
          exact iteF ⟨_, rfl, q⟩
      · rw [if_neg (fun z => c2 z.1)] at q
        rw [decide_eq_false fun z => c2 (V.str.inj z)]
        exact iteF (iteF ⟨_, rfl, q⟩)
theorem units2 {k : Nat} {A : Around} (r : Room k A) : A.units + 1 < cLine := by
  have := r.un
  omega
theorem Rep.at_ {H : Hp} : ∀ {vs : List V} {ds : List (Str × List Nat)}, Rep H vs ds → ∀ (i : Nat) (x : V) (k : Str) (t : List Nat), vs[i]? = some x → ds[i]? = some (k, t) → ∃ q, x = .ref q ∧ H q = some (.tup [.str k, .str (S t)])
  | _, _, .nil, i, x, k, t, h, _ => by simp at h
  | _, _, .cons (q := q) h r, 0, x, k, t, e, e2 => by
    cases e
    cases e2
    exact ⟨q, rfl, h⟩
  | _, _, .cons h r, i + 1, x, k, t, e, e2 => r.at_ i x k t (by simpa using e) (by simpa using e2)
def spWalk (K : PySem.W.Frag) : Sp := fun vs H Q _ => ∃ (d : Addr) (rs : List V) (us : List (List Nat)), vs = [.ref d] ∧ H d = some (.lst rs) ∧ Rep H rs (dU us) ∧ us.length ≤ 2500 ∧ (∀ u ∈ us, u.length ≤ 2500) ∧ ∀ p H', Same H H' → H' p = some (.tup [.int ((walkF "factor" 0 (us.map symU) 0).1 : Int), .bl (walkF "factor" 0 (us.map symU) 0).2]) → Q (.ref p) H'
theorem okWalk (T : Txt P w K mg) : FnOk P w K mg base CX0 3 T.fWalk T.fdWalk ["tokens"] (spWalk K) := by
  refine T.FWalk.ok scWalk (fun vs H Q E h => ?_) (fun cdv A outer s H vs Q E hr h => ?_)
  · obtain ⟨d, rs, us, rfl, _⟩ := h
    rfl
  · obtain ⟨d, rs, us, rfl, hd, R, zu, zl, q⟩ := h
    -- slots tokens=0 state=1 depth=2 at=3 token=4 symbol=5
    refine ⟨_, (pss_cons (ps_set (i := 1) scWalk.nd rfl (Or.inl rfl) pe_str)
        (pss_cons (ps_set (i := 2) scWalk.nd rfl (Or.inl rfl) pe_int)
        (pss_cons (ps_for PassesOwn.never rfl (pi_enum (by rfl) T.z_enumerate (pa_cons (pv 0) pa_nil)) (pg_tup rfl (pgs_cons (pg_name (i := 3) scWalk.nd rfl (Or.inl rfl)) (pgs_cons (pg_name (i := 4) scWalk.nd rfl (Or.inl rfl)) pgs_nil)))
          (pss_cons (ps_set (i := 5) scWalk.nd rfl (Or.inl rfl) (pe_call (okSymbol T) (hr.mono (by decide)) (by rfl) T.gSymbol T.FSymbol.kp T.bSymbol .nil pass0 (pa_cons (pv 4) pa_nil)))
          (pss_cons (ps_set (i := 2) scWalk.nd rfl (Or.inl rfl) (pe_call (okDepthBehind T) (hr.mono (by decide)) (by rfl) T.gDepthBehind T.FDepthBehind.kp T.bDepthBehind .nil pass0 (pa_cons (pv 1) (pa_cons (pv 5) (pa_cons (pv 2) pa_nil)))))
          (pss_cons (ps_set (i := 1) scWalk.nd rfl (Or.inl rfl) (pe_stepsGet T.sT (units2 hr) (pe_glob (v := (.ref aST)) rfl T.g_STEPS rfl) (pe_tup (pa_cons (pv 1) (pa_cons (pv 5) pa_nil)))))
          (pss_one (ps_if (PW.pt (pw_or (pt_cmpR op_isN (pv 1) pe_non (nomark _)) (pw_or1 (pt_not (pt_chain op_le op_le pe_int (pv 2) (pe_glob (v := (.int 6)) rfl T.g_MOST_BRACKETS ⟨_, rfl⟩))))))
            (pss_one (ps_ret (pe_tup (pa_cons (pv 3) (pa_cons pe_bl pa_nil)))))
            pss_nil))))))
        (pss_one (ps_ret (pe_tup (pa_cons (pe_callB call_len_seq (by rfl) T.z_len PySem.boot_len (pa_cons (pv 0) pa_nil)) (pa_cons (pe_and (pe_cmpR op_eq (pv 1) pe_str (nomark _)) (pe_one (pe_cmpR op_eq (pv 2) pe_int (nomark _)))) pa_nil)))))))), ?_⟩
    have rl : rs.length = us.length := by
      rw [R.len]
      unfold dU
      rw [List.length_map]
    refine ⟨_, rfl, d, rs, rfl, SqL.of hd, for_it (walk_enum (xs := rs)) (fun i σ H' => Same H H' ∧ ∃ (s : Str) (z : Int) (c3 c4 c5 : Option V), σ = [some (.ref d), some (.str s), some (.int z), c3, c4, c5] ∧ walkF s z ((us.drop i).map symU) i = walkF "factor" 0 (us.map symU) 0) ⟨Same.refl H, _, _, none, none, none, rfl, rfl⟩ (fun i σ H' _ h => SqL.of (h.1 _ _ hd)) ?_ ?_⟩
    · rintro i v σ H1 H2 hi ⟨s1, s, z, c3, c4, c5, rfl, wk1⟩ ⟨p, x1, x2, rfl, hp, rfl, e1, e2⟩
      cases e1
      have hui : i < us.length := by omega
      obtain ⟨u, hu⟩ : ∃ u, us[i]? = some u := ⟨_, List.getElem?_eq_getElem hui⟩
      have hD : (dU us)[i]? = some (kindOf u, u) := by
        unfold dU
        rw [List.getElem?_map, hu]
        rfl
      obtain ⟨q0, rfl, hq⟩ := R.at_ i x2 _ _ e2 hD
      have ed : us.drop i = u :: us.drop (i + 1) := by
        obtain ⟨hlt, e⟩ := List.getElem?_eq_some_iff.mp hu
        rw [List.drop_eq_getElem_cons hlt, e]
      rw [ed, List.map_cons] at wk1
      have s12 := same_new (o := .tup [.int ((i : Nat) : Int), .ref q0]) hp
      refine ⟨_, _, rfl, SqT.of upd_same, rfl, _, _, rfl, _, _, rfl, rfl, _, rfl, q0, u, rfl, (s1.trans s12) _ _ hq, zl u (List.mem_of_getElem? hu), fun H3 s3 => ?_⟩
      refine ⟨_, rfl, _, rfl, _, rfl, s, symU u, z, rfl, rfl, _, rfl, _, rfl, (by show 2 ≤ sizeLine; decide), fun b hb => ⟨b, s, symU u, rfl, upd_same, ?_⟩⟩
      have s4 := same_new (o := .tup [.str s, kO (symU u)]) hb
      have s14 := ((s1.trans s12).trans s3).trans s4
      have out : stepO s (symU u) = none ∨ ¬ (0 ≤ dpO s (symU u) z ∧ dpO s (symU u) z ≤ 6) → walkF "factor" 0 (us.map symU) 0 = (i, false) := fun o => by
        rw [← wk1]
        show (match stepO s (symU u) with
          | some s1 => if 0 ≤ dpO s (symU u) z ∧ dpO s (symU u) z ≤ 6 then walkF s1 (dpO s (symU u) z) ((us.drop (i + 1)).map symU) (i + 1) else (i, false)
          | none => (i, false)) = (i, false)
        rcases o with o | o
        · rw [o]
        · cases stepO s (symU u) with
          | none => rfl
          | some s1 => exact if_neg o
      have bad : stepO s (symU u) = none ∨ ¬ (0 ≤ dpO s (symU u) z ∧ dpO s (symU u) z ≤ 6) → ∀ (p2 : Addr) (H4 : Hp), Same H H4 → H4 p2 = none → Q (.ref p2) (upd H4 p2 (.tup [.int (i : Int), .bl false])) := fun o p2 H4 s5 h5 => by
        have e := out o
        refine q p2 _ (s5.trans (same_new h5)) ?_
        rw [e, upd_same]
      cases st : stepO s (symU u) with
      | none => 
        refine ⟨_, rfl, rfl, _, rfl, iteT (iteT ⟨_, rfl, (by show 2 ≤ sizeLine; decide), fun p2 hp2 => ?_⟩)⟩
        exact bad (.inl st) p2 _ s14 hp2
      | some s2 =>
        refine ⟨_, rfl, rfl, _, rfl, iteF ⟨_, rfl, _, _, rfl, rfl, _, rfl, ?_⟩⟩
        by_cases lo : 0 ≤ dpO s (symU u) z
        · rw [if_pos (decide_eq_true lo)]
          refine ⟨_, _, rfl, rfl, _, rfl, ?_⟩
          by_cases hi6 : dpO s (symU u) z ≤ 6
          · rw [decide_eq_true hi6]
            refine iteF ⟨s14, _, _, _, _, _, rfl, ?_⟩
            rw [← wk1]
            show _ = (match stepO s (symU u) with
              | some s1 => if 0 ≤ dpO s (symU u) z ∧ dpO s (symU u) z ≤ 6 then walkF s1 (dpO s (symU u) z) ((us.drop (i + 1)).map symU) (i + 1) else (i, false)
              | none => (i, false))
            rw [st]
            exact (if_pos ⟨lo, hi6⟩).symm
          · rw [decide_eq_false hi6]
            refine iteT ⟨_, rfl, (by show 2 ≤ sizeLine; decide), fun p2 hp2 => ?_⟩
            exact bad (.inr fun z => hi6 z.2) p2 _ s14 hp2
        · rw [if_neg (fun z => lo (of_decide_eq_true z))]
          refine ⟨_, rfl, iteT ⟨_, rfl, (by show 2 ≤ sizeLine; decide), fun p2 hp2 => ?_⟩⟩
          exact bad (.inr fun z => lo z.1) p2 _ s14 hp2
    · rintro σ H1 ⟨s1, s, z, c3, c4, c5, rfl, wk1⟩
      rw [rl, List.drop_length] at wk1
      have wk1 : (us.length, decide (s = "behind") && decide (z = 0)) = walkF "factor" 0 (us.map symU) 0 := wk1
      rw [← wk1] at q
      refine ⟨_, rfl, d, rs, rfl, .inl (SqL.of (s1 _ _ hd)), _, rfl, rfl, _, rfl, ?_⟩
      rw [rl]
      by_cases c : s = "behind"
      · subst c
        refine ifY ⟨_, rfl, rfl, (by show 2 ≤ sizeLine; decide), fun p hp => ?_⟩
        refine q p _ (s1.trans (same_new hp)) ?_
        rw [upd_same, decide_eq_true rfl, Bool.true_and]
        have e : decide (V.int z = V.int 0) = decide (z = 0) := decide_eq_decide.mpr ⟨fun h => V.int.inj h, fun h => by rw [h]⟩
        rw [e]
      · refine ifN c ⟨(by show 2 ≤ sizeLine; decide), fun p hp => ?_⟩
        refine q p _ (s1.trans (same_new hp)) ?_
        rw [upd_same, decide_eq_false c]
        rfl
end
end My
namespace My
open PySem PySem.Spec PyProof.Rows L2 RZ
section
variable {P : Program} {w : World} {K : PySem.W.Frag} {mg : Str → Option Value} {base : Heap}
open L2H
open SX (S S_len S_cat slice_to slice_from num_S int_S)
open PySem.NumText (digitsVal AllDigits)
open TL (numL)
/-! ### tokens of any text -/
/-- this text is read as this token -/
structure TY (u : List Nat) (x : Tk) : Prop where
  kd : kindOf u = kdT x
  le : u.length ≤ 2500
  val : valT u x
inductive TYs : List (List Nat) → List Tk → Prop
  | nil : TYs [] []
  | cons {u : List Nat} {x : Tk} {us : List (List Nat)} {xs : List Tk} (h : TY u x) (r : TYs us xs) : TYs (u :: us) (x :: xs)
theorem TYs.len : ∀ {us : List (List Nat)} {xs : List Tk}, TYs us xs → us.length = xs.length
  | _, _, .nil => rfl
  | _, _, .cons _ r => congrArg (· + 1) r.len
theorem TYs.at_ : ∀ {us : List (List Nat)} {xs : List Tk}, TYs us xs → ∀ (i : Nat) (x : Tk), xs[i]? = some x → ∃ u, us[i]? = some u ∧ TY u x
  | _, _, .nil, i, x, h => by simp at h
  | _, _, .cons (u := u) h r, 0, x, e => ⟨u, rfl, by cases e; exact h⟩
  | _, _, .cons h r, i + 1, x, e => r.at_ i x (by simpa using e)
theorem kind_names : ("decimal" : Str) ≠ "sign" ∧ ("address" : Str) ≠ "sign" ∧ ("word" : Str) ≠ "sign" ∧ ("bad" : Str) ≠ "sign" ∧ ("decimal" : Str) ≠ "word" ∧ ("address" : Str) ≠ "word" ∧ ("bad" : Str) ≠ "word" ∧ ("decimal" : Str) ≠ "address" ∧ ("bad" : Str) ≠ "address" ∧ ("bad" : Str) ≠ "decimal" := by decide +kernel
/-- what a kind tells -/
theorem kind_inv (t : List Nat) : (kindOf t = "decimal" ∧ okD t) ∨ (kindOf t = "address" ∧ okA t) ∨ kindOf t = "word" ∨ (kindOf t = "sign" ∧ sgnC (t.headD 0) = true) ∨ kindOf t = "bad" := by
  unfold kindOf
  split
  · rename_i h
    exact .inl ⟨rfl, h.2⟩
  · split
    · rename_i h
      exact .inr (.inl ⟨rfl, h.2⟩)
    · split
      · exact .inr (.inr (.inl rfl))
      · split
        · rename_i h
          exact .inr (.inr (.inr (.inl ⟨rfl, h⟩)))
        · exact .inr (.inr (.inr (.inr rfl)))
theorem sign_head {t : List Nat} (h : kindOf t = "sign") : sgnC (t.headD 0) = true := by
  obtain ⟨k1, k2, k3, k4, _⟩ := kind_names
  rcases kind_inv t with ⟨e, _⟩ | ⟨e, _⟩ | e | ⟨_, e⟩ | e
  · exact absurd (e.symm.trans h) k1
  · exact absurd (e.symm.trans h) k2
  · exact absurd (e.symm.trans h) k3
  · exact e
  · exact absurd (e.symm.trans h) k4
theorem tokLen_sg {c : Nat} {r : List Nat} (h : sgnC c = true) : tokLen (c :: r) = 1 := by
  have all : ∀ c ∈ ([43, 45, 42, 47, 40, 41, 44, 58] : List Nat), dig c = false ∧ cap c = false ∧ sml c = false := by decide
  obtain ⟨h1, h2, h3⟩ := all c (of_decide_eq_true h)
  unfold tokLen
  simp [h1, h2, h3]
theorem toks_in : ∀ (n : Nat) (a : List Nat), a.length ≤ n → ∀ e ∈ toks a, e.1 = kindOf e.2 ∧ e.2.length ≤ n ∧ (kindOf e.2 = "sign" → ∃ c, e.2 = [c])
  | n, [], _, e, he => by
    rw [toks_nil] at he
    cases he
  | 0, _ :: _, z, _, _ => absurd z (by simp)
  | n + 1, c :: r, z, e, he => by
    have lp := tokLen_pos c r
    have ld : ((c :: r).drop (tokLen (c :: r))).length ≤ n := by
      rw [List.length_drop]
      omega
    have ih := toks_in n _ ld
    rw [toks_cons] at he
    split at he
    · obtain ⟨h1, h2, h3⟩ := ih e he
      exact ⟨h1, by omega, h3⟩
    · rcases List.mem_cons.mp he with rfl | he
      · refine ⟨rfl, by show ((c :: r).take (tokLen (c :: r))).length ≤ n + 1; rw [List.length_take]; omega, fun h => ?_⟩
        have hs := sign_head h
        have hh : ((c :: r).take (tokLen (c :: r))).headD 0 = c := by
          obtain ⟨k, hk⟩ : ∃ k, tokLen (c :: r) = k + 1 := ⟨tokLen (c :: r) - 1, by omega⟩
          rw [hk]
          rfl
        rw [hh] at hs
        refine ⟨c, ?_⟩
        show (c :: r).take (tokLen (c :: r)) = [c]
        rw [tokLen_sg hs]
        rfl
      · obtain ⟨h1, h2, h3⟩ := ih e he
        exact ⟨h1, by omega, h3⟩
theorem toks_dU (a : List Nat) : toks a = dU ((toks a).map Prod.snd) := by
  unfold dU
  rw [List.map_map]
  have h := toks_in a.length a (Nat.le_refl _)
  generalize toks a = l at h
  induction l with
  | nil => rfl
  | cons e l ih =>
    rw [List.map_cons, ← ih fun x hx => h x (List.mem_cons_of_mem _ hx)]
    congr 1
    exact Prod.ext (h e List.mem_cons_self).1 rfl
/-- a text of which the grammar knows something -/
theorem ty_of {u : List Nat} {y : Str} (hl : u.length ≤ 2500) (hs : kindOf u = "sign" → ∃ c, u = [c]) (hy : symU u = some y) (nb : y ≠ "bad") : ∃ x, TY u x ∧ symT x = y ∧ x ≠ .bad := by
  obtain ⟨k1, k2, k3, k4, k5, k6, k7, _⟩ := kind_names
  unfold symU at hy
  rcases kind_inv u with ⟨e, o⟩ | ⟨e, o⟩ | e | ⟨e, o⟩ | e
  · rw [if_neg (by rw [e]; exact k1), if_pos (by rw [e]; exact k5), e] at hy
    cases hy
    exact ⟨.dec _ _, ⟨e, hl, o, (low_of (n := numD u) (d := denD u) (denD_ne u)).lw⟩, rfl, fun z => nomatch z⟩
  · rw [if_neg (by rw [e]; exact k2), if_pos (by rw [e]; exact k6), e] at hy
    cases hy
    exact ⟨.cel (rowA u) (colA u), ⟨e, hl, o, rfl, rfl⟩, rfl, fun z => nomatch z⟩
  · rw [if_neg (by rw [e]; exact k3), if_neg (fun z => z e)] at hy
    by_cases c3 : S u = "gone"
    · rw [if_pos c3] at hy
      cases hy
      exact ⟨.gone, ⟨e, hl, c3⟩, rfl, fun z => nomatch z⟩
    rw [if_neg c3] at hy
    by_cases c4 : S u ∈ callsL
    · rw [if_pos c4] at hy
      cases hy
      exact ⟨.fn (S u), ⟨e, hl, rfl, c4⟩, rfl, fun z => nomatch z⟩
    rw [if_neg c4] at hy
    by_cases c5 : IsW u
    · rw [if_pos c5] at hy
      cases hy
      exact ⟨.name ⟨S u, strOk_sml c5.all⟩, ⟨e, hl, rfl, c5⟩, rfl, fun z => nomatch z⟩
    · rw [if_neg c5] at hy
      cases hy
  · rw [if_pos e] at hy
    obtain ⟨c, rfl⟩ := hs e
    cases hy
    exact ⟨.sg c, ⟨e, hl, rfl, o⟩, rfl, fun z => nomatch z⟩
  · rw [if_neg (by rw [e]; exact k4), if_pos (by rw [e]; exact k7), e] at hy
    cases hy
    exact absurd rfl nb
theorem stepT_bad (s : Str) : stepT s "bad" = none := by
  unfold stepT
  have all : ∀ e ∈ rowsT, e.2.1 ≠ "bad" := by decide +kernel
  rw [List.find?_eq_none.mpr fun e he z => all e he (of_decide_eq_true z).2]
  rfl
theorem walkF_le : ∀ (ys : List (Option Str)) (s : Str) (d : Int) (i : Nat), (walkF s d ys i).1 ≤ i + ys.length
  | [], s, d, i => Nat.le_refl _
  | y :: r, s, d, i => by
    show (match stepO s y with
      | some s1 => if 0 ≤ dpO s y d ∧ dpO s y d ≤ 6 then walkF s1 (dpO s y d) r (i + 1) else (i, false)
      | none => (i, false)).1 ≤ i + (r.length + 1)
    cases stepO s y with
    | none => exact Nat.le_add_right _ _
    | some s1 =>
      by_cases c : 0 ≤ dpO s y d ∧ dpO s y d ≤ 6
      · have := walkF_le r s1 (dpO s y d) (i + 1)
        show (if 0 ≤ dpO s y d ∧ dpO s y d ≤ 6 then walkF s1 (dpO s y d) r (i + 1) else (i, false)).1 ≤ _
        rw [if_pos c]
        omega
      · show (if 0 ≤ dpO s y d ∧ dpO s y d ≤ 6 then walkF s1 (dpO s y d) r (i + 1) else (i, false)).1 ≤ _
        rw [if_neg c]
        exact Nat.le_add_right _ _
/-- what is walked whole is a row of tokens -/
theorem walk_whole : ∀ (us : List (List Nat)) (s : Str) (d : Int) (i : Nat), (∀ u ∈ us, u.length ≤ 2500 ∧ (kindOf u = "sign" → ∃ c, u = [c])) → walkF s d (us.map symU) i = (i + us.length, true) → ∃ xs, TYs us xs ∧ Wk s d xs "behind" 0 ∧ ∀ x ∈ xs, x ≠ .bad
  | [], s, d, i, _, h => by
    have h2 : (decide (s = "behind") && decide (d = 0)) = true := congrArg Prod.snd h
    rw [Bool.and_eq_true] at h2
    have e1 := of_decide_eq_true h2.1
    have e2 := of_decide_eq_true h2.2
    subst e1 e2
    exact ⟨[], .nil, .nil, fun _ z => nomatch z⟩
  | u :: us, s, d, i, hu, h => by
    have h : (match stepO s (symU u) with
      | some s1 => if 0 ≤ dpO s (symU u) d ∧ dpO s (symU u) d ≤ 6 then walkF s1 (dpO s (symU u) d) (us.map symU) (i + 1) else (i, false)
      | none => (i, false)) = (i + (us.length + 1), true) := h
    cases hy : symU u with
    | none =>
      rw [hy] at h
      cases congrArg Prod.snd h
    | some y =>
      rw [hy] at h
      have h : (match stepT s y with
        | some s1 => if 0 ≤ dpB s y d ∧ dpB s y d ≤ 6 then walkF s1 (dpB s y d) (us.map symU) (i + 1) else (i, false)
        | none => (i, false)) = (i + (us.length + 1), true) := h
      cases hst : stepT s y with
      | none =>
        rw [hst] at h
        cases congrArg Prod.snd h
      | some s1 =>
        rw [hst] at h
        have h : (if 0 ≤ dpB s y d ∧ dpB s y d ≤ 6 then walkF s1 (dpB s y d) (us.map symU) (i + 1) else (i, false)) = (i + (us.length + 1), true) := h
        by_cases c : 0 ≤ dpB s y d ∧ dpB s y d ≤ 6
        · rw [if_pos c] at h
          obtain ⟨x, tx, ex, nx⟩ := ty_of (hu u List.mem_cons_self).1 (hu u List.mem_cons_self).2 hy fun z => by
            rw [z, stepT_bad] at hst
            cases hst
          obtain ⟨xs, t1, t2, t3⟩ := walk_whole us s1 (dpB s y d) (i + 1) (fun v hv => hu v (List.mem_cons_of_mem _ hv)) (by rw [h]; congr 1; omega)
          subst ex
          refine ⟨x :: xs, .cons tx t1, .cons hst c.1 c.2 t2, fun z hz => ?_⟩
          rcases List.mem_cons.mp hz with rfl | h2
          · exact nx
          · exact t3 z h2
        · rw [if_neg c] at h
          cases congrArg Prod.snd h
end
end My
namespace My
open PySem PySem.Spec PyProof.Rows L2 RZ
section
variable {P : Program} {w : World} {K : PySem.W.Frag} {mg : Str → Option Value} {base : Heap}
open L2H
open SX (S S_len S_cat slice_to slice_from num_S int_S)
open PySem.NumText (digitsVal AllDigits)
open TL (numL)
theorem Ars.snoc {H : Hp} {vs : List V} {as : List Ar} {v : V} {a : Ar} (h : Ars H vs as) (ha : ArAt H v a) : Ars H (vs ++ [v]) (as ++ [a]) := Ars.app (.cons ha .nil) h
def spBlock (K : PySem.W.Frag) : Sp := fun vs H Q _ => ∃ (p1 p2 : Addr) (a b c d : Int), vs = [.ref p1, .ref p2] ∧ H p1 = some (.tup [.int a, .int b]) ∧ H p2 = some (.tup [.int c, .int d]) ∧ ∀ p H', Same H H' → H' p = some (.tup [.str "block", .int (min a c), .int (min b d), .int (max a c), .int (max b d)]) → Q (.ref p) H'
theorem okBlock (T : Txt P w K mg) : FnOk P w K mg base CX0 1 T.fBlock T.fdBlock ["corner", "other"] (spBlock K) := by
  refine T.FBlock.ok scBlock (fun vs H Q E h => ?_) (fun cdv A outer s H vs Q E hr h => ?_)
  · obtain ⟨p1, p2, a, b, c, d, rfl, _⟩ := h
    rfl
  · obtain ⟨p1, p2, a, b, c, d, rfl, h1, h2, q⟩ := h
    -- slots corner=0 other=1 top=2 left=3 bottom=4 right=5
    refine ⟨_, (pss_cons (ps_set (i := 2) scBlock.nd rfl (Or.inl rfl) (pe_callB (call_min2 rfl) (by rfl) T.z_min (by decide +kernel) (pa_cons (pe_ix ix_tup (pv 0) pe_int (fun _ _ => rfl)) (pa_cons (pe_ix ix_tup (pv 1) pe_int (fun _ _ => rfl)) pa_nil))))
        (pss_cons (ps_set (i := 3) scBlock.nd rfl (Or.inl rfl) (pe_callB (call_min2 rfl) (by rfl) T.z_min (by decide +kernel) (pa_cons (pe_ix ix_tup (pv 0) pe_int (fun _ _ => rfl)) (pa_cons (pe_ix ix_tup (pv 1) pe_int (fun _ _ => rfl)) pa_nil))))
        (pss_cons (ps_set (i := 4) scBlock.nd rfl (Or.inl rfl) (pe_callB (call_max2 rfl) (by rfl) T.z_max (by decide +kernel) (pa_cons (pe_ix ix_tup (pv 0) pe_int (fun _ _ => rfl)) (pa_cons (pe_ix ix_tup (pv 1) pe_int (fun _ _ => rfl)) pa_nil))))
        (pss_cons (ps_set (i := 5) scBlock.nd rfl (Or.inl rfl) (pe_callB (call_max2 rfl) (by rfl) T.z_max (by decide +kernel) (pa_cons (pe_ix ix_tup (pv 0) pe_int (fun _ _ => rfl)) (pa_cons (pe_ix ix_tup (pv 1) pe_int (fun _ _ => rfl)) pa_nil))))
        (pss_one (ps_ret (pe_tup (pa_cons pe_str (pa_cons (pv 2) (pa_cons (pv 3) (pa_cons (pv 4) (pa_cons (pv 5) pa_nil)))))))))))), ?_⟩
    have m1 : ∀ x y : Int, min x y = if y < x then y else x := fun x y => by
      rw [Int.min_def]
      split <;> split <;> omega
    have m2 : ∀ x y : Int, max x y = if y > x then y else x := fun x y => by
      rw [Int.max_def]
      split <;> split <;> omega
    rw [m1, m1, m2, m2] at q
    refine ⟨_, rfl, _, _, _, _, rfl, rfl, SqT.of h1, atI_nat (j := 0) rfl, _, rfl, _, _, _, _, rfl, rfl, SqT.of h2, atI_nat (j := 0) rfl, _, _, rfl, _, rfl, _, _, _, _, rfl, rfl, SqT.of h1, atI_nat (j := 1) rfl, _, rfl, _, _, _, _, rfl, rfl, SqT.of h2, atI_nat (j := 1) rfl, _, _, rfl, _, rfl, _, _, _, _, rfl, rfl, SqT.of h1, atI_nat (j := 0) rfl, _, rfl, _, _, _, _, rfl, rfl, SqT.of h2, atI_nat (j := 0) rfl, _, _, rfl, _, rfl, _, _, _, _, rfl, rfl, SqT.of h1, atI_nat (j := 1) rfl, _, rfl, _, _, _, _, rfl, rfl, SqT.of h2, atI_nat (j := 1) rfl, _, _, rfl, _, rfl, _, rfl, _, rfl, _, rfl, (by show 5 ≤ sizeLine; decide), fun p hp => ?_⟩
    exact q p _ (same_new hp) upd_same
/-! ### what is read -/
structure TLs (H : Hp) (d : Addr) (rs : List V) (us : List (List Nat)) (xs : List Tk) : Prop where
  hd : H d = some (.lst rs)
  R : Rep H rs (dU us)
  tx : TYs us xs
  nb : ∀ x ∈ xs, x ≠ .bad
  len : xs.length ≤ 30
theorem TLs.same {H H' : Hp} {d : Addr} {rs : List V} {us : List (List Nat)} {xs : List Tk} (s : Same H H') (h : TLs H d rs us xs) : TLs H' d rs us xs := ⟨s _ _ h.hd, h.R.mono (TK.of s), h.tx, h.nb, h.len⟩
theorem drop_cons {α : Type} {xs : List α} {i : Nat} {x : α} {r : List α} (h : xs.drop i = x :: r) : xs[i]? = some x ∧ xs.drop (i + 1) = r := by
  have h1 : (xs.drop i)[0]? = some x := by rw [h]; rfl
  rw [List.getElem?_drop] at h1
  refine ⟨h1, ?_⟩
  have h2 : (xs.drop i).drop 1 = r := by rw [h]; rfl
  rw [List.drop_drop] at h2
  exact h2
theorem TLs.at_ {H : Hp} {d : Addr} {rs : List V} {us : List (List Nat)} {xs : List Tk} (h : TLs H d rs us xs) {i : Nat} {x : Tk} (e : xs[i]? = some x) : ∃ q u, rs[i]? = some (.ref q) ∧ H q = some (.tup [.str (kdT x), .str (S u)]) ∧ TY u x := by
  obtain ⟨u, hu, tx⟩ := h.tx.at_ i x e
  have hD : (dU us)[i]? = some (kindOf u, u) := by
    unfold dU
    rw [List.getElem?_map, hu]
    rfl
  have hl : i < rs.length := by
    rw [h.R.len]
    exact (List.getElem?_eq_some_iff.mp hD).1
  obtain ⟨v, hv⟩ : ∃ v, rs[i]? = some v := ⟨_, List.getElem?_eq_getElem hl⟩
  obtain ⟨q, rfl, hq⟩ := h.R.at_ i v _ _ hv hD
  rw [tx.kd] at hq
  exact ⟨q, u, hv, hq, tx⟩
theorem S_inj {a b : List Nat} (h : S a = S b) : a = b := congrArg (fun s : Str => s.cps.toList) h
theorem kd_words : ("decimal" : Str) ≠ "sign" ∧ ("address" : Str) ≠ "sign" ∧ ("word" : Str) ≠ "sign" ∧ ("bad" : Str) ≠ "sign" := by decide +kernel
theorem nsg {u : List Nat} {x : Tk} {c : Nat} (h : TY u x) (hc : sgnC c = true) (n : x ≠ .sg c) : S u ≠ S [c] := fun e => by
  obtain rfl := S_inj e
  have k : kindOf [c] = "sign" := (tx_sig hc).kd
  have k2 := h.kd
  rw [k] at k2
  cases x with
  | sg d =>
    obtain ⟨e2, _⟩ := h.val
    cases e2
    exact n rfl
  | dec _ _ => exact kd_words.1 k2.symm
  | cel _ _ => exact kd_words.2.1 k2.symm
  | gone => exact kd_words.2.2.1 k2.symm
  | fn _ => exact kd_words.2.2.1 k2.symm
  | name _ => exact kd_words.2.2.1 k2.symm
  | bad => exact kd_words.2.2.2 k2.symm
theorem sgS {u : List Nat} {c : Nat} (h : TY u (.sg c)) : S u = S [c] := by
  obtain ⟨e, _⟩ := h.val
  rw [e]
theorem ngone {u : List Nat} {x : Tk} (h : TY u x) (n : x ≠ .gone) : S u ≠ "gone" := fun e => by
  have e2 : u = goneL := S_inj (e.trans gone_S)
  have k : kindOf goneL = "word" := tx_gone.kd
  have k2 := h.kd
  rw [e2, k] at k2
  have w : ("word" : Str) ≠ "sign" ∧ ("word" : Str) ≠ "decimal" ∧ ("word" : Str) ≠ "address" ∧ ("word" : Str) ≠ "bad" := by decide +kernel
  cases x with
  | sg d => exact w.1 k2
  | dec _ _ => exact w.2.1 k2
  | cel _ _ => exact w.2.2.1 k2
  | bad => exact w.2.2.2 k2
  | gone => exact n rfl
  | fn m =>
    obtain ⟨e3, hn⟩ := h.val
    have ng : ∀ n ∈ callsL, n ≠ "gone" := by decide +kernel
    exact ng m hn (e3.symm.trans e)
  | name w =>
    obtain ⟨e3, iw⟩ := h.val
    exact iw.no (by rw [e]; decide +kernel)
theorem cS : (":" : Str) = S [58] ∧ (")" : Str) = S [41] ∧ ("(" : Str) = S [40] ∧ ("-" : Str) = S [45] ∧ ("+" : Str) = S [43] ∧ ("*" : Str) = S [42] ∧ ("/" : Str) = S [47] := by decide +kernel
def spArea9 (K : PySem.W.Frag) : Sp := fun vs H Q _ => ∃ (d : Addr) (rs : List V) (us : List (List Nat)) (xs : List Tk) (i : Nat) (a : Ar) (r : List Tk), vs = [.ref d, .int (i : Int)] ∧ TLs H d rs us xs ∧ PA (xs.drop i) a r ∧ ∀ (p : Addr) (v : V) (j : Nat) (H' : Hp), Same H H' → H' p = some (.tup [v, .int (j : Int)]) → ArAt H' v a → xs.drop j = r → Q (.ref p) H'
theorem okArea (T : Txt P w K mg) : FnOk P w K mg base CX0 3 T.fArea T.fdArea ["tokens", "at"] (spArea9 K) := by
  refine T.FArea.ok scArea (fun vs H Q E h => ?_) (fun cdv A outer s H vs Q E hr h => ?_)
  · obtain ⟨d, rs, us, xs, i, a, r, rfl, _⟩ := h
    rfl
  · obtain ⟨d, rs, us, xs, i, a, r, rfl, L, pa, q⟩ := h
    -- slots tokens=0 at=1 kind=2 string=3
    refine ⟨_, (pss_cons (ps_asg (pe_ix ix_list (pv 0) (pv 1) (fun _ _ => rfl)) (pg_tup rfl (pgs_cons (pg_name (i := 2) scArea.nd rfl (Or.inl rfl)) (pgs_cons (pg_name (i := 3) scArea.nd rfl (Or.inl rfl)) pgs_nil))))
        (pss_cons (ps_if (pt_cmpR op_eq (pv 3) (pe_glob (v := (.str "gone")) rfl T.g_GONE ⟨_, rfl⟩) (nomark _))
          (pss_one (ps_ret (pe_tup (pa_cons (pe_tup (pa_cons (pe_glob (v := (.str "gone")) rfl T.g_GONE ⟨_, rfl⟩) pa_nil)) (pa_cons (pe_op op_add (pv 1) pe_int) pa_nil)))))
          pss_nil)
        (pss_cons (ps_if (pt_cmpR op_eq (pv 2) pe_str (nomark _))
          (pss_one (ps_ret (pe_tup (pa_cons (pe_tup (pa_cons pe_str (pa_cons (pv 3) pa_nil))) (pa_cons (pe_op op_add (pv 1) pe_int) pa_nil)))))
          pss_nil)
        (pss_cons (ps_if (pt_cmpR op_eq (pe_ix ix_tup (pe_ix ix_list (pv 0) (pe_op op_add (pv 1) pe_int) (fun _ _ => rfl)) pe_int (fun _ _ => rfl)) pe_str (nomark _))
          (pss_one (ps_ret (pe_tup (pa_cons (pe_call (okBlock T) (hr.mono (by decide)) (by rfl) T.gBlock T.FBlock.kp T.bBlock .nil pass0 (pa_cons (pe_call (okReadAddress T) (hr.mono (by decide)) (by rfl) T.gReadAddress T.FReadAddress.kp T.bReadAddress .nil pass0 (pa_cons (pv 3) pa_nil)) (pa_cons (pe_call (okReadAddress T) (hr.mono (by decide)) (by rfl) T.gReadAddress T.FReadAddress.kp T.bReadAddress .nil pass0 (pa_cons (pe_ix ix_tup (pe_ix ix_list (pv 0) (pe_op op_add (pv 1) pe_int) (fun _ _ => rfl)) pe_int (fun _ _ => rfl)) pa_nil)) pa_nil))) (pa_cons (pe_op op_add (pv 1) pe_int) pa_nil)))))
          pss_nil)
        (pss_one (ps_ret (pe_tup (pa_cons (pe_call (okBlock T) (hr.mono (by decide)) (by rfl) T.gBlock T.FBlock.kp T.bBlock .nil pass0 (pa_cons (pe_call (okReadAddress T) (hr.mono (by decide)) (by rfl) T.gReadAddress T.FReadAddress.kp T.bReadAddress .nil pass0 (pa_cons (pv 3) pa_nil)) (pa_cons (pe_call (okReadAddress T) (hr.mono (by decide)) (by rfl) T.gReadAddress T.FReadAddress.kp T.bReadAddress .nil pass0 (pa_cons (pv 3) pa_nil)) pa_nil))) (pa_cons (pe_op op_add (pv 1) pe_int) pa_nil))))))))), ?_⟩
    have k1 : ("address" : Str) ≠ "word" := by decide +kernel
    generalize hcur : xs.drop i = cur at pa
    cases pa with
    | gone =>
      obtain ⟨e1, e2⟩ := drop_cons hcur
      obtain ⟨q0, u, e3, hq, tx⟩ := L.at_ e1
      refine ⟨_, rfl, _, rfl, d, _, _, _, rfl, rfl, SqL.of L.hd, atI_nat e3, q0, _, rfl, SqT.of hq, rfl, _, _, rfl, _, _, rfl, rfl, _, rfl, rfl, _, rfl, ?_⟩
      have e : S u = "gone" := tx.val
      rw [e]
      refine ifY ⟨(by show 1 ≤ sizeLine; decide), fun p hp => ⟨_, rfl, _, _, rfl, rfl, (by show 2 ≤ sizeLine; decide), fun p2 hp2 => ?_⟩⟩
      have s1 := same_new (o := .tup [.str "gone"]) hp
      have s2 := same_new (o := .tup [.ref p, .int ((i : Int) + 1)]) hp2
      exact q p2 _ (i + 1) _ (s1.trans s2) upd_same ⟨p, rfl, s2 _ _ upd_same⟩ e2
    | name =>
      rename_i w
      obtain ⟨e1, e2⟩ := drop_cons hcur
      obtain ⟨q0, u, e3, hq, tx⟩ := L.at_ e1
      refine ⟨_, rfl, _, rfl, d, _, _, _, rfl, rfl, SqL.of L.hd, atI_nat e3, q0, _, rfl, SqT.of hq, rfl, _, _, rfl, _, _, rfl, rfl, _, rfl, rfl, _, rfl, ifN (ngone tx (fun z => by cases z)) ?_⟩
      refine ⟨_, rfl, rfl, _, rfl, ifY ⟨_, rfl, (by show 2 ≤ sizeLine; decide), fun p hp => ⟨_, rfl, _, _, rfl, rfl, (by show 2 ≤ sizeLine; decide), fun p2 hp2 => ?_⟩⟩⟩
      have s1 := same_new (o := .tup [.str "name", .str (S u)]) hp
      have s2 := same_new (o := .tup [.ref p, .int ((i : Int) + 1)]) hp2
      have e4 : S u = w.1 := tx.val.1
      exact q p2 _ (i + 1) _ (s1.trans s2) upd_same ⟨p, rfl, by rw [← e4]; exact s2 _ _ upd_same⟩ e2
    | two =>
      rename_i a b c f
      obtain ⟨e1, e2⟩ := drop_cons hcur
      obtain ⟨f1, f2⟩ := drop_cons e2
      obtain ⟨g1, g2⟩ := drop_cons f2
      obtain ⟨q0, u, e3, hq, tx⟩ := L.at_ e1
      obtain ⟨q1, u1, f3, hq1, tx1⟩ := L.at_ f1
      obtain ⟨q2, u2, g3, hq2, tx2⟩ := L.at_ g1
      refine ⟨_, rfl, _, rfl, d, _, _, _, rfl, rfl, SqL.of L.hd, atI_nat e3, q0, _, rfl, SqT.of hq, rfl, _, _, rfl, _, _, rfl, rfl, _, rfl, rfl, _, rfl, ifN (ngone tx (fun z => by cases z)) ?_⟩
      refine ⟨_, rfl, rfl, _, rfl, ifN k1 ?_⟩
      refine ⟨_, rfl, _, rfl, _, _, rfl, rfl, d, _, _, _, rfl, rfl, SqL.of L.hd, atI_nat (j := i + 1) f3, q1, _, _, _, rfl, rfl, SqT.of hq1, atI_nat (j := 1) rfl, rfl, _, rfl, ?_⟩
      rw [sgS tx1, ← cS.1]
      obtain ⟨o, r1, r2⟩ := tx.val
      obtain ⟨o2, r3, r4⟩ := tx2.val
      refine ifY ⟨_, rfl, u, rfl, tx.le, fun z => absurd o z, fun _ p1 H1 s1 h1 => ?_⟩
      refine ⟨_, rfl, _, rfl, _, _, rfl, rfl, d, _, _, _, rfl, rfl, SqL.of (s1 _ _ L.hd), atI_nat (j := i + 2) g3, q2, _, _, _, rfl, rfl, SqT.of (s1 _ _ hq2), atI_nat (j := 1) rfl, u2, rfl, tx2.le, fun z => absurd o2 z, fun _ p2 H2 s2 h2 => ?_⟩
      refine ⟨p1, p2, _, _, _, _, rfl, s2 _ _ h1, h2, fun p3 H3 s3 h3 => ⟨_, rfl, _, _, rfl, rfl, (by show 2 ≤ sizeLine; decide), fun p4 hp4 => ?_⟩⟩
      rw [r1, r2, r3, r4] at h3
      have s4 := same_new (o := .tup [.ref p3, .int ((i : Int) + 3)]) hp4
      exact q p4 _ (i + 3) _ (((s1.trans s2).trans s3).trans s4) upd_same ⟨p3, rfl, s4 _ _ h3⟩ g2
    | one hx =>
      rename_i a b x r
      obtain ⟨e1, e2⟩ := drop_cons hcur
      obtain ⟨f1, f2⟩ := drop_cons e2
      obtain ⟨q0, u, e3, hq, tx⟩ := L.at_ e1
      obtain ⟨q1, u1, f3, hq1, tx1⟩ := L.at_ f1
      refine ⟨_, rfl, _, rfl, d, _, _, _, rfl, rfl, SqL.of L.hd, atI_nat e3, q0, _, rfl, SqT.of hq, rfl, _, _, rfl, _, _, rfl, rfl, _, rfl, rfl, _, rfl, ifN (ngone tx (fun z => by cases z)) ?_⟩
      refine ⟨_, rfl, rfl, _, rfl, ifN k1 ?_⟩
      refine ⟨_, rfl, _, rfl, _, _, rfl, rfl, d, _, _, _, rfl, rfl, SqL.of L.hd, atI_nat (j := i + 1) f3, q1, _, _, _, rfl, rfl, SqT.of hq1, atI_nat (j := 1) rfl, rfl, _, rfl, ?_⟩
      have ns := nsg tx1 (c := 58) (by decide) hx
      rw [← cS.1] at ns
      obtain ⟨o, r1, r2⟩ := tx.val
      refine ifN ns ⟨_, rfl, u, rfl, tx.le, fun z => absurd o z, fun _ p1 H1 s1 h1 => ?_⟩
      refine ⟨_, rfl, u, rfl, tx.le, fun z => absurd o z, fun _ p2 H2 s2 h2 => ?_⟩
      refine ⟨p1, p2, _, _, _, _, rfl, s2 _ _ h1, h2, fun p3 H3 s3 h3 => ⟨_, rfl, _, _, rfl, rfl, (by show 2 ≤ sizeLine; decide), fun p4 hp4 => ?_⟩⟩
      rw [r1, r2, Int.min_self, Int.min_self, Int.max_self, Int.max_self] at h3
      have s4 := same_new (o := .tup [.ref p3, .int ((i : Int) + 1)]) hp4
      exact q p4 _ (i + 1) _ (((s1.trans s2).trans s3).trans s4) upd_same ⟨p3, rfl, s4 _ _ h3⟩ e2
theorem PA.len {ts r : List Tk} {a : Ar} (h : PA ts a r) : r.length ≤ ts.length := by
  cases h with
  | gone => exact Nat.le_succ _
  | name => exact Nat.le_succ _
  | two => exact Nat.le_add_right _ 3
  | one _ => exact Nat.le_succ _
theorem PAs.len : ∀ {ts r : List Tk} {as : List Ar}, PAs ts as r → as.length ≤ ts.length
  | _, _, _, .stop => Nat.zero_le _
  | _, _, _, .step _ a as => by
    have h1 := a.len
    have h2 := as.len
    rw [List.length_cons, List.length_cons]
    omega
def spCall9 (K : PySem.W.Frag) : Sp := fun vs H Q _ => ∃ (d : Addr) (rs : List V) (us : List (List Nat)) (xs : List Tk) (i : Nat) (w : Str) (ts : List Tk) (as : List Ar) (r : List Tk), vs = [.ref d, .int (i : Int)] ∧ TLs H d rs us xs ∧ xs.drop i = .fn w :: ts ∧ PAs ts as r ∧ ∀ (p : Addr) (v : V) (j : Nat) (H' : Hp), Same H H' → H' p = some (.tup [v, .int (j : Int)]) → TrAt H' v (.call w as) → xs.drop j = r → Q (.ref p) H'
theorem okCall (T : Txt P w K mg) : FnOk P w K mg base CX0 4 T.fCall T.fdCall ["tokens", "at"] (spCall9 K) := by
  refine T.FCall.ok scCall (fun vs H Q E h => ?_) (fun cdv A outer s H vs Q E hr h => ?_)
  · obtain ⟨d, rs, us, xs, i, w, ts, as, r, rfl, _⟩ := h
    rfl
  · obtain ⟨d, rs, us, xs, i, w, ts, as, r, rfl, L, hcur, pas, q⟩ := h
    -- slots tokens=0 at=1 areas=2 end=3 area=4
    refine ⟨_, (pss_cons (ps_set (i := 2) scCall.nd rfl (Or.inl rfl) (pe_lst pa_nil))
        (pss_cons (ps_set (i := 3) scCall.nd rfl (Or.inl rfl) (pe_op op_add (pv 1) pe_int))
        (pss_cons (ps_while PassesOwn.never (pt_cmpR op_ne (pe_ix ix_tup (pe_ix ix_list (pv 0) (pv 3) (fun _ _ => rfl)) pe_int (fun _ _ => rfl)) pe_str (nomark _))
          (pss_cons (ps_asg (pe_call (okArea T) (hr.mono (by decide)) (by rfl) T.gArea T.FArea.kp T.bArea .nil pass0 (pa_cons (pv 0) (pa_cons (pe_op op_add (pv 3) pe_int) pa_nil))) (pg_tup rfl (pgs_cons (pg_name (i := 4) scCall.nd rfl (Or.inl rfl)) (pgs_cons (pg_name (i := 3) scCall.nd rfl (Or.inl rfl)) pgs_nil))))
          (pss_one (ps_expr (pe_bm PySem.F.plainAttrs_list PySem.F.slot_list_append PySem.F.type_list_append mt_append (pv 2) (pa_cons (pv 4) pa_nil))))))
        (pss_one (ps_ret (pe_tup (pa_cons (pe_tup (pa_cons pe_str (pa_cons (pe_ix ix_tup (pe_ix ix_list (pv 0) (pv 1) (fun _ _ => rfl)) pe_int (fun _ _ => rfl)) (pa_cons (pe_callTy call_tuple_of (by rfl) T.z_tuple (by decide +kernel) (pa_cons (pv 2) pa_nil)) pa_nil)))) (pa_cons (pe_op op_add (pv 3) pe_int) pa_nil)))))))), ?_⟩
    obtain ⟨e1, e2⟩ := drop_cons hcur
    obtain ⟨q0, u, e3, hq, tx⟩ := L.at_ e1
    have lenA : as.length ≤ 30 := by
      have h1 := pas.len
      have h2 := L.len
      have h3 : ts.length ≤ xs.length := by
        rw [← e2, List.length_drop]
        omega
      omega
    refine ⟨Nat.zero_le _, fun ad had => ?_⟩
    have s0 := same_new (o := .lst []) had
    refine ⟨_, rfl, _, _, rfl, rfl, ?_⟩
    refine ⟨fun m σ H' => ∃ (j : Nat) (vs : List V) (dn rest : List Ar) (c4 : Option V), σ = [some (.ref d), some (.int (i : Int)), some (.ref ad), some (.int (j : Int)), c4] ∧ PAs (xs.drop j) rest r ∧ dn ++ rest = as ∧ Same H H' ∧ H' ad = some (.lst vs) ∧ Ars H' vs dn ∧ m = rest.length, ⟨_, i + 1, [], [], as, none, rfl, by rw [e2]; exact pas, rfl, s0, upd_same, .nil, rfl⟩, ?_⟩
    rintro m σ H1 ⟨j, vs, dn, rest, c4, rfl, pa, ea, s1, h1, ar, rfl⟩
    have L1 := L.same s1
    generalize hj : xs.drop j = cj at pa
    cases pa with
    | stop =>
      obtain ⟨f1, f2⟩ := drop_cons hj
      obtain ⟨q1, u1, f3, hq1, tx1⟩ := L1.at_ f1
      refine ⟨_, rfl, _, rfl, d, _, _, _, rfl, rfl, SqL.of L1.hd, atI_nat f3, q1, _, _, _, rfl, rfl, SqT.of hq1, atI_nat (j := 1) rfl, rfl, _, rfl, ?_⟩
      rw [sgS tx1, ← cS.2.1, decide_eq_true rfl]
      refine iteF ?_
      rw [List.append_nil] at ea
      subst ea
      refine ⟨_, rfl, _, rfl, d, _, _, _, rfl, rfl, SqL.of L1.hd, atI_nat e3, q0, _, _, _, rfl, rfl, SqT.of (s1 _ _ hq), atI_nat (j := 1) rfl, _, rfl, ad, _, rfl, .inl ⟨SqL.of h1, fun p hp => ⟨(by show 3 ≤ sizeLine; decide), fun p2 hp2 => ⟨_, rfl, _, _, rfl, rfl, (by show 2 ≤ sizeLine; decide), fun p3 hp3 => ?_⟩⟩⟩⟩
      have s2 := same_new (o := .tup vs) hp
      have s3 := same_new (o := .tup [.str "call", .str (S u), .ref p]) hp2
      have s4 := same_new (o := .tup [.ref p2, .int ((j : Int) + 1)]) hp3
      have e4 : S u = w := tx.val.1
      exact q p3 _ (j + 1) _ (((s1.trans s2).trans s3).trans s4) upd_same ⟨p2, p, vs, rfl, by rw [← e4]; exact s4 _ _ upd_same, (s3.trans s4) _ _ upd_same, ar.mono (TK.of ((s2.trans s3).trans s4))⟩ f2
    | @step x ts1 r2 r' a rest2 nx a1 r1 =>
      obtain ⟨f1, f2⟩ := drop_cons hj
      obtain ⟨q1, u1, f3, hq1, tx1⟩ := L1.at_ f1
      have ns := nsg tx1 (c := 41) (by decide) nx
      rw [← cS.2.1] at ns
      refine ⟨_, rfl, _, rfl, d, _, _, _, rfl, rfl, SqL.of L1.hd, atI_nat f3, q1, _, _, _, rfl, rfl, SqT.of hq1, atI_nat (j := 1) rfl, rfl, _, rfl, ?_⟩
      rw [decide_eq_false fun z => ns (V.str.inj z)]
      refine iteT ⟨fun σ' H' => ∃ m', m' < (a :: rest2).length ∧ ∃ (j : Nat) (vs : List V) (dn rest : List Ar) (c4 : Option V), σ' = [some (.ref d), some (.int (i : Int)), some (.ref ad), some (.int (j : Int)), c4] ∧ PAs (xs.drop j) rest r ∧ dn ++ rest = as ∧ Same H H' ∧ H' ad = some (.lst vs) ∧ Ars H' vs dn ∧ m' = rest.length, fun _ _ h => h, ?_⟩
      have hz : vs.length ≤ 30 := by
        rw [ar.len]
        rw [← ea, List.length_append] at lenA
        omega
      refine ⟨_, rfl, _, rfl, _, _, rfl, rfl, d, rs, us, xs, j + 1, a, r2, rfl, L1, by rw [f2]; exact a1, fun p v j2 H2 s2 h2 av hj2 => ?_⟩
      refine ⟨p, _, rfl, SqT.of h2, rfl, _, _, rfl, _, _, rfl, rfl, _, rfl, .inl ⟨rfl, _, SqL.of (s2 _ _ h1)⟩, _, rfl, ad, _, _, rfl, rfl, s2 _ _ h1, small1000 (by omega), ?_⟩
      have k2 := TK.mut (o := .lst (vs ++ [v])) (s2 _ _ h1)
      exact ⟨rest2.length, Nat.lt_succ_self _, j2, vs ++ [v], dn ++ [a], rest2, _, rfl, by rw [hj2]; exact r1, by rw [List.append_assoc]; exact ea, same_mut (s1.trans s2) had, upd_same, ((ar.mono (TK.of s2)).mono k2).snoc (av.mono k2), rfl⟩
end
end My
namespace My
open PySem PySem.Spec PyProof.Rows L2 RZ
section
variable {P : Program} {w : World} {K : PySem.W.Frag} {mg : Str → Option Value} {base : Heap}
open L2H
open SX (S S_len S_cat slice_to slice_from num_S int_S)
open PySem.NumText (digitsVal AllDigits)
open TL (numL)
theorem PT.ne {n : Nat} : ∀ {v : Lv} {ts r : List Tk} {t : Tr}, PT n v ts t r → ∃ x s, ts = x :: s
  | _, _, _, _, .form a _ => a.ne
  | _, _, _, _, .term a _ => a.ne
  | _, _, _, _, .fact _ a => a.ne
  | _, _, _, _, .neg _ => ⟨_, _, rfl⟩
  | _, _, _, _, .dec => ⟨_, _, rfl⟩
  | _, _, _, _, .cel => ⟨_, _, rfl⟩
  | _, _, _, _, .gone => ⟨_, _, rfl⟩
  | _, _, _, _, .par _ => ⟨_, _, rfl⟩
  | _, _, _, _, .call _ => ⟨_, _, rfl⟩
def spLv (v : Lv) (n : Nat) : Sp := fun vs H Q _ => ∃ (d : Addr) (rs : List V) (us : List (List Nat)) (xs : List Tk) (i m : Nat) (t : Tr) (r : List Tk), vs = [.ref d, .int (i : Int)] ∧ TLs H d rs us xs ∧ m < n ∧ PT m v (xs.drop i) t r ∧
  ∀ (p : Addr) (u : V) (j : Nat) (H' : Hp), Same H H' → H' p = some (.tup [u, .int (j : Int)]) → TrAt H' u t → xs.drop j = r → Q (.ref p) H'
theorem okPrimary9 (T : Txt P w K mg) (n : Nat) (IH : FnOk P w K mg base CX0 (6 * n + 8) T.fFormula T.fdFormula ["tokens", "at"] (spLv .form n)) : FnOk P w K mg base CX0 (6 * n + 9) T.fPrimary T.fdPrimary ["tokens", "at"] (spLv .prim (n + 1)) := by
  refine T.FPrimary.ok scPrimary (fun vs H Q E h => ?_) (fun cdv A outer s H vs Q E hr h => ?_)
  · obtain ⟨d, rs, us, xs, i, m, t, r, rfl, _⟩ := h
    rfl
  · obtain ⟨d, rs, us, xs, i, m, t, r, rfl, L, hm, pt, q⟩ := h
    -- slots tokens=0 at=1 kind=2 string=3 row=4 column=5 tree=6 end=7
    refine ⟨_, (pss_cons (ps_asg (pe_ix ix_list (pv 0) (pv 1) (fun _ _ => rfl)) (pg_tup rfl (pgs_cons (pg_name (i := 2) scPrimary.nd rfl (Or.inl rfl)) (pgs_cons (pg_name (i := 3) scPrimary.nd rfl (Or.inl rfl)) pgs_nil))))
        (pss_cons (ps_if (pt_cmpR op_eq (pv 2) pe_str (nomark _))
          (pss_one (ps_ret (pe_tup (pa_cons (pe_tup (pa_cons pe_str (pa_cons (pe_call (okReadDecimal T) (hr.mono (by omega)) (by rfl) T.gReadDecimal T.FReadDecimal.kp T.bReadDecimal .nil pass0 (pa_cons (pv 3) pa_nil)) pa_nil))) (pa_cons (pe_op op_add (pv 1) pe_int) pa_nil)))))
          pss_nil)
        (pss_cons (ps_if (pt_cmpR op_eq (pv 2) pe_str (nomark _))
          (pss_cons (ps_asg (pe_call (okReadAddress T) (hr.mono (by omega)) (by rfl) T.gReadAddress T.FReadAddress.kp T.bReadAddress .nil pass0 (pa_cons (pv 3) pa_nil)) (pg_tup rfl (pgs_cons (pg_name (i := 4) scPrimary.nd rfl (Or.inl rfl)) (pgs_cons (pg_name (i := 5) scPrimary.nd rfl (Or.inl rfl)) pgs_nil))))
          (pss_one (ps_ret (pe_tup (pa_cons (pe_tup (pa_cons pe_str (pa_cons (pv 4) (pa_cons (pv 5) pa_nil)))) (pa_cons (pe_op op_add (pv 1) pe_int) pa_nil))))))
          pss_nil)
        (pss_cons (ps_if (pt_cmpR op_eq (pv 3) (pe_glob (v := (.str "gone")) rfl T.g_GONE ⟨_, rfl⟩) (nomark _))
          (pss_one (ps_ret (pe_tup (pa_cons (pe_tup (pa_cons (pe_glob (v := (.str "gone")) rfl T.g_GONE ⟨_, rfl⟩) pa_nil)) (pa_cons (pe_op op_add (pv 1) pe_int) pa_nil)))))
          pss_nil)
        (pss_cons (ps_if (pt_cmpR op_eq (pv 3) pe_str (nomark _))
          (pss_cons (ps_asg (pe_call (IH) (hr.mono (by omega)) (by rfl) T.gFormula T.FFormula.kp T.bFormula .nil pass0 (pa_cons (pv 0) (pa_cons (pe_op op_add (pv 1) pe_int) pa_nil))) (pg_tup rfl (pgs_cons (pg_name (i := 6) scPrimary.nd rfl (Or.inl rfl)) (pgs_cons (pg_name (i := 7) scPrimary.nd rfl (Or.inl rfl)) pgs_nil))))
          (pss_one (ps_ret (pe_tup (pa_cons (pv 6) (pa_cons (pe_op op_add (pv 7) pe_int) pa_nil))))))
          pss_nil)
        (pss_one (ps_ret (pe_call (okCall T) (hr.mono (by omega)) (by rfl) T.gCall T.FCall.kp T.bCall .nil pass0 (pa_cons (pv 0) (pa_cons (pv 1) pa_nil)))))))))), ?_⟩
    have k1 : ("decimal" : Str) ≠ "address" ∧ ("address" : Str) ≠ "decimal" ∧ ("word" : Str) ≠ "decimal" ∧ ("word" : Str) ≠ "address" ∧ ("sign" : Str) ≠ "decimal" ∧ ("sign" : Str) ≠ "address" := by decide +kernel
    generalize hcur : xs.drop i = cur at pt
    have beg : ∀ {x : Tk} {s : List Tk}, cur = x :: s → ∃ (q0 : Addr) (u : List Nat), rs[i]? = some (.ref q0) ∧ H q0 = some (.tup [.str (kdT x), .str (S u)]) ∧ TY u x ∧ xs.drop (i + 1) = s := fun {x s} e => by
      obtain ⟨e1, e2⟩ := drop_cons (hcur.trans e)
      obtain ⟨q0, u, e3, hq, tx⟩ := L.at_ e1
      exact ⟨q0, u, e3, hq, tx, e2⟩
    cases pt with
    | dec =>
      rename_i a b
      obtain ⟨q0, u, e3, hq, tx, e2⟩ := beg rfl
      refine ⟨_, rfl, _, rfl, d, _, _, _, rfl, rfl, SqL.of L.hd, atI_nat e3, q0, _, rfl, SqT.of hq, rfl, _, _, rfl, _, _, rfl, rfl, _, rfl, rfl, _, rfl, ifY ?_⟩
      obtain ⟨o, lw⟩ := tx.val
      refine ⟨_, rfl, u, rfl, tx.le, fun z => absurd o z, fun _ p1 x y H1 s1 h1 lw1 => ⟨(by show 2 ≤ sizeLine; decide), fun p2 hp2 => ⟨_, rfl, _, _, rfl, rfl, (by show 2 ≤ sizeLine; decide), fun p3 hp3 => ?_⟩⟩⟩
      obtain ⟨rfl, rfl⟩ := lw_one (denD_ne u) lw lw1
      have s2 := same_new (o := .tup [.str "num", .ref p1]) hp2
      have s3 := same_new (o := .tup [.ref p2, .int ((i : Int) + 1)]) hp3
      exact q p3 _ (i + 1) _ ((s1.trans s2).trans s3) upd_same ⟨p2, p1, rfl, s3 _ _ upd_same, (s2.trans s3) _ _ h1⟩ e2
    | cel =>
      rename_i a b
      obtain ⟨q0, u, e3, hq, tx, e2⟩ := beg rfl
      refine ⟨_, rfl, _, rfl, d, _, _, _, rfl, rfl, SqL.of L.hd, atI_nat e3, q0, _, rfl, SqT.of hq, rfl, _, _, rfl, _, _, rfl, rfl, _, rfl, rfl, _, rfl, ifN k1.2.1 ⟨_, rfl, rfl, _, rfl, ifY ?_⟩⟩
      obtain ⟨o, r1, r2⟩ := tx.val
      refine ⟨_, rfl, u, rfl, tx.le, fun z => absurd o z, fun _ p1 H1 s1 h1 => ?_⟩
      rw [r1, r2] at h1
      refine ⟨p1, _, rfl, SqT.of h1, rfl, _, _, rfl, _, _, rfl, rfl, _, rfl, _, rfl, (by show 3 ≤ sizeLine; decide), fun p2 hp2 => ⟨_, rfl, _, _, rfl, rfl, (by show 2 ≤ sizeLine; decide), fun p3 hp3 => ?_⟩⟩
      have s2 := same_new (o := .tup [.str "cell", .int a, .int b]) hp2
      have s3 := same_new (o := .tup [.ref p2, .int ((i : Int) + 1)]) hp3
      exact q p3 _ (i + 1) _ ((s1.trans s2).trans s3) upd_same ⟨p2, rfl, s3 _ _ upd_same⟩ e2
    | gone =>
      obtain ⟨q0, u, e3, hq, tx, e2⟩ := beg rfl
      refine ⟨_, rfl, _, rfl, d, _, _, _, rfl, rfl, SqL.of L.hd, atI_nat e3, q0, _, rfl, SqT.of hq, rfl, _, _, rfl, _, _, rfl, rfl, _, rfl, rfl, _, rfl, ifN k1.2.2.1 ⟨_, rfl, rfl, _, rfl, ifN k1.2.2.2.1 ⟨_, rfl, rfl, _, rfl, ?_⟩⟩⟩
      have e : S u = "gone" := tx.val
      rw [e]
      refine ifY ⟨(by show 1 ≤ sizeLine; decide), fun p2 hp2 => ⟨_, rfl, _, _, rfl, rfl, (by show 2 ≤ sizeLine; decide), fun p3 hp3 => ?_⟩⟩
      have s2 := same_new (o := .tup [.str "gone"]) hp2
      have s3 := same_new (o := .tup [.ref p2, .int ((i : Int) + 1)]) hp3
      exact q p3 _ (i + 1) _ (s2.trans s3) upd_same ⟨p2, rfl, s3 _ _ upd_same⟩ e2
    | par pf =>
      rename_i m2 ts
      obtain ⟨q0, u, e3, hq, tx, e2⟩ := beg rfl
      refine ⟨_, rfl, _, rfl, d, _, _, _, rfl, rfl, SqL.of L.hd, atI_nat e3, q0, _, rfl, SqT.of hq, rfl, _, _, rfl, _, _, rfl, rfl, _, rfl, rfl, _, rfl, ifN k1.2.2.2.2.1 ⟨_, rfl, rfl, _, rfl, ifN k1.2.2.2.2.2 ⟨_, rfl, rfl, _, rfl, ifN (ngone tx (fun z => by cases z)) ⟨_, rfl, rfl, _, rfl, ?_⟩⟩⟩⟩
      rw [sgS tx, ← cS.2.2.1]
      refine ifY ⟨_, rfl, _, rfl, _, _, rfl, rfl, d, rs, us, xs, i + 1, m2, t, _, rfl, L, by omega, by rw [e2]; exact pf, fun p1 v j H1 s1 h1 tr hj => ?_⟩
      refine ⟨p1, _, rfl, SqT.of h1, rfl, _, _, rfl, _, _, rfl, rfl, _, rfl, _, rfl, _, _, rfl, rfl, (by show 2 ≤ sizeLine; decide), fun p2 hp2 => ?_⟩
      have s2 := same_new (o := .tup [v, .int ((j : Int) + 1)]) hp2
      exact q p2 _ (j + 1) _ (s1.trans s2) upd_same (tr.mono (TK.of s2)) (drop_cons hj).2
    | call pas =>
      obtain ⟨q0, u, e3, hq, tx, e2⟩ := beg rfl
      have n1 : S u ≠ "(" := by
        have := nsg tx (c := 40) (by decide) (fun z => by cases z)
        rwa [← cS.2.2.1] at this
      refine ⟨_, rfl, _, rfl, d, _, _, _, rfl, rfl, SqL.of L.hd, atI_nat e3, q0, _, rfl, SqT.of hq, rfl, _, _, rfl, _, _, rfl, rfl, _, rfl, rfl, _, rfl, ifN k1.2.2.1 ⟨_, rfl, rfl, _, rfl, ifN k1.2.2.2.1 ⟨_, rfl, rfl, _, rfl, ifN (ngone tx (fun z => by cases z)) ⟨_, rfl, rfl, _, rfl, ifN n1 ?_⟩⟩⟩⟩
      exact ⟨_, rfl, _, rfl, d, rs, us, xs, i, _, _, _, r, rfl, L, hcur, pas, fun p1 v j H1 s1 h1 tr hj => q p1 v j H1 s1 h1 tr hj⟩
end
end My
namespace My
open PySem PySem.Spec PyProof.Rows L2 RZ
section
variable {P : Program} {w : World} {K : PySem.W.Frag} {mg : Str → Option Value} {base : Heap}
open L2H
open SX (S S_len S_cat slice_to slice_from num_S int_S)
open PySem.NumText (digitsVal AllDigits)
open TL (numL)
theorem okFactor9 (T : Txt P w K mg) (n : Nat) (IH : FnOk P w K mg base CX0 (6 * n + 9) T.fPrimary T.fdPrimary ["tokens", "at"] (spLv .prim (n + 1))) : FnOk P w K mg base CX0 (6 * n + 10) T.fFactor T.fdFactor ["tokens", "at"] (spLv .fact (n + 1)) := by
  refine T.FFactor.ok scFactor (fun vs H Q E h => ?_) (fun cdv A outer s H vs Q E hr h => ?_)
  · obtain ⟨d, rs, us, xs, i, m, t, r, rfl, _⟩ := h
    rfl
  · obtain ⟨d, rs, us, xs, i, m, t, r, rfl, L, hm, pt, q⟩ := h
    -- slots tokens=0 at=1 tree=2 end=3
    refine ⟨_, (pss_cons (ps_if (pt_cmpR op_ne (pe_ix ix_tup (pe_ix ix_list (pv 0) (pv 1) (fun _ _ => rfl)) pe_int (fun _ _ => rfl)) pe_str (nomark _))
          (pss_one (ps_ret (pe_call (IH) (hr.mono (by omega)) (by rfl) T.gPrimary T.FPrimary.kp T.bPrimary .nil pass0 (pa_cons (pv 0) (pa_cons (pv 1) pa_nil)))))
          pss_nil)
        (pss_cons (ps_asg (pe_call (IH) (hr.mono (by omega)) (by rfl) T.gPrimary T.FPrimary.kp T.bPrimary .nil pass0 (pa_cons (pv 0) (pa_cons (pe_op op_add (pv 1) pe_int) pa_nil))) (pg_tup rfl (pgs_cons (pg_name (i := 2) scFactor.nd rfl (Or.inl rfl)) (pgs_cons (pg_name (i := 3) scFactor.nd rfl (Or.inl rfl)) pgs_nil))))
        (pss_one (ps_ret (pe_tup (pa_cons (pe_tup (pa_cons pe_str (pa_cons (pv 2) pa_nil))) (pa_cons (pv 3) pa_nil))))))), ?_⟩
    generalize hcur : xs.drop i = cur at pt
    have beg : ∀ {x : Tk} {s : List Tk}, cur = x :: s → ∃ (q0 : Addr) (u : List Nat), rs[i]? = some (.ref q0) ∧ H q0 = some (.tup [.str (kdT x), .str (S u)]) ∧ TY u x ∧ xs.drop (i + 1) = s := fun {x s} e => by
      obtain ⟨e1, e2⟩ := drop_cons (hcur.trans e)
      obtain ⟨q0, u, e3, hq, tx⟩ := L.at_ e1
      exact ⟨q0, u, e3, hq, tx, e2⟩
    cases pt with
    | fact ns pp =>
      obtain ⟨x, s1, e0⟩ := pp.ne
      obtain ⟨q0, u, e3, hq, tx, e2⟩ := beg e0
      have nx : x ≠ .sg 45 := fun z => ns s1 (by rw [e0, z])
      have n1 : S u ≠ "-" := by
        have := nsg tx (c := 45) (by decide) nx
        rwa [← cS.2.2.2.1] at this
      refine ⟨_, rfl, _, rfl, d, _, _, _, rfl, rfl, SqL.of L.hd, atI_nat e3, q0, _, _, _, rfl, rfl, SqT.of hq, atI_nat (j := 1) rfl, rfl, _, rfl, ?_⟩
      rw [decide_eq_false fun z => n1 (V.str.inj z)]
      exact iteT ⟨_, rfl, _, rfl, d, rs, us, xs, i, m, t, r, rfl, L, hm, by rw [hcur]; exact pp, q⟩
    | neg pp =>
      rename_i ts t2
      obtain ⟨q0, u, e3, hq, tx, e2⟩ := beg rfl
      refine ⟨_, rfl, _, rfl, d, _, _, _, rfl, rfl, SqL.of L.hd, atI_nat e3, q0, _, _, _, rfl, rfl, SqT.of hq, atI_nat (j := 1) rfl, rfl, _, rfl, ?_⟩
      rw [sgS tx, ← cS.2.2.2.1, decide_eq_true rfl]
      refine iteF ⟨_, rfl, _, rfl, _, _, rfl, rfl, d, rs, us, xs, i + 1, m, t2, r, rfl, L, hm, by rw [e2]; exact pp, fun p1 v j H1 s1 h1 tr hj => ?_⟩
      refine ⟨p1, _, rfl, SqT.of h1, rfl, _, _, rfl, _, _, rfl, rfl, _, rfl, (by show 2 ≤ sizeLine; decide), fun p2 hp2 => ⟨_, rfl, (by show 2 ≤ sizeLine; decide), fun p3 hp3 => ?_⟩⟩
      have s2 := same_new (o := .tup [.str "neg", v]) hp2
      have s3 := same_new (o := .tup [.ref p2, .int (j : Int)]) hp3
      exact q p3 _ j _ ((s1.trans s2).trans s3) upd_same ⟨p2, v, rfl, s3 _ _ upd_same, tr.mono (TK.of (s2.trans s3))⟩ hj
theorem PAs.rest : ∀ {ts r : List Tk} {as : List Ar}, PAs ts as r → r.length ≤ ts.length
  | _, _, _, .stop => Nat.le_succ _
  | _, _, _, .step _ a as => Nat.le_succ_of_le (Nat.le_trans as.rest a.len)
theorem in_prods {u : List Nat} {x : Tk} (h : TY u x) : decide (S u ∈ (["*", "/"] : List Str)) = hd [x] isProd := by
  have e : (["*", "/"] : List Str) = [S [42], S [47]] := by rw [← cS.2.2.2.2.2.1, ← cS.2.2.2.2.2.2]
  rw [e]
  by_cases c : x = .sg 42 ∨ x = .sg 47
  · have z : hd [x] isProd = true := by rcases c with rfl | rfl <;> rfl
    rw [z]
    rcases c with rfl | rfl <;> exact decide_eq_true (by rw [sgS h]; simp)
  · have z : hd [x] isProd = false := by
      cases x with
      | sg c2 =>
        show isProd c2 = false
        unfold isProd
        simp
        exact ⟨fun y => c (.inl (by rw [y])), fun y => c (.inr (by rw [y]))⟩
      | _ => rfl
    rw [z]
    refine decide_eq_false fun y => ?_
    simp only [List.mem_cons, List.not_mem_nil, or_false] at y
    rcases y with y | y
    · exact nsg h (by decide) (fun k => c (.inl k)) y
    · exact nsg h (by decide) (fun k => c (.inr k)) y
theorem in_sums {u : List Nat} {x : Tk} (h : TY u x) : decide (S u ∈ (["+", "-"] : List Str)) = hd [x] isSum := by
  have e : (["+", "-"] : List Str) = [S [43], S [45]] := by rw [← cS.2.2.2.2.1, ← cS.2.2.2.1]
  rw [e]
  by_cases c : x = .sg 43 ∨ x = .sg 45
  · have z : hd [x] isSum = true := by rcases c with rfl | rfl <;> rfl
    rw [z]
    rcases c with rfl | rfl <;> exact decide_eq_true (by rw [sgS h]; simp)
  · have z : hd [x] isSum = false := by
      cases x with
      | sg c2 =>
        show isSum c2 = false
        unfold isSum
        simp
        exact ⟨fun y => c (.inl (by rw [y])), fun y => c (.inr (by rw [y]))⟩
      | _ => rfl
    rw [z]
    refine decide_eq_false fun y => ?_
    simp only [List.mem_cons, List.not_mem_nil, or_false] at y
    rcases y with y | y
    · exact nsg h (by decide) (fun k => c (.inl k)) y
    · exact nsg h (by decide) (fun k => c (.inr k)) y
theorem hd_cons (x : Tk) (s : List Tk) (p : Nat → Bool) : hd (x :: s) p = hd [x] p := by cases x <;> rfl
mutual
theorem PT.len {n : Nat} : ∀ {v : Lv} {ts r : List Tk} {t : Tr}, PT n v ts t r → r.length ≤ ts.length
  | _, _, _, _, .form a b => Nat.le_trans b.len a.len
  | _, _, _, _, .term a b => Nat.le_trans b.len a.len
  | _, _, _, _, .fact _ a => a.len
  | _, _, _, _, .neg a => Nat.le_succ_of_le a.len
  | _, _, _, _, .dec => Nat.le_succ _
  | _, _, _, _, .cel => Nat.le_succ _
  | _, _, _, _, .gone => Nat.le_succ _
  | _, _, _, _, .par a => Nat.le_succ_of_le (Nat.le_trans (Nat.le_succ _) a.len)
  | _, _, _, _, .call a => Nat.le_succ_of_le a.rest
theorem PL.len {n : Nat} : ∀ {p : Nat → Bool} {v : Lv} {l : Tr} {ts r : List Tk} {t : Tr}, PL n p v l ts t r → r.length ≤ ts.length
  | _, _, _, _, _, _, .stop _ => Nat.le_refl _
  | _, _, _, _, _, _, .step _ a b => Nat.le_succ_of_le (Nat.le_trans b.len a.len)
end
def spChainFactor (K : PySem.W.Frag) (sg fa : Addr) (n : Nat) : Sp := fun vs H Q _ => ∃ (d : Addr) (rs : List V) (us : List (List Nat)) (xs : List Tk) (i m : Nat) (l t : Tr) (r r' : List Tk), vs = [.ref d, .int (i : Int), .ref sg, .ref fa] ∧ TLs H d rs us xs ∧ m < n ∧ PT m .fact (xs.drop i) l r ∧ PL m isProd .fact l r t r' ∧
  ∀ (p : Addr) (u : V) (j : Nat) (H' : Hp), Same H H' → H' p = some (.tup [u, .int (j : Int)]) → TrAt H' u t → xs.drop j = r' → Q (.ref p) H'
theorem okChainFactor (T : Txt P w K mg) (n : Nat) (IH : FnOk P w K mg base CX0 (6 * n + 10) T.fFactor T.fdFactor ["tokens", "at"] (spLv .fact (n + 1))) : FnOk P w K mg base CX0 (6 * n + 11) T.fChain T.fdChain ["tokens", "at", "signs", "part"] (spChainFactor K T.p_PRODUCTS T.fFactor (n + 1)) := by
  refine T.FChain.ok scChain (fun vs H Q E h => ?_) (fun cdv A outer s H vs Q E hr h => ?_)
  · obtain ⟨d, rs, us, xs, i, m, l, t, r, r', rfl, _⟩ := h
    rfl
  · obtain ⟨d, rs, us, xs, i, m, l, t, r, r', rfl, L, hm, pt, pl, q⟩ := h
    -- slots tokens=0 at=1 signs=2 part=3 left=4 sign=5 right=6
    refine ⟨_, (pss_cons (ps_asg (pe_callL (i := 3) (IH) (hr.mono (by omega)) rfl (Or.inl rfl) T.FFactor.kp T.bFactor .nil pass0 (pa_cons (pv 0) (pa_cons (pv 1) pa_nil))) (pg_tup rfl (pgs_cons (pg_name (i := 4) scChain.nd rfl (Or.inl rfl)) (pgs_cons (pg_name (i := 1) scChain.nd rfl (Or.inl rfl)) pgs_nil))))
        (pss_cons (ps_while PassesOwn.never (PW.pt (pw_and (pt_cmpR op_lt (pv 1) (pe_callB call_len_seq (by rfl) T.z_len PySem.boot_len (pa_cons (pv 0) pa_nil)) (nomark _)) (pw_and1 (pt_cmpR op_in_seq (pe_ix ix_tup (pe_ix ix_list (pv 0) (pv 1) (fun _ _ => rfl)) pe_int (fun _ _ => rfl)) (pv 2) rfl))))
          (pss_cons (ps_set (i := 5) scChain.nd rfl (Or.inl rfl) (pe_ix ix_tup (pe_ix ix_list (pv 0) (pv 1) (fun _ _ => rfl)) pe_int (fun _ _ => rfl)))
          (pss_cons (ps_asg (pe_callL (i := 3) (IH) (hr.mono (by omega)) rfl (Or.inl rfl) T.FFactor.kp T.bFactor .nil pass0 (pa_cons (pv 0) (pa_cons (pe_op op_add (pv 1) pe_int) pa_nil))) (pg_tup rfl (pgs_cons (pg_name (i := 6) scChain.nd rfl (Or.inl rfl)) (pgs_cons (pg_name (i := 1) scChain.nd rfl (Or.inl rfl)) pgs_nil))))
          (pss_one (ps_set (i := 4) scChain.nd rfl (Or.inl rfl) (pe_tup (pa_cons pe_str (pa_cons (pv 5) (pa_cons (pv 4) (pa_cons (pv 6) pa_nil))))))))))
        (pss_one (ps_ret (pe_tup (pa_cons (pv 4) (pa_cons (pv 1) pa_nil))))))), ?_⟩
    refine ⟨rfl, _, rfl, _, rfl, d, rs, us, xs, i, m, l, r, rfl, L, hm, pt, fun p0 v0 j0 H0 s0 h0 tr0 hj0 => ?_⟩
    refine ⟨p0, _, rfl, SqT.of h0, rfl, _, _, rfl, _, _, rfl, rfl, ?_⟩
    rw [← hj0] at pl
    refine ⟨fun k σ H' => ∃ (j : Nat) (v : V) (l : Tr) (c5 c6 : Option V), σ = [some (.ref d), some (.int (j : Int)), some (.ref T.p_PRODUCTS), some (.ref T.fFactor), some v, c5, c6] ∧ Same H H' ∧ TrAt H' v l ∧ PL m isProd .fact l (xs.drop j) t r' ∧ k = (xs.drop j).length, ⟨_, j0, v0, l, none, none, rfl, s0, tr0, pl, rfl⟩, ?_⟩
    rintro k σ H1 ⟨j, v, l, c5, c6, rfl, s1, tr, pl, rfl⟩
    have L1 := L.same s1
    have rl : rs.length = xs.length := by
      rw [L.R.len]
      unfold dU
      rw [List.length_map, L.tx.len]
    have fin : xs.drop j = r' → l = t → ∀ (p : Addr), H1 p = none → Q (.ref p) (upd H1 p (.tup [v, .int (j : Int)])) := fun e1 e2 p hp => by
      subst e2
      exact q p v j _ (s1.trans (same_new hp)) upd_same (tr.mono (TK.of (same_new hp))) e1
    refine ⟨_, rfl, _, rfl, d, rs, rfl, .inl (SqL.of L1.hd), _, _, rfl, rfl, _, rfl, ?_⟩
    rw [rl]
    generalize hcur : xs.drop j = cur at pl fin
    cases hc : cur with
    | nil =>
      subst hc
      have hz : ¬ ((j : Int) < (xs.length : Int)) := fun z => by
        have : (xs.drop j).length = 0 := by rw [hcur]; rfl
        rw [List.length_drop] at this
        omega
      rw [decide_eq_false hz]
      cases pl with
      | stop _ => exact iteF (iteF ⟨_, rfl, _, rfl, (by show 2 ≤ sizeLine; decide), fun p hp => fin rfl rfl p hp⟩)
    | cons x s2 =>
      subst hc
      obtain ⟨e1, e2⟩ := drop_cons hcur
      obtain ⟨q0, u, e3, hq, tx⟩ := L1.at_ e1
      have hz : (j : Int) < (xs.length : Int) := by
        have := (List.getElem?_eq_some_iff.mp e1).1
        omega
      rw [decide_eq_true hz]
      refine iteT ⟨_, rfl, _, rfl, d, _, _, _, rfl, rfl, SqL.of L1.hd, atI_nat e3, q0, _, _, _, rfl, rfl, SqT.of hq, atI_nat (j := 1) rfl, _, rfl, T.p_PRODUCTS, _, rfl, .inr (T.k_PRODUCTS _), rfl, rfl, _, rfl, ?_⟩
      have e4 : inV (.str (S u)) [.str "*", .str "/"] = decide (S u ∈ (["*", "/"] : List Str)) := inV_strs (S u) ["*", "/"]
      rw [e4, in_prods tx]
      cases pl with
      | stop hs =>
        rw [hd_cons] at hs
        rw [hs]
        exact iteF ⟨_, rfl, _, rfl, (by show 2 ≤ sizeLine; decide), fun p hp => fin rfl rfl p hp⟩
      | @step _ _ _ _ x2 _ c _ r2 _ hs pt2 pl2 =>
        have hs2 : hd [Tk.sg c] isProd = true := hs
        rw [hs2]
        refine iteT ⟨fun σ' H' => ∃ k', k' < (Tk.sg c :: s2).length ∧ ∃ (j : Nat) (v : V) (l : Tr) (c5 c6 : Option V), σ' = [some (.ref d), some (.int (j : Int)), some (.ref T.p_PRODUCTS), some (.ref T.fFactor), some v, c5, c6] ∧ Same H H' ∧ TrAt H' v l ∧ PL m isProd .fact l (xs.drop j) t r' ∧ k' = (xs.drop j).length, fun _ _ h => h, ?_⟩
        refine ⟨_, rfl, _, rfl, d, _, _, _, rfl, rfl, SqL.of L1.hd, atI_nat e3, q0, _, _, _, rfl, rfl, SqT.of hq, atI_nat (j := 1) rfl, ?_⟩
        refine ⟨rfl, _, rfl, _, rfl, _, _, rfl, rfl, d, rs, us, xs, j + 1, m, x2, r2, rfl, L1, hm, by rw [e2]; exact pt2, fun p2 v2 j2 H2 s12 h2 tr2 hj2 => ?_⟩
        refine ⟨p2, _, rfl, SqT.of h2, rfl, _, _, rfl, _, _, rfl, rfl, _, rfl, _, rfl, _, rfl, (by show 4 ≤ sizeLine; decide), fun p3 hp3 => ?_⟩
        have s3 := same_new (o := .tup [.str "op", .str (S u), v, v2]) hp3
        rw [sgS tx] at s3 ⊢
        refine ⟨r2.length, Nat.lt_succ_of_le pt2.len, j2, .ref p3, .op (S [c]) l x2, _, _, rfl, (s1.trans s12).trans s3, ⟨p3, v, v2, rfl, upd_same, tr.mono (TK.of (s12.trans s3)), tr2.mono (TK.of s3)⟩, by rw [hj2]; exact pl2, by rw [hj2]⟩
def spChainTerm (K : PySem.W.Frag) (sg fa : Addr) (n : Nat) : Sp := fun vs H Q _ => ∃ (d : Addr) (rs : List V) (us : List (List Nat)) (xs : List Tk) (i m : Nat) (l t : Tr) (r r' : List Tk), vs = [.ref d, .int (i : Int), .ref sg, .ref fa] ∧ TLs H d rs us xs ∧ m < n ∧ PT m .term (xs.drop i) l r ∧ PL m isSum .term l r t r' ∧
  ∀ (p : Addr) (u : V) (j : Nat) (H' : Hp), Same H H' → H' p = some (.tup [u, .int (j : Int)]) → TrAt H' u t → xs.drop j = r' → Q (.ref p) H'
theorem okChainTerm (T : Txt P w K mg) (n : Nat) (IH : FnOk P w K mg base CX0 (6 * n + 12) T.fTerm T.fdTerm ["tokens", "at"] (spLv .term (n + 1))) : FnOk P w K mg base CX0 (6 * n + 13) T.fChain T.fdChain ["tokens", "at", "signs", "part"] (spChainTerm K T.p_SUMS T.fTerm (n + 1)) := by
  refine T.FChain.ok scChain (fun vs H Q E h => ?_) (fun cdv A outer s H vs Q E hr h => ?_)
  · obtain ⟨d, rs, us, xs, i, m, l, t, r, r', rfl, _⟩ := h
    rfl
  · obtain ⟨d, rs, us, xs, i, m, l, t, r, r', rfl, L, hm, pt, pl, q⟩ := h
    -- slots tokens=0 at=1 signs=2 part=3 left=4 sign=5 right=6
    refine ⟨_, (pss_cons (ps_asg (pe_callL (i := 3) (IH) (hr.mono (by omega)) rfl (Or.inl rfl) T.FTerm.kp T.bTerm .nil pass0 (pa_cons (pv 0) (pa_cons (pv 1) pa_nil))) (pg_tup rfl (pgs_cons (pg_name (i := 4) scChain.nd rfl (Or.inl rfl)) (pgs_cons (pg_name (i := 1) scChain.nd rfl (Or.inl rfl)) pgs_nil))))
        (pss_cons (ps_while PassesOwn.never (PW.pt (pw_and (pt_cmpR op_lt (pv 1) (pe_callB call_len_seq (by rfl) T.z_len PySem.boot_len (pa_cons (pv 0) pa_nil)) (nomark _)) (pw_and1 (pt_cmpR op_in_seq (pe_ix ix_tup (pe_ix ix_list (pv 0) (pv 1) (fun _ _ => rfl)) pe_int (fun _ _ => rfl)) (pv 2) rfl))))
          (pss_cons (ps_set (i := 5) scChain.nd rfl (Or.inl rfl) (pe_ix ix_tup (pe_ix ix_list (pv 0) (pv 1) (fun _ _ => rfl)) pe_int (fun _ _ => rfl)))
          (pss_cons (ps_asg (pe_callL (i := 3) (IH) (hr.mono (by omega)) rfl (Or.inl rfl) T.FTerm.kp T.bTerm .nil pass0 (pa_cons (pv 0) (pa_cons (pe_op op_add (pv 1) pe_int) pa_nil))) (pg_tup rfl (pgs_cons (pg_name (i := 6) scChain.nd rfl (Or.inl rfl)) (pgs_cons (pg_name (i := 1) scChain.nd rfl (Or.inl rfl)) pgs_nil))))
          (pss_one (ps_set (i := 4) scChain.nd rfl (Or.inl rfl) (pe_tup (pa_cons pe_str (pa_cons (pv 5) (pa_cons (pv 4) (pa_cons (pv 6) pa_nil))))))))))
        (pss_one (ps_ret (pe_tup (pa_cons (pv 4) (pa_cons (pv 1) pa_nil))))))), ?_⟩
    refine ⟨rfl, _, rfl, _, rfl, d, rs, us, xs, i, m, l, r, rfl, L, hm, pt, fun p0 v0 j0 H0 s0 h0 tr0 hj0 => ?_⟩
    refine ⟨p0, _, rfl, SqT.of h0, rfl, _, _, rfl, _, _, rfl, rfl, ?_⟩
    rw [← hj0] at pl
    refine ⟨fun k σ H' => ∃ (j : Nat) (v : V) (l : Tr) (c5 c6 : Option V), σ = [some (.ref d), some (.int (j : Int)), some (.ref T.p_SUMS), some (.ref T.fTerm), some v, c5, c6] ∧ Same H H' ∧ TrAt H' v l ∧ PL m isSum .term l (xs.drop j) t r' ∧ k = (xs.drop j).length, ⟨_, j0, v0, l, none, none, rfl, s0, tr0, pl, rfl⟩, ?_⟩
    rintro k σ H1 ⟨j, v, l, c5, c6, rfl, s1, tr, pl, rfl⟩
    have L1 := L.same s1
    have rl : rs.length = xs.length := by
      rw [L.R.len]
      unfold dU
      rw [List.length_map, L.tx.len]
    have fin : xs.drop j = r' → l = t → ∀ (p : Addr), H1 p = none → Q (.ref p) (upd H1 p (.tup [v, .int (j : Int)])) := fun e1 e2 p hp => by
      subst e2
      exact q p v j _ (s1.trans (same_new hp)) upd_same (tr.mono (TK.of (same_new hp))) e1
    refine ⟨_, rfl, _, rfl, d, rs, rfl, .inl (SqL.of L1.hd), _, _, rfl, rfl, _, rfl, ?_⟩
    rw [rl]
    generalize hcur : xs.drop j = cur at pl fin
    cases hc : cur with
    | nil =>
      subst hc
      have hz : ¬ ((j : Int) < (xs.length : Int)) := fun z => by
        have : (xs.drop j).length = 0 := by rw [hcur]; rfl
        rw [List.length_drop] at this
        omega
      rw [decide_eq_false hz]
      cases pl with
      | stop _ => exact iteF (iteF ⟨_, rfl, _, rfl, (by show 2 ≤ sizeLine; decide), fun p hp => fin rfl rfl p hp⟩)
    | cons x s2 =>
      subst hc
      obtain ⟨e1, e2⟩ := drop_cons hcur
      obtain ⟨q0, u, e3, hq, tx⟩ := L1.at_ e1
      have hz : (j : Int) < (xs.length : Int) := by
        have := (List.getElem?_eq_some_iff.mp e1).1
        omega
      rw [decide_eq_true hz]
      refine iteT ⟨_, rfl, _, rfl, d, _, _, _, rfl, rfl, SqL.of L1.hd, atI_nat e3, q0, _, _, _, rfl, rfl, SqT.of hq, atI_nat (j := 1) rfl, _, rfl, T.p_SUMS, _, rfl, .inr (T.k_SUMS _), rfl, rfl, _, rfl, ?_⟩
      have e4 : inV (.str (S u)) [.str "+", .str "-"] = decide (S u ∈ (["+", "-"] : List Str)) := inV_strs (S u) ["+", "-"]
      rw [e4, in_sums tx]
      cases pl with
      | stop hs =>
        rw [hd_cons] at hs
        rw [hs]
        exact iteF ⟨_, rfl, _, rfl, (by show 2 ≤ sizeLine; decide), fun p hp => fin rfl rfl p hp⟩
      | @step _ _ _ _ x2 _ c _ r2 _ hs pt2 pl2 =>
        have hs2 : hd [Tk.sg c] isSum = true := hs
        rw [hs2]
        refine iteT ⟨fun σ' H' => ∃ k', k' < (Tk.sg c :: s2).length ∧ ∃ (j : Nat) (v : V) (l : Tr) (c5 c6 : Option V), σ' = [some (.ref d), some (.int (j : Int)), some (.ref T.p_SUMS), some (.ref T.fTerm), some v, c5, c6] ∧ Same H H' ∧ TrAt H' v l ∧ PL m isSum .term l (xs.drop j) t r' ∧ k' = (xs.drop j).length, fun _ _ h => h, ?_⟩
        refine ⟨_, rfl, _, rfl, d, _, _, _, rfl, rfl, SqL.of L1.hd, atI_nat e3, q0, _, _, _, rfl, rfl, SqT.of hq, atI_nat (j := 1) rfl, ?_⟩
        refine ⟨rfl, _, rfl, _, rfl, _, _, rfl, rfl, d, rs, us, xs, j + 1, m, x2, r2, rfl, L1, hm, by rw [e2]; exact pt2, fun p2 v2 j2 H2 s12 h2 tr2 hj2 => ?_⟩
        refine ⟨p2, _, rfl, SqT.of h2, rfl, _, _, rfl, _, _, rfl, rfl, _, rfl, _, rfl, _, rfl, (by show 4 ≤ sizeLine; decide), fun p3 hp3 => ?_⟩
        have s3 := same_new (o := .tup [.str "op", .str (S u), v, v2]) hp3
        rw [sgS tx] at s3 ⊢
        refine ⟨r2.length, Nat.lt_succ_of_le pt2.len, j2, .ref p3, .op (S [c]) l x2, _, _, rfl, (s1.trans s12).trans s3, ⟨p3, v, v2, rfl, upd_same, tr.mono (TK.of (s12.trans s3)), tr2.mono (TK.of s3)⟩, by rw [hj2]; exact pl2, by rw [hj2]⟩
theorem okTerm9 (T : Txt P w K mg) (n : Nat) (IH : FnOk P w K mg base CX0 (6 * n + 11) T.fChain T.fdChain ["tokens", "at", "signs", "part"] (spChainFactor K T.p_PRODUCTS T.fFactor (n + 1))) : FnOk P w K mg base CX0 (6 * n + 12) T.fTerm T.fdTerm ["tokens", "at"] (spLv .term (n + 1)) := by
  refine T.FTerm.ok scTerm (fun vs H Q E h => ?_) (fun cdv A outer s H vs Q E hr h => ?_)
  · obtain ⟨d, rs, us, xs, i, m, t, r, rfl, _⟩ := h
    rfl
  · obtain ⟨d, rs, us, xs, i, m, t, r, rfl, L, hm, pt, q⟩ := h
    -- slots tokens=0 at=1
    refine ⟨_, (pss_one (ps_ret (pe_call (IH) (hr.mono (by omega)) (by rfl) T.gChain T.FChain.kp T.bChain .nil pass0 (pa_cons (pv 0) (pa_cons (pv 1) (pa_cons (pe_glob (v := (.ref T.p_PRODUCTS)) rfl T.g_PRODUCTS rfl) (pa_cons (pe_glob (v := .ref T.fFactor) rfl T.gFactor rfl) pa_nil))))))), ?_⟩
    generalize hcur : xs.drop i = cur at pt
    cases pt with
    | term a b => exact ⟨_, rfl, _, rfl, d, rs, us, xs, i, m, _, t, _, r, rfl, L, hm, by rw [hcur]; exact a, b, q⟩
theorem okForm9 (T : Txt P w K mg) (n : Nat) (IH : FnOk P w K mg base CX0 (6 * n + 13) T.fChain T.fdChain ["tokens", "at", "signs", "part"] (spChainTerm K T.p_SUMS T.fTerm (n + 1))) : FnOk P w K mg base CX0 (6 * (n + 1) + 8) T.fFormula T.fdFormula ["tokens", "at"] (spLv .form (n + 1)) := by
  refine T.FFormula.ok scFormula (fun vs H Q E h => ?_) (fun cdv A outer s H vs Q E hr h => ?_)
  · obtain ⟨d, rs, us, xs, i, m, t, r, rfl, _⟩ := h
    rfl
  · obtain ⟨d, rs, us, xs, i, m, t, r, rfl, L, hm, pt, q⟩ := h
    -- slots tokens=0 at=1
    refine ⟨_, (pss_one (ps_ret (pe_call (IH) (hr.mono (by omega)) (by rfl) T.gChain T.FChain.kp T.bChain .nil pass0 (pa_cons (pv 0) (pa_cons (pv 1) (pa_cons (pe_glob (v := (.ref T.p_SUMS)) rfl T.g_SUMS rfl) (pa_cons (pe_glob (v := .ref T.fTerm) rfl T.gTerm rfl) pa_nil))))))), ?_⟩
    generalize hcur : xs.drop i = cur at pt
    cases pt with
    | form a b => exact ⟨_, rfl, _, rfl, d, rs, us, xs, i, m, _, t, _, r, rfl, L, hm, by rw [hcur]; exact a, b, q⟩
theorem okFormula (T : Txt P w K mg) : ∀ n : Nat, FnOk P w K mg base CX0 (6 * n + 8) T.fFormula T.fdFormula ["tokens", "at"] (spLv .form n)
  | 0 => by
    refine T.FFormula.ok scFormula (fun vs H Q E h => ?_) (fun cdv A outer s H vs Q E hr h => ?_)
    · obtain ⟨d, rs, us, xs, i, m, t, r, rfl, _⟩ := h
      rfl
    · obtain ⟨d, rs, us, xs, i, m, t, r, rfl, L, hm, _⟩ := h
      exact absurd hm (Nat.not_lt_zero _)
  | n + 1 => okForm9 T n (okChainTerm T n (okTerm9 T n (okChainFactor T n (okFactor9 T n (okPrimary9 T n (okFormula T n))))))
end
end My
namespace My
open PySem PySem.Spec PyProof.Rows L2 RZ
section
variable {P : Program} {w : World} {K : PySem.W.Frag} {mg : Str → Option Value} {base : Heap}
open L2H
open SX (S S_len S_cat slice_to slice_from num_S int_S)
open PySem.NumText (digitsVal AllDigits)
open TL (numL)
/-! ### what the walk takes is read -/
theorem step_mem {s y s1 : Str} (h : stepT s y = some s1) : (s, y, s1) ∈ rowsT := by
  unfold stepT at h
  cases e : rowsT.find? fun e => decide (e.1 = s ∧ e.2.1 = y) with
  | none =>
    rw [e] at h
    cases h
  | some z =>
    rw [e] at h
    have hm := List.mem_of_find?_eq_some e
    have hp := List.find?_some e
    obtain ⟨h1, h2⟩ := of_decide_eq_true hp
    have h3 : z.2.2 = s1 := Option.some.inj h
    obtain ⟨z1, z2, z3⟩ := z
    cases h1
    cases h2
    cases h3
    exact hm
theorem one_len (c : Nat) : (S [c]).length = 1 := S_len [c]
theorem sg_factor {c : Nat} {s1 : Str} (h : stepT "factor" (S [c]) = some s1) : (c = 45 ∧ s1 = "primary") ∨ (c = 40 ∧ s1 = "factor") := by
  have all : ∀ e ∈ rowsT, e.1 = "factor" → e.2.1.length = 1 → (e.2.1 = S [45] ∧ e.2.2 = "primary") ∨ (e.2.1 = S [40] ∧ e.2.2 = "factor") := by decide +kernel
  rcases all _ (step_mem h) rfl (one_len c) with ⟨e, z⟩ | ⟨e, z⟩
  · exact .inl ⟨List.head_eq_of_cons_eq (S_inj e), z⟩
  · exact .inr ⟨List.head_eq_of_cons_eq (S_inj e), z⟩
theorem sg_primary {c : Nat} {s1 : Str} (h : stepT "primary" (S [c]) = some s1) : c = 40 ∧ s1 = "factor" := by
  have all : ∀ e ∈ rowsT, e.1 = "primary" → e.2.1.length = 1 → (e.2.1 = S [40] ∧ e.2.2 = "factor") := by decide +kernel
  obtain ⟨e, z⟩ := all _ (step_mem h) rfl (one_len c)
  exact ⟨List.head_eq_of_cons_eq (S_inj e), z⟩
theorem sg_behind {c : Nat} {s1 : Str} (h : stepT "behind" (S [c]) = some s1) : ((isSum c = true ∨ isProd c = true) ∧ s1 = "factor") ∨ (c = 41 ∧ s1 = "behind") := by
  have all : ∀ e ∈ rowsT, e.1 = "behind" → e.2.1.length = 1 → ((e.2.1 = S [43] ∨ e.2.1 = S [45] ∨ e.2.1 = S [42] ∨ e.2.1 = S [47]) ∧ e.2.2 = "factor") ∨ (e.2.1 = S [41] ∧ e.2.2 = "behind") := by decide +kernel
  rcases all _ (step_mem h) rfl (one_len c) with ⟨e, z⟩ | ⟨e, z⟩
  · refine .inl ⟨?_, z⟩
    rcases e with e | e | e | e
    · rw [List.head_eq_of_cons_eq (S_inj e)]
      exact .inl rfl
    · rw [List.head_eq_of_cons_eq (S_inj e)]
      exact .inl rfl
    · rw [List.head_eq_of_cons_eq (S_inj e)]
      exact .inr rfl
    · rw [List.head_eq_of_cons_eq (S_inj e)]
      exact .inr rfl
  · exact .inr ⟨List.head_eq_of_cons_eq (S_inj e), z⟩
theorem sg_call {c : Nat} {s1 : Str} (h : stepT "call" (S [c]) = some s1) : c = 40 ∧ s1 = "area" := by
  have all : ∀ e ∈ rowsT, e.1 = "call" → e.2.1.length = 1 → (e.2.1 = S [40] ∧ e.2.2 = "area") := by decide +kernel
  obtain ⟨e, z⟩ := all _ (step_mem h) rfl (one_len c)
  exact ⟨List.head_eq_of_cons_eq (S_inj e), z⟩
theorem sg_corner {c : Nat} {s1 : Str} (h : stepT "corner" (S [c]) = some s1) : (c = 58 ∧ s1 = "other") ∨ (c = 44 ∧ s1 = "area") ∨ (c = 41 ∧ s1 = "behind") := by
  have all : ∀ e ∈ rowsT, e.1 = "corner" → e.2.1.length = 1 → (e.2.1 = S [58] ∧ e.2.2 = "other") ∨ (e.2.1 = S [44] ∧ e.2.2 = "area") ∨ (e.2.1 = S [41] ∧ e.2.2 = "behind") := by decide +kernel
  rcases all _ (step_mem h) rfl (one_len c) with ⟨e, z⟩ | ⟨e, z⟩ | ⟨e, z⟩
  · exact .inl ⟨List.head_eq_of_cons_eq (S_inj e), z⟩
  · exact .inr (.inl ⟨List.head_eq_of_cons_eq (S_inj e), z⟩)
  · exact .inr (.inr ⟨List.head_eq_of_cons_eq (S_inj e), z⟩)
theorem sg_last {c : Nat} {s1 : Str} (h : stepT "last" (S [c]) = some s1) : (c = 44 ∧ s1 = "area") ∨ (c = 41 ∧ s1 = "behind") := by
  have all : ∀ e ∈ rowsT, e.1 = "last" → e.2.1.length = 1 → (e.2.1 = S [44] ∧ e.2.2 = "area") ∨ (e.2.1 = S [41] ∧ e.2.2 = "behind") := by decide +kernel
  rcases all _ (step_mem h) rfl (one_len c) with ⟨e, z⟩ | ⟨e, z⟩
  · exact .inl ⟨List.head_eq_of_cons_eq (S_inj e), z⟩
  · exact .inr ⟨List.head_eq_of_cons_eq (S_inj e), z⟩
theorem sg_area {c : Nat} {s1 : Str} (h : stepT "area" (S [c]) = some s1) : False := by
  have all : ∀ e ∈ rowsT, e.1 = "area" → e.2.1.length = 1 → False := by decide +kernel
  exact all _ (step_mem h) rfl (one_len c)
theorem sg_other {c : Nat} {s1 : Str} (h : stepT "other" (S [c]) = some s1) : False := by
  have all : ∀ e ∈ rowsT, e.1 = "other" → e.2.1.length = 1 → False := by decide +kernel
  exact all _ (step_mem h) rfl (one_len c)
theorem dpB_keep {s y : Str} {d : Int} (h : ¬ (y = "(" ∧ s ≠ "call") ∧ ¬ (y = ")" ∧ s = "behind")) : dpB s y d = d := by
  unfold dpB
  rw [if_neg h.1, if_neg h.2]
theorem wk_nil {s : Str} {d e : Int} (h : Wk s d [] "behind" e) : s = "behind" ∧ d = e := by
  cases h
  exact ⟨rfl, rfl⟩
theorem wk_cons {s : Str} {d e : Int} {x : Tk} {r : List Tk} (h : Wk s d (x :: r) "behind" e) : ∃ s1, stepT s (symT x) = some s1 ∧ 0 ≤ dpB s (symT x) d ∧ dpB s (symT x) d ≤ 6 ∧ Wk s1 (dpB s (symT x) d) r "behind" e := by
  cases h with
  | cons a b c w => exact ⟨_, a, b, c, w⟩
/-- a token that is no sign, at a state: what becomes of it -/
theorem wk_at {s y s1 : Str} {d e : Int} {x : Tk} {r : List Tk} (h : Wk s d (x :: r) "behind" e) (hy : symT x = y) (hs : stepT s y = some s1 ∧ ¬ (y = "(" ∧ s ≠ "call") ∧ ¬ (y = ")" ∧ s = "behind")) : Wk s1 d r "behind" e := by
  obtain ⟨s2, a, _, _, w⟩ := wk_cons h
  rw [hy, hs.1] at a
  cases a
  rw [hy, dpB_keep hs.2] at w
  exact w
theorem wk_no {s y : Str} {d e : Int} {x : Tk} {r : List Tk} (h : Wk s d (x :: r) "behind" e) (hy : symT x = y) (hs : stepT s y = none) : False := by
  obtain ⟨s2, a, _⟩ := wk_cons h
  rw [hy, hs] at a
  cases a
/-- behind an area -/
theorem wk_last {d : Int} {r : List Tk} (h : Wk "last" d r "behind" 0) : (∃ r', r = .sg 41 :: r' ∧ Wk "behind" d r' "behind" 0) ∨ ∃ r', r = .sg 44 :: r' ∧ Wk "area" d r' "behind" 0 := by
  cases r with
  | nil => exact absurd (wk_nil h).1 (by decide +kernel)
  | cons x r =>
    cases x with
    | sg c =>
      obtain ⟨s1, a, _, _, w⟩ := wk_cons h
      rcases sg_last a with ⟨rfl, rfl⟩ | ⟨rfl, rfl⟩
      · rw [dpB_keep (by decide +kernel)] at w
        exact .inr ⟨r, rfl, w⟩
      · rw [dpB_keep (by decide +kernel)] at w
        exact .inl ⟨r, rfl, w⟩
    | dec _ _ => exact (wk_no h (y := "decimal") rfl (by decide +kernel)).elim
    | cel _ _ => exact (wk_no h (y := "address") rfl (by decide +kernel)).elim
    | gone => exact (wk_no h (y := "gone") rfl (by decide +kernel)).elim
    | fn _ => exact (wk_no h (y := "call") rfl (by decide +kernel)).elim
    | name _ => exact (wk_no h (y := "name") rfl (by decide +kernel)).elim
    | bad => exact (wk_no h (y := "bad") rfl (by decide +kernel)).elim
/-- the areas of a call -/
theorem area_walk : ∀ (N : Nat) (xs : List Tk), xs.length ≤ N → ∀ d : Int, Wk "area" d xs "behind" 0 → ∃ a r1 as r, PA xs a r1 ∧ PAs r1 as r ∧ Wk "behind" d r "behind" 0 ∧ r.length < xs.length
  | 0, [], _, d, h => absurd (wk_nil h).1 (by decide +kernel)
  | 0, _ :: _, z, _, _ => absurd z (by simp)
  | N + 1, [], _, d, h => absurd (wk_nil h).1 (by decide +kernel)
  | N + 1, x :: xs, z, d, h => by
    have z : xs.length ≤ N := by
      rw [List.length_cons] at z
      omega
    have last : ∀ {a : Ar} (r1 : List Tk), r1.length ≤ xs.length → PA (x :: xs) a r1 → Wk "last" d r1 "behind" 0 → ∃ a r1 as r, PA (x :: xs) a r1 ∧ PAs r1 as r ∧ Wk "behind" d r "behind" 0 ∧ r.length < (x :: xs).length := fun {a} r1 l1 pa w => by
      rcases wk_last w with ⟨r', rfl, w2⟩ | ⟨r', rfl, w2⟩
      · exact ⟨a, _, [], r', pa, .stop, w2, by rw [List.length_cons] at l1 ⊢; omega⟩
      · rw [List.length_cons] at l1
        obtain ⟨a2, r2, as, r, p1, p2, p3, p4⟩ := area_walk N r' (by omega) d w2
        exact ⟨a, _, a2 :: as, r, pa, .step (fun y => by cases y) p1 p2, p3, by rw [List.length_cons]; omega⟩
    cases x with
    | sg c =>
      obtain ⟨s1, a, _⟩ := wk_cons h
      exact (sg_area a).elim
    | dec _ _ => exact (wk_no h (y := "decimal") rfl (by decide +kernel)).elim
    | fn _ => exact (wk_no h (y := "call") rfl (by decide +kernel)).elim
    | bad => exact (wk_no h (y := "bad") rfl (by decide +kernel)).elim
    | gone => exact last xs (Nat.le_refl _) .gone (wk_at h (y := "gone") (s1 := "last") rfl (by decide +kernel))
    | name w => exact last xs (Nat.le_refl _) .name (wk_at h (y := "name") (s1 := "last") rfl (by decide +kernel))
    | cel a b =>
      have w := wk_at h (y := "address") (s1 := "corner") rfl (by decide +kernel)
      cases xs with
      | nil => exact absurd (wk_nil w).1 (by decide +kernel)
      | cons y ys =>
        cases y with
        | dec _ _ => exact (wk_no w (y := "decimal") rfl (by decide +kernel)).elim
        | fn _ => exact (wk_no w (y := "call") rfl (by decide +kernel)).elim
        | bad => exact (wk_no w (y := "bad") rfl (by decide +kernel)).elim
        | gone => exact (wk_no w (y := "gone") rfl (by decide +kernel)).elim
        | name _ => exact (wk_no w (y := "name") rfl (by decide +kernel)).elim
        | cel _ _ => exact (wk_no w (y := "address") rfl (by decide +kernel)).elim
        | sg c =>
          obtain ⟨s1, e, _, _, w2⟩ := wk_cons w
          rcases sg_corner e with ⟨rfl, rfl⟩ | ⟨rfl, rfl⟩ | ⟨rfl, rfl⟩
          · rw [dpB_keep (by decide +kernel)] at w2
            cases ys with
            | nil => exact absurd (wk_nil w2).1 (by decide +kernel)
            | cons v vs =>
              cases v with
              | sg c => 
                obtain ⟨s1, a, _⟩ := wk_cons w2
                exact (sg_other a).elim
              | dec _ _ => exact (wk_no w2 (y := "decimal") rfl (by decide +kernel)).elim
              | fn _ => exact (wk_no w2 (y := "call") rfl (by decide +kernel)).elim
              | bad => exact (wk_no w2 (y := "bad") rfl (by decide +kernel)).elim
              | gone => exact (wk_no w2 (y := "gone") rfl (by decide +kernel)).elim
              | name _ => exact (wk_no w2 (y := "name") rfl (by decide +kernel)).elim
              | cel c d2 => exact last vs (by rw [List.length_cons, List.length_cons]; omega) .two (wk_at w2 (y := "address") (s1 := "last") rfl (by decide +kernel))
          · rw [dpB_keep (by decide +kernel)] at w2
            have z2 : ys.length + 1 + 1 ≤ N + 1 := z
            obtain ⟨a2, r2, as, r, p1, p2, p3, p4⟩ := area_walk N ys (by omega) d w2
            exact ⟨_, _, a2 :: as, r, .one (fun y => by cases y), .step (fun y => by cases y) p1 p2, p3, by rw [List.length_cons, List.length_cons]; omega⟩
          · rw [dpB_keep (by decide +kernel)] at w2
            exact ⟨_, _, [], ys, .one (fun y => by cases y), .stop, w2, by rw [List.length_cons, List.length_cons]; omega⟩
theorem pl_stop_of {r : List Tk} {p : Nat → Bool} : hd r p = true ∨ hd r p = false := by
  cases h : hd r p
  · exact .inr rfl
  · exact .inl rfl
/-- the rest behind a form: nothing, or a closing bracket -/
def Rest (r : List Tk) : Prop := r = [] ∨ ∃ r', r = .sg 41 :: r'
structure Pr (d : Int) (v : Lv) (xs : List Tk) : Prop where
  ex : ∃ t r, PT (6 - d).toNat v xs t r ∧ Wk "behind" d r "behind" 0 ∧ r.length < xs.length
theorem form_walk : ∀ (N : Nat) (xs : List Tk), xs.length ≤ N → ∀ d : Int, 0 ≤ d → d ≤ 6 → (Wk "primary" d xs "behind" 0 → Pr d .prim xs) ∧ (Wk "factor" d xs "behind" 0 → Pr d .fact xs ∧ ∃ t r, PT (6 - d).toNat .form xs t r ∧ Wk "behind" d r "behind" 0 ∧ r.length < xs.length ∧ Rest r)
  | 0, [], _, d, _, _ => ⟨fun h => absurd (wk_nil h).1 (by decide +kernel), fun h => absurd (wk_nil h).1 (by decide +kernel)⟩
  | 0, _ :: _, z, _, _, _ => absurd z (by simp)
  | N + 1, [], _, d, _, _ => ⟨fun h => absurd (wk_nil h).1 (by decide +kernel), fun h => absurd (wk_nil h).1 (by decide +kernel)⟩
  | N + 1, x :: xs, z0, d, d0, d6 => by
    have z : xs.length ≤ N := by
      rw [List.length_cons] at z0
      omega
    -- what may stand first, at both states
    have prim : ∀ s : Str, (s = "primary" ∨ s = "factor") → (∀ c, x = .sg c → c = 40) → Wk s d (x :: xs) "behind" 0 → Pr d .prim (x :: xs) := fun s hs hx h => by
      have k1 : ∀ s : Str, s = "primary" ∨ s = "factor" → stepT s "decimal" = some "behind" ∧ stepT s "address" = some "behind" ∧ stepT s "gone" = some "behind" ∧ stepT s "call" = some "call" ∧ stepT s "name" = none ∧ stepT s "bad" = none ∧ stepT s "(" = some "factor" ∧ s ≠ "call" ∧ s ≠ "behind" := fun s hs => by
        rcases hs with rfl | rfl <;> decide +kernel
      obtain ⟨k2, k3, k4, k5, k6, k7, k8, k9, k10⟩ := k1 s hs
      have nb : ∀ {y : Str}, y ≠ "(" → ¬ (y = "(" ∧ s ≠ "call") ∧ ¬ (y = ")" ∧ s = "behind") := fun h => ⟨fun z => h z.1, fun z => k10 z.2⟩
      have lt : xs.length < (x :: xs).length := by rw [List.length_cons]; omega
      cases x with
      | dec _ _ => exact ⟨_, _, .dec, wk_at h (y := "decimal") rfl ⟨k2, nb (by decide +kernel)⟩, lt⟩
      | cel _ _ => exact ⟨_, _, .cel, wk_at h (y := "address") rfl ⟨k3, nb (by decide +kernel)⟩, lt⟩
      | gone => exact ⟨_, _, .gone, wk_at h (y := "gone") rfl ⟨k4, nb (by decide +kernel)⟩, lt⟩
      | name _ => exact (wk_no h (y := "name") rfl k6).elim
      | bad => exact (wk_no h (y := "bad") rfl k7).elim
      | fn n =>
        have w := wk_at h (y := "call") rfl ⟨k5, nb (by decide +kernel)⟩
        cases xs with
        | nil => exact absurd (wk_nil w).1 (by decide +kernel)
        | cons y ys =>
          cases y with
          | dec _ _ => exact (wk_no w (y := "decimal") rfl (by decide +kernel)).elim
          | fn _ => exact (wk_no w (y := "call") rfl (by decide +kernel)).elim
          | bad => exact (wk_no w (y := "bad") rfl (by decide +kernel)).elim
          | gone => exact (wk_no w (y := "gone") rfl (by decide +kernel)).elim
          | name _ => exact (wk_no w (y := "name") rfl (by decide +kernel)).elim
          | cel _ _ => exact (wk_no w (y := "address") rfl (by decide +kernel)).elim
          | sg c =>
            obtain ⟨s1, e, _, _, w2⟩ := wk_cons w
            obtain ⟨rfl, rfl⟩ := sg_call e
            rw [dpB_keep (by decide +kernel)] at w2
            obtain ⟨a2, r2, as, r, p1, p2, p3, p4⟩ := area_walk N ys (by have : ys.length + 1 ≤ N := z; omega) d w2
            exact ⟨_, r, .call (.step (fun y => by cases y) p1 p2), p3, by rw [List.length_cons, List.length_cons]; omega⟩
      | sg c =>
        obtain rfl := hx c rfl
        have e40 : symT (.sg 40) = "(" := by decide +kernel
        obtain ⟨s1, e, g0, g1, w⟩ := wk_cons h
        have dp : dpB s (symT (.sg 40)) d = d + 1 := by
          unfold dpB
          rw [e40, if_pos ⟨rfl, k9⟩]
        rw [e40, k8] at e
        cases e
        rw [dp] at g0 g1 w
        obtain ⟨t, r, p1, p2, p3, p4⟩ := ((form_walk N xs z (d + 1) (by omega) g1).2 w).2
        rcases p4 with rfl | ⟨r', rfl⟩
        · have := (wk_nil p2).2
          omega
        · have w3 : Wk "behind" d r' "behind" 0 := by
            obtain ⟨s2, a, b, c, w4⟩ := wk_cons p2
            have e41 : symT (.sg 41) = ")" := by decide +kernel
            have dq : dpB "behind" (symT (.sg 41)) (d + 1) = d := by
              unfold dpB
              rw [e41, if_neg (by decide +kernel), if_pos ⟨rfl, rfl⟩]
              omega
            rw [e41, show stepT "behind" ")" = some "behind" by decide +kernel] at a
            cases a
            rw [dq] at w4
            exact w4
          have en : (6 - d).toNat = (6 - (d + 1)).toNat + 1 := by omega
          refine ⟨t, r', ?_, w3, by rw [List.length_cons] at p3 ⊢; omega⟩
          rw [en]
          exact .par p1
    have fact : Wk "factor" d (x :: xs) "behind" 0 → Pr d .fact (x :: xs) := fun h => by
      by_cases c : x = .sg 45
      · subst c
        have e45 : symT (.sg 45) = "-" := by decide +kernel
        have w := wk_at h (y := "-") (s1 := "primary") e45 (by decide +kernel)
        obtain ⟨t, r, p1, p2, p3⟩ := ((form_walk N xs z d d0 d6).1 w).ex
        exact ⟨_, r, .neg p1, p2, by rw [List.length_cons]; omega⟩
      · obtain ⟨t, r, p1, p2, p3⟩ := (prim "factor" (.inr rfl) (fun c2 hc => by
          subst hc
          obtain ⟨s1, a, _⟩ := wk_cons h
          rcases sg_factor a with ⟨rfl, _⟩ | ⟨rfl, _⟩
          · exact absurd rfl c
          · rfl) h).ex
        exact ⟨t, r, .fact (fun us hu => c (List.head_eq_of_cons_eq hu)) p1, p2, p3⟩
    refine ⟨fun h => prim "primary" (.inl rfl) (fun c hc => by
      subst hc
      obtain ⟨s1, a, _⟩ := wk_cons h
      exact (sg_primary a).1) h, fun h => ⟨fact h, ?_⟩⟩
    have fsh : ∀ {s : List Tk}, s.length ≤ N → Wk "factor" d s "behind" 0 → Pr d .fact s := fun {s} ls w => ((form_walk N s ls d d0 d6).2 w).1
    have noS : ∀ {y : Tk} {s : List Tk}, Wk "behind" d (y :: s) "behind" 0 → ∃ c, y = .sg c ∧ (((isSum c = true ∨ isProd c = true) ∧ Wk "factor" d s "behind" 0) ∨ c = 41) := fun {y s} w => by
      cases y with
      | dec _ _ => exact (wk_no w (y := "decimal") rfl (by decide +kernel)).elim
      | fn _ => exact (wk_no w (y := "call") rfl (by decide +kernel)).elim
      | bad => exact (wk_no w (y := "bad") rfl (by decide +kernel)).elim
      | gone => exact (wk_no w (y := "gone") rfl (by decide +kernel)).elim
      | name _ => exact (wk_no w (y := "name") rfl (by decide +kernel)).elim
      | cel _ _ => exact (wk_no w (y := "address") rfl (by decide +kernel)).elim
      | sg c =>
        refine ⟨c, rfl, ?_⟩
        obtain ⟨s1, e, _, _, w2⟩ := wk_cons w
        rcases sg_behind e with ⟨hc, rfl⟩ | ⟨rfl, _⟩
        · have cs : c = 43 ∨ c = 45 ∨ c = 42 ∨ c = 47 := by
            unfold isSum isProd at hc
            simp at hc
            omega
          have kp : dpB "behind" (symT (.sg c)) d = d := by
            rcases cs with rfl | rfl | rfl | rfl <;> exact dpB_keep (by decide +kernel)
          rw [kp] at w2
          exact .inl ⟨hc, w2⟩
        · exact .inr rfl
    have prodC : ∀ (M : Nat) (r : List Tk) (l : Tr), r.length ≤ M → r.length ≤ N → Wk "behind" d r "behind" 0 → ∃ t r', PL (6 - d).toNat isProd .fact l r t r' ∧ Wk "behind" d r' "behind" 0 ∧ r'.length ≤ r.length ∧ hd r' isProd = false := fun M => by
      induction M with
      | zero =>
        intro r l hr _ w
        obtain rfl : r = [] := List.length_eq_zero_iff.mp (by omega)
        exact ⟨l, [], .stop rfl, w, Nat.le_refl _, rfl⟩
      | succ M ih =>
        intro r l hr hN w
        cases r with
        | nil => exact ⟨l, [], .stop rfl, w, Nat.le_refl _, rfl⟩
        | cons y s =>
          rw [List.length_cons] at hr hN
          obtain ⟨c, rfl, hc⟩ := noS w
          by_cases pc : isProd c = true
          · have w2 : Wk "factor" d s "behind" 0 := by
              rcases hc with ⟨_, w2⟩ | rfl
              · exact w2
              · exact absurd pc (by decide)
            obtain ⟨t, r2, p1, p2, p3⟩ := (fsh (by omega) w2).ex
            obtain ⟨t3, r3, q1, q2, q3, q4⟩ := ih r2 (.op (S [c]) l t) (by omega) (by omega) p2
            exact ⟨t3, r3, .step pc p1 q1, q2, by rw [List.length_cons]; omega, q4⟩
          · exact ⟨l, _, .stop (Bool.eq_false_iff.mpr pc), w, Nat.le_refl _, Bool.eq_false_iff.mpr pc⟩
    have termOf : ∀ {s : List Tk}, s.length ≤ N + 1 → Pr d .fact s → ∃ t r, PT (6 - d).toNat .term s t r ∧ Wk "behind" d r "behind" 0 ∧ r.length < s.length ∧ hd r isProd = false := fun {s} ls pf => by
      obtain ⟨t, r, p1, p2, p3⟩ := pf.ex
      obtain ⟨t2, r2, q1, q2, q3, q4⟩ := prodC N r t (by omega) (by omega) p2
      exact ⟨t2, r2, .term p1 q1, q2, by omega, q4⟩
    have sumC : ∀ (M : Nat) (r : List Tk) (l : Tr), r.length ≤ M → r.length ≤ N → hd r isProd = false → Wk "behind" d r "behind" 0 → ∃ t r', PL (6 - d).toNat isSum .term l r t r' ∧ Wk "behind" d r' "behind" 0 ∧ r'.length ≤ r.length ∧ hd r' isProd = false ∧ hd r' isSum = false := fun M => by
      induction M with
      | zero =>
        intro r l hr _ _ w
        obtain rfl : r = [] := List.length_eq_zero_iff.mp (by omega)
        exact ⟨l, [], .stop rfl, w, Nat.le_refl _, rfl, rfl⟩
      | succ M ih =>
        intro r l hr hN hp w
        cases r with
        | nil => exact ⟨l, [], .stop rfl, w, Nat.le_refl _, rfl, rfl⟩
        | cons y s =>
          rw [List.length_cons] at hr hN
          obtain ⟨c, rfl, hc⟩ := noS w
          by_cases pc : isSum c = true
          · have w2 : Wk "factor" d s "behind" 0 := by
              rcases hc with ⟨_, w2⟩ | rfl
              · exact w2
              · exact absurd pc (by decide)
            obtain ⟨t, r2, p1, p2, p3, p4⟩ := termOf (by omega) (fsh (by omega) w2)
            obtain ⟨t3, r3, q1, q2, q3, q4, q5⟩ := ih r2 (.op (S [c]) l t) (by omega) (by omega) p4 p2
            exact ⟨t3, r3, .step pc p1 q1, q2, by rw [List.length_cons]; omega, q4, q5⟩
          · exact ⟨l, _, .stop (Bool.eq_false_iff.mpr pc), w, Nat.le_refl _, hp, Bool.eq_false_iff.mpr pc⟩
    obtain ⟨t, r, p1, p2, p3, p4⟩ := termOf z0 (fact h)
    obtain ⟨t2, r2, q1, q2, q3, q4, q5⟩ := sumC N r t (by rw [List.length_cons] at p3; omega) (by rw [List.length_cons] at p3; omega) p4 p2
    refine ⟨t2, r2, .form p1 q1, q2, by omega, ?_⟩
    cases r2 with
    | nil => exact .inl rfl
    | cons y s =>
      obtain ⟨c, rfl, hc⟩ := noS q2
      rcases hc with ⟨hc, _⟩ | rfl
      · have e1 : isProd c = false := q4
        have e2 : isSum c = false := q5
        rw [e1, e2] at hc
        rcases hc with y | y <;> cases y
      · exact .inr ⟨s, rfl⟩
/-- what the walk takes whole is a formula -/
theorem walk_reads {xs : List Tk} (h : Wk "factor" 0 xs "behind" 0) : ∃ t, PT 6 .form xs t [] := by
  obtain ⟨t, r, p1, p2, p3, p4⟩ := ((form_walk xs.length xs (Nat.le_refl _) 0 (Int.le_refl 0) (by decide)).2 h).2
  rcases p4 with rfl | ⟨r', rfl⟩
  · exact ⟨t, p1⟩
  · obtain ⟨s1, a, b, _⟩ := wk_cons p2
    have e41 : symT (.sg 41) = ")" := by decide +kernel
    have dq : dpB "behind" (symT (.sg 41)) 0 = -1 := by
      unfold dpB
      rw [e41, if_neg (by decide +kernel), if_pos ⟨rfl, rfl⟩]
      rfl
    rw [dq] at b
    omega
theorem ini_heap {H : Hp} {a d : Addr} {o1 o2 o3 : HO} (hd : d ≠ a) : upd (upd (upd H d o1) a o2) d o3 = upd (upd H d o3) a o2 := by
  funext b
  by_cases h1 : b = d
  · rw [h1, upd_same, upd_ne hd, upd_same]
  · rw [upd_ne h1]
    by_cases h2 : b = a
    · rw [h2, upd_same, upd_same]
    · rw [upd_ne h2, upd_ne h1, upd_ne h2, upd_ne h1]
def spIni2 (K : PySem.W.Frag) (C : Addr) (f g : Str) : Sp := fun vs H Q _ => ∃ (a : Addr) (y z : V), vs = [.ref a, y, z] ∧ H a = some (exo a C none) ∧ ∀ d, H d = none → d ≠ a → Q .non (upd (upd H d (exd d [(g, z), (f, y)])) a (exo a C (some d)))
theorem okFormulaFault_Init (T : Txt P w K mg) : FnOk P w K mg base CX0 1 T.fFormulaFault_Init T.fdFormulaFault_Init ["self", "place", "word"] (spIni2 K T.cFormulaFault "place" "word") := by
  refine T.FFormulaFault_Init.ok scFormulaFault_Init (fun vs H Q E h => ?_) (fun cdv A outer s H vs Q E hr h => ?_)
  · obtain ⟨a, y, z, rfl, _⟩ := h
    rfl
  · obtain ⟨a, y, z, rfl, ha, q⟩ := h
    -- slots self=0 place=1 word=2
    refine ⟨_, (pss_cons (ps_ost (pv 0) (pv 1))
        (pss_one (ps_ost (pv 0) (pv 2)))), ?_⟩
    refine ⟨_, rfl, _, rfl, a, T.cFormulaFault, rfl, T.oKFormulaFault, T.nKFormulaFault_place, .inl ⟨ha, fun d hd nd => ?_⟩⟩
    refine ⟨_, rfl, _, rfl, a, T.cFormulaFault, rfl, T.oKFormulaFault, T.nKFormulaFault_word, .inr ⟨d, [("place", y)], upd_same, by rw [upd_ne nd, upd_same], by show 1 ≤ 900; decide, ?_⟩⟩
    have e := ini_heap (H := H) (o1 := exd d [("place", y)]) (o2 := exo a T.cFormulaFault (some d)) (o3 := exd d [("word", z), ("place", y)]) nd
    show Q .non (upd (upd (upd H d (exd d [("place", y)])) a (exo a T.cFormulaFault (some d))) d (exd d [("word", z), ("place", y)]))
    rw [e]
    exact q d hd nd
/-- what raising such an error asks -/
theorem ini2_of {K : PySem.W.Frag} {C : Addr} {f g : Str} {y z : V} {H : Hp} {Q : XK} (q : ∀ d, H d = none → Q (.ref C) (some d) (upd H d (.xd [(g, z), (f, y)]))) : ∀ a, H a = none → spIni2 K C f g (.ref a :: ([y, z] ++ [])) (upd H a (exo a C none))
    (fun v H2 => v = .non ∧ ∃ (d : Addr) (fs : List (Str × V)), H2 a = some (exo a C (some d)) ∧ H2 d = some (exd d fs) ∧ H d = none ∧ Q (.ref C) (some d) (upd (del H2 a) d (.xd fs))) (fun _ _ _ => False) := fun a ha =>
  ⟨a, y, z, rfl, upd_same, fun d hd hne => by
    have hd0 : H d = none := by
      rw [upd_ne hne] at hd
      exact hd
    refine ⟨rfl, d, _, upd_same, by rw [upd_ne hne, upd_same], hd0, ?_⟩
    rw [mk_heap ha hne]
    exact q d hd0⟩
noncomputable def offU (R C : Int) (u : List Nat) : Bool := decide (kindOf u = "address") && (decide (R ≤ rowA u) || decide (C ≤ colA u))
def spOff (K : PySem.W.Frag) : Sp := fun vs H Q _ => ∃ (p : Addr) (u : List Nat) (R C : Int), vs = [.ref p, .int R, .int C] ∧ Tok H p u ∧ u.length ≤ 2500 ∧ ∀ H', Same H H' → Q (.bl (offU R C u)) H'
theorem okOffGrid (T : Txt P w K mg) : FnOk P w K mg base CX0 3 T.fOffGrid T.fdOffGrid ["token", "rows", "columns"] (spOff K) := by
  refine T.FOffGrid.ok scOffGrid (fun vs H Q E h => ?_) (fun cdv A outer s H vs Q E hr h => ?_)
  · obtain ⟨p, u, R, C, rfl, _⟩ := h
    rfl
  · obtain ⟨p, u, R, C, rfl, hp, hz, q⟩ := h
    -- slots token=0 rows=1 columns=2 row=3 column=4
    refine ⟨_, (pss_cons (ps_if (pt_cmpR op_ne (pe_ix ix_tup (pv 0) pe_int (fun _ _ => rfl)) pe_str (nomark _))
          (pss_one (ps_ret pe_bl))
          pss_nil)
        (pss_cons (ps_asg (pe_call (okReadAddress T) (hr.mono (by decide)) (by rfl) T.gReadAddress T.FReadAddress.kp T.bReadAddress .nil pass0 (pa_cons (pe_ix ix_tup (pv 0) pe_int (fun _ _ => rfl)) pa_nil)) (pg_tup rfl (pgs_cons (pg_name (i := 3) scOffGrid.nd rfl (Or.inl rfl)) (pgs_cons (pg_name (i := 4) scOffGrid.nd rfl (Or.inl rfl)) pgs_nil))))
        (pss_one (ps_ret (pe_or (pe_cmpR op_ge (pv 3) (pv 1) (nomark _)) (pe_one (pe_cmpR op_ge (pv 4) (pv 2) (nomark _)))))))), ?_⟩
    unfold Tok at hp
    unfold offU at q
    by_cases c : kindOf u = "address"
    · obtain ⟨k1, k2, k3, k4, k5, k6, k7, k8, k9, _⟩ := kind_names
      have o : okA u := by
        rcases kind_inv u with ⟨e, _⟩ | ⟨_, o⟩ | e | ⟨e, _⟩ | e
        · exact absurd (e.symm.trans c) k8
        · exact o
        · exact absurd (c.symm.trans e) k6
        · exact absurd (c.symm.trans e) k2
        · exact absurd (e.symm.trans c) k9
      rw [decide_eq_true c, Bool.true_and] at q
      refine ⟨_, rfl, _, _, _, _, rfl, rfl, SqT.of hp, atI_nat (j := 0) rfl, rfl, _, rfl, ?_⟩
      rw [c, decide_eq_true rfl]
      refine iteF ⟨_, rfl, _, _, _, _, rfl, rfl, SqT.of hp, atI_nat (j := 1) rfl, u, rfl, hz, fun z => absurd o z, fun _ p2 H2 s2 h2 => ?_⟩
      refine ⟨p2, _, rfl, SqT.of h2, rfl, _, _, rfl, _, _, rfl, rfl, ?_⟩
      refine ⟨_, rfl, _, rfl, _, _, rfl, rfl, _, rfl, ?_⟩
      have qq := q H2 s2
      by_cases c2 : R ≤ rowA u
      · rw [decide_eq_true c2] at qq ⊢
        exact iteT qq
      · rw [decide_eq_false c2, Bool.false_or] at qq
        rw [decide_eq_false c2]
        exact iteF ⟨_, rfl, _, rfl, _, _, rfl, rfl, qq⟩
    · rw [decide_eq_false c, Bool.false_and] at q
      refine ⟨_, rfl, _, _, _, _, rfl, rfl, SqT.of hp, atI_nat (j := 0) rfl, rfl, _, rfl, ?_⟩
      rw [decide_eq_false fun z => c (V.str.inj z)]
      exact iteT (q H (Same.refl H))
noncomputable def firstOff (R C : Int) : List (List Nat) → Nat → Option Nat
  | [], _ => none
  | u :: r, i => if offU R C u = true then some i else firstOff R C r (i + 1)
/-- the first fault of a row of tokens -/
noncomputable def faultF (R C : Int) (us : List (List Nat)) : Option (Nat × Str) :=
  if 30 < us.length then some (30, "long")
  else if (walkF "factor" 0 (us.map symU) 0).1 < us.length then some ((walkF "factor" 0 (us.map symU) 0).1, "unexpected")
  else if (walkF "factor" 0 (us.map symU) 0).2 = false then some ((walkF "factor" 0 (us.map symU) 0).1, "end")
  else (firstOff R C us 0).map fun i => (i, "range")
/-- any text is read, or its first fault is told -/
def spReadAny (K : PySem.W.Frag) (C : Addr) : Sp := fun vs H Q E => ∃ (a : List Nat) (R_ Cl : Int), vs = [.str (S a), .int R_, .int Cl] ∧ a.length ≤ 2500 ∧
  (∀ f, faultF R_ Cl ((toks a).map Prod.snd) = some f → ∀ d H', Same H H' → H' d = none → E (.ref C) (some d) (upd H' d (.xd [("word", .str f.2), ("place", .int (f.1 : Int))]))) ∧
  (faultF R_ Cl ((toks a).map Prod.snd) = none → ∃ xs t, TYs ((toks a).map Prod.snd) xs ∧ PT 6 .form xs t [] ∧ (∀ x ∈ xs, x ≠ .bad) ∧ ∀ v H', Same H H' → TrAt H' v t → Q v H')
theorem okReadFormula (T : Txt P w K mg) : FnOk P w K mg base (L2N.CX P w) 52 T.fReadFormula T.fdReadFormula ["text", "rows", "columns"] (spReadAny K T.cFormulaFault) := by
  refine okN T.FReadFormula scReadFormula (fun vs H Q E h => ?_) (fun cdv A outer s H vs Q E hr h => ?_)
  · obtain ⟨a, R_, Cl, rfl, _⟩ := h
    rfl
  · obtain ⟨a, R_, Cl, rfl, la, q1, q2⟩ := h
    -- slots text=0 rows=1 columns=2 found=3 many=4 whole=5 at=6 token=7
    refine ⟨_, (pss_cons (ps_set (i := 3) scReadFormula.nd rfl (Or.inl rfl) (pe_call (okTokenList T) (hr.mono (by omega)) (by rfl) T.gTokenList T.FTokenList.kp T.bTokenList .nil pass0 (pa_cons (pv 0) pa_nil)))
        (pss_cons (ps_if (pt_cmpR op_gt (pe_callB call_len_seq (by rfl) T.z_len PySem.boot_len (pa_cons (pv 3) pa_nil)) (pe_glob (v := (.int 30)) rfl T.g_MOST_TOKENS ⟨_, rfl⟩) (nomark _))
          (pss_one (L2N.ps_raise rfl (L2N.takes_of rfl rfl rfl rfl) (mkN T.oKFormulaFault T.iKFormulaFault T.tKFormulaFault (okFormulaFault_Init T) (hr.mono (by decide)) T.bFormulaFault_Init pass0 (by rfl) T.gKFormulaFault (pa_cons (pe_glob (v := (.int 30)) rfl T.g_MOST_TOKENS ⟨_, rfl⟩) (pa_cons pe_str pa_nil)))))
          pss_nil)
        (pss_cons (ps_asg (pe_call (okWalk T) (hr.mono (by omega)) (by rfl) T.gWalk T.FWalk.kp T.bWalk .nil pass0 (pa_cons (pv 3) pa_nil)) (pg_tup rfl (pgs_cons (pg_name (i := 4) scReadFormula.nd rfl (Or.inl rfl)) (pgs_cons (pg_name (i := 5) scReadFormula.nd rfl (Or.inl rfl)) pgs_nil))))
        (pss_cons (ps_if (pt_cmpR op_lt (pv 4) (pe_callB call_len_seq (by rfl) T.z_len PySem.boot_len (pa_cons (pv 3) pa_nil)) (nomark _))
          (pss_one (L2N.ps_raise rfl (L2N.takes_of rfl rfl rfl rfl) (mkN T.oKFormulaFault T.iKFormulaFault T.tKFormulaFault (okFormulaFault_Init T) (hr.mono (by decide)) T.bFormulaFault_Init pass0 (by rfl) T.gKFormulaFault (pa_cons (pv 4) (pa_cons pe_str pa_nil)))))
          pss_nil)
        (pss_cons (ps_if (pt_not (pt_val (pv 5)))
          (pss_one (L2N.ps_raise rfl (L2N.takes_of rfl rfl rfl rfl) (mkN T.oKFormulaFault T.iKFormulaFault T.tKFormulaFault (okFormulaFault_Init T) (hr.mono (by decide)) T.bFormulaFault_Init pass0 (by rfl) T.gKFormulaFault (pa_cons (pv 4) (pa_cons pe_str pa_nil)))))
          pss_nil)
        (pss_cons (ps_for (passes_of rfl) rfl (pi_enum (by rfl) T.z_enumerate (pa_cons (pv 3) pa_nil)) (pg_tup rfl (pgs_cons (pg_name (i := 6) scReadFormula.nd rfl (Or.inl rfl)) (pgs_cons (pg_name (i := 7) scReadFormula.nd rfl (Or.inl rfl)) pgs_nil)))
          (pss_one (ps_if (pt_val (pe_call (okOffGrid T) (hr.mono (by omega)) (by rfl) T.gOffGrid T.FOffGrid.kp T.bOffGrid .nil pass0 (pa_cons (pv 7) (pa_cons (pv 1) (pa_cons (pv 2) pa_nil)))))
            (pss_one (L2N.ps_raise rfl (L2N.takes_of rfl rfl rfl rfl) (mkN T.oKFormulaFault T.iKFormulaFault T.tKFormulaFault (okFormulaFault_Init T) (hr.mono (by decide)) T.bFormulaFault_Init pass0 (by rfl) T.gKFormulaFault (pa_cons (pv 6) (pa_cons pe_str pa_nil)))))
            pss_nil)))
        (pss_one (ps_ret (pe_ix ix_tup (pe_call (okFormula T 7) (hr.mono (by omega)) (by rfl) T.gFormula T.FFormula.kp T.bFormula .nil pass0 (pa_cons (pv 3) (pa_cons pe_int pa_nil))) pe_int (fun _ _ => rfl)))))))))), ?_⟩
    have tin := toks_in a.length a (Nat.le_refl _)
    have et := toks_dU a
    have us_in : ∀ u ∈ (toks a).map Prod.snd, u.length ≤ 2500 ∧ (kindOf u = "sign" → ∃ c, u = [c]) := fun u hu => by
      obtain ⟨e, he, rfl⟩ := List.mem_map.mp hu
      obtain ⟨_, h2, h3⟩ := tin e he
      exact ⟨Nat.le_trans h2 la, h3⟩
    have ul : ((toks a).map Prod.snd).length ≤ 2500 := by
      rw [List.length_map]
      exact Nat.le_trans (toks_len a.length a (Nat.le_refl _)) la
    generalize (toks a).map Prod.snd = us at q1 q2 et us_in ul
    have rl : ∀ {H1 : Hp} {rs : List V}, Rep H1 rs (dU us) → rs.length = us.length := fun R => by
      rw [R.len]
      unfold dU
      rw [List.length_map]
    refine ⟨_, rfl, a, rfl, la, fun d H1 rs s1 hd R => ?_⟩
    rw [et] at R
    refine ⟨_, rfl, d, rs, rfl, .inl (SqL.of hd), _, _, rfl, rfl, _, rfl, ?_⟩
    rw [rl R]
    unfold faultF at q1 q2
    by_cases big : 30 < us.length
    · rw [if_pos big] at q1
      rw [decide_eq_true (show (30 : Int) < (us.length : Int) by omega)]
      exact iteT ⟨by decide, ini2_of fun d2 hd2 => q1 _ rfl d2 H1 s1 hd2⟩
    rw [if_neg big] at q1 q2
    rw [decide_eq_false (show ¬ (30 : Int) < (us.length : Int) by omega)]
    refine iteF ⟨_, rfl, d, rs, us, rfl, hd, R, ul, fun u hu => (us_in u hu).1, fun p H2 s2 hp => ?_⟩
    have hd2 := s2 _ _ hd
    have R2 := R.mono (TK.of s2)
    have wle := walkF_le (us.map symU) "factor" 0 0
    have whole := walk_whole us "factor" 0 0 us_in
    rw [List.length_map, Nat.zero_add] at wle
    rw [Nat.zero_add] at whole
    generalize walkF "factor" 0 (us.map symU) 0 = wf at hp q1 q2 wle whole
    obtain ⟨n, b⟩ := wf
    refine ⟨p, _, rfl, SqT.of hp, rfl, _, _, rfl, _, _, rfl, rfl, _, rfl, _, rfl, d, rs, rfl, .inl (SqL.of hd2), _, _, rfl, rfl, _, rfl, ?_⟩
    rw [rl R]
    by_cases c1 : n < us.length
    · rw [if_pos c1] at q1
      rw [decide_eq_true (show ((n : Nat) : Int) < (us.length : Int) by omega)]
      exact iteT ⟨_, rfl, (by show 2 ≤ 1000; decide), ini2_of fun d2 hd3 => q1 _ rfl d2 H2 (s1.trans s2) hd3⟩
    rw [if_neg c1] at q1 q2
    rw [decide_eq_false (show ¬ ((n : Nat) : Int) < (us.length : Int) by omega)]
    have en : n = us.length := by
      have : n ≤ us.length := wle
      omega
    subst en
    refine iteF ⟨_, rfl, b, rfl, ?_⟩
    cases b with
    | false =>
      rw [if_pos rfl] at q1
      exact iteT ⟨_, rfl, (by show 2 ≤ 1000; decide), ini2_of fun d2 hd3 => q1 _ rfl d2 H2 (s1.trans s2) hd3⟩
    | true =>
    rw [if_neg (fun z => nomatch z)] at q1 q2
    refine iteF ⟨_, rfl, d, rs, rfl, SqL.of hd2, for_it (walk_enum (xs := rs)) (fun i σ H' => Same H2 H' ∧ firstOff R_ Cl (us.drop i) i = firstOff R_ Cl us 0 ∧ ∃ (c6 c7 : Option V), σ = [some (.str (S a)), some (.int R_), some (.int Cl), some (.ref d), some (.int (us.length : Int)), some (.bl true), c6, c7]) ⟨Same.refl H2, rfl, none, none, rfl⟩ (fun i σ H' _ h => SqL.of (h.1 _ _ hd2)) ?_ ?_⟩
    · rintro i v σ H3 H4 hi ⟨s3, fo, c6, c7, rfl⟩ ⟨b, x1, x2, rfl, hb, rfl, e1, e2⟩
      cases e1
      have hui : i < us.length := by rw [← rl R]; exact hi
      obtain ⟨u, hu⟩ : ∃ u, us[i]? = some u := ⟨_, List.getElem?_eq_getElem hui⟩
      have hD : (dU us)[i]? = some (kindOf u, u) := by
        unfold dU
        rw [List.getElem?_map, hu]
        rfl
      obtain ⟨q0, rfl, hq⟩ := R2.at_ i x2 _ _ e2 hD
      have s4 := same_new (o := .tup [.int ((i : Nat) : Int), .ref q0]) hb
      have ed : us.drop i = u :: us.drop (i + 1) := by
        obtain ⟨hlt, e⟩ := List.getElem?_eq_some_iff.mp hu
        rw [List.drop_eq_getElem_cons hlt, e]
      rw [ed] at fo
      have fo : (if offU R_ Cl u = true then some i else firstOff R_ Cl (us.drop (i + 1)) (i + 1)) = firstOff R_ Cl us 0 := fo
      refine ⟨_, _, rfl, SqT.of upd_same, rfl, _, _, rfl, _, _, rfl, rfl, _, rfl, _, rfl, _, rfl, q0, u, R_, Cl, rfl, (s3.trans s4) _ _ hq, (us_in u (List.mem_of_getElem? hu)).1, fun H5 s5 => ⟨offU R_ Cl u, rfl, ?_⟩⟩
      have s15 := (s1.trans s2).trans ((s3.trans s4).trans s5)
      cases ho : offU R_ Cl u with
      | true =>
        rw [ho, if_pos rfl] at fo
        rw [← fo] at q1
        exact iteT ⟨_, rfl, (by show 2 ≤ 1000; decide), ini2_of fun d2 hd3 => q1 _ rfl d2 H5 s15 hd3⟩
      | false =>
        rw [ho, if_neg (fun z => nomatch z)] at fo
        exact iteF ⟨(s3.trans s4).trans s5, fo, _, _, rfl⟩
    · rintro σ H3 ⟨s3, fo, c6, c7, rfl⟩
      rw [rl R, List.drop_length] at fo
      have fo : none = firstOff R_ Cl us 0 := fo
      rw [← fo] at q2
      obtain ⟨xs, t, tx, pt, nb, q3⟩ := q2 rfl
      have L : TLs H3 d rs us xs := ⟨s3 _ _ hd2, R2.mono (TK.of s3), tx, nb, by rw [← tx.len]; omega⟩
      refine ⟨_, rfl, d, rs, us, xs, 0, 6, t, [], rfl, L, by decide, pt, fun p2 v j H4 s4 h4 tr _ => ?_⟩
      exact ⟨p2, _, _, _, rfl, rfl, SqT.of h4, atI_nat (j := 0) rfl, q3 v H4 (((s1.trans s2).trans s3).trans s4) tr⟩
/-- a row of tokens without a fault is read as some tree -/
theorem read_some {R C : Int} {us : List (List Nat)} (hu : ∀ u ∈ us, u.length ≤ 2500 ∧ (kindOf u = "sign" → ∃ c, u = [c])) (h : faultF R C us = none) : us.length ≤ 30 ∧ (∀ u ∈ us, offU R C u = false) ∧ ∃ xs t, TYs us xs ∧ PT 6 .form xs t [] ∧ (∀ x ∈ xs, x ≠ .bad) := by
  unfold faultF at h
  by_cases big : 30 < us.length
  · rw [if_pos big] at h
    cases h
  rw [if_neg big] at h
  have wle := walkF_le (us.map symU) "factor" 0 0
  have whole := walk_whole us "factor" 0 0 hu
  rw [List.length_map, Nat.zero_add] at wle
  rw [Nat.zero_add] at whole
  generalize walkF "factor" 0 (us.map symU) 0 = wf at h wle whole
  obtain ⟨n, b⟩ := wf
  by_cases c1 : n < us.length
  · rw [if_pos c1] at h
    cases h
  rw [if_neg c1] at h
  have en : n = us.length := by
    have : n ≤ us.length := wle
    omega
  subst en
  cases b with
  | false =>
    rw [if_pos rfl] at h
    cases h
  | true =>
    rw [if_neg (fun z => nomatch z)] at h
    have fo : firstOff R C us 0 = none := by
      cases e : firstOff R C us 0 with
      | none => rfl
      | some i =>
        rw [e] at h
        cases h
    have gen : ∀ (l : List (List Nat)) (i : Nat), firstOff R C l i = none → ∀ u ∈ l, offU R C u = false := fun l => by
      induction l with
      | nil => exact fun _ _ _ h => nomatch h
      | cons v r ih =>
        intro i h u hu
        have h : (if offU R C v = true then some i else firstOff R C r (i + 1)) = none := h
        by_cases c : offU R C v = true
        · rw [if_pos c] at h
          cases h
        rw [if_neg c] at h
        rcases List.mem_cons.mp hu with rfl | h2
        · exact Bool.eq_false_iff.mpr c
        · exact ih _ h u h2
    obtain ⟨xs, tx, wk, nb⟩ := whole rfl
    obtain ⟨t, pt⟩ := walk_reads wk
    exact ⟨by omega, gen us 0 fo, xs, t, tx, pt, nb⟩
end
end My
namespace My
open PySem PySem.Spec PyProof.Rows L2 RZ
section
variable {P : Program} {w : World} {K : PySem.W.Frag} {mg : Str → Option Value} {base : Heap}
open L2H
open SX (S S_len S_cat slice_to slice_from num_S int_S)
open PySem.NumText (digitsVal AllDigits)
open TL (numL)
/-- c, the code object of the def at f, and its table tp -/
def TabF (K : PySem.W.Frag) (base : Heap) (mg : Str → Option Value) (f c tp : Addr) : Prop := (∃ (o : Obj) (fd : FuncData), K.lookup f = some o ∧ o.data = .func fd ∧ fd.code = .ref c) ∧ K.lookup tp = none ∧ LamX.TabB base mg c tp
/-! ### closures: what a lambda and a nested def promise to whoever gets them -/
/-- the function object at f is the lambda with the words F and the body e -/
def LamO (f : Addr) (F : NdefX.NF) (e : Expr) : HO := .ext fun h => ∃ pm ctv : Value, h.get? f = some (PySem.W.kla_obj "<lambda>" F.qual F.params e F.scope F.cl pm F.c ctv)
theorem lamO_ne {f : Addr} {F : NdefX.NF} {e : Expr} (ps : Array Value) : LamO f F e ≠ .tbl ps := by
  intro z
  unfold LamO at z
  injection z
theorem lamO_at {P : Program} {w : World} {H : Hp} {h : Heap} {f : Addr} {F : NdefX.NF} {e : Expr} (ok : HOk P w H h) (g : H f = some (LamO f F e)) : ∃ pm ctv : Value, h.get? f = some (PySem.W.kla_obj "<lambda>" F.qual F.params e F.scope F.cl pm F.c ctv) := (ok f _ g).1
/-- one more code object in the table at P: what the tables tell stays, all else too -/
theorem tabs_more {T : List NdefX.NTab} {H : Hp} {P c' : Addr} {nm : Nat → Nat → Str} {pos : Pos} {ps : Array Value} (hT : NdefX.TabsN T H) (hP : H P = some (.tbl ps)) (hm : (P, nm) ∈ T) (hu : ∀ p ∈ T, p.1 = P → p.2 = nm) (nC : H c' = none) :
    LamX.ExtN H (upd (upd H P (.tbl (ps ++ #[rawInt pos.line, rawInt pos.col, .ref c']))) c' (LamX.CodeO c' (nm pos.line pos.col))) ∧
    NdefX.TabsN T (upd (upd H P (.tbl (ps ++ #[rawInt pos.line, rawInt pos.col, .ref c']))) c' (LamX.CodeO c' (nm pos.line pos.col))) := by
  have grow : LamX.ExtN H (upd (upd H P (.tbl (ps ++ #[rawInt pos.line, rawInt pos.col, .ref c']))) c' (LamX.CodeO c' (nm pos.line pos.col))) := by
    intro b o e plain
    have b1 : b ≠ c' := by
      rintro rfl
      rw [nC] at e
      cases e
    have b2 : b ≠ P := by
      rintro rfl
      rw [hP] at e
      exact plain ps (Option.some.inj e).symm
    rw [upd_ne b1, upd_ne b2, e]
  refine ⟨grow, fun q hq => ?_⟩
  obtain ⟨qs, e1, e2, e3⟩ := hT q hq
  have q1 : q.1 ≠ c' := by
    intro z
    rw [z, nC] at e1
    cases e1
  by_cases here : q.1 = P
  · rw [here, hP] at e1
    have eq : qs = ps := by
      injection e1 with e1
      injection e1 with e1
      exact e1.symm
    subst eq
    have at_ : upd (upd H P (.tbl (qs ++ #[rawInt pos.line, rawInt pos.col, .ref c']))) c' (LamX.CodeO c' (nm pos.line pos.col)) q.1 = some (.tbl (qs ++ #[rawInt pos.line, rawInt pos.col, .ref c'])) := by
      rw [upd_ne q1, here, upd_same]
    have li : (qs ++ #[rawInt pos.line, rawInt pos.col, .ref c']).toList = qs.toList ++ [rawInt pos.line, rawInt pos.col, .ref c'] := by simp
    refine ⟨_, at_, by rw [li]; exact PySem.TriplesOk_snoc _ _ _ _ e2, fun p2 cv found => ?_⟩
    rw [li] at found
    rcases NdefX.among_app2 _ e2 found with old | ⟨new, l1, l2⟩
    · obtain ⟨c0, f1, f2⟩ := e3 p2 cv old
      exact ⟨c0, f1, grow _ _ f2 LamX.codeO_ne⟩
    · refine ⟨c', new, ?_⟩
      rw [hu q hq here, ← l1, ← l2]
      exact upd_same
  · refine ⟨qs, by rw [upd_ne q1, upd_ne here, e1], e2, fun p2 cv found => ?_⟩
    obtain ⟨c0, f1, f2⟩ := e3 p2 cv found
    exact ⟨c0, f1, grow _ _ f2 LamX.codeO_ne⟩
/-- the reading of a lambda as a value -/
def tLamV (T : List NdefX.NTab) (e : Expr) (mk : Addr → NdefX.NF) : TE := fun _ H Q => NdefX.TabsN T H ∧ ∀ (f c' : Addr) (H1 : Hp), LamX.ExtN H H1 → NdefX.TabsN T H1 → H f = none → H1 f = some (LamO f (mk c') e) → H1 c' = some (LamX.CodeO c' (mk c').qual) → Q (.ref f) H1
/-- the new function object is tracked -/
theorem inv_lamO {X : Cx} {pins : List (Addr × Obj)} {σ : L2.St} {H : Hp} {s : Shared} {F : NdefX.NF} {e : Expr} {pm ctv : Value} {t' : Nat} (I : Inv X pins σ H s) :
    Inv X pins σ (upd H s.heap.objs.size (LamO s.heap.objs.size F e)) { s with heap := s.heap.push (PySem.W.kla_obj "<lambda>" F.qual F.params e F.scope F.cl pm F.c ctv), toks := t' } := by
  have here : (s.heap.push (PySem.W.kla_obj "<lambda>" F.qual F.params e F.scope F.cl pm F.c ctv)).get? s.heap.objs.size = some (PySem.W.kla_obj "<lambda>" F.qual F.params e F.scope F.cl pm F.c ctv) := Heap.get?_push_size _ rfl
  refine I.laid (a := s.heap.objs.size) (fun b u z => Heap.get?_push_of_some _ z) (Nat.le_refl _) ⟨⟨pm, ctv, here⟩, ⟨_, here⟩, ?_⟩
  rintro h1 h2 ⟨p, c, z⟩ st
  exact ⟨p, c, st _ z⟩
theorem pe_lamV {X : Cx} {T : List NdefX.NTab} {nm : Nat → Nat → Str} {c P : Addr} {params : Arguments} {body : Expr} {scope : Scope} {pos : Pos} (TB : LamX.TabB X.base X.mg c P) (hcode : X.env.code = .ref c) (hm : (P, nm) ∈ T) (hn : nm pos.line pos.col = X.env.qual ++ "<lambda>")
    (hu : ∀ p ∈ T, p.1 = P → p.2 = nm) (hdef : defaultsOf params X.env = ([], [])) (hfree : ∀ y ∈ scope.names, y.2 = .free → X.env.scope.names.lookup y.1 = some .cell ∨ X.env.scope.names.lookup y.1 = some .free) :
    PE X (.Lambda params body scope pos) (tLamV T body fun c' => ⟨"<lambda>", X.env.qual ++ "<lambda>", params, [], scope, cloFrom X.env.cells scope.names [], c'⟩) := by
  refine ⟨fun pins s σ H Q I h => PySem.W.kla_eval hdef ?_⟩
  obtain ⟨hT, h⟩ := h
  obtain ⟨ps, hP, triples, names⟩ : NdefX.TabN H P nm := hT _ hm
  have cells : ∀ y ∈ scope.names, y.2 = .free → ∃ c, X.env.cells.lookup y.1 = some c := fun y hy e => I.ok.has y.1 (hfree y hy e)
  have tab : s.heap.get? P = some { cls := .none, data := .fields ps } := I.hok P _ hP
  rcases found : codeAmong pos ps.toList with _ | cv
  · refine PySem.W.kla_makeFunction (mg := X.mg) (c := c) (P := P) (ps := ps) (closure_ok cells) I.ok.glob (I.mod.glob.keeps I.bk) hcode (TB.code.keeps I.bk) tab triples found TB.gP (TB.bm.keeps I.bk) fun c' ctv h' tk old new below ⟨c2, oc, vs, t, same, oc1, oc2, oc3⟩ grown => ?_
    obtain rfl : c2 = c' := by injection same.symm
    have nC : H c2 = none := I.hok.fresh new
    have J := LamX.inv_table (t' := tk) (more := #[rawInt pos.line, rawInt pos.col, .ref c2]) (q := X.env.qual ++ "<lambda>") (h' := h') I hP (fun b o hb e => old b o hb e) grown new ⟨oc, vs, t, oc1, oc2, oc3⟩
    have M := tabs_more (pos := pos) hT hP hm hu nC
    rw [hn] at M
    have nF := J.hok.fresh (Nat.le_refl _)
    have big : s.heap.objs.size ≤ h'.objs.size := Nat.le_trans new (Nat.le_of_lt below)
    refine ⟨.ref h'.objs.size, _, inv_lamO (F := ⟨"<lambda>", X.env.qual ++ "<lambda>", params, [], scope, cloFrom X.env.cells scope.names [], c2⟩) (e := body) (pm := (X.mg "__name__").getD .none) (ctv := ctv) (t' := tk) J, rfl, ?_⟩
    refine h _ c2 _ (fun b o e n => ?_) (M.2.ext fun b o e => ?_) (I.hok.fresh big) upd_same ?_
    · have e1 := M.1 b o e n
      rw [upd_ne (ne_of_none e1 nF), e1]
    · rw [upd_ne (ne_of_none e nF), e]
    · rw [upd_ne (Nat.ne_of_lt below), upd_same]
  · obtain ⟨c', rfl, known⟩ := names pos cv found
    rw [hn] at known
    refine PySem.W.kla_makeFunctionHit (mg := X.mg) (c := c) (P := P) (ps := ps) (closure_ok cells) I.ok.glob (I.mod.glob.keeps I.bk) hcode (TB.code.keeps I.bk) tab triples found (TB.bm.keeps I.bk) fun ctv h' tk old big => ?_
    have J : Inv X pins σ H { s with heap := h', toks := tk } := I.kept old
    have nF := J.hok.fresh (Nat.le_refl _)
    refine ⟨.ref h'.objs.size, _, inv_lamO (F := ⟨"<lambda>", X.env.qual ++ "<lambda>", params, [], scope, cloFrom X.env.cells scope.names [], c'⟩) (e := body) (pm := (X.mg "__name__").getD .none) (ctv := ctv) (t' := tk) J, rfl, ?_⟩
    refine h _ c' _ (fun b o e n => ?_) (hT.ext fun b o e => ?_) nF upd_same ?_
    · rw [upd_ne (ne_of_none e nF), e]
    · rw [upd_ne (ne_of_none e nF), e]
    · rw [upd_ne (ne_of_none known nF), known]
/-- what captured cells hold, in a heap that nothing changes -/
def CB (cl : List (Str × Addr)) (fr : List Str) (ws : List (Option V)) (B : Heap) : Prop := NdefX.CellsAt cl fr ws B fun _ => none
theorem cb_at {P : Program} {w : World} {K : PySem.W.Frag} {mg : Str → Option Value} {B : Heap} {A : Around} {outer : List Env} {s : Shared} {H : Hp} {cl : List (Str × Addr)} {fr : List Str} {ws : List (Option V)} (e : Env0 P w K mg B A outer s H) (C : CB cl fr ws B) : NdefX.CellsAt cl fr ws s.heap H := by
  have mv : ∀ c v, B.IsCell c v → s.heap.IsCell c v := fun c v ⟨o, ho, hd⟩ => ⟨o, (e.bs c o ho).1, hd⟩
  refine ⟨C.len, fun y c z => ?_, C.inj, fun i y z => ?_⟩
  · obtain ⟨_, v, o, ho, hd⟩ := C.all y c z
    exact ⟨(e.bs c o ho).2, v, o, (e.bs c o ho).1, hd⟩
  · obtain ⟨c, hc, hv⟩ := C.has i y z
    refine ⟨c, hc, fun v ev => ?_⟩
    obtain ⟨u, r, z⟩ := hv v ev
    exact ⟨u, r, mv _ _ z⟩
def BX (B B' : Heap) : Prop := ∀ b o, B.get? b = some o → B'.get? b = some o
/-- the fixed part of the heap may take in the running def's cells -/
theorem base_more {X : Cx} {pins : List (Addr × Obj)} {σ : L2.St} {H : Hp} {s : Shared} {cl : List (Str × Addr)} {fr : List Str} {ws : List (Option V)} (I : Inv X pins σ H s) (C : NdefX.CellsAt cl fr ws s.heap H) (own : ∀ y c, cl.lookup y = some c → X.s_0.heap.objs.size ≤ c) (st : X.stack = X.env :: X.outer) (loc : X.env.frame = some X.env.locals) (nloc : ∀ y c, cl.lookup y = some c → c ≠ X.env.locals) :
    ∃ B : Heap, BX X.base B ∧ CB cl fr ws B ∧ Env0 X.prog X.w X.K X.mg B X.A X.stack s H := by
  classical
  let keepP : Addr → Prop := fun b => (∃ o, X.base.get? b = some o) ∨ ∃ y, cl.lookup y = some b
  let G : Hp := fun b => if keepP b then none else some (.tbl #[])
  have yes : ∀ b, keepP b → G b = none := fun b z => if_pos z
  have bx : BX X.base (hidT s.heap G) := fun b o e => hidT_get (I.bk b o e) (yes b (.inl ⟨o, e⟩))
  have of : ∀ b o, (hidT s.heap G).get? b = some o → s.heap.get? b = some o ∧ keepP b := fun b o e => by
    obtain ⟨e1, e2⟩ := of_hidT e
    refine ⟨e1, ?_⟩
    by_cases z : keepP b
    · exact z
    · have : G b = some (.tbl #[]) := if_neg z
      rw [this] at e2
      cases e2
  have cellN : ∀ b, keepP b → H b = none := fun b z => by
    rcases z with ⟨o, z⟩ | ⟨y, z⟩
    · exact (I.bs b o z).2
    · exact (C.all y b z).1
  have mv : ∀ y c v, cl.lookup y = some c → s.heap.IsCell c v → (hidT s.heap G).IsCell c v := fun y c v z ⟨o, ho, hd⟩ => ⟨o, hidT_get ho (yes c (.inr ⟨y, z⟩)), hd⟩
  refine ⟨hidT s.heap G, bx, ⟨C.len, fun y c z => ⟨rfl, ?_⟩, C.inj, fun i y z => ?_⟩, ⟨I.ok.frames, ?_, fun b o e => ⟨(of b o e).1, cellN b (of b o e).2⟩, Nat.le_of_eq (hidT_size _ _), ?_, I.stkFree, I.hok, I.bare⟩⟩
  · obtain ⟨_, v, z2⟩ := C.all y c z
    exact ⟨v, mv y c v z z2⟩
  · obtain ⟨c, hc, hv⟩ := C.has i y z
    refine ⟨c, hc, fun v ev => ?_⟩
    obtain ⟨u, r, z2⟩ := hv v ev
    exact ⟨u, r, mv y c _ hc z2⟩
  · obtain ⟨k1, k2, ⟨mb, k3, k4⟩, k5⟩ := I.mod
    exact ⟨k1.keeps bx, k2.keeps bx, ⟨mb, k3.keeps bx, k4⟩, k5.keeps bx⟩
  · refine L2.funFrames_none I.stack fun L hL => ?_
    cases e : (hidT s.heap G).get? L with
    | none => rfl
    | some o =>
      exfalso
      rcases (of L o e).2 with ⟨o2, z⟩ | ⟨y, z⟩
      · have := (I.stack.mem hL).1
        rw [z] at this
        cases this
      · rw [st] at hL
        have hL : L ∈ X.env.locals :: X.fs := by
          unfold frs at hL
          rw [List.filterMap_cons, loc] at hL
          exact hL
        rcases List.mem_cons.mp hL with z2 | z2
        · exact nloc y L z z2
        · obtain ⟨_, o2, ho2, _⟩ := I.ok.funs.mem z2
          exact absurd (Nat.lt_of_lt_of_le (Heap.lt_size ho2) (own y L z)) (Nat.lt_irrefl _)
/-! ### calls of what was handed over; calls with the running def's cells in the fixed part -/
structure Clo (P : Program) (w : World) (K : PySem.W.Frag) (mg : Str → Option Value) (base : Heap) (k : Nat) (kn : Hp → Prop) (f : Addr) (sp : Sp) : Prop where
  fn : ∀ (H : Hp) (h : Heap), HOk P w H h → kn H → PySem.W.FnAt f h
  run : ∀ (A : Around) (outer : List Env) (s : Shared) (H : Hp) (us : List Value) (vs : List V) (Q : VK), Room k A → Env0 P w K mg base A outer s H → kn H → Vals vs us → sp vs H Q E0 → codeAny (model P w) A (.call (.ref f) ⟨us, []⟩) (CR CX0 outer P w H s Q E0) s
def KnF (f : Addr) (F : NdefX.NF) (H : Hp) : Prop := H f = some (NdefX.FnO f F) ∧ H F.c = some (LamX.CodeO F.c F.qual)
def KnL (f : Addr) (F : NdefX.NF) (e : Expr) (H : Hp) : Prop := H f = some (LamO f F e) ∧ H F.c = some (LamX.CodeO F.c F.qual)
theorem KnF.ext {f : Addr} {F : NdefX.NF} {H H' : Hp} (z : KnF f F H) (x : LamX.ExtN H H') : KnF f F H' := ⟨x _ _ z.1 NdefX.fnO_ne, x _ _ z.2 LamX.codeO_ne⟩
theorem KnL.ext {f : Addr} {F : NdefX.NF} {e : Expr} {H H' : Hp} (z : KnL f F e H) (x : LamX.ExtN H H') : KnL f F e H' := ⟨x _ _ z.1 lamO_ne, x _ _ z.2 LamX.codeO_ne⟩
theorem extN_of {H H' : Hp} (s : Same H H') : LamX.ExtN H H' := fun b o e _ => s b o e
section
variable {P : Program} {w : World} {K : PySem.W.Frag} {mg : Str → Option Value} {base : Heap} {N ps fr : List Str} {F : NdefX.NF} {f : Addr} {k : Nat} {ws : List (Option V)}
theorem clo_nd {sp : List (Option V) → Sp} (o : NdefX.NOk P w K mg base CX0 k f F ps fr sp) (C : CB F.cl fr ws base) : Clo P w K mg base k (KnF f F) f (sp ws) := by
  refine ⟨fun H h ok z => ?_, fun A outer s H us vs Q hr e z r q => o.run A outer s H us vs ws Q E0 hr e z.1 z.2 (cb_at e C) r q⟩
  obtain ⟨od, sl, doc, pm, ctv, ho⟩ := NdefX.fnO_at ok z.1
  exact ⟨_, od, _, sl, ho⟩
theorem clo_lam {sp : Sp} {e : Expr} (S : NdefX.NScope N ps fr F.scope) (bind : ∀ (pm ctv : Value) (us : List Value), us.length = ps.length → bindArgs (PySem.W.kla_fn "<lambda>" F.qual F.params e F.scope F.cl pm (.ref F.c) ctv) ⟨us, []⟩ = pure (ps.zip us))
    (len : ∀ vs H Q, sp vs H Q E0 → vs.length = ps.length) (C : CB F.cl fr ws base)
    (body : ∀ (A : Around) (outer : List Env) (s : Shared) (H : Hp) (vs : List V) (Q : VK), Room k (A.deeper (NdefX.envF F f s.heap.objs.size)) → KnL f F e H → sp vs H Q E0 →
      ∃ t, PE (NdefX.ncx CX0 P w K mg base N F f A outer s H E0) e t ∧ t (NdefX.startF N vs ws) H Q) : Clo P w K mg base (k + 1) (KnL f F e) f sp := by
  refine ⟨fun H h ok z => ?_, fun A outer s H us vs Q hr e0 z r q => ?_⟩
  · obtain ⟨pm, ctv, ho⟩ := lamO_at ok z.1
    exact ⟨_, _, _, _, ho⟩
  have many := len vs H Q q
  have lim : s.heap.NoLimit := e0.mod.nolimit.keeps fun b o e => (e0.bs b o e).1
  obtain ⟨pm, ctv, ho⟩ := lamO_at e0.hok z.1
  refine PySem.W.kla_callFunE hr.depth ho rfl S.co S.gen rfl (NdefX.codeO_at e0.hok z.2) ?_
  rw [bind pm ctv us (by rw [← r.length]; exact many)]
  refine wpAny_pure (wpAny_newFunctionEnv S.nocell (fun ⟨n, _⟩ hy => S.par n (List.of_mem_zip hy).1) (fun h₁ hns hsb => ⟨lim.fresh _ hsb, ?_⟩) S.kind)
  show codeAny _ _ (.expr e (NdefX.envF F f s.heap.objs.size)) _ _
  obtain ⟨t, ht, hq⟩ := body A outer s H vs Q (hr.deeper _) z q
  have I : Inv (NdefX.ncx CX0 P w K mg base N F f A outer s H E0) [] (NdefX.startF N vs ws) H { s with heap := h₁, toks := s.toks + (ps.zip us).length } :=
    NdefX.inv_startN S hr.hd e0 many r (cb_at e0 C) hns fun b o e => hsb.extBut b o (Nat.ne_of_lt (Heap.lt_size e)) (Heap.get?_push_of_some _ e)
  refine PySem.W.kla_codeExpr (wpAny_mono (ht.run [] _ _ H Q I hq) (fun v s' done => ?_) fun _ _ z => z)
  obtain ⟨y, H', J, rv, q⟩ := done
  exact ⟨y, H', J.os, J.bare, J.base, J.hok, rv, q⟩
end
/-- f(..), f a name that holds what was handed over -/
def tCallP (P : Program) (w : World) (K : PySem.W.Frag) (mg : Str → Option Value) (base : Heap) (k i : Nat) (t : TA) : TE := fun σ H Q => ∃ (f : Addr) (kn : Hp → Prop) (sp : Sp), σ[i]? = some (some (.ref f)) ∧ Clo P w K mg base k kn f sp ∧ kn H ∧ t σ H fun vs H1 => kn H1 ∧ sp vs H1 Q E0
/-- g(..), g a def at the top, called with the captured cells in the fixed part -/
def tCallB (base : Heap) (cl : List (Str × Addr)) (fr : List Str) (js : List Nat) (sp : Heap → Sp) (t : TA) : TE := fun σ H Q => t σ H fun vs H1 => ∀ B, BX base B → CB cl fr (js.map (NdefX.slotAt σ)) B → sp B vs H1 Q E0
section
variable {X : Cx} {k j i : Nat} {x : Str} {t : TA} {e : Expr} {es : List Expr} {p pos : Pos}
theorem pe_callP (hr : Room j X.A) (hk : k ≤ j) (hN : X.N[i]? = some x) (hv : Vis X.env.scope x) (ha : L2.PA X (e :: es) t)
    (hd : (x == ("__debug__" : Str)) = false := by decide) (hcd : (x == ("__classdict__" : Str)) = false := by decide)
    (he : starEach (e :: es) X.env = (false, eval e X.env) :: starEach es X.env := by rfl) (hpl : (backTo pos (starEach es X.env)).any (·.1) = false := by rfl) :
    PE X (.Call (.Name x p) (e :: es) [] pos) (tCallP X.prog X.w X.K X.mg X.base k i t) := by
  refine ⟨fun pins s σ H Q I ⟨f, kn, sp, hs, C, hkn, ht⟩ => ?_⟩
  refine wpAny_Call_Name_kw (thn ((pe_var (pos := p) hN hv hd hcd).run pins s σ H (fun v H1 => v = .ref f ∧ H1 = H) I ⟨.ref f, hs, rfl, rfl⟩) fun u s1 ⟨v, H1, I1, r1, ev, eH⟩ => ?_)
  subst ev eH
  obtain rfl : u = Value.ref f := r1
  refine PySem.W.callWith_F (first := []) (C.fn _ _ I1.hok hkn) (thn (ha.run pos pins s1 σ _ _ I1 ht) fun us s2 ⟨vs, H2, I2, r, kn2, q⟩ => ⟨C.fn _ _ I2.hok kn2, ?_⟩) he hpl
  refine wpAny_call (codeAny_mono (C.run X.A X.stack s2 H2 us vs Q (hr.mono hk) I2.env0 kn2 r q) fun r s' done => ?_)
  rcases r with bad | fl
  · exact done.elim
  · cases fl with
    | ret u => exact I2.after done
    | _ => exact False.elim done
theorem pe_callBX {f : Addr} {fd : FuncData} {ps : List Str} {cl : List (Str × Addr)} {fr : List Str} {js : List Nat} {sp : Heap → Sp} (F : ∀ B, BX X.base B → FnOk X.prog X.w X.K X.mg B CX0 k f fd ps (sp B)) (hr : Room k X.A) (hg : Gl X x) (hm : X.mg x = some (.ref f)) (hk : PySem.W.keepIn X.K (.ref f) = true) (hb : Binds X.K fd ps [])
    (cp : X.Ok → NdefX.Caps X cl fr js) (own : ∀ y, X.fn y = true) (st : X.stack = X.env :: X.outer) (loc : X.env.frame = some X.env.locals) (ha : L2.PA X (e :: es) t)
    (hdb : (x == ("__debug__" : Str)) = false := by decide) (he : starEach (e :: es) X.env = (false, eval e X.env) :: starEach es X.env := by rfl) (hpl : (backTo pos (starEach es X.env)).any (·.1) = false := by rfl) :
    PE X (.Call (.Name x p) (e :: es) [] pos) (tCallB X.base cl fr js sp t) := by
  refine ⟨fun pins s σ H Q I h => wpAny_Call_Name_kw (ld_glob I hg hm ?_ hdb)⟩
  refine PySem.W.callWith_K (h₀ := X.base) I.ok.mod.kin hk (thn (ha.run pos pins s σ H _ I h) fun us s1 ⟨vs, H1, I1, r, q⟩ => ⟨I1.kIn, ?_⟩) he hpl
  have c := cp I1.ok
  obtain ⟨B, bx, cb, e0⟩ := base_more I1 (NdefX.cells_of I1 c) (fun y a z => I1.ok.cab y a (own y) (c.sub y a z)) st loc (fun y a z => I1.cne y a (c.sub y a z))
  have q := q B bx cb
  have many := (F B bx).len vs H1 Q E0 q
  have b := hb s1 us I1.kIn (by rw [List.append_nil, ← r.length]; exact many)
  rw [List.append_nil] at b
  refine wpAny_call (codeAny_mono ((F B bx).run X.A X.stack s1 H1 ⟨us, []⟩ us vs Q E0 hr e0 b r q) fun r s' done => ?_)
  rcases r with bad | fl
  · exact done.elim
  · cases fl with
    | ret u => exact I1.after done
    | _ => exact False.elim done
end
theorem tabF_more {K : PySem.W.Frag} {mg : Str → Option Value} {base B : Heap} {f c tp : Addr} (bx : BX base B) (z : TabF K base mg f c tp) : TabF K B mg f c tp := ⟨z.1, z.2.1, z.2.2.code.keeps bx, z.2.2.bm.keeps bx, z.2.2.gP⟩
/-! ### t[i::2] of a tuple -/
/-- the places lo, lo + st, .. -/
def stepV {α : Type} (xs : List α) (lo : Option Int) (st : Int) : List α :=
  (List.range (Builtin.Slice.slicePlaces (Builtin.Slice.sliceAdjust lo none st (xs.length : Int)).1 (Builtin.Slice.sliceAdjust lo none st (xs.length : Int)).2 st)).filterMap fun (m : Nat) => xs[((Builtin.Slice.sliceAdjust lo none st (xs.length : Int)).1 + (m : Int) * st).toNat]?
theorem vals_pick {xs : List V} {us : List Value} (r : Vals xs us) (f : Nat → Nat) : ∀ l : List Nat, Vals (l.filterMap fun m => xs[f m]?) (l.filterMap fun m => us[f m]?)
  | [] => .nil
  | m :: l => by
    have len := r.length
    have rest := vals_pick r f l
    rw [List.filterMap_cons, List.filterMap_cons]
    by_cases h : f m < xs.length
    · obtain ⟨u, hu, ru⟩ := r.get (List.getElem?_eq_getElem h)
      rw [List.getElem?_eq_getElem h, hu]
      exact .cons ru rest
    · rw [List.getElem?_eq_none (by omega), List.getElem?_eq_none (by omega)]
      exact rest
theorem vals_step {xs : List V} {us : List Value} (r : Vals xs us) (lo : Option Int) (st : Int) : Vals (stepV xs lo st) (stepV us lo st) := by
  unfold stepV
  rw [r.length]
  exact vals_pick r (fun m => ((Builtin.Slice.sliceAdjust lo none st (us.length : Int)).1 + (m : Int) * st).toNat) _
section
variable {prog : Program} {w : World} {A : Around} {E : Value → Shared → Prop} {s : Shared}
theorem sliceApplied_st {sl : Addr} {vl vs : Value} {lo : Option Int} {st : Int} {n : Nat} {Q : Int × Int × Nat → Shared → Prop} (hs : s.heap.IsSliceOf sl vl .none vs) (pl : IsPart vl lo) (ps : IsPart vs (some st)) (h0 : (st == 0) = false)
    (h : Q ((Builtin.Slice.sliceAdjust lo none st (n : Int)).1, st, Builtin.Slice.slicePlaces (Builtin.Slice.sliceAdjust lo none st (n : Int)).1 (Builtin.Slice.sliceAdjust lo none st (n : Int)).2 st) s) :
    wpAny (model prog w) A (Builtin.Slice.sliceApplied (.ref sl) (pure (n : Int))) Q E s := by
  obtain ⟨os, hos, hcs, hds⟩ := id hs
  unfold Builtin.Slice.sliceApplied Builtin.Slice.sliceFields
  refine wpAny_bind (wpAny_bind (wpAny_field hos hds (x := vl) rfl (wpAny_bind (wpAny_field hos hds (x := .none) rfl (wpAny_bind (wpAny_field hos hds (x := vs) rfl (wpAny_pure ?_)))))))
  refine wpAny_bind (HT.slicePart_ ps ?_)
  show wpAny _ _ (if (st == 0) = true then _ else _) _ _ s
  rw [h0]
  refine wpAny_bind (HT.slicePart_ pl (wpAny_bind (HT.slicePart_ .none (wpAny_bind (wpAny_pure ?_)))))
  exact wpAny_pure h
theorem getItem_step {t sl : Addr} {items : Array Value} {vl vs : Value} {lo : Option Int} {st : Int} {Q : Value → Shared → Prop} (ht : IsTup s.heap t items) (hs : s.heap.IsSliceOf sl vl .none vs) (pl : IsPart vl lo) (ps : IsPart vs (some st)) (h0 : (st == 0) = false) (h1 : (st == 1) = false)
    (many : (stepV items.toList lo st).length ≤ sizeLine)
    (h : Q (.ref s.heap.objs.size) { s with heap := s.heap.push { cls := .type "tuple", data := .seq (stepV items.toList lo st).toArray } }) : wpAny (model prog w) A (getItem (.ref t) (.ref sl)) Q E s := by
  have fits : sizeOk (.seq (stepV items.toList lo st).toArray) := by
    show (stepV items.toList lo st).toArray.size ≤ sizeLine
    rw [List.size_toArray]
    exact many
  have same : stepV items.toList lo st = (List.range (Builtin.Slice.slicePlaces (Builtin.Slice.sliceAdjust lo none st (items.size : Int)).1 (Builtin.Slice.sliceAdjust lo none st (items.size : Int)).2 st)).filterMap fun (m : Nat) => items[((Builtin.Slice.sliceAdjust lo none st (items.size : Int)).1 + (m : Int) * st).toNat]? := by
    unfold stepV
    rw [Array.length_toList]
    refine congrArg (fun f => List.filterMap f _) ?_
    funext m
    exact Array.getElem?_toList ..
  obtain ⟨os, hos, hcs, hds⟩ := id hs
  have kind : s.TypeIs (.ref sl) "slice" := ⟨os, hos, hcs⟩
  unfold getItem
  try with_reducible refine wpAny_holding ?_
  first | refine wpAny_bind (wpAny_pure ?_) | skip
  refine wpAny_bind (wpAny_sequenceKey ht.typeIs (by decide) ?_)
  refine wpAny_bind (wpAny_callSpecial?_slot (name := Str.ofString "__getitem__") ht.typeIs PyProof.Rows.slot_tuple_getitem
    (wpAny_call_entry PyProof.Rows.slot_tuple_getitem ht.typeIs entry_tuple_getitem ?_ (args_tuple_getitem _ _)))
  show wpAny _ _ (Builtin.Tuple.tupleItemsOf (.ref t) >>= _) _ _ s
  refine wpAny_bind (tupleItemsOf_ ht ?_)
  refine wpAny_bind (wpAny_typeOf kind ?_)
  rw [if_pos (by decide)]
  refine wpAny_bind (sliceApplied_st hs pl ps h0 ?_)
  show wpAny _ _ (if ((Builtin.Slice.sliceAdjust lo none st (items.size : Int)).1 == 0 && st == 1 && _ == items.size) = true then _ else _) _ _ s
  rw [h1, Bool.and_false, Bool.false_and]
  rw [if_neg Bool.false_ne_true, ← same]
  first
    | exact wpAny_bind (m := Builtin.Tuple.tupleExact _) (wpAny_newObj_type (wpAny_pure ⟨_, rfl, wpAny_pure h⟩) fits)
    | exact wpAny_bind (m := Builtin.Tuple.tupleExact _) (wpAny_newObj_type (wpAny_bind (wpAny_pure (wpAny_pure ⟨_, rfl, wpAny_pure h⟩))) fits)
end
def tStepT (K : PySem.W.Frag) (i st : Int) (te : TE) : TE := fun σ H Q => te σ H fun x H1 => ∃ (a : Addr) (xs : List V), x = .ref a ∧ SqT K H1 a xs ∧ (stepV xs (some i) st).length ≤ sizeLine ∧ ∀ p, H1 p = none → Q (.ref p) (upd H1 p (.tup (stepV xs (some i) st)))
theorem pe_stepT {X : Cx} {e : Expr} {te : TE} {i st : Int} {k1 k2 : Nat} {p1 p2 p3 pos : Pos} (he : PE X e te) (h0 : (st == 0) = false := by decide) (h1 : (st == 1) = false := by decide) :
    PE X (.Subscript e (.Slice (some (.Constant (.int i) k1 p1)) none (some (.Constant (.int st) k2 p2)) p3) pos) (tStepT X.K i st te) := by
  refine ⟨fun pins s σ H Q I h => Subscript_ (thn (he.run pins s σ H _ I h) fun v s1 ⟨x, H1, I1, r1, a, xs, ex, hx, many, q⟩ => ?_)⟩
  subst ex
  cases r1
  have one : PO X (some (.Constant (.int i) k1 p1)) (tPart (tC (.int i))) := po_some pe_int
  have two : PO X (some (.Constant (.int st) k2 p2)) (tPart (tC (.int st))) := po_some pe_int
  refine wpAny_Slice (thn (one.run pins s1 σ H1 (fun o H2 => o = some i ∧ H2 = H1) I1 ⟨i, rfl, rfl, rfl⟩) fun vl s2 ⟨l, H2, I2, pl, el, e2⟩ => ?_)
  subst el e2
  refine thn (po_none.run pins s2 σ H2 (fun o H3 => o = none ∧ H3 = H2) I2 ⟨rfl, rfl⟩) fun vu s3 ⟨u, H3, I3, pu, eu, e3⟩ => ?_
  subst eu e3
  cases pu
  refine thn (two.run pins s3 σ H3 (fun o H4 => o = some st ∧ H4 = H3) I3 ⟨st, rfl, rfl, rfl⟩) fun vs s4 ⟨o, H4, I4, ps, eo, e4⟩ => ?_
  subst eo e4
  have I5 : Inv X pins σ H4 { s4 with heap := s4.heap.push { cls := .type "slice", data := .fields #[vl, .none, vs] } } := I4.kept (t' := s4.toks) fun b ob q => Heap.get?_push_of_some _ q
  obtain ⟨its, r, ht, hz⟩ := I5.tuple hx
  have r2 := vals_step r (some i) st
  show wpAny (model X.prog X.w) X.A (subscriptTail e _ (.ref a) (.ref s4.heap.objs.size)) (EP X pins σ Q) X.xe { s4 with heap := s4.heap.push { cls := .type "slice", data := .fields #[vl, .none, vs] } }
  refine tail_any (ops := [.ref a, .ref s4.heap.objs.size]) ht.typeIs PyProof.Rows.slot_tuple_getitem.lookup ?_ (by with_unfolding_all rfl)
  refine getItem_step ht (Heap.IsSliceOf.new _ vl .none vs) pl ps h0 h1 (by rw [← r2.length]; exact many) ?_
  refine ⟨.ref _, _, I5.laid (t' := s4.toks) (o := .tup (stepV xs (some i) st)) (fun b ob q => Heap.get?_push_of_some _ q) (Nat.le_refl _) ?_, rfl, q _ (I5.hok.fresh (Nat.le_refl _))⟩
  exact ⟨many, _, r2, IsTup.new _ _⟩
/-! ### xs.extend(a tuple) -/
theorem list_extend_tupA (l : Addr) (items : Array Value) (n : Nat) (b : Addr) (items2 : Array Value) (n2 : Nat) (dd : Option Addr) (sl : Array (Option Value)) (hs0 : ¬(!items.isEmpty && Builtin.List.listTooLong (items.size + items2.size)) = true) (hs1 : items.size ≤ sizeLine) (hs2 : items.size + items2.size ≤ sizeLine + 1) :
    Meets (Builtin.«list.extend» ⟨[.ref l, .ref b], []⟩) (fun _ R s => s.heap.get? l = some { cls := .type "list", data := .seq items n } ∧ s.heap.get? b = some ⟨.type "tuple", dd, .seq items2 n2, sl⟩ ∧ R (.ok (.ret Value.none)) { s with heap := s.heap.update l (Obj.mapSeq fun x => x ++ items2), toks := s.toks }) :=
  .of_wp fun prog w A R s h => by
    obtain ⟨hp, g, d, tk, os⟩ := s
    obtain ⟨hl, hb, h⟩ := h
    have f2 := PySem.F.sub_tuple_tuple
    have f3 := PySem.F.sub_list_list
    have f4 := PySem.F.sub_tuple_list
    have f5 := PySem.F.sub_list_tuple
    have hz' : (items ++ items2).size ≤ sizeLine + 1 := by rw [Array.size_append]; exact hs2
    wp_walk using (wpAny_updateSeq hl rfl (hz := hs1) (_hz' := hz')), wpAny_loadPart' hl, wpAny_loadPart' hb
    exact ⟨_, rfl, h⟩
def rExtT (K : PySem.W.Frag) : V → List V → Hp → VK → Prop := fun x vs H Q => ∃ l b xs zs, x = .ref l ∧ vs = [.ref b] ∧ H l = some (.lst xs) ∧ SqT K H b zs ∧ xs.length + zs.length ≤ sizeLine ∧ Q .non (upd H l (.lst (xs ++ zs)))
theorem mt_extT {X : Cx} : MtM X "list.extend" (rExtT X.K) := by
  rintro pins s σ H x vs v us Q I rx rv ⟨l, b, xs, zs, rfl, rfl, hH, hB, many, q⟩
  cases rx
  obtain ⟨u, rfl, ru⟩ := rv.one
  cases ru
  obtain ⟨z, its, n, r, _, e⟩ := I.lstM hH
  obtain ⟨its2, r2, ⟨⟨cl2, dd2, dt2, sl2⟩, ho2, hc2, n2, hd2⟩, _⟩ := I.tuple hB
  obtain rfl : cl2 = .type "tuple" := hc2
  obtain rfl : dt2 = .seq its2.toArray n2 := hd2
  have size : its.toArray.size + its2.toArray.size ≤ sizeLine := by
    have a := r.length
    have b := r2.length
    rw [List.size_toArray, List.size_toArray]
    omega
  have short : ¬ (!its.toArray.isEmpty && Builtin.List.listTooLong (its.toArray.size + its2.toArray.size)) = true := by
    rw [notLongL size, Bool.and_false]
    exact Bool.false_ne_true
  refine call_meets F.slot_list_extend ⟨_, e, rfl⟩ F.entry_list_extend (F.args_list_extend_2 _ _) (list_extend_tupA l its.toArray n b its2.toArray n2 dd2 sl2 short (by rw [List.size_toArray]; have a := r.length; omega) (by omega)) ⟨e, ho2, ?_⟩
  refine ⟨.non, _, I.lset (its' := its ++ its2) hH e (by simp) (r.append r2) ?_, rfl, q⟩
  rw [List.length_append]
  exact many
end
end My
namespace My
open PySem PySem.Spec PyProof.Rows L2 RZ
section
variable {P : Program} {w : World} {K : PySem.W.Frag} {mg : Str → Option Value} {base : Heap}
open L2H
open SX (S S_len S_cat slice_to slice_from num_S int_S)
open PySem.NumText (digitsVal AllDigits)
open TL (numL)
/-! ### trees with written parts -/
def ArK (K : PySem.W.Frag) (H : Hp) (v : V) : Ar → Prop
  | .gone => ∃ q, v = .ref q ∧ SqT K H q [.str "gone"]
  | .name w => ∃ q, v = .ref q ∧ SqT K H q [.str "name", .str w.1]
  | .block a b c d => ∃ q, v = .ref q ∧ SqT K H q [.str "block", .int a, .int b, .int c, .int d]
inductive ArsK (K : PySem.W.Frag) (H : Hp) : List V → List Ar → Prop where
  | nil : ArsK K H [] []
  | cons {v : V} {a : Ar} {vs : List V} {as : List Ar} : ArK K H v a → ArsK K H vs as → ArsK K H (v :: vs) (a :: as)
def TrK (K : PySem.W.Frag) (H : Hp) : V → Tr → Prop
  | v, .gone => ∃ q, v = .ref q ∧ SqT K H q [.str "gone"]
  | v, .num x y => ∃ q p, v = .ref q ∧ SqT K H q [.str "num", .ref p] ∧ SqT K H p [.int x, .int y]
  | v, .cell r c => ∃ q, v = .ref q ∧ SqT K H q [.str "cell", .int r, .int c]
  | v, .neg t => ∃ q u, v = .ref q ∧ SqT K H q [.str "neg", u] ∧ TrK K H u t
  | v, .op s l r => ∃ q u w, v = .ref q ∧ SqT K H q [.str "op", .str s, u, w] ∧ TrK K H u l ∧ TrK K H w r
  | v, .call n as => ∃ q p vs, v = .ref q ∧ SqT K H q [.str "call", .str n, .ref p] ∧ SqT K H p vs ∧ ArsK K H vs as
/-- every tuple stays -/
structure TF (H H' : Hp) : Prop where
  t : ∀ b xs, H b = some (.tup xs) → H' b = some (.tup xs)
  f : ∀ b o xs, H b = some (.frz o (.tup xs)) → H' b = some (.frz o (.tup xs))
theorem TF.ext {H H' : Hp} (x : LamX.ExtN H H') : TF H H' := ⟨fun b xs e => x b _ e (fun ps z => by cases z), fun b o xs e => x b _ e (fun ps z => by cases z)⟩
theorem TF.same {H H' : Hp} (x : Same H H') : TF H H' := ⟨fun b xs e => x b _ e, fun b o xs e => x b _ e⟩
theorem TF.trans {H H1 H2 : Hp} (x : TF H H1) (y : TF H1 H2) : TF H H2 := ⟨fun b xs e => y.t b xs (x.t b xs e), fun b o xs e => y.f b o xs (x.f b o xs e)⟩
/-- a list's change -/
theorem TF.set {H : Hp} {l : Addr} {xs ys : List V} (h : H l = some (.lst xs)) : TF H (upd H l (.lst ys)) := by
  refine ⟨fun b zs e => ?_, fun b o zs e => ?_⟩
  · rw [upd_ne fun z => by rw [z, h] at e; cases e]
    exact e
  · rw [upd_ne fun z => by rw [z, h] at e; cases e]
    exact e
theorem sqT_tf {K : PySem.W.Frag} {H H' : Hp} (x : TF H H') {q : Addr} {xs : List V} (h : SqT K H q xs) : SqT K H' q xs := by
  rcases h with h | h
  · rcases h with h | ⟨o, h⟩
    · exact .inl (.inl (x.t _ _ h))
    · exact .inl (.inr ⟨o, x.f _ _ _ h⟩)
  · exact .inr h
theorem ArK.tf {K : PySem.W.Frag} {H H' : Hp} (x : TF H H') {v : V} : ∀ {a : Ar}, ArK K H v a → ArK K H' v a
  | .gone, ⟨q, h, h1⟩ => ⟨q, h, sqT_tf x h1⟩
  | .name _, ⟨q, h, h1⟩ => ⟨q, h, sqT_tf x h1⟩
  | .block _ _ _ _, ⟨q, h, h1⟩ => ⟨q, h, sqT_tf x h1⟩
theorem ArsK.tf {K : PySem.W.Frag} {H H' : Hp} (x : TF H H') : ∀ {vs as}, ArsK K H vs as → ArsK K H' vs as
  | _, _, .nil => .nil
  | _, _, .cons h r => .cons (h.tf x) (r.tf x)
theorem ArsK.len {K : PySem.W.Frag} {H : Hp} : ∀ {vs as}, ArsK K H vs as → vs.length = as.length
  | _, _, .nil => rfl
  | _, _, .cons _ r => congrArg (· + 1) r.len
theorem ArsK.app {K : PySem.W.Frag} {H : Hp} {us : List V} {bs : List Ar} (h : ArsK K H us bs) : ∀ {vs as}, ArsK K H vs as → ArsK K H (vs ++ us) (as ++ bs)
  | _, _, .nil => h
  | _, _, .cons h2 r => .cons h2 (ArsK.app h r)
theorem ArsK.get {K : PySem.W.Frag} {H : Hp} : ∀ {vs as}, ArsK K H vs as → ∀ (i : Nat) x, vs[i]? = some x → ∃ a, as[i]? = some a ∧ ArK K H x a
  | _, _, .nil, i, x, h => by simp at h
  | _, _, .cons (a := a) h r, 0, x, e => ⟨a, rfl, by cases e; exact h⟩
  | _, _, .cons h r, i + 1, x, e => r.get i x (by simpa using e)
theorem TrK.tf {K : PySem.W.Frag} {H H' : Hp} (x : TF H H') : ∀ {t : Tr} {v : V}, TrK K H v t → TrK K H' v t
  | .gone, _, ⟨q, h, h1⟩ => ⟨q, h, sqT_tf x h1⟩
  | .num _ _, _, ⟨q, p, h, h1, h2⟩ => ⟨q, p, h, sqT_tf x h1, sqT_tf x h2⟩
  | .cell _ _, _, ⟨q, h, h1⟩ => ⟨q, h, sqT_tf x h1⟩
  | .neg _, _, ⟨q, u, h, h1, h2⟩ => ⟨q, u, h, sqT_tf x h1, h2.tf x⟩
  | .op _ _ _, _, ⟨q, u, w, h, h1, h2, h3⟩ => ⟨q, u, w, h, sqT_tf x h1, h2.tf x, h3.tf x⟩
  | .call _ _, _, ⟨q, p, vs, h, h1, h2, h3⟩ => ⟨q, p, vs, h, sqT_tf x h1, sqT_tf x h2, h3.tf x⟩
theorem ArK.of {K : PySem.W.Frag} {H : Hp} {v : V} : ∀ {a : Ar}, ArAt H v a → ArK K H v a
  | .gone, ⟨q, h, h1⟩ => ⟨q, h, SqT.of h1⟩
  | .name _, ⟨q, h, h1⟩ => ⟨q, h, SqT.of h1⟩
  | .block _ _ _ _, ⟨q, h, h1⟩ => ⟨q, h, SqT.of h1⟩
theorem ArsK.of {K : PySem.W.Frag} {H : Hp} : ∀ {vs as}, Ars H vs as → ArsK K H vs as
  | _, _, .nil => .nil
  | _, _, .cons h r => .cons (ArK.of h) (ArsK.of r)
theorem TrK.of {K : PySem.W.Frag} {H : Hp} : ∀ {t : Tr} {v : V}, TrAt H v t → TrK K H v t
  | .gone, _, ⟨q, h, h1⟩ => ⟨q, h, SqT.of h1⟩
  | .num _ _, _, ⟨q, p, h, h1, h2⟩ => ⟨q, p, h, SqT.of h1, SqT.of h2⟩
  | .cell _ _, _, ⟨q, h, h1⟩ => ⟨q, h, SqT.of h1⟩
  | .neg _, _, ⟨q, u, h, h1, h2⟩ => ⟨q, u, h, SqT.of h1, TrK.of h2⟩
  | .op _ _ _, _, ⟨q, u, w, h, h1, h2, h3⟩ => ⟨q, u, w, h, SqT.of h1, TrK.of h2, TrK.of h3⟩
  | .call _ _, _, ⟨q, p, vs, h, h1, h2, h3⟩ => ⟨q, p, vs, h, SqT.of h1, SqT.of h2, ArsK.of h3⟩
theorem sz_few {m : Nat} (h : m ≤ 100) : m ≤ sizeLine := Nat.le_trans h (by decide)
/-! ### corners moved -/
def ins (R C d r : Int) (z : Int × Int) : Prop := (0 ≤ z.1 + d ∧ z.1 + d < R) ∧ 0 ≤ z.2 + r ∧ z.2 + r < C
instance {R C d r : Int} {z : Int × Int} : Decidable (ins R C d r z) := by unfold ins; infer_instance
def flat (zs : List (Int × Int)) : List V := zs.flatMap fun z => [.int z.1, .int z.2]
theorem flat_app (xs ys : List (Int × Int)) : flat (xs ++ ys) = flat xs ++ flat ys := List.flatMap_append ..
theorem flat_len (xs : List (Int × Int)) : (flat xs).length = 2 * xs.length := by
  induction xs with
  | nil => rfl
  | cons x xs ih =>
    show (flat xs).length + 2 = 2 * (xs.length + 1)
    omega
def shift (d r : Int) (z : Int × Int) : Int × Int := (z.1 + d, z.2 + r)
theorem steps1 (w : Str) : ∀ zs : List (Int × Int), zs.length ≤ 2 → stepV (V.str w :: flat zs) (some 1) 2 = zs.map fun z => V.int z.1
  | [], _ => rfl
  | [_], _ => by kernel_rfl
  | [_, _], _ => by kernel_rfl
  | _ :: _ :: _ :: _, h => absurd h (by simp)
theorem steps2 (w : Str) : ∀ zs : List (Int × Int), zs.length ≤ 2 → stepV (V.str w :: flat zs) (some 2) 2 = zs.map fun z => V.int z.2
  | [], _ => rfl
  | [_], _ => by kernel_rfl
  | [_, _], _ => by kernel_rfl
  | _ :: _ :: _ :: _, h => absurd h (by simp)
def spCorners (K : PySem.W.Frag) (gp : Addr) : Sp := fun vs H Q _ => ∃ (p : Addr) (w : Str) (zs : List (Int × Int)) (d r R C : Int), vs = [.ref p, .int d, .int r, .int R, .int C] ∧ zs.length ≤ 2 ∧ SqT K H p (.str w :: flat zs) ∧
  ((∀ z ∈ zs, ins R C d r z) → ∀ q H', Same H H' → H' q = some (.tup (.str w :: flat (zs.map (shift d r)))) → Q (.ref q) H') ∧
  ((∃ z ∈ zs, ¬ ins R C d r z) → ∀ H', Same H H' → Q (.ref gp) H')
theorem okMovedCorners (T : Txt P w K mg) : FnOk P w K mg base CX0 1 T.fMovedCorners T.fdMovedCorners ["part", "down", "right", "rows", "columns"] (spCorners K T.p_GONE_PART) := by
  refine T.FMovedCorners.ok scMovedCorners (fun vs H Q E h => ?_) (fun cdv A outer s H vs Q E hr h => ?_)
  · obtain ⟨p, w, zs, d, r, R, C, rfl, _⟩ := h
    rfl
  · obtain ⟨p, w, zs, d, r, R, C, rfl, l2, hp, q1, q2⟩ := h
    -- slots part=0 down=1 right=2 rows=3 columns=4 found=5 row=6 column=7
    refine ⟨_, (pss_cons (ps_set (i := 5) scMovedCorners.nd rfl (Or.inl rfl) (pe_lst (pa_cons (pe_ix ix_tup (pv 0) pe_int (fun _ _ => rfl)) pa_nil)))
        (pss_cons (ps_for PassesOwn.never rfl (pi_zipA (by rfl) T.z_zip (pa_cons (pe_stepT (pv 0)) (pa_cons (pe_stepT (pv 0)) pa_nil))) (pg_tup rfl (pgs_cons (pg_name (i := 6) scMovedCorners.nd rfl (Or.inl rfl)) (pgs_cons (pg_name (i := 7) scMovedCorners.nd rfl (Or.inl rfl)) pgs_nil)))
          (pss_cons (ps_if (pt_not (PW.pt (pw_and (pt_chain op_le op_lt pe_int (pe_op op_add (pv 6) (pv 1)) (pv 3)) (pw_and1 (pt_chain op_le op_lt pe_int (pe_op op_add (pv 7) (pv 2)) (pv 4))))))
            (pss_one (ps_ret (pe_glob (v := (.ref T.p_GONE_PART)) rfl T.g_GONE_PART rfl)))
            pss_nil)
          (pss_one (ps_expr (pe_bm PySem.F.plainAttrs_list PySem.F.slot_list_extend PySem.F.type_list_extend mt_extT (pv 5) (pa_cons (pe_tup (pa_cons (pe_op op_add (pv 6) (pv 1)) (pa_cons (pe_op op_add (pv 7) (pv 2)) pa_nil))) pa_nil))))))
        (pss_one (ps_ret (pe_callTy call_tuple_of (by rfl) T.z_tuple (by decide +kernel) (pa_cons (pv 5) pa_nil)))))), ?_⟩
    have z0 : atI (V.str w :: flat zs) 0 = some (.str w) := atI_nat (j := 0) rfl
    have t1 := steps1 w zs l2
    have t2 := steps2 w zs l2
    have few : zs.length ≤ sizeLine := Nat.le_trans l2 (by decide)
    refine ⟨_, rfl, p, _, _, _, rfl, rfl, hp, z0, (by show 1 ≤ sizeLine; decide), fun f hf => ?_⟩
    refine ⟨_, rfl, p, _, rfl, (same_new hf).tup hp, by rw [t1, List.length_map]; exact few, fun p1 h1 => ?_⟩
    refine ⟨_, rfl, p, _, rfl, ((same_new hf).trans (same_new h1)).tup hp, by rw [t2, List.length_map]; exact few, fun p2 h2 => ?_⟩
    have n1 : p1 ≠ f := fun z => by
      rw [z, upd_same] at h1
      cases h1
    have n2 : p2 ≠ f := fun z => by
      rw [z, upd_ne n1.symm, upd_same] at h2
      cases h2
    have n3 : p1 ≠ p2 := fun z => by
      rw [← z, upd_same] at h2
      cases h2
    have f1 : (upd (upd (upd H f (.lst [.str w])) p1 (.tup (stepV (V.str w :: flat zs) (some 1) 2))) p2 (.tup (stepV (V.str w :: flat zs) (some 2) 2))) p1 = some (.tup (zs.map fun z => V.int z.1)) := by rw [upd_ne n3, upd_same, t1]
    have f2 : (upd (upd (upd H f (.lst [.str w])) p1 (.tup (stepV (V.str w :: flat zs) (some 1) 2))) p2 (.tup (stepV (V.str w :: flat zs) (some 2) 2))) p2 = some (.tup (zs.map fun z => V.int z.2)) := by rw [upd_same, t2]
    have ff : (upd (upd (upd H f (.lst [.str w])) p1 (.tup (stepV (V.str w :: flat zs) (some 1) 2))) p2 (.tup (stepV (V.str w :: flat zs) (some 2) 2))) f = some (.lst [.str w]) := by rw [upd_ne n2.symm, upd_ne n1.symm, upd_same]
    have s0 : Same H (upd (upd (upd H f (.lst [.str w])) p1 (.tup (stepV (V.str w :: flat zs) (some 1) 2))) p2 (.tup (stepV (V.str w :: flat zs) (some 2) 2))) := ((same_new hf).trans (same_new h1)).trans (same_new h2)
    refine ⟨p1, p2, _, _, rfl, .inr ⟨SqT.of f1, SqT.of f2, for_it (walk_zipT (n := zs.length) (by rw [List.length_map, List.length_map, Nat.min_self]))
      (fun i σ H' => Same H H' ∧ H' f = some (.lst (.str w :: flat ((zs.take i).map (shift d r)))) ∧ H' p1 = some (.tup (zs.map fun z => V.int z.1)) ∧ H' p2 = some (.tup (zs.map fun z => V.int z.2)) ∧ (∀ z ∈ zs.take i, ins R C d r z) ∧ ∃ c6 c7 : Option V, σ = [some (.ref p), some (.int d), some (.int r), some (.int R), some (.int C), some (.ref f), c6, c7])
      ⟨s0, ff, f1, f2, fun z h => (by simp at h), none, none, rfl⟩ (fun i σ H' _ h => ⟨SqT.of h.2.2.1, SqT.of h.2.2.2.1⟩) ?_ ?_⟩⟩
    · rintro i x σ H1 H2 hi ⟨s1, hF, k1, k2, all, c6, c7, rfl⟩ ⟨T_, y, z, rfl, nT, rfl, e1, e2⟩
      obtain rfl : V.int zs[i].1 = y := by
        have e1 : (zs.map fun z => V.int z.1)[i]? = some y := e1
        rw [List.getElem?_map, List.getElem?_eq_getElem hi] at e1
        exact Option.some.inj e1
      obtain rfl : V.int zs[i].2 = z := by
        have e2 : (zs.map fun z => V.int z.2)[i]? = some z := e2
        rw [List.getElem?_map, List.getElem?_eq_getElem hi] at e2
        exact Option.some.inj e2
      refine ⟨T_, _, rfl, .inl (.inl upd_same), rfl, _, _, rfl, _, _, rfl, rfl, ?_⟩
      have away : ¬ ins R C d r zs[i] → Q (.ref T.p_GONE_PART) (upd H1 T_ (.tup [.int zs[i].1, .int zs[i].2])) := fun c => q2 ⟨_, List.getElem_mem hi, c⟩ _ (s1.trans (same_new nT))
      refine ⟨_, rfl, _, rfl, _, _, rfl, rfl, _, _, rfl, rfl, _, rfl, ite2 (fun c1 => ?_) (fun c1 => ?_)⟩
      rotate_left
      · exact ⟨_, rfl, iteF (iteT (away fun z => c1 (decide_eq_true z.1.1)))⟩
      refine ⟨_, rfl, _, _, rfl, rfl, _, rfl, ite2 (fun c2 => ?_) (fun c2 => ?_)⟩
      rotate_left
      · exact iteT (away fun z => c2 (decide_eq_true z.1.2))
      refine ⟨_, rfl, _, rfl, _, _, rfl, rfl, _, _, rfl, rfl, _, rfl, ite2 (fun c3 => ?_) (fun c3 => ?_)⟩
      rotate_left
      · exact ⟨_, rfl, iteT (away fun z => c3 (decide_eq_true z.2.1))⟩
      refine ⟨_, rfl, _, _, rfl, rfl, _, rfl, ite2 (fun c4 => ?_) (fun c4 => ?_)⟩
      · exact away fun z => by
          rw [decide_eq_true z.2.2] at c4
          cases c4
      have inside : ins R C d r zs[i] := by
        refine ⟨⟨of_decide_eq_true c1, of_decide_eq_true c2⟩, of_decide_eq_true c3, ?_⟩
        by_cases z : zs[i].2 + r < C
        · exact z
        · rw [decide_eq_false z] at c4
          exact absurd rfl c4
      refine ⟨_, rfl, .inl ⟨rfl, _, SqL.of ((same_new nT) _ _ hF)⟩, _, rfl, _, rfl, _, _, rfl, rfl, _, rfl, _, rfl, _, _, rfl, rfl, (by show 2 ≤ sizeLine; decide), fun pt hpt => ?_⟩
      have mF : (upd (upd H1 T_ (.tup [.int zs[i].1, .int zs[i].2])) pt (.tup [.int (zs[i].1 + d), .int (zs[i].2 + r)])) f = some (.lst (.str w :: flat ((zs.take i).map (shift d r)))) := (same_new hpt) _ _ ((same_new nT) _ _ hF)
      refine ⟨f, pt, _, _, rfl, rfl, mF, SqT.of upd_same, ?_, ?_⟩
      · refine sz_few ?_
        rw [List.length_cons, flat_len, List.length_map, List.length_take]
        show 2 * min i zs.length + 1 + 2 ≤ 100
        omega
      · refine ⟨same_mut ((s1.trans (same_new nT)).trans (same_new hpt)) hf, ?_, ?_, ?_, fun z hz => ?_, _, _, rfl⟩
        · rw [upd_same, List.take_add_one, List.getElem?_eq_getElem hi]
          show some (HO.lst (V.str w :: (flat ((zs.take i).map (shift d r)) ++ flat [shift d r zs[i]]))) = _
          rw [List.map_append, flat_app]
          rfl
        · rw [upd_ne n1]
          exact (same_new hpt) _ _ ((same_new nT) _ _ k1)
        · rw [upd_ne n2]
          exact (same_new hpt) _ _ ((same_new nT) _ _ k2)
        · rw [List.take_add_one, List.getElem?_eq_getElem hi] at hz
          rcases List.mem_append.mp hz with z2 | z2
          · exact all z z2
          · obtain rfl : z = zs[i] := by simpa using z2
            exact inside
    · rintro σ H1 ⟨s1, hF, k1, k2, all, c6, c7, rfl⟩
      rw [List.take_length] at hF all
      exact ⟨_, rfl, f, _, rfl, .inl ⟨SqL.of hF, fun l hl => q1 all l _ (s1.trans (same_new hl)) upd_same⟩⟩
end
end My
namespace My
open PySem PySem.Spec PyProof.Rows L2 RZ
section
variable {P : Program} {w : World} {K : PySem.W.Frag} {mg : Str → Option Value} {base : Heap}
open L2H
open SX (S S_len S_cat slice_to slice_from num_S int_S)
open PySem.NumText (digitsVal AllDigits)
open TL (numL)
theorem ifNeY {a : Str} {A B : Prop} (q : B) : if (!decide (V.str a = V.str a)) = true then A else B := by
  rw [decide_eq_true rfl]
  exact q
theorem ifNe {a b : Str} {A B : Prop} (h : a ≠ b) (q : A) : if (!decide (V.str a = V.str b)) = true then A else B := by
  rw [decide_eq_false fun z => h (V.str.inj z)]
  exact q
def arD : Ar → PyData
  | .gone => .tuple [.str "gone"]
  | .name w => .tuple [.str "name", .str w.1]
  | .block a b c d => .tuple [.str "block", .int a, .int b, .int c, .int d]
theorem ArAt.dp {K : PySem.W.Frag} {H : Hp} {v : V} : ∀ {a : Ar}, ArAt H v a → Dp K H v (arD a)
  | .gone, ⟨q, h, h1⟩ => by
    rw [h]
    exact .tup (SqT.of h1) (.cons (.str _) .nil)
  | .name _, ⟨q, h, h1⟩ => by
    rw [h]
    exact .tup (SqT.of h1) (.cons (.str _) (.cons (.str _) .nil))
  | .block _ _ _ _, ⟨q, h, h1⟩ => by
    rw [h]
    exact .tup (SqT.of h1) (.cons (.str _) (.cons (.int _) (.cons (.int _) (.cons (.int _) (.cons (.int _) .nil)))))
theorem Ars.dp {K : PySem.W.Frag} {H : Hp} : ∀ {vs as}, Ars H vs as → DpAll K H vs (as.map arD)
  | _, _, .nil => .nil
  | _, _, .cons h r => .cons h.dp r.dp
theorem ok4 : PyData.strOk (Str.ofString "gone") = true ∧ PyData.strOk (Str.ofString "name") = true ∧ PyData.strOk (Str.ofString "block") = true := by decide +kernel
theorem arD_lay (a : Ar) : (arD a).canLay0 = true := by
  cases a with
  | gone => simp [arD, PyData.canLay0, PyData.canLayAll0, ok4]
  | name w => simp [arD, PyData.canLay0, PyData.canLayAll0, ok4, w.2]
  | block a b c d => simp [arD, PyData.canLay0, PyData.canLayAll0, ok4]
theorem arD_depth (a : Ar) : (arD a).depth = 1 := by cases a <;> simp [arD, PyData.depth, PyData.depthAll]
theorem arDs_lay : ∀ zs : List Ar, PyData.canLayAll0 (zs.map arD) = true
  | [] => by simp [PyData.canLayAll0]
  | z :: zs => by simp [PyData.canLayAll0, arD_lay z, arDs_lay zs]
theorem arDs_depth : ∀ zs : List Ar, PyData.depthAll (zs.map arD) ≤ 1
  | [] => by simp [PyData.depthAll]
  | z :: zs => by
    have h1 := arDs_depth zs
    have h2 := arD_depth z
    simp only [List.map_cons, PyData.depthAll]
    omega
theorem arDs_shaped (zs : List Ar) : SeqAt.shaped (.list (zs.map arD)) = true := by
  have h1 := arDs_depth zs
  have h2 : PyData.depth (.list (zs.map arD)) ≤ 64 := by
    simp only [PyData.depth]
    omega
  show (PyData.canLay0 (.list (zs.map arD)) && decide (PyData.depth (.list (zs.map arD)) ≤ 64)) = true
  rw [Bool.and_eq_true]
  exact ⟨by simp only [PyData.canLay0]; exact arDs_lay zs, decide_eq_true h2⟩
/-! ### areas mapped by what was handed over -/
theorem ArK.dp {K : PySem.W.Frag} {H : Hp} {v : V} : ∀ {a : Ar}, ArK K H v a → Dp K H v (arD a)
  | .gone, ⟨q, h, h1⟩ => by
    rw [h]
    exact .tup h1 (.cons (.str _) .nil)
  | .name _, ⟨q, h, h1⟩ => by
    rw [h]
    exact .tup h1 (.cons (.str _) (.cons (.str _) .nil))
  | .block _ _ _ _, ⟨q, h, h1⟩ => by
    rw [h]
    exact .tup h1 (.cons (.str _) (.cons (.int _) (.cons (.int _) (.cons (.int _) (.cons (.int _) .nil)))))
theorem ArsK.dp {K : PySem.W.Frag} {H : Hp} : ∀ {vs as}, ArsK K H vs as → DpAll K H vs (as.map arD)
  | _, _, .nil => .nil
  | _, _, .cons h r => .cons h.dp r.dp
def spAreaC (K : PySem.W.Frag) (fa : Ar → Ar) : Sp := fun vs H Q _ => ∃ (v : V) (a : Ar), vs = [v] ∧ ArK K H v a ∧ ∀ q u H', Same H H' → H' q = some (.tup [u]) → ArK K H' u (fa a) → Q (.ref q) H'
def spMA (P : Program) (w : World) (K : PySem.W.Frag) (mg : Str → Option Value) (base : Heap) : Sp := fun vs H Q _ => ∃ (p f : Addr) (us : List V) (as : List Ar) (kn : Hp → Prop) (fa : Ar → Ar), vs = [.ref p, .ref f] ∧ SqT K H p us ∧ ArsK K H us as ∧ as.length ≤ 40 ∧
  (∀ H H', Same H H' → kn H → kn H') ∧ Clo P w K mg base 6 kn f (spAreaC K fa) ∧ kn H ∧ ∀ q ys H', Same H H' → H' q = some (.tup ys) → ArsK K H' ys (orGone (as.map fa)) → Q (.ref q) H'
theorem okMappedAreas (T : Txt P w K mg) : FnOk P w K mg base CX0 8 T.fMappedAreas T.fdMappedAreas ["areas", "area"] (spMA P w K mg base) := by
  refine T.FMappedAreas.ok scMappedAreas (fun vs H Q E h => ?_) (fun cdv A outer s H vs Q E hr h => ?_)
  · obtain ⟨p, f, us, as, kn, fa, rfl, _⟩ := h
    rfl
  · obtain ⟨p, f, us, as, kn, fa, rfl, hp, ar, few, keep, C, hk, q⟩ := h
    -- slots areas=0 area=1 found=2 old=3
    refine ⟨_, (pss_cons (ps_set (i := 2) scMappedAreas.nd rfl (Or.inl rfl) (pe_lst pa_nil))
        (pss_cons (ps_for PassesOwn.never rfl (pi_tup (pv 0)) (pg_name (i := 3) scMappedAreas.nd rfl (Or.inl rfl))
          (pss_one (ps_expr (pe_bm PySem.F.plainAttrs_list PySem.F.slot_list_extend PySem.F.type_list_extend mt_extT (pv 2) (pa_cons (pe_callP (k := 6) (i := 1) hr (by decide) rfl (Or.inl rfl) (pa_cons (pv 3) pa_nil)) pa_nil)))))
        (pss_cons (ps_if (pt_cmpR (op_eqD hr.units) (pv 2) (pe_lst pa_nil) (nomark _))
          (pss_one (ps_ret (pe_tup (pa_cons (pe_tup (pa_cons (pe_glob (v := (.str "gone")) rfl T.g_GONE ⟨_, rfl⟩) pa_nil)) pa_nil))))
          pss_nil)
        (pss_one (ps_ret (pe_callTy call_tuple_of (by rfl) T.z_tuple (by decide +kernel) (pa_cons (pv 2) pa_nil))))))), ?_⟩
    have le := ar.len
    refine ⟨Nat.zero_le _, fun l hl => ?_⟩
    refine ⟨_, rfl, p, rfl, ⟨us, (same_new hl).tup hp⟩, for_it (walk_tup (a := p) (xs := us)) (fun i σ H' => Same H H' ∧ (∃ ys, H' l = some (.lst ys) ∧ ArsK K H' ys ((as.take i).map fa)) ∧ ∃ c3, σ = [some (.ref p), some (.ref f), some (.ref l), c3])
      ⟨same_new hl, ⟨[], upd_same, .nil⟩, none, rfl⟩ (fun i σ H' _ h => h.1.tup hp) ?_ ?_⟩
    · rintro i x σ H1 H2 hi ⟨s1, ⟨ys, hY, aY⟩, c3, rfl⟩ hx
      obtain ⟨rfl, e1⟩ := hx
      obtain ⟨a, ea, ha⟩ := (ar.tf (.same s1)).get i x e1
      refine ⟨_, rfl, .inl ⟨rfl, _, SqL.of hY⟩, f, kn, spAreaC K fa, rfl, C, keep _ _ s1 hk, _, rfl, keep _ _ s1 hk, x, a, rfl, ha, fun q2 u H3 s3 h3 a3 => ?_⟩
      have hY3 := s3 _ _ hY
      refine ⟨l, q2, _, _, rfl, rfl, hY3, SqT.of h3, ?_, ?_⟩
      · refine sz_few ?_
        have z := aY.len
        rw [List.length_map, List.length_take] at z
        show ys.length + 1 ≤ 100
        omega
      · have nl : q2 ≠ l := fun z => by
          rw [z, hY3] at h3
          cases h3
        refine ⟨same_mut (s1.trans s3) hl, ⟨_, upd_same, ?_⟩, _, rfl⟩
        rw [List.take_add_one, ea]
        show ArsK K _ (ys ++ [u]) (((as.take i) ++ [a]).map fa)
        rw [List.map_append]
        exact ArsK.app (.cons (a3.tf (.set hY3)) .nil) ((aY.tf (.same s3)).tf (.set hY3))
    · rintro σ H1 ⟨s1, ⟨ys, hY, aY⟩, c3, rfl⟩
      rw [List.take_of_length_le (by omega)] at aY
      have many : ys.length ≤ 40 := by
        have z := aY.len
        rw [List.length_map] at z
        omega
      refine ⟨_, rfl, Nat.zero_le _, fun e he => ⟨.list ((as.map fa).map arD), .list [], .lst (SqL.of ((same_new he) _ _ hY)) (aY.tf (.same (same_new he))).dp, .lst (SqL.of upd_same) .nil, arDs_shaped _, by decide +kernel, _, rfl, ?_⟩⟩
      have hY2 := (same_new (o := .lst []) he) _ _ hY
      have s2 := s1.trans (same_new (o := .lst []) he)
      cases hm : as.map fa with
      | nil =>
        refine iteT ⟨(by show 1 ≤ sizeLine; decide), fun q1 h1 => ⟨(by show 1 ≤ sizeLine; decide), fun q2 h2 => q q2 [.ref q1] _ ((s2.trans (same_new h1)).trans (same_new h2)) upd_same ?_⟩⟩
        rw [hm]
        exact .cons ⟨q1, rfl, SqT.of ((same_new h2) _ _ upd_same)⟩ .nil
      | cons b bs =>
        refine iteF ⟨_, rfl, l, ys, rfl, .inl ⟨SqL.of hY2, fun q2 h2 => q q2 ys _ (s2.trans (same_new h2)) upd_same ?_⟩⟩
        have z := aY.tf (.same ((same_new (o := .lst []) he).trans (same_new (o := .tup ys) h2)))
        rw [hm] at z ⊢
        exact z
end
end My
namespace My
open PySem PySem.Spec PyProof.Rows L2 RZ
section
variable {P : Program} {w : World} {K : PySem.W.Frag} {mg : Str → Option Value} {base : Heap}
open L2H
open SX (S S_len S_cat slice_to slice_from num_S int_S)
open PySem.NumText (digitsVal AllDigits)
open TL (numL)
/-! ### trees mapped by what was handed over -/
def mpT (fc : Int → Int → Tr) (fa : Ar → Ar) : Tr → Tr
  | .cell r c => fc r c
  | .neg t => .neg (mpT fc fa t)
  | .op s l r => .op s (mpT fc fa l) (mpT fc fa r)
  | .call n as => .call n (orGone (as.map fa))
  | t => t
def spCellC (K : PySem.W.Frag) (fc : Int → Int → Tr) : Sp := fun vs H Q _ => ∃ (v : V) (r c : Int), vs = [v] ∧ TrK K H v (.cell r c) ∧ ∀ y H', Same H H' → TrK K H' y (fc r c) → Q y H'
def spMap (P : Program) (w : World) (K : PySem.W.Frag) (mg : Str → Option Value) (base : Heap) (n : Nat) : Sp := fun vs H Q _ => ∃ (v : V) (t : Tr) (f g : Addr) (kn kg : Hp → Prop) (fc : Int → Int → Tr) (fa : Ar → Ar), vs = [v, .ref f, .ref g] ∧ t.h < n ∧ t.ok 40 ∧ TrK K H v t ∧
  (∀ H H', Same H H' → kn H → kn H') ∧ (∀ H H', Same H H' → kg H → kg H') ∧ Clo P w K mg base 6 kn f (spCellC K fc) ∧ Clo P w K mg base 6 kg g (spAreaC K fa) ∧ kn H ∧ kg H ∧ ∀ y H', Same H H' → TrK K H' y (mpT fc fa t) → Q y H'
theorem okMapped (T : Txt P w K mg) : ∀ n : Nat, FnOk P w K mg base CX0 (n + 11) T.fMapped T.fdMapped ["tree", "cell", "area"] (spMap P w K mg base n)
  | 0 => by
    refine T.FMapped.ok scMapped (fun vs H Q E h => ?_) (fun cdv A outer s H vs Q E hr h => ?_)
    · obtain ⟨v, t, f, g, kn, kg, fc, fa, rfl, hh, _⟩ := h
      rfl
    · obtain ⟨v, t, f, g, kn, kg, fc, fa, rfl, hh, _⟩ := h
      exact absurd hh (Nat.not_lt_zero _)
  | n + 1 => by
    have IH := okMapped T n
    refine T.FMapped.ok scMapped (fun vs H Q E h => ?_) (fun cdv A outer s H vs Q E hr h => ?_)
    · obtain ⟨v, t, f, g, kn, kg, fc, fa, rfl, _⟩ := h
      rfl
    · obtain ⟨v, t, f, g, kn, kg, fc, fa, rfl, hh, ok, ht, k1, k2, C1, C2, a1, a2, q⟩ := h
      -- slots tree=0 cell=1 area=2
      refine ⟨_, (pss_cons (ps_if (pt_cmpR op_eq (pe_ix ix_tup (pv 0) pe_int (fun _ _ => rfl)) pe_str (nomark _))
            (pss_one (ps_ret (pe_callP (k := 6) (i := 1) hr (by omega) rfl (Or.inl rfl) (pa_cons (pv 0) pa_nil))))
            pss_nil)
          (pss_cons (ps_if (pt_cmpR op_eq (pe_ix ix_tup (pv 0) pe_int (fun _ _ => rfl)) pe_str (nomark _))
            (pss_one (ps_ret (pe_tup (pa_cons pe_str (pa_cons (pe_call IH (hr.mono (by omega)) (by rfl) T.gMapped T.FMapped.kp T.bMapped .nil pass0 (pa_cons (pe_ix ix_tup (pv 0) pe_int (fun _ _ => rfl)) (pa_cons (pv 1) (pa_cons (pv 2) pa_nil)))) pa_nil)))))
            pss_nil)
          (pss_cons (ps_if (pt_cmpR op_eq (pe_ix ix_tup (pv 0) pe_int (fun _ _ => rfl)) pe_str (nomark _))
            (pss_one (ps_ret (pe_tup (pa_cons pe_str (pa_cons (pe_ix ix_tup (pv 0) pe_int (fun _ _ => rfl)) (pa_cons (pe_call IH (hr.mono (by omega)) (by rfl) T.gMapped T.FMapped.kp T.bMapped .nil pass0 (pa_cons (pe_ix ix_tup (pv 0) pe_int (fun _ _ => rfl)) (pa_cons (pv 1) (pa_cons (pv 2) pa_nil)))) (pa_cons (pe_call IH (hr.mono (by omega)) (by rfl) T.gMapped T.FMapped.kp T.bMapped .nil pass0 (pa_cons (pe_ix ix_tup (pv 0) pe_int (fun _ _ => rfl)) (pa_cons (pv 1) (pa_cons (pv 2) pa_nil)))) pa_nil)))))))
            pss_nil)
          (pss_cons (ps_if (pt_cmpR op_eq (pe_ix ix_tup (pv 0) pe_int (fun _ _ => rfl)) pe_str (nomark _))
            (pss_one (ps_ret (pe_tup (pa_cons pe_str (pa_cons (pe_ix ix_tup (pv 0) pe_int (fun _ _ => rfl)) (pa_cons (pe_call (okMappedAreas T) (hr.mono (by omega)) (by rfl) T.gMappedAreas T.FMappedAreas.kp T.bMappedAreas .nil pass0 (pa_cons (pe_ix ix_tup (pv 0) pe_int (fun _ _ => rfl)) (pa_cons (pv 2) pa_nil))) pa_nil))))))
            pss_nil)
          (pss_one (ps_ret (pv 0))))))), ?_⟩
      cases t with
      | gone =>
        obtain ⟨p, rfl, h1⟩ := ht
        exact ⟨_, rfl, _, _, _, _, rfl, rfl, h1, atI_nat (j := 0) rfl, rfl, _, rfl, ifN w1.2.2.2.1 ⟨_, rfl, _, _, _, _, rfl, rfl, h1, atI_nat (j := 0) rfl, rfl, _, rfl, ifN w1.1 ⟨_, rfl, _, _, _, _, rfl, rfl, h1, atI_nat (j := 0) rfl, rfl, _, rfl, ifN w1.2.1 ⟨_, rfl, _, _, _, _, rfl, rfl, h1, atI_nat (j := 0) rfl, rfl, _, rfl, ifN w1.2.2.1 ⟨_, rfl, q _ _ (Same.refl H) ⟨p, rfl, h1⟩⟩⟩⟩⟩⟩
      | num x y =>
        obtain ⟨p, p2, rfl, h1, h2⟩ := ht
        exact ⟨_, rfl, _, _, _, _, rfl, rfl, h1, atI_nat (j := 0) rfl, rfl, _, rfl, ifN w2.2.2.2 ⟨_, rfl, _, _, _, _, rfl, rfl, h1, atI_nat (j := 0) rfl, rfl, _, rfl, ifN w2.1 ⟨_, rfl, _, _, _, _, rfl, rfl, h1, atI_nat (j := 0) rfl, rfl, _, rfl, ifN w2.2.1 ⟨_, rfl, _, _, _, _, rfl, rfl, h1, atI_nat (j := 0) rfl, rfl, _, rfl, ifN w2.2.2.1 ⟨_, rfl, q _ _ (Same.refl H) ⟨p, p2, rfl, h1, h2⟩⟩⟩⟩⟩⟩
      | call m as =>
        obtain ⟨p, p2, vs, rfl, h1, h2, h3⟩ := ht
        refine ⟨_, rfl, _, _, _, _, rfl, rfl, h1, atI_nat (j := 0) rfl, rfl, _, rfl, ifN w6.2.2 ⟨_, rfl, _, _, _, _, rfl, rfl, h1, atI_nat (j := 0) rfl, rfl, _, rfl, ifN w6.1 ⟨_, rfl, _, _, _, _, rfl, rfl, h1, atI_nat (j := 0) rfl, rfl, _, rfl, ifN w6.2.1 ⟨_, rfl, _, _, _, _, rfl, rfl, h1, atI_nat (j := 0) rfl, rfl, _, rfl, ifY ⟨_, rfl, _, _, _, _, rfl, rfl, h1, atI_nat (j := 1) rfl, _, rfl, _, _, _, _, rfl, rfl, h1, atI_nat (j := 2) rfl, _, rfl, p2, g, vs, as, kg, fa, rfl, h2, h3, ok, k2, C2, a2, fun q2 ys H1 s1 e1 r1 => ⟨(by show 3 ≤ sizeLine; decide), fun q3 h3 => q _ _ (s1.trans (same_new h3)) ⟨q3, q2, ys, rfl, SqT.of upd_same, SqT.of ((same_new h3) _ _ e1), r1.tf (.same (same_new h3))⟩⟩⟩⟩⟩⟩⟩
      | cell r c =>
        obtain ⟨p, rfl, h1⟩ := ht
        exact ⟨_, rfl, _, _, _, _, rfl, rfl, h1, atI_nat (j := 0) rfl, rfl, _, rfl, ifY ⟨f, kn, spCellC K fc, rfl, C1, a1, _, rfl, a1, _, r, c, rfl, ⟨p, rfl, h1⟩, q⟩⟩
      | neg t =>
        obtain ⟨p, u, rfl, h1, h2⟩ := ht
        refine ⟨_, rfl, _, _, _, _, rfl, rfl, h1, atI_nat (j := 0) rfl, rfl, _, rfl, ifN w4.2.2 ⟨_, rfl, _, _, _, _, rfl, rfl, h1, atI_nat (j := 0) rfl, rfl, _, rfl, ifY ⟨_, rfl, _, _, _, _, rfl, rfl, h1, atI_nat (j := 1) rfl, _, rfl, _, rfl, u, t, f, g, kn, kg, fc, fa, rfl, hneg hh, ok, h2, k1, k2, C1, C2, a1, a2, fun y H1 s1 r1 => ⟨(by show 2 ≤ sizeLine; decide), fun q3 h3 => q _ _ (s1.trans (same_new h3)) ⟨q3, y, rfl, SqT.of upd_same, r1.tf (.same (same_new h3))⟩⟩⟩⟩⟩
      | op s l r =>
        obtain ⟨p, u, w_, rfl, h1, h2, h3⟩ := ht
        refine ⟨_, rfl, _, _, _, _, rfl, rfl, h1, atI_nat (j := 0) rfl, rfl, _, rfl, ifN w5.2.2 ⟨_, rfl, _, _, _, _, rfl, rfl, h1, atI_nat (j := 0) rfl, rfl, _, rfl, ifN w5.1 ⟨_, rfl, _, _, _, _, rfl, rfl, h1, atI_nat (j := 0) rfl, rfl, _, rfl, ifY ⟨_, rfl, _, _, _, _, rfl, rfl, h1, atI_nat (j := 1) rfl, _, rfl, _, _, _, _, rfl, rfl, h1, atI_nat (j := 2) rfl, _, rfl, _, rfl, u, l, f, g, kn, kg, fc, fa, rfl, (hop hh).1, ok.1, h2, k1, k2, C1, C2, a1, a2, fun y1 H1 s1 r1 => ?_⟩⟩⟩⟩
        have h1' := sqT_tf (.same s1) h1
        refine ⟨_, rfl, _, _, _, _, rfl, rfl, h1', atI_nat (j := 3) rfl, _, rfl, _, rfl, w_, r, f, g, kn, kg, fc, fa, rfl, (hop hh).2, ok.2, h3.tf (.same s1), k1, k2, C1, C2, k1 _ _ s1 a1, k2 _ _ s1 a2, fun y2 H2 s2 r2 => ⟨(by show 4 ≤ sizeLine; decide), fun q3 h3 => q _ _ ((s1.trans s2).trans (same_new h3)) ⟨q3, y1, y2, rfl, SqT.of upd_same, r1.tf (.same (s2.trans (same_new h3))), r2.tf (.same (same_new h3))⟩⟩⟩
end
end My
namespace My
open PySem PySem.Spec PyProof.Rows L2 RZ
section
variable {P : Program} {w : World} {K : PySem.W.Frag} {mg : Str → Option Value} {base : Heap}
open L2H
open SX (S S_len S_cat slice_to slice_from num_S int_S)
open PySem.NumText (digitsVal AllDigits)
open TL (numL)
/-! ### a content's tree changed by what was handed over -/
def spWT (P : Program) (w : World) (K : PySem.W.Frag) (mg : Str → Option Value) (base : Heap) : Sp := fun vs H Q _ => ∃ (q f : Addr) (s : Str) (r : List V) (kn : Hp → Prop) (sp : Sp), vs = [.ref q, .ref f] ∧ SqT K H q (.str s :: r) ∧
  ((s ≠ "formula" ∧ Q (.ref q) H) ∨ (s = "formula" ∧ ∃ x, r = [x] ∧ Clo P w K mg base 47 kn f sp ∧ kn H ∧ sp [x] H (fun y H1 => [V.str "formula", y].length ≤ sizeLine ∧ ∀ p, H1 p = none → Q (.ref p) (upd H1 p (.tup [.str "formula", y]))) E0))
theorem okWithTree (T : Txt P w K mg) : FnOk P w K mg base CX0 49 T.fWithTree T.fdWithTree ["content", "changed"] (spWT P w K mg base) := by
  refine T.FWithTree.ok scWithTree (fun vs H Q E h => ?_) (fun cdv A outer s H vs Q E hr h => ?_)
  · obtain ⟨q, f, s, r, kn, sp, rfl, _⟩ := h
    rfl
  · obtain ⟨q, f, s, r, kn, sp, rfl, hq, h⟩ := h
    -- slots content=0 changed=1
    refine ⟨_, (pss_one (ps_ret (pe_ifExp (pt_cmpR op_eq (pe_ix ix_tup (pv 0) pe_int (fun _ _ => rfl)) pe_str (nomark _)) (pe_tup (pa_cons pe_str (pa_cons (pe_callP (k := 47) (i := 1) hr (by decide) rfl (Or.inl rfl) (pa_cons (pe_ix ix_tup (pv 0) pe_int (fun _ _ => rfl)) pa_nil)) pa_nil))) (pv 0)))), ?_⟩
    refine ⟨_, rfl, _, _, _, _, rfl, rfl, hq, atI_nat (j := 0) rfl, rfl, _, rfl, ?_⟩
    rcases h with ⟨ne, h⟩ | ⟨rfl, x, rfl, C, a1, h⟩
    · exact ifN ne ⟨_, rfl, h⟩
    · exact ifY ⟨f, kn, sp, rfl, C, a1, _, rfl, _, _, _, _, rfl, rfl, hq, atI_nat (j := 1) rfl, a1, h⟩
end
end My
namespace My
open PySem PySem.Spec PyProof.Rows L2 RZ
section
variable {P : Program} {w : World} {K : PySem.W.Frag} {mg : Str → Option Value} {base : Heap}
open L2H
open SX (S S_len S_cat slice_to slice_from num_S int_S)
open PySem.NumText (digitsVal AllDigits)
open TL (numL)
theorem okC {x qual : Str} {st : Stmt} {f : Addr} {fd : FuncData} {N ps : List Str} {k : Nat} {sp : Sp} {c : Addr} (F : Fun K x qual st f fd) (hc : ∃ (o : Obj) (fd : FuncData), K.lookup f = some o ∧ o.data = .func fd ∧ fd.code = .ref c) (S : FnScope N ps (defScope st)) (len : ∀ vs H Q E, sp vs H Q E → vs.length = ps.length)
    (go : ∀ (A : Around) (outer : List Env) (s : Shared) (H : Hp) (vs : List V) (Q : VK) (E : XK), Room k (A.deeper (envOfC qual (defScope st) s.heap.objs.size f (.ref c))) → sp vs H Q E →
      ∃ t, PSs (cxOf CX0 P w K mg base N qual (defScope st) f (.ref c) A outer s H E).nox (defBody st) t ∧ t { nx := fun _ G => Q .non G, rt := Q } (L2.start N vs) H) : FnOk P w K mg base CX0 (k + 1) f fd ps sp := by
  obtain ⟨oc, od, kV, doc, pm, an, cdv, ct, osl, rfl, look, code⟩ := F.ex
  obtain ⟨o, fd, e1, e2, e3⟩ := hc
  rw [look] at e1
  have e4 := Option.some.inj e1
  rw [← e4] at e2
  have e5 : PySem.W.fnOf x qual (defArgs st) (defBody st) (defScope st) .none kV doc pm an cdv ct = fd := Data.func.inj e2
  have e6 : cdv = .ref c := by
    rw [← e5] at e3
    exact e3
  rw [e6] at look code ⊢
  refine fn_of look code S len fun A outer s H vs Q E room h => ?_
  obtain ⟨t, h1, h2⟩ := go A outer s H vs Q E room h
  exact ⟨t, h1.nox, h2⟩
/-! ### what moved_tree hands over -/
def mtS (i : Nat) : Stmt := ((defBody sMovedTree)[i]?).getD (.Pass ⟨0, 0, 0, 0⟩)
def lamIn : Stmt → Expr
  | .Return (some (.Call _ (_ :: l :: _) _ _)) _ => l
  | _ => .Name "" ⟨0, 0, 0, 0⟩
def laPs : Expr → Arguments
  | .Lambda p _ _ _ => p
  | _ => default
def laBody : Expr → Expr
  | .Lambda _ b _ _ => b
  | e => e
def laScope : Expr → Scope
  | .Lambda _ _ s _ => s
  | _ => default
def mvC (d r R C : Int) (a b : Int) : Tr := if ins R C d r (a, b) then .cell (a + d) (b + r) else .gone
def mvA (d r R C : Int) : Ar → Ar
  | .block a b c e => if ins R C d r (a, b) ∧ ins R C d r (c, e) then .block (a + d) (b + r) (c + d) (e + r) else .gone
  | a => a
def mvT (d r R C : Int) : Tr → Tr := mpT (mvC d r R C) (mvA d r R C)
abbrev frMT : List Str := ["down", "right", "rows", "columns"]
def wsMT (d r R C : Int) : List (Option V) := [some (.int d), some (.int r), some (.int R), some (.int C)]
theorem scMvArea : NdefX.NScope ["area", "down", "right", "rows", "columns"] ["area"] frMT (C8.fnScope (mtS 0)) := NdefX.nscope_by (by decide +kernel)
theorem scCellL : NdefX.NScope ["cell", "down", "right", "rows", "columns"] ["cell"] frMT (laScope (lamIn (mtS 1))) := NdefX.nscope_by (by decide +kernel)
/-- the written tuple of GONE_PART -/
def Gp (K : PySem.W.Frag) (gp : Addr) : Prop := ∀ H : Hp, SqT K H gp [.str "gone"]
theorem okMvArea (T : Txt P w K mg) (gp : Gp K T.p_GONE_PART) (ql : Str) (cl : List (Str × Addr)) (f c' : Addr) : NdefX.NOk P w K mg base CX0 6 f ⟨"moved_area", ql, C8.fnArgs (mtS 0), C8.fnBody (mtS 0), C8.fnScope (mtS 0), cl, c'⟩ ["area"] frMT
    (fun ws vs H Q E => ∃ d r R C, ws = wsMT d r R C ∧ spAreaC K (mvA d r R C) vs H Q E) := by
  refine NdefX.nok_of scMvArea (fun _ _ _ us hl => match us, hl with | [_], _ => rfl) (fun ws vs H Q E h => ?_) (fun A outer s H vs ws Q E hr hf hc hl h => ?_)
  · obtain ⟨d, r, R, C, _, v, a, rfl, _⟩ := h
    rfl
  · obtain ⟨d, r, R, C, rfl, v, a, rfl, ha, q⟩ := h
    refine ⟨_, (pss_cons (ps_if (pt_cmpR op_ne (pe_ix ix_tup (pv 0) pe_int (fun _ _ => rfl)) pe_str (nomark _)) (pss_one (ps_ret (pe_tup (pa_cons (pv 0) pa_nil)))) pss_nil)
      (pss_one (ps_ret (pe_tup (pa_cons (pe_call (okMovedCorners T) (hr.mono (by decide)) (by rfl) T.gMovedCorners T.FMovedCorners.kp T.bMovedCorners .nil pass0 (pa_cons (pv 0) (pa_cons (pv 1) (pa_cons (pv 2) (pa_cons (pv 3) (pa_cons (pv 4) pa_nil)))))) pa_nil))))), ?_⟩
    cases a with
    | gone =>
      obtain ⟨p, rfl, h1⟩ := ha
      exact ⟨_, rfl, _, _, _, _, rfl, rfl, h1, atI_nat (j := 0) rfl, rfl, _, rfl, ifNe (by decide) ⟨_, rfl, (by show 1 ≤ sizeLine; decide), fun q2 h2 => q q2 _ _ (same_new h2) upd_same ⟨p, rfl, sqT_tf (.same (same_new h2)) h1⟩⟩⟩
    | name n =>
      obtain ⟨p, rfl, h1⟩ := ha
      exact ⟨_, rfl, _, _, _, _, rfl, rfl, h1, atI_nat (j := 0) rfl, rfl, _, rfl, ifNe (by decide) ⟨_, rfl, (by show 1 ≤ sizeLine; decide), fun q2 h2 => q q2 _ _ (same_new h2) upd_same ⟨p, rfl, sqT_tf (.same (same_new h2)) h1⟩⟩⟩
    | block x y z u =>
      obtain ⟨p, rfl, h1⟩ := ha
      refine ⟨_, rfl, _, _, _, _, rfl, rfl, h1, atI_nat (j := 0) rfl, rfl, _, rfl, ifNeY ⟨_, rfl, _, rfl, _, rfl, _, rfl, _, rfl, p, "block", [(x, y), (z, u)], d, r, R, C, rfl, (by show 2 ≤ 2; decide), h1, fun all p2 H2 s2 e2 => ?_, fun bad H2 s2 => ?_⟩⟩
      · refine ⟨(by show 1 ≤ sizeLine; decide), fun q2 h2 => q q2 _ _ (s2.trans (same_new h2)) upd_same ?_⟩
        have g : mvA d r R C (.block x y z u) = .block (x + d) (y + r) (z + d) (u + r) := if_pos ⟨all _ (List.mem_cons_self ..), all _ (List.mem_cons_of_mem _ (List.mem_cons_self ..))⟩
        rw [g]
        exact ⟨p2, rfl, SqT.of ((same_new h2) _ _ e2)⟩
      · refine ⟨(by show 1 ≤ sizeLine; decide), fun q2 h2 => q q2 _ _ (s2.trans (same_new h2)) upd_same ?_⟩
        have g : mvA d r R C (.block x y z u) = .gone := if_neg fun ⟨a1, a2⟩ => by
          obtain ⟨k, hk, n⟩ := bad
          rcases List.mem_cons.mp hk with rfl | hk
          · exact n a1
          · obtain rfl : k = (z, u) := by simpa using hk
            exact n a2
        rw [g]
        exact ⟨_, rfl, gp _⟩
abbrev LmC : Expr := lamIn (mtS 1)
theorem cloCell (T : Txt P w K mg) (gp : Gp K T.p_GONE_PART) {d r R C : Int} {cl : List (Str × Addr)} (ql : Str) (f c' : Addr) (cb : CB cl frMT (wsMT d r R C) base) :
    Clo P w K mg base 6 (KnL f ⟨"<lambda>", ql, laPs LmC, [], laScope LmC, cl, c'⟩ (laBody LmC)) f (spCellC K (mvC d r R C)) := by
  refine clo_lam (k := 5) scCellL (fun _ _ us hl => match us, hl with | [_], _ => rfl) (fun vs H Q h => ?_) cb (fun A outer s H vs Q hr hk h => ?_)
  · obtain ⟨v, a, b, rfl, _⟩ := h
    rfl
  · obtain ⟨v, a, b, rfl, ⟨p, rfl, h1⟩, q⟩ := h
    refine ⟨_, (pe_call (okMovedCorners T) (hr.mono (by decide)) (by rfl) T.gMovedCorners T.FMovedCorners.kp T.bMovedCorners .nil pass0 (pa_cons (pv 0) (pa_cons (pv 1) (pa_cons (pv 2) (pa_cons (pv 3) (pa_cons (pv 4) pa_nil)))))), ?_⟩
    refine ⟨_, rfl, _, rfl, _, rfl, _, rfl, _, rfl, p, "cell", [(a, b)], d, r, R, C, rfl, (by show 1 ≤ 2; decide), h1, fun all p2 H2 s2 e2 => ?_, fun bad H2 s2 => ?_⟩
    · refine q _ _ s2 ?_
      have g : mvC d r R C a b = .cell (a + d) (b + r) := if_pos (all _ (List.mem_cons_self ..))
      rw [g]
      exact ⟨p2, rfl, SqT.of e2⟩
    · refine q _ _ s2 ?_
      have g : mvC d r R C a b = .gone := if_neg fun a1 => by
        obtain ⟨k, hk, n⟩ := bad
        obtain rfl : k = (a, b) := by simpa using hk
        exact n a1
      rw [g]
      exact ⟨_, rfl, gp _⟩
/-- the cells of a frame, as a closure has them -/
theorem cb_clo {cells : List (Str × Addr)} {names : List (Str × NameKind)} {fr : List Str} {ws : List (Option V)} {B : Heap} (C : CB cells fr ws B) (free : ∀ y ∈ names, y.2 = .free → y.1 ∈ fr) (all : ∀ y ∈ fr, (y, NameKind.free) ∈ names) : CB (cloFrom cells names []) fr ws B := by
  have has : ∀ y ∈ fr, ∃ c, cells.lookup y = some c := fun y hy => by
    obtain ⟨i, hi, e⟩ := List.getElem_of_mem hy
    obtain ⟨c, hc, _⟩ := C.has i y (by rw [List.getElem?_eq_getElem hi, e])
    exact ⟨c, hc⟩
  have hfree : ∀ y ∈ names, y.2 = .free → ∃ c, cells.lookup y.1 = some c := fun y hy e => has y.1 (free y hy e)
  refine ⟨C.len, fun y c e => C.all y c (NdefX.clo_cm hfree e), fun x y c e1 e2 => C.inj x y c (NdefX.clo_cm hfree e1) (NdefX.clo_cm hfree e2), fun i y e => ?_⟩
  obtain ⟨c, hc, hv⟩ := C.has i y e
  exact ⟨c, NdefX.clo_has hfree (all y (List.mem_of_getElem? e)) hc, hv⟩
end
end My
namespace My
open PySem PySem.Spec PyProof.Rows L2 RZ
section
variable {P : Program} {w : World} {K : PySem.W.Frag} {mg : Str → Option Value} {base : Heap}
open L2H
open SX (S S_len S_cat slice_to slice_from num_S int_S)
open PySem.NumText (digitsVal AllDigits)
open TL (numL)
/-! ### moved_tree -/
theorem Clo.imp {P : Program} {w : World} {K : PySem.W.Frag} {mg : Str → Option Value} {base : Heap} {k : Nat} {kn : Hp → Prop} {f : Addr} {sp sp' : Sp} (c : Clo P w K mg base k kn f sp) (h : ∀ vs H Q, sp' vs H Q E0 → sp vs H Q E0) : Clo P w K mg base k kn f sp' :=
  ⟨c.fn, fun A outer s H us vs Q hr e z r q => c.run A outer s H us vs Q hr e z r (h _ _ _ q)⟩
def nmMT : Nat → Nat → Str := fun l _ => if l = 156 then "moved_tree" ++ ".<locals>." ++ "moved_area" else "moved_tree" ++ ".<locals>." ++ "<lambda>"
def spMT (K : PySem.W.Frag) (Ts : List NdefX.NTab) : Sp := fun vs H Q _ => ∃ (v : V) (t : Tr) (d r R C : Int), vs = [v, .int d, .int r, .int R, .int C] ∧ t.h < 31 ∧ t.ok 40 ∧ TrK K H v t ∧ NdefX.TabsN Ts H ∧
  ∀ y H', LamX.ExtN H H' → NdefX.TabsN Ts H' → TrK K H' y (mvT d r R C t) → Q y H'
theorem ndMv : NdefX.ndefB (defScope sMovedTree) (C8.fnScope (mtS 0)) frMT = true := by decide +kernel
theorem ndCl : NdefX.ndefB (defScope sMovedTree) (laScope LmC) frMT = true := by decide +kernel
theorem kinMT : ∀ y ∈ frMT, (defScope sMovedTree).names.lookup y = some .cell ∨ (defScope sMovedTree).names.lookup y = some .free := by decide +kernel
theorem frA : ∀ y ∈ (C8.fnScope (mtS 0)).names, y.2 = .free → y.1 ∈ frMT := by decide +kernel
theorem frL : ∀ y ∈ (laScope LmC).names, y.2 = .free → y.1 ∈ frMT := by decide +kernel
theorem okMovedTree (T : Txt P w K mg) (gp : Gp K T.p_GONE_PART) {c tp : Addr} (B : TabF K base mg T.fMovedTree c tp) {Ts : List NdefX.NTab} (hm : (tp, nmMT) ∈ Ts) (hu : ∀ p ∈ Ts, p.1 = tp → p.2 = nmMT) :
    FnOk P w K mg base CX0 45 T.fMovedTree T.fdMovedTree ["tree", "down", "right", "rows", "columns"] (spMT K Ts) := by
  obtain ⟨hcd, hnl, TB⟩ := id B
  refine okC T.FMovedTree hcd scMovedTree (fun vs H Q E h => ?_) (fun A outer s H vs Q E hr h => ?_)
  · obtain ⟨v, t, d, r, R, C, rfl, _⟩ := h
    rfl
  · obtain ⟨v, t, d, r, R, C, rfl, hh, ok, ht, hT, q⟩ := h
    refine ⟨_, (pss_cons (NdefX.ps_ndef (T := Ts) (nm := nmMT) (i := 5) TB rfl hm (by rfl) hu (NdefX.ndef_free (sc := defScope sMovedTree) (fr := frMT) ndMv) rfl rfl (by rfl) scMovedTree.nd rfl (Or.inl rfl) (Or.inr rfl))
      (pss_one (ps_ret (pe_callBX (k := 42) (cl := (cellsFrom (s.heap.objs.size + 1) (defScope sMovedTree).names [])) (fr := frMT) (js := [1, 2, 3, 4]) (sp := fun B => spMap P w K mg B 31) (fun B _ => okMapped (base := B) T 31) (hr.mono (by decide)) (by rfl) T.gMapped T.FMapped.kp T.bMapped
        (fun _ => ⟨fun _ _ z => z, kinMT, fun _ _ _ z => z, by rfl⟩) (fun _ => rfl) rfl rfl
        (pa_cons (pv 0) (pa_cons (pe_lamV (T := Ts) (nm := nmMT) TB rfl hm (by rfl) hu (by rfl) (NdefX.ndef_free (sc := defScope sMovedTree) (fr := frMT) ndCl)) (pa_cons (pv 5) pa_nil))))))), ?_⟩
    refine ⟨hT, fun f c1 H1 x1 T1 f0 f1 f2 => ⟨_, rfl, T1, fun g c2 H2 x2 T2 g0 g1 g2 => ⟨_, rfl, fun B2 bx cb => ?_⟩⟩⟩
    refine ⟨v, t, g, f, _, _, mvC d r R C, mvA d r R C, rfl, hh, ok, ht.tf ((TF.ext x1).trans (TF.ext x2)), fun H H' s z => z.ext (extN_of s), fun H H' s z => z.ext (extN_of s), cloCell T gp _ g c2 (cb_clo cb frL (NdefX.ndef_fr ndCl)),
      (clo_nd (okMvArea T gp _ _ f c1) (cb_clo cb frA (NdefX.ndef_fr ndMv))).imp fun vs H Q z => ⟨d, r, R, C, rfl, z⟩, ⟨g1, g2⟩, ⟨x2 _ _ f1 NdefX.fnO_ne, x2 _ _ f2 LamX.codeO_ne⟩, fun y H3 s3 r3 => q y H3 ((x1.trans x2).trans (extN_of s3)) (T2.ext s3) r3⟩
end
end My
namespace My
open PySem PySem.Spec PyProof.Rows L2 RZ
section
variable {P : Program} {w : World} {K : PySem.W.Frag} {mg : Str → Option Value} {base : Heap}
open L2H
open SX (S S_len S_cat slice_to slice_from num_S int_S)
open PySem.NumText (digitsVal AllDigits)
open TL (numL)
/-! ### moved_content -/
abbrev LmT : Expr := lamIn (((defBody sMovedContent)[0]?).getD (.Pass ⟨0, 0, 0, 0⟩))
theorem scTreeL : NdefX.NScope ["tree", "down", "right", "rows", "columns"] ["tree"] frMT (laScope LmT) := NdefX.nscope_by (by decide +kernel)
theorem ndTl : NdefX.ndefB (defScope sMovedContent) (laScope LmT) frMT = true := by decide +kernel
theorem kinMC : ∀ y ∈ frMT, (defScope sMovedContent).names.lookup y = some .cell ∨ (defScope sMovedContent).names.lookup y = some .free := by decide +kernel
theorem frT : ∀ y ∈ (laScope LmT).names, y.2 = .free → y.1 ∈ frMT := by decide +kernel
def nmMC : Nat → Nat → Str := fun _ _ => "moved_content" ++ ".<locals>." ++ "<lambda>"
def spTL (K : PySem.W.Frag) (Ts : List NdefX.NTab) (d r R C : Int) : Sp := fun vs H Q E => ∃ v : V, vs = [v] ∧ spMT K Ts [v, .int d, .int r, .int R, .int C] H Q E
theorem cloTree (T : Txt P w K mg) (gp : Gp K T.p_GONE_PART) {c tp : Addr} (B : TabF K base mg T.fMovedTree c tp) {Ts : List NdefX.NTab} (hm : (tp, nmMT) ∈ Ts) (hu : ∀ p ∈ Ts, p.1 = tp → p.2 = nmMT) {d r R C : Int} {cl : List (Str × Addr)} (ql : Str) (f c' : Addr) (cb : CB cl frMT (wsMT d r R C) base) :
    Clo P w K mg base 47 (KnL f ⟨"<lambda>", ql, laPs LmT, [], laScope LmT, cl, c'⟩ (laBody LmT)) f (spTL K Ts d r R C) := by
  refine clo_lam (k := 46) scTreeL (fun _ _ us hl => match us, hl with | [_], _ => rfl) (fun vs H Q h => ?_) cb (fun A outer s H vs Q hr hk h => ?_)
  · obtain ⟨v, rfl, _⟩ := h
    rfl
  · obtain ⟨v, rfl, h⟩ := h
    exact ⟨_, (pe_call (okMovedTree T gp B hm hu) (hr.mono (by decide)) (by rfl) T.gMovedTree T.FMovedTree.kp T.bMovedTree .nil pass0 (pa_cons (pv 0) (pa_cons (pv 1) (pa_cons (pv 2) (pa_cons (pv 3) (pa_cons (pv 4) pa_nil)))))), ⟨_, rfl, _, rfl, _, rfl, _, rfl, _, rfl, h⟩⟩
def spMC (K : PySem.W.Frag) (Ts : List NdefX.NTab) : Sp := fun vs H Q _ => ∃ (q : Addr) (s : Str) (l : List V) (d r R C : Int), vs = [.ref q, .int d, .int r, .int R, .int C] ∧ SqT K H q (.str s :: l) ∧ NdefX.TabsN Ts H ∧
  ((s ≠ "formula" ∧ ∀ H', LamX.ExtN H H' → NdefX.TabsN Ts H' → Q (.ref q) H') ∨
   (s = "formula" ∧ ∃ (u : V) (t : Tr), l = [u] ∧ TrK K H u t ∧ t.h < 31 ∧ t.ok 40 ∧ ∀ p y H', LamX.ExtN H H' → NdefX.TabsN Ts H' → H' p = some (.tup [.str "formula", y]) → TrK K H' y (mvT d r R C t) → Q (.ref p) H'))
theorem okMovedContent (T : Txt P w K mg) (gp : Gp K T.p_GONE_PART) {c1 tp1 c2 tp2 : Addr} (B1 : TabF K base mg T.fMovedTree c1 tp1) (B2 : TabF K base mg T.fMovedContent c2 tp2) {Ts : List NdefX.NTab} (hm1 : (tp1, nmMT) ∈ Ts) (hu1 : ∀ p ∈ Ts, p.1 = tp1 → p.2 = nmMT) (hm2 : (tp2, nmMC) ∈ Ts) (hu2 : ∀ p ∈ Ts, p.1 = tp2 → p.2 = nmMC) :
    FnOk P w K mg base CX0 51 T.fMovedContent T.fdMovedContent ["content", "down", "right", "rows", "columns"] (spMC K Ts) := by
  obtain ⟨hcd, hnl, TB⟩ := id B2
  refine okC T.FMovedContent hcd scMovedContent (fun vs H Q E h => ?_) (fun A outer s H vs Q E hr h => ?_)
  · obtain ⟨q, s0, l, d, r, R, C, rfl, _⟩ := h
    rfl
  · obtain ⟨q, s0, l, d, r, R, C, rfl, hq, hT, h⟩ := h
    refine ⟨_, (pss_one (ps_ret (pe_callBX (k := 49) (cl := (cellsFrom (s.heap.objs.size + 1) (defScope sMovedContent).names [])) (fr := frMT) (js := [1, 2, 3, 4]) (sp := fun B => spWT P w K mg B) (fun B _ => okWithTree (base := B) T) (hr.mono (by decide)) (by rfl) T.gWithTree T.FWithTree.kp T.bWithTree
        (fun _ => ⟨fun _ _ z => z, kinMC, fun _ _ _ z => z, by rfl⟩) (fun _ => rfl) rfl rfl
        (pa_cons (pv 0) (pa_cons (pe_lamV (T := Ts) (nm := nmMC) TB rfl hm2 (by rfl) hu2 (by rfl) (NdefX.ndef_free (sc := defScope sMovedContent) (fr := frMT) ndTl)) pa_nil))))), ?_⟩
    refine ⟨_, rfl, hT, fun f c' H1 x1 T1 f0 f1 f2 => fun B bx cb => ?_⟩
    rcases h with ⟨ne, h⟩ | ⟨rfl, u, t, rfl, ht, hh, ok, h⟩
    · exact ⟨q, f, s0, l, fun _ => True, spTL K Ts d r R C, rfl, sqT_tf (TF.ext x1) hq, .inl ⟨ne, h H1 x1 T1⟩⟩
    · refine ⟨q, f, "formula", [u], _, spTL K Ts d r R C, rfl, sqT_tf (TF.ext x1) hq, .inr ⟨rfl, u, rfl, cloTree T gp (tabF_more bx B1) hm1 hu1 _ f c' (cb_clo cb frT (NdefX.ndef_fr ndTl)), ⟨f1, f2⟩, u, rfl, u, t, d, r, R, C, rfl, hh, ok, ht.tf (TF.ext x1), T1, fun y H2 x2 T2 r2 => ⟨(by show 2 ≤ sizeLine; decide), fun p hp => ?_⟩⟩⟩
      exact h p y _ ((x1.trans x2).trans (extN_of (same_new hp))) (T2.ext (same_new hp)) upd_same (r2.tf (.same (same_new hp)))
end
end My
namespace My
open PySem PySem.Spec PyProof.Rows L2 RZ
section
variable {P : Program} {w : World} {K : PySem.W.Frag} {mg : Str → Option Value} {base : Heap}
open L2H
open SX (S S_len S_cat slice_to slice_from num_S int_S)
open PySem.NumText (digitsVal AllDigits)
open TL (numL)
def spCells (K : PySem.W.Frag) (n : Nat) : Sp := fun vs H Q _ => ∃ (v : V) (t : Tr), vs = [v] ∧ t.h < n ∧ (tcells t).length ≤ 100 ∧ TrK K H v t ∧ ∀ (H' : Hp) (l : Addr) (us : List V), Same H H' → H l = none → H' l = some (.lst us) → Cls H' us (tcells t) → Q (.ref l) H'
theorem okNamedCells (T : Txt P w K mg) : ∀ n : Nat, FnOk P w K mg base CX0 (n + 1) T.fNamedCells T.fdNamedCells ["tree"] (spCells K n)
  | 0 => by
    refine T.FNamedCells.ok scNamedCells (fun vs H Q E h => ?_) (fun cdv A outer s H vs Q E hr h => ?_)
    · obtain ⟨v, t, rfl, hh, _⟩ := h
      rfl
    · obtain ⟨v, t, rfl, hh, _⟩ := h
      exact absurd hh (Nat.not_lt_zero _)
  | n + 1 => by
    have IH := okNamedCells T n
    refine T.FNamedCells.ok scNamedCells (fun vs H Q E h => ?_) (fun cdv A outer s H vs Q E hr h => ?_)
    · obtain ⟨v, t, rfl, _⟩ := h
      rfl
    · obtain ⟨v, t, rfl, hh, hn, ht, q⟩ := h
      -- slots tree=0
      refine ⟨_, (pss_cons (ps_if (pt_cmpR op_eq (pe_ix ix_tup (pv 0) pe_int (fun _ _ => rfl)) pe_str (nomark _))
            (pss_one (ps_ret (pe_lst (pa_cons (pe_tup (pa_cons (pe_ix ix_tup (pv 0) pe_int (fun _ _ => rfl)) (pa_cons (pe_ix ix_tup (pv 0) pe_int (fun _ _ => rfl)) pa_nil))) pa_nil))))
            pss_nil)
          (pss_cons (ps_if (pt_cmpR op_eq (pe_ix ix_tup (pv 0) pe_int (fun _ _ => rfl)) pe_str (nomark _))
            (pss_one (ps_ret (pe_call IH (hr.mono (by omega)) (by rfl) T.gNamedCells T.FNamedCells.kp T.bNamedCells .nil pass0 (pa_cons (pe_ix ix_tup (pv 0) pe_int (fun _ _ => rfl)) pa_nil))))
            pss_nil)
          (pss_cons (ps_if (pt_cmpR op_eq (pe_ix ix_tup (pv 0) pe_int (fun _ _ => rfl)) pe_str (nomark _))
            (pss_one (ps_ret (pe_op op_cat (pe_call IH (hr.mono (by omega)) (by rfl) T.gNamedCells T.FNamedCells.kp T.bNamedCells .nil pass0 (pa_cons (pe_ix ix_tup (pv 0) pe_int (fun _ _ => rfl)) pa_nil)) (pe_call IH (hr.mono (by omega)) (by rfl) T.gNamedCells T.FNamedCells.kp T.bNamedCells .nil pass0 (pa_cons (pe_ix ix_tup (pv 0) pe_int (fun _ _ => rfl)) pa_nil)))))
            pss_nil)
          (pss_one (ps_ret (pe_lst pa_nil)))))), ?_⟩
      cases t with
      | gone =>
        obtain ⟨p, rfl, h1⟩ := ht
        exact ⟨_, rfl, _, _, _, _, rfl, rfl, h1, atI_nat (j := 0) rfl, rfl, _, rfl, ifN w1.2.2.2.1 ⟨_, rfl, _, _, _, _, rfl, rfl, h1, atI_nat (j := 0) rfl, rfl, _, rfl, ifN w1.1 ⟨_, rfl, _, _, _, _, rfl, rfl, h1, atI_nat (j := 0) rfl, rfl, _, rfl, ifN w1.2.1 ⟨Nat.zero_le _, fun l hl => q _ l [] (same_new hl) hl upd_same .nil⟩⟩⟩⟩
      | num x y =>
        obtain ⟨p, p2, rfl, h1, _⟩ := ht
        exact ⟨_, rfl, _, _, _, _, rfl, rfl, h1, atI_nat (j := 0) rfl, rfl, _, rfl, ifN w2.2.2.2 ⟨_, rfl, _, _, _, _, rfl, rfl, h1, atI_nat (j := 0) rfl, rfl, _, rfl, ifN w2.1 ⟨_, rfl, _, _, _, _, rfl, rfl, h1, atI_nat (j := 0) rfl, rfl, _, rfl, ifN w2.2.1 ⟨Nat.zero_le _, fun l hl => q _ l [] (same_new hl) hl upd_same .nil⟩⟩⟩⟩
      | call m as =>
        obtain ⟨p, p2, vs, rfl, h1, _⟩ := ht
        exact ⟨_, rfl, _, _, _, _, rfl, rfl, h1, atI_nat (j := 0) rfl, rfl, _, rfl, ifN w6.2.2 ⟨_, rfl, _, _, _, _, rfl, rfl, h1, atI_nat (j := 0) rfl, rfl, _, rfl, ifN w6.1 ⟨_, rfl, _, _, _, _, rfl, rfl, h1, atI_nat (j := 0) rfl, rfl, _, rfl, ifN w6.2.1 ⟨Nat.zero_le _, fun l hl => q _ l [] (same_new hl) hl upd_same .nil⟩⟩⟩⟩
      | cell r c =>
        obtain ⟨p, rfl, h1⟩ := ht
        exact ⟨_, rfl, _, _, _, _, rfl, rfl, h1, atI_nat (j := 0) rfl, rfl, _, rfl, ifY ⟨_, rfl, _, _, _, _, rfl, rfl, h1, atI_nat (j := 1) rfl, _, rfl, _, _, _, _, rfl, rfl, h1, atI_nat (j := 2) rfl, (by show 2 ≤ sizeLine; decide), fun u hu => ⟨(by show 1 ≤ sizeLine; decide), fun l hl => q _ l [.ref u] ((same_new hu).trans (same_new hl)) ((same_new hu).free hl) upd_same (.cons ((same_new hl) _ _ upd_same) .nil)⟩⟩⟩
      | neg t =>
        obtain ⟨p, u, rfl, h1, h2⟩ := ht
        exact ⟨_, rfl, _, _, _, _, rfl, rfl, h1, atI_nat (j := 0) rfl, rfl, _, rfl, ifN w4.2.2 ⟨_, rfl, _, _, _, _, rfl, rfl, h1, atI_nat (j := 0) rfl, rfl, _, rfl, ifY ⟨_, rfl, _, _, _, _, rfl, rfl, h1, atI_nat (j := 1) rfl, u, t, rfl, hneg hh, hn, h2, q⟩⟩⟩
      | op s l r =>
        have cnt : (tcells l ++ tcells r).length ≤ 100 := hn
        rw [List.length_append] at cnt
        obtain ⟨p, u, w, rfl, h1, h2, h3⟩ := ht
        refine ⟨_, rfl, _, _, _, _, rfl, rfl, h1, atI_nat (j := 0) rfl, rfl, _, rfl, ifN w5.2.2 ⟨_, rfl, _, _, _, _, rfl, rfl, h1, atI_nat (j := 0) rfl, rfl, _, rfl, ifN w5.1 ⟨_, rfl, _, _, _, _, rfl, rfl, h1, atI_nat (j := 0) rfl, rfl, _, rfl, ifY ⟨_, rfl, _, _, _, _, rfl, rfl, h1, atI_nat (j := 2) rfl, u, l, rfl, (hop hh).1, by omega, h2, fun H1 l1 us1 s1 _ e1 c1 => ?_⟩⟩⟩⟩
        have h1' := sqT_tf (.same s1) h1
        refine ⟨_, rfl, _, _, _, _, rfl, rfl, h1', atI_nat (j := 3) rfl, w, r, rfl, (hop hh).2, by omega, h3.tf (.same s1), fun H2 l2 us2 s2 _ e2 c2 => ?_⟩
        refine ⟨l1, l2, us1, us2, rfl, rfl, s2 _ _ e1, e2, ?_, fun l hl => q _ l (us1 ++ us2) ((s1.trans s2).trans (same_new hl)) ((s1.trans s2).free hl) upd_same ?_⟩
        · have e1 := c1.len
          have e2 := c2.len
          exact sz_few (by omega)
        · exact Cls.app (c2.mono (TK.of (same_new hl))) (c1.mono (TK.of (s2.trans (same_new hl))))
def spAreas (K : PySem.W.Frag) (n : Nat) : Sp := fun vs H Q _ => ∃ (v : V) (t : Tr), vs = [v] ∧ t.h < n ∧ (tareas t).length ≤ 100 ∧ TrK K H v t ∧ ∀ (H' : Hp) (l : Addr) (us : List V), Same H H' → H l = none → H' l = some (.lst us) → ArsK K H' us (tareas t) → Q (.ref l) H'
theorem okAreasOf (T : Txt P w K mg) : ∀ n : Nat, FnOk P w K mg base CX0 (n + 1) T.fAreasOf T.fdAreasOf ["tree"] (spAreas K n)
  | 0 => by
    refine T.FAreasOf.ok scAreasOf (fun vs H Q E h => ?_) (fun cdv A outer s H vs Q E hr h => ?_)
    · obtain ⟨v, t, rfl, hh, _⟩ := h
      rfl
    · obtain ⟨v, t, rfl, hh, _⟩ := h
      exact absurd hh (Nat.not_lt_zero _)
  | n + 1 => by
    have IH := okAreasOf T n
    refine T.FAreasOf.ok scAreasOf (fun vs H Q E h => ?_) (fun cdv A outer s H vs Q E hr h => ?_)
    · obtain ⟨v, t, rfl, _⟩ := h
      rfl
    · obtain ⟨v, t, rfl, hh, hn, ht, q⟩ := h
      -- slots tree=0
      refine ⟨_, (pss_cons (ps_if (pt_cmpR op_eq (pe_ix ix_tup (pv 0) pe_int (fun _ _ => rfl)) pe_str (nomark _))
            (pss_one (ps_ret (pe_callTy call_list_of (by rfl) T.z_list (by decide +kernel) (pa_cons (pe_ix ix_tup (pv 0) pe_int (fun _ _ => rfl)) pa_nil))))
            pss_nil)
          (pss_cons (ps_if (pt_cmpR op_eq (pe_ix ix_tup (pv 0) pe_int (fun _ _ => rfl)) pe_str (nomark _))
            (pss_one (ps_ret (pe_call IH (hr.mono (by omega)) (by rfl) T.gAreasOf T.FAreasOf.kp T.bAreasOf .nil pass0 (pa_cons (pe_ix ix_tup (pv 0) pe_int (fun _ _ => rfl)) pa_nil))))
            pss_nil)
          (pss_cons (ps_if (pt_cmpR op_eq (pe_ix ix_tup (pv 0) pe_int (fun _ _ => rfl)) pe_str (nomark _))
            (pss_one (ps_ret (pe_op op_cat (pe_call IH (hr.mono (by omega)) (by rfl) T.gAreasOf T.FAreasOf.kp T.bAreasOf .nil pass0 (pa_cons (pe_ix ix_tup (pv 0) pe_int (fun _ _ => rfl)) pa_nil)) (pe_call IH (hr.mono (by omega)) (by rfl) T.gAreasOf T.FAreasOf.kp T.bAreasOf .nil pass0 (pa_cons (pe_ix ix_tup (pv 0) pe_int (fun _ _ => rfl)) pa_nil)))))
            pss_nil)
          (pss_one (ps_ret (pe_lst pa_nil)))))), ?_⟩
      cases t with
      | gone =>
        obtain ⟨p, rfl, h1⟩ := ht
        exact ⟨_, rfl, _, _, _, _, rfl, rfl, h1, atI_nat (j := 0) rfl, rfl, _, rfl, ifN w1.2.2.1 ⟨_, rfl, _, _, _, _, rfl, rfl, h1, atI_nat (j := 0) rfl, rfl, _, rfl, ifN w1.1 ⟨_, rfl, _, _, _, _, rfl, rfl, h1, atI_nat (j := 0) rfl, rfl, _, rfl, ifN w1.2.1 ⟨Nat.zero_le _, fun l hl => q _ l [] (same_new hl) hl upd_same .nil⟩⟩⟩⟩
      | num x y =>
        obtain ⟨p, p2, rfl, h1, _⟩ := ht
        exact ⟨_, rfl, _, _, _, _, rfl, rfl, h1, atI_nat (j := 0) rfl, rfl, _, rfl, ifN w2.2.2.1 ⟨_, rfl, _, _, _, _, rfl, rfl, h1, atI_nat (j := 0) rfl, rfl, _, rfl, ifN w2.1 ⟨_, rfl, _, _, _, _, rfl, rfl, h1, atI_nat (j := 0) rfl, rfl, _, rfl, ifN w2.2.1 ⟨Nat.zero_le _, fun l hl => q _ l [] (same_new hl) hl upd_same .nil⟩⟩⟩⟩
      | cell r c =>
        obtain ⟨p, rfl, h1⟩ := ht
        exact ⟨_, rfl, _, _, _, _, rfl, rfl, h1, atI_nat (j := 0) rfl, rfl, _, rfl, ifN w3.2.2 ⟨_, rfl, _, _, _, _, rfl, rfl, h1, atI_nat (j := 0) rfl, rfl, _, rfl, ifN w3.1 ⟨_, rfl, _, _, _, _, rfl, rfl, h1, atI_nat (j := 0) rfl, rfl, _, rfl, ifN w3.2.1 ⟨Nat.zero_le _, fun l hl => q _ l [] (same_new hl) hl upd_same .nil⟩⟩⟩⟩
      | call m as =>
        obtain ⟨p, p2, vs, rfl, h1, h2, h3⟩ := ht
        exact ⟨_, rfl, _, _, _, _, rfl, rfl, h1, atI_nat (j := 0) rfl, rfl, _, rfl, ifY ⟨_, rfl, _, _, _, _, rfl, rfl, h1, atI_nat (j := 2) rfl, p2, vs, rfl, .inr h2, fun l hl => q _ l vs (same_new hl) hl upd_same (h3.tf (.same (same_new hl)))⟩⟩
      | neg t =>
        obtain ⟨p, u, rfl, h1, h2⟩ := ht
        exact ⟨_, rfl, _, _, _, _, rfl, rfl, h1, atI_nat (j := 0) rfl, rfl, _, rfl, ifN w4.2.1 ⟨_, rfl, _, _, _, _, rfl, rfl, h1, atI_nat (j := 0) rfl, rfl, _, rfl, ifY ⟨_, rfl, _, _, _, _, rfl, rfl, h1, atI_nat (j := 1) rfl, u, t, rfl, hneg hh, hn, h2, q⟩⟩⟩
      | op s l r =>
        have cnt : (tareas l ++ tareas r).length ≤ 100 := hn
        rw [List.length_append] at cnt
        obtain ⟨p, u, w, rfl, h1, h2, h3⟩ := ht
        refine ⟨_, rfl, _, _, _, _, rfl, rfl, h1, atI_nat (j := 0) rfl, rfl, _, rfl, ifN w5.2.1 ⟨_, rfl, _, _, _, _, rfl, rfl, h1, atI_nat (j := 0) rfl, rfl, _, rfl, ifN w5.1 ⟨_, rfl, _, _, _, _, rfl, rfl, h1, atI_nat (j := 0) rfl, rfl, _, rfl, ifY ⟨_, rfl, _, _, _, _, rfl, rfl, h1, atI_nat (j := 2) rfl, u, l, rfl, (hop hh).1, by omega, h2, fun H1 l1 us1 s1 _ e1 c1 => ?_⟩⟩⟩⟩
        have h1' := sqT_tf (.same s1) h1
        refine ⟨_, rfl, _, _, _, _, rfl, rfl, h1', atI_nat (j := 3) rfl, w, r, rfl, (hop hh).2, by omega, h3.tf (.same s1), fun H2 l2 us2 s2 _ e2 c2 => ?_⟩
        refine ⟨l1, l2, us1, us2, rfl, rfl, s2 _ _ e1, e2, ?_, fun l hl => q _ l (us1 ++ us2) ((s1.trans s2).trans (same_new hl)) ((s1.trans s2).free hl) upd_same ?_⟩
        · have e1 := c1.len
          have e2 := c2.len
          exact sz_few (by omega)
        · exact ArsK.app (c2.tf (.same (same_new hl))) (c1.tf (.same (s2.trans (same_new hl))))
end
end My
namespace My
open PySem PySem.Spec PyProof.Rows L2 RZ
section
variable {P : Program} {w : World} {K : PySem.W.Frag} {mg : Str → Option Value} {base : Heap}
open L2H
open SX (S S_len S_cat slice_to slice_from num_S int_S)
open PySem.NumText (digitsVal AllDigits)
open TL (numL)
mutual
theorem dp_same {K : PySem.W.Frag} {H H' : Hp} (e : Same H H') : ∀ {v : V} {d : PyData}, Dp K H v d → Dp K H' v d
  | _, _, .non => .non
  | _, _, .bl b => .bl b
  | _, _, .int i => .int i
  | _, _, .str x => .str x
  | _, _, .lst h r => .lst (e.seq h) (dpAll_same e r)
  | _, _, .tup h r => .tup (Same.tup e h) (dpAll_same e r)
theorem dpAll_same {K : PySem.W.Frag} {H H' : Hp} (e : Same H H') : ∀ {vs : List V} {ds : List PyData}, DpAll K H vs ds → DpAll K H' vs ds
  | _, _, .nil => .nil
  | _, _, .cons h r => .cons (dp_same e h) (dpAll_same e r)
end
-- data of none, bools, ints, texts and tracked tuples
/-! ### size, frames -/
def spSz (K : PySem.W.Frag) (n : Nat) : Sp := fun vs H Q _ => ∃ (v : V) (t : Tr), vs = [v] ∧ t.h < n ∧ TrK K H v t ∧ Q (.int (sz t)) H
theorem okSize (T : Txt P w K mg) : ∀ n : Nat, FnOk P w K mg base CX0 (n + 1) T.fSize T.fdSize ["tree"] (spSz K n)
  | 0 => by
    refine T.FSize.ok scSize (fun vs H Q E h => ?_) (fun cdv A outer s H vs Q E hr h => ?_)
    · obtain ⟨v, t, rfl, hh, _⟩ := h
      rfl
    · obtain ⟨v, t, rfl, hh, _⟩ := h
      exact absurd hh (Nat.not_lt_zero _)
  | n + 1 => by
    have IH := okSize T n
    refine T.FSize.ok scSize (fun vs H Q E h => ?_) (fun cdv A outer s H vs Q E hr h => ?_)
    · obtain ⟨v, t, rfl, _⟩ := h
      rfl
    · obtain ⟨v, t, rfl, hh, ht, q⟩ := h
      -- slots tree=0
      refine ⟨_, (pss_cons (ps_if (pt_cmpR op_eq (pe_ix ix_tup (pv 0) pe_int (fun _ _ => rfl)) pe_str (nomark _))
            (pss_one (ps_ret (pe_op op_add pe_int (pe_call IH (hr.mono (by omega)) (by rfl) T.gSize T.FSize.kp T.bSize .nil pass0 (pa_cons (pe_ix ix_tup (pv 0) pe_int (fun _ _ => rfl)) pa_nil)))))
            pss_nil)
          (pss_cons (ps_if (pt_cmpR op_eq (pe_ix ix_tup (pv 0) pe_int (fun _ _ => rfl)) pe_str (nomark _))
            (pss_one (ps_ret (pe_op op_add (pe_op op_add pe_int (pe_call IH (hr.mono (by omega)) (by rfl) T.gSize T.FSize.kp T.bSize .nil pass0 (pa_cons (pe_ix ix_tup (pv 0) pe_int (fun _ _ => rfl)) pa_nil))) (pe_call IH (hr.mono (by omega)) (by rfl) T.gSize T.FSize.kp T.bSize .nil pass0 (pa_cons (pe_ix ix_tup (pv 0) pe_int (fun _ _ => rfl)) pa_nil)))))
            pss_nil)
          (pss_cons (ps_if (pt_cmpR op_eq (pe_ix ix_tup (pv 0) pe_int (fun _ _ => rfl)) pe_str (nomark _))
            (pss_one (ps_ret (pe_op op_add pe_int (pe_callB call_len_seq (by rfl) T.z_len PySem.boot_len (pa_cons (pe_ix ix_tup (pv 0) pe_int (fun _ _ => rfl)) pa_nil)))))
            pss_nil)
          (pss_one (ps_ret pe_int))))), ?_⟩
      cases t with
      | gone =>
        obtain ⟨p, rfl, h1⟩ := ht
        exact ⟨_, rfl, _, _, _, _, rfl, rfl, h1, atI_nat (j := 0) rfl, rfl, _, rfl, ifN w1.1 ⟨_, rfl, _, _, _, _, rfl, rfl, h1, atI_nat (j := 0) rfl, rfl, _, rfl, ifN w1.2.1 ⟨_, rfl, _, _, _, _, rfl, rfl, h1, atI_nat (j := 0) rfl, rfl, _, rfl, ifN w1.2.2.1 q⟩⟩⟩
      | num x y =>
        obtain ⟨p, p2, rfl, h1, h2⟩ := ht
        exact ⟨_, rfl, _, _, _, _, rfl, rfl, h1, atI_nat (j := 0) rfl, rfl, _, rfl, ifN w2.1 ⟨_, rfl, _, _, _, _, rfl, rfl, h1, atI_nat (j := 0) rfl, rfl, _, rfl, ifN w2.2.1 ⟨_, rfl, _, _, _, _, rfl, rfl, h1, atI_nat (j := 0) rfl, rfl, _, rfl, ifN w2.2.2.1 q⟩⟩⟩
      | cell r c =>
        obtain ⟨p, rfl, h1⟩ := ht
        exact ⟨_, rfl, _, _, _, _, rfl, rfl, h1, atI_nat (j := 0) rfl, rfl, _, rfl, ifN w3.1 ⟨_, rfl, _, _, _, _, rfl, rfl, h1, atI_nat (j := 0) rfl, rfl, _, rfl, ifN w3.2.1 ⟨_, rfl, _, _, _, _, rfl, rfl, h1, atI_nat (j := 0) rfl, rfl, _, rfl, ifN w3.2.2 q⟩⟩⟩
      | call m as =>
        obtain ⟨p, p2, vs, rfl, h1, h2, h3⟩ := ht
        refine ⟨_, rfl, _, _, _, _, rfl, rfl, h1, atI_nat (j := 0) rfl, rfl, _, rfl, ifN w6.1 ⟨_, rfl, _, _, _, _, rfl, rfl, h1, atI_nat (j := 0) rfl, rfl, _, rfl, ifN w6.2.1 ⟨_, rfl, _, _, _, _, rfl, rfl, h1, atI_nat (j := 0) rfl, rfl, _, rfl, ifY ⟨_, rfl, _, _, _, _, rfl, rfl, h1, atI_nat (j := 2) rfl, p2, vs, rfl, .inr h2, _, _, rfl, rfl, ?_⟩⟩⟩⟩
        rw [h3.len]
        exact q
      | neg t =>
        obtain ⟨p, u, rfl, h1, h2⟩ := ht
        exact ⟨_, rfl, _, _, _, _, rfl, rfl, h1, atI_nat (j := 0) rfl, rfl, _, rfl, ifY ⟨_, rfl, _, _, _, _, rfl, rfl, h1, atI_nat (j := 1) rfl, u, t, rfl, hneg hh, h2, _, _, rfl, rfl, q⟩⟩
      | op s l r =>
        obtain ⟨p, u, w_, rfl, h1, h2, h3⟩ := ht
        exact ⟨_, rfl, _, _, _, _, rfl, rfl, h1, atI_nat (j := 0) rfl, rfl, _, rfl, ifN w5.1 ⟨_, rfl, _, _, _, _, rfl, rfl, h1, atI_nat (j := 0) rfl, rfl, _, rfl, ifY ⟨_, rfl, _, _, _, _, rfl, rfl, h1, atI_nat (j := 2) rfl, u, l, rfl, (hop hh).1, h2, _, _, rfl, rfl, _, rfl, _, _, _, _, rfl, rfl, h1, atI_nat (j := 3) rfl, w_, r, rfl, (hop hh).2, h3, _, _, rfl, rfl, q⟩⟩⟩
def fD : Tr → PyData
  | .neg t => .tuple [.str "neg", fD t]
  | .op s l r => .tuple [.str "op", .str s, fD l, fD r]
  | .call n _ => .tuple [.str "call", .str n]
  | .num x y => .tuple [.str "num", .tuple [.int x, .int y]]
  | _ => .tuple [.str "leaf"]
def spFrame (K : PySem.W.Frag) (n : Nat) : Sp := fun vs H Q _ => ∃ (v : V) (t : Tr), vs = [v] ∧ t.h < n ∧ TrK K H v t ∧ ∀ y H', Same H H' → Dp K H' y (fD t) → Q y H'
theorem okLawFrame (T : Txt P w K mg) : ∀ n : Nat, FnOk P w K mg base CX0 (n + 1) T.fLawFrame T.fdLawFrame ["tree"] (spFrame K n)
  | 0 => by
    refine T.FLawFrame.ok scLawFrame (fun vs H Q E h => ?_) (fun cdv A outer s H vs Q E hr h => ?_)
    · obtain ⟨v, t, rfl, hh, _⟩ := h
      rfl
    · obtain ⟨v, t, rfl, hh, _⟩ := h
      exact absurd hh (Nat.not_lt_zero _)
  | n + 1 => by
    have IH := okLawFrame T n
    refine T.FLawFrame.ok scLawFrame (fun vs H Q E h => ?_) (fun cdv A outer s H vs Q E hr h => ?_)
    · obtain ⟨v, t, rfl, _⟩ := h
      rfl
    · obtain ⟨v, t, rfl, hh, ht, q⟩ := h
      -- slots tree=0
      refine ⟨_, (pss_cons (ps_if (pt_cmpR op_eq (pe_ix ix_tup (pv 0) pe_int (fun _ _ => rfl)) pe_str (nomark _))
            (pss_one (ps_ret (pe_tup (pa_cons pe_str (pa_cons (pe_call IH (hr.mono (by omega)) (by rfl) T.gLawFrame T.FLawFrame.kp T.bLawFrame .nil pass0 (pa_cons (pe_ix ix_tup (pv 0) pe_int (fun _ _ => rfl)) pa_nil)) pa_nil)))))
            pss_nil)
          (pss_cons (ps_if (pt_cmpR op_eq (pe_ix ix_tup (pv 0) pe_int (fun _ _ => rfl)) pe_str (nomark _))
            (pss_one (ps_ret (pe_tup (pa_cons pe_str (pa_cons (pe_ix ix_tup (pv 0) pe_int (fun _ _ => rfl)) (pa_cons (pe_call IH (hr.mono (by omega)) (by rfl) T.gLawFrame T.FLawFrame.kp T.bLawFrame .nil pass0 (pa_cons (pe_ix ix_tup (pv 0) pe_int (fun _ _ => rfl)) pa_nil)) (pa_cons (pe_call IH (hr.mono (by omega)) (by rfl) T.gLawFrame T.FLawFrame.kp T.bLawFrame .nil pass0 (pa_cons (pe_ix ix_tup (pv 0) pe_int (fun _ _ => rfl)) pa_nil)) pa_nil)))))))
            pss_nil)
          (pss_cons (ps_if (pt_cmpR op_eq (pe_ix ix_tup (pv 0) pe_int (fun _ _ => rfl)) pe_str (nomark _))
            (pss_one (ps_ret (pe_tup (pa_cons pe_str (pa_cons (pe_ix ix_tup (pv 0) pe_int (fun _ _ => rfl)) pa_nil)))))
            pss_nil)
          (pss_cons (ps_if (pt_cmpR op_eq (pe_ix ix_tup (pv 0) pe_int (fun _ _ => rfl)) pe_str (nomark _))
            (pss_one (ps_ret (pv 0)))
            pss_nil)
          (pss_one (ps_ret (pe_tup (pa_cons pe_str pa_nil)))))))), ?_⟩
      cases t with
      | gone =>
        obtain ⟨p, rfl, h1⟩ := ht
        exact ⟨_, rfl, _, _, _, _, rfl, rfl, h1, atI_nat (j := 0) rfl, rfl, _, rfl, ifN w1.1 ⟨_, rfl, _, _, _, _, rfl, rfl, h1, atI_nat (j := 0) rfl, rfl, _, rfl, ifN w1.2.1 ⟨_, rfl, _, _, _, _, rfl, rfl, h1, atI_nat (j := 0) rfl, rfl, _, rfl, ifN w1.2.2.1 ⟨_, rfl, _, _, _, _, rfl, rfl, h1, atI_nat (j := 0) rfl, rfl, _, rfl, ifN (by decide) ⟨(by show 1 ≤ sizeLine; decide), fun q2 h2 => q _ _ (same_new h2) (.tup (SqT.of upd_same) (.cons (.str _) .nil))⟩⟩⟩⟩⟩
      | num x y =>
        obtain ⟨p, p2, rfl, h1, h2⟩ := ht
        exact ⟨_, rfl, _, _, _, _, rfl, rfl, h1, atI_nat (j := 0) rfl, rfl, _, rfl, ifN w2.1 ⟨_, rfl, _, _, _, _, rfl, rfl, h1, atI_nat (j := 0) rfl, rfl, _, rfl, ifN w2.2.1 ⟨_, rfl, _, _, _, _, rfl, rfl, h1, atI_nat (j := 0) rfl, rfl, _, rfl, ifN w2.2.2.1 ⟨_, rfl, _, _, _, _, rfl, rfl, h1, atI_nat (j := 0) rfl, rfl, _, rfl, ifY ⟨_, rfl, q _ _ (Same.refl H) (.tup h1 (.cons (.str _) (.cons (.tup h2 (.cons (.int _) (.cons (.int _) .nil))) .nil)))⟩⟩⟩⟩⟩
      | cell r c =>
        obtain ⟨p, rfl, h1⟩ := ht
        exact ⟨_, rfl, _, _, _, _, rfl, rfl, h1, atI_nat (j := 0) rfl, rfl, _, rfl, ifN w3.1 ⟨_, rfl, _, _, _, _, rfl, rfl, h1, atI_nat (j := 0) rfl, rfl, _, rfl, ifN w3.2.1 ⟨_, rfl, _, _, _, _, rfl, rfl, h1, atI_nat (j := 0) rfl, rfl, _, rfl, ifN w3.2.2 ⟨_, rfl, _, _, _, _, rfl, rfl, h1, atI_nat (j := 0) rfl, rfl, _, rfl, ifN (by decide) ⟨(by show 1 ≤ sizeLine; decide), fun q2 h2 => q _ _ (same_new h2) (.tup (SqT.of upd_same) (.cons (.str _) .nil))⟩⟩⟩⟩⟩
      | call m as =>
        obtain ⟨p, p2, vs, rfl, h1, h2, h3⟩ := ht
        exact ⟨_, rfl, _, _, _, _, rfl, rfl, h1, atI_nat (j := 0) rfl, rfl, _, rfl, ifN w6.1 ⟨_, rfl, _, _, _, _, rfl, rfl, h1, atI_nat (j := 0) rfl, rfl, _, rfl, ifN w6.2.1 ⟨_, rfl, _, _, _, _, rfl, rfl, h1, atI_nat (j := 0) rfl, rfl, _, rfl, ifY ⟨_, rfl, _, _, _, _, rfl, rfl, h1, atI_nat (j := 1) rfl, (by show 2 ≤ sizeLine; decide), fun q2 h2 => q _ _ (same_new h2) (.tup (SqT.of upd_same) (.cons (.str _) (.cons (.str _) .nil)))⟩⟩⟩⟩
      | neg t =>
        obtain ⟨p, u, rfl, h1, h2⟩ := ht
        exact ⟨_, rfl, _, _, _, _, rfl, rfl, h1, atI_nat (j := 0) rfl, rfl, _, rfl, ifY ⟨_, rfl, _, _, _, _, rfl, rfl, h1, atI_nat (j := 1) rfl, u, t, rfl, hneg hh, h2, fun y H1 s1 d1 => ⟨(by show 2 ≤ sizeLine; decide), fun q2 h2 => q _ _ (s1.trans (same_new h2)) (.tup (SqT.of upd_same) (.cons (.str _) (.cons (dp_same (same_new h2) d1) .nil)))⟩⟩⟩
      | op s l r =>
        obtain ⟨p, u, w_, rfl, h1, h2, h3⟩ := ht
        refine ⟨_, rfl, _, _, _, _, rfl, rfl, h1, atI_nat (j := 0) rfl, rfl, _, rfl, ifN w5.1 ⟨_, rfl, _, _, _, _, rfl, rfl, h1, atI_nat (j := 0) rfl, rfl, _, rfl, ifY ⟨_, rfl, _, _, _, _, rfl, rfl, h1, atI_nat (j := 1) rfl, _, rfl, _, _, _, _, rfl, rfl, h1, atI_nat (j := 2) rfl, u, l, rfl, (hop hh).1, h2, fun y1 H1 s1 d1 => ?_⟩⟩⟩
        have h1' := sqT_tf (.same s1) h1
        exact ⟨_, rfl, _, _, _, _, rfl, rfl, h1', atI_nat (j := 3) rfl, w_, r, rfl, (hop hh).2, h3.tf (.same s1), fun y2 H2 s2 d2 => ⟨(by show 4 ≤ sizeLine; decide), fun q2 h2 => q _ _ ((s1.trans s2).trans (same_new h2)) (.tup (SqT.of upd_same) (.cons (.str _) (.cons (.str _) (.cons (dp_same (s2.trans (same_new h2)) d1) (.cons (dp_same (same_new h2) d2) .nil)))))⟩⟩
end
end My
namespace My
open PySem PySem.Spec PyProof.Rows L2 RZ
section
variable {P : Program} {w : World} {K : PySem.W.Frag} {mg : Str → Option Value} {base : Heap}
open L2H
open SX (S S_len S_cat slice_to slice_from num_S int_S)
open PySem.NumText (digitsVal AllDigits)
open TL (numL)
/-! ### numbers that the law draws -/
def spDg (K : PySem.W.Frag) : Sp := fun vs H Q _ => ∃ (c k : Int) (m : Nat), vs = [.int c, .int k, .int (m : Int)] ∧ m ≤ 60 ∧ ∀ H' d ds, Same H H' → H d = none → H' d = some (.lst (ds.map V.int)) → Dig ds m → Q (.ref d) H'
theorem okLawDigits (T : Txt P w K mg) : FnOk P w K mg base CX0 1 T.fLawDigits T.fdLawDigits ["cell", "k", "most"] (spDg K) := by
  refine T.FLawDigits.ok scLawDigits (fun vs H Q E h => ?_) (fun cdv A outer s H vs Q E hr h => ?_)
  · obtain ⟨c, k, m, rfl, _⟩ := h
    rfl
  · obtain ⟨c, k, m, rfl, hm, q⟩ := h
    -- slots cell=0 k=1 most=2 digits=3 turn=4 seed=5
    refine ⟨_, (pss_cons (ps_set (i := 3) scLawDigits.nd rfl (Or.inl rfl) (pe_lst pa_nil))
        (C8.pss_cut (ps_if (pt_cmpR op_lt (pv 0) pe_int (nomark _))
          (pss_one (ps_set (i := 0) scLawDigits.nd rfl (Or.inl rfl) (pe_op op_sub (pe_un un_neg pe_int) (pv 0))))
          pss_nil)
        (pss_cons (ps_if (pt_cmpR op_ge (pv 0) (pe_op op_pow pe_int pe_int) (nomark _))
          (pss_one (ps_for PassesOwn.never rfl (pi_range1 rfl T.z_range (pa_cons pe_int pa_nil)) (pg_name (i := 4) scLawDigits.nd rfl (Or.inl rfl))
            (pss_one (ps_if (PW.pt (pw_and (pt_cmpR op_gt (pv 0) pe_int (nomark _)) (pw_and1 (pt_cmpR op_lt (pe_callB call_len_seq (by rfl) T.z_len PySem.boot_len (pa_cons (pv 3) pa_nil)) (pv 2) (nomark _)))))
              (pss_cons (ps_expr (pe_bm PySem.F.plainAttrs_list PySem.F.slot_list_append PySem.F.type_list_append mt_append (pv 3) (pa_cons (pe_op op_mod (pe_callTy call_int1 (by rfl) T.z_int (by decide +kernel) (pa_cons (pv 0) pa_nil)) pe_int) pa_nil)))
              (pss_one (ps_set (i := 0) scLawDigits.nd rfl (Or.inl rfl) (pe_op op_fdiv (pv 0) pe_int))))
              pss_nil))))
          (pss_cons (ps_set (i := 5) scLawDigits.nd rfl (Or.inl rfl) (pe_op op_mod (pe_callTy call_int1 (by rfl) T.z_int (by decide +kernel) (pa_cons (pe_op op_add (pe_op op_add (pe_op op_mul (pv 0) pe_int) (pe_op op_mul (pv 1) pe_int)) pe_int) pa_nil)) pe_int))
          (pss_one (ps_for PassesOwn.never rfl (pi_range1 rfl T.z_range (pa_cons (pv 2) pa_nil)) (pg_name (i := 4) scLawDigits.nd rfl (Or.inl rfl))
            (pss_cons (ps_set (i := 5) scLawDigits.nd rfl (Or.inl rfl) (pe_op op_mod (pe_callTy call_int1 (by rfl) T.z_int (by decide +kernel) (pa_cons (pe_op op_add (pe_op op_add (pe_op op_mul (pv 5) pe_int) (pe_op op_mul pe_int (pv 4))) pe_int) pa_nil)) pe_int))
            (pss_one (ps_expr (pe_bm PySem.F.plainAttrs_list PySem.F.slot_list_append PySem.F.type_list_append mt_append (pv 3) (pa_cons (pe_op op_mod (pe_callTy call_int1 (by rfl) T.z_int (by decide +kernel) (pa_cons (pe_op op_fdiv (pv 5) pe_int) pa_nil)) pe_int) pa_nil)))))))))
        (pss_one (ps_ret (pv 3)))))), ?_⟩
    refine ⟨Nat.zero_le _, fun d hd => ?_⟩
    refine ⟨fun σ H' => H' = upd H d (.lst []) ∧ ∃ c : Int, σ = [some (.int c), some (.int k), some (.int (m : Int)), some (.ref d), none, none], ?_, ?_⟩
    · refine ⟨_, rfl, _, _, rfl, rfl, _, rfl, ite2 (fun _ => ?_) (fun _ => ?_)⟩
      · exact ⟨_, rfl, _, rfl, _, _, rfl, rfl, rfl, _, rfl⟩
      · exact ⟨rfl, _, rfl⟩
    rintro σ H0 ⟨rfl, c, rfl⟩
    have s0 := same_new (o := .lst []) hd
    refine ⟨_, rfl, _, _, rfl, rfl, ⟨by decide, by decide, by decide⟩, _, _, rfl, rfl, _, rfl, ite2 (fun _ => ?_) (fun _ => ?_)⟩
    · refine ⟨60, rfl, by decide, by decide, for_range (lo := 0) (n := 60) (fun t σ H' => ∃ ds c c4 c5, σ = [some (.int c), some (.int k), some (.int (m : Int)), some (.ref d), c4, c5] ∧ Same H H' ∧ H' d = some (.lst (ds.map V.int)) ∧ Dig ds m) ⟨[], _, _, _, rfl, s0, upd_same, Dig.nil.more (Nat.zero_le _)⟩ ?_ ?_⟩
      · rintro t σ H2 ht ⟨ds, c, c4, c5, rfl, s2, hd2, D2⟩
        refine ⟨_, rfl, _, _, rfl, rfl, _, rfl, ite2 (fun _ => ?_) (fun _ => ⟨ds, _, _, _, rfl, s2, hd2, D2⟩)⟩
        refine ⟨_, rfl, d, _, rfl, .inl (SqL.of hd2), _, rfl, _, _, rfl, rfl, _, rfl, ite2 (fun lt => ?_) (fun _ => ⟨ds, _, _, _, rfl, s2, hd2, D2⟩)⟩
        have room : ds.length < m := by
          have z := of_decide_eq_true lt
          rw [List.length_map] at z
          omega
        refine ⟨_, rfl, .inl ⟨rfl, _, SqL.of hd2⟩, _, rfl, .inl ⟨_, rfl, _, _, rfl, rfl, (by show (0 : Int) < _; decide), d, _, _, rfl, rfl, hd2, ?_, _, rfl, _, _, rfl, rfl, ⟨by decide, by decide⟩, ?_⟩⟩
        · rw [List.length_map]
          exact sz_few (by omega)
        · exact ⟨ds ++ [_ % 1000], _, _, _, rfl, same_mut s2 hd, by rw [upd_same, List.map_append]; rfl, ⟨(D2.add _).all, by rw [List.length_append]; exact room⟩⟩
      · rintro σ H2 ⟨ds, c, c4, c5, rfl, s2, hd2, D2⟩
        exact ⟨_, rfl, q _ d ds s2 hd hd2 D2⟩
    · refine ⟨_, rfl, _, _, rfl, rfl, .inr ⟨by decide, by decide⟩, _, rfl, _, _, rfl, rfl, .inr ⟨by decide, by decide⟩, _, _, rfl, rfl, _, _, rfl, rfl, .inl ⟨_, rfl, _, _, rfl, rfl, (by show (0 : Int) < _; decide), ?_⟩⟩
      refine ⟨_, rfl, _, rfl, by omega, by omega, for_range (lo := 0) (n := m) (fun t σ H' => ∃ ds c4 sd, σ = [some (.int c), some (.int k), some (.int (m : Int)), some (.ref d), c4, some (.int sd)] ∧ Same H H' ∧ H' d = some (.lst (ds.map V.int)) ∧ Dig ds t) ⟨[], _, _, rfl, s0, upd_same, Dig.nil⟩ ?_ ?_⟩
      · rintro t σ H2 ht ⟨ds, c4, sd, rfl, s2, hd2, D2⟩
        refine ⟨_, rfl, _, _, rfl, rfl, .inr ⟨by decide, by decide⟩, _, rfl, _, _, rfl, rfl, .inl ⟨by decide, by decide⟩, _, _, rfl, rfl, _, _, rfl, rfl, .inl ⟨_, rfl, _, _, rfl, rfl, (by show (0 : Int) < _; decide), ?_⟩⟩
        refine ⟨_, rfl, .inl ⟨rfl, _, SqL.of hd2⟩, _, rfl, _, _, rfl, rfl, ⟨by decide, by decide⟩, .inl ⟨_, rfl, _, _, rfl, rfl, (by show (0 : Int) < _; decide), d, _, _, rfl, rfl, hd2, ?_, ?_⟩⟩
        · rw [List.length_map]
          exact sz_few (by have := D2.len; omega)
        · exact ⟨ds ++ [_ % 1000], _, _, rfl, same_mut s2 hd, by rw [upd_same, List.map_append]; rfl, D2.add _⟩
      · rintro σ H2 ⟨ds, c4, sd, rfl, s2, hd2, D2⟩
        exact ⟨_, rfl, q _ d ds s2 hd hd2 D2⟩
end
end My
namespace My
open PySem PySem.Spec PyProof.Rows L2 RZ
section
variable {P : Program} {w : World} {K : PySem.W.Frag} {mg : Str → Option Value} {base : Heap}
open L2H
open SX (S S_len S_cat slice_to slice_from num_S int_S)
open PySem.NumText (digitsVal AllDigits)
open TL (numL)
structure Pad (ds : List Int) : Prop where
  all : ∀ x ∈ ds, 0 ≤ x ∧ x < 1000
  lo : 20 ≤ ds.length
  hi : ds.length ≤ 40
def spPad (K : PySem.W.Frag) : Sp := fun vs H Q _ => ∃ (c k : Int), vs = [.int c, .int k] ∧ ∀ H' d ds, Same H H' → H d = none → H' d = some (.lst (ds.map V.int)) → Pad ds → Q (.ref d) H'
theorem okLawPadded (T : Txt P w K mg) : FnOk P w K mg base CX0 2 T.fLawPadded T.fdLawPadded ["cell", "k"] (spPad K) := by
  refine T.FLawPadded.ok scLawPadded (fun vs H Q E h => ?_) (fun cdv A outer s H vs Q E hr h => ?_)
  · obtain ⟨c, k, rfl, _⟩ := h
    rfl
  · obtain ⟨c, k, rfl, q⟩ := h
    -- slots cell=0 k=1 d=2 turn=3
    refine ⟨_, (pss_cons (ps_set (i := 2) scLawPadded.nd rfl (Or.inl rfl) (pe_call (okLawDigits T) (hr.mono (by decide)) (by rfl) T.gLawDigits T.FLawDigits.kp T.bLawDigits .nil pass0 (pa_cons (pv 0) (pa_cons (pv 1) (pa_cons pe_int pa_nil)))))
        (pss_cons (ps_for PassesOwn.never rfl (pi_range1 rfl T.z_range (pa_cons pe_int pa_nil)) (pg_name (i := 3) scLawPadded.nd rfl (Or.inl rfl))
          (pss_one (ps_expr (pe_bm PySem.F.plainAttrs_list PySem.F.slot_list_append PySem.F.type_list_append mt_append (pv 2) (pa_cons (pv 3) pa_nil)))))
        (pss_one (ps_ret (pv 2))))), ?_⟩
    refine ⟨_, rfl, _, rfl, c, k, 20, rfl, by decide, fun H1 d ds s1 hd h1 D => ?_⟩
    refine ⟨20, rfl, by decide, by decide, for_range (lo := 0) (n := 20) (fun t σ H' => ∃ es c3, σ = [some (.int c), some (.int k), some (.ref d), c3] ∧ Same H H' ∧ H' d = some (.lst (es.map V.int)) ∧ (∀ x ∈ es, 0 ≤ x ∧ x < 1000) ∧ t ≤ es.length ∧ es.length ≤ 20 + t) ⟨ds, _, rfl, s1, h1, D.all, Nat.zero_le _, D.len⟩ ?_ ?_⟩
    · rintro t σ H2 ht ⟨es, c3, rfl, s2, hd2, al, lo, hi⟩
      refine ⟨_, rfl, .inl ⟨rfl, _, SqL.of hd2⟩, _, rfl, d, _, _, rfl, rfl, hd2, ?_, ?_⟩
      · rw [List.length_map]
        exact sz_few (by omega)
      · refine ⟨es ++ [(0 : Int) + (t : Int)], _, rfl, same_mut s2 hd, by rw [upd_same, List.map_append]; rfl, fun x hx => ?_, ?_, ?_⟩
        · rcases List.mem_append.mp hx with z | z
          · exact al x z
          · obtain rfl : x = (0 : Int) + (t : Int) := by simpa using z
            omega
        · rw [List.length_append]
          show t + 1 ≤ es.length + 1
          omega
        · rw [List.length_append]
          show es.length + 1 ≤ 20 + (t + 1)
          omega
    · rintro σ H2 ⟨es, c3, rfl, s2, hd2, al, lo, hi⟩
      exact ⟨_, rfl, q _ d es s2 hd hd2 ⟨al, lo, hi⟩⟩
theorem small_num {n : Int} (a : 0 ≤ n) (b : n ≤ 19) : (Str.ofString (toString n)).cps.size ≤ 2 := by
  have all : ∀ k : Nat, k < 20 → (Str.ofString (toString (k : Int))).cps.size ≤ 2 := by decide +kernel
  have z := all n.toNat (by omega)
  rw [show ((n.toNat : Nat) : Int) = n by omega] at z
  exact z
theorem num_ok {n : Int} (a : 0 ≤ n) (b : n ≤ 19) : PyData.strOk (Str.ofString (toString n)) = true := by
  have all : ∀ k : Nat, k < 20 → PyData.strOk (Str.ofString (toString (k : Int))) = true := by decide +kernel
  have z := all n.toNat (by omega)
  rw [show ((n.toNat : Nat) : Int) = n by omega] at z
  exact z
theorem abcd_ok : ∀ c ∈ ("ABCD" : Str).cps.toList, PyData.strOk ⟨#[c]⟩ = true := by decide +kernel
theorem ok_cat {a b : Str} (ha : PyData.strOk a = true) (hb : PyData.strOk b = true) : PyData.strOk (a ++ b) = true := by
  show (a.cps ++ b.cps).all _ = true
  rw [Array.all_append]
  exact Bool.and_eq_true_iff.mpr ⟨ha, hb⟩
/-- any text of so many characters at most -/
def spAdr (K : PySem.W.Frag) : Sp := fun vs H Q _ => ∃ (x : Int), vs = [.int x] ∧ 0 ≤ x ∧ x < 1000 ∧ ∀ w : Str, w.cps.size ≤ 3 → PyData.strOk w = true → Q (.str w) H
theorem okLawAddress (T : Txt P w K mg) : FnOk P w K mg base CX0 1 T.fLawAddress T.fdLawAddress ["digit"] (spAdr K) := by
  refine T.FLawAddress.ok scLawAddress (fun vs H Q E h => ?_) (fun cdv A outer s H vs Q E hr h => ?_)
  · obtain ⟨x, rfl, _⟩ := h
    rfl
  · obtain ⟨x, rfl, h0, h1, q⟩ := h
    -- slots digit=0
    refine ⟨_, (pss_one (ps_ret (pe_op op_add_str (pe_ix ix_str pe_str (pe_op op_mod (pe_callTy call_int1 (by rfl) T.z_int (by decide +kernel) (pa_cons (pv 0) pa_nil)) pe_int) (fun _ _ => rfl)) (pe_callTy call_str_int (by rfl) T.z_str (by decide +kernel) (pa_cons (pe_op op_add pe_int (pe_op op_mod (pe_callTy call_int1 (by rfl) T.z_int (by decide +kernel) (pa_cons (pe_op op_fdiv (pv 0) pe_int) pa_nil)) pe_int)) pa_nil))))), ?_⟩
    obtain ⟨ch, hmem, hch⟩ := at_mem (xs := ("ABCD" : Str).cps.toList) (k := x % 4) (by omega) (by show x % 4 < 4; omega)
    refine ⟨_, rfl, .inl ⟨_, rfl, _, _, rfl, rfl, (by show (0 : Int) < _; decide), _, _, ch, rfl, rfl, by decide +kernel, hch, ?_⟩⟩
    refine ⟨_, rfl, _, _, rfl, rfl, ⟨by decide, by decide⟩, .inl ⟨_, rfl, _, _, rfl, rfl, (by show (0 : Int) < _; decide), _, _, rfl, rfl, ?_⟩⟩
    have sm := small_num (n := 1 + x / 4 % 5) (by omega) (by omega)
    refine ⟨_, rfl, log_small (by omega) (by omega), _, _, rfl, rfl, ?_, q _ ?_ (ok_cat (abcd_ok ch hmem) (num_ok (by omega) (by omega)))⟩
    · show 1 + (Str.ofString (toString (1 + x / 4 % 5))).cps.size ≤ sizeLine
      exact sz_few (by omega)
    · show (#[ch] ++ (Str.ofString (toString (1 + x / 4 % 5))).cps).size ≤ 3
      rw [Array.size_append]
      show 1 + _ ≤ 3
      omega
end
end My
namespace My
open PySem PySem.Spec PyProof.Rows L2 RZ
section
variable {P : Program} {w : World} {K : PySem.W.Frag} {mg : Str → Option Value} {base : Heap}
open L2H
open SX (S S_len S_cat slice_to slice_from num_S int_S)
open PySem.NumText (digitsVal AllDigits)
open TL (numL)
/-! ### texts that the law draws -/
theorem Pad.get {ds : List Int} (D : Pad ds) {k : Nat} (h : k < 20) : (ds.map V.int)[k]? = some (.int (ds.getD k 0)) := getD_at (Nat.lt_of_lt_of_le h D.lo)
theorem Pad.bd {ds : List Int} (D : Pad ds) {k : Nat} (h : k < 20) : 0 ≤ ds.getD k 0 ∧ ds.getD k 0 < 1000 := by
  have l := Nat.lt_of_lt_of_le h D.lo
  rw [List.getD_eq_getElem?_getD, List.getElem?_eq_getElem l]
  exact D.all _ (List.getElem_mem l)
/-- a written list of texts, all of them short -/
theorem pick_str {ws : List Str} {m : Nat} (all : ∀ w ∈ ws, w.cps.size ≤ m ∧ PyData.strOk w = true) {k : Int} (h0 : 0 ≤ k) (h1 : k < ws.length) : ∃ w : Str, w.cps.size ≤ m ∧ PyData.strOk w = true ∧ atI (ws.map V.str) k = some (.str w) := by
  obtain ⟨j, rfl⟩ := Int.eq_ofNat_of_zero_le h0
  have l : j < ws.length := by omega
  exact ⟨ws[j], (all _ (List.getElem_mem l)).1, (all _ (List.getElem_mem l)).2, atI_nat (by rw [List.getElem?_map, List.getElem?_eq_getElem l]; rfl)⟩
theorem cat_sz (a b : Str) : (a ++ b).cps.size = a.cps.size + b.cps.size := Array.size_append
theorem cat_ok {a b : Str} (h : a.cps.size + b.cps.size ≤ 100) : a.length + b.length ≤ sizeLine := sz_few h
def lits : List Str := ["=", " + ", " - ", " * ", "/", "sum", "count", "min", "max", "(", ":", ")", ", total) * ", "=sum(", "=-", " / (", " - 1)", "=min(gone, ", ", best)", "gone"]
theorem lits_sz : ∀ w ∈ lits, w.cps.size ≤ 11 ∧ PyData.strOk w = true := by decide +kernel
def spTx (K : PySem.W.Frag) : Sp := fun vs H Q _ => ∃ (d : Addr) (ds : List Int), vs = [.ref d] ∧ H d = some (.lst (ds.map V.int)) ∧ Pad ds ∧ ∀ (w : Str) H', Same H H' → w.cps.size ≤ 60 → PyData.strOk w = true → Q (.str w) H'
theorem okLawText (T : Txt P w K mg) : FnOk P w K mg base CX0 2 T.fLawText T.fdLawText ["d"] (spTx K) := by
  refine T.FLawText.ok scLawText (fun vs H Q E h => ?_) (fun cdv A outer s H vs Q E hr h => ?_)
  · obtain ⟨d, ds, rfl, _⟩ := h
    rfl
  · obtain ⟨d, ds, rfl, hd, D, q⟩ := h
    -- slots d=0 kind=1 one=2 other=3 number=4
    refine ⟨_, (pss_cons (ps_set (i := 1) scLawText.nd rfl (Or.inl rfl) (pe_op op_mod (pe_callTy call_int1 (by rfl) T.z_int (by decide +kernel) (pa_cons (pe_ix ix_list (pv 0) pe_int (fun _ _ => rfl)) pa_nil)) pe_int))
        (pss_cons (ps_set (i := 2) scLawText.nd rfl (Or.inl rfl) (pe_call (okLawAddress T) (hr.mono (by decide)) (by rfl) T.gLawAddress T.FLawAddress.kp T.bLawAddress .nil pass0 (pa_cons (pe_ix ix_list (pv 0) pe_int (fun _ _ => rfl)) pa_nil)))
        (pss_cons (ps_set (i := 3) scLawText.nd rfl (Or.inl rfl) (pe_call (okLawAddress T) (hr.mono (by decide)) (by rfl) T.gLawAddress T.FLawAddress.kp T.bLawAddress .nil pass0 (pa_cons (pe_ix ix_list (pv 0) pe_int (fun _ _ => rfl)) pa_nil)))
        (pss_cons (ps_set (i := 4) scLawText.nd rfl (Or.inl rfl) (pe_callTy call_str_int (by rfl) T.z_str (by decide +kernel) (pa_cons (pe_op op_mod (pe_callTy call_int1 (by rfl) T.z_int (by decide +kernel) (pa_cons (pe_ix ix_list (pv 0) pe_int (fun _ _ => rfl)) pa_nil)) pe_int) pa_nil)))
        (pss_cons (ps_if (pt_cmpR op_lt (pv 1) pe_int (nomark _))
          (pss_one (ps_ret (pe_ix ix_list (pe_lst (pa_cons pe_str (pa_cons pe_str (pa_cons pe_str (pa_cons pe_str (pa_cons pe_str pa_nil)))))) (pe_op op_mod (pe_callTy call_int1 (by rfl) T.z_int (by decide +kernel) (pa_cons (pe_ix ix_list (pv 0) pe_int (fun _ _ => rfl)) pa_nil)) pe_int) (fun _ _ => rfl))))
          pss_nil)
        (pss_cons (ps_if (pt_cmpR op_lt (pv 1) pe_int (nomark _))
          (pss_one (ps_ret (pe_op op_add_str (pe_op op_add_str (pe_ix ix_list (pe_lst (pa_cons pe_str (pa_cons pe_str pa_nil))) (pe_op op_mod (pe_callTy call_int1 (by rfl) T.z_int (by decide +kernel) (pa_cons (pe_ix ix_list (pv 0) pe_int (fun _ _ => rfl)) pa_nil)) pe_int) (fun _ _ => rfl)) (pv 4)) (pe_ix ix_list (pe_lst (pa_cons pe_str (pa_cons pe_str (pa_cons pe_str pa_nil)))) (pe_op op_mod (pe_callTy call_int1 (by rfl) T.z_int (by decide +kernel) (pa_cons (pe_ix ix_list (pv 0) pe_int (fun _ _ => rfl)) pa_nil)) pe_int) (fun _ _ => rfl)))))
          pss_nil)
        (pss_cons (ps_if (pt_cmpR op_eq (pv 1) pe_int (nomark _))
          (pss_one (ps_ret (pe_op op_add_str (pe_op op_add_str (pe_op op_add_str pe_str (pv 2)) (pe_ix ix_list (pe_lst (pa_cons pe_str (pa_cons pe_str (pa_cons pe_str (pa_cons pe_str pa_nil))))) (pe_op op_mod (pe_callTy call_int1 (by rfl) T.z_int (by decide +kernel) (pa_cons (pe_ix ix_list (pv 0) pe_int (fun _ _ => rfl)) pa_nil)) pe_int) (fun _ _ => rfl))) (pv 3))))
          pss_nil)
        (pss_cons (ps_if (pt_cmpR op_eq (pv 1) pe_int (nomark _))
          (pss_one (ps_ret (pe_op op_add_str (pe_op op_add_str (pe_op op_add_str (pe_op op_add_str (pe_op op_add_str (pe_op op_add_str pe_str (pe_ix ix_list (pe_lst (pa_cons pe_str (pa_cons pe_str (pa_cons pe_str (pa_cons pe_str pa_nil))))) (pe_op op_mod (pe_callTy call_int1 (by rfl) T.z_int (by decide +kernel) (pa_cons (pe_ix ix_list (pv 0) pe_int (fun _ _ => rfl)) pa_nil)) pe_int) (fun _ _ => rfl))) pe_str) (pv 2)) pe_str) (pv 3)) pe_str)))
          pss_nil)
        (pss_cons (ps_if (pt_cmpR op_eq (pv 1) pe_int (nomark _))
          (pss_one (ps_ret (pe_op op_add_str (pe_op op_add_str (pe_op op_add_str (pe_op op_add_str (pe_op op_add_str pe_str (pv 2)) pe_str) (pv 3)) pe_str) (pv 4))))
          pss_nil)
        (pss_cons (ps_if (pt_cmpR op_eq (pv 1) pe_int (nomark _))
          (pss_one (ps_ret (pe_op op_add_str (pe_op op_add_str (pe_op op_add_str (pe_op op_add_str pe_str (pv 2)) pe_str) (pv 3)) pe_str)))
          pss_nil)
        (pss_cons (ps_if (pt_cmpR op_eq (pv 1) pe_int (nomark _))
          (pss_one (ps_ret (pe_op op_add_str (pe_op op_add_str pe_str (pv 2)) pe_str)))
          pss_nil)
        (pss_one (ps_ret (pe_op op_add_str pe_str (pe_ix ix_list (pe_lst (pa_cons (pe_op op_add_str (pe_op op_add_str pe_str (pv 2)) pe_str) (pa_cons (pe_op op_add_str (pv 2) pe_str) (pa_cons pe_str pa_nil)))) (pe_op op_mod (pe_callTy call_int1 (by rfl) T.z_int (by decide +kernel) (pa_cons (pe_ix ix_list (pv 0) pe_int (fun _ _ => rfl)) pa_nil)) pe_int) (fun _ _ => rfl)))))))))))))))), ?_⟩
    refine ⟨_, rfl, d, _, _, _, rfl, rfl, SqL.of hd, atI_nat (D.get (k := 0) (by decide)), .inl ⟨_, rfl, _, _, rfl, rfl, (by show (0 : Int) < _; decide), ?_⟩⟩
    refine ⟨_, rfl, d, _, _, _, rfl, rfl, SqL.of hd, atI_nat (D.get (k := 1) (by decide)), _, rfl, (D.bd (by decide)).1, (D.bd (by decide)).2, fun one l1 ok1 => ?_⟩
    refine ⟨_, rfl, d, _, _, _, rfl, rfl, SqL.of hd, atI_nat (D.get (k := 2) (by decide)), _, rfl, (D.bd (by decide)).1, (D.bd (by decide)).2, fun other l2 ok2 => ?_⟩
    have b3 := D.bd (k := 3) (by decide)
    refine ⟨_, rfl, d, _, _, _, rfl, rfl, SqL.of hd, atI_nat (D.get (k := 3) (by decide)), .inl ⟨_, rfl, _, _, rfl, rfl, (by show (0 : Int) < _; decide), _, rfl, log_small (by omega) (by omega), ?_⟩⟩
    have sm := small_num (n := ds.getD 3 0 % 20) (by omega) (by omega)
    have smo := num_ok (n := ds.getD 3 0 % 20) (by omega) (by omega)
    generalize Str.ofString (toString (ds.getD 3 0 % 20)) = num at sm smo ⊢
    generalize ds.getD 0 0 % 10 = kind
    have b4 := D.bd (k := 4) (by decide)
    have b5 := D.bd (k := 5) (by decide)
    have L := lits_sz
    -- one of a written list, by the k-th number
    refine ⟨_, rfl, _, _, rfl, rfl, _, rfl, ite2 (fun _ => ?_) (fun _ => ?_)⟩
    · obtain ⟨w1, z1, p1, e1⟩ := pick_str (ws := ["", "tea", "A1", " 3", "x y"]) (m := 3) (by decide +kernel) (k := ds.getD 4 0 % 5) (by omega) (by show _ < (5 : Int); omega)
      exact ⟨sz_few (by show 5 ≤ 100; decide), fun l hl => ⟨_, rfl, d, _, _, _, rfl, rfl, SqL.of ((same_new hl) _ _ hd), atI_nat (D.get (k := 4) (by decide)), .inl ⟨_, rfl, _, _, rfl, rfl, (by show (0 : Int) < _; decide), l, _, _, _, rfl, rfl, SqL.of upd_same, e1, q w1 _ (same_new hl) (by omega) p1⟩⟩⟩
    refine ⟨_, rfl, _, _, rfl, rfl, _, rfl, ite2 (fun _ => ?_) (fun _ => ?_)⟩
    · obtain ⟨w1, z1, p1, e1⟩ := pick_str (ws := ["", "-"]) (m := 1) (by decide +kernel) (k := ds.getD 4 0 % 2) (by omega) (by show _ < (2 : Int); omega)
      obtain ⟨w2, z2, p2, e2⟩ := pick_str (ws := ["", ".5", ".250"]) (m := 4) (by decide +kernel) (k := ds.getD 5 0 % 3) (by omega) (by show _ < (3 : Int); omega)
      refine ⟨sz_few (by show 2 ≤ 100; decide), fun l hl => ⟨_, rfl, d, _, _, _, rfl, rfl, SqL.of ((same_new hl) _ _ hd), atI_nat (D.get (k := 4) (by decide)), .inl ⟨_, rfl, _, _, rfl, rfl, (by show (0 : Int) < _; decide), l, _, _, _, rfl, rfl, SqL.of upd_same, e1, ?_⟩⟩⟩
      refine ⟨_, rfl, _, _, rfl, rfl, cat_ok (by omega), sz_few (by show 3 ≤ 100; decide), fun l2 hl2 => ⟨_, rfl, d, _, _, _, rfl, rfl, SqL.of (((same_new hl).trans (same_new hl2)) _ _ hd), atI_nat (D.get (k := 5) (by decide)), .inl ⟨_, rfl, _, _, rfl, rfl, (by show (0 : Int) < _; decide), l2, _, _, _, rfl, rfl, SqL.of upd_same, e2, ?_⟩⟩⟩
      exact ⟨_, _, rfl, rfl, cat_ok (by rw [cat_sz]; omega), q _ _ ((same_new hl).trans (same_new hl2)) (by rw [cat_sz, cat_sz]; omega) (ok_cat (ok_cat p1 smo) p2)⟩
    refine ⟨_, rfl, rfl, _, rfl, ite2 (fun _ => ?_) (fun _ => ?_)⟩
    · obtain ⟨w1, z1, p1, e1⟩ := pick_str (ws := [" + ", " - ", " * ", "/"]) (m := 3) (by decide +kernel) (k := ds.getD 4 0 % 4) (by omega) (by show _ < (4 : Int); omega)
      obtain ⟨a1, o1⟩ := L "=" (by decide +kernel)
      refine ⟨_, rfl, _, _, rfl, rfl, cat_ok (by omega), sz_few (by show 4 ≤ 100; decide), fun l hl => ⟨_, rfl, d, _, _, _, rfl, rfl, SqL.of ((same_new hl) _ _ hd), atI_nat (D.get (k := 4) (by decide)), .inl ⟨_, rfl, _, _, rfl, rfl, (by show (0 : Int) < _; decide), l, _, _, _, rfl, rfl, SqL.of upd_same, e1, ?_⟩⟩⟩
      exact ⟨_, _, rfl, rfl, cat_ok (by rw [cat_sz]; omega), _, rfl, _, _, rfl, rfl, cat_ok (by rw [cat_sz, cat_sz]; omega), q _ _ (same_new hl) (by rw [cat_sz, cat_sz, cat_sz]; omega) (ok_cat (ok_cat (ok_cat o1 ok1) p1) ok2)⟩
    refine ⟨_, rfl, rfl, _, rfl, ite2 (fun _ => ?_) (fun _ => ?_)⟩
    · obtain ⟨w1, z1, p1, e1⟩ := pick_str (ws := ["sum", "count", "min", "max"]) (m := 5) (by decide +kernel) (k := ds.getD 4 0 % 4) (by omega) (by show _ < (4 : Int); omega)
      obtain ⟨a1, o1⟩ := L "=" (by decide +kernel)
      obtain ⟨a2, o2⟩ := L "(" (by decide +kernel)
      obtain ⟨a3, o3⟩ := L ":" (by decide +kernel)
      obtain ⟨a4, o4⟩ := L ")" (by decide +kernel)
      refine ⟨sz_few (by show 4 ≤ 100; decide), fun l hl => ⟨_, rfl, d, _, _, _, rfl, rfl, SqL.of ((same_new hl) _ _ hd), atI_nat (D.get (k := 4) (by decide)), .inl ⟨_, rfl, _, _, rfl, rfl, (by show (0 : Int) < _; decide), l, _, _, _, rfl, rfl, SqL.of upd_same, e1, ?_⟩⟩⟩
      exact ⟨_, _, rfl, rfl, cat_ok (by omega), _, _, rfl, rfl, cat_ok (by rw [cat_sz]; omega), _, rfl, _, _, rfl, rfl, cat_ok (by rw [cat_sz, cat_sz]; omega), _, _, rfl, rfl, cat_ok (by rw [cat_sz, cat_sz, cat_sz]; omega), _, rfl, _, _, rfl, rfl, cat_ok (by rw [cat_sz, cat_sz, cat_sz, cat_sz]; omega), _, _, rfl, rfl, cat_ok (by rw [cat_sz, cat_sz, cat_sz, cat_sz, cat_sz]; omega), q _ _ (same_new hl) (by rw [cat_sz, cat_sz, cat_sz, cat_sz, cat_sz, cat_sz]; omega) (ok_cat (ok_cat (ok_cat (ok_cat (ok_cat (ok_cat o1 p1) o2) ok1) o3) ok2) o4)⟩
    refine ⟨_, rfl, rfl, _, rfl, ite2 (fun _ => ?_) (fun _ => ?_)⟩
    · obtain ⟨a1, o1⟩ := L "=sum(" (by decide +kernel)
      obtain ⟨a2, o2⟩ := L ":" (by decide +kernel)
      obtain ⟨a3, o3⟩ := L ", total) * " (by decide +kernel)
      exact ⟨_, rfl, _, _, rfl, rfl, cat_ok (by omega), _, _, rfl, rfl, cat_ok (by rw [cat_sz]; omega), _, rfl, _, _, rfl, rfl, cat_ok (by rw [cat_sz, cat_sz]; omega), _, _, rfl, rfl, cat_ok (by rw [cat_sz, cat_sz, cat_sz]; omega), _, rfl, _, _, rfl, rfl, cat_ok (by rw [cat_sz, cat_sz, cat_sz, cat_sz]; omega), q _ _ (Same.refl H) (by rw [cat_sz, cat_sz, cat_sz, cat_sz, cat_sz]; omega) (ok_cat (ok_cat (ok_cat (ok_cat (ok_cat o1 ok1) o2) ok2) o3) smo)⟩
    refine ⟨_, rfl, rfl, _, rfl, ite2 (fun _ => ?_) (fun _ => ?_)⟩
    · obtain ⟨a1, o1⟩ := L "=-" (by decide +kernel)
      obtain ⟨a2, o2⟩ := L " / (" (by decide +kernel)
      obtain ⟨a3, o3⟩ := L " - 1)" (by decide +kernel)
      exact ⟨_, rfl, _, _, rfl, rfl, cat_ok (by omega), _, _, rfl, rfl, cat_ok (by rw [cat_sz]; omega), _, rfl, _, _, rfl, rfl, cat_ok (by rw [cat_sz, cat_sz]; omega), _, _, rfl, rfl, cat_ok (by rw [cat_sz, cat_sz, cat_sz]; omega), q _ _ (Same.refl H) (by rw [cat_sz, cat_sz, cat_sz, cat_sz]; omega) (ok_cat (ok_cat (ok_cat (ok_cat o1 ok1) o2) ok2) o3)⟩
    refine ⟨_, rfl, rfl, _, rfl, ite2 (fun _ => ?_) (fun _ => ?_)⟩
    · obtain ⟨a1, o1⟩ := L "=min(gone, " (by decide +kernel)
      obtain ⟨a2, o2⟩ := L ", best)" (by decide +kernel)
      exact ⟨_, rfl, _, _, rfl, rfl, cat_ok (by omega), _, _, rfl, rfl, cat_ok (by rw [cat_sz]; omega), q _ _ (Same.refl H) (by rw [cat_sz, cat_sz]; omega) (ok_cat (ok_cat o1 ok1) o2)⟩
    obtain ⟨a1, o1⟩ := L "=" (by decide +kernel)
    obtain ⟨a2, o2⟩ := L "(" (by decide +kernel)
    obtain ⟨a3, o3⟩ := L ")" (by decide +kernel)
    obtain ⟨a4, o4⟩ := L " + " (by decide +kernel)
    obtain ⟨a5, o5⟩ := L "gone" (by decide +kernel)
    obtain ⟨w1, z1, p1, e1⟩ := pick_str (ws := ["(" ++ one ++ ")", one ++ " + ", "gone"]) (m := 25) (by
      intro w hw
      rcases List.mem_cons.mp hw with rfl | hw
      · exact ⟨by rw [cat_sz, cat_sz]; omega, ok_cat (ok_cat o2 ok1) o3⟩
      rcases List.mem_cons.mp hw with rfl | hw
      · exact ⟨by rw [cat_sz]; omega, ok_cat ok1 o4⟩
      · obtain rfl : w = "gone" := by simpa using hw
        exact ⟨by omega, o5⟩) (k := ds.getD 4 0 % 3) (by omega) (by show _ < (3 : Int); omega)
    refine ⟨_, rfl, _, _, rfl, rfl, cat_ok (by omega), _, _, rfl, rfl, cat_ok (by rw [cat_sz]; omega), _, rfl, _, _, rfl, rfl, cat_ok (by omega), sz_few (by show 3 ≤ 100; decide), fun l hl => ⟨_, rfl, d, _, _, _, rfl, rfl, SqL.of ((same_new hl) _ _ hd), atI_nat (D.get (k := 4) (by decide)), .inl ⟨_, rfl, _, _, rfl, rfl, (by show (0 : Int) < _; decide), l, _, _, _, rfl, rfl, SqL.of upd_same, e1, ?_⟩⟩⟩
    exact ⟨_, _, rfl, rfl, cat_ok (by omega), q _ _ (same_new hl) (by rw [cat_sz]; omega) (ok_cat o1 p1)⟩
end
end My
namespace My
open PySem PySem.Spec PyProof.Rows L2 RZ
section
variable {P : Program} {w : World} {K : PySem.W.Frag} {mg : Str → Option Value} {base : Heap}
open L2H
open SX (S S_len S_cat slice_to slice_from num_S int_S)
open PySem.NumText (digitsVal AllDigits)
open TL (numL)
/-! ### how large a tree of thirty tokens is -/
def nT : Tr → Nat
  | .neg t => 1 + nT t
  | .op _ l r => 1 + nT l + nT r
  | .call _ as => 1 + as.length
  | _ => 1
def Tr.sk : Tr → Prop
  | .neg t => t.sk
  | .op s l r => PyData.strOk s = true ∧ l.sk ∧ r.sk
  | .call n _ => PyData.strOk n = true
  | _ => True
theorem nT_h : ∀ t : Tr, t.h < nT t
  | .neg t => by
    have := nT_h t
    show t.h + 1 < 1 + nT t
    omega
  | .op _ l r => by
    have a := nT_h l
    have b := nT_h r
    show max l.h r.h + 1 < 1 + nT l + nT r
    omega
  | .call _ as => by
    show 0 < 1 + as.length
    omega
  | .gone => Nat.one_pos
  | .num _ _ => Nat.one_pos
  | .cell _ _ => Nat.one_pos
theorem nT_c : ∀ t : Tr, (tcells t).length ≤ nT t
  | .neg t => by
    have := nT_c t
    show (tcells t).length ≤ 1 + nT t
    omega
  | .op _ l r => by
    have a := nT_c l
    have b := nT_c r
    show (tcells l ++ tcells r).length ≤ 1 + nT l + nT r
    rw [List.length_append]
    omega
  | .call _ as => Nat.zero_le _
  | .gone => Nat.zero_le _
  | .num _ _ => Nat.zero_le _
  | .cell _ _ => Nat.le_refl 1
theorem nT_a : ∀ t : Tr, (tareas t).length ≤ nT t
  | .neg t => by
    have := nT_a t
    show (tareas t).length ≤ 1 + nT t
    omega
  | .op _ l r => by
    have a := nT_a l
    have b := nT_a r
    show (tareas l ++ tareas r).length ≤ 1 + nT l + nT r
    rw [List.length_append]
    omega
  | .call _ as => by
    show as.length ≤ 1 + as.length
    omega
  | .gone => Nat.zero_le _
  | .num _ _ => Nat.zero_le _
  | .cell _ _ => Nat.zero_le _
theorem nT_k {m : Nat} : ∀ t : Tr, nT t ≤ m → t.ok m
  | .neg t, h => nT_k t (by have h : 1 + nT t ≤ m := h; omega)
  | .op _ l r, h => by
    have h : 1 + nT l + nT r ≤ m := h
    exact ⟨nT_k l (by omega), nT_k r (by omega)⟩
  | .call _ as, h => by
    have h : 1 + as.length ≤ m := h
    show as.length ≤ m
    omega
  | .gone, _ => trivial
  | .num _ _, _ => trivial
  | .cell _ _, _ => trivial
theorem PA.nT {ts r : List Tk} {a : Ar} (h : PA ts a r) : r.length ≤ ts.length ∧ ∀ x ∈ r, x ∈ ts := by
  cases h with
  | gone => exact ⟨by simp, fun x hx => List.mem_cons_of_mem _ hx⟩
  | name => exact ⟨by simp, fun x hx => List.mem_cons_of_mem _ hx⟩
  | two => exact ⟨by simp only [List.length_cons]; omega, fun x hx => List.mem_cons_of_mem _ (List.mem_cons_of_mem _ (List.mem_cons_of_mem _ hx))⟩
  | one _ => exact ⟨by simp, fun x hx => List.mem_cons_of_mem _ hx⟩
theorem PAs.nT : ∀ {ts r : List Tk} {as : List Ar}, PAs ts as r → as.length + r.length ≤ ts.length ∧ ∀ x ∈ r, x ∈ ts
  | _, _, _, .stop => ⟨by simp, fun x hx => List.mem_cons_of_mem _ hx⟩
  | _, _, _, .step _ a b => by
    obtain ⟨a1, a2⟩ := a.nT
    obtain ⟨b1, b2⟩ := b.nT
    exact ⟨by simp only [List.length_cons]; omega, fun x hx => List.mem_cons_of_mem _ (a2 x (b2 x hx))⟩
def FnS (ts : List Tk) : Prop := ∀ w, Tk.fn w ∈ ts → PyData.strOk w = true
theorem op_str {c : Nat} (h : isSum c = true ∨ isProd c = true) : PyData.strOk (S [c]) = true := by
  have : c = 43 ∨ c = 45 ∨ c = 42 ∨ c = 47 := by
    rcases h with h | h
    · simp [isSum] at h
      omega
    · simp [isProd] at h
      omega
  rcases this with rfl | rfl | rfl | rfl <;> decide +kernel
mutual
theorem PT.nT : ∀ {n : Nat} {v : Lv} {ts r : List Tk} {t : Tr}, PT n v ts t r → My.nT t + r.length ≤ ts.length ∧ (∀ x ∈ r, x ∈ ts) ∧ (FnS ts → t.sk)
  | _, _, _, _, _, .form a b => by
    obtain ⟨a1, a2, a3⟩ := a.nT
    obtain ⟨b1, b2, b3⟩ := b.nT (.inl rfl)
    exact ⟨by omega, fun x hx => a2 x (b2 x hx), fun f => b3 (a3 f) fun w hw => f w (a2 _ hw)⟩
  | _, _, _, _, _, .term a b => by
    obtain ⟨a1, a2, a3⟩ := a.nT
    obtain ⟨b1, b2, b3⟩ := b.nT (.inr rfl)
    exact ⟨by omega, fun x hx => a2 x (b2 x hx), fun f => b3 (a3 f) fun w hw => f w (a2 _ hw)⟩
  | _, _, _, _, _, .fact _ a => a.nT
  | _, _, _, _, _, .neg a => by
    obtain ⟨a1, a2, a3⟩ := a.nT
    exact ⟨by show 1 + My.nT _ + _ ≤ _ + 1; omega, fun x hx => List.mem_cons_of_mem _ (a2 x hx), fun f => a3 fun w hw => f w (List.mem_cons_of_mem _ hw)⟩
  | _, _, _, _, _, .dec => ⟨by show 1 + _ ≤ _ + 1; omega, fun x hx => List.mem_cons_of_mem _ hx, fun _ => trivial⟩
  | _, _, _, _, _, .cel => ⟨by show 1 + _ ≤ _ + 1; omega, fun x hx => List.mem_cons_of_mem _ hx, fun _ => trivial⟩
  | _, _, _, _, _, .gone => ⟨by show 1 + _ ≤ _ + 1; omega, fun x hx => List.mem_cons_of_mem _ hx, fun _ => trivial⟩
  | _, _, _, _, _, .par a => by
    obtain ⟨a1, a2, a3⟩ := a.nT
    rw [List.length_cons] at a1
    exact ⟨by rw [List.length_cons]; omega, fun x hx => List.mem_cons_of_mem _ (a2 x (List.mem_cons_of_mem _ hx)), fun f => a3 fun w hw => f w (List.mem_cons_of_mem _ hw)⟩
  | _, _, _, _, _, .call a => by
    obtain ⟨a1, a2⟩ := a.nT
    exact ⟨by show 1 + _ + _ ≤ _ + 1; omega, fun x hx => List.mem_cons_of_mem _ (a2 x hx), fun f => f _ (List.mem_cons_self ..)⟩
theorem PL.nT : ∀ {n : Nat} {p : Nat → Bool} {v : Lv} {l t : Tr} {ts r : List Tk}, PL n p v l ts t r → (p = isSum ∨ p = isProd) → My.nT t + r.length ≤ My.nT l + ts.length ∧ (∀ x ∈ r, x ∈ ts) ∧ (l.sk → FnS ts → t.sk)
  | _, _, _, _, _, _, _, .stop _, _ => ⟨Nat.le_refl _, fun x hx => hx, fun h _ => h⟩
  | _, _, _, _, _, _, _, .step (c := c) h a b, hp => by
    obtain ⟨a1, a2, a3⟩ := a.nT
    obtain ⟨b1, b2, b3⟩ := b.nT hp
    have b1 : My.nT _ + _ ≤ 1 + My.nT _ + My.nT _ + _ := b1
    refine ⟨by rw [List.length_cons]; omega, fun x hx => List.mem_cons_of_mem _ (a2 x (b2 x hx)), fun hl f => b3 ⟨op_str ?_, hl, a3 fun w hw => f w (List.mem_cons_of_mem _ hw)⟩ fun w hw => f w (List.mem_cons_of_mem _ (a2 _ hw))⟩
    rcases hp with rfl | rfl
    · exact .inl h
    · exact .inr h
end
end
end My
namespace My
open PySem PySem.Spec PyProof.Rows L2 RZ
section
variable {P : Program} {w : World} {K : PySem.W.Frag} {mg : Str → Option Value} {base : Heap}
open L2H
open SX (S S_len S_cat slice_to slice_from num_S int_S)
open PySem.NumText (digitsVal AllDigits)
open TL (numL)
/-! ### tests -/
theorem sz_okA {m : Nat} (h : m ≤ 100000) : m ≤ sizeLine := Nat.le_trans h (by decide)
theorem ite3 {A B : Prop} {x y : Str} (ha : x = y → A) (hb : x ≠ y → B) : if decide (V.str x = V.str y) = true then A else B := by
  by_cases c : x = y
  · rw [if_pos (decide_eq_true (congrArg V.str c))]
    exact ha c
  · rw [if_neg fun z => c (V.str.inj (of_decide_eq_true z))]
    exact hb c
theorem testN {v : V} {A B : Prop} (ha : v = .non → A) (hb : v ≠ .non → B) : if decide (v = V.non) = true then A else B := by
  by_cases c : v = .non
  · rw [if_pos (decide_eq_true c)]
    exact ha c
  · rw [if_neg (fun z => c (of_decide_eq_true z))]
    exact hb c
theorem take_snoc {α : Type} {l : List α} {j : Nat} {u : α} (h : l[j]? = some u) : l.take (j + 1) = l.take j ++ [u] := by
  rw [List.take_add_one, h]
  rfl
theorem dU_snd (l : List (List Nat)) : (dU l).map Prod.snd = l := by
  unfold dU
  rw [List.map_map]
  exact List.map_id'' (fun _ => rfl) l
theorem toks_us {a : List Nat} (la : a.length ≤ 2500) : ∀ u ∈ (toks a).map Prod.snd, u.length ≤ 2500 ∧ (kindOf u = "sign" → ∃ c, u = [c]) := fun u hu => by
  obtain ⟨e, he, rfl⟩ := List.mem_map.mp hu
  obtain ⟨_, h2, h3⟩ := toks_in a.length a (Nat.le_refl _) e he
  exact ⟨Nat.le_trans h2 la, h3⟩
/-! ### the tree that a text is read as -/
/-- no call is closed at once -/
def NF : List Tk → Prop
  | [] => True
  | .fn _ :: r => (∀ r', r ≠ .sg 41 :: r') ∧ NF r
  | _ :: r => NF r
theorem NF.tail {x : Tk} {r : List Tk} (h : NF (x :: r)) : NF r := by
  cases x with
  | fn _ => exact h.2
  | _ => exact h
theorem step_call {s1 y : Str} (h : stepT "call" y = some s1) : y = "(" := by
  have all : ∀ e ∈ rowsT, e.1 = "call" → e.2.1 = "(" := by decide +kernel
  exact all _ (step_mem h) rfl
theorem step_to_call {s s1 : Str} (h : stepT s "call" = some s1) : s1 = "call" := by
  have all : ∀ e ∈ rowsT, e.2.1 = "call" → e.2.2 = "call" := by decide +kernel
  exact all _ (step_mem h) rfl
theorem Wk.nf : ∀ {xs : List Tk} {s s2 : Str} {d d2 : Int}, Wk s d xs s2 d2 → NF xs
  | [], _, _, _, _, _ => trivial
  | x :: r, s, s2, d, d2, h => by
    cases h with
    | cons e1 e2 e3 w =>
      have ih := w.nf
      cases x with
      | fn n =>
        refine ⟨fun r' z => ?_, ih⟩
        subst z
        have e := step_to_call (s := s) e1
        subst e
        cases w with
        | cons g1 _ _ _ =>
          have := step_call g1
          exact absurd this (by decide +kernel)
      | _ => exact ih
theorem read_some2 {R C : Int} {us : List (List Nat)} (hu : ∀ u ∈ us, u.length ≤ 2500 ∧ (kindOf u = "sign" → ∃ c, u = [c])) (h : faultF R C us = none) : us.length ≤ 30 ∧ (∀ u ∈ us, offU R C u = false) ∧ ∃ xs t, TYs us xs ∧ PT 6 .form xs t [] ∧ (∀ x ∈ xs, x ≠ .bad) ∧ Wk "factor" 0 xs "behind" 0 := by
  obtain ⟨h1, h2, _⟩ := read_some hu h
  have whole := walk_whole us "factor" 0 0 hu
  rw [Nat.zero_add] at whole
  have w : walkF "factor" 0 (us.map symU) 0 = (us.length, true) := by
    unfold faultF at h
    rw [if_neg (by omega)] at h
    have wle := walkF_le (us.map symU) "factor" 0 0
    rw [List.length_map, Nat.zero_add] at wle
    generalize walkF "factor" 0 (us.map symU) 0 = wf at h wle
    obtain ⟨n, b⟩ := wf
    by_cases c1 : n < us.length
    · rw [if_pos c1] at h
      cases h
    rw [if_neg c1] at h
    have en : n = us.length := by
      have : n ≤ us.length := wle
      omega
    subst en
    cases b with
    | false =>
      rw [if_pos rfl] at h
      cases h
    | true => rfl
  obtain ⟨xs, tx, wk, nb⟩ := whole w
  obtain ⟨t, pt⟩ := walk_reads wk
  exact ⟨h1, h2, xs, t, tx, pt, nb, wk⟩
/-! ### calls have areas, blocks have their corners in order -/
def Ar.nm : Ar → Prop
  | .block a b c d => a ≤ c ∧ b ≤ d
  | _ => True
def Tr.nm : Tr → Prop
  | .neg t => t.nm
  | .op _ l r => l.nm ∧ r.nm
  | .call _ as => as ≠ [] ∧ ∀ a ∈ as, a.nm
  | _ => True
theorem PA.nm {ts r : List Tk} {a : Ar} (h : PA ts a r) (f : NF ts) : a.nm ∧ NF r := by
  cases h with
  | gone => exact ⟨trivial, f.tail⟩
  | name => exact ⟨trivial, f.tail⟩
  | two => exact ⟨⟨by omega, by omega⟩, f.tail.tail.tail⟩
  | one _ => exact ⟨⟨Int.le_refl _, Int.le_refl _⟩, f.tail⟩
theorem PAs.nm : ∀ {ts r : List Tk} {as : List Ar}, PAs ts as r → NF ts → (∀ a ∈ as, a.nm) ∧ NF r
  | _, _, _, .stop, f => ⟨fun _ h => (nomatch h), f.tail⟩
  | _, _, _, .step _ a b, f => by
    obtain ⟨a1, a2⟩ := a.nm f.tail
    obtain ⟨b1, b2⟩ := b.nm a2
    refine ⟨fun x hx => ?_, b2⟩
    rcases List.mem_cons.mp hx with rfl | h
    · exact a1
    · exact b1 x h
mutual
theorem PT.nm : ∀ {n : Nat} {v : Lv} {ts r : List Tk} {t : Tr}, PT n v ts t r → NF ts → t.nm ∧ NF r
  | _, _, _, _, _, .form a b, f => let ⟨a1, a2⟩ := a.nm f; b.nm a1 a2
  | _, _, _, _, _, .term a b, f => let ⟨a1, a2⟩ := a.nm f; b.nm a1 a2
  | _, _, _, _, _, .fact _ a, f => a.nm f
  | _, _, _, _, _, .neg a, f => a.nm (NF.tail f)
  | _, _, _, _, _, .dec, f => ⟨trivial, f.tail⟩
  | _, _, _, _, _, .cel, f => ⟨trivial, f.tail⟩
  | _, _, _, _, _, .gone, f => ⟨trivial, f.tail⟩
  | _, _, _, _, _, .par a, f => let ⟨a1, a2⟩ := a.nm (NF.tail f); ⟨a1, a2.tail⟩
  | _, _, _, _, _, .call a, f => by
    obtain ⟨a1, a2⟩ := a.nm f.tail
    refine ⟨⟨fun z => ?_, a1⟩, a2⟩
    cases a with
    | stop => exact f.1 _ rfl
    | step _ _ _ => cases z
theorem PL.nm : ∀ {n : Nat} {p : Nat → Bool} {v : Lv} {l t : Tr} {ts r : List Tk}, PL n p v l ts t r → l.nm → NF ts → t.nm ∧ NF r
  | _, _, _, _, _, _, _, .stop _, h, f => ⟨h, f⟩
  | _, _, _, _, _, _, _, .step _ a b, h, f => let ⟨a1, a2⟩ := a.nm (NF.tail f); b.nm ⟨h, a1⟩ a2
end
/-! ### what a moved tree has -/
/-- the law's own moving of an area -/
def mvB (d r R C : Int) : Ar → Ar
  | .block a b c e => if 0 ≤ a + d ∧ 0 ≤ b + r ∧ c + d < R ∧ e + r < C then .block (a + d) (b + r) (c + d) (e + r) else .gone
  | a => a
theorem mv_size {d r R C : Int} : ∀ t : Tr, t.nm → sz (mvT d r R C t) = sz t
  | .neg t, h => by
    show 1 + sz (mvT d r R C t) = 1 + sz t
    rw [mv_size t h]
  | .op _ x y, h => by
    show 1 + sz (mvT d r R C x) + sz (mvT d r R C y) = 1 + sz x + sz y
    rw [mv_size x h.1, mv_size y h.2]
  | .call _ [], h => absurd rfl h.1
  | .call _ (a :: as), _ => by
    show 1 + (((mvA d r R C a :: as.map (mvA d r R C)).length : Nat) : Int) = 1 + (((a :: as).length : Nat) : Int)
    rw [List.length_cons, List.length_map, List.length_cons]
  | .gone, _ => rfl
  | .num _ _, _ => rfl
  | .cell a b, _ => by
    show sz (mvC d r R C a b) = 1
    unfold mvC
    split <;> rfl
theorem mv_frame {d r R C : Int} : ∀ t : Tr, fD (mvT d r R C t) = fD t
  | .neg t => by
    show PyData.tuple [.str "neg", fD (mvT d r R C t)] = PyData.tuple [.str "neg", fD t]
    rw [mv_frame t]
  | .op s x y => by
    show PyData.tuple [.str "op", .str s, fD (mvT d r R C x), fD (mvT d r R C y)] = PyData.tuple [.str "op", .str s, fD x, fD y]
    rw [mv_frame x, mv_frame y]
  | .call _ _ => rfl
  | .gone => rfl
  | .num _ _ => rfl
  | .cell a b => by
    show fD (mvC d r R C a b) = _
    unfold mvC
    split <;> rfl
theorem mv_areas {d r R C : Int} : ∀ t : Tr, t.nm → tareas (mvT d r R C t) = (tareas t).map (mvB d r R C)
  | .neg t, h => mv_areas t h
  | .op _ x y, h => by
    show tareas (mvT d r R C x) ++ tareas (mvT d r R C y) = (tareas x ++ tareas y).map _
    rw [mv_areas x h.1, mv_areas y h.2, List.map_append]
  | .call _ [], h => absurd rfl h.1
  | .call _ (a :: as), h => by
    show (a :: as).map (mvA d r R C) = (a :: as).map (mvB d r R C)
    refine List.map_congr_left fun x hx => ?_
    have nx := h.2 x hx
    cases x with
    | block p q u v =>
      obtain ⟨n1, n2⟩ : p ≤ u ∧ q ≤ v := nx
      show (if ins R C d r (p, q) ∧ ins R C d r (u, v) then _ else _) = if _ then _ else _
      by_cases c : 0 ≤ p + d ∧ 0 ≤ q + r ∧ u + d < R ∧ v + r < C
      · rw [if_pos c, if_pos ⟨⟨⟨c.1, by show p + d < R; omega⟩, c.2.1, by show q + r < C; omega⟩, ⟨⟨by show 0 ≤ u + d; omega, c.2.2.1⟩, by show 0 ≤ v + r; omega, c.2.2.2⟩⟩]
      · rw [if_neg c, if_neg fun z => c ⟨z.1.1.1, z.1.2.1, z.2.1.2, z.2.2.2⟩]
    | gone => rfl
    | name w => rfl
  | .gone, _ => rfl
  | .num _ _, _ => rfl
  | .cell a b, _ => by
    show tareas (mvC d r R C a b) = []
    unfold mvC
    split <;> rfl
theorem mv_cells {d r R C : Int} : ∀ t : Tr, tcells (mvT d r R C t) = ((tcells t).filter fun z => decide (ins R C d r z)).map (shift d r)
  | .neg t => mv_cells t
  | .op _ x y => by
    show tcells (mvT d r R C x) ++ tcells (mvT d r R C y) = ((tcells x ++ tcells y).filter _).map _
    rw [mv_cells x, mv_cells y, List.filter_append, List.map_append]
  | .call _ _ => rfl
  | .gone => rfl
  | .num _ _ => rfl
  | .cell a b => by
    show tcells (mvC d r R C a b) = ([(a, b)].filter _).map _
    unfold mvC
    by_cases c : ins R C d r (a, b)
    · rw [if_pos c]
      have e : [(a, b)].filter (fun z => decide (ins R C d r z)) = [(a, b)] := by simp [c]
      rw [e]
      rfl
    · rw [if_neg c]
      have e : [(a, b)].filter (fun z => decide (ins R C d r z)) = [] := by simp [c]
      rw [e]
      rfl
/-! ### contents -/
inductive Ct where
  | blank
  | text (a : List Nat)
  | number (x y : Int)
  | formula (t : Tr)
  | fault (k : Nat) (w : Str)
def CtAt (H : Hp) (v : V) : Ct → Prop
  | .blank => ∃ q, v = .ref q ∧ H q = some (.tup [.str "blank"])
  | .text a => ∃ q, v = .ref q ∧ H q = some (.tup [.str "text", .str (S a)])
  | .number x y => ∃ q p, v = .ref q ∧ H q = some (.tup [.str "number", .ref p]) ∧ H p = some (.tup [.int x, .int y])
  | .formula t => ∃ q u, v = .ref q ∧ H q = some (.tup [.str "formula", u]) ∧ TrAt H u t
  | .fault k w => ∃ q, v = .ref q ∧ H q = some (.lst [.int (k : Int), .str w])
theorem CtAt.same {H H' : Hp} (s : Same H H') {v : V} : ∀ {c : Ct}, CtAt H v c → CtAt H' v c
  | .blank, ⟨q, h1, h2⟩ => ⟨q, h1, s _ _ h2⟩
  | .text _, ⟨q, h1, h2⟩ => ⟨q, h1, s _ _ h2⟩
  | .number _ _, ⟨q, p, h1, h2, h3⟩ => ⟨q, p, h1, s _ _ h2, s _ _ h3⟩
  | .formula _, ⟨q, u, h1, h2, h3⟩ => ⟨q, u, h1, s _ _ h2, h3.mono (TK.of s)⟩
  | .fault _ _, ⟨q, h1, h2⟩ => ⟨q, h1, s _ _ h2⟩
/-- the text of a formula, and what it is read as -/
theorem eq_S : ("=" : Str) = S [61] := by decide +kernel
theorem starts_eq (a : List Nat) : Txt.startswith (S a) "=" = decide (a.head? = some 61) := by
  unfold Txt.startswith
  rw [eq_S, StrLaws.subAt_eq]
  cases a with
  | nil => rfl
  | cons c r =>
    rw [Bool.eq_iff_iff, Bool.and_eq_true]
    simp [S_len]
theorem ifS {a b : List Nat} {A B : Prop} (ha : a = b → A) (hb : a ≠ b → B) : if decide (V.str (S a) = V.str (S b)) = true then A else B := by
  by_cases c : a = b
  · rw [if_pos (decide_eq_true (by rw [c]))]
    exact ha c
  · rw [if_neg fun z => c (S_inj (V.str.inj (of_decide_eq_true z)))]
    exact hb c
theorem calls_ok : ∀ w ∈ callsL, PyData.strOk w = true := by decide +kernel
theorem TYs.fnS {us : List (List Nat)} {xs : List Tk} (h : TYs us xs) : FnS xs := by
  intro w hw
  obtain ⟨i, hi, e⟩ := List.getElem_of_mem hw
  obtain ⟨u, _, ty⟩ := h.at_ i _ (by rw [List.getElem?_eq_getElem hi, e])
  exact calls_ok w ty.val.2
structure TrF (t : Tr) : Prop where
  n : nT t ≤ 30
  s : t.sk
  m : t.nm
def CtF (c : Ct) : Prop := (∀ t, c = .formula t → TrF t) ∧ ∀ a, c = .text a → PyData.strOk (S a) = true
def spRC (K : PySem.W.Frag) (C : Addr) : Sp := fun vs H Q E => ∃ (a : List Nat) (R_ Cl : Int), vs = [.str (S a), .int R_, .int Cl] ∧ a.length ≤ 2000 ∧ PyData.strOk (S a) = true ∧
  (∀ (k : Nat) (w : Str) d H', Same H H' → H' d = none → E (.ref C) (some d) (upd H' d (.xd [("word", .str w), ("place", .int (k : Int))]))) ∧
  (∀ v H' c, Same H H' → CtAt H' v c → CtF c → (∀ k w, c ≠ .fault k w) → Q v H')
theorem okReadContent (T : Txt P w K mg) : FnOk P w K mg base (L2N.CX P w) 53 T.fReadContent T.fdReadContent ["text", "rows", "columns"] (spRC K T.cFormulaFault) := by
  refine okN T.FReadContent scReadContent (fun vs H Q E h => ?_) (fun cdv A outer s H vs Q E hr h => ?_)
  · obtain ⟨a, R_, Cl, rfl, _⟩ := h
    rfl
  · obtain ⟨a, R_, Cl, rfl, la, so, q1, q2⟩ := h
    -- slots text=0 rows=1 columns=2 x=3
    refine ⟨_, (pss_cons (ps_if (pt_cmpR op_eq (pv 0) pe_str (nomark _))
          (pss_one (ps_ret (pe_tup (pa_cons pe_str pa_nil))))
          pss_nil)
        (pss_cons (ps_if (pt_val (pe_bm PySem.F.plainAttrs_str PySem.F.slot_str_startswith PySem.F.type_str_startswith mt_startswith (pv 0) (pa_cons pe_str pa_nil)))
          (pss_one (ps_ret (pe_tup (pa_cons pe_str (pa_cons (pe_callS (okReadFormula T) (hr.mono (by decide)) (by rfl) T.gReadFormula T.FReadFormula.kp T.bReadFormula (fun σ => L2N.passAt (L2N.takes_of rfl rfl rfl rfl) σ) (pa_cons (pe_slice C8.sl_txt (pv 0) (po_some pe_int) po_none) (pa_cons (pv 1) (pa_cons (pv 2) pa_nil)))) pa_nil)))))
          pss_nil)
        (pss_cons (ps_set (i := 3) scReadContent.nd rfl (Or.inl rfl) (pe_call (okReadNumber T) (hr.mono (by decide)) (by rfl) T.gReadNumber T.FReadNumber.kp T.bReadNumber .nil pass0 (pa_cons (pv 0) pa_nil)))
        (pss_one (ps_ret (pe_ifExp (pt_cmpR op_isN (pv 3) pe_non (nomark _)) (pe_tup (pa_cons pe_str (pa_cons (pv 0) pa_nil))) (pe_tup (pa_cons pe_str (pa_cons (pv 3) pa_nil))))))))), ?_⟩
    refine ⟨_, rfl, rfl, _, rfl, ?_⟩
    rw [emp_S]
    refine ifS (fun e => ?_) (fun ne => ?_)
    · exact ⟨(by show 1 ≤ sizeLine; decide), fun p hp => q2 (.ref p) _ .blank (same_new hp) ⟨p, rfl, upd_same⟩ ⟨(fun _ z => nomatch z), (fun _ z => nomatch z)⟩ (fun _ _ z => nomatch z)⟩
    refine ⟨_, rfl, rfl, S a, "=", rfl, rfl, _, rfl, ?_⟩
    rw [starts_eq]
    by_cases he : a.head? = some 61
    · rw [decide_eq_true he]
      obtain ⟨r, rfl⟩ : ∃ r, a = 61 :: r := by
        cases a with
        | nil => cases he
        | cons x r =>
          cases he
          exact ⟨r, rfl⟩
      rw [List.length_cons] at la
      refine iteT ⟨_, rfl, _, rfl, S (61 :: r), rfl, by rw [S_len, List.length_cons]; exact sz_okA (by omega), ?_⟩
      rw [show Txt.slice (S (61 :: r)) (some 1) none = S r by rw [slice_from (by decide)]; rfl]
      refine ⟨_, rfl, _, rfl, r, R_, Cl, rfl, by omega, fun f _ d H1 s1 hd => q1 f.1 f.2 d H1 s1 hd, fun hn => ?_⟩
      obtain ⟨many, _, xs, t, h1, h2, h3, wk⟩ := read_some2 (toks_us (a := r) (by omega)) hn
      obtain ⟨n1, _, n3⟩ := h2.nT
      have tf : TrF t := ⟨by have := h1.len; have n1 : nT t + 0 ≤ xs.length := n1; omega, n3 h1.fnS, (h2.nm wk.nf).1⟩
      exact ⟨xs, t, h1, h2, h3, fun v H1 s1 tr => ⟨(by show 2 ≤ sizeLine; decide), fun p hp => q2 (.ref p) _ (.formula t) (s1.trans (same_new hp)) ⟨p, v, rfl, upd_same, tr.mono (TK.of (same_new hp))⟩ ⟨fun _ z => by cases z; exact tf, fun _ z => nomatch z⟩ (fun _ _ z => nomatch z)⟩⟩
    rw [decide_eq_false he]
    refine iteF ⟨_, rfl, a, rfl, by omega, fun no H1 s1 => ?_, fun yes p x y H1 s1 hp L => ?_⟩
    · exact ⟨_, rfl, rfl, _, rfl, testN (fun _ => ⟨_, rfl, (by show 2 ≤ sizeLine; decide), fun p hp => q2 (.ref p) _ (.text a) (s1.trans (same_new hp)) ⟨p, rfl, upd_same⟩ ⟨fun _ z => (nomatch z), fun _ z => by cases z; exact so⟩ (fun _ _ z => nomatch z)⟩) (fun z => absurd rfl z)⟩
    · exact ⟨_, rfl, rfl, _, rfl, testN (fun z => nomatch z) (fun _ => ⟨_, rfl, (by show 2 ≤ sizeLine; decide), fun p2 hp2 => q2 (.ref p2) _ (.number _ _) (s1.trans (same_new hp2)) ⟨p2, p, rfl, upd_same, (same_new hp2) _ _ hp⟩ ⟨fun _ z => (nomatch z), fun _ z => nomatch z⟩ (fun _ _ z => nomatch z)⟩)⟩
end
end My
namespace My
open PySem PySem.Spec PyProof.Rows L2 RZ
section
variable {P : Program} {w : World} {K : PySem.W.Frag} {mg : Str → Option Value} {base : Heap}
open L2H
open SX (S S_len S_cat slice_to slice_from num_S int_S)
open PySem.NumText (digitsVal AllDigits)
open TL (numL)
def spLR (K : PySem.W.Frag) : Sp := fun vs H Q _ => ∃ (d : Addr) (ds : List Int) (R_ Cl : Int), vs = [.ref d, .int R_, .int Cl] ∧ H d = some (.lst (ds.map V.int)) ∧ Pad ds ∧
  ∀ v H' c, Same H H' → CtAt H' v c → CtF c → (∀ k w, c ≠ .fault k w) → Q v H'
theorem S_all (w : Str) : w = S w.cps.toList := by
  cases w with
  | mk c => rfl
theorem okLawRead (T : Txt P w K mg) : FnOk P w K mg base CX0 54 T.fLawRead T.fdLawRead ["d", "rows", "columns"] (spLR K) := by
  refine T.FLawRead.ok scLawRead (fun vs H Q E h => ?_) (fun cdv A outer s H vs Q E hr h => ?_)
  · obtain ⟨d, ds, R_, Cl, rfl, _⟩ := h
    rfl
  · obtain ⟨d, ds, R_, Cl, rfl, hd, D, q⟩ := h
    -- slots d=0 rows=1 columns=2
    refine ⟨_, (pss_one (L2N.ps_try_many rfl rfl takesN (fun W pn xe tk po =>
          (pss_one (ps_ret (pe_callS (okReadContent T) (hr.mono (by decide)) (by rfl) T.gReadContent T.FReadContent.kp T.bReadContent (fun σ => L2N.passAt tk σ) (pa_cons (pe_call (okLawText T) (hr.mono (by decide)) (by rfl) T.gLawText T.FLawText.kp T.bLawText .nil pass0 (pa_cons (pv 0) pa_nil)) (pa_cons (pv 1) (pa_cons (pv 2) pa_nil)))))))
        (.cons ⟨rfl, by decide, .inl T.gKTableError⟩ (fun a oe cls d pn hz hf =>
          (pss_one (ps_ret (pe_tup (pa_cons pe_str (pa_cons pe_str pa_nil)))))) .nil))), ?_⟩
    refine ⟨_, rfl, d, ds, rfl, hd, D, fun w H1 s1 lw so => ?_⟩
    refine ⟨_, rfl, _, rfl, w.cps.toList, R_, Cl, by rw [← S_all], by rw [Array.length_toList]; omega, by rw [← S_all]; exact so, fun k w2 x H6 s6 hx => ?_, fun v H6 c s6 hc cf nf => q v H6 c (s1.trans s6) hc cf nf⟩
    refine ⟨true, T.mKFormulaFault_TableError, fun _ a0 _ => ?_, fun z => Bool.noConfusion z⟩
    have s7 := (s1.trans s6).trans (same_new (o := .xd [("word", .str w2), ("place", .int (k : Int))]) hx)
    exact ⟨(by show 2 ≤ sizeLine; decide), fun p1 hp1 => q (.ref p1) _ (.text [102, 97, 117, 108, 116]) (s7.trans (same_new hp1)) ⟨p1, rfl, upd_same⟩ ⟨fun _ z => (nomatch z), fun _ z => by cases z; decide +kernel⟩ (fun _ _ z => nomatch z)⟩
def spLAr (K : PySem.W.Frag) : Sp := fun vs H Q _ => ∃ (v : V) (t : Tr) (d r R C : Int), vs = [v, .int d, .int r, .int R, .int C] ∧ nT t ≤ 30 ∧ TrK K H v t ∧ ∀ l us H', Same H H' → H' l = some (.lst us) → ArsK K H' us ((tareas t).map (mvB d r R C)) → Q (.ref l) H'
theorem okLawAreas (T : Txt P w K mg) : FnOk P w K mg base CX0 33 T.fLawAreas T.fdLawAreas ["tree", "down", "right", "rows", "columns"] (spLAr K) := by
  refine T.FLawAreas.ok scLawAreas (fun vs H Q E h => ?_) (fun cdv A outer s H vs Q E hr h => ?_)
  · obtain ⟨v, t, d, r, R, C, rfl, _⟩ := h
    rfl
  · obtain ⟨v, t, d, r, R, C, rfl, hn, ht, q⟩ := h
    -- slots tree=0 down=1 right=2 rows=3 columns=4 found=5 area=6 top=7 left=8 low=9 far=10
    refine ⟨_, (pss_cons (ps_set (i := 5) scLawAreas.nd rfl (Or.inl rfl) (pe_lst pa_nil))
        (pss_cons (ps_for PassesOwn.never rfl (pi_list (pe_call (okAreasOf T 31) (hr.mono (by decide)) (by rfl) T.gAreasOf T.FAreasOf.kp T.bAreasOf .nil pass0 (pa_cons (pv 0) pa_nil))) (pg_name (i := 6) scLawAreas.nd rfl (Or.inl rfl))
          (pss_one (ps_if (pt_cmpR op_ne (pe_ix ix_tup (pv 6) pe_int (fun _ _ => rfl)) pe_str (nomark _))
            (pss_one (ps_expr (pe_bm PySem.F.plainAttrs_list PySem.F.slot_list_append PySem.F.type_list_append mt_append (pv 5) (pa_cons (pv 6) pa_nil))))
            (pss_cons (ps_set (i := 7) scLawAreas.nd rfl (Or.inl rfl) (pe_op op_add (pe_ix ix_tup (pv 6) pe_int (fun _ _ => rfl)) (pv 1)))
            (pss_cons (ps_set (i := 8) scLawAreas.nd rfl (Or.inl rfl) (pe_op op_add (pe_ix ix_tup (pv 6) pe_int (fun _ _ => rfl)) (pv 2)))
            (pss_cons (ps_set (i := 9) scLawAreas.nd rfl (Or.inl rfl) (pe_op op_add (pe_ix ix_tup (pv 6) pe_int (fun _ _ => rfl)) (pv 1)))
            (pss_cons (ps_set (i := 10) scLawAreas.nd rfl (Or.inl rfl) (pe_op op_add (pe_ix ix_tup (pv 6) pe_int (fun _ _ => rfl)) (pv 2)))
            (pss_one (ps_if (PW.pt (pw_and (pt_cmpR op_ge (pv 7) pe_int (nomark _)) (pw_and (pt_cmpR op_ge (pv 8) pe_int (nomark _)) (pw_and (pt_cmpR op_lt (pv 9) (pv 3) (nomark _)) (pw_and1 (pt_cmpR op_lt (pv 10) (pv 4) (nomark _)))))))
              (pss_one (ps_expr (pe_bm PySem.F.plainAttrs_list PySem.F.slot_list_append PySem.F.type_list_append mt_append (pv 5) (pa_cons (pe_tup (pa_cons pe_str (pa_cons (pv 7) (pa_cons (pv 8) (pa_cons (pv 9) (pa_cons (pv 10) pa_nil)))))) pa_nil))))
              (pss_one (ps_expr (pe_bm PySem.F.plainAttrs_list PySem.F.slot_list_append PySem.F.type_list_append mt_append (pv 5) (pa_cons (pe_tup (pa_cons pe_str pa_nil)) pa_nil)))))))))))))
        (pss_one (ps_ret (pv 5))))), ?_⟩
    have na := nT_a t
    have nh := nT_h t
    refine ⟨Nat.zero_le _, fun f hf => ?_⟩
    refine ⟨_, rfl, v, t, rfl, by omega, by omega, ht.tf (.same (same_new hf)), fun H1 l us s1 l1 e1 a1 => ?_⟩
    have len := a1.len
    have sf := (same_new (o := .lst []) hf).trans s1
    have hF : H1 f = some (.lst []) := s1 _ _ upd_same
    have nlf : l ≠ f := fun z => by
      rw [z, upd_same] at l1
      cases l1
    refine ⟨l, rfl, ⟨us, SqL.of e1⟩, for_it (walk_list (a := l) (xs := us)) (fun i σ H' => Same H H' ∧ TF H1 H' ∧ H' l = some (.lst us) ∧ (∃ ys, H' f = some (.lst ys) ∧ ArsK K H' ys (((tareas t).take i).map (mvB d r R C))) ∧ ∃ c6 c7 c8 c9 c10 : Option V, σ = [some v, some (.int d), some (.int r), some (.int R), some (.int C), some (.ref f), c6, c7, c8, c9, c10])
      ⟨sf, .same (Same.refl _), e1, ⟨[], hF, .nil⟩, _, _, _, _, _, rfl⟩ (fun i σ H' _ h => SqL.of h.2.2.1) ?_ ?_⟩
    · rintro i x σ H2 H3 hi ⟨s2, tf2, k2, ⟨ys, hY, aY⟩, c6, c7, c8, c9, c10, rfl⟩ ⟨rfl, e2⟩
      obtain ⟨a, ea, ha⟩ := (a1.tf tf2).get i x e2
      have room : ys.length < 100 := by
        have z := aY.len
        rw [List.length_map, List.length_take] at z
        omega
      have nx : (tareas t).take (i + 1) = (tareas t).take i ++ [a] := by
        rw [List.take_add_one, ea]
        rfl
      have fin : ∀ (u : V) (H4 : Hp) (c6 c7 c8 c9 c10 : Option V), Same H H4 → TF H1 H4 → H4 l = some (.lst us) → H4 f = some (.lst ys) → TF H3 H4 → ArK K H4 u (mvB d r R C a) →
          Same H (upd H4 f (.lst (ys ++ [u]))) ∧ TF H1 (upd H4 f (.lst (ys ++ [u]))) ∧ (upd H4 f (.lst (ys ++ [u]))) l = some (.lst us) ∧ (∃ ys', (upd H4 f (.lst (ys ++ [u]))) f = some (.lst ys') ∧ ArsK K (upd H4 f (.lst (ys ++ [u]))) ys' (((tareas t).take (i + 1)).map (mvB d r R C))) ∧ ∃ d6 d7 d8 d9 d10 : Option V, [some v, some (.int d), some (.int r), some (.int R), some (.int C), some (.ref f), c6, c7, c8, c9, c10] = [some v, some (.int d), some (.int r), some (.int R), some (.int C), some (.ref f), d6, d7, d8, d9, d10] := by
        intro u H4 c6 c7 c8 c9 c10 s4 t4 k4 hY4 t24 au
        refine ⟨same_mut s4 hf, t4.trans (.set hY4), by rw [upd_ne nlf]; exact k4, ⟨_, upd_same, ?_⟩, _, _, _, _, _, rfl⟩
        rw [nx, List.map_append]
        exact ArsK.app (.cons (au.tf (.set hY4)) .nil) ((aY.tf t24).tf (.set hY4))
      cases a with
      | gone =>
        obtain ⟨p, rfl, h1⟩ := ha
        exact ⟨_, rfl, _, _, _, _, rfl, rfl, h1, atI_nat (j := 0) rfl, rfl, _, rfl, ifNe (by decide) ⟨_, rfl, .inl ⟨rfl, _, SqL.of hY⟩, _, rfl, f, _, _, rfl, rfl, hY, sz_few (by omega), fin _ H3 _ _ _ _ _ s2 tf2 k2 hY (.same (Same.refl _)) ⟨p, rfl, h1⟩⟩⟩
      | name n =>
        obtain ⟨p, rfl, h1⟩ := ha
        exact ⟨_, rfl, _, _, _, _, rfl, rfl, h1, atI_nat (j := 0) rfl, rfl, _, rfl, ifNe (by decide) ⟨_, rfl, .inl ⟨rfl, _, SqL.of hY⟩, _, rfl, f, _, _, rfl, rfl, hY, sz_few (by omega), fin _ H3 _ _ _ _ _ s2 tf2 k2 hY (.same (Same.refl _)) ⟨p, rfl, h1⟩⟩⟩
      | block x y z u =>
        obtain ⟨p, rfl, h1⟩ := ha
        refine ⟨_, rfl, _, _, _, _, rfl, rfl, h1, atI_nat (j := 0) rfl, rfl, _, rfl, ifNeY ⟨_, rfl, _, _, _, _, rfl, rfl, h1, atI_nat (j := 1) rfl, _, rfl, _, _, rfl, rfl, _, rfl, _, _, _, _, rfl, rfl, h1, atI_nat (j := 2) rfl, _, rfl, _, _, rfl, rfl, _, rfl, _, _, _, _, rfl, rfl, h1, atI_nat (j := 3) rfl, _, rfl, _, _, rfl, rfl, _, rfl, _, _, _, _, rfl, rfl, h1, atI_nat (j := 4) rfl, _, rfl, _, _, rfl, rfl, ?_⟩⟩
        have gone : ¬ (0 ≤ x + d ∧ 0 ≤ y + r ∧ z + d < R ∧ u + r < C) → ∀ q2, H3 q2 = none → ArK K (upd H3 q2 (.tup [.str "gone"])) (.ref q2) (mvB d r R C (.block x y z u)) := fun c q2 h2 => by
          rw [show mvB d r R C (.block x y z u) = .gone from if_neg c]
          exact ⟨q2, rfl, SqT.of upd_same⟩
        refine ⟨_, rfl, _, _, rfl, rfl, _, rfl, ite2 (fun c1 => ?_) (fun c1 => iteF ⟨_, rfl, .inl ⟨rfl, _, SqL.of hY⟩, (by show 1 ≤ sizeLine; decide), fun q2 h2 => ⟨f, _, _, rfl, rfl, (same_new h2) _ _ hY, sz_few (by omega), fin _ _ _ _ _ _ _ (s2.trans (same_new h2)) (tf2.trans (.same (same_new h2))) ((same_new h2) _ _ k2) ((same_new h2) _ _ hY) (.same (same_new h2)) (gone (fun z => c1 (decide_eq_true z.1)) q2 h2)⟩⟩)⟩
        refine ⟨_, rfl, _, _, rfl, rfl, _, rfl, ite2 (fun c2 => ?_) (fun c2 => iteF ⟨_, rfl, .inl ⟨rfl, _, SqL.of hY⟩, (by show 1 ≤ sizeLine; decide), fun q2 h2 => ⟨f, _, _, rfl, rfl, (same_new h2) _ _ hY, sz_few (by omega), fin _ _ _ _ _ _ _ (s2.trans (same_new h2)) (tf2.trans (.same (same_new h2))) ((same_new h2) _ _ k2) ((same_new h2) _ _ hY) (.same (same_new h2)) (gone (fun z => c2 (decide_eq_true z.2.1)) q2 h2)⟩⟩)⟩
        refine ⟨_, rfl, _, rfl, _, _, rfl, rfl, _, rfl, ite2 (fun c3 => ?_) (fun c3 => iteF ⟨_, rfl, .inl ⟨rfl, _, SqL.of hY⟩, (by show 1 ≤ sizeLine; decide), fun q2 h2 => ⟨f, _, _, rfl, rfl, (same_new h2) _ _ hY, sz_few (by omega), fin _ _ _ _ _ _ _ (s2.trans (same_new h2)) (tf2.trans (.same (same_new h2))) ((same_new h2) _ _ k2) ((same_new h2) _ _ hY) (.same (same_new h2)) (gone (fun z => c3 (decide_eq_true z.2.2.1)) q2 h2)⟩⟩)⟩
        refine ⟨_, rfl, _, rfl, _, _, rfl, rfl, _, rfl, ite2 (fun c4 => ?_) (fun c4 => ⟨_, rfl, .inl ⟨rfl, _, SqL.of hY⟩, (by show 1 ≤ sizeLine; decide), fun q2 h2 => ⟨f, _, _, rfl, rfl, (same_new h2) _ _ hY, sz_few (by omega), fin _ _ _ _ _ _ _ (s2.trans (same_new h2)) (tf2.trans (.same (same_new h2))) ((same_new h2) _ _ k2) ((same_new h2) _ _ hY) (.same (same_new h2)) (gone (fun z => c4 (decide_eq_true z.2.2.2)) q2 h2)⟩⟩)⟩
        refine ⟨_, rfl, .inl ⟨rfl, _, SqL.of hY⟩, _, rfl, _, rfl, _, rfl, _, rfl, (by show 5 ≤ sizeLine; decide), fun q2 h2 => ⟨f, _, _, rfl, rfl, (same_new h2) _ _ hY, sz_few (by omega), fin _ _ _ _ _ _ _ (s2.trans (same_new h2)) (tf2.trans (.same (same_new h2))) ((same_new h2) _ _ k2) ((same_new h2) _ _ hY) (.same (same_new h2)) ?_⟩⟩
        rw [show mvB d r R C (.block x y z u) = .block (x + d) (y + r) (z + d) (u + r) from if_pos ⟨of_decide_eq_true c1, of_decide_eq_true c2, of_decide_eq_true c3, of_decide_eq_true c4⟩]
        exact ⟨q2, rfl, SqT.of upd_same⟩
    · rintro σ H2 ⟨s2, tf2, k2, ⟨ys, hY, aY⟩, c6, c7, c8, c9, c10, rfl⟩
      rw [List.take_of_length_le (by omega)] at aY
      exact ⟨_, rfl, q f ys H2 s2 hY aY⟩
end
end My
namespace My
open PySem PySem.Spec PyProof.Rows L2 RZ
section
variable {P : Program} {w : World} {K : PySem.W.Frag} {mg : Str → Option Value} {base : Heap}
open L2H
open SX (S S_len S_cat slice_to slice_from num_S int_S)
open PySem.NumText (digitsVal AllDigits)
open TL (numL)
/-! ### the law -/
theorem sqL_ext {K : PySem.W.Frag} {H H' : Hp} (x : LamX.ExtN H H') {q : Addr} {xs : List V} (h : SqL K H q xs) : SqL K H' q xs := by
  rcases h with (h | ⟨o, h⟩) | h
  · exact .inl (.inl (x _ _ h (fun ps z => by cases z)))
  · exact .inl (.inr ⟨o, x _ _ h (fun ps z => by cases z)⟩)
  · exact .inr h
theorem Dp.tk1 {K : PySem.W.Frag} {H : Hp} {q : Addr} {xs : List V} {ds : List PyData} (h : SqT K H q xs) (d : DpAll K H xs ds) : Dp K H (.ref q) (.tuple ds) := .tup h d
theorem fm_ne : ("blank" : Str) ≠ "formula" ∧ ("text" : Str) ≠ "formula" ∧ ("number" : Str) ≠ "formula" := by decide +kernel
theorem tx_shaped {a : List Nat} (h : PyData.strOk (S a) = true) : SeqAt.shaped (.tuple [.str "text", .str (S a)]) = true := by
  have t : PyData.strOk (Str.ofString "text") = true := by decide +kernel
  simp [SeqAt.shaped, PyData.canLay0, PyData.canLayAll0, PyData.depth, PyData.depthAll, h, t]
theorem nu_shaped (x y : Int) : SeqAt.shaped (.tuple [.str "number", .tuple [.int x, .int y]]) = true := by
  have t : PyData.strOk (Str.ofString "number") = true := by decide +kernel
  simp [SeqAt.shaped, PyData.canLay0, PyData.canLayAll0, PyData.depth, PyData.depthAll, t]
theorem ct_case {K : PySem.W.Frag} {H : Hp} {v : V} {c : Ct} (h : CtAt H v c) (cf : CtF c) (nf : ∀ k w, c ≠ .fault k w) :
    (∃ (q : Addr) (s : Str) (l : List V) (dd : PyData), v = .ref q ∧ s ≠ "formula" ∧ H q = some (.tup (.str s :: l)) ∧ (∀ H', LamX.ExtN H H' → Dp K H' (.ref q) dd) ∧ SeqAt.shaped dd = true) ∨
    ∃ (q : Addr) (u : V) (t : Tr), v = .ref q ∧ H q = some (.tup [.str "formula", u]) ∧ TrK K H u t ∧ TrF t := by
  have k : ∀ {H' : Hp} {b : Addr} {xs : List V}, LamX.ExtN H H' → H b = some (.tup xs) → SqT K H' b xs := fun x e => SqT.of (x _ _ e (fun ps z => by cases z))
  cases c with
  | blank =>
    obtain ⟨q, rfl, e⟩ := h
    exact .inl ⟨q, "blank", [], .tuple [.str "blank"], rfl, fm_ne.1, e, fun H' x => .tup (k x e) (.cons (.str _) .nil), by decide +kernel⟩
  | text a =>
    obtain ⟨q, rfl, e⟩ := h
    exact .inl ⟨q, "text", _, .tuple [.str "text", .str (S a)], rfl, fm_ne.2.1, e, fun H' x => .tup (k x e) (.cons (.str _) (.cons (.str _) .nil)), tx_shaped (cf.2 a rfl)⟩
  | number x y =>
    obtain ⟨q, p, rfl, e, e2⟩ := h
    exact .inl ⟨q, "number", _, .tuple [.str "number", .tuple [.int x, .int y]], rfl, fm_ne.2.2, e, fun H' z => .tup (k z e) (.cons (.str _) (.cons (.tup (k z e2) (.cons (.int _) (.cons (.int _) .nil))) .nil)), nu_shaped x y⟩
  | formula t =>
    obtain ⟨q, u, rfl, e, tr⟩ := h
    exact .inr ⟨q, u, t, rfl, e, TrK.of tr, cf.1 t rfl⟩
  | fault i w => exact absurd rfl (nf i w)
theorem mv_h {d r R C : Int} : ∀ t : Tr, (mvT d r R C t).h = t.h
  | .neg t => by
    show (mvT d r R C t).h + 1 = t.h + 1
    rw [mv_h t]
  | .op _ x y => by
    show max (mvT d r R C x).h (mvT d r R C y).h + 1 = max x.h y.h + 1
    rw [mv_h x, mv_h y]
  | .call _ _ => rfl
  | .gone => rfl
  | .num _ _ => rfl
  | .cell a b => by
    show (mvC d r R C a b).h = 0
    unfold mvC
    split <;> rfl
theorem Cls.get {H : Hp} : ∀ {vs : List V} {zs : List (Int × Int)}, Cls H vs zs → ∀ (i : Nat) x, vs[i]? = some x → ∃ (z : Int × Int) (q : Addr), zs[i]? = some z ∧ x = .ref q ∧ H q = some (.tup [.int z.1, .int z.2])
  | _, _, .nil, i, x, h => by simp at h
  | _, _, .cons (q := q) (z := z) h r, 0, x, e => ⟨z, q, rfl, by cases e; rfl, h⟩
  | _, _, .cons h r, i + 1, x, e => r.get i x (by simpa using e)
def zD (z : Int × Int) : PyData := .tuple [.int z.1, .int z.2]
theorem Cls.dp {K : PySem.W.Frag} {H : Hp} : ∀ {vs : List V} {zs : List (Int × Int)}, Cls H vs zs → DpAll K H vs (zs.map zD)
  | _, _, .nil => .nil
  | _, _, .cons h r => .cons (.tup (SqT.of h) (.cons (.int _) (.cons (.int _) .nil))) r.dp
theorem zDs_lay : ∀ zs : List (Int × Int), PyData.canLayAll0 (zs.map zD) = true
  | [] => by simp [PyData.canLayAll0]
  | z :: zs => by simp [PyData.canLayAll0, zD, PyData.canLay0, zDs_lay zs]
theorem zDs_depth : ∀ zs : List (Int × Int), PyData.depthAll (zs.map zD) ≤ 1
  | [] => by simp [PyData.depthAll]
  | z :: zs => by
    have h1 := zDs_depth zs
    have h2 : (zD z).depth = 1 := by simp [zD, PyData.depth, PyData.depthAll]
    simp only [List.map_cons, PyData.depthAll]
    omega
theorem zDs_shaped (zs : List (Int × Int)) : SeqAt.shaped (.list (zs.map zD)) = true := by
  have h1 := zDs_depth zs
  have h2 : PyData.depth (.list (zs.map zD)) ≤ 64 := by
    simp only [PyData.depth]
    omega
  show (PyData.canLay0 (.list (zs.map zD)) && decide (PyData.depth (.list (zs.map zD)) ≤ 64)) = true
  rw [Bool.and_eq_true]
  exact ⟨by simp only [PyData.canLay0]; exact zDs_lay zs, decide_eq_true h2⟩
theorem fw_ok : PyData.strOk (Str.ofString "neg") = true ∧ PyData.strOk (Str.ofString "op") = true ∧ PyData.strOk (Str.ofString "call") = true ∧ PyData.strOk (Str.ofString "num") = true ∧ PyData.strOk (Str.ofString "leaf") = true := by decide +kernel
theorem fD_lay : ∀ t : Tr, t.sk → (fD t).canLay0 = true
  | .neg t, h => by simp [fD, PyData.canLay0, PyData.canLayAll0, fw_ok, fD_lay t h]
  | .op s l r, h => by simp [fD, PyData.canLay0, PyData.canLayAll0, fw_ok, h.1, fD_lay l h.2.1, fD_lay r h.2.2]
  | .call n _, h => by
    have h : PyData.strOk n = true := h
    simp [fD, PyData.canLay0, PyData.canLayAll0, fw_ok, h]
  | .num _ _, _ => by simp [fD, PyData.canLay0, PyData.canLayAll0, fw_ok]
  | .gone, _ => by simp [fD, PyData.canLay0, PyData.canLayAll0, fw_ok]
  | .cell _ _, _ => by simp [fD, PyData.canLay0, PyData.canLayAll0, fw_ok]
theorem fD_depth : ∀ t : Tr, (fD t).depth ≤ t.h + 2
  | .neg t => by
    have := fD_depth t
    simp only [fD, PyData.depth, PyData.depthAll]
    show _ ≤ t.h + 1 + 2
    omega
  | .op s l r => by
    have a := fD_depth l
    have b := fD_depth r
    simp only [fD, PyData.depth, PyData.depthAll]
    show _ ≤ max l.h r.h + 1 + 2
    omega
  | .call n _ => by simp only [fD, PyData.depth, PyData.depthAll]; omega
  | .num _ _ => by simp only [fD, PyData.depth, PyData.depthAll]; omega
  | .gone => by simp only [fD, PyData.depth, PyData.depthAll]; omega
  | .cell _ _ => by simp only [fD, PyData.depth, PyData.depthAll]; omega
theorem fD_shaped {t : Tr} (h : t.sk) (d : t.h ≤ 40) : SeqAt.shaped (fD t) = true := by
  have b := fD_depth t
  show (PyData.canLay0 (fD t) && decide (PyData.depth (fD t) ≤ 64)) = true
  rw [Bool.and_eq_true]
  exact ⟨fD_lay t h, decide_eq_true (by omega)⟩
def spLaw (K : PySem.W.Frag) (Ts : List NdefX.NTab) : Sp := fun vs H Q _ => ∃ (a : Addr) (ns : List Int), vs = [.ref a] ∧ SqL K H a (ns.map V.int) ∧ ns.length ≤ 63 ∧ NdefX.TabsN Ts H ∧ ∀ H', Q (.bl true) H'
theorem okLaw (T : Txt P w K mg) (gp : Gp K T.p_GONE_PART) {c1 tp1 c2 tp2 : Addr} (B1 : TabF K base mg T.fMovedTree c1 tp1) (B2 : TabF K base mg T.fMovedContent c2 tp2) {Ts : List NdefX.NTab} (hm1 : (tp1, nmMT) ∈ Ts) (hu1 : ∀ p ∈ Ts, p.1 = tp1 → p.2 = nmMT) (hm2 : (tp2, nmMC) ∈ Ts) (hu2 : ∀ p ∈ Ts, p.1 = tp2 → p.2 = nmMC) :
    FnOk P w K mg base CX0 120 T.fLaw T.fdLaw ["script"] (spLaw K Ts) := by
  refine T.FLaw.ok scLaw (fun vs H Q E h => ?_) (fun cdv A outer s H vs Q E hr h => ?_)
  · obtain ⟨a, ns, rfl, _⟩ := h
    rfl
  · obtain ⟨a, ns, rfl, hS, hl, hT, q⟩ := h
    -- slots script=0 rows=1 columns=2 k=3 cell=4 d=5 content=6 down=7 right=8 moved=9 due=10 place=11
    refine ⟨_, (pss_cons (ps_set (i := 1) scLaw.nd rfl (Or.inl rfl) (pe_op op_add pe_int (pe_op op_mod (pe_callTy call_int1 (by rfl) T.z_int (by decide +kernel) (pa_cons (pe_call (okLawCell T) (hr.mono (by omega)) (by rfl) T.gLawCell T.FLawCell.kp T.bLawCell .nil pass0 (pa_cons (pv 0) (pa_cons pe_int pa_nil))) pa_nil)) pe_int)))
        (pss_cons (ps_set (i := 2) scLaw.nd rfl (Or.inl rfl) (pe_op op_add pe_int (pe_op op_mod (pe_callTy call_int1 (by rfl) T.z_int (by decide +kernel) (pa_cons (pe_call (okLawCell T) (hr.mono (by omega)) (by rfl) T.gLawCell T.FLawCell.kp T.bLawCell .nil pass0 (pa_cons (pv 0) (pa_cons pe_int pa_nil))) pa_nil)) pe_int)))
        (pss_cons (ps_for PassesOwn.never rfl (pi_range2 rfl T.z_range (pa_cons pe_int (pa_cons pe_int pa_nil))) (pg_name (i := 3) scLaw.nd rfl (Or.inl rfl))
          (pss_cons (ps_set (i := 4) scLaw.nd rfl (Or.inl rfl) (pe_call (okLawCell T) (hr.mono (by omega)) (by rfl) T.gLawCell T.FLawCell.kp T.bLawCell .nil pass0 (pa_cons (pv 0) (pa_cons (pv 3) pa_nil))))
          (pss_cons (ps_set (i := 5) scLaw.nd rfl (Or.inl rfl) (pe_call (okLawPadded T) (hr.mono (by omega)) (by rfl) T.gLawPadded T.FLawPadded.kp T.bLawPadded .nil pass0 (pa_cons (pv 4) (pa_cons (pv 3) pa_nil))))
          (pss_cons (ps_set (i := 6) scLaw.nd rfl (Or.inl rfl) (pe_call (okLawRead T) (hr.mono (by omega)) (by rfl) T.gLawRead T.FLawRead.kp T.bLawRead .nil pass0 (pa_cons (pv 5) (pa_cons (pv 1) (pa_cons (pv 2) pa_nil)))))
          (pss_cons (ps_set (i := 7) scLaw.nd rfl (Or.inl rfl) (pe_op op_sub (pe_op op_mod (pe_callTy call_int1 (by rfl) T.z_int (by decide +kernel) (pa_cons (pe_op op_fdiv (pv 4) pe_int) pa_nil)) pe_int) pe_int))
          (pss_cons (ps_set (i := 8) scLaw.nd rfl (Or.inl rfl) (pe_op op_sub (pe_op op_mod (pe_callTy call_int1 (by rfl) T.z_int (by decide +kernel) (pa_cons (pe_op op_fdiv (pv 4) pe_int) pa_nil)) pe_int) pe_int))
          (pss_cons (ps_set (i := 9) scLaw.nd rfl (Or.inl rfl) (pe_call (okMovedContent T gp B1 B2 hm1 hu1 hm2 hu2) (hr.mono (by omega)) (by rfl) T.gMovedContent T.FMovedContent.kp T.bMovedContent .nil pass0 (pa_cons (pv 6) (pa_cons (pv 7) (pa_cons (pv 8) (pa_cons (pv 1) (pa_cons (pv 2) pa_nil)))))))
          (pss_one (ps_if (pt_cmpR op_ne (pe_ix ix_tup (pv 6) pe_int (fun _ _ => rfl)) pe_str (nomark _))
            (pss_one (ps_if (pt_cmpR (op_neD hr.units) (pv 9) (pv 6) (nomark _))
              (pss_one (ps_ret pe_bl))
              pss_nil))
            (pss_cons (ps_set (i := 10) scLaw.nd rfl (Or.inl rfl) (pe_lst pa_nil))
            (pss_cons (ps_for PassesOwn.never rfl (pi_list (pe_call (okNamedCells T 31) (hr.mono (by omega)) (by rfl) T.gNamedCells T.FNamedCells.kp T.bNamedCells .nil pass0 (pa_cons (pe_ix ix_tup (pv 6) pe_int (fun _ _ => rfl)) pa_nil))) (pg_name (i := 11) scLaw.nd rfl (Or.inl rfl))
              (pss_one (ps_if (PW.pt (pw_and (pt_chain op_le op_lt pe_int (pe_op op_add (pe_ix ix_tup (pv 11) pe_int (fun _ _ => rfl)) (pv 7)) (pv 1)) (pw_and1 (pt_chain op_le op_lt pe_int (pe_op op_add (pe_ix ix_tup (pv 11) pe_int (fun _ _ => rfl)) (pv 8)) (pv 2)))))
                (pss_one (ps_expr (pe_bm PySem.F.plainAttrs_list PySem.F.slot_list_append PySem.F.type_list_append mt_append (pv 10) (pa_cons (pe_tup (pa_cons (pe_op op_add (pe_ix ix_tup (pv 11) pe_int (fun _ _ => rfl)) (pv 7)) (pa_cons (pe_op op_add (pe_ix ix_tup (pv 11) pe_int (fun _ _ => rfl)) (pv 8)) pa_nil))) pa_nil))))
                pss_nil)))
            (pss_cons (ps_if (PW.pt (pw_or (pt_cmpR (op_neD hr.units) (pe_callTy call_list_of (by rfl) T.z_list (by decide +kernel) (pa_cons (pe_call (okNamedCells T 31) (hr.mono (by omega)) (by rfl) T.gNamedCells T.FNamedCells.kp T.bNamedCells .nil pass0 (pa_cons (pe_ix ix_tup (pv 9) pe_int (fun _ _ => rfl)) pa_nil)) pa_nil)) (pv 10) (nomark _)) (pw_or1 (pt_cmpR op_ne (pe_call (okSize T 31) (hr.mono (by omega)) (by rfl) T.gSize T.FSize.kp T.bSize .nil pass0 (pa_cons (pe_ix ix_tup (pv 9) pe_int (fun _ _ => rfl)) pa_nil)) (pe_call (okSize T 31) (hr.mono (by omega)) (by rfl) T.gSize T.FSize.kp T.bSize .nil pass0 (pa_cons (pe_ix ix_tup (pv 6) pe_int (fun _ _ => rfl)) pa_nil)) (nomark _)))))
              (pss_one (ps_ret pe_bl))
              pss_nil)
            (pss_cons (ps_if (pt_cmpR (op_neD hr.units) (pe_call (okLawFrame T 31) (hr.mono (by omega)) (by rfl) T.gLawFrame T.FLawFrame.kp T.bLawFrame .nil pass0 (pa_cons (pe_ix ix_tup (pv 9) pe_int (fun _ _ => rfl)) pa_nil)) (pe_call (okLawFrame T 31) (hr.mono (by omega)) (by rfl) T.gLawFrame T.FLawFrame.kp T.bLawFrame .nil pass0 (pa_cons (pe_ix ix_tup (pv 6) pe_int (fun _ _ => rfl)) pa_nil)) (nomark _))
              (pss_one (ps_ret pe_bl))
              pss_nil)
            (pss_one (ps_if (pt_cmpR (op_neD hr.units) (pe_callTy call_list_of (by rfl) T.z_list (by decide +kernel) (pa_cons (pe_call (okAreasOf T 31) (hr.mono (by omega)) (by rfl) T.gAreasOf T.FAreasOf.kp T.bAreasOf .nil pass0 (pa_cons (pe_ix ix_tup (pv 9) pe_int (fun _ _ => rfl)) pa_nil)) pa_nil)) (pe_call (okLawAreas T) (hr.mono (by omega)) (by rfl) T.gLawAreas T.FLawAreas.kp T.bLawAreas .nil pass0 (pa_cons (pe_ix ix_tup (pv 6) pe_int (fun _ _ => rfl)) (pa_cons (pv 7) (pa_cons (pv 8) (pa_cons (pv 1) (pa_cons (pv 2) pa_nil)))))) (nomark _))
              (pss_one (ps_ret pe_bl))
              pss_nil)))))))))))))))
        (pss_one (ps_ret pe_bl))))), ?_⟩
    refine ⟨_, rfl, a, ns, 0, rfl, by decide, hS, fun v0 => .inl ⟨_, rfl, _, _, rfl, rfl, (by show (0 : Int) < _; decide), _, _, rfl, rfl, ?_⟩⟩
    refine ⟨_, rfl, a, ns, 1, rfl, by decide, hS, fun v1 => .inl ⟨_, rfl, _, _, rfl, rfl, (by show (0 : Int) < _; decide), _, _, rfl, rfl, ?_⟩⟩
    refine ⟨_, _, rfl, ⟨by decide, by decide, by decide, by decide⟩, for_range (lo := 2) (n := 12) (fun i σ H' => LamX.ExtN H H' ∧ NdefX.TabsN Ts H' ∧ ∃ c3 c4 c5 c6 c7 c8 c9 c10 c11 : Option V, σ = [some (.ref a), some (.int (2 + v0 % 4)), some (.int (2 + v1 % 4)), c3, c4, c5, c6, c7, c8, c9, c10, c11])
      ⟨LamX.ExtN.refl _, hT, _, _, _, _, _, _, _, _, _, rfl⟩ ?_ ?_⟩
    rotate_left
    · rintro σ H1 ⟨x1, T1, c3, c4, c5, c6, c7, c8, c9, c10, c11, rfl⟩
      exact q H1
    rintro i σ H1 hi ⟨x1, T1, c3, c4, c5, c6, c7, c8, c9, c10, c11, rfl⟩
    refine ⟨_, rfl, _, rfl, a, ns, _, rfl, by omega, sqL_ext x1 hS, fun c => ?_⟩
    refine ⟨_, rfl, _, rfl, c, _, rfl, fun H2 d ds s2 d0 hd D => ?_⟩
    refine ⟨_, rfl, _, rfl, _, rfl, d, ds, _, _, rfl, hd, D, fun v H3 ct s3 hc cf nf => ?_⟩
    refine ⟨_, rfl, _, _, rfl, rfl, ⟨by decide, by decide⟩, .inl ⟨_, rfl, _, _, rfl, rfl, (by show (0 : Int) < _; decide), _, _, rfl, rfl, ?_⟩⟩
    refine ⟨_, rfl, _, _, rfl, rfl, ⟨by decide, by decide⟩, .inl ⟨_, rfl, _, _, rfl, rfl, (by show (0 : Int) < _; decide), _, _, rfl, rfl, ?_⟩⟩
    have x3 : LamX.ExtN H H3 := x1.trans (extN_of (s2.trans s3))
    have T3 := T1.ext (s2.trans s3)
    rcases ct_case (K := K) hc cf nf with ⟨q0, s, l, dd, rfl, ne, h0, dp, sh⟩ | ⟨q0, u, t, rfl, h0, tr, tf⟩
    · refine ⟨_, rfl, _, rfl, _, rfl, _, rfl, _, rfl, q0, s, l, _, _, _, _, rfl, SqT.of h0, T3, .inl ⟨ne, fun H4 x4 T4 => ?_⟩⟩
      have h4 := sqT_tf (TF.ext x4) (SqT.of (K := K) h0)
      refine ⟨_, rfl, _, _, _, _, rfl, rfl, h4, atI_nat (j := 0) rfl, rfl, _, rfl, ifNe ne ⟨_, rfl, _, rfl, dd, dd, dp H4 x4, dp H4 x4, sh, sh, _, rfl, ?_⟩⟩
      rw [eqv_same sh]
      exact iteF ⟨x3.trans x4, T4, _, _, _, _, _, _, _, _, _, rfl⟩
    · have th := nT_h t
      have tn := tf.n
      refine ⟨_, rfl, _, rfl, _, rfl, _, rfl, _, rfl, q0, "formula", [u], _, _, _, _, rfl, SqT.of h0, T3, .inr ⟨rfl, u, t, rfl, tr, by omega, nT_k t (by omega), fun q1 y H4 x4 T4 h1 r1 => ?_⟩⟩
      have h4 := sqT_tf (TF.ext x4) (SqT.of (K := K) h0)
      refine ⟨_, rfl, _, _, _, _, rfl, rfl, h4, atI_nat (j := 0) rfl, rfl, _, rfl, ifNeY ⟨Nat.zero_le _, fun e he => ?_⟩⟩
      have se := same_new (o := .lst []) he
      have h5 := sqT_tf (.same se) h4
      have tr5 := (tr.tf (TF.ext x4)).tf (.same se)
      have nc := nT_c t
      refine ⟨_, rfl, _, _, _, _, rfl, rfl, h5, atI_nat (j := 1) rfl, u, t, rfl, by omega, by omega, tr5, fun H6 l us s6 l6 e6 c6 => ?_⟩
      have len := c6.len
      have hE : H6 e = some (.lst []) := s6 _ _ upd_same
      have nle : l ≠ e := fun z => by
        rw [z, upd_same] at l6
        cases l6
      refine ⟨l, rfl, ⟨us, SqL.of e6⟩, for_it (walk_list (a := l) (xs := us)) (fun j σ H' => Same H4 H' ∧ TF H6 H' ∧ H' l = some (.lst us) ∧ (∃ ys, H' e = some (.lst ys) ∧ Cls H' ys ((((tcells t).take j).filter fun z => decide (ins (2 + v0 % 4) (2 + v1 % 4) (c / 7 % 7 - 3) (c / 49 % 7 - 3) z)).map (shift (c / 7 % 7 - 3) (c / 49 % 7 - 3)))) ∧
          ∃ c11 : Option V, σ = [some (.ref a), some (.int (2 + v0 % 4)), some (.int (2 + v1 % 4)), some (.int (2 + (i : Int))), some (.int c), some (.ref d), some (.ref q0), some (.int (c / 7 % 7 - 3)), some (.int (c / 49 % 7 - 3)), some (.ref q1), some (.ref e), c11])
        ⟨se.trans s6, .same (Same.refl _), e6, ⟨[], hE, .nil⟩, _, rfl⟩ (fun j σ H' _ h => SqL.of h.2.2.1) ?_ ?_⟩
      · rintro j x σ H7 H8 hj ⟨s7, tf7, k7, ⟨ys, hY, cY⟩, c11', rfl⟩ ⟨rfl, ex⟩
        obtain ⟨z, zq, ez, rfl, hz⟩ := (c6.mono tf7.t).get j x ex
        have nx : (tcells t).take (j + 1) = (tcells t).take j ++ [z] := by
          rw [List.take_add_one, ez]
          rfl
        have skip : ¬ ins (2 + v0 % 4) (2 + v1 % 4) (c / 7 % 7 - 3) (c / 49 % 7 - 3) z → Cls H8 ys ((((tcells t).take (j + 1)).filter fun z => decide (ins (2 + v0 % 4) (2 + v1 % 4) (c / 7 % 7 - 3) (c / 49 % 7 - 3) z)).map (shift (c / 7 % 7 - 3) (c / 49 % 7 - 3))) := fun no => by
          have e0 : [z].filter (fun z => decide (ins (2 + v0 % 4) (2 + v1 % 4) (c / 7 % 7 - 3) (c / 49 % 7 - 3) z)) = [] := by simp [no]
          rw [nx, List.filter_append, e0, List.append_nil]
          exact cY
        refine ⟨_, rfl, _, _, _, _, rfl, rfl, SqT.of hz, atI_nat (j := 0) rfl, _, rfl, _, _, rfl, rfl, _, _, rfl, rfl, _, rfl, ite2 (fun g1 => ?_) (fun g1 => ⟨_, rfl, iteF ⟨s7, tf7, k7, ⟨ys, hY, skip fun w => g1 (decide_eq_true w.1.1)⟩, _, rfl⟩⟩)⟩
        refine ⟨_, rfl, _, _, rfl, rfl, _, rfl, ite2 (fun g2 => ?_) (fun g2 => iteF ⟨s7, tf7, k7, ⟨ys, hY, skip fun w => g2 (decide_eq_true w.1.2)⟩, _, rfl⟩)⟩
        refine ⟨_, rfl, _, _, _, _, rfl, rfl, SqT.of hz, atI_nat (j := 1) rfl, _, rfl, _, _, rfl, rfl, _, _, rfl, rfl, _, rfl, ite2 (fun g3 => ?_) (fun g3 => ⟨_, rfl, iteF ⟨s7, tf7, k7, ⟨ys, hY, skip fun w => g3 (decide_eq_true w.2.1)⟩, _, rfl⟩⟩)⟩
        refine ⟨_, rfl, _, _, rfl, rfl, _, rfl, ite2 (fun g4 => ?_) (fun g4 => ⟨s7, tf7, k7, ⟨ys, hY, skip fun w => g4 (decide_eq_true w.2.2)⟩, _, rfl⟩)⟩
        have yes : ins (2 + v0 % 4) (2 + v1 % 4) (c / 7 % 7 - 3) (c / 49 % 7 - 3) z := ⟨⟨of_decide_eq_true g1, of_decide_eq_true g2⟩, of_decide_eq_true g3, of_decide_eq_true g4⟩
        refine ⟨_, rfl, .inl ⟨rfl, _, SqL.of hY⟩, _, rfl, _, _, _, _, rfl, rfl, SqT.of hz, atI_nat (j := 0) rfl, _, rfl, _, _, rfl, rfl, _, rfl, _, _, _, _, rfl, rfl, SqT.of hz, atI_nat (j := 1) rfl, _, rfl, _, _, rfl, rfl, (by show 2 ≤ sizeLine; decide), fun p hp => ?_⟩
        have hY2 := (same_new (o := .tup [.int (z.1 + (c / 7 % 7 - 3)), .int (z.2 + (c / 49 % 7 - 3))]) hp) _ _ hY
        have npe : p ≠ e := fun w => by
          rw [w, hY] at hp
          cases hp
        refine ⟨e, _, _, rfl, rfl, hY2, ?_, same_mut (s7.trans (same_new hp)) he, (tf7.trans (.same (same_new hp))).trans (.set hY2), by rw [upd_ne nle]; exact (same_new hp) _ _ k7, ⟨_, upd_same, ?_⟩, _, rfl⟩
        · refine sz_few ?_
          have w := cY.len
          have w2 := List.length_filter_le (fun z => decide (ins (2 + v0 % 4) (2 + v1 % 4) (c / 7 % 7 - 3) (c / 49 % 7 - 3) z)) ((tcells t).take j)
          rw [List.length_map] at w
          rw [List.length_take] at w2
          show ys.length + 1 ≤ 100
          omega
        · have e0 : [z].filter (fun z => decide (ins (2 + v0 % 4) (2 + v1 % 4) (c / 7 % 7 - 3) (c / 49 % 7 - 3) z)) = [z] := by simp [yes]
          rw [nx, List.filter_append, e0, List.map_append]
          exact Cls.app (.cons (by rw [upd_ne npe]; exact upd_same) .nil) (cY.mono ((TF.same (same_new hp)).trans (.set hY2)).t)
      · rintro σ H7 ⟨s7, tf7, k7, ⟨ys, hY, cY⟩, c11', rfl⟩
        rw [List.take_of_length_le (by omega)] at cY
        rw [← mv_cells t] at cY
        have mh := mv_h (d := c / 7 % 7 - 3) (r := c / 49 % 7 - 3) (R := 2 + v0 % 4) (C := 2 + v1 % 4) t
        have mcl : (tcells (mvT (c / 7 % 7 - 3) (c / 49 % 7 - 3) (2 + v0 % 4) (2 + v1 % 4) t)).length ≤ 100 := by
          rw [mv_cells, List.length_map]
          exact Nat.le_trans (List.length_filter_le ..) (by omega)
        have na := nT_a t
        have mal : (tareas (mvT (c / 7 % 7 - 3) (c / 49 % 7 - 3) (2 + v0 % 4) (2 + v1 % 4) t)).length ≤ 100 := by
          rw [mv_areas t tf.m, List.length_map]
          omega
        have m7 := s7 _ _ h1
        have r7 := r1.tf (.same s7)
        have o7 := sqT_tf (.same s7) h4
        have t7 := (tr.tf (TF.ext x4)).tf (.same s7)
        refine ⟨_, rfl, _, _, _, _, rfl, rfl, SqT.of m7, atI_nat (j := 1) rfl, y, _, rfl, by omega, mcl, r7, fun H9 l9 us9 s9 n9 e9 c9 => ⟨l9, us9, rfl, .inl (SqL.of e9), fun l10 hl10 => ?_⟩⟩
        have s10 := s9.trans (same_new (o := .lst us9) hl10)
        refine ⟨_, rfl, _, _, .lst (SqL.of upd_same) (c9.mono (TF.same (same_new hl10)).t).dp, .lst (SqL.of (s10 _ _ hY)) (cY.mono (TF.same s10).t).dp, zDs_shaped _, zDs_shaped _, _, rfl, ?_⟩
        rw [eqv_same (zDs_shaped _)]
        refine iteF ?_
        have m10 := s10 _ _ m7
        have o10 := sqT_tf (.same s10) o7
        refine ⟨_, rfl, _, _, _, _, rfl, rfl, SqT.of m10, atI_nat (j := 1) rfl, y, _, rfl, by omega, r7.tf (.same s10), _, rfl, _, _, _, _, rfl, rfl, o10, atI_nat (j := 1) rfl, u, t, rfl, by omega, t7.tf (.same s10), rfl, _, rfl, ?_⟩
        rw [mv_size t tf.m, decide_eq_true rfl]
        refine iteF ?_
        refine ⟨_, rfl, _, _, _, _, rfl, rfl, SqT.of m10, atI_nat (j := 1) rfl, y, _, rfl, by omega, r7.tf (.same s10), fun y1 H11 s11 d11 => ?_⟩
        have o11 := sqT_tf (.same s11) o10
        refine ⟨_, rfl, _, _, _, _, rfl, rfl, o11, atI_nat (j := 1) rfl, u, t, rfl, by omega, (t7.tf (.same s10)).tf (.same s11), fun y2 H12 s12 d12 => ?_⟩
        rw [mv_frame] at d11
        have fs := fD_shaped tf.s (by omega)
        refine ⟨_, _, dp_same s12 d11, d12, fs, fs, _, rfl, ?_⟩
        rw [eqv_same fs]
        refine iteF ?_
        have s13 := (s10.trans s11).trans s12
        have m13 := s13 _ _ m7
        refine ⟨_, rfl, _, _, _, _, rfl, rfl, SqT.of m13, atI_nat (j := 1) rfl, y, _, rfl, by omega, mal, r7.tf (.same s13), fun H14 l14 us14 s14 n14 e14 a14 => ⟨l14, us14, rfl, .inl (SqL.of e14), fun l15 h15 => ?_⟩⟩
        have s15 := (s13.trans s14).trans (same_new (o := .lst us14) h15)
        have o15 := sqT_tf (.same s15) o7
        refine ⟨_, rfl, _, _, _, _, rfl, rfl, o15, atI_nat (j := 1) rfl, _, rfl, _, rfl, _, rfl, _, rfl, u, t, _, _, _, _, rfl, tf.n, t7.tf (.same s15), fun l16 us16 H16 s16 e16 a16 => ?_⟩
        rw [mv_areas t tf.m] at a14
        refine ⟨_, _, .lst (SqL.of (s16 _ _ upd_same)) (a14.tf (.same ((same_new h15).trans s16))).dp, .lst (SqL.of e16) a16.dp, arDs_shaped _, arDs_shaped _, _, rfl, ?_⟩
        rw [eqv_same (arDs_shaped _)]
        exact iteF ⟨(x3.trans x4).trans (extN_of ((s7.trans s15).trans s16)), T4.ext ((s7.trans s15).trans s16), _, _, _, _, _, _, _, _, _, rfl⟩
end
end My
namespace My
open PySem PySem.Spec PyProof.Rows L2 RZ
section
variable {P : Program} {w : World} {K : PySem.W.Frag} {mg : Str → Option Value} {base : Heap}
open L2H
open SX (S S_len S_cat slice_to slice_from num_S int_S)
open PySem.NumText (digitsVal AllDigits)
open TL (numL)
/-! ### the table, as the head tells it -/
def cvK (z : List Str × Addr × Value) : List PySem.Leaf × Addr × Value := (z.1.map PySem.Leaf.text, z.2.1, z.2.2)
theorem items_mix {P : Program} {w : World} : ∀ {ks : List Str} {vs : List Value}, PySem.ItemsAre (strKind P w) ks vs → PySem.ItemsAre (PySem.leafKind P w) (ks.map PySem.Leaf.text) vs
  | _, _, .nil => .nil
  | k :: _, v :: _, .cons h r => .cons (by
      obtain ⟨t, rfl⟩ := Value.isStrOf_shape h
      show (k == k) = true; simp) (items_mix r)
theorem mix_of {P : Program} {w : World} {h : Heap} {d : Addr} {xs : List (List Str × Addr × Value)} (D : h.DictOfH (tupleKind (strKind P w)) d xs) : h.DictOfH (tupleKind (PySem.leafKind P w)) d (xs.map cvK) := by
  obtain ⟨o, es, ep, h1, h2, h3, h4, h5, h6⟩ := D
  refine ⟨o, es, ep, h1, h2, h3, ?_, fun z hz => ?_, ?_⟩
  · rw [h4, List.map_map]
    refine List.map_congr_left fun z _ => ?_
    show entryOfKey (tupleKind (strKind P w)) z = entryOfKey (tupleKind (PySem.leafKind P w)) (cvK z)
    have e : tupleKeyHash (strKind P w) z.1 = tupleKeyHash (PySem.leafKind P w) (z.1.map PySem.Leaf.text) := by
      unfold tupleKeyHash
      rw [List.map_map]
      rfl
    show DictEntry.mk (tupleKeyHash (strKind P w) z.1) _ _ = DictEntry.mk (tupleKeyHash (PySem.leafKind P w) (z.1.map PySem.Leaf.text)) _ _
    rw [e]
    rfl
  · obtain ⟨y, hy, rfl⟩ := List.mem_map.mp hz
    obtain ⟨o2, items, n, a1, a2, a3, a4⟩ := h5 y hy
    exact ⟨o2, items, n, a1, a2, a3, items_mix a4⟩
  · rw [List.map_map]
    have e : (Prod.fst ∘ cvK : List Str × Addr × Value → List PySem.Leaf) = (List.map PySem.Leaf.text) ∘ Prod.fst := rfl
    rw [e, ← List.map_map]
    refine List.Pairwise.map _ (fun a b n z => n ?_) h6
    have inj : ∀ (a b : List Str), (a.map PySem.Leaf.text : List PySem.Leaf) = b.map PySem.Leaf.text → a = b := fun a => by
      induction a with
      | nil =>
        intro b z
        cases b with
        | nil => rfl
        | cons _ _ => cases z
      | cons x r ih =>
        intro b z
        cases b with
        | nil => cases z
        | cons y s =>
          rw [List.map_cons, List.map_cons] at z
          injection z with z1 z2
          injection z1 with z1
          rw [z1, ih s z2]
    exact inj a b z
def tabB : List (List Str × Addr × Value) → List (Str × Str × Str) → Bool
  | [], [] => true
  | ([a, b], _, .str s _) :: xs, (a', b', s') :: es => a == a' && b == b' && s == s' && tabB xs es
  | _, _ => false
theorem tabIs_of : ∀ {xs : List (List Str × Addr × Value)} {es : List (Str × Str × Str)}, tabB xs es = true → TabIs (xs.map cvK) es
  | [], [], _ => .nil
  | z :: xs, e :: es, h => by
    obtain ⟨k, ad, v⟩ := z
    obtain ⟨a', b', s'⟩ := e
    unfold tabB at h
    split at h
    · rename_i e1 e2
      cases e1
    · rename_i a b ad2 s t xs2 a2 b2 s2 es2 e1 e2
      cases e1
      cases e2
      simp only [Bool.and_eq_true, beq_iff_eq] at h
      obtain ⟨⟨⟨rfl, rfl⟩, rfl⟩, r⟩ := h
      exact .cons (tabIs_of r)
    · cases h
  | [], _ :: _, h => by unfold tabB at h; cases h
  | _ :: _, [], h => by
    unfold tabB at h
    split at h
    · rename_i e1 _
      cases e1
    · rename_i e2
      cases e2
    · cases h
end
end My
namespace My
open PySem PySem.Spec PyProof.Rows L2 RZ
section
variable {P : Program} {w : World} {K : PySem.W.Frag} {mg : Str → Option Value} {base : Heap}
end
set_option maxHeartbeats 0 in
theorem all_mk {l : PySem.W.OpenLaw} {w : World} {K : PySem.W.Frag} {h : Heap} {mg : Str → Option Value} {fa f1 f2 f3 f4 f5 f6 f7 f8 f9 f10 f11 f12 f13 f14 f15 f16 f17 f18 f19 f20 f21 f22 f23 f24 f25 f26 f27 f28 f29 f30 f31 f32 f33 f34 f35 f36 f37 f38 f39 f40 f41 f42 : Addr} {t_DIGITS : Nat} {t_MOST_BEFORE_POINT : Nat} {t_MOST_BEHIND_POINT : Nat} {t_PARTS : Nat} {t_CAPITALS : Nat} {t_SMALL : Nat} {t_SIGNS : Nat} {t_LONGEST_WORD : Nat} {t_GONE : Nat} {t_SHORTEST_NAME : Nat} {t_MOST_TOKENS : Nat} {t_MOST_BRACKETS : Nat} (X : K.In h) (G : h.Ns mainGlobals mg) (hfa : mg "law" = some (.ref fa)) (hS : StepsC l.prog w K)
    {od1 an1 od2 an2 od3 an3 od4 an4 od5 an5 od6 an6 od7 an7 od8 an8 od9 an9 od10 an10 od11 an11 od12 an12 od13 an13 od14 an14 od15 an15 od16 an16 od17 an17 od18 an18 od19 an19 od20 an20 od21 an21 od22 an22 od23 an23 od24 an24 od25 an25 od26 an26 od27 an27 od28 an28 od29 an29 od30 an30 od31 an31 od32 an32 od33 an33 od34 an34 od35 an35 od36 an36 od37 an37 od38 an38 od39 an39 od40 an40 od41 an41 od42 an42 : Option Addr} {sl1 sl2 sl3 sl4 sl5 sl6 sl7 sl8 sl9 sl10 sl11 sl12 sl13 sl14 sl15 sl16 sl17 sl18 sl19 sl20 sl21 sl22 sl23 sl24 sl25 sl26 sl27 sl28 sl29 sl30 sl31 sl32 sl33 sl34 sl35 sl36 sl37 sl38 sl39 sl40 sl41 sl42 : Array (Option Value)} {oc1 kV1 dc1 pm1 cd1 ct1 oc2 kV2 dc2 pm2 cd2 ct2 oc3 kV3 dc3 pm3 cd3 ct3 oc4 kV4 dc4 pm4 cd4 ct4 oc5 kV5 dc5 pm5 cd5 ct5 oc6 kV6 dc6 pm6 cd6 ct6 oc7 kV7 dc7 pm7 cd7 ct7 oc8 kV8 dc8 pm8 cd8 ct8 oc9 kV9 dc9 pm9 cd9 ct9 oc10 kV10 dc10 pm10 cd10 ct10 oc11 kV11 dc11 pm11 cd11 ct11 oc12 kV12 dc12 pm12 cd12 ct12 oc13 kV13 dc13 pm13 cd13 ct13 oc14 kV14 dc14 pm14 cd14 ct14 oc15 kV15 dc15 pm15 cd15 ct15 oc16 kV16 dc16 pm16 cd16 ct16 oc17 kV17 dc17 pm17 cd17 ct17 oc18 kV18 dc18 pm18 ct18 oc19 kV19 dc19 pm19 ct19 oc20 kV20 dc20 pm20 cd20 ct20 oc21 kV21 dc21 pm21 cd21 ct21 oc22 kV22 dc22 pm22 cd22 ct22 oc23 kV23 dc23 pm23 cd23 ct23 oc24 kV24 dc24 pm24 cd24 ct24 oc25 kV25 dc25 pm25 cd25 ct25 oc26 kV26 dc26 pm26 cd26 ct26 oc27 kV27 dc27 pm27 cd27 ct27 oc28 kV28 dc28 pm28 cd28 ct28 oc29 kV29 dc29 pm29 cd29 ct29 oc30 kV30 dc30 pm30 cd30 ct30 oc31 kV31 dc31 pm31 cd31 ct31 oc32 kV32 dc32 pm32 cd32 ct32 oc33 kV33 dc33 pm33 cd33 ct33 oc34 kV34 dc34 pm34 cd34 ct34 oc35 kV35 dc35 pm35 cd35 ct35 oc36 kV36 dc36 pm36 cd36 ct36 oc37 kV37 dc37 pm37 cd37 ct37 oc38 kV38 dc38 pm38 cd38 ct38 oc39 kV39 dc39 pm39 cd39 ct39 oc40 kV40 dc40 pm40 cd40 ct40 oc41 kV41 dc41 pm41 cd41 ct41 oc42 kV42 dc42 pm42 cd42 ct42 : Value}
    {cT1 tP1 cT2 tP2 : Addr}
    (a1 : PySem.W.nsIn K mainGlobals "fraction" = some (some (.ref f1))) (l1 : K.lookup f1 = some ⟨oc1, od1, .func (PySem.W.fnOf "fraction" "fraction" (defArgs sFraction) (defBody sFraction) (defScope sFraction) .none kV1 dc1 pm1 an1 cd1 ct1), sl1⟩) (c1 : PySem.W.codeIn K cd1 "fraction" = true) (k1 : PySem.W.keepIn K (.ref f1) = true)
    (a2 : PySem.W.nsIn K mainGlobals "_is_digits" = some (some (.ref f2))) (l2 : K.lookup f2 = some ⟨oc2, od2, .func (PySem.W.fnOf "_is_digits" "_is_digits" (defArgs sIsDigits) (defBody sIsDigits) (defScope sIsDigits) .none kV2 dc2 pm2 an2 cd2 ct2), sl2⟩) (c2 : PySem.W.codeIn K cd2 "_is_digits" = true) (k2 : PySem.W.keepIn K (.ref f2) = true)
    (a3 : PySem.W.nsIn K mainGlobals "read_decimal" = some (some (.ref f3))) (l3 : K.lookup f3 = some ⟨oc3, od3, .func (PySem.W.fnOf "read_decimal" "read_decimal" (defArgs sReadDecimal) (defBody sReadDecimal) (defScope sReadDecimal) .none kV3 dc3 pm3 an3 cd3 ct3), sl3⟩) (c3 : PySem.W.codeIn K cd3 "read_decimal" = true) (k3 : PySem.W.keepIn K (.ref f3) = true)
    (a4 : PySem.W.nsIn K mainGlobals "read_number" = some (some (.ref f4))) (l4 : K.lookup f4 = some ⟨oc4, od4, .func (PySem.W.fnOf "read_number" "read_number" (defArgs sReadNumber) (defBody sReadNumber) (defScope sReadNumber) .none kV4 dc4 pm4 an4 cd4 ct4), sl4⟩) (c4 : PySem.W.codeIn K cd4 "read_number" = true) (k4 : PySem.W.keepIn K (.ref f4) = true)
    (a5 : PySem.W.nsIn K mainGlobals "_run_end" = some (some (.ref f5))) (l5 : K.lookup f5 = some ⟨oc5, od5, .func (PySem.W.fnOf "_run_end" "_run_end" (defArgs sRunEnd) (defBody sRunEnd) (defScope sRunEnd) .none kV5 dc5 pm5 an5 cd5 ct5), sl5⟩) (c5 : PySem.W.codeIn K cd5 "_run_end" = true) (k5 : PySem.W.keepIn K (.ref f5) = true)
    (a6 : PySem.W.nsIn K mainGlobals "read_address" = some (some (.ref f6))) (l6 : K.lookup f6 = some ⟨oc6, od6, .func (PySem.W.fnOf "read_address" "read_address" (defArgs sReadAddress) (defBody sReadAddress) (defScope sReadAddress) .none kV6 dc6 pm6 an6 cd6 ct6), sl6⟩) (c6 : PySem.W.codeIn K cd6 "read_address" = true) (k6 : PySem.W.keepIn K (.ref f6) = true)
    (a7 : PySem.W.nsIn K mainGlobals "_token_end" = some (some (.ref f7))) (l7 : K.lookup f7 = some ⟨oc7, od7, .func (PySem.W.fnOf "_token_end" "_token_end" (defArgs sTokenEnd) (defBody sTokenEnd) (defScope sTokenEnd) .none kV7 dc7 pm7 an7 cd7 ct7), sl7⟩) (c7 : PySem.W.codeIn K cd7 "_token_end" = true) (k7 : PySem.W.keepIn K (.ref f7) = true)
    (a8 : PySem.W.nsIn K mainGlobals "_kind" = some (some (.ref f8))) (l8 : K.lookup f8 = some ⟨oc8, od8, .func (PySem.W.fnOf "_kind" "_kind" (defArgs sKind) (defBody sKind) (defScope sKind) .none kV8 dc8 pm8 an8 cd8 ct8), sl8⟩) (c8 : PySem.W.codeIn K cd8 "_kind" = true) (k8 : PySem.W.keepIn K (.ref f8) = true)
    (a9 : PySem.W.nsIn K mainGlobals "token_list" = some (some (.ref f9))) (l9 : K.lookup f9 = some ⟨oc9, od9, .func (PySem.W.fnOf "token_list" "token_list" (defArgs sTokenList) (defBody sTokenList) (defScope sTokenList) .none kV9 dc9 pm9 an9 cd9 ct9), sl9⟩) (c9 : PySem.W.codeIn K cd9 "token_list" = true) (k9 : PySem.W.keepIn K (.ref f9) = true)
    (a10 : PySem.W.nsIn K mainGlobals "is_name_word" = some (some (.ref f10))) (l10 : K.lookup f10 = some ⟨oc10, od10, .func (PySem.W.fnOf "is_name_word" "is_name_word" (defArgs sIsNameWord) (defBody sIsNameWord) (defScope sIsNameWord) .none kV10 dc10 pm10 an10 cd10 ct10), sl10⟩) (c10 : PySem.W.codeIn K cd10 "is_name_word" = true) (k10 : PySem.W.keepIn K (.ref f10) = true)
    (a11 : PySem.W.nsIn K mainGlobals "size" = some (some (.ref f11))) (l11 : K.lookup f11 = some ⟨oc11, od11, .func (PySem.W.fnOf "size" "size" (defArgs sSize) (defBody sSize) (defScope sSize) .none kV11 dc11 pm11 an11 cd11 ct11), sl11⟩) (c11 : PySem.W.codeIn K cd11 "size" = true) (k11 : PySem.W.keepIn K (.ref f11) = true)
    (a12 : PySem.W.nsIn K mainGlobals "named_cells" = some (some (.ref f12))) (l12 : K.lookup f12 = some ⟨oc12, od12, .func (PySem.W.fnOf "named_cells" "named_cells" (defArgs sNamedCells) (defBody sNamedCells) (defScope sNamedCells) .none kV12 dc12 pm12 an12 cd12 ct12), sl12⟩) (c12 : PySem.W.codeIn K cd12 "named_cells" = true) (k12 : PySem.W.keepIn K (.ref f12) = true)
    (a13 : PySem.W.nsIn K mainGlobals "areas_of" = some (some (.ref f13))) (l13 : K.lookup f13 = some ⟨oc13, od13, .func (PySem.W.fnOf "areas_of" "areas_of" (defArgs sAreasOf) (defBody sAreasOf) (defScope sAreasOf) .none kV13 dc13 pm13 an13 cd13 ct13), sl13⟩) (c13 : PySem.W.codeIn K cd13 "areas_of" = true) (k13 : PySem.W.keepIn K (.ref f13) = true)
    (a14 : PySem.W.nsIn K mainGlobals "_mapped_areas" = some (some (.ref f14))) (l14 : K.lookup f14 = some ⟨oc14, od14, .func (PySem.W.fnOf "_mapped_areas" "_mapped_areas" (defArgs sMappedAreas) (defBody sMappedAreas) (defScope sMappedAreas) .none kV14 dc14 pm14 an14 cd14 ct14), sl14⟩) (c14 : PySem.W.codeIn K cd14 "_mapped_areas" = true) (k14 : PySem.W.keepIn K (.ref f14) = true)
    (a15 : PySem.W.nsIn K mainGlobals "mapped" = some (some (.ref f15))) (l15 : K.lookup f15 = some ⟨oc15, od15, .func (PySem.W.fnOf "mapped" "mapped" (defArgs sMapped) (defBody sMapped) (defScope sMapped) .none kV15 dc15 pm15 an15 cd15 ct15), sl15⟩) (c15 : PySem.W.codeIn K cd15 "mapped" = true) (k15 : PySem.W.keepIn K (.ref f15) = true)
    (a16 : PySem.W.nsIn K mainGlobals "with_tree" = some (some (.ref f16))) (l16 : K.lookup f16 = some ⟨oc16, od16, .func (PySem.W.fnOf "with_tree" "with_tree" (defArgs sWithTree) (defBody sWithTree) (defScope sWithTree) .none kV16 dc16 pm16 an16 cd16 ct16), sl16⟩) (c16 : PySem.W.codeIn K cd16 "with_tree" = true) (k16 : PySem.W.keepIn K (.ref f16) = true)
    (a17 : PySem.W.nsIn K mainGlobals "_moved_corners" = some (some (.ref f17))) (l17 : K.lookup f17 = some ⟨oc17, od17, .func (PySem.W.fnOf "_moved_corners" "_moved_corners" (defArgs sMovedCorners) (defBody sMovedCorners) (defScope sMovedCorners) .none kV17 dc17 pm17 an17 cd17 ct17), sl17⟩) (c17 : PySem.W.codeIn K cd17 "_moved_corners" = true) (k17 : PySem.W.keepIn K (.ref f17) = true)
    (a18 : PySem.W.nsIn K mainGlobals "moved_tree" = some (some (.ref f18))) (l18 : K.lookup f18 = some ⟨oc18, od18, .func (PySem.W.fnOf "moved_tree" "moved_tree" (defArgs sMovedTree) (defBody sMovedTree) (defScope sMovedTree) .none kV18 dc18 pm18 an18 (.ref cT1) ct18), sl18⟩) (c18 : PySem.W.codeIn K (.ref cT1) "moved_tree" = true) (k18 : PySem.W.keepIn K (.ref f18) = true)
    (a19 : PySem.W.nsIn K mainGlobals "moved_content" = some (some (.ref f19))) (l19 : K.lookup f19 = some ⟨oc19, od19, .func (PySem.W.fnOf "moved_content" "moved_content" (defArgs sMovedContent) (defBody sMovedContent) (defScope sMovedContent) .none kV19 dc19 pm19 an19 (.ref cT2) ct19), sl19⟩) (c19 : PySem.W.codeIn K (.ref cT2) "moved_content" = true) (k19 : PySem.W.keepIn K (.ref f19) = true)
    (a20 : PySem.W.nsIn K mainGlobals "_symbol" = some (some (.ref f20))) (l20 : K.lookup f20 = some ⟨oc20, od20, .func (PySem.W.fnOf "_symbol" "_symbol" (defArgs sSymbol) (defBody sSymbol) (defScope sSymbol) .none kV20 dc20 pm20 an20 cd20 ct20), sl20⟩) (c20 : PySem.W.codeIn K cd20 "_symbol" = true) (k20 : PySem.W.keepIn K (.ref f20) = true)
    (a21 : PySem.W.nsIn K mainGlobals "_depth_behind" = some (some (.ref f21))) (l21 : K.lookup f21 = some ⟨oc21, od21, .func (PySem.W.fnOf "_depth_behind" "_depth_behind" (defArgs sDepthBehind) (defBody sDepthBehind) (defScope sDepthBehind) .none kV21 dc21 pm21 an21 cd21 ct21), sl21⟩) (c21 : PySem.W.codeIn K cd21 "_depth_behind" = true) (k21 : PySem.W.keepIn K (.ref f21) = true)
    (a22 : PySem.W.nsIn K mainGlobals "_walk" = some (some (.ref f22))) (l22 : K.lookup f22 = some ⟨oc22, od22, .func (PySem.W.fnOf "_walk" "_walk" (defArgs sWalk) (defBody sWalk) (defScope sWalk) .none kV22 dc22 pm22 an22 cd22 ct22), sl22⟩) (c22 : PySem.W.codeIn K cd22 "_walk" = true) (k22 : PySem.W.keepIn K (.ref f22) = true)
    (a23 : PySem.W.nsIn K mainGlobals "_chain" = some (some (.ref f23))) (l23 : K.lookup f23 = some ⟨oc23, od23, .func (PySem.W.fnOf "_chain" "_chain" (defArgs sChain) (defBody sChain) (defScope sChain) .none kV23 dc23 pm23 an23 cd23 ct23), sl23⟩) (c23 : PySem.W.codeIn K cd23 "_chain" = true) (k23 : PySem.W.keepIn K (.ref f23) = true)
    (a24 : PySem.W.nsIn K mainGlobals "_formula" = some (some (.ref f24))) (l24 : K.lookup f24 = some ⟨oc24, od24, .func (PySem.W.fnOf "_formula" "_formula" (defArgs sFormula) (defBody sFormula) (defScope sFormula) .none kV24 dc24 pm24 an24 cd24 ct24), sl24⟩) (c24 : PySem.W.codeIn K cd24 "_formula" = true) (k24 : PySem.W.keepIn K (.ref f24) = true)
    (a25 : PySem.W.nsIn K mainGlobals "_term" = some (some (.ref f25))) (l25 : K.lookup f25 = some ⟨oc25, od25, .func (PySem.W.fnOf "_term" "_term" (defArgs sTerm) (defBody sTerm) (defScope sTerm) .none kV25 dc25 pm25 an25 cd25 ct25), sl25⟩) (c25 : PySem.W.codeIn K cd25 "_term" = true) (k25 : PySem.W.keepIn K (.ref f25) = true)
    (a26 : PySem.W.nsIn K mainGlobals "_factor" = some (some (.ref f26))) (l26 : K.lookup f26 = some ⟨oc26, od26, .func (PySem.W.fnOf "_factor" "_factor" (defArgs sFactor) (defBody sFactor) (defScope sFactor) .none kV26 dc26 pm26 an26 cd26 ct26), sl26⟩) (c26 : PySem.W.codeIn K cd26 "_factor" = true) (k26 : PySem.W.keepIn K (.ref f26) = true)
    (a27 : PySem.W.nsIn K mainGlobals "_primary" = some (some (.ref f27))) (l27 : K.lookup f27 = some ⟨oc27, od27, .func (PySem.W.fnOf "_primary" "_primary" (defArgs sPrimary) (defBody sPrimary) (defScope sPrimary) .none kV27 dc27 pm27 an27 cd27 ct27), sl27⟩) (c27 : PySem.W.codeIn K cd27 "_primary" = true) (k27 : PySem.W.keepIn K (.ref f27) = true)
    (a28 : PySem.W.nsIn K mainGlobals "_call" = some (some (.ref f28))) (l28 : K.lookup f28 = some ⟨oc28, od28, .func (PySem.W.fnOf "_call" "_call" (defArgs sCall) (defBody sCall) (defScope sCall) .none kV28 dc28 pm28 an28 cd28 ct28), sl28⟩) (c28 : PySem.W.codeIn K cd28 "_call" = true) (k28 : PySem.W.keepIn K (.ref f28) = true)
    (a29 : PySem.W.nsIn K mainGlobals "_area" = some (some (.ref f29))) (l29 : K.lookup f29 = some ⟨oc29, od29, .func (PySem.W.fnOf "_area" "_area" (defArgs sArea) (defBody sArea) (defScope sArea) .none kV29 dc29 pm29 an29 cd29 ct29), sl29⟩) (c29 : PySem.W.codeIn K cd29 "_area" = true) (k29 : PySem.W.keepIn K (.ref f29) = true)
    (a30 : PySem.W.nsIn K mainGlobals "_block" = some (some (.ref f30))) (l30 : K.lookup f30 = some ⟨oc30, od30, .func (PySem.W.fnOf "_block" "_block" (defArgs sBlock) (defBody sBlock) (defScope sBlock) .none kV30 dc30 pm30 an30 cd30 ct30), sl30⟩) (c30 : PySem.W.codeIn K cd30 "_block" = true) (k30 : PySem.W.keepIn K (.ref f30) = true)
    (a31 : PySem.W.nsIn K mainGlobals "_off_grid" = some (some (.ref f31))) (l31 : K.lookup f31 = some ⟨oc31, od31, .func (PySem.W.fnOf "_off_grid" "_off_grid" (defArgs sOffGrid) (defBody sOffGrid) (defScope sOffGrid) .none kV31 dc31 pm31 an31 cd31 ct31), sl31⟩) (c31 : PySem.W.codeIn K cd31 "_off_grid" = true) (k31 : PySem.W.keepIn K (.ref f31) = true)
    (a32 : PySem.W.nsIn K mainGlobals "read_formula" = some (some (.ref f32))) (l32 : K.lookup f32 = some ⟨oc32, od32, .func (PySem.W.fnOf "read_formula" "read_formula" (defArgs sReadFormula) (defBody sReadFormula) (defScope sReadFormula) .none kV32 dc32 pm32 an32 cd32 ct32), sl32⟩) (c32 : PySem.W.codeIn K cd32 "read_formula" = true) (k32 : PySem.W.keepIn K (.ref f32) = true)
    (a33 : PySem.W.nsIn K mainGlobals "read_content" = some (some (.ref f33))) (l33 : K.lookup f33 = some ⟨oc33, od33, .func (PySem.W.fnOf "read_content" "read_content" (defArgs sReadContent) (defBody sReadContent) (defScope sReadContent) .none kV33 dc33 pm33 an33 cd33 ct33), sl33⟩) (c33 : PySem.W.codeIn K cd33 "read_content" = true) (k33 : PySem.W.keepIn K (.ref f33) = true)
    (a34 : PySem.W.nsIn K mainGlobals "_law_cell" = some (some (.ref f34))) (l34 : K.lookup f34 = some ⟨oc34, od34, .func (PySem.W.fnOf "_law_cell" "_law_cell" (defArgs sLawCell) (defBody sLawCell) (defScope sLawCell) .none kV34 dc34 pm34 an34 cd34 ct34), sl34⟩) (c34 : PySem.W.codeIn K cd34 "_law_cell" = true) (k34 : PySem.W.keepIn K (.ref f34) = true)
    (a35 : PySem.W.nsIn K mainGlobals "_law_digits" = some (some (.ref f35))) (l35 : K.lookup f35 = some ⟨oc35, od35, .func (PySem.W.fnOf "_law_digits" "_law_digits" (defArgs sLawDigits) (defBody sLawDigits) (defScope sLawDigits) .none kV35 dc35 pm35 an35 cd35 ct35), sl35⟩) (c35 : PySem.W.codeIn K cd35 "_law_digits" = true) (k35 : PySem.W.keepIn K (.ref f35) = true)
    (a36 : PySem.W.nsIn K mainGlobals "_law_padded" = some (some (.ref f36))) (l36 : K.lookup f36 = some ⟨oc36, od36, .func (PySem.W.fnOf "_law_padded" "_law_padded" (defArgs sLawPadded) (defBody sLawPadded) (defScope sLawPadded) .none kV36 dc36 pm36 an36 cd36 ct36), sl36⟩) (c36 : PySem.W.codeIn K cd36 "_law_padded" = true) (k36 : PySem.W.keepIn K (.ref f36) = true)
    (a37 : PySem.W.nsIn K mainGlobals "_law_address" = some (some (.ref f37))) (l37 : K.lookup f37 = some ⟨oc37, od37, .func (PySem.W.fnOf "_law_address" "_law_address" (defArgs sLawAddress) (defBody sLawAddress) (defScope sLawAddress) .none kV37 dc37 pm37 an37 cd37 ct37), sl37⟩) (c37 : PySem.W.codeIn K cd37 "_law_address" = true) (k37 : PySem.W.keepIn K (.ref f37) = true)
    (a38 : PySem.W.nsIn K mainGlobals "_law_text" = some (some (.ref f38))) (l38 : K.lookup f38 = some ⟨oc38, od38, .func (PySem.W.fnOf "_law_text" "_law_text" (defArgs sLawText) (defBody sLawText) (defScope sLawText) .none kV38 dc38 pm38 an38 cd38 ct38), sl38⟩) (c38 : PySem.W.codeIn K cd38 "_law_text" = true) (k38 : PySem.W.keepIn K (.ref f38) = true)
    (a39 : PySem.W.nsIn K mainGlobals "_law_read" = some (some (.ref f39))) (l39 : K.lookup f39 = some ⟨oc39, od39, .func (PySem.W.fnOf "_law_read" "_law_read" (defArgs sLawRead) (defBody sLawRead) (defScope sLawRead) .none kV39 dc39 pm39 an39 cd39 ct39), sl39⟩) (c39 : PySem.W.codeIn K cd39 "_law_read" = true) (k39 : PySem.W.keepIn K (.ref f39) = true)
    (a40 : PySem.W.nsIn K mainGlobals "_law_frame" = some (some (.ref f40))) (l40 : K.lookup f40 = some ⟨oc40, od40, .func (PySem.W.fnOf "_law_frame" "_law_frame" (defArgs sLawFrame) (defBody sLawFrame) (defScope sLawFrame) .none kV40 dc40 pm40 an40 cd40 ct40), sl40⟩) (c40 : PySem.W.codeIn K cd40 "_law_frame" = true) (k40 : PySem.W.keepIn K (.ref f40) = true)
    (a41 : PySem.W.nsIn K mainGlobals "_law_areas" = some (some (.ref f41))) (l41 : K.lookup f41 = some ⟨oc41, od41, .func (PySem.W.fnOf "_law_areas" "_law_areas" (defArgs sLawAreas) (defBody sLawAreas) (defScope sLawAreas) .none kV41 dc41 pm41 an41 cd41 ct41), sl41⟩) (c41 : PySem.W.codeIn K cd41 "_law_areas" = true) (k41 : PySem.W.keepIn K (.ref f41) = true)
    (a42 : PySem.W.nsIn K mainGlobals "law" = some (some (.ref f42))) (l42 : K.lookup f42 = some ⟨oc42, od42, .func (PySem.W.fnOf "law" "law" (defArgs sLaw) (defBody sLaw) (defScope sLaw) .none kV42 dc42 pm42 an42 cd42 ct42), sl42⟩) (c42 : PySem.W.codeIn K cd42 "law" = true) (k42 : PySem.W.keepIn K (.ref f42) = true)
    (z_all : PySem.W.nsIn K mainGlobals "all" = some none)
    (z_tuple : PySem.W.nsIn K mainGlobals "tuple" = some none)
    (z_zip : PySem.W.nsIn K mainGlobals "zip" = some none)
    (z_enumerate : PySem.W.nsIn K mainGlobals "enumerate" = some none)
    (z_min : PySem.W.nsIn K mainGlobals "min" = some none)
    (z_max : PySem.W.nsIn K mainGlobals "max" = some none)
    (z_range : PySem.W.nsIn K mainGlobals "range" = some none)
    (z_str : PySem.W.nsIn K mainGlobals "str" = some none)
    (z_int : PySem.W.nsIn K mainGlobals "int" = some none)
    (z_len : PySem.W.nsIn K mainGlobals "len" = some none)
    (z_list : PySem.W.nsIn K mainGlobals "list" = some none)
    (x_gcd : PySem.W.nsIn K mainGlobals "gcd" = some (some (.builtin "math.gcd")))
    (x_DIGITS : PySem.W.nsIn K mainGlobals "DIGITS" = some (some (.str "0123456789" t_DIGITS)))
    (x_MOST_BEFORE_POINT : PySem.W.nsIn K mainGlobals "MOST_BEFORE_POINT" = some (some (.int 12 t_MOST_BEFORE_POINT)))
    (x_MOST_BEHIND_POINT : PySem.W.nsIn K mainGlobals "MOST_BEHIND_POINT" = some (some (.int 6 t_MOST_BEHIND_POINT)))
    (x_PARTS : PySem.W.nsIn K mainGlobals "PARTS" = some (some (.int 1000000 t_PARTS)))
    (x_CAPITALS : PySem.W.nsIn K mainGlobals "CAPITALS" = some (some (.str "ABCDEFGHIJKLMNOPQRSTUVWXYZ" t_CAPITALS)))
    (x_SMALL : PySem.W.nsIn K mainGlobals "SMALL" = some (some (.str "abcdefghijklmnopqrstuvwxyz" t_SMALL)))
    (x_SIGNS : PySem.W.nsIn K mainGlobals "SIGNS" = some (some (.str "+-*/(),:" t_SIGNS)))
    (x_LONGEST_WORD : PySem.W.nsIn K mainGlobals "LONGEST_WORD" = some (some (.int 8 t_LONGEST_WORD)))
    (x_GONE : PySem.W.nsIn K mainGlobals "GONE" = some (some (.str "gone" t_GONE)))
    (x_SHORTEST_NAME : PySem.W.nsIn K mainGlobals "SHORTEST_NAME" = some (some (.int 2 t_SHORTEST_NAME)))
    (x_MOST_TOKENS : PySem.W.nsIn K mainGlobals "MOST_TOKENS" = some (some (.int 30 t_MOST_TOKENS)))
    (x_MOST_BRACKETS : PySem.W.nsIn K mainGlobals "MOST_BRACKETS" = some (some (.int 6 t_MOST_BRACKETS)))
    (x_STEPS : PySem.W.nsIn K mainGlobals "STEPS" = some (some (.ref aST)))
    {ap_CALLS : Addr} {n_CALLS : Nat} {sl_CALLS : Array (Option Value)} {t_CALLS_0 t_CALLS_1 t_CALLS_2 t_CALLS_3 : Nat} (x_CALLS : PySem.W.nsIn K mainGlobals "CALLS" = some (some (.ref ap_CALLS))) (y_CALLS : K.lookup ap_CALLS = some ⟨.type "tuple", none, .seq ⟨[.str "sum" t_CALLS_0, .str "count" t_CALLS_1, .str "min" t_CALLS_2, .str "max" t_CALLS_3]⟩ n_CALLS, sl_CALLS⟩)
    {ap_SUMS : Addr} {n_SUMS : Nat} {sl_SUMS : Array (Option Value)} {t_SUMS_0 t_SUMS_1 : Nat} (x_SUMS : PySem.W.nsIn K mainGlobals "SUMS" = some (some (.ref ap_SUMS))) (y_SUMS : K.lookup ap_SUMS = some ⟨.type "tuple", none, .seq ⟨[.str "+" t_SUMS_0, .str "-" t_SUMS_1]⟩ n_SUMS, sl_SUMS⟩)
    {ap_PRODUCTS : Addr} {n_PRODUCTS : Nat} {sl_PRODUCTS : Array (Option Value)} {t_PRODUCTS_0 t_PRODUCTS_1 : Nat} (x_PRODUCTS : PySem.W.nsIn K mainGlobals "PRODUCTS" = some (some (.ref ap_PRODUCTS))) (y_PRODUCTS : K.lookup ap_PRODUCTS = some ⟨.type "tuple", none, .seq ⟨[.str "*" t_PRODUCTS_0, .str "/" t_PRODUCTS_1]⟩ n_PRODUCTS, sl_PRODUCTS⟩)
    {ap_GONE_PART : Addr} {n_GONE_PART : Nat} {sl_GONE_PART : Array (Option Value)} {t_GONE_PART_0 : Nat} (x_GONE_PART : PySem.W.nsIn K mainGlobals "GONE_PART" = some (some (.ref ap_GONE_PART))) (y_GONE_PART : K.lookup ap_GONE_PART = some ⟨.type "tuple", none, .seq ⟨[.str "gone" t_GONE_PART_0]⟩ n_GONE_PART, sl_GONE_PART⟩)
    {cTableError : Addr} (yaTableError : PySem.W.nsIn K mainGlobals "TableError" = some (some (.ref cTableError))) (ytTableError : PySem.W.typeIn K (.ref cTableError) = some (.type "type")) (yhTableError : PySem.W.hasDictIn K cTableError = true) (yeTableError : PySem.W.subIn K (.ref cTableError) (.type "BaseException") = some true)
    {cFormulaFault : Addr} (yaFormulaFault : PySem.W.nsIn K mainGlobals "FormulaFault" = some (some (.ref cFormulaFault))) (ytFormulaFault : PySem.W.typeIn K (.ref cFormulaFault) = some (.type "type")) (yhFormulaFault : PySem.W.hasDictIn K cFormulaFault = true) (yeFormulaFault : PySem.W.subIn K (.ref cFormulaFault) (.type "BaseException") = some true)
    {nm_FormulaFault qn_FormulaFault : Str} {N_FormulaFault : Addr} {bs_FormulaFault : List Value} {sn_FormulaFault : List Str} {sb_FormulaFault : List Value} {ab_FormulaFault : Bool} {co_FormulaFault : Option Bool} {dd_FormulaFault : Option Addr} {m0_FormulaFault m1_FormulaFault m2_FormulaFault m3_FormulaFault m5_FormulaFault : Option Value}
    (ycFormulaFault : K.lookup cFormulaFault = some (excClassObj nm_FormulaFault qn_FormulaFault cFormulaFault N_FormulaFault bs_FormulaFault [.ref cTableError, .type "ValueError", .type "Exception", .type "BaseException", .type "object"] true sn_FormulaFault sb_FormulaFault ab_FormulaFault co_FormulaFault dd_FormulaFault m0_FormulaFault m1_FormulaFault m2_FormulaFault m3_FormulaFault m5_FormulaFault "ValueError.__new__"))
    (y1FormulaFault : PySem.W.findIn K (.ref cFormulaFault) "__setattr__" = some (some (.builtin "object.__setattr__"))) (y2FormulaFault : PySem.W.findIn K (.ref cFormulaFault) "__getattribute__" = some (some (.builtin "BaseException.__getattribute__"))) (y3FormulaFault : PySem.W.findIn K (.ref cFormulaFault) "__getattr__" = some none)
    (y4FormulaFault : PySem.W.findIn K (.ref cFormulaFault) "__class__" = some (some (.builtin "object.__class__"))) (y5FormulaFault : PySem.W.specialIn K (.builtin "object.__class__") "__get__" = some (some (.builtin "getset_descriptor.__get__"))) (y6FormulaFault : PySem.W.takesIn K (.builtin "object.__class__") = some true) (y7FormulaFault : PySem.W.mroIn K cFormulaFault (.type "object") = some true) (y8FormulaFault : PySem.W.isClsIn K cFormulaFault = true) (y9FormulaFault : PySem.W.keepIn K (.ref cFormulaFault) = true)
    {fFormulaFault_Init : Addr} (yiFormulaFault : PySem.W.findIn K (.ref cFormulaFault) "__init__" = some (some (.ref fFormulaFault_Init))) (yjFormulaFault : PySem.W.typeIn K (.ref fFormulaFault_Init) = some (.type "function"))
    {oc_FormulaFault kV_FormulaFault dc_FormulaFault pm_FormulaFault cd_FormulaFault ct_FormulaFault : Value} {od_FormulaFault an_FormulaFault : Option Addr} {sl_FormulaFault : Array (Option Value)}
    (ylFormulaFault : K.lookup fFormulaFault_Init = some ⟨oc_FormulaFault, od_FormulaFault, .func (PySem.W.fnOf "__init__" "FormulaFault.__init__" (defArgs sFormulaFault_Init) (defBody sFormulaFault_Init) (defScope sFormulaFault_Init) .none kV_FormulaFault dc_FormulaFault pm_FormulaFault an_FormulaFault cd_FormulaFault ct_FormulaFault), sl_FormulaFault⟩) (ydFormulaFault : PySem.W.codeIn K cd_FormulaFault "FormulaFault.__init__" = true) (ykFormulaFault : PySem.W.keepIn K (.ref fFormulaFault_Init) = true)
    (ynFormulaFault_place : PySem.W.findIn K (.ref cFormulaFault) "place" = some none)
    (ynFormulaFault_word : PySem.W.findIn K (.ref cFormulaFault) "word" = some none)
    (ysFormulaFault_TableError : PySem.W.subIn K (.ref cFormulaFault) (.ref cTableError) = some true)
    (ysFormulaFault_FormulaFault : PySem.W.subIn K (.ref cFormulaFault) (.ref cFormulaFault) = some true)
    (tn1 : K.lookup tP1 = none) (th1 : PySem.W.codeHdIn K cT1 tP1 = true) (tt1 : h.get? tP1 = some { cls := .none, data := .fields #[] }) (tn2 : K.lookup tP2 = none) (th2 : PySem.W.codeHdIn K cT2 tP2 = true) (tt2 : h.get? tP2 = some { cls := .none, data := .fields #[] }) (tne : tP1 ≠ tP2) : LamX.LawAtS l w K CX0 120 63 "script" mg fa h := by
  have e := hfa.symm.trans (PySem.W.mg_of X G a42)
  cases e
  have F1 := fun_mk (st := sFraction) l1 c1 k1
  have b1 := F1.binds (ps := ["n", "d"]) fun _ _ _ _ _ _ us hl => match us, hl with | [_, _], _ => rfl
  have F2 := fun_mk (st := sIsDigits) l2 c2 k2
  have b2 := F2.binds (ps := ["text"]) fun _ _ _ _ _ _ us hl => match us, hl with | [_], _ => rfl
  have F3 := fun_mk (st := sReadDecimal) l3 c3 k3
  have b3 := F3.binds (ps := ["text"]) fun _ _ _ _ _ _ us hl => match us, hl with | [_], _ => rfl
  have F4 := fun_mk (st := sReadNumber) l4 c4 k4
  have b4 := F4.binds (ps := ["text"]) fun _ _ _ _ _ _ us hl => match us, hl with | [_], _ => rfl
  have F5 := fun_mk (st := sRunEnd) l5 c5 k5
  have b5 := F5.binds (ps := ["text", "at", "characters"]) fun _ _ _ _ _ _ us hl => match us, hl with | [_, _, _], _ => rfl
  have F6 := fun_mk (st := sReadAddress) l6 c6 k6
  have b6 := F6.binds (ps := ["text"]) fun _ _ _ _ _ _ us hl => match us, hl with | [_], _ => rfl
  have F7 := fun_mk (st := sTokenEnd) l7 c7 k7
  have b7 := F7.binds (ps := ["text", "at"]) fun _ _ _ _ _ _ us hl => match us, hl with | [_, _], _ => rfl
  have F8 := fun_mk (st := sKind) l8 c8 k8
  have b8 := F8.binds (ps := ["token"]) fun _ _ _ _ _ _ us hl => match us, hl with | [_], _ => rfl
  have F9 := fun_mk (st := sTokenList) l9 c9 k9
  have b9 := F9.binds (ps := ["text"]) fun _ _ _ _ _ _ us hl => match us, hl with | [_], _ => rfl
  have F10 := fun_mk (st := sIsNameWord) l10 c10 k10
  have b10 := F10.binds (ps := ["text"]) fun _ _ _ _ _ _ us hl => match us, hl with | [_], _ => rfl
  have F11 := fun_mk (st := sSize) l11 c11 k11
  have b11 := F11.binds (ps := ["tree"]) fun _ _ _ _ _ _ us hl => match us, hl with | [_], _ => rfl
  have F12 := fun_mk (st := sNamedCells) l12 c12 k12
  have b12 := F12.binds (ps := ["tree"]) fun _ _ _ _ _ _ us hl => match us, hl with | [_], _ => rfl
  have F13 := fun_mk (st := sAreasOf) l13 c13 k13
  have b13 := F13.binds (ps := ["tree"]) fun _ _ _ _ _ _ us hl => match us, hl with | [_], _ => rfl
  have F14 := fun_mk (st := sMappedAreas) l14 c14 k14
  have b14 := F14.binds (ps := ["areas", "area"]) fun _ _ _ _ _ _ us hl => match us, hl with | [_, _], _ => rfl
  have F15 := fun_mk (st := sMapped) l15 c15 k15
  have b15 := F15.binds (ps := ["tree", "cell", "area"]) fun _ _ _ _ _ _ us hl => match us, hl with | [_, _, _], _ => rfl
  have F16 := fun_mk (st := sWithTree) l16 c16 k16
  have b16 := F16.binds (ps := ["content", "changed"]) fun _ _ _ _ _ _ us hl => match us, hl with | [_, _], _ => rfl
  have F17 := fun_mk (st := sMovedCorners) l17 c17 k17
  have b17 := F17.binds (ps := ["part", "down", "right", "rows", "columns"]) fun _ _ _ _ _ _ us hl => match us, hl with | [_, _, _, _, _], _ => rfl
  have F18 := fun_mk (st := sMovedTree) l18 c18 k18
  have b18 := F18.binds (ps := ["tree", "down", "right", "rows", "columns"]) fun _ _ _ _ _ _ us hl => match us, hl with | [_, _, _, _, _], _ => rfl
  have F19 := fun_mk (st := sMovedContent) l19 c19 k19
  have b19 := F19.binds (ps := ["content", "down", "right", "rows", "columns"]) fun _ _ _ _ _ _ us hl => match us, hl with | [_, _, _, _, _], _ => rfl
  have F20 := fun_mk (st := sSymbol) l20 c20 k20
  have b20 := F20.binds (ps := ["token"]) fun _ _ _ _ _ _ us hl => match us, hl with | [_], _ => rfl
  have F21 := fun_mk (st := sDepthBehind) l21 c21 k21
  have b21 := F21.binds (ps := ["state", "symbol", "depth"]) fun _ _ _ _ _ _ us hl => match us, hl with | [_, _, _], _ => rfl
  have F22 := fun_mk (st := sWalk) l22 c22 k22
  have b22 := F22.binds (ps := ["tokens"]) fun _ _ _ _ _ _ us hl => match us, hl with | [_], _ => rfl
  have F23 := fun_mk (st := sChain) l23 c23 k23
  have b23 := F23.binds (ps := ["tokens", "at", "signs", "part"]) fun _ _ _ _ _ _ us hl => match us, hl with | [_, _, _, _], _ => rfl
  have F24 := fun_mk (st := sFormula) l24 c24 k24
  have b24 := F24.binds (ps := ["tokens", "at"]) fun _ _ _ _ _ _ us hl => match us, hl with | [_, _], _ => rfl
  have F25 := fun_mk (st := sTerm) l25 c25 k25
  have b25 := F25.binds (ps := ["tokens", "at"]) fun _ _ _ _ _ _ us hl => match us, hl with | [_, _], _ => rfl
  have F26 := fun_mk (st := sFactor) l26 c26 k26
  have b26 := F26.binds (ps := ["tokens", "at"]) fun _ _ _ _ _ _ us hl => match us, hl with | [_, _], _ => rfl
  have F27 := fun_mk (st := sPrimary) l27 c27 k27
  have b27 := F27.binds (ps := ["tokens", "at"]) fun _ _ _ _ _ _ us hl => match us, hl with | [_, _], _ => rfl
  have F28 := fun_mk (st := sCall) l28 c28 k28
  have b28 := F28.binds (ps := ["tokens", "at"]) fun _ _ _ _ _ _ us hl => match us, hl with | [_, _], _ => rfl
  have F29 := fun_mk (st := sArea) l29 c29 k29
  have b29 := F29.binds (ps := ["tokens", "at"]) fun _ _ _ _ _ _ us hl => match us, hl with | [_, _], _ => rfl
  have F30 := fun_mk (st := sBlock) l30 c30 k30
  have b30 := F30.binds (ps := ["corner", "other"]) fun _ _ _ _ _ _ us hl => match us, hl with | [_, _], _ => rfl
  have F31 := fun_mk (st := sOffGrid) l31 c31 k31
  have b31 := F31.binds (ps := ["token", "rows", "columns"]) fun _ _ _ _ _ _ us hl => match us, hl with | [_, _, _], _ => rfl
  have F32 := fun_mk (st := sReadFormula) l32 c32 k32
  have b32 := F32.binds (ps := ["text", "rows", "columns"]) fun _ _ _ _ _ _ us hl => match us, hl with | [_, _, _], _ => rfl
  have F33 := fun_mk (st := sReadContent) l33 c33 k33
  have b33 := F33.binds (ps := ["text", "rows", "columns"]) fun _ _ _ _ _ _ us hl => match us, hl with | [_, _, _], _ => rfl
  have F34 := fun_mk (st := sLawCell) l34 c34 k34
  have b34 := F34.binds (ps := ["script", "k"]) fun _ _ _ _ _ _ us hl => match us, hl with | [_, _], _ => rfl
  have F35 := fun_mk (st := sLawDigits) l35 c35 k35
  have b35 := F35.binds (ps := ["cell", "k", "most"]) fun _ _ _ _ _ _ us hl => match us, hl with | [_, _, _], _ => rfl
  have F36 := fun_mk (st := sLawPadded) l36 c36 k36
  have b36 := F36.binds (ps := ["cell", "k"]) fun _ _ _ _ _ _ us hl => match us, hl with | [_, _], _ => rfl
  have F37 := fun_mk (st := sLawAddress) l37 c37 k37
  have b37 := F37.binds (ps := ["digit"]) fun _ _ _ _ _ _ us hl => match us, hl with | [_], _ => rfl
  have F38 := fun_mk (st := sLawText) l38 c38 k38
  have b38 := F38.binds (ps := ["d"]) fun _ _ _ _ _ _ us hl => match us, hl with | [_], _ => rfl
  have F39 := fun_mk (st := sLawRead) l39 c39 k39
  have b39 := F39.binds (ps := ["d", "rows", "columns"]) fun _ _ _ _ _ _ us hl => match us, hl with | [_, _, _], _ => rfl
  have F40 := fun_mk (st := sLawFrame) l40 c40 k40
  have b40 := F40.binds (ps := ["tree"]) fun _ _ _ _ _ _ us hl => match us, hl with | [_], _ => rfl
  have F41 := fun_mk (st := sLawAreas) l41 c41 k41
  have b41 := F41.binds (ps := ["tree", "down", "right", "rows", "columns"]) fun _ _ _ _ _ _ us hl => match us, hl with | [_, _, _, _, _], _ => rfl
  have F42 := fun_mk (st := sLaw) l42 c42 k42
  have b42 := F42.binds (ps := ["script"]) fun _ _ _ _ _ _ us hl => match us, hl with | [_], _ => rfl
  have FFormulaFault_Init := fun_mk (st := sFormulaFault_Init) ylFormulaFault ydFormulaFault ykFormulaFault
  have bFormulaFault_Init := FFormulaFault_Init.binds (ps := ["self", "place", "word"]) fun _ _ _ _ _ _ us hl => match us, hl with | [_, _, _], _ => rfl
  refine ⟨PySem.W.fnOf "law" "law" (defArgs sLaw) (defBody sLaw) (defScope sLaw) .none kV42 dc42 pm42 an42 cd42 ct42, [(cT1, tP1), (cT2, tP2)], spLaw K [(tP1, nmMT), (tP2, nmMC)], ?_, ?_, ?_, fun s v => .of_eq rfl, ?_, ?_⟩
  · intro p hp
    rcases List.mem_cons.mp hp with rfl | hp
    · exact tt1
    · obtain rfl := List.mem_singleton.mp hp
      exact tt2
  · intro p hp
    rcases List.mem_cons.mp hp with rfl | hp
    · exact tn1
    · obtain rfl := List.mem_singleton.mp hp
      exact tn2
  · intro p hp
    rcases List.mem_cons.mp hp with rfl | hp
    · exact PySem.W.codeHd_of_K X th1
    · obtain rfl := List.mem_singleton.mp hp
      exact PySem.W.codeHd_of_K X th2
  · intro H a ns hl hb hT hS
    refine ⟨a, ns, rfl, hS, hl, fun p hp => ?_, fun _ => rfl⟩
    rcases List.mem_cons.mp hp with rfl | hp
    · exact NdefX.TabN.nil (hT (cT1, tP1) (List.mem_cons_self ..))
    · obtain rfl := List.mem_singleton.mp hp
      exact NdefX.TabN.nil (hT (cT2, tP2) (List.mem_cons_of_mem _ (List.mem_cons_self ..)))
  · intro base KB GB TB
    refine okLaw (P := l.prog) (w := w) (base := base) (⟨hS, f1, _, F1, b1, PySem.W.mg_of X G a1, f2, _, F2, b2, PySem.W.mg_of X G a2, f3, _, F3, b3, PySem.W.mg_of X G a3, f4, _, F4, b4, PySem.W.mg_of X G a4, f5, _, F5, b5, PySem.W.mg_of X G a5, f6, _, F6, b6, PySem.W.mg_of X G a6, f7, _, F7, b7, PySem.W.mg_of X G a7, f8, _, F8, b8, PySem.W.mg_of X G a8, f9, _, F9, b9, PySem.W.mg_of X G a9, f10, _, F10, b10, PySem.W.mg_of X G a10, f11, _, F11, b11, PySem.W.mg_of X G a11, f12, _, F12, b12, PySem.W.mg_of X G a12, f13, _, F13, b13, PySem.W.mg_of X G a13, f14, _, F14, b14, PySem.W.mg_of X G a14, f15, _, F15, b15, PySem.W.mg_of X G a15, f16, _, F16, b16, PySem.W.mg_of X G a16, f17, _, F17, b17, PySem.W.mg_of X G a17, f18, _, F18, b18, PySem.W.mg_of X G a18, f19, _, F19, b19, PySem.W.mg_of X G a19, f20, _, F20, b20, PySem.W.mg_of X G a20, f21, _, F21, b21, PySem.W.mg_of X G a21, f22, _, F22, b22, PySem.W.mg_of X G a22, f23, _, F23, b23, PySem.W.mg_of X G a23, f24, _, F24, b24, PySem.W.mg_of X G a24, f25, _, F25, b25, PySem.W.mg_of X G a25, f26, _, F26, b26, PySem.W.mg_of X G a26, f27, _, F27, b27, PySem.W.mg_of X G a27, f28, _, F28, b28, PySem.W.mg_of X G a28, f29, _, F29, b29, PySem.W.mg_of X G a29, f30, _, F30, b30, PySem.W.mg_of X G a30, f31, _, F31, b31, PySem.W.mg_of X G a31, f32, _, F32, b32, PySem.W.mg_of X G a32, f33, _, F33, b33, PySem.W.mg_of X G a33, f34, _, F34, b34, PySem.W.mg_of X G a34, f35, _, F35, b35, PySem.W.mg_of X G a35, f36, _, F36, b36, PySem.W.mg_of X G a36, f37, _, F37, b37, PySem.W.mg_of X G a37, f38, _, F38, b38, PySem.W.mg_of X G a38, f39, _, F39, b39, PySem.W.mg_of X G a39, f40, _, F40, b40, PySem.W.mg_of X G a40, f41, _, F41, b41, PySem.W.mg_of X G a41, fa, _, F42, b42, PySem.W.mg_of X G a42, PySem.W.mg_none_of X G z_all, PySem.W.mg_none_of X G z_tuple, PySem.W.mg_none_of X G z_zip, PySem.W.mg_none_of X G z_enumerate, PySem.W.mg_none_of X G z_min, PySem.W.mg_none_of X G z_max, PySem.W.mg_none_of X G z_range, PySem.W.mg_none_of X G z_str, PySem.W.mg_none_of X G z_int, PySem.W.mg_none_of X G z_len, PySem.W.mg_none_of X G z_list, PySem.W.mg_of X G x_gcd, t_DIGITS, PySem.W.mg_of X G x_DIGITS, t_MOST_BEFORE_POINT, PySem.W.mg_of X G x_MOST_BEFORE_POINT, t_MOST_BEHIND_POINT, PySem.W.mg_of X G x_MOST_BEHIND_POINT, t_PARTS, PySem.W.mg_of X G x_PARTS, t_CAPITALS, PySem.W.mg_of X G x_CAPITALS, t_SMALL, PySem.W.mg_of X G x_SMALL, t_SIGNS, PySem.W.mg_of X G x_SIGNS, t_LONGEST_WORD, PySem.W.mg_of X G x_LONGEST_WORD, t_GONE, PySem.W.mg_of X G x_GONE, t_SHORTEST_NAME, PySem.W.mg_of X G x_SHORTEST_NAME, t_MOST_TOKENS, PySem.W.mg_of X G x_MOST_TOKENS, t_MOST_BRACKETS, PySem.W.mg_of X G x_MOST_BRACKETS, PySem.W.mg_of X G x_STEPS, ap_CALLS, PySem.W.mg_of X G x_CALLS, fun H => .inr ⟨_, _, _, y_CALLS, rfl, rfl, (by show 4 ≤ sizeLine; decide), (.cons ⟨_, rfl⟩ (.cons ⟨_, rfl⟩ (.cons ⟨_, rfl⟩ (.cons ⟨_, rfl⟩ .nil))))⟩, ⟨_, y_CALLS, rfl, rfl⟩, ap_SUMS, PySem.W.mg_of X G x_SUMS, fun H => .inr ⟨_, _, _, y_SUMS, rfl, rfl, (by show 2 ≤ sizeLine; decide), (.cons ⟨_, rfl⟩ (.cons ⟨_, rfl⟩ .nil))⟩, ⟨_, y_SUMS, rfl, rfl⟩, ap_PRODUCTS, PySem.W.mg_of X G x_PRODUCTS, fun H => .inr ⟨_, _, _, y_PRODUCTS, rfl, rfl, (by show 2 ≤ sizeLine; decide), (.cons ⟨_, rfl⟩ (.cons ⟨_, rfl⟩ .nil))⟩, ⟨_, y_PRODUCTS, rfl, rfl⟩, ap_GONE_PART, PySem.W.mg_of X G x_GONE_PART, fun H => .inr ⟨_, _, _, y_GONE_PART, rfl, rfl, (by show 1 ≤ sizeLine; decide), (.cons ⟨_, rfl⟩ .nil)⟩, ⟨_, y_GONE_PART, rfl, rfl⟩, cTableError, PySem.W.mg_of X G yaTableError, cFormulaFault, PySem.W.mg_of X G yaFormulaFault, ⟨⟨_, _, _, _, _, _, _, _, _, _, _, _, _, _, _, ycFormulaFault, by first | rfl | decide +kernel⟩, y1FormulaFault, yeFormulaFault, ytFormulaFault, y9FormulaFault⟩, ⟨y2FormulaFault, y3FormulaFault, yeFormulaFault, yhFormulaFault⟩, ⟨y8FormulaFault, ⟨y2FormulaFault, y3FormulaFault, yeFormulaFault, yhFormulaFault⟩, y4FormulaFault, y5FormulaFault, y6FormulaFault, y7FormulaFault⟩, fFormulaFault_Init, _, FFormulaFault_Init, bFormulaFault_Init, yiFormulaFault, yjFormulaFault, ynFormulaFault_place, ynFormulaFault_word, PySem.W.exm_ref yeTableError yhTableError ytTableError ysFormulaFault_TableError, PySem.W.exm_ref yeFormulaFault yhFormulaFault ytFormulaFault ysFormulaFault_FormulaFault, kit_self⟩ : Txt l.prog w K mg) (fun _ => .inr ⟨_, _, _, y_GONE_PART, rfl, rfl, (by show 1 ≤ sizeLine; decide), .cons ⟨_, rfl⟩ .nil⟩) ⟨⟨_, _, l18, rfl, rfl⟩, tn1, TB (cT1, tP1) (List.mem_cons_self ..)⟩ ⟨⟨_, _, l19, rfl, rfl⟩, tn2, TB (cT2, tP2) (List.mem_cons_of_mem _ (List.mem_cons_self ..))⟩
      (List.mem_cons_self ..) (fun p hp e => ?_) (List.mem_cons_of_mem _ (List.mem_cons_self ..)) (fun p hp e => ?_)
    · rcases List.mem_cons.mp hp with rfl | hp
      · rfl
      · obtain rfl := List.mem_singleton.mp hp
        exact absurd e.symm tne
    · rcases List.mem_cons.mp hp with rfl | hp
      · exact absurd e tne
      · obtain rfl := List.mem_singleton.mp hp
        rfl
theorem walk {l : PySem.W.OpenLaw} {q : Program} {loose : List Str} {XP : (Str → Option Value) → Heap → Prop} {YP : World → Heap → Prop} {d : DefRec} {K : Params → PySem.W.Frag} (hn : l.most = some 63) (hdf : d.params.defaults = [])
    (hY : ∀ (w : World) (h : Heap), YP w h → (K w.params).In h)
    (F : ∀ (w : World) (mg : Str → Option Value) (fa : Addr) (h : Heap), YP w h → (K w.params).In h → h.Ns mainGlobals mg → mg d.name = some (.ref fa) → LamX.LawAtS l w (K w.params) CX0 120 63 "script" mg fa h) :
    PySem.W.WalkO q loose XP YP l.row.toRowW d [] (fun f vs => PySem.call f vs) :=
  LamX.walk_ofTs (n := 63) (k := 120) (x := "script") (CX := fun _ => CX0) hn (by decide) hdf ⟨rfl, by decide, by decide⟩ hY F (fun _ _ _ _ _ z => z)
theorem lk_filter {p : Addr → Bool} {a : Addr} {o : Obj} : ∀ l : PySem.W.Frag, (l.filter fun x => p x.1).lookup a = some o → l.lookup a = some o
  | [], h => h
  | (b, ob) :: l, h => by
    rw [List.lookup_cons]
    by_cases c : p b = true
    · rw [List.filter_cons_of_pos (by exact c), List.lookup_cons] at h
      cases e : a == b with
      | true =>
        rw [e] at h
        exact h
      | false =>
        rw [e] at h
        exact lk_filter l h
    · rw [List.filter_cons_of_neg (by exact c)] at h
      cases e : a == b with
      | true =>
        exfalso
        have e2 : a = b := beq_iff_eq.mp e
        subst e2
        have none_ : ∀ l : PySem.W.Frag, (l.filter fun x => p x.1).lookup a = none := by
          intro l
          induction l with
          | nil => rfl
          | cons z l ih =>
            obtain ⟨b2, o2⟩ := z
            by_cases c2 : p b2 = true
            · rw [List.filter_cons_of_pos (by exact c2), List.lookup_cons]
              have ne : (a == b2) = false := beq_eq_false_iff_ne.mpr fun z => by
                rw [z] at c
                exact c c2
              rw [ne]
              exact ih
            · rw [List.filter_cons_of_neg (by exact c2)]
              exact ih
        rw [none_ l] at h
        cases h
      | false => exact lk_filter l h
theorem kl_eq (P : Params) : Hd.KL P = (Hd.KK P).filter fun x => (fun a : Addr => !(a == 195 || a == 202)) x.1 := by kernel_rfl
theorem stDictL (w : World) (h : Heap) (X : (Hd.KL w.params).In h) : h.DictOfH (HS.kn Hd.pp w) 208 Hd.STX := HS.dict_of (n := Hd.ee.length) (by kernel_rfl) (by kernel_rfl) (by decide +kernel) h X
/-- what the head leaves, under a name of its own (k_fill is to see the part without tables) -/
def YPk : World → Heap → Prop := PySem.W.InK Hd.KK
end My
open PySem PySem.W PyProof.Rows
set_option maxRecDepth 100000 in
set_option maxHeartbeats 0 in
theorem PySem.Challenge.cw_tablemates_k45_moved_contents_holds : PySem.Challenge.rw_tablemates_k45_moved_contents.Holds := by
  w_on; o_law
  refine HS.own_holds (q := My.Hd.qq) (loose := ["PARTS", "STEPS"]) (XP := XL My.Hd.qq []) (YP := My.YPk) (fun w => My.Hd.st w) (fun w h h' => InK.keeps (K := My.Hd.KK) w h h') XL.keeps (by rfl) (by rfl) (by rfl) (by rfl) (by assumption) (by decide +kernel) (by decide +kernel) (by decide +kernel) ⟨rfl, rfl, rfl, rfl, rfl, by decide +kernel⟩ ?hw ?hc
  (case hw => w_witness2)
  refine My.walk (l := PySem.Challenge.rw_tablemates_k45_moved_contents) rfl rfl (K := My.Hd.KL) (fun w h Y b o e => Y b o (My.lk_filter (p := fun a => !(a == 195 || a == 202)) _ (by rw [← My.kl_eq]; exact e))) ?F
  case F =>
    k_fill
    intro w mg fa h Y KX G hmg
    have hS : My.StepsC My.Hd.pp w (My.Hd.KL w.params) := ⟨⟨My.Hd.STX.map My.cvK, fun h X => My.mix_of (My.stDictL w h X), My.tabIs_of (by kernel_rfl)⟩⟩
    refine' My.all_mk (tP1 := 195) (tP2 := 202) KX G hmg hS ?a1 ?l1 ?c1 ?k1 ?a2 ?l2 ?c2 ?k2 ?a3 ?l3 ?c3 ?k3 ?a4 ?l4 ?c4 ?k4 ?a5 ?l5 ?c5 ?k5 ?a6 ?l6 ?c6 ?k6 ?a7 ?l7 ?c7 ?k7 ?a8 ?l8 ?c8 ?k8 ?a9 ?l9 ?c9 ?k9 ?a10 ?l10 ?c10 ?k10 ?a11 ?l11 ?c11 ?k11 ?a12 ?l12 ?c12 ?k12 ?a13 ?l13 ?c13 ?k13 ?a14 ?l14 ?c14 ?k14 ?a15 ?l15 ?c15 ?k15 ?a16 ?l16 ?c16 ?k16 ?a17 ?l17 ?c17 ?k17 ?a18 ?l18 ?c18 ?k18 ?a19 ?l19 ?c19 ?k19 ?a20 ?l20 ?c20 ?k20 ?a21 ?l21 ?c21 ?k21 ?a22 ?l22 ?c22 ?k22 ?a23 ?l23 ?c23 ?k23 ?a24 ?l24 ?c24 ?k24 ?a25 ?l25 ?c25 ?k25 ?a26 ?l26 ?c26 ?k26 ?a27 ?l27 ?c27 ?k27 ?a28 ?l28 ?c28 ?k28 ?a29 ?l29 ?c29 ?k29 ?a30 ?l30 ?c30 ?k30 ?a31 ?l31 ?c31 ?k31 ?a32 ?l32 ?c32 ?k32 ?a33 ?l33 ?c33 ?k33 ?a34 ?l34 ?c34 ?k34 ?a35 ?l35 ?c35 ?k35 ?a36 ?l36 ?c36 ?k36 ?a37 ?l37 ?c37 ?k37 ?a38 ?l38 ?c38 ?k38 ?a39 ?l39 ?c39 ?k39 ?a40 ?l40 ?c40 ?k40 ?a41 ?l41 ?c41 ?k41 ?a42 ?l42 ?c42 ?k42 ?z_all ?z_tuple ?z_zip ?z_enumerate ?z_min ?z_max ?z_range ?z_str ?z_int ?z_len ?z_list ?x_gcd ?x_DIGITS ?x_MOST_BEFORE_POINT ?x_MOST_BEHIND_POINT ?x_PARTS ?x_CAPITALS ?x_SMALL ?x_SIGNS ?x_LONGEST_WORD ?x_GONE ?x_SHORTEST_NAME ?x_MOST_TOKENS ?x_MOST_BRACKETS ?x_STEPS ?x_CALLS ?y_CALLS ?x_SUMS ?y_SUMS ?x_PRODUCTS ?y_PRODUCTS ?x_GONE_PART ?y_GONE_PART ?yaTableError ?ytTableError ?yhTableError ?yeTableError ?yaFormulaFault ?ytFormulaFault ?yhFormulaFault ?yeFormulaFault ?ycFormulaFault ?y1FormulaFault ?y2FormulaFault ?y3FormulaFault ?y4FormulaFault ?y5FormulaFault ?y6FormulaFault ?y7FormulaFault ?y8FormulaFault ?y9FormulaFault ?yiFormulaFault ?yjFormulaFault ?ylFormulaFault ?ydFormulaFault ?ykFormulaFault ?ynFormulaFault_place ?ynFormulaFault_word ?ysFormulaFault_TableError ?ysFormulaFault_FormulaFault ?tn1 ?th1 ?tt1 ?tn2 ?th2 ?tt2 ?tne
    (case a1 => k_is); (case l1 => k_is); (case c1 => k_is); (case k1 => k_is); (case a2 => k_is); (case l2 => k_is); (case c2 => k_is); (case k2 => k_is); (case a3 => k_is); (case l3 => k_is); (case c3 => k_is); (case k3 => k_is); (case a4 => k_is); (case l4 => k_is); (case c4 => k_is); (case k4 => k_is); (case a5 => k_is); (case l5 => k_is); (case c5 => k_is); (case k5 => k_is); (case a6 => k_is); (case l6 => k_is); (case c6 => k_is); (case k6 => k_is); (case a7 => k_is); (case l7 => k_is); (case c7 => k_is); (case k7 => k_is); (case a8 => k_is); (case l8 => k_is); (case c8 => k_is); (case k8 => k_is); (case a9 => k_is); (case l9 => k_is); (case c9 => k_is); (case k9 => k_is); (case a10 => k_is); (case l10 => k_is); (case c10 => k_is); (case k10 => k_is); (case a11 => k_is); (case l11 => k_is); (case c11 => k_is); (case k11 => k_is); (case a12 => k_is); (case l12 => k_is); (case c12 => k_is); (case k12 => k_is); (case a13 => k_is); (case l13 => k_is); (case c13 => k_is); (case k13 => k_is); (case a14 => k_is); (case l14 => k_is); (case c14 => k_is); (case k14 => k_is); (case a15 => k_is); (case l15 => k_is); (case c15 => k_is); (case k15 => k_is); (case a16 => k_is); (case l16 => k_is); (case c16 => k_is); (case k16 => k_is); (case a17 => k_is); (case l17 => k_is); (case c17 => k_is); (case k17 => k_is); (case a18 => k_is); (case l18 => k_is); (case c18 => k_is); (case k18 => k_is); (case a19 => k_is); (case l19 => k_is); (case c19 => k_is); (case k19 => k_is); (case a20 => k_is); (case l20 => k_is); (case c20 => k_is); (case k20 => k_is); (case a21 => k_is); (case l21 => k_is); (case c21 => k_is); (case k21 => k_is); (case a22 => k_is); (case l22 => k_is); (case c22 => k_is); (case k22 => k_is); (case a23 => k_is); (case l23 => k_is); (case c23 => k_is); (case k23 => k_is); (case a24 => k_is); (case l24 => k_is); (case c24 => k_is); (case k24 => k_is); (case a25 => k_is); (case l25 => k_is); (case c25 => k_is); (case k25 => k_is); (case a26 => k_is); (case l26 => k_is); (case c26 => k_is); (case k26 => k_is); (case a27 => k_is); (case l27 => k_is); (case c27 => k_is); (case k27 => k_is); (case a28 => k_is); (case l28 => k_is); (case c28 => k_is); (case k28 => k_is); (case a29 => k_is); (case l29 => k_is); (case c29 => k_is); (case k29 => k_is); (case a30 => k_is); (case l30 => k_is); (case c30 => k_is); (case k30 => k_is); (case a31 => k_is); (case l31 => k_is); (case c31 => k_is); (case k31 => k_is); (case a32 => k_is); (case l32 => k_is); (case c32 => k_is); (case k32 => k_is); (case a33 => k_is); (case l33 => k_is); (case c33 => k_is); (case k33 => k_is); (case a34 => k_is); (case l34 => k_is); (case c34 => k_is); (case k34 => k_is); (case a35 => k_is); (case l35 => k_is); (case c35 => k_is); (case k35 => k_is); (case a36 => k_is); (case l36 => k_is); (case c36 => k_is); (case k36 => k_is); (case a37 => k_is); (case l37 => k_is); (case c37 => k_is); (case k37 => k_is); (case a38 => k_is); (case l38 => k_is); (case c38 => k_is); (case k38 => k_is); (case a39 => k_is); (case l39 => k_is); (case c39 => k_is); (case k39 => k_is); (case a40 => k_is); (case l40 => k_is); (case c40 => k_is); (case k40 => k_is); (case a41 => k_is); (case l41 => k_is); (case c41 => k_is); (case k41 => k_is); (case a42 => k_is); (case l42 => k_is); (case c42 => k_is); (case k42 => k_is); (case z_all => k_is); (case z_tuple => k_is); (case z_zip => k_is); (case z_enumerate => k_is); (case z_min => k_is); (case z_max => k_is); (case z_range => k_is); (case z_str => k_is); (case z_int => k_is); (case z_len => k_is); (case z_list => k_is); (case x_gcd => k_is); (case x_DIGITS => k_is); (case x_MOST_BEFORE_POINT => k_is); (case x_MOST_BEHIND_POINT => k_is); (case x_PARTS => k_is); (case x_CAPITALS => k_is); (case x_SMALL => k_is); (case x_SIGNS => k_is); (case x_LONGEST_WORD => k_is); (case x_GONE => k_is); (case x_SHORTEST_NAME => k_is); (case x_MOST_TOKENS => k_is); (case x_MOST_BRACKETS => k_is); (case x_STEPS => k_is); (case x_CALLS => k_is); (case y_CALLS => k_is); (case x_SUMS => k_is); (case y_SUMS => k_is); (case x_PRODUCTS => k_is); (case y_PRODUCTS => k_is); (case x_GONE_PART => k_is); (case y_GONE_PART => k_is); (case yaTableError => k_is); (case ytTableError => k_is); (case yhTableError => k_is); (case yeTableError => k_is); (case yaFormulaFault => k_is); (case ytFormulaFault => k_is); (case yhFormulaFault => k_is); (case yeFormulaFault => k_is); (case ycFormulaFault => k_is); (case y1FormulaFault => k_is); (case y2FormulaFault => k_is); (case y3FormulaFault => k_is); (case y4FormulaFault => k_is); (case y5FormulaFault => k_is); (case y6FormulaFault => k_is); (case y7FormulaFault => k_is); (case y8FormulaFault => k_is); (case y9FormulaFault => k_is); (case yiFormulaFault => k_is); (case yjFormulaFault => k_is); (case ylFormulaFault => k_is); (case ydFormulaFault => k_is); (case ykFormulaFault => k_is); (case ynFormulaFault_place => k_is); (case ynFormulaFault_word => k_is); (case ysFormulaFault_TableError => first | rfl | k_is | kit_is); (case ysFormulaFault_FormulaFault => first | rfl | k_is | kit_is); (case tt1 => exact Y 195 _ (by rfl)); (case tt2 => exact Y 202 _ (by rfl)); (case tn1 => rfl); (case tn2 => rfl); (case th1 => first | rfl | kernel_rfl); (case th2 => first | rfl | kernel_rfl); (case tne => decide)

/-
  The executor is sound: code, calls, tables of functions. Nothing here is trusted.
-/
import Derived.Test.YtagnkjdobkdhmaaVx7
import Derived.LoopN
namespace Go.Proofs.Ytagnkjdobkdhmaa.Vx
open Go Go.RowKit

theorem forceL_eq {β : Type} : ∀ (l : List Value) (k : List Value → β), forceL l k = k l
  | [], _ => rfl
  | x :: xs, k => by simp only [forceL]; rw [forceL_eq xs]

theorem set_self {l : List Value} {d : Nat} {v : Value} (h : l[d]? = some v) : l.set d v = l := by
  apply List.ext_getElem?
  intro i
  rw [List.getElem?_set]
  split
  · rename_i hdi
    subst hdi
    rw [if_pos (List.getElem?_eq_some_iff.1 h).1, h]
  · rfl

theorem lit_self {st : St} {d : Nat} {b : Bool} (h : st.tmps[d]? = some (.bool b)) : lit st d b = st := by
  unfold lit; rw [set_self h]

theorem guardK_eq (ops : Array Oper) (o : Oper) (st : St) (run skip : St → Option Value) : guardK ops o st run skip = if Region.wanted o (yieldedV ops st) then run st else skip st := by
  unfold guardK Region.wanted
  obtain ⟨dst, op, type, pos, after, guard⟩ := o
  cases guard with
  | none => simp
  | some g =>
    obtain ⟨j, want⟩ := g
    have hq : ((ops[j]?).bind fun x => x.dst) = gTmp ops j := by unfold gTmp; cases ops[j]? <;> rfl
    simp only [yieldedV, hq]
    cases gTmp ops j with
    | none => simp
    | some d =>
      simp only [Option.bind_some]
      obtain ⟨q, ht⟩ : ∃ q, st.tmps[d]? = q := ⟨_, rfl⟩
      cases q with
      | none => simp [ht]
      | some v =>
        cases v with
        | bool b =>
          simp only [ht]
          cases b <;> cases want <;> simp [lit_self ht]
        | _ => simp [ht]

/-- A call in the form that hands its answer on is the plain call, its answer handed on. -/
def Natural (callK : FuncId → List Value → (Value → Option Value) → Option Value) : Prop := ∀ f args K, callK f args K = (callK f args some).bind K

theorem actK_eq (P : Program) {callK : FuncId → List Value → (Value → Option Value) → Option Value} (hn : Natural callK) (o : Oper) (pos : Option Nat) (st : St) (K : St → Option Value) :
    actK P callK o pos st K = (act P (fun f args => callK f args some) pos st o).bind fun p => K ⟨putL st.tmps o.dst p.1, p.2⟩ := by
  unfold actK
  split
  · rename_i c a b ho
    unfold act
    simp only [ho, ev]
    split
    · cases hc : st.tmps[c]? with
      | none => rfl
      | some v =>
        cases v with
        | bool q =>
          simp only [Option.getD_some]
          cases q
          · simp only [lit_self hc, St.put, Bool.false_eq_true, if_false, Option.bind_some]
          · simp only [lit_self hc, St.put, if_true, Option.bind_some]
        | _ => rfl
    · rfl
  · rename_i t x y yt ho
    split
    · rename_i k a k' b hx hy
      unfold act
      simp only [ho, hx, hy]
      split
      · cases b == 0 <;> rfl
      · rfl
    · cases act P (fun f args => callK f args some) pos st o <;> rfl
  · rename_i t x y yt ho
    split
    · rename_i k a k' b hx hy
      unfold act
      simp only [ho, hx, hy]
      split
      · cases b == 0 <;> rfl
      · rfl
    · cases act P (fun f args => callK f args some) pos st o <;> rfl
  · rename_i c ho
    unfold act
    simp only [ho]
    split
    · split
      · rw [hn]
        rename_i f _ _
        cases callK f (c.args.toList.map (ev st)) some with
        | none => rfl
        | some v =>
          simp only [Option.bind_some]
          split <;> rfl
      · rfl
    · cases opVal P st o <;> rfl
    · rfl
  · cases act P (fun f args => callK f args some) pos st o <;> rfl

theorem opsK_eq (P : Program) {callK : FuncId → List Value → (Value → Option Value) → Option Value} (hn : Natural callK) (ops : Array Oper) : ∀ (l : List (Oper × Option Nat)) (st : St) (K : St → Option Value), opsK P callK ops l st K = (runList P (fun f args => callK f args some) ops l st).bind K
  | [], st, K => rfl
  | (o, pos) :: l, st, K => by
    simp only [opsK, runList]
    rw [forceL_eq, guardK_eq]
    unfold stepG
    split
    · rw [actK_eq P hn]
      cases act P (fun f args => callK f args some) pos st o with
      | none => rfl
      | some p => simp only [Option.bind_some]; exact opsK_eq P hn ops l _ K
    · exact opsK_eq P hn ops l _ K

/-- The calls of a context, with so much fuel for what is walked into. -/
def callsK (C : Cx) (n : Nat) (f : FuncId) (args : List Value) (K : Value → Option Value) : Option Value :=
  match C.tbl f args with
  | some (d, v) => match d with
    | true => K v
    | false => none
  | none => match C.inl f with
    | some fn => match fn.body with
      | some b => exCode C n b (enter fn args) fun e s => match retK C.P fn e s with
        | some v => K v
        | none => none
      | none => none
    | none => none

/-- What the executor hands on at the end it may hand on afterwards. -/
theorem exCode_nat (C : Cx) : ∀ (n : Nat) (c : Code) (st : St) (K0 : Exit → St → Option Value) (K : Value → Option Value), exCode C n c st (fun e s => (K0 e s).bind K) = (exCode C n c st K0).bind K := by
  intro n
  induction n with
  | zero => intro c st K0 K; rfl
  | succ n ih =>
    have hn : Natural (callsK C n) := by
      intro f args K
      unfold callsK
      cases C.tbl f args with
      | some dv => obtain ⟨d, v⟩ := dv; cases d <;> rfl
      | none =>
        cases C.inl f with
        | none => rfl
        | some fn =>
          simp only
          cases fn.body with
          | none => rfl
          | some b =>
            simp only
            rw [← ih]
            congr 1
            funext e s
            cases retK C.P fn e s <;> rfl
    intro c st K0 K
    cases c with
    | skip => rfl
    | label l => rfl
    | exit id => rfl
    | ret => rfl
    | goto l => rfl
    | scope x => rfl
    | rangeFunc f p a b => rfl
    | refuse w => rfl
    | seq x y =>
      simp only [exCode]
      rw [← ih]
      congr 1
      funext e s
      cases e with
      | normal => exact ih y s K0 K
      | _ => rfl
    | cond c x y =>
      cases c with
      | tmp t =>
        simp only [exCode]
        split
        · rename_i b _
          cases b
          · exact ih y _ K0 K
          · exact ih x _ K0 K
        · rfl
      | _ => rfl
    | block id x =>
      simp only [exCode]
      rw [← ih]
      congr 1
      funext e s
      cases e with
      | exit i => simp only; split <;> rfl
      | _ => rfl
    | loop x =>
      simp only [exCode]
      rw [← ih x st]
      congr 1
      funext e s
      cases e with
      | normal => exact ih (.loop x) s K0 K
      | _ => rfl
    | region id ops draw =>
      simp only [exCode]
      split
      · have e1 := opsK_eq C.P hn ops (places draw st.tmps [] st.mem.length ops.toList) ⟨st.tmps, room st.mem ops.toList⟩ (fun s => (K0 .normal s).bind K)
        have e2 := opsK_eq C.P hn ops (places draw st.tmps [] st.mem.length ops.toList) ⟨st.tmps, room st.mem ops.toList⟩ (fun s => K0 .normal s)
        refine Eq.trans e1 (Eq.trans ?_ (congrArg (fun x => Option.bind x K) e2).symm)
        cases runList C.P (fun f args => callsK C n f args some) ops (places draw st.tmps [] st.mem.length ops.toList) ⟨st.tmps, room st.mem ops.toList⟩ <;> rfl
      · rfl

theorem callsK_nat (C : Cx) (n : Nat) : Natural (callsK C n) := by
  intro f args K
  unfold callsK
  cases C.tbl f args with
  | some dv => obtain ⟨d, v⟩ := dv; cases d <;> rfl
  | none =>
    cases C.inl f with
    | none => rfl
    | some fn =>
      simp only
      cases fn.body with
      | none => rfl
      | some b =>
        simp only
        rw [← exCode_nat]
        congr 1
        funext e s
        cases retK C.P fn e s <;> rfl

def resSem (tmps : Array Value) : ResultVar → Sem Value
  | .tmp t => pure (tmps.getD t undef)
  | .cell b t => do loadVar t (← asAddr (tmps.getD b undef))

theorem resOf_run {P : Program} {w0 : World} {r : Nat → Nat} {st : St} {a : Act} {w : World} (hr : RelAt w0 r st a w) {x : ResultVar} {v : Value} (h : resOf P st x = some v) : (resSem a.tmps x).run P w = .ok v w := by
  have he : ∀ t, a.tmps.getD t undef = ren r (ev st (.tmp t)) := fun t => eval_ren hr (x := .tmp t) rfl
  cases x with
  | tmp t =>
    simp only [resOf] at h
    split at h
    · rename_i hb
      simp only [Option.some.injEq] at h
      subst h
      simp only [resSem, he, ren_bare hb, Sem.run_pure]
    · cases h
  | cell b t =>
    simp only [resOf] at h
    split at h
    · rename_i b' off hp
      have hin := ev_inMem hr (x := .tmp b) rfl
      rw [hp] at hin
      obtain ⟨c, hm⟩ := hin
      obtain ⟨_, T, ht⟩ := hr.2.2.2.blk b' _ hm
      obtain ⟨h1, _⟩ := loadV_run h hm ht
      simp only [resSem, he, hp, ren, asAddr, Sem.run_bind, Sem.run_pure, Result.andThen_ok, h1]
    · cases h

theorem results_eq (fn : Func) (tmps : Array Value) : results fn tmps = (do let vs ← fn.results.mapM (resSem tmps); pure (if h : vs.size = 1 then vs[0] else .tuple vs)) := by
  unfold results
  have : (fun x => (match x with
      | .tmp t => pure (tmps.getD t undef)
      | .cell b t => do loadVar t (← asAddr (tmps.getD b undef)) : Sem Value)) = resSem tmps := by funext x; cases x <;> rfl
  rw [← this]
  rfl

theorem results_run {P : Program} {w0 : World} {r : Nat → Nat} {st : St} {a : Act} {w : World} (hr : RelAt w0 r st a w) {fn : Func} {v : Value} (h : resV P fn st = some v) : (results fn a.tmps).run P w = .ok v w := by
  have hall : ∀ (l : List ResultVar) (vs : List Value), resAll P st l = some vs → (l.mapM (resSem a.tmps)).run P w = .ok vs w := by
    intro l
    induction l with
    | nil => intro vs hv; simp [resAll] at hv; subst hv; rfl
    | cons x l ih =>
      intro vs hv
      simp only [resAll] at hv
      cases hx : resOf P st x with
      | none => simp [hx] at hv
      | some u =>
        simp only [hx] at hv
        cases hl : resAll P st l with
        | none => simp [hl] at hv
        | some us =>
          simp only [hl, Option.some.injEq] at hv
          subst hv
          rw [List.mapM_cons]
          simp only [Sem.run_bind, resOf_run hr hx, Result.andThen_ok, ih us hl, Sem.run_pure]
  unfold resV at h
  cases hv : resAll P st fn.results.toList with
  | none => simp [hv] at h
  | some vs =>
    have hm := hall _ vs hv
    rw [results_eq]
    simp only [Array.mapM_eq_mapM_toList, Sem.run_bind]
    rw [map_eq_pure_bind]
    simp only [Sem.run_bind, hm, Result.andThen_ok, Sem.run_pure]
    rw [hv] at h
    match vs, h with
    | [], h => simp at h; subst h; rfl
    | [u], h => simp at h; subst h; rfl
    | u :: u2 :: us, h =>
      simp only [Option.some.injEq] at h
      subst h
      simp

/-- What a table's functions and the functions that are walked into must be. -/
structure CxOk (C : Cx) : Prop where
  mixed : C.P.follows .mixedOrders = true
  tbl : CallOk C.P fun f args => match C.tbl f args with
    | some (true, v) => some v
    | _ => none
  inl : ∀ f fn, C.inl f = some fn → C.P.funcs[f]? = some fn ∧ (fn.name == "runtime.NumGoroutine") = false

theorem enter_rel {fn : Func} {args : List Value} (hargs : ∀ x ∈ args, bare x = true) (w : World) : Rel w (enter fn args) { tmps := args.toArray ++ Array.replicate (fn.ntmps - args.toArray.size) undef, defers := [] } w := by
  refine ⟨id, rfl, ?_, ?_, Below.refl _ _, ?_, ?_⟩
  · apply Array.ext'
    simp only [enter, Array.toList_append, List.size_toArray, Array.toList_replicate]
    rw [List.map_append]
    congr 1
    · rw [show List.map (ren id) args = args from ?_]
      conv => rhs; rw [← List.map_id args]
      exact List.map_congr_left fun x hx => ren_bare (hargs x hx)
    · rw [List.map_replicate]
      rfl
  · intro v hv
    simp only [enter] at hv
    rcases List.mem_append.1 hv with h | h
    · exact inMem_bare (hargs v h)
    · rw [(List.mem_replicate.1 h).2]; trivial
  · intro i c hi; simp [enter] at hi
  · intro i j c d hi; simp [enter] at hi

theorem body_calls {P : Program} {f : FuncId} {fn : Func} {b : Code} {args : List Value} {v : Value} (hf : P.funcs[f]? = some fn) (hb : fn.body = some b) (hargs : ∀ x ∈ args, bare x = true)
    (hwp : ∀ (Q : Exit → Act → World → Prop) (w0 : World) (a : Act) (w : World), (∀ e s, retK P fn e s = some v → ∀ a w, Rel w0 s a w → Q e a w) → Rel w0 (enter fn args) a w → b.wp P Q a w) (w : World) :
    Calls P f args.toArray w fun e w' => e = .returned v ∧ Below w.heap.size w w' := by
  refine calls_of_wp hf hb ?_
  refine hwp _ w _ w ?_ (enter_rel hargs w)
  intro e s hs a' w' hr
  obtain ⟨r, hr⟩ := hr
  cases e with
  | normal =>
    simp only [retK] at hs
    exact ⟨hr.1, v, results_run hr hs, rfl, hr.2.2.2.below⟩
  | ret =>
    simp only [retK] at hs
    exact ⟨hr.1, v, results_run hr hs, rfl, hr.2.2.2.below⟩
  | _ => simp [retK] at hs

def Sound (C : Cx) (n : Nat) : Prop :=
  ∀ (c : Code) (st : St) (K : Exit → St → Option Value) (v : Value) (Q : Exit → Act → World → Prop) (w0 : World) (a : Act) (w : World),
    exCode C n c st K = some v → (∀ e s, K e s = some v → ∀ a w, Rel w0 s a w → Q e a w) → Rel w0 st a w → c.wp C.P Q a w
def SoundLoop (C : Cx) (n : Nat) : Prop :=
  ∀ (x : Code) (st : St) (K : Exit → St → Option Value) (v : Value) (Q : Exit → Act → World → Prop) (w0 : World) (a : Act) (w : World),
    exCode C n (.loop x) st K = some v → (∀ e s, K e s = some v → ∀ a w, Rel w0 s a w → Q e a w) → Rel w0 st a w → Code.rounds C.P x Q n a w

theorem exCode_sound {C : Cx} (hC : CxOk C) : ∀ n, Sound C n ∧ SoundLoop C n := by
  intro n
  induction n with
  | zero => exact ⟨fun c st K v Q w0 a w h _ _ => by simp [exCode] at h, fun x st K v Q w0 a w h _ _ => by simp [exCode] at h⟩
  | succ n ih =>
    obtain ⟨ih, ihl⟩ := ih
    have hloop : SoundLoop C (n + 1) := by
      intro x st K v Q w0 a w h hK hr
      simp only [exCode] at h
      rw [rounds_succ]
      refine ih x st _ v _ w0 a w h ?_ hr
      intro e s hs a' w' hr'
      cases e with
      | normal => exact ihl x s K v Q w0 a' w' hs hK hr'
      | _ => exact hK _ s hs a' w' hr'
    refine ⟨?_, hloop⟩
    intro c st K v Q w0 a w h hK hr
    cases c with
    | skip => simp only [exCode] at h; exact wp_skip (hK _ _ h _ _ hr)
    | label l => simp only [exCode] at h; exact wp_label (hK _ _ h _ _ hr)
    | exit id => simp only [exCode] at h; exact wp_exit (hK _ _ h _ _ hr)
    | ret => simp only [exCode] at h; exact wp_ret (hK _ _ h _ _ hr)
    | seq x y =>
      simp only [exCode] at h
      refine wp_seq (ih x st _ v _ w0 a w h ?_ hr)
      intro e s hs a' w' hr'
      cases e with
      | normal => exact ih y s K v Q w0 a' w' hs hK hr'
      | _ => exact hK _ s hs a' w' hr'
    | cond c x y =>
      cases c with
      | tmp t =>
        simp only [exCode] at h
        split at h
        · rename_i b hb
          obtain ⟨r, hr'⟩ := hr
          have he : a.eval (.tmp t) = .bool b := by
            rw [eval_ren hr' (x := .tmp t) rfl]
            simp [ev, hb, ren]
          cases b with
          | true =>
            simp only [lit_self hb] at h
            exact wp_cond_true he (ih x st K v Q w0 a w h hK ⟨r, hr'⟩)
          | false =>
            simp only [lit_self hb] at h
            exact wp_cond_false he (ih y st K v Q w0 a w h hK ⟨r, hr'⟩)
        · cases h
      | _ => simp [exCode] at h
    | block id x =>
      simp only [exCode] at h
      refine wp_block (ih x st _ v _ w0 a w h ?_ hr)
      intro e s hs a' w' hr'
      cases e with
      | exit i =>
        simp only [Exit.inBlock]
        simp only at hs
        split at hs
        · rename_i hi; rw [if_pos hi]; exact hK _ s hs a' w' hr'
        · rename_i hi; rw [if_neg hi]; exact hK _ s hs a' w' hr'
      | _ => exact hK _ s hs a' w' hr'
    | loop x => exact wp_loop_rounds (n + 1) (hloop x st K v Q w0 a w h hK hr)
    | region id ops draw =>
      simp only [exCode] at h
      split at h
      · rename_i hok
        have e1 := opsK_eq C.P (callsK_nat C n) ops (places draw st.tmps [] st.mem.length ops.toList) ⟨st.tmps, room st.mem ops.toList⟩ (fun s => K .normal s)
        have h' := Eq.trans e1.symm h
        obtain ⟨s, hs, hks⟩ := Option.bind_eq_some_iff.1 h'
        refine region_sound hC.mixed ?_ hok hs (fun a w hr => hK _ s hks a w hr) hr
        intro f args u hargs hu
        simp only [callsK] at hu
        split at hu
        · rename_i d v' htbl
          cases d with
          | false => cases hu
          | true =>
            simp only [Option.some.injEq] at hu
            subst hu
            exact hC.tbl f args _ hargs (by simp only [htbl])
        · split at hu
          · rename_i fn hfn
            obtain ⟨g1, g2⟩ := hC.inl f fn hfn
            split at hu
            · rename_i b hb
              refine ⟨⟨fn, g1, g2, by rw [hb]; rfl⟩, ?_⟩
              refine body_calls g1 hb hargs fun Q w0 a w hQ hr => ih b _ _ u Q w0 a w hu (fun e s hs => hQ e s ?_) hr
              cases hrk : retK C.P fn e s with
              | none => rw [hrk] at hs; cases hs
              | some v => rw [hrk] at hs; exact hs
            · cases hu
          · cases hu
      · cases h
    | _ => simp [exCode] at h

/-- A function that the executor runs is called so. -/
theorem exFun_calls {C : Cx} (hC : CxOk C) {n : Nat} {f : FuncId} {fn : Func} {args : List Value} {v : Value} (hf : C.P.funcs[f]? = some fn) (hargs : ∀ x ∈ args, bare x = true) (h : exFun C n fn args = some v) (w : World) :
    Calls C.P f args.toArray w fun e w' => e = .returned v ∧ Below w.heap.size w w' := by
  unfold exFun at h
  split at h
  · rename_i b hb
    exact body_calls hf hb hargs (fun Q w0 a w hQ hr => (exCode_sound hC n).1 b _ _ v Q w0 a w h hQ hr) w
  · cases h

end Go.Proofs.Ytagnkjdobkdhmaa.Vx

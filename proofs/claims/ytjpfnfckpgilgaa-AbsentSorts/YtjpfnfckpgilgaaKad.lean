/-
  A region's operations, in the text's order or in any order that its edges leave open. Nothing here is trusted.
-/
import Derived.Test.YtjpfnfckpgilgaaKac
import Derived.LoopN
import Derived.OpenShut
import Derived.Carry
import Derived.ChangeOld

namespace Go.Proofs.Ytjpfnfckpgilgaa.Vx
open Go Go.RowKit

/-! ## What a call must do -/
def fnOk (P : Program) (f : FuncId) : Prop := ∃ fn, P.funcs[f]? = some fn ∧ (fn.name == "runtime.NumGoroutine") = false ∧ fn.body.isNone = false
/-- A call without memory. -/
def PlainSem (P : Program) (f : FuncId) (args : List Value) (v : Value) : Prop := fnOk P f ∧ ∀ w, Calls P f args.toArray w fun e w' => e = .returned v ∧ Below w.heap.size w w' ∧ w.drawn ≤ w'.drawn
/-- A call that memory has a part in. -/
def MemSem (P : Program) (f : FuncId) (args : List Value) (m : Mem) (v : Value) (m' : Mem) : Prop :=
  fnOk P f ∧ ∀ (w0 : World) (keep : Keep) (r : Ren) (args' : List Value) (w : World), RL (R r) args args' → MemRel w0 keep r m w →
    Calls P f args'.toArray w fun e w' => ∃ v' r', e = .returned v' ∧ R r' v v' ∧ MemRel w0 keep r' m' w' ∧ Ext r r'
/-- What calls that only look, or only make, are. -/
def RdOk (cs : CallsX) : Prop := (∀ f, cs.rd f = 1 → ∀ args m v m', (cs.mm f args m).res = some (v, m') → m' = m ∧ ∀ (q : Nat) k, m[q]? = some .no → (cs.mm f args (m.set q k)).res = some (v, m.set q k)) ∧ ∀ f, cs.rd f = 2 → ∀ args m v m', (cs.mm f args m).res = some (v, m') → ∃ new, m' = m ++ new ∧ ∀ (q : Nat) k, noViewB k = true → m[q]? = some .no → (cs.mm f args (m.set q k)).res = some (v, m.set q k ++ new)
structure CallOk (P : Program) (cs : CallsX) : Prop where
  pl : ∀ f args v, (∀ x ∈ args, plain x = true) → (cs.pl f args).res = some v → plain v = true → PlainSem P f args v
  mm : ∀ f args m v m', (cs.mm f args m).res = some (v, m') → MemSem P f args m v m'
  keys : ∀ kt n, cs.keys kt = some n → KeyOk P kt n
  rd : RdOk cs

section
variable {P : Program} {cs : CallsX} {ops : Array Oper}

/-! ## One step -/
def wantedV (ops : Array Oper) (o : Oper) (tm : List Value) : Option Bool :=
  match o.guard with
  | none => some true
  | some (j, want) => match gTmp ops j with
    | none => some false
    | some d => match tm[d]? with
      | some (.bool b) => some (b == want)
      | some (.tuple vs) => match vs.toList with
        | [] => some false
        | _ => none
      | none => some false
      | _ => none
def actG (P : Program) (cs : CallsX) (ops : Array Oper) (pos : Pos) (tm : List Value) (m : Mem) (o : Oper) : Option (Value × Mem) :=
  match wantedV ops o tm with
  | some true => (act P cs pos tm m o).res
  | some false => some (undef, m)
  | none => none
def stepR (P : Program) (cs : CallsX) (ops : Array Oper) (o : Oper) (pos : Pos) (st : St) : Option St := (actG P cs ops pos st.tmps st.mem o).map fun p => ⟨putL st.tmps o.dst p.1, p.2⟩
def runR (P : Program) (cs : CallsX) (ops : Array Oper) : List (Oper × Pos) → St → Option St
  | [], st => some st
  | (o, pos) :: rest, st => match stepR P cs ops o pos st with
    | some s => runR P cs ops rest s
    | none => none

theorem set_self {l : List Value} {d : Nat} {v : Value} (h : l[d]? = some v) : l.set d v = l := by
  apply List.ext_getElem?
  intro i
  rw [List.getElem?_set]
  split
  · rename_i hdi
    subst hdi
    rw [if_pos (List.getElem?_eq_some_iff.1 h).1, h]
  · rfl
theorem lit_self {l : List Value} {d : Nat} {b : Bool} (h : l[d]? = some (.bool b)) : lit l d b = l := set_self h
theorem guardA_res (o : Oper) (tm : List Value) : (guardA ops o tm).res = (wantedV ops o tm).map fun b => (b, tm) := by
  unfold guardA wantedV
  cases o.guard with
  | none => rfl
  | some g =>
    obtain ⟨j, want⟩ := g
    simp only
    cases gTmp ops j with
    | none => rfl
    | some d =>
      simp only
      cases hb : tm[d]? with
      | none => rfl
      | some v =>
        cases v with
        | bool b => cases b <;> cases want <;> simp [Ans.res, lit_self hb]
        | tuple vs => simp only; cases vs.toList <;> rfl
        | _ => rfl
theorem opsA_res : ∀ (l : List (Oper × Pos)) (st : St), (opsA P cs ops l st).res = runR P cs ops l st
  | [], st => rfl
  | (o, pos) :: l, st => by
    simp only [opsA, runR]
    rw [forceL_eq, Ans.res_bind, guardA_res]
    unfold stepR actG
    cases hw : wantedV ops o st.tmps with
    | none => rfl
    | some b =>
      simp only [Option.map_some, Option.bind_some]
      cases b with
      | false => simp only [Option.map_some]; exact opsA_res l _
      | true =>
        simp only
        rw [Ans.res_bind]
        cases (act P cs pos st.tmps st.mem o).res with
        | none => rfl
        | some vm =>
          simp only [Option.bind_some, Option.map_some]
          rw [forceV_eq]
          cases Nat.ble 2 (memClass P o) with
          | true => simp only; rw [forceM_eq]; exact opsA_res l _
          | false => simp only; exact opsA_res l _

theorem wanted_eq {w0 : World} {keep : Keep} {r : Ren} {st : St} {a : Act} {w : World} (hr : RelAt w0 keep r st a w) {o : Oper} {b : Bool} (h : wantedV ops o st.tmps = some b) : Region.wanted o (yielded ops a.tmps) = b := by
  unfold wantedV at h
  unfold Region.wanted
  split at h
  · rename_i hg; simp only [hg]; simpa using h
  · rename_i j want hg
    simp only [hg]
    have hq : ((ops[j]?).bind fun x => x.dst) = gTmp ops j := by unfold gTmp; cases ops[j]? <;> rfl
    unfold yielded
    simp only [hq]
    split at h
    · rename_i hd; simp only [hd, Option.bind_none]; simpa using h
    · rename_i d hd
      simp only [hd, Option.bind_some]
      split at h
      · rename_i q hq2
        obtain ⟨v', h1, h2⟩ := hr.2.1.get d _ hq2
        have h1' : a.tmps[d]? = some v' := by simpa using h1
        rw [R_bool h2] at h1'
        simp only [h1']
        simp only [Option.some.injEq] at h
        rw [← h]
        cases q <;> cases want <;> rfl
      · rename_i vs hq2
        split at h
        · rename_i hv
          obtain ⟨v', h1, h2⟩ := hr.2.1.get d _ hq2
          have h1' : a.tmps[d]? = some v' := by simpa using h1
          obtain ⟨vs', rfl, h3⟩ := h2
          simp only [h1']
          simp only [Option.some.injEq] at h
          rw [← h]
          rfl
        · cases h
      · rename_i hq2
        have hl := hr.2.1.length
        have : a.tmps[d]? = none := by
          rw [Array.getElem?_eq_none_iff, ← Array.length_toList, ← hl]
          exact List.getElem?_eq_none_iff.1 hq2
        simp only [this]
        simp only [Option.some.injEq] at h
        rw [← h]
        rfl
      · cases h

theorem rel_put {w0 : World} {keep : Keep} {r r' : Ren} {st : St} {a : Act} {w w' : World} {v v' : Value} {m : Mem} (hr : RelAt w0 keep r st a w) (hm : MemRel w0 keep r' m w') (hv : R r' v v') (he : Ext r r') (dst : Option Tmp) : RelAt w0 keep r' ⟨putL st.tmps dst v, m⟩ (a.put dst v') w' := by
  have h0 : RL (R r') st.tmps a.tmps.toList := RL.mono (fun _ _ => R.ext he) hr.2.1
  cases dst with
  | none => exact ⟨hr.1, h0, hm⟩
  | some d =>
    refine ⟨hr.1, ?_, hm⟩
    simp only [Act.put, putL]
    have : (a.tmps.setIfInBounds d v').toList = a.tmps.toList.set d v' := by simp
    rw [this]
    exact RL.set d h0 hv

theorem calleeFn_spec {tm : List Value} {x : Operand} {f : FuncId} (h : calleeFn tm x = some f) : ev tm x = .func (.func f) #[] #[] := by
  unfold calleeFn at h
  split at h
  · rename_i g fr cp he
    split at h
    · rename_i h1 h2
      simp only [Option.some.injEq] at h
      subst h
      rw [he, show fr = #[] by apply Array.ext'; simpa using h1, show cp = #[] by apply Array.ext'; simpa using h2]
    · cases h
  · cases h
theorem call_enter {w : World} {a : Act} {o : Oper} {c : Call} {f : FuncId} {x : Operand} (ho : o.op = .call c) (hc : c.callee = .value x) (hx : a.eval x = .func (.func f) #[] #[]) (hf : fnOk P f) : (execOp a.eval o).run P w = .ok (.enter f (c.args.map a.eval)) w := by
  obtain ⟨fn, h1, h2, h3⟩ := hf
  simp only [execOp, ho, resolve, hc]
  simp only [hx, Deferred.ofValue, Sem.run_bind, Sem.run_pure, Result.andThen_ok, invoke, callFunc, program, Sem.run, h1, h2, h3]
  simp

theorem RL_map {w0 : World} {keep : Keep} {r : Ren} {st : St} {a : Act} {w : World} (hr : RelAt w0 keep r st a w) : ∀ (l : List Operand), RL (R r) (l.map (ev st.tmps)) (l.map a.eval)
  | [] => trivial
  | x :: l => ⟨eval_R hr x, RL_map hr l⟩

theorem stepR_sound (hcall : CallOk P cs) {i : Nat} {o : Oper} {pos : Pos} (hi : ops[i]? = some o) {st st' : St} (h : stepR P cs ops o pos st = some st') {w0 : World} {keep : Keep} {r0 : Ren} {a : Act} {w : World} (hr : Rel w0 keep r0 st a w)
    {Q : Exit → Act → World → Prop} {K : Act → World → Prop} (hK : ∀ a' w', Rel w0 keep r0 st' a' w' → K a' w') : wpOp P ops Q i K a w := by
  obtain ⟨r, hx, hr⟩ := hr
  unfold wpOp
  simp only [hi]
  unfold stepR actG at h
  cases hw : wantedV ops o st.tmps with
  | none => rw [hw] at h; cases h
  | some b =>
    rw [hw] at h
    rw [wanted_eq hr hw]
    cases b with
    | false =>
      simp only [Option.map_some, Option.some.injEq] at h
      subst h
      rw [if_neg (by simp)]
      exact hK _ _ ⟨r, hx, rel_put hr hr.2.2 (R_undef r) (Ext.refl r) o.dst⟩
    | true =>
      rw [if_pos rfl]
      refine Or.inl ?_
      simp only at h
      cases ha : (act P cs pos st.tmps st.mem o).res with
      | none => rw [ha] at h; cases h
      | some vm =>
        obtain ⟨v, m⟩ := vm
        rw [ha] at h
        simp only [Option.map_some, Option.some.injEq] at h
        subst h
        unfold Oper.wp
        by_cases hnc : ∃ c x, o.op = .call c ∧ c.callee = .value x
        · obtain ⟨c, xf, ho, hc⟩ := hnc
          obtain ⟨e, h1, h2⟩ := Ans.bind_some ha
          unfold effOf at h1
          simp only [ho, hc] at h1
          split at h1
          rotate_left
          · simp [Ans.res] at h1
          rename_i f hcf
          have hxf : a.eval xf = .func (.func f) #[] #[] := by
            have := eval_R hr xf
            rw [calleeFn_spec hcf] at this
            exact (R_plain (v := .func (.func f) #[] #[]) rfl).1 this
          have hargs : c.args.map a.eval = (c.args.toList.map a.eval).toArray := by apply Array.ext'; simp
          split at h1
          · split at h1
            · rename_i hall
              obtain ⟨u, h3, h4⟩ := Ans.bind_some h1
              split at h4
              · rename_i hpl
                simp only [Ans.res, Option.some.injEq] at h4
                subst h4
                obtain ⟨rfl, rfl⟩ := valE h2
                have hpa : ∀ x ∈ c.args.toList.map (ev st.tmps), plain x = true := fun x hx => by
                  obtain ⟨y, hy, rfl⟩ := List.mem_map.1 hx
                  exact allO_iff.1 hall y hy
                obtain ⟨hf, hC⟩ := hcall.pl f _ _ hpa h3 hpl
                rw [call_enter ho hc hxf hf]
                simp only [Oper.upon]
                have he : c.args.toList.map a.eval = c.args.toList.map (ev st.tmps) := List.map_congr_left fun x hx => eval_plain hr (allO_iff.1 hall x hx)
                rw [hargs, he]
                refine (hC w).mono ?_
                rintro ex w' ⟨rfl, hb, hdr⟩
                exact hK _ _ ⟨r, hx, rel_put hr (hr.2.2.later hb hdr) ((R_plain hpl).2 rfl) (Ext.refl r) o.dst⟩
              · simp [Ans.res] at h4
            · simp [Ans.res] at h1
          · simp only [Ans.res, Option.some.injEq] at h1
            subst h1
            simp only [runE] at h2
            split at h2
            · obtain ⟨hf, hC⟩ := hcall.mm f _ _ _ _ h2
              rw [call_enter ho hc hxf hf]
              simp only [Oper.upon]
              rw [hargs]
              refine (hC w0 keep r _ w (RL_map hr _) hr.2.2).mono ?_
              rintro ex w' ⟨v', r', rfl, g1, g2, g3⟩
              exact hK _ _ ⟨r', hx.trans g3, rel_put hr g2 g1 g3 o.dst⟩
            · simp [Ans.res] at h2
        · obtain ⟨r', w', v', hrun, hv, hm, he⟩ := act_run hcall.keys (fun c x hc hf => hnc ⟨c, x, hc, hf⟩) hr ha
          rcases hrun with hrun | ⟨hrun, rfl⟩
          · rw [hrun]
            simp only [Oper.upon]
            exact hK _ _ ⟨r', hx.trans he, rel_put hr hm hv he o.dst⟩
          · rw [hrun]
            simp only [Oper.upon]
            exact hK _ _ ⟨r', hx.trans he, rel_put hr hm hv he o.dst⟩

theorem runR_sound (hcall : CallOk P cs) {Q : Exit → Act → World → Prop} {w0 : World} {keep : Keep} {r0 : Ren} {st' : St} (hQ : ∀ a w, Rel w0 keep r0 st' a w → Q .normal a w) :
    ∀ (l : List (Oper × Pos)) (k : Nat) (st : St) (a : Act) (w : World), (∀ j, (l[j]?).map (·.1) = if j < l.length then ops[k + j]? else none) → runR P cs ops l st = some st' → Rel w0 keep r0 st a w → wpOps P ops Q (List.range' k l.length) a w
  | [], k, st, a, w, _, h, hr => by
    simp only [runR, Option.some.injEq] at h
    subst h
    simpa [wpOps] using hQ a w hr
  | (o, n) :: l, k, st, a, w, hl, h, hr => by
    simp only [List.length_cons, List.range'_succ]
    rw [wpOps_cons]
    simp only [runR] at h
    cases hs : stepR P cs ops o n st with
    | none => simp [hs] at h
    | some s =>
      simp only [hs] at h
      have h0 : ops[k]? = some o := by have := hl 0; simpa using this.symm
      refine stepR_sound hcall h0 hs hr fun a' w' hr' => ?_
      refine runR_sound hcall hQ l (k + 1) s a' w' (fun j => ?_) h hr'
      have := hl (j + 1)
      simp only [List.getElem?_cons_succ, List.length_cons, Nat.add_lt_add_iff_right] at this
      rw [this, show k + (j + 1) = k + 1 + j by omega]

/-! ## Operations that change places -/
theorem ev_congr {tm tm' : List Value} {x : Operand} (h : ∀ t, x = .tmp t → tm[t]? = tm'[t]?) : ev tm x = ev tm' x := by
  cases x with
  | tmp t => simp only [ev]; rw [h t rfl]
  | _ => rfl
theorem opVal_congr {tm tm' : List Value} {o : Oper} (hs : ∀ cs b, o.op ≠ .select cs b) (h : ∀ x ∈ o.op.operands, ev tm x = ev tm' x) : opVal P tm o = opVal P tm' o := by
  have h1 : execOp (ev tm) o = execOp (ev tm') o := execOp_congr o hs h
  have h2 : allO (okOpnd tm) o.op.operands.toList = allO (okOpnd tm') o.op.operands.toList := by
    rw [Bool.eq_iff_iff, allO_iff, allO_iff]
    exact ⟨fun g x hx => by unfold okOpnd; rw [← h x (Array.mem_toList_iff.1 hx)]; exact g x hx, fun g x hx => by unfold okOpnd; rw [h x (Array.mem_toList_iff.1 hx)]; exact g x hx⟩
  unfold opVal
  rw [h1, h2]
theorem sliceHi_congr {tm tm' : List Value} {hi : Option Operand} {n : Nat} (h : ∀ x, hi = some x → ev tm x = ev tm' x) : sliceHi tm hi n = sliceHi tm' hi n := by
  unfold sliceHi
  cases hi with
  | none => rfl
  | some x => simp only; rw [h x rfl]

theorem effOf_congr {tm tm' : List Value} (o : Oper) (h : ∀ x ∈ o.op.operands, ev tm x = ev tm' x) : effOf P cs tm o = effOf P cs tm' o := by
  have hO : ∀ x ∈ o.op.operands, okOpnd tm x = okOpnd tm' x := fun x hx => by unfold okOpnd; rw [h x hx]
  obtain ⟨dst, op, type, pos, after, guard⟩ := o
  unfold effOf
  cases op <;> simp only [Op.operands] at h hO <;> simp only
  case move x => rw [h x (by simp)]
  case assign x => rw [h x (by simp)]
  case nilCheck x => rw [h x (by simp)]
  case pick c x y => rw [h c (by simp), h x (by simp), h y (by simp)]
  case box t x => rw [h x (by simp)]
  case load t x => rw [h x (by simp)]
  case store t x y => rw [h x (by simp), h y (by simp)]
  case indexAddr t x i => rw [h x (by simp), h i (by simp)]
  case fieldAddr t x n => rw [h x (by simp)]
  case slice t x lo hi mx =>
    cases mx with
    | some mx => rfl
    | none =>
      simp only
      rw [h x (by simp)]
      have e1 : ∀ n, sliceHi tm hi n = sliceHi tm' hi n := fun n => sliceHi_congr fun y hy => h y (by subst hy; simp)
      simp only [e1]
      cases lo with
      | none => rfl
      | some y => simp only [h y (by simp)]
  case build t ps =>
    have e1 : (ps.toList.map fun p => (p.1, ev tm p.2)) = ps.toList.map fun p => (p.1, ev tm' p.2) := List.map_congr_left fun p hp => by
      rw [h p.2 (by simpa using ⟨p.1, by simpa using hp⟩)]
    rw [e1]
  case buildSlice t n ps =>
    have e1 : (ps.toList.map fun p => (p.1, ev tm p.2)) = ps.toList.map fun p => (p.1, ev tm' p.2) := List.map_congr_left fun p hp => by
      rw [h p.2 (by simpa using ⟨p.1, by simpa using hp⟩)]
    rw [e1]
  case field t x n => rw [h x (by simp)]
  case index t x i => rw [h x (by simp), h i (by simp)]
  case extract x n => rw [h x (by simp)]
  case binOp op t x y yt =>
    have e := opVal_congr (P := P) (tm := tm) (tm' := tm') (o := ⟨dst, .binOp op t x y yt, type, pos, after, guard⟩) (by intro cs b; simp) (by simpa only [Op.operands] using h)
    rw [h x (by simp), h y (by simp), hO x (by simp), hO y (by simp), e]
  case range t x => rw [h x (by simp)]
  case makeSlice t x y => rw [h x (by simp), h y (by simp)]
  case makeMap t res =>
    have e1 : resvOk tm res = resvOk tm' res := by
      cases res with
      | none => rfl
      | some y => simp only [resvOk, h y (by simp)]
    rw [e1]
  case lookup t x y ok => rw [h x (by simp), h y (by simp)]
  case mapUpdate t x y z => rw [h x (by simp), h y (by simp), h z (by simp)]
  case next it str => rw [h it (by simp)]
  case unOp op t x => rw [opVal_congr (P := P) (tm := tm) (tm' := tm') (o := ⟨dst, .unOp op t x, type, pos, after, guard⟩) (by intro cs b; simp) (by simpa only [Op.operands] using h)]
  case convert s d x => rw [h x (by simp), opVal_congr (P := P) (tm := tm) (tm' := tm') (o := ⟨dst, .convert s d x, type, pos, after, guard⟩) (by intro cs b; simp) (by simpa only [Op.operands] using h)]
  case call c =>
    have e := opVal_congr (P := P) (tm := tm) (tm' := tm') (o := ⟨dst, .call c, type, pos, after, guard⟩) (by intro cs b; simp) (by simpa only [Op.operands] using h)
    have e1 : c.args.toList.map (ev tm) = c.args.toList.map (ev tm') := List.map_congr_left fun x hx => h x (by simp [Call.operands, Array.mem_toList_iff.1 hx])
    have e2 : allO (okOpnd tm) c.args.toList = allO (okOpnd tm') c.args.toList := by
      rw [Bool.eq_iff_iff, allO_iff, allO_iff]
      have hq : ∀ x ∈ c.args.toList, okOpnd tm x = okOpnd tm' x := fun x hx => hO x (by simp [Call.operands, Array.mem_toList_iff.1 hx])
      exact ⟨fun g x hx => by rw [← hq x hx]; exact g x hx, fun g x hx => by rw [hq x hx]; exact g x hx⟩
    have e3 : ∀ x, c.callee = .value x → calleeFn tm x = calleeFn tm' x := fun x hx => by
      unfold calleeFn
      rw [h x (by simp [Call.operands, hx])]
    cases hcal : c.callee with
    | value x => simp only [e1, e2, e3 x hcal]
    | invoke x mm => rfl
    | builtin b => cases b <;> first | rfl | simp only [e, e1]

theorem looks_opnd {o : Oper} {tm tm' : List Value} (h : ∀ t ∈ o.looksAt ops, tm[t]? = tm'[t]?) : ∀ x ∈ o.op.operands, ev tm x = ev tm' x := by
  intro x hx
  refine ev_congr fun t ht => ?_
  subst ht
  refine h t ?_
  unfold Oper.looksAt
  refine List.mem_append.2 (Or.inl ?_)
  exact List.mem_filterMap.2 ⟨_, Array.mem_toList_iff.2 hx, rfl⟩
theorem wantedV_congr {o : Oper} {tm tm' : List Value} (h : ∀ t ∈ o.looksAt ops, tm[t]? = tm'[t]?) : wantedV ops o tm = wantedV ops o tm' := by
  unfold wantedV
  cases hg : o.guard with
  | none => rfl
  | some g =>
    obtain ⟨j, want⟩ := g
    simp only
    cases hd : gTmp ops j with
    | none => rfl
    | some d =>
      simp only
      have hq : ((ops[j]?).bind fun x => x.dst) = some d := by rw [← hd]; unfold gTmp; cases ops[j]? <;> rfl
      rw [h d (by simp [Oper.looksAt, hg, hq])]
theorem actG_congr {pos : Pos} {o : Oper} {tm tm' : List Value} (m : Mem) (h : ∀ t ∈ o.looksAt ops, tm[t]? = tm'[t]?) : actG P cs ops pos tm m o = actG P cs ops pos tm' m o := by
  unfold actG act
  rw [wantedV_congr h, effOf_congr o (looks_opnd h)]

def upd (m : Mem) (b : Nat) : Option Blk → Mem
  | none => m
  | some k => m.set b k
theorem upd_get {m : Mem} {b c : Nat} (h : b ≠ c) (u : Option Blk) : (upd m b u)[c]? = m[c]? := by
  cases u with
  | none => rfl
  | some k => simp only [upd]; rw [List.getElem?_set_ne h]
theorem upd_comm {m : Mem} {b c : Nat} (h : b ≠ c) (u v : Option Blk) : upd (upd m b u) c v = upd (upd m c v) b u := by
  cases u <;> cases v <;> simp only [upd]
  exact List.set_comm _ _ h

/-- Class 0: no memory. -/
theorem actG_quiet {pos : Pos} {o : Oper} {tm : List Value} {m m' : Mem} {v : Value} (h0 : memClass P o = 0 ∨ wantedV ops o tm = some false) (h : actG P cs ops pos tm m o = some (v, m')) : m' = m ∧ ∀ m2, actG P cs ops pos tm m2 o = some (v, m2) := by
  unfold actG at h ⊢
  split at h
  · rename_i hw
    rcases h0 with h0 | h0
    · obtain ⟨e, h1, h2⟩ := Ans.bind_some h
      rw [h0] at h2
      cases e with
      | val u =>
        obtain ⟨rfl, rfl⟩ := valE h2
        refine ⟨rfl, fun m2 => ?_⟩
        unfold act
        rw [Ans.res_bind, h1]
        rfl
      | read b g => exact absurd h2 (by intro h; cases h)
      | make k g => exact absurd h2 (by intro h; cases h)
      | upd b g => exact absurd h2 (by intro h; cases h)
      | all g => exact absurd h2 (by intro h; cases h)
    · rw [h0] at hw; cases hw
  · simp only [Option.some.injEq, Prod.mk.injEq] at h
    obtain ⟨rfl, rfl⟩ := h
    exact ⟨rfl, fun m2 => rfl⟩
  · cases h
/-- Class 1: nothing is turned. -/
theorem actG_reads {pos : Pos} {o : Oper} {tm : List Value} {m m' : Mem} {v : Value} (h0 : memClass P o = 1) (h : actG P cs ops pos tm m o = some (v, m')) : m' = m := by
  unfold actG at h
  split at h
  · obtain ⟨e, h1, h2⟩ := Ans.bind_some h
    rw [h0] at h2
    cases e with
    | val u => exact (valE h2).2
    | read b g => obtain ⟨k, _, _, rfl⟩ := readE h2; rfl
    | make k g => exact absurd h2 (by intro h; cases h)
    | upd b g => exact absurd h2 (by intro h; cases h)
    | all g => exact absurd h2 (by intro h; cases h)
  · simp only [Option.some.injEq, Prod.mk.injEq] at h
    exact h.2.symm
  · cases h
/-- Up to class 3: nothing but a block, which may be foreseen. -/
theorem actG_local {pos : Pos} {o : Oper} {tm : List Value} {m m' : Mem} {v : Value} (h0 : memClass P o ≤ 3) (h : actG P cs ops pos tm m o = some (v, m')) : (m' = m ∧ ∀ m2 : Mem, actG P cs ops pos tm m2 o = some (v, m2)) ∨ ∃ b u, okPos pos b = true ∧ m' = upd m b u ∧ ∀ m2 : Mem, m2[b]? = m[b]? → actG P cs ops pos tm m2 o = some (v, upd m2 b u) := by
  unfold actG at h ⊢
  split at h
  · obtain ⟨e, h1, h2⟩ := Ans.bind_some h
    have hact : ∀ m2, (act P cs pos tm m2 o).res = (runE (memClass P o) pos m2 e).res := fun m2 => by
      unfold act; rw [Ans.res_bind, h1]; rfl
    cases e with
    | val u =>
      obtain ⟨rfl, rfl⟩ := valE h2
      exact Or.inl ⟨rfl, fun m2 => by rw [hact]; rfl⟩
    | read b g =>
      simp only [runE] at h2
      split at h2
      · rename_i hq
        have hq' := hq
        rw [Bool.and_eq_true] at hq
        split at h2
        · rename_i k hk
          obtain ⟨u, h3, h4⟩ := Ans.bind_some h2
          simp only [Ans.res, Option.some.injEq, Prod.mk.injEq] at h4
          obtain ⟨rfl, rfl⟩ := h4
          refine Or.inr ⟨b, none, hq.2, rfl, fun m2 hm2 => ?_⟩
          rw [hact]
          simp only [runE, hq']
          rw [hm2, hk]
          simp only
          rw [Ans.res_bind, h3]
          rfl
        · simp [Ans.res] at h2
      · simp [Ans.res] at h2
    | make k f =>
      simp only [runE] at h2
      split at h2
      · rename_i q hq
        split at h2
        · rename_i hb
          simp only [Ans.res, Option.some.injEq, Prod.mk.injEq] at h2
          obtain ⟨rfl, rfl⟩ := h2
          refine Or.inr ⟨q, some k, by simp [okPos], rfl, fun m2 hm2 => ?_⟩
          rw [hact]
          simp only [runE, hq]
          rw [hm2, hb]
          rfl
        · simp [Ans.res] at h2
      · simp [Ans.res] at h2
    | upd b g =>
      simp only [runE] at h2
      split at h2
      · rename_i hq
        have hq' := hq
        rw [Bool.and_eq_true] at hq
        split at h2
        · rename_i k hk
          obtain ⟨⟨u, k'⟩, h3, h4⟩ := Ans.bind_some h2
          simp only [Ans.res, Option.some.injEq, Prod.mk.injEq] at h4
          obtain ⟨rfl, rfl⟩ := h4
          refine Or.inr ⟨b, some k', hq.2, rfl, fun m2 hm2 => ?_⟩
          rw [hact]
          simp only [runE, hq']
          rw [hm2, hk]
          simp only
          rw [Ans.res_bind, h3]
          rfl
        · simp [Ans.res] at h2
      · simp [Ans.res] at h2
    | all g =>
      simp only [runE] at h2
      split at h2
      · rename_i hq
        rw [Bool.and_eq_true] at hq
        have := Nat.eq_of_beq_eq_true hq.1
        omega
      · simp [Ans.res] at h2
  · simp only [Option.some.injEq, Prod.mk.injEq] at h
    obtain ⟨rfl, rfl⟩ := h
    exact Or.inl ⟨rfl, fun m2 => rfl⟩
  · cases h
theorem isRd_eff {z : Nat} {o : Oper} {tm : List Value} (h0 : isRd P cs.rd z o = true) : ∃ f args, cs.rd f = z ∧ memClass P o = 4 ∧ effOf P cs tm o = .out (.all (cs.mm f args)) := by
  unfold isRd at h0
  split at h0
  rotate_left
  · cases h0
  rename_i f hf
  rw [Bool.and_eq_true] at h0
  have hcls := Nat.eq_of_beq_eq_true h0.2
  obtain ⟨dst, op, type, ps, after, guard⟩ := o
  unfold callFn at hf
  simp only at hf
  cases op with
  | call c =>
    simp only at hf
    cases hc : c.callee with
    | value x =>
      rw [hc] at hf
      cases x with
      | func g =>
        simp only [Option.some.injEq] at hf
        subst hf
        have hp : plainCall P ⟨dst, .call c, type, ps, after, guard⟩ c = false := by
          cases hp : plainCall P ⟨dst, .call c, type, ps, after, guard⟩ c with
          | false => rfl
          | true => simp [memClass, hc, hp] at hcls
        refine ⟨g, c.args.toList.map (ev tm), Nat.eq_of_beq_eq_true h0.1, hcls, ?_⟩
        unfold effOf
        simp only [hc, hp, calleeFn, ev]
      | _ => cases hf
    | _ => rw [hc] at hf; cases hf
  | _ => cases hf
theorem lenOk_set {pos : Pos} {m : Mem} {q : Nat} {k : Blk} : lenOk pos (m.set q k) = lenOk pos m := by cases pos <;> simp [lenOk]
/-- A call that only looks. -/
theorem actG_rd (hrd : RdOk cs) {pos : Pos} {o : Oper} {tm : List Value} {m m' : Mem} {v : Value} (h0 : isRd P cs.rd 1 o = true) (h : actG P cs ops pos tm m o = some (v, m')) : m' = m ∧ ∀ (q : Nat) k, m[q]? = some .no → actG P cs ops pos tm (m.set q k) o = some (v, m.set q k) := by
  obtain ⟨f, args, hf, hcls, heff⟩ := isRd_eff (tm := tm) h0
  unfold actG at h ⊢
  split at h
  · unfold act at h ⊢
    rw [heff] at h ⊢
    rw [hcls] at h ⊢
    simp only [Ans.bind, runE] at h ⊢
    split at h
    · rename_i hl
      obtain ⟨e1, e2⟩ := hrd.1 f hf _ m v m' h
      refine ⟨e1, fun q k hq => ?_⟩
      rw [lenOk_set, hl]
      exact e2 q k hq
    · simp [Ans.res] at h
  · simp only [Option.some.injEq, Prod.mk.injEq] at h
    obtain ⟨rfl, rfl⟩ := h
    exact ⟨rfl, fun q k _ => rfl⟩
  · cases h
/-- A call that makes something beside what is there. -/
theorem actG_rd2 (hrd : RdOk cs) {pos : Pos} {o : Oper} {tm : List Value} {m m' : Mem} {v : Value} (h0 : isRd P cs.rd 2 o = true) (h : actG P cs ops pos tm m o = some (v, m')) : ∃ new, m' = m ++ new ∧ (new = [] ∨ lenOk pos m = true) ∧ ∀ (q : Nat) k, noViewB k = true → m[q]? = some .no → actG P cs ops pos tm (m.set q k) o = some (v, m.set q k ++ new) := by
  obtain ⟨f, args, hf, hcls, heff⟩ := isRd_eff (tm := tm) h0
  unfold actG at h ⊢
  split at h
  · unfold act at h ⊢
    rw [heff] at h ⊢
    rw [hcls] at h ⊢
    simp only [Ans.bind, runE] at h ⊢
    split at h
    · rename_i hl
      have hl' := hl
      rw [Bool.and_eq_true] at hl
      obtain ⟨new, e, e2⟩ := hrd.2 f hf _ m v m' h
      refine ⟨new, e, Or.inr hl.2, fun q k hk hq => ?_⟩
      rw [lenOk_set, hl']
      exact e2 q k hk hq
    · simp [Ans.res] at h
  · simp only [Option.some.injEq, Prod.mk.injEq] at h
    obtain ⟨rfl, rfl⟩ := h
    exact ⟨[], by rw [List.append_nil], Or.inl rfl, fun q k _ _ => by rw [List.append_nil]⟩
  · cases h
/-- A new variable. -/
theorem actG_alloc {pos : Pos} {o : Oper} {tm : List Value} {m m' : Mem} {v : Value} (h0 : isAlloc o = true) (h : actG P cs ops pos tm m o = some (v, m')) : (m' = m ∧ ∀ m2 : Mem, actG P cs ops pos tm m2 o = some (v, m2)) ∨ ∃ (q : Nat) (k : Blk), pos = .at q ∧ noViewB k = true ∧ m[q]? = some .no ∧ m' = m.set q k ∧ ∀ m2 : Mem, m2[q]? = some .no → actG P cs ops pos tm m2 o = some (v, m2.set q k) := by
  unfold actG at h ⊢
  split at h
  · right
    obtain ⟨e, h1, h2⟩ := Ans.bind_some h
    have hact : ∀ m2, (act P cs pos tm m2 o).res = (runE (memClass P o) pos m2 e).res := fun m2 => by
      unfold act; rw [Ans.res_bind, h1]; rfl
    have hk : ∃ c g, e = .make (.cells true 0 c) g := by
      obtain ⟨dst, op, type, ps, after, guard⟩ := o
      unfold isAlloc at h0
      simp only at h0
      cases op with
      | alloc t =>
        simp only [effOf] at h1
        split at h1
        · split at h1
          · split at h1
            · simp only [Ans.res, Option.some.injEq] at h1
              exact ⟨_, _, h1.symm⟩
            · simp [Ans.res] at h1
          · simp [Ans.res] at h1
        · simp [Ans.res] at h1
      | _ => cases h0
    obtain ⟨c, g, rfl⟩ := hk
    simp only [runE] at h2
    split at h2
    · rename_i p hb
      split at h2
      · rename_i hn
        simp only [Ans.res, Option.some.injEq, Prod.mk.injEq] at h2
        obtain ⟨rfl, rfl⟩ := h2
        refine ⟨p, _, rfl, rfl, hn, rfl, fun m2 hm2 => ?_⟩
        rw [hact]
        simp only [runE, hb, hm2]
        rfl
      · simp [Ans.res] at h2
    · simp [Ans.res] at h2
  · simp only [Option.some.injEq, Prod.mk.injEq] at h
    obtain ⟨rfl, rfl⟩ := h
    exact Or.inl ⟨rfl, fun m2 => rfl⟩
  · cases h
/-- Class 1: a block is looked at, or none. -/
theorem actG_read1 {pos : Pos} {o : Oper} {tm : List Value} {m m' : Mem} {v : Value} (h0 : memClass P o = 1) (h : actG P cs ops pos tm m o = some (v, m')) : (∀ m2 : Mem, actG P cs ops pos tm m2 o = some (v, m2)) ∨ ∃ b, okPos pos b = true ∧ b < m.length ∧ ∀ m2 : Mem, m2[b]? = m[b]? → actG P cs ops pos tm m2 o = some (v, m2) := by
  unfold actG at h ⊢
  split at h
  · obtain ⟨e, h1, h2⟩ := Ans.bind_some h
    have hact : ∀ m2, (act P cs pos tm m2 o).res = (runE (memClass P o) pos m2 e).res := fun m2 => by
      unfold act; rw [Ans.res_bind, h1]; rfl
    cases e with
    | val u =>
      obtain ⟨rfl, rfl⟩ := valE h2
      exact Or.inl fun m2 => by rw [hact]; rfl
    | read b g =>
      simp only [runE] at h2
      split at h2
      · rename_i hq
        have hq' := hq
        rw [Bool.and_eq_true] at hq
        split at h2
        · rename_i k hk
          obtain ⟨u, h3, h4⟩ := Ans.bind_some h2
          simp only [Ans.res, Option.some.injEq, Prod.mk.injEq] at h4
          obtain ⟨rfl, rfl⟩ := h4
          refine Or.inr ⟨b, hq.2, (List.getElem?_eq_some_iff.1 hk).1, fun m2 hm2 => ?_⟩
          rw [hact]
          simp only [runE, hq']
          rw [hm2, hk]
          simp only
          rw [Ans.res_bind, h3]
          rfl
        · simp [Ans.res] at h2
      · simp [Ans.res] at h2
    | make k f => rw [h0] at h2; exact absurd h2 (by intro h; cases h)
    | upd b g => rw [h0] at h2; exact absurd h2 (by intro h; cases h)
    | all g => rw [h0] at h2; exact absurd h2 (by intro h; cases h)
  · simp only [Option.some.injEq, Prod.mk.injEq] at h
    obtain ⟨rfl, rfl⟩ := h
    exact Or.inl fun m2 => rfl
  · cases h
theorem low_lt {p q : Pos} {b : Nat} {m : Mem} (h : lowPos p q = true) (hl : lenOk p m = true) (hb : okPos q b = true) : b < m.length := by
  cases p with
  | low a =>
    have hl : a ≤ m.length := Nat.le_of_ble_eq_true hl
    cases q with
    | low c =>
      have h1 : c ≤ a := Nat.le_of_ble_eq_true h
      have h2 : b < c := Nat.blt_eq.mp hb
      omega
    | «at» c =>
      have h1 : c < a := Nat.blt_eq.mp h
      have h2 : c = b := Nat.eq_of_beq_eq_true hb
      omega
    | any => cases h
  | _ => cases h
/-- Up to class 2: nothing is turned, or a block is made. -/
theorem actG_makes {pos : Pos} {o : Oper} {tm : List Value} {m m' : Mem} {v : Value} (h0 : memClass P o ≤ 2) (h : actG P cs ops pos tm m o = some (v, m')) : m' = m ∨ ∃ (q : Nat) (k : Blk), m[q]? = some .no ∧ m' = m.set q k := by
  unfold actG at h
  split at h
  · obtain ⟨e, h1, h2⟩ := Ans.bind_some h
    cases e with
    | val u => exact Or.inl (valE h2).2
    | read b g =>
      simp only [runE] at h2
      split at h2
      · split at h2
        · obtain ⟨u, h3, h4⟩ := Ans.bind_some h2
          simp only [Ans.res, Option.some.injEq, Prod.mk.injEq] at h4
          exact Or.inl h4.2.symm
        · simp [Ans.res] at h2
      · simp [Ans.res] at h2
    | make k f =>
      simp only [runE] at h2
      split at h2
      · rename_i q _
        split at h2
        · rename_i hb
          simp only [Ans.res, Option.some.injEq, Prod.mk.injEq] at h2
          exact Or.inr ⟨q, k, hb, h2.2.symm⟩
        · simp [Ans.res] at h2
      · simp [Ans.res] at h2
    | upd b g =>
      simp only [runE] at h2
      split at h2
      · rename_i hq
        rw [Bool.and_eq_true] at hq
        have := Nat.eq_of_beq_eq_true hq.1
        omega
      · simp [Ans.res] at h2
    | all g =>
      simp only [runE] at h2
      split at h2
      · rename_i hq
        rw [Bool.and_eq_true] at hq
        have := Nat.eq_of_beq_eq_true hq.1
        omega
      · simp [Ans.res] at h2
  · simp only [Option.some.injEq, Prod.mk.injEq] at h
    exact Or.inl h.2.symm
  · cases h
theorem apart_ne {p q : Pos} (h : apartPos p q = true) {b c : Nat} (hb : okPos p b = true) (hc : okPos q c = true) : b ≠ c := by
  cases p with
  | any => simp [apartPos] at h
  | «at» a =>
    cases q with
    | any => simp [apartPos] at h
    | «at» d =>
      have h1 : a = b := Nat.eq_of_beq_eq_true hb
      have h2 : d = c := Nat.eq_of_beq_eq_true hc
      subst h1; subst h2
      intro e; subst e; simp [apartPos] at h
    | low n =>
      have h1 : a = b := Nat.eq_of_beq_eq_true hb
      have h2 : c < n := Nat.blt_eq.mp hc
      have h3 : n ≤ a := Nat.le_of_ble_eq_true h
      omega
  | low n =>
    cases q with
    | any => simp [apartPos] at h
    | «at» d =>
      have h1 : b < n := Nat.blt_eq.mp hb
      have h2 : d = c := Nat.eq_of_beq_eq_true hc
      have h3 : n ≤ d := Nat.le_of_ble_eq_true h
      omega
    | low k => simp [apartPos] at h

theorem putL_get {l : List Value} {dst : Option Tmp} {v : Value} {t : Tmp} (h : ∀ d, dst = some d → d ≠ t) : (putL l dst v)[t]? = l[t]? := by
  cases dst with
  | none => rfl
  | some d => simp only [putL]; rw [List.getElem?_set_ne (h d rfl)]
theorem putL_comm (l : List Value) {d e : Option Tmp} (v u : Value) (h : ∀ x, d = some x → e ≠ some x) : putL (putL l d v) e u = putL (putL l e u) d v := by
  cases d with
  | none => rfl
  | some x =>
    cases e with
    | none => rfl
    | some y =>
      have hne : x ≠ y := fun hxy => h x rfl (by rw [hxy])
      simp only [putL]
      exact List.set_comm _ _ hne

theorem swap_mem (hrd : RdOk cs) {x y : Oper} {px py : Pos} {tm : List Value} {m mx my : Mem} {vx vy : Value}
    (hcl : (Nat.beq (memClass P x) 0 || Nat.beq (memClass P y) 0 || (Nat.beq (memClass P x) 1 && Nat.beq (memClass P y) 1) || (Nat.ble (memClass P x) 3 && Nat.ble (memClass P y) 3 && apartPos px py) || (isRd P cs.rd 1 x && Nat.ble (memClass P y) 2) || (isRd P cs.rd 1 y && Nat.ble (memClass P x) 1) || (isRd P cs.rd 2 x && (Nat.beq (memClass P y) 1 && lowPos px py)) || (isRd P cs.rd 2 y && Nat.beq (memClass P x) 1) || (isRd P cs.rd 2 x && (isAlloc y && lowPos px py))) = true)
    (ex : actG P cs ops px tm m x = some (vx, mx)) (ey : actG P cs ops py tm mx y = some (vy, my)) :
    ∃ m1, actG P cs ops py tm m y = some (vy, m1) ∧ actG P cs ops px tm m1 x = some (vx, my) := by
  simp only [Bool.or_eq_true, Bool.and_eq_true] at hcl
  rcases hcl with (((((((h | h) | h) | h) | h) | h) | h) | h) | h
  · obtain ⟨rfl, hx⟩ := actG_quiet (Or.inl (Nat.eq_of_beq_eq_true h)) ex
    exact ⟨my, ey, hx my⟩
  · obtain ⟨rfl, hy⟩ := actG_quiet (Or.inl (Nat.eq_of_beq_eq_true h)) ey
    exact ⟨m, hy m, ex⟩
  · have e1 := actG_reads (Nat.eq_of_beq_eq_true h.1) ex
    subst e1
    have e2 := actG_reads (Nat.eq_of_beq_eq_true h.2) ey
    subst e2
    exact ⟨_, ey, ex⟩
  · obtain ⟨⟨hx, hy⟩, hp⟩ := h
    rcases actG_local (Nat.le_of_ble_eq_true hx) ex with ⟨rfl, hx'⟩ | ⟨b, ux, hb, rfl, hx'⟩
    · exact ⟨my, ey, hx' my⟩
    · rcases actG_local (Nat.le_of_ble_eq_true hy) ey with ⟨rfl, hy'⟩ | ⟨c, uy, hc, rfl, hy'⟩
      · exact ⟨m, hy' m, ex⟩
      · have hne : b ≠ c := apart_ne hp hb hc
        refine ⟨upd m c uy, hy' m (upd_get hne ux).symm, ?_⟩
        rw [hx' (upd m c uy) (upd_get (Ne.symm hne) uy), upd_comm hne]
  · obtain ⟨rfl, hx⟩ := actG_rd hrd h.1 ex
    rcases actG_makes (Nat.le_of_ble_eq_true h.2) ey with rfl | ⟨q, k, hq, rfl⟩
    · exact ⟨_, ey, ex⟩
    · exact ⟨_, ey, hx q k hq⟩
  · have hle := Nat.le_of_ble_eq_true h.2
    have e1 : mx = m := by
      rcases Nat.lt_or_ge (memClass P x) 1 with h0 | h0
      · exact (actG_quiet (Or.inl (by omega)) ex).1
      · exact actG_reads (by omega) ex
    subst e1
    obtain ⟨rfl, _⟩ := actG_rd hrd h.1 ey
    exact ⟨_, ey, ex⟩
  · obtain ⟨h1, h2, h3⟩ := h
    obtain ⟨new, rfl, hn, _⟩ := actG_rd2 hrd h1 ex
    have hc := Nat.eq_of_beq_eq_true h2
    have e2 := actG_reads hc ey
    subst e2
    refine ⟨m, ?_, ex⟩
    rcases actG_read1 hc ey with hy | ⟨b, hb, _, hy⟩
    · exact hy m
    · refine hy m ?_
      rcases hn with rfl | hn
      · rw [List.append_nil]
      · rw [List.getElem?_append_left (low_lt h3 hn hb)]
  · obtain ⟨h1, h2⟩ := h
    have hc := Nat.eq_of_beq_eq_true h2
    have e1 := actG_reads hc ex
    subst e1
    obtain ⟨new, rfl, _, _⟩ := actG_rd2 hrd h1 ey
    refine ⟨_, ey, ?_⟩
    rcases actG_read1 hc ex with hx | ⟨b, _, hb, hx⟩
    · exact hx _
    · exact hx _ (List.getElem?_append_left hb)
  · obtain ⟨h1, h2, h3⟩ := h
    obtain ⟨new, rfl, hn, hset⟩ := actG_rd2 hrd h1 ex
    rcases actG_alloc h2 ey with ⟨rfl, hy⟩ | ⟨q, k, hpos, hk, hq, rfl, hy⟩
    · exact ⟨m, hy m, ex⟩
    · have hqm : q < m.length := by
        rcases hn with rfl | hn
        · rw [List.append_nil] at hq
          exact (List.getElem?_eq_some_iff.1 hq).1
        · subst hpos
          exact low_lt h3 hn (by simp [okPos])
      rw [List.getElem?_append_left hqm] at hq
      refine ⟨m.set q k, hy m hq, ?_⟩
      rw [hset q k hk hq, List.set_append_left _ _ hqm]

theorem map_put {x : Option (Value × Mem)} {tm : List Value} {dst : Option Tmp} {s : St} (h : (x.map fun p => (⟨putL tm dst p.1, p.2⟩ : St)) = some s) : ∃ v m, x = some (v, m) ∧ s = ⟨putL tm dst v, m⟩ := by
  cases x with
  | none => simp at h
  | some p => obtain ⟨v, m⟩ := p; simp at h; exact ⟨v, m, rfl, h.symm⟩
theorem swap (hrd : RdOk cs) {x y : Oper} {px py : Pos} (ok : swapOk P cs.rd ops (x, px) (y, py) = true) {st s1 s2 : St} (h1 : stepR P cs ops x px st = some s1) (h2 : stepR P cs ops y py s1 = some s2) :
    ∃ s1', stepR P cs ops y py st = some s1' ∧ stepR P cs ops x px s1' = some s2 := by
  unfold swapOk at ok
  rw [Bool.and_eq_true] at ok
  obtain ⟨hap, hcl⟩ := ok
  obtain ⟨a1, a2, a3⟩ := Oper.apart_spec hap
  obtain ⟨tm, mem⟩ := st
  unfold stepR at h1
  obtain ⟨vx, mx, ex, rfl⟩ := map_put h1
  unfold stepR at h2
  obtain ⟨vy, my, ey, rfl⟩ := map_put h2
  simp only at ex ey
  have agY : ∀ t, t ∈ y.looksAt ops → (putL tm x.dst vx)[t]? = tm[t]? := fun t ht => putL_get fun d hd e => a1 d hd (e ▸ ht)
  have agX : ∀ (u : Value) t, t ∈ x.looksAt ops → (putL tm y.dst u)[t]? = tm[t]? := fun u t ht => putL_get fun d hd e => a3 d hd (e ▸ ht)
  have ey' : actG P cs ops py tm mx y = some (vy, my) := by
    rw [← actG_congr mx agY]; exact ey
  obtain ⟨m1, k1, k2⟩ := swap_mem hrd hcl ex ey'
  refine ⟨⟨putL tm y.dst vy, m1⟩, ?_, ?_⟩
  · unfold stepR; rw [k1]; rfl
  · unfold stepR
    simp only
    rw [actG_congr m1 (agX vy), k2]
    simp only [Option.map_some, Option.some.injEq]
    rw [putL_comm tm vx vy a2]
theorem front (hrd : RdOk cs) {y : Oper} {py : Pos} {post : List (Oper × Pos)} {s : St} : ∀ (pre : List (Oper × Pos)) (st : St), (∀ x ∈ pre, swapOk P cs.rd ops x (y, py) = true) → runR P cs ops (pre ++ (y, py) :: post) st = some s →
    ∃ s1, stepR P cs ops y py st = some s1 ∧ runR P cs ops (pre ++ post) s1 = some s
  | [], st, _, h => by
    simp only [List.nil_append, runR] at h
    cases hs : stepR P cs ops y py st with
    | none => simp [hs] at h
    | some s1 => simp only [hs] at h; exact ⟨s1, rfl, h⟩
  | (x, px) :: pre, st, hok, h => by
    simp only [List.cons_append, runR] at h
    cases hs : stepR P cs ops x px st with
    | none => simp [hs] at h
    | some s' =>
      simp only [hs] at h
      obtain ⟨s2, h2, h3⟩ := front hrd pre s' (fun z hz => hok z (by simp [hz])) h
      obtain ⟨s1, k1, k2⟩ := swap hrd (hok (x, px) (by simp)) hs h2
      exact ⟨s1, k1, by simp only [List.cons_append, runR, k2]; exact h3⟩
end

theorem okFrom_spec {P : Program} {rd : FuncId → Nat} {ops : Array Oper} {i : Nat} {x : Oper × Pos} : ∀ (l : List ((Oper × Pos) × Nat)), okFrom P rd ops i x l = true → ∀ y ∈ l, y.2.testBit i = false → swapOk P rd ops x y.1 = true
  | [], _, y, hy, _ => by cases hy
  | (z, m) :: l, h, y, hy, he => by
    simp only [okFrom, Bool.and_eq_true, Bool.or_eq_true] at h
    rcases List.mem_cons.1 hy with rfl | hy
    · rcases h.1 with h1 | h1
      · simp only at he; rw [he] at h1; cases h1
      · exact h1
    · exact okFrom_spec l h.2 y hy he

theorem okAll_spec {P : Program} {rd : FuncId → Nat} {ops : Array Oper} : ∀ (l : List ((Oper × Pos) × Nat)) (k : Nat), okAll P rd ops k l = true → ∀ (j i : Nat) (x y : (Oper × Pos) × Nat), j < i → l[j]? = some x → l[i]? = some y → y.2.testBit (k + j) = false → swapOk P rd ops x.1 y.1 = true
  | [], _, _, j, _, _, _, _, hx, _, _ => by simp at hx
  | (z, m) :: l, k, h, j, i, x, y, hji, hx, hy, he => by
    simp only [okAll, Bool.and_eq_true] at h
    cases i with
    | zero => omega
    | succ i =>
      simp only [List.getElem?_cons_succ] at hy
      cases j with
      | zero =>
        simp only [List.getElem?_cons_zero, Option.some.injEq] at hx
        subst hx
        exact okFrom_spec l h.1 y (List.mem_of_getElem? hy) (by simpa using he)
      | succ j =>
        simp only [List.getElem?_cons_succ] at hx
        exact okAll_spec l (k + 1) h.2 j i x y (by omega) hx hy (by rw [show k + 1 + j = k + (j + 1) by omega]; exact he)

/-- What a number's bits name has been listed, where all edges of its operation lead to what has been. -/
def MaskInv (ops : Array Oper) (L : Nat → Prop) (acc : List Nat) : Prop :=
  ∀ k o, k < acc.length → ops[k]? = some o → (∀ e ∈ o.after, Region.binds .any e = true → L e.on) → ∀ j, (acc.getD k 0).testBit j = true → L j

theorem fold_mask {ops : Array Oper} {L : Nat → Prop} {acc : List Nat} (hinv : MaskInv ops L acc) (hacc : acc.length ≤ ops.size) (hdown : ∀ k o, ops[k]? = some o → L k → ∀ e ∈ o.after, Region.binds .any e = true → L e.on) :
    ∀ (es : List Edge) (s : Nat), (∀ e ∈ es, Region.binds .any e = true → L e.on) → (∀ j, s.testBit j = true → L j) → ∀ j, (es.foldl (fun s e => match Region.binds .any e with
      | true => s ||| 2 ^ e.on ||| acc.getD e.on 0
      | false => s) s).testBit j = true → L j
  | [], s, _, hs, j, hj => hs j hj
  | e :: es, s, he, hs, j, hj => by
    rw [List.foldl_cons] at hj
    refine fold_mask hinv hacc hdown es _ (fun e' h' => he e' (by simp [h'])) ?_ j hj
    intro q hq
    cases hb : Region.binds .any e with
    | false => rw [hb] at hq; exact hs q hq
    | true =>
      rw [hb] at hq
      simp only [Nat.testBit_or, Bool.or_eq_true] at hq
      have hl := he e (by simp) hb
      rcases hq with (h1 | h1) | h1
      · exact hs q h1
      · rw [Nat.testBit_two_pow] at h1
        have : e.on = q := by simpa using h1
        rw [← this]; exact hl
      · by_cases hlt : e.on < acc.length
        · have ho : ops[e.on]? = some (ops[e.on]'(by omega)) := Array.getElem?_eq_getElem (by omega)
          exact hinv e.on _ hlt ho (hdown e.on _ ho hl) q h1
        · rw [List.getD_eq_getElem?_getD, List.getElem?_eq_none (by omega)] at h1
          simp at h1

theorem masks_spec {ops : Array Oper} {L : Nat → Prop} (hdown : ∀ k o, ops[k]? = some o → L k → ∀ e ∈ o.after, Region.binds .any e = true → L e.on) :
    ∀ (l : List Oper) (acc : List Nat), (∀ i, l[i]? = ops[acc.length + i]?) → MaskInv ops L acc → MaskInv ops L (masks acc l) ∧ (masks acc l).length = acc.length + l.length
  | [], acc, _, h => ⟨h, rfl⟩
  | y :: l, acc, hl, h => by
    have hy : ops[acc.length]? = some y := by have := hl 0; simpa using this.symm
    have hsz : acc.length < ops.size := (Array.getElem?_eq_some_iff.1 hy).1
    have := masks_spec hdown l (acc ++ [maskOf acc y]) (fun i => by
      have := hl (i + 1)
      simp only [List.getElem?_cons_succ] at this
      rw [this, List.length_append, List.length_singleton, show acc.length + (i + 1) = acc.length + 1 + i by omega]) (by
      intro k o hk ho he j hj
      rw [List.length_append, List.length_singleton] at hk
      rw [List.getD_eq_getElem?_getD, List.getElem?_append] at hj
      split at hj
      · rename_i hlt
        exact h k o hlt ho he j (by rw [List.getD_eq_getElem?_getD]; exact hj)
      · have hkk : k = acc.length := by omega
        subst hkk
        rw [hy] at ho
        simp only [Option.some.injEq] at ho
        subst ho
        simp only [Nat.sub_self, List.getElem?_cons_zero, Option.getD_some] at hj
        exact fold_mask h (by omega) hdown y.after.toList 0 (fun e he' hb => he e (Array.mem_toList_iff.1 he') hb) (fun j hj => by simp at hj) j hj)
    refine ⟨this.1, ?_⟩
    simp only [masks]
    rw [this.2]
    simp
    omega

theorem places_cons (P : Program) (draw : Bool) (tmps : List Value) (n0 : Nat) (env : List (Nat × Option Nat)) (n : Nat) (o : Oper) (l : List Oper) :
    ∃ b env' n', places P draw tmps n0 env n (o :: l) = (o, b) :: places P draw tmps n0 env' n' l := by
  cases hm : makes P o with
  | true => exact ⟨.at n, _, n + 1, by simp only [places, hm]; rfl⟩
  | false =>
    cases draw with
    | false => exact ⟨.any, env, n, by simp only [places, hm]⟩
    | true => exact ⟨_, _, n, by simp only [places, hm]; rfl⟩
theorem places_get (P : Program) (draw : Bool) (tmps : List Value) (n0 : Nat) : ∀ (l : List Oper) (env : List (Nat × Option Nat)) (n i : Nat), ((places P draw tmps n0 env n l)[i]?).map (·.1) = l[i]?
  | [], _, _, i => by simp [places]
  | o :: l, env, n, i => by
    obtain ⟨b, env', n', h⟩ := places_cons P draw tmps n0 env n o l
    rw [h]
    cases i with
    | zero => simp
    | succ i => simp only [List.getElem?_cons_succ]; exact places_get P draw tmps n0 l env' n' i
theorem places_length (P : Program) (draw : Bool) (tmps : List Value) (n0 : Nat) : ∀ (l : List Oper) (env : List (Nat × Option Nat)) (n : Nat), (places P draw tmps n0 env n l).length = l.length
  | [], _, _ => rfl
  | o :: l, env, n => by
    obtain ⟨b, env', n', hp⟩ := places_cons P draw tmps n0 env n o l
    rw [hp, List.length_cons, List.length_cons, places_length P draw tmps n0 l]

theorem okEdges_spec : ∀ (l : List Oper) (k : Nat), okEdges k l = true → ∀ (i : Nat) (y : Oper), l[i]? = some y → ∀ e ∈ y.after, Region.binds .any e = true → e.on < k + i
  | [], _, _, i, y, hy, _, _, _ => by simp at hy
  | z :: l, k, h, i, y, hy, e, he, hb => by
    simp only [okEdges, Bool.and_eq_true] at h
    cases i with
    | zero =>
      simp only [List.getElem?_cons_zero, Option.some.injEq] at hy
      subst hy
      have := List.all_eq_true.1 h.1 e (Array.mem_toList_iff.2 he)
      simpa [hb] using this
    | succ i =>
      simp only [List.getElem?_cons_succ] at hy
      have := okEdges_spec l (k + 1) h.2 i y hy e he hb
      omega

/-- What has not been listed yet, in the text's order. -/
def remIdx (n : Nat) (listed : Array Bool) : List Nat := (List.range n).filter fun i => !listed.getD i true
def remOps (pl : List (Oper × Pos)) (ops : Array Oper) (listed : Array Bool) : List (Oper × Pos) := (remIdx ops.size listed).filterMap (pl[·]?)

theorem mem_remIdx {n i : Nat} {listed : Array Bool} : i ∈ remIdx n listed ↔ i < n ∧ listed.getD i true = false := by
  simp [remIdx]

theorem getD_ft {listed : Array Bool} {n j : Nat} (hs : listed.size = n) (hj : j < n) (h : listed.getD j true = true) : listed.getD j false = true := by
  have hj' : j < listed.size := by omega
  simp only [Array.getD_eq_getD_getElem?, Array.getElem?_eq_getElem hj', Option.getD_some] at h ⊢
  exact h

theorem remIdx_split {n i : Nat} {listed : Array Bool} (hi : i < n) (hl : listed.getD i true = false) (hsz : listed.size = n) : ∃ pre post, remIdx n listed = pre ++ i :: post ∧ remIdx n (listed.setIfInBounds i true) = pre ++ post ∧ ∀ j ∈ pre, j < i ∧ listed.getD j true = false := by
  have hr : List.range n = List.range i ++ i :: List.range' (i + 1) (n - i - 1) := by
    have e1 : n = i + (1 + (n - i - 1)) := by omega
    rw [List.range_eq_range', e1, ← List.range'_append_1, List.range_eq_range', Nat.add_comm 1, List.range'_succ]
    simp
  have hne : ∀ j, j ≠ i → (listed.setIfInBounds i true).getD j true = listed.getD j true := fun j hj => by
    simp only [Array.getD_eq_getD_getElem?, Array.getElem?_setIfInBounds]
    rw [if_neg (fun e => hj e.symm)]
  have heq : (listed.setIfInBounds i true).getD i true = true := by
    simp only [Array.getD_eq_getD_getElem?, Array.getElem?_setIfInBounds]
    simp [hsz, hi]
  refine ⟨(List.range i).filter fun j => !listed.getD j true, (List.range' (i + 1) (n - i - 1)).filter fun j => !listed.getD j true, ?_, ?_, fun j hj => ?_⟩
  · unfold remIdx
    rw [hr, List.filter_append, List.filter_cons_of_pos (by simp only [hl]; rfl)]
  · unfold remIdx
    rw [hr, List.filter_append, List.filter_cons_of_neg (by simp only [heq]; decide)]
    congr 1
    · exact List.filter_congr fun j hj => by rw [hne j (by have := List.mem_range.1 hj; omega)]
    · exact List.filter_congr fun j hj => by rw [hne j (by have := List.mem_range'.1 hj; omega)]
  · simp at hj
    exact ⟨hj.1, by simpa using hj.2⟩

theorem wpAny_ok {P : Program} {cs : CallsX} (hcall : CallOk P cs) {ops : Array Oper} {pl : List (Oper × Pos)} (hpl : ∀ i : Nat, (pl[i]?).map (fun x => x.1) = ops.toList[i]?) (hok : okDraw P cs.rd ops pl = true)
    {Q : Exit → Act → World → Prop} {w0 : World} {keep : Keep} {r0 : Ren} {s : St} (hQ : ∀ a w, Rel w0 keep r0 s a w → Q .normal a w) :
    ∀ (fuel : Nat) (listed : Array Bool) (st : St) (a : Act) (w : World), listed.size = ops.size → (∀ k o, ops[k]? = some o → listed.getD k false = true → ∀ e ∈ o.after, Region.binds .any e = true → listed.getD e.on false = true) → (remIdx ops.size listed).length ≤ fuel → runR P cs ops (remOps pl ops listed) st = some s → Rel w0 keep r0 st a w → wpAny P .any ops Q fuel listed a w := by
  unfold okDraw at hok
  rw [Bool.and_eq_true] at hok
  have none_left : ∀ (listed : Array Bool) (st : St) (a : Act) (w : World), listed.size = ops.size → runR P cs ops (remOps pl ops listed) st = some s → Rel w0 keep r0 st a w → Region.ready .any ops listed = [] → Q .normal a w := by
    intro listed st a w hsz hrun hr hrd
    have hrem : remIdx ops.size listed = [] := by
      cases hc : remIdx ops.size listed with
      | nil => rfl
      | cons i rest =>
        exfalso
        have hi := (mem_remIdx (n := ops.size) (i := i) (listed := listed)).1 (by rw [hc]; simp)
        obtain ⟨pre, post, h1, _, h3⟩ := remIdx_split hi.1 hi.2 hsz
        have hpre : pre = [] := by
          cases pre with
          | nil => rfl
          | cons j pre =>
            rw [h1] at hc
            simp only [List.cons_append, List.cons.injEq] at hc
            have := (h3 j (by simp)).1
            omega
        subst hpre
        have hmin : ∀ j, j < i → listed.getD j true = true := by
          intro j hj
          cases hjl : listed.getD j true with
          | true => rfl
          | false =>
            have hm : j ∈ remIdx ops.size listed := mem_remIdx.2 ⟨by omega, hjl⟩
            rw [h1] at hm
            simp only [List.nil_append, List.mem_cons] at hm
            obtain ⟨pre2, post2, g1, _, g3⟩ := remIdx_split (n := ops.size) (i := j) (listed := listed) (by omega) hjl hsz
            rw [h1] at g1
            cases pre2 with
            | nil => simp only [List.nil_append, List.cons.injEq] at g1; omega
            | cons q pre2 =>
              simp only [List.nil_append, List.cons_append, List.cons.injEq] at g1
              have := (g3 q (by simp)).1
              omega
        have hin : i ∈ Region.ready .any ops listed := by
          rw [mem_ready]
          have hio : ops[i]? = some (ops[i]'hi.1) := Array.getElem?_eq_getElem hi.1
          refine ⟨hi.2, _, hio, ?_⟩
          intro e he hb
          have := okEdges_spec _ 0 hok.2 i _ (by rw [Array.getElem?_toList]; exact hio) e he hb
          exact getD_ft hsz (by omega) (hmin _ (by omega))
        rw [hrd] at hin
        cases hin
    unfold remOps at hrun
    rw [hrem] at hrun
    simp only [List.filterMap_nil, runR, Option.some.injEq] at hrun
    subst hrun
    exact hQ a w hr
  intro fuel
  induction fuel with
  | zero =>
    intro listed st a w hsz _ hf hrun hr
    have hrd : Region.ready .any ops listed = [] := by
      cases hc : Region.ready .any ops listed with
      | nil => rfl
      | cons i rest =>
        exfalso
        have hin : i ∈ Region.ready .any ops listed := by rw [hc]; simp
        rw [mem_ready] at hin
        obtain ⟨hl, o, ho, _⟩ := hin
        have : i ∈ remIdx ops.size listed := mem_remIdx.2 ⟨(Array.getElem?_eq_some_iff.1 ho).1, hl⟩
        have h0 : remIdx ops.size listed = [] := List.eq_nil_of_length_eq_zero (by omega)
        rw [h0] at this
        cases this
    exact ⟨hrd, none_left listed st a w hsz hrun hr hrd⟩
  | succ fuel ih =>
    intro listed st a w hsz hdown hf hrun hr
    refine ⟨none_left listed st a w hsz hrun hr, fun i hi => ?_⟩
    rw [mem_ready] at hi
    obtain ⟨hl, o, ho, hed⟩ := hi
    have hio := (Array.getElem?_eq_some_iff.1 ho).1
    obtain ⟨pre, post, h1, h2, h3⟩ := remIdx_split hio hl hsz
    have hyo' : ops.toList[i]? = some o := by rw [Array.getElem?_toList]; exact ho
    obtain ⟨y, hy⟩ : ∃ y, pl[i]? = some y := by
      have := hpl i
      rw [hyo'] at this
      cases hp : pl[i]? with
      | none => rw [hp] at this; cases this
      | some y => exact ⟨y, rfl⟩
    obtain ⟨y1, py⟩ := y
    have hy1 : y1 = o := by
      have := hpl i
      rw [hyo', hy] at this
      simpa using this
    subst hy1
    obtain ⟨hmi, hml⟩ := masks_spec (ops := ops) (L := fun k => listed.getD k false = true) hdown ops.toList [] (fun i => by simp) (fun k o hk => by simp at hk)
    simp only [List.length_nil, Nat.zero_add, Array.length_toList] at hml
    unfold remOps at hrun
    rw [h1, List.filterMap_append, List.filterMap_cons_some hy] at hrun
    obtain ⟨s1, k1, k2⟩ := front hcall.rd (pre.filterMap (pl[·]?)) st (fun x hx => by
      obtain ⟨j, hj, hjo⟩ := List.mem_filterMap.1 hx
      obtain ⟨hji, hjl⟩ := h3 j hj
      have hmj : (masks [] ops.toList)[j]? = some ((masks [] ops.toList)[j]'(by omega)) := List.getElem?_eq_getElem (by omega)
      have hmi2 : (masks [] ops.toList)[i]? = some ((masks [] ops.toList)[i]'(by omega)) := List.getElem?_eq_getElem (by omega)
      refine okAll_spec _ 0 hok.1 j i (x, (masks [] ops.toList)[j]'(by omega)) ((y1, py), (masks [] ops.toList)[i]'(by omega)) hji (List.getElem?_zip_eq_some.2 ⟨hjo, hmj⟩) (List.getElem?_zip_eq_some.2 ⟨hy, hmi2⟩) ?_
      cases he : ((masks [] ops.toList)[i]'(by omega)).testBit (0 + j) with
      | false => rfl
      | true =>
        exfalso
        rw [Nat.zero_add] at he
        have hq := hmi i y1 (by omega) ho hed j (by rw [List.getD_eq_getElem?_getD, hmi2]; exact he)
        have hj2 : j < listed.size := by omega
        simp only [Array.getD_eq_getD_getElem?, Array.getElem?_eq_getElem hj2, Option.getD_some] at hq hjl
        rw [hq] at hjl
        cases hjl) hrun
    refine stepR_sound hcall ho k1 hr fun a' w' hr' => ?_
    refine ih _ s1 a' w' (by simpa using hsz) ?_ ?_ ?_ hr'
    · intro k o' hk hlk e he hb
      by_cases hki : k = i
      · subst hki
        rw [ho] at hk
        simp only [Option.some.injEq] at hk
        subst hk
        exact getD_set_true (hed e he hb)
      · rw [getD_set_ne false (fun e => hki e.symm)] at hlk
        exact getD_set_true (hdown k o' hk hlk e he hb)
    · rw [h2]; rw [h1] at hf; simp at hf ⊢; omega
    · unfold remOps; rw [h2, List.filterMap_append]; exact k2

theorem remIdx_all (n : Nat) : remIdx n (Array.replicate n false) = List.range n := by
  unfold remIdx
  rw [List.filter_eq_self]
  intro i hi
  have := List.mem_range.1 hi
  simp [Array.getD_eq_getD_getElem?, this]

theorem remOps_all (pl : List (Oper × Pos)) (ops : Array Oper) (hl : pl.length = ops.size) : remOps pl ops (Array.replicate ops.size false) = pl := by
  unfold remOps
  rw [remIdx_all]
  have : ∀ (l : List (Oper × Pos)), (List.range l.length).filterMap (l[·]?) = l := by
    intro l
    induction l with
    | nil => rfl
    | cons x l ih =>
      rw [List.length_cons, List.range_succ_eq_map, List.filterMap_cons]
      simp only [List.getElem?_cons_zero, List.filterMap_map]
      congr 1
  have h := this pl
  rw [hl] at h
  exact h


theorem region_sound {P : Program} (hm : P.follows .mixedOrders = true) {cs : CallsX} (hcall : CallOk P cs) {ops : Array Oper} {id : Nat} {draw : Bool} {w0 : World} {keep : Keep} {r0 : Ren} {st s : St} {a : Act} {w : World} (hok : (!draw || okDraw P cs.rd ops (places P draw st.tmps st.mem.length [] st.mem.length ops.toList)) = true) {Q : Exit → Act → World → Prop}
    (hrun : runR P cs ops (places P draw st.tmps st.mem.length [] st.mem.length ops.toList) ⟨st.tmps, room P st.mem ops.toList⟩ = some s) (hQ : ∀ a w, Rel w0 keep r0 s a w → Q .normal a w) (hr : Rel w0 keep r0 st a w) : (Code.region id ops draw).wp P Q a w := by
  have hr' : Rel w0 keep r0 ⟨st.tmps, room P st.mem ops.toList⟩ a w := by
    obtain ⟨r, hx, h1, h2, h3⟩ := hr
    exact ⟨r, hx, h1, h2, h3.room _⟩
  have hpl := places_get P draw st.tmps st.mem.length ops.toList [] st.mem.length
  have hlen := places_length P draw st.tmps st.mem.length ops.toList [] st.mem.length
  have hsz : ops.toList.length = ops.size := Array.length_toList
  rw [hsz] at hlen
  cases draw with
  | false =>
    refine wp_region ?_
    have := runR_sound hcall hQ _ 0 _ a w (fun j => by
      rw [hpl j, hlen]
      split
      · simp
      · rename_i hj; rw [List.getElem?_eq_none (by simp; omega)]) hrun hr'
    rw [hlen, ← List.range_eq_range'] at this
    exact this
  | true =>
    refine wp_region_any hm ?_
    refine wpAny_ok hcall hpl (by simpa using hok) hQ ops.size _ ⟨st.tmps, room P st.mem ops.toList⟩ a _ (by simp) (fun k o hk hl => ?_) (by rw [remIdx_all]; simp) (by rw [remOps_all _ _ hlen]; exact hrun) ?_
    · exfalso
      have := (Array.getElem?_eq_some_iff.1 hk).1
      simp [Array.getD_eq_getD_getElem?, this] at hl
    · obtain ⟨r, hx, h1, h2, h3⟩ := hr'
      refine ⟨r, hx, h1, h2, h3.os, h3.tape, h3.output, Nat.le_trans h3.drawn (Nat.le_succ _), h3.size, h3.klt, h3.kept, h3.none, h3.dead, fun b p hb => ?_, h3.own, h3.read, h3.vw, h3.sep, h3.inj⟩
      obtain ⟨k, k1, k2⟩ := h3.blk b p hb
      exact ⟨k, k1, k2.mono rfl (Ext.refl r)⟩

end Go.Proofs.Ytjpfnfckpgilgaa.Vx


namespace Go.Proofs.Ytjpfnfckpgilgaa.Vx
open Go Go.RowKit

/-- Inside a loop, ahead of its body. -/
def LoopsTo (P : Program) (c : Code) (Q : Exit → Act → World → Prop) (a : Act) (w : World) : Prop :=
  ∀ (b : Frame) (k : List Item) (cs : List Frame), ∃ e a' w', Q e a' w' ∧ Arrives P (lone (b.at a (.code c :: .inLoop c :: k)) cs w) b k cs e a' w'
theorem LoopsTo.wp {P : Program} {c : Code} {Q : Exit → Act → World → Prop} {a : Act} {w : World} (h : LoopsTo P c Q a w) : (Code.loop c).wp P Q a w := fun b k cs => by
  obtain ⟨e, a', w', hq, harr⟩ := h b k cs
  exact ⟨e, a', w', hq, .of_steps (.one step_loop) harr⟩
theorem LoopsTo.round {P : Program} {c : Code} {Q : Exit → Act → World → Prop} {a : Act} {w : World} (h : c.wp P (Exit.then (LoopsTo P c Q) Q) a w) : LoopsTo P c Q a w := fun b k cs => by
  obtain ⟨e, a₁, w₁, hq, harr⟩ := h b (.inLoop c :: k) cs
  cases e with
  | normal =>
    obtain ⟨e₂, a₂, w₂, hq₂, harr₂⟩ := hq b k cs
    exact ⟨e₂, a₂, w₂, hq₂, .of_steps (Steps.trans harr (.one step_inLoop)) harr₂⟩
  | exit id => exact ⟨_, a₁, w₁, hq, .pass (x := .inLoop c) rfl (fun _ _ => .inl (by simp)) harr⟩
  | goto l => exact ⟨_, a₁, w₁, hq, .pass (x := .inLoop c) rfl (fun _ _ => .inl (by simp)) harr⟩
  | ret => exact ⟨_, a₁, w₁, hq, .pass (x := .inLoop c) rfl (fun _ _ => .inl (by simp)) harr⟩
  | panic ch => exact ⟨_, a₁, w₁, hq, .pass (x := .inLoop c) rfl (fun _ _ => .inl (by simp)) harr⟩
  | outgrown => exact ⟨_, a₁, w₁, hq, .pass (x := .inLoop c) rfl (fun _ _ => .inl (by simp)) harr⟩

/-- What a loop comes to, in a function that was entered with at most B blocks. -/
def LoopSem (P : Program) (B : Nat) (x : Code) (st : St) (e : Exit) (s : St) : Prop :=
  ∀ (Q : Exit → Act → World → Prop) (w0 : World) (keep : Keep) (r0 : Ren) (a : Act) (w : World), (∀ b, B ≤ b → r0 b = none) → (∀ a w, Rel w0 keep r0 s a w → Q e a w) → Rel w0 keep r0 st a w → LoopsTo P x Q a w
/-- What code comes to. -/
def CodeSem (P : Program) (B : Nat) (c : Code) (st : St) (e : Exit) (s : St) : Prop :=
  ∀ (Q : Exit → Act → World → Prop) (w0 : World) (keep : Keep) (r0 : Ren) (a : Act) (w : World), (∀ b, B ≤ b → r0 b = none) → (∀ a w, Rel w0 keep r0 s a w → Q e a w) → Rel w0 keep r0 st a w → c.wp P Q a w

/-- What a table's functions and loops, and the functions that are walked into, must be. -/
structure CxOk (C : Cx) : Prop where
  mixed : C.P.follows .mixedOrders = true
  tbl : ∀ f args v, (∀ x ∈ args, plain x = true) → C.tbl f args = some (true, v) → plain v = true → PlainSem C.P f args v
  tbm : ∀ f args m ans v m', C.tbm f args m = some ans → ans.res = some (v, m') → MemSem C.P f args m v m'
  keys : ∀ kt n, C.keys kt = some n → KeyOk C.P kt n
  inl : ∀ f fn, C.inl f = some fn → C.P.funcs[f]? = some fn ∧ (fn.name == "runtime.NumGoroutine") = false
  lp : ∀ f fn b, C.P.funcs[f]? = some fn → fn.body = some b → ∀ x ∈ loopsIn b, ∀ B st ans e s, C.lp f (loopKey x) B st = some ans → ans.res = some (e, s) → LoopSem C.P B x st e s
  rd : ∀ f, C.rd f = 1 → ∀ args m ans v m', C.tbm f args m = some ans → ans.res = some (v, m') → m' = m ∧ ∀ (q : Nat) k, m[q]? = some .no → ∃ ans', C.tbm f args (m.set q k) = some ans' ∧ ans'.res = some (v, m.set q k)
  rd2 : ∀ f, C.rd f = 2 → ∀ args m ans v m', C.tbm f args m = some ans → ans.res = some (v, m') → ∃ new, m' = m ++ new ∧ ∀ (q : Nat) k, noViewB k = true → m[q]? = some .no → ∃ ans', C.tbm f args (m.set q k) = some ans' ∧ ans'.res = some (v, m.set q k ++ new)
theorem CxOk.at {C : Cx} (h : CxOk C) (f : FuncId) : CxOk (C.at f) := ⟨h.mixed, h.tbl, h.tbm, h.keys, h.inl, h.lp, h.rd, h.rd2⟩
theorem CxOk.into {C : Cx} (h : CxOk C) (f : FuncId) (n : Nat) : CxOk (C.into f n) := ⟨h.mixed, h.tbl, h.tbm, h.keys, h.inl, h.lp, h.rd, h.rd2⟩

/-- The loops of a piece of code are those of the function that is walked through, or none of that function's is told. -/
def InBody (C : Cx) (c : Code) : Prop := (∃ fn b, C.P.funcs[C.cur]? = some fn ∧ fn.body = some b ∧ ∀ x ∈ loopsIn c, x ∈ loopsIn b) ∨ ∀ k n st, C.lp C.cur k n st = none
theorem InBody.sub {C : Cx} {c d : Code} (h : InBody C c) (hs : ∀ x ∈ loopsIn d, x ∈ loopsIn c) : InBody C d := by
  rcases h with ⟨fn, b, h1, h2, h3⟩ | h
  · exact Or.inl ⟨fn, b, h1, h2, fun x hx => h3 x (hs x hx)⟩
  · exact Or.inr h

def resSem (tmps : Array Value) : ResultVar → Sem Value
  | .tmp t => pure (tmps.getD t undef)
  | .cell b t => do loadVar t (← asAddr (tmps.getD b undef))
theorem resOf_run {P : Program} {w0 : World} {keep : Keep} {r : Ren} {st : St} {a : Act} {w : World} (hr : RelAt w0 keep r st a w) {x : ResultVar} {v : Value} (h : resOf st P x = some v) : ∃ v', (resSem a.tmps x).run P w = .ok v' w ∧ R r v v' := by
  cases x with
  | tmp t =>
    simp only [resOf, Option.some.injEq] at h
    subst h
    exact ⟨_, rfl, eval_R hr (.tmp t)⟩
  | cell b t =>
    simp only [resOf] at h
    split at h
    · rename_i q hq
      split at h
      · rename_i k hk
        have hx := eval_R hr (.tmp b)
        rw [hq] at hx
        obtain ⟨q', hq', hl⟩ := R_ptr hx
        obtain ⟨p, hp, rfl, hh, hkr⟩ := live_of (tm := st.tmps) (m := st.mem) hr hk hl (loadB_gone h)
        obtain ⟨v', g1, g2⟩ := load_run hkr h hh
        refine ⟨v', ?_, g2⟩
        have hq2 : a.tmps.getD b undef = .pointer (some (p.addr q)) := hq'
        simp only [resSem, hq2, asAddr, Sem.run_bind, Sem.run_pure, Result.andThen_ok, g1]
      · cases h
    · cases h
theorem results_eq (fn : Func) (tmps : Array Value) : results fn tmps = (do let vs ← fn.results.mapM (resSem tmps); pure (if h : vs.size = 1 then vs[0] else .tuple vs)) := by
  unfold results
  have : (fun x => (match x with
      | .tmp t => pure (tmps.getD t undef)
      | .cell b t => do loadVar t (← asAddr (tmps.getD b undef)) : Sem Value)) = resSem tmps := by funext x; cases x <;> rfl
  rw [← this]
  rfl
theorem results_run {P : Program} {w0 : World} {keep : Keep} {r : Ren} {st : St} {a : Act} {w : World} (hr : RelAt w0 keep r st a w) {fn : Func} {v : Value} (h : resV P fn st = some v) (hnt : ∀ vs, resAll P st fn.results.toList = some vs → ∀ x ∈ vs, ∀ ws, x ≠ .tuple ws) : ∃ v', (results fn a.tmps).run P w = .ok v' w ∧ R r v v' := by
  have hall : ∀ (l : List ResultVar) (vs : List Value), resAll P st l = some vs → ∃ vs', (l.mapM (resSem a.tmps)).run P w = .ok vs' w ∧ RL (R r) vs vs' := by
    intro l
    induction l with
    | nil => intro vs hv; simp [resAll] at hv; subst hv; exact ⟨[], rfl, trivial⟩
    | cons x l ih =>
      intro vs hv
      simp only [resAll] at hv
      cases hx : resOf st P x with
      | none => simp [hx] at hv
      | some u =>
        simp only [hx] at hv
        cases hl : resAll P st l with
        | none => simp [hl] at hv
        | some us =>
          simp only [hl, Option.some.injEq] at hv
          subst hv
          obtain ⟨u', h1, h2⟩ := resOf_run hr hx
          obtain ⟨us', h3, h4⟩ := ih us hl
          refine ⟨u' :: us', ?_, h2, h4⟩
          rw [List.mapM_cons]
          simp only [Sem.run_bind, h1, Result.andThen_ok, h3, Sem.run_pure]
  unfold resV at h
  cases hv : resAll P st fn.results.toList with
  | none => simp [hv] at h
  | some vs =>
    obtain ⟨vs', hm, hrl⟩ := hall _ vs hv
    rw [hv] at h
    have hnt' := hnt vs hv
    have key : (results fn a.tmps).run P w = .ok (if h : vs'.toArray.size = 1 then vs'.toArray[0] else .tuple vs'.toArray) w := by
      rw [results_eq]
      simp only [Array.mapM_eq_mapM_toList, Sem.run_bind]
      rw [map_eq_pure_bind]
      simp only [Sem.run_bind, hm, Result.andThen_ok, Sem.run_pure]
    match vs, vs', h, hrl, hnt', key with
    | [], [], h, _, _, key => simp at h; subst h; exact ⟨_, key, ⟨#[], rfl, trivial⟩⟩
    | [u], [u'], h, hrl, _, key => simp at h; subst h; exact ⟨_, key, hrl.1⟩
    | u :: u2 :: us, u' :: u2' :: us', h, hrl, hnt', key =>
      simp only [Option.some.injEq] at h
      subst h
      refine ⟨_, key, ?_⟩
      have : ¬ (u' :: u2' :: us').toArray.size = 1 := by simp
      rw [dif_neg this]
      refine ⟨_, rfl, ?_⟩
      have conv : ∀ (l l' : List Value), RL (R r) l l' → (∀ x ∈ l, ∀ ws, x ≠ .tuple ws) → RL (R1 r) l l' := by
        intro l
        induction l with
        | nil => intro l' h _; cases l' with
          | nil => trivial
          | cons y l' => exact h.elim
        | cons x l ih => intro l' h hn; cases l' with
          | nil => exact h.elim
          | cons y l' => exact ⟨(R1_R (hn x (by simp))).1 h.1, ih l' h.2 fun z hz => hn z (by simp [hz])⟩
      exact conv _ _ hrl hnt'
    | [], _ :: _, _, h, _, _ => exact h.elim
    | [_], [], _, h, _, _ => exact h.elim
    | [_], _ :: _ :: _, _, h, _, _ => exact h.2.elim
    | _ :: _ :: _, [], _, h, _, _ => exact h.elim
    | _ :: _ :: _, [_], _, h, _, _ => exact h.2.elim

theorem RL_const (r : Ren) : ∀ (n : Nat), RL (R r) (List.replicate n undef) (List.replicate n undef)
  | 0 => trivial
  | n + 1 => ⟨R_undef r, RL_const r n⟩
theorem enter_rel {fn : Func} {args args' : List Value} {m : Mem} {w0 : World} {keep : Keep} {r : Ren} {w : World} (ha : RL (R r) args args') (hm : MemRel w0 keep r m w) : RelAt w0 keep r (enter fn args m) { tmps := args'.toArray ++ Array.replicate (fn.ntmps - args'.toArray.size) undef, defers := [] } w := by
  refine ⟨rfl, ?_, hm⟩
  simp only [enter, Array.toList_append, List.size_toArray, Array.toList_replicate]
  rw [← ha.length]
  exact RL.append ha (RL_const r _)

theorem noTup_iff : ∀ {l : List Value}, noTup l = true → ∀ x ∈ l, ∀ ws, x ≠ .tuple ws
  | [], _, x, hx, _ => by cases hx
  | y :: l, h, x, hx, ws => by
    rcases List.mem_cons.1 hx with rfl | hx
    · rintro rfl; simp [noTup] at h
    · refine noTup_iff ?_ x hx ws
      cases y <;> first | exact h | (simp [noTup] at h)
theorem retA_spec {P : Program} {fn : Func} {e : Exit} {s : St} {v : Value} {m' : Mem} (h : (retA P fn (e, s)).res = some (v, m')) : (e = .normal ∨ e = .ret) ∧ resV P fn s = some v ∧ m' = s.mem ∧ ∀ vs, resAll P s fn.results.toList = some vs → ∀ x ∈ vs, ∀ ws, x ≠ .tuple ws := by
  unfold retA at h
  simp only at h
  have key : (match resAll P s fn.results.toList with
      | some vs => match noTup vs with
        | true => match resV P fn s with
          | some v => Ans.out (v, s.mem)
          | none => .fail
        | false => .fail
      | none => .fail).res = some (v, m') → resV P fn s = some v ∧ m' = s.mem ∧ ∀ vs, resAll P s fn.results.toList = some vs → ∀ x ∈ vs, ∀ ws, x ≠ .tuple ws := by
    intro h
    cases hv : resAll P s fn.results.toList with
    | none => simp [hv, Ans.res] at h
    | some vs =>
      simp only [hv] at h
      split at h
      · rename_i hn
        split at h
        · rename_i u hu
          simp only [Ans.res, Option.some.injEq, Prod.mk.injEq] at h
          refine ⟨by rw [hu, h.1], h.2.symm, fun vs' hvs => ?_⟩
          simp only [Option.some.injEq] at hvs
          subst hvs
          exact noTup_iff hn
        · simp [Ans.res] at h
      · simp [Ans.res] at h
  cases e with
  | normal => exact ⟨Or.inl rfl, key h⟩
  | ret => exact ⟨Or.inr rfl, key h⟩
  | _ => simp [Ans.res] at h
/-- A body that comes to a return is a call. -/
theorem body_mem {P : Program} {f : FuncId} {fn : Func} {b : Code} {args : List Value} {m m' : Mem} {v : Value} {e : Exit} {s : St} (hf : P.funcs[f]? = some fn) (hb : fn.body = some b) (hn : (fn.name == "runtime.NumGoroutine") = false) (hsem : CodeSem P m.length b (enter fn args m) e s) (hret : (retA P fn (e, s)).res = some (v, m')) : MemSem P f args m v m' := by
  obtain ⟨he, hres, rfl, hnt⟩ := retA_spec hret
  refine ⟨⟨fn, hf, hn, by rw [hb]; rfl⟩, fun w0 keep r args' w ha hm => ?_⟩
  refine calls_of_wp hf hb ?_
  refine hsem _ w0 keep r _ w (fun b hb => hm.none b (Or.inl (List.getElem?_eq_none hb))) ?_ ⟨r, Ext.refl r, enter_rel ha hm⟩
  intro a' w' ⟨r', hx, hr'⟩
  obtain ⟨v', h1, h2⟩ := results_run hr' hres hnt
  rcases he with rfl | rfl
  · exact ⟨hr'.1, v', h1, v', r', rfl, h2, hr'.2.2, hx⟩
  · exact ⟨hr'.1, v', h1, v', r', rfl, h2, hr'.2.2, hx⟩
def noRen : Ren := fun _ => none
theorem start_rel (w : World) : MemRel w ⟨fun j => j < w.heap.size, fun j => j < w.heap.size, fun _ h => h⟩ noRen [] w :=
  ⟨rfl, rfl, rfl, Nat.le_refl _, Nat.le_refl _, fun _ h => h, fun _ _ => rfl, fun _ _ => rfl, fun b h => by simp [noRen] at h, fun b p h => by simp [noRen] at h, fun b p h => by simp [noRen] at h, fun b p h => by simp [noRen] at h, fun b p h => by simp [noRen] at h, fun b c p q h => by simp [noRen] at h, fun b c p q h => by simp [noRen] at h⟩
theorem RL_plain {r : Ren} : ∀ {l : List Value}, (∀ x ∈ l, plain x = true) → RL (R r) l l
  | [], _ => trivial
  | x :: l, h => ⟨(R_plain (h x (by simp))).2 rfl, RL_plain fun y hy => h y (by simp [hy])⟩
/-- A call that starts with no memory and answers none. -/
theorem MemSem.plain {P : Program} {f : FuncId} {args : List Value} {m' : Mem} {v : Value} (h : MemSem P f args [] v m') (ha : ∀ x ∈ args, plain x = true) (hv : plain v = true) : PlainSem P f args v := by
  refine ⟨h.1, fun w => ?_⟩
  refine (h.2 w _ noRen args w (RL_plain ha) (start_rel w)).mono ?_
  rintro e w' ⟨v', r', rfl, h1, h2, h3⟩
  rw [(R_plain hv).1 h1]
  exact ⟨rfl, ⟨h2.os, h2.tape, h2.output, h2.size, fun k hk => h2.kept k hk⟩, h2.drawn⟩

/-! ## Code -/
def Sound (C : Cx) (n : Nat) : Prop := ∀ f B c, InBody (C.into f B) c → ∀ st e s, (exCode n (C.into f B) c st).res = some (e, s) → CodeSem C.P B c st e s
def SoundLoop (C : Cx) (n : Nat) : Prop := ∀ f B x, InBody (C.into f B) (.loop x) → ∀ st e s, (exCode n (C.into f B) (.loop x) st).res = some (e, s) → LoopSem C.P B x st e s

theorem callsOf_ok {C : Cx} (hC : CxOk C) {n : Nat} (ih : Sound C n) (g : FuncId) (B : Nat) : CallOk C.P (callsOf (C.into g B) (exCode n)) := by
  have inner : ∀ f fn b args m v m', C.inl f = some fn → fn.body = some b → ((exCode n (C.into f m.length) b (enter fn args m)).bind (retA C.P fn)).res = some (v, m') → MemSem C.P f args m v m' := by
    intro f fn b args m v m' hfn hb h
    obtain ⟨⟨e, s⟩, h1, h2⟩ := Ans.bind_some h
    obtain ⟨g1, g2⟩ := hC.inl f fn hfn
    exact body_mem g1 hb g2 (ih f m.length b (Or.inl ⟨fn, b, g1, hb, fun x hx => hx⟩) _ _ _ h1) h2
  have noInl : ∀ {f z : Nat}, C.rdOf f = z + 1 → C.rd f = z + 1 ∧ ∀ args m, (callsOf (C.into g B) (exCode n)).mm f args m = match C.tbm f args m with
      | some a => a
      | none => .fail := fun {f z} hf => by
    unfold Cx.rdOf at hf
    cases hi : C.inl f with
    | some fn => rw [hi] at hf; cases hf
    | none =>
      rw [hi] at hf
      refine ⟨hf, fun args m => ?_⟩
      cases ht : C.tbm f args m with
      | some a => simp only [callsOf, Cx.into, ht]
      | none => simp only [callsOf, Cx.into, ht, hi]
  refine ⟨fun f args v hargs h hv => ?_, fun f args m v m' h => ?_, hC.keys, fun f hf args m v m' h => ?_, fun f hf args m v m' h => ?_⟩
  · simp only [callsOf] at h
    split at h
    · rename_i d u htbl
      rcases Ans.br_some h with ⟨rfl, h⟩ | ⟨rfl, h⟩
      · simp only [Ans.res, Option.some.injEq] at h
        subst h
        exact hC.tbl f args _ hargs htbl hv
      · simp [Ans.res] at h
    · split at h
      · rename_i fn hfn
        split at h
        · rename_i b hb
          obtain ⟨⟨u, m'⟩, h1, h2⟩ := Ans.bind_some h
          simp only [Ans.res, Option.some.injEq] at h2
          subst h2
          exact (inner f fn b args [] u m' hfn hb h1).plain hargs hv
        · simp [Ans.res] at h
      · simp [Ans.res] at h
  · simp only [callsOf] at h
    split at h
    · rename_i ans hans
      exact hC.tbm f args m ans v m' hans h
    · split at h
      · rename_i fn hfn
        split at h
        · rename_i b hb
          exact inner f fn b args m v m' hfn hb h
        · simp [Ans.res] at h
      · simp [Ans.res] at h
  · obtain ⟨h0, hmm⟩ := noInl (f := f) (z := 0) hf
    rw [hmm] at h
    split at h
    · rename_i ans hans
      obtain ⟨e1, e2⟩ := hC.rd f h0 args m ans v m' hans h
      refine ⟨e1, fun q k hq => ?_⟩
      obtain ⟨ans', h1, h2⟩ := e2 q k hq
      rw [hmm, h1]
      exact h2
    · simp [Ans.res] at h
  · obtain ⟨h0, hmm⟩ := noInl (f := f) (z := 1) hf
    rw [hmm] at h
    split at h
    · rename_i ans hans
      obtain ⟨new, e1, e2⟩ := hC.rd2 f h0 args m ans v m' hans h
      refine ⟨new, e1, fun q k hk hq => ?_⟩
      obtain ⟨ans', h1, h2⟩ := e2 q k hk hq
      rw [hmm, h1]
      exact h2
    · simp [Ans.res] at h

theorem exCode_sound {C : Cx} (hC : CxOk C) : ∀ n, Sound C n ∧ SoundLoop C n := by
  intro n
  induction n with
  | zero => exact ⟨fun f B c _ st e s h => by simp [exCode, Ans.res] at h, fun f B x _ st e s h => by simp [exCode, Ans.res] at h⟩
  | succ n ih =>
    obtain ⟨ih, ihl⟩ := ih
    have hloop : SoundLoop C (n + 1) := by
      intro f B x hin st e s h Q w0 keep r0 a w hB hQ hr
      simp only [exCode] at h
      split at h
      · rename_i ans hans
        rcases hin with ⟨fn, b, h1, h2, h3⟩ | hno
        · exact hC.lp f fn b h1 h2 x (h3 x (by simp [loopsIn])) B st ans e s hans h Q w0 keep r0 a w hB hQ hr
        · have := hno (loopKey x) (C.into f B).fb st
          rw [this] at hans; cases hans
      · obtain ⟨⟨e1, s1⟩, h1, h2⟩ := Ans.bind_some h
        refine LoopsTo.round ?_
        refine ih f B x (hin.sub fun y hy => by simp [loopsIn, hy]) st e1 s1 h1 _ w0 keep r0 a w hB ?_ hr
        intro a' w' hr'
        simp only at h2
        cases e1 with
        | normal => exact ihl f B x hin s1 e s h2 Q w0 keep r0 a' w' hB hQ hr'
        | _ =>
          simp only [Ans.res, Option.some.injEq, Prod.mk.injEq] at h2
          obtain ⟨rfl, rfl⟩ := h2
          exact hQ a' w' hr'
    refine ⟨?_, hloop⟩
    intro f B c hin st e s h Q w0 keep r0 a w hB hQ hr
    cases c with
    | skip =>
      simp only [exCode, Ans.res, Option.some.injEq, Prod.mk.injEq] at h
      obtain ⟨rfl, rfl⟩ := h
      exact wp_skip (hQ a w hr)
    | label l =>
      simp only [exCode, Ans.res, Option.some.injEq, Prod.mk.injEq] at h
      obtain ⟨rfl, rfl⟩ := h
      exact wp_label (hQ a w hr)
    | exit id =>
      simp only [exCode, Ans.res, Option.some.injEq, Prod.mk.injEq] at h
      obtain ⟨rfl, rfl⟩ := h
      exact wp_exit (hQ a w hr)
    | ret =>
      simp only [exCode, Ans.res, Option.some.injEq, Prod.mk.injEq] at h
      obtain ⟨rfl, rfl⟩ := h
      exact wp_ret (hQ a w hr)
    | seq x y =>
      simp only [exCode] at h
      obtain ⟨⟨e1, s1⟩, h1, h2⟩ := Ans.bind_some h
      refine wp_seq (ih f B x (hin.sub fun z hz => by simp [loopsIn, hz]) st e1 s1 h1 _ w0 keep r0 a w hB ?_ hr)
      intro a' w' hr'
      simp only at h2
      cases e1 with
      | normal => exact ih f B y (hin.sub fun z hz => by simp [loopsIn, hz]) s1 e s h2 Q w0 keep r0 a' w' hB hQ hr'
      | _ =>
        simp only [Ans.res, Option.some.injEq, Prod.mk.injEq] at h2
        obtain ⟨rfl, rfl⟩ := h2
        exact hQ a' w' hr'
    | cond c x y =>
      cases c with
      | tmp t =>
        simp only [exCode] at h
        split at h
        · rename_i b hb
          obtain ⟨r, hx, hr'⟩ := hr
          have he : a.eval (.tmp t) = .bool b := by
            have := eval_R hr' (.tmp t)
            simp only [ev, hb, Option.getD_some] at this
            exact R_bool this
          rcases Ans.br_some h with ⟨rfl, h⟩ | ⟨rfl, h⟩
          · simp only [lit_self hb] at h
            exact wp_cond_true he (ih f B x (hin.sub fun z hz => by simp [loopsIn, hz]) st e s h Q w0 keep r0 a w hB hQ ⟨r, hx, hr'⟩)
          · simp only [lit_self hb] at h
            exact wp_cond_false he (ih f B y (hin.sub fun z hz => by simp [loopsIn, hz]) st e s h Q w0 keep r0 a w hB hQ ⟨r, hx, hr'⟩)
        · simp [Ans.res] at h
      | _ => simp [exCode, Ans.res] at h
    | block id x =>
      simp only [exCode] at h
      obtain ⟨⟨e1, s1⟩, h1, h2⟩ := Ans.bind_some h
      refine wp_block (ih f B x (hin.sub fun z hz => by simpa [loopsIn] using hz) st e1 s1 h1 _ w0 keep r0 a w hB ?_ hr)
      intro a' w' hr'
      simp only at h2
      cases e1 with
      | exit i =>
        simp only [Exit.inBlock]
        simp only at h2
        cases hb : Nat.beq i id with
        | true =>
          have hi : i = id := Nat.eq_of_beq_eq_true hb
          simp only [hb, Ans.res, Option.some.injEq, Prod.mk.injEq] at h2
          obtain ⟨rfl, rfl⟩ := h2
          rw [if_pos hi]
          exact hQ a' w' hr'
        | false =>
          have hi : i ≠ id := fun e => by subst e; simp at hb
          simp only [hb, Ans.res, Option.some.injEq, Prod.mk.injEq] at h2
          obtain ⟨rfl, rfl⟩ := h2
          rw [if_neg hi]
          exact hQ a' w' hr'
      | _ =>
        simp only [Ans.res, Option.some.injEq, Prod.mk.injEq] at h2
        obtain ⟨rfl, rfl⟩ := h2
        exact hQ a' w' hr'
    | loop x => exact (hloop f B x hin st e s h Q w0 keep r0 a w hB hQ hr).wp
    | region id ops draw =>
      simp only [exCode] at h
      split at h
      · rename_i hok
        obtain ⟨s1, h1, h2⟩ := Ans.bind_some h
        simp only [Ans.res, Option.some.injEq, Prod.mk.injEq] at h2
        obtain ⟨rfl, rfl⟩ := h2
        rw [opsA_res] at h1
        exact region_sound hC.mixed (callsOf_ok hC ih f B) hok h1 (fun a w hr => hQ a w hr) hr
      · simp [Ans.res] at h
    | _ => simp [exCode, Ans.res] at h

/-- A function that the executor runs is called so. -/
theorem exFunA_sem {C : Cx} (hC : CxOk C) {n : Nat} {f : FuncId} {fn : Func} {args : List Value} {m m' : Mem} {v : Value} (hf : C.P.funcs[f]? = some fn) (hok : (fn.name == "runtime.NumGoroutine") = false) (hcur : C.cur = f ∨ ∀ k n st, C.lp C.cur k n st = none) (h : (exFunA C n fn args m).res = some (v, m')) : MemSem C.P f args m v m' := by
  unfold exFunA at h
  split at h
  · rename_i b hb
    obtain ⟨⟨e, s⟩, h1, h2⟩ := Ans.bind_some h
    refine body_mem hf hb hok ((exCode_sound hC n).1 C.cur m.length b ?_ _ _ _ h1) h2
    rcases hcur with rfl | hno
    · exact Or.inl ⟨fn, b, hf, hb, fun x hx => hx⟩
    · exact Or.inr hno
  · simp [Ans.res] at h
theorem exFun_sem {C : Cx} (hC : CxOk C) {n : Nat} {f : FuncId} {fn : Func} {args : List Value} {v : Value} (hf : C.P.funcs[f]? = some fn) (hok : (fn.name == "runtime.NumGoroutine") = false) (hcur : C.cur = f ∨ ∀ k n st, C.lp C.cur k n st = none) (hargs : ∀ x ∈ args, plain x = true) (h : exFun C n fn args = some v) : PlainSem C.P f args v ∧ plain v = true := by
  unfold exFun at h
  obtain ⟨⟨u, m'⟩, h1, h2⟩ := Ans.bind_some h
  unfold onlyPlain at h2
  split at h2
  · rename_i hp
    simp only [Ans.res, Option.some.injEq] at h2
    subst h2
    exact ⟨(exFunA_sem hC hf hok hcur h1).plain hargs hp, hp⟩
  · simp [Ans.res] at h2
end Go.Proofs.Ytjpfnfckpgilgaa.Vx


namespace Go.Proofs.Ytjpfnfckpgilgaa.Vx
open Go Go.RowKit

def leafFields (P : Program) (sub : TypeId → Option (List (Option IntKind))) : List Field → List (Option IntKind) → Option (List (Option IntKind))
  | [], as => some as
  | f :: fs, as => match sub f.type with
    | some ls => if f.offset = as.length ∧ P.cellsOf f.type = ls.length then leafFields P sub fs (as ++ ls) else none
    | none => none

/-- The cells of a type: an integer of a kind, or a bool. -/
def leafs (P : Program) : Nat → TypeId → Option (List (Option IntKind))
  | 0, _ => none
  | d + 1, t => match P.underlying t with
    | some .bool => some [none]
    | some (.int k) => some [some k]
    | some (.array n e) => match leafs P d e with
      | some ls => if P.cellsOf e = ls.length ∧ P.cellsOf t = n * ls.length then some (List.replicate n ls).flatten else none
      | none => none
    | some (.struct fs) => match leafFields P (leafs P d) fs.toList [] with
      | some ls => if P.cellsOf t = ls.length then some ls else none
      | none => none
    | _ => none

def LeafOk : Option IntKind → Value → Prop
  | some k, v => ∃ n, v = .int k n ∧ (Lit.int k n).wf = true
  | none, v => ∃ b, v = .bool b

def Leaves : List (Option IntKind) → List Value → Prop
  | [], [] => True
  | l :: ls, v :: vs => LeafOk l v ∧ Leaves ls vs
  | _, _ => False

theorem Leaves.append : ∀ {ls ms : List (Option IntKind)} {vs us : List Value}, Leaves ls vs → Leaves ms us → Leaves (ls ++ ms) (vs ++ us)
  | [], _, [], _, _, h => h
  | _ :: _, _, _ :: _, _, h, h' => ⟨h.1, Leaves.append h.2 h'⟩
  | [], _, _ :: _, _, h, _ => h.elim
  | _ :: _, _, [], _, h, _ => h.elim

theorem leaves_rows {ls : List (Option IntKind)} : ∀ (n : Nat) (cs : List Value), cs.length = n * ls.length → (∀ i, i < n → Leaves ls ((cs.drop (i * ls.length)).take ls.length)) → Leaves (List.replicate n ls).flatten cs
  | 0, cs, hl, _ => by
    rw [Nat.zero_mul] at hl
    rw [List.eq_nil_of_length_eq_zero hl]
    trivial
  | n + 1, cs, hl, h => by
    rw [List.replicate_succ, List.flatten_cons]
    have h0 := h 0 (by omega)
    simp only [Nat.zero_mul, List.drop_zero] at h0
    rw [show cs = cs.take ls.length ++ cs.drop ls.length from (List.take_append_drop _ _).symm]
    rw [Nat.add_mul, Nat.one_mul] at hl
    refine Leaves.append h0 (leaves_rows n _ (by rw [List.length_drop]; omega) fun i hi => ?_)
    have := h (i + 1) (by omega)
    rw [List.drop_drop]
    rw [Nat.add_mul, Nat.one_mul, Nat.add_comm] at this
    exact this

section
variable {H : Type} {enc : TypeId × Value → H} {P : Program} {w : World} {base : Nat} {spare : Nat → Bool} {held : Bool}

theorem leafs_read : ∀ (d : Nat) (t : TypeId) (ls : List (Option IntKind)), leafs P d t = some ls → ∀ (fuel : Nat) (cs : List Value) (x : DataW H × List MemPlace), DataW.trod enc P w base spare held fuel t cs = some x → Leaves ls cs
  | 0, _, _, h, _, _, _, _ => by simp [leafs] at h
  | d + 1, t, ls, h, 0, cs, x, hx => by simp [DataW.trod] at hx
  | d + 1, t, ls, h, fuel + 1, cs, x, hx => by
    unfold leafs at h
    cases hu : P.underlying t with
    | none => simp [hu] at h
    | some kd =>
      simp only [hu] at h
      cases kd with
      | bool =>
        simp only [Option.some.injEq] at h
        subst h
        unfold DataW.trod at hx
        rw [hu] at hx
        split at hx <;> simp_all [Leaves, LeafOk]
      | int k =>
        simp only [Option.some.injEq] at h
        subst h
        unfold DataW.trod at hx
        rw [hu] at hx
        split at hx <;> simp_all [Leaves, LeafOk]
      | array n e =>
        simp only at h
        cases he : leafs P d e with
        | none => simp [he] at h
        | some ms =>
          simp only [he] at h
          split at h
          · rename_i hc
            simp only [Option.some.injEq] at h
            subst h
            obtain ⟨xs, m, hm, _, hl, hn, hg⟩ := DataW.trod_array hu hx
            refine leaves_rows n cs (by rw [hl, hc.2]) fun i hi => ?_
            have := hg i hi
            rw [List.getElem?_eq_getElem (by omega)] at this
            rw [← hc.1]
            exact leafs_read d e ms he m _ _ this
          · cases h
      | struct fs =>
        simp only at h
        unfold DataW.trod at hx
        rw [hu] at hx
        have hx' : cs.length = P.cellsOf t ∧ ∃ xs, (fs.toList.mapM fun f => DataW.trod enc P w base spare held fuel f.type ((cs.drop f.offset).take (P.cellsOf f.type))) = some xs := by
          split at hx <;> simp_all
          obtain ⟨h1, xs, h2, _⟩ := hx
          exact ⟨xs, h2⟩
        obtain ⟨hlen, xs, hxs⟩ := hx'
        cases hlf : leafFields P (leafs P d) fs.toList [] with
        | none => simp [hlf] at h
        | some rs =>
          simp only [hlf] at h
          split at h
          · rename_i hct
            simp only [Option.some.injEq] at h
            subst h
            have key : ∀ (gs : List Field) (as : List (Option IntKind)) (xs : List (DataW H × List MemPlace)), gs.mapM (fun f => DataW.trod enc P w base spare held fuel f.type ((cs.drop f.offset).take (P.cellsOf f.type))) = some xs →
                leafFields P (leafs P d) gs as = some rs → Leaves as (cs.take as.length) → Leaves rs (cs.take rs.length) := by
              intro gs
              induction gs with
              | nil => intro as xs _ h1 h2; simp [leafFields] at h1; subst h1; exact h2
              | cons f gs ih =>
                intro as xs hm h1 h2
                rw [List.mapM_cons] at hm
                simp only [bind, Option.bind_eq_some_iff, pure, Option.some.injEq] at hm
                obtain ⟨y, hy, ys, hys, _⟩ := hm
                simp only [leafFields] at h1
                cases hf : leafs P d f.type with
                | none => simp [hf] at h1
                | some ms =>
                  simp only [hf] at h1
                  split at h1
                  · rename_i hc
                    have := leafs_read d f.type ms hf fuel _ _ hy
                    refine ih (as ++ ms) ys hys h1 ?_
                    rw [List.length_append, List.take_add]
                    rw [hc.1, hc.2] at this
                    exact Leaves.append h2 this
                  · cases h1
            have := key fs.toList [] xs hxs hlf trivial
            rw [List.take_of_length_le (by omega)] at this
            exact this
          · cases h
      | _ => simp at h
end

/-- A row of integers of one kind. -/
def intsK (k : IntKind) (l : List Int) : List Value := l.map (.int k)

theorem leaves_ints {k : IntKind} : ∀ (n : Nat) (cs : List Value), Leaves (List.replicate n (some k)) cs → ∃ l : List Int, l.length = n ∧ cs = intsK k l ∧ ∀ x ∈ l, (Lit.int k x).wf = true
  | 0, [], _ => ⟨[], rfl, rfl, fun _ h => by cases h⟩
  | 0, _ :: _, h => h.elim
  | n + 1, [], h => h.elim
  | n + 1, c :: cs, h => by
    obtain ⟨⟨x, rfl, hx⟩, h2⟩ := h
    obtain ⟨l, hl, rfl, hw⟩ := leaves_ints n cs h2
    refine ⟨x :: l, by simp [hl], rfl, fun y hy => ?_⟩
    rcases List.mem_cons.1 hy with rfl | hy
    · exact hx
    · exact hw y hy

section
variable {H : Type} {enc : TypeId × Value → H} {P : Program} {w : World} {base : Nat} {spare : Nat → Bool} {held : Bool}
/-- An array or a struct of integers of one kind, as an argument. -/
theorem open_rowK {t : TypeId} {n : Nat} {k : IntKind} {r : Reach} {b0 : Nat} {v : Value} {d : DataW H} {p : List MemPlace} (ha : isAggT P t = some true) (hl : leafs P 9 t = some (List.replicate n (some k))) (hv : Value.okWide P w r b0 t v)
    (h : DataW.Trod enc P w base spare held t v d p) : ∃ l : List Int, l.length = n ∧ v = .agg (intsK k l).toArray ∧ ∀ x ∈ l, (Lit.int k x).wf = true := by
  obtain ⟨fuel, hf⟩ := h
  obtain ⟨l, h1, h2, h3⟩ := leaves_ints n _ (leafs_read 9 t _ hl fuel _ _ hf)
  refine ⟨l, h1, ?_, h3⟩
  have : ∃ cs, v = .agg cs := by
    unfold Value.okWide at hv
    unfold isAggT at ha
    cases hu : P.underlying t with
    | none => simp [hu] at ha
    | some kd =>
      simp only [hu] at ha hv
      cases kd <;> simp at ha
      · obtain ⟨cs, h, _⟩ := hv; exact ⟨cs, h⟩
      · obtain ⟨cs, h, _⟩ := hv; exact ⟨cs, h⟩
  obtain ⟨cs, rfl⟩ := this
  simp only [Value.cells] at h2
  rw [← h2]
end

/-! Tables of functions. -/
def intsOf (k : IntKind) : Nat → List Value → Option (List Int)
  | 0, [] => some []
  | n + 1, .int k' x :: vs => if k' = k then match intsOf k n vs with
      | some l => some (x :: l)
      | none => none
    else none
  | _, _ => none

def unpack : List (Option Nat) → List Value → Option (List Int)
  | [], [] => some []
  | none :: sh, .int k x :: vs => if k = .i64 then match unpack sh vs with
      | some r => some (x :: r)
      | none => none
    else none
  | some n :: sh, .agg cs :: vs => match intsOf .i64 n cs.toList with
    | some l => match unpack sh vs with
      | some r => some (l ++ r)
      | none => none
    | none => none
  | _, _ => none

def pack : List (Option Nat) → List Int → List Value
  | [], _ => []
  | none :: sh, l => match l with
    | x :: l => .int .i64 x :: pack sh l
    | [] => []
  | some n :: sh, l => .agg (intsK .i64 (l.take n)).toArray :: pack sh (l.drop n)

def total : List (Option Nat) → Nat
  | [] => 0
  | none :: sh => 1 + total sh
  | some n :: sh => n + total sh

theorem intsOf_spec {k : IntKind} : ∀ (n : Nat) (vs : List Value) (l : List Int), intsOf k n vs = some l → vs = intsK k l ∧ l.length = n
  | 0, [], l, h => by simp [intsOf] at h; subst h; exact ⟨rfl, rfl⟩
  | 0, _ :: _, l, h => by simp [intsOf] at h
  | n + 1, [], l, h => by simp [intsOf] at h
  | n + 1, v :: vs, l, h => by
    cases v with
    | int k' x =>
      simp only [intsOf] at h
      split at h
      · rename_i hk
        subst hk
        cases hr : intsOf k' n vs with
        | none => simp [hr] at h
        | some r =>
          simp only [hr, Option.some.injEq] at h
          subst h
          obtain ⟨rfl, h2⟩ := intsOf_spec n vs r hr
          exact ⟨rfl, by simp [h2]⟩
      · cases h
    | _ => simp [intsOf] at h

theorem unpack_spec : ∀ (sh : List (Option Nat)) (vs : List Value) (l : List Int), unpack sh vs = some l → vs = pack sh l ∧ l.length = total sh
  | [], [], l, h => by simp [unpack] at h; subst h; exact ⟨rfl, rfl⟩
  | [], _ :: _, l, h => by simp [unpack] at h
  | none :: sh, [], l, h => by simp [unpack] at h
  | some n :: sh, [], l, h => by simp [unpack] at h
  | none :: sh, v :: vs, l, h => by
    cases v with
    | int k x =>
      simp only [unpack] at h
      split at h
      · rename_i hk
        subst hk
        cases hr : unpack sh vs with
        | none => simp [hr] at h
        | some r =>
          simp only [hr, Option.some.injEq] at h
          subst h
          obtain ⟨h1, h2⟩ := unpack_spec sh vs r hr
          exact ⟨by simp only [pack]; rw [← h1], by simp [total, h2]; omega⟩
      · cases h
    | _ => simp [unpack] at h
  | some n :: sh, v :: vs, l, h => by
    cases v with
    | agg cs =>
      simp only [unpack] at h
      cases hi : intsOf .i64 n cs.toList with
      | none => simp [hi] at h
      | some a =>
        simp only [hi] at h
        cases hr : unpack sh vs with
        | none => simp [hr] at h
        | some r =>
          simp only [hr, Option.some.injEq] at h
          subst h
          obtain ⟨h1, h2⟩ := unpack_spec sh vs r hr
          obtain ⟨h3, h4⟩ := intsOf_spec n _ a hi
          refine ⟨?_, by simp [total, h2, h4]⟩
          simp only [pack]
          rw [← h4, List.take_left', List.drop_left', ← h1, ← h3]
          · rfl
          · rfl
    | _ => simp [unpack] at h

theorem plain_ints (k : IntKind) (l : List Int) : plain (.agg (intsK k l).toArray) = true := by
  show allL plain0 (intsK k l) = true
  refine allL_iff.2 fun x hx => ?_
  obtain ⟨n, _, rfl⟩ := List.mem_map.1 hx
  rfl
theorem pack_plain : ∀ (sh : List (Option Nat)) (l : List Int), ∀ x ∈ pack sh l, plain x = true
  | [], _, x, h => by cases h
  | none :: sh, [], x, h => by cases h
  | none :: sh, y :: l, x, h => by
    simp only [pack] at h
    rcases List.mem_cons.1 h with rfl | h
    · rfl
    · exact pack_plain sh l x h
  | some n :: sh, l, x, h => by
    simp only [pack] at h
    rcases List.mem_cons.1 h with rfl | h
    · exact plain_ints _ _
    · exact pack_plain sh _ x h

def okFunc (P : Program) (f : FuncId) : Bool :=
  match P.funcs[f]? with
  | some fn => !(fn.name == "runtime.NumGoroutine") && fn.body.isSome
  | none => false
theorem okFunc_spec {P : Program} {f : FuncId} (h : okFunc P f = true) : ∃ fn, P.funcs[f]? = some fn ∧ (fn.name == "runtime.NumGoroutine") = false ∧ fn.body.isNone = false := by
  unfold okFunc at h
  split at h
  · rename_i fn hf
    simp only [Bool.and_eq_true, Bool.not_eq_true'] at h
    refine ⟨fn, hf, h.1, ?_⟩
    have := h.2
    cases hb : fn.body with
    | none => rw [hb] at this; cases this
    | some b => rfl
  · cases h
theorem okFunc_name {P : Program} {f : FuncId} {fn : Func} (h : okFunc P f = true) (hf : P.funcs[f]? = some fn) : (fn.name == "runtime.NumGoroutine") = false := by
  obtain ⟨fn', h1, h2, _⟩ := okFunc_spec h
  rw [hf] at h1
  simp only [Option.some.injEq] at h1
  subst h1
  exact h2

/-- A function without memory, told of any values. -/
def Cx.addR (C : Cx) (f : FuncId) (F : List Value → Option (Bool × Value)) : Cx :=
  { C with tbl := fun g args => match Nat.beq g f with
    | true => F args
    | false => C.tbl g args }
/-- A function without memory, told of numbers. -/
def Cx.addD (C : Cx) (f : FuncId) (sh : List (Option Nat)) (F : List Int → Option (Bool × Value)) : Cx :=
  { C with tbl := fun g args => match Nat.beq g f with
    | true => match unpack sh args with
      | some l => F l
      | none => none
    | false => C.tbl g args }
def Cx.add (C : Cx) (f : FuncId) (sh : List (Option Nat)) (F : List Int → Option Value) : Cx :=
  C.addD f sh fun l => match F l with
    | some v => some (true, v)
    | none => none
/-- A function with memory. -/
def Cx.addM (C : Cx) (f : FuncId) (F : List Value → Mem → Option (Ans (Value × Mem))) : Cx :=
  { C with tbm := fun g args m => match Nat.beq g f with
    | true => F args m
    | false => C.tbm g args m, rd := fun g => match Nat.beq g f with
    | true => 0
    | false => C.rd g }
/-- A loop, in a function that was entered with at most B blocks. -/
def Cx.addLB (C : Cx) (f : FuncId) (k B : Nat) (S : St → Option (Ans (Exit × St))) : Cx :=
  { C with lp := fun g j n st => match Nat.beq g f && (Nat.beq j k && Nat.ble n B) with
    | true => S st
    | false => C.lp g j n st }
/-- A loop that moves no block. -/
def Cx.addL (C : Cx) (f : FuncId) (k : Nat) (S : St → Option (Ans (Exit × St))) : Cx :=
  { C with lp := fun g j n st => match Nat.beq g f && Nat.beq j k with
    | true => S st
    | false => C.lp g j n st }

theorem Cx.addR_ok {C : Cx} (hC : CxOk C) {n : Nat} {f : FuncId} {fn : Func} (hf : C.P.funcs[f]? = some fn) (hok : okFunc C.P f = true) (hcur : C.cur = f ∨ ∀ k n st, C.lp C.cur k n st = none) {F : List Value → Option (Bool × Value)}
    (h : ∀ args v, F args = some (true, v) → exFun C n fn args = some v) : CxOk (C.addR f F) := by
  refine ⟨hC.mixed, ?_, hC.tbm, hC.keys, hC.inl, hC.lp, hC.rd, hC.rd2⟩
  intro g args v hargs hv hp
  simp only [Cx.addR] at hv
  cases hg : Nat.beq g f with
  | false => simp only [hg] at hv; exact hC.tbl g args v hargs hv hp
  | true =>
    have hgf : g = f := Nat.eq_of_beq_eq_true hg
    subst hgf
    simp only [hg] at hv
    exact (exFun_sem hC hf (okFunc_name hok hf) hcur hargs (h args v hv)).1
theorem Cx.addD_okc {C : Cx} (hC : CxOk C) {n : Nat} {f : FuncId} {fn : Func} (hf : C.P.funcs[f]? = some fn) (hok : okFunc C.P f = true) (hcur : C.cur = f ∨ ∀ k n st, C.lp C.cur k n st = none) {sh : List (Option Nat)} {F : List Int → Option (Bool × Value)}
    (h : ∀ l v, l.length = total sh → F l = some (true, v) → exFun C n fn (pack sh l) = some v) : CxOk (C.addD f sh F) := by
  refine Cx.addR_ok hC hf hok hcur (n := n) fun args v hF => ?_
  cases hu : unpack sh args with
  | none => simp [hu] at hF
  | some l =>
    simp only [hu] at hF
    obtain ⟨rfl, hl⟩ := unpack_spec sh args l hu
    exact h l v hl hF
theorem Cx.addD_ok {C : Cx} (hC : CxOk C) {n : Nat} {f : FuncId} {fn : Func} (hf : C.P.funcs[f]? = some fn) (hok : okFunc C.P f = true) {sh : List (Option Nat)} {F : List Int → Option (Bool × Value)}
    (h : ∀ l v, l.length = total sh → F l = some (true, v) → exFun (C.at f) n fn (pack sh l) = some v) : CxOk (C.addD f sh F) := by
  have := Cx.addD_okc (C := C.at f) (hC.at f) hf hok (Or.inl rfl) h
  exact ⟨this.mixed, this.tbl, this.tbm, this.keys, this.inl, this.lp, this.rd, this.rd2⟩
theorem Cx.add_ok {C : Cx} (hC : CxOk C) {n : Nat} {f : FuncId} {fn : Func} (hf : C.P.funcs[f]? = some fn) (hok : okFunc C.P f = true) {sh : List (Option Nat)} {F : List Int → Option Value}
    (h : ∀ l v, l.length = total sh → F l = some v → exFun (C.at f) n fn (pack sh l) = some v) : CxOk (C.add f sh F) := by
  refine Cx.addD_ok hC hf hok fun l v hl hF => h l v hl ?_
  cases hFl : F l with
  | none => simp [hFl] at hF
  | some u => simp [hFl] at hF; rw [hF]
theorem Cx.addM_ok {C : Cx} (hC : CxOk C) {f : FuncId} {F : List Value → Mem → Option (Ans (Value × Mem))} (h : ∀ args m ans v m', F args m = some ans → ans.res = some (v, m') → MemSem C.P f args m v m') : CxOk (C.addM f F) := by
  refine ⟨hC.mixed, hC.tbl, ?_, hC.keys, hC.inl, hC.lp, fun g hg => by
    simp only [Cx.addM] at hg ⊢
    cases hb : Nat.beq g f with
    | true => simp only [hb] at hg; cases hg
    | false => simp only [hb] at hg; exact hC.rd g hg, fun g hg => by
    simp only [Cx.addM] at hg ⊢
    cases hb : Nat.beq g f with
    | true => simp only [hb] at hg; cases hg
    | false => simp only [hb] at hg; exact hC.rd2 g hg⟩
  intro g args m ans v m' ha hr
  simp only [Cx.addM] at ha
  cases hg : Nat.beq g f with
  | false => simp only [hg] at ha; exact hC.tbm g args m ans v m' ha hr
  | true =>
    have hgf : g = f := Nat.eq_of_beq_eq_true hg
    subst hgf
    simp only [hg] at ha
    exact h args m ans v m' ha hr
/-- The bodies of a function's loops that have a key. -/
def loopsOf (P : Program) (f : FuncId) (k : Nat) : List Code :=
  match P.funcs[f]? with
  | some fn => match fn.body with
    | some b => (loopsIn b).filter fun x => Nat.beq (loopKey x) k
    | none => []
  | none => []
theorem LoopSem.mono {P : Program} {B B' : Nat} {x : Code} {st s : St} {e : Exit} (h : LoopSem P B x st e s) (hB : B' ≤ B) : LoopSem P B' x st e s :=
  fun Q w0 keep r0 a w h0 => h Q w0 keep r0 a w fun b hb => h0 b (Nat.le_trans hB hb)
theorem Cx.addLB_ok {C : Cx} (hC : CxOk C) {f : FuncId} {k B : Nat} {x : Code} {S : St → Option (Ans (Exit × St))} (hx : loopsOf C.P f k = [x]) (h : ∀ st ans e s, S st = some ans → ans.res = some (e, s) → LoopSem C.P B x st e s) : CxOk (C.addLB f k B S) := by
  refine ⟨hC.mixed, hC.tbl, hC.tbm, hC.keys, hC.inl, ?_, hC.rd, hC.rd2⟩
  intro g fn b hf hb y hy n st ans e s ha hr
  simp only [Cx.addLB] at ha
  cases hg : Nat.beq g f && (Nat.beq (loopKey y) k && Nat.ble n B) with
  | false => simp only [hg] at ha; exact hC.lp g fn b hf hb y hy n st ans e s ha hr
  | true =>
    simp only [hg] at ha
    rw [Bool.and_eq_true, Bool.and_eq_true] at hg
    have hgf : g = f := Nat.eq_of_beq_eq_true hg.1
    subst hgf
    have hmem : y ∈ loopsOf C.P g k := by
      unfold loopsOf
      rw [show C.P.funcs[g]? = some fn from hf]
      simp only [hb]
      exact List.mem_filter.2 ⟨hy, hg.2.1⟩
    rw [hx] at hmem
    have : y = x := by simpa using hmem
    subst this
    exact (h st ans e s ha hr).mono (Nat.le_of_ble_eq_true hg.2.2)
theorem Cx.addL_ok {C : Cx} (hC : CxOk C) {f : FuncId} {k : Nat} {x : Code} {S : St → Option (Ans (Exit × St))} (hx : loopsOf C.P f k = [x]) (h : ∀ B st ans e s, S st = some ans → ans.res = some (e, s) → LoopSem C.P B x st e s) : CxOk (C.addL f k S) := by
  refine ⟨hC.mixed, hC.tbl, hC.tbm, hC.keys, hC.inl, ?_, hC.rd, hC.rd2⟩
  intro g fn b hf hb y hy n st ans e s ha hr
  simp only [Cx.addL] at ha
  cases hg : Nat.beq g f && Nat.beq (loopKey y) k with
  | false => simp only [hg] at ha; exact hC.lp g fn b hf hb y hy n st ans e s ha hr
  | true =>
    simp only [hg] at ha
    rw [Bool.and_eq_true] at hg
    have hgf : g = f := Nat.eq_of_beq_eq_true hg.1
    subst hgf
    have hmem : y ∈ loopsOf C.P g k := by
      unfold loopsOf
      rw [show C.P.funcs[g]? = some fn from hf]
      simp only [hb]
      exact List.mem_filter.2 ⟨hy, hg.2⟩
    rw [hx] at hmem
    have : y = x := by simpa using hmem
    subst this
    exact h n st ans e s ha hr

/-- A type whose values are so many integers may be a map's key. -/
def Cx.addK (C : Cx) (kt n : Nat) : Cx := { C with keys := fun t => match Nat.beq t kt with
  | true => some n
  | false => C.keys t }
theorem Cx.addK_ok {C : Cx} (hC : CxOk C) {kt n : Nat} (h : KeyOk C.P kt n) : CxOk (C.addK kt n) := by
  refine ⟨hC.mixed, hC.tbl, hC.tbm, fun t m ht => ?_, hC.inl, hC.lp, hC.rd, hC.rd2⟩
  simp only [Cx.addK] at ht
  cases hb : Nat.beq t kt with
  | true =>
    simp only [hb, Option.some.injEq] at ht
    subst ht
    rw [Nat.eq_of_beq_eq_true hb]; exact h
  | false => simp only [hb] at ht; exact hC.keys t m ht
/-- No table; the named functions are walked into. -/
def base (P : Program) (ids : List Nat) : Cx := { P := P, tbl := fun _ _ => none, inl := fun f => match ids.contains f with
  | true => P.funcs[f]?
  | false => none }
theorem base_ok {P : Program} {ids : List Nat} (hm : P.follows .mixedOrders = true) (h : ids.all (okFunc P) = true) : CxOk (base P ids) := by
  refine ⟨hm, fun f args v _ hv => by simp [base] at hv, fun f args m ans v m' ha => by simp [base] at ha, fun kt n h => by simp [base] at h, fun f fn hf => ?_, fun f fn b _ _ x _ n st ans e s ha => by simp [base] at ha, fun f hf => by simp [base] at hf, fun f hf => by simp [base] at hf⟩
  simp only [base] at hf
  split at hf
  · rename_i hc
    obtain ⟨fn', h1, h2, _⟩ := okFunc_spec (List.all_eq_true.1 h f (by simpa using hc))
    rw [h1] at hf
    simp only [Option.some.injEq] at hf
    subst hf
    exact ⟨h1, h2⟩
  · cases hf
/-- A function that the executor runs is called so. -/
theorem exFun_calls {C : Cx} (hC : CxOk C) {n : Nat} {f : FuncId} {fn : Func} {args : List Value} {v : Value} (hf : C.P.funcs[f]? = some fn) (hok : okFunc C.P f = true) (hargs : ∀ x ∈ args, plain x = true) (h : exFun (C.at f) n fn args = some v) (w : World) :
    Calls C.P f args.toArray w fun e w' => e = .returned v ∧ Below w.heap.size w w' :=
  ((exFun_sem (C := C.at f) (hC.at f) hf (okFunc_name hok hf) (Or.inl rfl) hargs h).1.2 w).mono fun _ _ hq => ⟨hq.1, hq.2.1⟩

end Go.Proofs.Ytjpfnfckpgilgaa.Vx

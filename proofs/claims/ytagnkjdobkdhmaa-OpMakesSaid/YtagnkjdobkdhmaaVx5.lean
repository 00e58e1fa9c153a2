/-
  A region's operations, in the text's order or in any order that its edges leave open. Nothing here is trusted.
-/
import Derived.Test.YtagnkjdobkdhmaaVx4
namespace Go.Proofs.Ytagnkjdobkdhmaa.Vx
open Go Go.RowKit

def Rel (w0 : World) (st : St) (a : Act) (w : World) : Prop := ∃ r, RelAt w0 r st a w

theorem rel_put {w0 : World} {r r' : Nat → Nat} {st : St} {a : Act} {w w' : World} {v : Value} {m : Mem} (hr : RelAt w0 r st a w) (hm : MemRel w0 r' m w') (hv : inMem m v)
    (hu : ∀ u, inMem st.mem u → ren r' u = ren r u ∧ inMem m u) (dst : Option Tmp) : RelAt w0 r' ⟨putL st.tmps dst v, m⟩ (a.put dst (ren r' v)) w' := by
  have hmap : st.tmps.map (ren r) = st.tmps.map (ren r') := List.map_congr_left fun u hu' => ((hu u (hr.2.2.1 u hu')).1).symm
  cases dst with
  | none =>
    refine ⟨hr.1, ?_, fun u hu' => (hu u (hr.2.2.1 u hu')).2, hm⟩
    simp only [Act.put, putL]
    rw [hr.2.1, hmap]
  | some d =>
    refine ⟨hr.1, ?_, fun u hu' => ?_, hm⟩
    · simp only [Act.put, putL]
      rw [hr.2.1, hmap]
      simp [List.map_set]
    · simp only [putL] at hu'
      rcases List.mem_or_eq_of_mem_set hu' with h | h
      · exact (hu u (hr.2.2.1 u h)).2
      · subst h; exact hv

theorem rel_skip {w0 : World} {r : Nat → Nat} {st : St} {a : Act} {w : World} (hr : RelAt w0 r st a w) (dst : Option Tmp) : RelAt w0 r (st.put dst undef) (a.put dst undef) w :=
  rel_put hr hr.2.2.2 (v := undef) trivial (fun _ hu => ⟨rfl, hu⟩) dst

theorem yielded_eq {w0 : World} {r : Nat → Nat} {st : St} {a : Act} {w : World} (hr : RelAt w0 r st a w) (ops : Array Oper) : yielded ops a.tmps = yieldedV ops st := by
  funext j
  unfold yielded yieldedV
  rw [hr.2.1]
  cases hd : (ops[j]?).bind (·.dst) with
  | none => rfl
  | some d =>
    simp only [Option.bind_some]
    cases ht : st.tmps[d]? with
    | none => simp [ht]
    | some v =>
      simp only [List.getElem?_toArray, List.getElem?_map, ht, Option.map_some]
      cases v with
      | pointer p => cases p <;> rfl
      | _ => rfl

theorem call_run {P : Program} {w0 : World} {r : Nat → Nat} {st : St} {a : Act} {w : World} {o : Oper} {c : Call} {f : FuncId} (hr : RelAt w0 r st a w) (ho : o.op = .call c) (hc : c.callee = .value (.func f)) (hall : c.args.toList.all (okOpnd st) = true)
    (hf : ∃ fn, P.funcs[f]? = some fn ∧ (fn.name == "runtime.NumGoroutine") = false ∧ fn.body.isNone = false) : (execOp a.eval o).run P w = .ok (.enter f (c.args.toList.map (ev st)).toArray) w := by
  obtain ⟨fn, h1, h2, h3⟩ := hf
  have ha : c.args.map a.eval = (c.args.toList.map (ev st)).toArray := by
    apply Array.ext'
    rw [Array.toList_map]
    simp only
    exact List.map_congr_left fun x hx => eval_bare hr (List.all_eq_true.1 hall x hx)
  simp only [execOp, ho, resolve, hc, ha]
  simp only [Act.eval, Deferred.ofValue, Sem.run_bind, Sem.run_pure, Result.andThen_ok, invoke, callFunc, program, Sem.run, h1, h2, h3]
  simp

theorem stepG_sound {P : Program} {call : FuncId → List Value → Option Value} (hcall : CallOk P call) {ops : Array Oper} {i : Nat} {o : Oper} {pos : Option Nat} (hi : ops[i]? = some o) {st st' : St} (h : stepG P call ops o pos st = some st') {w0 : World} {a : Act} {w : World} (hr : Rel w0 st a w)
    {Q : Exit → Act → World → Prop} {K : Act → World → Prop} (hK : ∀ a' w', Rel w0 st' a' w' → K a' w') : wpOp P ops Q i K a w := by
  obtain ⟨r, hr⟩ := hr
  unfold wpOp
  simp only [hi]
  unfold stepG at h
  rw [yielded_eq hr]
  split at h
  · rename_i hw
    rw [if_pos hw]
    refine Or.inl ?_
    cases ha : act P call pos st o with
    | none => simp [ha] at h
    | some vm =>
      obtain ⟨v, m⟩ := vm
      simp only [ha, Option.some.injEq] at h
      subst h
      unfold Oper.wp
      by_cases hnc : ∃ c f, o.op = .call c ∧ c.callee = .value (.func f)
      · obtain ⟨c, f, hc, hf⟩ := hnc
        have ha' := ha
        unfold act at ha'
        simp only [hc, hf] at ha'
        split at ha'
        · rename_i hall
          split at ha'
          · rename_i u hu
            split at ha'
            · rename_i hb
              simp only [Option.some.injEq, Prod.mk.injEq] at ha'
              obtain ⟨rfl, rfl⟩ := ha'
              obtain ⟨hfn, hC⟩ := hcall f _ u (fun x hx => by
                obtain ⟨y, hy, rfl⟩ := List.mem_map.1 hx
                exact (okOpnd_bare (List.all_eq_true.1 hall y hy)).1) hu
              rw [call_run hr hc hf hall hfn]
              simp only [Oper.upon]
              refine (hC w).mono ?_
              rintro e w' ⟨rfl, hbelow⟩
              refine hK _ _ ⟨r, ?_⟩
              have := rel_put hr (hr.2.2.2.later hbelow) (v := u) (inMem_bare hb) (fun _ hu => ⟨rfl, hu⟩) o.dst
              rw [ren_bare hb] at this
              exact this
            · cases ha'
          · cases ha'
        · cases ha'
      · obtain ⟨r', w', hrun, hm, hin, hall⟩ := act_run ha (fun c f hc hf => hnc ⟨c, f, hc, hf⟩) hr
        rcases hrun with hrun | ⟨hrun, hv⟩
        · rw [hrun]
          simp only [Oper.upon]
          exact hK _ _ ⟨r', rel_put hr hm hin hall o.dst⟩
        · rw [hrun]
          simp only [Oper.upon]
          subst hv
          exact hK _ _ ⟨r', rel_put hr hm hin hall o.dst⟩
  · rename_i hw
    rw [if_neg hw]
    simp only [Option.some.injEq] at h
    subst h
    exact hK _ _ ⟨r, rel_skip hr o.dst⟩

theorem runList_sound {P : Program} {call : FuncId → List Value → Option Value} (hcall : CallOk P call) {ops : Array Oper} {Q : Exit → Act → World → Prop} {w0 : World} {st' : St} (hQ : ∀ a w, Rel w0 st' a w → Q .normal a w) :
    ∀ (l : List (Oper × Option Nat)) (k : Nat) (st : St) (a : Act) (w : World), (∀ j, (l[j]?).map (·.1) = if j < l.length then ops[k + j]? else none) → runList P call ops l st = some st' → Rel w0 st a w → wpOps P ops Q (List.range' k l.length) a w
  | [], k, st, a, w, _, h, hr => by
    simp only [runList, Option.some.injEq] at h
    subst h
    simpa [wpOps] using hQ a w hr
  | (o, n) :: l, k, st, a, w, hl, h, hr => by
    simp only [List.length_cons, List.range'_succ]
    rw [wpOps_cons]
    simp only [runList] at h
    cases hs : stepG P call ops o n st with
    | none => simp [hs] at h
    | some s =>
      simp only [hs] at h
      have h0 : ops[k]? = some o := by have := hl 0; simpa using this.symm
      refine stepG_sound hcall h0 hs hr fun a' w' hr' => ?_
      refine runList_sound hcall hQ l (k + 1) s a' w' (fun j => ?_) h hr'
      have := hl (j + 1)
      simp only [List.getElem?_cons_succ, List.length_cons, Nat.add_lt_add_iff_right] at this
      rw [this, show k + (j + 1) = k + 1 + j by omega]

end Go.Proofs.Ytagnkjdobkdhmaa.Vx

/-
  What the executor says of an operation that is no call, the machine does. Nothing here is trusted.
-/
import Derived.Test.YtokdjjdmmahbiaaVy7
namespace Go.Proofs.Ytokdjjdmmahbiaa.Vx
open Go Go.RowKit

section
variable {P : Program} {w0 : World} {keep : Keep} {r : Ren} {tm : List Value} {m m' : Mem} {a : Act} {w : World} {cs : CallsX} {pos : Pos} {v : Value} {e : Eff} {cls : Nat}

theorem at_gone {k : Blk} {q : Addr} {n : Nat} {l : List Value} (h : k.at q n = some l) : k ≠ .gone := by rintro rfl; simp [Blk.at] at h
theorem loadB_gone {k : Blk} {q : Addr} {t : TypeId} {u : Value} (h : (loadB P t q k).res = some u) : k ≠ .gone := by
  rintro rfl
  unfold loadB at h
  split at h
  · simp [Blk.at, Ans.res] at h
  · simp [Ans.res] at h
theorem storeB_gone {k : Blk} {q : Addr} {t : TypeId} {x : Value} {u : Value × Blk} (h : (storeB P t q x k).res = some u) : k ≠ .gone := by
  rintro rfl
  unfold storeB at h
  split at h
  · split at h <;> simp [Ans.res] at h
  · simp [Ans.res] at h

theorem storeB_grow {k : Blk} {q : Addr} {t : TypeId} {x : Value} {u : Value × Blk} (h : (storeB P t q x k).res = some u) : ¬ isGrow (some k) := by
  intro hg
  cases k with
  | grow pl e n row =>
    unfold storeB at h
    cases hi : P.info? t with
    | none => simp [hi, Ans.res] at h
    | some i =>
      simp only [hi] at h
      split at h
      · cases hz : Nat.beq i.size 0 <;> simp [hz, Ans.res] at h
      · simp [Ans.res] at h
  | _ => exact hg

theorem act_load {o : Oper} {t : TypeId} {x : Operand} (ho : o.op = .load t x) (hr : RelAt w0 keep r ⟨tm, m⟩ a w) (h : (effOf0 P cs tm o).res = some e) (g : (runE cls pos m e).res = some (v, m')) : Ran P w0 keep r a w o v m' := by
  unfold effOf0 at h
  simp only [ho] at h
  split at h
  · rename_i q hq
    simp only [Ans.res, Option.some.injEq] at h
    subst h
    obtain ⟨k, h1, h2, rfl⟩ := readE g
    have hx := eval_R hr x
    simp only at hx
    rw [hq] at hx
    obtain ⟨q', hq', hl⟩ := R_ptr hx
    obtain ⟨p, _, rfl, hh, hk⟩ := live_of hr h1 hl (loadB_gone h2)
    obtain ⟨v', g1, g2⟩ := load_run hk h2 hh
    refine Ran.val hr (v' := v') ?_ g2
    simp only [execOp, ho, Instr.loadAt, hq']
    exact run_value (by simp only [Sem.run_bind, sure, Result.andThen_ok, g1])
  · simp [Ans.res] at h

theorem act_store {o : Oper} {t : TypeId} {x y : Operand} (ho : o.op = .store t x y) (hr : RelAt w0 keep r ⟨tm, m⟩ a w) (h : (effOf0 P cs tm o).res = some e) (g : (runE cls pos m e).res = some (v, m')) : Ran P w0 keep r a w o v m' := by
  unfold effOf0 at h
  simp only [ho] at h
  split at h
  · rename_i q hq
    simp only [Ans.res, Option.some.injEq] at h
    subst h
    obtain ⟨k, k', h1, h2, rfl⟩ := updE g
    have hx := eval_R hr x
    simp only at hx
    rw [hq] at hx
    obtain ⟨q', hq', hl⟩ := R_ptr hx
    obtain ⟨p, hp, rfl, hh, hk⟩ := live_of hr h1 hl (storeB_gone h2)
    obtain ⟨w', g1, rfl, hc⟩ := store_run hk h2 hh (eval_R hr y)
    have hmem : MemRel w0 keep r (m.set q.block k') w' := by
      rcases hc with ⟨g3, g4, g5⟩ | ⟨rfl, rfl⟩
      · exact hr.2.2.turn hp g3 (by rw [h1]; exact storeB_grow h2) g4 g5
      · rw [show m.set q.block k' = m from by
          apply List.ext_getElem?
          intro i
          rw [List.getElem?_set]
          split
          · rename_i e1; subst e1; rw [if_pos (List.getElem?_eq_some_iff.1 h1).1]; exact h1.symm
          · rfl]
        exact hr.2.2
    refine ⟨r, w', undef, Or.inr ⟨?_, rfl⟩, R_undef r, hmem, Ext.refl r⟩
    simp only [execOp, ho, Instr.storeAt, hq']
    exact run_unit (by simp only [Sem.run_bind, sure, Result.andThen_ok, g1])
  · simp [Ans.res] at h

theorem act_box {o : Oper} {t : TypeId} {x : Operand} (ho : o.op = .box t x) (hr : RelAt w0 keep r ⟨tm, m⟩ a w) (h : (effOf0 P cs tm o).res = some e) (g : (runE cls pos m e).res = some (v, m')) : Ran P w0 keep r a w o v m' := by
  unfold effOf0 at h
  simp only [ho] at h
  split at h
  · simp [Ans.res] at h
  · split at h
    · rename_i hs
      simp only [Ans.res, Option.some.injEq] at h
      subst h
      obtain ⟨b, hb, rfl, rfl⟩ := makeE g
      refine act_make (t := t) hr hb (R_cells (eval_R hr x) hs) ?_
      simp only [execOp, ho, Instr.box, newVar, newRow, newObj]
      simp [Sem.run]
    · simp [Ans.res] at h

theorem act_alloc {o : Oper} {t : TypeId} (ho : o.op = .alloc t) (hr : RelAt w0 keep r ⟨tm, m⟩ a w) (h : (effOf0 P cs tm o).res = some e) (g : (runE cls pos m e).res = some (v, m')) : Ran P w0 keep r a w o v m' := by
  unfold effOf0 at h
  simp only [ho] at h
  split at h
  · rename_i i hi
    split at h
    · rename_i z hz
      split at h
      · rename_i hs
        simp only [Ans.res, Option.some.injEq] at h
        subst h
        obtain ⟨b, hb, rfl, rfl⟩ := makeE g
        refine act_make (t := t) hr hb (RL_refl hs) ?_
        simp only [execOp, ho, Instr.alloc, newVar, newRow, newObj, Sem.run_bind, zeroValue_run hi hz, Result.andThen_ok]
        simp [Sem.run]
      · simp [Ans.res] at h
    · simp [Ans.res] at h
  · simp [Ans.res] at h

theorem act_indexAddr {o : Oper} {t : TypeId} {x ix : Operand} (ho : o.op = .indexAddr t x ix) (hr : RelAt w0 keep r ⟨tm, m⟩ a w) (h : (effOf0 P cs tm o).res = some e) (g : (runE cls pos m e).res = some (v, m')) : Ran P w0 keep r a w o v m' := by
  unfold effOf0 at h
  simp only [ho] at h
  have hx := eval_R hr x
  have hi := eval_R hr ix
  simp only at hx hi
  split at h
  · rename_i q kd i len el hq hiv hu
    rw [hq] at hx
    rw [hiv] at hi
    obtain ⟨q', hq', hl⟩ := R_ptr hx
    have hi' := R_int hi
    split at h
    · rename_i j hj
      have key : ∀ (sp : Option Nat), q.spot = sp → boundsI i len = true → Ran P w0 keep r a w o (.pointer (some ⟨q.block, q.off + i.toNat * j.size, sp⟩)) m := by
        intro sp hsp hb
        obtain ⟨b1, b2⟩ := boundsI_iff hb
        refine Ran.val hr (v' := .pointer (some (q'.add (i.toNat * j.size)))) ?_ ?_
        · simp only [execOp, ho, Instr.indexAt, hq', hi']
          refine run_value ?_
          simp only [asIntOf, Sem.run_bind, Sem.run_pure, Result.andThen_ok, underlying_run hu, sure]
          simp [b1, b2, sizeOf_run hj]
        · refine R_ptr_mk ?_
          rcases hl with hl | ⟨p, hp, rfl, hh⟩
          · exact Or.inl hl
          · refine Or.inr ⟨p, hp, ?_, fun i' hi' => hh i' (by rw [hsp]; exact hi')⟩
            have : p.addr q = ⟨p.blk, (p.addr q).off, none⟩ := rfl
            rw [this, add_none]
            simp [Place.addr, hsp]; omega
      split at h
      · rename_i hsp
        rcases Ans.br_some h with ⟨hb, h⟩ | ⟨hb, h⟩
        · simp only [Ans.res, Option.some.injEq] at h
          subst h
          obtain ⟨rfl, rfl⟩ := valE g
          exact key none hsp hb
        · simp [Ans.res] at h
      · rename_i sp hsp
        rcases Ans.br_some h with ⟨hb, h⟩ | ⟨hb, h⟩
        · simp only [Ans.res, Option.some.injEq] at h
          subst h
          obtain ⟨rfl, rfl⟩ := valE g
          exact key (some sp) hsp hb
        · simp [Ans.res] at h
    · simp [Ans.res] at h
  · rename_i q len c kd i el hq hiv hu
    rw [hq] at hx
    rw [hiv] at hi
    obtain ⟨q', c', hq', hnc, hl⟩ := R_sl hx
    have hi' := R_int hi
    split at h
    · rename_i j hj
      split at h
      · rename_i hc
        have hc' : j.size = c := Nat.eq_of_beq_eq_true hc
        rcases Ans.br_some h with ⟨hb, h⟩ | ⟨hb, h⟩
        · simp only [Ans.res, Option.some.injEq] at h
          subst h
          obtain ⟨rfl, rfl⟩ := valE g
          obtain ⟨b1, b2⟩ := boundsI_iff hb
          refine Ran.val hr (v' := .pointer (some (q'.add (i.toNat * j.size)))) ?_ ?_
          · simp only [execOp, ho, Instr.indexAt, hq', hi']
            refine run_value ?_
            simp only [asIntOf, Sem.run_bind, Sem.run_pure, Result.andThen_ok, underlying_run hu]
            simp [b1, b2, sizeOf_run hj]
          · refine R_ptr_mk ?_
            rw [onto_block]
            rcases hl with hl | ⟨p, hp, rfl, hh⟩
            · exact Or.inl hl
            · refine Or.inr ⟨p, hp, ?_, onto_has hh.2.1 (by omega)⟩
              rw [onto_addr (fun hs => by rw [hc']; exact hh.2.2.2.1 hs)]
              have : p.addr q = ⟨p.blk, (p.addr q).off, none⟩ := rfl
              rw [this, add_none]
        · simp [Ans.res] at h
      · simp [Ans.res] at h
    · simp [Ans.res] at h
  · simp [Ans.res] at h

theorem act_fieldAddr {o : Oper} {t : TypeId} {x : Operand} {n : Nat} (ho : o.op = .fieldAddr t x n) (hr : RelAt w0 keep r ⟨tm, m⟩ a w) (h : (effOf0 P cs tm o).res = some e) (g : (runE cls pos m e).res = some (v, m')) : Ran P w0 keep r a w o v m' := by
  unfold effOf0 at h
  simp only [ho] at h
  have hx := eval_R hr x
  simp only at hx
  split at h
  · rename_i q fs hq hu
    rw [hq] at hx
    obtain ⟨q', hq', hl⟩ := R_ptr hx
    split at h
    · rename_i f hf
      split at h
      · rename_i j hj
        split at h
        · simp [Ans.res] at h
        · rename_i hz
          have hz' : j.size ≠ 0 := fun e => by rw [e] at hz; simp at hz
          simp only [Ans.res, Option.some.injEq] at h
          subst h
          obtain ⟨rfl, rfl⟩ := valE g
          refine Ran.val hr (v' := .pointer (some (q'.add f.offset))) ?_ ?_
          · simp only [execOp, ho, Instr.fieldAt, hq']
            refine run_value ?_
            simp only [Sem.run_bind, underlying_run hu, Result.andThen_ok, hf, sure, fieldPlace, sizeOf_run hj]
            simp [hz']
          · refine R_ptr_mk ?_
            rcases hl with hl | ⟨p, hp, rfl, hh⟩
            · exact Or.inl hl
            · refine Or.inr ⟨p, hp, ?_, fun i' hi' => hh i' hi'⟩
              have : p.addr q = ⟨p.blk, (p.addr q).off, none⟩ := rfl
              rw [this, add_none]
              simp [Place.addr]; omega
      · simp [Ans.res] at h
    · simp [Ans.res] at h
  · simp [Ans.res] at h

theorem act_nilCheck {o : Oper} {x : Operand} (ho : o.op = .nilCheck x) (hr : RelAt w0 keep r ⟨tm, m⟩ a w) (h : (effOf0 P cs tm o).res = some e) (g : (runE cls pos m e).res = some (v, m')) : Ran P w0 keep r a w o v m' := by
  unfold effOf0 at h
  simp only [ho] at h
  have hx := eval_R hr x
  simp only at hx
  split at h
  · rename_i q hq
    simp only [Ans.res, Option.some.injEq] at h
    subst h
    obtain ⟨rfl, rfl⟩ := valE g
    rw [hq] at hx
    obtain ⟨q', hq', hl⟩ := R_ptr hx
    refine Ran.val hr (v' := .pointer (some q')) ?_ (R_ptr_mk hl)
    simp only [execOp, ho, hq']
    rfl
  · simp [Ans.res] at h

theorem act_pick {o : Oper} {c x y : Operand} (ho : o.op = .pick c x y) (hr : RelAt w0 keep r ⟨tm, m⟩ a w) (h : (effOf0 P cs tm o).res = some e) (g : (runE cls pos m e).res = some (v, m')) : Ran P w0 keep r a w o v m' := by
  unfold effOf0 at h
  simp only [ho] at h
  have hc := eval_R hr c
  simp only at hc
  split at h
  · rename_i q hq
    rw [hq] at hc
    have hc' := R_bool hc
    rcases Ans.br_some h with ⟨rfl, h⟩ | ⟨rfl, h⟩
    · simp only [Ans.res, Option.some.injEq] at h
      subst h
      obtain ⟨rfl, rfl⟩ := valE g
      exact Ran.val hr (by simp only [execOp, ho, hc', asBool]; rfl) (eval_R hr x)
    · simp only [Ans.res, Option.some.injEq] at h
      subst h
      obtain ⟨rfl, rfl⟩ := valE g
      exact Ran.val hr (by simp only [execOp, ho, hc', asBool]; rfl) (eval_R hr y)
  · simp [Ans.res] at h

theorem act_extract {o : Oper} {x : Operand} {n : Nat} (ho : o.op = .extract x n) (hr : RelAt w0 keep r ⟨tm, m⟩ a w) (h : (effOf0 P cs tm o).res = some e) (g : (runE cls pos m e).res = some (v, m')) : Ran P w0 keep r a w o v m' := by
  unfold effOf0 at h
  simp only [ho] at h
  have hx := eval_R hr x
  simp only at hx
  split at h
  · rename_i vs hq
    rw [hq] at hx
    obtain ⟨vs', hv', hl⟩ := hx
    split at h
    · simp [Ans.res] at h
    · rename_i u hnt hu
      simp only [Ans.res, Option.some.injEq] at h
      subst h
      obtain ⟨rfl, rfl⟩ := valE g
      obtain ⟨u', h1, h2⟩ := hl.get n v hu
      have h1' : vs'[n]? = some u' := by simpa using h1
      refine Ran.val hr (v' := u') ?_ ?_
      · simp only [execOp, ho, hv', Instr.extract]
        refine run_value ?_
        simp [h1']
      · exact (R1_R (fun ws e => by subst e; exact hnt ws rfl)).2 h2
    · simp [Ans.res] at h
  · simp [Ans.res] at h

theorem act_build {o : Oper} {t : TypeId} {parts : Array (Nat × Operand)} (ho : o.op = .build t parts) (hr : RelAt w0 keep r ⟨tm, m⟩ a w) (h : (effOf0 P cs tm o).res = some e) (g : (runE cls pos m e).res = some (v, m')) : Ran P w0 keep r a w o v m' := by
  unfold effOf0 at h
  simp only [ho] at h
  split at h
  · rename_i hok
    split at h
    · rename_i u hu
      simp only [Ans.res, Option.some.injEq] at h
      subst h
      obtain ⟨rfl, rfl⟩ := valE g
      obtain ⟨v', g1, g2⟩ := buildV_run (parts := parts.map fun p => (p.1, a.eval p.2)) (by rw [Array.toList_map]; exact RP_of hr parts.toList) (partsOk_iff hok) hu w
      refine Ran.val hr (v' := v') ?_ g2
      simp only [execOp, ho]
      exact run_value g1
    · simp [Ans.res] at h
  · simp [Ans.res] at h

theorem chop_len {e off i k : Nat} {c : List Value} (h : off + k * e ≤ c.length) (hi : i < k) : (chop e off c i).length = e := by
  have : (i + 1) * e ≤ k * e := Nat.mul_le_mul_right _ hi
  rw [Nat.add_mul, Nat.one_mul] at this
  simp [chop]; omega
theorem chop_get {e off i j : Nat} {c : List Value} {v : Value} (h : (chop e off c i)[j]? = some v) : c[off + i * e + j]? = some v := by
  unfold chop at h
  rw [List.getElem?_take] at h
  split at h
  · rw [List.getElem?_drop] at h; exact h
  · cases h
theorem chop_mem {e off i : Nat} {c : List Value} {v : Value} (h : v ∈ chop e off c i) : v ∈ c := List.mem_of_mem_drop (List.mem_of_mem_take h)

theorem act_buildSlice {o : Oper} {t : TypeId} {len : Nat} {parts : Array (Nat × Operand)} (ho : o.op = .buildSlice t len parts) (hr : RelAt w0 keep r ⟨tm, m⟩ a w) (h : (effOf0 P cs tm o).res = some e) (g : (runE cls pos m e).res = some (v, m')) : Ran P w0 keep r a w o v m' := by
  unfold effOf0 at h
  simp only [ho] at h
  split at h
  · rename_i hok
    split at h
    · rename_i sz l hu
      split at h
      · simp only [Ans.res, Option.some.injEq] at h
        subst h
        obtain ⟨b, hb, rfl, rfl⟩ := makeE g
        obtain ⟨l', T, g1, g2, g3, g4⟩ := buildS_run (parts := parts.map fun p => (p.1, a.eval p.2)) (by rw [Array.toList_map]; exact RP_of hr parts.toList) (partsOk_iff hok) hu w
        have hl := g2.length
        refine Ran.push hr hb (p := ⟨w.heap.size, 0, sz, len, l'.length, true⟩) rfl rfl (by simp) (v' := .slice (some ⟨w.heap.size, 0, none⟩) len len) ?_ ⟨rfl, rfl, rfl, fun hpl i _ => allL_iff.2 fun v hv => allL_iff.1 hpl v (chop_mem hv), l'.toArray, T, (0, 0), (fun h => by cases h), get_push_self _, fun _ => ⟨rfl, by simp⟩, fun i hi => ⟨chop_len (k := len) (by omega) hi, fun j v hj => ?_⟩⟩ ?_
        · simp only [execOp, ho]
          exact run_value g1
        · obtain ⟨v', h1, h2⟩ := (CellsAt_of g2).ext (Ren.put_ext (hr.2.2.none b (Or.inr hb)) ⟨w.heap.size, 0, sz, len, l'.length, true⟩) _ v (chop_get hj)
          exact ⟨v', by simpa using h1, h2⟩
        · refine R_sl_mk (Nat.le_refl _) (Or.inr ⟨⟨w.heap.size, 0, sz, len, l'.length, true⟩, by simp [Ren.put], by simp [Place.addr], Nat.le_refl _, fun i hi => ?_, fun _ => rfl, fun _ => rfl, fun _ _ => ?_⟩)
          · simp only [Option.some.injEq] at hi; subst hi; simp
          · simp [Place.addr]; omega
      · simp only [Ans.res, Option.some.injEq] at h
        subst h
        obtain ⟨b, hb, rfl, rfl⟩ := makeE g
        obtain ⟨l', T, g1, g2, g3, g4⟩ := buildS_run (parts := parts.map fun p => (p.1, a.eval p.2)) (by rw [Array.toList_map]; exact RP_of hr parts.toList) (partsOk_iff hok) hu w
        have hl := g2.length
        refine Ran.push hr hb (p := ⟨w.heap.size, 0, sz, 0, l'.length, true⟩) rfl rfl (by simp) (v' := .slice (some ⟨w.heap.size, 0, none⟩) len len) ?_ ⟨rfl, rfl, l'.toArray, T, (0, 0), (fun h => by cases h), get_push_self _, fun _ => ⟨rfl, by simp⟩, ?_⟩ ?_
        · simp only [execOp, ho]
          exact run_value g1
        · exact (CellsAt_of g2).ext (Ren.put_ext (hr.2.2.none b (Or.inr hb)) _)
        · refine R_sl_mk (Nat.le_refl _) (Or.inr ⟨⟨w.heap.size, 0, sz, 0, l'.length, true⟩, by simp [Ren.put], by simp [Place.addr], Nat.le_refl _, fun i hi => by simp at hi, fun _ => rfl, fun h => absurd rfl h, fun _ _ => ?_⟩)
          simp [Place.addr]; omega
    · simp [Ans.res] at h
  · simp [Ans.res] at h

theorem act_field {o : Oper} {t : TypeId} {x : Operand} {n : Nat} (ho : o.op = .field t x n) (hr : RelAt w0 keep r ⟨tm, m⟩ a w) (h : (effOf0 P cs tm o).res = some e) (g : (runE cls pos m e).res = some (v, m')) : Ran P w0 keep r a w o v m' := by
  unfold effOf0 at h
  simp only [ho] at h
  have hx := eval_R hr x
  simp only at hx
  split at h
  · rename_i xs fs hq hu
    rw [hq] at hx
    obtain ⟨xs', hx', hl⟩ := hx
    split at h
    · rename_i f hf
      split at h
      · rename_i j hj
        obtain ⟨u, h1, h2⟩ := Ans.bind_some h
        simp only [Ans.res, Option.some.injEq] at h2
        subst h2
        obtain ⟨rfl, rfl⟩ := valE g
        obtain ⟨v', g1, g2⟩ := part_rel hj hl h1 w
        refine Ran.val hr (v' := v') ?_ g2
        simp only [execOp, ho, hx', Instr.field]
        refine run_value ?_
        simp only [Sem.run_bind, underlying_run hu, Result.andThen_ok, hf, asAgg, Sem.run_pure, g1]
      · simp [Ans.res] at h
    · simp [Ans.res] at h
  · simp [Ans.res] at h

theorem act_index {o : Oper} {t : TypeId} {x ix : Operand} (ho : o.op = .index t x ix) (hr : RelAt w0 keep r ⟨tm, m⟩ a w) (h : (effOf0 P cs tm o).res = some e) (g : (runE cls pos m e).res = some (v, m')) : Ran P w0 keep r a w o v m' := by
  unfold effOf0 at h
  simp only [ho] at h
  have hx := eval_R hr x
  have hi := eval_R hr ix
  simp only at hx hi
  split at h
  · rename_i s kd i hq hiv hu
    rw [hq] at hx
    rw [hiv] at hi
    have hx' := R_str hx
    have hi' := R_int hi
    rcases Ans.br_some h with ⟨hb, h⟩ | ⟨hb, h⟩
    · simp only [Ans.res, Option.some.injEq] at h
      subst h
      obtain ⟨rfl, rfl⟩ := valE g
      obtain ⟨b1, b2⟩ := boundsI_iff hb
      refine Ran.val hr (v' := .int .u8 ((s.data.toList[i.toNat]?).getD 0).toNat) ?_ rfl
      simp only [execOp, ho, hx', hi', Instr.index]
      refine run_value ?_
      have hlt : i.toNat < s.size := by omega
      have e1 : s[i.toNat]? = some (s[i.toNat]'hlt) := by simp [hlt]
      have e2 : s.data.toList[i.toNat]? = some (s[i.toNat]'hlt) := by
        have : i.toNat < s.data.toList.length := by simpa using hlt
        rw [List.getElem?_eq_getElem this]; rfl
      simp only [asIntOf, Sem.run_bind, Sem.run_pure, Result.andThen_ok, underlying_run hu, b1, if_true, e1, e2, Option.getD_some]
    · simp [Ans.res] at h
  · rename_i xs kd i len el hq hiv hu
    rw [hq] at hx
    rw [hiv] at hi
    obtain ⟨xs', hx', hl⟩ := hx
    have hi' := R_int hi
    split at h
    · rename_i j hj
      rcases Ans.br_some h with ⟨hb, h⟩ | ⟨hb, h⟩
      · obtain ⟨u, h1, h2⟩ := Ans.bind_some h
        simp only [Ans.res, Option.some.injEq] at h2
        subst h2
        obtain ⟨rfl, rfl⟩ := valE g
        obtain ⟨b1, b2⟩ := boundsI_iff hb
        obtain ⟨v', g1, g2⟩ := part_rel hj hl h1 w
        refine Ran.val hr (v' := v') ?_ g2
        simp only [execOp, ho, hx', hi', Instr.index]
        refine run_value ?_
        simp only [asIntOf, Sem.run_bind, Sem.run_pure, Result.andThen_ok, underlying_run hu]
        simp [b1, b2, sizeOf_run hj, g1]
      · simp [Ans.res] at h
    · simp [Ans.res] at h
  · simp [Ans.res] at h
end
end Go.Proofs.Ytokdjjdmmahbiaa.Vx

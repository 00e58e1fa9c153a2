/-
  The executor's operations are the model's. Nothing here is trusted.
-/
import Derived.Test.YtagnkjdobkdhmaaVx2
namespace Go.Proofs.Ytagnkjdobkdhmaa.Vx
open Go Go.RowKit

theorem foldl_fill (off : Nat) : ∀ (l : List Value) (k : Nat) (cells : Array Value), (l.zipIdx k).foldl (fun cs (p : Value × Nat) => cs.setIfInBounds (off + p.2) p.1) cells = (setMany cells.toList (off + k) l).toArray
  | [], k, cells => by simp [setMany]
  | v :: l, k, cells => by
    simp only [List.zipIdx_cons, List.foldl_cons, setMany]
    rw [foldl_fill off l (k + 1)]
    simp [Nat.add_assoc]

theorem fold_cells (off : Nat) (v : Value) (cells : Array Value) : v.cells.zipIdx.foldl (fun cs (p : Value × Nat) => cs.setIfInBounds (off + p.2) p.1) cells = (setMany cells.toList off v.cells.toList).toArray := by
  rw [← Array.foldl_toList, Array.toList_zipIdx]
  exact foldl_fill off _ 0 cells

theorem setMany_length : ∀ (vs : List Value) (off : Nat) (l : List Value), (setMany l off vs).length = l.length
  | [], _, _ => rfl
  | v :: vs, off, l => by simp [setMany, setMany_length vs]

theorem fillL_fill (size : Nat) : ∀ (parts : List (Nat × Value)) (cells r : List Value), fillL size cells parts = some r → Instr.fill (fun i => some (i * size, size)) cells.toArray parts = some r.toArray
  | [], cells, r, h => by simp [fillL] at h; subst h; simp [Instr.fill]
  | (i, v) :: parts, cells, r, h => by
    simp only [fillL] at h
    split at h
    · rename_i hs
      simp only [Instr.fill]
      rw [if_neg (by simp; omega)]
      have := fold_cells (i * size) v cells.toArray
      simp only at this
      rw [this]
      exact fillL_fill size parts _ r h
    · cases h

theorem fillF_fill {P : Program} {fs : Array Field} (places : Array (Nat × Nat)) (hp : ∀ (i : Nat) (f : Field) (j : TypeInfo), fs[i]? = some f → P.info? f.type = some j → places[i]? = some (f.offset, j.size)) :
    ∀ (parts : List (Nat × Value)) (cells r : List Value), fillF P fs cells parts = some r → Instr.fill (places[·]?) cells.toArray parts = some r.toArray
  | [], cells, r, h => by simp [fillF] at h; subst h; simp [Instr.fill]
  | (i, v) :: parts, cells, r, h => by
    simp only [fillF] at h
    cases hf : fs[i]? with
    | none => simp [hf] at h
    | some f =>
      simp only [hf] at h
      cases hj : P.info? f.type with
      | none => simp [hj] at h
      | some j =>
        simp only [hj] at h
        split at h
        · rename_i hs
          simp only [Instr.fill, hp i f j hf hj]
          rw [if_neg (by simp; omega)]
          have := fold_cells f.offset v cells.toArray
          simp only at this
          rw [this]
          exact fillF_fill places hp parts _ r h
        · cases h

theorem zeroValue_run {P : Program} {t : TypeId} {i : TypeInfo} {z : Value} (hi : P.info? t = some i) (hz : i.zero = some z) (w : World) : (zeroValue t).run P w = .ok z w := by
  simp only [zeroValue, Sem.run_bind, run_typeInfo w hi, Result.andThen_ok, hz]
  rfl

theorem mapM_places {P : Program} (w : World) : ∀ (fs : List Field), fs.all (fun f => (P.info? f.type).isSome) = true →
    (fs.mapM (fun f => do pure (f.offset, ← sizeOf f.type) : Field → Sem (Nat × Nat))).run P w = .ok (fs.map fun f => (f.offset, ((P.info? f.type).map (·.size)).getD 0)) w
  | [], _ => rfl
  | f :: fs, h => by
    simp only [List.all_cons, Bool.and_eq_true] at h
    obtain ⟨i, hi⟩ := Option.isSome_iff_exists.1 h.1
    rw [List.mapM_cons]
    simp only [Sem.run_bind, sizeOf_run hi, Result.andThen_ok, Sem.run_pure, mapM_places w fs h.2, List.map_cons, hi, Option.map_some, Option.getD_some]

theorem buildV_run {P : Program} {t : TypeId} {parts : Array (Nat × Value)} {v : Value} (h : buildV P t parts.toList = some v) (w : World) : (Instr.build t parts).run P w = .ok v w ∧ bare v = true := by
  unfold buildV at h
  cases hi : P.info? t with
  | none => simp [hi] at h
  | some i =>
    cases hu : P.underlying t with
    | none => simp [hi, hu] at h
    | some kd =>
      simp only [hi, hu] at h
      cases kd with
      | array n e =>
        simp only at h
        cases hz : i.zero with
        | none => simp [hz] at h
        | some z =>
          cases hj : P.info? e with
          | none => simp [hz, hj] at h
          | some j =>
            simp only [hz, hj] at h
            cases hf : fillL j.size z.cells.toList parts.toList with
            | none => simp [hf] at h
            | some l =>
              simp only [hf, Option.some.injEq] at h
              subst h
              have := fillL_fill j.size _ _ _ hf
              simp only [Array.toArray_toList] at this
              refine ⟨?_, rfl⟩
              simp only [Instr.build, Sem.run_bind, zeroValue_run hi hz, Result.andThen_ok, underlying_run hu, sizeOf_run hj, this]
              rfl
      | struct fs =>
        simp only at h
        cases hz : i.zero with
        | none => simp [hz] at h
        | some z =>
          simp only [hz] at h
          split at h
          · rename_i hall
            cases hf : fillF P fs z.cells.toList parts.toList with
            | none => simp [hf] at h
            | some l =>
              simp only [hf, Option.some.injEq] at h
              subst h
              refine ⟨?_, rfl⟩
              have hm := mapM_places (P := P) w fs.toList hall
              have hfl := fillF_fill (P := P) (fs := fs) (fs.toList.map fun f => (f.offset, ((P.info? f.type).map (·.size)).getD 0)).toArray (by
                intro k f j h1 h2
                simp [h1, h2]) _ _ _ hf
              simp only [Array.toArray_toList] at hfl
              simp only [Instr.build, Sem.run_bind, zeroValue_run hi hz, Result.andThen_ok, underlying_run hu, Array.mapM_eq_mapM_toList]
              rw [map_eq_pure_bind]
              simp only [Sem.run_bind, hm, Result.andThen_ok, Sem.run_pure, hfl]
          · cases h
      | _ => simp at h

structure MemRel (w0 : World) (r : Nat → Nat) (mem : Mem) (w : World) : Prop where
  below : Below w0.heap.size w0 w
  blk : ∀ i c, mem[i]? = some (some c) → w0.heap.size ≤ r i ∧ ∃ T, w.heap[r i]? = some (.cells c.toArray T (0, 0))
  inj : ∀ i j c d, mem[i]? = some (some c) → mem[j]? = some (some d) → r i = r j → i = j

/-- Every address leads to a row that has been made. -/
def WF (st : St) : Prop := ∀ v ∈ st.tmps, inMem st.mem v

def RelAt (w0 : World) (r : Nat → Nat) (st : St) (a : Act) (w : World) : Prop :=
  a.defers = [] ∧ a.tmps = (st.tmps.map (ren r)).toArray ∧ WF st ∧ MemRel w0 r st.mem w

theorem eval_ren {w0 : World} {r : Nat → Nat} {st : St} {a : Act} {w : World} (h : RelAt w0 r st a w) {x : Operand} (hx : okMove x = true) : a.eval x = ren r (ev st x) := by
  cases x with
  | tmp t =>
    simp only [Act.eval, ev, h.2.1]
    cases ht : st.tmps[t]? <;> simp [ht, ren, undef]
  | const v => simp only [okMove] at hx; simp only [Act.eval, ev]; rw [ren_bare hx]
  | global g => simp [okMove] at hx
  | func f => rfl

theorem okOpnd_bare {st : St} {x : Operand} (h : okOpnd st x = true) : bare (ev st x) = true ∧ okMove x = true := by
  cases x with
  | tmp t => exact ⟨h, rfl⟩
  | const v => exact ⟨h, h⟩
  | global g => simp [okOpnd] at h
  | func f => exact ⟨h, rfl⟩

theorem eval_bare {w0 : World} {r : Nat → Nat} {st : St} {a : Act} {w : World} (h : RelAt w0 r st a w) {x : Operand} (hx : okOpnd st x = true) : a.eval x = ev st x := by
  rw [eval_ren h (okOpnd_bare hx).2, ren_bare (okOpnd_bare hx).1]

theorem wf_ev {st : St} (h : WF st) {x : Operand} (hx : okMove x = true) : inMem st.mem (ev st x) := by
  cases x with
  | tmp t =>
    simp only [ev]
    cases ht : st.tmps[t]? with
    | none => trivial
    | some v => exact h v (List.mem_of_getElem? ht)
  | const v => exact inMem_bare (v := v) hx
  | global g => simp [okMove] at hx
  | func f => trivial

theorem ev_inMem {w0 : World} {r : Nat → Nat} {st : St} {a : Act} {w : World} (h : RelAt w0 r st a w) {x : Operand} (hx : okMove x = true) : inMem st.mem (ev st x) := wf_ev h.2.2.1 hx

theorem inMem_mono {m m' : Mem} (h : ∀ (i : Nat) c, m[i]? = some (some c) → ∃ c', m'[i]? = some (some c')) {v : Value} (hv : inMem m v) : inMem m' v := by
  cases v with
  | pointer a => cases a with
    | none => trivial
    | some a => obtain ⟨c, hc⟩ := hv; exact h _ c hc
  | _ => trivial

theorem ren_congr {r r' : Nat → Nat} {m : Mem} (h : ∀ (i : Nat) c, m[i]? = some (some c) → r' i = r i) {v : Value} (hv : inMem m v) : ren r' v = ren r v := by
  cases v with
  | pointer a => cases a with
    | none => rfl
    | some a => obtain ⟨c, hc⟩ := hv; simp only [ren]; rw [h a.block c hc]
  | _ => rfl

theorem set_grows {m : Mem} {p : Nat} {c : List Value} (i : Nat) (d : List Value) (h : m[i]? = some (some d)) : ∃ c', (m.set p (some c))[i]? = some (some c') := by
  rw [List.getElem?_set]
  split
  · rename_i hpi
    subst hpi
    exact ⟨c, by rw [if_pos (List.getElem?_eq_some_iff.1 h).1]⟩
  · exact ⟨d, h⟩

/-- A new block. -/
theorem MemRel.push {w0 w : World} {r : Nat → Nat} {mem : Mem} (h : MemRel w0 r mem w) {p : Nat} (hp : mem[p]? = some none) (c : List Value) (T : TypeId) :
    MemRel w0 (fun i => if i = p then w.heap.size else r i) (mem.set p (some c)) { w with heap := w.heap.push (.cells c.toArray T (0, 0)) } := by
  have hlt : ∀ i c', mem[i]? = some (some c') → r i < w.heap.size := fun i c' hi => by
    obtain ⟨_, T', ht⟩ := h.blk i c' hi
    exact (Array.getElem?_eq_some_iff.1 ht).1
  have hget : ∀ i d, (mem.set p (some c))[i]? = some (some d) → (i = p ∧ d = c) ∨ (i ≠ p ∧ mem[i]? = some (some d)) := fun i d hi => by
    rw [List.getElem?_set] at hi
    split at hi
    · rename_i hpi
      rw [if_pos (List.getElem?_eq_some_iff.1 hp).1] at hi
      simp only [Option.some.injEq] at hi
      exact Or.inl ⟨hpi.symm, hi.symm⟩
    · rename_i hpi
      exact Or.inr ⟨fun e => hpi e.symm, hi⟩
  refine ⟨?_, ?_, ?_⟩
  · exact h.below.alloc h.below.size _
  · intro i c' hi
    rcases hget i c' hi with ⟨rfl, rfl⟩ | ⟨hne, hi⟩
    · exact ⟨by simpa using h.below.size, T, by simp⟩
    · simp only [hne, if_false]
      obtain ⟨hb, T', ht⟩ := h.blk i c' hi
      refine ⟨hb, T', ?_⟩
      rw [Array.getElem?_push, if_neg (by have := hlt i c' hi; omega)]
      exact ht
  · intro i j ci cj hi hj hij
    rcases hget i ci hi with ⟨h1, _⟩ | ⟨h1, hi⟩ <;> rcases hget j cj hj with ⟨h2, _⟩ | ⟨h2, hj⟩
    · omega
    · simp only [h1, h2, if_true, if_false] at hij
      have := hlt j cj hj
      omega
    · simp only [h1, h2, if_true, if_false] at hij
      have := hlt i ci hi
      omega
    · simp only [h1, h2, if_false] at hij
      exact h.inj i j ci cj hi hj hij

theorem MemRel.later {w0 w w' : World} {r : Nat → Nat} {mem : Mem} (h : MemRel w0 r mem w) (hb : Below w.heap.size w w') : MemRel w0 r mem w' := by
  refine ⟨h.below.trans (hb.mono h.below.size), fun i c hi => ?_, h.inj⟩
  obtain ⟨h1, T, ht⟩ := h.blk i c hi
  refine ⟨h1, T, ?_⟩
  rw [hb.block _ (Array.getElem?_eq_some_iff.1 ht).1]
  exact ht

theorem MemRel.stored {w0 w w' : World} {r : Nat → Nat} {mem : Mem} (h : MemRel w0 r mem w) {b : Nat} {c c' : List Value} {T : TypeId} (hb : mem[b]? = some (some c)) (hs : Stored (r b) c' T w w') : MemRel w0 r (mem.set b (some c')) w' := by
  have hbl : b < mem.length := (List.getElem?_eq_some_iff.1 hb).1
  have hget : ∀ i d, (mem.set b (some c'))[i]? = some (some d) → (i = b ∧ d = c') ∨ (i ≠ b ∧ mem[i]? = some (some d)) := fun i d hi => by
    rw [List.getElem?_set] at hi
    split at hi
    · rename_i hpi
      simp only [Option.some.injEq] at hi
      exact Or.inl ⟨hpi.symm, hi.symm⟩
    · rename_i hpi
      exact Or.inr ⟨fun e => hpi e.symm, hi⟩
  refine ⟨?_, fun i d hi => ?_, ?_⟩
  · refine h.below.trans ⟨hs.os, hs.tape, hs.output, by rw [hs.size]; exact Nat.le_refl _, fun k hk => hs.oth k ?_⟩
    have := (h.blk b c hb).1
    omega
  · rcases hget i d hi with ⟨rfl, rfl⟩ | ⟨hne, hi⟩
    · exact ⟨(h.blk i c hb).1, T, hs.blk⟩
    · obtain ⟨h1, T', ht⟩ := h.blk i d hi
      refine ⟨h1, T', ?_⟩
      rw [hs.oth (r i) (fun e => hne (h.inj i b d c hi hb e))]
      exact ht
  · intro i j ci cj hi hj hij
    rcases hget i ci hi with ⟨h1, _⟩ | ⟨h1, hi'⟩ <;> rcases hget j cj hj with ⟨h2, _⟩ | ⟨h2, hj'⟩
    · omega
    · subst h1; exact h.inj i j c cj hb hj' hij
    · subst h2; exact h.inj i j ci c hi' hb hij
    · exact h.inj i j ci cj hi' hj' hij

theorem MemRel.room {w0 w : World} {r : Nat → Nat} {mem : Mem} (h : MemRel w0 r mem w) (n : Nat) : MemRel w0 r (mem ++ List.replicate n none) w := by
  have hget : ∀ i (d : List Value), (mem ++ List.replicate n none)[i]? = some (some d) → mem[i]? = some (some d) := fun i d hi => by
    rw [List.getElem?_append] at hi
    split at hi
    · exact hi
    · rw [List.getElem?_replicate] at hi
      split at hi
      · cases hi
      · cases hi
  exact ⟨h.below, fun i c hi => h.blk i c (hget i c hi), fun i j c d hi hj => h.inj i j c d (hget i c hi) (hget j d hj)⟩

theorem inMem_room {m : Mem} {n : Nat} {v : Value} (h : inMem m v) : inMem (m ++ List.replicate n none) v :=
  inMem_mono (fun i c hi => ⟨c, by rw [List.getElem?_append_left (List.getElem?_eq_some_iff.1 hi).1]; exact hi⟩) h

end Go.Proofs.Ytagnkjdobkdhmaa.Vx

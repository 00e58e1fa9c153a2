/-
  The machine's operations, held against the executor's. Nothing here is trusted.
-/
import Derived.Test.YtokdjjdmmahbiaaVy4
namespace Go.Proofs.Ytokdjjdmmahbiaa.Vx
open Go Go.RowKit

theorem part_run {P : Program} {e : TypeId} {i : TypeInfo} (hi : P.info? e = some i) {xs : Array Value} {off : Nat} {x : Value} (hx : mkV P e ((xs.toList.drop off).take i.size) = some x) (w : World) :
    (part e xs off).run P w = .ok x w := by
  unfold mkV at hx
  cases ha : isAggT P e with
  | none => simp [ha] at hx
  | some q =>
    cases q with
    | true =>
      simp only [ha, Option.some.injEq] at hx
      subst hx
      simp only [part, Sem.run_bind, isAgg_run ha, Result.andThen_ok, if_true, sizeOf_run hi]
      simp only [Sem.run_pure]
      congr 2
      apply Array.ext'
      rw [Array.toList_extract]
      simp [List.extract]
    | false =>
      simp only [ha] at hx
      generalize hl2 : (xs.toList.drop off).take i.size = cs at hx
      match cs, hx, hl2 with
      | [v], hx, hv =>
        simp only [Option.some.injEq] at hx
        subst hx
        simp only [part, Sem.run_bind, isAgg_run ha, Result.andThen_ok, Bool.false_eq_true, if_false]
        have : xs[off]? = some v := by
          have h0 : ((xs.toList.drop off).take i.size)[0]? = some v := by rw [hv]; rfl
          rw [List.getElem?_take] at h0
          split at h0
          · rw [List.getElem?_drop] at h0; simpa using h0
          · cases h0
        rw [this]
        rfl
      | [], hx, _ => simp at hx
      | _ :: _ :: _, hx, _ => simp at hx

theorem andAll_cons {x : Option Bool} {l : List (Option Bool)} {r : Bool} (h : andAll (x :: l) = some r) : ∃ b r', x = some b ∧ andAll l = some r' ∧ r = (b && r') := by
  cases x with
  | none => simp [andAll] at h
  | some b =>
    simp only [andAll] at h
    cases hr : andAll l with
    | none => simp [hr] at h
    | some r' => simp [hr] at h; exact ⟨b, r', rfl, rfl, h.symm⟩

theorem eqCells_run {P : Program} : ∀ (d : Nat) (t : TypeId) (xs ys : List Value) (r : Bool), eqCells P d t xs ys = some r → ∃ x y, mkV P t xs = some x ∧ mkV P t ys = some y ∧ ∀ (k : Nat) (w : World), (Op.equalIn (d + k) t x y).run P w = .ok r w
  | 0, _, _, _, _, h => by simp [eqCells] at h
  | d + 1, t, xs, ys, r, h => by
    unfold eqCells at h
    cases hu : P.underlying t with
    | none => simp [hu] at h
    | some kd =>
      simp only [hu] at h
      cases kd with
      | bool =>
        simp only at h
        split at h
        · rename_i a b
          simp only [Option.some.injEq] at h
          subst h
          refine ⟨.bool a, .bool b, by simp [mkV, isAggT, hu], by simp [mkV, isAggT, hu], fun k w => ?_⟩
          rw [show d + 1 + k = (d + k) + 1 by omega]
          simp [Op.equalIn, underlying_run hu]
        · cases h
      | int q =>
        simp only at h
        split at h
        · rename_i k1 a k2 b
          split at h
          · rename_i hk
            simp only [Option.some.injEq] at h
            subst h
            subst hk
            refine ⟨.int k1 a, .int k1 b, by simp [mkV, isAggT, hu], by simp [mkV, isAggT, hu], fun k w => ?_⟩
            rw [show d + 1 + k = (d + k) + 1 by omega]
            simp [Op.equalIn, underlying_run hu]
          · cases h
        · cases h
      | array n e =>
        simp only at h
        cases hi : P.info? e with
        | none => simp [hi] at h
        | some i =>
          simp only [hi] at h
          split at h
          · rename_i hl
            refine ⟨.agg xs.toArray, .agg ys.toArray, by simp [mkV, isAggT, hu], by simp [mkV, isAggT, hu], fun k w => ?_⟩
            rw [show d + 1 + k = (d + k) + 1 by omega, run_equalIn_array w (d + k) xs.toArray ys.toArray hu hi]
            have hcs : P.cellsOf e = i.size := by simp [Program.cellsOf, hi]
            rw [hcs]
            have hmem : ∀ j ∈ List.range n, j < n := fun j hj => List.mem_range.1 hj
            revert r hmem
            generalize List.range n = js
            induction js with
            | nil => intro r h _; simp [andAll] at h; subst h; simp [Op.eqItems]
            | cons j js ih =>
              intro r h hmem
              simp only [List.map_cons] at h
              obtain ⟨b, r', hb, hr', rfl⟩ := andAll_cons h
              obtain ⟨x, y, hx, hy, he⟩ := eqCells_run d e _ _ _ hb
              have hj : j < n := hmem j (by simp)
              have hjn : j * i.size + i.size ≤ n * i.size := by
                have : (j + 1) * i.size ≤ n * i.size := Nat.mul_le_mul_right _ hj
                rw [Nat.add_mul, Nat.one_mul] at this; exact this
              have p1 := part_run (xs := xs.toArray) (off := j * i.size) hi (by simpa using hx) w
              have p2 := part_run (xs := ys.toArray) (off := j * i.size) hi (by simpa using hy) w
              simp only [Op.eqItems, Sem.run_bind, p1, p2, Result.andThen_ok, he k w]
              cases b
              · simp
              · simp only [Bool.not_true, Bool.false_eq_true, if_false, Bool.true_and]
                exact ih r' hr' (fun q hq => hmem q (by simp [hq]))
          · cases h
      | struct fs =>
        simp only at h
        split at h
        · cases h
        · rename_i hst
          have hst' : P.stoodInHeld t = false := by simpa using hst
          refine ⟨.agg xs.toArray, .agg ys.toArray, by simp [mkV, isAggT, hu], by simp [mkV, isAggT, hu], fun k w => ?_⟩
          have hfo : P.fieldsOf t = fs := by simp [Program.fieldsOf, hu]
          rw [show d + 1 + k = (d + k) + 1 by omega, run_equalIn_struct w (d + k) t xs.toArray ys.toArray (by rw [hfo]; exact hu) hst', hfo]
          revert r
          generalize fs.toList = gs
          induction gs with
          | nil => intro r h; simp [andAll] at h; subst h; simp [Op.eqFields]
          | cons f gs ih =>
            intro r h
            simp only [List.map_cons] at h
            obtain ⟨b, r', hb, hr', rfl⟩ := andAll_cons h
            cases hi : P.info? f.type with
            | none => simp [hi] at hb
            | some i =>
              simp only [hi] at hb
              split at hb
              · cases hb
              · rename_i hn
                split at hb
                · rename_i hl
                  have hn' : f.name ≠ "_" := by simpa using hn
                  obtain ⟨x, y, hx, hy, he⟩ := eqCells_run d f.type _ _ _ hb
                  have p1 := part_run (xs := xs.toArray) (off := f.offset) hi (by simpa using hx) w
                  have p2 := part_run (xs := ys.toArray) (off := f.offset) hi (by simpa using hy) w
                  simp only [Op.eqFields, hn', ne_eq, not_false_eq_true, if_true, Sem.run_bind, p1, p2, Result.andThen_ok, he k w]
                  cases b
                  · simp
                  · simp only [Bool.not_true, Bool.false_eq_true, if_false, Bool.true_and]
                    exact ih r' hr'
                · cases hb
      | _ => simp at h


/-! ## Literals and parts -/
theorem foldl_fill (off : Nat) : ∀ (l : List Value) (k : Nat) (cells : Array Value), (l.zipIdx k).foldl (fun cs (p : Value × Nat) => cs.setIfInBounds (off + p.2) p.1) cells = (setMany cells.toList (off + k) l).toArray
  | [], k, cells => by simp [setMany]
  | v :: l, k, cells => by
    simp only [List.zipIdx_cons, List.foldl_cons, setMany]
    rw [foldl_fill off l (k + 1)]
    simp [Nat.add_assoc]
theorem fold_cells (off : Nat) (v : Value) (cells : Array Value) : v.cells.zipIdx.foldl (fun cs (p : Value × Nat) => cs.setIfInBounds (off + p.2) p.1) cells = (setMany cells.toList off v.cells.toList).toArray := by
  rw [← Array.foldl_toList, Array.toList_zipIdx]
  exact foldl_fill off _ 0 cells
/-- Parts, one by one. -/
def RP (r : Ren) : List (Nat × Value) → List (Nat × Value) → Prop
  | [], [] => True
  | x :: xs, y :: ys => (x.1 = y.1 ∧ R r x.2 y.2) ∧ RP r xs ys
  | _, _ => False
theorem setMany_allL {p : Value → Bool} : ∀ (vs : List Value) (off : Nat) (l : List Value), allL p (setMany l off vs) = true → off + vs.length ≤ l.length → allL p vs = true := by
  intro vs off l h hl
  refine allL_iff.2 fun x hx => ?_
  obtain ⟨i, hi⟩ := List.getElem?_of_mem hx
  have hlt := (List.getElem?_eq_some_iff.1 hi).1
  refine allL_iff.1 h x (List.mem_of_getElem? (i := off + i) ?_)
  rw [setMany_get vs off l _ hl, if_pos (by omega), show off + i - off = i by omega]
  exact hi
/-- Filling: what is left at the end is all of cells, so each part was, or was overwritten: we ask it of each. -/
theorem fillL_rel {r : Ren} (size : Nat) : ∀ (ps ps' : List (Nat × Value)) (cells cells' l : List Value), RP r ps ps' → RL (R0 r) cells cells' → (∀ x ∈ ps, allL scalar x.2.cells.toList = true) → fillL size cells ps = some l →
    ∃ l', Instr.fill (fun i => some (i * size, size)) cells'.toArray ps' = some l'.toArray ∧ RL (R0 r) l l'
  | [], [], cells, cells', l, _, hc, _, h => by simp [fillL] at h; subst h; exact ⟨cells', by simp [Instr.fill], hc⟩
  | (i, v) :: ps, (i', v') :: ps', cells, cells', l, hp, hc, hs, h => by
    obtain ⟨⟨h1, h2⟩, h3⟩ := hp
    simp only at h1 h2
    subst h1
    simp only [fillL] at h
    split at h
    · rename_i hq
      have hv := R_cells h2 (hs (i, v) (by simp))
      have hlen : v'.cells.size = size := by rw [← Array.length_toList, ← hv.length, Array.length_toList]; exact hq.1
      obtain ⟨l', g1, g2⟩ := fillL_rel size ps ps' _ (setMany cells' (i * size) v'.cells.toList) l h3 (RL.setMany (i * size) hc hv) (fun x hx => hs x (by simp [hx])) h
      refine ⟨l', ?_, g2⟩
      simp only [Instr.fill]
      have hcl := hc.length
      rw [if_neg (by simp; omega)]
      have := fold_cells (i * size) v' cells'.toArray
      simp only at this
      rw [this]
      exact g1
    · cases h
  | [], _ :: _, _, _, _, h, _, _, _ => h.elim
  | _ :: _, [], _, _, _, h, _, _, _ => h.elim
theorem fillF_rel {P : Program} {r : Ren} {fs : Array Field} (places : Array (Nat × Nat)) (hpl : ∀ (i : Nat) (f : Field) (j : TypeInfo), fs[i]? = some f → P.info? f.type = some j → places[i]? = some (f.offset, j.size)) :
    ∀ (ps ps' : List (Nat × Value)) (cells cells' l : List Value), RP r ps ps' → RL (R0 r) cells cells' → (∀ x ∈ ps, allL scalar x.2.cells.toList = true) → fillF P fs cells ps = some l →
    ∃ l', Instr.fill (places[·]?) cells'.toArray ps' = some l'.toArray ∧ RL (R0 r) l l'
  | [], [], cells, cells', l, _, hc, _, h => by simp [fillF] at h; subst h; exact ⟨cells', by simp [Instr.fill], hc⟩
  | (i, v) :: ps, (i', v') :: ps', cells, cells', l, hp, hc, hs, h => by
    obtain ⟨⟨h1, h2⟩, h3⟩ := hp
    simp only at h1 h2
    subst h1
    simp only [fillF] at h
    cases hf : fs[i]? with
    | none => simp [hf] at h
    | some f =>
      simp only [hf] at h
      cases hj : P.info? f.type with
      | none => simp [hj] at h
      | some j =>
        simp only [hj] at h
        split at h
        · rename_i hq
          have hv := R_cells h2 (hs (i, v) (by simp))
          have hlen : v'.cells.size = j.size := by rw [← Array.length_toList, ← hv.length, Array.length_toList]; exact hq.1
          obtain ⟨l', g1, g2⟩ := fillF_rel places hpl ps ps' _ (setMany cells' f.offset v'.cells.toList) l h3 (RL.setMany f.offset hc hv) (fun x hx => hs x (by simp [hx])) h
          refine ⟨l', ?_, g2⟩
          simp only [Instr.fill, hpl i f j hf hj]
          have hcl := hc.length
          rw [if_neg (by simp; omega)]
          have := fold_cells f.offset v' cells'.toArray
          simp only at this
          rw [this]
          exact g1
        · cases h
  | [], _ :: _, _, _, _, h, _, _, _ => h.elim
  | _ :: _, [], _, _, _, h, _, _, _ => h.elim
theorem mapM_places {P : Program} (w : World) : ∀ (fs : List Field), fs.all (fun f => (P.info? f.type).isSome) = true →
    (fs.mapM (fun f => do pure (f.offset, ← sizeOf f.type) : Field → Sem (Nat × Nat))).run P w = .ok (fs.map fun f => (f.offset, ((P.info? f.type).map (·.size)).getD 0)) w
  | [], _ => rfl
  | f :: fs, h => by
    simp only [List.all_cons, Bool.and_eq_true] at h
    obtain ⟨i, hi⟩ := Option.isSome_iff_exists.1 h.1
    rw [List.mapM_cons]
    simp only [Sem.run_bind, sizeOf_run hi, Result.andThen_ok, Sem.run_pure, mapM_places w fs h.2, List.map_cons, hi, Option.map_some, Option.getD_some]
theorem RL_refl {r : Ren} : ∀ {l : List Value}, allL plain0 l = true → RL (R0 r) l l
  | [], _ => trivial
  | x :: l, h => ⟨(R0_plain ((allL_iff.1 h) x (by simp))).2 rfl, RL_refl (allL_iff.2 fun z hz => (allL_iff.1 h) z (by simp [hz]))⟩
theorem buildV_run {P : Program} {r : Ren} {t : TypeId} {ps : List (Nat × Value)} {parts : Array (Nat × Value)} {v : Value} (hp : RP r ps parts.toList) (hs : ∀ x ∈ ps, allL scalar x.2.cells.toList = true) (h : buildV P t ps = some v) (w : World) :
    ∃ v', (Instr.build t parts).run P w = .ok v' w ∧ R r v v' := by
  unfold buildV at h
  cases hi : P.info? t with
  | none => simp [hi] at h
  | some i =>
    cases hu : P.underlying t with
    | none => simp [hi, hu] at h
    | some kd =>
      simp only [hi, hu] at h
      cases kd with
      | array n e =>
        simp only at h
        cases hz : i.zero with
        | none => simp [hz] at h
        | some z =>
          cases hj : P.info? e with
          | none => simp [hz, hj] at h
          | some j =>
            simp only [hz, hj] at h
            split at h
            rotate_left
            · cases h
            rename_i hpz
            cases hf : fillL j.size z.cells.toList ps with
            | none => simp [hf] at h
            | some l =>
              simp only [hf, Option.some.injEq] at h
              subst h
              obtain ⟨l', g1, g2⟩ := fillL_rel j.size _ _ _ _ _ hp (RL_refl hpz) hs hf
              simp only [Array.toArray_toList] at g1
              refine ⟨.agg l'.toArray, ?_, ⟨_, rfl, by simpa using g2⟩⟩
              simp only [Instr.build, Sem.run_bind, zeroValue_run hi hz, Result.andThen_ok, underlying_run hu, sizeOf_run hj, g1]
              rfl
      | struct fs =>
        simp only at h
        cases hz : i.zero with
        | none => simp [hz] at h
        | some z =>
          simp only [hz] at h
          split at h
          · rename_i hall
            simp only [Bool.and_eq_true] at hall
            cases hf : fillF P fs z.cells.toList ps with
            | none => simp [hf] at h
            | some l =>
              simp only [hf, Option.some.injEq] at h
              subst h
              have hm := mapM_places (P := P) w fs.toList hall.2
              obtain ⟨l', g1, g2⟩ := fillF_rel (P := P) (r := r) (fs := fs) (fs.toList.map fun f => (f.offset, ((P.info? f.type).map (·.size)).getD 0)).toArray (by
                intro k f j h1 h2
                simp [h1, h2]) _ _ _ _ _ hp (RL_refl hall.1) hs hf
              simp only [Array.toArray_toList] at g1
              refine ⟨.agg l'.toArray, ?_, ⟨_, rfl, by simpa using g2⟩⟩
              simp only [Instr.build, Sem.run_bind, zeroValue_run hi hz, Result.andThen_ok, underlying_run hu, Array.mapM_eq_mapM_toList]
              rw [map_eq_pure_bind]
              simp only [Sem.run_bind, hm, Result.andThen_ok, Sem.run_pure, g1]
          · cases h
      | _ => simp at h
theorem repl_eq (z : Array Value) : ∀ (n : Nat), 0 < z.size → ((Array.range (n * z.size)).map (z[· % z.size]!)).toList = repl n z.toList := by
  intro n hz
  have hlen : ∀ n, (repl n z.toList).length = n * z.size := by
    intro n
    induction n with
    | zero => simp [repl]
    | succ n ih => simp only [repl, List.length_append, ih, Array.length_toList]; rw [Nat.add_mul, Nat.one_mul]; omega
  have hget : ∀ n i, i < n * z.size → (repl n z.toList)[i]? = z.toList[i % z.size]? := by
    intro n
    induction n with
    | zero => intro i hi; omega
    | succ n ih =>
      intro i hi
      simp only [repl]
      rw [List.getElem?_append, Array.length_toList]
      split
      · rename_i hlt; rw [Nat.mod_eq_of_lt hlt]
      · rename_i hge
        rw [ih (i - z.size) (by rw [Nat.add_mul, Nat.one_mul] at hi; omega)]
        congr 1
        rw [Nat.mod_eq_sub_mod (by omega : i ≥ z.size)]
  apply List.ext_getElem?
  intro i
  by_cases hi : i < n * z.size
  · rw [hget n i hi]
    have hm := Nat.mod_lt i hz
    simp [hi, hm]
  · rw [List.getElem?_eq_none (by simp; omega), List.getElem?_eq_none (by rw [hlen]; omega)]
theorem buildS_run {P : Program} {r : Ren} {t : TypeId} {len : Nat} {ps : List (Nat × Value)} {parts : Array (Nat × Value)} {sz : Nat} {l : List Value} (hp : RP r ps parts.toList) (hs : ∀ x ∈ ps, allL scalar x.2.cells.toList = true) (h : buildS P t len ps = some (sz, l)) (w : World) :
    ∃ l' e, (Instr.buildSlice t len parts).run P w = .ok (.slice (some ⟨w.heap.size, 0, none⟩) len len) { w with heap := w.heap.push (.cells l'.toArray e (0, 0)) } ∧ RL (R0 r) l l' ∧ 0 < sz ∧ l.length = len * sz := by
  unfold buildS at h
  split at h
  rotate_left
  · cases h
  rename_i e hu
  cases hj : P.info? e with
  | none => simp [hj] at h
  | some j =>
    simp only [hj] at h
    cases hz : j.zero with
    | none => simp [hz] at h
    | some z =>
      simp only [hz] at h
      split at h
      rotate_left
      · cases h
      rename_i hb
      simp only [Bool.and_eq_true] at hb
      obtain ⟨b1, b2, b3, b4, b5⟩ := hb
      have b2' : 0 < j.size := Nat.blt_eq.mp b2
      have b3' : z.cells.size = j.size := Nat.eq_of_beq_eq_true b3
      have b5' : len * j.size ≤ 2 ^ 24 := Nat.le_of_ble_eq_true b5
      cases hf : fillL j.size (repl len z.cells.toList) ps with
      | none => simp [hf] at h
      | some l0 =>
        simp only [hf, Option.some.injEq, Prod.mk.injEq] at h
        obtain ⟨rfl, rfl⟩ := h
        have hrep : allL plain0 (repl len z.cells.toList) = true := by
          refine allL_iff.2 fun x hx => allL_iff.1 b1 x ?_
          clear hf b4 b5 b5' hp hs
          induction len with
          | zero => simp [repl] at hx
          | succ n ih => simp only [repl, List.mem_append] at hx; rcases hx with hx | hx
                         · exact hx
                         · exact ih hx
        obtain ⟨l', g1, g2⟩ := fillL_rel j.size _ _ _ _ _ hp (RL_refl (r := r) hrep) hs hf
        have hfl : ∀ (ps : List (Nat × Value)) (c l : List Value), fillL j.size c ps = some l → l.length = c.length := by
          intro ps
          induction ps with
          | nil => intro c l h; simp [fillL] at h; rw [h]
          | cons x ps ih =>
            intro c l h
            simp only [fillL] at h
            split at h
            · rw [ih _ _ h, setMany_length]
            · cases h
        have hrl : (repl len z.cells.toList).length = len * j.size := by
          have e := repl_eq z.cells len (by omega)
          have := congrArg List.length e
          simp at this
          rw [← this, b3']
        refine ⟨l', e, ?_, g2, b2', by rw [hfl _ _ _ hf, hrl]⟩
        rcases Nat.eq_zero_or_pos len with h0 | b4'
        · subst h0
          have e1 : l'.toArray = l'.toArray := rfl
          simp only [Instr.buildSlice, Sem.run_bind, underlying_run hu, Result.andThen_ok, sizeOf_run hj]
          rw [if_neg (by omega), if_pos (by omega)]
          simp only [Sem.run_bind, Sem.run_pure, Result.andThen_ok]
          have e2 : ∀ z : Array Value, (Array.range (0 * j.size)).map (fun x => z[x % z.size]!) = (repl 0 (#[] : Array Value).toList).toArray := fun z => by
            apply Array.ext'
            simp [repl]
          rw [e2, show (repl 0 (#[] : Array Value).toList) = repl 0 z.cells.toList from rfl, g1]
          simp [newRow, newObj, Sem.run]
        have hpos : 0 < len * j.size := Nat.mul_pos b4' b2'
        simp only [Instr.buildSlice, Sem.run_bind, underlying_run hu, Result.andThen_ok, sizeOf_run hj]
        rw [if_neg (by omega), if_neg (by omega)]
        simp only [Sem.run_bind, zeroValue_run hj hz, Result.andThen_ok, Sem.run_pure]
        have e1 : (Array.range (len * j.size)).map (z.cells[· % z.cells.size]!) = (repl len z.cells.toList).toArray := by
          apply Array.ext'
          have := repl_eq z.cells len (by omega)
          rw [b3'] at this ⊢
          simpa using this
        rw [e1, g1]
        simp [newRow, newObj, Sem.run]
      
/-- The part of a row of cells. -/
theorem part_rel {P : Program} {r : Ren} {e : TypeId} {i : TypeInfo} (hi : P.info? e = some i) {xs : List Value} {xs' : Array Value} (hx : RL (R0 r) xs xs'.toList) {off : Nat} {v : Value} (hv : (partV P e ((xs.drop off).take i.size)).res = some v) (w : World) :
    ∃ v', (part e xs' off).run P w = .ok v' w ∧ R r v v' := by
  have hd := RL.take i.size (RL.drop off hx)
  unfold partV at hv
  cases ha : isAggT P e with
  | none => simp [ha, Ans.res] at hv
  | some q =>
    cases q with
    | true =>
      simp only [ha, Ans.res, Option.some.injEq] at hv
      subst hv
      refine ⟨.agg ((xs'.toList.drop off).take i.size).toArray, ?_, ⟨_, rfl, by simpa using hd⟩⟩
      exact part_run hi (by simp [mkV, ha]) w
    | false =>
      simp only [ha] at hv
      generalize hl : (xs.drop off).take i.size = c at hv hd
      generalize hl2 : (xs'.toList.drop off).take i.size = c' at hd
      match c, c', hv, hd, hl2 with
      | [u], [u'], hv, hd, hl2 =>
        simp only at hv
        split at hv
        · rename_i hs
          simp only [Ans.res, Option.some.injEq] at hv
          subst hv
          exact ⟨u', part_run hi (by rw [hl2]; simp [mkV, ha]) w, (R0_R hs).2 hd.1⟩
        · simp [Ans.res] at hv
      | [], _, hv, _, _ => simp [Ans.res] at hv
      | _ :: _ :: _, _, hv, _, _ => simp [Ans.res] at hv
      | [_], [], _, hd, _ => exact hd.elim
      | [_], _ :: _ :: _, _, hd, _ => exact hd.2.elim
theorem partsOk_iff : ∀ {l : List (Nat × Value)}, partsOk l = true → ∀ x ∈ l, allL scalar x.2.cells.toList = true
  | [], _, x, hx => by cases hx
  | y :: l, h, x, hx => by
    simp only [partsOk] at h
    split at h
    · rename_i hy
      rcases List.mem_cons.1 hx with rfl | hx
      · exact hy
      · exact partsOk_iff h x hx
    · cases h
end Go.Proofs.Ytokdjjdmmahbiaa.Vx

/-
  The executor's laws of memory: loads, stores, equality, composite literals. Nothing here is trusted.
-/
import Derived.Test.YtagnkjdobkdhmaaVx1
namespace Go.Proofs.Ytagnkjdobkdhmaa.Vx
open Go Go.RowKit

theorem add_none (b off n : Nat) : (⟨b, off, none⟩ : Addr).add n = ⟨b, off + n, none⟩ := by
  unfold Addr.add; split <;> simp_all

theorem cell_of {w : World} {b : Nat} {cs : List Value} {T : TypeId} {fz : Nat × Nat} (h : w.heap[b]? = some (.cells cs.toArray T fz)) (off : Nat) :
    w.cell? ⟨b, off, none⟩ = cs[off]? := by simp [World.cell?, h]

theorem run_load1 {P : Program} {w : World} {b off : Nat} {cs : List Value} {T : TypeId} {fz : Nat × Nat} {v : Value} (h : w.heap[b]? = some (.cells cs.toArray T fz)) (hv : cs[off]? = some v) :
    (load ⟨b, off, none⟩).run P w = .ok v w := by
  simp only [load, Sem.run, cell_of h, hv]

theorem run_loadFrom {P : Program} {w : World} {b off : Nat} {cs : List Value} {T : TypeId} {fz : Nat × Nat} (h : w.heap[b]? = some (.cells cs.toArray T fz)) :
    ∀ (n i : Nat) (acc : Array Value), off + i + n ≤ cs.length → (loadCellsFrom ⟨b, off, none⟩ i n acc).run P w = .ok (acc ++ ((cs.drop (off + i)).take n).toArray) w
  | 0, i, acc, _ => by simp [loadCellsFrom]
  | n + 1, i, acc, hl => by
    have hi : cs[off + i]? = some (cs[off + i]'(by omega)) := List.getElem?_eq_getElem (by omega)
    simp only [loadCellsFrom, Sem.run_bind, add_none, run_load1 h hi, Result.andThen_ok]
    rw [run_loadFrom h n (i + 1) _ (by omega)]
    congr 1
    have hd : cs.drop (off + i) = cs[off + i]'(by omega) :: cs.drop (off + i + 1) := List.drop_eq_getElem_cons (by omega)
    rw [hd, List.take_succ_cons]
    apply Array.ext'
    simp [Nat.add_assoc]

theorem underlying_run {P : Program} {t : TypeId} {d : TypeDesc} (h : P.underlying t = some d) (w : World) : (underlying t).run P w = .ok d w := run_underlying h w

theorem sizeOf_run {P : Program} {t : TypeId} {i : TypeInfo} (h : P.info? t = some i) (w : World) : (sizeOf t).run P w = .ok i.size w := by
  have := run_sizeOf (P := P) w h
  simpa [Program.cellsOf, h] using this

theorem isAgg_run {P : Program} {t : TypeId} {b : Bool} (h : isAggT P t = some b) (w : World) : (isAgg t).run P w = .ok b w := by
  unfold isAggT at h
  cases hu : P.underlying t with
  | none => simp [hu] at h
  | some d =>
    simp only [isAgg, Sem.run_bind, underlying_run hu, Result.andThen_ok]
    cases d <;> simp_all

theorem loadV_run {P : Program} {mem : Mem} {t : TypeId} {b off : Nat} {v : Value} (h : loadV P mem t b off = some v) {w : World} {b' : Nat} {c : List Value} {T : TypeId} {fz : Nat × Nat}
    (hm : mem[b]? = some (some c)) (hh : w.heap[b']? = some (.cells c.toArray T fz)) : (loadVar t ⟨b', off, none⟩).run P w = .ok v w ∧ bare v = true := by
  unfold loadV at h
  rw [hm] at h
  cases ha : isAggT P t with
  | none => simp [ha] at h
  | some q =>
    cases q with
    | true =>
      simp only [ha] at h
      cases hi : P.info? t with
      | none => simp [hi] at h
      | some i =>
        simp only [hi] at h
        split at h
        · rename_i hl
          simp only [Option.some.injEq] at h
          subst h
          refine ⟨?_, rfl⟩
          simp only [loadVar, Sem.run_bind, isAgg_run ha, Result.andThen_ok, if_true, sizeOf_run hi, loadCells]
          rw [run_loadFrom hh _ 0 _ (by omega)]
          simp
        · cases h
    | false =>
      simp only [ha] at h
      cases hc : c[off]? with
      | none => simp [hc] at h
      | some u =>
        simp only [hc] at h
        split at h
        · rename_i hb
          simp only [Option.some.injEq] at h
          subst h
          refine ⟨?_, hb⟩
          simp only [loadVar, Sem.run_bind, isAgg_run ha, Result.andThen_ok, Bool.false_eq_true, if_false]
          exact run_load1 hh hc
        · cases h

/-- What a row of stores leaves. -/
structure Stored (b : Nat) (c : List Value) (T : TypeId) (w w' : World) : Prop where
  blk : w'.heap[b]? = some (.cells c.toArray T (0, 0))
  oth : ∀ k, k ≠ b → w'.heap[k]? = w.heap[k]?
  size : w'.heap.size = w.heap.size
  os : w'.os = w.os
  tape : w'.tape = w.tape
  output : w'.output = w.output

theorem run_storeCells {P : Program} {b off : Nat} {T : TypeId} : ∀ (vs : List Value) (i : Nat) (cs : List Value) (w : World), w.heap[b]? = some (.cells cs.toArray T (0, 0)) → off + i + vs.length ≤ cs.length → vs.all scalar = true →
    ∃ w', (storeCells ⟨b, off, none⟩ vs i).run P w = .ok () w' ∧ Stored b (setMany cs (off + i) vs) T w w'
  | [], i, cs, w, h, _, _ => ⟨w, rfl, h, fun _ _ => rfl, rfl, rfl, rfl, rfl⟩
  | v :: vs, i, cs, w, h, hl, hs => by
    simp only [List.all_cons, Bool.and_eq_true] at hs
    simp only [List.length_cons] at hl
    have hc : w.cell? ⟨b, off + i, none⟩ = some (cs[off + i]'(by omega)) := by rw [cell_of h]; exact List.getElem?_eq_getElem (by omega)
    have hf : w.frozen? ⟨b, off + i, none⟩ = false := by simp [World.frozen?, h]
    have hb : (w.setCell ⟨b, off + i, none⟩ v).heap[b]? = some (.cells (cs.set (off + i) v).toArray T (0, 0)) := by
      simp only [World.setCell, Array.getElem?_modify, h]
      simp
    obtain ⟨w', hr, hw⟩ := run_storeCells (P := P) (off := off) vs (i + 1) (cs.set (off + i) v) _ hb (by simp; omega) hs.2
    refine ⟨w', ?_, ?_⟩
    · simp only [storeCells, Sem.run_bind, add_none]
      have : (store ⟨b, off + i, none⟩ v).run P w = .ok () (w.setCell ⟨b, off + i, none⟩ v) := by
        unfold store
        cases v <;> simp [scalar] at hs <;> simp [Sem.run, hc, hf]
      rw [this]
      exact hr
    · refine ⟨hw.blk, fun k hk => ?_, ?_, hw.os, hw.tape, hw.output⟩
      · rw [hw.oth k hk]; exact Below.heap_setCell _ _ _ _ hk
      · rw [hw.size]; simp [World.setCell]

theorem part_run {P : Program} {e : TypeId} {i : TypeInfo} (hi : P.info? e = some i) {xs : Array Value} {off : Nat} {x : Value} (hx : mkV P e ((xs.toList.drop off).take i.size) = some x) (w : World) :
    (part e xs off).run P w = .ok x w := by
  unfold mkV at hx
  cases ha : isAggT P e with
  | none => simp [ha] at hx
  | some q =>
    cases q with
    | true =>
      simp only [ha, Option.some.injEq] at hx
      subst hx
      simp only [part, Sem.run_bind, isAgg_run ha, Result.andThen_ok, if_true, sizeOf_run hi]
      simp only [Sem.run_pure]
      congr 2
      apply Array.ext'
      rw [Array.toList_extract]
      simp [List.extract]
    | false =>
      simp only [ha] at hx
      generalize hl2 : (xs.toList.drop off).take i.size = cs at hx
      match cs, hx, hl2 with
      | [v], hx, hv =>
        simp only [Option.some.injEq] at hx
        subst hx
        simp only [part, Sem.run_bind, isAgg_run ha, Result.andThen_ok, Bool.false_eq_true, if_false]
        have : xs[off]? = some v := by
          have h0 : ((xs.toList.drop off).take i.size)[0]? = some v := by rw [hv]; rfl
          rw [List.getElem?_take] at h0
          split at h0
          · rw [List.getElem?_drop] at h0; simpa using h0
          · cases h0
        rw [this]
        rfl
      | [], hx, _ => simp at hx
      | _ :: _ :: _, hx, _ => simp at hx

theorem andAll_cons {x : Option Bool} {l : List (Option Bool)} {r : Bool} (h : andAll (x :: l) = some r) : ∃ b r', x = some b ∧ andAll l = some r' ∧ r = (b && r') := by
  cases x with
  | none => simp [andAll] at h
  | some b =>
    simp only [andAll] at h
    cases hr : andAll l with
    | none => simp [hr] at h
    | some r' => simp [hr] at h; exact ⟨b, r', rfl, rfl, h.symm⟩

theorem eqCells_run {P : Program} : ∀ (d : Nat) (t : TypeId) (xs ys : List Value) (r : Bool), eqCells P d t xs ys = some r → ∃ x y, mkV P t xs = some x ∧ mkV P t ys = some y ∧ ∀ (k : Nat) (w : World), (Op.equalIn (d + k) t x y).run P w = .ok r w
  | 0, _, _, _, _, h => by simp [eqCells] at h
  | d + 1, t, xs, ys, r, h => by
    unfold eqCells at h
    cases hu : P.underlying t with
    | none => simp [hu] at h
    | some kd =>
      simp only [hu] at h
      cases kd with
      | bool =>
        simp only at h
        split at h
        · rename_i a b
          simp only [Option.some.injEq] at h
          subst h
          refine ⟨.bool a, .bool b, by simp [mkV, isAggT, hu], by simp [mkV, isAggT, hu], fun k w => ?_⟩
          rw [show d + 1 + k = (d + k) + 1 by omega]
          simp [Op.equalIn, underlying_run hu]
        · cases h
      | int q =>
        simp only at h
        split at h
        · rename_i k1 a k2 b
          split at h
          · rename_i hk
            simp only [Option.some.injEq] at h
            subst h
            subst hk
            refine ⟨.int k1 a, .int k1 b, by simp [mkV, isAggT, hu], by simp [mkV, isAggT, hu], fun k w => ?_⟩
            rw [show d + 1 + k = (d + k) + 1 by omega]
            simp [Op.equalIn, underlying_run hu]
          · cases h
        · cases h
      | array n e =>
        simp only at h
        cases hi : P.info? e with
        | none => simp [hi] at h
        | some i =>
          simp only [hi] at h
          split at h
          · rename_i hl
            refine ⟨.agg xs.toArray, .agg ys.toArray, by simp [mkV, isAggT, hu], by simp [mkV, isAggT, hu], fun k w => ?_⟩
            rw [show d + 1 + k = (d + k) + 1 by omega, run_equalIn_array w (d + k) xs.toArray ys.toArray hu hi]
            have hcs : P.cellsOf e = i.size := by simp [Program.cellsOf, hi]
            rw [hcs]
            have hmem : ∀ j ∈ List.range n, j < n := fun j hj => List.mem_range.1 hj
            revert r hmem
            generalize List.range n = js
            induction js with
            | nil => intro r h _; simp [andAll] at h; subst h; simp [Op.eqItems]
            | cons j js ih =>
              intro r h hmem
              simp only [List.map_cons] at h
              obtain ⟨b, r', hb, hr', rfl⟩ := andAll_cons h
              obtain ⟨x, y, hx, hy, he⟩ := eqCells_run d e _ _ _ hb
              have hj : j < n := hmem j (by simp)
              have hjn : j * i.size + i.size ≤ n * i.size := by
                have : (j + 1) * i.size ≤ n * i.size := Nat.mul_le_mul_right _ hj
                rw [Nat.add_mul, Nat.one_mul] at this; exact this
              have p1 := part_run (xs := xs.toArray) (off := j * i.size) hi (by simpa using hx) w
              have p2 := part_run (xs := ys.toArray) (off := j * i.size) hi (by simpa using hy) w
              simp only [Op.eqItems, Sem.run_bind, p1, p2, Result.andThen_ok, he k w]
              cases b
              · simp
              · simp only [Bool.not_true, Bool.false_eq_true, if_false, Bool.true_and]
                exact ih r' hr' (fun q hq => hmem q (by simp [hq]))
          · cases h
      | struct fs =>
        simp only at h
        split at h
        · cases h
        · rename_i hst
          have hst' : P.stoodInHeld t = false := by simpa using hst
          refine ⟨.agg xs.toArray, .agg ys.toArray, by simp [mkV, isAggT, hu], by simp [mkV, isAggT, hu], fun k w => ?_⟩
          have hfo : P.fieldsOf t = fs := by simp [Program.fieldsOf, hu]
          rw [show d + 1 + k = (d + k) + 1 by omega, run_equalIn_struct w (d + k) t xs.toArray ys.toArray (by rw [hfo]; exact hu) hst', hfo]
          revert r
          generalize fs.toList = gs
          induction gs with
          | nil => intro r h; simp [andAll] at h; subst h; simp [Op.eqFields]
          | cons f gs ih =>
            intro r h
            simp only [List.map_cons] at h
            obtain ⟨b, r', hb, hr', rfl⟩ := andAll_cons h
            cases hi : P.info? f.type with
            | none => simp [hi] at hb
            | some i =>
              simp only [hi] at hb
              split at hb
              · cases hb
              · rename_i hn
                split at hb
                · rename_i hl
                  have hn' : f.name ≠ "_" := by simpa using hn
                  obtain ⟨x, y, hx, hy, he⟩ := eqCells_run d f.type _ _ _ hb
                  have p1 := part_run (xs := xs.toArray) (off := f.offset) hi (by simpa using hx) w
                  have p2 := part_run (xs := ys.toArray) (off := f.offset) hi (by simpa using hy) w
                  simp only [Op.eqFields, hn', ne_eq, not_false_eq_true, if_true, Sem.run_bind, p1, p2, Result.andThen_ok, he k w]
                  cases b
                  · simp
                  · simp only [Bool.not_true, Bool.false_eq_true, if_false, Bool.true_and]
                    exact ih r' hr'
                · cases hb
      | _ => simp at h

end Go.Proofs.Ytagnkjdobkdhmaa.Vx

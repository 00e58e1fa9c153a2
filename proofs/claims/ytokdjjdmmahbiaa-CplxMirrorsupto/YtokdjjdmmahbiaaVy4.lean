/-
  The machine's loads, stores and literals, held against the executor's. Nothing here is trusted.
-/
import Derived.Test.YtokdjjdmmahbiaaVy3
namespace Go.Proofs.Ytokdjjdmmahbiaa.Vx
open Go Go.RowKit

theorem add_none (b off n : Nat) : (⟨b, off, none⟩ : Addr).add n = ⟨b, off + n, none⟩ := by
  unfold Addr.add; split <;> simp_all
theorem cell_of {w : World} {b : Nat} {cs : Array Value} {T : TypeId} {fz : Nat × Nat} (h : w.heap[b]? = some (.cells cs T fz)) (off : Nat) :
    w.cell? ⟨b, off, none⟩ = cs[off]? := by simp [World.cell?, h]
theorem run_load1 {P : Program} {w : World} {b off : Nat} {cs : Array Value} {T : TypeId} {fz : Nat × Nat} {v : Value} (h : w.heap[b]? = some (.cells cs T fz)) (hv : cs[off]? = some v) :
    (load ⟨b, off, none⟩).run P w = .ok v w := by
  simp only [load, Sem.run, cell_of h, hv]
theorem run_loadFrom {P : Program} {w : World} {b off : Nat} {cs : Array Value} {T : TypeId} {fz : Nat × Nat} (h : w.heap[b]? = some (.cells cs T fz)) :
    ∀ (n i : Nat) (acc : Array Value), off + i + n ≤ cs.size → (loadCellsFrom ⟨b, off, none⟩ i n acc).run P w = .ok (acc ++ ((cs.toList.drop (off + i)).take n).toArray) w
  | 0, i, acc, _ => by simp [loadCellsFrom]
  | n + 1, i, acc, hl => by
    have hlen : cs.toList.length = cs.size := Array.length_toList
    have hi : cs[off + i]? = some (cs.toList[off + i]'(by omega)) := by
      rw [← Array.getElem?_toList, List.getElem?_eq_getElem (by omega)]
    simp only [loadCellsFrom, Sem.run_bind, add_none, run_load1 h hi, Result.andThen_ok]
    rw [run_loadFrom h n (i + 1) _ (by omega)]
    congr 1
    have hd : cs.toList.drop (off + i) = cs.toList[off + i]'(by omega) :: cs.toList.drop (off + i + 1) := List.drop_eq_getElem_cons (by omega)
    rw [hd, List.take_succ_cons]
    apply Array.ext'
    simp [Nat.add_assoc]
theorem underlying_run {P : Program} {t : TypeId} {d : TypeDesc} (h : P.underlying t = some d) (w : World) : (underlying t).run P w = .ok d w := run_underlying h w
theorem sizeOf_run {P : Program} {t : TypeId} {i : TypeInfo} (h : P.info? t = some i) (w : World) : (sizeOf t).run P w = .ok i.size w := by
  have := run_sizeOf (P := P) w h
  simpa [Program.cellsOf, h] using this
theorem isAgg_run {P : Program} {t : TypeId} {b : Bool} (h : isAggT P t = some b) (w : World) : (isAgg t).run P w = .ok b w := by
  unfold isAggT at h
  cases hu : P.underlying t with
  | none => simp [hu] at h
  | some d =>
    simp only [isAgg, Sem.run_bind, underlying_run hu, Result.andThen_ok]
    cases d <;> simp_all
theorem zeroValue_run {P : Program} {t : TypeId} {i : TypeInfo} {z : Value} (hi : P.info? t = some i) (hz : i.zero = some z) (w : World) : (zeroValue t).run P w = .ok z w := by
  simp only [zeroValue, Sem.run_bind, run_typeInfo w hi, Result.andThen_ok, hz]
  rfl

/-! ## Cells of blocks -/
/-- The cells at an address, in the machine. -/
theorem at_run {w : World} {r : Ren} {p : Place} {k : Blk} (hk : BlkRel w r p k) {a : Addr} {n : Nat} {l : List Value} (h : k.at a n = some l) (hh : p.has a 1) :
    ∃ cs T fz, w.heap[p.blk]? = some (.cells cs T fz) ∧ (p.addr a).off + n ≤ cs.size ∧ RL (R0 r) l ((cs.toList.drop (p.addr a).off).take n) := by
  have key : ∀ {cs : Array Value} {off : Nat} {c : List Value}, CellsAt r cs off c → ∀ (o : Nat), 0 < n → o + n ≤ c.length → off + o + n ≤ cs.size ∧ RL (R0 r) ((c.drop o).take n) ((cs.toList.drop (off + o)).take n) := by
    intro cs off c hc o hn ho
    have hsz : off + o + n ≤ cs.size := by
      obtain ⟨v', h1, _⟩ := hc (o + n - 1) (c[o + n - 1]'(by omega)) (List.getElem?_eq_getElem (by omega))
      have := (Array.getElem?_eq_some_iff.1 h1).1
      omega
    refine ⟨hsz, RL.of_get (by simp; omega) fun i v v' h1 h2 => ?_⟩
    rw [List.getElem?_take] at h1 h2
    split at h1
    · rename_i hi
      rw [if_pos hi, List.getElem?_drop, Array.getElem?_toList] at h2
      rw [List.getElem?_drop] at h1
      obtain ⟨v'', h3, h4⟩ := hc (o + i) v h1
      rw [show off + (o + i) = off + o + i by omega, h2] at h3
      simp only [Option.some.injEq] at h3
      rw [h3]; exact h4
    · cases h1
  have rowk : ∀ {cs : Array Value} {T : TypeId} {fz : Nat × Nat} {esz m : Nat} {row : Nat → List Value}, p.esz = esz → p.n = m → w.heap[p.blk]? = some (.cells cs T fz) → (∀ i, i < m → (row i).length = esz ∧ CellsAt r cs (p.off + i * esz) (row i)) → (match a.spot with
      | some i => match Nat.blt 0 n && Nat.ble (a.off + n) esz with
        | true => some (((row i).drop a.off).take n)
        | false => none
      | none => none) = some l → ∃ cs T fz, w.heap[p.blk]? = some (.cells cs T fz) ∧ (p.addr a).off + n ≤ cs.size ∧ RL (R0 r) l ((cs.toList.drop (p.addr a).off).take n) := by
    intro cs T fz esz m row h2 h0 h3 h5 h
    split at h
    · rename_i i hs
      split at h
      · rename_i hb
        simp only [Bool.and_eq_true] at hb
        simp only [Option.some.injEq] at h
        subst h
        have hi : i < m := by have := hh i hs; omega
        have hn : 0 < n := Nat.blt_eq.mp hb.1
        have := key (h5 i hi).2 a.off hn (by rw [(h5 i hi).1]; exact Nat.le_of_ble_eq_true hb.2)
        refine ⟨cs, T, fz, h3, ?_⟩
        simp only [Place.addr, hs, Option.getD_some, h2]
        exact this
      · cases h
    · cases h
  cases k with
  | cells own esz c =>
    obtain ⟨h1, h2, cs, T, fz, h6, h3, h4, h5⟩ := hk
    simp only [Blk.at] at h
    split at h
    · rename_i hs
      split at h
      · rename_i hb
        simp only [Bool.and_eq_true] at hb
        simp only [Option.some.injEq] at h
        subst h
        have hn : 0 < n := Nat.blt_eq.mp hb.1
        have := key h5 a.off hn (Nat.le_of_ble_eq_true hb.2)
        refine ⟨cs, T, fz, h3, ?_⟩
        simp only [Place.addr, hs, Option.getD_none, Nat.zero_mul, Nat.add_zero]
        exact this
      · cases h
    · cases h
  | rows own pl esz m row =>
    obtain ⟨h1, h2, h0, _, cs, T, fz, _, h3, _, h5⟩ := hk
    exact rowk h2 h0 h3 h5 h
  | grow pl esz m row =>
    obtain ⟨h1, h2, h0, _, cs, T, fz, h3, _, h5⟩ := hk
    exact rowk h2 h0 h3 h5 h
  | view pl esz m row =>
    obtain ⟨h1, h2, h0, _, cs, T, fz, h3, _, h5⟩ := hk
    exact rowk h2 h0 h3 h5 h
  | _ => simp [Blk.at] at h

theorem load_run {P : Program} {w : World} {r : Ren} {p : Place} {k : Blk} (hk : BlkRel w r p k) {a : Addr} {t : TypeId} {v : Value} (h : (loadB P t a k).res = some v) (hh : p.has a 1) :
    ∃ v', (loadVar t (p.addr a)).run P w = .ok v' w ∧ R r v v' := by
  unfold loadB at h
  cases hi : P.info? t with
  | none => simp [hi, Ans.res] at h
  | some i =>
    simp only [hi] at h
    cases hl : k.at a i.size with
    | none => simp [hl, Ans.res] at h
    | some l =>
      simp only [hl] at h
      obtain ⟨cs, T, fz, h1, h2, h3⟩ := at_run hk hl hh
      unfold partV at h
      cases ha : isAggT P t with
      | none => simp [ha, Ans.res] at h
      | some q =>
        have hp : p.addr a = ⟨p.blk, (p.addr a).off, none⟩ := rfl
        cases q with
        | true =>
          simp only [ha, Ans.res, Option.some.injEq] at h
          subst h
          refine ⟨.agg ((cs.toList.drop (p.addr a).off).take i.size).toArray, ?_, ⟨_, rfl, by simpa using h3⟩⟩
          simp only [loadVar, Sem.run_bind, isAgg_run ha, Result.andThen_ok, if_true, sizeOf_run hi, loadCells]
          rw [hp, run_loadFrom h1 _ 0 _ (by omega)]
          simp
        | false =>
          simp only [ha] at h
          split at h
          · rename_i u
            split at h
            · rename_i hs
              simp only [Ans.res, Option.some.injEq] at h
              subst h
              obtain ⟨v', g1, g2⟩ := h3.get 0 u rfl
              refine ⟨v', ?_, (R0_R hs).2 g2⟩
              simp only [loadVar, Sem.run_bind, isAgg_run ha, Result.andThen_ok, Bool.false_eq_true, if_false]
              rw [hp]
              refine run_load1 h1 ?_
              rw [List.getElem?_take] at g1
              split at g1
              · rw [List.getElem?_drop, Array.getElem?_toList] at g1; simpa using g1
              · cases g1
            · simp [Ans.res] at h
          · simp [Ans.res] at h

/-! ## Stores -/
def flat (v : Value) : Bool := match v with
  | .agg _ | .tuple _ => false
  | _ => true
theorem R0_flat {r : Ren} {v v' : Value} (h : R0 r v v') (hs : scalar v = true) : flat v' = true := by
  unfold R0 at h
  cases v with
  | pointer a => cases a with
    | none => cases h; rfl
    | some a =>
      simp only at h
      revert h
      cases r a.block with
      | none => exact fun h => h.elim
      | some q => cases q with
        | none => rintro ⟨q, rfl⟩; rfl
        | some p => rintro ⟨rfl, _⟩; rfl
  | slice a n c => cases a with
    | none => cases h; rfl
    | some a =>
      simp only at h
      revert h
      cases r a.block with
      | none => exact fun h => h.elim
      | some q => cases q with
        | none => rintro ⟨q, c, rfl, _⟩; rfl
        | some p => rintro ⟨c, rfl, _⟩; rfl
  | map a => cases a with
    | none => cases h; rfl
    | some a =>
      simp only at h
      revert h
      cases r a with
      | none => exact fun h => h.elim
      | some q => cases q with
        | none => rintro ⟨q, rfl⟩; rfl
        | some p => rintro rfl; rfl
  | iface t u => cases u <;> first | (simp [scalar] at hs; done) | (obtain ⟨_, rfl, _⟩ := h; rfl; done) | (obtain ⟨_, _, rfl, _⟩ := h; rfl; done) | (cases h; rfl)
  | agg cs => simp [scalar] at hs
  | tuple cs => simp [scalar] at hs
  | _ => cases h; rfl
theorem RL_flat {r : Ren} : ∀ {l l' : List Value}, RL (R0 r) l l' → allL scalar l = true → allL flat l' = true
  | [], [], _, _ => rfl
  | x :: l, y :: l', h, hs => by
    have hx := (allL_iff.1 hs) x (by simp)
    have hl : allL scalar l = true := allL_iff.2 fun z hz => (allL_iff.1 hs) z (by simp [hz])
    simp only [allL, R0_flat h.1 hx]
    exact RL_flat h.2 hl
  | [], _ :: _, h, _ => h.elim
  | _ :: _, [], h, _ => h.elim
theorem setMany_length : ∀ (vs : List Value) (off : Nat) (l : List Value), (setMany l off vs).length = l.length
  | [], _, _ => rfl
  | v :: vs, off, l => by simp [setMany, setMany_length vs]
theorem setMany_get : ∀ (vs : List Value) (off : Nat) (l : List Value) (i : Nat), off + vs.length ≤ l.length → (setMany l off vs)[i]? = if off ≤ i ∧ i < off + vs.length then vs[i - off]? else l[i]?
  | [], off, l, i, _ => by simp [setMany]; omega
  | v :: vs, off, l, i, h => by
    simp only [List.length_cons] at h ⊢
    simp only [setMany]
    rw [setMany_get vs (off + 1) (l.set off v) i (by simp; omega), List.getElem?_set]
    by_cases h1 : off + 1 ≤ i ∧ i < off + 1 + vs.length
    · rw [if_pos h1, if_pos (by omega), show i - off = (i - (off + 1)) + 1 by omega, List.getElem?_cons_succ]
    · rw [if_neg h1]
      by_cases h2 : off = i
      · subst h2
        rw [if_pos rfl, if_pos (by omega), if_pos (by omega)]
        simp
      · rw [if_neg h2, if_neg (by omega)]
theorem run_storeCells {P : Program} {b off : Nat} {T : TypeId} : ∀ (vs : List Value) (i : Nat) (cs : Array Value) (w : World), w.heap[b]? = some (.cells cs T (0, 0)) → off + i + vs.length ≤ cs.size → allL flat vs = true →
    ∃ w', (storeCells ⟨b, off, none⟩ vs i).run P w = .ok () w' ∧ Only b w w' ∧ w'.heap[b]? = some (.cells (setMany cs.toList (off + i) vs).toArray T (0, 0))
  | [], i, cs, w, h, _, _ => ⟨w, rfl, ⟨fun _ _ => rfl, rfl, rfl, rfl, rfl, rfl⟩, by simpa [setMany] using h⟩
  | v :: vs, i, cs, w, h, hl, hs => by
    have hv : flat v = true := (allL_iff.1 hs) v (by simp)
    have hs' : allL flat vs = true := allL_iff.2 fun z hz => (allL_iff.1 hs) z (by simp [hz])
    simp only [List.length_cons] at hl
    have hc : w.cell? ⟨b, off + i, none⟩ = some (cs[off + i]'(by omega)) := by rw [cell_of h]; exact Array.getElem?_eq_getElem (by omega)
    have hf : w.frozen? ⟨b, off + i, none⟩ = false := by simp [World.frozen?, h]
    have hb : (w.setCell ⟨b, off + i, none⟩ v).heap[b]? = some (.cells (cs.toList.set (off + i) v).toArray T (0, 0)) := by
      simp only [World.setCell, Array.getElem?_modify, h]
      simp
      apply Array.ext'; simp
    obtain ⟨w', hr, hw, hw'⟩ := run_storeCells (P := P) (off := off) vs (i + 1) (cs.toList.set (off + i) v).toArray _ hb (by simp; omega) hs'
    refine ⟨w', ?_, ?_, ?_⟩
    · simp only [storeCells, Sem.run_bind, add_none]
      have : (store ⟨b, off + i, none⟩ v).run P w = .ok () (w.setCell ⟨b, off + i, none⟩ v) := by
        unfold store
        cases v <;> simp [flat] at hv <;> simp [Sem.run, hc, hf]
      rw [this]
      exact hr
    · refine ⟨fun k hk => ?_, ?_, hw.os, hw.tape, hw.output, hw.drawn⟩
      · rw [hw.oth k hk]; exact Below.heap_setCell _ _ _ _ hk
      · rw [hw.size]; simp [World.setCell]
    · rw [hw']
      simp only [setMany, Nat.add_assoc]
theorem CellsAt.store {r : Ren} {cs : Array Value} {off : Nat} {c vs vs' : List Value} {o : Nat} (h : CellsAt r cs off c) (hv : RL (R0 r) vs vs') (ho : o + vs.length ≤ c.length) (hsz : off + o + vs.length ≤ cs.size) :
    CellsAt r (setMany cs.toList (off + o) vs').toArray off (setMany c o vs) := by
  have hl := hv.length
  intro k v hk
  rw [setMany_get vs o c k ho] at hk
  have hcl : cs.toList.length = cs.size := Array.length_toList
  rw [List.getElem?_toArray, setMany_get vs' (off + o) cs.toList (off + k) (by omega)]
  split at hk
  · rename_i hk'
    rw [if_pos (by omega), show off + k - (off + o) = k - o by omega]
    exact hv.get _ v hk
  · rw [if_neg (by omega), Array.getElem?_toList]
    exact h k v hk
/-- Cells aside of a store stay. -/
theorem CellsAt.beside {r : Ren} {cs : Array Value} {off q : Nat} {c vs' : List Value} (h : CellsAt r cs off c) (hsz : q + vs'.length ≤ cs.size) (ha : q + vs'.length ≤ off ∨ off + c.length ≤ q) : CellsAt r (setMany cs.toList q vs').toArray off c := by
  intro k v hk
  have hlt := (List.getElem?_eq_some_iff.1 hk).1
  rw [List.getElem?_toArray, setMany_get vs' q cs.toList (off + k) (by rw [Array.length_toList]; omega), if_neg (by omega), Array.getElem?_toList]
  exact h k v hk
theorem store_run {P : Program} {w : World} {r : Ren} {p : Place} {k k' : Blk} (hk : BlkRel w r p k) {a : Addr} {t : TypeId} {v v' u : Value} (h : (storeB P t a v k).res = some (u, k')) (hh : p.has a 1) (hv : R r v v') :
    ∃ w', (storeVar t (p.addr a) v').run P w = .ok () w' ∧ u = undef ∧ ((p.own = true ∧ Only p.blk w w' ∧ BlkRel w' r p k') ∨ (w' = w ∧ k' = k)) := by
  unfold storeB at h
  cases hi : P.info? t with
  | none => simp [hi, Ans.res] at h
  | some i =>
    simp only [hi] at h
    split at h
    rotate_left
    · simp [Ans.res] at h
    rename_i hb
    simp only [Bool.and_eq_true] at hb
    have hsz : v.cells.size = i.size := Nat.eq_of_beq_eq_true hb.1
    have hc := R_cells hv hb.2
    have hfl := RL_flat hc hb.2
    have hlen := hc.length
    have hsz' : v'.cells.size = i.size := by rw [← Array.length_toList, ← hlen, Array.length_toList]; exact hsz
    have hvl : v'.cells.toList.length = i.size := by rw [Array.length_toList]; exact hsz'
    have hvl0 : v.cells.toList.length = i.size := by rw [Array.length_toList]; exact hsz
    have hrun : ∀ {cs : Array Value} {T : TypeId}, w.heap[p.blk]? = some (.cells cs T (0, 0)) → (p.addr a).off + i.size ≤ cs.size → ∃ w', (storeVar t (p.addr a) v').run P w = .ok () w' ∧ Only p.blk w w' ∧ w'.heap[p.blk]? = some (.cells (setMany cs.toList (p.addr a).off v'.cells.toList).toArray T (0, 0)) := by
      intro cs T h3 h4
      obtain ⟨w', g1, g2, g3⟩ := run_storeCells (P := P) (off := (p.addr a).off) v'.cells.toList 0 cs w h3 (by omega) hfl
      refine ⟨w', ?_, g2, g3⟩
      simp only [storeVar, Sem.run_bind, sizeOf_run hi, Result.andThen_ok]
      simp only [hsz', ne_eq, not_true_eq_false, if_false]
      exact g1
    cases hz : Nat.beq i.size 0 with
    | true =>
      have hz' : i.size = 0 := Nat.eq_of_beq_eq_true hz
      rw [hz] at h
      cases k with
      | cells own esz c =>
        simp only [Ans.res, Option.some.injEq, Prod.mk.injEq] at h
        obtain ⟨rfl, rfl⟩ := h
        refine ⟨w, ?_, rfl, Or.inr ⟨rfl, rfl⟩⟩
        simp only [storeVar, Sem.run_bind, sizeOf_run hi, Result.andThen_ok]
        simp only [hsz', ne_eq, not_true_eq_false, if_false]
        have : v'.cells.toList = [] := List.eq_nil_of_length_eq_zero (by omega)
        rw [this]
        rfl
      | _ => simp [Ans.res] at h
    | false =>
    rw [hz] at h
    cases k with
    | cells own esz c =>
      simp only at h
      split at h
      rotate_left
      · simp [Ans.res] at h
      rename_i hs
      split at h
      rotate_left
      · simp [Ans.res] at h
      rename_i hq
      simp only [Bool.and_eq_true] at hq
      simp only [Ans.res, Option.some.injEq, Prod.mk.injEq] at h
      obtain ⟨rfl, rfl⟩ := h
      obtain ⟨h1, h2, cs, T, fz, h6', h3, h4, h5⟩ := hk
      obtain ⟨rfl, h6⟩ := h4 hq.1
      have hpos : 0 < i.size := Nat.blt_eq.mp hq.2.1
      have hle := Nat.le_of_ble_eq_true hq.2.2
      have hao : (p.addr a).off = p.off + a.off := by simp [Place.addr, hs]
      have hcs : p.off + a.off + i.size ≤ cs.size := by
        obtain ⟨v', g1, _⟩ := h5 (a.off + i.size - 1) (c[a.off + i.size - 1]'(by omega)) (List.getElem?_eq_getElem (by omega))
        have := (Array.getElem?_eq_some_iff.1 g1).1
        omega
      obtain ⟨w', g1, g2, g3⟩ := hrun h3 (by rw [hao]; exact hcs)
      refine ⟨w', g1, rfl, Or.inl ⟨h1.trans hq.1, g2, h1, h2, _, T, (0, 0), h6', g3, fun _ => ⟨rfl, ?_⟩, ?_⟩⟩
      · rw [List.size_toArray, setMany_length, Array.length_toList]; exact h6
      · rw [hao]
        exact h5.store hc (by omega) (by omega)
    | rows own pl esz n row =>
      simp only at h
      split at h
      rotate_left
      · simp [Ans.res] at h
      rename_i j hs
      split at h
      rotate_left
      · simp [Ans.res] at h
      rename_i hq
      simp only [Bool.and_eq_true] at hq
      simp only [Ans.res, Option.some.injEq, Prod.mk.injEq] at h
      obtain ⟨rfl, rfl⟩ := h
      obtain ⟨h1, h2, h0, hplr, cs, T, fz, h6', h3, h4, h5⟩ := hk
      obtain ⟨rfl, h6⟩ := h4 hq.1
      have hpos : 0 < i.size := Nat.blt_eq.mp hq.2.1
      have hle := Nat.le_of_ble_eq_true hq.2.2.1
      have hj : j < n := by have := hh j hs; omega
      have hao : (p.addr a).off = p.off + j * esz + a.off := by simp [Place.addr, hs, h2]
      obtain ⟨hr1, hr2⟩ := h5 j hj
      have hcs : p.off + j * esz + a.off + i.size ≤ cs.size := by
        obtain ⟨v', g1, _⟩ := hr2 (a.off + i.size - 1) ((row j)[a.off + i.size - 1]'(by omega)) (List.getElem?_eq_getElem (by omega))
        have := (Array.getElem?_eq_some_iff.1 g1).1
        omega
      obtain ⟨w', g1, g2, g3⟩ := hrun h3 (by rw [hao]; exact hcs)
      refine ⟨w', g1, rfl, Or.inl ⟨h1.trans hq.1, g2, h1, h2, h0, fun hpl q hqn => ?_, _, T, (0, 0), h6', g3, fun _ => ⟨rfl, ?_⟩, fun q hqn => ?_⟩⟩
      · have hvp : allL nad0 v.cells.toList = true := by
          have := hq.2.2.2
          rw [hpl] at this
          simpa using this
        simp only
        split
        · refine allL_iff.2 fun z hz => ?_
          obtain ⟨k, hk⟩ := List.getElem?_of_mem hz
          rw [setMany_get _ _ _ _ (by omega)] at hk
          split at hk
          · exact allL_iff.1 hvp z (List.mem_of_getElem? hk)
          · exact allL_iff.1 (hplr hpl j hj) z (List.mem_of_getElem? hk)
        · exact hplr hpl q hqn
      · rw [List.size_toArray, setMany_length, Array.length_toList]; exact h6
      · rw [hao]
        by_cases hqj : q = j
        · subst hqj
          simp only [show Nat.beq q q = true from Nat.beq_refl q]
          refine ⟨by rw [setMany_length]; exact hr1, ?_⟩
          exact hr2.store hc (by omega) (by omega)
        · have hf : Nat.beq q j = false := by
            cases hb : Nat.beq q j with
            | false => rfl
            | true => exact absurd (Nat.eq_of_beq_eq_true hb) hqj
          simp only [hf]
          obtain ⟨hs1, hs2⟩ := h5 q hqn
          refine ⟨hs1, hs2.beside (by omega) ?_⟩
          rw [hvl, hs1]
          have : q < j ∨ j < q := by omega
          rcases this with hlt | hlt
          · right
            have : (q + 1) * esz ≤ j * esz := Nat.mul_le_mul_right _ hlt
            rw [Nat.add_mul, Nat.one_mul] at this
            omega
          · left
            have : (j + 1) * esz ≤ q * esz := Nat.mul_le_mul_right _ hlt
            rw [Nat.add_mul, Nat.one_mul] at this
            omega
    | _ => simp [Ans.res] at h
end Go.Proofs.Ytokdjjdmmahbiaa.Vx

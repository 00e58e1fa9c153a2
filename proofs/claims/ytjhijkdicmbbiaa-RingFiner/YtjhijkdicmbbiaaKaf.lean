/-
  What a call that only reads what it is handed does with parts of lists. Nothing here is trusted.
-/
import Derived.Test.YtjhijkdicmbbiaaKae
import Derived.Test.YtjhijkdicmbbiaaRows

namespace Go.Proofs.Ytjhijkdicmbbiaa.Vx
open Go Go.RowKit

def shiftR (i : Nat) (row : Nat → List Value) : Nat → List Value := match i with
  | 0 => row
  | i + 1 => fun j => row (i + 1 + j)
theorem shiftR_at (i : Nat) (row : Nat → List Value) (j : Nat) : shiftR i row j = row (i + j) := by cases i <;> simp [shiftR]
/-- Rows that can be lent. -/
def rowsAt : Option Blk → Option (Nat × Nat × (Nat → List Value))
  | some (.rows _ true e n row) => some (e, n, row)
  | some (.grow true e n row) => some (e, n, row)
  | _ => none
def sliceAt : Value → Option (Nat × Nat × Nat × Nat)
  | .slice (some a) n e => match a.off, a.spot with
    | 0, some i => some (a.block, i, n, e)
    | _, _ => none
  | _ => none
/-- The cells of what is handed in: each slice is a block of its own, which is only read. -/
def lendC (m : Mem) : List Value → Nat → Option (List Value × Mem × Bool)
  | [], _ => some ([], [], true)
  | v :: l, k => match sliceAt v with
    | some (b, i, n, e) => match rowsAt m[b]? with
      | some (e2, n2, row) => match Nat.beq e2 e with
        | true => match lendC m l (k + 1) with
          | some (ags, ms, c) => some (.slice (some ⟨k, 0, some 0⟩) n e :: ags, .rows false true e n (shiftR i row) :: ms, Nat.ble (i + n) n2 && c)
          | none => none
        | false => none
      | none => none
    | none => match nad0 v with
      | true => match lendC m l k with
        | some (ags, ms, c) => some (v :: ags, ms, c)
        | none => none
      | false => none
/-- Each slice that is handed in is a block of its own, which is only read. -/
def lendA (m : Mem) : List Value → Nat → Option (List Value × Mem × Bool)
  | [], _ => some ([], [], true)
  | v :: l, k => match sliceAt v with
    | some (b, i, n, e) => match rowsAt m[b]? with
      | some (e2, n2, row) => match Nat.beq e2 e with
        | true => match lendA m l (k + 1) with
          | some (ags, ms, c) => some (.slice (some ⟨k, 0, some 0⟩) n e :: ags, .rows false true e n (shiftR i row) :: ms, Nat.ble (i + n) n2 && c)
          | none => none
        | false => none
      | none => none
    | none => match nad v with
      | true => match lendA m l k with
        | some (ags, ms, c) => some (v :: ags, ms, c)
        | none => none
      | false => match v with
        | .agg cs => match lendC m cs.toList k with
          | some (cs', ms1, c1) => match lendA m l (k + ms1.length) with
            | some (ags, ms, c) => some (.agg cs'.toArray :: ags, ms1 ++ ms, c1 && c)
            | none => none
          | none => none
        | _ => none
theorem sliceAt_spec {v : Value} {b i n e : Nat} (h : sliceAt v = some (b, i, n, e)) : v = .slice (some ⟨b, 0, some i⟩) n e := by
  cases v with
  | slice a n2 e2 =>
    cases a with
    | none => cases h
    | some a =>
      obtain ⟨b2, off, spot⟩ := a
      cases off with
      | succ o => cases h
      | zero =>
        cases spot with
        | none => cases h
        | some j =>
          simp only [sliceAt, Option.some.injEq, Prod.mk.injEq] at h
          obtain ⟨rfl, rfl, rfl, rfl⟩ := h
          rfl
  | _ => cases h
theorem rowsAt_rel {w : World} {r : Ren} {p : Place} {kk : Blk} {e n : Nat} {row : Nat → List Value} (hb : BlkRel w r p kk) (h : rowsAt (some kk) = some (e, n, row)) :
    p.esz = e ∧ p.n = n ∧ (∀ i, i < n → allL nad0 (row i) = true) ∧ ∃ cs T fz, w.heap[p.blk]? = some (.cells cs T fz) ∧ ∀ i, i < n → (row i).length = e ∧ CellsAt r cs (p.off + i * e) (row i) := by
  cases kk with
  | rows own pl e2 n2 row2 =>
    cases pl with
    | false => cases h
    | true =>
      simp only [rowsAt, Option.some.injEq, Prod.mk.injEq] at h
      obtain ⟨rfl, rfl, rfl⟩ := h
      obtain ⟨h1, h2, h0, hp, cs, T, fz, h6, h3, h4, h5⟩ := hb
      exact ⟨h2, h0, hp rfl, cs, T, fz, h3, h5⟩
  | grow pl e2 n2 row2 =>
    cases pl with
    | false => cases h
    | true =>
      simp only [rowsAt, Option.some.injEq, Prod.mk.injEq] at h
      obtain ⟨rfl, rfl, rfl⟩ := h
      obtain ⟨h1, h2, h0, hp, cs, T, fz, h3, h4, h5⟩ := hb
      exact ⟨h2, h0, hp rfl, cs, T, fz, h3, h5⟩
  | _ => cases h
theorem lend_okC {w0 w : World} {keep : Keep} {r : Ren} {m : Mem} (hm : MemRel w0 keep r m w) : ∀ (args : List Value) (k : Nat) {ags : List Value} {ms : Mem} {c : Bool} {args' : List Value}, lendC m args k = some (ags, ms, c) → c = true → RL (R0 r) args args' →
    ∃ ps : List Place, ps.length = ms.length ∧ (∀ (rl : Ren), (∀ (i : Nat) p, ps[i]? = some p → rl (k + i) = some (some p)) → RL (R0 rl) ags args') ∧ ∀ (i : Nat) p, ps[i]? = some p → p.own = false ∧ p.room = 0 ∧ (∃ b q, r b = some (some q) ∧ q.blk = p.blk) ∧ ∃ kk, ms[i]? = some kk ∧ ∀ rl : Ren, BlkRel w rl p kk
  | [], k, ags, ms, c, args', h, hc, ha => by
    simp only [lendC, Option.some.injEq, Prod.mk.injEq] at h
    obtain ⟨rfl, rfl, -⟩ := h
    exact ⟨[], rfl, fun _ _ => by cases args' with | nil => trivial | cons => exact ha.elim, fun i p hp => by simp at hp⟩
  | v :: l, k, ags, ms, c, [], h, hc, ha => ha.elim
  | v :: l, k, ags, ms, c, v' :: l', h, hc, ha => by
    simp only [lendC] at h
    split at h
    · rename_i b i n e hv
      have hv := sliceAt_spec hv
      subst hv
      split at h
      · rename_i e2 n2 row hrow
        split at h
        · rename_i he
          have he := Nat.eq_of_beq_eq_true he
          subst he
          split at h
          · rename_i ags1 ms1 c1 hl
            simp only [Option.some.injEq, Prod.mk.injEq] at h
            obtain ⟨rfl, rfl, rfl⟩ := h
            rw [Bool.and_eq_true] at hc
            obtain ⟨ps, h1, h2, h3⟩ := lend_okC hm l (k + 1) hl hc.2 ha.2
            have hle : i + n ≤ n2 := Nat.le_of_ble_eq_true hc.1
            have hv : R0 r (.slice (some ⟨b, 0, some i⟩) n e2) v' := ha.1
            unfold R0 at hv
            simp only at hv
            cases hr : r b with
            | none => rw [hr] at hv; exact hv.elim
            | some q =>
              cases q with
              | none =>
                rw [hm.dead b hr] at hrow
                cases hrow
              | some p =>
                rw [hr] at hv
                simp only at hv
                obtain ⟨cc, rfl, s1, s2, s3, s4, s5⟩ := hv
                obtain ⟨kk, hkb, hrel⟩ := hm.blk b p hr
                rw [hkb] at hrow
                obtain ⟨q1, q2, q3, cs, T, fz, q4, q5⟩ := rowsAt_rel hrel hrow
                refine ⟨⟨p.blk, p.off + i * e2, e2, n, 0, false⟩ :: ps, by simp [h1], fun rl hrl => ⟨?_, h2 rl fun j q hq => ?_⟩, fun j q hq => ?_⟩
                · have := hrl 0 _ rfl
                  simp only [Nat.add_zero] at this
                  have hg : R0 rl (.slice (some ⟨k, 0, some 0⟩) n e2) (.slice (some (p.addr ⟨b, 0, some i⟩)) n cc) := by
                    unfold R0
                    simp only [this]
                    refine ⟨cc, by simp [Place.addr, q1], s1, fun j hj => ?_, fun _ => rfl, fun _ => rfl, fun h => by cases h⟩
                    simp only [Option.some.injEq] at hj
                    subst hj
                    simp
                  exact hg
                · have := hrl (j + 1) q (by simpa using hq)
                  rw [← this]; congr 1; omega
                · cases j with
                  | zero =>
                    simp only [List.getElem?_cons_zero, Option.some.injEq] at hq
                    subst hq
                    refine ⟨rfl, rfl, ⟨b, p, hr, rfl⟩, _, rfl, fun rl => ⟨rfl, rfl, rfl, fun _ j hj => ?_, cs, T, fz, fun _ => rfl, q4, (fun h => by cases h), fun j hj => ?_⟩⟩
                    · rw [shiftR_at]; exact q3 _ (by omega)
                    · rw [shiftR_at]
                      refine ⟨(q5 _ (by omega)).1, fun t u hu => ?_⟩
                      have hpu := allL_iff.1 (q3 (i + j) (by omega)) u (List.mem_of_getElem? hu)
                      obtain ⟨u', g1, g2⟩ := (q5 (i + j) (by omega)).2 t u hu
                      refine ⟨u', ?_, R0_nad hpu g2⟩
                      simp only
                      rw [Nat.add_assoc p.off, ← Nat.add_mul]
                      exact g1
                  | succ j =>
                    simp only [List.getElem?_cons_succ] at hq ⊢
                    exact h3 j q hq
          · cases h
        · cases h
      · cases h
    · split at h
      · rename_i hp
        split at h
        · rename_i ags1 ms1 c1 hl
          simp only [Option.some.injEq, Prod.mk.injEq] at h
          obtain ⟨rfl, rfl, rfl⟩ := h
          obtain ⟨ps, h1, h2, h3⟩ := lend_okC hm l k hl hc ha.2
          exact ⟨ps, h1, fun rl hrl => ⟨R0_nad hp ha.1, h2 rl hrl⟩, h3⟩
        · cases h
      · cases h

theorem lend_ok {w0 w : World} {keep : Keep} {r : Ren} {m : Mem} (hm : MemRel w0 keep r m w) : ∀ (args : List Value) (k : Nat) {ags : List Value} {ms : Mem} {c : Bool} {args' : List Value}, lendA m args k = some (ags, ms, c) → c = true → RL (R r) args args' →
    ∃ ps : List Place, ps.length = ms.length ∧ (∀ (rl : Ren), (∀ (i : Nat) p, ps[i]? = some p → rl (k + i) = some (some p)) → RL (R rl) ags args') ∧ ∀ (i : Nat) p, ps[i]? = some p → p.own = false ∧ p.room = 0 ∧ (∃ b q, r b = some (some q) ∧ q.blk = p.blk) ∧ ∃ kk, ms[i]? = some kk ∧ ∀ rl : Ren, BlkRel w rl p kk
  | [], k, ags, ms, c, args', h, hc, ha => by
    simp only [lendA, Option.some.injEq, Prod.mk.injEq] at h
    obtain ⟨rfl, rfl, -⟩ := h
    exact ⟨[], rfl, fun _ _ => by cases args' with | nil => trivial | cons => exact ha.elim, fun i p hp => by simp at hp⟩
  | v :: l, k, ags, ms, c, [], h, hc, ha => ha.elim
  | v :: l, k, ags, ms, c, v' :: l', h, hc, ha => by
    simp only [lendA] at h
    split at h
    · rename_i b i n e hv
      have hv := sliceAt_spec hv
      subst hv
      split at h
      · rename_i e2 n2 row hrow
        split at h
        · rename_i he
          have he := Nat.eq_of_beq_eq_true he
          subst he
          split at h
          · rename_i ags1 ms1 c1 hl
            simp only [Option.some.injEq, Prod.mk.injEq] at h
            obtain ⟨rfl, rfl, rfl⟩ := h
            rw [Bool.and_eq_true] at hc
            obtain ⟨ps, h1, h2, h3⟩ := lend_ok hm l (k + 1) hl hc.2 ha.2
            have hle : i + n ≤ n2 := Nat.le_of_ble_eq_true hc.1
            have hv : R0 r (.slice (some ⟨b, 0, some i⟩) n e2) v' := ha.1
            unfold R0 at hv
            simp only at hv
            cases hr : r b with
            | none => rw [hr] at hv; exact hv.elim
            | some q =>
              cases q with
              | none =>
                rw [hm.dead b hr] at hrow
                cases hrow
              | some p =>
                rw [hr] at hv
                simp only at hv
                obtain ⟨cc, rfl, s1, s2, s3, s4, s5⟩ := hv
                obtain ⟨kk, hkb, hrel⟩ := hm.blk b p hr
                rw [hkb] at hrow
                obtain ⟨q1, q2, q3, cs, T, fz, q4, q5⟩ := rowsAt_rel hrel hrow
                refine ⟨⟨p.blk, p.off + i * e2, e2, n, 0, false⟩ :: ps, by simp [h1], fun rl hrl => ⟨?_, h2 rl fun j q hq => ?_⟩, fun j q hq => ?_⟩
                · have := hrl 0 _ rfl
                  simp only [Nat.add_zero] at this
                  have hg : R0 rl (.slice (some ⟨k, 0, some 0⟩) n e2) (.slice (some (p.addr ⟨b, 0, some i⟩)) n cc) := by
                    unfold R0
                    simp only [this]
                    refine ⟨cc, by simp [Place.addr, q1], s1, fun j hj => ?_, fun _ => rfl, fun _ => rfl, fun h => by cases h⟩
                    simp only [Option.some.injEq] at hj
                    subst hj
                    simp
                  exact hg
                · have := hrl (j + 1) q (by simpa using hq)
                  rw [← this]; congr 1; omega
                · cases j with
                  | zero =>
                    simp only [List.getElem?_cons_zero, Option.some.injEq] at hq
                    subst hq
                    refine ⟨rfl, rfl, ⟨b, p, hr, rfl⟩, _, rfl, fun rl => ⟨rfl, rfl, rfl, fun _ j hj => ?_, cs, T, fz, fun _ => rfl, q4, (fun h => by cases h), fun j hj => ?_⟩⟩
                    · rw [shiftR_at]; exact q3 _ (by omega)
                    · rw [shiftR_at]
                      refine ⟨(q5 _ (by omega)).1, fun t u hu => ?_⟩
                      have hpu := allL_iff.1 (q3 (i + j) (by omega)) u (List.mem_of_getElem? hu)
                      obtain ⟨u', g1, g2⟩ := (q5 (i + j) (by omega)).2 t u hu
                      refine ⟨u', ?_, R0_nad hpu g2⟩
                      simp only
                      rw [Nat.add_assoc p.off, ← Nat.add_mul]
                      exact g1
                  | succ j =>
                    simp only [List.getElem?_cons_succ] at hq ⊢
                    exact h3 j q hq
          · cases h
        · cases h
      · cases h
    · split at h
      · rename_i hp
        split at h
        · rename_i ags1 ms1 c1 hl
          simp only [Option.some.injEq, Prod.mk.injEq] at h
          obtain ⟨rfl, rfl, rfl⟩ := h
          obtain ⟨ps, h1, h2, h3⟩ := lend_ok hm l k hl hc ha.2
          exact ⟨ps, h1, fun rl hrl => ⟨R_nad hp ha.1, h2 rl hrl⟩, h3⟩
        · cases h
      · split at h
        · rename_i cs0 _ _
          split at h
          · rename_i cs1 ms1 c1 hl1
            split at h
            · rename_i ags2 ms2 c2 hl2
              simp only [Option.some.injEq, Prod.mk.injEq] at h
              obtain ⟨rfl, rfl, rfl⟩ := h
              rw [Bool.and_eq_true] at hc
              obtain ⟨cs', rfl, hcs⟩ := ha.1
              obtain ⟨ps, h1, h2, h3⟩ := lend_okC hm cs0.toList k hl1 hc.1 hcs
              obtain ⟨qs, g1, g2, g3⟩ := lend_ok hm l (k + ms1.length) hl2 hc.2 ha.2
              refine ⟨ps ++ qs, by simp [h1, g1], fun rl hrl => ⟨⟨cs', rfl, ?_⟩, g2 rl fun j q hq => ?_⟩, fun j q hq => ?_⟩
              · refine h2 rl fun j q hq => hrl j q ?_
                rw [List.getElem?_append_left (List.getElem?_eq_some_iff.1 hq).1]
                exact hq
              · have := hrl (ms1.length + j) q (by rw [← h1, List.getElem?_append_right (by omega), Nat.add_sub_cancel_left]; exact hq)
                rw [← this]; congr 1; omega
              · by_cases hj : j < ps.length
                · rw [List.getElem?_append_left hj] at hq
                  obtain ⟨k1, k2, k3, kk, k4, k5⟩ := h3 j q hq
                  exact ⟨k1, k2, k3, kk, by rw [List.getElem?_append_left (by omega)]; exact k4, k5⟩
                · rw [List.getElem?_append_right (by omega)] at hq
                  obtain ⟨k1, k2, k3, kk, k4, k5⟩ := g3 _ q hq
                  exact ⟨k1, k2, k3, kk, by rw [List.getElem?_append_right (by omega), ← h1]; exact k4, k5⟩
            · cases h
          · cases h
        · cases h

def ownB : Blk → Bool
  | .cells own _ _ => own
  | .rows own _ _ _ _ => own
  | .view .. => false
  | _ => true
theorem ownB_own {w : World} {r : Ren} {p : Place} {k : Blk} (h : BlkRel w r p k) (ho : ownB k = true) : p.own = true := by
  cases k with
  | cells own e c => simp only [ownB] at ho; rw [h.1, ho]
  | rows own pl e n row => simp only [ownB] at ho; rw [h.1, ho]
  | grow pl e n row => exact h.1
  | view pl e n row => cases ho
  | iter s pos => exact h.1
  | mp u n es => exact h.1
  | no => exact h.elim
  | gone => exact h.elim
/-- What is made beside what is there. -/
theorem MemRel.join {w0 w w' : World} {keep kp : Keep} {r rn : Ren} {m mn : Mem} (hm : MemRel w0 keep r m w) (g : MemRel w kp rn mn w') (hk : ∀ j, keep j → kp j) (ho : ∀ b p, r b = some (some p) → kp p.blk) (hown : allB ownB mn = true) :
    MemRel w0 keep (r.back rn [] m.length) (m ++ mapB (unrB [] m.length) mn) w' ∧ Ext r (r.back rn [] m.length) := by
  have hlo : ∀ {b : Nat}, b < m.length → (r.back rn [] m.length) b = r b := fun {b} hb => by simp [Ren.back, idxN, hb]
  have hhi : ∀ {b : Nat}, ¬ b < m.length → (r.back rn [] m.length) b = rn (b - m.length) := fun {b} hb => by simp [Ren.back, idxN, hb]
  have mlo : ∀ {b : Nat}, b < m.length → (m ++ mapB (unrB [] m.length) mn)[b]? = m[b]? := fun {b} hb => List.getElem?_append_left hb
  have mhi : ∀ {b : Nat}, ¬ b < m.length → (m ++ mapB (unrB [] m.length) mn)[b]? = (mn[b - m.length]?).map (unrB [] m.length) := fun {b} hb => by
    rw [List.getElem?_append_right (by omega), mapB_get]
  have newO : ∀ {b : Nat} {p : Place}, rn b = some (some p) → p.own = true := fun {b p} hb => by
    obtain ⟨k, h1, h2⟩ := g.blk b p hb
    exact ownB_own h2 (allB_iff.1 hown k (List.mem_of_getElem? h1))
  have hext : Ext r (r.back rn [] m.length) := fun b => by
    by_cases hb : b < m.length
    · exact Or.inr (Or.inl (hlo hb))
    · exact Or.inl (hm.none b (Or.inl (List.getElem?_eq_none (by omega))))
  refine ⟨⟨g.os.trans hm.os, g.tape.trans hm.tape, g.output.trans hm.output, Nat.le_trans hm.drawn g.drawn, Nat.le_trans hm.size g.size, hm.klt, fun j hj => (g.kept j (hk j hj)).trans (hm.kept j hj), fun b hb => ?_, fun b hb => ?_, fun b p hb => ?_, fun b p hb hp => ?_, fun b p hb hp hz => ?_, fun b p hb hp hz => ?_, fun b c p q hb hc hp hz => ?_, fun b c p q hb hc hp hq he => ?_⟩, hext⟩
  · by_cases hl : b < m.length
    · rw [hlo hl]; rw [mlo hl] at hb; exact hm.none b hb
    · rw [hhi hl]
      rw [mhi hl] at hb
      refine g.none _ ?_
      cases hx : mn[b - m.length]? with
      | none => exact Or.inl rfl
      | some k =>
        rw [hx] at hb
        simp only [Option.map_some, Option.some.injEq, reduceCtorEq, false_or] at hb
        exact Or.inr (by rw [unrB_no.1 hb])
  · by_cases hl : b < m.length
    · rw [hlo hl] at hb; rw [mlo hl]; exact hm.dead b hb
    · rw [hhi hl] at hb
      rw [mhi hl, g.dead _ hb]
      rfl
  · by_cases hl : b < m.length
    · rw [hlo hl] at hb
      rw [mlo hl]
      obtain ⟨k, h1, h2⟩ := hm.blk b p hb
      exact ⟨k, h1, h2.mono (g.kept _ (ho b p hb)) hext⟩
    · rw [hhi hl] at hb
      rw [mhi hl]
      obtain ⟨k, h1, h2⟩ := g.blk _ p hb
      exact ⟨_, by rw [h1]; rfl, BlkRel_back (r := r) (ks := []) rfl rfl h2⟩
  · by_cases hl : b < m.length
    · rw [hlo hl] at hb; exact hm.own b p hb hp
    · rw [hhi hl] at hb; exact fun hk2 => g.own _ p hb hp (hk _ hk2)
  · by_cases hl : b < m.length
    · rw [hlo hl] at hb; exact hm.read b p hb hp hz
    · rw [hhi hl] at hb; rw [newO hb] at hp; cases hp
  · by_cases hl : b < m.length
    · rw [hlo hl] at hb; exact hm.vw b p hb hp hz
    · rw [hhi hl] at hb; rw [newO hb] at hp; cases hp
  · intro hq he
    by_cases hl : b < m.length
    · rw [hlo hl] at hb
      by_cases hl2 : c < m.length
      · rw [hlo hl2] at hc; rw [mlo hl2]; exact hm.sep b c p q hb hc hp hz hq he
      · rw [hhi hl2] at hc
        exact absurd (he ▸ ho b p hb) (g.own _ q hc hq)
    · rw [hhi hl] at hb; rw [newO hb] at hp; cases hp
  · by_cases hl : b < m.length
    · rw [hlo hl] at hb
      by_cases hl2 : c < m.length
      · rw [hlo hl2] at hc; exact hm.inj b c p q hb hc hp hq he
      · rw [hhi hl2] at hc
        exact absurd (he ▸ ho b p hb) (g.own _ q hc hq)
    · rw [hhi hl] at hb
      by_cases hl2 : c < m.length
      · rw [hlo hl2] at hc
        exact absurd (he ▸ ho c q hc) (g.own _ p hb hp)
      · rw [hhi hl2] at hc
        have := g.inj _ _ p q hb hc hp hq he
        omega

def fromN (k : Nat) : Nat → List Nat
  | 0 => []
  | n + 1 => k :: fromN (k + 1) n
def lendG (S : List Value → Mem → Option (Ans (Value × Mem))) (args : List Value) (m : Mem) : Option (Ans (Value × Mem)) := match lendA m args 0 with
  | some (ags, ms, c) => forceL ags fun ags => forceM ms fun ms => match S ags ms with
    | some ans => some (.br c (ans.bind fun vm => forceN (fromN ms.length (vm.2.length - ms.length)) fun ks => match noDup ks && allB noViewB m with
      | true => forceM (renM ks vm.2 ks) fun mn => match allB ownB mn with
        | true => .out (unrV [] m.length (renV ks vm.1), m ++ mapB (unrB [] m.length) mn)
        | false => .fail
      | false => .fail) .fail)
    | none => none
  | none => none
/-- A call that is lent what it reads: what was there is as it was. -/
theorem lend_call {P : Program} {f : FuncId} {args ags : List Value} {m ms mu : Mem} {c : Bool} {u : Value} (hA : lendA m args 0 = some (ags, ms, c)) (hc : c = true) (hS : MemSem P f ags ms u mu) {w0 : World} {keep : Keep} {r : Ren} {args' : List Value} {w : World} (hargs : RL (R r) args args') (hm : MemRel w0 keep r m w) {Q : Ending → World → Prop}
    (hQ : ∀ v' rs w' (kp : Keep), R rs u v' → MemRel w kp rs mu w' → (∀ j, keep j → kp j) → (∀ b p, r b = some (some p) → kp p.blk) → Q (.returned v') w') : Calls P f args'.toArray w Q := by
  obtain ⟨ps, hl, hR, hB⟩ := lend_ok hm args 0 hA hc hargs
  let rl : Ren := fun i => (ps[i]?).map some
  let K : Nat → Prop := fun j => keep j ∨ ∃ b p, r b = some (some p) ∧ p.blk = j
  let kp : Keep := ⟨K, K, fun _ h => h⟩
  have hrl : ∀ {i : Nat} {p : Place}, rl i = some (some p) → ps[i]? = some p := fun {i p} hi => by
    simp only [rl] at hi
    cases hx : ps[i]? with
    | none => rw [hx] at hi; cases hi
    | some q => rw [hx] at hi; simpa using hi
  have hsm : MemRel w kp rl ms w := by
    refine ⟨rfl, rfl, rfl, Nat.le_refl _, Nat.le_refl _, fun j hj => ?_, fun _ _ => rfl, fun b hb => ?_, fun b hb => ?_, fun b p hb => ?_, fun b p hb hp => ?_, fun b p hb hp hz => ?_, fun b p hb hp hz => ?_, fun b c p q hb hc hp hz => ?_, fun b c p q hb hc hp hq he => ?_⟩
    · rcases hj with hj | ⟨b, p, hb, rfl⟩
      · have := hm.klt j hj; have := hm.size; omega
      · obtain ⟨k, _, hk⟩ := hm.blk b p hb
        exact hk.lt
    · simp only [rl]
      cases hx : ps[b]? with
      | none => rfl
      | some p =>
        obtain ⟨_, _, _, kk, h5, h6⟩ := hB b p hx
        rw [h5] at hb
        rcases hb with hb | hb
        · cases hb
        · simp only [Option.some.injEq] at hb
          subst hb
          exact ((h6 rl) : False).elim
    · simp only [rl] at hb
      cases hx : ps[b]? with
      | none => rw [hx] at hb; cases hb
      | some p => rw [hx] at hb; cases hb
    · obtain ⟨_, _, _, kk, h5, h6⟩ := hB b p (hrl hb)
      exact ⟨kk, h5, h6 rl⟩
    · rw [(hB b p (hrl hb)).1] at hp; cases hp
    · exact Or.inr (hB b p (hrl hb)).2.2.1
    · exact absurd (hB b p (hrl hb)).2.1 hz
    · exact absurd (hB b p (hrl hb)).2.1 hz
    · rw [(hB b p (hrl hb)).1] at hp; cases hp
  refine (hS.2 w kp rl args' w (hR rl fun i p hp => by simp only [Nat.zero_add, rl, hp]; rfl) hsm).mono ?_
  rintro e w' ⟨v', rs, rfl, g1, g2, g3⟩
  exact hQ v' rs w' kp g1 g2 (fun j hj => Or.inl hj) (fun b p hb => Or.inr ⟨b, p, hb, rfl⟩)
theorem lendG_ok {P : Program} {f : FuncId} {S : List Value → Mem → Option (Ans (Value × Mem))} (h : ∀ args m ans v m', S args m = some ans → ans.res = some (v, m') → MemSem P f args m v m') {args : List Value} {m m' : Mem} {ans : Ans (Value × Mem)} {v : Value}
    (ha : lendG S args m = some ans) (hr : ans.res = some (v, m')) : MemSem P f args m v m' := by
  unfold lendG at ha
  split at ha
  rotate_left
  · cases ha
  rename_i ags ms c hA
  rw [forceL_eq, forceM_eq] at ha
  split at ha
  rotate_left
  · cases ha
  rename_i ans0 hS
  simp only [Option.some.injEq] at ha
  subst ha
  rcases Ans.br_some hr with ⟨hc, hr⟩ | ⟨_, hr⟩
  rotate_left
  · simp [Ans.res] at hr
  obtain ⟨⟨u, mu⟩, h1, h2⟩ := Ans.bind_some hr
  simp only at h2
  rw [forceN_eq] at h2
  split at h2
  rotate_left
  · simp [Ans.res] at h2
  rename_i hb
  rw [Bool.and_eq_true] at hb
  rw [forceM_eq] at h2
  split at h2
  rotate_left
  · simp [Ans.res] at h2
  rename_i hown
  simp only [Ans.res, Option.some.injEq, Prod.mk.injEq] at h2
  obtain ⟨rfl, rfl⟩ := h2
  have hS := h _ _ _ _ _ hS h1
  refine ⟨hS.1, fun w0 keep r args' w hargs hm => lend_call hA hc hS hargs hm fun v' rs w' kp g1 g2 k1 k2 => ?_⟩
  obtain ⟨j1, j2⟩ := MemRel.join hm (MemRel_via g2 hb.1) k1 k2 hown
  exact ⟨v', _, rfl, R_back (r := r) (ks := []) rfl rfl (R_via (ks := fromN ms.length (mu.length - ms.length)) g1), j1, j2⟩
def lendF (S : List Value → Mem → Option (Ans (Value × Mem))) (args : List Value) (m : Mem) : Option (Ans (Value × Mem)) := forceM (thaw (killV m)) fun m => lendG S args m
theorem lendF_ok {P : Program} {f : FuncId} {S : List Value → Mem → Option (Ans (Value × Mem))} (h : ∀ args m ans v m', S args m = some ans → ans.res = some (v, m') → MemSem P f args m v m') {args : List Value} {m m' : Mem} {ans : Ans (Value × Mem)} {v : Value}
    (ha : lendF S args m = some ans) (hr : ans.res = some (v, m')) : MemSem P f args m v m' := by
  unfold lendF at ha
  rw [forceM_eq] at ha
  exact (lendG_ok h ha hr).fresh
/-- A function that reads what it is handed, and makes what it answers. -/
def Cx.addE (C : Cx) (f : FuncId) (S : List Value → Mem → Option (Ans (Value × Mem))) : Cx := C.addM f (lendF S)
theorem Cx.addE_ok {C : Cx} (hC : CxOk C) {f : FuncId} {S : List Value → Mem → Option (Ans (Value × Mem))} (h : ∀ args m ans v m', S args m = some ans → ans.res = some (v, m') → MemSem C.P f args m v m') : CxOk (C.addE f S) :=
  Cx.addM_ok hC fun _ _ _ _ _ ha hr => lendF_ok h ha hr
/-- What is told of a function, told where it is lent what it reads. -/
def Cx.lend (C : Cx) (f : FuncId) : Cx := C.addM f (lendF fun args m => C.tbm f args m)
theorem Cx.lend_ok {C : Cx} (hC : CxOk C) (f : FuncId) : CxOk (C.lend f) :=
  Cx.addM_ok hC fun _ _ _ _ _ ha hr => lendF_ok (fun args m ans v m' h hr => hC.tbm f args m ans v m' h hr) ha hr
/-- A call that makes nothing and changes nothing. -/
def lendP (S : List Value → Mem → Option (Ans (Value × Mem))) (args : List Value) (m : Mem) : Option (Ans (Value × Mem)) := match lendA m args 0 with
  | some (ags, ms, c) => forceL ags fun ags => forceM ms fun ms => match S ags ms with
    | some ans => some (.br c (ans.bind fun vm => match nad vm.1 with
      | true => .out (vm.1, m)
      | false => .fail) .fail)
    | none => none
  | none => none
theorem lendP_spec {S : List Value → Mem → Option (Ans (Value × Mem))} {args : List Value} {m m' : Mem} {ans : Ans (Value × Mem)} {v : Value} (ha : lendP S args m = some ans) (hr : ans.res = some (v, m')) :
    m' = m ∧ ∃ ags ms mu a0, lendA m args 0 = some (ags, ms, true) ∧ S ags ms = some a0 ∧ a0.res = some (v, mu) ∧ nad v = true := by
  unfold lendP at ha
  split at ha
  rotate_left
  · cases ha
  rename_i ags ms c hA
  rw [forceL_eq, forceM_eq] at ha
  split at ha
  rotate_left
  · cases ha
  rename_i ans0 hS
  simp only [Option.some.injEq] at ha
  subst ha
  rcases Ans.br_some hr with ⟨hc, hr⟩ | ⟨_, hr⟩
  rotate_left
  · simp [Ans.res] at hr
  obtain ⟨⟨u, mu⟩, h1, h2⟩ := Ans.bind_some hr
  simp only at h2
  split at h2
  · rename_i hp
    simp only [Ans.res, Option.some.injEq, Prod.mk.injEq] at h2
    obtain ⟨rfl, rfl⟩ := h2
    exact ⟨rfl, ags, ms, mu, ans0, by rw [hA, hc], hS, h1, hp⟩
  · simp [Ans.res] at h2
theorem lendP_ok {P : Program} {f : FuncId} {S : List Value → Mem → Option (Ans (Value × Mem))} (h : ∀ args m ans v m', S args m = some ans → ans.res = some (v, m') → MemSem P f args m v m') {args : List Value} {m m' : Mem} {ans : Ans (Value × Mem)} {v : Value}
    (ha : lendP S args m = some ans) (hr : ans.res = some (v, m')) : MemSem P f args m v m' := by
  obtain ⟨rfl, ags, ms, mu, a0, hA, hS, h1, hp⟩ := lendP_spec ha hr
  have hS := h _ _ _ _ _ hS h1
  refine ⟨hS.1, fun w0 keep r args' w hargs hm => lend_call hA rfl hS hargs hm fun v' rs w' kp g1 g2 k1 k2 => ?_⟩
  obtain ⟨j1, j2⟩ := MemRel.join hm (MemRel_via (ks := []) g2 rfl) k1 k2 rfl
  simp only [renM, mapB, List.append_nil] at j1
  exact ⟨v', _, rfl, R_nad hp g1, j1, j2⟩
theorem lendC_set {m : Mem} {q : Nat} {k : Blk} (hq : m[q]? = some .no) : ∀ (args : List Value) (i : Nat) (x : List Value × Mem × Bool), lendC m args i = some x → lendC (m.set q k) args i = some x
  | [], _, _, h => h
  | v :: l, i, x, h => by
    simp only [lendC] at h ⊢
    split at h
    · rename_i b j n e hv
      split at h
      · rename_i e2 n2 row hrow
        have hne : q ≠ b := fun e => by subst e; rw [hq] at hrow; cases hrow
        rw [List.getElem?_set_ne hne, hrow]
        simp only
        split at h
        · rename_i he
          try simp only [he]
          split at h
          · rename_i a1 m1 c1 hl
            rw [lendC_set hq l (i + 1) _ hl]
            exact h
          · cases h
        · cases h
      · cases h
    · split at h
      · rename_i hp
        try simp only [hp]
        split at h
        · rename_i a1 m1 c1 hl
          rw [lendC_set hq l i _ hl]
          exact h
        · cases h
      · cases h
theorem lendA_set {m : Mem} {q : Nat} {k : Blk} (hq : m[q]? = some .no) : ∀ (args : List Value) (i : Nat) (x : List Value × Mem × Bool), lendA m args i = some x → lendA (m.set q k) args i = some x
  | [], _, _, h => h
  | v :: l, i, x, h => by
    simp only [lendA] at h ⊢
    split at h
    · rename_i b j n e hv
      split at h
      · rename_i e2 n2 row hrow
        have hne : q ≠ b := fun e => by subst e; rw [hq] at hrow; cases hrow
        rw [List.getElem?_set_ne hne, hrow]
        simp only
        split at h
        · rename_i he
          try simp only [he]
          split at h
          · rename_i a1 m1 c1 hl
            rw [lendA_set hq l (i + 1) _ hl]
            exact h
          · cases h
        · cases h
      · cases h
    · split at h
      · rename_i hp
        try simp only [hp]
        split at h
        · rename_i a1 m1 c1 hl
          rw [lendA_set hq l i _ hl]
          exact h
        · cases h
      · rename_i hp
        try simp only [hp]
        split at h
        · rename_i cs0 _
          split at h
          · rename_i cs1 ms1 c1 hl1
            split at h
            · rename_i ags2 ms2 c2 hl2
              rw [lendC_set hq cs0.toList i _ hl1]
              simp only
              rw [lendA_set hq l (i + ms1.length) _ hl2]
              exact h
            · cases h
          · cases h
        · cases h
theorem allB_set {p : Blk → Bool} {m : Mem} {q : Nat} {k : Blk} (h : allB p m = true) (hk : p k = true) : allB p (m.set q k) = true := allB_iff.2 fun x hx => by
  rcases List.mem_or_eq_of_mem_set hx with h1 | h1
  · exact allB_iff.1 h x h1
  · rw [h1]; exact hk
theorem lendG_new {S : List Value → Mem → Option (Ans (Value × Mem))} {args : List Value} {m m' : Mem} {ans : Ans (Value × Mem)} {v : Value} (ha : lendG S args m = some ans) (hr : ans.res = some (v, m')) : ∃ new, m' = m ++ new ∧ ∀ (q : Nat) k, noViewB k = true → m[q]? = some .no → ∃ ans', lendG S args (m.set q k) = some ans' ∧ ans'.res = some (v, m.set q k ++ new) := by
  unfold lendG at ha
  split at ha
  rotate_left
  · cases ha
  rename_i ags ms c hA
  rw [forceL_eq, forceM_eq] at ha
  split at ha
  rotate_left
  · cases ha
  rename_i a0 hS
  simp only [Option.some.injEq] at ha
  subst ha
  rcases Ans.br_some hr with ⟨hc, hr⟩ | ⟨_, hr⟩
  rotate_left
  · simp [Ans.res] at hr
  obtain ⟨⟨u, mu⟩, h1, h2⟩ := Ans.bind_some hr
  simp only at h2
  rw [forceN_eq] at h2
  split at h2
  rotate_left
  · simp [Ans.res] at h2
  rename_i hb
  rw [forceM_eq] at h2
  split at h2
  rotate_left
  · simp [Ans.res] at h2
  rename_i hown
  simp only [Ans.res, Option.some.injEq, Prod.mk.injEq] at h2
  obtain ⟨rfl, rfl⟩ := h2
  refine ⟨_, rfl, fun q k hk hq => ?_⟩
  unfold lendG
  rw [lendA_set hq args 0 _ hA]
  simp only [forceL_eq, forceM_eq, forceN_eq, hS]
  refine ⟨_, rfl, ?_⟩
  rw [Bool.and_eq_true] at hb
  subst hc
  simp only [Ans.res]
  rw [Ans.res_bind, h1]
  simp only [Option.bind_some, hb.1, allB_set hb.2 hk, Bool.and_self, hown, List.length_set]
  rfl
theorem lendP_rd {S : List Value → Mem → Option (Ans (Value × Mem))} {args : List Value} {m m' : Mem} {ans : Ans (Value × Mem)} {v : Value} (ha : lendP S args m = some ans) (hr : ans.res = some (v, m')) :
    m' = m ∧ ∀ (q : Nat) k, m[q]? = some .no → ∃ ans', lendP S args (m.set q k) = some ans' ∧ ans'.res = some (v, m.set q k) := by
  obtain ⟨e, ags, ms, mu, a0, hA, hS, h1, hp⟩ := lendP_spec ha hr
  refine ⟨e, fun q k hq => ?_⟩
  unfold lendP
  rw [lendA_set hq args 0 _ hA]
  simp only [forceL_eq, forceM_eq, hS]
  refine ⟨_, rfl, ?_⟩
  simp only [Ans.res]
  rw [Ans.res_bind, h1]
  simp only [Option.bind_some, hp]
  rfl
end Go.Proofs.Ytjhijkdicmbbiaa.Vx


namespace Go.Proofs.Ytjhijkdicmbbiaa.Vx
open Go Go.RowKit
/-- One road of a tree; on the others nothing is told. -/
def pickA {α : Type} : List Bool → Ans α → Ans α
  | true :: p, .br b t _ => .br b (pickA p t) .fail
  | false :: p, .br b _ f => .br b .fail (pickA p f)
  | _, x => x
theorem pickA_ok {α : Type} {a : α} : ∀ (p : List Bool) (x : Ans α), (pickA p x).res = some a → x.res = some a
  | [], x, h => by cases x <;> exact h
  | true :: p, .br b t f, h => by
    rcases Ans.br_some h with ⟨hb, h1⟩ | ⟨hb, h1⟩
    · subst hb; exact pickA_ok p t h1
    · simp [Ans.res] at h1
  | false :: p, .br b t f, h => by
    rcases Ans.br_some h with ⟨hb, h1⟩ | ⟨hb, h1⟩
    · simp [Ans.res] at h1
    · subst hb; exact pickA_ok p f h1
  | true :: p, .out a, h => h
  | false :: p, .out a, h => h
  | true :: p, .fail, h => h
  | false :: p, .fail, h => h
/-- No error; yes. -/
def asm1 : Value → Bool × Value
  | .int k e => (e == 0, .int k 0)
  | .bool b => (b, .bool true)
  | v => (true, v)
def asmV : Value → Bool × Value
  | .tuple vs => match vs.toList with
    | [a, b] => ((asm1 b).1, .tuple #[a, (asm1 b).2])
    | [a, b, c] => ((asm1 c).1, .tuple #[a, b, (asm1 c).2])
    | _ => (true, .tuple vs)
  | v => asm1 v
theorem asm1_ok {v : Value} (h : (asm1 v).1 = true) : (asm1 v).2 = v := by
  cases v with
  | int k e => simp only [asm1] at h ⊢; rw [(beq_iff_eq.1 h)]
  | bool b => simp only [asm1] at h ⊢; rw [h]
  | _ => rfl
theorem asmV_ok {v : Value} (h : (asmV v).1 = true) : (asmV v).2 = v := by
  cases v with
  | tuple vs =>
    unfold asmV at h ⊢
    simp only at h ⊢
    split at h
    · rename_i a b he
      rw [asm1_ok h]
      congr 1
      rw [← he]
    · rename_i a b c he
      rw [asm1_ok h]
      congr 1
      rw [← he]
    · rfl
  | int k e => exact asm1_ok (v := .int k e) h
  | bool b => exact asm1_ok (v := .bool b) h
  | _ => rfl
def asmA (x : Ans (Value × Mem)) : Ans (Value × Mem) := x.bind fun vm => .br (asmV vm.1).1 (.out ((asmV vm.1).2, vm.2)) .fail
theorem asmA_ok {x : Ans (Value × Mem)} {v : Value} {m : Mem} (h : (asmA x).res = some (v, m)) : x.res = some (v, m) := by
  obtain ⟨⟨u, mu⟩, h1, h2⟩ := Ans.bind_some h
  rcases Ans.br_some h2 with ⟨hb, h3⟩ | ⟨_, h3⟩
  · simp only [Ans.res, Option.some.injEq, Prod.mk.injEq] at h3
    obtain ⟨rfl, rfl⟩ := h3
    rw [h1, asmV_ok hb]
  · simp [Ans.res] at h3
/-- A function of which one road is wanted, with no error; it is lent what it reads. -/
def Cx.good (C : Cx) (f : FuncId) (p : List Bool) : Cx := C.addM f (lendF fun args m => match C.tbm f args m with
  | some ans => some (asmA (pickA p ans))
  | none => none)
theorem Cx.good_ok {C : Cx} (hC : CxOk C) (f : FuncId) (p : List Bool) : CxOk (C.good f p) :=
  Cx.addM_ok hC fun _ _ _ _ _ ha hr => lendF_ok (fun args m ans v m' h hr => by
    split at h
    · rename_i a0 h0
      simp only [Option.some.injEq] at h
      subst h
      exact hC.tbm f args m a0 v m' h0 (pickA_ok p a0 (asmA_ok hr))
    · cases h) ha hr
/-- The same, with what it answers as it is. -/
def Cx.road (C : Cx) (f : FuncId) (p : List Bool) : Cx := C.addM f (lendF fun args m => match C.tbm f args m with
  | some ans => some (pickA p ans)
  | none => none)
theorem Cx.road_ok {C : Cx} (hC : CxOk C) (f : FuncId) (p : List Bool) : CxOk (C.road f p) :=
  Cx.addM_ok hC fun _ _ _ _ _ ha hr => lendF_ok (fun args m ans v m' h hr => by
    split at h
    · rename_i a0 h0
      simp only [Option.some.injEq] at h
      subst h
      exact hC.tbm f args m a0 v m' h0 (pickA_ok p a0 hr)
    · cases h) ha hr
/-- A function that only looks (1), or that makes something beside what is there (2). -/
def Cx.roadS (C : Cx) (f : FuncId) (p : List Bool) (args : List Value) (m : Mem) : Option (Ans (Value × Mem)) := match C.tbm f args m with
  | some ans => some (pickA p ans)
  | none => none
theorem Cx.roadS_ok {C : Cx} (hC : CxOk C) {f : FuncId} {p : List Bool} (args : List Value) (m : Mem) (ans : Ans (Value × Mem)) (v : Value) (m' : Mem) (h : C.roadS f p args m = some ans) (hr : ans.res = some (v, m')) : MemSem C.P f args m v m' := by
  unfold Cx.roadS at h
  split at h
  · rename_i a0 h0
    simp only [Option.some.injEq] at h
    subst h
    exact hC.tbm f args m a0 v m' h0 (pickA_ok p a0 hr)
  · cases h
def Cx.putRd (C : Cx) (f : FuncId) (z : Nat) (F : List Value → Mem → Option (Ans (Value × Mem))) : Cx := { C with
  tbm := fun g args m => match Nat.beq g f with
    | true => F args m
    | false => C.tbm g args m
  rd := fun g => match Nat.beq g f with
    | true => z
    | false => C.rd g
  inl := fun g => match Nat.beq g f with
    | true => none
    | false => C.inl g }
theorem Cx.putRd_ok {C : Cx} (hC : CxOk C) {f : FuncId} {z : Nat} {F : List Value → Mem → Option (Ans (Value × Mem))} (h0 : ∀ args m ans v m', F args m = some ans → ans.res = some (v, m') → MemSem C.P f args m v m')
    (h1 : z = 1 → ∀ args m ans v m', F args m = some ans → ans.res = some (v, m') → m' = m ∧ ∀ (q : Nat) k, m[q]? = some .no → ∃ ans', F args (m.set q k) = some ans' ∧ ans'.res = some (v, m.set q k))
    (h2 : z = 2 → ∀ args m ans v m', F args m = some ans → ans.res = some (v, m') → ∃ new, m' = m ++ new ∧ ∀ (q : Nat) k, noViewB k = true → m[q]? = some .no → ∃ ans', F args (m.set q k) = some ans' ∧ ans'.res = some (v, m.set q k ++ new)) : CxOk (C.putRd f z F) := by
  refine ⟨hC.mixed, hC.tbl, ?_, hC.keys, fun g fn hg => ?_, hC.lp, ?_, ?_, hC.ext⟩
  rotate_left
  · simp only [Cx.putRd] at hg
    cases hb : Nat.beq g f with
    | true => simp only [hb] at hg; cases hg
    | false => simp only [hb] at hg; exact hC.inl g fn hg
  rotate_right
  · intro g args m ans v m' ha hr
    simp only [Cx.putRd] at ha
    cases hg : Nat.beq g f with
    | false => simp only [hg] at ha; exact hC.tbm g args m ans v m' ha hr
    | true =>
      have hgf := Nat.eq_of_beq_eq_true hg
      subst hgf
      simp only [hg] at ha
      exact h0 args m ans v m' ha hr
  · intro g hg args m ans v m' ha hr
    simp only [Cx.putRd] at hg ha ⊢
    cases hb : Nat.beq g f with
    | false => simp only [hb] at hg ha ⊢; exact hC.rd g hg args m ans v m' ha hr
    | true => simp only [hb] at hg ha ⊢; exact h1 hg args m ans v m' ha hr
  · intro g hg args m ans v m' ha hr
    simp only [Cx.putRd] at hg ha ⊢
    cases hb : Nat.beq g f with
    | false => simp only [hb] at hg ha ⊢; exact hC.rd2 g hg args m ans v m' ha hr
    | true => simp only [hb] at hg ha ⊢; exact h2 hg args m ans v m' ha hr
def Cx.looks (C : Cx) (f : FuncId) (p : List Bool) : Cx := C.putRd f 1 (lendP (C.roadS f p))
theorem Cx.looks_ok {C : Cx} (hC : CxOk C) (f : FuncId) (p : List Bool) : CxOk (C.looks f p) :=
  Cx.putRd_ok hC (fun _ _ _ _ _ ha hr => lendP_ok (Cx.roadS_ok hC) ha hr) (fun _ _ _ _ _ _ ha hr => lendP_rd ha hr) (fun h => by cases h)
def Cx.makes (C : Cx) (f : FuncId) (p : List Bool) : Cx := C.putRd f 2 (lendG (C.roadS f p))
theorem Cx.makes_ok {C : Cx} (hC : CxOk C) (f : FuncId) (p : List Bool) : CxOk (C.makes f p) :=
  Cx.putRd_ok hC (fun _ _ _ _ _ ha hr => lendG_ok (Cx.roadS_ok hC) ha hr) (fun h => by cases h) (fun _ _ _ _ _ _ ha hr => lendG_new ha hr)
end Go.Proofs.Ytjhijkdicmbbiaa.Vx


namespace Go.Proofs.Ytjhijkdicmbbiaa.Vx
open Go Go.RowKit
theorem CodeSem.seq {P : Program} {B : Nat} {x y : Code} {st s s' : St} {e : Exit} (h1 : CodeSem P B x st .normal s) (h2 : CodeSem P B y s e s') : CodeSem P B (.seq x y) st e s' := fun Q w0 keep r0 a w hB hQ hr =>
  wp_seq (h1 _ w0 keep r0 a w hB (fun a' w' hr' => h2 Q w0 keep r0 a' w' hB hQ hr') hr)
theorem CodeSem.like {P : Program} {B : Nat} {x : Code} {st st2 s : St} {e : Exit} (h : CodeSem P B x st2 e s) (hl : StLike st st2) : CodeSem P B x st e s := fun Q w0 keep r0 a w hB hQ hr =>
  h Q w0 keep r0 a w hB hQ (hr.like hl)
def seqDrop : Nat → Code → Code
  | 0, c => c
  | k + 1, .seq _ y => seqDrop k y
  | _ + 1, _ => .skip
theorem seqDrop_loops : ∀ (k : Nat) (c : Code), ∀ x ∈ loopsIn (seqDrop k c), x ∈ loopsIn c
  | 0, c, x, h => h
  | k + 1, c, x, h => by
    cases c with
    | seq p q => simp only [seqDrop] at h; simp only [loopsIn, List.mem_append]; exact Or.inr (seqDrop_loops k q x h)
    | _ => simp [seqDrop, loopsIn] at h
/-- So many statements, one behind the other. -/
def exSeq (n : Nat) (C : Cx) : Nat → Code → St → Ans St
  | 0, _, st => .out st
  | k + 1, c, st => match c with
    | .seq x y => (exCode n C x st).bind fun es => match es.1 with
      | .normal => exSeq n C k y es.2
      | _ => .fail
    | _ => .fail
theorem exSeq_sound {C : Cx} (hC : CxOk C) {n f B : Nat} {e : Exit} {s' : St} : ∀ (k : Nat) (c : Code) (st s : St), InBody (C.into f B) c → (exSeq n (C.into f B) k c st).res = some s → CodeSem C.P B (seqDrop k c) s e s' → CodeSem C.P B c st e s'
  | 0, c, st, s, _, h, h2 => by
    simp only [exSeq, Ans.res, Option.some.injEq] at h
    subst h
    exact h2
  | k + 1, c, st, s, hin, h, h2 => by
    cases c with
    | seq x y =>
      simp only [exSeq] at h
      obtain ⟨⟨e1, s1⟩, h1, h3⟩ := Ans.bind_some h
      have hx := (exCode_sound hC n).1 f B x (hin.sub fun z hz => by simp [loopsIn, hz]) st e1 s1 h1
      simp only at h3
      cases e1 with
      | normal => exact hx.seq (exSeq_sound hC k y s1 s (hin.sub fun z hz => by simp [loopsIn, hz]) h3 h2)
      | _ => simp [Ans.res] at h3
    | _ => simp [exSeq, Ans.res] at h
/-- A piece: so many statements, and what is told on behind them (slots, blocks). -/
def segR (C : Cx) (n k : Nat) (c : Code) (mask : List Nat) (sp : List From) (st : St) : Option St := ((exSeq n C k c st).bind fun s => (cleanA mask mask sp sp C.fb (.ret, s)).bind fun es => .out es.2).res
theorem seg_rule {C : Cx} (hC : CxOk C) {f B n k : Nat} {c : Code} {mask : List Nat} {sp : List From} {st s s' : St} {e : Exit} (hin : InBody (C.into f B) c) (h : segR (C.into f B) n k c mask sp st = some s) (h2 : CodeSem C.P B (seqDrop k c) s e s') : CodeSem C.P B c st e s' := by
  unfold segR at h
  obtain ⟨s1, h3, h4⟩ := Ans.bind_some h
  obtain ⟨⟨e2, s2⟩, h5, h6⟩ := Ans.bind_some h4
  simp only [Ans.res, Option.some.injEq] at h6
  subst h6
  exact exSeq_sound hC k c st s1 hin h3 fun Q w0 keep r0 a w hB hQ hr => h2 Q w0 keep r0 a w hB hQ (clean_rel h5 hB hr).2
/-- The last piece. -/
theorem end_rule {C : Cx} (hC : CxOk C) {f B n : Nat} {c : Code} {mask : List Nat} {sp : List From} {st s : St} {e : Exit} (hin : InBody (C.into f B) c) (h : roundR (C.into f B) n c mask mask sp sp st = some (e, s)) : CodeSem C.P B c st e s := by
  obtain ⟨⟨e1, s1⟩, h3, h4⟩ := Ans.bind_some h
  intro Q w0 keep r0 a w hB hQ hr
  refine (exCode_sound hC n).1 f B c hin _ _ _ h3 _ w0 keep r0 a w hB ?_ hr
  intro a' w' hr'
  obtain ⟨he, hs⟩ := clean_rel h4 hB hr'
  subst he
  exact hQ a' w' hs
def bodyOf (P : Program) (f : Nat) : Code := match P.funcs[f]? with
  | some fn => match fn.body with
    | some b => b
    | none => .skip
  | none => .skip
theorem bodyOf_in {C : Cx} {f B k : Nat} {fn : Func} {b : Code} (hf : C.P.funcs[f]? = some fn) (hb : fn.body = some b) : InBody (C.into f B) (seqDrop k b) :=
  Or.inl ⟨fn, b, hf, hb, seqDrop_loops k b⟩
theorem seqDrop_drop (k l : Nat) : ∀ (c : Code), seqDrop l (seqDrop k c) = seqDrop (k + l) c := by
  induction k with
  | zero => intro c; rw [Nat.zero_add]; rfl
  | succ k ih =>
    intro c
    rw [Nat.succ_add]
    cases c with
    | seq p q => simp only [seqDrop]; exact ih q
    | _ => simp only [seqDrop]; cases l <;> rfl
/-- No error but this one. -/
def wantV (z : Int) : Value → Bool × Value
  | .int k e => (e == z, .int k z)
  | v => (true, v)
theorem wantV_ok {z : Int} {v : Value} (h : (wantV z v).1 = true) : (wantV z v).2 = v := by
  cases v with
  | int k e => simp only [wantV] at h ⊢; rw [(beq_iff_eq.1 h)]
  | _ => rfl
def wantA (z : Int) (x : Ans (Value × Mem)) : Ans (Value × Mem) := x.bind fun vm => .br (wantV z vm.1).1 (.out ((wantV z vm.1).2, vm.2)) .fail
theorem wantA_ok {z : Int} {x : Ans (Value × Mem)} {v : Value} {m : Mem} (h : (wantA z x).res = some (v, m)) : x.res = some (v, m) := by
  obtain ⟨⟨u, mu⟩, h1, h2⟩ := Ans.bind_some h
  rcases Ans.br_some h2 with ⟨hb, h3⟩ | ⟨_, h3⟩
  · simp only [Ans.res, Option.some.injEq, Prod.mk.injEq] at h3
    obtain ⟨rfl, rfl⟩ := h3
    rw [h1, wantV_ok hb]
  · simp [Ans.res] at h3
/-- A function of which one road is wanted, with this answer. -/
def Cx.want (C : Cx) (f : FuncId) (p : List Bool) (z : Int) : Cx := C.addM f (lendF fun args m => match C.tbm f args m with
  | some ans => some (wantA z (pickA p ans))
  | none => none)
theorem Cx.want_ok {C : Cx} (hC : CxOk C) (f : FuncId) (p : List Bool) (z : Int) : CxOk (C.want f p z) :=
  Cx.addM_ok hC fun _ _ _ _ _ ha hr => lendF_ok (fun args m ans v m' h hr => by
    split at h
    · rename_i a0 h0
      simp only [Option.some.injEq] at h
      subst h
      exact hC.tbm f args m a0 v m' h0 (pickA_ok p a0 (wantA_ok hr))
    · cases h) ha hr
end Go.Proofs.Ytjhijkdicmbbiaa.Vx


namespace Go.Proofs.Ytjhijkdicmbbiaa.Vx
open Go Go.RowKit
theorem CodeSem.loop {P : Program} {B : Nat} {x : Code} {st s : St} {e : Exit} (h : LoopSem P B x st e s) : CodeSem P B (.loop x) st e s := fun Q w0 keep r0 a w hB hQ hr => (h Q w0 keep r0 a w hB hQ hr).wp
theorem CodeSem.block {P : Program} {B id : Nat} {x : Code} {st s : St} (h : CodeSem P B x st (.exit id) s) : CodeSem P B (.block id x) st .normal s := fun Q w0 keep r0 a w hB hQ hr =>
  wp_block (h _ w0 keep r0 a w hB (fun a' w' hr' => by
    simp only [Exit.inBlock]
    rw [if_pos trivial]
    exact hQ a' w' hr') hr)
/-- The k-th statement. -/
def stmt (k : Nat) (c : Code) : Code := match seqDrop k c with
  | .seq x _ => x
  | _ => .skip
def hasStmt (k : Nat) (c : Code) : Bool := match seqDrop k c with
  | .seq _ _ => true
  | _ => false
theorem stmt_rule {P : Program} {B k : Nat} {c : Code} {st s s' : St} {e : Exit} (hk : hasStmt k c = true) (h1 : CodeSem P B (stmt k c) st .normal s) (h2 : CodeSem P B (seqDrop (k + 1) c) s e s') : CodeSem P B (seqDrop k c) st e s' := by
  unfold hasStmt at hk
  unfold stmt at h1
  have e2 := seqDrop_drop k 1 c
  cases hc : seqDrop k c with
  | seq x y =>
    rw [hc] at h1 e2
    simp only [seqDrop] at e2
    rw [← e2] at h2
    exact h1.seq h2
  | _ => rw [hc] at hk; cases hk
/-- A 'for': what is ahead of it, then the loop. -/
def forHead : Code → Code
  | .seq x _ => x
  | _ => .skip
def forBody : Code → Code
  | .seq _ (.block _ (.loop x)) => x
  | _ => .skip
def isFor (id : Nat) : Code → Bool
  | .seq _ (.block i (.loop _)) => Nat.beq i id
  | _ => false
theorem for_rule {P : Program} {B id : Nat} {c : Code} {st s s' : St} (hf : isFor id c = true) (h1 : CodeSem P B (forHead c) st .normal s) (h2 : LoopSem P B (forBody c) s (.exit id) s') : CodeSem P B c st .normal s' := by
  unfold isFor at hf
  split at hf
  · rename_i x i y
    have := Nat.eq_of_beq_eq_true hf
    subst this
    exact h1.seq (CodeSem.block (CodeSem.loop h2))
  · cases hf
theorem for_in {C : Cx} {f B id k : Nat} {fn : Func} {b : Code} (hf : C.P.funcs[f]? = some fn) (hb : fn.body = some b) (hs : isFor id (stmt k b) = true) : InBody (C.into f B) (forHead (stmt k b)) ∧ InBody (C.into f B) (forBody (stmt k b)) := by
  have h0 : ∀ x ∈ loopsIn (stmt k b), x ∈ loopsIn b := fun x hx => by
    refine seqDrop_loops k b x ?_
    unfold stmt at hx
    cases hc : seqDrop k b with
    | seq p q => rw [hc] at hx; simp only at hx; simp [loopsIn, hx]
    | _ => rw [hc] at hx; simp [loopsIn] at hx
  unfold isFor at hs
  split at hs
  · rename_i x i y hst
    rw [hst] at h0 ⊢
    refine ⟨Or.inl ⟨fn, b, hf, hb, fun z hz => h0 z (by simp only [forHead] at hz; simp [loopsIn, hz])⟩, Or.inl ⟨fn, b, hf, hb, fun z hz => h0 z (by simp only [forBody] at hz; simp [loopsIn, hz])⟩⟩
  · cases hs
/-- A function that only looks, with no error, or yes. -/
def Cx.looksG (C : Cx) (f : FuncId) (p : List Bool) : Cx := C.putRd f 1 (lendP fun args m => match C.tbm f args m with
  | some ans => some (asmA (pickA p ans))
  | none => none)
theorem Cx.looksG_ok {C : Cx} (hC : CxOk C) (f : FuncId) (p : List Bool) : CxOk (C.looksG f p) :=
  Cx.putRd_ok hC (fun _ _ _ _ _ ha hr => lendP_ok (fun args m ans v m' h hr => by
    split at h
    · rename_i a0 h0
      simp only [Option.some.injEq] at h
      subst h
      exact hC.tbm f args m a0 v m' h0 (pickA_ok p a0 (asmA_ok hr))
    · cases h) ha hr) (fun _ _ _ _ _ _ ha hr => lendP_rd ha hr) (fun h => by cases h)
end Go.Proofs.Ytjhijkdicmbbiaa.Vx


namespace Go.Proofs.Ytjhijkdicmbbiaa.Vx
open Go Go.RowKit
theorem CodeSem.out {P : Program} {B : Nat} {x y : Code} {st s : St} {e : Exit} (h : CodeSem P B x st e s) (he : e ≠ .normal) : CodeSem P B (.seq x y) st e s := fun Q w0 keep r0 a w hB hQ hr =>
  wp_seq (h _ w0 keep r0 a w hB (fun a' w' hr' => by cases e <;> first | exact absurd rfl he | exact hQ a' w' hr') hr)
theorem CodeSem.condT {P : Program} {B : Nat} {t : Tmp} {x y : Code} {st s : St} {e : Exit} (ht : st.tmps[t]? = some (.bool true)) (h : CodeSem P B x st e s) : CodeSem P B (.cond (.tmp t) x y) st e s := fun Q w0 keep r0 a w hB hQ hr => by
  obtain ⟨r, hx, hr'⟩ := hr
  have he : a.eval (.tmp t) = .bool true := by
    have := eval_R hr' (.tmp t)
    simp only [ev, ht, Option.getD_some] at this
    exact R_bool this
  exact wp_cond_true he (h Q w0 keep r0 a w hB hQ ⟨r, hx, hr'⟩)
theorem CodeSem.condF {P : Program} {B : Nat} {t : Tmp} {x y : Code} {st s : St} {e : Exit} (ht : st.tmps[t]? = some (.bool false)) (h : CodeSem P B y st e s) : CodeSem P B (.cond (.tmp t) x y) st e s := fun Q w0 keep r0 a w hB hQ hr => by
  obtain ⟨r, hx, hr'⟩ := hr
  have he : a.eval (.tmp t) = .bool false := by
    have := eval_R hr' (.tmp t)
    simp only [ev, ht, Option.getD_some] at this
    exact R_bool this
  exact wp_cond_false he (h Q w0 keep r0 a w hB hQ ⟨r, hx, hr'⟩)
theorem CodeSem.blockN {P : Program} {B id : Nat} {x : Code} {st s : St} (h : CodeSem P B x st .normal s) : CodeSem P B (.block id x) st .normal s := fun _ w0 keep r0 a w hB hQ hr =>
  wp_block (h _ w0 keep r0 a w hB (fun a' w' hr' => hQ a' w' hr') hr)
theorem CodeSem.blockR {P : Program} {B id : Nat} {x : Code} {st s : St} (h : CodeSem P B x st .ret s) : CodeSem P B (.block id x) st .ret s := fun _ w0 keep r0 a w hB hQ hr =>
  wp_block (h _ w0 keep r0 a w hB (fun a' w' hr' => hQ a' w' hr') hr)
/-- A loop is told by what its body comes to. -/
theorem loop_code {P : Program} {B : Nat} {x : Code} {σ : Type} (H : σ → St) (μ : σ → Nat) (Inv : σ → Prop) (out : σ → Exit × St)
    (hstep : ∀ g, Inv g → (∃ g', CodeSem P B x (H g) .normal (H g') ∧ Inv g' ∧ μ g' < μ g ∧ out g' = out g) ∨ (CodeSem P B x (H g) (out g).1 (out g).2 ∧ (out g).1 ≠ .normal)) :
    ∀ g, Inv g → LoopSem P B x (H g) (out g).1 (out g).2 := by
  have leave : ∀ g, CodeSem P B x (H g) (out g).1 (out g).2 → (out g).1 ≠ .normal → LoopSem P B x (H g) (out g).1 (out g).2 := by
    intro g h1 h2 Q w0 keep r0 a w hB hQ hr
    refine LoopsTo.round (h1 _ w0 keep r0 a w hB ?_ hr)
    intro a' w' hr'
    revert h2 hQ hr'
    cases (out g).1 <;> intro h2 hQ hr' <;> first | exact absurd rfl h2 | exact hQ a' w' hr'
  have key : ∀ k g, μ g ≤ k → Inv g → LoopSem P B x (H g) (out g).1 (out g).2 := by
    intro k
    induction k with
    | zero =>
      intro g hk hg
      rcases hstep g hg with ⟨g', _, _, hlt, _⟩ | ⟨h1, h2⟩
      · omega
      · exact leave g h1 h2
    | succ k ih =>
      intro g hk hg
      rcases hstep g hg with ⟨g', h1, hg', hlt, ho⟩ | ⟨h1, h2⟩
      · intro Q w0 keep r0 a w hB hQ hr
        refine LoopsTo.round (h1 _ w0 keep r0 a w hB ?_ hr)
        intro a' w' hr'
        refine ih g' (by omega) hg' Q w0 keep r0 a' w' hB ?_ hr'
        rw [ho]; exact hQ
      · exact leave g h1 h2
  exact fun g hg => key (μ g) g (Nat.le_refl _) hg
/-- States that tell the same, behind code. -/
theorem CodeSem.likes {P : Program} {B : Nat} {x : Code} {st s s2 : St} {e : Exit} (h : CodeSem P B x st e s) (hl : StLike s s2) : CodeSem P B x st e s2 := fun Q w0 keep r0 a w hB hQ hr =>
  h Q w0 keep r0 a w hB (fun a' w' hr' => hQ a' w' (hr'.like hl)) hr
/-- A piece of code that is run, cleaned: at its end or where it leaves. -/
theorem run_code {C : Cx} (hC : CxOk C) {f B n : Nat} {c : Code} {mask : List Nat} {sp : List From} {st s : St} {e : Exit} (hin : InBody (C.into f B) c) (h : roundR (C.into f B) n c mask mask sp sp st = some (e, s)) : CodeSem C.P B c st e s := end_rule hC hin h
/-- Parts of code. -/
def cL : Code → Code
  | .seq x _ => x
  | .block _ x => x
  | .loop x => x
  | .cond _ x _ => x
  | _ => .skip
def cR : Code → Code
  | .seq _ y => y
  | .cond _ _ y => y
  | _ => .skip
theorem cL_loops (c : Code) : ∀ x ∈ loopsIn (cL c), x ∈ loopsIn c := by
  cases c <;> simp [cL, loopsIn] <;> intro x h <;> simp [h]
theorem cR_loops (c : Code) : ∀ x ∈ loopsIn (cR c), x ∈ loopsIn c := by
  cases c <;> simp [cR, loopsIn] <;> intro x h <;> simp [h]
theorem InBody.left {C : Cx} {c : Code} (h : InBody C c) : InBody C (cL c) := h.sub (cL_loops c)
theorem InBody.right {C : Cx} {c : Code} (h : InBody C c) : InBody C (cR c) := h.sub (cR_loops c)
end Go.Proofs.Ytjhijkdicmbbiaa.Vx


namespace Go.Proofs.Ytjhijkdicmbbiaa.Vx
open Go Go.RowKit
theorem loop_leave {C : Cx} (hC : CxOk C) {f B n : Nat} {x : Code} {st s : St} {e : Exit} {mask mout : List Nat} {sp so : List From} (hin : InBody (C.into f B) x) (h : roundR (C.into f B) n x mask mout sp so st = some (e, s)) (he : e ≠ .normal) : LoopSem C.P B x st e s := by
  intro Q w0 keep r0 a w hB hQ hr
  obtain ⟨⟨e1, s1⟩, h3, h4⟩ := Ans.bind_some h
  refine LoopsTo.round ((exCode_sound hC n).1 f B x hin _ _ _ h3 _ w0 keep r0 a w hB ?_ hr)
  intro a' w' hr'
  obtain ⟨rfl, hs⟩ := clean_rel h4 hB hr'
  revert he hQ hs
  cases e <;> intro he hQ hs <;> first | exact absurd rfl he | exact hQ a' w' hs
theorem loop_next {C : Cx} (hC : CxOk C) {f B n : Nat} {x : Code} {st s s2 s3 : St} {e : Exit} {mask mout : List Nat} {sp so : List From} (hin : InBody (C.into f B) x) (h : roundR (C.into f B) n x mask mout sp so st = some (.normal, s)) (hl : StLike s s2) (hn : LoopSem C.P B x s2 e s3) : LoopSem C.P B x st e s3 := by
  intro Q w0 keep r0 a w hB hQ hr
  obtain ⟨⟨e1, s1⟩, h3, h4⟩ := Ans.bind_some h
  refine LoopsTo.round ((exCode_sound hC n).1 f B x hin _ _ _ h3 _ w0 keep r0 a w hB ?_ hr)
  intro a' w' hr'
  obtain ⟨he, hs⟩ := clean_rel h4 hB hr'
  subst he
  exact hn Q w0 keep r0 a' w' hB hQ (hs.like hl)
def blkBody : Code → Code
  | .block _ (.loop x) => x
  | _ => .skip
def isBlk (id : Nat) : Code → Bool
  | .block i (.loop _) => Nat.beq i id
  | _ => false
theorem blk_rule {P : Program} {B id : Nat} {c : Code} {st s' : St} (hf : isBlk id c = true) (h2 : LoopSem P B (blkBody c) st (.exit id) s') : CodeSem P B c st .normal s' := by
  unfold isBlk at hf
  split at hf
  · rename_i i y
    have := Nat.eq_of_beq_eq_true hf
    subst this
    exact CodeSem.block (CodeSem.loop h2)
  · cases hf
theorem blk_ret {P : Program} {B id : Nat} {c : Code} {st s' : St} (hf : isBlk id c = true) (h2 : LoopSem P B (blkBody c) st .ret s') : CodeSem P B c st .ret s' := by
  unfold isBlk at hf
  split at hf
  · exact CodeSem.blockR (CodeSem.loop h2)
  · cases hf
theorem blk_in {C : Cx} {f B id k : Nat} {fn : Func} {b : Code} (hf : C.P.funcs[f]? = some fn) (hb : fn.body = some b) (hs : isBlk id (stmt k b) = true) : InBody (C.into f B) (blkBody (stmt k b)) := by
  have h0 : ∀ x ∈ loopsIn (stmt k b), x ∈ loopsIn b := fun x hx => by
    refine seqDrop_loops k b x ?_
    unfold stmt at hx
    cases hc : seqDrop k b with
    | seq p q => rw [hc] at hx; simp only at hx; simp [loopsIn, hx]
    | _ => rw [hc] at hx; simp [loopsIn] at hx
  unfold isBlk at hs
  split at hs
  · rename_i i y hst
    rw [hst] at h0 ⊢
    exact Or.inl ⟨fn, b, hf, hb, fun z hz => h0 z (by simp only [blkBody] at hz; simp [loopsIn, hz])⟩
  · cases hs
theorem blk_inD {C : Cx} {f B id k : Nat} {fn : Func} {b : Code} (hf : C.P.funcs[f]? = some fn) (hb : fn.body = some b) (hs : isBlk id (seqDrop k b) = true) : InBody (C.into f B) (blkBody (seqDrop k b)) := by
  have h0 : ∀ x ∈ loopsIn (seqDrop k b), x ∈ loopsIn b := seqDrop_loops k b
  unfold isBlk at hs
  split at hs
  · rename_i i y hst
    rw [hst] at h0 ⊢
    exact Or.inl ⟨fn, b, hf, hb, fun z hz => h0 z (by simp only [blkBody] at hz; simp [loopsIn, hz])⟩
  · cases hs
/-- A statement that returns. -/
theorem stmt_out {P : Program} {B k : Nat} {c : Code} {st s : St} {e : Exit} (hk : hasStmt k c = true) (h1 : CodeSem P B (stmt k c) st e s) (he : e ≠ .normal) : CodeSem P B (seqDrop k c) st e s := by
  unfold hasStmt at hk
  unfold stmt at h1
  cases hc : seqDrop k c with
  | seq x y => rw [hc] at h1; exact h1.out he
  | _ => rw [hc] at hk; cases hk
theorem stmt_in {C : Cx} {f B k : Nat} {fn : Func} {b : Code} (hf : C.P.funcs[f]? = some fn) (hb : fn.body = some b) : InBody (C.into f B) (stmt k b) := by
  refine Or.inl ⟨fn, b, hf, hb, fun x hx => ?_⟩
  refine seqDrop_loops k b x ?_
  unfold stmt at hx
  cases hc : seqDrop k b with
  | seq p q => rw [hc] at hx; simp only at hx; simp [loopsIn, hx]
  | _ => rw [hc] at hx; simp [loopsIn] at hx
/-- A piece whose masks hang on how it ends. -/
theorem end_rule' {C : Cx} (hC : CxOk C) {f B n : Nat} {c : Code} {mask mout : List Nat} {sp so : List From} {st s : St} {e : Exit} (hin : InBody (C.into f B) c) (h : roundR (C.into f B) n c mask mout sp so st = some (e, s)) : CodeSem C.P B c st e s := by
  obtain ⟨⟨e1, s1⟩, h3, h4⟩ := Ans.bind_some h
  intro Q w0 keep r0 a w hB hQ hr
  refine (exCode_sound hC n).1 f B c hin _ _ _ h3 _ w0 keep r0 a w hB ?_ hr
  intro a' w' hr'
  obtain ⟨he, hs⟩ := clean_rel h4 hB hr'
  subst he
  exact hQ a' w' hs
/-- A function without memory, told by a proof. -/
theorem Cx.addP_ok {C : Cx} (hC : CxOk C) {f : FuncId} {F : List Value → Option (Bool × Value)} (h : ∀ args v, (∀ x ∈ args, Vx.plain x = true) → F args = some (true, v) → Vx.plain v = true → PlainSem C.P f args v) : CxOk (C.addR f F) := by
  refine ⟨hC.mixed, ?_, hC.tbm, hC.keys, hC.inl, hC.lp, hC.rd, hC.rd2, hC.ext⟩
  intro g args v hargs hv hp
  simp only [Cx.addR] at hv
  cases hg : Nat.beq g f with
  | false => simp only [hg] at hv; exact hC.tbl g args v hargs hv hp
  | true =>
    have hgf : g = f := Nat.eq_of_beq_eq_true hg
    subst hgf
    simp only [hg] at hv
    exact h args v hargs hv hp
def gn {α : Type} (b : Bool) (x : Option α) : Option α := match b with
  | true => none
  | false => x
theorem bd_ok' {i k : Nat} (h : i < k) : boundsI (i : Int) k = true := by simp [boundsI]; omega
end Go.Proofs.Ytjhijkdicmbbiaa.Vx


namespace Go.Proofs.Ytjhijkdicmbbiaa.Vx
open Go Go.RowKit
def Cx.addI (C : Cx) (f : FuncId) : Cx := { C with inl := fun g => match Nat.beq g f with
  | true => C.P.funcs[g]?
  | false => C.inl g }
theorem Cx.addI_ok {C : Cx} (hC : CxOk C) {f : FuncId} (hok : okFunc C.P f = true) : CxOk (C.addI f) := by
  refine ⟨hC.mixed, hC.tbl, hC.tbm, hC.keys, fun g fn hg => ?_, hC.lp, hC.rd, hC.rd2, hC.ext⟩
  simp only [Cx.addI] at hg
  cases hb : Nat.beq g f with
  | false => rw [hb] at hg; exact hC.inl g fn hg
  | true =>
    rw [hb] at hg
    have := Nat.eq_of_beq_eq_true hb
    subst this
    exact ⟨hg, okFunc_name hok hg⟩
end Go.Proofs.Ytjhijkdicmbbiaa.Vx


namespace Go.Proofs.Ytjhijkdicmbbiaa.Vx
open Go Go.RowKit

/-! ## Values without addresses -/
/-! ## Calls that leave memory alone -/
def keepAll (W : World) : Keep := ⟨fun j => j < W.heap.size, fun j => j < W.heap.size, fun _ h => h⟩
theorem emp_rel (W : World) : MemRel W (keepAll W) (fun _ => none) [] W :=
  ⟨rfl, rfl, rfl, Nat.le_refl _, Nat.le_refl _, fun j hj => hj, fun j _ => rfl, fun b _ => rfl, fun b hb => (by cases hb), fun b p hp => (by cases hp), fun b p hp => (by cases hp), fun b p hp => (by cases hp), fun b p hp => (by cases hp), fun b c p q hp => (by cases hp), fun b c p q hp => (by cases hp)⟩
theorem MemSem.quiet {P : Program} {f : FuncId} {args : List Value} {v : Value} {m' : Mem} (h : MemSem P f args [] v m') (ha : ∀ x ∈ args, nad x = true) (hv : nad v = true) (m : Mem) : MemSem P f args m v m := by
  refine ⟨h.1, fun w0 keep r args' w hargs hm => ?_⟩
  refine (h.2 w (keepAll w) (fun _ => none) args' w (RL_mem (fun x hx y => R_nad (ha x hx)) hargs) (emp_rel w)).mono ?_
  rintro e w' ⟨v', r', rfl, h1, h2, _⟩
  exact ⟨v', r, rfl, R_nad hv h1, hm.later ⟨h2.os, h2.tape, h2.output, h2.size, fun k hk => h2.kept k hk⟩ h2.drawn, Ext.refl r⟩

/-- An argument: a float, a complex number, a plain value. -/
inductive FD where
  | n (k : FloatKind) (b : Nat)
  | c (k : FloatKind) (a b : Nat)
  | v (v : Value)
def dOf (x : Value) : Option FD := match fl? x with
  | some (k, b) => some (.n k b)
  | none => match cx? x with
    | some (k, a, b) => some (.c k a b)
    | none => match plain x with
      | true => some (.v x)
      | false => none
def dsOf : List Value → Option (List FD)
  | [] => some []
  | x :: xs => match dOf x with
    | some d => match dsOf xs with
      | some ds => some (d :: ds)
      | none => none
    | none => none
def valOf : FD → Value
  | .n k b => aF k b
  | .c k a b => aC k a b
  | .v v => v
theorem dOf_plain {x : Value} (hp : plain x = true) : nad x = true := by
  have e1 : ∀ v, plain1 v = true → nad1 v = true := fun v hv => by
    unfold plain1 at hv
    unfold nad1
    split at hv
    · exact allL_iff.2 fun x hx => plain0_nad0 (allL_iff.1 hv x hx)
    · exact plain0_nad0 hv
  unfold plain at hp
  unfold nad
  split at hp
  · exact allL_iff.2 fun x hx => e1 x (allL_iff.1 hp x hx)
  · exact e1 _ hp
theorem dOf_R {r : Ren} {x x' : Value} {d : FD} (h : dOf x = some d) (hr : R r x x') : R r (valOf d) x' ∧ nad (valOf d) = true := by
  unfold dOf at h
  split at h
  · rename_i k b hf
    simp only [Option.some.injEq] at h
    subst h
    exact ⟨R_fl hr hf, rfl⟩
  · split at h
    · rename_i k a b hf
      simp only [Option.some.injEq] at h
      subst h
      exact ⟨R_cx hr hf, rfl⟩
    · split at h
      · rename_i hp
        simp only [Option.some.injEq] at h
        subst h
        exact ⟨hr, dOf_plain hp⟩
      · cases h
theorem dsOf_R {r : Ren} : ∀ {xs xs' : List Value} {ds : List FD}, dsOf xs = some ds → RL (R r) xs xs' → RL (R r) (ds.map valOf) xs' ∧ ∀ x ∈ ds.map valOf, nad x = true
  | [], [], ds, h, _ => by
    simp only [dsOf, Option.some.injEq] at h
    subst h
    exact ⟨trivial, by simp⟩
  | x :: xs, x' :: xs', ds, h, hr => by
    simp only [dsOf] at h
    split at h
    · rename_i d hd
      split at h
      · rename_i ds' hds
        simp only [Option.some.injEq] at h
        subst h
        obtain ⟨h1, h2⟩ := dsOf_R hds hr.2
        obtain ⟨g1, g2⟩ := dOf_R hd hr.1
        refine ⟨⟨g1, h1⟩, fun y hy => ?_⟩
        rcases List.mem_cons.1 hy with rfl | hy
        · exact g2
        · exact h2 y hy
      · cases h
    · cases h
  | [], _ :: _, _, _, hr => hr.elim
  | _ :: _, [], _, _, hr => hr.elim

/-! ## The table -/
def pureF (F : List FD → Option (Ans Value)) (args : List Value) (m : Mem) : Option (Ans (Value × Mem)) := match dsOf args with
  | some ds => match F ds with
    | some a => some (a.bind fun v => match nad v with
      | true => .out (v, m)
      | false => .fail)
    | none => none
  | none => none
/-- A function of floats. -/
def Cx.addQ (C : Cx) (f : FuncId) (F : List FD → Option (Ans Value)) : Cx := C.putRd f 1 (pureF F)
theorem pureF_some {F : List FD → Option (Ans Value)} {args : List Value} {m : Mem} {ans : Ans (Value × Mem)} {v : Value} {m' : Mem} (h : pureF F args m = some ans) (hr : ans.res = some (v, m')) : m' = m ∧ nad v = true ∧ ∃ ds a, dsOf args = some ds ∧ F ds = some a ∧ a.res = some v ∧ ∀ m2, ∃ ans', pureF F args m2 = some ans' ∧ ans'.res = some (v, m2) := by
  unfold pureF at h ⊢
  split at h
  · rename_i ds hds
    split at h
    · rename_i a ha
      simp only [Option.some.injEq] at h
      subst h
      obtain ⟨u, h1, h2⟩ := Ans.bind_some hr
      split at h2
      · rename_i hn
        simp only [Ans.res, Option.some.injEq, Prod.mk.injEq] at h2
        obtain ⟨rfl, rfl⟩ := h2
        refine ⟨rfl, hn, ds, a, hds, ha, h1, fun m2 => ?_⟩
        refine ⟨_, rfl, ?_⟩
        rw [Ans.res_bind, h1]
        simp only [Option.bind_some, hn]
        rfl
      · simp [Ans.res] at h2
    · cases h
  · cases h
theorem Cx.addQ_ok {C : Cx} (hC : CxOk C) {f : FuncId} {F : List FD → Option (Ans Value)} (h : ∀ ds a v, F ds = some a → a.res = some v → ∃ m', MemSem C.P f (ds.map valOf) [] v m') : CxOk (C.addQ f F) := by
  refine Cx.putRd_ok hC (fun args m ans v m' ha hr => ?_) (fun _ args m ans v m' ha hr => ?_) (fun h => by cases h)
  · obtain ⟨rfl, hn, ds, a, h1, h2, h3, _⟩ := pureF_some ha hr
    obtain ⟨mm, hs⟩ := h ds a v h2 h3
    refine ⟨hs.1, fun w0 keep r args' w hargs hm => ?_⟩
    obtain ⟨g1, g2⟩ := dsOf_R h1 hargs
    exact (hs.quiet g2 hn m').2 w0 keep r args' w g1 hm
  · obtain ⟨rfl, _, _, _, _, _, _, h4⟩ := pureF_some ha hr
    exact ⟨rfl, fun q k _ => h4 _⟩
/-- What a function answers; what it leaves behind is told no more. -/
def exV (C : Cx) (n : Nat) (fn : Func) (args : List Value) : Option Value := ((exFunA C n fn args []).bind fun vm => Ans.out vm.1).res
theorem exV_sem {C : Cx} (hC : CxOk C) {n : Nat} {f : FuncId} {fn : Func} {args : List Value} {v : Value} (hf : C.P.funcs[f]? = some fn) (hok : (fn.name == "runtime.NumGoroutine") = false) (h : exV (C.at f) n fn args = some v) : ∃ m', MemSem C.P f args [] v m' := by
  unfold exV at h
  obtain ⟨⟨u, m'⟩, h1, h2⟩ := Ans.bind_some h
  simp only [Ans.res, Option.some.injEq] at h2
  subst h2
  exact ⟨m', exFunA_sem (C := C.at f) (hC.at f) hf hok (Or.inl rfl) h1⟩
/-- A function that is told of exact values, the same whatever the NaNs. -/
theorem exact_sem {P : Program} {f : FuncId} {args : List Value} {v : Value} (hf : fnOk P f) (hv : nad v = true) (h : ∀ (r : Ren) xs, RL (R r) args xs → (∀ x ∈ xs, plain x = true) ∧ ∃ m', MemSem P f xs [] v m') : MemSem P f args [] v [] := by
  refine ⟨hf, fun w0 keep r args' w hargs hm => ?_⟩
  obtain ⟨hp, m', hs⟩ := h r args' hargs
  have hn : ∀ x ∈ args', nad x = true := fun x hx => (dOf_plain (hp x hx))
  refine (hs.quiet hn hv []).2 w0 keep r args' w ?_ hm
  clear hargs hs hn h
  induction args' with
  | nil => trivial
  | cons x l ih => exact ⟨(R_plain (hp x (by simp))).2 rfl, ih fun y hy => hp y (by simp [hy])⟩
end Go.Proofs.Ytjhijkdicmbbiaa.Vx


namespace Go.Proofs.Ytjhijkdicmbbiaa
open Go Vx
def inlinedr : List Nat := [20, 21, 22, 23, 24, 25, 27, 28, 29, 30, 31, 32, 33, 34, 35, 36, 37, 38, 39, 40, 41, 42, 43, 44, 45, 46, 47, 57, 58, 59, 60, 61, 62, 63, 64, 65, 66, 67, 68, 69, 70, 71, 72, 73, 74, 75, 76, 77, 78, 79, 80, 82, 83, 84, 92, 93, 94, 95, 96, 97, 98, 99, 100, 101, 102, 103, 104, 105, 106, 107, 108, 109, 110, 111, 112, 113, 114, 115, 116, 117, 118, 119, 120, 121, 122, 123, 124, 125, 127, 131, 132, 133, 134, 137, 139, 140, 141, 142, 143, 144]
def Crb (P : Program) : Cx := base P inlinedr
theorem okrb : CxOk (Crb Try.prog) := base_ok (by kernel_rfl) (by kernel_rfl)
def Crx138 (P : Program) : Cx := (Crb P).addX 138 6
theorem okrx138 : CxOk (Crx138 Try.prog) := Cx.addX_ok okrb Try.func138 (by kernel_rfl) (by kernel_rfl) (by kernel_rfl) (by kernel_rfl)
def Crx148 (P : Program) : Cx := (Crx138 P).addX 148 7
theorem okrx148 : CxOk (Crx148 Try.prog) := Cx.addX_ok okrx138 Try.func148 (by kernel_rfl) (by kernel_rfl) (by kernel_rfl) (by kernel_rfl)
def Cr0 (P : Program) : Cx := Crx148 P
theorem okr0 : CxOk (Cr0 Try.prog) := okrx148
end Go.Proofs.Ytjhijkdicmbbiaa


namespace Go.Proofs.Ytjhijkdicmbbiaa.Vx
open Go

def nth : List Int → Nat → Int
  | [], _ => 0
  | x :: _, 0 => x
  | _ :: l, k + 1 => nth l k

def chainO (mk : List Int → Value) : List (Bool × List Int) → List Int → Option Value
  | [], d => some (mk d)
  | (t, r) :: ts, d => match t with
    | true => some (mk r)
    | false => chainO mk ts d

def chainL : List (Bool × List Int) → List Int → List Int
  | [], d => d
  | (t, r) :: ts, d => match t with
    | true => r
    | false => chainL ts d

theorem chain_eq (mk : List Int → Value) : ∀ (ts : List (Bool × List Int)) (d : List Int), chainO mk ts d = some (mk (chainL ts d))
  | [], _ => rfl
  | (true, _) :: _, _ => rfl
  | (false, _) :: ts, d => chain_eq mk ts d

def mk1 (l : List Int) : Value := .int .i64 (nth l 0)
def mkVec (l : List Int) : Value := .agg #[.int .i64 (nth l 0), .int .i64 (nth l 1), .int .i64 (nth l 2)]
def mkM (l : List Int) : Value := .agg #[.int .i64 (nth l 0), .int .i64 (nth l 1), .int .i64 (nth l 2), .int .i64 (nth l 3), .int .i64 (nth l 4), .int .i64 (nth l 5), .int .i64 (nth l 6), .int .i64 (nth l 7), .int .i64 (nth l 8)]
def mkIe (l : List Int) : Value := .tuple #[.int .i64 (nth l 0), .int .i64 (nth l 1)]
def mkVe (l : List Int) : Value := .tuple #[.agg #[.int .i64 (nth l 0), .int .i64 (nth l 1), .int .i64 (nth l 2)], .int .i64 (nth l 3)]
def mkMe (l : List Int) : Value := .tuple #[.agg #[.int .i64 (nth l 0), .int .i64 (nth l 1), .int .i64 (nth l 2), .int .i64 (nth l 3), .int .i64 (nth l 4), .int .i64 (nth l 5), .int .i64 (nth l 6), .int .i64 (nth l 7), .int .i64 (nth l 8)], .int .i64 (nth l 9)]

/-- The number of 64 bits that is left of a whole number. -/
def W (n : Int) : Int := IntKind.wrap .i64 n

theorem W_eq (n : Int) : W n = (n + 9223372036854775808) % 18446744073709551616 - 9223372036854775808 := by
  unfold W IntKind.wrap
  simp only [IntKind.bits, IntKind.signed]
  have h1 : ((2 : Int) ^ 64) = 18446744073709551616 := rfl
  have h2 : ((2 : Int) ^ (64 - 1)) = 9223372036854775808 := rfl
  simp only [h1, h2, Bool.true_and, decide_eq_true_eq]
  split <;> omega

theorem W_id {n : Int} (h1 : -9223372036854775808 ≤ n) (h2 : n ≤ 9223372036854775807) : W n = n := by rw [W_eq]; omega
theorem W_W (n : Int) : W (W n) = W n := by simp only [W_eq]; omega
theorem W_congr {m n : Int} : W m = W n ↔ (m - n) % 18446744073709551616 = 0 := by simp only [W_eq]; omega
theorem W_sub_self (n : Int) : (W n - n) % 18446744073709551616 = 0 := by rw [W_eq]; omega
theorem W_addl (m n : Int) : W (W m + n) = W (m + n) := by simp only [W_eq]; omega
theorem W_addr (m n : Int) : W (m + W n) = W (m + n) := by simp only [W_eq]; omega
theorem W_subl (m n : Int) : W (W m - n) = W (m - n) := by simp only [W_eq]; omega
theorem W_subr (m n : Int) : W (m - W n) = W (m - n) := by simp only [W_eq]; omega
theorem W_mull (m n : Int) : W (W m * n) = W (m * n) := by
  rw [W_congr, ← Int.sub_mul]
  obtain ⟨k, hk⟩ := Int.dvd_of_emod_eq_zero (W_sub_self m)
  rw [hk, Int.mul_assoc]
  exact Int.mul_emod_right _ _
theorem W_mulr (m n : Int) : W (m * W n) = W (m * n) := by rw [Int.mul_comm, W_mull, Int.mul_comm]
theorem W_neg (m : Int) : W (0 - W m) = W (0 - m) := W_subr 0 m

theorem wrap_W (n : Int) : IntKind.wrap .i64 n = W n := rfl

theorem wf_bounds {n : Int} (h : (Lit.int .i64 n).wf = true) : -9223372036854775808 ≤ n ∧ n ≤ 9223372036854775807 := by
  simp [Lit.wf, IntKind.min, IntKind.max, IntKind.signed, IntKind.bits] at h
  omega

end Go.Proofs.Ytjhijkdicmbbiaa.Vx


namespace Go.Proofs.Ytjhijkdicmbbiaa.Vx
open Go

structure M3 where
  (a b c d e f g h i : Int)
structure V3 where
  (x y z : Int)

theorem M3.ext' {m n : M3} (h : m.a = n.a ∧ m.b = n.b ∧ m.c = n.c ∧ m.d = n.d ∧ m.e = n.e ∧ m.f = n.f ∧ m.g = n.g ∧ m.h = n.h ∧ m.i = n.i) : m = n := by
  cases m; cases n; simp only [M3.mk.injEq]; exact h
theorem V3.ext' {m n : V3} (h : m.x = n.x ∧ m.y = n.y ∧ m.z = n.z) : m = n := by
  cases m; cases n; simp only [V3.mk.injEq]; exact h

def M3.mul (m n : M3) : M3 :=
  ⟨m.a * n.a + m.b * n.d + m.c * n.g, m.a * n.b + m.b * n.e + m.c * n.h, m.a * n.c + m.b * n.f + m.c * n.i,
   m.d * n.a + m.e * n.d + m.f * n.g, m.d * n.b + m.e * n.e + m.f * n.h, m.d * n.c + m.e * n.f + m.f * n.i,
   m.g * n.a + m.h * n.d + m.i * n.g, m.g * n.b + m.h * n.e + m.i * n.h, m.g * n.c + m.h * n.f + m.i * n.i⟩
def M3.one : M3 := ⟨1, 0, 0, 0, 1, 0, 0, 0, 1⟩
def M3.zero : M3 := ⟨0, 0, 0, 0, 0, 0, 0, 0, 0⟩
def M3.det (m : M3) : Int := m.a * (m.e * m.i - m.f * m.h) + m.b * (m.f * m.g - m.d * m.i) + m.c * (m.d * m.h - m.e * m.g)
def M3.adj (m : M3) : M3 :=
  ⟨m.e * m.i - m.f * m.h, m.h * m.c - m.i * m.b, m.b * m.f - m.c * m.e, m.f * m.g - m.d * m.i, m.i * m.a - m.g * m.c, m.c * m.d - m.a * m.f, m.d * m.h - m.e * m.g, m.g * m.b - m.h * m.a, m.a * m.e - m.b * m.d⟩
def M3.smul (k : Int) (m : M3) : M3 := ⟨m.a * k, m.b * k, m.c * k, m.d * k, m.e * k, m.f * k, m.g * k, m.h * k, m.i * k⟩
def M3.tr (m : M3) : Int := m.a + m.e + m.i
def M3.neg (m : M3) : M3 := ⟨-m.a, -m.b, -m.c, -m.d, -m.e, -m.f, -m.g, -m.h, -m.i⟩
def M3.inv (m : M3) : M3 := m.adj.smul m.det
def M3.app (m : M3) (v : V3) : V3 := ⟨m.a * v.x + m.b * v.y + m.c * v.z, m.d * v.x + m.e * v.y + m.f * v.z, m.g * v.x + m.h * v.y + m.i * v.z⟩
def V3.zero : V3 := ⟨0, 0, 0⟩
def V3.add (u v : V3) : V3 := ⟨u.x + v.x, u.y + v.y, u.z + v.z⟩
def V3.neg (u : V3) : V3 := ⟨-u.x, -u.y, -u.z⟩
def V3.md (m : Int) (u : V3) : V3 := ⟨u.x % m, u.y % m, u.z % m⟩

theorem M3.mul_assoc (m n o : M3) : (m.mul n).mul o = m.mul (n.mul o) := by
  refine M3.ext' ⟨?_, ?_, ?_, ?_, ?_, ?_, ?_, ?_, ?_⟩ <;> (simp only [M3.mul]; grind)
theorem M3.one_mul (m : M3) : M3.one.mul m = m := by
  refine M3.ext' ⟨?_, ?_, ?_, ?_, ?_, ?_, ?_, ?_, ?_⟩ <;> (simp only [M3.mul, M3.one]; omega)
theorem M3.mul_one (m : M3) : m.mul M3.one = m := by
  refine M3.ext' ⟨?_, ?_, ?_, ?_, ?_, ?_, ?_, ?_, ?_⟩ <;> (simp only [M3.mul, M3.one]; omega)
theorem M3.det_mul (m n : M3) : (m.mul n).det = m.det * n.det := by
  simp only [M3.det, M3.mul]; grind
theorem M3.mul_adj (m : M3) : m.mul m.adj = M3.one.smul m.det := by
  refine M3.ext' ⟨?_, ?_, ?_, ?_, ?_, ?_, ?_, ?_, ?_⟩ <;> (simp only [M3.mul, M3.adj, M3.smul, M3.det, M3.one]; grind)
theorem M3.adj_mul (m : M3) : m.adj.mul m = M3.one.smul m.det := by
  refine M3.ext' ⟨?_, ?_, ?_, ?_, ?_, ?_, ?_, ?_, ?_⟩ <;> (simp only [M3.mul, M3.adj, M3.smul, M3.det, M3.one]; grind)
theorem M3.mul_smul (k : Int) (m n : M3) : m.mul (n.smul k) = (m.mul n).smul k := by
  refine M3.ext' ⟨?_, ?_, ?_, ?_, ?_, ?_, ?_, ?_, ?_⟩ <;> (simp only [M3.mul, M3.smul]; grind)
theorem M3.smul_mul (k : Int) (m n : M3) : (m.smul k).mul n = (m.mul n).smul k := by
  refine M3.ext' ⟨?_, ?_, ?_, ?_, ?_, ?_, ?_, ?_, ?_⟩ <;> (simp only [M3.mul, M3.smul]; grind)
theorem M3.smul_smul (k l : Int) (m : M3) : (m.smul k).smul l = m.smul (k * l) := by
  refine M3.ext' ⟨?_, ?_, ?_, ?_, ?_, ?_, ?_, ?_, ?_⟩ <;> (simp only [M3.smul]; grind)
theorem M3.smul_one (m : M3) : m.smul 1 = m := by
  refine M3.ext' ⟨?_, ?_, ?_, ?_, ?_, ?_, ?_, ?_, ?_⟩ <;> (simp only [M3.smul]; omega)

/-- The determinant is 1 or -1. -/
def M3.U (m : M3) : Prop := m.det = 1 ∨ m.det = -1
theorem M3.U.sq {m : M3} (h : m.U) : m.det * m.det = 1 := by rcases h with h | h <;> rw [h] <;> rfl
theorem M3.mul_inv {m : M3} (h : m.U) : m.mul m.inv = M3.one := by
  unfold M3.inv; rw [M3.mul_smul, M3.mul_adj, M3.smul_smul, h.sq, M3.smul_one]
theorem M3.inv_mul {m : M3} (h : m.U) : m.inv.mul m = M3.one := by
  unfold M3.inv; rw [M3.smul_mul, M3.adj_mul, M3.smul_smul, h.sq, M3.smul_one]
theorem M3.det_one : M3.one.det = 1 := by decide
theorem M3.U_one : M3.one.U := Or.inl M3.det_one
theorem M3.U_mul {m n : M3} (hm : m.U) (hn : n.U) : (m.mul n).U := by
  unfold M3.U
  rw [M3.det_mul]
  rcases hm with h | h <;> rcases hn with k | k <;> rw [h, k] <;> decide
theorem M3.det_inv {m : M3} (h : m.U) : m.inv.det = m.det := by
  have e := congrArg M3.det (M3.mul_inv h)
  rw [M3.det_mul, M3.det_one] at e
  rcases h with h | h <;> rw [h] at e ⊢ <;> omega
theorem M3.U_inv {m : M3} (h : m.U) : m.inv.U := by unfold M3.U; rw [M3.det_inv h]; exact h
/-- What undoes from the right is the inverse. -/
theorem M3.inv_unique {m n : M3} (h : m.U) (e : m.mul n = M3.one) : n = m.inv := by
  have := congrArg (M3.mul m.inv) e
  rwa [← M3.mul_assoc, M3.inv_mul h, M3.one_mul, M3.mul_one] at this
theorem M3.inv_inv {m : M3} (h : m.U) : m.inv.inv = m := (M3.inv_unique (M3.U_inv h) (M3.inv_mul h)).symm
theorem M3.cancel_left {m n o : M3} (h : m.U) (e : m.mul n = m.mul o) : n = o := by
  have := congrArg (M3.mul m.inv) e
  rwa [← M3.mul_assoc, ← M3.mul_assoc, M3.inv_mul h, M3.one_mul, M3.one_mul] at this
theorem M3.comm_one {m n : M3} (h : m.U) (e : m.mul n = M3.one) : n.mul m = M3.one := by
  rw [M3.inv_unique h e, M3.inv_mul h]

theorem M3.app_mul (m n : M3) (v : V3) : (m.mul n).app v = m.app (n.app v) := by
  refine V3.ext' ⟨?_, ?_, ?_⟩ <;> (simp only [M3.mul, M3.app]; grind)
theorem M3.app_one (v : V3) : M3.one.app v = v := by
  refine V3.ext' ⟨?_, ?_, ?_⟩ <;> (simp only [M3.app, M3.one]; omega)
theorem M3.app_add (m : M3) (u v : V3) : m.app (u.add v) = (m.app u).add (m.app v) := by
  refine V3.ext' ⟨?_, ?_, ?_⟩ <;> (simp only [M3.app, V3.add]; grind)
theorem M3.app_neg (m : M3) (u : V3) : m.app u.neg = (m.app u).neg := by
  refine V3.ext' ⟨?_, ?_, ?_⟩ <;> (simp only [M3.app, V3.neg]; grind)

def M3.pow (m : M3) : Nat → M3
  | 0 => M3.one
  | n + 1 => m.mul (m.pow n)
theorem M3.pow_one (m : M3) : m.pow 1 = m := M3.mul_one m
theorem M3.pow_add (m : M3) (k : Nat) : ∀ n, m.pow (n + k) = (m.pow n).mul (m.pow k)
  | 0 => by rw [Nat.zero_add]; exact (M3.one_mul _).symm
  | n + 1 => by rw [show n + 1 + k = (n + k) + 1 by omega]; simp only [M3.pow]; rw [M3.pow_add m k n, M3.mul_assoc]
theorem M3.U_pow {m : M3} (h : m.U) : ∀ n, (m.pow n).U
  | 0 => M3.U_one
  | n + 1 => M3.U_mul h (M3.U_pow h n)

/-- Powers: a power is the identity just where it is so a multiple of the least one. -/
def M3.IsOrd (m : M3) (n : Nat) : Prop := 0 < n ∧ m.pow n = M3.one ∧ ∀ k, 0 < k → k < n → m.pow k ≠ M3.one
theorem M3.pow_mul_one {m : M3} {n : Nat} (h : m.pow n = M3.one) : ∀ k, m.pow (n * k) = M3.one
  | 0 => rfl
  | k + 1 => by rw [Nat.mul_succ, M3.pow_add, M3.pow_mul_one h k, h]; exact M3.one_mul _
theorem M3.IsOrd.dvd {m : M3} {n : Nat} (h : m.IsOrd n) (k : Nat) : m.pow k = M3.one ↔ n ∣ k := by
  constructor
  · intro hk
    have e : k = n * (k / n) + k % n := (Nat.div_add_mod k n).symm
    rw [e, M3.pow_add, M3.pow_mul_one h.2.1, M3.one_mul] at hk
    have hlt := Nat.mod_lt k h.1
    rcases Nat.eq_zero_or_pos (k % n) with h0 | h0
    · exact Nat.dvd_of_mod_eq_zero h0
    · exact absurd hk (h.2.2 _ h0 hlt)
  · rintro ⟨q, rfl⟩; exact M3.pow_mul_one h.2.1 q
theorem M3.IsOrd.unique {m : M3} {n k : Nat} (h : m.IsOrd n) (g : m.IsOrd k) : n = k := Nat.dvd_antisymm ((h.dvd k).1 g.2.1) ((g.dvd n).1 h.2.1)
/-- The least power is the first of 1, 2, 3, 4, 6 that is the identity. -/
theorem M3.ord1 {m : M3} (h : m = M3.one) : m.IsOrd 1 := ⟨by omega, by rw [M3.pow_one]; exact h, fun k h1 h2 => by omega⟩
theorem M3.ord2 {m : M3} (h1 : m ≠ M3.one) (h2 : m.pow 2 = M3.one) : m.IsOrd 2 := by
  refine ⟨by omega, h2, fun k k1 k2 => ?_⟩
  obtain rfl : k = 1 := by omega
  rw [M3.pow_one]; exact h1
theorem M3.ord3 {m : M3} (h1 : m ≠ M3.one) (h3 : m.pow 3 = M3.one) : m.IsOrd 3 := by
  refine ⟨by omega, h3, fun k k1 k2 hk => ?_⟩
  have : k = 1 ∨ k = 2 := by omega
  rcases this with rfl | rfl
  · rw [M3.pow_one] at hk; exact h1 hk
  · rw [show (3 : Nat) = 1 + 2 from rfl, M3.pow_add, hk, M3.mul_one, M3.pow_one] at h3; exact h1 h3
theorem M3.ord4 {m : M3} (h1 : m ≠ M3.one) (h2 : m.pow 2 ≠ M3.one) (h4 : m.pow 4 = M3.one) : m.IsOrd 4 := by
  refine ⟨by omega, h4, fun k k1 k2 hk => ?_⟩
  have : k = 1 ∨ k = 2 ∨ k = 3 := by omega
  rcases this with rfl | rfl | rfl
  · rw [M3.pow_one] at hk; exact h1 hk
  · exact h2 hk
  · rw [show (4 : Nat) = 1 + 3 from rfl, M3.pow_add, hk, M3.mul_one, M3.pow_one] at h4; exact h1 h4
theorem M3.ord6 {m : M3} (h1 : m ≠ M3.one) (h2 : m.pow 2 ≠ M3.one) (h3 : m.pow 3 ≠ M3.one) (h6 : m.pow 6 = M3.one) : m.IsOrd 6 := by
  refine ⟨by omega, h6, fun k k1 k2 hk => ?_⟩
  have : k = 1 ∨ k = 2 ∨ k = 3 ∨ k = 4 ∨ k = 5 := by omega
  rcases this with rfl | rfl | rfl | rfl | rfl
  · rw [M3.pow_one] at hk; exact h1 hk
  · exact h2 hk
  · exact h3 hk
  · rw [show (6 : Nat) = 2 + 4 from rfl, M3.pow_add, hk, M3.mul_one] at h6; exact h2 h6
  · rw [show (6 : Nat) = 1 + 5 from rfl, M3.pow_add, hk, M3.mul_one, M3.pow_one] at h6; exact h1 h6

/-- Told from elsewhere. -/
theorem M3.conj_pow {m p q : M3} (hpq : q.mul p = M3.one) (hqp : p.mul q = M3.one) : ∀ n, ((p.mul m).mul q).pow n = (p.mul (m.pow n)).mul q
  | 0 => by simp only [M3.pow]; rw [M3.mul_one, hqp]
  | n + 1 => by
    simp only [M3.pow]
    rw [M3.conj_pow hpq hqp n, M3.mul_assoc (p.mul m) q, ← M3.mul_assoc q, ← M3.mul_assoc q p, hpq, M3.one_mul, M3.mul_assoc p m, ← M3.mul_assoc m, ← M3.mul_assoc p, ← M3.mul_assoc p]
theorem M3.conj_one {m p q : M3} (hpq : q.mul p = M3.one) (hqp : p.mul q = M3.one) : (p.mul m).mul q = M3.one ↔ m = M3.one := by
  constructor
  · intro h
    have := congrArg (fun x => (q.mul x).mul p) h
    rw [M3.mul_one, hpq, ← M3.mul_assoc, ← M3.mul_assoc, hpq, M3.one_mul, M3.mul_assoc, hpq, M3.mul_one] at this
    exact this
  · rintro rfl; rw [M3.mul_one, hqp]
theorem M3.conj_ord {m p q : M3} (hpq : q.mul p = M3.one) (hqp : p.mul q = M3.one) {n : Nat} (h : m.IsOrd n) : ((p.mul m).mul q).IsOrd n := by
  refine ⟨h.1, ?_, fun k k1 k2 => ?_⟩
  · rw [M3.conj_pow hpq hqp, M3.conj_one hpq hqp]; exact h.2.1
  · rw [M3.conj_pow hpq hqp, Ne, M3.conj_one hpq hqp]; exact h.2.2 k k1 k2
/-- Undone. -/
theorem M3.pow_comm (m : M3) : ∀ n, (m.pow n).mul m = m.mul (m.pow n)
  | 0 => by simp only [M3.pow]; rw [M3.one_mul, M3.mul_one]
  | n + 1 => by simp only [M3.pow]; rw [M3.mul_assoc, M3.pow_comm m n]
theorem M3.inv_pow {m : M3} (h : m.U) : ∀ n, (m.pow n).mul (m.inv.pow n) = M3.one
  | 0 => M3.one_mul _
  | n + 1 => by
    have e : m.pow (n + 1) = (m.pow n).mul m := (M3.pow_comm m n).symm
    rw [e]
    simp only [M3.pow]
    rw [M3.mul_assoc, ← M3.mul_assoc m, M3.mul_inv h, M3.one_mul, M3.inv_pow h n]
theorem M3.inv_ord {m : M3} (h : m.U) {n : Nat} (g : m.IsOrd n) : m.inv.IsOrd n := by
  have key : ∀ k, m.inv.pow k = M3.one ↔ m.pow k = M3.one := fun k => by
    have e := M3.inv_pow h k
    constructor
    · intro hk; rwa [hk, M3.mul_one] at e
    · intro hk; rwa [hk, M3.one_mul] at e
  exact ⟨g.1, (key n).2 g.2.1, fun k k1 k2 hk => g.2.2 k k1 k2 ((key k).1 hk)⟩
end Go.Proofs.Ytjhijkdicmbbiaa.Vx


namespace Go.Proofs.Ytjhijkdicmbbiaa.Vx
open Go

def eq3 (a b c d e f : Int) : Bool := (a == d) && ((b == e) && ((c == f) && true))
def eq9 (a b c d e f g h i j k l m n o p q r : Int) : Bool := eq3 a b c j k l && (eq3 d e f m n o && (eq3 g h i p q r && true))

/-- within (43): three numbers against a bound. -/
def withinT (a b c n : Int) : List (Bool × List Int) :=
  [(decide (a < W (0 - n)), [4]), (decide (a > n), [4]), (decide (b < W (0 - n)), [4]), (decide (b > n), [4]), (decide (c < W (0 - n)), [4]), (decide (c > n), [4])]
def withinR (a b c n : Int) : Int := nth (chainL (withinT a b c n) [0]) 0
def F43 : List Int → Option Value
  | [a, b, c, n] => some (mk1 (chainL (withinT a b c n) [0]))
  | _ => none

/-- Check (24). -/
def checkT (a b c d e f g h i : Int) : List (Bool × List Int) :=
  [(withinR a b c 1000 != 0, [withinR a b c 1000]), (withinR d e f 1000 != 0, [withinR d e f 1000]), (withinR g h i 1000 != 0, [withinR g h i 1000])]
def chk (a b c d e f g h i : Int) : Int := nth (chainL (checkT a b c d e f g h i) [0]) 0
def F24 : List Int → Option Value
  | [a, b, c, d, e, f, g, h, i] => some (mk1 (chainL (checkT a b c d e f g h i) [0]))
  | _ => none

/-- checkBoth (38). -/
def bothT (a b c d e f g h i : Int) : List (Bool × List Int) := [(chk a b c d e f g h i != 0, [chk a b c d e f g h i])]
def both (a b c d e f g h i x y z : Int) : Int := nth (chainL (bothT a b c d e f g h i) [withinR x y z 2147483648]) 0
def F38 : List Int → Option Value
  | [a, b, c, d, e, f, g, h, i, x, y, z] => some (mk1 (chainL (bothT a b c d e f g h i) [withinR x y z 2147483648]))
  | _ => none

def dotR (a b c d e f : Int) : Int := W (W (W (a * d) + W (b * e)) + W (c * f))
def prodL (a b c d e f g h i j k l m n o p q r : Int) : List Int :=
  [dotR a b c j m p, dotR a b c k n q, dotR a b c l o r, dotR d e f j m p, dotR d e f k n q, dotR d e f l o r, dotR g h i j m p, dotR g h i k n q, dotR g h i l o r]

/-- Mul (10). -/
def mulT (a b c d e f g h i j k l m n o p q r : Int) : List (Bool × List Int) :=
  [(chk a b c d e f g h i != 0, [0, 0, 0, 0, 0, 0, 0, 0, 0, chk a b c d e f g h i]), (chk j k l m n o p q r != 0, [0, 0, 0, 0, 0, 0, 0, 0, 0, chk j k l m n o p q r])]
def mulD (a b c d e f g h i j k l m n o p q r : Int) : List Int := prodL a b c d e f g h i j k l m n o p q r ++ [0]
def mulR (a b c d e f g h i j k l m n o p q r : Int) : List Int := chainL (mulT a b c d e f g h i j k l m n o p q r) (mulD a b c d e f g h i j k l m n o p q r)
def F10 : List Int → Option Value
  | [a, b, c, d, e, f, g, h, i, j, k, l, m, n, o, p, q, r] => some (mkMe (mulR a b c d e f g h i j k l m n o p q r))
  | _ => none

/-- Apply (11), Left (12). -/
def applyT (a b c d e f g h i x y z : Int) : List (Bool × List Int) := [(both a b c d e f g h i x y z != 0, [0, 0, 0, both a b c d e f g h i x y z])]
def applyD (a b c d e f g h i x y z : Int) : List Int := [dotR a b c x y z, dotR d e f x y z, dotR g h i x y z, 0]
def leftD (a b c d e f g h i x y z : Int) : List Int := [dotR x y z a d g, dotR x y z b e h, dotR x y z c f i, 0]
def applyR (a b c d e f g h i x y z : Int) : List Int := chainL (applyT a b c d e f g h i x y z) (applyD a b c d e f g h i x y z)
def leftR (a b c d e f g h i x y z : Int) : List Int := chainL (applyT a b c d e f g h i x y z) (leftD a b c d e f g h i x y z)
def F11 : List Int → Option Value
  | [a, b, c, d, e, f, g, h, i, x, y, z] => some (mkVe (applyR a b c d e f g h i x y z))
  | _ => none
def F12 : List Int → Option Value
  | [x, y, z, a, b, c, d, e, f, g, h, i] => some (mkVe (leftR a b c d e f g h i x y z))
  | _ => none

/-- The document's Mat (13) and Column (15). -/
def rangeT (n : Int) : List Int → List (Bool × List Int)
  | [] => []
  | a :: l => (decide (a < -n), [4]) :: (decide (a > n), [4]) :: rangeT n l
def matR (a b c d e f g h i : Int) : Int := nth (chainL (rangeT 1000 [a, b, c, d, e, f, g, h, i]) [0]) 0
def colR (x y z : Int) : Int := nth (chainL (rangeT 2147483648 [x, y, z]) [0]) 0
def F13 : List Int → Option Value
  | [a, b, c, d, e, f, g, h, i] => some (mk1 (chainL (rangeT 1000 [a, b, c, d, e, f, g, h, i]) [0]))
  | _ => none
def F15 : List Int → Option Value
  | [x, y, z] => some (mk1 (chainL (rangeT 2147483648 [x, y, z]) [0]))
  | _ => none

/-- Transpose (20), Det (21), Trace (22), Adjugate (23). -/
def err9T (a b c d e f g h i : Int) : List (Bool × List Int) := [(chk a b c d e f g h i != 0, [0, 0, 0, 0, 0, 0, 0, 0, 0, chk a b c d e f g h i])]
def err1T (a b c d e f g h i : Int) : List (Bool × List Int) := [(chk a b c d e f g h i != 0, [0, chk a b c d e f g h i])]
def minR (a b c d : Int) : Int := W (W (a * b) - W (c * d))
def detR (a b c d e f g h i : Int) : Int := W (W (W (a * minR e i f h) + W (b * minR f g d i)) + W (c * minR d h e g))
def cofL (a b c d e f g h i : Int) : List Int := [minR e i f h, minR h c i b, minR b f c e, minR f g d i, minR i a g c, minR c d a f, minR d h e g, minR g b h a, minR a e b d]
def transR (a b c d e f g h i : Int) : List Int := chainL (err9T a b c d e f g h i) [a, d, g, b, e, h, c, f, i, 0]
def detE (a b c d e f g h i : Int) : List Int := chainL (err1T a b c d e f g h i) [detR a b c d e f g h i, 0]
def traceE (a b c d e f g h i : Int) : List Int := chainL (err1T a b c d e f g h i) [W (W (a + e) + i), 0]
def adjE (a b c d e f g h i : Int) : List Int := chainL (err9T a b c d e f g h i) (cofL a b c d e f g h i ++ [0])
def F20 : List Int → Option Value
  | [a, b, c, d, e, f, g, h, i] => some (mkMe (transR a b c d e f g h i))
  | _ => none
def F21 : List Int → Option Value
  | [a, b, c, d, e, f, g, h, i] => some (mkIe (detE a b c d e f g h i))
  | _ => none
def F22 : List Int → Option Value
  | [a, b, c, d, e, f, g, h, i] => some (mkIe (traceE a b c d e f g h i))
  | _ => none
def F23 : List Int → Option Value
  | [a, b, c, d, e, f, g, h, i] => some (mkMe (adjE a b c d e f g h i))
  | _ => none

def F50 : List Int → Option Value
  | [_] => some (.bool false)
  | _ => none
/-- cmp.Compare (47), Compare (33), the document's (34). -/
def cmpT (a b : Int) : List (Bool × List Int) := [(decide (a < b), [-1]), (decide (a > b), [1])]
def cmpR (a b : Int) : Int := nth (chainL (cmpT a b) [0]) 0
def F47 : List Int → Option Value
  | [a, b] => some (mk1 (chainL (cmpT a b) [0]))
  | _ => none
def compT : List Int → List Int → List (Bool × List Int)
  | a :: l, b :: m => (cmpR a b != 0, [cmpR a b]) :: compT l m
  | _, _ => []
def compR (l m : List Int) : Int := nth (chainL (compT l m) [0]) 0
def dcompT : List Int → List Int → List (Bool × List Int)
  | a :: l, b :: m => (decide (a < b), [-1]) :: (decide (a > b), [1]) :: dcompT l m
  | _, _ => []
def dcompR (l m : List Int) : Int := nth (chainL (dcompT l m) [0]) 0
def F33 : List Int → Option Value
  | [a, b, c, d, e, f, g, h, i, j, k, l, m, n, o, p, q, r] => some (mk1 (chainL (compT [a, b, c, d, e, f, g, h, i] [j, k, l, m, n, o, p, q, r]) [0]))
  | _ => none
def F34 : List Int → Option Value
  | [a, b, c, d, e, f, g, h, i, j, k, l, m, n, o, p, q, r] => some (mk1 (chainL (dcompT [a, b, c, d, e, f, g, h, i] [j, k, l, m, n, o, p, q, r]) [0]))
  | _ => none

def F9 : List Int → Option Value
  | [] => some (.bool true)
  | _ => none

def zeros9 (e : Int) : List Int := [0, 0, 0, 0, 0, 0, 0, 0, 0, e]
/-- Inverse (29). -/
def invL (a b c d e f g h i : Int) : List Int :=
  [W (minR e i f h * detR a b c d e f g h i), W (minR h c i b * detR a b c d e f g h i), W (minR b f c e * detR a b c d e f g h i), W (minR f g d i * detR a b c d e f g h i), W (minR i a g c * detR a b c d e f g h i), W (minR c d a f * detR a b c d e f g h i), W (minR d h e g * detR a b c d e f g h i), W (minR g b h a * detR a b c d e f g h i), W (minR a e b d * detR a b c d e f g h i)]
def invE (a b c d e f g h i : Int) : List Int :=
  chainL [(chk a b c d e f g h i != 0, zeros9 (chk a b c d e f g h i)), (detR a b c d e f g h i != 1 && detR a b c d e f g h i != -1, zeros9 3)] (invL a b c d e f g h i ++ [0])
def invO (a b c d e f g h i : Int) : Option Value :=
  match chk a b c d e f g h i != 0 with
  | true => some (mkMe (zeros9 (chk a b c d e f g h i)))
  | false => match detR a b c d e f g h i != 1 with
    | true => match detR a b c d e f g h i != -1 with
      | true => some (mkMe (zeros9 3))
      | false => some (mkMe (invL a b c d e f g h i ++ [0]))
    | false => some (mkMe (invL a b c d e f g h i ++ [0]))
theorem invO_eq (a b c d e f g h i : Int) : invO a b c d e f g h i = some (mkMe (invE a b c d e f g h i)) := by
  unfold invO invE
  cases chk a b c d e f g h i != 0 <;> cases detR a b c d e f g h i != 1 <;> cases detR a b c d e f g h i != -1 <;> rfl
def F29 : List Int → Option Value
  | [a, b, c, d, e, f, g, h, i] => some (mkMe (invE a b c d e f g h i))
  | _ => none

/-- Functions of rows of nine numbers (and an error's behind them). -/
def mulL (x y : List Int) : List Int := mulR (nth x 0) (nth x 1) (nth x 2) (nth x 3) (nth x 4) (nth x 5) (nth x 6) (nth x 7) (nth x 8) (nth y 0) (nth y 1) (nth y 2) (nth y 3) (nth y 4) (nth y 5) (nth y 6) (nth y 7) (nth y 8)
def prodM (x y : List Int) : List Int := prodL (nth x 0) (nth x 1) (nth x 2) (nth x 3) (nth x 4) (nth x 5) (nth x 6) (nth x 7) (nth x 8) (nth y 0) (nth y 1) (nth y 2) (nth y 3) (nth y 4) (nth y 5) (nth y 6) (nth y 7) (nth y 8)
def eqM (x y : List Int) : Bool := eq9 (nth x 0) (nth x 1) (nth x 2) (nth x 3) (nth x 4) (nth x 5) (nth x 6) (nth x 7) (nth x 8) (nth y 0) (nth y 1) (nth y 2) (nth y 3) (nth y 4) (nth y 5) (nth y 6) (nth y 7) (nth y 8)
def applyL (x v : List Int) : List Int := applyR (nth x 0) (nth x 1) (nth x 2) (nth x 3) (nth x 4) (nth x 5) (nth x 6) (nth x 7) (nth x 8) (nth v 0) (nth v 1) (nth v 2)
def leftL (v x : List Int) : List Int := leftR (nth x 0) (nth x 1) (nth x 2) (nth x 3) (nth x 4) (nth x 5) (nth x 6) (nth x 7) (nth x 8) (nth v 0) (nth v 1) (nth v 2)
def detM (x : List Int) : List Int := detE (nth x 0) (nth x 1) (nth x 2) (nth x 3) (nth x 4) (nth x 5) (nth x 6) (nth x 7) (nth x 8)
def traceM (x : List Int) : List Int := traceE (nth x 0) (nth x 1) (nth x 2) (nth x 3) (nth x 4) (nth x 5) (nth x 6) (nth x 7) (nth x 8)
def transM (x : List Int) : List Int := transR (nth x 0) (nth x 1) (nth x 2) (nth x 3) (nth x 4) (nth x 5) (nth x 6) (nth x 7) (nth x 8)
def adjM (x : List Int) : List Int := adjE (nth x 0) (nth x 1) (nth x 2) (nth x 3) (nth x 4) (nth x 5) (nth x 6) (nth x 7) (nth x 8)
def invM (x : List Int) : List Int := invE (nth x 0) (nth x 1) (nth x 2) (nth x 3) (nth x 4) (nth x 5) (nth x 6) (nth x 7) (nth x 8)
def eqV3 (x y : List Int) : Bool := eq3 (nth x 0) (nth x 1) (nth x 2) (nth y 0) (nth y 1) (nth y 2)
def one9 : List Int := [1, 0, 0, 0, 1, 0, 0, 0, 1]

/-- Order (31). -/
def orderT (a b c d e f g h i : Int) : List (Bool × List Int) :=
  [(nth (invE a b c d e f g h i) 9 != 0, [0, nth (invE a b c d e f g h i) 9]),
   (eqM [a, b, c, d, e, f, g, h, i] one9, [1, 0]),
   (eqM [a, b, c, d, e, f, g, h, i] (invE a b c d e f g h i), [2, 0]),
   (eqM (prodM [a, b, c, d, e, f, g, h, i] [a, b, c, d, e, f, g, h, i]) (invE a b c d e f g h i), [3, 0]),
   (eqM (prodM [a, b, c, d, e, f, g, h, i] [a, b, c, d, e, f, g, h, i]) (prodM (invE a b c d e f g h i) (invE a b c d e f g h i)), [4, 0]),
   (eqM (prodM (prodM [a, b, c, d, e, f, g, h, i] [a, b, c, d, e, f, g, h, i]) (prodM [a, b, c, d, e, f, g, h, i] [a, b, c, d, e, f, g, h, i])) (prodM (invE a b c d e f g h i) (invE a b c d e f g h i)), [6, 0])]
def orderR (a b c d e f g h i : Int) : List Int := chainL (orderT a b c d e f g h i) [0, 9]
def orderM (x : List Int) : List Int := orderR (nth x 0) (nth x 1) (nth x 2) (nth x 3) (nth x 4) (nth x 5) (nth x 6) (nth x 7) (nth x 8)
def F31 : List Int → Option Value
  | [a, b, c, d, e, f, g, h, i] => some (mkIe (orderR a b c d e f g h i))
  | _ => none

/-- The document's Form (44) and DocInverse (30). -/
def rdet (a b c d e f g h i : Int) : Int :=
  W (W (W (0 + W (W (W (a * e) * i) - W (W (a * f) * h))) + W (W (W (b * f) * g) - W (W (b * d) * i))) + W (W (W (c * d) * h) - W (W (c * e) * g)))
def formR (a b c d e f g h i : Int) : Int := nth (chainL [(matR a b c d e f g h i != 0, [4]), (rdet a b c d e f g h i != 1 && rdet a b c d e f g h i != -1, [3])] [0]) 0
def formO (a b c d e f g h i : Int) : Option Value :=
  match matR a b c d e f g h i != 0 with
  | true => some (.int .i64 4)
  | false => match rdet a b c d e f g h i != 1 with
    | true => match rdet a b c d e f g h i != -1 with
      | true => some (.int .i64 3)
      | false => some (.int .i64 0)
    | false => some (.int .i64 0)
def F44 : List Int → Option Value
  | [a, b, c, d, e, f, g, h, i] => some (.int .i64 (formR a b c d e f g h i))
  | _ => none
theorem formO_eq (a b c d e f g h i : Int) : formO a b c d e f g h i = some (.int .i64 (formR a b c d e f g h i)) := by
  unfold formO formR
  cases matR a b c d e f g h i != 0 <;> cases rdet a b c d e f g h i != 1 <;> cases rdet a b c d e f g h i != -1 <;> rfl
def rinvL (a b c d e f g h i : Int) : List Int :=
  [W (minR e i f h * rdet a b c d e f g h i), W (minR h c i b * rdet a b c d e f g h i), W (minR b f c e * rdet a b c d e f g h i), W (minR f g d i * rdet a b c d e f g h i), W (minR i a g c * rdet a b c d e f g h i), W (minR c d a f * rdet a b c d e f g h i), W (minR d h e g * rdet a b c d e f g h i), W (minR g b h a * rdet a b c d e f g h i), W (minR a e b d * rdet a b c d e f g h i)]
def F30 : List Int → Option Value
  | [a, b, c, d, e, f, g, h, i] => some (mkMe (chainL [(formR a b c d e f g h i != 0, zeros9 (formR a b c d e f g h i))] (rinvL a b c d e f g h i ++ [0])))
  | _ => none

end Go.Proofs.Ytjhijkdicmbbiaa.Vx


namespace Go.Proofs.Ytjhijkdicmbbiaa.Vx
open Go

/-- The first test that holds answers false. -/
def guardF : List Bool → Option Value → Option Value
  | [], k => k
  | t :: ts, k => match t with
    | true => some (.bool false)
    | false => guardF ts k
/-- All of these. -/
def andO : List Bool → Option Value
  | [] => some (.bool true)
  | [b] => some (.bool b)
  | b :: bs => match b with
    | true => andO bs
    | false => some (.bool false)
/-- One of these. -/
def orB : List Bool → Option Value → Option Value → Option Value
  | [], _, e => e
  | t :: ts, a, e => match t with
    | true => a
    | false => orB ts a e

theorem guardF_eq : ∀ (ts : List Bool) (k : Option Value), (∀ t ∈ ts, t = false) → guardF ts k = k
  | [], _, _ => rfl
  | t :: ts, k, h => by
    have := h t (by simp)
    subst this
    exact guardF_eq ts k fun u hu => h u (by simp [hu])
theorem andO_eq : ∀ (ts : List Bool), (∀ t ∈ ts, t = true) → andO ts = some (.bool true)
  | [], _ => rfl
  | [b], h => by have := h b (by simp); subst this; rfl
  | b :: c :: bs, h => by
    have := h b (by simp)
    subst this
    exact andO_eq (c :: bs) fun u hu => h u (by simp [hu])

def inB (n : Int) (l : List Int) : Bool := l.all fun x => decide (-n ≤ x) && decide (x ≤ n)

theorem range_eq (n : Int) : ∀ (l : List Int), nth (chainL (rangeT n l) [0]) 0 = bif inB n l then 0 else 4
  | [] => rfl
  | a :: l => by
    have ih := range_eq n l
    unfold inB at ih ⊢
    simp only [rangeT, List.all_cons]
    by_cases h1 : a < -n
    · have : decide (-n ≤ a) = false := by simp; omega
      simp [chainL, h1, this, nth]
    · by_cases h2 : a > n
      · have : decide (a ≤ n) = false := by simp; omega
        simp [chainL, h1, h2, this, nth]
      · have e1 : decide (-n ≤ a) = true := by simp; omega
        have e2 : decide (a ≤ n) = true := by simp; omega
        simp only [chainL, h1, h2, decide_false, e1, e2, Bool.true_and]
        exact ih

theorem within_eq (a b c n : Int) (h0 : 0 ≤ n) (h1 : n ≤ 9223372036854775807) : withinR a b c n = bif inB n [a, b, c] then 0 else 4 := by
  have : withinT a b c n = rangeT n [a, b, c] := by
    unfold withinT
    rw [show W (0 - n) = -n from by rw [W_id (by omega) (by omega)]; omega]
    rfl
  unfold withinR
  rw [this, range_eq]

theorem mat_eq (a b c d e f g h i : Int) : matR a b c d e f g h i = bif inB 1000 [a, b, c, d, e, f, g, h, i] then 0 else 4 := range_eq 1000 _
theorem col_eq (x y z : Int) : colR x y z = bif inB 2147483648 [x, y, z] then 0 else 4 := range_eq _ _

theorem chk_eq (a b c d e f g h i : Int) : chk a b c d e f g h i = bif inB 1000 [a, b, c, d, e, f, g, h, i] then 0 else 4 := by
  have hs : inB 1000 [a, b, c, d, e, f, g, h, i] = (inB 1000 [a, b, c] && (inB 1000 [d, e, f] && inB 1000 [g, h, i])) := by
    unfold inB; simp only [List.all_cons, List.all_nil, Bool.and_true]
    simp only [Bool.and_assoc]
  rw [hs]
  unfold chk checkT
  rw [within_eq a b c 1000 (by omega) (by omega), within_eq d e f 1000 (by omega) (by omega), within_eq g h i 1000 (by omega) (by omega)]
  cases inB 1000 [a, b, c] <;> cases inB 1000 [d, e, f] <;> cases inB 1000 [g, h, i] <;> rfl

theorem both_eq (a b c d e f g h i x y z : Int) : both a b c d e f g h i x y z = bif inB 1000 [a, b, c, d, e, f, g, h, i] && inB 2147483648 [x, y, z] then 0 else 4 := by
  unfold both bothT
  rw [chk_eq, within_eq x y z 2147483648 (by omega) (by omega)]
  cases inB 1000 [a, b, c, d, e, f, g, h, i] <;> cases inB 2147483648 [x, y, z] <;> rfl


theorem mulR_eq (a b c d e f g h i j k l m n o p q r : Int) : mulR a b c d e f g h i j k l m n o p q r = bif inB 1000 [a, b, c, d, e, f, g, h, i] && inB 1000 [j, k, l, m, n, o, p, q, r] then mulD a b c d e f g h i j k l m n o p q r else zeros9 4 := by
  unfold mulR mulT
  rw [chk_eq, chk_eq]
  cases inB 1000 [a, b, c, d, e, f, g, h, i] <;> cases inB 1000 [j, k, l, m, n, o, p, q, r] <;> rfl
theorem applyR_eq (a b c d e f g h i x y z : Int) : applyR a b c d e f g h i x y z = bif inB 1000 [a, b, c, d, e, f, g, h, i] && inB 2147483648 [x, y, z] then applyD a b c d e f g h i x y z else [0, 0, 0, 4] := by
  unfold applyR applyT
  rw [both_eq]
  cases inB 1000 [a, b, c, d, e, f, g, h, i] <;> cases inB 2147483648 [x, y, z] <;> rfl
theorem leftR_eq (a b c d e f g h i x y z : Int) : leftR a b c d e f g h i x y z = bif inB 1000 [a, b, c, d, e, f, g, h, i] && inB 2147483648 [x, y, z] then leftD a b c d e f g h i x y z else [0, 0, 0, 4] := by
  unfold leftR applyT
  rw [both_eq]
  cases inB 1000 [a, b, c, d, e, f, g, h, i] <;> cases inB 2147483648 [x, y, z] <;> rfl
theorem transR_eq (a b c d e f g h i : Int) : transR a b c d e f g h i = bif inB 1000 [a, b, c, d, e, f, g, h, i] then [a, d, g, b, e, h, c, f, i, 0] else zeros9 4 := by
  unfold transR err9T
  rw [chk_eq]
  cases inB 1000 [a, b, c, d, e, f, g, h, i] <;> rfl
theorem detE_eq (a b c d e f g h i : Int) : detE a b c d e f g h i = bif inB 1000 [a, b, c, d, e, f, g, h, i] then [detR a b c d e f g h i, 0] else [0, 4] := by
  unfold detE err1T
  rw [chk_eq]
  cases inB 1000 [a, b, c, d, e, f, g, h, i] <;> rfl
theorem traceE_eq (a b c d e f g h i : Int) : traceE a b c d e f g h i = bif inB 1000 [a, b, c, d, e, f, g, h, i] then [W (W (a + e) + i), 0] else [0, 4] := by
  unfold traceE err1T
  rw [chk_eq]
  cases inB 1000 [a, b, c, d, e, f, g, h, i] <;> rfl
theorem adjE_eq (a b c d e f g h i : Int) : adjE a b c d e f g h i = bif inB 1000 [a, b, c, d, e, f, g, h, i] then cofL a b c d e f g h i ++ [0] else zeros9 4 := by
  unfold adjE err9T
  rw [chk_eq]
  cases inB 1000 [a, b, c, d, e, f, g, h, i] <;> rfl

/-! The document's sums. -/
def rdot (a b c d e f : Int) : Int := W (W (W (0 + W (a * d)) + W (b * e)) + W (c * f))
theorem rdot_eq (a b c d e f : Int) : rdot a b c d e f = dotR a b c d e f := by
  unfold rdot dotR
  rw [Int.zero_add, W_W]
def det (a b c d e f g h i : Int) : Int := a * (e * i - f * h) + b * (f * g - d * i) + c * (d * h - e * g)
theorem detR_eq (a b c d e f g h i : Int) : detR a b c d e f g h i = W (det a b c d e f g h i) := by
  unfold detR minR det
  simp only [W_addl, W_addr, W_subl, W_subr, W_mulr]
theorem rdet_eq (a b c d e f g h i : Int) : rdet a b c d e f g h i = W (det a b c d e f g h i) := by
  unfold rdet det
  simp only [W_addl, W_addr, W_subl, W_subr, W_mull, Int.zero_add, W_W]
  congr 1
  grind

theorem eq3_refl (a b c : Int) : eq3 a b c a b c = true := by simp [eq3]
theorem eq9_refl (a b c d e f g h i : Int) : eq9 a b c d e f g h i a b c d e f g h i = true := by simp [eq9, eq3_refl]

end Go.Proofs.Ytjhijkdicmbbiaa.Vx


namespace Go.Proofs.Ytjhijkdicmbbiaa.Vx
open Go

theorem bd_mul {m n x y : Int} (hx : -m ≤ x ∧ x ≤ m) (hy : -n ≤ y ∧ y ≤ n) : -(m * n) ≤ x * y ∧ x * y ≤ m * n := by
  have h1 := Int.mul_nonneg (show 0 ≤ m - x by omega) (show 0 ≤ n + y by omega)
  have h2 := Int.mul_nonneg (show 0 ≤ m + x by omega) (show 0 ≤ n - y by omega)
  have h3 := Int.mul_nonneg (show 0 ≤ m - x by omega) (show 0 ≤ n - y by omega)
  have h4 := Int.mul_nonneg (show 0 ≤ m + x by omega) (show 0 ≤ n + y by omega)
  have e1 : (m - x) * (n + y) + (m + x) * (n - y) = 2 * (m * n) - 2 * (x * y) := by grind
  have e2 : (m - x) * (n - y) + (m + x) * (n + y) = 2 * (m * n) + 2 * (x * y) := by grind
  omega

theorem tmod_bd (x n : Int) (hn : 0 < n) : -(n - 1) ≤ Int.tmod x n ∧ Int.tmod x n ≤ n - 1 := by
  have h1 := Int.tmod_lt_of_pos x hn
  have h2 := Int.tmod_lt_of_pos (-x) hn
  rw [Int.neg_tmod] at h2
  omega

theorem inB_iff {n : Int} {l : List Int} : inB n l = true ↔ ∀ x ∈ l, -n ≤ x ∧ x ≤ n := by
  unfold inB
  simp [List.all_eq_true]

theorem dotR_W (a b c d e f : Int) : dotR a b c d e f = W (a * d + b * e + c * f) := by
  unfold dotR
  simp only [W_addl, W_addr]
theorem minR_W (a b c d : Int) : minR a b c d = W (a * b - c * d) := by
  unfold minR
  simp only [W_subl, W_subr]

theorem dotR_bd {m n a b c d e f : Int} (ha : -m ≤ a ∧ a ≤ m) (hb : -m ≤ b ∧ b ≤ m) (hc : -m ≤ c ∧ c ≤ m) (hd : -n ≤ d ∧ d ≤ n) (he : -n ≤ e ∧ e ≤ n) (hf : -n ≤ f ∧ f ≤ n) (h : 3 * (m * n) ≤ 9223372036854775807) :
    dotR a b c d e f = a * d + b * e + c * f ∧ -(3 * (m * n)) ≤ dotR a b c d e f ∧ dotR a b c d e f ≤ 3 * (m * n) := by
  have h1 := bd_mul ha hd
  have h2 := bd_mul hb he
  have h3 := bd_mul hc hf
  rw [dotR_W]
  have : W (a * d + b * e + c * f) = a * d + b * e + c * f := W_id (by omega) (by omega)
  rw [this]
  exact ⟨rfl, by omega, by omega⟩
theorem minR_bd {m a b c d : Int} (ha : -m ≤ a ∧ a ≤ m) (hb : -m ≤ b ∧ b ≤ m) (hc : -m ≤ c ∧ c ≤ m) (hd : -m ≤ d ∧ d ≤ m) (h : 2 * (m * m) ≤ 9223372036854775807) :
    minR a b c d = a * b - c * d ∧ -(2 * (m * m)) ≤ minR a b c d ∧ minR a b c d ≤ 2 * (m * m) := by
  have h1 := bd_mul ha hb
  have h2 := bd_mul hc hd
  rw [minR_W]
  have : W (a * b - c * d) = a * b - c * d := W_id (by omega) (by omega)
  rw [this]
  exact ⟨rfl, by omega, by omega⟩

theorem inB_mono {m n : Int} (h : m ≤ n) {l : List Int} (hl : inB m l = true) : inB n l = true := by
  rw [inB_iff] at hl ⊢
  intro x hx
  have := hl x hx
  omega

theorem det_mul (a b c d e f g h i j k l m n o p q r : Int) :
    det (a * j + b * m + c * p) (a * k + b * n + c * q) (a * l + b * o + c * r) (d * j + e * m + f * p) (d * k + e * n + f * q) (d * l + e * o + f * r) (g * j + h * m + i * p) (g * k + h * n + i * q) (g * l + h * o + i * r) = det a b c d e f g h i * det j k l m n o p q r := by
  unfold det; grind

theorem W_cadd {x x' y y' : Int} (h1 : W x = W x') (h2 : W y = W y') : W (x + y) = W (x' + y') := by
  rw [← W_addl, ← W_addr, h1, h2, W_addr, W_addl]
theorem W_csub {x x' y y' : Int} (h1 : W x = W x') (h2 : W y = W y') : W (x - y) = W (x' - y') := by
  rw [← W_subl, ← W_subr, h1, h2, W_subr, W_subl]
theorem W_cmul {x x' y y' : Int} (h1 : W x = W x') (h2 : W y = W y') : W (x * y) = W (x' * y') := by
  rw [← W_mull, ← W_mulr, h1, h2, W_mulr, W_mull]
/-- Entries that wrap to the same have determinants that do. -/
theorem W_det {a b c d e f g h i a' b' c' d' e' f' g' h' i' : Int} (ha : W a = W a') (hb : W b = W b') (hc : W c = W c') (hd : W d = W d') (he : W e = W e') (hf : W f = W f') (hg : W g = W g') (hh : W h = W h') (hi : W i = W i') :
    W (det a b c d e f g h i) = W (det a' b' c' d' e' f' g' h' i') :=
  W_cadd (W_cadd (W_cmul ha (W_csub (W_cmul he hi) (W_cmul hf hh))) (W_cmul hb (W_csub (W_cmul hf hg) (W_cmul hd hi)))) (W_cmul hc (W_csub (W_cmul hd hh) (W_cmul he hg)))

end Go.Proofs.Ytjhijkdicmbbiaa.Vx

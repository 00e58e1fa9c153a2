/-
  What a call that only reads what it is handed does with parts of lists. Nothing here is trusted.
-/
import Derived.Test.YtggdbakgiknogaaKaf
import Derived.Test.YtggdbakgiknogaaKak
import Derived.Test.YtggdbakgiknogaaKaj

namespace Go.Proofs.Ytggdbakgiknogaa.Vx
open Go Go.RowKit

def shiftR (i : Nat) (row : Nat → List Value) : Nat → List Value := match i with
  | 0 => row
  | i + 1 => fun j => row (i + 1 + j)
theorem shiftR_at (i : Nat) (row : Nat → List Value) (j : Nat) : shiftR i row j = row (i + j) := by cases i <;> simp [shiftR]
/-- Rows that can be lent. -/
def rowsAt : Option Blk → Option (Nat × Nat × (Nat → List Value))
  | some (.rows _ true e n row) => some (e, n, row)
  | some (.grow true e n row) => some (e, n, row)
  | _ => none
def sliceAt : Value → Option (Nat × Nat × Nat × Nat)
  | .slice (some a) n e => match a.off, a.spot with
    | 0, some i => some (a.block, i, n, e)
    | _, _ => none
  | _ => none
/-- Each slice that is handed in is a block of its own, which is only read. -/
def lendA (m : Mem) : List Value → Nat → Option (List Value × Mem × Bool)
  | [], _ => some ([], [], true)
  | v :: l, k => match sliceAt v with
    | some (b, i, n, e) => match rowsAt m[b]? with
      | some (e2, n2, row) => match Nat.beq e2 e with
        | true => match lendA m l (k + 1) with
          | some (ags, ms, c) => some (.slice (some ⟨k, 0, some 0⟩) n e :: ags, .rows false true e n (shiftR i row) :: ms, Nat.ble (i + n) n2 && c)
          | none => none
        | false => none
      | none => none
    | none => match plain v with
      | true => match lendA m l k with
        | some (ags, ms, c) => some (v :: ags, ms, c)
        | none => none
      | false => none
theorem sliceAt_spec {v : Value} {b i n e : Nat} (h : sliceAt v = some (b, i, n, e)) : v = .slice (some ⟨b, 0, some i⟩) n e := by
  cases v with
  | slice a n2 e2 =>
    cases a with
    | none => cases h
    | some a =>
      obtain ⟨b2, off, spot⟩ := a
      cases off with
      | succ o => cases h
      | zero =>
        cases spot with
        | none => cases h
        | some j =>
          simp only [sliceAt, Option.some.injEq, Prod.mk.injEq] at h
          obtain ⟨rfl, rfl, rfl, rfl⟩ := h
          rfl
  | _ => cases h
theorem rowsAt_rel {w : World} {r : Ren} {p : Place} {kk : Blk} {e n : Nat} {row : Nat → List Value} (hb : BlkRel w r p kk) (h : rowsAt (some kk) = some (e, n, row)) :
    p.esz = e ∧ p.n = n ∧ (∀ i, i < n → allL plain0 (row i) = true) ∧ ∃ cs T fz, w.heap[p.blk]? = some (.cells cs T fz) ∧ ∀ i, i < n → (row i).length = e ∧ CellsAt r cs (p.off + i * e) (row i) := by
  cases kk with
  | rows own pl e2 n2 row2 =>
    cases pl with
    | false => cases h
    | true =>
      simp only [rowsAt, Option.some.injEq, Prod.mk.injEq] at h
      obtain ⟨rfl, rfl, rfl⟩ := h
      obtain ⟨h1, h2, h0, hp, cs, T, fz, h6, h3, h4, h5⟩ := hb
      exact ⟨h2, h0, hp rfl, cs, T, fz, h3, h5⟩
  | grow pl e2 n2 row2 =>
    cases pl with
    | false => cases h
    | true =>
      simp only [rowsAt, Option.some.injEq, Prod.mk.injEq] at h
      obtain ⟨rfl, rfl, rfl⟩ := h
      obtain ⟨h1, h2, h0, hp, cs, T, fz, h3, h4, h5⟩ := hb
      exact ⟨h2, h0, hp rfl, cs, T, fz, h3, h5⟩
  | _ => cases h
theorem lend_ok {w0 w : World} {keep : Keep} {r : Ren} {m : Mem} (hm : MemRel w0 keep r m w) : ∀ (args : List Value) (k : Nat) {ags : List Value} {ms : Mem} {c : Bool} {args' : List Value}, lendA m args k = some (ags, ms, c) → c = true → RL (R r) args args' →
    ∃ ps : List Place, ps.length = ms.length ∧ (∀ (rl : Ren), (∀ (i : Nat) p, ps[i]? = some p → rl (k + i) = some (some p)) → RL (R rl) ags args') ∧ ∀ (i : Nat) p, ps[i]? = some p → p.own = false ∧ p.room = 0 ∧ (∃ b q, r b = some (some q) ∧ q.blk = p.blk) ∧ ∃ kk, ms[i]? = some kk ∧ ∀ rl : Ren, BlkRel w rl p kk
  | [], k, ags, ms, c, args', h, hc, ha => by
    simp only [lendA, Option.some.injEq, Prod.mk.injEq] at h
    obtain ⟨rfl, rfl, -⟩ := h
    exact ⟨[], rfl, fun _ _ => by cases args' with | nil => trivial | cons => exact ha.elim, fun i p hp => by simp at hp⟩
  | v :: l, k, ags, ms, c, [], h, hc, ha => ha.elim
  | v :: l, k, ags, ms, c, v' :: l', h, hc, ha => by
    simp only [lendA] at h
    split at h
    · rename_i b i n e hv
      have hv := sliceAt_spec hv
      subst hv
      split at h
      · rename_i e2 n2 row hrow
        split at h
        · rename_i he
          have he := Nat.eq_of_beq_eq_true he
          subst he
          split at h
          · rename_i ags1 ms1 c1 hl
            simp only [Option.some.injEq, Prod.mk.injEq] at h
            obtain ⟨rfl, rfl, rfl⟩ := h
            rw [Bool.and_eq_true] at hc
            obtain ⟨ps, h1, h2, h3⟩ := lend_ok hm l (k + 1) hl hc.2 ha.2
            have hle : i + n ≤ n2 := Nat.le_of_ble_eq_true hc.1
            have hv : R0 r (.slice (some ⟨b, 0, some i⟩) n e2) v' := ha.1
            unfold R0 at hv
            simp only at hv
            cases hr : r b with
            | none => rw [hr] at hv; exact hv.elim
            | some q =>
              cases q with
              | none =>
                rw [hm.dead b hr] at hrow
                cases hrow
              | some p =>
                rw [hr] at hv
                simp only at hv
                obtain ⟨cc, rfl, s1, s2, s3, s4, s5⟩ := hv
                obtain ⟨kk, hkb, hrel⟩ := hm.blk b p hr
                rw [hkb] at hrow
                obtain ⟨q1, q2, q3, cs, T, fz, q4, q5⟩ := rowsAt_rel hrel hrow
                refine ⟨⟨p.blk, p.off + i * e2, e2, n, 0, false⟩ :: ps, by simp [h1], fun rl hrl => ⟨?_, h2 rl fun j q hq => ?_⟩, fun j q hq => ?_⟩
                · have := hrl 0 _ rfl
                  simp only [Nat.add_zero] at this
                  have hg : R0 rl (.slice (some ⟨k, 0, some 0⟩) n e2) (.slice (some (p.addr ⟨b, 0, some i⟩)) n cc) := by
                    unfold R0
                    simp only [this]
                    refine ⟨cc, by simp [Place.addr, q1], s1, fun j hj => ?_, fun _ => rfl, fun _ => rfl, fun h => by cases h⟩
                    simp only [Option.some.injEq] at hj
                    subst hj
                    simp
                  exact hg
                · have := hrl (j + 1) q (by simpa using hq)
                  rw [← this]; congr 1; omega
                · cases j with
                  | zero =>
                    simp only [List.getElem?_cons_zero, Option.some.injEq] at hq
                    subst hq
                    refine ⟨rfl, rfl, ⟨b, p, hr, rfl⟩, _, rfl, fun rl => ⟨rfl, rfl, rfl, fun _ j hj => ?_, cs, T, fz, fun _ => rfl, q4, (fun h => by cases h), fun j hj => ?_⟩⟩
                    · rw [shiftR_at]; exact q3 _ (by omega)
                    · rw [shiftR_at]
                      refine ⟨(q5 _ (by omega)).1, fun t u hu => ?_⟩
                      have hpu := allL_iff.1 (q3 (i + j) (by omega)) u (List.mem_of_getElem? hu)
                      obtain ⟨u', g1, g2⟩ := (q5 (i + j) (by omega)).2 t u hu
                      refine ⟨u', ?_, (R0_plain hpu).2 ((R0_plain hpu).1 g2)⟩
                      simp only
                      rw [Nat.add_assoc p.off, ← Nat.add_mul]
                      exact g1
                  | succ j =>
                    simp only [List.getElem?_cons_succ] at hq ⊢
                    exact h3 j q hq
          · cases h
        · cases h
      · cases h
    · split at h
      · rename_i hp
        split at h
        · rename_i ags1 ms1 c1 hl
          simp only [Option.some.injEq, Prod.mk.injEq] at h
          obtain ⟨rfl, rfl, rfl⟩ := h
          obtain ⟨ps, h1, h2, h3⟩ := lend_ok hm l k hl hc ha.2
          exact ⟨ps, h1, fun rl hrl => ⟨(R_plain hp).2 ((R_plain hp).1 ha.1), h2 rl hrl⟩, h3⟩
        · cases h
      · cases h

def ownB : Blk → Bool
  | .cells own _ _ => own
  | .rows own _ _ _ _ => own
  | .view .. => false
  | _ => true
theorem ownB_own {w : World} {r : Ren} {p : Place} {k : Blk} (h : BlkRel w r p k) (ho : ownB k = true) : p.own = true := by
  cases k with
  | cells own e c => simp only [ownB] at ho; rw [h.1, ho]
  | rows own pl e n row => simp only [ownB] at ho; rw [h.1, ho]
  | grow pl e n row => exact h.1
  | view pl e n row => cases ho
  | iter s pos => exact h.1
  | mp u n es => exact h.1
  | no => exact h.elim
  | gone => exact h.elim
/-- What is made beside what is there. -/
theorem MemRel.join {w0 w w' : World} {keep kp : Keep} {r rn : Ren} {m mn : Mem} (hm : MemRel w0 keep r m w) (g : MemRel w kp rn mn w') (hk : ∀ j, keep j → kp j) (ho : ∀ b p, r b = some (some p) → kp p.blk) (hown : allB ownB mn = true) :
    MemRel w0 keep (r.back rn [] m.length) (m ++ mapB (unrB [] m.length) mn) w' ∧ Ext r (r.back rn [] m.length) := by
  have hlo : ∀ {b : Nat}, b < m.length → (r.back rn [] m.length) b = r b := fun {b} hb => by simp [Ren.back, idxN, hb]
  have hhi : ∀ {b : Nat}, ¬ b < m.length → (r.back rn [] m.length) b = rn (b - m.length) := fun {b} hb => by simp [Ren.back, idxN, hb]
  have mlo : ∀ {b : Nat}, b < m.length → (m ++ mapB (unrB [] m.length) mn)[b]? = m[b]? := fun {b} hb => List.getElem?_append_left hb
  have mhi : ∀ {b : Nat}, ¬ b < m.length → (m ++ mapB (unrB [] m.length) mn)[b]? = (mn[b - m.length]?).map (unrB [] m.length) := fun {b} hb => by
    rw [List.getElem?_append_right (by omega), mapB_get]
  have newO : ∀ {b : Nat} {p : Place}, rn b = some (some p) → p.own = true := fun {b p} hb => by
    obtain ⟨k, h1, h2⟩ := g.blk b p hb
    exact ownB_own h2 (allB_iff.1 hown k (List.mem_of_getElem? h1))
  have hext : Ext r (r.back rn [] m.length) := fun b => by
    by_cases hb : b < m.length
    · exact Or.inr (Or.inl (hlo hb))
    · exact Or.inl (hm.none b (Or.inl (List.getElem?_eq_none (by omega))))
  refine ⟨⟨g.os.trans hm.os, g.tape.trans hm.tape, g.output.trans hm.output, Nat.le_trans hm.drawn g.drawn, Nat.le_trans hm.size g.size, hm.klt, fun j hj => (g.kept j (hk j hj)).trans (hm.kept j hj), fun b hb => ?_, fun b hb => ?_, fun b p hb => ?_, fun b p hb hp => ?_, fun b p hb hp hz => ?_, fun b p hb hp hz => ?_, fun b c p q hb hc hp hz => ?_, fun b c p q hb hc hp hq he => ?_⟩, hext⟩
  · by_cases hl : b < m.length
    · rw [hlo hl]; rw [mlo hl] at hb; exact hm.none b hb
    · rw [hhi hl]
      rw [mhi hl] at hb
      refine g.none _ ?_
      cases hx : mn[b - m.length]? with
      | none => exact Or.inl rfl
      | some k =>
        rw [hx] at hb
        simp only [Option.map_some, Option.some.injEq, reduceCtorEq, false_or] at hb
        exact Or.inr (by rw [unrB_no.1 hb])
  · by_cases hl : b < m.length
    · rw [hlo hl] at hb; rw [mlo hl]; exact hm.dead b hb
    · rw [hhi hl] at hb
      rw [mhi hl, g.dead _ hb]
      rfl
  · by_cases hl : b < m.length
    · rw [hlo hl] at hb
      rw [mlo hl]
      obtain ⟨k, h1, h2⟩ := hm.blk b p hb
      exact ⟨k, h1, h2.mono (g.kept _ (ho b p hb)) hext⟩
    · rw [hhi hl] at hb
      rw [mhi hl]
      obtain ⟨k, h1, h2⟩ := g.blk _ p hb
      exact ⟨_, by rw [h1]; rfl, BlkRel_back (r := r) (ks := []) rfl rfl h2⟩
  · by_cases hl : b < m.length
    · rw [hlo hl] at hb; exact hm.own b p hb hp
    · rw [hhi hl] at hb; exact fun hk2 => g.own _ p hb hp (hk _ hk2)
  · by_cases hl : b < m.length
    · rw [hlo hl] at hb; exact hm.read b p hb hp hz
    · rw [hhi hl] at hb; rw [newO hb] at hp; cases hp
  · by_cases hl : b < m.length
    · rw [hlo hl] at hb; exact hm.vw b p hb hp hz
    · rw [hhi hl] at hb; rw [newO hb] at hp; cases hp
  · intro hq he
    by_cases hl : b < m.length
    · rw [hlo hl] at hb
      by_cases hl2 : c < m.length
      · rw [hlo hl2] at hc; rw [mlo hl2]; exact hm.sep b c p q hb hc hp hz hq he
      · rw [hhi hl2] at hc
        exact absurd (he ▸ ho b p hb) (g.own _ q hc hq)
    · rw [hhi hl] at hb; rw [newO hb] at hp; cases hp
  · by_cases hl : b < m.length
    · rw [hlo hl] at hb
      by_cases hl2 : c < m.length
      · rw [hlo hl2] at hc; exact hm.inj b c p q hb hc hp hq he
      · rw [hhi hl2] at hc
        exact absurd (he ▸ ho b p hb) (g.own _ q hc hq)
    · rw [hhi hl] at hb
      by_cases hl2 : c < m.length
      · rw [hlo hl2] at hc
        exact absurd (he ▸ ho c q hc) (g.own _ p hb hp)
      · rw [hhi hl2] at hc
        have := g.inj _ _ p q hb hc hp hq he
        omega

def fromN (k : Nat) : Nat → List Nat
  | 0 => []
  | n + 1 => k :: fromN (k + 1) n
def lendG (S : List Value → Mem → Option (Ans (Value × Mem))) (args : List Value) (m : Mem) : Option (Ans (Value × Mem)) := match lendA m args 0 with
  | some (ags, ms, c) => forceL ags fun ags => forceM ms fun ms => match S ags ms with
    | some ans => some (.br c (ans.bind fun vm => forceN (fromN ms.length (vm.2.length - ms.length)) fun ks => match noDup ks && allB noViewB m with
      | true => forceM (renM ks vm.2 ks) fun mn => match allB ownB mn with
        | true => .out (unrV [] m.length (renV ks vm.1), m ++ mapB (unrB [] m.length) mn)
        | false => .fail
      | false => .fail) .fail)
    | none => none
  | none => none
/-- A call that is lent what it reads: what was there is as it was. -/
theorem lend_call {P : Program} {f : FuncId} {args ags : List Value} {m ms mu : Mem} {c : Bool} {u : Value} (hA : lendA m args 0 = some (ags, ms, c)) (hc : c = true) (hS : MemSem P f ags ms u mu) {w0 : World} {keep : Keep} {r : Ren} {args' : List Value} {w : World} (hargs : RL (R r) args args') (hm : MemRel w0 keep r m w) {Q : Ending → World → Prop}
    (hQ : ∀ v' rs w' (kp : Keep), R rs u v' → MemRel w kp rs mu w' → (∀ j, keep j → kp j) → (∀ b p, r b = some (some p) → kp p.blk) → Q (.returned v') w') : Calls P f args'.toArray w Q := by
  obtain ⟨ps, hl, hR, hB⟩ := lend_ok hm args 0 hA hc hargs
  let rl : Ren := fun i => (ps[i]?).map some
  let K : Nat → Prop := fun j => keep j ∨ ∃ b p, r b = some (some p) ∧ p.blk = j
  let kp : Keep := ⟨K, K, fun _ h => h⟩
  have hrl : ∀ {i : Nat} {p : Place}, rl i = some (some p) → ps[i]? = some p := fun {i p} hi => by
    simp only [rl] at hi
    cases hx : ps[i]? with
    | none => rw [hx] at hi; cases hi
    | some q => rw [hx] at hi; simpa using hi
  have hsm : MemRel w kp rl ms w := by
    refine ⟨rfl, rfl, rfl, Nat.le_refl _, Nat.le_refl _, fun j hj => ?_, fun _ _ => rfl, fun b hb => ?_, fun b hb => ?_, fun b p hb => ?_, fun b p hb hp => ?_, fun b p hb hp hz => ?_, fun b p hb hp hz => ?_, fun b c p q hb hc hp hz => ?_, fun b c p q hb hc hp hq he => ?_⟩
    · rcases hj with hj | ⟨b, p, hb, rfl⟩
      · have := hm.klt j hj; have := hm.size; omega
      · obtain ⟨k, _, hk⟩ := hm.blk b p hb
        exact hk.lt
    · simp only [rl]
      cases hx : ps[b]? with
      | none => rfl
      | some p =>
        obtain ⟨_, _, _, kk, h5, h6⟩ := hB b p hx
        rw [h5] at hb
        rcases hb with hb | hb
        · cases hb
        · simp only [Option.some.injEq] at hb
          subst hb
          exact ((h6 rl) : False).elim
    · simp only [rl] at hb
      cases hx : ps[b]? with
      | none => rw [hx] at hb; cases hb
      | some p => rw [hx] at hb; cases hb
    · obtain ⟨_, _, _, kk, h5, h6⟩ := hB b p (hrl hb)
      exact ⟨kk, h5, h6 rl⟩
    · rw [(hB b p (hrl hb)).1] at hp; cases hp
    · exact Or.inr (hB b p (hrl hb)).2.2.1
    · exact absurd (hB b p (hrl hb)).2.1 hz
    · exact absurd (hB b p (hrl hb)).2.1 hz
    · rw [(hB b p (hrl hb)).1] at hp; cases hp
  refine (hS.2 w kp rl args' w (hR rl fun i p hp => by simp only [Nat.zero_add, rl, hp]; rfl) hsm).mono ?_
  rintro e w' ⟨v', rs, rfl, g1, g2, g3⟩
  exact hQ v' rs w' kp g1 g2 (fun j hj => Or.inl hj) (fun b p hb => Or.inr ⟨b, p, hb, rfl⟩)
theorem lendG_ok {P : Program} {f : FuncId} {S : List Value → Mem → Option (Ans (Value × Mem))} (h : ∀ args m ans v m', S args m = some ans → ans.res = some (v, m') → MemSem P f args m v m') {args : List Value} {m m' : Mem} {ans : Ans (Value × Mem)} {v : Value}
    (ha : lendG S args m = some ans) (hr : ans.res = some (v, m')) : MemSem P f args m v m' := by
  unfold lendG at ha
  split at ha
  rotate_left
  · cases ha
  rename_i ags ms c hA
  rw [forceL_eq, forceM_eq] at ha
  split at ha
  rotate_left
  · cases ha
  rename_i ans0 hS
  simp only [Option.some.injEq] at ha
  subst ha
  rcases Ans.br_some hr with ⟨hc, hr⟩ | ⟨_, hr⟩
  rotate_left
  · simp [Ans.res] at hr
  obtain ⟨⟨u, mu⟩, h1, h2⟩ := Ans.bind_some hr
  simp only at h2
  rw [forceN_eq] at h2
  split at h2
  rotate_left
  · simp [Ans.res] at h2
  rename_i hb
  rw [Bool.and_eq_true] at hb
  rw [forceM_eq] at h2
  split at h2
  rotate_left
  · simp [Ans.res] at h2
  rename_i hown
  simp only [Ans.res, Option.some.injEq, Prod.mk.injEq] at h2
  obtain ⟨rfl, rfl⟩ := h2
  have hS := h _ _ _ _ _ hS h1
  refine ⟨hS.1, fun w0 keep r args' w hargs hm => lend_call hA hc hS hargs hm fun v' rs w' kp g1 g2 k1 k2 => ?_⟩
  obtain ⟨j1, j2⟩ := MemRel.join hm (MemRel_via g2 hb.1) k1 k2 hown
  exact ⟨v', _, rfl, R_back (r := r) (ks := []) rfl rfl (R_via (ks := fromN ms.length (mu.length - ms.length)) g1), j1, j2⟩
def lendF (S : List Value → Mem → Option (Ans (Value × Mem))) (args : List Value) (m : Mem) : Option (Ans (Value × Mem)) := forceM (thaw (killV m)) fun m => lendG S args m
theorem lendF_ok {P : Program} {f : FuncId} {S : List Value → Mem → Option (Ans (Value × Mem))} (h : ∀ args m ans v m', S args m = some ans → ans.res = some (v, m') → MemSem P f args m v m') {args : List Value} {m m' : Mem} {ans : Ans (Value × Mem)} {v : Value}
    (ha : lendF S args m = some ans) (hr : ans.res = some (v, m')) : MemSem P f args m v m' := by
  unfold lendF at ha
  rw [forceM_eq] at ha
  exact (lendG_ok h ha hr).fresh
/-- A function that reads what it is handed, and makes what it answers. -/
def Cx.addE (C : Cx) (f : FuncId) (S : List Value → Mem → Option (Ans (Value × Mem))) : Cx := C.addM f (lendF S)
theorem Cx.addE_ok {C : Cx} (hC : CxOk C) {f : FuncId} {S : List Value → Mem → Option (Ans (Value × Mem))} (h : ∀ args m ans v m', S args m = some ans → ans.res = some (v, m') → MemSem C.P f args m v m') : CxOk (C.addE f S) :=
  Cx.addM_ok hC fun _ _ _ _ _ ha hr => lendF_ok h ha hr
/-- What is told of a function, told where it is lent what it reads. -/
def Cx.lend (C : Cx) (f : FuncId) : Cx := C.addM f (lendF fun args m => C.tbm f args m)
theorem Cx.lend_ok {C : Cx} (hC : CxOk C) (f : FuncId) : CxOk (C.lend f) :=
  Cx.addM_ok hC fun _ _ _ _ _ ha hr => lendF_ok (fun args m ans v m' h hr => hC.tbm f args m ans v m' h hr) ha hr
/-- A call that makes nothing and changes nothing. -/
def lendP (S : List Value → Mem → Option (Ans (Value × Mem))) (args : List Value) (m : Mem) : Option (Ans (Value × Mem)) := match lendA m args 0 with
  | some (ags, ms, c) => forceL ags fun ags => forceM ms fun ms => match S ags ms with
    | some ans => some (.br c (ans.bind fun vm => match plain vm.1 with
      | true => .out (vm.1, m)
      | false => .fail) .fail)
    | none => none
  | none => none
theorem lendP_spec {S : List Value → Mem → Option (Ans (Value × Mem))} {args : List Value} {m m' : Mem} {ans : Ans (Value × Mem)} {v : Value} (ha : lendP S args m = some ans) (hr : ans.res = some (v, m')) :
    m' = m ∧ ∃ ags ms mu a0, lendA m args 0 = some (ags, ms, true) ∧ S ags ms = some a0 ∧ a0.res = some (v, mu) ∧ plain v = true := by
  unfold lendP at ha
  split at ha
  rotate_left
  · cases ha
  rename_i ags ms c hA
  rw [forceL_eq, forceM_eq] at ha
  split at ha
  rotate_left
  · cases ha
  rename_i ans0 hS
  simp only [Option.some.injEq] at ha
  subst ha
  rcases Ans.br_some hr with ⟨hc, hr⟩ | ⟨_, hr⟩
  rotate_left
  · simp [Ans.res] at hr
  obtain ⟨⟨u, mu⟩, h1, h2⟩ := Ans.bind_some hr
  simp only at h2
  split at h2
  · rename_i hp
    simp only [Ans.res, Option.some.injEq, Prod.mk.injEq] at h2
    obtain ⟨rfl, rfl⟩ := h2
    exact ⟨rfl, ags, ms, mu, ans0, by rw [hA, hc], hS, h1, hp⟩
  · simp [Ans.res] at h2
theorem lendP_ok {P : Program} {f : FuncId} {S : List Value → Mem → Option (Ans (Value × Mem))} (h : ∀ args m ans v m', S args m = some ans → ans.res = some (v, m') → MemSem P f args m v m') {args : List Value} {m m' : Mem} {ans : Ans (Value × Mem)} {v : Value}
    (ha : lendP S args m = some ans) (hr : ans.res = some (v, m')) : MemSem P f args m v m' := by
  obtain ⟨rfl, ags, ms, mu, a0, hA, hS, h1, hp⟩ := lendP_spec ha hr
  have hS := h _ _ _ _ _ hS h1
  refine ⟨hS.1, fun w0 keep r args' w hargs hm => lend_call hA rfl hS hargs hm fun v' rs w' kp g1 g2 k1 k2 => ?_⟩
  obtain ⟨j1, j2⟩ := MemRel.join hm (MemRel_via (ks := []) g2 rfl) k1 k2 rfl
  simp only [renM, mapB, List.append_nil] at j1
  exact ⟨v', _, rfl, (R_plain hp).2 ((R_plain hp).1 g1), j1, j2⟩
theorem lendA_set {m : Mem} {q : Nat} {k : Blk} (hq : m[q]? = some .no) : ∀ (args : List Value) (i : Nat) (x : List Value × Mem × Bool), lendA m args i = some x → lendA (m.set q k) args i = some x
  | [], _, _, h => h
  | v :: l, i, x, h => by
    simp only [lendA] at h ⊢
    split at h
    · rename_i b j n e hv
      split at h
      · rename_i e2 n2 row hrow
        have hne : q ≠ b := fun e => by subst e; rw [hq] at hrow; cases hrow
        rw [List.getElem?_set_ne hne, hrow]
        simp only
        split at h
        · rename_i he
          try simp only [he]
          split at h
          · rename_i a1 m1 c1 hl
            rw [lendA_set hq l (i + 1) _ hl]
            exact h
          · cases h
        · cases h
      · cases h
    · split at h
      · rename_i hp
        try simp only [hp]
        split at h
        · rename_i a1 m1 c1 hl
          rw [lendA_set hq l i _ hl]
          exact h
        · cases h
      · cases h
theorem allB_set {p : Blk → Bool} {m : Mem} {q : Nat} {k : Blk} (h : allB p m = true) (hk : p k = true) : allB p (m.set q k) = true := allB_iff.2 fun x hx => by
  rcases List.mem_or_eq_of_mem_set hx with h1 | h1
  · exact allB_iff.1 h x h1
  · rw [h1]; exact hk
theorem lendG_new {S : List Value → Mem → Option (Ans (Value × Mem))} {args : List Value} {m m' : Mem} {ans : Ans (Value × Mem)} {v : Value} (ha : lendG S args m = some ans) (hr : ans.res = some (v, m')) : ∃ new, m' = m ++ new ∧ ∀ (q : Nat) k, noViewB k = true → m[q]? = some .no → ∃ ans', lendG S args (m.set q k) = some ans' ∧ ans'.res = some (v, m.set q k ++ new) := by
  unfold lendG at ha
  split at ha
  rotate_left
  · cases ha
  rename_i ags ms c hA
  rw [forceL_eq, forceM_eq] at ha
  split at ha
  rotate_left
  · cases ha
  rename_i a0 hS
  simp only [Option.some.injEq] at ha
  subst ha
  rcases Ans.br_some hr with ⟨hc, hr⟩ | ⟨_, hr⟩
  rotate_left
  · simp [Ans.res] at hr
  obtain ⟨⟨u, mu⟩, h1, h2⟩ := Ans.bind_some hr
  simp only at h2
  rw [forceN_eq] at h2
  split at h2
  rotate_left
  · simp [Ans.res] at h2
  rename_i hb
  rw [forceM_eq] at h2
  split at h2
  rotate_left
  · simp [Ans.res] at h2
  rename_i hown
  simp only [Ans.res, Option.some.injEq, Prod.mk.injEq] at h2
  obtain ⟨rfl, rfl⟩ := h2
  refine ⟨_, rfl, fun q k hk hq => ?_⟩
  unfold lendG
  rw [lendA_set hq args 0 _ hA]
  simp only [forceL_eq, forceM_eq, forceN_eq, hS]
  refine ⟨_, rfl, ?_⟩
  rw [Bool.and_eq_true] at hb
  subst hc
  simp only [Ans.res]
  rw [Ans.res_bind, h1]
  simp only [Option.bind_some, hb.1, allB_set hb.2 hk, Bool.and_self, hown, List.length_set]
  rfl
theorem lendP_rd {S : List Value → Mem → Option (Ans (Value × Mem))} {args : List Value} {m m' : Mem} {ans : Ans (Value × Mem)} {v : Value} (ha : lendP S args m = some ans) (hr : ans.res = some (v, m')) :
    m' = m ∧ ∀ (q : Nat) k, m[q]? = some .no → ∃ ans', lendP S args (m.set q k) = some ans' ∧ ans'.res = some (v, m.set q k) := by
  obtain ⟨e, ags, ms, mu, a0, hA, hS, h1, hp⟩ := lendP_spec ha hr
  refine ⟨e, fun q k hq => ?_⟩
  unfold lendP
  rw [lendA_set hq args 0 _ hA]
  simp only [forceL_eq, forceM_eq, hS]
  refine ⟨_, rfl, ?_⟩
  simp only [Ans.res]
  rw [Ans.res_bind, h1]
  simp only [Option.bind_some, hp]
  rfl
end Go.Proofs.Ytggdbakgiknogaa.Vx


namespace Go.Proofs.Ytggdbakgiknogaa.Vx
open Go Go.RowKit
/-- One road of a tree; on the others nothing is told. -/
def pickA {α : Type} : List Bool → Ans α → Ans α
  | true :: p, .br b t _ => .br b (pickA p t) .fail
  | false :: p, .br b _ f => .br b .fail (pickA p f)
  | _, x => x
theorem pickA_ok {α : Type} {a : α} : ∀ (p : List Bool) (x : Ans α), (pickA p x).res = some a → x.res = some a
  | [], x, h => by cases x <;> exact h
  | true :: p, .br b t f, h => by
    rcases Ans.br_some h with ⟨hb, h1⟩ | ⟨hb, h1⟩
    · subst hb; exact pickA_ok p t h1
    · simp [Ans.res] at h1
  | false :: p, .br b t f, h => by
    rcases Ans.br_some h with ⟨hb, h1⟩ | ⟨hb, h1⟩
    · simp [Ans.res] at h1
    · subst hb; exact pickA_ok p f h1
  | true :: p, .out a, h => h
  | false :: p, .out a, h => h
  | true :: p, .fail, h => h
  | false :: p, .fail, h => h
/-- No error; yes. -/
def asm1 : Value → Bool × Value
  | .int k e => (e == 0, .int k 0)
  | .bool b => (b, .bool true)
  | v => (true, v)
def asmV : Value → Bool × Value
  | .tuple vs => match vs.toList with
    | [a, b] => ((asm1 b).1, .tuple #[a, (asm1 b).2])
    | [a, b, c] => ((asm1 c).1, .tuple #[a, b, (asm1 c).2])
    | _ => (true, .tuple vs)
  | v => asm1 v
theorem asm1_ok {v : Value} (h : (asm1 v).1 = true) : (asm1 v).2 = v := by
  cases v with
  | int k e => simp only [asm1] at h ⊢; rw [(beq_iff_eq.1 h)]
  | bool b => simp only [asm1] at h ⊢; rw [h]
  | _ => rfl
theorem asmV_ok {v : Value} (h : (asmV v).1 = true) : (asmV v).2 = v := by
  cases v with
  | tuple vs =>
    unfold asmV at h ⊢
    simp only at h ⊢
    split at h
    · rename_i a b he
      rw [asm1_ok h]
      congr 1
      rw [← he]
    · rename_i a b c he
      rw [asm1_ok h]
      congr 1
      rw [← he]
    · rfl
  | int k e => exact asm1_ok (v := .int k e) h
  | bool b => exact asm1_ok (v := .bool b) h
  | _ => rfl
def asmA (x : Ans (Value × Mem)) : Ans (Value × Mem) := x.bind fun vm => .br (asmV vm.1).1 (.out ((asmV vm.1).2, vm.2)) .fail
theorem asmA_ok {x : Ans (Value × Mem)} {v : Value} {m : Mem} (h : (asmA x).res = some (v, m)) : x.res = some (v, m) := by
  obtain ⟨⟨u, mu⟩, h1, h2⟩ := Ans.bind_some h
  rcases Ans.br_some h2 with ⟨hb, h3⟩ | ⟨_, h3⟩
  · simp only [Ans.res, Option.some.injEq, Prod.mk.injEq] at h3
    obtain ⟨rfl, rfl⟩ := h3
    rw [h1, asmV_ok hb]
  · simp [Ans.res] at h3
/-- A function of which one road is wanted, with no error; it is lent what it reads. -/
def Cx.good (C : Cx) (f : FuncId) (p : List Bool) : Cx := C.addM f (lendF fun args m => match C.tbm f args m with
  | some ans => some (asmA (pickA p ans))
  | none => none)
theorem Cx.good_ok {C : Cx} (hC : CxOk C) (f : FuncId) (p : List Bool) : CxOk (C.good f p) :=
  Cx.addM_ok hC fun _ _ _ _ _ ha hr => lendF_ok (fun args m ans v m' h hr => by
    split at h
    · rename_i a0 h0
      simp only [Option.some.injEq] at h
      subst h
      exact hC.tbm f args m a0 v m' h0 (pickA_ok p a0 (asmA_ok hr))
    · cases h) ha hr
/-- The same, with what it answers as it is. -/
def Cx.road (C : Cx) (f : FuncId) (p : List Bool) : Cx := C.addM f (lendF fun args m => match C.tbm f args m with
  | some ans => some (pickA p ans)
  | none => none)
theorem Cx.road_ok {C : Cx} (hC : CxOk C) (f : FuncId) (p : List Bool) : CxOk (C.road f p) :=
  Cx.addM_ok hC fun _ _ _ _ _ ha hr => lendF_ok (fun args m ans v m' h hr => by
    split at h
    · rename_i a0 h0
      simp only [Option.some.injEq] at h
      subst h
      exact hC.tbm f args m a0 v m' h0 (pickA_ok p a0 hr)
    · cases h) ha hr
/-- A function that only looks (1), or that makes something beside what is there (2). -/
def Cx.roadS (C : Cx) (f : FuncId) (p : List Bool) (args : List Value) (m : Mem) : Option (Ans (Value × Mem)) := match C.tbm f args m with
  | some ans => some (pickA p ans)
  | none => none
theorem Cx.roadS_ok {C : Cx} (hC : CxOk C) {f : FuncId} {p : List Bool} (args : List Value) (m : Mem) (ans : Ans (Value × Mem)) (v : Value) (m' : Mem) (h : C.roadS f p args m = some ans) (hr : ans.res = some (v, m')) : MemSem C.P f args m v m' := by
  unfold Cx.roadS at h
  split at h
  · rename_i a0 h0
    simp only [Option.some.injEq] at h
    subst h
    exact hC.tbm f args m a0 v m' h0 (pickA_ok p a0 hr)
  · cases h
def Cx.putRd (C : Cx) (f : FuncId) (z : Nat) (F : List Value → Mem → Option (Ans (Value × Mem))) : Cx := { C with
  tbm := fun g args m => match Nat.beq g f with
    | true => F args m
    | false => C.tbm g args m
  rd := fun g => match Nat.beq g f with
    | true => z
    | false => C.rd g
  inl := fun g => match Nat.beq g f with
    | true => none
    | false => C.inl g }
theorem Cx.putRd_ok {C : Cx} (hC : CxOk C) {f : FuncId} {z : Nat} {F : List Value → Mem → Option (Ans (Value × Mem))} (h0 : ∀ args m ans v m', F args m = some ans → ans.res = some (v, m') → MemSem C.P f args m v m')
    (h1 : z = 1 → ∀ args m ans v m', F args m = some ans → ans.res = some (v, m') → m' = m ∧ ∀ (q : Nat) k, m[q]? = some .no → ∃ ans', F args (m.set q k) = some ans' ∧ ans'.res = some (v, m.set q k))
    (h2 : z = 2 → ∀ args m ans v m', F args m = some ans → ans.res = some (v, m') → ∃ new, m' = m ++ new ∧ ∀ (q : Nat) k, noViewB k = true → m[q]? = some .no → ∃ ans', F args (m.set q k) = some ans' ∧ ans'.res = some (v, m.set q k ++ new)) : CxOk (C.putRd f z F) := by
  refine ⟨hC.mixed, hC.tbl, ?_, hC.keys, fun g fn hg => ?_, hC.lp, ?_, ?_⟩
  rotate_left
  · simp only [Cx.putRd] at hg
    cases hb : Nat.beq g f with
    | true => simp only [hb] at hg; cases hg
    | false => simp only [hb] at hg; exact hC.inl g fn hg
  rotate_right
  · intro g args m ans v m' ha hr
    simp only [Cx.putRd] at ha
    cases hg : Nat.beq g f with
    | false => simp only [hg] at ha; exact hC.tbm g args m ans v m' ha hr
    | true =>
      have hgf := Nat.eq_of_beq_eq_true hg
      subst hgf
      simp only [hg] at ha
      exact h0 args m ans v m' ha hr
  · intro g hg args m ans v m' ha hr
    simp only [Cx.putRd] at hg ha ⊢
    cases hb : Nat.beq g f with
    | false => simp only [hb] at hg ha ⊢; exact hC.rd g hg args m ans v m' ha hr
    | true => simp only [hb] at hg ha ⊢; exact h1 hg args m ans v m' ha hr
  · intro g hg args m ans v m' ha hr
    simp only [Cx.putRd] at hg ha ⊢
    cases hb : Nat.beq g f with
    | false => simp only [hb] at hg ha ⊢; exact hC.rd2 g hg args m ans v m' ha hr
    | true => simp only [hb] at hg ha ⊢; exact h2 hg args m ans v m' ha hr
def Cx.looks (C : Cx) (f : FuncId) (p : List Bool) : Cx := C.putRd f 1 (lendP (C.roadS f p))
theorem Cx.looks_ok {C : Cx} (hC : CxOk C) (f : FuncId) (p : List Bool) : CxOk (C.looks f p) :=
  Cx.putRd_ok hC (fun _ _ _ _ _ ha hr => lendP_ok (Cx.roadS_ok hC) ha hr) (fun _ _ _ _ _ _ ha hr => lendP_rd ha hr) (fun h => by cases h)
def Cx.makes (C : Cx) (f : FuncId) (p : List Bool) : Cx := C.putRd f 2 (lendG (C.roadS f p))
theorem Cx.makes_ok {C : Cx} (hC : CxOk C) (f : FuncId) (p : List Bool) : CxOk (C.makes f p) :=
  Cx.putRd_ok hC (fun _ _ _ _ _ ha hr => lendG_ok (Cx.roadS_ok hC) ha hr) (fun h => by cases h) (fun _ _ _ _ _ _ ha hr => lendG_new ha hr)
end Go.Proofs.Ytggdbakgiknogaa.Vx


namespace Go.Proofs.Ytggdbakgiknogaa.Vx
open Go Go.RowKit
theorem CodeSem.seq {P : Program} {B : Nat} {x y : Code} {st s s' : St} {e : Exit} (h1 : CodeSem P B x st .normal s) (h2 : CodeSem P B y s e s') : CodeSem P B (.seq x y) st e s' := fun Q w0 keep r0 a w hB hQ hr =>
  wp_seq (h1 _ w0 keep r0 a w hB (fun a' w' hr' => h2 Q w0 keep r0 a' w' hB hQ hr') hr)
theorem CodeSem.like {P : Program} {B : Nat} {x : Code} {st st2 s : St} {e : Exit} (h : CodeSem P B x st2 e s) (hl : StLike st st2) : CodeSem P B x st e s := fun Q w0 keep r0 a w hB hQ hr =>
  h Q w0 keep r0 a w hB hQ (hr.like hl)
def seqDrop : Nat → Code → Code
  | 0, c => c
  | k + 1, .seq _ y => seqDrop k y
  | _ + 1, _ => .skip
theorem seqDrop_loops : ∀ (k : Nat) (c : Code), ∀ x ∈ loopsIn (seqDrop k c), x ∈ loopsIn c
  | 0, c, x, h => h
  | k + 1, c, x, h => by
    cases c with
    | seq p q => simp only [seqDrop] at h; simp only [loopsIn, List.mem_append]; exact Or.inr (seqDrop_loops k q x h)
    | _ => simp [seqDrop, loopsIn] at h
/-- So many statements, one behind the other. -/
def exSeq (n : Nat) (C : Cx) : Nat → Code → St → Ans St
  | 0, _, st => .out st
  | k + 1, c, st => match c with
    | .seq x y => (exCode n C x st).bind fun es => match es.1 with
      | .normal => exSeq n C k y es.2
      | _ => .fail
    | _ => .fail
theorem exSeq_sound {C : Cx} (hC : CxOk C) {n f B : Nat} {e : Exit} {s' : St} : ∀ (k : Nat) (c : Code) (st s : St), InBody (C.into f B) c → (exSeq n (C.into f B) k c st).res = some s → CodeSem C.P B (seqDrop k c) s e s' → CodeSem C.P B c st e s'
  | 0, c, st, s, _, h, h2 => by
    simp only [exSeq, Ans.res, Option.some.injEq] at h
    subst h
    exact h2
  | k + 1, c, st, s, hin, h, h2 => by
    cases c with
    | seq x y =>
      simp only [exSeq] at h
      obtain ⟨⟨e1, s1⟩, h1, h3⟩ := Ans.bind_some h
      have hx := (exCode_sound hC n).1 f B x (hin.sub fun z hz => by simp [loopsIn, hz]) st e1 s1 h1
      simp only at h3
      cases e1 with
      | normal => exact hx.seq (exSeq_sound hC k y s1 s (hin.sub fun z hz => by simp [loopsIn, hz]) h3 h2)
      | _ => simp [Ans.res] at h3
    | _ => simp [exSeq, Ans.res] at h
/-- A piece: so many statements, and what is told on behind them (slots, blocks). -/
def segR (C : Cx) (n k : Nat) (c : Code) (mask : List Nat) (sp : List From) (st : St) : Option St := ((exSeq n C k c st).bind fun s => (cleanA mask mask sp sp C.fb (.ret, s)).bind fun es => .out es.2).res
theorem seg_rule {C : Cx} (hC : CxOk C) {f B n k : Nat} {c : Code} {mask : List Nat} {sp : List From} {st s s' : St} {e : Exit} (hin : InBody (C.into f B) c) (h : segR (C.into f B) n k c mask sp st = some s) (h2 : CodeSem C.P B (seqDrop k c) s e s') : CodeSem C.P B c st e s' := by
  unfold segR at h
  obtain ⟨s1, h3, h4⟩ := Ans.bind_some h
  obtain ⟨⟨e2, s2⟩, h5, h6⟩ := Ans.bind_some h4
  simp only [Ans.res, Option.some.injEq] at h6
  subst h6
  exact exSeq_sound hC k c st s1 hin h3 fun Q w0 keep r0 a w hB hQ hr => h2 Q w0 keep r0 a w hB hQ (clean_rel h5 hB hr).2
/-- The last piece. -/
theorem end_rule {C : Cx} (hC : CxOk C) {f B n : Nat} {c : Code} {mask : List Nat} {sp : List From} {st s : St} {e : Exit} (hin : InBody (C.into f B) c) (h : roundR (C.into f B) n c mask mask sp sp st = some (e, s)) : CodeSem C.P B c st e s := by
  obtain ⟨⟨e1, s1⟩, h3, h4⟩ := Ans.bind_some h
  intro Q w0 keep r0 a w hB hQ hr
  refine (exCode_sound hC n).1 f B c hin _ _ _ h3 _ w0 keep r0 a w hB ?_ hr
  intro a' w' hr'
  obtain ⟨he, hs⟩ := clean_rel h4 hB hr'
  subst he
  exact hQ a' w' hs
def bodyOf (P : Program) (f : Nat) : Code := match P.funcs[f]? with
  | some fn => match fn.body with
    | some b => b
    | none => .skip
  | none => .skip
theorem bodyOf_in {C : Cx} {f B k : Nat} {fn : Func} {b : Code} (hf : C.P.funcs[f]? = some fn) (hb : fn.body = some b) : InBody (C.into f B) (seqDrop k b) :=
  Or.inl ⟨fn, b, hf, hb, seqDrop_loops k b⟩
theorem seqDrop_drop (k l : Nat) : ∀ (c : Code), seqDrop l (seqDrop k c) = seqDrop (k + l) c := by
  induction k with
  | zero => intro c; rw [Nat.zero_add]; rfl
  | succ k ih =>
    intro c
    rw [Nat.succ_add]
    cases c with
    | seq p q => simp only [seqDrop]; exact ih q
    | _ => simp only [seqDrop]; cases l <;> rfl
/-- No error but this one. -/
def wantV (z : Int) : Value → Bool × Value
  | .int k e => (e == z, .int k z)
  | v => (true, v)
theorem wantV_ok {z : Int} {v : Value} (h : (wantV z v).1 = true) : (wantV z v).2 = v := by
  cases v with
  | int k e => simp only [wantV] at h ⊢; rw [(beq_iff_eq.1 h)]
  | _ => rfl
def wantA (z : Int) (x : Ans (Value × Mem)) : Ans (Value × Mem) := x.bind fun vm => .br (wantV z vm.1).1 (.out ((wantV z vm.1).2, vm.2)) .fail
theorem wantA_ok {z : Int} {x : Ans (Value × Mem)} {v : Value} {m : Mem} (h : (wantA z x).res = some (v, m)) : x.res = some (v, m) := by
  obtain ⟨⟨u, mu⟩, h1, h2⟩ := Ans.bind_some h
  rcases Ans.br_some h2 with ⟨hb, h3⟩ | ⟨_, h3⟩
  · simp only [Ans.res, Option.some.injEq, Prod.mk.injEq] at h3
    obtain ⟨rfl, rfl⟩ := h3
    rw [h1, wantV_ok hb]
  · simp [Ans.res] at h3
/-- A function of which one road is wanted, with this answer. -/
def Cx.want (C : Cx) (f : FuncId) (p : List Bool) (z : Int) : Cx := C.addM f (lendF fun args m => match C.tbm f args m with
  | some ans => some (wantA z (pickA p ans))
  | none => none)
theorem Cx.want_ok {C : Cx} (hC : CxOk C) (f : FuncId) (p : List Bool) (z : Int) : CxOk (C.want f p z) :=
  Cx.addM_ok hC fun _ _ _ _ _ ha hr => lendF_ok (fun args m ans v m' h hr => by
    split at h
    · rename_i a0 h0
      simp only [Option.some.injEq] at h
      subst h
      exact hC.tbm f args m a0 v m' h0 (pickA_ok p a0 (wantA_ok hr))
    · cases h) ha hr
end Go.Proofs.Ytggdbakgiknogaa.Vx


namespace Go.Proofs.Ytggdbakgiknogaa.Vx
open Go Go.RowKit
theorem CodeSem.loop {P : Program} {B : Nat} {x : Code} {st s : St} {e : Exit} (h : LoopSem P B x st e s) : CodeSem P B (.loop x) st e s := fun Q w0 keep r0 a w hB hQ hr => (h Q w0 keep r0 a w hB hQ hr).wp
theorem CodeSem.block {P : Program} {B id : Nat} {x : Code} {st s : St} (h : CodeSem P B x st (.exit id) s) : CodeSem P B (.block id x) st .normal s := fun Q w0 keep r0 a w hB hQ hr =>
  wp_block (h _ w0 keep r0 a w hB (fun a' w' hr' => by
    simp only [Exit.inBlock]
    rw [if_pos trivial]
    exact hQ a' w' hr') hr)
/-- The k-th statement. -/
def stmt (k : Nat) (c : Code) : Code := match seqDrop k c with
  | .seq x _ => x
  | _ => .skip
def hasStmt (k : Nat) (c : Code) : Bool := match seqDrop k c with
  | .seq _ _ => true
  | _ => false
theorem stmt_rule {P : Program} {B k : Nat} {c : Code} {st s s' : St} {e : Exit} (hk : hasStmt k c = true) (h1 : CodeSem P B (stmt k c) st .normal s) (h2 : CodeSem P B (seqDrop (k + 1) c) s e s') : CodeSem P B (seqDrop k c) st e s' := by
  unfold hasStmt at hk
  unfold stmt at h1
  have e2 := seqDrop_drop k 1 c
  cases hc : seqDrop k c with
  | seq x y =>
    rw [hc] at h1 e2
    simp only [seqDrop] at e2
    rw [← e2] at h2
    exact h1.seq h2
  | _ => rw [hc] at hk; cases hk
/-- A 'for': what is ahead of it, then the loop. -/
def forHead : Code → Code
  | .seq x _ => x
  | _ => .skip
def forBody : Code → Code
  | .seq _ (.block _ (.loop x)) => x
  | _ => .skip
def isFor (id : Nat) : Code → Bool
  | .seq _ (.block i (.loop _)) => Nat.beq i id
  | _ => false
theorem for_rule {P : Program} {B id : Nat} {c : Code} {st s s' : St} (hf : isFor id c = true) (h1 : CodeSem P B (forHead c) st .normal s) (h2 : LoopSem P B (forBody c) s (.exit id) s') : CodeSem P B c st .normal s' := by
  unfold isFor at hf
  split at hf
  · rename_i x i y
    have := Nat.eq_of_beq_eq_true hf
    subst this
    exact h1.seq (CodeSem.block (CodeSem.loop h2))
  · cases hf
theorem for_in {C : Cx} {f B id k : Nat} {fn : Func} {b : Code} (hf : C.P.funcs[f]? = some fn) (hb : fn.body = some b) (hs : isFor id (stmt k b) = true) : InBody (C.into f B) (forHead (stmt k b)) ∧ InBody (C.into f B) (forBody (stmt k b)) := by
  have h0 : ∀ x ∈ loopsIn (stmt k b), x ∈ loopsIn b := fun x hx => by
    refine seqDrop_loops k b x ?_
    unfold stmt at hx
    cases hc : seqDrop k b with
    | seq p q => rw [hc] at hx; simp only at hx; simp [loopsIn, hx]
    | _ => rw [hc] at hx; simp [loopsIn] at hx
  unfold isFor at hs
  split at hs
  · rename_i x i y hst
    rw [hst] at h0 ⊢
    refine ⟨Or.inl ⟨fn, b, hf, hb, fun z hz => h0 z (by simp only [forHead] at hz; simp [loopsIn, hz])⟩, Or.inl ⟨fn, b, hf, hb, fun z hz => h0 z (by simp only [forBody] at hz; simp [loopsIn, hz])⟩⟩
  · cases hs
/-- A function that only looks, with no error, or yes. -/
def Cx.looksG (C : Cx) (f : FuncId) (p : List Bool) : Cx := C.putRd f 1 (lendP fun args m => match C.tbm f args m with
  | some ans => some (asmA (pickA p ans))
  | none => none)
theorem Cx.looksG_ok {C : Cx} (hC : CxOk C) (f : FuncId) (p : List Bool) : CxOk (C.looksG f p) :=
  Cx.putRd_ok hC (fun _ _ _ _ _ ha hr => lendP_ok (fun args m ans v m' h hr => by
    split at h
    · rename_i a0 h0
      simp only [Option.some.injEq] at h
      subst h
      exact hC.tbm f args m a0 v m' h0 (pickA_ok p a0 (asmA_ok hr))
    · cases h) ha hr) (fun _ _ _ _ _ _ ha hr => lendP_rd ha hr) (fun h => by cases h)
end Go.Proofs.Ytggdbakgiknogaa.Vx


namespace Go.Proofs.Ytggdbakgiknogaa
open Go Vx

def Cw0 (P : Program) : Cx := Cpb P
theorem okw0 : CxOk (Cw0 Try.prog) := okpb
/-- op.Apply -/
theorem ew1 (a0 a1 a2 a3 a4 a5 a6 a7 a8 a9 a10 a11 b0 b1 b2 b3 : Int) : exFun ((Cw0 Try.prog).at 30) 60 Try.f30 (pack [some 12, some 4] [a0, a1, a2, a3, a4, a5, a6, a7, a8, a9, a10, a11, b0, b1, b2, b3]) = tOApplyN ⟨⟨a0, a1, a2, a3, a4, a5, a6, a7, a8⟩, ⟨a9, a10, a11⟩⟩ ⟨b0, ⟨b1, b2, b3⟩⟩ := by kernel_rfl
def Fw_30 : List Int → Option Value
  | [a0, a1, a2, a3, a4, a5, a6, a7, a8, a9, a10, a11, b0, b1, b2, b3] => some (fOApply ⟨⟨a0, a1, a2, a3, a4, a5, a6, a7, a8⟩, ⟨a9, a10, a11⟩⟩ ⟨b0, ⟨b1, b2, b3⟩⟩)
  | _ => none
def Cw1 (P : Program) : Cx := (Cw0 P).add 30 [some 12, some 4] Fw_30
theorem okw1 : CxOk (Cw1 Try.prog) := Cx.add_ok okw0 (n := 60) Try.func30 (by kernel_rfl) fun l v hl h => by
  match l, hl, h with
  | [a0, a1, a2, a3, a4, a5, a6, a7, a8, a9, a10, a11, b0, b1, b2, b3], _, hh => rw [ew1, tOApplyN_eq]; exact hh
/-- frac.Order -/
theorem ew2 (a0 a1 a2 a3 b0 b1 b2 b3 : Int) : exFun ((Cw1 Try.prog).at 31) 60 Try.f31 (pack [some 4, some 4] [a0, a1, a2, a3, b0, b1, b2, b3]) = tPOrd ⟨a0, ⟨a1, a2, a3⟩⟩ ⟨b0, ⟨b1, b2, b3⟩⟩ := by kernel_rfl
def Fw_31 : List Int → Option Value
  | [a0, a1, a2, a3, b0, b1, b2, b3] => some (fPOrd ⟨a0, ⟨a1, a2, a3⟩⟩ ⟨b0, ⟨b1, b2, b3⟩⟩)
  | _ => none
def Cw2 (P : Program) : Cx := (Cw1 P).add 31 [some 4, some 4] Fw_31
theorem okw2 : CxOk (Cw2 Try.prog) := Cx.add_ok okw1 (n := 60) Try.func31 (by kernel_rfl) fun l v hl h => by
  match l, hl, h with
  | [a0, a1, a2, a3, b0, b1, b2, b3], _, hh => rw [ew2, tPOrd_eq]; exact hh
/-- orbit.compare -/
theorem ew3 (a0 a1 a2 a3 b0 b1 b2 b3 : Int) : exFun ((Cw2 Try.prog).at 58) 60 Try.f58 (pack [some 4, some 4] [a0, a1, a2, a3, b0, b1, b2, b3]) = tPCmp ⟨a0, ⟨a1, a2, a3⟩⟩ ⟨b0, ⟨b1, b2, b3⟩⟩ := by kernel_rfl
def Fw_58 : List Int → Option Value
  | [a0, a1, a2, a3, b0, b1, b2, b3] => some (fPCmp ⟨a0, ⟨a1, a2, a3⟩⟩ ⟨b0, ⟨b1, b2, b3⟩⟩)
  | _ => none
def Cw3 (P : Program) : Cx := (Cw2 P).add 58 [some 4, some 4] Fw_58
theorem okw3 : CxOk (Cw3 Try.prog) := Cx.add_ok okw2 (n := 60) Try.func58 (by kernel_rfl) fun l v hl h => by
  match l, hl, h with
  | [a0, a1, a2, a3, b0, b1, b2, b3], _, hh => rw [ew3, tPCmp_eq]; exact hh
/-- orbit.checkPlace -/
theorem ew4 (a0 a1 a2 a3 : Int) : exFun ((Cw3 Try.prog).at 69) 60 Try.f69 (pack [some 4] [a0, a1, a2, a3]) = tChkP ⟨a0, ⟨a1, a2, a3⟩⟩ := by kernel_rfl
def Fw_69 : List Int → Option Value
  | [a0, a1, a2, a3] => some (fChkP ⟨a0, ⟨a1, a2, a3⟩⟩)
  | _ => none
def Cw4 (P : Program) : Cx := (Cw3 P).add 69 [some 4] Fw_69
theorem okw4 : CxOk (Cw4 Try.prog) := Cx.add_ok okw3 (n := 60) Try.func69 (by kernel_rfl) fun l v hl h => by
  match l, hl, h with
  | [a0, a1, a2, a3], _, hh => rw [ew4, tChkP_eq]; exact hh

def CCw (P : Program) : Cx := Cw4 P
theorem okCw : CxOk (CCw Try.prog) := okw4

end Go.Proofs.Ytggdbakgiknogaa


namespace Go.Proofs.Ytggdbakgiknogaa
open Go Vx

theorem hit0 {β : Type} {e : β → β → Bool} (he : ∀ x y, e x y = true ↔ x = y) {k : β} : ∀ {ds : List β}, k ∉ ds → (ds.map fun d => (bif e k d then 1 else 0)).sum = 0
  | [], _ => rfl
  | d :: ds, h => by
    have h1 : e k d = false := by
      cases hk : e k d with
      | false => rfl
      | true => exact absurd (List.mem_cons.2 (Or.inl ((he k d).1 hk))) h
    simp only [List.map_cons, List.sum_cons, h1, cond_false, hit0 he (ds := ds) (fun hm => h (List.mem_cons_of_mem _ hm))]
theorem hit1 {β : Type} {e : β → β → Bool} (he : ∀ x y, e x y = true ↔ x = y) {k : β} : ∀ {ds : List β}, ds.Nodup → k ∈ ds → (ds.map fun d => (bif e k d then 1 else 0)).sum = 1
  | d :: ds, hn, h => by
    rw [List.nodup_cons] at hn
    cases hk : e k d with
    | true =>
      have e1 := (he k d).1 hk
      subst e1
      simp only [List.map_cons, List.sum_cons, hk, cond_true, hit0 he hn.1]
    | false =>
      rcases List.mem_cons.1 h with rfl | h
      · rw [(he k k).2 rfl] at hk; cases hk
      · simp only [List.map_cons, List.sum_cons, hk, cond_false, hit1 he hn.2 h]
theorem sum_two {β : Type} (f g : β → Nat) : ∀ (ds : List β), (ds.map fun d => f d + g d).sum = (ds.map f).sum + (ds.map g).sum
  | [] => rfl
  | d :: ds => by simp only [List.map_cons, List.sum_cons, sum_two f g ds]; omega
theorem sum_same {β : Type} (c : Nat) : ∀ (ds : List β), (ds.map fun _ => c).sum = ds.length * c
  | [] => by simp
  | d :: ds => by simp only [List.map_cons, List.sum_cons, sum_same c ds, List.length_cons]; rw [Nat.add_mul]; omega
theorem sum_zero {β : Type} : ∀ (ds : List β), (ds.map fun _ => 0).sum = 0
  | [] => rfl
  | d :: ds => by simp only [List.map_cons, List.sum_cons, sum_zero ds]
/-- Told apart by a key, the parts of a list count up to the list. -/
theorem count_sum {α β : Type} (r : α → β) (e : β → β → Bool) (he : ∀ x y, e x y = true ↔ x = y) (ds : List β) (hn : ds.Nodup) : ∀ (xs : List α), (∀ x ∈ xs, r x ∈ ds) → (ds.map fun d => (xs.filter fun x => e (r x) d).length).sum = xs.length
  | [], _ => sum_zero ds
  | x :: xs, h => by
    have ih := count_sum r e he ds hn xs fun y hy => h y (List.mem_cons_of_mem _ hy)
    have h1 := hit1 he hn (h x (List.mem_cons_self ..))
    have hf : (fun d => ((x :: xs).filter fun x => e (r x) d).length) = fun d => (bif e (r x) d then 1 else 0) + (xs.filter fun x => e (r x) d).length := by
      funext d
      rw [List.filter_cons]
      cases e (r x) d with
      | true => simp only [if_true, List.length_cons, cond_true]; omega
      | false => simp
    rw [hf, sum_two, h1, ih, List.length_cons]; omega

/-- As many maps of a group have this matrix as turn nothing. -/
theorem fib_len {H : List O3} (h : Grp H) {o : O3} (ho : o ∈ H) : (H.filter fun x => x.r.eqB o.r).length = (H.filter fun x => x.r.eqB M3.one).length := by
  have hi : ∀ x ∈ H, x.Inv := fun x hx => O3.inv_ck (h.ck x hx)
  obtain ⟨b, hb, e⟩ := grp_undo h.nd hi h.one h.mul ho
  obtain ⟨c, hc, e'⟩ := grp_undo h.nd hi h.one h.mul hb
  have hoc : o = c := by
    have := O3.mul_assoc o b c
    rw [e, e', O3.one_mul (hi c hc).1, O3.mul_one (hi o ho).1] at this
    exact this.symm
  rw [← hoc] at e'
  have canc : ∀ {u v : O3}, u.mul v = O3.one → ∀ x ∈ H, ∀ y ∈ H, x.mul u = y.mul u → x = y := by
    intro u v huv x hx y hy hxy
    have : (x.mul u).mul v = (y.mul u).mul v := by rw [hxy]
    rw [O3.mul_assoc, O3.mul_assoc, huv, O3.mul_one (hi x hx).1, O3.mul_one (hi y hy).1] at this
    exact this
  apply Nat.le_antisymm
  · have hn : ((H.filter fun x => x.r.eqB o.r).map fun x => x.mul b).Nodup := nodup_map (h.nd.filter _) fun x hx y hy => canc e' x (List.mem_filter.1 hx).1 y (List.mem_filter.1 hy).1
    have := nodup_sub hn (m := H.filter fun x => x.r.eqB M3.one) fun y hy => by
      obtain ⟨x, hx, rfl⟩ := List.mem_map.1 hy
      obtain ⟨hx1, hx2⟩ := List.mem_filter.1 hx
      refine List.mem_filter.2 ⟨h.mul x hx1 b hb, M3.eqB_iff.2 ?_⟩
      have k : x.r = o.r := M3.eqB_iff.1 hx2
      show x.r.mul b.r = M3.one
      rw [k]
      exact congrArg O3.r e
    rwa [List.length_map] at this
  · have hn : ((H.filter fun x => x.r.eqB M3.one).map fun x => x.mul o).Nodup := nodup_map (h.nd.filter _) fun x hx y hy => canc e x (List.mem_filter.1 hx).1 y (List.mem_filter.1 hy).1
    have := nodup_sub hn (m := H.filter fun x => x.r.eqB o.r) fun y hy => by
      obtain ⟨x, hx, rfl⟩ := List.mem_map.1 hy
      obtain ⟨hx1, hx2⟩ := List.mem_filter.1 hx
      refine List.mem_filter.2 ⟨h.mul x hx1 o ho, M3.eqB_iff.2 ?_⟩
      have k : x.r = M3.one := M3.eqB_iff.1 hx2
      show x.r.mul o.r = o.r
      rw [k, M3.one_mul]
    rwa [List.length_map] at this
/-- The count of a group is that of its matrices times that of its pure shifts. -/
theorem parts_len {H : List O3} (h : Grp H) {ds : List M3} (hn : ds.Nodup) (hd : ∀ d, d ∈ ds ↔ ∃ o ∈ H, o.r = d) : ds.length * (H.filter fun x => x.r.eqB M3.one).length = H.length := by
  have e := count_sum (fun o : O3 => o.r) M3.eqB (fun _ _ => M3.eqB_iff) ds hn H fun x hx => (hd _).2 ⟨x, hx, rfl⟩
  rw [← e, ← sum_same]
  congr 1
  refine List.map_congr_left fun d hd' => ?_
  obtain ⟨o, ho, rfl⟩ := (hd d).1 hd'
  exact (fib_len h ho).symm

/-! Closing other maps that make the same -/
theorem Vx.IsGrp.again {ls ms xs : List O3} (hl : AllInv ls) (hm : AllInv ms) (h : IsGrp ls xs) (h1 : ∀ x ∈ ls, Gen ms x) (h2 : ∀ m ∈ ms, Gen ls m) : IsGrp ms xs :=
  ⟨h.1, h.2.1, fun g => (h.2.2.1 g).trans ⟨fun k => k.mono hm h1, fun k => k.mono hl h2⟩, h.2.2.2⟩
theorem ckMaps_of {ls : List O3} (hl : ls.length ≤ 192) (h : ∀ o ∈ ls, o.ck = 0) : ckMaps ls = 0 := by
  have key : ∀ (l : List O3), (∀ o ∈ l, o.ck = 0) → leastL l 0 = 0 := by
    intro l
    induction l with
    | nil => intro _; rfl
    | cons o l ih =>
      intro h
      show leastL l (leastN 0 o.ck) = 0
      rw [h o (List.mem_cons_self ..)]
      exact ih fun x hx => h x (List.mem_cons_of_mem _ hx)
  unfold ckMaps
  rw [if_neg (by omega)]
  exact key ls h
theorem mem_clsG {ls : List O3} (h : clsOk ls = true) (g : O3) : g ∈ clsG ls ↔ Gen ls g := by
  rw [show clsG ls = sortO (clG0 ls [O3.one] es1).1 from rfl, (sortO_perm _).mem_iff]
  exact (clsOk_spec h).2.2.2.2.1 g
theorem clsG_strict {ls : List O3} (h : clsOk ls = true) : StrictO (clsG ls) :=
  sorted_strict (sortO_sorted _) ((sortO_perm _).nodup_iff.2 (clsOk_spec h).2.2.1)
theorem clsG_ck {ls : List O3} (h : clsOk ls = true) : ∀ g ∈ clsG ls, g.ck = 0 := fun g hg => (clsOk_spec h).2.2.2.2.2 g ((sortO_perm _).mem_iff.1 hg)
theorem clsG_grp {ls : List O3} (h : clsOk ls = true) : Grp (clsG ls) := by
  have hi := all_inv (clsOk_spec h).2.1
  exact ⟨strict_nodup (clsG_strict h), clsG_ck h, (mem_clsG h _).2 Gen.one, fun a ha b hb => (mem_clsG h _).2 (((mem_clsG h a).1 ha).mul hi ((mem_clsG h b).1 hb))⟩
/-- Maps of a group among which are those that made it, close to it. -/
theorem cls_again {ls ms : List O3} (h : clsOk ls = true) (hm : ms.length ≤ 192) (h1 : ∀ x ∈ ls, x ∈ ms) (h2 : ∀ m ∈ ms, m ∈ clsG ls) : clsOk ms = true ∧ clsG ms = clsG ls := by
  obtain ⟨_, hck, hg⟩ := clsOk_spec h
  have mck : ∀ m ∈ ms, m.ck = 0 := fun m hm' => clsG_ck h m (h2 m hm')
  have hg2 := hg.again (all_inv hck) (all_inv mck) (fun x hx => Gen.of (all_inv mck) (h1 x hx)) fun m hm' => (mem_clsG h m).1 (h2 m hm')
  have hq : clsOk ms = true := by
    unfold clsOk
    rw [ckMaps_of hm mck]
    rcases clR_spec mck with ⟨r, k1, _⟩ | ⟨_, k2⟩
    · rw [k1]; rfl
    · exact absurd k2 hg2.not_bad
  refine ⟨hq, ?_⟩
  obtain ⟨_, _, hg3⟩ := clsOk_spec hq
  exact sorted_one (sortO_sorted _) (sortO_sorted _) (((sortO_perm _).trans (hg3.perm hg2)).trans (sortO_perm _).symm)
end Go.Proofs.Ytggdbakgiknogaa


namespace Go.Proofs.Ytggdbakgiknogaa
open Go Vx
theorem mGet_put (k j : List Int) (v : Int) : ∀ (es : ES), mGet j (mPut k v es) = if j = k then v else mGet j es
  | [] => by
    simp only [mPut, mGet]
    by_cases h : k = j
    · subst h; simp
    · simp [h, Ne.symm h]
  | e :: es => by
    have ih := mGet_put k j v es
    simp only [mPut]
    by_cases h : e.1 = k
    · rw [show decide (e.1 = k) = true by simpa using h]
      simp only [mGet]
      by_cases hj : k = j
      · subst hj; simp
      · have hj' : ¬ e.1 = j := by rw [h]; exact hj
        simp [hj, hj', Ne.symm hj]
    · rw [show decide (e.1 = k) = false by simpa using h]
      simp only [mGet]
      by_cases hj : e.1 = j
      · have hjk : ¬ j = k := by rw [← hj]; exact h
        simp [hj, hjk]
      · rw [show decide (e.1 = j) = false by simpa using hj]
        exact ih
theorem ats_has : ∀ (l : List O3) (i : Int) (es : ES) (o : O3), mHas (key o) (atsL l i es) = true ↔ o ∈ l ∨ mHas (key o) es = true
  | [], i, es, o => by simp [atsL]
  | x :: l, i, es, o => by
    simp only [atsL]
    rw [ats_has l (i + 1) _ o, mHas_put, List.mem_cons]
    constructor
    · rintro (h | h | h)
      · exact Or.inl (Or.inr h)
      · exact Or.inl (Or.inl (key_inj h))
      · exact Or.inr h
    · rintro ((h | h) | h)
      · exact Or.inr (Or.inl (by rw [h]))
      · exact Or.inl h
      · exact Or.inr (Or.inr h)
theorem ats_out : ∀ (l : List O3) (i : Int) (es : ES) (o : O3), o ∉ l → mGet (key o) (atsL l i es) = mGet (key o) es
  | [], i, es, o, _ => rfl
  | x :: l, i, es, o, h => by
    simp only [atsL]
    rw [List.mem_cons] at h
    have hx : ¬ key o = key x := fun e => h (Or.inl (key_inj e))
    rw [ats_out l (i + 1) _ o (fun hm => h (Or.inr hm)), mGet_put, if_neg hx]
theorem ats_get : ∀ (l : List O3) (i : Int) (es : ES) (o : O3), l.Nodup → o ∈ l → plcL l o i = some (mGet (key o) (atsL l i es))
  | [], i, es, o, _, h => by simp at h
  | x :: l, i, es, o, hn, h => by
    rw [List.nodup_cons] at hn
    simp only [plcL, atsL]
    cases he : x.eqB o with
    | true =>
      have e := O3.eqB_iff.1 he
      subst e
      simp only
      rw [ats_out l (i + 1) _ x hn.1, mGet_put, if_pos rfl]
    | false =>
      simp only
      rcases List.mem_cons.1 h with e | hm
      · exact absurd e.symm (O3.eqB_false.1 he)
      · exact ats_get l (i + 1) _ o hn.2 hm
theorem chk_nodup {X : List O3} (h : chkI X = 0) : X.Nodup := by
  unfold chkI at h
  cases hq : clsOk X with
  | false => rw [hq] at h; exact absurd h (clsErr_ne X)
  | true =>
    rw [hq] at h
    simp only at h
    cases hs : sameB (clsG X) X with
    | false => rw [hs] at h; cases h
    | true =>
      have e := sameB_iff.1 hs
      obtain ⟨_, _, hg⟩ := clsOk_spec hq
      rw [← e]
      exact (sortO_perm _).nodup_iff.2 hg.1
theorem fnd_place {X : List O3} (h : chkI X = 0) (o : O3) : (bif mHas (key o) (atsL X 0 []) then mGet (key o) (atsL X 0 []) else 0) = (bif decide (placeI X o ≥ 0) then placeI X o else 0) ∧ mHas (key o) (atsL X 0 []) = decide (placeI X o ≥ 0) := by
  have hh : mHas (key o) (atsL X 0 []) = decide (placeI X o ≥ 0) := by
    rw [placeI_mem, Bool.eq_iff_iff, ats_has, decide_eq_true_eq]
    simp [mHas]
  refine ⟨?_, hh⟩
  rw [hh]
  by_cases hm : o ∈ X
  · have := ats_get X 0 [] o (chk_nodup h) hm
    rw [placeI_mem, decide_eq_true hm]
    unfold placeI
    rw [this]; rfl
  · rw [placeI_mem, decide_eq_false hm]; rfl
end Go.Proofs.Ytggdbakgiknogaa


namespace Go.Proofs.Ytggdbakgiknogaa
open Go Vx

theorem chk_grp {X : List O3} (h : chkI X = 0) : StrictO X ∧ Grp X ∧ X.length ≤ 192 := by
  unfold chkI at h
  cases hq : clsOk X with
  | false => rw [hq] at h; exact absurd h (clsErr_ne X)
  | true =>
    rw [hq] at h
    simp only at h
    cases hs : sameB (clsG X) X with
    | false => rw [hs] at h; cases h
    | true =>
      have e := sameB_iff.1 hs
      have h1 := clsG_strict hq
      have h2 := clsG_grp hq
      have h3 := clsOk_len hq
      rw [e] at h1 h2 h3
      exact ⟨h1, h2, h3⟩
theorem chk_of {X : List O3} (hs : StrictO X) (hg : Grp X) (hl : X.length ≤ 192) : chkI X = 0 := by
  have hI := grp_self hg.nd hl hg.ck hg.one hg.mul
  have hq : clsOk X = true := by
    unfold clsOk
    rw [ckMaps_of hl hg.ck]
    rcases clR_spec hg.ck with ⟨r, k1, _⟩ | ⟨_, k2⟩
    · rw [k1]; rfl
    · exact absurd k2 hI.not_bad
  obtain ⟨_, _, hg2⟩ := clsOk_spec hq
  have e : clsG X = X := sorted_one (sortO_sorted _) (strict_sorted hs) ((sortO_perm _).trans (hg2.perm hI))
  unfold chkI
  rw [hq]
  simp only
  rw [e, sameB_refl]; rfl
/-- Maps in form, not too many: the list is a group in order, or it doesn't close. -/
theorem chk_five {X : List O3} (hl : X.length ≤ 192) (hck : ∀ o ∈ X, o.ck = 0) : chkI X = 0 ∨ chkI X = 5 := by
  unfold chkI clsErr
  rw [ckMaps_of hl hck]
  cases clsOk X with
  | false => right; rfl
  | true =>
    simp only
    cases sameB (clsG X) X with
    | true => left; rfl
    | false => right; rfl
theorem chk_cls {ls : List O3} (h : clsOk ls = true) : chkI (clsG ls) = 0 := chk_of (clsG_strict h) (clsG_grp h) (clsOk_len h)
theorem cls_has {ls : List O3} (h : clsOk ls = true) {o : O3} (ho : o ∈ ls) : o ∈ clsG ls := (mem_clsG h o).2 (Gen.of (all_inv (clsOk_spec h).2.1) ho)
theorem cls_pos {ls : List O3} (h : clsOk ls = true) : 1 ≤ (clsG ls).length := List.length_pos_of_mem (clsG_grp h).one
/-- Find, for a map of the group. -/
theorem fnd_in {X : List O3} (h : chkI X = 0) {o : O3} (ho : o ∈ X) : fndE X o = 0 := by
  have hk : o.ck = 0 := (chk_grp h).2.1.ck o ho
  have hm : mHas (key o) (atsL X 0 []) = true := (ats_has X 0 [] o).2 (Or.inl ho)
  unfold fndE
  rw [h, hk, hm]
  rfl

/-! Groups within groups -/
theorem grp_cosets {P G : List O3} (hP : Grp P) (hG : Grp G) (hs : ∀ x ∈ P, x ∈ G) : ∀ (k : Nat) (bs : List O3), (∀ b ∈ bs, b ∈ G) → (cosets P bs).Nodup → G.length - (cosets P bs).length ≤ k → ∃ n, G.length = n * P.length
  | k, bs, hb, hn, hk => by
    have hsub : ∀ x ∈ cosets P bs, x ∈ G := by
      intro x hx
      obtain ⟨b, hb', p, hp, rfl⟩ := mem_cosets.1 hx
      exact hG.mul b (hb b hb') p (hs p hp)
    have hle := nodup_sub hn hsub
    by_cases hall : ∀ g ∈ G, g ∈ cosets P bs
    · have hge := nodup_sub hG.nd hall
      exact ⟨bs.length, by rw [← cosets_len]; omega⟩
    · have ⟨f, hf⟩ : ∃ f, ¬ (f ∈ G → f ∈ cosets P bs) := Classical.not_forall.1 hall
      have hfG : f ∈ G := Classical.byContradiction fun h => hf fun h' => absurd h' h
      have hfn : f ∉ cosets P bs := fun h => hf fun _ => h
      obtain ⟨n1, n2⟩ := coset_new hP (O3.inv_ck (hG.ck f hfG)) hfn
      have hP1 : 0 < P.length := List.length_pos_of_mem hP.one
      have hlen : (cosets P (bs ++ [f])).length = (cosets P bs).length + P.length := by rw [cosets_snoc, List.length_append, List.length_map]
      have hn' : (cosets P (bs ++ [f])).Nodup := by
        rw [cosets_snoc]
        exact List.nodup_append.2 ⟨hn, n2, fun a ha b hb e => n1 b hb (e ▸ ha)⟩
      have hb' : ∀ b ∈ bs ++ [f], b ∈ G := fun b hb' => by
        rcases List.mem_append.1 hb' with h | h
        · exact hb b h
        · rw [List.mem_singleton.1 h]; exact hfG
      have hlt : (cosets P bs).length < G.length := by
        have := nodup_sub (l := f :: cosets P bs) (m := G) (List.nodup_cons.2 ⟨hfn, hn⟩) fun x hx => by
          rcases List.mem_cons.1 hx with rfl | hx
          · exact hfG
          · exact hsub x hx
        simp only [List.length_cons] at this; omega
      match k, hk with
      | 0, hk => omega
      | k + 1, hk => exact grp_cosets hP hG hs k (bs ++ [f]) hb' hn' (by omega)
/-- A group within a group divides it. -/
theorem grp_divides {P G : List O3} (hP : Grp P) (hG : Grp G) (hs : ∀ x ∈ P, x ∈ G) : G.length % P.length = 0 := by
  obtain ⟨n, e⟩ := grp_cosets hP hG hs G.length [] (by simp) (by simp [cosets]) (by omega)
  rw [e, Nat.mul_mod_left]

/-! Groups that are broken -/
/-- Without one of its maps a group of more than two is none. -/
theorem less_none {G L : List O3} (hG : Grp G) (h2 : 2 < G.length) (hl : L.length + 1 = G.length) (hs : ∀ x ∈ L, x ∈ G) : ¬ Grp L := fun h => by
  have := grp_divides h hG hs
  rw [← hl] at this
  have h3 : 1 % L.length = 0 := by rwa [Nat.add_mod_left] at this
  rw [Nat.mod_eq_of_lt (by omega)] at h3
  omega
theorem chk_less {G L : List O3} (hG : Grp G) (h2 : 2 < G.length) (hg : G.length ≤ 192) (hl : L.length + 1 = G.length) (hs : ∀ x ∈ L, x ∈ G) : chkI L = 5 := by
  rcases chk_five (X := L) (by omega) (fun o ho => hG.ck o (hs o ho)) with h | h
  · exact absurd (chk_grp h).2.1 (less_none hG h2 hl hs)
  · exact h
/-- Out of order, or with a map twice, a list is no group in order. -/
theorem chk_unsorted {X : List O3} (hl : X.length ≤ 192) (hck : ∀ o ∈ X, o.ck = 0) (h : ¬ StrictO X) : chkI X = 5 := by
  rcases chk_five hl hck with e | e
  · exact absurd (chk_grp e).1 h
  · exact e
end Go.Proofs.Ytggdbakgiknogaa


namespace Go.Proofs.Ytggdbakgiknogaa
open Go Vx
/-- Functions of which the good road is wanted: Twin of a list with maps, Close, Check, Find, Rotations, Centring, Same. -/
def Cqa (P : Program) : Cx := (((((((Cpb P).good 13 [true, false]).good 12 [true, true]).good 14 [true]).good 15 [true]).good 17 [true, false]).good 18 [true, false]).good 19 [true]
theorem okqa : CxOk (Cqa Try.prog) := Cx.good_ok (Cx.good_ok (Cx.good_ok (Cx.good_ok (Cx.good_ok (Cx.good_ok (Cx.good_ok okpb _ _) _ _) _ _) _ _) _ _) _ _) _ _
def allF (G : List O3) : List O3 → Bool
  | [] => true
  | o :: l => (fndE G o == 0) && allF G l
def ordG : List O3 → Bool
  | [] => true
  | p :: l => ordF p l
theorem ordG_strict {l : List O3} : ordG l = true ↔ StrictO l := by
  cases l with
  | nil => simp [ordG, StrictO]
  | cons p l => exact ordF_sorted l p
theorem strict_at {l : List O3} (h : StrictO l) {i : Int} (h0 : 0 < i) (h1 : i < (l.length : Int)) : lexI (atO l (i - 1)).l (atO l i).l < 0 := by
  unfold StrictO at h
  rw [List.pairwise_iff_getElem] at h
  have := h (i - 1).toNat i.toNat (by omega) (by omega) (by omega)
  unfold atO
  rw [List.getElem?_eq_getElem (by omega : (i - 1).toNat < l.length), List.getElem?_eq_getElem (by omega : i.toNat < l.length)]
  exact this

def laX (P : Program) : Code := (loopsOf P 3 9).headD .skip
theorem laX_eq : loopsOf Try.prog 3 9 = [laX Try.prog] := by kernel_rfl
def laH (own : Bool) (n : Nat) (xs : List O3) (zs : List O3) (k : Nat) (ys : List O3) (sd : Int) (i : Int) : St := stOf 188 [(0, .slice (some ⟨0, 0, some 0⟩) n 12), (1, vI sd), (4, .bool false), (5, .slice (some ⟨2, 0, some 0⟩) k 12), (65, .slice (some ⟨0, 0, some 0⟩) n 12), (66, vI n), (67, vI i)] [.rows own true 12 n (opRow xs), .rows true true 12 n (opRow zs), .rows true true 12 k (opRow ys)]
theorem laR (own : Bool) (n : Nat) (xs : List O3) (zs : List O3) (k : Nat) (ys : List O3) (sd : Int) (i : Int) : roundR ((Cqa Try.prog).into 3 1) 40 (laX Try.prog) [0, 1, 4, 5, 65, 66, 67] [0, 1, 4, 5] [.fix 0, .fix 1, .fix 2] [.fix 0, .fix 1, .fix 2] (laH own n xs zs k ys sd i) =
    (match decide (i < (n : Int)) with
    | true => match boundsI i n with
      | true => gd (Nat.ble (0 + k) k && true) (gd (Nat.beq k k && (okOps k (opRow ys) && decide (k ≤ 4611686018427387904))) (gd (fndE (opsOf k (opRow ys)) (atO xs i) == 0) (some (.normal, laH own n xs zs k ys sd (W (i + 1))))))
      | false => none
    | false => some (.exit 0, stOf 188 [(0, .slice (some ⟨0, 0, some 0⟩) n 12), (1, vI sd), (4, .bool false), (5, .slice (some ⟨2, 0, some 0⟩) k 12)] [.rows own true 12 n (opRow xs), .rows true true 12 n (opRow zs), .rows true true 12 k (opRow ys)])) := by kernel_rfl
structure laG where
  (own : Bool) (n : Nat) (xs : List O3) (zs : List O3) (k : Nat) (ys : List O3) (sd : Int) (i : Int)
def laO (own : Bool) (n : Nat) (xs : List O3) (zs : List O3) (k : Nat) (ys : List O3) (sd : Int) (_ : Int) : Exit × St :=
  (.exit 0, stOf 188 [(0, .slice (some ⟨0, 0, some 0⟩) n 12), (1, vI sd), (4, .bool false), (5, .slice (some ⟨2, 0, some 0⟩) k 12)] [.rows own true 12 n (opRow xs), .rows true true 12 n (opRow zs), .rows true true 12 k (opRow ys)])
theorem laL (own : Bool) (n : Nat) (xs : List O3) (zs : List O3) (k : Nat) (ys : List O3) (sd : Int) (i : Int) (hg : 0 ≤ i ∧ (n : Int) ≤ 4611686018427387904 ∧ xs.length = n ∧ ys.length = k ∧ k ≤ 4611686018427387904 ∧ allF ys (xs.drop i.toNat) = true) : LoopSem Try.prog 1 (laX Try.prog) (laH own n xs zs k ys sd i) (laO own n xs zs k ys sd i).1 (laO own n xs zs k ys sd i).2 := by
  refine loop_rule (C := Cqa Try.prog) okqa (f := 3) (B := 1) (loopsOf_in (k := 9) laX_eq) 40 [0, 1, 4, 5, 65, 66, 67] [0, 1, 4, 5] [.fix 0, .fix 1, .fix 2] [.fix 0, .fix 1, .fix 2] (fun g : laG => laH g.own g.n g.xs g.zs g.k g.ys g.sd g.i) (fun g => (g.n - g.i).toNat) (fun g => 0 ≤ g.i ∧ (g.n : Int) ≤ 4611686018427387904 ∧ g.xs.length = g.n ∧ g.ys.length = g.k ∧ g.k ≤ 4611686018427387904 ∧ allF g.ys (g.xs.drop g.i.toNat) = true) (fun g => laO g.own g.n g.xs g.zs g.k g.ys g.sd g.i) ?_ ⟨own, n, xs, zs, k, ys, sd, i⟩ hg
  clear hg
  rintro ⟨own, n, xs, zs, k, ys, sd, i⟩ hg
  simp only at hg
  simp only [laR]
  obtain ⟨h0, h1, h2, h3, h4, h5⟩ := hg
  by_cases hi : i < (n : Int)
  · have hd : decide (i < (n : Int)) = true := by simpa using hi
    have hb : boundsI i n = true := by simp [boundsI, h0, hi]
    have hdx := drop_at (xs := xs) h0 (by omega)
    have hw : W (i + 1) = i + 1 := W_in (by omega)
    have hl : (Nat.ble (0 + k) k && true) = true := by rw [Nat.zero_add, Nat.ble_self_eq_true k]; rfl
    have ht : (Nat.beq k k && (okOps k (opRow ys) && decide (k ≤ 4611686018427387904))) = true := by rw [Nat.beq_refl, okOps_opRow]; simpa using h4
    rw [hdx, allF, Bool.and_eq_true] at h5
    rw [hd, hb, hw, hl, ht, opsOf_row h3, h5.1]
    left
    exact ⟨⟨own, n, xs, zs, k, ys, sd, i + 1⟩, rfl, ⟨by simp only; omega, h1, h2, h3, h4, h5.2⟩, by simp only; omega, rfl⟩
  · have hd : decide (i < (n : Int)) = false := by simpa using hi
    rw [hd]
    right
    unfold laO
    exact ⟨rfl, by simp⟩
def laS (st : St) : Option (Ans (Exit × St)) :=
  match sized st 188 3, tAt st 0, tAt st 1, tAt st 4, tAt st 5, tAt st 65, tAt st 66, tAt st 67, st.mem with
  | true, some (.slice (some ⟨0, 0, some 0⟩) n 12), some (.int .i64 sd), some (.bool false), some (.slice (some ⟨2, 0, some 0⟩) k 12), some (.slice (some ⟨0, 0, some 0⟩) n3 12), some (.int .i64 ln), some (.int .i64 0), [.rows own true 12 n2 row, .rows true true 12 n4 row4, .rows true true 12 k2 row2] => some (.br (Nat.beq n n2 && (okOps n row && (Nat.beq n n4 && (okOps n row4 && (Nat.beq k k2 && (okOps k row2 && (Nat.beq n n3 && (decide ((n : Int) = ln) && (decide ((n : Int) ≤ 4611686018427387904) && (decide (k ≤ 4611686018427387904) && (allF (opsOf k row2) (opsOf n row)))))))))))) (.out (.exit 0, stOf 188 [(0, .slice (some ⟨0, 0, some 0⟩) n 12), (1, vI sd), (4, .bool false), (5, .slice (some ⟨2, 0, some 0⟩) k 12)] [.rows own true 12 n (opRow (opsOf n row)), .rows true true 12 n (opRow (opsOf n row4)), .rows true true 12 k (opRow (opsOf k row2))])) .fail)
  | _, _, _, _, _, _, _, _, _ => none
theorem laK {st : St} {ans : Ans (Exit × St)} {e_ : Exit} {s_ : St} (h : laS st = some ans) (hr : ans.res = some (e_, s_)) : LoopSem Try.prog 1 (laX Try.prog) st e_ s_ := by
  unfold laS at h
  split at h
  · rename_i n sd k n3 ln own n2 row n4 row4 k2 row2 hb hs0 hs1 hs2 hs3 hs4 hs5 hs6 hm
    simp only [Option.some.injEq] at h
    subst h
    rcases Ans.br_some hr with ⟨hc, hr1⟩ | ⟨_, hr1⟩
    · clear hr
      simp only [Bool.and_eq_true] at hc
      obtain ⟨ht0, ht1, ht2, ht3, ht4, ht5, ht6, ht7, ht8, ht9, ht10⟩ := hc
      have ht0 := beq_len ht0
      have ht2 := beq_len ht2
      have ht4 := beq_len ht4
      have c2 := ht1
      have c4 := ht3
      have c6 := ht5
      subst ht0 ht2 ht4
      have ht6 := beq_len ht6
      have ht7 : (n : Int) = ln := by simpa using ht7
      subst ht6 ht7
      have hinv : 0 ≤ ((0 : Int)) ∧ (n : Int) ≤ 4611686018427387904 ∧ (opsOf n row).length = n ∧ (opsOf k row2).length = k ∧ k ≤ 4611686018427387904 ∧ allF (opsOf k row2) ((opsOf n row).drop ((0 : Int)).toNat) = true := by
        exact ⟨by omega, by simpa using ht8, opsOf_length n row, opsOf_length k row2, by simpa using ht9, ht10⟩
      have hk := stOf_keep hb [(0, .slice (some ⟨0, 0, some 0⟩) n 12), (1, vI sd), (4, .bool false), (5, .slice (some ⟨2, 0, some 0⟩) k 12), (65, .slice (some ⟨0, 0, some 0⟩) n 12), (66, vI n), (67, vI ((0 : Int)))] (by
        intro x hx
        simp only [List.mem_cons, List.not_mem_nil, or_false] at hx
        rcases hx with rfl | rfl | rfl | rfl | rfl | rfl | rfl
        · exact hs0
        · exact hs1
        · exact hs2
        · exact hs3
        · exact hs4
        · exact hs5
        · exact hs6) hm
      have key := laL own n (opsOf n row) (opsOf n row4) k (opsOf k row2) sd ((0 : Int)) hinv
      unfold laH at key
      have key := LoopSem.like (m := [.rows own true 12 n row, .rows true true 12 n row4, .rows true true 12 k row2]) key ⟨.rows (ops_like c2), .rows (ops_like c4), .rows (ops_like c6), trivial⟩
      have key : LoopSem Try.prog 1 (laX Try.prog) (stOf 188 [(0, .slice (some ⟨0, 0, some 0⟩) n 12), (1, vI sd), (4, .bool false), (5, .slice (some ⟨2, 0, some 0⟩) k 12), (65, .slice (some ⟨0, 0, some 0⟩) n 12), (66, vI n), (67, vI ((0 : Int)))] [.rows own true 12 n row, .rows true true 12 n row4, .rows true true 12 k row2]) _ _ := key
      rw [← hk] at key
      have key := LoopSem.clean key
      unfold laO at key
      simp only [Ans.res, Option.some.injEq, Prod.mk.injEq] at hr1
      obtain ⟨rfl, rfl⟩ := hr1
      exact key
    · simp [Ans.res] at hr1
  · cases h

def lbX (P : Program) : Code := (loopsOf P 3 16).headD .skip
theorem lbX_eq : loopsOf Try.prog 3 16 = [lbX Try.prog] := by kernel_rfl
def lbH (own : Bool) (n : Nat) (xs : List O3) (zs : List O3) (k : Nat) (ys : List O3) (sd : Int) (i : Int) : St := stOf 188 [(0, .slice (some ⟨0, 0, some 0⟩) n 12), (1, vI sd), (4, .bool false), (5, .slice (some ⟨2, 0, some 0⟩) k 12), (80, .slice (some ⟨2, 0, some 0⟩) k 12), (81, vI k), (82, vI i)] [.rows own true 12 n (opRow xs), .rows true true 12 n (opRow zs), .rows true true 12 k (opRow ys)]
theorem lbR (own : Bool) (n : Nat) (xs : List O3) (zs : List O3) (k : Nat) (ys : List O3) (sd : Int) (i : Int) : roundR ((Cqa Try.prog).into 3 1) 40 (lbX Try.prog) [0, 1, 4, 5, 80, 81, 82] [0, 1, 4, 5] [.fix 0, .fix 1, .fix 2] [.fix 0, .fix 1, .fix 2] (lbH own n xs zs k ys sd i) =
    (match decide (i < (k : Int)) with
    | true => match boundsI i k with
      | true => match decide (i > 0) with
        | true => match boundsI (W (i - 1)) k with
          | true => match decide (lexI (atO ys (W (i - 1))).l (atO ys i).l ≥ 0) with
            | true => some (.ret, stOf 188 [(0, .slice (some ⟨0, 0, some 0⟩) n 12), (1, vI sd), (4, .bool false), (5, .slice (some ⟨2, 0, some 0⟩) k 12)] [.rows own true 12 n (opRow xs), .rows true true 12 n (opRow zs), .rows true true 12 k (opRow ys)])
            | false => some (.normal, lbH own n xs zs k ys sd (W (i + 1)))
          | false => none
        | false => some (.normal, lbH own n xs zs k ys sd (W (i + 1)))
      | false => none
    | false => some (.exit 2, stOf 188 [(0, .slice (some ⟨0, 0, some 0⟩) n 12), (1, vI sd), (4, .bool false), (5, .slice (some ⟨2, 0, some 0⟩) k 12)] [.rows own true 12 n (opRow xs), .rows true true 12 n (opRow zs), .rows true true 12 k (opRow ys)])) := by kernel_rfl
structure lbG where
  (own : Bool) (n : Nat) (xs : List O3) (zs : List O3) (k : Nat) (ys : List O3) (sd : Int) (i : Int)
def lbO (own : Bool) (n : Nat) (xs : List O3) (zs : List O3) (k : Nat) (ys : List O3) (sd : Int) (_ : Int) : Exit × St :=
  (.exit 2, stOf 188 [(0, .slice (some ⟨0, 0, some 0⟩) n 12), (1, vI sd), (4, .bool false), (5, .slice (some ⟨2, 0, some 0⟩) k 12)] [.rows own true 12 n (opRow xs), .rows true true 12 n (opRow zs), .rows true true 12 k (opRow ys)])
theorem lbL (own : Bool) (n : Nat) (xs : List O3) (zs : List O3) (k : Nat) (ys : List O3) (sd : Int) (i : Int) (hg : 0 ≤ i ∧ (k : Int) ≤ 4611686018427387904 ∧ ys.length = k ∧ StrictO ys) : LoopSem Try.prog 1 (lbX Try.prog) (lbH own n xs zs k ys sd i) (lbO own n xs zs k ys sd i).1 (lbO own n xs zs k ys sd i).2 := by
  refine loop_rule (C := Cqa Try.prog) okqa (f := 3) (B := 1) (loopsOf_in (k := 16) lbX_eq) 40 [0, 1, 4, 5, 80, 81, 82] [0, 1, 4, 5] [.fix 0, .fix 1, .fix 2] [.fix 0, .fix 1, .fix 2] (fun g : lbG => lbH g.own g.n g.xs g.zs g.k g.ys g.sd g.i) (fun g => (g.k - g.i).toNat) (fun g => 0 ≤ g.i ∧ (g.k : Int) ≤ 4611686018427387904 ∧ g.ys.length = g.k ∧ StrictO g.ys) (fun g => lbO g.own g.n g.xs g.zs g.k g.ys g.sd g.i) ?_ ⟨own, n, xs, zs, k, ys, sd, i⟩ hg
  clear hg
  rintro ⟨own, n, xs, zs, k, ys, sd, i⟩ hg
  simp only at hg
  simp only [lbR]
  obtain ⟨h0, h1, h2, h3⟩ := hg
  by_cases hi : i < (k : Int)
  · have hd : decide (i < (k : Int)) = true := by simpa using hi
    have hb : boundsI i k = true := by simp [boundsI, h0, hi]
    have hw : W (i + 1) = i + 1 := W_in (by omega)
    left
    refine ⟨⟨own, n, xs, zs, k, ys, sd, i + 1⟩, ?_, ⟨by simp only; omega, h1, h2, h3⟩, by simp only; omega, rfl⟩
    by_cases hp : 0 < i
    · have hp' : decide (i > 0) = true := by simpa using hp
      have hw1 : W (i - 1) = i - 1 := W_in (by omega)
      have hb1 : boundsI (i - 1) k = true := by simp [boundsI]; omega
      have hs := strict_at h3 hp (by omega)
      have hs' : decide (lexI (atO ys (i - 1)).l (atO ys i).l ≥ 0) = false := by simp; omega
      rw [hd, hb, hw, hp', hw1, hb1, hs']
    · have hp' : decide (i > 0) = false := by simpa using hp
      rw [hd, hb, hw, hp']
  · have hd : decide (i < (k : Int)) = false := by simpa using hi
    rw [hd]
    right
    unfold lbO
    exact ⟨rfl, by simp⟩
def lbS (st : St) : Option (Ans (Exit × St)) :=
  match sized st 188 3, tAt st 0, tAt st 1, tAt st 4, tAt st 5, tAt st 80, tAt st 81, tAt st 82, st.mem with
  | true, some (.slice (some ⟨0, 0, some 0⟩) n 12), some (.int .i64 sd), some (.bool false), some (.slice (some ⟨2, 0, some 0⟩) k 12), some (.slice (some ⟨2, 0, some 0⟩) k3 12), some (.int .i64 lk), some (.int .i64 0), [.rows own true 12 n2 row, .rows true true 12 n4 row4, .rows true true 12 k2 row2] => some (.br (Nat.beq n n2 && (okOps n row && (Nat.beq n n4 && (okOps n row4 && (Nat.beq k k2 && (okOps k row2 && (Nat.beq k k3 && (decide ((k : Int) = lk) && (decide ((k : Int) ≤ 4611686018427387904) && (ordG (opsOf k row2))))))))))) (.out (.exit 2, stOf 188 [(0, .slice (some ⟨0, 0, some 0⟩) n 12), (1, vI sd), (4, .bool false), (5, .slice (some ⟨2, 0, some 0⟩) k 12)] [.rows own true 12 n (opRow (opsOf n row)), .rows true true 12 n (opRow (opsOf n row4)), .rows true true 12 k (opRow (opsOf k row2))])) .fail)
  | _, _, _, _, _, _, _, _, _ => none
theorem lbK {st : St} {ans : Ans (Exit × St)} {e_ : Exit} {s_ : St} (h : lbS st = some ans) (hr : ans.res = some (e_, s_)) : LoopSem Try.prog 1 (lbX Try.prog) st e_ s_ := by
  unfold lbS at h
  split at h
  · rename_i n sd k k3 lk own n2 row n4 row4 k2 row2 hb hs0 hs1 hs2 hs3 hs4 hs5 hs6 hm
    simp only [Option.some.injEq] at h
    subst h
    rcases Ans.br_some hr with ⟨hc, hr1⟩ | ⟨_, hr1⟩
    · clear hr
      simp only [Bool.and_eq_true] at hc
      obtain ⟨ht0, ht1, ht2, ht3, ht4, ht5, ht6, ht7, ht8, ht9⟩ := hc
      have ht0 := beq_len ht0
      have ht2 := beq_len ht2
      have ht4 := beq_len ht4
      have c2 := ht1
      have c4 := ht3
      have c6 := ht5
      subst ht0 ht2 ht4
      have ht6 := beq_len ht6
      have ht7 : (k : Int) = lk := by simpa using ht7
      subst ht6 ht7
      have hinv : 0 ≤ ((0 : Int)) ∧ (k : Int) ≤ 4611686018427387904 ∧ (opsOf k row2).length = k ∧ StrictO (opsOf k row2) := by
        exact ⟨by omega, by simpa using ht8, opsOf_length k row2, ordG_strict.1 ht9⟩
      have hk := stOf_keep hb [(0, .slice (some ⟨0, 0, some 0⟩) n 12), (1, vI sd), (4, .bool false), (5, .slice (some ⟨2, 0, some 0⟩) k 12), (80, .slice (some ⟨2, 0, some 0⟩) k 12), (81, vI k), (82, vI ((0 : Int)))] (by
        intro x hx
        simp only [List.mem_cons, List.not_mem_nil, or_false] at hx
        rcases hx with rfl | rfl | rfl | rfl | rfl | rfl | rfl
        · exact hs0
        · exact hs1
        · exact hs2
        · exact hs3
        · exact hs4
        · exact hs5
        · exact hs6) hm
      have key := lbL own n (opsOf n row) (opsOf n row4) k (opsOf k row2) sd ((0 : Int)) hinv
      unfold lbH at key
      have key := LoopSem.like (m := [.rows own true 12 n row, .rows true true 12 n row4, .rows true true 12 k row2]) key ⟨.rows (ops_like c2), .rows (ops_like c4), .rows (ops_like c6), trivial⟩
      have key : LoopSem Try.prog 1 (lbX Try.prog) (stOf 188 [(0, .slice (some ⟨0, 0, some 0⟩) n 12), (1, vI sd), (4, .bool false), (5, .slice (some ⟨2, 0, some 0⟩) k 12), (80, .slice (some ⟨2, 0, some 0⟩) k 12), (81, vI k), (82, vI ((0 : Int)))] [.rows own true 12 n row, .rows true true 12 n row4, .rows true true 12 k row2]) _ _ := key
      rw [← hk] at key
      have key := LoopSem.clean key
      unfold lbO at key
      simp only [Ans.res, Option.some.injEq, Prod.mk.injEq] at hr1
      obtain ⟨rfl, rfl⟩ := hr1
      exact key
    · simp [Ans.res] at hr1
  · cases h
def Cqb (P : Program) : Cx := ((Cqa P).addLB 3 9 1 laS).addLB 3 16 1 lbS
theorem okqb : CxOk (Cqb Try.prog) := Cx.addLB_ok (Cx.addLB_ok okqa laX_eq fun _ _ _ _ h hr => laK h hr) lbX_eq fun _ _ _ _ h hr => lbK h hr
end Go.Proofs.Ytggdbakgiknogaa


namespace Go.Proofs.Ytggdbakgiknogaa
open Go Vx
def room12 (k : Nat) : Bool := decide (k * 96 ≤ 2 ^ 47) && decide (k ≤ 2 ^ 62)
theorem room12_ok {k : Nat} (h : k ≤ 1048577) : room12 k = true := by unfold room12; simp; omega
def lcX (P : Program) : Code := (loopsOf P 3 26).headD .skip
theorem lcX_eq : loopsOf Try.prog 3 26 = [lcX Try.prog] := by kernel_rfl
def lcV (sh : Sh) (j : Nat) : Value := match sh with
  | .b => .slice (some ⟨7, 0, some 0⟩) j 12
  | _ => .slice none 0 0
def lcM (sh : Sh) (own : Bool) (n : Nat) (xs : List O3) (n1 : Nat) (r1 : Nat → List Value) (n2 : Nat) (r2 : Nat → List Value) (n3 : Nat) (r3 : Nat → List Value) (n4 : Nat) (r4 : Nat → List Value) (n5 : Nat) (r5 : Nat → List Value) (n6 : Nat) (r6 : Nat → List Value) (j : Nat) (r : Nat → List Value) : Mem := match sh with
  | .e => [.rows own true 12 n (opRow xs), .rows true true 12 n1 r1, .rows true true 12 n2 r2, .rows true true 9 n3 r3, .rows true true 3 n4 r4, .rows true true 12 n5 r5, .rows true true 12 n6 r6]
  | .a => [.rows own true 12 n (opRow xs), .rows true true 12 n1 r1, .rows true true 12 n2 r2, .rows true true 9 n3 r3, .rows true true 3 n4 r4, .rows true true 12 n5 r5, .rows true true 12 n6 r6, .no]
  | .b => [.rows own true 12 n (opRow xs), .rows true true 12 n1 r1, .rows true true 12 n2 r2, .rows true true 9 n3 r3, .rows true true 3 n4 r4, .rows true true 12 n5 r5, .rows true true 12 n6 r6, .rows true true 12 j r]
def lcH (sh : Sh) (own : Bool) (n : Nat) (xs : List O3) (n1 : Nat) (r1 : Nat → List Value) (n2 : Nat) (r2 : Nat → List Value) (n3 : Nat) (r3 : Nat → List Value) (n4 : Nat) (r4 : Nat → List Value) (n5 : Nat) (r5 : Nat → List Value) (n6 : Nat) (r6 : Nat → List Value) (sd : Int) (k l13 l15 l17 : Nat) (j : Nat) (r : Nat → List Value) (i : Int) : St := stOf 188 [(0, .slice (some ⟨0, 0, some 0⟩) n 12), (1, vI sd), (4, .bool false), (5, .slice (some ⟨2, 0, some 0⟩) k 12), (13, .slice (some ⟨3, 0, some 0⟩) l13 9), (14, vI 0), (15, .slice (some ⟨4, 0, some 0⟩) l15 3), (16, vI 0), (17, .slice (some ⟨6, 0, some 0⟩) l17 12), (18, vI 0), (19, lcV sh j), (20, vI i)] (lcM sh own n xs n1 r1 n2 r2 n3 r3 n4 r4 n5 r5 n6 r6 j r)
def lcE (sh : Sh) (own : Bool) (n : Nat) (xs : List O3) (n1 : Nat) (r1 : Nat → List Value) (n2 : Nat) (r2 : Nat → List Value) (n3 : Nat) (r3 : Nat → List Value) (n4 : Nat) (r4 : Nat → List Value) (n5 : Nat) (r5 : Nat → List Value) (n6 : Nat) (r6 : Nat → List Value) (sd : Int) (k l13 l15 l17 : Nat) (j : Nat) (r : Nat → List Value) : St := stOf 188 [(0, .slice (some ⟨0, 0, some 0⟩) n 12), (1, vI sd), (4, .bool false), (5, .slice (some ⟨2, 0, some 0⟩) k 12), (13, .slice (some ⟨3, 0, some 0⟩) l13 9), (14, vI 0), (15, .slice (some ⟨4, 0, some 0⟩) l15 3), (16, vI 0), (17, .slice (some ⟨6, 0, some 0⟩) l17 12), (18, vI 0), (19, lcV sh j)] (lcM sh own n xs n1 r1 n2 r2 n3 r3 n4 r4 n5 r5 n6 r6 j r)
theorem lcRe (own : Bool) (n : Nat) (xs : List O3) (n1 : Nat) (r1 : Nat → List Value) (n2 : Nat) (r2 : Nat → List Value) (n3 : Nat) (r3 : Nat → List Value) (n4 : Nat) (r4 : Nat → List Value) (n5 : Nat) (r5 : Nat → List Value) (n6 : Nat) (r6 : Nat → List Value) (sd : Int) (k l13 l15 l17 : Nat) (j : Nat) (ms : List O3) (i : Int) : roundR ((Cqb Try.prog).into 3 1) 40 (lcX Try.prog) [0, 1, 4, 5, 13, 14, 15, 16, 17, 18, 19, 20] [0, 1, 4, 5, 13, 14, 15, 16, 17, 18, 19] [.fix 0, .fix 1, .fix 2, .fix 3, .fix 4, .fix 5, .fix 6, .slot 19] [.fix 0, .fix 1, .fix 2, .fix 3, .fix 4, .fix 5, .fix 6, .slot 19] (lcH .e own n xs n1 r1 n2 r2 n3 r3 n4 r4 n5 r5 n6 r6 sd k l13 l15 l17 j (opRow ms) i) =
    (match decide (i ≥ 0) with
    | true => match boundsI i n with
      | true => some (.normal, lcH .b own n xs n1 r1 n2 r2 n3 r3 n4 r4 n5 r5 n6 r6 sd k l13 l15 l17 1 (chop 12 0 (atO xs i).cells) (W (i - 1)))
      | false => none
    | false => some (.exit 4, lcE .a own n xs n1 r1 n2 r2 n3 r3 n4 r4 n5 r5 n6 r6 sd k l13 l15 l17 j (opRow ms))) := by kernel_rfl
theorem lcRb (own : Bool) (n : Nat) (xs : List O3) (n1 : Nat) (r1 : Nat → List Value) (n2 : Nat) (r2 : Nat → List Value) (n3 : Nat) (r3 : Nat → List Value) (n4 : Nat) (r4 : Nat → List Value) (n5 : Nat) (r5 : Nat → List Value) (n6 : Nat) (r6 : Nat → List Value) (sd : Int) (k l13 l15 l17 : Nat) (j : Nat) (ms : List O3) (i : Int) : roundR ((Cqb Try.prog).into 3 1) 40 (lcX Try.prog) [0, 1, 4, 5, 13, 14, 15, 16, 17, 18, 19, 20] [0, 1, 4, 5, 13, 14, 15, 16, 17, 18, 19] [.fix 0, .fix 1, .fix 2, .fix 3, .fix 4, .fix 5, .fix 6, .slot 19] [.fix 0, .fix 1, .fix 2, .fix 3, .fix 4, .fix 5, .fix 6, .slot 19] (lcH .b own n xs n1 r1 n2 r2 n3 r3 n4 r4 n5 r5 n6 r6 sd k l13 l15 l17 j (opRow ms) i) =
    (match decide (i ≥ 0) with
    | true => match boundsI i n with
      | true => gd (Nat.beq j j && room12 (j + 1)) (some (.normal, lcH .b own n xs n1 r1 n2 r2 n3 r3 n4 r4 n5 r5 n6 r6 sd k l13 l15 l17 (j + 1) (catR j (opRow ms) (chop 12 0 (atO xs i).cells)) (W (i - 1))))
      | false => none
    | false => some (.exit 4, lcE .b own n xs n1 r1 n2 r2 n3 r3 n4 r4 n5 r5 n6 r6 sd k l13 l15 l17 j (opRow ms))) := by kernel_rfl
structure lcG where
  (sh : Sh) (own : Bool) (n : Nat) (xs : List O3) (n1 : Nat) (r1 : Nat → List Value) (n2 : Nat) (r2 : Nat → List Value) (n3 : Nat) (r3 : Nat → List Value) (n4 : Nat) (r4 : Nat → List Value) (n5 : Nat) (r5 : Nat → List Value) (n6 : Nat) (r6 : Nat → List Value) (sd : Int) (k l13 l15 l17 : Nat) (j : Nat) (ms : List O3) (i : Int)
def lcHg (g : lcG) : St := lcH g.sh g.own g.n g.xs g.n1 g.r1 g.n2 g.r2 g.n3 g.r3 g.n4 g.r4 g.n5 g.r5 g.n6 g.r6 g.sd g.k g.l13 g.l15 g.l17 g.j (opRow g.ms) g.i
def lcI (g : lcG) : Prop := g.xs.length = g.n ∧ 1 ≤ g.n ∧ g.n ≤ 1048576 ∧ -1 ≤ g.i ∧ g.i < (g.n : Int) ∧ g.ms = (g.xs.drop (g.i + 1).toNat).reverse ∧ g.ms.length = g.j ∧ shOk g.sh g.ms ∧ g.sh ≠ .a
def lcO (g : lcG) : Exit × St := (.exit 4, lcE .b g.own g.n g.xs g.n1 g.r1 g.n2 g.r2 g.n3 g.r3 g.n4 g.r4 g.n5 g.r5 g.n6 g.r6 g.sd g.k g.l13 g.l15 g.l17 g.n (opRow g.xs.reverse))
theorem lcL (g : lcG) (hg : lcI g) : LoopSem Try.prog 1 (lcX Try.prog) (lcHg g) (lcO g).1 (lcO g).2 := by
  refine loop_rule2 (C := Cqb Try.prog) okqb (f := 3) (B := 1) (loopsOf_in (k := 26) lcX_eq) 40 [0, 1, 4, 5, 13, 14, 15, 16, 17, 18, 19, 20] [0, 1, 4, 5, 13, 14, 15, 16, 17, 18, 19] [.fix 0, .fix 1, .fix 2, .fix 3, .fix 4, .fix 5, .fix 6, .slot 19] [.fix 0, .fix 1, .fix 2, .fix 3, .fix 4, .fix 5, .fix 6, .slot 19] lcHg (fun g => (g.i + 1).toNat) lcI lcO ?_ g hg
  clear hg g
  rintro ⟨sh, own, n, xs, n1, r1, n2, r2, n3, r3, n4, r4, n5, r5, n6, r6, sd, k, l13, l15, l17, j, ms, i⟩ hg
  unfold lcI at hg
  simp only at hg
  obtain ⟨h1, h2, h3, h4, h5, h6, h7, h8, h9⟩ := hg
  by_cases hi : 0 ≤ i
  · have hd : decide (i ≥ 0) = true := by simpa using hi
    have hb : boundsI i n = true := by simp [boundsI, hi, h5]
    have hw : W (i - 1) = i - 1 := W_in (by omega)
    have hdx := drop_at (xs := xs) hi (by omega)
    have hj : j ≤ n := by rw [← h7, h6]; simp; omega
    have hrm : (Nat.beq j j && room12 (j + 1)) = true := by rw [Nat.beq_refl, room12_ok (by omega)]; rfl
    left
    refine ⟨⟨.b, own, n, xs, n1, r1, n2, r2, n3, r3, n4, r4, n5, r5, n6, r6, sd, k, l13, l15, l17, j + 1, ms ++ [atO xs i], i - 1⟩, lcH .b own n xs n1 r1 n2 r2 n3 r3 n4 r4 n5 r5 n6 r6 sd k l13 l15 l17 (match sh with
      | .b => j + 1
      | _ => 1) (match sh with
      | .b => catR j (opRow ms) (chop 12 0 (atO xs i).cells)
      | _ => chop 12 0 (atO xs i).cells) (i - 1), ?_, ?_, ?_, by simp only; omega, rfl⟩
    · unfold lcHg
      cases sh with
      | e => simp only [lcRe, hd, hb, hw]
      | a => exact absurd rfl h9
      | b => simp only [lcRb, hd, hb, hw, hrm, gd_true]
    · cases sh with
      | e => have : ms = [] := h8; subst this; have : j = 0 := h7.symm; subst this; exact ⟨rfl, .refl _, .refl _, .refl _, .refl _, .refl _, .refl _, .refl _, like_chop _, trivial⟩
      | a => exact absurd rfl h9
      | b => exact ⟨rfl, .refl _, .refl _, .refl _, .refl _, .refl _, .refl _, .refl _, like_nr h7 _, trivial⟩
    · unfold lcI
      simp only
      refine ⟨h1, h2, h3, by omega, by omega, ?_, by simp [h7], by simp [shOk], by simp⟩
      rw [show (i - 1 + 1).toNat = i.toNat by congr 1; omega, hdx, List.reverse_cons, h6]
  · have hd : decide (i ≥ 0) = false := by simpa using hi
    have hi' : i = -1 := by omega
    subst hi'
    have hm : ms = xs.reverse := by rw [h6]; simp
    have hj : j = n := by rw [← h7, hm]; simp [h1]
    right
    refine ⟨lcE .b own n xs n1 r1 n2 r2 n3 r3 n4 r4 n5 r5 n6 r6 sd k l13 l15 l17 j (opRow ms), ?_, ?_, by unfold lcO; simp⟩
    · unfold lcO lcHg
      cases sh with
      | e => exfalso; have : ms = [] := h8; rw [this] at hm; simp at hm; rw [hm] at h1; simp at h1; omega
      | a => exact absurd rfl h9
      | b => simp only [lcRb, hd]
    · unfold lcO
      rw [hm, hj]
      exact StLike.refl _
structure LcB where
  (own : Bool) (n0 : Nat) (r0 : Nat → List Value) (n1 : Nat) (r1 : Nat → List Value) (n2 : Nat) (r2 : Nat → List Value) (n3 : Nat) (r3 : Nat → List Value) (n4 : Nat) (r4 : Nat → List Value) (n5 : Nat) (r5 : Nat → List Value) (n6 : Nat) (r6 : Nat → List Value)
def lcD : Mem → Option LcB
  | [.rows own true 12 n0 r0, .rows true true 12 n1 r1, .rows true true 12 n2 r2, .rows true true 9 n3 r3, .rows true true 3 n4 r4, .rows true true 12 n5 r5, .rows true true 12 n6 r6] => some ⟨own, n0, r0, n1, r1, n2, r2, n3, r3, n4, r4, n5, r5, n6, r6⟩
  | _ => none
theorem lcD_spec {m : Mem} {b : LcB} (h : lcD m = some b) : m = [.rows b.own true 12 b.n0 b.r0, .rows true true 12 b.n1 b.r1, .rows true true 12 b.n2 b.r2, .rows true true 9 b.n3 b.r3, .rows true true 3 b.n4 b.r4, .rows true true 12 b.n5 b.r5, .rows true true 12 b.n6 b.r6] := by
  unfold lcD at h
  split at h
  · simp only [Option.some.injEq] at h
    subst h
    rfl
  · cases h
def lcS (st : St) : Option (Ans (Exit × St)) :=
  match Nat.beq st.tmps.length 188, tAt st 0, tAt st 1, tAt st 4, tAt st 5, tAt st 13, tAt st 14, tAt st 15, tAt st 16, tAt st 17, tAt st 18, tAt st 19, tAt st 20, lcD (thaw (killV st.mem)) with
  | true, some (.slice (some ⟨0, 0, some 0⟩) n 12), some (.int .i64 sd), some (.bool false), some (.slice (some ⟨2, 0, some 0⟩) k 12), some (.slice (some ⟨3, 0, some 0⟩) l13 9), some (.int .i64 0), some (.slice (some ⟨4, 0, some 0⟩) l15 3), some (.int .i64 0), some (.slice (some ⟨6, 0, some 0⟩) l17 12), some (.int .i64 0), some (.slice none 0 0), some (.int .i64 i), some b => some (.br (Nat.beq n b.n0 && (okOps n b.r0 && (decide (i = (n : Int) - 1) && (decide (1 ≤ n) && decide (n ≤ 1048576))))) (.out (.exit 4, lcE .b b.own n (opsOf n b.r0) b.n1 b.r1 b.n2 b.r2 b.n3 b.r3 b.n4 b.r4 b.n5 b.r5 b.n6 b.r6 sd k l13 l15 l17 n (opRow (opsOf n b.r0).reverse))) .fail)
  | _, _, _, _, _, _, _, _, _, _, _, _, _, _ => none
theorem lcK {st : St} {ans : Ans (Exit × St)} {e_ : Exit} {s_ : St} (h : lcS st = some ans) (hr : ans.res = some (e_, s_)) : LoopSem Try.prog 1 (lcX Try.prog) st e_ s_ := by
  unfold lcS at h
  split at h
  rotate_left
  · cases h
  rename_i n sd k l13 l15 l17 i b hb hs0 hs1 hs4 hs5 hs13 hs14 hs15 hs16 hs17 hs18 hs19 hs20 hD
  simp only [Option.some.injEq] at h
  subst h
  rcases Ans.br_some hr with ⟨hc, hr1⟩ | ⟨_, hr1⟩
  rotate_left
  · simp [Ans.res] at hr1
  clear hr
  simp only [Bool.and_eq_true, decide_eq_true_eq] at hc
  obtain ⟨c1, c2, c3, c4, c5⟩ := hc
  have c1 := beq_len c1
  have hmem := lcD_spec hD
  rw [← c1] at hmem
  have hI : lcI ⟨.e, b.own, n, opsOf n b.r0, b.n1, b.r1, b.n2, b.r2, b.n3, b.r3, b.n4, b.r4, b.n5, b.r5, b.n6, b.r6, sd, k, l13, l15, l17, 0, [], i⟩ := by
    unfold lcI
    simp only
    refine ⟨opsOf_length n b.r0, c4, c5, by omega, by omega, ?_, rfl, rfl, by simp⟩
    rw [List.drop_eq_nil_of_le (by rw [opsOf_length]; omega)]
    rfl
  have key := lcL _ hI
  have hlike : LikeL (thaw (killV st.mem)) (lcM .e b.own n (opsOf n b.r0) b.n1 b.r1 b.n2 b.r2 b.n3 b.r3 b.n4 b.r4 b.n5 b.r5 b.n6 b.r6 0 (opRow [])) := by
    rw [hmem]
    exact ⟨.rows (ops_like c2), .refl _, .refl _, .refl _, .refl _, .refl _, .refl _, trivial⟩
  have key := LoopSem.like (m := thaw (killV st.mem)) key hlike
  have key := LoopSem.fresh key
  have hk : keepL [0, 1, 4, 5, 13, 14, 15, 16, 17, 18, 19, 20] 0 st.tmps = (lcH .e b.own n (opsOf n b.r0) b.n1 b.r1 b.n2 b.r2 b.n3 b.r3 b.n4 b.r4 b.n5 b.r5 b.n6 b.r6 sd k l13 l15 l17 0 (opRow []) i).tmps := by
    have := keep_eq [(0, .slice (some ⟨0, 0, some 0⟩) n 12), (1, .int .i64 sd), (4, .bool false), (5, .slice (some ⟨2, 0, some 0⟩) k 12), (13, .slice (some ⟨3, 0, some 0⟩) l13 9), (14, .int .i64 0), (15, .slice (some ⟨4, 0, some 0⟩) l15 3), (16, .int .i64 0), (17, .slice (some ⟨6, 0, some 0⟩) l17 12), (18, .int .i64 0), (19, .slice none 0 0), (20, .int .i64 i)] st.tmps 0 (by
      intro x hx _
      simp only [List.mem_cons, List.not_mem_nil, or_false] at hx
      rcases hx with rfl | rfl | rfl | rfl | rfl | rfl | rfl | rfl | rfl | rfl | rfl | rfl
      · exact hs0
      · exact hs1
      · exact hs4
      · exact hs5
      · exact hs13
      · exact hs14
      · exact hs15
      · exact hs16
      · exact hs17
      · exact hs18
      · exact hs19
      · exact hs20)
    rw [show (keepL [0, 1, 4, 5, 13, 14, 15, 16, 17, 18, 19, 20] 0 st.tmps) = _ from this, beq_len hb]
    rfl
  simp only [Ans.res, Option.some.injEq, Prod.mk.injEq] at hr1
  obtain ⟨rfl, rfl⟩ := hr1
  refine LoopSem.clean (mask := [0, 1, 4, 5, 13, 14, 15, 16, 17, 18, 19, 20]) ?_
  rw [hk]
  exact key
def Cqc (P : Program) : Cx := (Cqb P).addLB 3 26 1 lcS
theorem okqc : CxOk (Cqc Try.prog) := Cx.addLB_ok okqb lcX_eq fun _ _ _ _ h hr => lcK h hr
end Go.Proofs.Ytggdbakgiknogaa


namespace Go.Proofs.Ytggdbakgiknogaa
open Go Vx
def gn {α : Type} (b : Bool) (x : Option α) : Option α := match b with
  | true => none
  | false => x
theorem gn_false {α : Type} (x : Option α) : gn false x = x := rfl
/-- So many rows are lent. -/
def lk (k : Nat) : Bool := Nat.ble (0 + k) k && true
theorem lk_true (k : Nat) : lk k = true := by unfold lk; rw [Nat.zero_add, Nat.ble_self_eq_true k]; rfl
def lk2 (k l : Nat) : Bool := Nat.ble (0 + k) k && (Nat.ble (0 + l) l && true)
theorem lk2_true (k l : Nat) : lk2 k l = true := by unfold lk2; rw [Nat.zero_add, Nat.zero_add, Nat.ble_self_eq_true k, Nat.ble_self_eq_true l]; rfl
def ansR (own : Bool) (n : Nat) (X : List O3) (b : Bool) : Option (Value × Mem) := some (.bool b, [.rows own true 12 n (opRow X)])
def bI (k : Nat) (row : Nat → List Value) : Bool := Nat.beq k k && (okOps k row && decide (k ≤ 4611686018427387904))
theorem bI_ok {k : Nat} {X : List O3} (h : k ≤ 4611686018427387904) : bI k (opRow X) = true := by unfold bI; rw [Nat.beq_refl, okOps_opRow]; simpa using h
def idxI (sd : Int) (k : Nat) : Int := Int.tmod (W (Int.tmod sd (k : Int) + (k : Int))) (k : Int)
/-- The end: the lists again, against the group. -/
def glEnd (own : Bool) (n : Nat) (X : List O3) (R C : Nat) (A B : List O3) (k : Nat) (G : List O3) : Option (Value × Mem) :=
  match W ((R : Int) * (C : Int)) == (k : Int) with
  | true => gd (lk2 A.length k) (gd (ssT A.length k (opRow A) (opRow G)) (gd (sameB (opsOf A.length (opRow A)) (opsOf k (opRow G))) (gd (lk2 B.length k) (gd (ssT B.length k (opRow B) (opRow G)) (gd (sameB (opsOf B.length (opRow B)) (opsOf k (opRow G))) (ansR own n X true))))))
  | false => ansR own n X false
def glTurn (own : Bool) (n : Nat) (X : List O3) (R C : Nat) (A : List O3) (k : Nat) (G : List O3) (sd : Int) : Option (Value × Mem) :=
  match decide ((n : Int) < 192) with
  | true => gn ((k : Int) == 0) (gn ((k : Int) == 0) (gd (boundsI (idxI sd k) k) (gd (Nat.beq n n && room12 (n + 1)) (gd (lk (n + 1)) (gd (oT (n + 1) (catR n (opRow X.reverse) (chop 12 0 (atO G (idxI sd k)).cells))) (gd (clsOk (opsOf (n + 1) (catR n (opRow X.reverse) (chop 12 0 (atO G (idxI sd k)).cells)))) (glEnd own n X R C A (clsG (opsOf (n + 1) (catR n (opRow X.reverse) (chop 12 0 (atO G (idxI sd k)).cells)))) k G)))))))
  | false => gd (lk n) (gd (oT n (opRow X.reverse)) (gd (clsOk (opsOf n (opRow X.reverse))) (glEnd own n X R C A (clsG (opsOf n (opRow X.reverse))) k G)))
def glAgain (own : Bool) (n : Nat) (X : List O3) (k : Nat) (G : List O3) (sd : Int) : Option (Value × Mem) :=
  gd (lk k) (gd (bI k (opRow G)) (gn (chkI (opsOf k (opRow G)) != 0) (gd (lk k) (gd (bI k (opRow G)) (gn (chkI (opsOf k (opRow G)) != 0) (gd (lk k) (gd (twT k (opRow G)) (gn (Nat.beq k 0) (gd (lk k) (gd (oT k (opRow (opsOf k (opRow G)))) (gd (clsOk (opsOf k (opRow (opsOf k (opRow G)))))
    (gd (Nat.beq n n && (okOps n (opRow X) && (decide (W ((n : Int) - 1) = (n : Int) - 1) && (decide (1 ≤ n) && decide (n ≤ 1048576)))))
      (glTurn own n (opsOf n (opRow X)) (rotsT (opsOf k (opRow G))).length (cens (opsOf k (opRow G))).length (clsG (opsOf k (opRow (opsOf k (opRow G))))) k G sd)))))))))))))
def glT1 (n : Nat) (X Z : List O3) (k : Nat) (G : List O3) : Bool := Nat.beq n n && (okOps n (opRow X) && (Nat.beq n n && (okOps n (opRow Z) && (Nat.beq k k && (okOps k (opRow G) && (Nat.beq n n && (decide ((n : Int) = (n : Int)) && (decide ((n : Int) ≤ 4611686018427387904) && (decide (k ≤ 4611686018427387904) && allF (opsOf k (opRow G)) (opsOf n (opRow X)))))))))))
def glT2 (n : Nat) (X Z : List O3) (k : Nat) (G : List O3) : Bool := Nat.beq n n && (okOps n (opRow X) && (Nat.beq n n && (okOps n (opRow Z) && (Nat.beq k k && (okOps k (opRow G) && (Nat.beq k k && (decide ((k : Int) = (k : Int)) && (decide ((k : Int) ≤ 4611686018427387904) && ordG (opsOf k (opRow G))))))))))
def glMid (own : Bool) (n : Nat) (X Z : List O3) (k : Nat) (G : List O3) (sd : Int) : Option (Value × Mem) :=
  gd (lk k) (gd (oT k (opRow G)) (gd (chkI (opsOf k (opRow G)) == 0) (match decide ((k : Int) > 192) with
    | true => ansR own n X false
    | false => match decide ((k : Int) < 1) with
      | true => ansR own n X false
      | false => gd (glT1 n X Z k G) (gd (glT2 n (opsOf n (opRow X)) (opsOf n (opRow Z)) k (opsOf k (opRow G))) (glAgain own n (opsOf n (opRow (opsOf n (opRow X)))) k (opsOf k (opRow (opsOf k (opRow G)))) sd)))))
theorem glE1 (own : Bool) (n : Nat) (xs : List O3) (sd : Int) : exT ((Cqc Try.prog).at 3) 80 Try.f3 [.slice (some ⟨0, 0, some 0⟩) n 12, vI sd] [.rows own true 12 n (opRow xs)] [.fix 0] =
    gd (lk n) (gd (twT n (opRow xs)) (gn (Nat.beq n 0) (gd (lk n) (gd (oT n (opRow (opsOf n (opRow xs)))) (gd (clsOk (opsOf n (opRow (opsOf n (opRow xs)))))
      (glMid own n xs (opsOf n (opRow xs)) (clsG (opsOf n (opRow (opsOf n (opRow xs))))).length (clsG (opsOf n (opRow (opsOf n (opRow xs))))) sd)))))) := by kernel_rfl
/-- Close answers an error. -/
def Cqd (P : Program) : Cx := (((Cpb P).good 13 [true, false]).road 12 [true, false]).good 14 [true]
theorem okqd : CxOk (Cqd Try.prog) := Cx.good_ok (Cx.road_ok (Cx.good_ok okpb _ _) _ _) _ _
theorem glE2 (own : Bool) (n : Nat) (xs : List O3) (sd : Int) : exT ((Cqd Try.prog).at 3) 80 Try.f3 [.slice (some ⟨0, 0, some 0⟩) n 12, vI sd] [.rows own true 12 n (opRow xs)] [.fix 0] =
    gd (lk n) (gd (twT n (opRow xs)) (gn (Nat.beq n 0) (gd (lk n) (gd (oT n (opRow (opsOf n (opRow xs)))) (gn (clsOk (opsOf n (opRow (opsOf n (opRow xs)))))
      (match clsErr (opsOf n (opRow (opsOf n (opRow xs)))) != 0 with
      | true => match clsErr (opsOf n (opRow (opsOf n (opRow xs)))) == 2 with
        | true => ansR own n xs true
        | false => match clsErr (opsOf n (opRow (opsOf n (opRow xs)))) == 3 with
          | true => ansR own n xs true
          | false => match clsErr (opsOf n (opRow (opsOf n (opRow xs)))) == 4 with
            | true => ansR own n xs true
            | false => ansR own n xs (clsErr (opsOf n (opRow (opsOf n (opRow xs)))) == 5)
      | false => none)))))) := by kernel_rfl
/-- A list of nothing. -/
def Cqe (P : Program) : Cx := (((((((Cpb P).good 13 [true]).good 12 [true, true]).good 14 [true]).good 15 [true]).good 17 [true, false]).good 18 [true, false]).good 19 [true]
theorem okqe : CxOk (Cqe Try.prog) := Cx.good_ok (Cx.good_ok (Cx.good_ok (Cx.good_ok (Cx.good_ok (Cx.good_ok (Cx.good_ok okpb _ _) _ _) _ _) _ _) _ _) _ _) _ _
def glZ (sd : Int) : List O3 := opsOf 1 (chop 12 0 (atO [O3.one] (idxI sd 1)).cells)
theorem glE3 (sd : Int) : exT ((Cqe Try.prog).at 3) 80 Try.f3 [.slice none 0 0, vI sd] [] [] =
    gd (boundsI (idxI sd 1) 1) (gd (clsOk (glZ sd)) (gd (lk2 (clsG (glZ sd)).length 1) (gd (ssT (clsG (glZ sd)).length 1 (opRow (clsG (glZ sd))) (opRow [O3.one])) (gd (sameB (opsOf (clsG (glZ sd)).length (opRow (clsG (glZ sd)))) [O3.one]) (some (.bool true, [])))))) := by kernel_rfl
theorem glE4 (own : Bool) (sd : Int) : exT ((Cqe Try.prog).at 3) 80 Try.f3 [.slice (some ⟨0, 0, some 0⟩) 0 12, vI sd] [.rows own true 12 0 (opRow [])] [.fix 0] =
    gd (boundsI (idxI sd 1) 1) (gd (clsOk (glZ sd)) (gd (lk2 (clsG (glZ sd)).length 1) (gd (ssT (clsG (glZ sd)).length 1 (opRow (clsG (glZ sd))) (opRow [O3.one])) (gd (sameB (opsOf (clsG (glZ sd)).length (opRow (clsG (glZ sd)))) [O3.one]) (some (.bool true, [.rows own true 12 0 (opRow [])])))))) := by kernel_rfl
end Go.Proofs.Ytggdbakgiknogaa


namespace Go.Proofs.Ytggdbakgiknogaa
open Go Vx

theorem bld_drop {α : Type} {X : List O3} {p : O3 → Bool} {f : O3 → α} : ∀ (c : Nat) (i : Int) (ms : List α), 0 ≤ i → i + (c : Int) = (X.length : Int) → bld (fun i => p (atO X i)) (fun i => f (atO X i)) c i ms = ms ++ ((X.drop i.toNat).filter p).map f
  | 0, i, ms, h0, h => by
    have : X.drop i.toNat = [] := List.drop_eq_nil_of_le (by omega)
    rw [this]; simp [bld]
  | c + 1, i, ms, h0, h => by
    have hd := drop_at (xs := X) (i := i) h0 (by omega)
    have ih := fun ms => bld_drop (X := X) (p := p) (f := f) c (i + 1) ms (by omega) (by omega)
    simp only [bld]
    rw [hd, List.filter_cons]
    cases hp : p (atO X i) with
    | true => simp only [if_true, List.map_cons]; rw [ih]; simp
    | false => simp only [ih]; simp
theorem cens_len (X : List O3) : (cens X).length = (X.filter fun x => x.r.eqB M3.one).length := by
  unfold cens
  rw [bld_drop (p := fun x => x.r.eqB M3.one) (f := fun x => x.t) X.length 0 [] (by omega) (by omega)]
  simp
def rotG (m : M3) : List O3 → List M3
  | [] => []
  | o :: l => match o.r.eqB m with
    | true => rotG o.r l
    | false => o.r :: rotG o.r l
theorem bld_rot {X : List O3} : ∀ (c : Nat) (i : Int) (ms : List M3), 1 ≤ i → i + (c : Int) = (X.length : Int) → bld (fun i => rotT X i) (fun i => (atO X i).r) c i ms = ms ++ rotG (atO X (i - 1)).r (X.drop i.toNat)
  | 0, i, ms, h0, h => by
    have : X.drop i.toNat = [] := List.drop_eq_nil_of_le (by omega)
    rw [this]; simp [bld, rotG]
  | c + 1, i, ms, h0, h => by
    have hd := drop_at (xs := X) (i := i) (by omega) (by omega)
    have ih := fun ms => bld_rot (X := X) c (i + 1) ms (by omega) (by omega)
    have hz : (i == 0) = false := by simp; omega
    have ht : rotT X i = !((atO X i).r.eqB (atO X (i - 1)).r) := by unfold rotT; rw [hz]
    have e1 : i + 1 - 1 = i := by omega
    rw [hd]
    simp only [bld, ht, rotG]
    cases hp : (atO X i).r.eqB (atO X (i - 1)).r with
    | true => simp only [Bool.not_true]; rw [ih, e1]
    | false => simp only [Bool.not_false]; rw [ih, e1]; simp
theorem rotsT_cons (q : O3) (l : List O3) : rotsT (q :: l) = q.r :: rotG q.r l := by
  unfold rotsT
  rw [List.length_cons]
  have h1 : bld (fun i => rotT (q :: l) i) (fun i => (atO (q :: l) i).r) (l.length + 1) 0 [] = bld (fun i => rotT (q :: l) i) (fun i => (atO (q :: l) i).r) l.length 1 [q.r] := rfl
  rw [h1, bld_rot l.length 1 [q.r] (by omega) (by simp; omega)]
  rfl
theorem M3.l_inj {a b : M3} (h : a.l = b.l) : a = b := by
  cases a; cases b; simp [M3.l] at h; simp [h]
theorem lex_r {a b : O3} (h : lexI a.l b.l < 0) : a.r = b.r ∨ lexI a.r.l b.r.l < 0 := by
  have e : lexI a.l b.l = if lexI a.r.l b.r.l ≠ 0 then lexI a.r.l b.r.l else lexI a.t.l b.t.l := lexI_append a.r.l b.r.l a.t.l b.t.l rfl
  by_cases hz : lexI a.r.l b.r.l = 0
  · exact Or.inl (M3.l_inj ((lexI_zero (l := a.r.l) (m := b.r.l) rfl).1 hz))
  · rw [e, if_pos hz] at h
    exact Or.inr h
theorem lex_lt {a b c : M3} (h1 : lexI a.l b.l < 0) (h2 : lexI b.l c.l < 0) : lexI a.l c.l < 0 := by
  have h := lexI_trans (l := a.l) (m := b.l) (n := c.l) rfl rfl (by omega) (by omega)
  by_cases hz : lexI a.l c.l = 0
  · have e : a.l = c.l := (lexI_zero (l := a.l) (m := c.l) rfl).1 hz
    have := lexI_neg b.l c.l
    rw [← e] at this h2
    have := lexI_neg a.l b.l
    omega
  · omega
theorem rotG_spec : ∀ (l : List O3) (q : O3), StrictO (q :: l) → (∀ m ∈ rotG q.r l, lexI q.r.l m.l < 0) ∧ (rotG q.r l).Nodup ∧ ∀ d, (d = q.r ∨ d ∈ rotG q.r l) ↔ ∃ o ∈ q :: l, o.r = d
  | [], q, _ => ⟨by simp [rotG], by simp [rotG], fun d => by simp [rotG, eq_comm]⟩
  | o :: l, q, h => by
    have h2 : StrictO (o :: l) := (List.pairwise_cons.1 h).2
    have h1 : lexI q.l o.l < 0 := (List.pairwise_cons.1 h).1 o (List.mem_cons_self ..)
    obtain ⟨i1, i2, i3⟩ := rotG_spec l o h2
    simp only [rotG]
    cases he : o.r.eqB q.r with
    | true =>
      have e := M3.eqB_iff.1 he
      refine ⟨fun m hm => by rw [← e]; exact i1 m hm, i2, fun d => ?_⟩
      rw [← e, i3 d]
      constructor
      · rintro ⟨x, hx, rfl⟩; exact ⟨x, List.mem_cons_of_mem _ hx, rfl⟩
      · rintro ⟨x, hx, rfl⟩
        rcases List.mem_cons.1 hx with rfl | hx
        · exact ⟨o, List.mem_cons_self .., e⟩
        · exact ⟨x, hx, rfl⟩
    | false =>
      have hne := M3.eqB_false.1 he
      have hlt : lexI q.r.l o.r.l < 0 := by
        rcases lex_r h1 with e | e
        · exact absurd e.symm hne
        · exact e
      refine ⟨?_, ?_, fun d => ?_⟩
      · intro m hm
        rcases List.mem_cons.1 hm with rfl | hm
        · exact hlt
        · exact lex_lt hlt (i1 m hm)
      · refine List.nodup_cons.2 ⟨fun hm => ?_, i2⟩
        have := i1 _ hm
        have hz : lexI o.r.l o.r.l = 0 := (lexI_zero rfl).2 rfl
        omega
      · rw [List.mem_cons, i3 d]
        constructor
        · rintro (rfl | ⟨x, hx, rfl⟩)
          · exact ⟨q, List.mem_cons_self .., rfl⟩
          · exact ⟨x, List.mem_cons_of_mem _ hx, rfl⟩
        · rintro ⟨x, hx, rfl⟩
          rcases List.mem_cons.1 hx with rfl | hx
          · exact Or.inl rfl
          · exact Or.inr ⟨x, hx, rfl⟩
/-- The count of a group in order is that of Rotations times that of Centring. -/
theorem rots_cens {X : List O3} (hg : Grp X) (hs : StrictO X) : (rotsT X).length * (cens X).length = X.length := by
  rw [cens_len]
  cases X with
  | nil => exact absurd hg.one (by simp)
  | cons q l =>
    obtain ⟨i1, i2, i3⟩ := rotG_spec l q hs
    rw [rotsT_cons]
    refine parts_len hg (List.nodup_cons.2 ⟨fun hm => ?_, i2⟩) fun d => ?_
    · have := i1 _ hm
      have hz : lexI q.r.l q.r.l = 0 := (lexI_zero rfl).2 rfl
      omega
    · rw [List.mem_cons]; exact i3 d
end Go.Proofs.Ytggdbakgiknogaa

/-
  What the executor says of an operation that is no call, the machine does. Nothing here is trusted.
-/
import Derived.Test.YtjhijkdicmbbiaaKac

namespace Go.Proofs.Ytjhijkdicmbbiaa.Vx
open Go Go.RowKit

section
variable {P : Program} {w0 : World} {keep : Keep} {r : Ren} {tm : List Value} {m m' : Mem} {a : Act} {w : World} {cs : CallsX} {pos : Pos} {v : Value} {e : Eff} {cls : Nat}

/-- The bounds of a slice expression. -/
theorem bounds_run (hr : RelAt w0 keep r ⟨tm, m⟩ a w) {lo hi : Option Operand} {len cap h l : Nat} (hn : len ≤ cap) (hh : (sliceHi tm hi len).res = some h)
    (hl : (lo = none ∧ l = 0) ∨ ∃ x kd i, lo = some x ∧ ev tm x = .int kd i ∧ 0 ≤ i ∧ i ≤ (h : Int) ∧ l = i.toNat) (isS : Bool) :
    h ≤ len ∧ (Instr.sliceBounds isS len cap (lo.map a.eval) (hi.map a.eval) none).run P w = .ok (l, h, cap) w := by
  have hlow : ∀ x kd i, ev tm x = .int kd i → 0 ≤ i → i ≤ (h : Int) → ∀ code, (Instr.sliceBound (a.eval x) h code).run P w = .ok i.toNat w := by
    intro x kd i he b1 b2 code
    have hx := eval_R hr x
    simp only at hx
    rw [he] at hx
    simp only [R_int hx, Instr.sliceBound, asIntOf, Sem.run_bind, Sem.run_pure, Result.andThen_ok]
    rw [if_pos ⟨b1, b2⟩]
    rfl
  unfold sliceHi at hh
  cases hi with
  | none =>
    simp only [Ans.res, Option.some.injEq] at hh
    subst hh
    refine ⟨Nat.le_refl _, ?_⟩
    rcases hl with ⟨rfl, rfl⟩ | ⟨x, kd, i, rfl, he, b1, b2, rfl⟩
    · rfl
    · simp only [Instr.sliceBounds, Option.map_none, Option.map_some, Sem.run_bind, Sem.run_pure, Result.andThen_ok, hlow x kd i he b1 b2]
  | some x =>
    simp only at hh
    have hx := eval_R hr x
    simp only at hx
    split at hh
    · rename_i kd i hq
      rw [hq] at hx
      have hx' := R_int hx
      rcases Ans.br_some hh with ⟨hb, hh⟩ | ⟨hb, hh⟩
      · simp only [Ans.res, Option.some.injEq] at hh
        subst hh
        obtain ⟨b1, b2⟩ := leI_iff hb
        refine ⟨by omega, ?_⟩
        have hb2 : ∀ code, (Instr.sliceBound (.int kd i) cap code).run P w = .ok i.toNat w := fun code => by
          simp only [Instr.sliceBound, asIntOf, Sem.run_bind, Sem.run_pure, Result.andThen_ok]
          rw [if_pos ⟨b1, by omega⟩]
          rfl
        rcases hl with ⟨rfl, rfl⟩ | ⟨x, kd, i', rfl, he, c1, c2, rfl⟩
        · simp only [Instr.sliceBounds, Option.map_none, Option.map_some, hx', Sem.run_bind, Sem.run_pure, Result.andThen_ok, hb2]
        · simp only [Instr.sliceBounds, Option.map_some, hx', Sem.run_bind, Sem.run_pure, Result.andThen_ok, hb2, hlow x kd i' he c1 c2]
      · simp [Ans.res] at hh
    · simp [Ans.res] at hh

theorem act_slice {o : Oper} {t : TypeId} {x : Operand} {lo hi mx : Option Operand} (ho : o.op = .slice t x lo hi mx) (hr : RelAt w0 keep r ⟨tm, m⟩ a w) (h : (effOf0 P cs tm o).res = some e) (g : (runE cls pos m e).res = some (v, m')) : Ran P w0 keep r a w o v m' := by
  unfold effOf0 at h
  simp only [ho] at h
  cases mx with
  | some mx => simp [Ans.res] at h
  | none =>
    simp only at h
    have hx := eval_R hr x
    simp only at hx
    split at h
    · rename_i q n el hq hu
      rw [hq] at hx
      obtain ⟨q', hq', hl⟩ := R_ptr hx
      split at h
      · rename_i j hj
        simp only [Ans.res, Option.some.injEq] at h
        subst h
        obtain ⟨k, h1, h2, rfl⟩ := readE g
        split at h2
        · rename_i ow esz c
          split at h2
          · rename_i hb
            simp only [Bool.and_eq_true] at hb
            simp only [Ans.res, Option.some.injEq] at h2
            subst h2
            have hz : esz = 0 := Nat.eq_of_beq_eq_true hb.1
            have hn : 0 < n := Nat.blt_eq.mp hb.2.1
            have hsp : q.spot = none := by
              have := hb.2.2
              revert this
              cases q.spot <;> simp
            obtain ⟨p, hp, rfl, hh, hk⟩ := live_of hr h1 hl (by simp)
            have hpe : p.esz = 0 := hk.2.1.trans hz
            refine Ran.val hr (v' := .slice (some (p.addr q)) n n) ?_ (R_sl_mk (Nat.le_refl _) (Or.inr ⟨p, hp, rfl, Nat.le_refl _, fun i hi => (by rw [hsp] at hi; cases hi), fun h => absurd hpe h, fun h => absurd hsp h, fun _ h => absurd hpe h⟩))
            simp only [execOp, ho, hq', Instr.sliceAt, Option.map_none]
            refine run_value ?_
            simp only [Sem.run_bind, underlying_run hu, Result.andThen_ok, sure, Instr.sliceBounds, Sem.run_pure, sizeOf_run hj]
            rw [if_neg (by omega)]
            simp [Addr.add]
          · simp [Ans.res] at h2
        · simp [Ans.res] at h2
      · simp [Ans.res] at h
    · rename_i q len c el hq hu
      rw [hq] at hx
      obtain ⟨q', c', hq', hnc, hl⟩ := R_sl hx
      split at h
      · rename_i j hj
        split at h
        · rename_i hc
          have hc' : j.size = c := Nat.eq_of_beq_eq_true hc
          obtain ⟨hh, h1, h2⟩ := Ans.bind_some h
          split at h2
          · simp only [Ans.res, Option.some.injEq] at h2
            subst h2
            obtain ⟨rfl, rfl⟩ := valE g
            obtain ⟨hle, hrun⟩ := bounds_run (P := P) (lo := none) hr hnc h1 (Or.inl ⟨rfl, rfl⟩) true
            refine Ran.val hr (v' := .slice (some q') hh c') ?_ ?_
            · simp only [execOp, ho, hq', Instr.sliceAt]
              refine run_value ?_
              simp only [Option.map_none] at hrun
              simp only [Option.map_none, Sem.run_bind, underlying_run hu, Result.andThen_ok, Instr.slice, hrun, sizeOf_run hj]
              by_cases h0 : c' = 0
              · simp [h0]
              · simp [h0, Addr.add]
            · refine R_sl_mk (by omega) ?_
              rcases hl with hl | ⟨p, hp, rfl, hs⟩
              · exact Or.inl hl
              · exact Or.inr ⟨p, hp, rfl, by omega, fun i hi => by have := hs.2.1 i hi; omega, hs.2.2.1, hs.2.2.2.1, hs.2.2.2.2⟩
          · rename_i xl
            have hxl := eval_R hr xl
            simp only at hxl
            split at h2
            · rename_i kd i hi
              rw [hi] at hxl
              rcases Ans.br_some h2 with ⟨hb, h2⟩ | ⟨hb, h2⟩
              · obtain ⟨b1, b2⟩ := leI_iff hb
                obtain ⟨hle, hrun⟩ := bounds_run (P := P) (lo := some xl) hr hnc h1 (Or.inr ⟨xl, kd, i, rfl, hi, b1, b2, rfl⟩) true
                rcases Ans.br_some h2 with ⟨hb3, h2⟩ | ⟨hb4, h2⟩
                rotate_left
                · simp only [Ans.res, Option.some.injEq] at h2
                  subst h2
                  obtain ⟨rfl, rfl⟩ := valE g
                  have hz : hh - i.toNat = 0 := by
                    have : ¬ i < (len : Int) := by simpa using hb4
                    omega
                  refine Ran.val hr (v' := .slice (if c' = i.toNat then some q' else (some q').map (·.add (i.toNat * j.size))) (hh - i.toNat) (c' - i.toNat)) ?_ (R_emp.2 (by rw [hz]; by_cases he : c' = i.toNat <;> simp [he]))
                  simp only [execOp, ho, hq', Instr.sliceAt]
                  refine run_value ?_
                  simp only [Option.map_none, Sem.run_bind, underlying_run hu, Result.andThen_ok, Instr.slice, hrun, sizeOf_run hj]
                  rfl
                simp only [Ans.res, Option.some.injEq] at h2
                subst h2
                obtain ⟨rfl, rfl⟩ := valE g
                have b3 : i < (len : Int) := by simpa using hb3
                refine Ran.val hr (v' := .slice (some (q'.add (i.toNat * j.size))) (hh - i.toNat) (c' - i.toNat)) ?_ ?_
                · simp only [execOp, ho, hq', Instr.sliceAt]
                  refine run_value ?_
                  simp only [Option.map_none, Sem.run_bind, underlying_run hu, Result.andThen_ok, Instr.slice, hrun, sizeOf_run hj]
                  rw [if_neg (by omega)]
                  rfl
                · refine R_sl_mk (by omega) ?_
                  rw [onto_block]
                  rcases hl with hl | ⟨p, hp, rfl, hs⟩
                  · exact Or.inl hl
                  · have had : (p.addr q).add (i.toNat * j.size) = p.addr (Addr.onto q j.size i.toNat) := by
                      rw [onto_addr (fun hs' => by rw [hc']; exact hs.2.2.2.1 hs')]
                      have : p.addr q = ⟨p.blk, (p.addr q).off, none⟩ := rfl
                      rw [this, add_none]
                    refine Or.inr ⟨p, hp, had, by omega, onto_has hs.2.1 (by omega), hs.2.2.1, fun h => hs.2.2.2.1 (onto_spot h), fun h0 h1 => ?_⟩
                    have := hs.2.2.2.2 h0 h1
                    rw [← had]
                    have e1 : p.addr q = ⟨p.blk, (p.addr q).off, none⟩ := rfl
                    rw [e1, add_none]
                    simp only
                    rw [hc', ← hs.2.2.1 h1]
                    have : i.toNat * p.esz + (c' - i.toNat) * p.esz = c' * p.esz := by rw [← Nat.add_mul]; congr 1; omega
                    omega
              · simp [Ans.res] at h2
            · simp [Ans.res] at h2
        · simp [Ans.res] at h
      · simp [Ans.res] at h
    · rename_i el hq hu
      rw [hq] at hx
      have hx' : a.eval x = .slice none 0 0 := (R_plain (v := .slice none 0 0) rfl).1 hx
      split at h
      rotate_left
      · simp [Ans.res] at h
      rename_i j hj
      obtain ⟨hh, h1, h2⟩ := Ans.bind_some h
      split at h2
      · simp only [Ans.res, Option.some.injEq] at h2
        subst h2
        obtain ⟨rfl, rfl⟩ := valE g
        obtain ⟨hle, hrun⟩ := bounds_run (P := P) (lo := none) hr (Nat.le_refl 0) h1 (Or.inl ⟨rfl, rfl⟩) true
        have h0 : hh = 0 := by omega
        subst h0
        refine Ran.val hr (v' := .slice none 0 0) ?_ rfl
        simp only [execOp, ho, hx', Instr.sliceAt]
        refine run_value ?_
        simp only [Option.map_none] at hrun
        simp only [Option.map_none, Sem.run_bind, underlying_run hu, Result.andThen_ok, Instr.slice, hrun, sizeOf_run hj]
        rfl
      · rename_i y
        split at h2
        · rename_i kd i hq2
          rcases Ans.br_some h2 with ⟨hb, h2⟩ | ⟨hb, h2⟩
          · simp only [Ans.res, Option.some.injEq] at h2
            subst h2
            obtain ⟨rfl, rfl⟩ := valE g
            obtain ⟨b1, b2⟩ := leI_iff hb
            obtain ⟨hle, hrun⟩ := bounds_run (P := P) (lo := some y) hr (Nat.le_refl 0) h1 (Or.inr ⟨y, kd, i, rfl, hq2, b1, b2, rfl⟩) true
            have h0 : hh = 0 := by omega
            subst h0
            have hi0 : i.toNat = 0 := by omega
            refine Ran.val hr (v' := .slice none 0 0) ?_ rfl
            simp only [execOp, ho, hx', Instr.sliceAt]
            refine run_value ?_
            simp only [Option.map_some] at hrun
            simp only [Option.map_some, Option.map_none, Sem.run_bind, underlying_run hu, Result.andThen_ok, Instr.slice, hrun, sizeOf_run hj]
            simp [hi0]
          · simp [Ans.res] at h2
        · simp [Ans.res] at h2
    · rename_i s hq hu
      rw [hq] at hx
      have hx' := R_str hx
      obtain ⟨hh, h1, h2⟩ := Ans.bind_some h
      split at h2
      · simp only [Ans.res, Option.some.injEq] at h2
        subst h2
        obtain ⟨rfl, rfl⟩ := valE g
        obtain ⟨hle, hrun⟩ := bounds_run (P := P) (lo := none) hr (Nat.le_refl s.size) h1 (Or.inl ⟨rfl, rfl⟩) false
        refine Ran.val hr (v' := .string (s.extract 0 hh)) ?_ rfl
        simp only [execOp, ho, hx', Instr.sliceAt]
        refine run_value ?_
        simp only [Option.map_none] at hrun
        simp only [Option.map_none, Sem.run_bind, underlying_run hu, Result.andThen_ok, Instr.slice, hrun, Option.isSome_none, Bool.false_eq_true, if_false]
        rfl
      · rename_i xl
        have hxl := eval_R hr xl
        simp only at hxl
        split at h2
        · rename_i kd i hi
          rw [hi] at hxl
          have hxl' := R_int hxl
          rcases Ans.br_some h2 with ⟨hb, h2⟩ | ⟨hb, h2⟩
          · simp only [Ans.res, Option.some.injEq] at h2
            subst h2
            obtain ⟨rfl, rfl⟩ := valE g
            obtain ⟨b1, b2⟩ := leI_iff hb
            obtain ⟨hle, hrun⟩ := bounds_run (P := P) (lo := some xl) hr (Nat.le_refl s.size) h1 (Or.inr ⟨xl, kd, i, rfl, hi, b1, b2, rfl⟩) false
            refine Ran.val hr (v' := .string (s.extract i.toNat hh)) ?_ rfl
            simp only [execOp, ho, hx', Instr.sliceAt]
            refine run_value ?_
            simp only [Option.map_none, Sem.run_bind, underlying_run hu, Result.andThen_ok, Instr.slice, hrun, Option.isSome_none, Bool.false_eq_true, if_false]
            rfl
          · simp [Ans.res] at h2
        · simp [Ans.res] at h2
    · simp [Ans.res] at h

theorem equalIn_slice {P : Program} {w : World} {t e : TypeId} (hu : P.underlying t = some (.slice e)) (d : Nat) (q : Addr) (n c n2 c2 : Nat) : (Op.equalIn (d + 1) t (.slice (some q) n c) (.slice none n2 c2)).run P w = .ok false w := by
  simp [Op.equalIn, underlying_run hu]
theorem equal_slice {P : Program} {w : World} {t e : TypeId} (hu : P.underlying t = some (.slice e)) (q : Addr) (n c n2 c2 : Nat) : (Op.equal t (.slice (some q) n c) (.slice none n2 c2)).run P w = .ok false w := equalIn_slice hu 9999 q n c n2 c2
theorem act_binOp {o : Oper} {op : BinOp} {t : TypeId} {x y : Operand} {yt : TypeId} (ho : o.op = .binOp op t x y yt) (hr : RelAt w0 keep r ⟨tm, m⟩ a w) (h : (effOf0 P cs tm o).res = some e) (g : (runE cls pos m e).res = some (v, m')) : Ran P w0 keep r a w o v m' := by
  have hoo : { o with op := .binOp op t x y yt } = o := by cases o; simp_all
  unfold effOf0 at h
  simp only [ho] at h
  have hx := eval_R hr x
  have hy := eval_R hr y
  simp only at hx hy
  split at h
  · rename_i xs ys hq hq2
    split at h
    · rename_i hok
      simp only [Bool.and_eq_true] at hok
      split at h
      · rename_i b hb
        simp only [Ans.res, Option.some.injEq] at h
        subst h
        obtain ⟨rfl, rfl⟩ := valE g
        obtain ⟨g1, g2⟩ := eqOk_spec hok.2.2
        refine Ran.val hr (v' := .bool b) ?_ rfl
        simp only [execOp, ho, eval_plain hr hok.1, eval_plain hr hok.2.1, hq, hq2]
        simp only [Sem.run_bind, eqGuard_run (Or.inl rfl) g1, Result.andThen_ok, binOp, equal_run g2 hb, Sem.run_pure]
      · simp [Ans.res] at h
    · simp [Ans.res] at h
  · rename_i xs ys hq hq2
    split at h
    · rename_i hok
      simp only [Bool.and_eq_true] at hok
      split at h
      · rename_i b hb
        simp only [Ans.res, Option.some.injEq] at h
        subst h
        obtain ⟨rfl, rfl⟩ := valE g
        obtain ⟨g1, g2⟩ := eqOk_spec hok.2.2
        refine Ran.val hr (v' := .bool !b) ?_ rfl
        simp only [execOp, ho, eval_plain hr hok.1, eval_plain hr hok.2.1, hq, hq2]
        simp only [Sem.run_bind, eqGuard_run (Or.inr rfl) g1, Result.andThen_ok, binOp, equal_run g2 hb, Sem.run_pure]
      · simp [Ans.res] at h
    · simp [Ans.res] at h
  · rename_i hq hq2
    rw [hq] at hx
    rw [hq2] at hy
    split at h
    · rename_i hu
      simp only [Ans.res, Option.some.injEq] at h
      subst h
      obtain ⟨rfl, rfl⟩ := valE g
      obtain ⟨q', c, hx', -, -⟩ := R_sl hx
      have hy' := (R_plain (r := r) rfl).1 hy
      refine Ran.val hr (v' := .bool false) ?_ rfl
      simp only [execOp, ho, hx', hy']
      refine run_value ?_
      have e1 : ∀ (n c n2 c2 : Nat), (eqGuard .eql t x y (.slice (some q') n c) (.slice none n2 c2)).run P w = .ok () w := fun _ _ _ _ => rfl
      rw [Sem.run_bind, e1]
      simp only [Result.andThen_ok, binOp, Sem.run_bind, equal_slice hu, Sem.run_pure]
    · simp [Ans.res] at h
  · rename_i k i k' j hq hq2
    rw [hq] at hx
    rw [hq2] at hy
    split at h
    · rename_i hk
      have hk' : k = k' := by simpa using hk
      rcases Ans.br_some h with ⟨hb, h⟩ | ⟨hb, h⟩
      · simp [Ans.res] at h
      · simp only [Ans.res, Option.some.injEq] at h
        subst h
        obtain ⟨rfl, rfl⟩ := valE g
        have hb' : j ≠ 0 := by simpa using hb
        refine Ran.val hr (v' := _) ?_ rfl
        simp only [execOp, ho, R_int hx, R_int hy]
        simp [eqGuard, binOp, hk', Op.intDiv, hb']
    · simp [Ans.res] at h
  · rename_i k i k' j hq hq2
    rw [hq] at hx
    rw [hq2] at hy
    split at h
    · rename_i hk
      have hk' : k = k' := by simpa using hk
      rcases Ans.br_some h with ⟨hb, h⟩ | ⟨hb, h⟩
      · simp [Ans.res] at h
      · simp only [Ans.res, Option.some.injEq] at h
        subst h
        obtain ⟨rfl, rfl⟩ := valE g
        have hb' : j ≠ 0 := by simpa using hb
        refine Ran.val hr (v' := _) ?_ rfl
        simp only [execOp, ho, R_int hx, R_int hy]
        simp [eqGuard, binOp, hk', Op.intDiv, hb']
    · simp [Ans.res] at h
  · rename_i s1 s2 hq hq2
    rw [hq] at hx
    rw [hq2] at hy
    split at h
    · rename_i hu
      rcases Ans.br_some h with ⟨hb, h⟩ | ⟨hb, h⟩
      · simp only [Ans.res, Option.some.injEq] at h
        subst h
        obtain ⟨rfl, rfl⟩ := valE g
        have hb' : ((s1.size + s2.size : Nat) : Int) ≤ IntKind.i64.max := by simpa using hb
        refine Ran.val hr (v' := .string (s1 ++ s2)) ?_ rfl
        simp only [execOp, ho, R_str hx, R_str hy]
        refine run_value ?_
        have e1 : (eqGuard .add t x y (.string s1) (.string s2)).run P w = .ok () w := rfl
        rw [Sem.run_bind, e1]
        simp only [Result.andThen_ok, binOp, Op.stringOp]
        rw [if_neg (by omega)]
        rfl
      · simp [Ans.res] at h
    · simp [Ans.res] at h
  · rw [hoo] at h
    split at h
    · rename_i u hu
      simp only [Ans.res, Option.some.injEq] at h
      subst h
      obtain ⟨rfl, rfl⟩ := valE g
      exact opVal_run (by intro cs b; rw [ho]; simp) hu hr
    · simp [Ans.res] at h

theorem act_range {o : Oper} {t : TypeId} {x : Operand} (ho : o.op = .range t x) (hr : RelAt w0 keep r ⟨tm, m⟩ a w) (h : (effOf0 P cs tm o).res = some e) (g : (runE cls pos m e).res = some (v, m')) : Ran P w0 keep r a w o v m' := by
  unfold effOf0 at h
  simp only [ho] at h
  have hx := eval_R hr x
  simp only at hx
  split at h
  · rename_i s hq hu
    rw [hq] at hx
    simp only [Ans.res, Option.some.injEq] at h
    subst h
    obtain ⟨b, hb, rfl, rfl⟩ := makeE g
    refine Ran.push hr hb (p := ⟨w.heap.size, 0, 0, 0, 0, true⟩) rfl rfl (by simp) (ob := .stringIter s 0) (v' := .pointer (some ⟨w.heap.size, 0, none⟩)) ?_ ⟨rfl, rfl, get_push_self _⟩ (R_put_ptr rfl)
    simp only [execOp, ho, R_str hx, Instr.range]
    refine run_value ?_
    simp only [Sem.run_bind, underlying_run hu, Result.andThen_ok, Sem.run_pure, newObj]
    rfl
  · simp [Ans.res] at h

theorem iter_get {b : Nat} {s : ByteArray} {n : Nat} (h : w.heap[b]? = some (.stringIter s n)) : (getObj b).run P w = .ok (.stringIter s n) w := by
  simp only [getObj, Sem.run, h]
theorem iter_set {b : Nat} {s : ByteArray} {n : Nat} (h : w.heap[b]? = some (.stringIter s n)) (o : Obj) : (setObj b o).run P w = .ok () { w with heap := w.heap.setIfInBounds b o } := by
  simp only [setObj, Sem.run, h]
theorem act_next {o : Oper} {it : Operand} {str : Bool} (ho : o.op = .next it str) (hr : RelAt w0 keep r ⟨tm, m⟩ a w) (h : (effOf0 P cs tm o).res = some e) (g : (runE cls pos m e).res = some (v, m')) : Ran P w0 keep r a w o v m' := by
  unfold effOf0 at h
  simp only [ho] at h
  have hx := eval_R hr it
  simp only at hx
  split at h
  · rename_i b hq
    rw [hq] at hx
    obtain ⟨q', hq', hl⟩ := R_ptr hx
    simp only [Ans.res, Option.some.injEq] at h
    subst h
    obtain ⟨k, k', h1, h2, rfl⟩ := updE g
    split at h2
    · rename_i s ps
      obtain ⟨p, hp, rfl, hh, hk⟩ := live_of hr h1 hl (by simp)
      obtain ⟨hown, hoff0, hheap⟩ := hk
      have hpa : p.addr ⟨b, 0, none⟩ = ⟨p.blk, p.off, none⟩ := by simp [Place.addr]
      rcases Ans.br_some h2 with ⟨hb, h2⟩ | ⟨hb, h2⟩
      · simp only [Ans.res, Option.some.injEq, Prod.mk.injEq] at h2
        obtain ⟨rfl, rfl⟩ := h2
        have hlt : ps < s.size := by simpa using hb
        have hoff : p.off = 0 := hoff0
        refine ⟨r, { w with heap := w.heap.setIfInBounds p.blk (.stringIter s (ps + (Utf8.decode s ps).2)) }, .tuple #[.bool true, .int .i64 ps, .int .i32 (Utf8.decode s ps).1], Or.inl ?_, (R_plain rfl).2 rfl, ?_, Ext.refl r⟩
        · simp only [execOp, ho, hq', hpa, hoff, Instr.next]
          refine run_value ?_
          simp only [Sem.run_bind, iter_get hheap, Result.andThen_ok]
          rw [if_pos hlt]
          simp only [Sem.run_bind, iter_set hheap, Result.andThen_ok, Sem.run_pure, goInt]
        · have hlt' := (Array.getElem?_eq_some_iff.1 hheap).1
          refine hr.2.2.turn hp hown (by rw [h1]; exact id) ⟨fun k hk => ?_, by simp, rfl, rfl, rfl, rfl⟩ ⟨hown, hoff0, ?_⟩
          · simp only [Array.getElem?_setIfInBounds]; rw [if_neg (fun e => hk e.symm)]
          · simp [hlt']
      · simp only [Ans.res, Option.some.injEq, Prod.mk.injEq] at h2
        obtain ⟨rfl, rfl⟩ := h2
        have hlt : ¬ ps < s.size := by simpa using hb
        have hoff : p.off = 0 := hoff0
        refine ⟨r, w, .tuple #[.bool false], Or.inl ?_, (R_plain rfl).2 rfl, ?_, Ext.refl r⟩
        · simp only [execOp, ho, hq', hpa, hoff, Instr.next]
          refine run_value ?_
          simp only [Sem.run_bind, iter_get hheap, Result.andThen_ok]
          rw [if_neg hlt]
          rfl
        · exact hr.2.2.turn hp hown (by rw [h1]; exact id) ⟨fun _ _ => rfl, rfl, rfl, rfl, rfl, rfl⟩ ⟨hown, hoff0, hheap⟩
    · simp [Ans.res] at h2
  · simp [Ans.res] at h

theorem act_len {o : Oper} {c : Call} (ho : o.op = .call c) (hc : c.callee = .builtin .len) (hr : RelAt w0 keep r ⟨tm, m⟩ a w) (h : (effOf0 P cs tm o).res = some e) (g : (runE cls pos m e).res = some (v, m')) : Ran P w0 keep r a w o v m' := by
  unfold effOf0 at h
  simp only [ho, hc] at h
  split at h
  · rename_i q n k t hv ht
    split at h
    · rename_i el hu
      simp only [Ans.res, Option.some.injEq] at h
      subst h
      obtain ⟨rfl, rfl⟩ := valE g
      have hargs : ∃ x, c.args.toList = [x] ∧ ev tm x = .slice (some q) n k := by
        revert hv
        cases c.args.toList with
        | nil => simp
        | cons x l => cases l with
          | nil => simp
          | cons y l => simp
      obtain ⟨x, hx, hxv⟩ := hargs
      have hx2 := eval_R hr x
      simp only at hx2
      rw [hxv] at hx2
      obtain ⟨q', c', hq', _, _⟩ := R_sl hx2
      have ha : c.args = #[x] := by apply Array.ext'; simpa using hx
      have hat : c.argTypes = #[t] := by apply Array.ext'; simpa using ht
      refine Ran.val hr (v' := .int .i64 n) ?_ rfl
      simp only [execOp, ho, resolve, hc, ha, hat]
      simp [Sem.run_bind, invoke, builtin, Builtin.len_, underlying_run hu, hq', goInt]
    · simp [Ans.res] at h
  · rename_i t hv ht
    split at h
    · rename_i el hu
      simp only [Ans.res, Option.some.injEq] at h
      subst h
      obtain ⟨rfl, rfl⟩ := valE g
      have hargs : ∃ x, c.args.toList = [x] ∧ ev tm x = emp := by
        revert hv
        cases c.args.toList with
        | nil => simp
        | cons x l => cases l with
          | nil => intro hv; exact ⟨x, rfl, by simpa [emp] using hv⟩
          | cons y l => simp
      obtain ⟨x, hx, hxv⟩ := hargs
      have hx2 := eval_R hr x
      simp only at hx2
      rw [hxv] at hx2
      obtain ⟨q', c', hq'⟩ := R_emp.1 hx2
      have ha : c.args = #[x] := by apply Array.ext'; simpa using hx
      have hat : c.argTypes = #[t] := by apply Array.ext'; simpa using ht
      refine Ran.val hr (v' := .int .i64 0) ?_ rfl
      simp only [execOp, ho, resolve, hc, ha, hat]
      simp [Sem.run_bind, invoke, builtin, Builtin.len_, underlying_run hu, hq', goInt]
    · simp [Ans.res] at h
  · split at h
    · rename_i u hu
      simp only [Ans.res, Option.some.injEq] at h
      subst h
      obtain ⟨rfl, rfl⟩ := valE g
      exact opVal_run (by intro cs b; rw [ho]; simp) hu hr
    · simp [Ans.res] at h

theorem zeroCells_list (z : Array Value) (n : Nat) : (Builtin.zeroCells z n).toList = (List.range (n * z.size)).map fun i => z[i % z.size]! := by
  unfold Builtin.zeroCells
  simp
theorem plain_flat {v : Value} (h : plain0 v = true) : flat v = true := by cases v <;> first | rfl | simp [plain0] at h
theorem clear_rel {w : World} {r : Ren} {p : Place} {pl : Bool} {e n2 : Nat} {row : Nat → List Value} (hk : BlkRel w r p (.rows true pl e n2 row)) {z : Array Value} (hz : z.size = e) (he : 0 < e) (hp : allL plain0 z.toList = true) {q : Addr} {j n : Nat} (hoff : q.off = 0) (hs : q.spot = some j) (hn : 0 < n) (hle : j + n ≤ n2) :
    ∃ w', (storeCells (p.addr q) (Builtin.zeroCells z n).toList).run P w = .ok () w' ∧ Only p.blk w w' ∧ BlkRel w' r p (.rows true pl e n2 fun i => match Nat.ble j i && Nat.blt i (j + n) with
      | true => z.toList
      | false => row i) := by
  obtain ⟨h1, h2, h0, hplr, cs, T, fz, h6', h3, h4, h5⟩ := hk
  obtain ⟨rfl, h6⟩ := h4 rfl
  have hao : p.addr q = ⟨p.blk, p.off + j * e, none⟩ := by simp [Place.addr, hs, h2, hoff]
  have hlen : (Builtin.zeroCells z n).toList.length = n * e := by rw [zeroCells_list]; simp [hz]
  have hcs : p.off + j * e + n * e ≤ cs.size := by
    obtain ⟨hr1, hr2⟩ := h5 (j + n - 1) (by omega)
    obtain ⟨v', g1, _⟩ := hr2 (e - 1) ((row (j + n - 1))[e - 1]'(by omega)) (List.getElem?_eq_getElem (by omega))
    have := (Array.getElem?_eq_some_iff.1 g1).1
    have e2 : (j + n - 1) * e + e = j * e + n * e := by rw [← Nat.succ_mul, show (j + n - 1).succ = j + n by omega, Nat.add_mul]
    omega
  have hget : ∀ t, t < n * e → (Builtin.zeroCells z n).toList[t]? = z.toList[t % e]? := fun t ht => by
    rw [zeroCells_list, hz, List.getElem?_map, List.getElem?_range ht]
    have hm : t % e < z.size := by rw [hz]; exact Nat.mod_lt _ he
    simp [hm]
  have hfl : allL flat (Builtin.zeroCells z n).toList = true := allL_iff.2 fun x hx => by
    obtain ⟨t, ht⟩ := List.getElem?_of_mem hx
    have hlt : t < n * e := by rw [← hlen]; exact (List.getElem?_eq_some_iff.1 ht).1
    rw [hget t hlt] at ht
    exact plain_flat (allL_iff.1 hp x (List.mem_of_getElem? ht))
  obtain ⟨w', g1, g2, g3⟩ := run_storeCells (P := P) (off := p.off + j * e) (Builtin.zeroCells z n).toList 0 cs w h3 (by rw [hlen]; omega) hfl
  rw [Nat.add_zero] at g3
  refine ⟨w', by rw [hao]; exact g1, g2, h1, h2, h0, fun hpl i hi => ?_, _, T, (0, 0), h6', g3, fun _ => ⟨rfl, ?_⟩, fun i hi => ?_⟩
  · simp only
    split
    · exact allL_nad0 hp
    · exact hplr hpl i hi
  · rw [List.size_toArray, setMany_length, Array.length_toList]; exact h6
  · by_cases hb : j ≤ i ∧ i < j + n
    · have hbt : (Nat.ble j i && Nat.blt i (j + n)) = true := by rw [Bool.and_eq_true]; exact ⟨Nat.ble_eq_true_of_le hb.1, Nat.blt_eq.mpr hb.2⟩
      simp only [hbt]
      refine ⟨by rw [Array.length_toList]; exact hz, fun k v hv => ?_⟩
      have hk : k < e := by have := (List.getElem?_eq_some_iff.1 hv).1; rw [Array.length_toList, hz] at this; exact this
      have hmul : (i - j) * e + e ≤ n * e := by
        rw [← Nat.succ_mul]; exact Nat.mul_le_mul_right _ (by omega)
      have hij : i * e = j * e + (i - j) * e := by rw [← Nat.add_mul]; congr 1; omega
      refine ⟨v, ?_, (R0_plain (allL_iff.1 hp v (List.mem_of_getElem? hv))).2 rfl⟩
      rw [List.getElem?_toArray, setMany_get _ _ _ _ (by rw [hlen, Array.length_toList]; exact hcs), if_pos (by rw [hlen]; omega)]
      rw [hget _ (by omega), show (p.off + i * e + k - (p.off + j * e)) % e = k by
        rw [show p.off + i * e + k - (p.off + j * e) = k + (i - j) * e by omega, Nat.add_mul_mod_self_right, Nat.mod_eq_of_lt hk]]
      exact hv
    · have hbf : (Nat.ble j i && Nat.blt i (j + n)) = false := by
        cases hq : Nat.ble j i && Nat.blt i (j + n) with
        | false => rfl
        | true =>
          rw [Bool.and_eq_true] at hq
          exact absurd ⟨Nat.le_of_ble_eq_true hq.1, Nat.blt_eq.mp hq.2⟩ hb
      simp only [hbf]
      obtain ⟨hs1, hs2⟩ := h5 i hi
      refine ⟨hs1, hs2.beside (by rw [hlen]; exact hcs) ?_⟩
      rw [hlen, hs1]
      by_cases hl : i < j
      · right
        have : (i + 1) * e ≤ j * e := Nat.mul_le_mul_right _ hl
        rw [Nat.add_mul, Nat.one_mul] at this
        omega
      · left
        have : (j + n) * e ≤ i * e := Nat.mul_le_mul_right _ (by omega)
        rw [Nat.add_mul] at this
        omega
theorem act_clear {o : Oper} {c : Call} (ho : o.op = .call c) (hc : c.callee = .builtin .clear) (hr : RelAt w0 keep r ⟨tm, m⟩ a w) (h : (effOf0 P cs tm o).res = some e) (g : (runE cls pos m e).res = some (v, m')) : Ran P w0 keep r a w o v m' := by
  unfold effOf0 at h
  simp only [ho, hc] at h
  split at h
  rotate_left
  · simp [Ans.res] at h
  rename_i q n k t hv ht
  split at h
  rotate_left
  · simp [Ans.res] at h
  rename_i el j hu hoff hspot
  split at h
  rotate_left
  · simp [Ans.res] at h
  rename_i i hi
  split at h
  rotate_left
  · simp [Ans.res] at h
  rename_i z hz
  simp only [Ans.res, Option.some.injEq] at h
  subst h
  obtain ⟨k0, k', h1, h2, rfl⟩ := updE g
  have hargs : ∃ x, c.args.toList = [x] ∧ ev tm x = .slice (some q) n k := by
    revert hv
    cases c.args.toList with
    | nil => simp
    | cons x l => cases l with
      | nil => simp
      | cons y l => simp
  obtain ⟨x, hx, hxv⟩ := hargs
  have hx2 := eval_R hr x
  simp only at hx2
  rw [hxv] at hx2
  obtain ⟨q', c', hq', hnc, hl⟩ := R_sl hx2
  have ha : c.args = #[x] := by apply Array.ext'; simpa using hx
  have hat : c.argTypes = #[t] := by apply Array.ext'; simpa using ht
  unfold clearB at h2
  split at h2
  rotate_left
  · simp [Ans.res] at h2
  rename_i pl e2 n2 row
  split at h2
  rotate_left
  · simp [Ans.res] at h2
  rename_i hb
  simp only [Bool.and_eq_true] at hb
  rcases Ans.br_some h2 with ⟨hc2, h3⟩ | ⟨_, h3⟩
  rotate_left
  · simp [Ans.res] at h3
  rw [Bool.and_eq_true] at hc2
  simp only [Ans.res, Option.some.injEq, Prod.mk.injEq] at h3
  obtain ⟨rfl, rfl⟩ := h3
  have he2 : e2 = i.size := Nat.eq_of_beq_eq_true hb.1
  have hzl : z.cells.size = e2 := by have := Nat.eq_of_beq_eq_true hb.2.1; rw [Array.length_toList] at this; omega
  have hpos : 0 < e2 := by have := Nat.blt_eq.mp hb.2.2.1; omega
  have hn0 : 0 < n := Nat.blt_eq.mp hc2.1
  have hle : j + n ≤ n2 := Nat.le_of_ble_eq_true hc2.2
  rcases hl with hdead | ⟨p, hp, rfl, hsl⟩
  · have := hr.2.2.dead _ hdead
    rw [h1] at this
    cases this
  · obtain ⟨w', g1, g2, g3⟩ := clear_rel (P := P) (hr.2.2.at hp h1) hzl hpos hb.2.2.2 hoff hspot hn0 hle
    refine ⟨r, w', undef, Or.inl ?_, R_undef r, hr.2.2.turn hp (by have := (hr.2.2.at hp h1).1; exact this) (by rw [h1]; exact fun h => h) g2 g3, Ext.refl r⟩
    obtain ⟨n', rfl⟩ : ∃ n', n = n' + 1 := ⟨n - 1, by omega⟩
    simp only [execOp, ho, resolve, hc, ha, hat]
    simp [Sem.run_bind, invoke, builtin, Builtin.clear_, underlying_run hu, hq', zeroValue_run hi hz, g1, undef]
theorem R_fl {v v' : Value} {k : FloatKind} {b : Nat} (h : R r v v') (hf : fl? v = some (k, b)) : ∃ b', v' = .float k b' ∧ simF k b b' := by
  unfold fl? at hf
  split at hf
  · simp only [Option.some.injEq, Prod.mk.injEq] at hf
    obtain ⟨rfl, rfl⟩ := hf
    have h' : v' = .float _ _ := h
    exact ⟨_, h', simF.refl _ _⟩
  · simp only [Option.some.injEq, Prod.mk.injEq] at hf
    obtain ⟨rfl, rfl⟩ := hf
    exact h
  · cases hf
theorem R_cx {v v' : Value} {k : FloatKind} {a b : Nat} (h : R r v v') (hf : cx? v = some (k, a, b)) : ∃ a' b', v' = .complex k a' b' ∧ simF k a a' ∧ simF k b b' := by
  unfold cx? at hf
  split at hf
  · simp only [Option.some.injEq, Prod.mk.injEq] at hf
    obtain ⟨rfl, rfl, rfl⟩ := hf
    have h' : v' = .complex _ _ _ := h
    exact ⟨_, _, h', simF.refl _ _, simF.refl _ _⟩
  · simp only [Option.some.injEq, Prod.mk.injEq] at hf
    obtain ⟨rfl, rfl, rfl⟩ := hf
    exact h
  · cases hf
/-- Answers that are told up to NaNs, if at all. -/
def easy (v : Value) : Prop := (∃ k n, v = aF k n) ∨ (∃ k n m, v = aC k n m) ∨ plain v = true
theorem easy_R {v v' : Value} (he : easy v) (h : RV v v') : R r v v' := by
  rcases he with ⟨k, n, rfl⟩ | ⟨k, n, m, rfl⟩ | hp
  · exact h
  · exact h
  · refine (R_plain hp).2 ?_
    cases v with
    | iface t u => simp [plain, plain1, plain0] at hp
    | _ => exact h
theorem Ran.draws {o : Oper} {s : Sem Value} {v : Value} (hr : RelAt w0 keep r ⟨tm, m⟩ a w) (hx : (execOp a.eval o).run P w = ((do pure (Next.value (← s)) : Sem Next)).run P w) (h : Draws P s w v) (he : easy v) : Ran P w0 keep r a w o v m := by
  obtain ⟨v', w', h1, h2, h3, h4⟩ := h
  exact ⟨r, w', v', Or.inl (by rw [hx]; exact run_value h1), easy_R he h2, hr.2.2.later h3 h4, Ext.refl r⟩
theorem easy_binF {op : BinOp} {k : FloatKind} {a b : Nat} {v : Value} (h : fltBinF op k a b = some v) : easy v := by
  cases op <;> simp only [fltBinF, Option.some.injEq, reduceCtorEq] at h <;> subst h <;> first | exact Or.inl ⟨_, _, rfl⟩ | exact Or.inr (Or.inr rfl)
theorem easy_binC {op : BinOp} {k : FloatKind} {a b c d : Nat} {v : Value} (h : fltBinC op k a b c d = some v) : easy v := by
  cases op <;> simp only [fltBinC, Option.some.injEq, reduceCtorEq] at h <;> subst h <;> first | exact Or.inr (Or.inl ⟨_, _, _, rfl⟩) | exact Or.inr (Or.inr rfl)
theorem fltBin_run {op : BinOp} {t : TypeId} {x y : Operand} {vx vy vx' vy' v : Value} (h : fltBin op vx vy = some v) (hx : R r vx vx') (hy : R r vy vy') : Draws P (do eqGuard op t x y vx' vy'; binOp op t vx' vy') w v ∧ easy v := by
  unfold fltBin at h
  split at h
  · rename_i k a hfx
    split at h
    · rename_i k' b hfy
      split at h
      · rename_i hk
        obtain rfl := kEq_eq hk
        obtain ⟨a', rfl, ha⟩ := R_fl hx hfx
        obtain ⟨b', rfl, hb⟩ := R_fl hy hfy
        have e : eqGuard op t x y (.float k a') (.float k b') = pure () := by cases op <;> rfl
        rw [e, pure_bind]
        exact ⟨binOpF_run h ha hb, easy_binF h⟩
      · cases h
    · cases h
  · split at h
    · rename_i k a b hfx
      split at h
      · rename_i k' c d hfy
        split at h
        · rename_i hk
          obtain rfl := kEq_eq hk
          obtain ⟨a', b', rfl, ha, hb⟩ := R_cx hx hfx
          obtain ⟨c', d', rfl, hc, hd⟩ := R_cx hy hfy
          have e : eqGuard op t x y (.complex k a' b') (.complex k c' d') = pure () := by cases op <;> rfl
          rw [e, pure_bind]
          exact ⟨binOpC_run h ha hb hc hd, easy_binC h⟩
        · cases h
      · cases h
    · cases h
/-- What functions without a body are. -/
def extRow : Nat → Array Value → Sem Value
  | 1 => Extern.MathFloatBits.float64bits
  | 2 => Extern.MathFloatBits.float64frombits
  | 3 => Extern.MathFloatBits.float32bits
  | 4 => Extern.MathFloatBits.float32frombits
  | 5 => Extern.MathSqrt.sqrt
  | 6 => fun args => do
    let (x, y, c) ← Extern.MathBitsCarry.three "Add64" args
    pure (Extern.MathBitsCarry.pair ((x + y + c) % Extern.MathBitsCarry.m64) ((x + y + c) / Extern.MathBitsCarry.m64))
  | 7 => fun args => do
    let (x, y, b) ← Extern.MathBitsCarry.three "Sub64" args
    pure (Extern.MathBitsCarry.pair ((x + Extern.MathBitsCarry.m64 - y - b) % Extern.MathBitsCarry.m64) (if x < y + b then 1 else 0))
  | _ => fun _ => stuck ""
def ExtOk (P : Program) (ext : FuncId → Nat) : Prop := ∀ f, ext f ≠ 0 → ∃ fn, P.funcs[f]? = some fn ∧ (fn.name == "runtime.NumGoroutine") = false ∧ fn.body.isNone = true ∧ (Extern.findNext fn).isNone = true ∧ Extern.find fn = some (extRow (ext f))
theorem call_ext {o : Oper} {c : Call} {f : FuncId} {ext : FuncId → Nat} (hext : ExtOk P ext) (h0 : ext f ≠ 0) (ho : o.op = .call c) (hc : c.callee = .value (.func f)) : (execOp a.eval o).run P w = ((do pure (Next.value (← extRow (ext f) (c.args.map a.eval))) : Sem Next)).run P w := by
  obtain ⟨fn, h1, h2, h3, h4, h5⟩ := hext f h0
  have h4' : Extern.findNext fn = none := Option.isNone_iff_eq_none.1 h4
  have hx : a.eval (.func f) = .func (.func f) #[] #[] := rfl
  simp only [execOp, ho, resolve, hc]
  simp only [hx, Deferred.ofValue, Sem.run_bind, Sem.run_pure, Result.andThen_ok, invoke, callFunc, program, Sem.run, h1, h2, h3, h4', h5, mark]
  simp [Sem.run_bind, Sem.run]
theorem three_eq {n : String} {x y c : Int} (h : ¬ c.toNat > 1) : Extern.MathBitsCarry.three n #[.int .u64 x, .int .u64 y, .int .u64 c] = pure (x.toNat, y.toNat, c.toNat) := by
  show ite (c.toNat > 1) _ _ = _
  rw [if_neg h]
  rfl
theorem extA_run {e : Nat} {args args' : List Value} {v : Value} (h : (extA e args).res = some v) (hr : RL (R r) args args') : e ≠ 0 ∧ Draws P (extRow e args'.toArray) w v ∧ easy v := by
  unfold extA at h
  split at h
  · refine ⟨by decide, ?_⟩
    split at h
    · simp only [Ans.res, Option.some.injEq] at h
      subst h
      cases args' with
      | nil => exact hr.elim
      | cons x l => cases l with
        | cons y l => exact hr.2.elim
        | nil =>
          have hx : x = .float .f64 _ := hr.1
          subst hx
          exact ⟨Draws.pure rfl, Or.inr (Or.inr rfl)⟩
    · rcases Ans.br_some h with ⟨_, h⟩ | ⟨hb, h⟩
      · simp [Ans.res] at h
      · simp only [Ans.res, Option.some.injEq] at h
        subst h
        cases args' with
        | nil => exact hr.elim
        | cons x l => cases l with
          | cons y l => exact hr.2.elim
          | nil =>
            obtain ⟨b', rfl, hs⟩ := R_fl (k := .f64) hr.1 rfl
            rcases hs with rfl | ⟨h1, _⟩
            · exact ⟨Draws.pure rfl, Or.inr (Or.inr rfl)⟩
            · rw [hb] at h1; cases h1
    · simp [Ans.res] at h
  · refine ⟨by decide, ?_⟩
    split at h
    · simp only [Ans.res, Option.some.injEq] at h
      subst h
      cases args' with
      | nil => exact hr.elim
      | cons x l => cases l with
        | cons y l => exact hr.2.elim
        | nil =>
          have hx : x = .int .u64 _ := hr.1
          subst hx
          exact ⟨Draws.pure rfl, Or.inr (Or.inr rfl)⟩
    · simp [Ans.res] at h
  · refine ⟨by decide, ?_⟩
    split at h
    · simp only [Ans.res, Option.some.injEq] at h
      subst h
      cases args' with
      | nil => exact hr.elim
      | cons x l => cases l with
        | cons y l => exact hr.2.elim
        | nil =>
          have hx : x = .float .f32 _ := hr.1
          subst hx
          exact ⟨Draws.pure rfl, Or.inr (Or.inr rfl)⟩
    · rcases Ans.br_some h with ⟨_, h⟩ | ⟨hb, h⟩
      · simp [Ans.res] at h
      · simp only [Ans.res, Option.some.injEq] at h
        subst h
        cases args' with
        | nil => exact hr.elim
        | cons x l => cases l with
          | cons y l => exact hr.2.elim
          | nil =>
            obtain ⟨b', rfl, hs⟩ := R_fl (k := .f32) hr.1 rfl
            rcases hs with rfl | ⟨h1, _⟩
            · exact ⟨Draws.pure rfl, Or.inr (Or.inr rfl)⟩
            · rw [hb] at h1; cases h1
    · simp [Ans.res] at h
  · refine ⟨by decide, ?_⟩
    split at h
    · simp only [Ans.res, Option.some.injEq] at h
      subst h
      cases args' with
      | nil => exact hr.elim
      | cons x l => cases l with
        | cons y l => exact hr.2.elim
        | nil =>
          have hx : x = .int .u32 _ := hr.1
          subst hx
          exact ⟨Draws.pure rfl, Or.inr (Or.inr rfl)⟩
    · simp [Ans.res] at h
  · refine ⟨by decide, ?_⟩
    split at h
    · split at h
      · rename_i x a hfx
        simp only [Ans.res, Option.some.injEq] at h
        subst h
        cases args' with
        | nil => exact hr.elim
        | cons x l => cases l with
          | cons y l => exact hr.2.elim
          | nil =>
            obtain ⟨b', rfl, hs⟩ := R_fl hr.1 hfx
            exact ⟨sqrt_run hs, Or.inl ⟨_, _, rfl⟩⟩
      · simp [Ans.res] at h
    · simp [Ans.res] at h
  · refine ⟨by decide, ?_⟩
    split at h
    · rename_i x y c
      rcases Ans.br_some h with ⟨hb, h⟩ | ⟨_, h⟩
      · simp only [Ans.res, Option.some.injEq] at h
        subst h
        cases args' with
        | nil => exact hr.elim
        | cons x' l => cases l with
          | nil => exact hr.2.elim
          | cons y' l => cases l with
            | nil => exact hr.2.2.elim
            | cons c' l => cases l with
              | cons z l => exact hr.2.2.2.elim
              | nil =>
                have hx : x' = .int .u64 x := hr.1
                have hy : y' = .int .u64 y := hr.2.1
                have hc : c' = .int .u64 c := hr.2.2.1
                subst hx hy hc
                have hc1 : ¬ c.toNat > 1 := by have := of_decide_eq_true hb; omega
                refine ⟨⟨_, w, ?_, rfl, Below.refl _ _, Nat.le_refl _⟩, Or.inr (Or.inr rfl)⟩
                simp only [extRow, Sem.run_bind, List.toArray, three_eq hc1, Sem.run_pure, Result.andThen_ok]
                rfl
      · simp [Ans.res] at h
    · simp [Ans.res] at h
  · refine ⟨by decide, ?_⟩
    split at h
    · rename_i x y c
      rcases Ans.br_some h with ⟨hb, h⟩ | ⟨_, h⟩
      · simp only [Ans.res, Option.some.injEq] at h
        subst h
        cases args' with
        | nil => exact hr.elim
        | cons x' l => cases l with
          | nil => exact hr.2.elim
          | cons y' l => cases l with
            | nil => exact hr.2.2.elim
            | cons c' l => cases l with
              | cons z l => exact hr.2.2.2.elim
              | nil =>
                have hx : x' = .int .u64 x := hr.1
                have hy : y' = .int .u64 y := hr.2.1
                have hc : c' = .int .u64 c := hr.2.2.1
                subst hx hy hc
                have hc1 : ¬ c.toNat > 1 := by have := of_decide_eq_true hb; omega
                refine ⟨⟨_, w, ?_, rfl, Below.refl _ _, Nat.le_refl _⟩, Or.inr (Or.inr rfl)⟩
                simp only [extRow, Sem.run_bind, List.toArray, three_eq hc1, Sem.run_pure, Result.andThen_ok]
                rfl
      · simp [Ans.res] at h
    · simp [Ans.res] at h
  · simp [Ans.res] at h
theorem RL_mapE (hr : RelAt w0 keep r ⟨tm, m⟩ a w) : ∀ (l : List Operand), RL (R r) (l.map (ev tm)) (l.map a.eval)
  | [] => trivial
  | x :: l => ⟨eval_R hr x, RL_mapE hr l⟩
theorem fltB_run {b : Builtin} {args args' : List Value} {v : Value} (ts : Array TypeId) (t : TypeId) (h : fltB b args = some v) (hr : RL (R r) args args') : ∃ s, (∀ cn, builtin b ts t cn args'.toArray = (do pure (Next.value (← s)) : Sem Next)) ∧ Draws P s w v ∧ easy v := by
  have one : ∀ {x : Value}, args = [x] → ∃ x', args' = [x'] ∧ R r x x' := fun {x} e => by
    subst e
    cases args' with
    | nil => exact hr.elim
    | cons x' l => cases l with
      | cons y l => exact hr.2.elim
      | nil => exact ⟨x', rfl, hr.1⟩
  have two : ∀ {x y : Value}, args = [x, y] → ∃ x' y', args' = [x', y'] ∧ R r x x' ∧ R r y y' := fun {x y} e => by
    subst e
    cases args' with
    | nil => exact hr.elim
    | cons x' l => cases l with
      | nil => exact hr.2.elim
      | cons y' l => cases l with
        | cons z l => exact hr.2.2.elim
        | nil => exact ⟨x', y', rfl, hr.1, hr.2.1⟩
  unfold fltB at h
  split at h
  · split at h
    · rename_i x
      split at h
      · rename_i k p q hf
        simp only [Option.some.injEq] at h
        subst h
        obtain ⟨x', rfl, hx⟩ := one rfl
        obtain ⟨p', q', rfl, h1, h2⟩ := R_cx hx hf
        exact ⟨_, fun _ => rfl, Draws.pure ⟨p', rfl, h1⟩, Or.inl ⟨_, _, rfl⟩⟩
      · cases h
    · cases h
  · split at h
    · rename_i x
      split at h
      · rename_i k p q hf
        simp only [Option.some.injEq] at h
        subst h
        obtain ⟨x', rfl, hx⟩ := one rfl
        obtain ⟨p', q', rfl, h1, h2⟩ := R_cx hx hf
        exact ⟨_, fun _ => rfl, Draws.pure ⟨q', rfl, h2⟩, Or.inl ⟨_, _, rfl⟩⟩
      · cases h
    · cases h
  · split at h
    · rename_i x y
      split at h
      · rename_i k p hf
        split at h
        · rename_i k' q hf2
          split at h
          · rename_i hk
            obtain rfl := kEq_eq hk
            simp only [Option.some.injEq] at h
            subst h
            obtain ⟨x', y', rfl, hx, hy⟩ := two rfl
            obtain ⟨p', rfl, h1⟩ := R_fl hx hf
            obtain ⟨q', rfl, h2⟩ := R_fl hy hf2
            refine ⟨_, fun _ => rfl, ?_, Or.inr (Or.inl ⟨_, _, _, rfl⟩)⟩
            have e : Builtin.complex_ ts t #[.float k p', .float k q'] = pure (.complex k p' q') := by show (if k = k then _ else _) = _; rw [if_pos rfl]
            rw [show [Value.float k p', Value.float k q'].toArray = #[.float k p', .float k q'] from rfl, e]
            exact Draws.pure ⟨p', q', rfl, h1, h2⟩
          · cases h
        · cases h
      · cases h
    · cases h
  · split at h
    · rename_i x y
      split at h
      · rename_i k p hf
        split at h
        · rename_i k' q hf2
          split at h
          · rename_i hk
            obtain rfl := kEq_eq hk
            simp only [Option.some.injEq] at h
            subst h
            obtain ⟨x', y', rfl, hx, hy⟩ := two rfl
            obtain ⟨p', rfl, h1⟩ := R_fl hx hf
            obtain ⟨q', rfl, h2⟩ := R_fl hy hf2
            refine ⟨_, fun _ => rfl, ?_, Or.inl ⟨_, _, rfl⟩⟩
            have e : Builtin.max_ ts t #[.float k p', .float k q'] = Builtin.max2 (.float k p') (.float k q') := by simp [Builtin.max_]
            rw [show [Value.float k p', Value.float k q'].toArray = #[.float k p', .float k q'] from rfl, e]
            exact max_run h1 h2
          · cases h
        · cases h
      · cases h
    · cases h
  · split at h
    · rename_i x y
      split at h
      · rename_i k p hf
        split at h
        · rename_i k' q hf2
          split at h
          · rename_i hk
            obtain rfl := kEq_eq hk
            simp only [Option.some.injEq] at h
            subst h
            obtain ⟨x', y', rfl, hx, hy⟩ := two rfl
            obtain ⟨p', rfl, h1⟩ := R_fl hx hf
            obtain ⟨q', rfl, h2⟩ := R_fl hy hf2
            refine ⟨_, fun _ => rfl, ?_, Or.inl ⟨_, _, rfl⟩⟩
            have e : Builtin.min_ ts t #[.float k p', .float k q'] = Builtin.min2 (.float k p') (.float k q') := by simp [Builtin.min_]
            rw [show [Value.float k p', Value.float k q'].toArray = #[.float k p', .float k q'] from rfl, e]
            exact min_run h1 h2
          · cases h
        · cases h
      · cases h
    · cases h
  · cases h
theorem act_flt {o : Oper} {ans : Ans Value} (hext : ExtOk P cs.ext) (hf : fltOf P cs tm o = some ans) (hr : RelAt w0 keep r ⟨tm, m⟩ a w) (h : (ans.bind fun v => Ans.out (Eff.val v)).res = some e) (g : (runE cls pos m e).res = some (v, m')) : Ran P w0 keep r a w o v m' := by
  obtain ⟨u, h1, h2⟩ := Ans.bind_some h
  simp only [Ans.res, Option.some.injEq] at h2
  subst h2
  obtain ⟨rfl, rfl⟩ := valE g
  unfold fltOf at hf
  split at hf
  · rename_i op t x y yt ho
    split at hf
    · rename_i v' hv
      simp only [Option.some.injEq] at hf
      subst hf
      simp only [Ans.res, Option.some.injEq] at h1
      subst h1
      obtain ⟨d1, d2⟩ := fltBin_run (P := P) (w := w) (t := t) (x := x) (y := y) hv (eval_R hr x) (eval_R hr y)
      exact Ran.draws hr (by simp only [execOp, ho]) d1 d2
    · cases hf
  · rename_i t x ho
    split at hf
    · rename_i v' hv
      simp only [Option.some.injEq] at hf
      subst hf
      simp only [Ans.res, Option.some.injEq] at h1
      subst h1
      have hx := eval_R hr x
      unfold fltNeg at hv
      split at hv
      · rename_i k b hfx
        simp only [Option.some.injEq] at hv
        subst hv
        obtain ⟨b', hb, hs⟩ := R_fl hx hfx
        refine Ran.draws hr (s := Op.unary .neg (.float k b')) (by simp only [execOp, ho, hb]) ?_ (Or.inl ⟨_, _, rfl⟩)
        exact Draws.pure ⟨_, rfl, fneg_sim hs⟩
      · split at hv
        · rename_i k p q hfx
          simp only [Option.some.injEq] at hv
          subst hv
          obtain ⟨p', q', hb, hs1, hs2⟩ := R_cx hx hfx
          refine Ran.draws hr (s := Op.unary .neg (.complex k p' q')) (by simp only [execOp, ho, hb]) ?_ (Or.inr (Or.inl ⟨_, _, _, rfl⟩))
          exact Draws.pure ⟨_, _, rfl, fneg_sim hs1, fneg_sim hs2⟩
        · cases hv
    · cases hf
  · rename_i s d x ho
    split at hf
    · rename_i k b hfx
      split at hf
      · rename_i us k' hs hd
        simp only [Option.some.injEq] at hf
        subst hf
        rcases Ans.br_some h1 with ⟨_, h1⟩ | ⟨hov, h1⟩
        · simp [Ans.res] at h1
        · simp only [Ans.res, Option.some.injEq] at h1
          subst h1
          obtain ⟨b', hb, hsim⟩ := R_fl (eval_R hr x) hfx
          obtain ⟨v2, w2, g1, g2, g3, g4⟩ := conv_run (P := P) (w := w) hov hsim
          refine Ran.draws hr (s := convert s d (.float k b')) (by simp only [execOp, ho, hb]) ⟨v2, w2, ?_, g2, g3, g4⟩ (Or.inl ⟨_, _, rfl⟩)
          unfold convert
          rw [Sem.run_bind, underlying_run hs]
          simp only [Result.andThen_ok]
          rw [Sem.run_bind, underlying_run hd]
          simp only [Result.andThen_ok]
          cases us <;> exact g1
      · cases hf
    · cases hf
  · rename_i c ho
    split at hf
    · rename_i b hc
      split at hf
      · rename_i v' hv
        simp only [Option.some.injEq] at hf
        subst hf
        simp only [Ans.res, Option.some.injEq] at h1
        subst h1
        obtain ⟨s, hs, d1, d2⟩ := fltB_run (P := P) (w := w) c.argTypes o.type hv (RL_mapE hr c.args.toList)
        refine Ran.draws hr (s := s) ?_ d1 d2
        have e : c.args.map a.eval = (c.args.toList.map a.eval).toArray := by apply Array.ext'; simp
        simp only [execOp, ho, resolve, hc, pure_bind, invoke, e, hs]
      · cases hf
    · rename_i f hc
      split at hf
      · simp only [Option.some.injEq] at hf
        subst hf
        obtain ⟨h0, d1, d2⟩ := extA_run (P := P) (w := w) h1 (RL_mapE hr c.args.toList)
        have e : c.args.map a.eval = (c.args.toList.map a.eval).toArray := by apply Array.ext'; simp
        exact Ran.draws hr (by rw [call_ext hext h0 ho hc, e]) d1 d2
      · cases hf
    · cases hf
  · cases hf
/-- An operation that is no call of a function. -/
theorem act_run {o : Oper} (hkeys : ∀ kt n, cs.keys kt = some n → KeyOk P kt n) (hext : ExtOk P cs.ext) (hnc : ∀ c x, o.op = .call c → c.callee ≠ .value x) (hr : RelAt w0 keep r ⟨tm, m⟩ a w) (h : (act P cs pos tm m o).res = some (v, m')) : Ran P w0 keep r a w o v m' := by
  obtain ⟨e, h, g⟩ := Ans.bind_some h
  unfold effOf at h
  split at h
  · rename_i ans hf
    exact act_flt hext hf hr h g
  have plainOp : opVal P tm o = opVal P tm o → (∀ cs b, o.op ≠ .select cs b) → (match opVal P tm o with | some v => Ans.out (Eff.val v) | none => .fail).res = some e → Ran P w0 keep r a w o v m' := by
    intro _ hs h
    split at h
    · rename_i u hu
      simp only [Ans.res, Option.some.injEq] at h
      subst h
      obtain ⟨rfl, rfl⟩ := valE g
      exact opVal_run hs hu hr
    · simp [Ans.res] at h
  cases ho : o.op with
  | move x =>
    unfold effOf0 at h
    simp only [ho, Ans.res, Option.some.injEq] at h
    subst h
    obtain ⟨rfl, rfl⟩ := valE g
    exact act_move (Or.inl ho) hr
  | assign x =>
    unfold effOf0 at h
    simp only [ho, Ans.res, Option.some.injEq] at h
    subst h
    obtain ⟨rfl, rfl⟩ := valE g
    exact act_move (Or.inr ho) hr
  | nilCheck x => exact act_nilCheck ho hr h g
  | pick c x y => exact act_pick ho hr h g
  | box t x => exact act_box ho hr h g
  | alloc t => exact act_alloc ho hr h g
  | buildSlice t len parts => exact act_buildSlice ho hr h g
  | load t x => exact act_load ho hr h g
  | store t x y => exact act_store ho hr h g
  | indexAddr t x ix => exact act_indexAddr ho hr h g
  | fieldAddr t x n => exact act_fieldAddr ho hr h g
  | slice t x lo hi mx => exact act_slice ho hr h g
  | build t parts => exact act_build ho hr h g
  | field t x n => exact act_field ho hr h g
  | index t x ix => exact act_index ho hr h g
  | extract x n => exact act_extract ho hr h g
  | binOp op t x y yt => exact act_binOp ho hr h g
  | range t x => exact act_range ho hr h g
  | next it str => exact act_next ho hr h g
  | unOp op t x =>
    unfold effOf0 at h
    simp only [ho] at h
    exact plainOp rfl (by intro cs b; rw [ho]; simp) h
  | convert s d x => exact act_convert ho hr h g
  | makeSlice t l c => exact act_makeSlice ho hr h g
  | makeMap t res => exact act_makeMap ho hr h g
  | lookup t x ix ok => exact act_lookup hkeys ho hr h g
  | mapUpdate t x ix y => exact act_mapUpdate hkeys ho hr h g
  | call c =>
    cases hc : c.callee with
    | value x => exact absurd hc (hnc c x ho)
    | invoke x mm => unfold effOf0 at h; simp [ho, hc, Ans.res] at h
    | builtin b =>
      cases b with
      | len => exact act_len ho hc hr h g
      | append => exact act_append ho hc hr h g
      | copy => unfold effOf0 at h; simp [ho, hc, Ans.res] at h
      | clear => exact act_clear ho hc hr h g
      | _ =>
        unfold effOf0 at h
        simp only [ho, hc] at h
        exact plainOp rfl (by intro cs b; rw [ho]; simp) h
  | _ => unfold effOf0 at h; simp [ho, Ans.res] at h
end
end Go.Proofs.Ytjhijkdicmbbiaa.Vx


namespace Go.Proofs.Ytjhijkdicmbbiaa.Vx
open Go Go.RowKit

def fnOk (P : Program) (f : FuncId) : Prop := ∃ fn, P.funcs[f]? = some fn ∧ (fn.name == "runtime.NumGoroutine") = false ∧ fn.body.isNone = false
/-- A call without memory. -/
def PlainSem (P : Program) (f : FuncId) (args : List Value) (v : Value) : Prop := fnOk P f ∧ ∀ w, Calls P f args.toArray w fun e w' => e = .returned v ∧ Below w.heap.size w w' ∧ w.drawn ≤ w'.drawn
/-- A call that memory has a part in. -/
def MemSem (P : Program) (f : FuncId) (args : List Value) (m : Mem) (v : Value) (m' : Mem) : Prop :=
  fnOk P f ∧ ∀ (w0 : World) (keep : Keep) (r : Ren) (args' : List Value) (w : World), RL (R r) args args' → MemRel w0 keep r m w →
    Calls P f args'.toArray w fun e w' => ∃ v' r', e = .returned v' ∧ R r' v v' ∧ MemRel w0 keep r' m' w' ∧ Ext r r'
/-- What calls that only look, or only make, are. -/
def RdOk (cs : CallsX) : Prop := (∀ f, cs.rd f = 1 → ∀ args m v m', (cs.mm f args m).res = some (v, m') → m' = m ∧ ∀ (q : Nat) k, m[q]? = some .no → (cs.mm f args (m.set q k)).res = some (v, m.set q k)) ∧ ∀ f, cs.rd f = 2 → ∀ args m v m', (cs.mm f args m).res = some (v, m') → ∃ new, m' = m ++ new ∧ ∀ (q : Nat) k, noViewB k = true → m[q]? = some .no → (cs.mm f args (m.set q k)).res = some (v, m.set q k ++ new)
structure CallOk (P : Program) (cs : CallsX) : Prop where
  pl : ∀ f args v, (∀ x ∈ args, plain x = true) → (cs.pl f args).res = some v → plain v = true → PlainSem P f args v
  mm : ∀ f args m v m', (cs.mm f args m).res = some (v, m') → MemSem P f args m v m'
  keys : ∀ kt n, cs.keys kt = some n → KeyOk P kt n
  rd : RdOk cs
  ext : ExtOk P cs.ext

section
variable {P : Program} {cs : CallsX} {ops : Array Oper}

def wantedV (ops : Array Oper) (o : Oper) (tm : List Value) : Option Bool :=
  match o.guard with
  | none => some true
  | some (j, want) => match gTmp ops j with
    | none => some false
    | some d => match tm[d]? with
      | some (.bool b) => some (b == want)
      | some (.tuple vs) => match vs.toList with
        | [] => some false
        | _ => none
      | none => some false
      | _ => none
def actG (P : Program) (cs : CallsX) (ops : Array Oper) (pos : Pos) (tm : List Value) (m : Mem) (o : Oper) : Option (Value × Mem) :=
  match wantedV ops o tm with
  | some true => (act P cs pos tm m o).res
  | some false => some (undef, m)
  | none => none
def stepR (P : Program) (cs : CallsX) (ops : Array Oper) (o : Oper) (pos : Pos) (st : St) : Option St := (actG P cs ops pos st.tmps st.mem o).map fun p => ⟨putL st.tmps o.dst p.1, p.2⟩
def runR (P : Program) (cs : CallsX) (ops : Array Oper) : List (Oper × Pos) → St → Option St
  | [], st => some st
  | (o, pos) :: rest, st => match stepR P cs ops o pos st with
    | some s => runR P cs ops rest s
    | none => none

theorem set_self {l : List Value} {d : Nat} {v : Value} (h : l[d]? = some v) : l.set d v = l := by
  apply List.ext_getElem?
  intro i
  rw [List.getElem?_set]
  split
  · rename_i hdi
    subst hdi
    rw [if_pos (List.getElem?_eq_some_iff.1 h).1, h]
  · rfl
theorem lit_self {l : List Value} {d : Nat} {b : Bool} (h : l[d]? = some (.bool b)) : lit l d b = l := set_self h
theorem guardA_res (o : Oper) (tm : List Value) : (guardA ops o tm).res = (wantedV ops o tm).map fun b => (b, tm) := by
  unfold guardA wantedV
  cases o.guard with
  | none => rfl
  | some g =>
    obtain ⟨j, want⟩ := g
    simp only
    cases gTmp ops j with
    | none => rfl
    | some d =>
      simp only
      cases hb : tm[d]? with
      | none => rfl
      | some v =>
        cases v with
        | bool b => cases b <;> cases want <;> simp [Ans.res, lit_self hb]
        | tuple vs => simp only; cases vs.toList <;> rfl
        | _ => rfl
theorem opsA_res : ∀ (l : List (Oper × Pos)) (st : St), (opsA P cs ops l st).res = runR P cs ops l st
  | [], st => rfl
  | (o, pos) :: l, st => by
    simp only [opsA, runR]
    rw [forceL_eq, Ans.res_bind, guardA_res]
    unfold stepR actG
    cases hw : wantedV ops o st.tmps with
    | none => rfl
    | some b =>
      simp only [Option.map_some, Option.bind_some]
      cases b with
      | false => simp only [Option.map_some]; exact opsA_res l _
      | true =>
        simp only
        rw [Ans.res_bind]
        cases (act P cs pos st.tmps st.mem o).res with
        | none => rfl
        | some vm =>
          simp only [Option.bind_some, Option.map_some]
          rw [forceV_eq]
          cases Nat.ble 2 (memClass P o) with
          | true => simp only; rw [forceM_eq]; exact opsA_res l _
          | false => simp only; exact opsA_res l _

theorem wanted_eq {w0 : World} {keep : Keep} {r : Ren} {st : St} {a : Act} {w : World} (hr : RelAt w0 keep r st a w) {o : Oper} {b : Bool} (h : wantedV ops o st.tmps = some b) : Region.wanted o (yielded ops a.tmps) = b := by
  unfold wantedV at h
  unfold Region.wanted
  split at h
  · rename_i hg; simp only [hg]; simpa using h
  · rename_i j want hg
    simp only [hg]
    have hq : ((ops[j]?).bind fun x => x.dst) = gTmp ops j := by unfold gTmp; cases ops[j]? <;> rfl
    unfold yielded
    simp only [hq]
    split at h
    · rename_i hd; simp only [hd, Option.bind_none]; simpa using h
    · rename_i d hd
      simp only [hd, Option.bind_some]
      split at h
      · rename_i q hq2
        obtain ⟨v', h1, h2⟩ := hr.2.1.get d _ hq2
        have h1' : a.tmps[d]? = some v' := by simpa using h1
        rw [R_bool h2] at h1'
        simp only [h1']
        simp only [Option.some.injEq] at h
        rw [← h]
        cases q <;> cases want <;> rfl
      · rename_i vs hq2
        split at h
        · rename_i hv
          obtain ⟨v', h1, h2⟩ := hr.2.1.get d _ hq2
          have h1' : a.tmps[d]? = some v' := by simpa using h1
          obtain ⟨vs', rfl, h3⟩ := h2
          simp only [h1']
          simp only [Option.some.injEq] at h
          rw [← h]
          rfl
        · cases h
      · rename_i hq2
        have hl := hr.2.1.length
        have : a.tmps[d]? = none := by
          rw [Array.getElem?_eq_none_iff, ← Array.length_toList, ← hl]
          exact List.getElem?_eq_none_iff.1 hq2
        simp only [this]
        simp only [Option.some.injEq] at h
        rw [← h]
        rfl
      · cases h

theorem rel_put {w0 : World} {keep : Keep} {r r' : Ren} {st : St} {a : Act} {w w' : World} {v v' : Value} {m : Mem} (hr : RelAt w0 keep r st a w) (hm : MemRel w0 keep r' m w') (hv : R r' v v') (he : Ext r r') (dst : Option Tmp) : RelAt w0 keep r' ⟨putL st.tmps dst v, m⟩ (a.put dst v') w' := by
  have h0 : RL (R r') st.tmps a.tmps.toList := RL.mono (fun _ _ => R.ext he) hr.2.1
  cases dst with
  | none => exact ⟨hr.1, h0, hm⟩
  | some d =>
    refine ⟨hr.1, ?_, hm⟩
    simp only [Act.put, putL]
    have : (a.tmps.setIfInBounds d v').toList = a.tmps.toList.set d v' := by simp
    rw [this]
    exact RL.set d h0 hv

theorem calleeFn_spec {tm : List Value} {x : Operand} {f : FuncId} (h : calleeFn tm x = some f) : ev tm x = .func (.func f) #[] #[] := by
  unfold calleeFn at h
  split at h
  · rename_i g fr cp he
    split at h
    · rename_i h1 h2
      simp only [Option.some.injEq] at h
      subst h
      rw [he, show fr = #[] by apply Array.ext'; simpa using h1, show cp = #[] by apply Array.ext'; simpa using h2]
    · cases h
  · cases h
theorem call_enter {w : World} {a : Act} {o : Oper} {c : Call} {f : FuncId} {x : Operand} (ho : o.op = .call c) (hc : c.callee = .value x) (hx : a.eval x = .func (.func f) #[] #[]) (hf : fnOk P f) : (execOp a.eval o).run P w = .ok (.enter f (c.args.map a.eval)) w := by
  obtain ⟨fn, h1, h2, h3⟩ := hf
  simp only [execOp, ho, resolve, hc]
  simp only [hx, Deferred.ofValue, Sem.run_bind, Sem.run_pure, Result.andThen_ok, invoke, callFunc, program, Sem.run, h1, h2, h3]
  simp

theorem RL_map {w0 : World} {keep : Keep} {r : Ren} {st : St} {a : Act} {w : World} (hr : RelAt w0 keep r st a w) : ∀ (l : List Operand), RL (R r) (l.map (ev st.tmps)) (l.map a.eval)
  | [] => trivial
  | x :: l => ⟨eval_R hr x, RL_map hr l⟩

theorem stepR_sound (hcall : CallOk P cs) {i : Nat} {o : Oper} {pos : Pos} (hi : ops[i]? = some o) {st st' : St} (h : stepR P cs ops o pos st = some st') {w0 : World} {keep : Keep} {r0 : Ren} {a : Act} {w : World} (hr : Rel w0 keep r0 st a w)
    {Q : Exit → Act → World → Prop} {K : Act → World → Prop} (hK : ∀ a' w', Rel w0 keep r0 st' a' w' → K a' w') : wpOp P ops Q i K a w := by
  obtain ⟨r, hx, hr⟩ := hr
  unfold wpOp
  simp only [hi]
  unfold stepR actG at h
  cases hw : wantedV ops o st.tmps with
  | none => rw [hw] at h; cases h
  | some b =>
    rw [hw] at h
    rw [wanted_eq hr hw]
    cases b with
    | false =>
      simp only [Option.map_some, Option.some.injEq] at h
      subst h
      rw [if_neg (by simp)]
      exact hK _ _ ⟨r, hx, rel_put hr hr.2.2 (R_undef r) (Ext.refl r) o.dst⟩
    | true =>
      rw [if_pos rfl]
      refine Or.inl ?_
      simp only at h
      cases ha : (act P cs pos st.tmps st.mem o).res with
      | none => rw [ha] at h; cases h
      | some vm =>
        obtain ⟨v, m⟩ := vm
        rw [ha] at h
        simp only [Option.map_some, Option.some.injEq] at h
        subst h
        unfold Oper.wp
        obtain hflt | ⟨ans, hflt⟩ : fltOf P cs st.tmps o = none ∨ ∃ ans, fltOf P cs st.tmps o = some ans := by
          cases fltOf P cs st.tmps o with
          | none => exact Or.inl rfl
          | some x => exact Or.inr ⟨x, rfl⟩
        rotate_left
        · obtain ⟨e, h1, h2⟩ := Ans.bind_some ha
          unfold effOf at h1
          rw [hflt] at h1
          obtain ⟨r', w', v', hrun, hv, hm, he⟩ := act_flt hcall.ext hflt hr h1 h2
          rcases hrun with hrun | ⟨hrun, rfl⟩
          · rw [hrun]
            simp only [Oper.upon]
            exact hK _ _ ⟨r', hx.trans he, rel_put hr hm hv he o.dst⟩
          · rw [hrun]
            simp only [Oper.upon]
            exact hK _ _ ⟨r', hx.trans he, rel_put hr hm hv he o.dst⟩
        by_cases hnc : ∃ c x, o.op = .call c ∧ c.callee = .value x
        · obtain ⟨c, xf, ho, hc⟩ := hnc
          obtain ⟨e, h1, h2⟩ := Ans.bind_some ha
          unfold effOf at h1
          rw [hflt] at h1
          simp only at h1
          unfold effOf0 at h1
          simp only [ho, hc] at h1
          split at h1
          rotate_left
          · simp [Ans.res] at h1
          rename_i f hcf
          have hxf : a.eval xf = .func (.func f) #[] #[] := by
            have := eval_R hr xf
            rw [calleeFn_spec hcf] at this
            exact (R_plain (v := .func (.func f) #[] #[]) rfl).1 this
          have hargs : c.args.map a.eval = (c.args.toList.map a.eval).toArray := by apply Array.ext'; simp
          split at h1
          · split at h1
            · rename_i hall
              obtain ⟨u, h3, h4⟩ := Ans.bind_some h1
              split at h4
              · rename_i hpl
                simp only [Ans.res, Option.some.injEq] at h4
                subst h4
                obtain ⟨rfl, rfl⟩ := valE h2
                have hpa : ∀ x ∈ c.args.toList.map (ev st.tmps), plain x = true := fun x hx => by
                  obtain ⟨y, hy, rfl⟩ := List.mem_map.1 hx
                  exact allO_iff.1 hall y hy
                obtain ⟨hf, hC⟩ := hcall.pl f _ _ hpa h3 hpl
                rw [call_enter ho hc hxf hf]
                simp only [Oper.upon]
                have he : c.args.toList.map a.eval = c.args.toList.map (ev st.tmps) := List.map_congr_left fun x hx => eval_plain hr (allO_iff.1 hall x hx)
                rw [hargs, he]
                refine (hC w).mono ?_
                rintro ex w' ⟨rfl, hb, hdr⟩
                exact hK _ _ ⟨r, hx, rel_put hr (hr.2.2.later hb hdr) ((R_plain hpl).2 rfl) (Ext.refl r) o.dst⟩
              · simp [Ans.res] at h4
            · simp [Ans.res] at h1
          · simp only [Ans.res, Option.some.injEq] at h1
            subst h1
            simp only [runE] at h2
            split at h2
            · obtain ⟨hf, hC⟩ := hcall.mm f _ _ _ _ h2
              rw [call_enter ho hc hxf hf]
              simp only [Oper.upon]
              rw [hargs]
              refine (hC w0 keep r _ w (RL_map hr _) hr.2.2).mono ?_
              rintro ex w' ⟨v', r', rfl, g1, g2, g3⟩
              exact hK _ _ ⟨r', hx.trans g3, rel_put hr g2 g1 g3 o.dst⟩
            · simp [Ans.res] at h2
        · obtain ⟨r', w', v', hrun, hv, hm, he⟩ := act_run hcall.keys hcall.ext (fun c x hc hf => hnc ⟨c, x, hc, hf⟩) hr ha
          rcases hrun with hrun | ⟨hrun, rfl⟩
          · rw [hrun]
            simp only [Oper.upon]
            exact hK _ _ ⟨r', hx.trans he, rel_put hr hm hv he o.dst⟩
          · rw [hrun]
            simp only [Oper.upon]
            exact hK _ _ ⟨r', hx.trans he, rel_put hr hm hv he o.dst⟩

theorem runR_sound (hcall : CallOk P cs) {Q : Exit → Act → World → Prop} {w0 : World} {keep : Keep} {r0 : Ren} {st' : St} (hQ : ∀ a w, Rel w0 keep r0 st' a w → Q .normal a w) :
    ∀ (l : List (Oper × Pos)) (k : Nat) (st : St) (a : Act) (w : World), (∀ j, (l[j]?).map (·.1) = if j < l.length then ops[k + j]? else none) → runR P cs ops l st = some st' → Rel w0 keep r0 st a w → wpOps P ops Q (List.range' k l.length) a w
  | [], k, st, a, w, _, h, hr => by
    simp only [runR, Option.some.injEq] at h
    subst h
    simpa [wpOps] using hQ a w hr
  | (o, n) :: l, k, st, a, w, hl, h, hr => by
    simp only [List.length_cons, List.range'_succ]
    rw [wpOps_cons]
    simp only [runR] at h
    cases hs : stepR P cs ops o n st with
    | none => simp [hs] at h
    | some s =>
      simp only [hs] at h
      have h0 : ops[k]? = some o := by have := hl 0; simpa using this.symm
      refine stepR_sound hcall h0 hs hr fun a' w' hr' => ?_
      refine runR_sound hcall hQ l (k + 1) s a' w' (fun j => ?_) h hr'
      have := hl (j + 1)
      simp only [List.getElem?_cons_succ, List.length_cons, Nat.add_lt_add_iff_right] at this
      rw [this, show k + (j + 1) = k + 1 + j by omega]

theorem ev_congr {tm tm' : List Value} {x : Operand} (h : ∀ t, x = .tmp t → tm[t]? = tm'[t]?) : ev tm x = ev tm' x := by
  cases x with
  | tmp t => simp only [ev]; rw [h t rfl]
  | _ => rfl
theorem opVal_congr {tm tm' : List Value} {o : Oper} (hs : ∀ cs b, o.op ≠ .select cs b) (h : ∀ x ∈ o.op.operands, ev tm x = ev tm' x) : opVal P tm o = opVal P tm' o := by
  have h1 : execOp (ev tm) o = execOp (ev tm') o := execOp_congr o hs h
  have h2 : allO (okOpnd tm) o.op.operands.toList = allO (okOpnd tm') o.op.operands.toList := by
    rw [Bool.eq_iff_iff, allO_iff, allO_iff]
    exact ⟨fun g x hx => by unfold okOpnd; rw [← h x (Array.mem_toList_iff.1 hx)]; exact g x hx, fun g x hx => by unfold okOpnd; rw [h x (Array.mem_toList_iff.1 hx)]; exact g x hx⟩
  unfold opVal
  rw [h1, h2]
theorem sliceHi_congr {tm tm' : List Value} {hi : Option Operand} {n : Nat} (h : ∀ x, hi = some x → ev tm x = ev tm' x) : sliceHi tm hi n = sliceHi tm' hi n := by
  unfold sliceHi
  cases hi with
  | none => rfl
  | some x => simp only; rw [h x rfl]

theorem effOf0_congr {tm tm' : List Value} (o : Oper) (h : ∀ x ∈ o.op.operands, ev tm x = ev tm' x) : effOf0 P cs tm o = effOf0 P cs tm' o := by
  have hO : ∀ x ∈ o.op.operands, okOpnd tm x = okOpnd tm' x := fun x hx => by unfold okOpnd; rw [h x hx]
  obtain ⟨dst, op, type, pos, after, guard⟩ := o
  unfold effOf0
  cases op <;> simp only [Op.operands] at h hO <;> simp only
  case move x => rw [h x (by simp)]
  case assign x => rw [h x (by simp)]
  case nilCheck x => rw [h x (by simp)]
  case pick c x y => rw [h c (by simp), h x (by simp), h y (by simp)]
  case box t x => rw [h x (by simp)]
  case load t x => rw [h x (by simp)]
  case store t x y => rw [h x (by simp), h y (by simp)]
  case indexAddr t x i => rw [h x (by simp), h i (by simp)]
  case fieldAddr t x n => rw [h x (by simp)]
  case slice t x lo hi mx =>
    cases mx with
    | some mx => rfl
    | none =>
      simp only
      rw [h x (by simp)]
      have e1 : ∀ n, sliceHi tm hi n = sliceHi tm' hi n := fun n => sliceHi_congr fun y hy => h y (by subst hy; simp)
      simp only [e1]
      cases lo with
      | none => rfl
      | some y => simp only [h y (by simp)]
  case build t ps =>
    have e1 : (ps.toList.map fun p => (p.1, ev tm p.2)) = ps.toList.map fun p => (p.1, ev tm' p.2) := List.map_congr_left fun p hp => by
      rw [h p.2 (by simpa using ⟨p.1, by simpa using hp⟩)]
    rw [e1]
  case buildSlice t n ps =>
    have e1 : (ps.toList.map fun p => (p.1, ev tm p.2)) = ps.toList.map fun p => (p.1, ev tm' p.2) := List.map_congr_left fun p hp => by
      rw [h p.2 (by simpa using ⟨p.1, by simpa using hp⟩)]
    rw [e1]
  case field t x n => rw [h x (by simp)]
  case index t x i => rw [h x (by simp), h i (by simp)]
  case extract x n => rw [h x (by simp)]
  case binOp op t x y yt =>
    have e := opVal_congr (P := P) (tm := tm) (tm' := tm') (o := ⟨dst, .binOp op t x y yt, type, pos, after, guard⟩) (by intro cs b; simp) (by simpa only [Op.operands] using h)
    rw [h x (by simp), h y (by simp), hO x (by simp), hO y (by simp), e]
  case range t x => rw [h x (by simp)]
  case makeSlice t x y => rw [h x (by simp), h y (by simp)]
  case makeMap t res =>
    have e1 : resvOk tm res = resvOk tm' res := by
      cases res with
      | none => rfl
      | some y => simp only [resvOk, h y (by simp)]
    rw [e1]
  case lookup t x y ok => rw [h x (by simp), h y (by simp)]
  case mapUpdate t x y z => rw [h x (by simp), h y (by simp), h z (by simp)]
  case next it str => rw [h it (by simp)]
  case unOp op t x => rw [opVal_congr (P := P) (tm := tm) (tm' := tm') (o := ⟨dst, .unOp op t x, type, pos, after, guard⟩) (by intro cs b; simp) (by simpa only [Op.operands] using h)]
  case convert s d x => rw [h x (by simp), opVal_congr (P := P) (tm := tm) (tm' := tm') (o := ⟨dst, .convert s d x, type, pos, after, guard⟩) (by intro cs b; simp) (by simpa only [Op.operands] using h)]
  case call c =>
    have e := opVal_congr (P := P) (tm := tm) (tm' := tm') (o := ⟨dst, .call c, type, pos, after, guard⟩) (by intro cs b; simp) (by simpa only [Op.operands] using h)
    have e1 : c.args.toList.map (ev tm) = c.args.toList.map (ev tm') := List.map_congr_left fun x hx => h x (by simp [Call.operands, Array.mem_toList_iff.1 hx])
    have e2 : allO (okOpnd tm) c.args.toList = allO (okOpnd tm') c.args.toList := by
      rw [Bool.eq_iff_iff, allO_iff, allO_iff]
      have hq : ∀ x ∈ c.args.toList, okOpnd tm x = okOpnd tm' x := fun x hx => hO x (by simp [Call.operands, Array.mem_toList_iff.1 hx])
      exact ⟨fun g x hx => by rw [← hq x hx]; exact g x hx, fun g x hx => by rw [hq x hx]; exact g x hx⟩
    have e3 : ∀ x, c.callee = .value x → calleeFn tm x = calleeFn tm' x := fun x hx => by
      unfold calleeFn
      rw [h x (by simp [Call.operands, hx])]
    cases hcal : c.callee with
    | value x => simp only [e1, e2, e3 x hcal]
    | invoke x mm => rfl
    | builtin b => cases b <;> first | rfl | simp only [e, e1]

theorem fltOf_congr {tm tm' : List Value} (o : Oper) (h : ∀ x ∈ o.op.operands, ev tm x = ev tm' x) : fltOf P cs tm o = fltOf P cs tm' o := by
  obtain ⟨dst, op, type, pos, after, guard⟩ := o
  unfold fltOf
  cases op <;> simp only [Op.operands] at h <;> simp only
  case binOp op t x y yt => rw [h x (by simp), h y (by simp)]
  case unOp op t x => cases op <;> first | rfl | simp only [h x (by simp)]
  case convert s d x => rw [h x (by simp)]
  case call c =>
    have e1 : c.args.toList.map (ev tm) = c.args.toList.map (ev tm') := List.map_congr_left fun x hx => h x (by simp [Call.operands, Array.mem_toList_iff.1 hx])
    rw [e1]
theorem effOf_congr {tm tm' : List Value} (o : Oper) (h : ∀ x ∈ o.op.operands, ev tm x = ev tm' x) : effOf P cs tm o = effOf P cs tm' o := by
  unfold effOf
  rw [fltOf_congr o h, effOf0_congr o h]

theorem looks_opnd {o : Oper} {tm tm' : List Value} (h : ∀ t ∈ o.looksAt ops, tm[t]? = tm'[t]?) : ∀ x ∈ o.op.operands, ev tm x = ev tm' x := by
  intro x hx
  refine ev_congr fun t ht => ?_
  subst ht
  refine h t ?_
  unfold Oper.looksAt
  refine List.mem_append.2 (Or.inl ?_)
  exact List.mem_filterMap.2 ⟨_, Array.mem_toList_iff.2 hx, rfl⟩
theorem wantedV_congr {o : Oper} {tm tm' : List Value} (h : ∀ t ∈ o.looksAt ops, tm[t]? = tm'[t]?) : wantedV ops o tm = wantedV ops o tm' := by
  unfold wantedV
  cases hg : o.guard with
  | none => rfl
  | some g =>
    obtain ⟨j, want⟩ := g
    simp only
    cases hd : gTmp ops j with
    | none => rfl
    | some d =>
      simp only
      have hq : ((ops[j]?).bind fun x => x.dst) = some d := by rw [← hd]; unfold gTmp; cases ops[j]? <;> rfl
      rw [h d (by simp [Oper.looksAt, hg, hq])]
theorem actG_congr {pos : Pos} {o : Oper} {tm tm' : List Value} (m : Mem) (h : ∀ t ∈ o.looksAt ops, tm[t]? = tm'[t]?) : actG P cs ops pos tm m o = actG P cs ops pos tm' m o := by
  unfold actG act
  rw [wantedV_congr h, effOf_congr o (looks_opnd h)]

def upd (m : Mem) (b : Nat) : Option Blk → Mem
  | none => m
  | some k => m.set b k
theorem upd_get {m : Mem} {b c : Nat} (h : b ≠ c) (u : Option Blk) : (upd m b u)[c]? = m[c]? := by
  cases u with
  | none => rfl
  | some k => simp only [upd]; rw [List.getElem?_set_ne h]
theorem upd_comm {m : Mem} {b c : Nat} (h : b ≠ c) (u v : Option Blk) : upd (upd m b u) c v = upd (upd m c v) b u := by
  cases u <;> cases v <;> simp only [upd]
  exact List.set_comm _ _ h

/-- Class 0: no memory. -/
theorem actG_quiet {pos : Pos} {o : Oper} {tm : List Value} {m m' : Mem} {v : Value} (h0 : memClass P o = 0 ∨ wantedV ops o tm = some false) (h : actG P cs ops pos tm m o = some (v, m')) : m' = m ∧ ∀ m2, actG P cs ops pos tm m2 o = some (v, m2) := by
  unfold actG at h ⊢
  split at h
  · rename_i hw
    rcases h0 with h0 | h0
    · obtain ⟨e, h1, h2⟩ := Ans.bind_some h
      rw [h0] at h2
      cases e with
      | val u =>
        obtain ⟨rfl, rfl⟩ := valE h2
        refine ⟨rfl, fun m2 => ?_⟩
        unfold act
        rw [Ans.res_bind, h1]
        rfl
      | read b g => exact absurd h2 (by intro h; cases h)
      | make k g => exact absurd h2 (by intro h; cases h)
      | upd b g => exact absurd h2 (by intro h; cases h)
      | all g => exact absurd h2 (by intro h; cases h)
    · rw [h0] at hw; cases hw
  · simp only [Option.some.injEq, Prod.mk.injEq] at h
    obtain ⟨rfl, rfl⟩ := h
    exact ⟨rfl, fun m2 => rfl⟩
  · cases h
/-- Class 1: nothing is turned. -/
theorem actG_reads {pos : Pos} {o : Oper} {tm : List Value} {m m' : Mem} {v : Value} (h0 : memClass P o = 1) (h : actG P cs ops pos tm m o = some (v, m')) : m' = m := by
  unfold actG at h
  split at h
  · obtain ⟨e, h1, h2⟩ := Ans.bind_some h
    rw [h0] at h2
    cases e with
    | val u => exact (valE h2).2
    | read b g => obtain ⟨k, _, _, rfl⟩ := readE h2; rfl
    | make k g => exact absurd h2 (by intro h; cases h)
    | upd b g => exact absurd h2 (by intro h; cases h)
    | all g => exact absurd h2 (by intro h; cases h)
  · simp only [Option.some.injEq, Prod.mk.injEq] at h
    exact h.2.symm
  · cases h
/-- Up to class 3: nothing but a block, which may be foreseen. -/
theorem actG_local {pos : Pos} {o : Oper} {tm : List Value} {m m' : Mem} {v : Value} (h0 : memClass P o ≤ 3) (h : actG P cs ops pos tm m o = some (v, m')) : (m' = m ∧ ∀ m2 : Mem, actG P cs ops pos tm m2 o = some (v, m2)) ∨ ∃ b u, okPos pos b = true ∧ m' = upd m b u ∧ ∀ m2 : Mem, m2[b]? = m[b]? → actG P cs ops pos tm m2 o = some (v, upd m2 b u) := by
  unfold actG at h ⊢
  split at h
  · obtain ⟨e, h1, h2⟩ := Ans.bind_some h
    have hact : ∀ m2, (act P cs pos tm m2 o).res = (runE (memClass P o) pos m2 e).res := fun m2 => by
      unfold act; rw [Ans.res_bind, h1]; rfl
    cases e with
    | val u =>
      obtain ⟨rfl, rfl⟩ := valE h2
      exact Or.inl ⟨rfl, fun m2 => by rw [hact]; rfl⟩
    | read b g =>
      simp only [runE] at h2
      split at h2
      · rename_i hq
        have hq' := hq
        rw [Bool.and_eq_true] at hq
        split at h2
        · rename_i k hk
          obtain ⟨u, h3, h4⟩ := Ans.bind_some h2
          simp only [Ans.res, Option.some.injEq, Prod.mk.injEq] at h4
          obtain ⟨rfl, rfl⟩ := h4
          refine Or.inr ⟨b, none, hq.2, rfl, fun m2 hm2 => ?_⟩
          rw [hact]
          simp only [runE, hq']
          rw [hm2, hk]
          simp only
          rw [Ans.res_bind, h3]
          rfl
        · simp [Ans.res] at h2
      · simp [Ans.res] at h2
    | make k f =>
      simp only [runE] at h2
      split at h2
      · rename_i q hq
        split at h2
        · rename_i hb
          simp only [Ans.res, Option.some.injEq, Prod.mk.injEq] at h2
          obtain ⟨rfl, rfl⟩ := h2
          refine Or.inr ⟨q, some k, by simp [okPos], rfl, fun m2 hm2 => ?_⟩
          rw [hact]
          simp only [runE, hq]
          rw [hm2, hb]
          rfl
        · simp [Ans.res] at h2
      · simp [Ans.res] at h2
    | upd b g =>
      simp only [runE] at h2
      split at h2
      · rename_i hq
        have hq' := hq
        rw [Bool.and_eq_true] at hq
        split at h2
        · rename_i k hk
          obtain ⟨⟨u, k'⟩, h3, h4⟩ := Ans.bind_some h2
          simp only [Ans.res, Option.some.injEq, Prod.mk.injEq] at h4
          obtain ⟨rfl, rfl⟩ := h4
          refine Or.inr ⟨b, some k', hq.2, rfl, fun m2 hm2 => ?_⟩
          rw [hact]
          simp only [runE, hq']
          rw [hm2, hk]
          simp only
          rw [Ans.res_bind, h3]
          rfl
        · simp [Ans.res] at h2
      · simp [Ans.res] at h2
    | all g =>
      simp only [runE] at h2
      split at h2
      · rename_i hq
        rw [Bool.and_eq_true] at hq
        have := Nat.eq_of_beq_eq_true hq.1
        omega
      · simp [Ans.res] at h2
  · simp only [Option.some.injEq, Prod.mk.injEq] at h
    obtain ⟨rfl, rfl⟩ := h
    exact Or.inl ⟨rfl, fun m2 => rfl⟩
  · cases h
theorem isRd_eff {z : Nat} {o : Oper} {tm : List Value} (h0 : isRd P cs.rd z o = true) : ∃ f args, cs.rd f = z ∧ memClass P o = 4 ∧ effOf P cs tm o = .out (.all (cs.mm f args)) := by
  unfold isRd at h0
  split at h0
  rotate_left
  · cases h0
  rename_i f hf
  rw [Bool.and_eq_true] at h0
  have hcls := Nat.eq_of_beq_eq_true h0.2
  obtain ⟨dst, op, type, ps, after, guard⟩ := o
  unfold callFn at hf
  simp only at hf
  cases op with
  | call c =>
    simp only at hf
    cases hc : c.callee with
    | value x =>
      rw [hc] at hf
      cases x with
      | func g =>
        simp only [Option.some.injEq] at hf
        subst hf
        have he : isExt P (.func g) = false := by
          cases he : isExt P (.func g) with
          | false => rfl
          | true => simp [memClass, hc, he] at hcls
        have hp : plainCall P ⟨dst, .call c, type, ps, after, guard⟩ c = false := by
          cases hp : plainCall P ⟨dst, .call c, type, ps, after, guard⟩ c with
          | false => rfl
          | true => simp [memClass, hc, hp, he] at hcls
        refine ⟨g, c.args.toList.map (ev tm), Nat.eq_of_beq_eq_true h0.1, hcls, ?_⟩
        unfold effOf fltOf effOf0
        simp only [hc, hp, he, calleeFn, ev]
      | _ => cases hf
    | _ => rw [hc] at hf; cases hf
  | _ => cases hf
theorem lenOk_set {pos : Pos} {m : Mem} {q : Nat} {k : Blk} : lenOk pos (m.set q k) = lenOk pos m := by cases pos <;> simp [lenOk]
/-- A call that only looks. -/
theorem actG_rd (hrd : RdOk cs) {pos : Pos} {o : Oper} {tm : List Value} {m m' : Mem} {v : Value} (h0 : isRd P cs.rd 1 o = true) (h : actG P cs ops pos tm m o = some (v, m')) : m' = m ∧ ∀ (q : Nat) k, m[q]? = some .no → actG P cs ops pos tm (m.set q k) o = some (v, m.set q k) := by
  obtain ⟨f, args, hf, hcls, heff⟩ := isRd_eff (tm := tm) h0
  unfold actG at h ⊢
  split at h
  · unfold act at h ⊢
    rw [heff] at h ⊢
    rw [hcls] at h ⊢
    simp only [Ans.bind, runE] at h ⊢
    split at h
    · rename_i hl
      obtain ⟨e1, e2⟩ := hrd.1 f hf _ m v m' h
      refine ⟨e1, fun q k hq => ?_⟩
      rw [lenOk_set, hl]
      exact e2 q k hq
    · simp [Ans.res] at h
  · simp only [Option.some.injEq, Prod.mk.injEq] at h
    obtain ⟨rfl, rfl⟩ := h
    exact ⟨rfl, fun q k _ => rfl⟩
  · cases h
/-- A call that makes something beside what is there. -/
theorem actG_rd2 (hrd : RdOk cs) {pos : Pos} {o : Oper} {tm : List Value} {m m' : Mem} {v : Value} (h0 : isRd P cs.rd 2 o = true) (h : actG P cs ops pos tm m o = some (v, m')) : ∃ new, m' = m ++ new ∧ (new = [] ∨ lenOk pos m = true) ∧ ∀ (q : Nat) k, noViewB k = true → m[q]? = some .no → actG P cs ops pos tm (m.set q k) o = some (v, m.set q k ++ new) := by
  obtain ⟨f, args, hf, hcls, heff⟩ := isRd_eff (tm := tm) h0
  unfold actG at h ⊢
  split at h
  · unfold act at h ⊢
    rw [heff] at h ⊢
    rw [hcls] at h ⊢
    simp only [Ans.bind, runE] at h ⊢
    split at h
    · rename_i hl
      have hl' := hl
      rw [Bool.and_eq_true] at hl
      obtain ⟨new, e, e2⟩ := hrd.2 f hf _ m v m' h
      refine ⟨new, e, Or.inr hl.2, fun q k hk hq => ?_⟩
      rw [lenOk_set, hl']
      exact e2 q k hk hq
    · simp [Ans.res] at h
  · simp only [Option.some.injEq, Prod.mk.injEq] at h
    obtain ⟨rfl, rfl⟩ := h
    exact ⟨[], by rw [List.append_nil], Or.inl rfl, fun q k _ _ => by rw [List.append_nil]⟩
  · cases h
/-- A new variable. -/
theorem actG_alloc {pos : Pos} {o : Oper} {tm : List Value} {m m' : Mem} {v : Value} (h0 : isAlloc o = true) (h : actG P cs ops pos tm m o = some (v, m')) : (m' = m ∧ ∀ m2 : Mem, actG P cs ops pos tm m2 o = some (v, m2)) ∨ ∃ (q : Nat) (k : Blk), pos = .at q ∧ noViewB k = true ∧ m[q]? = some .no ∧ m' = m.set q k ∧ ∀ m2 : Mem, m2[q]? = some .no → actG P cs ops pos tm m2 o = some (v, m2.set q k) := by
  unfold actG at h ⊢
  split at h
  · right
    obtain ⟨e, h1, h2⟩ := Ans.bind_some h
    have hact : ∀ m2, (act P cs pos tm m2 o).res = (runE (memClass P o) pos m2 e).res := fun m2 => by
      unfold act; rw [Ans.res_bind, h1]; rfl
    have hk : ∃ c g, e = .make (.cells true 0 c) g := by
      obtain ⟨dst, op, type, ps, after, guard⟩ := o
      unfold isAlloc at h0
      simp only at h0
      cases op with
      | alloc t =>
        simp only [effOf, fltOf, effOf0] at h1
        split at h1
        · split at h1
          · split at h1
            · simp only [Ans.res, Option.some.injEq] at h1
              exact ⟨_, _, h1.symm⟩
            · simp [Ans.res] at h1
          · simp [Ans.res] at h1
        · simp [Ans.res] at h1
      | _ => cases h0
    obtain ⟨c, g, rfl⟩ := hk
    simp only [runE] at h2
    split at h2
    · rename_i p hb
      split at h2
      · rename_i hn
        simp only [Ans.res, Option.some.injEq, Prod.mk.injEq] at h2
        obtain ⟨rfl, rfl⟩ := h2
        refine ⟨p, _, rfl, rfl, hn, rfl, fun m2 hm2 => ?_⟩
        rw [hact]
        simp only [runE, hb, hm2]
        rfl
      · simp [Ans.res] at h2
    · simp [Ans.res] at h2
  · simp only [Option.some.injEq, Prod.mk.injEq] at h
    obtain ⟨rfl, rfl⟩ := h
    exact Or.inl ⟨rfl, fun m2 => rfl⟩
  · cases h
/-- Class 1: a block is looked at, or none. -/
theorem actG_read1 {pos : Pos} {o : Oper} {tm : List Value} {m m' : Mem} {v : Value} (h0 : memClass P o = 1) (h : actG P cs ops pos tm m o = some (v, m')) : (∀ m2 : Mem, actG P cs ops pos tm m2 o = some (v, m2)) ∨ ∃ b, okPos pos b = true ∧ b < m.length ∧ ∀ m2 : Mem, m2[b]? = m[b]? → actG P cs ops pos tm m2 o = some (v, m2) := by
  unfold actG at h ⊢
  split at h
  · obtain ⟨e, h1, h2⟩ := Ans.bind_some h
    have hact : ∀ m2, (act P cs pos tm m2 o).res = (runE (memClass P o) pos m2 e).res := fun m2 => by
      unfold act; rw [Ans.res_bind, h1]; rfl
    cases e with
    | val u =>
      obtain ⟨rfl, rfl⟩ := valE h2
      exact Or.inl fun m2 => by rw [hact]; rfl
    | read b g =>
      simp only [runE] at h2
      split at h2
      · rename_i hq
        have hq' := hq
        rw [Bool.and_eq_true] at hq
        split at h2
        · rename_i k hk
          obtain ⟨u, h3, h4⟩ := Ans.bind_some h2
          simp only [Ans.res, Option.some.injEq, Prod.mk.injEq] at h4
          obtain ⟨rfl, rfl⟩ := h4
          refine Or.inr ⟨b, hq.2, (List.getElem?_eq_some_iff.1 hk).1, fun m2 hm2 => ?_⟩
          rw [hact]
          simp only [runE, hq']
          rw [hm2, hk]
          simp only
          rw [Ans.res_bind, h3]
          rfl
        · simp [Ans.res] at h2
      · simp [Ans.res] at h2
    | make k f => rw [h0] at h2; exact absurd h2 (by intro h; cases h)
    | upd b g => rw [h0] at h2; exact absurd h2 (by intro h; cases h)
    | all g => rw [h0] at h2; exact absurd h2 (by intro h; cases h)
  · simp only [Option.some.injEq, Prod.mk.injEq] at h
    obtain ⟨rfl, rfl⟩ := h
    exact Or.inl fun m2 => rfl
  · cases h
theorem low_lt {p q : Pos} {b : Nat} {m : Mem} (h : lowPos p q = true) (hl : lenOk p m = true) (hb : okPos q b = true) : b < m.length := by
  cases p with
  | low a =>
    have hl : a ≤ m.length := Nat.le_of_ble_eq_true hl
    cases q with
    | low c =>
      have h1 : c ≤ a := Nat.le_of_ble_eq_true h
      have h2 : b < c := Nat.blt_eq.mp hb
      omega
    | «at» c =>
      have h1 : c < a := Nat.blt_eq.mp h
      have h2 : c = b := Nat.eq_of_beq_eq_true hb
      omega
    | any => cases h
  | _ => cases h
/-- Up to class 2: nothing is turned, or a block is made. -/
theorem actG_makes {pos : Pos} {o : Oper} {tm : List Value} {m m' : Mem} {v : Value} (h0 : memClass P o ≤ 2) (h : actG P cs ops pos tm m o = some (v, m')) : m' = m ∨ ∃ (q : Nat) (k : Blk), m[q]? = some .no ∧ m' = m.set q k := by
  unfold actG at h
  split at h
  · obtain ⟨e, h1, h2⟩ := Ans.bind_some h
    cases e with
    | val u => exact Or.inl (valE h2).2
    | read b g =>
      simp only [runE] at h2
      split at h2
      · split at h2
        · obtain ⟨u, h3, h4⟩ := Ans.bind_some h2
          simp only [Ans.res, Option.some.injEq, Prod.mk.injEq] at h4
          exact Or.inl h4.2.symm
        · simp [Ans.res] at h2
      · simp [Ans.res] at h2
    | make k f =>
      simp only [runE] at h2
      split at h2
      · rename_i q _
        split at h2
        · rename_i hb
          simp only [Ans.res, Option.some.injEq, Prod.mk.injEq] at h2
          exact Or.inr ⟨q, k, hb, h2.2.symm⟩
        · simp [Ans.res] at h2
      · simp [Ans.res] at h2
    | upd b g =>
      simp only [runE] at h2
      split at h2
      · rename_i hq
        rw [Bool.and_eq_true] at hq
        have := Nat.eq_of_beq_eq_true hq.1
        omega
      · simp [Ans.res] at h2
    | all g =>
      simp only [runE] at h2
      split at h2
      · rename_i hq
        rw [Bool.and_eq_true] at hq
        have := Nat.eq_of_beq_eq_true hq.1
        omega
      · simp [Ans.res] at h2
  · simp only [Option.some.injEq, Prod.mk.injEq] at h
    exact Or.inl h.2.symm
  · cases h
theorem apart_ne {p q : Pos} (h : apartPos p q = true) {b c : Nat} (hb : okPos p b = true) (hc : okPos q c = true) : b ≠ c := by
  cases p with
  | any => simp [apartPos] at h
  | «at» a =>
    cases q with
    | any => simp [apartPos] at h
    | «at» d =>
      have h1 : a = b := Nat.eq_of_beq_eq_true hb
      have h2 : d = c := Nat.eq_of_beq_eq_true hc
      subst h1; subst h2
      intro e; subst e; simp [apartPos] at h
    | low n =>
      have h1 : a = b := Nat.eq_of_beq_eq_true hb
      have h2 : c < n := Nat.blt_eq.mp hc
      have h3 : n ≤ a := Nat.le_of_ble_eq_true h
      omega
  | low n =>
    cases q with
    | any => simp [apartPos] at h
    | «at» d =>
      have h1 : b < n := Nat.blt_eq.mp hb
      have h2 : d = c := Nat.eq_of_beq_eq_true hc
      have h3 : n ≤ d := Nat.le_of_ble_eq_true h
      omega
    | low k => simp [apartPos] at h

theorem putL_get {l : List Value} {dst : Option Tmp} {v : Value} {t : Tmp} (h : ∀ d, dst = some d → d ≠ t) : (putL l dst v)[t]? = l[t]? := by
  cases dst with
  | none => rfl
  | some d => simp only [putL]; rw [List.getElem?_set_ne (h d rfl)]
theorem putL_comm (l : List Value) {d e : Option Tmp} (v u : Value) (h : ∀ x, d = some x → e ≠ some x) : putL (putL l d v) e u = putL (putL l e u) d v := by
  cases d with
  | none => rfl
  | some x =>
    cases e with
    | none => rfl
    | some y =>
      have hne : x ≠ y := fun hxy => h x rfl (by rw [hxy])
      simp only [putL]
      exact List.set_comm _ _ hne

theorem swap_mem (hrd : RdOk cs) {x y : Oper} {px py : Pos} {tm : List Value} {m mx my : Mem} {vx vy : Value}
    (hcl : (Nat.beq (memClass P x) 0 || Nat.beq (memClass P y) 0 || (Nat.beq (memClass P x) 1 && Nat.beq (memClass P y) 1) || (Nat.ble (memClass P x) 3 && Nat.ble (memClass P y) 3 && apartPos px py) || (isRd P cs.rd 1 x && Nat.ble (memClass P y) 2) || (isRd P cs.rd 1 y && Nat.ble (memClass P x) 1) || (isRd P cs.rd 2 x && (Nat.beq (memClass P y) 1 && lowPos px py)) || (isRd P cs.rd 2 y && Nat.beq (memClass P x) 1) || (isRd P cs.rd 2 x && (isAlloc y && lowPos px py))) = true)
    (ex : actG P cs ops px tm m x = some (vx, mx)) (ey : actG P cs ops py tm mx y = some (vy, my)) :
    ∃ m1, actG P cs ops py tm m y = some (vy, m1) ∧ actG P cs ops px tm m1 x = some (vx, my) := by
  simp only [Bool.or_eq_true, Bool.and_eq_true] at hcl
  rcases hcl with (((((((h | h) | h) | h) | h) | h) | h) | h) | h
  · obtain ⟨rfl, hx⟩ := actG_quiet (Or.inl (Nat.eq_of_beq_eq_true h)) ex
    exact ⟨my, ey, hx my⟩
  · obtain ⟨rfl, hy⟩ := actG_quiet (Or.inl (Nat.eq_of_beq_eq_true h)) ey
    exact ⟨m, hy m, ex⟩
  · have e1 := actG_reads (Nat.eq_of_beq_eq_true h.1) ex
    subst e1
    have e2 := actG_reads (Nat.eq_of_beq_eq_true h.2) ey
    subst e2
    exact ⟨_, ey, ex⟩
  · obtain ⟨⟨hx, hy⟩, hp⟩ := h
    rcases actG_local (Nat.le_of_ble_eq_true hx) ex with ⟨rfl, hx'⟩ | ⟨b, ux, hb, rfl, hx'⟩
    · exact ⟨my, ey, hx' my⟩
    · rcases actG_local (Nat.le_of_ble_eq_true hy) ey with ⟨rfl, hy'⟩ | ⟨c, uy, hc, rfl, hy'⟩
      · exact ⟨m, hy' m, ex⟩
      · have hne : b ≠ c := apart_ne hp hb hc
        refine ⟨upd m c uy, hy' m (upd_get hne ux).symm, ?_⟩
        rw [hx' (upd m c uy) (upd_get (Ne.symm hne) uy), upd_comm hne]
  · obtain ⟨rfl, hx⟩ := actG_rd hrd h.1 ex
    rcases actG_makes (Nat.le_of_ble_eq_true h.2) ey with rfl | ⟨q, k, hq, rfl⟩
    · exact ⟨_, ey, ex⟩
    · exact ⟨_, ey, hx q k hq⟩
  · have hle := Nat.le_of_ble_eq_true h.2
    have e1 : mx = m := by
      rcases Nat.lt_or_ge (memClass P x) 1 with h0 | h0
      · exact (actG_quiet (Or.inl (by omega)) ex).1
      · exact actG_reads (by omega) ex
    subst e1
    obtain ⟨rfl, _⟩ := actG_rd hrd h.1 ey
    exact ⟨_, ey, ex⟩
  · obtain ⟨h1, h2, h3⟩ := h
    obtain ⟨new, rfl, hn, _⟩ := actG_rd2 hrd h1 ex
    have hc := Nat.eq_of_beq_eq_true h2
    have e2 := actG_reads hc ey
    subst e2
    refine ⟨m, ?_, ex⟩
    rcases actG_read1 hc ey with hy | ⟨b, hb, _, hy⟩
    · exact hy m
    · refine hy m ?_
      rcases hn with rfl | hn
      · rw [List.append_nil]
      · rw [List.getElem?_append_left (low_lt h3 hn hb)]
  · obtain ⟨h1, h2⟩ := h
    have hc := Nat.eq_of_beq_eq_true h2
    have e1 := actG_reads hc ex
    subst e1
    obtain ⟨new, rfl, _, _⟩ := actG_rd2 hrd h1 ey
    refine ⟨_, ey, ?_⟩
    rcases actG_read1 hc ex with hx | ⟨b, _, hb, hx⟩
    · exact hx _
    · exact hx _ (List.getElem?_append_left hb)
  · obtain ⟨h1, h2, h3⟩ := h
    obtain ⟨new, rfl, hn, hset⟩ := actG_rd2 hrd h1 ex
    rcases actG_alloc h2 ey with ⟨rfl, hy⟩ | ⟨q, k, hpos, hk, hq, rfl, hy⟩
    · exact ⟨m, hy m, ex⟩
    · have hqm : q < m.length := by
        rcases hn with rfl | hn
        · rw [List.append_nil] at hq
          exact (List.getElem?_eq_some_iff.1 hq).1
        · subst hpos
          exact low_lt h3 hn (by simp [okPos])
      rw [List.getElem?_append_left hqm] at hq
      refine ⟨m.set q k, hy m hq, ?_⟩
      rw [hset q k hk hq, List.set_append_left _ _ hqm]

theorem map_put {x : Option (Value × Mem)} {tm : List Value} {dst : Option Tmp} {s : St} (h : (x.map fun p => (⟨putL tm dst p.1, p.2⟩ : St)) = some s) : ∃ v m, x = some (v, m) ∧ s = ⟨putL tm dst v, m⟩ := by
  cases x with
  | none => simp at h
  | some p => obtain ⟨v, m⟩ := p; simp at h; exact ⟨v, m, rfl, h.symm⟩
theorem swap (hrd : RdOk cs) {x y : Oper} {px py : Pos} (ok : swapOk P cs.rd ops (x, px) (y, py) = true) {st s1 s2 : St} (h1 : stepR P cs ops x px st = some s1) (h2 : stepR P cs ops y py s1 = some s2) :
    ∃ s1', stepR P cs ops y py st = some s1' ∧ stepR P cs ops x px s1' = some s2 := by
  unfold swapOk at ok
  rw [Bool.and_eq_true] at ok
  obtain ⟨hap, hcl⟩ := ok
  obtain ⟨a1, a2, a3⟩ := Oper.apart_spec hap
  obtain ⟨tm, mem⟩ := st
  unfold stepR at h1
  obtain ⟨vx, mx, ex, rfl⟩ := map_put h1
  unfold stepR at h2
  obtain ⟨vy, my, ey, rfl⟩ := map_put h2
  simp only at ex ey
  have agY : ∀ t, t ∈ y.looksAt ops → (putL tm x.dst vx)[t]? = tm[t]? := fun t ht => putL_get fun d hd e => a1 d hd (e ▸ ht)
  have agX : ∀ (u : Value) t, t ∈ x.looksAt ops → (putL tm y.dst u)[t]? = tm[t]? := fun u t ht => putL_get fun d hd e => a3 d hd (e ▸ ht)
  have ey' : actG P cs ops py tm mx y = some (vy, my) := by
    rw [← actG_congr mx agY]; exact ey
  obtain ⟨m1, k1, k2⟩ := swap_mem hrd hcl ex ey'
  refine ⟨⟨putL tm y.dst vy, m1⟩, ?_, ?_⟩
  · unfold stepR; rw [k1]; rfl
  · unfold stepR
    simp only
    rw [actG_congr m1 (agX vy), k2]
    simp only [Option.map_some, Option.some.injEq]
    rw [putL_comm tm vx vy a2]
theorem front (hrd : RdOk cs) {y : Oper} {py : Pos} {post : List (Oper × Pos)} {s : St} : ∀ (pre : List (Oper × Pos)) (st : St), (∀ x ∈ pre, swapOk P cs.rd ops x (y, py) = true) → runR P cs ops (pre ++ (y, py) :: post) st = some s →
    ∃ s1, stepR P cs ops y py st = some s1 ∧ runR P cs ops (pre ++ post) s1 = some s
  | [], st, _, h => by
    simp only [List.nil_append, runR] at h
    cases hs : stepR P cs ops y py st with
    | none => simp [hs] at h
    | some s1 => simp only [hs] at h; exact ⟨s1, rfl, h⟩
  | (x, px) :: pre, st, hok, h => by
    simp only [List.cons_append, runR] at h
    cases hs : stepR P cs ops x px st with
    | none => simp [hs] at h
    | some s' =>
      simp only [hs] at h
      obtain ⟨s2, h2, h3⟩ := front hrd pre s' (fun z hz => hok z (by simp [hz])) h
      obtain ⟨s1, k1, k2⟩ := swap hrd (hok (x, px) (by simp)) hs h2
      exact ⟨s1, k1, by simp only [List.cons_append, runR, k2]; exact h3⟩
end

theorem okFrom_spec {P : Program} {rd : FuncId → Nat} {ops : Array Oper} {i : Nat} {x : Oper × Pos} : ∀ (l : List ((Oper × Pos) × Nat)), okFrom P rd ops i x l = true → ∀ y ∈ l, y.2.testBit i = false → swapOk P rd ops x y.1 = true
  | [], _, y, hy, _ => by cases hy
  | (z, m) :: l, h, y, hy, he => by
    simp only [okFrom, Bool.and_eq_true, Bool.or_eq_true] at h
    rcases List.mem_cons.1 hy with rfl | hy
    · rcases h.1 with h1 | h1
      · simp only at he; rw [he] at h1; cases h1
      · exact h1
    · exact okFrom_spec l h.2 y hy he

theorem okAll_spec {P : Program} {rd : FuncId → Nat} {ops : Array Oper} : ∀ (l : List ((Oper × Pos) × Nat)) (k : Nat), okAll P rd ops k l = true → ∀ (j i : Nat) (x y : (Oper × Pos) × Nat), j < i → l[j]? = some x → l[i]? = some y → y.2.testBit (k + j) = false → swapOk P rd ops x.1 y.1 = true
  | [], _, _, j, _, _, _, _, hx, _, _ => by simp at hx
  | (z, m) :: l, k, h, j, i, x, y, hji, hx, hy, he => by
    simp only [okAll, Bool.and_eq_true] at h
    cases i with
    | zero => omega
    | succ i =>
      simp only [List.getElem?_cons_succ] at hy
      cases j with
      | zero =>
        simp only [List.getElem?_cons_zero, Option.some.injEq] at hx
        subst hx
        exact okFrom_spec l h.1 y (List.mem_of_getElem? hy) (by simpa using he)
      | succ j =>
        simp only [List.getElem?_cons_succ] at hx
        exact okAll_spec l (k + 1) h.2 j i x y (by omega) hx hy (by rw [show k + 1 + j = k + (j + 1) by omega]; exact he)

/-- What a number's bits name has been listed, where all edges of its operation lead to what has been. -/
def MaskInv (ops : Array Oper) (L : Nat → Prop) (acc : List Nat) : Prop :=
  ∀ k o, k < acc.length → ops[k]? = some o → (∀ e ∈ o.after, Region.binds .any e = true → L e.on) → ∀ j, (acc.getD k 0).testBit j = true → L j

theorem fold_mask {ops : Array Oper} {L : Nat → Prop} {acc : List Nat} (hinv : MaskInv ops L acc) (hacc : acc.length ≤ ops.size) (hdown : ∀ k o, ops[k]? = some o → L k → ∀ e ∈ o.after, Region.binds .any e = true → L e.on) :
    ∀ (es : List Edge) (s : Nat), (∀ e ∈ es, Region.binds .any e = true → L e.on) → (∀ j, s.testBit j = true → L j) → ∀ j, (es.foldl (fun s e => match Region.binds .any e with
      | true => s ||| 2 ^ e.on ||| acc.getD e.on 0
      | false => s) s).testBit j = true → L j
  | [], s, _, hs, j, hj => hs j hj
  | e :: es, s, he, hs, j, hj => by
    rw [List.foldl_cons] at hj
    refine fold_mask hinv hacc hdown es _ (fun e' h' => he e' (by simp [h'])) ?_ j hj
    intro q hq
    cases hb : Region.binds .any e with
    | false => rw [hb] at hq; exact hs q hq
    | true =>
      rw [hb] at hq
      simp only [Nat.testBit_or, Bool.or_eq_true] at hq
      have hl := he e (by simp) hb
      rcases hq with (h1 | h1) | h1
      · exact hs q h1
      · rw [Nat.testBit_two_pow] at h1
        have : e.on = q := by simpa using h1
        rw [← this]; exact hl
      · by_cases hlt : e.on < acc.length
        · have ho : ops[e.on]? = some (ops[e.on]'(by omega)) := Array.getElem?_eq_getElem (by omega)
          exact hinv e.on _ hlt ho (hdown e.on _ ho hl) q h1
        · rw [List.getD_eq_getElem?_getD, List.getElem?_eq_none (by omega)] at h1
          simp at h1

theorem masks_spec {ops : Array Oper} {L : Nat → Prop} (hdown : ∀ k o, ops[k]? = some o → L k → ∀ e ∈ o.after, Region.binds .any e = true → L e.on) :
    ∀ (l : List Oper) (acc : List Nat), (∀ i, l[i]? = ops[acc.length + i]?) → MaskInv ops L acc → MaskInv ops L (masks acc l) ∧ (masks acc l).length = acc.length + l.length
  | [], acc, _, h => ⟨h, rfl⟩
  | y :: l, acc, hl, h => by
    have hy : ops[acc.length]? = some y := by have := hl 0; simpa using this.symm
    have hsz : acc.length < ops.size := (Array.getElem?_eq_some_iff.1 hy).1
    have := masks_spec hdown l (acc ++ [maskOf acc y]) (fun i => by
      have := hl (i + 1)
      simp only [List.getElem?_cons_succ] at this
      rw [this, List.length_append, List.length_singleton, show acc.length + (i + 1) = acc.length + 1 + i by omega]) (by
      intro k o hk ho he j hj
      rw [List.length_append, List.length_singleton] at hk
      rw [List.getD_eq_getElem?_getD, List.getElem?_append] at hj
      split at hj
      · rename_i hlt
        exact h k o hlt ho he j (by rw [List.getD_eq_getElem?_getD]; exact hj)
      · have hkk : k = acc.length := by omega
        subst hkk
        rw [hy] at ho
        simp only [Option.some.injEq] at ho
        subst ho
        simp only [Nat.sub_self, List.getElem?_cons_zero, Option.getD_some] at hj
        exact fold_mask h (by omega) hdown y.after.toList 0 (fun e he' hb => he e (Array.mem_toList_iff.1 he') hb) (fun j hj => by simp at hj) j hj)
    refine ⟨this.1, ?_⟩
    simp only [masks]
    rw [this.2]
    simp
    omega

theorem places_cons (P : Program) (draw : Bool) (tmps : List Value) (n0 : Nat) (env : List (Nat × Option Nat)) (n : Nat) (o : Oper) (l : List Oper) :
    ∃ b env' n', places P draw tmps n0 env n (o :: l) = (o, b) :: places P draw tmps n0 env' n' l := by
  cases hm : makes P o with
  | true => exact ⟨.at n, _, n + 1, by simp only [places, hm]; rfl⟩
  | false =>
    cases draw with
    | false => exact ⟨.any, env, n, by simp only [places, hm]⟩
    | true => exact ⟨_, _, n, by simp only [places, hm]; rfl⟩
theorem places_get (P : Program) (draw : Bool) (tmps : List Value) (n0 : Nat) : ∀ (l : List Oper) (env : List (Nat × Option Nat)) (n i : Nat), ((places P draw tmps n0 env n l)[i]?).map (·.1) = l[i]?
  | [], _, _, i => by simp [places]
  | o :: l, env, n, i => by
    obtain ⟨b, env', n', h⟩ := places_cons P draw tmps n0 env n o l
    rw [h]
    cases i with
    | zero => simp
    | succ i => simp only [List.getElem?_cons_succ]; exact places_get P draw tmps n0 l env' n' i
theorem places_length (P : Program) (draw : Bool) (tmps : List Value) (n0 : Nat) : ∀ (l : List Oper) (env : List (Nat × Option Nat)) (n : Nat), (places P draw tmps n0 env n l).length = l.length
  | [], _, _ => rfl
  | o :: l, env, n => by
    obtain ⟨b, env', n', hp⟩ := places_cons P draw tmps n0 env n o l
    rw [hp, List.length_cons, List.length_cons, places_length P draw tmps n0 l]

theorem okEdges_spec : ∀ (l : List Oper) (k : Nat), okEdges k l = true → ∀ (i : Nat) (y : Oper), l[i]? = some y → ∀ e ∈ y.after, Region.binds .any e = true → e.on < k + i
  | [], _, _, i, y, hy, _, _, _ => by simp at hy
  | z :: l, k, h, i, y, hy, e, he, hb => by
    simp only [okEdges, Bool.and_eq_true] at h
    cases i with
    | zero =>
      simp only [List.getElem?_cons_zero, Option.some.injEq] at hy
      subst hy
      have := List.all_eq_true.1 h.1 e (Array.mem_toList_iff.2 he)
      simpa [hb] using this
    | succ i =>
      simp only [List.getElem?_cons_succ] at hy
      have := okEdges_spec l (k + 1) h.2 i y hy e he hb
      omega

/-- What has not been listed yet, in the text's order. -/
def remIdx (n : Nat) (listed : Array Bool) : List Nat := (List.range n).filter fun i => !listed.getD i true
def remOps (pl : List (Oper × Pos)) (ops : Array Oper) (listed : Array Bool) : List (Oper × Pos) := (remIdx ops.size listed).filterMap (pl[·]?)

theorem mem_remIdx {n i : Nat} {listed : Array Bool} : i ∈ remIdx n listed ↔ i < n ∧ listed.getD i true = false := by
  simp [remIdx]

theorem getD_ft {listed : Array Bool} {n j : Nat} (hs : listed.size = n) (hj : j < n) (h : listed.getD j true = true) : listed.getD j false = true := by
  have hj' : j < listed.size := by omega
  simp only [Array.getD_eq_getD_getElem?, Array.getElem?_eq_getElem hj', Option.getD_some] at h ⊢
  exact h

theorem remIdx_split {n i : Nat} {listed : Array Bool} (hi : i < n) (hl : listed.getD i true = false) (hsz : listed.size = n) : ∃ pre post, remIdx n listed = pre ++ i :: post ∧ remIdx n (listed.setIfInBounds i true) = pre ++ post ∧ ∀ j ∈ pre, j < i ∧ listed.getD j true = false := by
  have hr : List.range n = List.range i ++ i :: List.range' (i + 1) (n - i - 1) := by
    have e1 : n = i + (1 + (n - i - 1)) := by omega
    rw [List.range_eq_range', e1, ← List.range'_append_1, List.range_eq_range', Nat.add_comm 1, List.range'_succ]
    simp
  have hne : ∀ j, j ≠ i → (listed.setIfInBounds i true).getD j true = listed.getD j true := fun j hj => by
    simp only [Array.getD_eq_getD_getElem?, Array.getElem?_setIfInBounds]
    rw [if_neg (fun e => hj e.symm)]
  have heq : (listed.setIfInBounds i true).getD i true = true := by
    simp only [Array.getD_eq_getD_getElem?, Array.getElem?_setIfInBounds]
    simp [hsz, hi]
  refine ⟨(List.range i).filter fun j => !listed.getD j true, (List.range' (i + 1) (n - i - 1)).filter fun j => !listed.getD j true, ?_, ?_, fun j hj => ?_⟩
  · unfold remIdx
    rw [hr, List.filter_append, List.filter_cons_of_pos (by simp only [hl]; rfl)]
  · unfold remIdx
    rw [hr, List.filter_append, List.filter_cons_of_neg (by simp only [heq]; decide)]
    congr 1
    · exact List.filter_congr fun j hj => by rw [hne j (by have := List.mem_range.1 hj; omega)]
    · exact List.filter_congr fun j hj => by rw [hne j (by have := List.mem_range'.1 hj; omega)]
  · simp at hj
    exact ⟨hj.1, by simpa using hj.2⟩

theorem wpAny_ok {P : Program} {cs : CallsX} (hcall : CallOk P cs) {ops : Array Oper} {pl : List (Oper × Pos)} (hpl : ∀ i : Nat, (pl[i]?).map (fun x => x.1) = ops.toList[i]?) (hok : okDraw P cs.rd ops pl = true)
    {Q : Exit → Act → World → Prop} {w0 : World} {keep : Keep} {r0 : Ren} {s : St} (hQ : ∀ a w, Rel w0 keep r0 s a w → Q .normal a w) :
    ∀ (fuel : Nat) (listed : Array Bool) (st : St) (a : Act) (w : World), listed.size = ops.size → (∀ k o, ops[k]? = some o → listed.getD k false = true → ∀ e ∈ o.after, Region.binds .any e = true → listed.getD e.on false = true) → (remIdx ops.size listed).length ≤ fuel → runR P cs ops (remOps pl ops listed) st = some s → Rel w0 keep r0 st a w → wpAny P .any ops Q fuel listed a w := by
  unfold okDraw at hok
  rw [Bool.and_eq_true] at hok
  have none_left : ∀ (listed : Array Bool) (st : St) (a : Act) (w : World), listed.size = ops.size → runR P cs ops (remOps pl ops listed) st = some s → Rel w0 keep r0 st a w → Region.ready .any ops listed = [] → Q .normal a w := by
    intro listed st a w hsz hrun hr hrd
    have hrem : remIdx ops.size listed = [] := by
      cases hc : remIdx ops.size listed with
      | nil => rfl
      | cons i rest =>
        exfalso
        have hi := (mem_remIdx (n := ops.size) (i := i) (listed := listed)).1 (by rw [hc]; simp)
        obtain ⟨pre, post, h1, _, h3⟩ := remIdx_split hi.1 hi.2 hsz
        have hpre : pre = [] := by
          cases pre with
          | nil => rfl
          | cons j pre =>
            rw [h1] at hc
            simp only [List.cons_append, List.cons.injEq] at hc
            have := (h3 j (by simp)).1
            omega
        subst hpre
        have hmin : ∀ j, j < i → listed.getD j true = true := by
          intro j hj
          cases hjl : listed.getD j true with
          | true => rfl
          | false =>
            have hm : j ∈ remIdx ops.size listed := mem_remIdx.2 ⟨by omega, hjl⟩
            rw [h1] at hm
            simp only [List.nil_append, List.mem_cons] at hm
            obtain ⟨pre2, post2, g1, _, g3⟩ := remIdx_split (n := ops.size) (i := j) (listed := listed) (by omega) hjl hsz
            rw [h1] at g1
            cases pre2 with
            | nil => simp only [List.nil_append, List.cons.injEq] at g1; omega
            | cons q pre2 =>
              simp only [List.nil_append, List.cons_append, List.cons.injEq] at g1
              have := (g3 q (by simp)).1
              omega
        have hin : i ∈ Region.ready .any ops listed := by
          rw [mem_ready]
          have hio : ops[i]? = some (ops[i]'hi.1) := Array.getElem?_eq_getElem hi.1
          refine ⟨hi.2, _, hio, ?_⟩
          intro e he hb
          have := okEdges_spec _ 0 hok.2 i _ (by rw [Array.getElem?_toList]; exact hio) e he hb
          exact getD_ft hsz (by omega) (hmin _ (by omega))
        rw [hrd] at hin
        cases hin
    unfold remOps at hrun
    rw [hrem] at hrun
    simp only [List.filterMap_nil, runR, Option.some.injEq] at hrun
    subst hrun
    exact hQ a w hr
  intro fuel
  induction fuel with
  | zero =>
    intro listed st a w hsz _ hf hrun hr
    have hrd : Region.ready .any ops listed = [] := by
      cases hc : Region.ready .any ops listed with
      | nil => rfl
      | cons i rest =>
        exfalso
        have hin : i ∈ Region.ready .any ops listed := by rw [hc]; simp
        rw [mem_ready] at hin
        obtain ⟨hl, o, ho, _⟩ := hin
        have : i ∈ remIdx ops.size listed := mem_remIdx.2 ⟨(Array.getElem?_eq_some_iff.1 ho).1, hl⟩
        have h0 : remIdx ops.size listed = [] := List.eq_nil_of_length_eq_zero (by omega)
        rw [h0] at this
        cases this
    exact ⟨hrd, none_left listed st a w hsz hrun hr hrd⟩
  | succ fuel ih =>
    intro listed st a w hsz hdown hf hrun hr
    refine ⟨none_left listed st a w hsz hrun hr, fun i hi => ?_⟩
    rw [mem_ready] at hi
    obtain ⟨hl, o, ho, hed⟩ := hi
    have hio := (Array.getElem?_eq_some_iff.1 ho).1
    obtain ⟨pre, post, h1, h2, h3⟩ := remIdx_split hio hl hsz
    have hyo' : ops.toList[i]? = some o := by rw [Array.getElem?_toList]; exact ho
    obtain ⟨y, hy⟩ : ∃ y, pl[i]? = some y := by
      have := hpl i
      rw [hyo'] at this
      cases hp : pl[i]? with
      | none => rw [hp] at this; cases this
      | some y => exact ⟨y, rfl⟩
    obtain ⟨y1, py⟩ := y
    have hy1 : y1 = o := by
      have := hpl i
      rw [hyo', hy] at this
      simpa using this
    subst hy1
    obtain ⟨hmi, hml⟩ := masks_spec (ops := ops) (L := fun k => listed.getD k false = true) hdown ops.toList [] (fun i => by simp) (fun k o hk => by simp at hk)
    simp only [List.length_nil, Nat.zero_add, Array.length_toList] at hml
    unfold remOps at hrun
    rw [h1, List.filterMap_append, List.filterMap_cons_some hy] at hrun
    obtain ⟨s1, k1, k2⟩ := front hcall.rd (pre.filterMap (pl[·]?)) st (fun x hx => by
      obtain ⟨j, hj, hjo⟩ := List.mem_filterMap.1 hx
      obtain ⟨hji, hjl⟩ := h3 j hj
      have hmj : (masks [] ops.toList)[j]? = some ((masks [] ops.toList)[j]'(by omega)) := List.getElem?_eq_getElem (by omega)
      have hmi2 : (masks [] ops.toList)[i]? = some ((masks [] ops.toList)[i]'(by omega)) := List.getElem?_eq_getElem (by omega)
      refine okAll_spec _ 0 hok.1 j i (x, (masks [] ops.toList)[j]'(by omega)) ((y1, py), (masks [] ops.toList)[i]'(by omega)) hji (List.getElem?_zip_eq_some.2 ⟨hjo, hmj⟩) (List.getElem?_zip_eq_some.2 ⟨hy, hmi2⟩) ?_
      cases he : ((masks [] ops.toList)[i]'(by omega)).testBit (0 + j) with
      | false => rfl
      | true =>
        exfalso
        rw [Nat.zero_add] at he
        have hq := hmi i y1 (by omega) ho hed j (by rw [List.getD_eq_getElem?_getD, hmi2]; exact he)
        have hj2 : j < listed.size := by omega
        simp only [Array.getD_eq_getD_getElem?, Array.getElem?_eq_getElem hj2, Option.getD_some] at hq hjl
        rw [hq] at hjl
        cases hjl) hrun
    refine stepR_sound hcall ho k1 hr fun a' w' hr' => ?_
    refine ih _ s1 a' w' (by simpa using hsz) ?_ ?_ ?_ hr'
    · intro k o' hk hlk e he hb
      by_cases hki : k = i
      · subst hki
        rw [ho] at hk
        simp only [Option.some.injEq] at hk
        subst hk
        exact getD_set_true (hed e he hb)
      · rw [getD_set_ne false (fun e => hki e.symm)] at hlk
        exact getD_set_true (hdown k o' hk hlk e he hb)
    · rw [h2]; rw [h1] at hf; simp at hf ⊢; omega
    · unfold remOps; rw [h2, List.filterMap_append]; exact k2

theorem remIdx_all (n : Nat) : remIdx n (Array.replicate n false) = List.range n := by
  unfold remIdx
  rw [List.filter_eq_self]
  intro i hi
  have := List.mem_range.1 hi
  simp [Array.getD_eq_getD_getElem?, this]

theorem remOps_all (pl : List (Oper × Pos)) (ops : Array Oper) (hl : pl.length = ops.size) : remOps pl ops (Array.replicate ops.size false) = pl := by
  unfold remOps
  rw [remIdx_all]
  have : ∀ (l : List (Oper × Pos)), (List.range l.length).filterMap (l[·]?) = l := by
    intro l
    induction l with
    | nil => rfl
    | cons x l ih =>
      rw [List.length_cons, List.range_succ_eq_map, List.filterMap_cons]
      simp only [List.getElem?_cons_zero, List.filterMap_map]
      congr 1
  have h := this pl
  rw [hl] at h
  exact h


theorem region_sound {P : Program} (hm : P.follows .mixedOrders = true) {cs : CallsX} (hcall : CallOk P cs) {ops : Array Oper} {id : Nat} {draw : Bool} {w0 : World} {keep : Keep} {r0 : Ren} {st s : St} {a : Act} {w : World} (hok : (!draw || okDraw P cs.rd ops (places P draw st.tmps st.mem.length [] st.mem.length ops.toList)) = true) {Q : Exit → Act → World → Prop}
    (hrun : runR P cs ops (places P draw st.tmps st.mem.length [] st.mem.length ops.toList) ⟨st.tmps, room P st.mem ops.toList⟩ = some s) (hQ : ∀ a w, Rel w0 keep r0 s a w → Q .normal a w) (hr : Rel w0 keep r0 st a w) : (Code.region id ops draw).wp P Q a w := by
  have hr' : Rel w0 keep r0 ⟨st.tmps, room P st.mem ops.toList⟩ a w := by
    obtain ⟨r, hx, h1, h2, h3⟩ := hr
    exact ⟨r, hx, h1, h2, h3.room _⟩
  have hpl := places_get P draw st.tmps st.mem.length ops.toList [] st.mem.length
  have hlen := places_length P draw st.tmps st.mem.length ops.toList [] st.mem.length
  have hsz : ops.toList.length = ops.size := Array.length_toList
  rw [hsz] at hlen
  cases draw with
  | false =>
    refine wp_region ?_
    have := runR_sound hcall hQ _ 0 _ a w (fun j => by
      rw [hpl j, hlen]
      split
      · simp
      · rename_i hj; rw [List.getElem?_eq_none (by simp; omega)]) hrun hr'
    rw [hlen, ← List.range_eq_range'] at this
    exact this
  | true =>
    refine wp_region_any hm ?_
    refine wpAny_ok hcall hpl (by simpa using hok) hQ ops.size _ ⟨st.tmps, room P st.mem ops.toList⟩ a _ (by simp) (fun k o hk hl => ?_) (by rw [remIdx_all]; simp) (by rw [remOps_all _ _ hlen]; exact hrun) ?_
    · exfalso
      have := (Array.getElem?_eq_some_iff.1 hk).1
      simp [Array.getD_eq_getD_getElem?, this] at hl
    · obtain ⟨r, hx, h1, h2, h3⟩ := hr'
      refine ⟨r, hx, h1, h2, h3.os, h3.tape, h3.output, Nat.le_trans h3.drawn (Nat.le_succ _), h3.size, h3.klt, h3.kept, h3.none, h3.dead, fun b p hb => ?_, h3.own, h3.read, h3.vw, h3.sep, h3.inj⟩
      obtain ⟨k, k1, k2⟩ := h3.blk b p hb
      exact ⟨k, k1, k2.mono rfl (Ext.refl r)⟩

end Go.Proofs.Ytjhijkdicmbbiaa.Vx

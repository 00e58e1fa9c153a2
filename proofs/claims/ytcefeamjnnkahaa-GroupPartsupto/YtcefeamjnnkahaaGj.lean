/-
  The inner loop of group's take: what it is told by. Nothing here is trusted.
-/
import Derived.Test.YtcefeamjnnkahaaGi

namespace Go.Proofs.Ytcefeamjnnkahaa
open Go Vx
def n0Of (sh : Sh) (n : Nat) : Nat := match sh with
  | .b => 0
  | _ => n
def mkR (f q : Int) (l xs : List O3) (es : ES) : List O3 × ES := (mkL f q l xs es).getD ([], [])
def tkTest (n n2 k k2 kk : Nat) (row row2 : Nat → List Value) (lk q f i : Int) (o o2 : O3) : Bool := Nat.beq n n2 && (okOps n row && (Nat.beq k k2 && (okOps k row2 && (Nat.beq k kk && (decide ((k : Int) = lk) && (o.eqB o2 && (decide (0 < q) && (decide (q ≤ (n : Int)) && (decide (n ≤ 192) && (decide (0 ≤ f) && (decide (f < (n : Int)) && (decide (0 ≤ i) && decide (k ≤ 1000 ∧ i ≤ (k : Int))))))))))))))

/-- The memory at the inner loop, read. -/
def tkND (m : Mem) : Option (Sh × List Value × Nat × (Nat → List Value) × ES × List Value × List Value × Nat × (Nat → List Value)) := match m with
  | [.cells true 0 cs, .rows true true 12 n2 row, .mp true 12 es, .cells true 0 co, .cells true 0 [], .rows true true 12 1 row3, .rows true true 12 k2 row2] => some (.e, cs, n2, row, es, co, row3 0, k2, row2)
  | [.cells true 0 cs, .rows true true 12 n2 row, .mp true 12 es, .cells true 0 co, .cells true 0 [], .rows true true 12 1 row3, .rows true true 12 k2 row2, .no] => some (.a, cs, n2, row, es, co, row3 0, k2, row2)
  | [.cells true 0 cs, .gone, .mp true 12 es, .cells true 0 co, .cells true 0 [], .rows true true 12 1 row3, .rows true true 12 k2 row2, .rows true true 12 n2 row] => some (.b, cs, n2, row, es, co, row3 0, k2, row2)
  | _ => none
def tkNat (sh : Sh) : Nat := match sh with
  | .b => 7
  | _ => 1
theorem one_like {row3 : Nat → List Value} {o : O3} (h : row3 0 = o.cells) : rowsLike 1 row3 (chop 12 0 o.cells) := fun i hi => by
  have : i = 0 := by omega
  subst this
  exact h
theorem tkND_spec {m : Mem} {sh : Sh} {cs co co2 : List Value} {n n2 k k2 : Nat} {row row2 : Nat → List Value} {es : ES} {o : O3} (h : tkND m = some (sh, cs, n2, row, es, co, co2, k2, row2)) (hcs : cs = [.slice (some ⟨tkNat sh, 0, some 0⟩) n 12, .map (some 2), .slice (some ⟨6, 0, some 0⟩) k 12]) (h1 : n = n2) (h2 : k = k2) (h3 : co = o.cells) (h4 : co2 = o.cells) (h5 : okOps n row = true) (h6 : okOps k row2 = true) :
    LikeL m (tkNM sh o n (opsOf n row) es k (opsOf k row2)) := by
  subst h1 h2 hcs h3
  unfold tkND at h
  split at h
  all_goals first | (simp only [Option.some.injEq, Prod.mk.injEq] at h; obtain ⟨rfl, rfl, rfl, rfl, rfl, rfl, rfl, rfl, rfl⟩ := h) | cases h
  · exact ⟨.refl _, .rows (ops_like h5), .refl _, .refl _, .refl _, .rows (one_like h4), .rows (ops_like h6), trivial⟩
  · exact ⟨.refl _, .rows (ops_like h5), .refl _, .refl _, .refl _, .rows (one_like h4), .rows (ops_like h6), .refl _, trivial⟩
  · exact ⟨.refl _, .refl _, .refl _, .refl _, .refl _, .rows (one_like h4), .rows (ops_like h6), .rows (ops_like h5), trivial⟩
def tkNS (st : St) : Option (Ans (Exit × St)) :=
  match Nat.beq st.tmps.length 68, tAt st 0, tAt st 4, tAt st 7, tAt st 8, tAt st 49, tAt st 50, tAt st 51, tkND (thaw (killV st.mem)) with
  | true, some (.pointer (some ⟨0, 0, none⟩)), some (.bool b4), some (.int .i64 q), some (.int .i64 f), some (.slice (some ⟨6, 0, some 0⟩) kk 12), some (.int .i64 lk), some (.int .i64 i), some (sh, cs, n2, row, es, co, co2, k2, row2) =>
    match b4, cs, opCells co, opCells co2 with
    | false, [.slice (some ⟨a, 0, some 0⟩) n 12, .map (some 2), .slice (some ⟨6, 0, some 0⟩) k 12], some o, some o2 => match Nat.beq a (tkNat sh) with
      | true => some (.br (tkTest n n2 k k2 kk row row2 lk q f i o o2) (.br (mkL f q ((opsOf k row2).drop i.toNat) (opsOf n row) es).isSome
        (.br (Nat.blt (n0Of sh n) (mkR f q ((opsOf k row2).drop i.toNat) (opsOf n row) es).1.length)
          (.out (.exit 2, stOf 68 [(0, .pointer (some ⟨0, 0, none⟩)), (4, .bool false), (7, vI q), (8, vI f)] (tkNB o (mkR f q ((opsOf k row2).drop i.toNat) (opsOf n row) es).1.length (mkR f q ((opsOf k row2).drop i.toNat) (opsOf n row) es).1 (mkR f q ((opsOf k row2).drop i.toNat) (opsOf n row) es).2 k (opsOf k row2))))
          (.out (.exit 2, stOf 68 [(0, .pointer (some ⟨0, 0, none⟩)), (4, .bool false), (7, vI q), (8, vI f)] (tkNA o (mkR f q ((opsOf k row2).drop i.toNat) (opsOf n row) es).1.length (mkR f q ((opsOf k row2).drop i.toNat) (opsOf n row) es).1 (mkR f q ((opsOf k row2).drop i.toNat) (opsOf n row) es).2 k (opsOf k row2)))))
        (.out (.ret, stOf 68 [(0, .pointer (some ⟨0, 0, none⟩)), (4, .bool false), (7, vI q), (8, vI f)] (tkNX o)))) .fail)
      | false => none
    | _, _, _, _ => none
  | _, _, _, _, _, _, _, _, _ => none
theorem tkNK {st : St} {ans : Ans (Exit × St)} {e_ : Exit} {s_ : St} (h : tkNS st = some ans) (hr : ans.res = some (e_, s_)) : LoopSem Try.prog 3 (tkX Try.prog) st e_ s_ := by
  unfold tkNS at h
  split at h
  rotate_left
  · cases h
  rename_i b4 q f kk lk i sh cs n2 row es co co2 k2 row2 hb hs0 hs1 hs2 hs3 hs4 hs5 hs6 hD
  split at h
  rotate_left
  · cases h
  rename_i a n k o o2 hc1 hc2
  split at h
  rotate_left
  · cases h
  rename_i ha
  simp only [Option.some.injEq] at h
  subst h
  rcases Ans.br_some hr with ⟨hc, hr1⟩ | ⟨_, hr1⟩
  rotate_left
  · simp [Ans.res] at hr1
  clear hr
  have ha := beq_len ha
  unfold tkTest at hc
  simp only [Bool.and_eq_true, decide_eq_true_eq] at hc
  obtain ⟨c1, c2, c3, c4, c5, c6, c7, c8, c9, c10, c11, c12, c13, c14⟩ := hc
  have c1 := beq_len c1
  have c3 := beq_len c3
  have c5 := beq_len c5
  have hoo : o2 = o := (O3.eqB_iff.1 c7).symm
  subst hoo
  have hlike := tkND_spec (o := o2) (n := n) (k := k) hD (by rw [ha]) c1 c3 (opCells_spec hc1) (opCells_spec hc2) c2 c4
  have hI : tkInv ⟨sh, o2, n0Of sh n, n, opsOf n row, es, k, opsOf k row2, q, f, i⟩ := by
    unfold tkInv
    simp only
    refine ⟨opsOf_length n row, opsOf_length k row2, c8, c9, c10, c11, c12, c13, by omega, by omega, ?_, ?_⟩
    · cases sh <;> simp [n0Of]
    · cases sh <;> simp [n0Of, Sh.ok]
      omega
  have key := tkNL _ hI
  have key := LoopSem.like (tm := (tkNHg ⟨sh, o2, n0Of sh n, n, opsOf n row, es, k, opsOf k row2, q, f, i⟩).tmps) (m := thaw (killV st.mem)) key hlike
  have key := LoopSem.fresh key
  have hk : keepL [0, 4, 7, 8, 49, 50, 51] 0 st.tmps = (tkNHg ⟨sh, o2, n0Of sh n, n, opsOf n row, es, k, opsOf k row2, q, f, i⟩).tmps := by
    have := keep_eq [(0, .pointer (some ⟨0, 0, none⟩)), (4, .bool false), (7, vI q), (8, vI f), (49, .slice (some ⟨6, 0, some 0⟩) k 12), (50, vI k), (51, vI i)] st.tmps 0 (by
      intro x hx _
      simp only [List.mem_cons, List.not_mem_nil, or_false] at hx
      rcases hx with rfl | rfl | rfl | rfl | rfl | rfl | rfl
      · exact hs0
      · exact hs1
      · exact hs2
      · exact hs3
      · rw [← c5] at hs4; exact hs4
      · rw [← c6] at hs5; exact hs5
      · exact hs6)
    rw [show (keepL [0, 4, 7, 8, 49, 50, 51] 0 st.tmps) = _ from this, beq_len hb]
    rfl
  rw [← hk] at key
  have key : LoopSem Try.prog 3 (tkX Try.prog) st _ _ := LoopSem.clean (mask := [0, 4, 7, 8, 49, 50, 51]) key
  have hres : tkRes ⟨sh, o2, n0Of sh n, n, opsOf n row, es, k, opsOf k row2, q, f, i⟩ = mkL f q ((opsOf k row2).drop i.toNat) (opsOf n row) es := rfl
  unfold tkNO at key
  simp only [hres] at key
  rcases Ans.br_some hr1 with ⟨hq, hr2⟩ | ⟨hq, hr2⟩
  · obtain ⟨r, hr'⟩ := Option.isSome_iff_exists.1 hq
    have hmr : mkR f q ((opsOf k row2).drop i.toNat) (opsOf n row) es = r := by unfold mkR; rw [hr']; rfl
    rw [hmr] at hr2
    rw [hr'] at key
    simp only [shOf] at key
    rcases Ans.br_some hr2 with ⟨hq2, hr3⟩ | ⟨hq2, hr3⟩
    · rw [hq2] at key
      simp only [Ans.res, Option.some.injEq, Prod.mk.injEq] at hr3
      obtain ⟨rfl, rfl⟩ := hr3
      exact key
    · rw [hq2] at key
      simp only [Ans.res, Option.some.injEq, Prod.mk.injEq] at hr3
      obtain ⟨rfl, rfl⟩ := hr3
      exact key
  · have hn : mkL f q ((opsOf k row2).drop i.toNat) (opsOf n row) es = none := by
      cases hm : mkL f q ((opsOf k row2).drop i.toNat) (opsOf n row) es with
      | none => rfl
      | some r => rw [hm] at hq; cases hq
    rw [hn] at key
    simp only [Ans.res, Option.some.injEq, Prod.mk.injEq] at hr2
    obtain ⟨rfl, rfl⟩ := hr2
    exact key


/-- The memory at the inner loop, read. -/
def tkMD (m : Mem) : Option (Sh × List Value × Nat × (Nat → List Value) × ES × List Value × List Value × Nat × (Nat → List Value)) := match m with
  | [.cells true 0 cs, .rows true true 12 n2 row, .mp true 12 es, .gone, .cells true 0 co, .cells true 0 [], .rows true true 12 1 row3, .rows true true 12 k2 row2] => some (.e, cs, n2, row, es, co, row3 0, k2, row2)
  | [.cells true 0 cs, .rows true true 12 n2 row, .mp true 12 es, .gone, .cells true 0 co, .cells true 0 [], .rows true true 12 1 row3, .rows true true 12 k2 row2, .no] => some (.a, cs, n2, row, es, co, row3 0, k2, row2)
  | [.cells true 0 cs, .gone, .mp true 12 es, .gone, .cells true 0 co, .cells true 0 [], .rows true true 12 1 row3, .rows true true 12 k2 row2, .rows true true 12 n2 row] => some (.b, cs, n2, row, es, co, row3 0, k2, row2)
  | _ => none
def tkMat (sh : Sh) : Nat := match sh with
  | .b => 8
  | _ => 1
theorem tkMD_spec {m : Mem} {sh : Sh} {cs co co2 : List Value} {n n2 k k2 : Nat} {row row2 : Nat → List Value} {es : ES} {o : O3} (h : tkMD m = some (sh, cs, n2, row, es, co, co2, k2, row2)) (hcs : cs = [.slice (some ⟨tkMat sh, 0, some 0⟩) n 12, .map (some 2), .slice (some ⟨7, 0, some 0⟩) k 12]) (h1 : n = n2) (h2 : k = k2) (h3 : co = o.cells) (h4 : co2 = o.cells) (h5 : okOps n row = true) (h6 : okOps k row2 = true) :
    LikeL m (tkMM sh o n (opsOf n row) es k (opsOf k row2)) := by
  subst h1 h2 hcs h3
  unfold tkMD at h
  split at h
  all_goals first | (simp only [Option.some.injEq, Prod.mk.injEq] at h; obtain ⟨rfl, rfl, rfl, rfl, rfl, rfl, rfl, rfl, rfl⟩ := h) | cases h
  · exact ⟨.refl _, .rows (ops_like h5), .refl _, .refl _, .refl _, .refl _, .rows (one_like h4), .rows (ops_like h6), trivial⟩
  · exact ⟨.refl _, .rows (ops_like h5), .refl _, .refl _, .refl _, .refl _, .rows (one_like h4), .rows (ops_like h6), .refl _, trivial⟩
  · exact ⟨.refl _, .refl _, .refl _, .refl _, .refl _, .refl _, .rows (one_like h4), .rows (ops_like h6), .rows (ops_like h5), trivial⟩
def tkMS (st : St) : Option (Ans (Exit × St)) :=
  match Nat.beq st.tmps.length 68, tAt st 0, tAt st 4, tAt st 7, tAt st 8, tAt st 49, tAt st 50, tAt st 51, tkMD (thaw (killV st.mem)) with
  | true, some (.pointer (some ⟨0, 0, none⟩)), some (.bool b4), some (.int .i64 q), some (.int .i64 f), some (.slice (some ⟨7, 0, some 0⟩) kk 12), some (.int .i64 lk), some (.int .i64 i), some (sh, cs, n2, row, es, co, co2, k2, row2) =>
    match b4, cs, opCells co, opCells co2 with
    | false, [.slice (some ⟨a, 0, some 0⟩) n 12, .map (some 2), .slice (some ⟨7, 0, some 0⟩) k 12], some o, some o2 => match Nat.beq a (tkMat sh) with
      | true => some (.br (tkTest n n2 k k2 kk row row2 lk q f i o o2) (.br (mkL f q ((opsOf k row2).drop i.toNat) (opsOf n row) es).isSome
        (.br (Nat.blt (n0Of sh n) (mkR f q ((opsOf k row2).drop i.toNat) (opsOf n row) es).1.length)
          (.out (.exit 2, stOf 68 [(0, .pointer (some ⟨0, 0, none⟩)), (4, .bool false), (7, vI q), (8, vI f)] (tkMB o (mkR f q ((opsOf k row2).drop i.toNat) (opsOf n row) es).1.length (mkR f q ((opsOf k row2).drop i.toNat) (opsOf n row) es).1 (mkR f q ((opsOf k row2).drop i.toNat) (opsOf n row) es).2 k (opsOf k row2))))
          (.out (.exit 2, stOf 68 [(0, .pointer (some ⟨0, 0, none⟩)), (4, .bool false), (7, vI q), (8, vI f)] (tkMA o (mkR f q ((opsOf k row2).drop i.toNat) (opsOf n row) es).1.length (mkR f q ((opsOf k row2).drop i.toNat) (opsOf n row) es).1 (mkR f q ((opsOf k row2).drop i.toNat) (opsOf n row) es).2 k (opsOf k row2)))))
        (.out (.ret, stOf 68 [(0, .pointer (some ⟨0, 0, none⟩)), (4, .bool false), (7, vI q), (8, vI f)] (tkMX o)))) .fail)
      | false => none
    | _, _, _, _ => none
  | _, _, _, _, _, _, _, _, _ => none
theorem tkMK {st : St} {ans : Ans (Exit × St)} {e_ : Exit} {s_ : St} (h : tkMS st = some ans) (hr : ans.res = some (e_, s_)) : LoopSem Try.prog 4 (tkX Try.prog) st e_ s_ := by
  unfold tkMS at h
  split at h
  rotate_left
  · cases h
  rename_i b4 q f kk lk i sh cs n2 row es co co2 k2 row2 hb hs0 hs1 hs2 hs3 hs4 hs5 hs6 hD
  split at h
  rotate_left
  · cases h
  rename_i a n k o o2 hc1 hc2
  split at h
  rotate_left
  · cases h
  rename_i ha
  simp only [Option.some.injEq] at h
  subst h
  rcases Ans.br_some hr with ⟨hc, hr1⟩ | ⟨_, hr1⟩
  rotate_left
  · simp [Ans.res] at hr1
  clear hr
  have ha := beq_len ha
  unfold tkTest at hc
  simp only [Bool.and_eq_true, decide_eq_true_eq] at hc
  obtain ⟨c1, c2, c3, c4, c5, c6, c7, c8, c9, c10, c11, c12, c13, c14⟩ := hc
  have c1 := beq_len c1
  have c3 := beq_len c3
  have c5 := beq_len c5
  have hoo : o2 = o := (O3.eqB_iff.1 c7).symm
  subst hoo
  have hlike := tkMD_spec (o := o2) (n := n) (k := k) hD (by rw [ha]) c1 c3 (opCells_spec hc1) (opCells_spec hc2) c2 c4
  have hI : tkInv ⟨sh, o2, n0Of sh n, n, opsOf n row, es, k, opsOf k row2, q, f, i⟩ := by
    unfold tkInv
    simp only
    refine ⟨opsOf_length n row, opsOf_length k row2, c8, c9, c10, c11, c12, c13, by omega, by omega, ?_, ?_⟩
    · cases sh <;> simp [n0Of]
    · cases sh <;> simp [n0Of, Sh.ok]
      omega
  have key := tkML _ hI
  have key := LoopSem.like (tm := (tkMHg ⟨sh, o2, n0Of sh n, n, opsOf n row, es, k, opsOf k row2, q, f, i⟩).tmps) (m := thaw (killV st.mem)) key hlike
  have key := LoopSem.fresh key
  have hk : keepL [0, 4, 7, 8, 49, 50, 51] 0 st.tmps = (tkMHg ⟨sh, o2, n0Of sh n, n, opsOf n row, es, k, opsOf k row2, q, f, i⟩).tmps := by
    have := keep_eq [(0, .pointer (some ⟨0, 0, none⟩)), (4, .bool false), (7, vI q), (8, vI f), (49, .slice (some ⟨7, 0, some 0⟩) k 12), (50, vI k), (51, vI i)] st.tmps 0 (by
      intro x hx _
      simp only [List.mem_cons, List.not_mem_nil, or_false] at hx
      rcases hx with rfl | rfl | rfl | rfl | rfl | rfl | rfl
      · exact hs0
      · exact hs1
      · exact hs2
      · exact hs3
      · rw [← c5] at hs4; exact hs4
      · rw [← c6] at hs5; exact hs5
      · exact hs6)
    rw [show (keepL [0, 4, 7, 8, 49, 50, 51] 0 st.tmps) = _ from this, beq_len hb]
    rfl
  rw [← hk] at key
  have key : LoopSem Try.prog 4 (tkX Try.prog) st _ _ := LoopSem.clean (mask := [0, 4, 7, 8, 49, 50, 51]) key
  have hres : tkRes ⟨sh, o2, n0Of sh n, n, opsOf n row, es, k, opsOf k row2, q, f, i⟩ = mkL f q ((opsOf k row2).drop i.toNat) (opsOf n row) es := rfl
  unfold tkMO at key
  simp only [hres] at key
  rcases Ans.br_some hr1 with ⟨hq, hr2⟩ | ⟨hq, hr2⟩
  · obtain ⟨r, hr'⟩ := Option.isSome_iff_exists.1 hq
    have hmr : mkR f q ((opsOf k row2).drop i.toNat) (opsOf n row) es = r := by unfold mkR; rw [hr']; rfl
    rw [hmr] at hr2
    rw [hr'] at key
    simp only [shOf] at key
    rcases Ans.br_some hr2 with ⟨hq2, hr3⟩ | ⟨hq2, hr3⟩
    · rw [hq2] at key
      simp only [Ans.res, Option.some.injEq, Prod.mk.injEq] at hr3
      obtain ⟨rfl, rfl⟩ := hr3
      exact key
    · rw [hq2] at key
      simp only [Ans.res, Option.some.injEq, Prod.mk.injEq] at hr3
      obtain ⟨rfl, rfl⟩ := hr3
      exact key
  · have hn : mkL f q ((opsOf k row2).drop i.toNat) (opsOf n row) es = none := by
      cases hm : mkL f q ((opsOf k row2).drop i.toNat) (opsOf n row) es with
      | none => rfl
      | some r => rw [hm] at hq; cases hq
    rw [hn] at key
    simp only [Ans.res, Option.some.injEq, Prod.mk.injEq] at hr2
    obtain ⟨rfl, rfl⟩ := hr2
    exact key

def Ctk (P : Program) : Cx := ((Ctd P).addLB 31 10 4 tkMS).addLB 31 10 3 tkNS
theorem oktk : CxOk (Ctk Try.prog) := Cx.addLB_ok (Cx.addLB_ok oktd tkX_eq fun _ _ _ _ h hr => tkMK h hr) tkX_eq fun _ _ _ _ h hr => tkNK h hr
end Go.Proofs.Ytcefeamjnnkahaa


namespace Go.Proofs.Ytcefeamjnnkahaa
open Go Vx
def otX (P : Program) : Code := (loopsOf P 31 7).headD .skip
theorem otX_eq : loopsOf Try.prog 31 7 = [otX Try.prog] := by kernel_rfl

def otNH (m : Mem) (q f : Int) : St := stOf 68 [(0, .pointer (some ⟨0, 0, none⟩)), (4, .bool false), (7, vI q), (8, vI f)] m
theorem otNRE (o : O3) (n : Nat) (xs : List O3) (es : ES) (k : Nat) (ms : List O3) (q f : Int) : roundR ((Ctk Try.prog).into 31 3) 40 (otX Try.prog) [0, 4, 7, 8] [4] [.fix 0, .fix 1, .fix 2, .fix 3, .fix 4, .fix 5, .cell 0 2, .cellN 0 0 3] [.fix 0, .fix 1, .fix 2, .fix 3, .fix 4, .fix 5, .cell 0 2, .cellN 0 0 3] (otNH (tkNE o n xs es k ms) q f) =
    (match decide (f < (n : Int)) with
    | true => match tkTest n n k k k (opRow xs) (opRow ms) k q f 0 o o with
      | true => match (mkL f q ((opsOf k (opRow ms)).drop (0 : Int).toNat) (opsOf n (opRow xs)) es).isSome with
        | true => match Nat.blt (n0Of .e n) (mkR f q ((opsOf k (opRow ms)).drop (0 : Int).toNat) (opsOf n (opRow xs)) es).1.length with
          | true => some (.normal, otNH (tkNB o (mkR f q ((opsOf k (opRow ms)).drop (0 : Int).toNat) (opsOf n (opRow xs)) es).1.length (mkR f q ((opsOf k (opRow ms)).drop (0 : Int).toNat) (opsOf n (opRow xs)) es).1 (mkR f q ((opsOf k (opRow ms)).drop (0 : Int).toNat) (opsOf n (opRow xs)) es).2 k (opsOf k (opRow ms))) q (W (f + q)))
          | false => some (.normal, otNH (tkNA o (mkR f q ((opsOf k (opRow ms)).drop (0 : Int).toNat) (opsOf n (opRow xs)) es).1.length (mkR f q ((opsOf k (opRow ms)).drop (0 : Int).toNat) (opsOf n (opRow xs)) es).1 (mkR f q ((opsOf k (opRow ms)).drop (0 : Int).toNat) (opsOf n (opRow xs)) es).2 k (opsOf k (opRow ms))) q (W (f + q)))
        | false => some (.ret, stOf 68 [(4, .bool false)] (tkNX o))
      | false => none
    | false => some (.exit 0, stOf 68 [(4, .bool false)] (tkNA o n xs es k ms))) := by kernel_rfl
theorem otNRA (o : O3) (n : Nat) (xs : List O3) (es : ES) (k : Nat) (ms : List O3) (q f : Int) : roundR ((Ctk Try.prog).into 31 3) 40 (otX Try.prog) [0, 4, 7, 8] [4] [.fix 0, .fix 1, .fix 2, .fix 3, .fix 4, .fix 5, .cell 0 2, .cellN 0 0 3] [.fix 0, .fix 1, .fix 2, .fix 3, .fix 4, .fix 5, .cell 0 2, .cellN 0 0 3] (otNH (tkNA o n xs es k ms) q f) =
    (match decide (f < (n : Int)) with
    | true => match tkTest n n k k k (opRow xs) (opRow ms) k q f 0 o o with
      | true => match (mkL f q ((opsOf k (opRow ms)).drop (0 : Int).toNat) (opsOf n (opRow xs)) es).isSome with
        | true => match Nat.blt (n0Of .a n) (mkR f q ((opsOf k (opRow ms)).drop (0 : Int).toNat) (opsOf n (opRow xs)) es).1.length with
          | true => some (.normal, otNH (tkNB o (mkR f q ((opsOf k (opRow ms)).drop (0 : Int).toNat) (opsOf n (opRow xs)) es).1.length (mkR f q ((opsOf k (opRow ms)).drop (0 : Int).toNat) (opsOf n (opRow xs)) es).1 (mkR f q ((opsOf k (opRow ms)).drop (0 : Int).toNat) (opsOf n (opRow xs)) es).2 k (opsOf k (opRow ms))) q (W (f + q)))
          | false => some (.normal, otNH (tkNA o (mkR f q ((opsOf k (opRow ms)).drop (0 : Int).toNat) (opsOf n (opRow xs)) es).1.length (mkR f q ((opsOf k (opRow ms)).drop (0 : Int).toNat) (opsOf n (opRow xs)) es).1 (mkR f q ((opsOf k (opRow ms)).drop (0 : Int).toNat) (opsOf n (opRow xs)) es).2 k (opsOf k (opRow ms))) q (W (f + q)))
        | false => some (.ret, stOf 68 [(4, .bool false)] (tkNX o))
      | false => none
    | false => some (.exit 0, stOf 68 [(4, .bool false)] (tkNA o n xs es k ms))) := by kernel_rfl
theorem otNRB (o : O3) (n : Nat) (xs : List O3) (es : ES) (k : Nat) (ms : List O3) (q f : Int) : roundR ((Ctk Try.prog).into 31 3) 40 (otX Try.prog) [0, 4, 7, 8] [4] [.fix 0, .fix 1, .fix 2, .fix 3, .fix 4, .fix 5, .cell 0 2, .cellN 0 0 3] [.fix 0, .fix 1, .fix 2, .fix 3, .fix 4, .fix 5, .cell 0 2, .cellN 0 0 3] (otNH (tkNB o n xs es k ms) q f) =
    (match decide (f < (n : Int)) with
    | true => match tkTest n n k k k (opRow xs) (opRow ms) k q f 0 o o with
      | true => match (mkL f q ((opsOf k (opRow ms)).drop (0 : Int).toNat) (opsOf n (opRow xs)) es).isSome with
        | true => match Nat.blt (n0Of .b n) (mkR f q ((opsOf k (opRow ms)).drop (0 : Int).toNat) (opsOf n (opRow xs)) es).1.length with
          | true => some (.normal, otNH (tkNB o (mkR f q ((opsOf k (opRow ms)).drop (0 : Int).toNat) (opsOf n (opRow xs)) es).1.length (mkR f q ((opsOf k (opRow ms)).drop (0 : Int).toNat) (opsOf n (opRow xs)) es).1 (mkR f q ((opsOf k (opRow ms)).drop (0 : Int).toNat) (opsOf n (opRow xs)) es).2 k (opsOf k (opRow ms))) q (W (f + q)))
          | false => some (.normal, otNH (tkNA o (mkR f q ((opsOf k (opRow ms)).drop (0 : Int).toNat) (opsOf n (opRow xs)) es).1.length (mkR f q ((opsOf k (opRow ms)).drop (0 : Int).toNat) (opsOf n (opRow xs)) es).1 (mkR f q ((opsOf k (opRow ms)).drop (0 : Int).toNat) (opsOf n (opRow xs)) es).2 k (opsOf k (opRow ms))) q (W (f + q)))
        | false => some (.ret, stOf 68 [(4, .bool false)] (tkNX o))
      | false => none
    | false => some (.exit 0, stOf 68 [(4, .bool false)] (tkNB o n xs es k ms))) := by kernel_rfl


def otMH (m : Mem) (q f : Int) : St := stOf 68 [(0, .pointer (some ⟨0, 0, none⟩)), (4, .bool false), (7, vI q), (8, vI f)] m
theorem otMRE (o : O3) (n : Nat) (xs : List O3) (es : ES) (k : Nat) (ms : List O3) (q f : Int) : roundR ((Ctk Try.prog).into 31 4) 40 (otX Try.prog) [0, 4, 7, 8] [4] [.fix 0, .fix 1, .fix 2, .fix 3, .fix 4, .fix 5, .fix 6, .cell 0 2, .cellN 0 0 4] [.fix 0, .fix 1, .fix 2, .fix 3, .fix 4, .fix 5, .fix 6, .cell 0 2, .cellN 0 0 4] (otMH (tkME o n xs es k ms) q f) =
    (match decide (f < (n : Int)) with
    | true => match tkTest n n k k k (opRow xs) (opRow ms) k q f 0 o o with
      | true => match (mkL f q ((opsOf k (opRow ms)).drop (0 : Int).toNat) (opsOf n (opRow xs)) es).isSome with
        | true => match Nat.blt (n0Of .e n) (mkR f q ((opsOf k (opRow ms)).drop (0 : Int).toNat) (opsOf n (opRow xs)) es).1.length with
          | true => some (.normal, otMH (tkMB o (mkR f q ((opsOf k (opRow ms)).drop (0 : Int).toNat) (opsOf n (opRow xs)) es).1.length (mkR f q ((opsOf k (opRow ms)).drop (0 : Int).toNat) (opsOf n (opRow xs)) es).1 (mkR f q ((opsOf k (opRow ms)).drop (0 : Int).toNat) (opsOf n (opRow xs)) es).2 k (opsOf k (opRow ms))) q (W (f + q)))
          | false => some (.normal, otMH (tkMA o (mkR f q ((opsOf k (opRow ms)).drop (0 : Int).toNat) (opsOf n (opRow xs)) es).1.length (mkR f q ((opsOf k (opRow ms)).drop (0 : Int).toNat) (opsOf n (opRow xs)) es).1 (mkR f q ((opsOf k (opRow ms)).drop (0 : Int).toNat) (opsOf n (opRow xs)) es).2 k (opsOf k (opRow ms))) q (W (f + q)))
        | false => some (.ret, stOf 68 [(4, .bool false)] (tkMX o))
      | false => none
    | false => some (.exit 0, stOf 68 [(4, .bool false)] (tkMA o n xs es k ms))) := by kernel_rfl
theorem otMRA (o : O3) (n : Nat) (xs : List O3) (es : ES) (k : Nat) (ms : List O3) (q f : Int) : roundR ((Ctk Try.prog).into 31 4) 40 (otX Try.prog) [0, 4, 7, 8] [4] [.fix 0, .fix 1, .fix 2, .fix 3, .fix 4, .fix 5, .fix 6, .cell 0 2, .cellN 0 0 4] [.fix 0, .fix 1, .fix 2, .fix 3, .fix 4, .fix 5, .fix 6, .cell 0 2, .cellN 0 0 4] (otMH (tkMA o n xs es k ms) q f) =
    (match decide (f < (n : Int)) with
    | true => match tkTest n n k k k (opRow xs) (opRow ms) k q f 0 o o with
      | true => match (mkL f q ((opsOf k (opRow ms)).drop (0 : Int).toNat) (opsOf n (opRow xs)) es).isSome with
        | true => match Nat.blt (n0Of .a n) (mkR f q ((opsOf k (opRow ms)).drop (0 : Int).toNat) (opsOf n (opRow xs)) es).1.length with
          | true => some (.normal, otMH (tkMB o (mkR f q ((opsOf k (opRow ms)).drop (0 : Int).toNat) (opsOf n (opRow xs)) es).1.length (mkR f q ((opsOf k (opRow ms)).drop (0 : Int).toNat) (opsOf n (opRow xs)) es).1 (mkR f q ((opsOf k (opRow ms)).drop (0 : Int).toNat) (opsOf n (opRow xs)) es).2 k (opsOf k (opRow ms))) q (W (f + q)))
          | false => some (.normal, otMH (tkMA o (mkR f q ((opsOf k (opRow ms)).drop (0 : Int).toNat) (opsOf n (opRow xs)) es).1.length (mkR f q ((opsOf k (opRow ms)).drop (0 : Int).toNat) (opsOf n (opRow xs)) es).1 (mkR f q ((opsOf k (opRow ms)).drop (0 : Int).toNat) (opsOf n (opRow xs)) es).2 k (opsOf k (opRow ms))) q (W (f + q)))
        | false => some (.ret, stOf 68 [(4, .bool false)] (tkMX o))
      | false => none
    | false => some (.exit 0, stOf 68 [(4, .bool false)] (tkMA o n xs es k ms))) := by kernel_rfl
theorem otMRB (o : O3) (n : Nat) (xs : List O3) (es : ES) (k : Nat) (ms : List O3) (q f : Int) : roundR ((Ctk Try.prog).into 31 4) 40 (otX Try.prog) [0, 4, 7, 8] [4] [.fix 0, .fix 1, .fix 2, .fix 3, .fix 4, .fix 5, .fix 6, .cell 0 2, .cellN 0 0 4] [.fix 0, .fix 1, .fix 2, .fix 3, .fix 4, .fix 5, .fix 6, .cell 0 2, .cellN 0 0 4] (otMH (tkMB o n xs es k ms) q f) =
    (match decide (f < (n : Int)) with
    | true => match tkTest n n k k k (opRow xs) (opRow ms) k q f 0 o o with
      | true => match (mkL f q ((opsOf k (opRow ms)).drop (0 : Int).toNat) (opsOf n (opRow xs)) es).isSome with
        | true => match Nat.blt (n0Of .b n) (mkR f q ((opsOf k (opRow ms)).drop (0 : Int).toNat) (opsOf n (opRow xs)) es).1.length with
          | true => some (.normal, otMH (tkMB o (mkR f q ((opsOf k (opRow ms)).drop (0 : Int).toNat) (opsOf n (opRow xs)) es).1.length (mkR f q ((opsOf k (opRow ms)).drop (0 : Int).toNat) (opsOf n (opRow xs)) es).1 (mkR f q ((opsOf k (opRow ms)).drop (0 : Int).toNat) (opsOf n (opRow xs)) es).2 k (opsOf k (opRow ms))) q (W (f + q)))
          | false => some (.normal, otMH (tkMA o (mkR f q ((opsOf k (opRow ms)).drop (0 : Int).toNat) (opsOf n (opRow xs)) es).1.length (mkR f q ((opsOf k (opRow ms)).drop (0 : Int).toNat) (opsOf n (opRow xs)) es).1 (mkR f q ((opsOf k (opRow ms)).drop (0 : Int).toNat) (opsOf n (opRow xs)) es).2 k (opsOf k (opRow ms))) q (W (f + q)))
        | false => some (.ret, stOf 68 [(4, .bool false)] (tkMX o))
      | false => none
    | false => some (.exit 0, stOf 68 [(4, .bool false)] (tkMB o n xs es k ms))) := by kernel_rfl

end Go.Proofs.Ytcefeamjnnkahaa


namespace Go.Proofs.Ytcefeamjnnkahaa
open Go Vx
/-- The makers behind the first map of each coset, one coset after the other. -/
def outL (q : Int) (ms : List O3) : Nat → Int → List O3 → ES → Option (List O3 × ES)
  | 0, _, xs, es => some (xs, es)
  | N + 1, f, xs, es => match decide (f < (xs.length : Int)) with
    | true => match mkL f q ms xs es with
      | some r => outL q ms N (f + q) r.1 r.2
      | none => none
    | false => some (xs, es)
theorem tcStep_len {m b : O3} {q : Int} (hq : 0 < q) {xs : List O3} {es : ES} (h : xs.length ≤ 192) {r : List O3 × ES} (hr : tcStep m b q xs es = some r) : xs.length ≤ r.1.length ∧ r.1.length ≤ 192 := by
  unfold tcStep at hr
  split at hr
  · cases hr
  · split at hr
    · simp only [Option.some.injEq] at hr; subst hr; exact ⟨Nat.le_refl _, h⟩
    · split at hr
      · cases hr
      · rename_i hb
        split at hr
        · rename_i hc
          simp only [Option.some.injEq] at hr
          subst hr
          have hl := cosL_true _ _ _ _ hc
          have hb' : ¬ ((xs.length : Int) + q > 192) := by simpa using hb
          rw [hl]
          simp
          omega
        · cases hr
theorem mkL_len {f q : Int} (hq : 0 < q) : ∀ (l : List O3) {xs : List O3} {es : ES}, xs.length ≤ 192 → ∀ {r : List O3 × ES}, mkL f q l xs es = some r → xs.length ≤ r.1.length ∧ r.1.length ≤ 192
  | [], xs, es, h, r, hr => by simp only [mkL, Option.some.injEq] at hr; subst hr; exact ⟨Nat.le_refl _, h⟩
  | m :: l, xs, es, h, r, hr => by
    simp only [mkL] at hr
    split at hr
    · rename_i s hs
      obtain ⟨h1, h2⟩ := tcStep_len hq h hs
      obtain ⟨h3, h4⟩ := mkL_len hq l h2 hr
      exact ⟨by omega, h4⟩
    · cases hr
structure otG where
  (sh : Sh) (o : O3) (n0 n : Nat) (xs : List O3) (es : ES) (k : Nat) (ms : List O3) (q f : Int) (N : Nat)
def otInv (g : otG) : Prop := g.xs.length = g.n ∧ g.ms.length = g.k ∧ 0 < g.q ∧ g.q ≤ (g.n : Int) ∧ g.n ≤ 192 ∧ 0 ≤ g.f ∧ g.k ≤ 1000 ∧ (193 : Int) ≤ g.N + g.f ∧ g.f ≤ 400 ∧ g.n0 ≤ g.n ∧ g.n0 ≤ g.n ∧ g.sh.ok g.n0 g.n
theorem tkTest_ok {n k : Nat} {xs ms : List O3} {q f : Int} {o : O3} (h3 : 0 < q) (h4 : q ≤ (n : Int)) (h5 : n ≤ 192) (h6 : 0 ≤ f) (h7 : f < (n : Int)) (h8 : k ≤ 1000) : tkTest n n k k k (opRow xs) (opRow ms) k q f 0 o o = true := by
  unfold tkTest
  rw [Nat.beq_refl, Nat.beq_refl, okOps_opRow, okOps_opRow, O3.eqB_refl]
  simp [h3, h4, h5, h6, h7, h8]

def otNHg (g : otG) : St := otNH (tkNM g.sh g.o g.n g.xs g.es g.k g.ms) g.q g.f
theorem otNRd (sh : Sh) (o : O3) (n : Nat) (xs : List O3) (es : ES) (k : Nat) (ms : List O3) (q f : Int) (hx : xs.length = n) (hm : ms.length = k) : roundR ((Ctk Try.prog).into 31 3) 40 (otX Try.prog) [0, 4, 7, 8] [4] [.fix 0, .fix 1, .fix 2, .fix 3, .fix 4, .fix 5, .cell 0 2, .cellN 0 0 3] [.fix 0, .fix 1, .fix 2, .fix 3, .fix 4, .fix 5, .cell 0 2, .cellN 0 0 3] (otNH (tkNM sh o n xs es k ms) q f) =
    (match decide (f < (n : Int)) with
    | true => match tkTest n n k k k (opRow xs) (opRow ms) k q f 0 o o with
      | true => match (mkL f q ms xs es).isSome with
        | true => some (.normal, otNH (tkNM (shOf (n0Of sh n) (mkR f q ms xs es).1) o (mkR f q ms xs es).1.length (mkR f q ms xs es).1 (mkR f q ms xs es).2 k ms) q (W (f + q)))
        | false => some (.ret, stOf 68 [(4, .bool false)] (tkNX o))
      | false => none
    | false => some (.exit 0, stOf 68 [(4, .bool false)] (tkNM sh.next o n xs es k ms))) := by
  have e0 : ms.drop (0 : Int).toNat = ms := rfl
  cases sh with
  | e =>
    have := otNRE o n xs es k ms q f
    rw [opsOf_row hx, opsOf_row hm, e0] at this
    rw [show otNH (tkNM .e o n xs es k ms) q f = otNH (tkNE o n xs es k ms) q f from rfl, this]
    unfold shOf
    cases Nat.blt (n0Of .e n) (mkR f q ms xs es).1.length <;> rfl
  | a =>
    have := otNRA o n xs es k ms q f
    rw [opsOf_row hx, opsOf_row hm, e0] at this
    rw [show otNH (tkNM .a o n xs es k ms) q f = otNH (tkNA o n xs es k ms) q f from rfl, this]
    unfold shOf
    cases Nat.blt (n0Of .a n) (mkR f q ms xs es).1.length <;> rfl
  | b =>
    have := otNRB o n xs es k ms q f
    rw [opsOf_row hx, opsOf_row hm, e0] at this
    rw [show otNH (tkNM .b o n xs es k ms) q f = otNH (tkNB o n xs es k ms) q f from rfl, this]
    unfold shOf
    cases Nat.blt (n0Of .b n) (mkR f q ms xs es).1.length <;> rfl
def otNO (g : otG) : Exit × St := match outL g.q g.ms g.N g.f g.xs g.es with
  | some r => (.exit 0, stOf 68 [(4, .bool false)] (tkNM (shOf g.n0 r.1) g.o r.1.length r.1 r.2 g.k g.ms))
  | none => (.ret, stOf 68 [(4, .bool false)] (tkNX g.o))
theorem otNL (g : otG) (hg : otInv g) : LoopSem Try.prog 3 (otX Try.prog) (otNHg g) (otNO g).1 (otNO g).2 := by
  refine loop_rule2 (C := Ctk Try.prog) oktk (f := 31) (B := 3) (loopsOf_in (k := 7) otX_eq) 40 [0, 4, 7, 8] [4] [.fix 0, .fix 1, .fix 2, .fix 3, .fix 4, .fix 5, .cell 0 2, .cellN 0 0 3] [.fix 0, .fix 1, .fix 2, .fix 3, .fix 4, .fix 5, .cell 0 2, .cellN 0 0 3] otNHg (fun g => g.N) otInv otNO ?_ g hg
  clear hg g
  rintro ⟨sh, o, n0, n, xs, es, k, ms, q, f, N⟩ hg
  unfold otInv at hg
  simp only at hg
  obtain ⟨h1, h2, h3, h4, h5, h6, h7, h8, h9, h10, h11⟩ := hg
  have hR := otNRd sh o n xs es k ms q f h1 h2
  by_cases hf : f < (n : Int)
  · have hd : decide (f < (n : Int)) = true := by simpa using hf
    have ht : tkTest n n k k k (opRow xs) (opRow ms) k q f 0 o o = true := tkTest_ok h3 h4 h5 h6 hf h7
    have hw : W (f + q) = f + q := W_in (by omega)
    rw [hd, ht, hw] at hR
    obtain ⟨N, rfl⟩ : ∃ N', N = N' + 1 := ⟨N - 1, by omega⟩
    cases hm : mkL f q ms xs es with
    | none =>
      right
      have hres : outL q ms (N + 1) f xs es = none := by simp only [outL, h1, hd, hm]
      simp only [hm, Option.isSome_none] at hR
      exact ⟨stOf 68 [(4, .bool false)] (tkNX o), by unfold otNHg otNO; simp only [hres]; exact hR, by unfold otNO; simp only [hres]; exact StLike.refl _, by unfold otNO; simp [hres]⟩
    | some r =>
      left
      have hmr : mkR f q ms xs es = r := by unfold mkR; rw [hm]; rfl
      simp only [hm, Option.isSome_some, hmr] at hR
      obtain ⟨l1, l2⟩ := mkL_len h3 ms (by omega) hm
      have hsh : shOf (n0Of sh n) r.1 = shOf n0 r.1 := by
        unfold shOf
        cases sh with
        | b =>
          have : n0 < n := h11.2
          rw [show Nat.blt (n0Of .b n) r.1.length = true by rw [Nat.blt_eq]; simp only [n0Of]; omega, show Nat.blt n0 r.1.length = true by rw [Nat.blt_eq]; omega]
        | e => have : n = n0 := h11.2; simp only [n0Of, this]
        | a => have : n = n0 := h11.2; simp only [n0Of, this]
      rw [hsh] at hR
      refine ⟨⟨shOf n0 r.1, o, n0, r.1.length, r.1, r.2, k, ms, q, f + q, N⟩, _, hR, StLike.refl _, ?_, by simp only; omega, ?_⟩
      · unfold otInv
        simp only
        refine ⟨trivial, h2, h3, by omega, l2, by omega, h7, by omega, by omega, by omega, ?_⟩
        unfold shOf
        by_cases hlt : n0 < r.1.length
        · rw [show Nat.blt n0 r.1.length = true by rw [Nat.blt_eq]; exact hlt]
          exact ⟨by omega, hlt⟩
        · rw [blt_ff hlt]
          simp only [Sh.ok]
          omega
      · unfold otNO
        simp only [outL, h1, hd, hm]
  · have hd : decide (f < (n : Int)) = false := by simpa using hf
    rw [hd] at hR
    right
    have hres : outL q ms N f xs es = some (xs, es) := by
      cases N with
      | zero => rfl
      | succ N => simp only [outL, h1, hd]
    have hsh : shOf n0 xs = sh.next := shOf_ok h1 h11
    exact ⟨stOf 68 [(4, .bool false)] (tkNM sh.next o n xs es k ms), by unfold otNHg otNO; simp only [hres]; exact hR, by unfold otNO; simp only [hres, h1, hsh]; exact StLike.refl _, by unfold otNO; simp [hres]⟩


def otMHg (g : otG) : St := otMH (tkMM g.sh g.o g.n g.xs g.es g.k g.ms) g.q g.f
theorem otMRd (sh : Sh) (o : O3) (n : Nat) (xs : List O3) (es : ES) (k : Nat) (ms : List O3) (q f : Int) (hx : xs.length = n) (hm : ms.length = k) : roundR ((Ctk Try.prog).into 31 4) 40 (otX Try.prog) [0, 4, 7, 8] [4] [.fix 0, .fix 1, .fix 2, .fix 3, .fix 4, .fix 5, .fix 6, .cell 0 2, .cellN 0 0 4] [.fix 0, .fix 1, .fix 2, .fix 3, .fix 4, .fix 5, .fix 6, .cell 0 2, .cellN 0 0 4] (otMH (tkMM sh o n xs es k ms) q f) =
    (match decide (f < (n : Int)) with
    | true => match tkTest n n k k k (opRow xs) (opRow ms) k q f 0 o o with
      | true => match (mkL f q ms xs es).isSome with
        | true => some (.normal, otMH (tkMM (shOf (n0Of sh n) (mkR f q ms xs es).1) o (mkR f q ms xs es).1.length (mkR f q ms xs es).1 (mkR f q ms xs es).2 k ms) q (W (f + q)))
        | false => some (.ret, stOf 68 [(4, .bool false)] (tkMX o))
      | false => none
    | false => some (.exit 0, stOf 68 [(4, .bool false)] (tkMM sh.next o n xs es k ms))) := by
  have e0 : ms.drop (0 : Int).toNat = ms := rfl
  cases sh with
  | e =>
    have := otMRE o n xs es k ms q f
    rw [opsOf_row hx, opsOf_row hm, e0] at this
    rw [show otMH (tkMM .e o n xs es k ms) q f = otMH (tkME o n xs es k ms) q f from rfl, this]
    unfold shOf
    cases Nat.blt (n0Of .e n) (mkR f q ms xs es).1.length <;> rfl
  | a =>
    have := otMRA o n xs es k ms q f
    rw [opsOf_row hx, opsOf_row hm, e0] at this
    rw [show otMH (tkMM .a o n xs es k ms) q f = otMH (tkMA o n xs es k ms) q f from rfl, this]
    unfold shOf
    cases Nat.blt (n0Of .a n) (mkR f q ms xs es).1.length <;> rfl
  | b =>
    have := otMRB o n xs es k ms q f
    rw [opsOf_row hx, opsOf_row hm, e0] at this
    rw [show otMH (tkMM .b o n xs es k ms) q f = otMH (tkMB o n xs es k ms) q f from rfl, this]
    unfold shOf
    cases Nat.blt (n0Of .b n) (mkR f q ms xs es).1.length <;> rfl
def otMO (g : otG) : Exit × St := match outL g.q g.ms g.N g.f g.xs g.es with
  | some r => (.exit 0, stOf 68 [(4, .bool false)] (tkMM (shOf g.n0 r.1) g.o r.1.length r.1 r.2 g.k g.ms))
  | none => (.ret, stOf 68 [(4, .bool false)] (tkMX g.o))
theorem otML (g : otG) (hg : otInv g) : LoopSem Try.prog 4 (otX Try.prog) (otMHg g) (otMO g).1 (otMO g).2 := by
  refine loop_rule2 (C := Ctk Try.prog) oktk (f := 31) (B := 4) (loopsOf_in (k := 7) otX_eq) 40 [0, 4, 7, 8] [4] [.fix 0, .fix 1, .fix 2, .fix 3, .fix 4, .fix 5, .fix 6, .cell 0 2, .cellN 0 0 4] [.fix 0, .fix 1, .fix 2, .fix 3, .fix 4, .fix 5, .fix 6, .cell 0 2, .cellN 0 0 4] otMHg (fun g => g.N) otInv otMO ?_ g hg
  clear hg g
  rintro ⟨sh, o, n0, n, xs, es, k, ms, q, f, N⟩ hg
  unfold otInv at hg
  simp only at hg
  obtain ⟨h1, h2, h3, h4, h5, h6, h7, h8, h9, h10, h11⟩ := hg
  have hR := otMRd sh o n xs es k ms q f h1 h2
  by_cases hf : f < (n : Int)
  · have hd : decide (f < (n : Int)) = true := by simpa using hf
    have ht : tkTest n n k k k (opRow xs) (opRow ms) k q f 0 o o = true := tkTest_ok h3 h4 h5 h6 hf h7
    have hw : W (f + q) = f + q := W_in (by omega)
    rw [hd, ht, hw] at hR
    obtain ⟨N, rfl⟩ : ∃ N', N = N' + 1 := ⟨N - 1, by omega⟩
    cases hm : mkL f q ms xs es with
    | none =>
      right
      have hres : outL q ms (N + 1) f xs es = none := by simp only [outL, h1, hd, hm]
      simp only [hm, Option.isSome_none] at hR
      exact ⟨stOf 68 [(4, .bool false)] (tkMX o), by unfold otMHg otMO; simp only [hres]; exact hR, by unfold otMO; simp only [hres]; exact StLike.refl _, by unfold otMO; simp [hres]⟩
    | some r =>
      left
      have hmr : mkR f q ms xs es = r := by unfold mkR; rw [hm]; rfl
      simp only [hm, Option.isSome_some, hmr] at hR
      obtain ⟨l1, l2⟩ := mkL_len h3 ms (by omega) hm
      have hsh : shOf (n0Of sh n) r.1 = shOf n0 r.1 := by
        unfold shOf
        cases sh with
        | b =>
          have : n0 < n := h11.2
          rw [show Nat.blt (n0Of .b n) r.1.length = true by rw [Nat.blt_eq]; simp only [n0Of]; omega, show Nat.blt n0 r.1.length = true by rw [Nat.blt_eq]; omega]
        | e => have : n = n0 := h11.2; simp only [n0Of, this]
        | a => have : n = n0 := h11.2; simp only [n0Of, this]
      rw [hsh] at hR
      refine ⟨⟨shOf n0 r.1, o, n0, r.1.length, r.1, r.2, k, ms, q, f + q, N⟩, _, hR, StLike.refl _, ?_, by simp only; omega, ?_⟩
      · unfold otInv
        simp only
        refine ⟨trivial, h2, h3, by omega, l2, by omega, h7, by omega, by omega, by omega, ?_⟩
        unfold shOf
        by_cases hlt : n0 < r.1.length
        · rw [show Nat.blt n0 r.1.length = true by rw [Nat.blt_eq]; exact hlt]
          exact ⟨by omega, hlt⟩
        · rw [blt_ff hlt]
          simp only [Sh.ok]
          omega
      · unfold otMO
        simp only [outL, h1, hd, hm]
  · have hd : decide (f < (n : Int)) = false := by simpa using hf
    rw [hd] at hR
    right
    have hres : outL q ms N f xs es = some (xs, es) := by
      cases N with
      | zero => rfl
      | succ N => simp only [outL, h1, hd]
    have hsh : shOf n0 xs = sh.next := shOf_ok h1 h11
    exact ⟨stOf 68 [(4, .bool false)] (tkMM sh.next o n xs es k ms), by unfold otMHg otMO; simp only [hres]; exact hR, by unfold otMO; simp only [hres, h1, hsh]; exact StLike.refl _, by unfold otMO; simp [hres]⟩

end Go.Proofs.Ytcefeamjnnkahaa

/-
  The loop of group.Close, told of states; group.Close, told. Nothing here is trusted.
-/
import Derived.Test.YtcefeamjnnkahaaGm
import Derived.Test.YtcefeamjnnkahaaGl

namespace Go.Proofs.Ytcefeamjnnkahaa
open Go Vx
def sortF : List Value → Mem → Option (Ans (Value × Mem))
  | [.slice (some ⟨0, 0, some 0⟩) n 12, .func (.func 33) f c], [.rows true true 12 n2 row] => match f.toList, c.toList with
    | [], [] => some (.br (Nat.beq n n2 && (okOps n row && decide (n ≤ 1000))) (.out (.tuple #[], [.rows true true 12 n (opRow (sortO (opsOf n row)))])) .fail)
    | _, _ => none
  | _, _ => none
def Cso (P : Program) : Cx := (Cns P).addF 32 sortF
theorem okso : CxOk (Cso Try.prog) := Cx.addF_ok okns fun args m ans v m' h hr => by
  unfold sortF at h
  split at h
  rotate_left
  · cases h
  rename_i n f c n2 row
  split at h
  rotate_left
  · cases h
  rename_i hf hc0
  simp only [Option.some.injEq] at h
  subst h
  rcases Ans.br_some hr with ⟨hc, hr1⟩ | ⟨_, hr1⟩
  rotate_left
  · simp [Ans.res] at hr1
  clear hr
  simp only [Bool.and_eq_true, decide_eq_true_eq] at hc
  obtain ⟨c1, c2, c3⟩ := hc
  have c1 := beq_len c1
  subst c1
  simp only [Ans.res, Option.some.injEq, Prod.mk.injEq] at hr1
  obtain ⟨rfl, rfl⟩ := hr1
  have e1 : f = #[] := by cases f; simp_all
  have e2 : c = #[] := by cases c; simp_all
  subst e1
  subst e2
  have := sortSem (opsOf n row) (by rw [opsOf_length]; exact c3)
  rw [opsOf_length] at this
  exact this.like ⟨.rows (ops_like c2), trivial⟩
/-! The loop -/
def clD : Mem → Option (Bool × Nat × (Nat → List Value) × List Value × Nat × (Nat → List Value) × ES)
  | [.rows own true 12 N2 row, .cells true 0 cs, .rows true true 12 n2 row2, .mp true 12 es] => some (own, N2, row, cs, n2, row2, es)
  | _ => none
theorem clD_spec {m : Mem} {own : Bool} {N2 n2 : Nat} {row row2 : Nat → List Value} {cs : List Value} {es : ES} (h : clD m = some (own, N2, row, cs, n2, row2, es)) : m = [.rows own true 12 N2 row, .cells true 0 cs, .rows true true 12 n2 row2, .mp true 12 es] := by
  unfold clD at h
  split at h
  · simp only [Option.some.injEq, Prod.mk.injEq] at h
    obtain ⟨rfl, rfl, rfl, rfl, rfl, rfl, rfl⟩ := h
    rfl
  · cases h
def clT (N N2 n n2 : Nat) (row row2 : Nat → List Value) (L i : Int) : Bool := Nat.beq N N2 && (okOps N row && (Nat.beq n n2 && (okOps n row2 && (decide (L = (N : Int)) && (decide (0 = i) && (decide (1 ≤ n) && (decide (n ≤ 192) && decide (N ≤ 192))))))))
def emptyB : List O3 → Bool
  | [] => true
  | _ :: _ => false
def clG0 (ls xs : List O3) (es : ES) : List O3 × List O3 × ES := (clL ls xs [] es).getD ([], [], [])
def clS (st : St) : Option (Ans (Exit × St)) :=
  match Nat.beq st.tmps.length 34, tAt st 2, tAt st 3, tAt st 5, tAt st 14, tAt st 15, tAt st 16, clD (thaw (killV st.mem)) with
  | true, some (.slice none 0 0), some (.int .i64 0), some (.pointer (some ⟨1, 0, none⟩)), some (.slice (some ⟨0, 0, some 0⟩) N 12), some (.int .i64 L), some (.int .i64 i), some (own, N2, row, cs, n2, row2, es) =>
    match cs with
    | [.slice (some ⟨2, 0, some 0⟩) n 12, .map (some 3), .slice none 0 0] => some (.br (clT N N2 n n2 row row2 L i) (.br (clL (opsOf N row) (opsOf n row2) [] es).isSome
        (.br (emptyB (clG0 (opsOf N row) (opsOf n row2) es).2.1)
          (.out (.exit 0, stOf 34 [(2, .slice none 0 0), (3, vI 0), (5, .pointer (some ⟨1, 0, none⟩))] (clN own N (opsOf N row) (clG0 (opsOf N row) (opsOf n row2) es).1.length (clG0 (opsOf N row) (opsOf n row2) es).1 (clG0 (opsOf N row) (opsOf n row2) es).2.2)))
          (.out (.exit 0, stOf 34 [(2, .slice none 0 0), (3, vI 0), (5, .pointer (some ⟨1, 0, none⟩))] (clM own N (opsOf N row) (clG0 (opsOf N row) (opsOf n row2) es).1.length (clG0 (opsOf N row) (opsOf n row2) es).1 (clG0 (opsOf N row) (opsOf n row2) es).2.2 (clG0 (opsOf N row) (opsOf n row2) es).2.1.length (clG0 (opsOf N row) (opsOf n row2) es).2.1))))
        (.out (.ret, stOf 34 [(2, .slice none 0 0), (3, vI 5), (5, .pointer (some ⟨1, 0, none⟩))] (clX own N (opsOf N row))))) .fail)
    | _ => none
  | _, _, _, _, _, _, _, _ => none
theorem clK {st : St} {ans : Ans (Exit × St)} {e_ : Exit} {s_ : St} (h : clS st = some ans) (hr : ans.res = some (e_, s_)) : LoopSem Try.prog 1 (clX' Try.prog) st e_ s_ := by
  unfold clS at h
  split at h
  rotate_left
  · cases h
  rename_i N L i own N2 row cs n2 row2 es hb hs2 hs3 hs5 hs14 hs15 hs16 hD
  split at h
  rotate_left
  · cases h
  rename_i n
  simp only [Option.some.injEq] at h
  subst h
  rcases Ans.br_some hr with ⟨hc, hr1⟩ | ⟨_, hr1⟩
  rotate_left
  · simp [Ans.res] at hr1
  clear hr
  unfold clT at hc
  simp only [Bool.and_eq_true, decide_eq_true_eq] at hc
  obtain ⟨c1, c2, c3, c4, c5, c6, c7, c8, c9⟩ := hc
  have c1 := beq_len c1
  have c3 := beq_len c3
  subst c1
  subst c3
  subst c5
  subst c6
  have hmem := clD_spec hD
  have hI : clInv ⟨.e, own, N, opsOf N row, n, opsOf n row2, es, 0, [], 0⟩ := by
    unfold clInv
    simp only
    exact ⟨opsOf_length N row, c9, opsOf_length n row2, c7, c8, rfl, by omega, by omega, by omega, rfl⟩
  have key := clLp _ hI
  have hlike : LikeL (thaw (killV st.mem)) (clHg ⟨.e, own, N, opsOf N row, n, opsOf n row2, es, 0, [], 0⟩).mem := by
    rw [hmem]
    exact ⟨.rows (ops_like c2), .refl _, .rows (ops_like c4), .refl _, trivial⟩
  have key := LoopSem.like (tm := (clHg ⟨.e, own, N, opsOf N row, n, opsOf n row2, es, 0, [], 0⟩).tmps) (m := thaw (killV st.mem)) key hlike
  have key := LoopSem.fresh key
  have hk : keepL [2, 3, 5, 14, 15, 16] 0 st.tmps = (clHg ⟨.e, own, N, opsOf N row, n, opsOf n row2, es, 0, [], 0⟩).tmps := by
    have := keep_eq [(2, .slice none 0 0), (3, vI 0), (5, .pointer (some ⟨1, 0, none⟩)), (14, .slice (some ⟨0, 0, some 0⟩) N 12), (15, vI N), (16, vI 0)] st.tmps 0 (by
      intro x hx _
      simp only [List.mem_cons, List.not_mem_nil, or_false] at hx
      rcases hx with rfl | rfl | rfl | rfl | rfl | rfl
      · exact hs2
      · exact hs3
      · exact hs5
      · exact hs14
      · exact hs15
      · exact hs16)
    rw [show (keepL [2, 3, 5, 14, 15, 16] 0 st.tmps) = _ from this, beq_len hb]
    rfl
  rw [← hk] at key
  have key : LoopSem Try.prog 1 (clX' Try.prog) st _ _ := LoopSem.clean (mask := [2, 3, 5, 14, 15, 16]) key
  unfold clO at key
  simp only [Int.toNat_zero, List.drop_zero] at key
  rcases Ans.br_some hr1 with ⟨hq, hr2⟩ | ⟨hq, hr2⟩
  · obtain ⟨r, hr'⟩ := Option.isSome_iff_exists.1 hq
    have hmr : clG0 (opsOf N row) (opsOf n row2) es = r := by unfold clG0; rw [hr']; rfl
    rw [hmr] at hr2
    rw [hr'] at key
    simp only at key
    rcases Ans.br_some hr2 with ⟨hq2, hr3⟩ | ⟨hq2, hr3⟩
    · simp only [Ans.res, Option.some.injEq, Prod.mk.injEq] at hr3
      obtain ⟨rfl, rfl⟩ := hr3
      cases hms : r.2.1 with
      | nil => rw [hms] at key; exact key
      | cons m l => rw [hms] at hq2; cases hq2
    · simp only [Ans.res, Option.some.injEq, Prod.mk.injEq] at hr3
      obtain ⟨rfl, rfl⟩ := hr3
      cases hms : r.2.1 with
      | nil => rw [hms] at hq2; cases hq2
      | cons m l => rw [hms] at key; exact key
  · have hn : clL (opsOf N row) (opsOf n row2) [] es = none := by
      cases hm : clL (opsOf N row) (opsOf n row2) [] es with
      | none => rfl
      | some r => rw [hm] at hq; cases hq
    rw [hn] at key
    simp only [Ans.res, Option.some.injEq, Prod.mk.injEq] at hr2
    obtain ⟨rfl, rfl⟩ := hr2
    exact key
def Ccl (P : Program) : Cx := (Cso P).addLB 9 6 1 clS
theorem okcl : CxOk (Ccl Try.prog) := Cx.addLB_ok okso clX_eq fun _ _ _ _ h hr => clK h hr
end Go.Proofs.Ytcefeamjnnkahaa


namespace Go.Proofs.Ytcefeamjnnkahaa
open Go Vx
def es1 : ES := [(key O3.one, 0)]
def nilE (e : Int) : Value := .tuple #[.slice none 0 0, vI e]
def slE (n : Nat) : Value := .tuple #[.slice (some ⟨1, 0, some 0⟩) n 12, vI 0]
def sortT (n : Nat) (row : Nat → List Value) : Bool := Nat.beq n n && (okOps n row && decide (n ≤ 1000))
def clsEnd (own : Bool) (N : Nat) (ls xs : List O3) (n : Nat) : Option (Value × Mem) := gd (sortT n (opRow xs)) (some (slE n, [.rows own true 12 N (opRow ls), .rows true true 12 n (opRow (sortO (opsOf n (opRow xs))))]))
def clsMid (own : Bool) (N : Nat) (ls2 : List O3) (x1 : List O3) : Option (Value × Mem) := match (clL ls2 x1 [] es1).isSome with
  | true => match emptyB (clG0 ls2 x1 es1).2.1 with
    | true => clsEnd own N ls2 (clG0 ls2 x1 es1).1 (clG0 ls2 x1 es1).1.length
    | false => clsEnd own N ls2 (clG0 ls2 x1 es1).1 (clG0 ls2 x1 es1).1.length
  | false => some (nilE 5, [.rows own true 12 N (opRow ls2), .no])
theorem clsR (own : Bool) (N : Nat) (ls : List O3) : exT ((Ccl Try.prog).at 9) 60 Try.f9 [.slice (some ⟨0, 0, some 0⟩) N 12] [.rows own true 12 N (opRow ls)] [.fix 0, .slot 0] =
    gd (Nat.beq N N && okOps N (opRow ls)) (match ckMaps (opsOf N (opRow ls)) != 0 with
      | true => some (nilE (ckMaps (opsOf N (opRow ls))), [.rows own true 12 N (opRow (opsOf N (opRow ls))), .no])
      | false => gd (clT N N 1 1 (opRow (opsOf N (opRow ls))) (opRow [O3.one]) N 0) (clsMid own N (opsOf N (opRow (opsOf N (opRow ls)))) (opsOf 1 (opRow [O3.one])))) := by kernel_rfl
theorem clsR0 : exT ((Ccl Try.prog).at 9) 60 Try.f9 [.slice none 0 0] [] [.slot 0] = some (.tuple #[.slice (some ⟨0, 0, some 0⟩) 1 12, vI 0], [.rows true true 12 1 (opRow (sortO [O3.one]))]) := by kernel_rfl
/-- What Close answers. -/
def clsOk (ls : List O3) : Bool := (ckMaps ls == 0) && (clR ls).isSome
def clsG (ls : List O3) : List O3 := sortO (clG0 ls [O3.one] es1).1
def clsErr (ls : List O3) : Int := bif ckMaps ls == 0 then 5 else ckMaps ls
theorem leastL_zero : ∀ {l : List O3} {e : Int}, leastL l e = 0 → e = 0 ∧ ∀ o ∈ l, o.ck = 0
  | [], e, h => ⟨h, by simp⟩
  | o :: l, e, h => by
    obtain ⟨h1, h2⟩ := leastL_zero (l := l) h
    have h3 : e = 0 ∧ o.ck = 0 := by
      unfold leastN at h1
      by_cases he : e = 0
      · subst he; exact ⟨rfl, by simpa using h1⟩
      · rw [(bif_beq he).1] at h1
        by_cases ho : o.ck = 0
        · rw [ho] at h1; simp at h1; exact absurd h1 he
        · rw [(bif_beq ho).2] at h1
          simp only at h1
          cases hd : decide (o.ck < e) with
          | true => rw [hd] at h1; exact absurd h1 ho
          | false => rw [hd] at h1; exact absurd h1 he
    refine ⟨h3.1, fun x hx => ?_⟩
    rcases List.mem_cons.1 hx with rfl | hx
    · exact h3.2
    · exact h2 x hx
theorem ckMaps_zero {ls : List O3} (h : ckMaps ls = 0) : ls.length ≤ 192 ∧ ∀ o ∈ ls, o.ck = 0 := by
  unfold ckMaps at h
  split at h
  · cases h
  · exact ⟨by omega, (leastL_zero h).2⟩
/-- A group in order, out of what was found. -/
theorem clsOk_spec {ls : List O3} (h : clsOk ls = true) : ls.length ≤ 192 ∧ (∀ o ∈ ls, o.ck = 0) ∧ IsGrp ls (clG0 ls [O3.one] es1).1 := by
  unfold clsOk at h
  rw [Bool.and_eq_true, beq_iff_eq] at h
  obtain ⟨h1, h2⟩ := ckMaps_zero h.1
  refine ⟨h1, h2, ?_⟩
  rcases clR_spec h2 with ⟨r, k1, k2⟩ | ⟨k1, _⟩
  · have e : clG0 ls [O3.one] es1 = r := by unfold clG0; rw [show clL ls [O3.one] [] es1 = some r from k1]; rfl
    rw [e]; exact k2
  · rw [k1] at h; cases h.2
theorem clsOk_len {ls : List O3} (h : clsOk ls = true) : (clsG ls).length ≤ 192 := by
  unfold clsG
  rw [sortO_len]
  exact (clsOk_spec h).2.2.2.1
def clsF : List Value → Mem → Option (Ans (Value × Mem))
  | [.slice none 0 0], [] => some (.out (.tuple #[.slice (some ⟨0, 0, some 0⟩) 1 12, vI 0], [.rows true true 12 1 (opRow [O3.one])]))
  | [.slice (some ⟨0, 0, some 0⟩) N 12], [.rows own true 12 N2 row] => some (.br (Nat.beq N N2 && okOps N row) (.br (clsOk (opsOf N row)) (.out (slE (clsG (opsOf N row)).length, [.rows own true 12 N (opRow (opsOf N row)), .rows true true 12 (clsG (opsOf N row)).length (opRow (clsG (opsOf N row)))])) (.out (nilE (clsErr (opsOf N row)), [.rows own true 12 N (opRow (opsOf N row)), .no]))) .fail)
  | _, _ => none
def Ccs (P : Program) : Cx := (Ccl P).addF 9 clsF
theorem okcs : CxOk (Ccs Try.prog) := Cx.addF_ok okcl fun args m ans v m' h hr => by
  unfold clsF at h
  split at h
  · simp only [Option.some.injEq] at h
    subst h
    simp only [Ans.res, Option.some.injEq, Prod.mk.injEq] at hr
    obtain ⟨rfl, rfl⟩ := hr
    exact exT_ok okcl Try.func9 (by kernel_rfl) clsR0
  · rename_i N own N2 row
    simp only [Option.some.injEq] at h
    subst h
    rcases Ans.br_some hr with ⟨hc, hr1⟩ | ⟨_, hr1⟩
    rotate_left
    · simp [Ans.res] at hr1
    clear hr
    simp only [Bool.and_eq_true] at hc
    obtain ⟨c1, c2⟩ := hc
    have c1 := beq_len c1
    subst c1
    have hl := opsOf_length N row
    have hE := clsR own N (opsOf N row)
    rw [opsOf_row hl, opsOf_row hl, okOps_opRow, Nat.beq_refl] at hE
    simp only [Bool.and_self, gd_true] at hE
    have sem : ∀ {v : Value} {m' : Mem}, exT ((Ccl Try.prog).at 9) 60 Try.f9 [.slice (some ⟨0, 0, some 0⟩) N 12] [.rows own true 12 N (opRow (opsOf N row))] [.fix 0, .slot 0] = some (v, m') → MemSem Try.prog 9 [.slice (some ⟨0, 0, some 0⟩) N 12] [.rows own true 12 N row] v m' := fun hh => (exT_ok okcl Try.func9 (by kernel_rfl) hh).like ⟨.rows (ops_like c2), trivial⟩
    generalize opsOf N row = ls at hl hE hr1 sem
    by_cases h0 : ckMaps ls = 0
    · obtain ⟨k1, k2⟩ := ckMaps_zero h0
      have ht : clT N N 1 1 (opRow ls) (opRow [O3.one]) N 0 = true := by
        unfold clT
        rw [Nat.beq_refl, okOps_opRow, okOps_opRow, show Nat.beq 1 1 = true from rfl]
        simp; omega
      rw [h0, ht] at hE
      simp only [bne_self_eq_false, gd_true, show opsOf 1 (opRow [O3.one]) = [O3.one] from rfl] at hE
      unfold clsMid at hE
      rcases Ans.br_some hr1 with ⟨hq, hr2⟩ | ⟨hq, hr2⟩
      · have hlen := clsOk_len hq
        have hsome : (clL ls [O3.one] [] es1).isSome = true := by
          unfold clsOk at hq
          rw [Bool.and_eq_true] at hq
          exact hq.2
        rw [hsome] at hE
        have hlen' : (clG0 ls [O3.one] es1).1.length ≤ 192 := (clsOk_spec hq).2.2.2.1
        have hend : clsEnd own N ls (clG0 ls [O3.one] es1).1 (clG0 ls [O3.one] es1).1.length = some (slE (clsG ls).length, [.rows own true 12 N (opRow ls), .rows true true 12 (clsG ls).length (opRow (clsG ls))]) := by
          unfold clsEnd sortT
          rw [Nat.beq_refl, okOps_opRow, opsOf_row rfl, show decide ((clG0 ls [O3.one] es1).1.length ≤ 1000) = true by simp; omega]
          unfold clsG
          rw [sortO_len]
          rfl
        rw [hend] at hE
        simp only [Ans.res, Option.some.injEq, Prod.mk.injEq] at hr2
        obtain ⟨rfl, rfl⟩ := hr2
        refine sem ?_
        rw [hE]
        cases emptyB (clG0 ls [O3.one] es1).2.1 <;> rfl
      · have hnone : (clL ls [O3.one] [] es1).isSome = false := by
          unfold clsOk at hq
          rw [h0] at hq
          have hq2 : (clR ls).isSome = false := by simpa using hq
          exact hq2
        rw [hnone] at hE
        simp only [Ans.res, Option.some.injEq, Prod.mk.injEq] at hr2
        obtain ⟨rfl, rfl⟩ := hr2
        refine sem ?_
        rw [hE]
        unfold clsErr
        rw [h0]; rfl
    · rw [(bif_beq h0).2] at hE
      rcases Ans.br_some hr1 with ⟨hq, hr2⟩ | ⟨hq, hr2⟩
      · unfold clsOk at hq
        rw [(bif_beq h0).1] at hq
        cases hq
      · simp only [Ans.res, Option.some.injEq, Prod.mk.injEq] at hr2
        obtain ⟨rfl, rfl⟩ := hr2
        refine sem ?_
        rw [hE]
        unfold clsErr
        rw [(bif_beq h0).1]; rfl
  · cases h
end Go.Proofs.Ytcefeamjnnkahaa

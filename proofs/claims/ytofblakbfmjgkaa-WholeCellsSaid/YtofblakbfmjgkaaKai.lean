/-
  Ratios held against each other. Nothing here is trusted.
-/
import Derived.Test.YtofblakbfmjgkaaKah
import Derived.Test.YtofblakbfmjgkaaKaf

namespace Go.Proofs.Ytofblakbfmjgkaa
open Go Vx Go.RowKit
theorem pl4 {a b c d : Int} : ∀ x ∈ [vU a, vU b, vU c, vU d], Vx.plain x = true := by
  intro x hx
  simp only [List.mem_cons, List.not_mem_nil, or_false] at hx
  rcases hx with rfl | rfl | rfl | rfl <;> rfl
/-- bits.Mul64 -/
theorem em1 (a b : Int) : exFun ((CCs Try.prog).at 122) 60 Try.f122 [vU a, vU b] = some (p2 (vU (m64hi a b)) (vU (U (a * b)))) := by kernel_rfl
def m1F : List Value → Option (Bool × Value)
  | [.int .u64 a, .int .u64 b] => some (u64B a && u64B b, p2 (vU (a * b / 18446744073709551616)) (vU (a * b % 18446744073709551616)))
  | _ => none
def Cm1 (P : Program) : Cx := (CCs P).addR 122 m1F
theorem okm1 : CxOk (Cm1 Try.prog) := by
  have := Cx.addR_ok (C := (CCs Try.prog).at 122) (okCs.at 122) (f := 122) Try.func122 (by kernel_rfl) (Or.inl rfl) (n := 60) (F := m1F) (fun args v h => by
    unfold m1F at h
    split at h
    · rename_i a b
      simp only [Option.some.injEq, Prod.mk.injEq, Bool.and_eq_true] at h
      obtain ⟨⟨h0, h1⟩, rfl⟩ := h
      rw [← m64_hi (u64B_iff.1 h0) (u64B_iff.1 h1), ← U_eq]
      exact em1 a b
    · cases h)
  exact ⟨this.mixed, this.tbl, this.tbm, this.keys, this.inl, this.lp, this.rd, this.rd2⟩
/-- cmp.Compare of uint64 -/
theorem em2 (a : Int) : exFun ((Cm1 Try.prog).at 147) 60 Try.f147 [vU a] = some (.bool (a != a)) := by kernel_rfl
def m2F : List Value → Option (Bool × Value)
  | [.int .u64 _] => some (true, .bool false)
  | _ => none
def Cm2 (P : Program) : Cx := (Cm1 P).addR 147 m2F
theorem okm2 : CxOk (Cm2 Try.prog) := by
  have := Cx.addR_ok (C := (Cm1 Try.prog).at 147) (okm1.at 147) (f := 147) Try.func147 (by kernel_rfl) (Or.inl rfl) (n := 60) (F := m2F) (fun args v h => by
    unfold m2F at h
    split at h
    · rename_i a
      simp only [Option.some.injEq, Prod.mk.injEq, true_and] at h
      subst h
      exact (em2 a).trans (by rw [bne_self_eq_false])
    · cases h)
  exact ⟨this.mixed, this.tbl, this.tbm, this.keys, this.inl, this.lp, this.rd, this.rd2⟩
theorem em3 (a b : Int) : exFun ((Cm2 Try.prog).at 123) 60 Try.f123 [vU a, vU b] = tCmpI a b := by kernel_rfl
def m3F : List Value → Option (Bool × Value)
  | [.int .u64 a, .int .u64 b] => some (true, vI (cmpI a b))
  | _ => none
def Cm3 (P : Program) : Cx := (Cm2 P).addR 123 m3F
theorem okm3 : CxOk (Cm3 Try.prog) := by
  have := Cx.addR_ok (C := (Cm2 Try.prog).at 123) (okm2.at 123) (f := 123) Try.func123 (by kernel_rfl) (Or.inl rfl) (n := 60) (F := m3F) (fun args v h => by
    unfold m3F at h
    split at h
    · rename_i a b
      simp only [Option.some.injEq, Prod.mk.injEq, true_and] at h
      subst h
      exact (em3 a b).trans (tCmpI_eq a b)
    · cases h)
  exact ⟨this.mixed, this.tbl, this.tbm, this.keys, this.inl, this.lp, this.rd, this.rd2⟩
/-- cell.compareProducts -/
theorem em4 (a b c d : Int) : exFun ((Cm3 Try.prog).at 84) 60 Try.f84 [vU a, vU b, vU c, vU d] = cprT a b c d := by kernel_rfl
def m4F : List Value → Option (Bool × Value)
  | [.int .u64 a, .int .u64 b, .int .u64 c, .int .u64 d] => some (cprB a b c d, vI (cmpI (a * b) (c * d)))
  | _ => none
def Cm4 (P : Program) : Cx := (Cm3 P).addR 84 m4F
theorem okm4 : CxOk (Cm4 Try.prog) := by
  have := Cx.addR_ok (C := (Cm3 Try.prog).at 84) (okm3.at 84) (f := 84) Try.func84 (by kernel_rfl) (Or.inl rfl) (n := 60) (F := m4F) (fun args v h => by
    unfold m4F at h
    split at h
    · rename_i a b c d
      simp only [Option.some.injEq, Prod.mk.injEq] at h
      obtain ⟨h0, rfl⟩ := h
      exact (em4 a b c d).trans (cprT_eq h0)
    · cases h)
  exact ⟨this.mixed, this.tbl, this.tbm, this.keys, this.inl, this.lp, this.rd, this.rd2⟩
/-- facetref11.products -/
theorem em5 (a b c d : Int) : exFun ((Cm4 Try.prog).at 126) 60 Try.f126 [vU a, vU b, vU c, vU d] = prdT a b c d := by kernel_rfl
def Cm5 (P : Program) : Cx := (Cm4 P).addR 126 m4F
theorem okm5 : CxOk (Cm5 Try.prog) := by
  have := Cx.addR_ok (C := (Cm4 Try.prog).at 126) (okm4.at 126) (f := 126) Try.func126 (by kernel_rfl) (Or.inl rfl) (n := 60) (F := m4F) (fun args v h => by
    unfold m4F at h
    split at h
    · rename_i a b c d
      simp only [Option.some.injEq, Prod.mk.injEq] at h
      obtain ⟨h0, rfl⟩ := h
      exact (em5 a b c d).trans (prdT_eq h0)
    · cases h)
  exact ⟨this.mixed, this.tbl, this.tbm, this.keys, this.inl, this.lp, this.rd, this.rd2⟩
/-- facetref11.InForm -/
def ifB (P : Program) : Code := bodyOf P 86
theorem ifB_eq : Try.f86.body = some (ifB Try.prog) := by kernel_rfl
def ifP : Nat × Value := (1, .pointer (some ⟨0, 0, none⟩))
def ifM (n d : Int) : Mem := [.cells true 0 [vI n, vI d]]
def if1 (n d : Int) : St := stOf 32 [ifP] (ifM n d)
theorem ifE0 (n d : Int) : segR ((Cm5 Try.prog).into 86 0) 40 1 (ifB Try.prog) [1] [.slot 1] (enter Try.f86 [Q2.v ⟨n, d⟩] []) = some (if1 n d) := by kernel_rfl
theorem ifE1 (n d : Int) : roundR ((Cm5 Try.prog).into 86 0) 40 (stmt 1 (ifB Try.prog)) [1] [2] [.slot 1] [] (if1 n d) = ifT n d (some (.ret, stOf 32 [(2, .bool false)] [])) (some (.normal, if1 n d)) := by kernel_rfl
def if3 (x y : Int) : St := stOf 32 [(3, vU x), (4, vU y)] []
theorem ifE3 (n d : Int) : segR ((Cm5 Try.prog).into 86 0) 40 1 (seqDrop 2 (ifB Try.prog)) [3, 4] [] (if1 n d) = some (if3 (U (mag n)) (U d)) := by kernel_rfl
theorem ifHas : hasStmt 1 (ifB Try.prog) = true ∧ hasStmt 3 (ifB Try.prog) = true := by constructor <;> kernel_rfl
theorem ifBlk : isBlk 0 (stmt 3 (ifB Try.prog)) = true := by kernel_rfl
theorem ifR (x y : Int) : roundR ((Cm5 Try.prog).into 86 0) 40 (blkBody (stmt 3 (ifB Try.prog))) [3, 4] [3] [] [] (if3 x y) =
    (match decide (y > 0) with
    | true => gn (y == 0) (some (.normal, if3 y (Int.tmod x y)))
    | false => some (.exit 0, stOf 32 [(3, vU x)] [])) := by kernel_rfl
theorem ifEnd (x : Int) : roundR ((Cm5 Try.prog).into 86 0) 40 (seqDrop 4 (ifB Try.prog)) [2] [2] [] [] (stOf 32 [(3, vU x)] []) = some (.ret, stOf 32 [(2, .bool (x == 1))] []) := by kernel_rfl
theorem ifRet (b : Bool) : (retA Try.prog Try.f86 (.ret, stOf 32 [(2, .bool b)] [])).res = some (.bool b, []) := by kernel_rfl
set_option maxRecDepth 100000 in
theorem ifIn : InBody ((Cm5 Try.prog).into 86 0) (blkBody (stmt 3 (ifB Try.prog))) := blk_in (C := Cm5 Try.prog) (f := 86) (B := 0) (id := 0) (k := 3) (fn := Try.f86) (b := ifB Try.prog) Try.func86 ifB_eq ifBlk
theorem ifL : ∀ (y x : Nat), LoopSem Try.prog 0 (blkBody (stmt 3 (ifB Try.prog))) (if3 (x : Int) (y : Int)) (.exit 0) (stOf 32 [(3, vU ((Nat.gcd x y : Nat) : Int))] []) := by
  intro y
  induction y using Nat.strongRecOn with
  | _ y ih =>
    intro x
    have hr := ifR (x : Int) (y : Int)
    by_cases hb : y = 0
    · subst hb
      rw [Nat.gcd_zero_right]
      exact loop_leave (C := Cm5 Try.prog) okm5 (f := 86) (B := 0) ifIn hr (by simp)
    · rw [show decide ((y : Int) > 0) = true by simp; omega, show ((y : Int) == 0) = false by simp; omega, tmod_nat] at hr
      have := ih (x % y) (Nat.mod_lt _ (by omega)) y
      rw [gcd_next] at this
      exact loop_next (C := Cm5 Try.prog) okm5 (f := 86) (B := 0) ifIn hr (StLike.refl _) this
theorem ifIn2 {k : Nat} : InBody ((Cm5 Try.prog).into 86 0) (seqDrop k (ifB Try.prog)) := bodyOf_in (C := Cm5 Try.prog) (f := 86) (B := 0) (k := k) (fn := Try.f86) (b := ifB Try.prog) Try.func86 ifB_eq
set_option maxRecDepth 100000 in
theorem ifInS : InBody ((Cm5 Try.prog).into 86 0) (stmt 1 (ifB Try.prog)) := stmt_in (C := Cm5 Try.prog) (f := 86) (B := 0) (k := 1) (fn := Try.f86) (b := ifB Try.prog) Try.func86 ifB_eq
theorem ifS (n d : Int) (hd : d ≤ 9223372036854775807) : PlainSem Try.prog 86 [Q2.v ⟨n, d⟩] (.bool (Q2.form ⟨n, d⟩)) := by
  have h1 := ifE1 n d
  have fin : CodeSem Try.prog 0 (seqDrop 2 (ifB Try.prog)) (if1 n d) .ret (stOf 32 [(2, .bool (gcdI (U (mag n)) (U d) == 1))] []) := by
    have hl := ifL (U d).toNat (U (mag n)).toNat
    rw [Int.toNat_of_nonneg (U_nn _), Int.toNat_of_nonneg (U_nn _)] at hl
    refine seg_rule (C := Cm5 Try.prog) okm5 (f := 86) (B := 0) (k := 1) ifIn2 (ifE3 n d) ?_
    rw [seqDrop_drop]
    exact stmt_rule ifHas.2 (blk_rule ifBlk hl) (end_rule (C := Cm5 Try.prog) okm5 (f := 86) (B := 0) ifIn2 (ifEnd _))
  have body : CodeSem Try.prog 0 (ifB Try.prog) (enter Try.f86 [Q2.v ⟨n, d⟩] []) .ret (stOf 32 [(2, .bool (Q2.form ⟨n, d⟩))] []) := by
    refine seg_rule (C := Cm5 Try.prog) okm5 (f := 86) (B := 0) (k := 1) (Or.inl ⟨Try.f86, ifB Try.prog, Try.func86, ifB_eq, fun _ hx => hx⟩) (ifE0 n d) ?_
    rcases form_cases n d hd with ⟨hc, hf⟩ | ⟨hc, hf⟩
    · rw [hc] at h1
      rw [hf]
      exact stmt_out ifHas.1 (end_rule' (C := Cm5 Try.prog) okm5 (f := 86) (B := 0) ifInS h1) (by simp)
    · rw [hc] at h1
      rw [hf]
      exact stmt_rule ifHas.1 (end_rule' (C := Cm5 Try.prog) okm5 (f := 86) (B := 0) ifInS h1) fin
  have hm : MemSem Try.prog 86 [Q2.v ⟨n, d⟩] [] (.bool (Q2.form ⟨n, d⟩)) [] := body_mem (f := 86) Try.func86 ifB_eq (by kernel_rfl) body (ifRet _)
  exact hm.plain (by intro x hx; simp only [List.mem_cons, List.not_mem_nil, or_false] at hx; rcases hx with rfl; rfl) rfl
def ifF : List Int → Option (Bool × Value)
  | [n, d] => some (decide (d ≤ 9223372036854775807), fInForm ⟨n, d⟩)
  | _ => none
def Cm6 (P : Program) : Cx := (Cm5 P).addD 86 [some 2] ifF
theorem okm6 : CxOk (Cm6 Try.prog) := Cx.addP_ok okm5 fun args v _ h _ => by
  split at h
  · rename_i l hu
    obtain ⟨rfl, hl⟩ := unpack_spec _ _ _ hu
    match l, hl, h with
    | [n, d], _, h =>
      simp only [ifF, Option.some.injEq, Prod.mk.injEq, decide_eq_true_eq] at h
      obtain ⟨h0, rfl⟩ := h
      exact ifS n d h0
  · cases h
/-- facetref11.Compare -/
theorem em7 (a0 a1 b0 b1 : Int) : exFun ((Cm6 Try.prog).at 87) 60 Try.f87 (pack [some 2, some 2] [a0, a1, b0, b1]) = tRCmp ⟨a0, a1⟩ ⟨b0, b1⟩ := by kernel_rfl
def m7F : List Int → Option (Bool × Value)
  | [a0, a1, b0, b1] => some (denB ⟨a0, a1⟩ ⟨b0, b1⟩, vI (Q2.cmp ⟨a0, a1⟩ ⟨b0, b1⟩))
  | _ => none
def Cm7 (P : Program) : Cx := (Cm6 P).addD 87 [some 2, some 2] m7F
theorem okm7 : CxOk (Cm7 Try.prog) := Cx.addD_ok okm6 (n := 60) Try.func87 (by kernel_rfl) fun l v hl h => by
  match l, hl, h with
  | [a0, a1, b0, b1], _, hh => simp only [m7F, Option.some.injEq, Prod.mk.injEq] at hh; rw [em7, tRCmp_eq hh.1, hh.2]
end Go.Proofs.Ytofblakbfmjgkaa


namespace Go.Proofs.Ytofblakbfmjgkaa
open Go Vx

def Cq0 (P : Program) : Cx := Cm7 P
theorem okq0 : CxOk (Cq0 Try.prog) := okm7
/-- cell.Compare -/
theorem eq1 (a0 a1 b0 b1 : Int) : exFun ((Cq0 Try.prog).at 30) 60 Try.f30 (pack [some 2, some 2] [a0, a1, b0, b1]) = tQCmp ⟨a0, a1⟩ ⟨b0, b1⟩ := by kernel_rfl
def Fq_30 : List Int → Option Value
  | [a0, a1, b0, b1] => some (fQCmp ⟨a0, a1⟩ ⟨b0, b1⟩)
  | _ => none
def Cq1 (P : Program) : Cx := (Cq0 P).add 30 [some 2, some 2] Fq_30
theorem okq1 : CxOk (Cq1 Try.prog) := Cx.add_ok okq0 (n := 60) Try.func30 (by kernel_rfl) fun l v hl h => by
  match l, hl, h with
  | [a0, a1, b0, b1], _, hh => rw [eq1, tQCmp_eq]; exact hh
/-- facetref11.DocCompare -/
theorem eq2 (a0 a1 b0 b1 : Int) : exFun ((Cq1 Try.prog).at 31) 60 Try.f31 (pack [some 2, some 2] [a0, a1, b0, b1]) = tDocCmp ⟨a0, a1⟩ ⟨b0, b1⟩ := by kernel_rfl
def Fq_31 : List Int → Option (Bool × Value)
  | [a0, a1, b0, b1] => some (rngQ ⟨a0, a1⟩ ⟨b0, b1⟩, fQCmp ⟨a0, a1⟩ ⟨b0, b1⟩)
  | _ => none
def Cq2 (P : Program) : Cx := (Cq1 P).addD 31 [some 2, some 2] Fq_31
theorem okq2 : CxOk (Cq2 Try.prog) := Cx.addD_ok okq1 (n := 60) Try.func31 (by kernel_rfl) fun l v hl h => by
  match l, hl, h with
  | [a0, a1, b0, b1], _, hh => simp only [Fq_31, Option.some.injEq, Prod.mk.injEq] at hh; rw [eq2, tDocCmp_eq hh.1, hh.2]

def CCq (P : Program) : Cx := Cq2 P
theorem okCq : CxOk (CCq Try.prog) := okq2

end Go.Proofs.Ytofblakbfmjgkaa


namespace Go.Proofs.Ytofblakbfmjgkaa.Vx
open Go Go.RowKit
def Cx.addI (C : Cx) (f : FuncId) : Cx := { C with inl := fun g => match Nat.beq g f with
  | true => C.P.funcs[g]?
  | false => C.inl g }
theorem Cx.addI_ok {C : Cx} (hC : CxOk C) {f : FuncId} (hok : okFunc C.P f = true) : CxOk (C.addI f) := by
  refine ⟨hC.mixed, hC.tbl, hC.tbm, hC.keys, fun g fn hg => ?_, hC.lp, hC.rd, hC.rd2⟩
  simp only [Cx.addI] at hg
  cases hb : Nat.beq g f with
  | false => rw [hb] at hg; exact hC.inl g fn hg
  | true =>
    rw [hb] at hg
    have := Nat.eq_of_beq_eq_true hb
    subst this
    exact ⟨hg, okFunc_name hok hg⟩
end Go.Proofs.Ytofblakbfmjgkaa.Vx


namespace Go.Proofs.Ytofblakbfmjgkaa
open Go Vx
def CIn (P : Program) : Cx := ((CCq P).addI 131).addI 95
theorem okIn : CxOk (CIn Try.prog) := Cx.addI_ok (Cx.addI_ok okCq (f := 131) (by kernel_rfl)) (f := 95) (by kernel_rfl)
end Go.Proofs.Ytofblakbfmjgkaa


namespace Go.Proofs.Ytofblakbfmjgkaa.Vx
open Go

theorem bne_refl_i (x : Int) : (x != x) = false := by simp
def tCellChecks (m : G6) (u v : V3) : Option Value :=
  guardF [m.mck != m.mck, m.detF != m.detF, m.mck != m.mck] (andO [m.dotF u v == m.dotF u v, m.dotE u v == m.dotE u v])
theorem tCellChecks_true (m : G6) (u v : V3) : tCellChecks m u v = some (.bool true) := by
  unfold tCellChecks
  rw [guardF_eq _ _ (by simp)]
  exact andO_eq _ (by simp)
/-- The first that holds answers true, the last one answers itself. -/
def orV : List Bool → Bool → Option Value
  | [], b => some (.bool b)
  | t :: ts, b => match t with
    | true => some (.bool true)
    | false => orV ts b
theorem orV_last : ∀ (ts : List Bool), orV ts true = some (.bool true)
  | [] => rfl
  | t :: ts => by cases t; exact orV_last ts; rfl
theorem orV_one : ∀ {ts : List Bool} (b : Bool), true ∈ ts → orV ts b = some (.bool true)
  | t :: ts, b, h => by
    cases t
    · exact orV_one (ts := ts) b (by simpa using h)
    · rfl
def sqTail (m : G6) (u v : V3) : Option Value := orV [!u.in1, !v.in1, !u.fewB, !v.fewB] (decide (W (m.dotF u v * m.dotF u v) ≤ W (m.dotF u u * m.dotF v v)))
def V3.addW (u v : V3) : V3 := ⟨W (u.x + v.x), W (u.y + v.y), W (u.z + v.z)⟩
def tCellSquares (m : G6) (u v : V3) : Option Value :=
  orB [m.dotE u u != 0, m.dotE v v != 0, m.dotE u v != 0, m.dotE v u != 0]
    (match m.dotE u v != 0 with
      | true => some (.bool (m.dotE u v == m.dotE v u))
      | false => some (.bool false))
    (guardF [m.dotF u v != m.dotF v u, decide (m.dotF u u ≤ 0) != u.eqB V3.zero, decide (m.dotF v v ≤ 0) != v.eqB V3.zero]
      (match (u.addW v).in1 with
        | true => guardF [m.dotE (u.addW v) (u.addW v) != 0, m.dotF (u.addW v) (u.addW v) != W (W (m.dotF u u + m.dotF v v) + W (2 * m.dotF u v))] (sqTail m u v)
        | false => sqTail m u v))
theorem orB_t {ts : List Bool} {a e : Option Value} (h : true ∈ ts) : orB ts a e = a := by
  induction ts with
  | nil => cases h
  | cons t ts ih => cases t; exact ih (by simpa using h); rfl
theorem orB_f {ts : List Bool} {a e : Option Value} (h : ∀ t ∈ ts, t = false) : orB ts a e = e := by
  induction ts with
  | nil => rfl
  | cons t ts ih =>
    have := h t (by simp)
    subst this
    exact ih fun t ht => h t (by simp [ht])
theorem V3.few_iff {v : V3} : v.fewB = true ↔ v.Bd 40 := by
  unfold V3.fewB V3.l V3.Bd
  rw [inB_iff]
  simp only [List.mem_cons, List.not_mem_nil, or_false, forall_eq_or_imp, forall_eq]
theorem dotE_of {m : G6} {u v : V3} (h : m.mck = 0) (hu : u.in1 = true) (hv : v.in1 = true) : m.dotE u v = 0 ∧ m.dotF u v = m.dot u v := by
  have e : m.dotE u v = 0 := leastN3_zero.2 ⟨h, by unfold V3.ckv; rw [hu]; rfl, by unfold V3.ckv; rw [hv]; rfl⟩
  exact ⟨e, by unfold G6.dotF; rw [e]; rfl⟩
theorem dotE_comm (m : G6) (u v : V3) : m.dotE u v = m.dotE v u := by
  unfold G6.dotE
  rcases m.mck_cases with h | h | h <;> rcases u.ckv_cases with ⟨a, _⟩ | ⟨a, _⟩ <;> rcases v.ckv_cases with ⟨c, _⟩ | ⟨c, _⟩ <;> rw [h, a, c] <;> rfl
theorem V3.in1_add {u v : V3} (hu : u.in1 = true) (hv : v.in1 = true) : u.addW v = u.add v := by
  obtain ⟨a, b, c⟩ := V3.in1_iff.1 hu
  obtain ⟨x, y, z⟩ := V3.in1_iff.1 hv
  unfold V3.addW V3.add
  rw [W_in (by omega), W_in (by omega), W_in (by omega)]
theorem sqTail_true {m : G6} (u v : V3) (h : m.mck = 0) : sqTail m u v = some (.bool true) := by
  unfold sqTail
  obtain ⟨hb, hp, _⟩ := G6.mck_zero h
  cases hu : u.in1 with
  | false => exact orV_one _ (by simp)
  | true =>
    cases hv : v.in1 with
    | false => exact orV_one _ (by simp)
    | true =>
      cases fu : u.fewB with
      | false => exact orV_one _ (by simp)
      | true =>
        cases fv : v.fewB with
        | false => exact orV_one _ (by simp)
        | true =>
          rw [(dotE_of h hu hv).2, (dotE_of h hu hu).2, (dotE_of h hv hv).2]
          have b1 := dot_bound hb (V3.few_iff.1 fu) (V3.few_iff.1 fv)
          have b2 := dot_bound hb (V3.few_iff.1 fu) (V3.few_iff.1 fu)
          have b3 := dot_bound hb (V3.few_iff.1 fv) (V3.few_iff.1 fv)
          have c1 := bd_mul b1 b1
          have c2 := bd_mul b2 b3
          rw [W_in (by omega), W_in (by omega), show decide (m.dot u v * m.dot u v ≤ m.dot u u * m.dot v v) = true from decide_eq_true (hp.cs u v)]
          exact orV_last _
theorem pos_zero {m : G6} (h : m.Pos) (u : V3) : decide (m.dot u u ≤ 0) = u.eqB V3.zero := by
  by_cases hu : u = V3.zero
  · rw [hu, V3.eqB_refl, dot_zero]; rfl
  · rw [V3.eqB_false.2 hu]
    have := h u hu
    simp; omega
theorem bne_self_b (b : Bool) : (b != b) = false := by cases b <;> rfl
theorem tCellSquares_true (m : G6) (u v : V3) : tCellSquares m u v = some (.bool true) := by
  unfold tCellSquares
  by_cases h : m.mck = 0 ∧ u.in1 = true ∧ v.in1 = true
  · obtain ⟨h, hu, hv⟩ := h
    obtain ⟨hb, hp, _⟩ := G6.mck_zero h
    obtain ⟨e1, f1⟩ := dotE_of h hu hu
    obtain ⟨e2, f2⟩ := dotE_of h hv hv
    obtain ⟨e3, f3⟩ := dotE_of h hu hv
    obtain ⟨e4, f4⟩ := dotE_of h hv hu
    rw [orB_f (by simp [e1, e2, e3, e4]), sqTail_true u v h, f1, f2, f3, f4, guardF_eq _ _ (by
      simp only [List.mem_cons, List.not_mem_nil, or_false, forall_eq_or_imp, forall_eq, pos_zero hp, bne_self_b, and_true]
      rw [dot_comm]; simp), V3.in1_add hu hv]
    cases hs : (u.add v).in1 with
    | false => rfl
    | true =>
      obtain ⟨e5, f5⟩ := dotE_of h hs hs
      have b1 := dot_bound hb (V3.in1_iff.1 hu) (V3.in1_iff.1 hv)
      have b2 := dot_bound hb (V3.in1_iff.1 hu) (V3.in1_iff.1 hu)
      have b3 := dot_bound hb (V3.in1_iff.1 hv) (V3.in1_iff.1 hv)
      refine guardF_eq _ _ ?_
      simp only [List.mem_cons, List.not_mem_nil, or_false, forall_eq_or_imp, forall_eq, e5, f5]
      rw [W_in (n := m.dot u u + m.dot v v) (by omega), W_in (n := 2 * m.dot u v) (by omega), W_in (by omega), dot_addadd]
      simp
  · have k : m.dotE u v ≠ 0 := fun e => by
      obtain ⟨a, b, c⟩ := dotE_zero e
      exact h ⟨a, V3.in1_iff.2 b, V3.in1_iff.2 c⟩
    rw [orB_t (by simp [k]), (bif_beq k).2, ← dotE_comm]
    simp
end Go.Proofs.Ytofblakbfmjgkaa.Vx


namespace Go.Proofs.Ytofblakbfmjgkaa.Vx
open Go
def tCellSpacings (m : G6) (h : V3) : Option Value := andO [(m.spF h).eqB (m.spF h), m.spE h == m.spE h]
theorem tCellSpacings_true (m : G6) (h : V3) : tCellSpacings m h = some (.bool true) := andO_eq _ (by simp [Q2.eqB_refl])
abbrev Wf (l : List Int) : Prop := ∀ x ∈ l, (Lit.int .i64 x).wf = true
theorem wf_den {q : Q2} (h : Wf [q.num, q.den]) : max1 q = true := by
  have := wf_bounds (h q.den (by simp))
  unfold max1
  exact decide_eq_true (by omega)
def tCellCompares (a b : Q2) : Option Value := onO (rngQ a b) (andO [a.cmpF b == a.cmpF b, a.cmpE b == a.cmpE b])
theorem tCellCompares_true (a b : Q2) (ha : Wf [a.num, a.den]) (hb : Wf [b.num, b.den]) : tCellCompares a b = some (.bool true) := by
  unfold tCellCompares rngQ
  rw [wf_den ha, wf_den hb]
  exact andO_eq _ (by simp)

/-! Compare is total -/
theorem mag_U {n : Int} (h : (Lit.int .i64 n).wf = true) : U (mag n) = mag n := by
  have := wf_bounds h
  refine U_in ⟨mag_nn n, ?_⟩
  unfold mag; split <;> omega
theorem cmp_true {p q : Q2} (hp : Wf [p.num, p.den]) (hq : Wf [q.num, q.den]) (h1 : 0 < p.den) (h2 : 0 < q.den) : p.cmp q = cmpI (p.num * q.den) (q.num * p.den) := by
  have ep : mag p.den = p.den := by unfold mag; rw [if_neg (by omega)]
  have eq : mag q.den = q.den := by unfold mag; rw [if_neg (by omega)]
  unfold Q2.cmp
  rw [mag_U (hp p.num (by simp)), mag_U (hq q.den (by simp)), mag_U (hq q.num (by simp)), mag_U (hp p.den (by simp)), ep, eq]
  have cp := cmpI_cases p.num 0
  have cq := cmpI_cases q.num 0
  unfold sgnI
  have key : ∀ x y : Int, cmpI x y = 1 ↔ y < x := fun x y => by have := cmpI_cases x y; omega
  have key0 : ∀ x y : Int, cmpI x y = 0 ↔ x = y := fun x y => by have := cmpI_cases x y; omega
  have key2 : ∀ x y : Int, cmpI x y = -1 ↔ x < y := fun x y => by have := cmpI_cases x y; omega
  have mneg : ∀ {a b : Int}, a < 0 → 0 < b → a * b < 0 := fun ha hb => Int.mul_neg_of_neg_of_pos ha hb
  rcases cp with ⟨p1, p2⟩ | ⟨p1, p2⟩ | ⟨p1, p2⟩ <;> rcases cq with ⟨q1, q2⟩ | ⟨q1, q2⟩ | ⟨q1, q2⟩ <;> rw [p2, q2]
  · have e1 : mag p.num = -p.num := by unfold mag; rw [if_pos p1]
    have e2 : mag q.num = -q.num := by unfold mag; rw [if_pos q1]
    rw [e1, e2, decide_eq_true p1, Int.neg_mul, Int.neg_mul]
    show W (0 - cmpI (-(p.num * q.den)) (-(q.num * p.den))) = _
    generalize p.num * q.den = X
    generalize q.num * p.den = Y
    have a := cmpI_cases (-X) (-Y)
    have b := cmpI_cases X Y
    rw [W_in (by omega)]
    omega
  · have := mneg p1 h2
    rw [q1, Int.zero_mul]
    exact ((key2 _ _).2 this).symm
  · have := mneg p1 h2
    have := Int.mul_pos q1 h1
    exact ((key2 _ _).2 (by omega)).symm
  · have := mneg q1 h1
    rw [p1, Int.zero_mul]
    exact ((key _ _).2 this).symm
  · rw [p1, q1]
    simp only [Int.zero_mul, show mag 0 = 0 from rfl]
    rfl
  · have := Int.mul_pos q1 h1
    rw [p1, Int.zero_mul]
    exact ((key2 _ _).2 this).symm
  · have := mneg q1 h1
    have := Int.mul_pos p1 h2
    exact ((key _ _).2 (by omega)).symm
  · have := Int.mul_pos p1 h2
    rw [q1, Int.zero_mul]
    exact ((key _ _).2 this).symm
  · have e1 : mag p.num = p.num := by unfold mag; rw [if_neg (by omega)]
    have e2 : mag q.num = q.num := by unfold mag; rw [if_neg (by omega)]
    rw [e1, e2, decide_eq_false (show ¬ p.num < 0 by omega)]
    rfl
theorem form_iff {q : Q2} (hq : Wf [q.num, q.den]) : q.form = true ↔ 0 < q.den ∧ Nat.gcd q.num.natAbs q.den.natAbs = 1 := by
  unfold Q2.form
  rw [mag_U (hq q.num (by simp)), mag_U (hq q.den (by simp)), Bool.and_eq_true, decide_eq_true_eq, beq_iff_eq, mag_nat, mag_nat]
  unfold gcdI
  simp only [Int.toNat_natCast]
  omega
theorem lowest_eq {p q : Q2} (hp : Wf [p.num, p.den]) (hq : Wf [q.num, q.den]) (fp : p.form = true) (fq : q.form = true) (h : p.num * q.den = q.num * p.den) : p = q := by
  obtain ⟨p0, p1⟩ := (form_iff hp).1 fp
  obtain ⟨q0, q1⟩ := (form_iff hq).1 fq
  have hn : p.num.natAbs * q.den.natAbs = q.num.natAbs * p.den.natAbs := by rw [← Int.natAbs_mul, ← Int.natAbs_mul, h]
  have d1 : p.den.natAbs ∣ q.den.natAbs := by
    have : p.den.natAbs ∣ p.num.natAbs * q.den.natAbs := ⟨q.num.natAbs, by rw [hn, Nat.mul_comm]⟩
    exact (Nat.Coprime.symm p1).dvd_of_dvd_mul_left this
  have d2 : q.den.natAbs ∣ p.den.natAbs := by
    have : q.den.natAbs ∣ q.num.natAbs * p.den.natAbs := ⟨p.num.natAbs, by rw [← hn, Nat.mul_comm]⟩
    exact (Nat.Coprime.symm q1).dvd_of_dvd_mul_left this
  have ed := Nat.dvd_antisymm d1 d2
  have ed : p.den = q.den := by omega
  refine Q2.ext' ⟨?_, ed⟩
  rw [ed] at h
  exact Int.eq_of_mul_eq_mul_right (by omega) h
def nand3 (x y z : Bool) (k : Bool → Option Value) : Option Value := match x with
  | true => match y with
    | true => k (!z)
    | false => k true
  | false => k true
theorem nand3_true {x y z : Bool} {k : Bool → Option Value} (h : x = true → y = true → z = false) : nand3 x y z k = k true := by
  cases x with
  | false => rfl
  | true => cases y with
    | false => rfl
    | true => rw [h rfl rfl]; rfl
def tCellTotal (a b c : Q2) : Option Value :=
  guardF [a.cmpE b != b.cmpE a, a.cmpF b != W (0 - b.cmpF a)]
    (orB [a.cmpE b != 0, b.cmpE c != 0, a.cmpE c != 0] (some (.bool true))
      (match (a.cmpF b == 0) == a.eqB b with
        | true => nand3 (decide (a.cmpF b ≤ 0)) (decide (b.cmpF c ≤ 0)) (decide (a.cmpF c > 0)) (fun t => match t with
          | true => nand3 (decide (a.cmpF b < 0)) (decide (b.cmpF c ≤ 0)) (decide (a.cmpF c ≥ 0)) (fun t => some (.bool t))
          | false => some (.bool false))
        | false => some (.bool false)))
theorem cmpI_anti (x y : Int) : cmpI x y = -cmpI y x := by
  have a := cmpI_cases x y
  have b := cmpI_cases y x
  omega
theorem tCellTotal_true (a b c : Q2) (ha : Wf [a.num, a.den]) (hb : Wf [b.num, b.den]) (hc : Wf [c.num, c.den]) : tCellTotal a b c = some (.bool true) := by
  have sym : a.cmpE b = b.cmpE a := by unfold Q2.cmpE; rw [Bool.and_comm]
  have anti : a.cmpF b = W (0 - b.cmpF a) := by
    unfold Q2.cmpF
    rw [Bool.and_comm b.form]
    cases h : a.form && b.form with
    | false => rfl
    | true =>
      rw [Bool.and_eq_true] at h
      obtain ⟨a0, _⟩ := (form_iff ha).1 h.1
      obtain ⟨b0, _⟩ := (form_iff hb).1 h.2
      show a.cmp b = W (0 - b.cmp a)
      rw [cmp_true ha hb a0 b0, cmp_true hb ha b0 a0]
      have := cmpI_anti (a.num * b.den) (b.num * a.den)
      have := cmpI_cases (b.num * a.den) (a.num * b.den)
      rw [W_in (by omega)]
      omega
  unfold tCellTotal
  rw [guardF_eq _ _ (by
    simp only [List.mem_cons, List.not_mem_nil, or_false, forall_eq_or_imp, forall_eq]
    exact ⟨by rw [sym]; simp, by rw [← anti]; simp⟩)]
  cases fa : a.form with
  | false => exact orB_t (by simp [Q2.cmpE, fa])
  | true =>
    cases fb : b.form with
    | false => exact orB_t (by simp [Q2.cmpE, fb])
    | true =>
      cases fc : c.form with
      | false => exact orB_t (by simp [Q2.cmpE, fc])
      | true =>
        obtain ⟨a0, _⟩ := (form_iff ha).1 fa
        obtain ⟨b0, _⟩ := (form_iff hb).1 fb
        obtain ⟨c0, _⟩ := (form_iff hc).1 fc
        rw [orB_f (by simp [Q2.cmpE, fa, fb, fc])]
        have e1 : a.cmpF b = cmpI (a.num * b.den) (b.num * a.den) := by unfold Q2.cmpF; rw [fa, fb]; exact cmp_true ha hb a0 b0
        have e2 : b.cmpF c = cmpI (b.num * c.den) (c.num * b.den) := by unfold Q2.cmpF; rw [fb, fc]; exact cmp_true hb hc b0 c0
        have e3 : a.cmpF c = cmpI (a.num * c.den) (c.num * a.den) := by unfold Q2.cmpF; rw [fa, fc]; exact cmp_true ha hc a0 c0
        rw [e1, e2, e3]
        have c1 := cmpI_cases (a.num * b.den) (b.num * a.den)
        have c2 := cmpI_cases (b.num * c.den) (c.num * b.den)
        have c3 := cmpI_cases (a.num * c.den) (c.num * a.den)
        have eqk : ((cmpI (a.num * b.den) (b.num * a.den) == 0) == a.eqB b) = true := by
          by_cases h : a = b
          · subst h
            rw [Q2.eqB_refl, show cmpI (a.num * a.den) (a.num * a.den) = 0 by omega]; rfl
          · have : a.eqB b = false := by
              cases he : a.eqB b with
              | false => rfl
              | true => exact absurd (Q2.eqB_iff.1 he) h
            rw [this]
            have : a.num * b.den ≠ b.num * a.den := fun e => h (lowest_eq ha hb fa fb e)
            have : cmpI (a.num * b.den) (b.num * a.den) ≠ 0 := by omega
            rw [show (cmpI (a.num * b.den) (b.num * a.den) == 0) = false by simpa using this]; rfl
        rw [eqk]
        have m1 : (a.num * c.den) * b.den = (a.num * b.den) * c.den := by grind
        have m2 : (c.num * a.den) * b.den = (c.num * b.den) * a.den := by grind
        have m3 : (b.num * a.den) * c.den = (b.num * c.den) * a.den := by grind
        have le : ∀ {x y z : Int}, 0 < z → x ≤ y → x * z ≤ y * z := fun hz h => Int.mul_le_mul_of_nonneg_right h (Int.le_of_lt hz)
        have lt : ∀ {x y z : Int}, 0 < z → x < y → x * z < y * z := fun hz h => Int.mul_lt_mul_of_pos_right h hz
        rw [show (match true with
          | true => nand3 (decide (cmpI (a.num * b.den) (b.num * a.den) ≤ 0)) (decide (cmpI (b.num * c.den) (c.num * b.den) ≤ 0)) (decide (cmpI (a.num * c.den) (c.num * a.den) > 0)) (fun t => match t with
            | true => nand3 (decide (cmpI (a.num * b.den) (b.num * a.den) < 0)) (decide (cmpI (b.num * c.den) (c.num * b.den) ≤ 0)) (decide (cmpI (a.num * c.den) (c.num * a.den) ≥ 0)) (fun t => some (.bool t))
            | false => some (.bool false))
          | false => some (.bool false) : Option Value) = nand3 (decide (cmpI (a.num * b.den) (b.num * a.den) ≤ 0)) (decide (cmpI (b.num * c.den) (c.num * b.den) ≤ 0)) (decide (cmpI (a.num * c.den) (c.num * a.den) > 0)) (fun t => match t with
            | true => nand3 (decide (cmpI (a.num * b.den) (b.num * a.den) < 0)) (decide (cmpI (b.num * c.den) (c.num * b.den) ≤ 0)) (decide (cmpI (a.num * c.den) (c.num * a.den) ≥ 0)) (fun t => some (.bool t))
            | false => some (.bool false)) from rfl]
        rw [nand3_true, nand3_true]
        · intro h1 h2
          rw [decide_eq_true_eq] at h1 h2
          have k1 : a.num * b.den < b.num * a.den := by omega
          have k2 : b.num * c.den ≤ c.num * b.den := by omega
          have g1 := lt c0 k1
          have g2 := le a0 k2
          have : a.num * c.den < c.num * a.den := by
            rcases Int.lt_or_le (a.num * c.den) (c.num * a.den) with h | h
            · exact h
            · have := le b0 h; omega
          exact decide_eq_false (by omega)
        · intro h1 h2
          rw [decide_eq_true_eq] at h1 h2
          have k1 : a.num * b.den ≤ b.num * a.den := by omega
          have k2 : b.num * c.den ≤ c.num * b.den := by omega
          have g1 := le c0 k1
          have g2 := le a0 k2
          have : a.num * c.den ≤ c.num * a.den := by
            rcases Int.lt_or_le (c.num * a.den) (a.num * c.den) with h | h
            · have := lt b0 h; omega
            · exact h
          exact decide_eq_false (by omega)
end Go.Proofs.Ytofblakbfmjgkaa.Vx


namespace Go.Proofs.Ytofblakbfmjgkaa.Vx
open Go

theorem beq_refl_i (x : Int) : (x == x) = true := by simp
def tBasisChanges (a b : O3) : Option Value :=
  andO [(a.behF b).r.eqB (a.behF b).r, (a.behF b).t.eqB (a.behF b).t, a.behE b == a.behE b, a.bakF.r.eqB a.bakF.r, a.bakF.t.eqB a.bakF.t, a.bakE == a.bakE]
theorem tBasisChanges_true (a b : O3) : tBasisChanges a b = some (.bool true) := by
  apply andO_eq
  simp only [List.mem_cons, List.not_mem_nil, or_false, forall_eq_or_imp, forall_eq, M3.eqB_refl, V3.eqB_refl, beq_refl_i, and_self]
def tBasisThings (c : O3) (p : P3) (o : O3) (h : V3) : Option Value :=
  andO [(c.ptF p).eqB (c.ptF p), c.ptE p == c.ptE p, (c.opcF o).eqB (c.opcF o), c.opcE o == c.opcE o, (c.idxF h).eqB (c.idxF h), c.idxE h == c.idxE h]
theorem tBasisThings_true (c : O3) (p : P3) (o : O3) (h : V3) : tBasisThings c p o h = some (.bool true) := by
  apply andO_eq
  simp only [List.mem_cons, List.not_mem_nil, or_false, forall_eq_or_imp, forall_eq, P3.eqB_refl, O3.eqB_refl, V3.eqB_refl, beq_refl_i, and_self]
def G6.eqB (m n : G6) : Bool := (m.aa == n.aa) && ((m.bb == n.bb) && ((m.cc == n.cc) && ((m.bc == n.bc) && ((m.ac == n.ac) && ((m.ab == n.ab) && true)))))
theorem G6.eqB_refl (m : G6) : m.eqB m = true := by simp [G6.eqB]
def tBasisMetrics (c : O3) (m : G6) : Option Value := andO [(c.metF m).eqB (c.metF m), c.metE m == c.metE m]
theorem tBasisMetrics_true (c : O3) (m : G6) : tBasisMetrics c m = some (.bool true) := by
  apply andO_eq
  simp only [List.mem_cons, List.not_mem_nil, or_false, forall_eq_or_imp, forall_eq, G6.eqB_refl, beq_refl_i, and_self]

/-! Maps and places go along -/
def goesErr (c o : O3) (p : P3) : Option Value :=
  orB [o.appE p == 3, o.appE p == 4, c.opcE o == 3, c.opcE o == 4, c.ptE p == 3, c.ptE p == 4] (match o.appE p == 0 with
    | true => some (.bool true)
    | false => some (.bool ((o.appF p).eqB P3.zero))) (some (.bool false))
def tBasisGoes (c o : O3) (p : P3) : Option Value :=
  orB [o.appE p != 0, c.opcE o != 0, c.ptE p != 0] (goesErr c o p)
    (andO [(c.opcF o).appE (c.ptF p) == 0, c.ptE (o.appF p) == 0, ((c.opcF o).appF (c.ptF p)).eqB (c.ptF (o.appF p)), ((c.opcF o).appF (c.ptF p)).form])
theorem O3.appE_cases (o : O3) (p : P3) : o.appE p = 0 ∨ o.appE p = 3 ∨ o.appE p = 4 := by
  unfold O3.appE
  cases p.form
  · exact Or.inr (Or.inl rfl)
  · exact O3.ck_cases o
theorem O3.ptE_cases (c : O3) (p : P3) : c.ptE p = 0 ∨ c.ptE p = 3 ∨ c.ptE p = 4 := by
  unfold O3.ptE
  cases p.form
  · exact Or.inr (Or.inl rfl)
  · exact M3.form_cases c.r
theorem O3.smallE_cases (o : O3) : o.smallE = 0 ∨ o.smallE = 4 := by unfold O3.smallE; cases o.r.ok <;> simp
theorem O3.opcE_cases (c o : O3) : c.opcE o = 0 ∨ c.opcE o = 3 ∨ c.opcE o = 4 := by
  unfold O3.opcE
  have h1 := O3.smallE_cases (c.told o)
  rcases M3.form_cases c.r with h | h | h <;> rcases O3.ck_cases o with k | k | k <;> rw [h, k] <;> first | (right; left; rfl) | (right; right; rfl) | (rcases h1 with e | e <;> simp [leastN, e])
theorem O3.behE_cases (a b : O3) : a.behE b = 0 ∨ a.behE b = 3 ∨ a.behE b = 4 := by
  unfold O3.behE
  have h1 := O3.smallE_cases (a.mul b)
  rcases M3.form_cases a.r with h | h | h <;> rcases M3.form_cases b.r with k | k | k <;> rw [h, k] <;> first | (right; left; rfl) | (right; right; rfl) | (rcases h1 with e | e <;> simp [leastN, e])
theorem O3.appF_err {o : O3} {p : P3} (h : o.appE p ≠ 0) : o.appF p = P3.zero := by
  unfold O3.appF; rw [(bif_beq h).1]; rfl
theorem goesErr_true {c o : O3} {p : P3} (h : o.appE p ≠ 0 ∨ c.opcE o ≠ 0 ∨ c.ptE p ≠ 0) : goesErr c o p = some (.bool true) := by
  have e : (match o.appE p == 0 with
    | true => some (.bool true)
    | false => some (.bool ((o.appF p).eqB P3.zero)) : Option Value) = some (.bool true) := by
    by_cases h0 : o.appE p = 0
    · rw [h0]; rfl
    · rw [(bif_beq h0).1, O3.appF_err h0, P3.eqB_refl]
  unfold goesErr
  rw [e]
  rcases O3.appE_cases o p with h1 | h1 | h1 <;> rcases O3.opcE_cases c o with h2 | h2 | h2 <;> rcases O3.ptE_cases c p with h3 | h3 | h3 <;> rw [h1, h2, h3] <;> first | rfl | (exfalso; rw [h1, h2, h3] at h; simp at h)
theorem O3.ptE_zero {c : O3} {p : P3} (h : c.ptE p = 0) : p.form = true ∧ c.r.form = 0 ∧ c.ptF p = c.app p := by
  unfold O3.ptF
  rw [h]
  unfold O3.ptE at h
  cases hp : p.form with
  | false => rw [hp] at h; cases h
  | true => rw [hp] at h; exact ⟨rfl, h, rfl⟩
theorem O3.ptE_of {c : O3} {p : P3} (hp : p.form = true) (hc : c.r.form = 0) : c.ptE p = 0 ∧ c.ptF p = c.app p := by
  have e : c.ptE p = 0 := by unfold O3.ptE; rw [hp]; exact hc
  exact ⟨e, (O3.ptE_zero e).2.2⟩
theorem O3.appE_zero {o : O3} {p : P3} (h : o.appE p = 0) : p.form = true ∧ o.ck = 0 ∧ o.appF p = o.app p := by
  unfold O3.appF
  rw [h]
  unfold O3.appE at h
  cases hp : p.form with
  | false => rw [hp] at h; cases h
  | true => rw [hp] at h; exact ⟨rfl, h, rfl⟩
theorem O3.small_zero {o : O3} (h : o.smallE = 0) : o.r.ok = true ∧ o.small = o := by
  unfold O3.smallE at h
  unfold O3.small
  cases ho : o.r.ok with
  | false => rw [ho] at h; cases h
  | true => exact ⟨rfl, rfl⟩
theorem O3.opcE_zero {c o : O3} (h : c.opcE o = 0) : c.r.form = 0 ∧ o.ck = 0 ∧ (c.told o).r.ok = true ∧ c.opcF o = c.told o := by
  unfold O3.opcE at h
  unfold O3.opcF
  by_cases h0 : leastN c.r.form o.ck = 0
  · rw [h0] at h ⊢
    obtain ⟨a, b⟩ := leastN_zero.1 h0
    obtain ⟨x, y⟩ := O3.small_zero (o := c.told o) h
    exact ⟨a, b, x, y⟩
  · rw [(bif_beq h0).1] at h; exact absurd h h0
theorem O3.opcE_of {c o : O3} (hc : c.r.form = 0) (ho : o.ck = 0) (hk : (c.told o).r.ok = true) : c.opcE o = 0 ∧ c.opcF o = c.told o := by
  unfold O3.opcE O3.opcF O3.small O3.smallE
  rw [leastN_zero.2 ⟨hc, ho⟩, hk]
  exact ⟨rfl, rfl⟩
theorem O3.told_ck {c o : O3} (hc : c.r.form = 0) (ho : o.ck = 0) (hk : (c.told o).r.ok = true) : (c.told o).ck = 0 := by
  obtain ⟨c1, c2⟩ := M3.form_zero.1 hc
  obtain ⟨o1, o2, o3⟩ := O3.ck_zero.1 ho
  refine O3.ck_zero.2 ⟨V3.md_part _, hk, ?_⟩
  exact M3.U_mul (M3.U_mul c2 o3) (M3.U_inv c2)
theorem V3.cancel3 (u v w : V3) : (u.add (((v.add w).add u.neg).md 24)).md 24 = (v.add w).md 24 := by
  unfold V3.md V3.add V3.neg
  simp only [V3.mk.injEq]
  omega
theorem O3.told_mul {c o : O3} (hc : c.r.U) : (c.told o).mul c = c.mul o := by
  unfold O3.mul O3.told
  simp only
  refine O3.ext' ?_ ?_
  · simp only; rw [M3.mul_assoc, M3.inv_mul hc, M3.mul_one]
  · simp only; exact V3.cancel3 _ _ _
theorem tBasisGoes_true (c o : O3) (p : P3) : tBasisGoes c o p = some (.bool true) := by
  unfold tBasisGoes
  by_cases h1 : o.appE p = 0
  · by_cases h2 : c.opcE o = 0
    · by_cases h3 : c.ptE p = 0
      · rw [h1, h2, h3]
        obtain ⟨hp, ho, e1⟩ := O3.appE_zero h1
        obtain ⟨hc, _, hk, e2⟩ := O3.opcE_zero h2
        obtain ⟨_, _, e3⟩ := O3.ptE_zero h3
        have hq : (c.app p).form = true := O3.app_form hp
        have hr : (o.app p).form = true := O3.app_form hp
        obtain ⟨x1, x2⟩ := O3.appF_of (O3.told_ck hc ho hk) hq
        obtain ⟨y1, y2⟩ := O3.ptE_of hr hc
        rw [e1, e2, e3, x1, x2, y1, y2]
        have e : (c.told o).app (c.app p) = c.app (o.app p) := by
          rw [← O3.app_mul _ _ hp, ← O3.app_mul _ _ hp, O3.told_mul (M3.form_zero.1 hc).2]
        show andO [true, true, _, _] = _
        rw [e, P3.eqB_refl, O3.app_form hr]
        rfl
      · rw [goesErr_true (Or.inr (Or.inr h3)), h1, h2, (bif_beq h3).2]; rfl
    · rw [goesErr_true (Or.inr (Or.inl h2)), h1, (bif_beq h2).2]; rfl
  · rw [goesErr_true (Or.inl h1), (bif_beq h1).2]; rfl

/-! Back again -/
def bk1 (a : O3) (K : Option Value) : Option Value := guardF [a.behE a.bakF != 0, !((a.behF a.bakF).r.eqB M3.one), !((a.behF a.bakF).t.eqB V3.zero)] K
def bk2 (a : O3) (p : P3) (K : Option Value) : Option Value := match a.ptE p == 0 with
  | true => guardF [a.bakF.ptE (a.ptF p) != 0, !((a.bakF.ptF (a.ptF p)).eqB p)] K
  | false => K
def bk3 (a o : O3) (K : Option Value) : Option Value := match a.opcE o == 0 with
  | true => guardF [a.bakF.opcE (a.opcF o) != 0, !((a.bakF.opcF (a.opcF o)).eqB o)] K
  | false => K
def bk4 (a b : O3) (p : P3) : Option Value := match a.behE b != 0 with
  | true => match a.behE b == 3 with
    | true => some (.bool true)
    | false => some (.bool (a.behE b == 4))
  | false => match b.ptE p != 0 with
    | true => match b.ptE p == 3 with
      | true => some (.bool ((a.behF b).ptE p == 3))
      | false => some (.bool false)
    | false => andO [a.ptE (b.ptF p) == 0, (a.behF b).ptE p == 0, (a.ptF (b.ptF p)).eqB ((a.behF b).ptF p)]
def tBasisBack (a b : O3) (p : P3) (o : O3) : Option Value := match a.bakE == 0 with
  | true => bk1 a (bk2 a p (bk3 a o (bk4 a b p)))
  | false => bk4 a b p
theorem O3.bakE_zero {c : O3} (h : c.bakE = 0) : c.r.form = 0 ∧ c.r.inv.ok = true ∧ c.bakF = c.inv ∧ c.inv.r.form = 0 := by
  unfold O3.bakE at h
  unfold O3.bakF
  by_cases h0 : c.r.form = 0
  · rw [h0] at h ⊢
    obtain ⟨x, y⟩ := O3.small_zero (o := c.inv) h
    exact ⟨rfl, x, y, M3.form_zero.2 ⟨x, M3.U_inv (M3.form_zero.1 h0).2⟩⟩
  · rw [(bif_beq h0).1] at h; exact absurd h h0
theorem O3.behE_of {a b : O3} (ha : a.r.form = 0) (hb : b.r.form = 0) (hk : (a.mul b).r.ok = true) : a.behE b = 0 ∧ a.behF b = a.mul b := by
  unfold O3.behE O3.behF O3.small O3.smallE
  rw [leastN_zero.2 ⟨ha, hb⟩, hk]
  exact ⟨rfl, rfl⟩
theorem O3.behE_zero {a b : O3} (h : a.behE b = 0) : a.r.form = 0 ∧ b.r.form = 0 ∧ (a.mul b).r.ok = true ∧ a.behF b = a.mul b := by
  unfold O3.behE at h
  unfold O3.behF
  by_cases h0 : leastN a.r.form b.r.form = 0
  · rw [h0] at h ⊢
    obtain ⟨x, y⟩ := leastN_zero.1 h0
    obtain ⟨u, v⟩ := O3.small_zero (o := a.mul b) h
    exact ⟨x, y, u, v⟩
  · rw [(bif_beq h0).1] at h; exact absurd h h0
theorem bk1_true {a : O3} (h : a.bakE = 0) (K : Option Value) : bk1 a K = K := by
  obtain ⟨h1, h2, h3, h4⟩ := O3.bakE_zero h
  have hu := (M3.form_zero.1 h1).2
  obtain ⟨e1, e2⟩ := O3.behE_of h1 h4 (by rw [O3.mul_inv hu]; decide)
  unfold bk1
  rw [h3, e1, e2, O3.mul_inv hu]
  rfl
theorem P3.form_md {p : P3} (h : p.form = true) : p.x.md p.m = p.x := by
  unfold P3.form at h
  rw [Bool.and_eq_true] at h
  exact (V3.eqB_iff.1 h.2).symm
theorem O3.one_app {p : P3} (h : p.form = true) : O3.one.app p = p := by
  have e : O3.one.app p = ⟨p.m, p.x.md p.m⟩ := by
    unfold O3.app O3.one
    simp only [M3.app_one]
    congr 2
    unfold V3.smul V3.zero V3.add
    simp
  rw [e, P3.form_md h]
theorem bk2_true {a : O3} (h : a.bakE = 0) (p : P3) (K : Option Value) : bk2 a p K = K := by
  obtain ⟨h1, h2, h3, h4⟩ := O3.bakE_zero h
  have hu := (M3.form_zero.1 h1).2
  unfold bk2
  by_cases hp : a.ptE p = 0
  · obtain ⟨p1, p2, p3⟩ := O3.ptE_zero hp
    obtain ⟨q1, q2⟩ := O3.ptE_of (c := a.inv) (p := a.app p) (O3.app_form p1) h4
    rw [hp, h3, p3, q1, q2, ← O3.app_mul _ _ p1, O3.inv_mul hu, O3.one_app p1, P3.eqB_refl]
    rfl
  · rw [(bif_beq hp).1]
theorem O3.mul_md_t (a : O3) (r : M3) (t : V3) : a.mul ⟨r, t.md 24⟩ = a.mul ⟨r, t⟩ := by
  unfold O3.mul; simp only; rw [md_app_add]
theorem O3.told_eq {c o : O3} (hc : c.r.U) : c.told o = (c.mul o).mul c.inv := by
  rw [← O3.told_mul hc, O3.mul_assoc, O3.mul_inv hc, O3.mul_one]
  exact V3.md_part _
theorem told_back {a o : O3} (hu : a.r.U) (ho : o.t.part = true) : a.inv.told (a.told o) = o := by
  have e1 : ∀ x : O3, x.mul (a.inv.mul a.inv.inv) = x.mul O3.one := fun x => by rw [O3.mul_inv (M3.U_inv hu)]
  have pa : (O3.mk a.r (a.t.md 24)).t.part = true := V3.md_part _
  rw [O3.told_eq (M3.U_inv hu), O3.told_eq hu, ← O3.mul_assoc, ← O3.mul_assoc, O3.inv_mul hu, O3.one_mul ho, O3.mul_assoc, e1, O3.mul_one ho]
theorem bk3_true {a : O3} (h : a.bakE = 0) (o : O3) (K : Option Value) : bk3 a o K = K := by
  obtain ⟨h1, h2, h3, h4⟩ := O3.bakE_zero h
  have hu := (M3.form_zero.1 h1).2
  unfold bk3
  by_cases hp : a.opcE o = 0
  · obtain ⟨p1, p2, p3, p4⟩ := O3.opcE_zero hp
    obtain ⟨o1, o2, o3⟩ := O3.ck_zero.1 p2
    have e := told_back (a := a) (o := o) hu o1
    obtain ⟨q1, q2⟩ := O3.opcE_of (c := a.inv) (o := a.told o) h4 (O3.told_ck p1 p2 p3) (by rw [e]; exact o2)
    rw [hp, h3, p4, q1, q2, e, O3.eqB_refl]
    rfl
  · rw [(bif_beq hp).1]
theorem bk4_true (a b : O3) (p : P3) : bk4 a b p = some (.bool true) := by
  unfold bk4
  by_cases h : a.behE b = 0
  · obtain ⟨ha, hb, hk, e⟩ := O3.behE_zero h
    have hn : (a.mul b).r.form = 0 := M3.form_zero.2 ⟨hk, M3.U_mul (M3.form_zero.1 ha).2 (M3.form_zero.1 hb).2⟩
    rw [h, e]
    simp only [bne_self_eq_false]
    cases hp : p.form with
    | false =>
      have k1 : b.ptE p = 3 := by unfold O3.ptE; rw [hp]; rfl
      have k2 : (a.mul b).ptE p = 3 := by unfold O3.ptE; rw [hp]; rfl
      rw [k1, k2]; rfl
    | true =>
      obtain ⟨q1, q2⟩ := O3.ptE_of hp hb
      obtain ⟨r1, r2⟩ := O3.ptE_of (c := a) (p := b.app p) (O3.app_form hp) ha
      obtain ⟨s1, s2⟩ := O3.ptE_of hp hn
      rw [q1, q2, r1, r2, s1, s2, O3.app_mul _ _ hp, P3.eqB_refl]
      rfl
  · rw [(bif_beq h).2]
    rcases O3.behE_cases a b with h1 | h1 | h1
    · exact absurd h1 h
    · rw [h1]; rfl
    · rw [h1]; rfl
theorem tBasisBack_true (a b : O3) (p : P3) (o : O3) : tBasisBack a b p o = some (.bool true) := by
  unfold tBasisBack
  by_cases h : a.bakE = 0
  · rw [bk1_true h, bk2_true h, bk3_true h, bk4_true, h]; rfl
  · rw [(bif_beq h).1]; exact bk4_true a b p

/-! Phases -/
def ph0 (m t : Int) : Int := W (Int.tmod (W (Int.tmod t 24 + 24)) 24 * W (Int.tdiv m 24))
def ph1 (m k x t : Int) : Int := W (Int.tmod k m * W (x - ph0 m t))
def nz (m : Int) (K : Option Value) : Option Value := match m == 0 with
  | true => none
  | false => K
def phBefore (h : V3) (p : P3) : Int := W (W (W (0 + W (h.x * p.x.x)) + W (h.y * p.x.y)) + W (h.z * p.x.z))
def phAfter (c : O3) (k : V3) (p q : P3) : Int := W (W (W (0 + ph1 p.m k.x q.x.x c.t.x) + ph1 p.m k.y q.x.y c.t.y) + ph1 p.m k.z q.x.z c.t.z)
def tBasisPhases (c : O3) (h : V3) (p : P3) : Option Value :=
  orB [c.idxE h != 0, c.ptE p != 0] (some (.bool true)) (nz p.m (nz p.m (nz p.m (match (c.ptF p).m == p.m with
    | true => nz p.m (some (.bool (Int.tmod (W (phBefore h p - phAfter c (c.idxF h) p (c.ptF p))) p.m == 0)))
    | false => some (.bool false)))))
theorem ph0_eq (t : Int) {m : Int} (hm : m = 24 ∨ m = 48 ∨ m = 96 ∨ m = 192) : ph0 m t = m / 24 * (t % 24) := by
  have e : Int.tmod (W (Int.tmod t 24 + 24)) 24 = t % 24 := by
    have h1 := tmod_bd t 24 (by omega)
    have h2 := Int.tmod_add_mul_tdiv t 24
    rw [W_in (by omega), Int.tmod_eq_emod_of_nonneg (by omega)]
    omega
  unfold ph0
  rw [e]
  exact pt1_eq t hm
/-- Numbers alike modulo m. -/
def Ali (m a b : Int) : Prop := m ∣ a - b
theorem Ali.add {m a b c d : Int} (h : Ali m a b) (h' : Ali m c d) : Ali m (a + c) (b + d) := by
  unfold Ali at *
  have := Int.dvd_add h h'
  rwa [show a + c - (b + d) = a - b + (c - d) by omega]
theorem Ali.mul {m a b c d : Int} (h : Ali m a b) (h' : Ali m c d) : Ali m (a * c) (b * d) := by
  unfold Ali at *
  rw [show a * c - b * d = (a - b) * c + b * (c - d) by grind]
  exact Int.dvd_add (Int.dvd_mul_of_dvd_left h) (Int.dvd_mul_of_dvd_right h')
theorem ali_emod (m a : Int) : Ali m (a % m) a := by
  unfold Ali
  have := Int.emod_add_mul_ediv a m
  exact ⟨-(a / m), by rw [Int.mul_neg]; omega⟩
theorem ali_tmod (m a : Int) : Ali m (Int.tmod a m) a := by
  unfold Ali
  have := Int.tmod_add_mul_tdiv a m
  exact ⟨-(Int.tdiv a m), by rw [Int.mul_neg]; omega⟩
theorem ph_small {m k x t : Int} (hm : m = 24 ∨ m = 48 ∨ m = 96 ∨ m = 192) (hx : 0 ≤ x ∧ x < m) :
    ph1 m k x t = Int.tmod k m * (x - m / 24 * (t % 24)) ∧ (-36864 ≤ ph1 m k x t ∧ ph1 m k x t ≤ 36864) := by
  unfold ph1
  rw [ph0_eq t hm]
  have ht : 0 ≤ m / 24 * (t % 24) ∧ m / 24 * (t % 24) ≤ 184 := by
    rcases hm with rfl | rfl | rfl | rfl
    · rw [show (24 : Int) / 24 = 1 from rfl]; omega
    · rw [show (48 : Int) / 24 = 2 from rfl]; omega
    · rw [show (96 : Int) / 24 = 4 from rfl]; omega
    · rw [show (192 : Int) / 24 = 8 from rfl]; omega
  have hk := tmod_bd k m (by omega)
  rw [W_in (n := x - m / 24 * (t % 24)) (by omega)]
  have hb := bd_mul (m := 192) (n := 192) (x := Int.tmod k m) (y := x - m / 24 * (t % 24)) (by omega) (by omega)
  rw [W_in (by omega)]
  exact ⟨rfl, by omega⟩
theorem left_app (h : V3) (q p : M3) (x : V3) (e : q.mul p = M3.one) :
    (M3.left h q).x * (p.app x).x + (M3.left h q).y * (p.app x).y + (M3.left h q).z * (p.app x).z = h.x * x.x + h.y * x.y + h.z * x.z := by
  have k : ∀ u : V3, (M3.left h q).x * u.x + (M3.left h q).y * u.y + (M3.left h q).z * u.z = h.x * (q.app u).x + h.y * (q.app u).y + h.z * (q.app u).z := fun u => by
    simp only [M3.left, M3.app]; grind
  rw [k, ← M3.app_mul, e, M3.app_one]
theorem ali_part {m k x t : Int} (hm : m = 24 ∨ m = 48 ∨ m = 96 ∨ m = 192) {y : Int} (hx : x = (y + m / 24 * t) % m) : Ali m (Int.tmod k m * (x - m / 24 * (t % 24))) (k * y) := by
  refine Ali.mul (ali_tmod m k) ?_
  subst hx
  unfold Ali
  have h1 := ali_emod m (y + m / 24 * t)
  unfold Ali at h1
  have h2 : m ∣ m / 24 * t - m / 24 * (t % 24) := by
    refine ⟨t / 24, ?_⟩
    rcases hm with rfl | rfl | rfl | rfl
    · rw [show (24 : Int) / 24 = 1 from rfl]; omega
    · rw [show (48 : Int) / 24 = 2 from rfl]; omega
    · rw [show (96 : Int) / 24 = 4 from rfl]; omega
    · rw [show (192 : Int) / 24 = 8 from rfl]; omega
  have := Int.dvd_add h1 h2
  rwa [show (y + m / 24 * t) % m - (y + m / 24 * t) + (m / 24 * t - m / 24 * (t % 24)) = (y + m / 24 * t) % m - m / 24 * (t % 24) - y by omega] at this
theorem tBasisPhases_true (c : O3) (h : V3) (p : P3) : tBasisPhases c h p = some (.bool true) := by
  unfold tBasisPhases
  by_cases h1 : c.idxE h = 0
  · by_cases h2 : c.ptE p = 0
    · obtain ⟨hp, hc, e⟩ := O3.ptE_zero h2
      have hi : h.idx = true := by
        unfold O3.idxE at h1
        cases hi : h.idx with
        | true => rfl
        | false => rw [hi] at h1; cases h1
      have ek : c.idxF h = M3.left h c.r.inv := by unfold O3.idxF; rw [h1]; rfl
      obtain ⟨hm, x1, x2, x3⟩ := P3.form_spec hp
      obtain ⟨_, y1, y2, y3⟩ := P3.form_spec (O3.app_form (o := c) hp)
      have hm0 : (p.m == 0) = false := by simp; omega
      have hu := (M3.form_zero.1 hc).2
      rw [h1, h2, e, ek]
      unfold nz
      rw [hm0]
      have hq : (c.app p).m = p.m := rfl
      rw [hq] at y1 y2 y3
      rw [hq]
      simp only [orB, bne_self_eq_false, beq_self_eq_true]
      congr 2
      obtain ⟨b1, b2, b3⟩ := V3.idx_iff.1 hi
      have d1 := bd_mul (n := 192) b1 (y := p.x.x) (by omega)
      have d2 := bd_mul (n := 192) b2 (y := p.x.y) (by omega)
      have d3 := bd_mul (n := 192) b3 (y := p.x.z) (by omega)
      have eb : phBefore h p = h.x * p.x.x + h.y * p.x.y + h.z * p.x.z := by
        unfold phBefore
        simp only [Int.zero_add, W_W, W_addl, W_addr]
        exact W_in (by omega)
      obtain ⟨p1, q1⟩ := ph_small (k := (M3.left h c.r.inv).x) (t := c.t.x) hm y1
      obtain ⟨p2, q2⟩ := ph_small (k := (M3.left h c.r.inv).y) (t := c.t.y) hm y2
      obtain ⟨p3, q3⟩ := ph_small (k := (M3.left h c.r.inv).z) (t := c.t.z) hm y3
      have ea : phAfter c (M3.left h c.r.inv) p (c.app p) = ph1 p.m (M3.left h c.r.inv).x (c.app p).x.x c.t.x + ph1 p.m (M3.left h c.r.inv).y (c.app p).x.y c.t.y + ph1 p.m (M3.left h c.r.inv).z (c.app p).x.z c.t.z := by
        unfold phAfter
        rw [W_in (n := 0 + _) (by omega), W_in (n := 0 + _ + _) (by omega), W_in (by omega)]
        omega
      rw [eb, W_in (by omega), ea, p1, p2, p3]
      have k1 : (c.app p).x.x = ((c.r.app p.x).x + p.m / 24 * c.t.x) % p.m := rfl
      have k2 : (c.app p).x.y = ((c.r.app p.x).y + p.m / 24 * c.t.y) % p.m := rfl
      have k3 : (c.app p).x.z = ((c.r.app p.x).z + p.m / 24 * c.t.z) % p.m := rfl
      have key := ((ali_part (k := (M3.left h c.r.inv).x) hm k1).add (ali_part (k := (M3.left h c.r.inv).y) hm k2)).add (ali_part (k := (M3.left h c.r.inv).z) hm k3)
      rw [left_app h c.r.inv c.r p.x (M3.inv_mul hu)] at key
      unfold Ali at key
      rw [beq_iff_eq]
      have := Int.tmod_eq_zero_of_dvd key
      rw [← Int.neg_sub, Int.neg_tmod, this]
      rfl
    · rw [h1, (bif_beq h2).2]; rfl
  · rw [(bif_beq h1).2]; rfl
end Go.Proofs.Ytofblakbfmjgkaa.Vx


namespace Go.Proofs.Ytofblakbfmjgkaa.Vx
open Go
def tOne3 : Option Value := some M3.one.v
def fOne3 : Value := M3.one.v
theorem tOne3_eq : tOne3 = some fOne3 := rfl
def e1v : V3 := ⟨1, 0, 0⟩
def e2v : V3 := ⟨0, 1, 0⟩
def e3v : V3 := ⟨0, 0, 1⟩
def e4v : V3 := ⟨-1, -1, -1⟩
def p3v (a b c : Value) : Value := .tuple #[a, b, c]
def p4v (a b c d : Value) : Value := .tuple #[a, b, c, d]
def stepV (m : G6) (p : M3) : Value := p3v (m.turn p).w.v p.v (.bool true)
def tStep (m : G6) : Option Value := match decide (W (m.dot e2v e3v) > 0) with
  | true => some (stepV m stp0)
  | false => match decide (W (m.dot e1v e3v) > 0) with
    | true => some (stepV m stp1)
    | false => match decide (W (m.dot e1v e2v) > 0) with
      | true => some (stepV m stp2)
      | false => match decide (W (m.dot e1v e4v) > 0) with
        | true => some (stepV m stp3)
        | false => match decide (W (m.dot e2v e4v) > 0) with
          | true => some (stepV m stp4)
          | false => match decide (W (m.dot e3v e4v) > 0) with
            | true => some (stepV m stp5)
            | false => some (p3v m.v M3.one.v (.bool false))
def G6.l (m : G6) : List Int := [m.aa, m.bb, m.cc, m.bc, m.ac, m.ab]
/-- Entries that are far from wrapping round. -/
def G6.sbd (m : G6) : Bool := inB 1000000000000 m.l
def G6.SB (n : Int) (m : G6) : Prop := (-n ≤ m.aa ∧ m.aa ≤ n) ∧ (-n ≤ m.bb ∧ m.bb ≤ n) ∧ (-n ≤ m.cc ∧ m.cc ≤ n) ∧ (-n ≤ m.bc ∧ m.bc ≤ n) ∧ (-n ≤ m.ac ∧ m.ac ≤ n) ∧ (-n ≤ m.ab ∧ m.ab ≤ n)
theorem G6.sbd_iff {m : G6} : m.sbd = true ↔ m.SB 1000000000000 := by
  unfold G6.sbd G6.l G6.SB
  rw [inB_iff]
  simp only [List.mem_cons, List.not_mem_nil, or_false, forall_eq_or_imp, forall_eq]
theorem turn_small {m : G6} {n : Int} (h : m.SB n) : ∀ p ∈ [stp0, stp1, stp2, stp3, stp4, stp5], (m.turn p).SB (9 * n) := by
  unfold G6.SB at *
  intro p hp
  simp only [List.mem_cons, List.not_mem_nil, or_false] at hp
  rcases hp with rfl | rfl | rfl | rfl | rfl | rfl <;>
    (simp only [G6.turn, G6.dot, M3.c1, M3.c2, M3.c3, stp0, stp1, stp2, stp3, stp4, stp5]; omega)
theorem w_small {m : G6} {n : Int} (h : m.SB n) (hn : n ≤ 9000000000000000000) : m.w = m := by
  unfold G6.SB at h
  refine G6.ext' ⟨?_, ?_, ?_, ?_, ?_, ?_⟩ <;> exact W_in (by omega)
def fStep (m : G6) : Value := p3v m.next.v m.sharp.2.v (.bool (decide (m.sharp.1 > 0)))
theorem tStep_eq {m : G6} (h : m.sbd = true) : tStep m = some (fStep m) := by
  have hb := G6.sbd_iff.1 h
  have hb' := hb
  unfold G6.SB at hb
  have q1 : W (m.dot e2v e3v) = m.bc := by rw [show m.dot e2v e3v = m.bc by simp [G6.dot, e2v, e3v]]; exact W_in (by omega)
  have q2 : W (m.dot e1v e3v) = m.ac := by rw [show m.dot e1v e3v = m.ac by simp [G6.dot, e1v, e3v]]; exact W_in (by omega)
  have q3 : W (m.dot e1v e2v) = m.ab := by rw [show m.dot e1v e2v = m.ab by simp [G6.dot, e1v, e2v]]; exact W_in (by omega)
  have q4 : W (m.dot e1v e4v) = m.ad := by rw [show m.dot e1v e4v = m.ad by simp [G6.dot, e1v, e4v, G6.ad]; omega]; exact W_in (by unfold G6.ad; omega)
  have q5 : W (m.dot e2v e4v) = m.bd := by rw [show m.dot e2v e4v = m.bd by simp [G6.dot, e2v, e4v, G6.bd]; omega]; exact W_in (by unfold G6.bd; omega)
  have q6 : W (m.dot e3v e4v) = m.cd := by rw [show m.dot e3v e4v = m.cd by simp [G6.dot, e3v, e4v, G6.cd]; omega]; exact W_in (by unfold G6.cd; omega)
  have s : ∀ p ∈ [stp0, stp1, stp2, stp3, stp4, stp5], stepV m p = p3v (m.turn p).v p.v (.bool true) := fun p hp => by
    unfold stepV
    rw [w_small (turn_small hb' p hp) (by omega)]
  unfold tStep fStep G6.next G6.sharp
  rw [q1, q2, q3, q4, q5, q6, s stp0 (by simp), s stp1 (by simp), s stp2 (by simp), s stp3 (by simp), s stp4 (by simp), s stp5 (by simp)]
  cases h0 : decide (m.bc > 0) with
  | true => simp only [cond_true]; rw [h0]
  | false =>
    cases h1 : decide (m.ac > 0) with
    | true => simp only [cond_true, cond_false]; rw [h1]
    | false =>
      cases h2 : decide (m.ab > 0) with
      | true => simp only [cond_true, cond_false]; rw [h2]
      | false =>
        cases h3 : decide (m.ad > 0) with
        | true => simp only [cond_true, cond_false]; rw [h3]
        | false =>
          cases h4 : decide (m.bd > 0) with
          | true => simp only [cond_true, cond_false]; rw [h4]
          | false =>
            cases h5 : decide (m.cd > 0) with
            | true => simp only [cond_true, cond_false]; rw [h5]
            | false => simp only [cond_false]; rw [turn_one]; rfl
/-- A metric's sum of squares. -/
theorem G6.Bd.sq4 {m : G6} (h : m.Bd) : m.sq4 ≤ 1200000 := by unfold G6.Bd at h; unfold G6.sq4; omega
theorem G6.Pos.sb {m : G6} (h : m.Pos) : m.SB m.sq4 := by
  have := h.entries
  unfold G6.SB; omega
theorem G6.SB.mono {m : G6} {k n : Int} (h : m.SB k) (hk : k ≤ n) : m.SB n := by unfold G6.SB at *; omega
theorem G6.Pos.sbd {m : G6} (h : m.Pos) (hs : m.sq4 ≤ 1200000) : m.sbd = true := G6.sbd_iff.2 (h.sb.mono (by omega))
theorem walk_inv {m : G6} (hp : m.Pos) (hs : m.sq4 ≤ 1200000) : ∀ (k : Nat) (p : M3) (n : Int), (G6.walk k m p n).1.Pos ∧ (G6.walk k m p n).1.sq4 ≤ m.sq4 := by
  intro k
  induction k generalizing m with
  | zero => intro p n; exact ⟨hp, Int.le_refl _⟩
  | succ k ih =>
    intro p n
    simp only [G6.walk]
    by_cases h : m.sharp.1 > 0
    · simp only [h, decide_true, cond_true]
      have e := sq4_next m
      have := ih hp.next (by omega) (p.mul m.sharp.2) (n + 1)
      exact ⟨this.1, by omega⟩
    · simp only [h, decide_false, cond_false]
      exact ⟨hp, Int.le_refl _⟩
theorem M3.w_mulw (p q : M3) : (p.w.mul q).w = (p.mul q).w := by
  refine M3.ext' ⟨?_, ?_, ?_, ?_, ?_, ?_, ?_, ?_, ?_⟩ <;> (simp only [M3.w, M3.mul]; exact W3 _ _ _ _ _ _)
theorem M3.one_w : M3.one.w = M3.one := by rfl
def okM (m : G6) : Bool := m.mck == 0
theorem okM_iff {m : G6} : okM m = true ↔ m.mck = 0 := by simp [okM]
def G6.finV (m : G6) : Value := p3v m.fin.1.v m.fin.2.1.w.v (vI m.fin.2.2)
/-! Step, Obtuse, Shortest, Turned -/
def tRStep (m : G6) : Option Value := match m.mck != 0 with
  | true => some (p4v G6.zero.v M3.zero.v (.bool false) (vI m.mck))
  | false => onO m.sbd (some (p4v m.next.v m.sharp.2.v (.bool (decide (m.sharp.1 > 0))) (vI 0)))
def stG (m : G6) : G6 := bif m.mck == 0 then m.next else G6.zero
def stP (m : G6) : M3 := bif m.mck == 0 then m.sharp.2 else M3.zero
def stB (m : G6) : Bool := m.mck == 0 && decide (m.sharp.1 > 0)
def fRStep (m : G6) : Value := p4v (stG m).v (stP m).v (.bool (stB m)) (vI m.mck)
theorem tRStep_eq (m : G6) : tRStep m = some (fRStep m) := by
  unfold tRStep fRStep stG stP stB
  by_cases h : m.mck = 0
  · obtain ⟨hb, hp, _⟩ := G6.mck_zero h
    rw [h, hp.sbd hb.sq4]; rfl
  · rw [(bif_beq h).1, (bif_beq h).2]; rfl
def tObtuse (m : G6) : Option Value := match m.mck != 0 with
  | true => some (p4v G6.zero.v M3.zero.v (vI 0) (vI m.mck))
  | false => onO (okM m) (some (p4v m.fin.1.v m.fin.2.1.w.v (vI m.fin.2.2) (vI 0)))
def obG (m : G6) : G6 := bif m.mck == 0 then m.fin.1 else G6.zero
def obP (m : G6) : M3 := bif m.mck == 0 then m.fin.2.1.w else M3.zero
def obN (m : G6) : Int := bif m.mck == 0 then m.fin.2.2 else 0
def fObtuse (m : G6) : Value := p4v (obG m).v (obP m).v (vI (obN m)) (vI m.mck)
theorem tObtuse_eq (m : G6) : tObtuse m = some (fObtuse m) := by
  unfold tObtuse fObtuse obG obP obN okM
  by_cases h : m.mck = 0
  · rw [h]; rfl
  · rw [(bif_beq h).1, (bif_beq h).2]; rfl
def min2I (x y : Int) : Int := if y < x then y else x
def seven : List V3 := [⟨0, 1, 0⟩, ⟨0, 0, 1⟩, ⟨1, 1, 1⟩, ⟨1, 1, 0⟩, ⟨1, 0, 1⟩, ⟨0, 1, 1⟩]
def shortW (g : G6) : Int := min2I (min2I (min2I (min2I (min2I (min2I g.aa (W (g.dot ⟨0, 1, 0⟩ ⟨0, 1, 0⟩))) (W (g.dot ⟨0, 0, 1⟩ ⟨0, 0, 1⟩))) (W (g.dot ⟨1, 1, 1⟩ ⟨1, 1, 1⟩))) (W (g.dot ⟨1, 1, 0⟩ ⟨1, 1, 0⟩))) (W (g.dot ⟨1, 0, 1⟩ ⟨1, 0, 1⟩))) (W (g.dot ⟨0, 1, 1⟩ ⟨0, 1, 1⟩))
def tShortest (m : G6) : Option Value := match m.mck != 0 with
  | true => some (p2 (vI 0) (vI m.mck))
  | false => onO (okM m) (some (p2 (vI (shortW m.fin.1)) (vI 0)))
def shN (m : G6) : Int := bif m.mck == 0 then shortW m.fin.1 else 0
def fShortest (m : G6) : Value := p2 (vI (shN m)) (vI m.mck)
theorem tShortest_eq (m : G6) : tShortest m = some (fShortest m) := by
  unfold tShortest fShortest shN okM
  by_cases h : m.mck = 0
  · rw [h]; rfl
  · rw [(bif_beq h).1, (bif_beq h).2]; rfl
def turE (m : G6) (p : M3) : Int := leastN m.mck p.form
def turG (m : G6) (p : M3) : G6 := bif turE m p == 0 then m.turn p else G6.zero
def tRTurned (m : G6) (p : M3) : Option Value := match turE m p != 0 with
  | true => some (pGE G6.zero (turE m p))
  | false => some (pGE (m.turn p).w 0)
def fRTurned (m : G6) (p : M3) : Value := pGE (turG m p) (turE m p)
theorem M3.Bd.cols {p : M3} {k : Int} (h : p.Bd k) : p.c1.Bd k ∧ p.c2.Bd k ∧ p.c3.Bd k := by
  unfold M3.Bd at h
  unfold V3.Bd M3.c1 M3.c2 M3.c3
  simp only
  omega
theorem turn_bd {m : G6} (hb : m.Bd) {p : M3} (h : p.ok = true) : (m.turn p).SB 1000000000000 := by
  obtain ⟨h1, h2, h3⟩ := (M3.ok_iff.1 h).cols
  have a := dot_bound hb h1 h1
  have b := dot_bound hb h2 h2
  have c := dot_bound hb h3 h3
  have d := dot_bound hb h2 h3
  have e := dot_bound hb h1 h3
  have f := dot_bound hb h1 h2
  unfold G6.SB G6.turn
  simp only
  omega
theorem turE_zero {m : G6} {p : M3} (h : turE m p = 0) : m.mck = 0 ∧ p.ok = true ∧ p.U := by
  obtain ⟨a, b⟩ := leastN_zero.1 h
  obtain ⟨c, d⟩ := M3.form_zero.1 b
  exact ⟨a, c, d⟩
theorem tRTurned_eq (m : G6) (p : M3) : tRTurned m p = some (fRTurned m p) := by
  unfold tRTurned fRTurned turG
  by_cases h : turE m p = 0
  · obtain ⟨a, b, _⟩ := turE_zero h
    rw [h, w_small (turn_bd (G6.mck_zero a).1 b) (by omega)]; rfl
  · rw [(bif_beq h).1, (bif_beq h).2]; rfl
/-! The document's Turned -/
def lsu (x c : Int) (k : Int → Option Value) : Option Value := match x == 0 with
  | true => k c
  | false => match c != 0 with
    | true => match decide (c < x) with
      | true => k c
      | false => k x
    | false => k x
theorem lsu_eq (x c : Int) (k : Int → Option Value) : lsu x c k = k (leastN x c) := by
  unfold lsu leastN
  cases x == 0 <;> cases c != 0 <;> cases decide (c < x) <;> rfl
def tDocTurned (m : G6) (p : M3) : Option Value := lsu m.mck p.form fun e => match e != 0 with
  | true => some (pGE G6.zero e)
  | false => some (pGE (G6.of ((p.T.mul ((m.mat.mul p).w)).w)) 0)
theorem tDocTurned_eq (m : G6) (p : M3) : tDocTurned m p = some (fRTurned m p) := by
  unfold tDocTurned
  rw [lsu_eq]
  show (match turE m p != 0 with
    | true => some (pGE G6.zero (turE m p))
    | false => some (pGE (G6.of ((p.T.mul ((m.mat.mul p).w)).w)) 0)) = _
  unfold fRTurned turG
  by_cases h : turE m p = 0
  · obtain ⟨a, b, _⟩ := turE_zero h
    have hb := (G6.mck_zero a).1
    have k1 := (G6.mat_bd hb).mul (M3.ok_iff.1 b)
    have k2 := (M3.ok_iff.1 b).T.mul k1
    rw [h, M3.w_eq (k1.mono (by omega)), M3.w_eq (k2.mono (by omega)), turn_of]; rfl
  · rw [(bif_beq h).1, (bif_beq h).2]; rfl
def tReduceTurneds (m : G6) (p : M3) : Option Value := andO [(turG m p).eqB (turG m p), turE m p == turE m p]
theorem tReduceTurneds_true (m : G6) (p : M3) : tReduceTurneds m p = some (.bool true) := andO_eq _ (by simp [G6.eqB_refl])
end Go.Proofs.Ytofblakbfmjgkaa.Vx


namespace Go.Proofs.Ytofblakbfmjgkaa
open Go Vx

def Cd0 (P : Program) : Cx := CIn P
theorem okd0 : CxOk (Cd0 Try.prog) := okIn
/-- vec.Identity -/
theorem ed1 : exFun ((Cd0 Try.prog).at 130) 120 Try.f130 (pack [] []) = tOne3 := by kernel_rfl
def Fd_130 : List Int → Option Value
  | [] => some (fOne3)
  | _ => none
def Cd1 (P : Program) : Cx := (Cd0 P).add 130 [] Fd_130
theorem okd1 : CxOk (Cd1 Try.prog) := Cx.add_ok okd0 (n := 120) Try.func130 (by kernel_rfl) fun l v hl h => by
  match l, hl, h with
  | [], _, hh => rw [ed1, tOne3_eq]; exact hh
/-- reduce.step -/
theorem ed2 (a0 a1 a2 a3 a4 a5 : Int) : exFun ((Cd1 Try.prog).at 92) 120 Try.f92 (pack [some 6] [a0, a1, a2, a3, a4, a5]) = tStep ⟨a0, a1, a2, a3, a4, a5⟩ := by kernel_rfl
def Fd_92 : List Int → Option (Bool × Value)
  | [a0, a1, a2, a3, a4, a5] => some (G6.sbd ⟨a0, a1, a2, a3, a4, a5⟩, fStep ⟨a0, a1, a2, a3, a4, a5⟩)
  | _ => none
def Cd2 (P : Program) : Cx := (Cd1 P).addD 92 [some 6] Fd_92
theorem okd2 : CxOk (Cd2 Try.prog) := Cx.addD_ok okd1 (n := 120) Try.func92 (by kernel_rfl) fun l v hl h => by
  match l, hl, h with
  | [a0, a1, a2, a3, a4, a5], _, hh => simp only [Fd_92, Option.some.injEq, Prod.mk.injEq] at hh; rw [ed2, tStep_eq hh.1, hh.2]
/-- reduce.Step -/
theorem ed3 (a0 a1 a2 a3 a4 a5 : Int) : exFun ((Cd2 Try.prog).at 37) 120 Try.f37 (pack [some 6] [a0, a1, a2, a3, a4, a5]) = tRStep ⟨a0, a1, a2, a3, a4, a5⟩ := by kernel_rfl
def Fd_37 : List Int → Option Value
  | [a0, a1, a2, a3, a4, a5] => some (fRStep ⟨a0, a1, a2, a3, a4, a5⟩)
  | _ => none
def Cd3 (P : Program) : Cx := (Cd2 P).add 37 [some 6] Fd_37
theorem okd3 : CxOk (Cd3 Try.prog) := Cx.add_ok okd2 (n := 120) Try.func37 (by kernel_rfl) fun l v hl h => by
  match l, hl, h with
  | [a0, a1, a2, a3, a4, a5], _, hh => rw [ed3, tRStep_eq]; exact hh
/-- reduce.Turned -/
theorem ed4 (a0 a1 a2 a3 a4 a5 b0 b1 b2 b3 b4 b5 b6 b7 b8 : Int) : exFun ((Cd3 Try.prog).at 44) 120 Try.f44 (pack [some 6, some 9] [a0, a1, a2, a3, a4, a5, b0, b1, b2, b3, b4, b5, b6, b7, b8]) = tRTurned ⟨a0, a1, a2, a3, a4, a5⟩ ⟨b0, b1, b2, b3, b4, b5, b6, b7, b8⟩ := by kernel_rfl
def Fd_44 : List Int → Option Value
  | [a0, a1, a2, a3, a4, a5, b0, b1, b2, b3, b4, b5, b6, b7, b8] => some (fRTurned ⟨a0, a1, a2, a3, a4, a5⟩ ⟨b0, b1, b2, b3, b4, b5, b6, b7, b8⟩)
  | _ => none
def Cd4 (P : Program) : Cx := (Cd3 P).add 44 [some 6, some 9] Fd_44
theorem okd4 : CxOk (Cd4 Try.prog) := Cx.add_ok okd3 (n := 120) Try.func44 (by kernel_rfl) fun l v hl h => by
  match l, hl, h with
  | [a0, a1, a2, a3, a4, a5, b0, b1, b2, b3, b4, b5, b6, b7, b8], _, hh => rw [ed4, tRTurned_eq]; exact hh
/-- facetref01.Mat -/
theorem ed5 (a0 a1 a2 a3 a4 a5 a6 a7 a8 : Int) : exFun ((Cd4 Try.prog).at 135) 120 Try.f135 (pack [some 9] [a0, a1, a2, a3, a4, a5, a6, a7, a8]) = tR1Mat ⟨a0, a1, a2, a3, a4, a5, a6, a7, a8⟩ := by kernel_rfl
def Fd_135 : List Int → Option Value
  | [a0, a1, a2, a3, a4, a5, a6, a7, a8] => some (fCheck ⟨a0, a1, a2, a3, a4, a5, a6, a7, a8⟩)
  | _ => none
def Cd5 (P : Program) : Cx := (Cd4 P).add 135 [some 9] Fd_135
theorem okd5 : CxOk (Cd5 Try.prog) := Cx.add_ok okd4 (n := 120) Try.func135 (by kernel_rfl) fun l v hl h => by
  match l, hl, h with
  | [a0, a1, a2, a3, a4, a5, a6, a7, a8], _, hh => rw [ed5, tR1Mat_eq]; exact hh
/-- facetref01.Mul -/
theorem ed6 (a0 a1 a2 a3 a4 a5 a6 a7 a8 b0 b1 b2 b3 b4 b5 b6 b7 b8 : Int) : exFun ((Cd5 Try.prog).at 97) 120 Try.f97 (pack [some 9, some 9] [a0, a1, a2, a3, a4, a5, a6, a7, a8, b0, b1, b2, b3, b4, b5, b6, b7, b8]) = tTimesM ⟨a0, a1, a2, a3, a4, a5, a6, a7, a8⟩ ⟨b0, b1, b2, b3, b4, b5, b6, b7, b8⟩ := by kernel_rfl
def Fd_97 : List Int → Option Value
  | [a0, a1, a2, a3, a4, a5, a6, a7, a8, b0, b1, b2, b3, b4, b5, b6, b7, b8] => some (fTimesM ⟨a0, a1, a2, a3, a4, a5, a6, a7, a8⟩ ⟨b0, b1, b2, b3, b4, b5, b6, b7, b8⟩)
  | _ => none
def Cd6 (P : Program) : Cx := (Cd5 P).add 97 [some 9, some 9] Fd_97
theorem okd6 : CxOk (Cd6 Try.prog) := Cx.add_ok okd5 (n := 120) Try.func97 (by kernel_rfl) fun l v hl h => by
  match l, hl, h with
  | [a0, a1, a2, a3, a4, a5, a6, a7, a8, b0, b1, b2, b3, b4, b5, b6, b7, b8], _, hh => rw [ed6, tTimesM_eq]; exact hh
/-- facetref01.Transpose -/
theorem ed7 (a0 a1 a2 a3 a4 a5 a6 a7 a8 : Int) : exFun ((Cd6 Try.prog).at 136) 120 Try.f136 (pack [some 9] [a0, a1, a2, a3, a4, a5, a6, a7, a8]) = tR1T ⟨a0, a1, a2, a3, a4, a5, a6, a7, a8⟩ := by kernel_rfl
def Fd_136 : List Int → Option Value
  | [a0, a1, a2, a3, a4, a5, a6, a7, a8] => some (fR1T ⟨a0, a1, a2, a3, a4, a5, a6, a7, a8⟩)
  | _ => none
def Cd7 (P : Program) : Cx := (Cd6 P).add 136 [some 9] Fd_136
theorem okd7 : CxOk (Cd7 Try.prog) := Cx.add_ok okd6 (n := 120) Try.func136 (by kernel_rfl) fun l v hl h => by
  match l, hl, h with
  | [a0, a1, a2, a3, a4, a5, a6, a7, a8], _, hh => rw [ed7, tR1T_eq]; exact hh
/-- facetref01.Det -/
theorem ed8 (a0 a1 a2 a3 a4 a5 a6 a7 a8 : Int) : exFun ((Cd7 Try.prog).at 48) 120 Try.f48 (pack [some 9] [a0, a1, a2, a3, a4, a5, a6, a7, a8]) = tR1Det ⟨a0, a1, a2, a3, a4, a5, a6, a7, a8⟩ := by kernel_rfl
def Fd_48 : List Int → Option Value
  | [a0, a1, a2, a3, a4, a5, a6, a7, a8] => some (fRDet ⟨a0, a1, a2, a3, a4, a5, a6, a7, a8⟩)
  | _ => none
def Cd8 (P : Program) : Cx := (Cd7 P).add 48 [some 9] Fd_48
theorem okd8 : CxOk (Cd8 Try.prog) := Cx.add_ok okd7 (n := 120) Try.func48 (by kernel_rfl) fun l v hl h => by
  match l, hl, h with
  | [a0, a1, a2, a3, a4, a5, a6, a7, a8], _, hh => rw [ed8, tR1Det_eq]; exact hh
/-- facetref01.Form -/
theorem ed9 (a0 a1 a2 a3 a4 a5 a6 a7 a8 : Int) : exFun ((Cd8 Try.prog).at 102) 120 Try.f102 (pack [some 9] [a0, a1, a2, a3, a4, a5, a6, a7, a8]) = tR1Form ⟨a0, a1, a2, a3, a4, a5, a6, a7, a8⟩ := by kernel_rfl
def Fd_102 : List Int → Option Value
  | [a0, a1, a2, a3, a4, a5, a6, a7, a8] => some (fCheckM ⟨a0, a1, a2, a3, a4, a5, a6, a7, a8⟩)
  | _ => none
def Cd9 (P : Program) : Cx := (Cd8 P).add 102 [some 9] Fd_102
theorem okd9 : CxOk (Cd9 Try.prog) := Cx.add_ok okd8 (n := 120) Try.func102 (by kernel_rfl) fun l v hl h => by
  match l, hl, h with
  | [a0, a1, a2, a3, a4, a5, a6, a7, a8], _, hh => rw [ed9, tR1Form_eq]; exact hh
/-- facetref07.Turned -/
theorem ed10 (a0 a1 a2 a3 a4 a5 b0 b1 b2 b3 b4 b5 b6 b7 b8 : Int) : exFun ((Cd9 Try.prog).at 103) 120 Try.f103 (pack [some 6, some 9] [a0, a1, a2, a3, a4, a5, b0, b1, b2, b3, b4, b5, b6, b7, b8]) = tTurned ⟨a0, a1, a2, a3, a4, a5⟩ ⟨b0, b1, b2, b3, b4, b5, b6, b7, b8⟩ := by kernel_rfl
def Fd_103 : List Int → Option Value
  | [a0, a1, a2, a3, a4, a5, b0, b1, b2, b3, b4, b5, b6, b7, b8] => some (fTurned ⟨a0, a1, a2, a3, a4, a5⟩ ⟨b0, b1, b2, b3, b4, b5, b6, b7, b8⟩)
  | _ => none
def Cd10 (P : Program) : Cx := (Cd9 P).add 103 [some 6, some 9] Fd_103
theorem okd10 : CxOk (Cd10 Try.prog) := Cx.add_ok okd9 (n := 120) Try.func103 (by kernel_rfl) fun l v hl h => by
  match l, hl, h with
  | [a0, a1, a2, a3, a4, a5, b0, b1, b2, b3, b4, b5, b6, b7, b8], _, hh => rw [ed10, tTurned_eq]; exact hh
/-- facetref12.DocTurned -/
theorem ed11 (a0 a1 a2 a3 a4 a5 b0 b1 b2 b3 b4 b5 b6 b7 b8 : Int) : exFun ((Cd10 Try.prog).at 45) 120 Try.f45 (pack [some 6, some 9] [a0, a1, a2, a3, a4, a5, b0, b1, b2, b3, b4, b5, b6, b7, b8]) = tDocTurned ⟨a0, a1, a2, a3, a4, a5⟩ ⟨b0, b1, b2, b3, b4, b5, b6, b7, b8⟩ := by kernel_rfl
def Fd_45 : List Int → Option Value
  | [a0, a1, a2, a3, a4, a5, b0, b1, b2, b3, b4, b5, b6, b7, b8] => some (fRTurned ⟨a0, a1, a2, a3, a4, a5⟩ ⟨b0, b1, b2, b3, b4, b5, b6, b7, b8⟩)
  | _ => none
def Cd11 (P : Program) : Cx := (Cd10 P).add 45 [some 6, some 9] Fd_45
theorem okd11 : CxOk (Cd11 Try.prog) := Cx.add_ok okd10 (n := 120) Try.func45 (by kernel_rfl) fun l v hl h => by
  match l, hl, h with
  | [a0, a1, a2, a3, a4, a5, b0, b1, b2, b3, b4, b5, b6, b7, b8], _, hh => rw [ed11, tDocTurned_eq]; exact hh

def CCd (P : Program) : Cx := Cd11 P
theorem okCd : CxOk (CCd Try.prog) := okd11

end Go.Proofs.Ytofblakbfmjgkaa


namespace Go.Proofs.Ytofblakbfmjgkaa
open Go Vx Go.RowKit
def G6.cells (m : G6) : List Value := [.int .i64 m.aa, .int .i64 m.bb, .int .i64 m.cc, .int .i64 m.bc, .int .i64 m.ac, .int .i64 m.ab]
def obB (P : Program) : Code := bodyOf P 96
theorem obB_eq : Try.f96.body = some (obB Try.prog) := by kernel_rfl
def obPt (t b : Nat) : Nat × Value := (t, .pointer (some ⟨b, 0, none⟩))
def obH (m : G6) (p : M3) (n : Int) : St := stOf 28 [obPt 1 0, obPt 2 1, obPt 3 2, (4, vI 0), obPt 5 3, (6, vI n)] [.cells true 0 (G6.cells m), .cells true 0 (G6.cells G6.zero), .cells true 0 M3.zero.cells, .cells true 0 p.cells]
def obX (m : G6) (p : M3) (n : Int) : St := stOf 28 [obPt 2 0, obPt 3 1, (4, vI n)] [.cells true 0 (G6.cells m), .cells true 0 p.cells]
theorem obE (m : G6) : segR ((CCd Try.prog).into 96 0) 60 3 (obB Try.prog) [1, 2, 3, 4, 5, 6] [.slot 1, .slot 2, .slot 3, .slot 5] (enter Try.f96 [m.v] []) = some (obH m M3.one 0) := by kernel_rfl
theorem obBlk : isBlk 0 (seqDrop 3 (obB Try.prog)) = true := by kernel_rfl
theorem obR (m : G6) (p : M3) (n : Int) : roundR ((CCd Try.prog).into 96 0) 60 (blkBody (seqDrop 3 (obB Try.prog))) [1, 2, 3, 4, 5, 6] [2, 3, 4] [.slot 1, .slot 2, .slot 3, .slot 5] [.slot 2, .slot 3] (obH m p n) =
    gd m.sbd (match !(decide (m.sharp.1 > 0)) with
    | true => some (.ret, obX m p n)
    | false => some (.normal, obH m.next (p.mul m.sharp.2).w (W (n + 1)))) := by kernel_rfl
theorem obRet (m : G6) (p : M3) (n : Int) : (retA Try.prog Try.f96 (.ret, obX m p n)).res = some (p3v m.v p.v (vI n), [.cells true 0 (G6.cells m), .cells true 0 p.cells]) := by kernel_rfl
set_option maxRecDepth 100000 in
theorem obIn : InBody ((CCd Try.prog).into 96 0) (blkBody (seqDrop 3 (obB Try.prog))) := blk_inD (C := CCd Try.prog) (f := 96) (B := 0) (id := 0) (k := 3) (fn := Try.f96) (b := obB Try.prog) Try.func96 obB_eq obBlk
theorem obL : ∀ (k : Nat) (m : G6) (p : M3) (n : Int), m.Pos → m.sq4 ≤ 1200000 → m.sq4 ≤ (k : Int) → 0 ≤ n → n + m.sq4 ≤ 1200000 → LoopSem Try.prog 0 (blkBody (seqDrop 3 (obB Try.prog))) (obH m p.w n) .ret (obX (G6.walk m.sq4.toNat m p n).1 (G6.walk m.sq4.toNat m p n).2.1.w (G6.walk m.sq4.toNat m p n).2.2) := by
  intro k
  induction k with
  | zero => intro m p n hp _ hk _ _; have := G6.Pos.sq4 hp; omega
  | succ k ih =>
    intro m p n hp hs hk hn hn2
    have hr := obR m p.w n
    rw [hp.sbd hs] at hr
    simp only [gd] at hr
    by_cases h : m.sharp.1 > 0
    · rw [decide_eq_true h] at hr
      simp only [Bool.not_true] at hr
      have e := sq4_next m
      have h0 := G6.Pos.sq4 hp
      rw [W_in (by omega), M3.w_mulw] at hr
      rw [fin_step hp p n h]
      exact loop_next (C := CCd Try.prog) okCd (f := 96) (B := 0) obIn hr (StLike.refl _) (ih m.next (p.mul m.sharp.2) (n + 1) hp.next (by omega) (by omega) (by omega) (by omega))
    · rw [decide_eq_false h] at hr
      simp only [Bool.not_false] at hr
      rw [walk_stop h]
      exact loop_leave (C := CCd Try.prog) okCd (f := 96) (B := 0) obIn hr (by simp)
theorem obS (m : G6) (h : m.mck = 0) : PlainSem Try.prog 96 [m.v] m.finV := by
  obtain ⟨hb, hp, _⟩ := G6.mck_zero h
  have hl := obL m.sq4.toNat m M3.one 0 hp hb.sq4 (by have := G6.Pos.sq4 hp; omega) (by omega) (by have := hb.sq4; omega)
  rw [M3.one_w] at hl
  have hm : MemSem Try.prog 96 [m.v] [] m.finV [.cells true 0 (G6.cells m.fin.1), .cells true 0 m.fin.2.1.w.cells] :=
    body_mem (f := 96) Try.func96 obB_eq (by kernel_rfl) (seg_rule (C := CCd Try.prog) okCd (f := 96) (B := 0) (k := 3) (Or.inl ⟨Try.f96, obB Try.prog, Try.func96, obB_eq, fun _ hx => hx⟩) (obE m) (blk_ret obBlk hl)) (obRet _ _ _)
  exact hm.plain (by intro x hx; simp only [List.mem_cons, List.not_mem_nil, or_false] at hx; rcases hx with rfl; rfl) rfl
def obF : List Int → Option (Bool × Value)
  | [a, b, c, d, e, f] => some (okM ⟨a, b, c, d, e, f⟩, G6.finV ⟨a, b, c, d, e, f⟩)
  | _ => none
def Co1 (P : Program) : Cx := (CCd P).addD 96 [some 6] obF
theorem oko1 : CxOk (Co1 Try.prog) := Cx.addP_ok okCd fun args v _ h _ => by
  split at h
  · rename_i l hu
    obtain ⟨rfl, hl⟩ := unpack_spec _ _ _ hu
    match l, hl, h with
    | [a, b, c, d, e, f], _, h =>
      simp only [obF, Option.some.injEq, Prod.mk.injEq] at h
      obtain ⟨h0, rfl⟩ := h
      exact obS _ (okM_iff.1 h0)
  · cases h
end Go.Proofs.Ytofblakbfmjgkaa


namespace Go.Proofs.Ytofblakbfmjgkaa
open Go Vx

def Ce0 (P : Program) : Cx := Co1 P
theorem oke0 : CxOk (Ce0 Try.prog) := oko1
/-- reduce.Obtuse -/
theorem ee1 (a0 a1 a2 a3 a4 a5 : Int) : exFun ((Ce0 Try.prog).at 40) 120 Try.f40 (pack [some 6] [a0, a1, a2, a3, a4, a5]) = tObtuse ⟨a0, a1, a2, a3, a4, a5⟩ := by kernel_rfl
def Fe_40 : List Int → Option Value
  | [a0, a1, a2, a3, a4, a5] => some (fObtuse ⟨a0, a1, a2, a3, a4, a5⟩)
  | _ => none
def Ce1 (P : Program) : Cx := (Ce0 P).add 40 [some 6] Fe_40
theorem oke1 : CxOk (Ce1 Try.prog) := Cx.add_ok oke0 (n := 120) Try.func40 (by kernel_rfl) fun l v hl h => by
  match l, hl, h with
  | [a0, a1, a2, a3, a4, a5], _, hh => rw [ee1, tObtuse_eq]; exact hh
/-- reduce.Shortest -/
theorem ee2 (a0 a1 a2 a3 a4 a5 : Int) : exFun ((Ce1 Try.prog).at 42) 120 Try.f42 (pack [some 6] [a0, a1, a2, a3, a4, a5]) = tShortest ⟨a0, a1, a2, a3, a4, a5⟩ := by kernel_rfl
def Fe_42 : List Int → Option Value
  | [a0, a1, a2, a3, a4, a5] => some (fShortest ⟨a0, a1, a2, a3, a4, a5⟩)
  | _ => none
def Ce2 (P : Program) : Cx := (Ce1 P).add 42 [some 6] Fe_42
theorem oke2 : CxOk (Ce2 Try.prog) := Cx.add_ok oke1 (n := 120) Try.func42 (by kernel_rfl) fun l v hl h => by
  match l, hl, h with
  | [a0, a1, a2, a3, a4, a5], _, hh => rw [ee2, tShortest_eq]; exact hh

def CCe (P : Program) : Cx := Ce2 P
theorem okCe : CxOk (CCe Try.prog) := oke2

end Go.Proofs.Ytofblakbfmjgkaa


namespace Go.Proofs.Ytofblakbfmjgkaa
open Go Vx

def Cw0 (P : Program) : Cx := CCe P
theorem okw0 : CxOk (Cw0 Try.prog) := okCe
/-- facetlaw12.awake -/
theorem ew1 : exFun ((Cw0 Try.prog).at 39) 400 Try.f39 (pack [] []) = tAwake := by kernel_rfl
def Fw_39 : List Int → Option Value
  | [] => some (fAwake)
  | _ => none
def Cw1 (P : Program) : Cx := (Cw0 P).add 39 [] Fw_39
theorem okw1 : CxOk (Cw1 Try.prog) := Cx.add_ok okw0 (n := 400) Try.func39 (by kernel_rfl) fun l v hl h => by
  match l, hl, h with
  | [], _, hh => rw [ew1, tAwake_eq]; exact hh

def CCw (P : Program) : Cx := Cw1 P
theorem okCw : CxOk (CCw Try.prog) := okw1

end Go.Proofs.Ytofblakbfmjgkaa


namespace Go.Proofs.Ytofblakbfmjgkaa.Vx
open Go
def rdW (m : G6) (u v : V3) : Int := W (W (W (W (W (W (W (m.aa * u.x) * v.x) + W (W (m.bb * u.y) * v.y)) + W (W (m.cc * u.z) * v.z)) + W (m.bc * W (W (u.y * v.z) + W (u.z * v.y)))) + W (m.ac * W (W (u.x * v.z) + W (u.z * v.x)))) + W (m.ab * W (W (u.x * v.y) + W (u.y * v.x))))
def tR12Dot (m : G6) (u v : V3) : Option Value := some (vI (rdW m u v))
theorem tR12Dot_eq (m : G6) (u v : V3) : tR12Dot m u v = some (fPDot m u v) := by
  unfold tR12Dot fPDot rdW G6.dot
  simp only [W_mull, W_mulr, W_addl, W_addr]
def sixW (m : G6) : List Int := [m.bc, m.ac, m.ab, W (W (W (0 - m.aa) - m.ab) - m.ac), W (W (W (0 - m.bb) - m.ab) - m.bc), W (W (W (0 - m.cc) - m.ac) - m.bc)]
def tSix (m : G6) : Option Value := some (.agg ((sixW m).map (.int .i64)).toArray)
def fSix (m : G6) : Value := .agg ((sixW m).map (.int .i64)).toArray
theorem tSix_eq (m : G6) : tSix m = some (fSix m) := rfl
def sixL (m : G6) : List Int := [m.bc, m.ac, m.ab, m.ad, m.bd, m.cd]
theorem sixW_eq {m : G6} (h : m.sbd = true) : sixW m = sixL m := by
  have h := G6.sbd_iff.1 h
  unfold G6.SB at h
  unfold sixW sixL G6.ad G6.bd G6.cd
  rw [W_in (n := 0 - m.aa) (by omega), W_in (n := 0 - m.aa - m.ab) (by omega), W_in (n := 0 - m.aa - m.ab - m.ac) (by omega),
    W_in (n := 0 - m.bb) (by omega), W_in (n := 0 - m.bb - m.ab) (by omega), W_in (n := 0 - m.bb - m.ab - m.bc) (by omega),
    W_in (n := 0 - m.cc) (by omega), W_in (n := 0 - m.cc - m.ac) (by omega), W_in (n := 0 - m.cc - m.ac - m.bc) (by omega)]
  congr 4
  · omega
  congr 1
  · omega
  congr 1
  omega

/-! The walk's end -/
def sgn2 (n : Int) : Int := if n % 2 = 0 then 1 else -1
theorem walk_spec {m0 : G6} : ∀ (k : Nat) {m : G6} (p : M3) (n : Int), m.Pos → m = m0.turn p → p.det = sgn2 n →
    (G6.walk k m p n).1 = m0.turn (G6.walk k m p n).2.1 ∧ (G6.walk k m p n).2.1.det = sgn2 (G6.walk k m p n).2.2 ∧ (m.sq4 ≤ (k : Int) → ¬ (G6.walk k m p n).1.sharp.1 > 0) ∧ n ≤ (G6.walk k m p n).2.2 ∧ (G6.walk k m p n).2.2 + (G6.walk k m p n).1.sq4 ≤ n + m.sq4 ∧ ((G6.walk k m p n).2.2 = n → (G6.walk k m p n).1 = m ∧ (G6.walk k m p n).2.1 = p) ∧ (0 < k → m.sharp.1 > 0 → (G6.walk k m p n).2.2 ≠ n)
  | 0, m, p, n, hp, hm, hd => ⟨hm, hd, fun hk => by have := G6.Pos.sq4 hp; omega, Int.le_refl _, Int.le_refl _, fun _ => ⟨rfl, rfl⟩, fun h => by omega⟩
  | k + 1, m, p, n, hp, hm, hd => by
    simp only [G6.walk]
    by_cases h : m.sharp.1 > 0
    · simp only [h, decide_true, cond_true]
      have e := sq4_next m
      have hd' : (p.mul m.sharp.2).det = sgn2 (n + 1) := by
        rw [M3.det_mul, hd, sharp_det m h]
        unfold sgn2
        split <;> split <;> omega
      have hm' : m.next = m0.turn (p.mul m.sharp.2) := by unfold G6.next; rw [hm, turn_mul, ← hm]
      obtain ⟨a, b, c, d, f, g, _⟩ := walk_spec k (p.mul m.sharp.2) (n + 1) hp.next hm' hd'
      exact ⟨a, b, fun hk => c (by omega), by omega, by omega, fun hn => by omega, fun _ _ hn => by omega⟩
    · rw [decide_eq_false h]
      simp only [cond_false]
      exact ⟨hm, hd, fun _ => h, Int.le_refl _, Int.le_refl _, fun _ => ⟨trivial, trivial⟩, fun _ hh => absurd hh h⟩
structure FinSpec (m : G6) : Prop where
  turn : m.fin.1 = m.turn m.fin.2.1
  det : m.fin.2.1.det = sgn2 m.fin.2.2
  obt : ¬ m.fin.1.sharp.1 > 0
  nn : 0 ≤ m.fin.2.2
  le : m.fin.2.2 + m.fin.1.sq4 ≤ m.sq4
  zero : m.fin.2.2 = 0 → m.fin.1 = m ∧ m.fin.2.1 = M3.one
  more : m.sharp.1 > 0 → m.fin.2.2 ≠ 0
  pos : m.fin.1.Pos
theorem fin_spec {m : G6} (hp : m.Pos) (hb : m.sq4 ≤ 1200000) : FinSpec m := by
  have h0 := G6.Pos.sq4 hp
  obtain ⟨a, b, c, d, f, g, i⟩ := walk_spec (m0 := m) m.sq4.toNat M3.one 0 hp (turn_one m).symm (by rfl)
  have hw := walk_inv hp hb m.sq4.toNat M3.one 0
  exact ⟨a, b, c (by omega), d, by have : m.fin.2.2 + m.fin.1.sq4 ≤ 0 + m.sq4 := f; omega, g, i (by omega), hw.1⟩
theorem obt_of {m : G6} (h : ¬ m.sharp.1 > 0) : m.Obt := by
  rcases sharp_cases m with ⟨_, h1⟩ | ⟨h1, _⟩
  · exact h1
  · omega
theorem sharp_obt {m : G6} (h : m.Obt) : ¬ m.sharp.1 > 0 := by
  obtain ⟨h0, h1, h2, h3, h4, h5⟩ := h
  rcases sharp_cases m with ⟨e, _⟩ | ⟨_, e⟩
  · rw [e]; simp
  · rcases e with ⟨e, _⟩ | ⟨e, _⟩ | ⟨e, _⟩ | ⟨e, _⟩ | ⟨e, _⟩ | ⟨e, _⟩ <;> rw [e] <;> omega

/-! ReduceEnds -/
def endL : List (Int × Int) → Bool → (Bool → Option Value) → Option Value
  | [], b, k => k b
  | (x, y) :: l, b, k => match decide (x > 0) with
    | true => some (.bool false)
    | false => match b with
      | true => endL l (decide (y ≤ 0)) k
      | false => endL l false k
def endTail (m a : G6) (p : M3) (n : Int) : Option Value :=
  guardF [W (p.det) != W (1 - W (2 * Int.tmod n 2)), !(a.eqB (m.turn p).w)]
    (match a.mck != 0 with
    | true => some (.bool true)
    | false => andO [a.mck == 0, a.detF == m.detF])
def tReduceEnds (m : G6) : Option Value :=
  guardF [m.mck != m.mck] (match m.mck != 0 with
    | true => andO [(obG m).eqB G6.zero, (obP m).eqB M3.zero, obN m == 0]
    | false => endL ((sixW (obG m)).zip (sixW m)) true fun b => match b != (obN m == 0) with
      | true => some (.bool false)
      | false => match obN m == 0 with
        | true => match !((obG m).eqB m) with
          | true => some (.bool false)
          | false => match !((obP m).eqB M3.one) with
            | true => some (.bool false)
            | false => endTail m (obG m) (obP m) (obN m)
        | false => endTail m (obG m) (obP m) (obN m))
theorem endL_eq (k : Bool → Option Value) : ∀ (l : List (Int × Int)) (b : Bool), (∀ x ∈ l, x.1 ≤ 0) → endL l b k = k (b && l.all fun x => decide (x.2 ≤ 0))
  | [], b, _ => by simp [endL]
  | (x, y) :: l, b, h => by
    have h1 := h (x, y) (by simp)
    simp only at h1
    have ih := fun b => endL_eq k l b fun x hx => h x (by simp [hx])
    simp only [endL, decide_eq_false (show ¬ x > 0 by omega), ih]
    cases b <;> simp
theorem M3.W_detw (p : M3) : W p.w.det = W p.det := by
  unfold M3.det M3.w
  simp only
  exact W_cadd (W_cadd (W_cmul (W_W _) (W_csub (W_cmul (W_W _) (W_W _)) (W_cmul (W_W _) (W_W _)))) (W_cmul (W_W _) (W_csub (W_cmul (W_W _) (W_W _)) (W_cmul (W_W _) (W_W _))))) (W_cmul (W_W _) (W_csub (W_cmul (W_W _) (W_W _)) (W_cmul (W_W _) (W_W _))))
theorem W_dotc (m : G6) {u v u' v' : V3} (h1 : W u.x = W u'.x) (h2 : W u.y = W u'.y) (h3 : W u.z = W u'.z) (k1 : W v.x = W v'.x) (k2 : W v.y = W v'.y) (k3 : W v.z = W v'.z) : W (m.dot u v) = W (m.dot u' v') := by
  unfold G6.dot
  exact W_cadd (W_cadd (W_cadd (W_cadd (W_cadd (W_cmul (W_cmul rfl h1) k1) (W_cmul (W_cmul rfl h2) k2)) (W_cmul (W_cmul rfl h3) k3)) (W_cmul rfl (W_cadd (W_cmul h2 k3) (W_cmul h3 k2)))) (W_cmul rfl (W_cadd (W_cmul h1 k3) (W_cmul h3 k1)))) (W_cmul rfl (W_cadd (W_cmul h1 k2) (W_cmul h2 k1)))
theorem turn_w (m : G6) (p : M3) : (m.turn p.w).w = (m.turn p).w := by
  refine G6.ext' ⟨?_, ?_, ?_, ?_, ?_, ?_⟩ <;> exact W_dotc m (W_W _) (W_W _) (W_W _) (W_W _) (W_W _) (W_W _)
theorem M3.zero_eqB : M3.zero.eqB M3.zero = true := M3.eqB_refl _
theorem six_zip {a m : G6} : (sixL a).zip (sixL m) = [(a.bc, m.bc), (a.ac, m.ac), (a.ab, m.ab), (a.ad, m.ad), (a.bd, m.bd), (a.cd, m.cd)] := rfl
theorem tReduceEnds_true (m : G6) : tReduceEnds m = some (.bool true) := by
  unfold tReduceEnds
  rw [guardF_eq _ _ (by simp)]
  by_cases h : m.mck = 0
  · obtain ⟨hb, hp, _⟩ := G6.mck_zero h
    have fs := fin_spec hp hb.sq4
    have hle := fs.le
    have hps := G6.Pos.sq4 fs.pos
    have hb4 := hb.sq4
    have hnn := fs.nn
    have e1 : obG m = m.fin.1 := by unfold obG; rw [h]; rfl
    have e2 : obP m = m.fin.2.1.w := by unfold obP; rw [h]; rfl
    have e3 : obN m = m.fin.2.2 := by unfold obN; rw [h]; rfl
    have sb : m.fin.1.sbd = true := fs.pos.sbd (by omega)
    rw [e1, e2, e3, sixW_eq sb, sixW_eq (hp.sbd hb4), h]
    have ob := obt_of fs.obt
    have tail : endTail m m.fin.1 m.fin.2.1.w m.fin.2.2 = some (.bool true) := by
      unfold endTail
      have t1 : W (m.fin.2.1.w.det) = W (1 - W (2 * Int.tmod m.fin.2.2 2)) := by
        rw [M3.W_detw, fs.det, W_subr, Int.tmod_eq_emod_of_nonneg hnn]
        unfold sgn2
        split <;> congr 1 <;> omega
      have t2 : m.fin.1 = (m.turn m.fin.2.1.w).w := by
        rw [turn_w, ← fs.turn, w_small (G6.sbd_iff.1 sb) (by omega)]
      rw [guardF_eq _ _ (by
        simp only [List.mem_cons, List.not_mem_nil, or_false, forall_eq_or_imp, forall_eq]
        refine ⟨by rw [t1]; simp, ?_⟩
        rw [← t2, G6.eqB_refl]; rfl)]
      by_cases hk : m.fin.1.mck = 0
      · rw [hk]
        have e5 : m.fin.1.detF = m.fin.1.det := by unfold G6.detF; rw [hk]; rfl
        have e6 : m.detF = m.det := by unfold G6.detF; rw [h]; rfl
        have e7 : m.fin.1.det = m.det := by
          rw [fs.turn, turn_det, fs.det]
          unfold sgn2
          split <;> simp
        rw [e5, e6, e7]
        exact andO_eq _ (by simp)
      · rw [(bif_beq hk).2]
    rw [six_zip]
    show endL _ true _ = _
    rw [endL_eq _ _ _ (by
      obtain ⟨h0, h1, h2, h3, h4, h5⟩ := ob
      simp only [List.mem_cons, List.not_mem_nil, or_false, forall_eq_or_imp, forall_eq]
      exact ⟨h0, h1, h2, h3, h4, h5⟩)]
    have hn : ((true && [(m.fin.1.bc, m.bc), (m.fin.1.ac, m.ac), (m.fin.1.ab, m.ab), (m.fin.1.ad, m.ad), (m.fin.1.bd, m.bd), (m.fin.1.cd, m.cd)].all fun x => decide (x.2 ≤ 0))) = (m.fin.2.2 == 0) := by
      by_cases hz : m.fin.2.2 = 0
      · have hs : ¬ m.sharp.1 > 0 := fun hs => fs.more hs hz
        obtain ⟨h0, h1, h2, h3, h4, h5⟩ := obt_of hs
        simp only [List.all_cons, List.all_nil, decide_eq_true h0, decide_eq_true h1, decide_eq_true h2, decide_eq_true h3, decide_eq_true h4, decide_eq_true h5, hz]
        rfl
      · have : ¬ m.Obt := fun ho => by
          have := walk_stop (sharp_obt ho) m.sq4.toNat M3.one 0
          exact hz (by show (G6.walk m.sq4.toNat m M3.one 0).2.2 = 0; rw [this])
        rw [show (m.fin.2.2 == 0) = false by simpa using hz]
        cases hq : (true && [(m.fin.1.bc, m.bc), (m.fin.1.ac, m.ac), (m.fin.1.ab, m.ab), (m.fin.1.ad, m.ad), (m.fin.1.bd, m.bd), (m.fin.1.cd, m.cd)].all fun x => decide (x.2 ≤ 0)) with
        | false => rfl
        | true =>
          exfalso
          simp only [Bool.true_and, List.all_cons, List.all_nil, Bool.and_true, Bool.and_eq_true, decide_eq_true_eq] at hq
          exact this ⟨hq.1, hq.2.1, hq.2.2.1, hq.2.2.2.1, hq.2.2.2.2.1, hq.2.2.2.2.2⟩
    rw [hn, bne_self_b, tail]
    by_cases hz : m.fin.2.2 = 0
    · obtain ⟨z1, z2⟩ := fs.zero hz
      rw [hz, z1, z2, G6.eqB_refl, M3.one_w, M3.eqB_refl]; rfl
    · rw [show (m.fin.2.2 == 0) = false by simpa using hz]
  · have e1 : obG m = G6.zero := by unfold obG; rw [(bif_beq h).1]; rfl
    have e2 : obP m = M3.zero := by unfold obP; rw [(bif_beq h).1]; rfl
    have e3 : obN m = 0 := by unfold obN; rw [(bif_beq h).1]; rfl
    rw [e1, e2, e3, (bif_beq h).2]; rfl
theorem sgn_W {n : Int} (h : 0 ≤ n) : W (sgn2 n) = W (1 - W (2 * Int.tmod n 2)) := by
  rw [W_subr, Int.tmod_eq_emod_of_nonneg h]
  unfold sgn2
  split <;> congr 1 <;> omega
theorem ends_sign {m : G6} (fs : FinSpec m) : (W (m.fin.2.1.w.det) != W (1 - W (2 * Int.tmod m.fin.2.2 2))) = false := by
  rw [M3.W_detw, fs.det, sgn_W fs.nn]; simp
theorem ends_metric {m : G6} (fs : FinSpec m) (sb : m.fin.1.sbd = true) : (!(m.fin.1.eqB (m.turn m.fin.2.1.w).w)) = false := by
  have : m.fin.1 = (m.turn m.fin.2.1.w).w := by
    rw [turn_w, ← fs.turn, w_small (G6.sbd_iff.1 sb) (by omega)]
  rw [← this, G6.eqB_refl]; rfl
theorem ends_det {m : G6} (fs : FinSpec m) : m.fin.1.det = m.det := by
  rw [fs.turn, turn_det, fs.det]
  unfold sgn2
  split <;> simp
theorem ends_none {m : G6} (fs : FinSpec m) : ((true && [(m.fin.1.bc, m.bc), (m.fin.1.ac, m.ac), (m.fin.1.ab, m.ab), (m.fin.1.ad, m.ad), (m.fin.1.bd, m.bd), (m.fin.1.cd, m.cd)].all fun x => decide (x.2 ≤ 0))) = (m.fin.2.2 == 0) := by
  by_cases hz : m.fin.2.2 = 0
  · have hs : ¬ m.sharp.1 > 0 := fun hs => fs.more hs hz
    obtain ⟨h0, h1, h2, h3, h4, h5⟩ := obt_of hs
    simp only [List.all_cons, List.all_nil, decide_eq_true h0, decide_eq_true h1, decide_eq_true h2, decide_eq_true h3, decide_eq_true h4, decide_eq_true h5, hz]
    rfl
  · have : ¬ m.Obt := fun ho => by
      have := walk_stop (sharp_obt ho) m.sq4.toNat M3.one 0
      exact hz (by show (G6.walk m.sq4.toNat m M3.one 0).2.2 = 0; rw [this])
    rw [show (m.fin.2.2 == 0) = false by simpa using hz]
    cases hq : (true && [(m.fin.1.bc, m.bc), (m.fin.1.ac, m.ac), (m.fin.1.ab, m.ab), (m.fin.1.ad, m.ad), (m.fin.1.bd, m.bd), (m.fin.1.cd, m.cd)].all fun x => decide (x.2 ≤ 0)) with
    | false => rfl
    | true =>
      exfalso
      simp only [Bool.true_and, List.all_cons, List.all_nil, Bool.and_true, Bool.and_eq_true, decide_eq_true_eq] at hq
      exact this ⟨hq.1, hq.2.1, hq.2.2.1, hq.2.2.2.1, hq.2.2.2.2.1, hq.2.2.2.2.2⟩
theorem ends_start {m a : G6} {p : M3} {n : Int} {α : Type} (fs : FinSpec m) (ha : a = m.fin.1) (hp : p = m.fin.2.1.w) (hn : n = m.fin.2.2) (x y z u : α) : (match (n == 0) != (n == 0) with
  | true => x
  | false => match n == 0 with
    | true => match !(a.eqB m) with
      | true => y
      | false => match !(p.eqB M3.one) with
        | true => z
        | false => u
    | false => u) = u := by
  subst ha; subst hp; subst hn
  rw [bne_self_b]
  by_cases hz : m.fin.2.2 = 0
  · obtain ⟨z1, z2⟩ := fs.zero hz
    rw [hz, z1, z2, G6.eqB_refl, M3.one_w, M3.eqB_refl]; rfl
  · rw [show (m.fin.2.2 == 0) = false by simpa using hz]
end Go.Proofs.Ytofblakbfmjgkaa.Vx


namespace Go.Proofs.Ytofblakbfmjgkaa
open Go Vx

def Cf0 (P : Program) : Cx := CCw P
theorem okf0 : CxOk (Cf0 Try.prog) := okCw
/-- facetref12.Dot -/
theorem ef1 (a0 a1 a2 a3 a4 a5 b0 b1 b2 c0 c1 c2 : Int) : exFun ((Cf0 Try.prog).at 49) 120 Try.f49 (pack [some 6, some 3, some 3] [a0, a1, a2, a3, a4, a5, b0, b1, b2, c0, c1, c2]) = tR12Dot ⟨a0, a1, a2, a3, a4, a5⟩ ⟨b0, b1, b2⟩ ⟨c0, c1, c2⟩ := by kernel_rfl
def Ff_49 : List Int → Option Value
  | [a0, a1, a2, a3, a4, a5, b0, b1, b2, c0, c1, c2] => some (fPDot ⟨a0, a1, a2, a3, a4, a5⟩ ⟨b0, b1, b2⟩ ⟨c0, c1, c2⟩)
  | _ => none
def Cf1 (P : Program) : Cx := (Cf0 P).add 49 [some 6, some 3, some 3] Ff_49
theorem okf1 : CxOk (Cf1 Try.prog) := Cx.add_ok okf0 (n := 120) Try.func49 (by kernel_rfl) fun l v hl h => by
  match l, hl, h with
  | [a0, a1, a2, a3, a4, a5, b0, b1, b2, c0, c1, c2], _, hh => rw [ef1, tR12Dot_eq]; exact hh
/-- facetlaw12.six -/
theorem ef2 (a0 a1 a2 a3 a4 a5 : Int) : exFun ((Cf1 Try.prog).at 46) 120 Try.f46 (pack [some 6] [a0, a1, a2, a3, a4, a5]) = tSix ⟨a0, a1, a2, a3, a4, a5⟩ := by kernel_rfl
def Ff_46 : List Int → Option Value
  | [a0, a1, a2, a3, a4, a5] => some (fSix ⟨a0, a1, a2, a3, a4, a5⟩)
  | _ => none
def Cf2 (P : Program) : Cx := (Cf1 P).add 46 [some 6] Ff_46
theorem okf2 : CxOk (Cf2 Try.prog) := Cx.add_ok okf1 (n := 120) Try.func46 (by kernel_rfl) fun l v hl h => by
  match l, hl, h with
  | [a0, a1, a2, a3, a4, a5], _, hh => rw [ef2, tSix_eq]; exact hh

def CCf (P : Program) : Cx := Cf2 P
theorem okCf : CxOk (CCf Try.prog) := okf2

end Go.Proofs.Ytofblakbfmjgkaa


namespace Go.Proofs.Ytofblakbfmjgkaa
open Go Vx
theorem Cx.dup_ok {C : Cx} (hC : CxOk C) {f : FuncId} {sh : List (Option Nat)} {F : List Int → Option Value} (h : ∀ l v, l.length = total sh → F l = some v → C.tbl f (pack sh l) = some (true, v)) : CxOk (C.add f sh F) :=
  Cx.addP_ok hC fun args v hp hF hv => by
    split at hF
    · rename_i l hu
      obtain ⟨rfl, hl⟩ := unpack_spec _ _ _ hu
      cases hFl : F l with
      | none => simp [hFl] at hF
      | some u =>
        simp only [hFl, Option.some.injEq, Prod.mk.injEq, true_and] at hF
        subst hF
        exact hC.tbl f _ _ hp (h l u hl hFl) hv
    · cases hF
structure RV where
  (G : G6 → G6) (P : G6 → M3) (N : G6 → Int) (K : G6 → Int) (D : G6 → Int) (sG : G6 → G6) (sP : G6 → M3) (sB : G6 → Bool) (h : G6 → Int) (T : G6 → M3 → G6) (E : G6 → M3 → Int) (dd : M3 → Int) (dot : G6 → V3 → V3 → Int) (x0 x1 x2 x3 x4 x5 : G6 → Int)
def Rv : RV := ⟨obG, obP, obN, G6.mck, G6.detF, stG, stP, stB, shN, turG, turE, fun p => W p.det, fun m u v => W (m.dot u v), fun m => m.bc, fun m => m.ac, fun m => m.ab, fun m => W (W (W (0 - m.aa) - m.ab) - m.ac), fun m => W (W (W (0 - m.bb) - m.ab) - m.bc), fun m => W (W (W (0 - m.cc) - m.ac) - m.bc)⟩
def Cv0 (_ : RV) (P : Program) : Cx := CCf P
theorem okv0 : CxOk (Cv0 Rv Try.prog) := okCf
def Fv_40 (R : RV) : List Int → Option Value
  | [a0, a1, a2, a3, a4, a5] => some (p4v (R.G ⟨a0, a1, a2, a3, a4, a5⟩).v (R.P ⟨a0, a1, a2, a3, a4, a5⟩).v (vI (R.N ⟨a0, a1, a2, a3, a4, a5⟩)) (vI (R.K ⟨a0, a1, a2, a3, a4, a5⟩)))
  | _ => none
def Cv1 (R : RV) (P : Program) : Cx := (Cv0 R P).add 40 [some 6] (Fv_40 R)
theorem okv1 : CxOk (Cv1 Rv Try.prog) := Cx.dup_ok okv0 fun l v hl h => by
  match l, hl, h with
  | [a0, a1, a2, a3, a4, a5], _, hh =>
    have hh : some _ = some v := hh
    rw [← Option.some.inj hh]
    rfl
def Fv_20 (R : RV) : List Int → Option Value
  | [a0, a1, a2, a3, a4, a5] => some (vI (R.K ⟨a0, a1, a2, a3, a4, a5⟩))
  | _ => none
def Cv2 (R : RV) (P : Program) : Cx := (Cv1 R P).add 20 [some 6] (Fv_20 R)
theorem okv2 : CxOk (Cv2 Rv Try.prog) := Cx.dup_ok okv1 fun l v hl h => by
  match l, hl, h with
  | [a0, a1, a2, a3, a4, a5], _, hh =>
    have hh : some _ = some v := hh
    rw [← Option.some.inj hh]
    rfl
def Fv_22 (R : RV) : List Int → Option Value
  | [a0, a1, a2, a3, a4, a5] => some (p2 (vI (R.D ⟨a0, a1, a2, a3, a4, a5⟩)) (vI (R.K ⟨a0, a1, a2, a3, a4, a5⟩)))
  | _ => none
def Cv3 (R : RV) (P : Program) : Cx := (Cv2 R P).add 22 [some 6] (Fv_22 R)
theorem okv3 : CxOk (Cv3 Rv Try.prog) := Cx.dup_ok okv2 fun l v hl h => by
  match l, hl, h with
  | [a0, a1, a2, a3, a4, a5], _, hh =>
    have hh : some _ = some v := hh
    rw [← Option.some.inj hh]
    rfl
def Fv_37 (R : RV) : List Int → Option Value
  | [a0, a1, a2, a3, a4, a5] => some (p4v (R.sG ⟨a0, a1, a2, a3, a4, a5⟩).v (R.sP ⟨a0, a1, a2, a3, a4, a5⟩).v (.bool (R.sB ⟨a0, a1, a2, a3, a4, a5⟩)) (vI (R.K ⟨a0, a1, a2, a3, a4, a5⟩)))
  | _ => none
def Cv4 (R : RV) (P : Program) : Cx := (Cv3 R P).add 37 [some 6] (Fv_37 R)
theorem okv4 : CxOk (Cv4 Rv Try.prog) := Cx.dup_ok okv3 fun l v hl h => by
  match l, hl, h with
  | [a0, a1, a2, a3, a4, a5], _, hh =>
    have hh : some _ = some v := hh
    rw [← Option.some.inj hh]
    rfl
def Fv_42 (R : RV) : List Int → Option Value
  | [a0, a1, a2, a3, a4, a5] => some (p2 (vI (R.h ⟨a0, a1, a2, a3, a4, a5⟩)) (vI (R.K ⟨a0, a1, a2, a3, a4, a5⟩)))
  | _ => none
def Cv5 (R : RV) (P : Program) : Cx := (Cv4 R P).add 42 [some 6] (Fv_42 R)
theorem okv5 : CxOk (Cv5 Rv Try.prog) := Cx.dup_ok okv4 fun l v hl h => by
  match l, hl, h with
  | [a0, a1, a2, a3, a4, a5], _, hh =>
    have hh : some _ = some v := hh
    rw [← Option.some.inj hh]
    rfl
def Fv_44 (R : RV) : List Int → Option Value
  | [a0, a1, a2, a3, a4, a5, b0, b1, b2, b3, b4, b5, b6, b7, b8] => some (pGE (R.T ⟨a0, a1, a2, a3, a4, a5⟩ ⟨b0, b1, b2, b3, b4, b5, b6, b7, b8⟩) (R.E ⟨a0, a1, a2, a3, a4, a5⟩ ⟨b0, b1, b2, b3, b4, b5, b6, b7, b8⟩))
  | _ => none
def Cv6 (R : RV) (P : Program) : Cx := (Cv5 R P).add 44 [some 6, some 9] (Fv_44 R)
theorem okv6 : CxOk (Cv6 Rv Try.prog) := Cx.dup_ok okv5 fun l v hl h => by
  match l, hl, h with
  | [a0, a1, a2, a3, a4, a5, b0, b1, b2, b3, b4, b5, b6, b7, b8], _, hh =>
    have hh : some _ = some v := hh
    rw [← Option.some.inj hh]
    rfl
def Fv_48 (R : RV) : List Int → Option Value
  | [a0, a1, a2, a3, a4, a5, a6, a7, a8] => some (vI (R.dd ⟨a0, a1, a2, a3, a4, a5, a6, a7, a8⟩))
  | _ => none
def Cv7 (R : RV) (P : Program) : Cx := (Cv6 R P).add 48 [some 9] (Fv_48 R)
theorem okv7 : CxOk (Cv7 Rv Try.prog) := Cx.dup_ok okv6 fun l v hl h => by
  match l, hl, h with
  | [a0, a1, a2, a3, a4, a5, a6, a7, a8], _, hh =>
    have hh : some _ = some v := hh
    rw [← Option.some.inj hh]
    rfl
def Fv_49 (R : RV) : List Int → Option Value
  | [a0, a1, a2, a3, a4, a5, b0, b1, b2, c0, c1, c2] => some (vI (R.dot ⟨a0, a1, a2, a3, a4, a5⟩ ⟨b0, b1, b2⟩ ⟨c0, c1, c2⟩))
  | _ => none
def Cv8 (R : RV) (P : Program) : Cx := (Cv7 R P).add 49 [some 6, some 3, some 3] (Fv_49 R)
theorem okv8 : CxOk (Cv8 Rv Try.prog) := Cx.dup_ok okv7 fun l v hl h => by
  match l, hl, h with
  | [a0, a1, a2, a3, a4, a5, b0, b1, b2, c0, c1, c2], _, hh =>
    have hh : some _ = some v := hh
    rw [← Option.some.inj hh]
    rfl
def Fv_46 (R : RV) : List Int → Option Value
  | [a0, a1, a2, a3, a4, a5] => some (.agg #[vI (R.x0 ⟨a0, a1, a2, a3, a4, a5⟩), vI (R.x1 ⟨a0, a1, a2, a3, a4, a5⟩), vI (R.x2 ⟨a0, a1, a2, a3, a4, a5⟩), vI (R.x3 ⟨a0, a1, a2, a3, a4, a5⟩), vI (R.x4 ⟨a0, a1, a2, a3, a4, a5⟩), vI (R.x5 ⟨a0, a1, a2, a3, a4, a5⟩)])
  | _ => none
def Cv9 (R : RV) (P : Program) : Cx := (Cv8 R P).add 46 [some 6] (Fv_46 R)
theorem okv9 : CxOk (Cv9 Rv Try.prog) := Cx.dup_ok okv8 fun l v hl h => by
  match l, hl, h with
  | [a0, a1, a2, a3, a4, a5], _, hh =>
    have hh : some _ = some v := hh
    rw [← Option.some.inj hh]
    rfl
def Cv (R : RV) (P : Program) : Cx := Cv9 R P
theorem okv : CxOk (Cv Rv Try.prog) := okv9
end Go.Proofs.Ytofblakbfmjgkaa


namespace Go.Proofs.Ytofblakbfmjgkaa.Vx
open Go
def G6.Short (m : G6) (n : Int) : Prop := (∃ v : V3, v ≠ V3.zero ∧ m.dot v v = n) ∧ ∀ v : V3, v ≠ V3.zero → n ≤ m.dot v v
theorem G6.Short.unique {m : G6} {n k : Int} (h : m.Short n) (g : m.Short k) : n = k := by
  obtain ⟨⟨v, v1, v2⟩, h2⟩ := h
  obtain ⟨⟨u, u1, u2⟩, g2⟩ := g
  have := h2 u u1
  have := g2 v v1
  omega
theorem G6.Short.turn {m : G6} {p : M3} (hu : p.U) {n : Int} (h : m.Short n) : (m.turn p).Short n := by
  have hd : p.det ≠ 0 := by rcases hu with e | e <;> rw [e] <;> decide
  have hi : p.inv.det ≠ 0 := by rw [M3.det_inv hu]; exact hd
  obtain ⟨⟨v, v1, v2⟩, h2⟩ := h
  refine ⟨⟨p.inv.app v, fun e => v1 (app_inj hi e), ?_⟩, fun u hu' => ?_⟩
  · rw [dot_turn, ← M3.app_mul, M3.mul_inv hu, M3.app_one]; exact v2
  · rw [dot_turn]; exact h2 _ fun e => hu' (app_inj hd e)
theorem G6.Short.back {m : G6} {p : M3} (hu : p.U) {n : Int} (h : (m.turn p).Short n) : m.Short n := by
  have := h.turn (M3.U_inv hu)
  rwa [turn_mul, M3.mul_inv hu, turn_one] at this
/-- The square of a vector by the products of the four edges. -/
theorem selling (m : G6) (u : V3) : m.dot u u = -m.bc * ((u.y - u.z) * (u.y - u.z)) + -m.ac * ((u.x - u.z) * (u.x - u.z)) + -m.ab * ((u.x - u.y) * (u.x - u.y)) + -m.ad * (u.x * u.x) + -m.bd * (u.y * u.y) + -m.cd * (u.z * u.z) := by
  unfold G6.dot G6.ad G6.bd G6.cd; grind
def n01 (x : Int) : Int := if x = 0 then 0 else 1
theorem n01_sq (x : Int) : n01 x * n01 x ≤ x * x := by
  unfold n01
  split
  · have := sqn x; omega
  · rename_i h; have := sqp h; omega
theorem n01_diff (x y : Int) : (n01 x - n01 y) * (n01 x - n01 y) ≤ (x - y) * (x - y) := by
  have h := sqn (x - y)
  unfold n01
  split
  · split
    · omega
    · rename_i hx hy
      have := sqp (show x - y ≠ 0 by omega)
      omega
  · split
    · rename_i hx hy
      have := sqp (show x - y ≠ 0 by omega)
      omega
    · omega
theorem obt_least {m : G6} (h : m.Obt) (u : V3) : m.dot ⟨n01 u.x, n01 u.y, n01 u.z⟩ ⟨n01 u.x, n01 u.y, n01 u.z⟩ ≤ m.dot u u := by
  obtain ⟨h0, h1, h2, h3, h4, h5⟩ := h
  have mono : ∀ {a x y : Int}, a ≤ 0 → x ≤ y → -a * x ≤ -a * y := fun ha hxy => Int.mul_le_mul_of_nonneg_left hxy (by omega)
  rw [selling, selling]
  have a := mono h0 (n01_diff u.y u.z)
  have b := mono h1 (n01_diff u.x u.z)
  have c := mono h2 (n01_diff u.x u.y)
  have d := mono h3 (n01_sq u.x)
  have e := mono h4 (n01_sq u.y)
  have f := mono h5 (n01_sq u.z)
  simp only at a b c d e f ⊢
  omega
theorem min2I_le (x y : Int) : min2I x y ≤ x ∧ min2I x y ≤ y ∧ (min2I x y = x ∨ min2I x y = y) := by unfold min2I; split <;> omega
def shortT (g : G6) : Int := min2I (min2I (min2I (min2I (min2I (min2I g.aa (g.dot ⟨0, 1, 0⟩ ⟨0, 1, 0⟩)) (g.dot ⟨0, 0, 1⟩ ⟨0, 0, 1⟩)) (g.dot ⟨1, 1, 1⟩ ⟨1, 1, 1⟩)) (g.dot ⟨1, 1, 0⟩ ⟨1, 1, 0⟩)) (g.dot ⟨1, 0, 1⟩ ⟨1, 0, 1⟩)) (g.dot ⟨0, 1, 1⟩ ⟨0, 1, 1⟩)
theorem shortT_short {g : G6} (h : g.Obt) : g.Short (shortT g) := by
  have e0 : g.dot ⟨1, 0, 0⟩ ⟨1, 0, 0⟩ = g.aa := by simp [G6.dot]
  have m1 := min2I_le g.aa (g.dot ⟨0, 1, 0⟩ ⟨0, 1, 0⟩)
  have m2 := min2I_le (min2I g.aa (g.dot ⟨0, 1, 0⟩ ⟨0, 1, 0⟩)) (g.dot ⟨0, 0, 1⟩ ⟨0, 0, 1⟩)
  have m3 := min2I_le (min2I (min2I g.aa (g.dot ⟨0, 1, 0⟩ ⟨0, 1, 0⟩)) (g.dot ⟨0, 0, 1⟩ ⟨0, 0, 1⟩)) (g.dot ⟨1, 1, 1⟩ ⟨1, 1, 1⟩)
  have m4 := min2I_le (min2I (min2I (min2I g.aa (g.dot ⟨0, 1, 0⟩ ⟨0, 1, 0⟩)) (g.dot ⟨0, 0, 1⟩ ⟨0, 0, 1⟩)) (g.dot ⟨1, 1, 1⟩ ⟨1, 1, 1⟩)) (g.dot ⟨1, 1, 0⟩ ⟨1, 1, 0⟩)
  have m5 := min2I_le (min2I (min2I (min2I (min2I g.aa (g.dot ⟨0, 1, 0⟩ ⟨0, 1, 0⟩)) (g.dot ⟨0, 0, 1⟩ ⟨0, 0, 1⟩)) (g.dot ⟨1, 1, 1⟩ ⟨1, 1, 1⟩)) (g.dot ⟨1, 1, 0⟩ ⟨1, 1, 0⟩)) (g.dot ⟨1, 0, 1⟩ ⟨1, 0, 1⟩)
  have m6 := min2I_le (min2I (min2I (min2I (min2I (min2I g.aa (g.dot ⟨0, 1, 0⟩ ⟨0, 1, 0⟩)) (g.dot ⟨0, 0, 1⟩ ⟨0, 0, 1⟩)) (g.dot ⟨1, 1, 1⟩ ⟨1, 1, 1⟩)) (g.dot ⟨1, 1, 0⟩ ⟨1, 1, 0⟩)) (g.dot ⟨1, 0, 1⟩ ⟨1, 0, 1⟩)) (g.dot ⟨0, 1, 1⟩ ⟨0, 1, 1⟩)
  have el : shortT g = min2I (min2I (min2I (min2I (min2I (min2I g.aa (g.dot ⟨0, 1, 0⟩ ⟨0, 1, 0⟩)) (g.dot ⟨0, 0, 1⟩ ⟨0, 0, 1⟩)) (g.dot ⟨1, 1, 1⟩ ⟨1, 1, 1⟩)) (g.dot ⟨1, 1, 0⟩ ⟨1, 1, 0⟩)) (g.dot ⟨1, 0, 1⟩ ⟨1, 0, 1⟩)) (g.dot ⟨0, 1, 1⟩ ⟨0, 1, 1⟩) := rfl
  constructor
  · have : shortT g = g.aa ∨ shortT g = g.dot ⟨0, 1, 0⟩ ⟨0, 1, 0⟩ ∨ shortT g = g.dot ⟨0, 0, 1⟩ ⟨0, 0, 1⟩ ∨ shortT g = g.dot ⟨1, 1, 1⟩ ⟨1, 1, 1⟩ ∨ shortT g = g.dot ⟨1, 1, 0⟩ ⟨1, 1, 0⟩ ∨ shortT g = g.dot ⟨1, 0, 1⟩ ⟨1, 0, 1⟩ ∨ shortT g = g.dot ⟨0, 1, 1⟩ ⟨0, 1, 1⟩ := by omega
    rcases this with h | h | h | h | h | h | h
    · exact ⟨⟨1, 0, 0⟩, by simp [V3.zero_iff], by rw [h, e0]⟩
    · exact ⟨_, by simp [V3.zero_iff], h.symm⟩
    · exact ⟨_, by simp [V3.zero_iff], h.symm⟩
    · exact ⟨_, by simp [V3.zero_iff], h.symm⟩
    · exact ⟨_, by simp [V3.zero_iff], h.symm⟩
    · exact ⟨_, by simp [V3.zero_iff], h.symm⟩
    · exact ⟨_, by simp [V3.zero_iff], h.symm⟩
  · intro v hv
    have hl := obt_least h v
    have : shortT g ≤ g.dot ⟨n01 v.x, n01 v.y, n01 v.z⟩ ⟨n01 v.x, n01 v.y, n01 v.z⟩ := by
      unfold n01
      by_cases hx : v.x = 0 <;> by_cases hy : v.y = 0 <;> by_cases hz : v.z = 0
      · exact absurd (V3.zero_iff.2 ⟨hx, hy, hz⟩) hv
      all_goals (first | rw [if_pos hx] | rw [if_neg hx]); (first | rw [if_pos hy] | rw [if_neg hy]); (first | rw [if_pos hz] | rw [if_neg hz]); omega
    omega
theorem shortW_eq {g : G6} (hp : g.Pos) (hs : g.sq4 ≤ 1200000) : shortW g = shortT g := by
  have hb := hp.entries
  have k : ∀ u : V3, (u.x = 0 ∨ u.x = 1) → (u.y = 0 ∨ u.y = 1) → (u.z = 0 ∨ u.z = 1) → W (g.dot u u) = g.dot u u := fun u hx hy hz => by
    refine W_in ?_
    unfold G6.dot
    rcases hx with h | h <;> rcases hy with h' | h' <;> rcases hz with h'' | h'' <;> rw [h, h', h''] <;> simp only [Int.mul_zero, Int.mul_one, Int.add_zero, Int.zero_add] <;> omega
  unfold shortW shortT
  rw [k ⟨0, 1, 0⟩ (by simp) (by simp) (by simp), k ⟨0, 0, 1⟩ (by simp) (by simp) (by simp), k ⟨1, 1, 1⟩ (by simp) (by simp) (by simp), k ⟨1, 1, 0⟩ (by simp) (by simp) (by simp), k ⟨1, 0, 1⟩ (by simp) (by simp) (by simp), k ⟨0, 1, 1⟩ (by simp) (by simp) (by simp)]
theorem short_of {m : G6} (h : m.mck = 0) : m.Short (shN m) := by
  obtain ⟨hb, hp, _⟩ := G6.mck_zero h
  have fs := fin_spec hp hb.sq4
  have := fs.le
  have := fs.nn
  have h4 := hb.sq4
  have e : shN m = shortT m.fin.1 := by unfold shN; rw [h]; exact shortW_eq fs.pos (by omega)
  rw [e]
  have hu : m.fin.2.1.U := by unfold M3.U; rw [fs.det]; unfold sgn2; split <;> simp
  refine G6.Short.back hu ?_
  rw [← fs.turn]
  exact shortT_short (obt_of fs.obt)
theorem short_pos {m : G6} (h : m.mck = 0) : 0 < shN m := by
  obtain ⟨⟨v, v1, v2⟩, _⟩ := short_of h
  rw [← v2]
  exact (G6.mck_zero h).2.1 v v1
/-- Other edges of the same lattice. -/
theorem short_turn {m : G6} {p : M3} (h : m.mck = 0) (hu : p.U) (hk : (m.turn p).mck = 0) : shN (m.turn p) = shN m :=
  G6.Short.unique (short_of hk) ((short_of h).turn hu)
end Go.Proofs.Ytofblakbfmjgkaa.Vx

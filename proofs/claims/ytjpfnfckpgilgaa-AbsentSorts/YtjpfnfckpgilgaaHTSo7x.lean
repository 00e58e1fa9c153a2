/-
  Sort and DocSort as contracts. Nothing here is trusted.
-/
import Derived.Test.YtjpfnfckpgilgaaHTSl1
namespace Go.Proofs.Ytjpfnfckpgilgaa
open Go Vx Go.RowKit
def soF : List Value → Mem → Option (Ans (Value × Mem))
  | [.slice (some ⟨0, 0, some 0⟩) N 12, .slice (some ⟨1, 0, some 0⟩) M 3], [.rows own true 12 N2 row, .rows own2 true 3 M2 row2] => some (.br ((Nat.beq N N2 && okOps N row) && (Nat.beq M M2 && (okVcs M row2 && decide ((M : Int) ≤ 9223372036854775807)))) (.br (leastN (kxI (vcsOf M row2)) (chkI (opsOf N row)) != 0) (.out (.tuple #[.slice none 0 0, .slice none 0 0, vI (leastN (kxI (vcsOf M row2)) (chkI (opsOf N row)))], [.rows own true 12 N (opRow (opsOf N row)), .rows own2 true 3 M (vcRow (vcsOf M row2))])) (.br (soL (opsOf N row) (vcsOf M row2)).isEmpty (.br (soM (opsOf N row) (vcsOf M row2)).isEmpty (.out (.tuple #[.slice none 0 0, .slice none 0 0, vI 0], [.rows own true 12 N (opRow (opsOf N row)), .rows own2 true 3 M (vcRow (vcsOf M row2)), .no, .no])) (.out (.tuple #[.slice none 0 0, .slice (some ⟨3, 0, some 0⟩) (soM (opsOf N row) (vcsOf M row2)).length 3, vI 0], [.rows own true 12 N (opRow (opsOf N row)), .rows own2 true 3 M (vcRow (vcsOf M row2)), .no, .rows true true 3 (soM (opsOf N row) (vcsOf M row2)).length (vcRow (soM (opsOf N row) (vcsOf M row2)))]))) (.br (soM (opsOf N row) (vcsOf M row2)).isEmpty (.out (.tuple #[.slice (some ⟨2, 0, some 0⟩) (soL (opsOf N row) (vcsOf M row2)).length 3, .slice none 0 0, vI 0], [.rows own true 12 N (opRow (opsOf N row)), .rows own2 true 3 M (vcRow (vcsOf M row2)), .rows true true 3 (soL (opsOf N row) (vcsOf M row2)).length (vcRow (soL (opsOf N row) (vcsOf M row2))), .no])) (.out (.tuple #[.slice (some ⟨2, 0, some 0⟩) (soL (opsOf N row) (vcsOf M row2)).length 3, .slice (some ⟨3, 0, some 0⟩) (soM (opsOf N row) (vcsOf M row2)).length 3, vI 0], [.rows own true 12 N (opRow (opsOf N row)), .rows own2 true 3 M (vcRow (vcsOf M row2)), .rows true true 3 (soL (opsOf N row) (vcsOf M row2)).length (vcRow (soL (opsOf N row) (vcsOf M row2))), .rows true true 3 (soM (opsOf N row) (vcsOf M row2)).length (vcRow (soM (opsOf N row) (vcsOf M row2)))]))))) .fail)
  | _, _ => none
theorem soF_ok {args : List Value} {m : Mem} {ans : Ans (Value × Mem)} {v : Value} {m' : Mem} (h : soF args m = some ans) (hr : ans.res = some (v, m')) : MemSem Try.prog 26 args m v m' := by
  unfold soF at h
  split at h
  rotate_left
  · cases h
  rename_i N M own N2 row own2 M2 row2
  simp only [Option.some.injEq] at h
  subst h
  rcases Ans.br_some hr with ⟨hc, hr1⟩ | ⟨_, hr1⟩
  rotate_left
  · simp [Ans.res] at hr1
  clear hr
  simp only [Bool.and_eq_true, decide_eq_true_eq] at hc
  obtain ⟨⟨c1, c2⟩, c3, c4, c5⟩ := hc
  have c1 := beq_len c1
  have c3 := beq_len c3
  subst c1 c3
  have hx := opsOf_length N row
  have hy := vcsOf_length M row2
  rcases Ans.br_some hr1 with ⟨hq, hr2⟩ | ⟨hq, hr2⟩
  · simp only [Ans.res, Option.some.injEq, Prod.mk.injEq] at hr2
    obtain ⟨rfl, rfl⟩ := hr2
    have := soSe own own2 (opsOf N row) (vcsOf M row2) (by rw [hy]; exact c5) (by simpa using hq)
    rw [hx, hy] at this
    exact this.like ⟨.rows (ops_like c2), .rows (vcs_like c4), trivial⟩
  · have := soS own own2 (opsOf N row) (vcsOf M row2) (by simpa using hq)
    rw [hx, hy] at this
    have this := this.like (m := [.rows own true 12 N row, .rows own2 true 3 M row2]) ⟨.rows (ops_like c2), .rows (vcs_like c4), trivial⟩
    generalize soL (opsOf N row) (vcsOf M row2) = P at this hr2
    generalize soM (opsOf N row) (vcsOf M row2) = Q at this hr2
    cases P with
    | nil =>
      cases Q with
      | nil =>
        simp only [Ans.res, List.isEmpty_nil, Option.some.injEq, Prod.mk.injEq] at hr2
        obtain ⟨rfl, rfl⟩ := hr2
        exact this
      | cons q Q =>
        simp only [Ans.res, List.isEmpty_nil, List.isEmpty_cons, Option.some.injEq, Prod.mk.injEq] at hr2
        obtain ⟨rfl, rfl⟩ := hr2
        exact this
    | cons p P =>
      cases Q with
      | nil =>
        simp only [Ans.res, List.isEmpty_nil, List.isEmpty_cons, Option.some.injEq, Prod.mk.injEq] at hr2
        obtain ⟨rfl, rfl⟩ := hr2
        exact this
      | cons q Q =>
        simp only [Ans.res, List.isEmpty_cons, Option.some.injEq, Prod.mk.injEq] at hr2
        obtain ⟨rfl, rfl⟩ := hr2
        exact this
def dsF : List Value → Mem → Option (Ans (Value × Mem))
  | [.slice (some ⟨0, 0, some 0⟩) N 12, .slice (some ⟨1, 0, some 0⟩) M 3], [.rows own true 12 N2 row, .rows own2 true 3 M2 row2] => some (.br ((Nat.beq N N2 && okOps N row) && (Nat.beq M M2 && (okVcs M row2 && decide ((M : Int) ≤ 9223372036854775807)))) (.br (leastN (kxI (vcsOf M row2)) (chkI (opsOf N row)) != 0) (.out (.tuple #[.slice none 0 0, .slice none 0 0, vI (leastN (kxI (vcsOf M row2)) (chkI (opsOf N row)))], [.rows own true 12 N (opRow (opsOf N row)), .rows own2 true 3 M (vcRow (vcsOf M row2))])) (.br (soL (opsOf N row) (vcsOf M row2)).isEmpty (.br (soM (opsOf N row) (vcsOf M row2)).isEmpty (.out (.tuple #[.slice none 0 0, .slice none 0 0, vI 0], [.rows own true 12 N (opRow (opsOf N row)), .rows own2 true 3 M (vcRow (vcsOf M row2)), .no, .no])) (.out (.tuple #[.slice none 0 0, .slice (some ⟨3, 0, some 0⟩) (soM (opsOf N row) (vcsOf M row2)).length 3, vI 0], [.rows own true 12 N (opRow (opsOf N row)), .rows own2 true 3 M (vcRow (vcsOf M row2)), .no, .rows true true 3 (soM (opsOf N row) (vcsOf M row2)).length (vcRow (soM (opsOf N row) (vcsOf M row2)))]))) (.br (soM (opsOf N row) (vcsOf M row2)).isEmpty (.out (.tuple #[.slice (some ⟨2, 0, some 0⟩) (soL (opsOf N row) (vcsOf M row2)).length 3, .slice none 0 0, vI 0], [.rows own true 12 N (opRow (opsOf N row)), .rows own2 true 3 M (vcRow (vcsOf M row2)), .rows true true 3 (soL (opsOf N row) (vcsOf M row2)).length (vcRow (soL (opsOf N row) (vcsOf M row2))), .no])) (.out (.tuple #[.slice (some ⟨2, 0, some 0⟩) (soL (opsOf N row) (vcsOf M row2)).length 3, .slice (some ⟨3, 0, some 0⟩) (soM (opsOf N row) (vcsOf M row2)).length 3, vI 0], [.rows own true 12 N (opRow (opsOf N row)), .rows own2 true 3 M (vcRow (vcsOf M row2)), .rows true true 3 (soL (opsOf N row) (vcsOf M row2)).length (vcRow (soL (opsOf N row) (vcsOf M row2))), .rows true true 3 (soM (opsOf N row) (vcsOf M row2)).length (vcRow (soM (opsOf N row) (vcsOf M row2)))]))))) .fail)
  | _, _ => none
theorem dsF_ok {args : List Value} {m : Mem} {ans : Ans (Value × Mem)} {v : Value} {m' : Mem} (h : dsF args m = some ans) (hr : ans.res = some (v, m')) : MemSem Try.prog 27 args m v m' := by
  unfold dsF at h
  split at h
  rotate_left
  · cases h
  rename_i N M own N2 row own2 M2 row2
  simp only [Option.some.injEq] at h
  subst h
  rcases Ans.br_some hr with ⟨hc, hr1⟩ | ⟨_, hr1⟩
  rotate_left
  · simp [Ans.res] at hr1
  clear hr
  simp only [Bool.and_eq_true, decide_eq_true_eq] at hc
  obtain ⟨⟨c1, c2⟩, c3, c4, c5⟩ := hc
  have c1 := beq_len c1
  have c3 := beq_len c3
  subst c1 c3
  have hx := opsOf_length N row
  have hy := vcsOf_length M row2
  rcases Ans.br_some hr1 with ⟨hq, hr2⟩ | ⟨hq, hr2⟩
  · simp only [Ans.res, Option.some.injEq, Prod.mk.injEq] at hr2
    obtain ⟨rfl, rfl⟩ := hr2
    have := dsSe own own2 (opsOf N row) (vcsOf M row2) (by rw [hy]; exact c5) (by simpa using hq)
    rw [hx, hy] at this
    exact this.like ⟨.rows (ops_like c2), .rows (vcs_like c4), trivial⟩
  · have := dsSg own own2 (opsOf N row) (vcsOf M row2) (by simpa using hq)
    rw [hx, hy] at this
    have this := this.like (m := [.rows own true 12 N row, .rows own2 true 3 M row2]) ⟨.rows (ops_like c2), .rows (vcs_like c4), trivial⟩
    generalize soL (opsOf N row) (vcsOf M row2) = P at this hr2
    generalize soM (opsOf N row) (vcsOf M row2) = Q at this hr2
    cases P with
    | nil =>
      cases Q with
      | nil =>
        simp only [Ans.res, List.isEmpty_nil, Option.some.injEq, Prod.mk.injEq] at hr2
        obtain ⟨rfl, rfl⟩ := hr2
        exact this
      | cons q Q =>
        simp only [Ans.res, List.isEmpty_nil, List.isEmpty_cons, Option.some.injEq, Prod.mk.injEq] at hr2
        obtain ⟨rfl, rfl⟩ := hr2
        exact this
    | cons p P =>
      cases Q with
      | nil =>
        simp only [Ans.res, List.isEmpty_nil, List.isEmpty_cons, Option.some.injEq, Prod.mk.injEq] at hr2
        obtain ⟨rfl, rfl⟩ := hr2
        exact this
      | cons q Q =>
        simp only [Ans.res, List.isEmpty_cons, Option.some.injEq, Prod.mk.injEq] at hr2
        obtain ⟨rfl, rfl⟩ := hr2
        exact this
def Csx (P : Program) : Cx := ((((Cow P).addE 28 smxF).addF 26 soF).addF 27 dsF)
theorem oksx : CxOk (Csx Try.prog) := Cx.addF_ok (Cx.addF_ok (Cx.addE_ok okow smxF_ok) fun _ _ _ _ _ h hr => soF_ok h hr) fun _ _ _ _ _ h hr => dsF_ok h hr
/-- The law's five cases: the path of both contracts. -/
def Cgx (p : List Bool) (P : Program) : Cx := ((Csx P).good 26 p).good 27 p
theorem okgx (p : List Bool) : CxOk (Cgx p Try.prog) := Cx.good_ok (Cx.good_ok oksx _ _) _ _
end Go.Proofs.Ytjpfnfckpgilgaa

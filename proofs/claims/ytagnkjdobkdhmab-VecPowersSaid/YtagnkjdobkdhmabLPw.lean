/-
  The loop of the statement VecPowers. Nothing here is trusted.
-/
import Derived.Test.YtagnkjdobkdhmabTPw
namespace Go.Proofs.Ytagnkjdobkdhmab
open Go Vx

def pwX (P : Program) : Code := (loopsOf P 6 9).headD .skip
theorem pwX_eq : loopsOf Try.prog 6 9 = [pwX Try.prog] := by kernel_rfl
def pwH (m : M3) (p : M3) (q : M3) (n : Int) (e : Int) (k : Int) : St := stOf 120 [(2, .pointer (some ⟨0, 0, none⟩)), (3, .pointer (some ⟨1, 0, none⟩)), (5, vI n), (6, vI e), (7, .pointer (some ⟨2, 0, none⟩)), (8, vI k)] [.cells true 0 m.cells, .cells true 0 p.cells, .cells true 0 q.cells]
theorem pwR (m : M3) (p : M3) (q : M3) (n : Int) (e : Int) (k : Int) : roundR ((CCv Try.prog).at 6) 40 (pwX Try.prog) [2, 3, 5, 6, 7, 8] [2, 3, 4, 5, 6] 3 (pwH m p q n e k) =
    match decide (k ≤ 12) with
    | true => match q.mulE m != 0 with
      | true => some (.exit 0, stOf 120 [(2, .pointer (some ⟨0, 0, none⟩)), (3, .pointer (some ⟨1, 0, none⟩)), (5, vI n), (6, vI e)] [.cells true 0 m.cells, .cells true 0 p.cells, .cells true 0 (q.mulF m).cells])
      | false => match e == 0 with
        | true => match maxI n == 0 with
          | true => none
          | false => match (q.mulF m).eqB M3.one != (Int.tmod k (maxI n) == 0) with
            | true => some (.ret, stOf 120 [(2, .pointer (some ⟨0, 0, none⟩)), (3, .pointer (some ⟨1, 0, none⟩)), (4, .bool false), (5, vI n), (6, vI e)] [.cells true 0 m.cells, .cells true 0 p.cells, .cells true 0 (q.mulF m).cells])
            | false => some (.normal, pwH m p (q.mulF m) n e (W (k + 1)))
        | false => match (q.mulF m).eqB M3.one != false with
          | true => some (.ret, stOf 120 [(2, .pointer (some ⟨0, 0, none⟩)), (3, .pointer (some ⟨1, 0, none⟩)), (4, .bool false), (5, vI n), (6, vI e)] [.cells true 0 m.cells, .cells true 0 p.cells, .cells true 0 (q.mulF m).cells])
          | false => some (.normal, pwH m p (q.mulF m) n e (W (k + 1)))
    | false => some (.exit 0, stOf 120 [(2, .pointer (some ⟨0, 0, none⟩)), (3, .pointer (some ⟨1, 0, none⟩)), (5, vI n), (6, vI e)] [.cells true 0 m.cells, .cells true 0 p.cells, .cells true 0 q.cells]) := by kernel_rfl
structure pwG where
  (m : M3) (p : M3) (q : M3) (n : Int) (e : Int) (k : Int)
def pwO (m : M3) (p : M3) (q : M3) (n : Int) (e : Int) (k : Int) : Exit × St :=
  (.exit 0, stOf 120 [(2, .pointer (some ⟨0, 0, none⟩)), (3, .pointer (some ⟨1, 0, none⟩)), (5, vI n), (6, vI e)] [.cells true 0 m.cells, .cells true 0 p.cells, .cells true 0 (mulQ m (13 - k).toNat q).cells])
theorem pwL (m : M3) (p : M3) (q : M3) (n : Int) (e : Int) (k : Int) (hg : (powI m q n e k) = true) : LoopSem Try.prog (pwX Try.prog) (pwH m p q n e k) (pwO m p q n e k).1 (pwO m p q n e k).2 := by
  refine loop_rule (C := CCv Try.prog) okCv (f := 6) (loopsOf_in (k := 9) pwX_eq) 40 [2, 3, 5, 6, 7, 8] [2, 3, 4, 5, 6] 3 (fun g : pwG => pwH g.m g.p g.q g.n g.e g.k) (fun g => (13 - g.k).toNat) (fun g => (powI g.m g.q g.n g.e g.k) = true) (fun g => pwO g.m g.p g.q g.n g.e g.k) (fun _ => rfl) ?_ ⟨m, p, q, n, e, k⟩ hg
  clear hg
  rintro ⟨m, p, q, n, e, k⟩ hg
  simp only at hg
  simp only [pwR]
  by_cases hi : k ≤ 12
  · have hd : decide (k ≤ 12) = true := by simpa using hi
    rw [hd]
    have hk : (13 - k).toNat = (13 - (k + 1)).toNat + 1 := by omega
    cases he : q.mulE m != 0 with
    | true =>
      right
      have hp : mulQ m (13 - k).toNat q = q.mulF m := by rw [hk]; simp only [mulQ, he]
      unfold pwO
      simp only [hp]
      exact ⟨trivial, by simp⟩
    | false =>
      have hz : q.mulE m = 0 := by simpa using he
      obtain ⟨g1, g2, g3⟩ := pow_step hg hi hz
      have hp : mulQ m (13 - k).toNat q = mulQ m (13 - (k + 1)).toNat (q.mulF m) := by rw [hk]; simp only [mulQ, he]
      have hk1 := (powI_iff.1 hg).2.2.2.2.1
      have hw : W (k + 1) = k + 1 := W_in (by omega)
      left
      refine ⟨⟨m, p, q.mulF m, n, e, k + 1⟩, ?_, g1, by simp only; omega, by unfold pwO; simp only [hp]⟩
      cases h0 : e == 0 with
      | true => obtain ⟨a1, a2⟩ := g2 h0; rw [a1, a2]; simp only [hw]
      | false => rw [g3 h0]; simp only [hw]
  · have hd : decide (k ≤ 12) = false := by simpa using hi
    rw [hd]
    right
    have hk : (13 - k).toNat = 0 := by omega
    unfold pwO
    simp only [hk, mulQ]
    exact ⟨by first | trivial | rfl, by simp⟩
def pwS (st : St) : Option (Ans (Exit × St)) :=
  match sized st 120 3 && (ptrIs st.tmps[2]? 0 && (ptrIs st.tmps[3]? 1 && (ptrIs st.tmps[7]? 2))), intAt st.tmps[5]?, intAt st.tmps[6]?, intAt st.tmps[8]?, matCells (ownCells st.mem[0]?), matCells (ownCells st.mem[1]?), matCells (ownCells st.mem[2]?) with
  | true, some n, some e, some k, some m, some p, some q => some (.br (powI m q n e k) (.out (.exit 0, stOf 120 [(2, .pointer (some ⟨0, 0, none⟩)), (3, .pointer (some ⟨1, 0, none⟩)), (5, vI n), (6, vI e)] [.cells true 0 m.cells, .cells true 0 p.cells, .cells true 0 (mulQ m (13 - k).toNat q).cells])) .fail)
  | _, _, _, _, _, _, _ => none
theorem pwK {st : St} {ans : Ans (Exit × St)} {e : Exit} {s : St} (h : pwS st = some ans) (hr : ans.res = some (e, s)) : LoopSem Try.prog (pwX Try.prog) st e s := by
  unfold pwS at h
  split at h
  · rename_i n e k m p q hb h_n h_e h_k h_m h_p h_q
    simp only [Bool.and_eq_true] at hb
    obtain ⟨hb0, hb1, hb2, hb3⟩ := hb
    simp only [Option.some.injEq] at h
    subst h
    rcases Ans.br_some hr with ⟨hc, hr⟩ | ⟨_, hr⟩
    · have hc := hc
      have hm0 := ownCells_spec (matCells_spec h_m) (by simp [M3.cells])
      have hm1 := ownCells_spec (matCells_spec h_p) (by simp [M3.cells])
      have hm2 := ownCells_spec (matCells_spec h_q) (by simp [M3.cells])
      have hml : st.mem.length = 3 := by unfold sized at hb0; rw [Bool.and_eq_true] at hb0; exact Nat.eq_of_beq_eq_true hb0.2
      have hm : st.mem = [.cells true 0 m.cells, .cells true 0 p.cells, .cells true 0 q.cells] := mem_of hml (fun j hj => by
        simp only [List.length_cons, List.length_nil] at hj
        have : j = 0 ∨ j = 1 ∨ j = 2 := by omega
        rcases this with rfl | rfl | rfl
        · exact hm0
        · exact hm1
        · exact hm2)
      have hk := stOf_keep hb0 [(2, .pointer (some ⟨0, 0, none⟩)), (3, .pointer (some ⟨1, 0, none⟩)), (5, vI n), (6, vI e), (7, .pointer (some ⟨2, 0, none⟩)), (8, vI k)] (by
        intro x hx
        simp only [List.mem_cons, List.not_mem_nil, or_false] at hx
        rcases hx with rfl | rfl | rfl | rfl | rfl | rfl
        · exact ptrIs_spec hb1
        · exact ptrIs_spec hb2
        · exact intAt_spec h_n
        · exact intAt_spec h_e
        · exact ptrIs_spec hb3
        · exact intAt_spec h_k) hm
      have key := pwL m p q n e k hc
      unfold pwH at key
      rw [← hk] at key
      have key := LoopSem.clean key
      unfold pwO at key
      simp only [Ans.res, Option.some.injEq, Prod.mk.injEq] at hr
      obtain ⟨rfl, rfl⟩ := hr
      exact key
    · simp [Ans.res] at hr
  · cases h

def Cp (P : Program) : Cx := (CCv P).addL 6 9 pwS
theorem okp : CxOk (Cp Try.prog) := Cx.addL_ok okCv pwX_eq fun _ _ _ _ h hr => pwK h hr
end Go.Proofs.Ytagnkjdobkdhmab

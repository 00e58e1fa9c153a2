/-
  The loop of the statement OpTurns. Nothing here is trusted.
-/
import Derived.Test.YtlkmphmiegegbaaTAw3
import Derived.Test.YtlkmphmiegegbaaTurnT
namespace Go.Proofs.Ytlkmphmiegegbaa
open Go Vx

def turnX (P : Program) : Code := (loopsOf P 9 11).headD .skip
theorem turnX_eq : loopsOf Try.prog 9 11 = [turnX Try.prog] := by kernel_rfl
def turnH (o : O3) (m : O3) (p : O3) (n : Int) (k : Int) (i : Int) : St := stOf 167 [(2, .pointer (some ⟨0, 0, none⟩)), (3, .pointer (some ⟨1, 0, none⟩)), (5, vI n), (7, vI k), (9, .pointer (some ⟨2, 0, none⟩)), (10, vI i)] [.cells true 0 o.cells, .cells true 0 m.cells, .cells true 0 p.cells]
theorem turnR (o : O3) (m : O3) (p : O3) (n : Int) (k : Int) (i : Int) : roundR ((CCw Try.prog).into 9 0) 40 (turnX Try.prog) [2, 3, 5, 7, 9, 10] [2, 3, 4, 5, 7] [.fix 0, .fix 1, .fix 2] [.fix 0, .fix 1, .fix 2] (turnH o m p n k i) =
    match decide (i ≤ n) with
    | true => match o.mulE p != 0 with
      | true => some (.ret, stOf 167 [(2, .pointer (some ⟨0, 0, none⟩)), (3, .pointer (some ⟨1, 0, none⟩)), (4, .bool (o.mulE p == 4)), (5, vI n), (7, vI k)] [.cells true 0 o.cells, .cells true 0 m.cells, .cells true 0 p.cells])
      | false => match (o.mulF p).eqB O3.one != (i == n) with
        | true => some (.ret, stOf 167 [(2, .pointer (some ⟨0, 0, none⟩)), (3, .pointer (some ⟨1, 0, none⟩)), (4, .bool false), (5, vI n), (7, vI k)] [.cells true 0 o.cells, .cells true 0 m.cells, .cells true 0 p.cells])
        | false => some (.normal, turnH o m (o.mulF p) n k (W (i + 1)))
    | false => some (.exit 0, stOf 167 [(2, .pointer (some ⟨0, 0, none⟩)), (3, .pointer (some ⟨1, 0, none⟩)), (5, vI n), (7, vI k)] [.cells true 0 o.cells, .cells true 0 m.cells, .cells true 0 p.cells]) := by kernel_rfl
structure turnG where
  (o : O3) (m : O3) (p : O3) (n : Int) (k : Int) (i : Int)
def turnO (o : O3) (m : O3) (p : O3) (n : Int) (k : Int) (i : Int) : Exit × St :=
  match (powL o (n + 1 - i).toNat p).2 == 0 with
  | true => (.exit 0, stOf 167 [(2, .pointer (some ⟨0, 0, none⟩)), (3, .pointer (some ⟨1, 0, none⟩)), (5, vI n), (7, vI k)] [.cells true 0 o.cells, .cells true 0 m.cells, .cells true 0 (powL o (n + 1 - i).toNat p).1.cells])
  | false => (.ret, stOf 167 [(2, .pointer (some ⟨0, 0, none⟩)), (3, .pointer (some ⟨1, 0, none⟩)), (4, .bool ((powL o (n + 1 - i).toNat p).2 == 4)), (5, vI n), (7, vI k)] [.cells true 0 o.cells, .cells true 0 m.cells, .cells true 0 (powL o (n + 1 - i).toNat p).1.cells])
theorem turnL (o : O3) (m : O3) (p : O3) (n : Int) (k : Int) (i : Int) (hg : (turnI o p n i) = true ∧ (decide (n ≤ 144)) = true) : LoopSem Try.prog 0 (turnX Try.prog) (turnH o m p n k i) (turnO o m p n k i).1 (turnO o m p n k i).2 := by
  refine loop_rule (C := CCw Try.prog) okCw (f := 9) (B := 0) (loopsOf_in (k := 11) turnX_eq) 40 [2, 3, 5, 7, 9, 10] [2, 3, 4, 5, 7] [.fix 0, .fix 1, .fix 2] [.fix 0, .fix 1, .fix 2] (fun g : turnG => turnH g.o g.m g.p g.n g.k g.i) (fun g => (g.n + 1 - g.i).toNat) (fun g => (turnI g.o g.p g.n g.i) = true ∧ (decide (g.n ≤ 144)) = true) (fun g => turnO g.o g.m g.p g.n g.k g.i) ?_ ⟨o, m, p, n, k, i⟩ hg
  clear hg
  rintro ⟨o, m, p, n, k, i⟩ hg
  simp only at hg
  simp only [turnR]
  by_cases hi : i ≤ n
  · have hd : decide (i ≤ n) = true := by simpa using hi
    rw [hd]
    have hk : (n + 1 - i).toNat = (n + 1 - (i + 1)).toNat + 1 := by omega
    cases he : o.mulE p != 0 with
    | true =>
      right
      have hne : (o.mulE p == 0) = false := by simpa using he
      have hp : powL o (n + 1 - i).toNat p = (p, o.mulE p) := by rw [hk]; simp only [powL, he]
      unfold turnO
      simp only [hp, hne]
      exact ⟨trivial, by simp⟩
    | false =>
      have hz : o.mulE p = 0 := by simpa using he
      obtain ⟨g1, g2⟩ := turn_step hg.1 hi hz
      rw [g2]
      left
      have hp : powL o (n + 1 - i).toNat p = powL o (n + 1 - (i + 1)).toNat (o.mulF p) := by rw [hk]; simp only [powL, he]
      have h144 : n ≤ 144 := by simpa using hg.2
      have hi0 := (turnI_iff.1 hg.1).2.2.2.2.1
      have hw : W (i + 1) = i + 1 := W_in (by omega)
      refine ⟨⟨o, m, o.mulF p, n, k, i + 1⟩, by simp only [hw], ?_, ?_, ?_⟩
      · exact ⟨g1, hg.2⟩
      · simp only; omega
      · unfold turnO; simp only [hp]
  · have hd : decide (i ≤ n) = false := by simpa using hi
    rw [hd]
    right
    have hk : (n + 1 - i).toNat = 0 := by omega
    unfold turnO
    simp only [hk, powL]
    exact ⟨by first | trivial | rfl, by simp⟩
def turnS (st : St) : Option (Ans (Exit × St)) :=
  match sized st 167 3 && (ptrIs st.tmps[2]? 0 && (ptrIs st.tmps[3]? 1 && (ptrIs st.tmps[9]? 2))), intAt st.tmps[5]?, intAt st.tmps[7]?, intAt st.tmps[10]?, opCells (ownCells st.mem[0]?), opCells (ownCells st.mem[1]?), opCells (ownCells st.mem[2]?) with
  | true, some n, some k, some i, some o, some m, some p => some (.br (turnI o p n i && (decide (n ≤ 144))) (.br ((powL o (n + 1 - i).toNat p).2 == 0)
      (.out (.exit 0, stOf 167 [(2, .pointer (some ⟨0, 0, none⟩)), (3, .pointer (some ⟨1, 0, none⟩)), (5, vI n), (7, vI k)] [.cells true 0 o.cells, .cells true 0 m.cells, .cells true 0 (powL o (n + 1 - i).toNat p).1.cells]))
      (.out (.ret, stOf 167 [(2, .pointer (some ⟨0, 0, none⟩)), (3, .pointer (some ⟨1, 0, none⟩)), (4, .bool ((powL o (n + 1 - i).toNat p).2 == 4)), (5, vI n), (7, vI k)] [.cells true 0 o.cells, .cells true 0 m.cells, .cells true 0 (powL o (n + 1 - i).toNat p).1.cells]))) .fail)
  | _, _, _, _, _, _, _ => none
theorem turnK {st : St} {ans : Ans (Exit × St)} {e : Exit} {s : St} (h : turnS st = some ans) (hr : ans.res = some (e, s)) : LoopSem Try.prog 0 (turnX Try.prog) st e s := by
  unfold turnS at h
  split at h
  · rename_i n k i o m p hb h_n h_k h_i h_o h_m h_p
    simp only [Bool.and_eq_true] at hb
    obtain ⟨hb0, hb1, hb2, hb3⟩ := hb
    simp only [Option.some.injEq] at h
    subst h
    rcases Ans.br_some hr with ⟨hc, hr⟩ | ⟨_, hr⟩
    · simp only [Bool.and_eq_true] at hc
      have hm0 := ownCells_spec (opCells_spec h_o) (by simp [O3.cells])
      have hm1 := ownCells_spec (opCells_spec h_m) (by simp [O3.cells])
      have hm2 := ownCells_spec (opCells_spec h_p) (by simp [O3.cells])
      have hml : st.mem.length = 3 := by unfold sized at hb0; rw [Bool.and_eq_true] at hb0; exact Nat.eq_of_beq_eq_true hb0.2
      have hm : st.mem = [.cells true 0 o.cells, .cells true 0 m.cells, .cells true 0 p.cells] := mem_of hml (fun j hj => by
        simp only [List.length_cons, List.length_nil] at hj
        have : j = 0 ∨ j = 1 ∨ j = 2 := by omega
        rcases this with rfl | rfl | rfl
        · exact hm0
        · exact hm1
        · exact hm2)
      have hk := stOf_keep hb0 [(2, .pointer (some ⟨0, 0, none⟩)), (3, .pointer (some ⟨1, 0, none⟩)), (5, vI n), (7, vI k), (9, .pointer (some ⟨2, 0, none⟩)), (10, vI i)] (by
        intro x hx
        simp only [List.mem_cons, List.not_mem_nil, or_false] at hx
        rcases hx with rfl | rfl | rfl | rfl | rfl | rfl
        · exact ptrIs_spec hb1
        · exact ptrIs_spec hb2
        · exact intAt_spec h_n
        · exact intAt_spec h_k
        · exact ptrIs_spec hb3
        · exact intAt_spec h_i) hm
      have key := turnL o m p n k i hc
      unfold turnH at key
      rw [← hk] at key
      have key := LoopSem.clean key
      unfold turnO at key
      rcases Ans.br_some hr with ⟨hq, hr⟩ | ⟨hq, hr⟩
      · simp only [hq] at key
        simp only [Ans.res, Option.some.injEq, Prod.mk.injEq] at hr
        obtain ⟨rfl, rfl⟩ := hr
        exact key
      · simp only [hq] at key
        simp only [Ans.res, Option.some.injEq, Prod.mk.injEq] at hr
        obtain ⟨rfl, rfl⟩ := hr
        exact key
    · simp [Ans.res] at hr
  · cases h

def Ct (P : Program) : Cx := (CCw P).addLB 9 11 0 turnS
theorem okt : CxOk (Ct Try.prog) := Cx.addLB_ok okCw turnX_eq fun _ _ _ _ h hr => turnK h hr
end Go.Proofs.Ytlkmphmiegegbaa

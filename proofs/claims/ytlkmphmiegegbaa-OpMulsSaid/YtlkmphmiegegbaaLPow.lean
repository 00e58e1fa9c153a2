/-
  The loop of op.Power. Nothing here is trusted.
-/
import Derived.Test.YtlkmphmiegegbaaTRef3
import Derived.Test.YtlkmphmiegegbaaPowT
namespace Go.Proofs.Ytlkmphmiegegbaa
open Go Vx

def powAX (P : Program) : Code := (loopsOf P 23 13).headD .skip
theorem powAX_eq : loopsOf Try.prog 23 13 = [powAX Try.prog] := by kernel_rfl
def powAH (o : O3) (z : O3) (p : O3) (n : Int) (i : Int) : St := stOf 56 [(2, .pointer (some ⟨0, 0, none⟩)), (4, .pointer (some ⟨1, 0, none⟩)), (9, .pointer (some ⟨2, 0, none⟩)), (40, vI n), (41, vI i)] [.cells true 0 o.cells, .cells true 0 z.cells, .cells true 0 p.cells]
theorem powAR (o : O3) (z : O3) (p : O3) (n : Int) (i : Int) : roundR ((CCr Try.prog).into 23 0) 40 (powAX Try.prog) [2, 4, 9, 40, 41] [4, 5, 9] [.fix 0, .fix 1, .fix 2] [.fix 0, .fix 1, .fix 2] (powAH o z p n i) =
    match decide (i < n) with
    | true => match o.mulE p != 0 with
      | true => some (.ret, stOf 56 [(4, .pointer (some ⟨1, 0, none⟩)), (5, vI (o.mulE p)), (9, .pointer (some ⟨2, 0, none⟩))] [.cells true 0 o.cells, .cells true 0 O3.zero.cells, .cells true 0 p.cells])
      | false => some (.normal, powAH o z  (o.mulF p) n (W (i + 1)))
    | false => some (.exit 0, stOf 56 [(4, .pointer (some ⟨1, 0, none⟩)), (9, .pointer (some ⟨2, 0, none⟩))] [.cells true 0 o.cells, .cells true 0 z.cells, .cells true 0 p.cells]) := by kernel_rfl
structure powAG where
  (o : O3) (z : O3) (p : O3) (n : Int) (i : Int)
def powAO (o : O3) (z : O3) (p : O3) (n : Int) (i : Int) : Exit × St :=
  match (powL o (n - i).toNat p).2 == 0 with
  | true => (.exit 0, stOf 56 [(4, .pointer (some ⟨1, 0, none⟩)), (9, .pointer (some ⟨2, 0, none⟩))] [.cells true 0 o.cells, .cells true 0 z.cells, .cells true 0 (powL o (n - i).toNat p).1.cells])
  | false => (.ret, stOf 56 [(4, .pointer (some ⟨1, 0, none⟩)), (5, vI (powL o (n - i).toNat p).2), (9, .pointer (some ⟨2, 0, none⟩))] [.cells true 0 o.cells, .cells true 0 O3.zero.cells, .cells true 0 (powL o (n - i).toNat p).1.cells])
theorem powAL (o : O3) (z : O3) (p : O3) (n : Int) (i : Int) (hg : (decide (0 ≤ i)) = true ∧ (decide (i ≤ n)) = true ∧ (decide (n ≤ 1000)) = true) : LoopSem Try.prog 0 (powAX Try.prog) (powAH o z p n i) (powAO o z p n i).1 (powAO o z p n i).2 := by
  refine loop_rule (C := CCr Try.prog) okCr (f := 23) (B := 0) (loopsOf_in (k := 13) powAX_eq) 40 [2, 4, 9, 40, 41] [4, 5, 9] [.fix 0, .fix 1, .fix 2] [.fix 0, .fix 1, .fix 2] (fun g : powAG => powAH g.o g.z g.p g.n g.i) (fun g => (g.n - g.i).toNat) (fun g => (decide (0 ≤ g.i)) = true ∧ (decide (g.i ≤ g.n)) = true ∧ (decide (g.n ≤ 1000)) = true) (fun g => powAO g.o g.z g.p g.n g.i) ?_ ⟨o, z, p, n, i⟩ hg
  clear hg
  rintro ⟨o, z, p, n, i⟩ hg
  simp only at hg
  simp only [powAR]
  simp only [decide_eq_true_eq] at hg
  obtain ⟨h0, h1, h2⟩ := hg
  by_cases hi : i < n
  · have hd : decide (i < n) = true := by simpa using hi
    rw [hd]
    have hk : (n - i).toNat = (n - (i + 1)).toNat + 1 := by omega
    cases he : o.mulE p != 0 with
    | true =>
      right
      have hne : (o.mulE p == 0) = false := by simpa using he
      have hp : powL o (n - i).toNat p = (p, o.mulE p) := by rw [hk]; simp only [powL, he]
      unfold powAO
      simp only [hp, hne]
      exact ⟨trivial, by simp⟩
    | false =>
      left
      have hp : powL o (n - i).toNat p = powL o (n - (i + 1)).toNat (o.mulF p) := by rw [hk]; simp only [powL, he]
      have hw : W (i + 1) = i + 1 := W_in (by omega)
      refine ⟨⟨o, z, o.mulF p, n, i + 1⟩, by simp only [hw], ?_, ?_, ?_⟩
      · simp only [decide_eq_true_eq]; omega
      · simp only; omega
      · unfold powAO; simp only [hp]
  · have hd : decide (i < n) = false := by simpa using hi
    rw [hd]
    right
    have hk : (n - i).toNat = 0 := by omega
    unfold powAO
    simp only [hk, powL]
    exact ⟨rfl, by simp⟩
def powAS (st : St) : Option (Ans (Exit × St)) :=
  match sized st 56 3 && (ptrIs st.tmps[2]? 0 && (ptrIs st.tmps[4]? 1 && (ptrIs st.tmps[9]? 2))), intAt st.tmps[40]?, intAt st.tmps[41]?, opCells (ownCells st.mem[0]?), opCells (ownCells st.mem[1]?), opCells (ownCells st.mem[2]?) with
  | true, some n, some i, some o, some z, some p => some (.br (decide (0 ≤ i) && (decide (i ≤ n) && (decide (n ≤ 1000)))) (.br ((powL o (n - i).toNat p).2 == 0)
      (.out (.exit 0, stOf 56 [(4, .pointer (some ⟨1, 0, none⟩)), (9, .pointer (some ⟨2, 0, none⟩))] [.cells true 0 o.cells, .cells true 0 z.cells, .cells true 0 (powL o (n - i).toNat p).1.cells]))
      (.out (.ret, stOf 56 [(4, .pointer (some ⟨1, 0, none⟩)), (5, vI (powL o (n - i).toNat p).2), (9, .pointer (some ⟨2, 0, none⟩))] [.cells true 0 o.cells, .cells true 0 O3.zero.cells, .cells true 0 (powL o (n - i).toNat p).1.cells]))) .fail)
  | _, _, _, _, _, _ => none
theorem powAK {st : St} {ans : Ans (Exit × St)} {e : Exit} {s : St} (h : powAS st = some ans) (hr : ans.res = some (e, s)) : LoopSem Try.prog 0 (powAX Try.prog) st e s := by
  unfold powAS at h
  split at h
  · rename_i n i o z p hb h_n h_i h_o h_z h_p
    simp only [Bool.and_eq_true] at hb
    obtain ⟨hb0, hb1, hb2, hb3⟩ := hb
    simp only [Option.some.injEq] at h
    subst h
    rcases Ans.br_some hr with ⟨hc, hr⟩ | ⟨_, hr⟩
    · simp only [Bool.and_eq_true] at hc
      have hm0 := ownCells_spec (opCells_spec h_o) (by simp [O3.cells])
      have hm1 := ownCells_spec (opCells_spec h_z) (by simp [O3.cells])
      have hm2 := ownCells_spec (opCells_spec h_p) (by simp [O3.cells])
      have hml : st.mem.length = 3 := by unfold sized at hb0; rw [Bool.and_eq_true] at hb0; exact Nat.eq_of_beq_eq_true hb0.2
      have hm : st.mem = [.cells true 0 o.cells, .cells true 0 z.cells, .cells true 0 p.cells] := mem_of hml (fun j hj => by
        simp only [List.length_cons, List.length_nil] at hj
        have : j = 0 ∨ j = 1 ∨ j = 2 := by omega
        rcases this with rfl | rfl | rfl
        · exact hm0
        · exact hm1
        · exact hm2)
      have hk := stOf_keep hb0 [(2, .pointer (some ⟨0, 0, none⟩)), (4, .pointer (some ⟨1, 0, none⟩)), (9, .pointer (some ⟨2, 0, none⟩)), (40, vI n), (41, vI i)] (by
        intro x hx
        simp only [List.mem_cons, List.not_mem_nil, or_false] at hx
        rcases hx with rfl | rfl | rfl | rfl | rfl
        · exact ptrIs_spec hb1
        · exact ptrIs_spec hb2
        · exact ptrIs_spec hb3
        · exact intAt_spec h_n
        · exact intAt_spec h_i) hm
      have key := powAL o z p n i hc
      unfold powAH at key
      rw [← hk] at key
      have key := LoopSem.clean key
      unfold powAO at key
      rcases Ans.br_some hr with ⟨hq, hr⟩ | ⟨hq, hr⟩
      · simp only [hq] at key
        simp only [Ans.res, Option.some.injEq, Prod.mk.injEq] at hr
        obtain ⟨rfl, rfl⟩ := hr
        exact key
      · simp only [hq] at key
        simp only [Ans.res, Option.some.injEq, Prod.mk.injEq] at hr
        obtain ⟨rfl, rfl⟩ := hr
        exact key
    · simp [Ans.res] at hr
  · cases h


def powBX (P : Program) : Code := (loopsOf P 23 13).headD .skip
theorem powBX_eq : loopsOf Try.prog 23 13 = [powBX Try.prog] := by kernel_rfl
def powBH (o : O3) (z : O3) (b : O3) (p : O3) (n : Int) (i : Int) : St := stOf 56 [(2, .pointer (some ⟨0, 0, none⟩)), (4, .pointer (some ⟨1, 0, none⟩)), (9, .pointer (some ⟨3, 0, none⟩)), (40, vI n), (41, vI i)] [.cells true 0 o.cells, .cells true 0 z.cells, .cells true 0 b.cells, .cells true 0 p.cells]
theorem powBR (o : O3) (z : O3) (b : O3) (p : O3) (n : Int) (i : Int) : roundR ((CCr Try.prog).into 23 0) 40 (powBX Try.prog) [2, 4, 9, 40, 41] [4, 5, 9] [.fix 0, .fix 1, .fix 2, .fix 3] [.fix 0, .fix 1, .fix 2, .fix 3] (powBH o z b p n i) =
    match decide (i < n) with
    | true => match o.mulE p != 0 with
      | true => some (.ret, stOf 56 [(4, .pointer (some ⟨1, 0, none⟩)), (5, vI (o.mulE p)), (9, .pointer (some ⟨3, 0, none⟩))] [.cells true 0 o.cells, .cells true 0 O3.zero.cells, .cells true 0 b.cells, .cells true 0 p.cells])
      | false => some (.normal, powBH o z b (o.mulF p) n (W (i + 1)))
    | false => some (.exit 0, stOf 56 [(4, .pointer (some ⟨1, 0, none⟩)), (9, .pointer (some ⟨3, 0, none⟩))] [.cells true 0 o.cells, .cells true 0 z.cells, .cells true 0 b.cells, .cells true 0 p.cells]) := by kernel_rfl
structure powBG where
  (o : O3) (z : O3) (b : O3) (p : O3) (n : Int) (i : Int)
def powBO (o : O3) (z : O3) (b : O3) (p : O3) (n : Int) (i : Int) : Exit × St :=
  match (powL o (n - i).toNat p).2 == 0 with
  | true => (.exit 0, stOf 56 [(4, .pointer (some ⟨1, 0, none⟩)), (9, .pointer (some ⟨3, 0, none⟩))] [.cells true 0 o.cells, .cells true 0 z.cells, .cells true 0 b.cells, .cells true 0 (powL o (n - i).toNat p).1.cells])
  | false => (.ret, stOf 56 [(4, .pointer (some ⟨1, 0, none⟩)), (5, vI (powL o (n - i).toNat p).2), (9, .pointer (some ⟨3, 0, none⟩))] [.cells true 0 o.cells, .cells true 0 O3.zero.cells, .cells true 0 b.cells, .cells true 0 (powL o (n - i).toNat p).1.cells])
theorem powBL (o : O3) (z : O3) (b : O3) (p : O3) (n : Int) (i : Int) (hg : (decide (0 ≤ i)) = true ∧ (decide (i ≤ n)) = true ∧ (decide (n ≤ 1000)) = true) : LoopSem Try.prog 0 (powBX Try.prog) (powBH o z b p n i) (powBO o z b p n i).1 (powBO o z b p n i).2 := by
  refine loop_rule (C := CCr Try.prog) okCr (f := 23) (B := 0) (loopsOf_in (k := 13) powBX_eq) 40 [2, 4, 9, 40, 41] [4, 5, 9] [.fix 0, .fix 1, .fix 2, .fix 3] [.fix 0, .fix 1, .fix 2, .fix 3] (fun g : powBG => powBH g.o g.z g.b g.p g.n g.i) (fun g => (g.n - g.i).toNat) (fun g => (decide (0 ≤ g.i)) = true ∧ (decide (g.i ≤ g.n)) = true ∧ (decide (g.n ≤ 1000)) = true) (fun g => powBO g.o g.z g.b g.p g.n g.i) ?_ ⟨o, z, b, p, n, i⟩ hg
  clear hg
  rintro ⟨o, z, b, p, n, i⟩ hg
  simp only at hg
  simp only [powBR]
  simp only [decide_eq_true_eq] at hg
  obtain ⟨h0, h1, h2⟩ := hg
  by_cases hi : i < n
  · have hd : decide (i < n) = true := by simpa using hi
    rw [hd]
    have hk : (n - i).toNat = (n - (i + 1)).toNat + 1 := by omega
    cases he : o.mulE p != 0 with
    | true =>
      right
      have hne : (o.mulE p == 0) = false := by simpa using he
      have hp : powL o (n - i).toNat p = (p, o.mulE p) := by rw [hk]; simp only [powL, he]
      unfold powBO
      simp only [hp, hne]
      exact ⟨trivial, by simp⟩
    | false =>
      left
      have hp : powL o (n - i).toNat p = powL o (n - (i + 1)).toNat (o.mulF p) := by rw [hk]; simp only [powL, he]
      have hw : W (i + 1) = i + 1 := W_in (by omega)
      refine ⟨⟨o, z, b, o.mulF p, n, i + 1⟩, by simp only [hw], ?_, ?_, ?_⟩
      · simp only [decide_eq_true_eq]; omega
      · simp only; omega
      · unfold powBO; simp only [hp]
  · have hd : decide (i < n) = false := by simpa using hi
    rw [hd]
    right
    have hk : (n - i).toNat = 0 := by omega
    unfold powBO
    simp only [hk, powL]
    exact ⟨rfl, by simp⟩
def powBS (st : St) : Option (Ans (Exit × St)) :=
  match sized st 56 4 && (ptrIs st.tmps[2]? 0 && (ptrIs st.tmps[4]? 1 && (ptrIs st.tmps[9]? 3))), intAt st.tmps[40]?, intAt st.tmps[41]?, opCells (ownCells st.mem[0]?), opCells (ownCells st.mem[1]?), opCells (ownCells st.mem[2]?), opCells (ownCells st.mem[3]?) with
  | true, some n, some i, some o, some z, some b, some p => some (.br (decide (0 ≤ i) && (decide (i ≤ n) && (decide (n ≤ 1000)))) (.br ((powL o (n - i).toNat p).2 == 0)
      (.out (.exit 0, stOf 56 [(4, .pointer (some ⟨1, 0, none⟩)), (9, .pointer (some ⟨3, 0, none⟩))] [.cells true 0 o.cells, .cells true 0 z.cells, .cells true 0 b.cells, .cells true 0 (powL o (n - i).toNat p).1.cells]))
      (.out (.ret, stOf 56 [(4, .pointer (some ⟨1, 0, none⟩)), (5, vI (powL o (n - i).toNat p).2), (9, .pointer (some ⟨3, 0, none⟩))] [.cells true 0 o.cells, .cells true 0 O3.zero.cells, .cells true 0 b.cells, .cells true 0 (powL o (n - i).toNat p).1.cells]))) .fail)
  | _, _, _, _, _, _, _ => none
theorem powBK {st : St} {ans : Ans (Exit × St)} {e : Exit} {s : St} (h : powBS st = some ans) (hr : ans.res = some (e, s)) : LoopSem Try.prog 0 (powBX Try.prog) st e s := by
  unfold powBS at h
  split at h
  · rename_i n i o z b p hb h_n h_i h_o h_z h_b h_p
    simp only [Bool.and_eq_true] at hb
    obtain ⟨hb0, hb1, hb2, hb3⟩ := hb
    simp only [Option.some.injEq] at h
    subst h
    rcases Ans.br_some hr with ⟨hc, hr⟩ | ⟨_, hr⟩
    · simp only [Bool.and_eq_true] at hc
      have hm0 := ownCells_spec (opCells_spec h_o) (by simp [O3.cells])
      have hm1 := ownCells_spec (opCells_spec h_z) (by simp [O3.cells])
      have hm2 := ownCells_spec (opCells_spec h_b) (by simp [O3.cells])
      have hm3 := ownCells_spec (opCells_spec h_p) (by simp [O3.cells])
      have hml : st.mem.length = 4 := by unfold sized at hb0; rw [Bool.and_eq_true] at hb0; exact Nat.eq_of_beq_eq_true hb0.2
      have hm : st.mem = [.cells true 0 o.cells, .cells true 0 z.cells, .cells true 0 b.cells, .cells true 0 p.cells] := mem_of hml (fun j hj => by
        simp only [List.length_cons, List.length_nil] at hj
        have : j = 0 ∨ j = 1 ∨ j = 2 ∨ j = 3 := by omega
        rcases this with rfl | rfl | rfl | rfl
        · exact hm0
        · exact hm1
        · exact hm2
        · exact hm3)
      have hk := stOf_keep hb0 [(2, .pointer (some ⟨0, 0, none⟩)), (4, .pointer (some ⟨1, 0, none⟩)), (9, .pointer (some ⟨3, 0, none⟩)), (40, vI n), (41, vI i)] (by
        intro x hx
        simp only [List.mem_cons, List.not_mem_nil, or_false] at hx
        rcases hx with rfl | rfl | rfl | rfl | rfl
        · exact ptrIs_spec hb1
        · exact ptrIs_spec hb2
        · exact ptrIs_spec hb3
        · exact intAt_spec h_n
        · exact intAt_spec h_i) hm
      have key := powBL o z b p n i hc
      unfold powBH at key
      rw [← hk] at key
      have key := LoopSem.clean key
      unfold powBO at key
      rcases Ans.br_some hr with ⟨hq, hr⟩ | ⟨hq, hr⟩
      · simp only [hq] at key
        simp only [Ans.res, Option.some.injEq, Prod.mk.injEq] at hr
        obtain ⟨rfl, rfl⟩ := hr
        exact key
      · simp only [hq] at key
        simp only [Ans.res, Option.some.injEq, Prod.mk.injEq] at hr
        obtain ⟨rfl, rfl⟩ := hr
        exact key
    · simp [Ans.res] at hr
  · cases h

end Go.Proofs.Ytlkmphmiegegbaa

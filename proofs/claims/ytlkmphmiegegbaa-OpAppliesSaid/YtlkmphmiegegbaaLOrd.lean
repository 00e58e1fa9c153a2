/-
  The loops of op.Order and of the document's Power, Order and gcd. Nothing here is trusted.
-/
import Derived.Test.YtlkmphmiegegbaaLPow2
import Derived.Test.YtlkmphmiegegbaaOrdT
namespace Go.Proofs.Ytlkmphmiegegbaa
open Go Vx

def dpwX (P : Program) : Code := (loopsOf P 24 13).headD .skip
theorem dpwX_eq : loopsOf Try.prog 24 13 = [dpwX Try.prog] := by kernel_rfl
def dpwH (o : O3) (z : O3) (p : O3) (n : Int) : St := stOf 54 [(1, vI n), (2, .pointer (some ⟨0, 0, none⟩)), (4, .pointer (some ⟨1, 0, none⟩)), (8, .pointer (some ⟨2, 0, none⟩))] [.cells true 0 o.cells, .cells true 0 z.cells, .cells true 0 p.cells]
theorem dpwR (o : O3) (z : O3) (p : O3) (n : Int) : roundR ((CCr Try.prog).into 24 0) 40 (dpwX Try.prog) [1, 2, 4, 8] [4, 5, 8] [.fix 0, .fix 1, .fix 2] [.fix 0, .fix 1, .fix 2] (dpwH o z p n) =
    match decide (n > 0) with
    | true => match (o.rmul p).smallE != 0 with
      | true => some (.ret, stOf 54 [(4, .pointer (some ⟨1, 0, none⟩)), (5, vI (o.rmul p).smallE), (8, .pointer (some ⟨2, 0, none⟩))] [.cells true 0 o.cells, .cells true 0 O3.zero.cells, .cells true 0 (o.rmul p).small.cells])
      | false => some (.normal, dpwH o z (o.rmul p).small (W (n - 1)))
    | false => some (.exit 0, stOf 54 [(4, .pointer (some ⟨1, 0, none⟩)), (8, .pointer (some ⟨2, 0, none⟩))] [.cells true 0 o.cells, .cells true 0 z.cells, .cells true 0 p.cells]) := by kernel_rfl
structure dpwG where
  (o : O3) (z : O3) (p : O3) (n : Int)
def dpwO (o : O3) (z : O3) (p : O3) (n : Int) : Exit × St :=
  match (rpowL o n.toNat p).2 == 0 with
  | true => (.exit 0, stOf 54 [(4, .pointer (some ⟨1, 0, none⟩)), (8, .pointer (some ⟨2, 0, none⟩))] [.cells true 0 o.cells, .cells true 0 z.cells, .cells true 0 (rpowL o n.toNat p).1.cells])
  | false => (.ret, stOf 54 [(4, .pointer (some ⟨1, 0, none⟩)), (5, vI (rpowL o n.toNat p).2), (8, .pointer (some ⟨2, 0, none⟩))] [.cells true 0 o.cells, .cells true 0 O3.zero.cells, .cells true 0 (rpowL o n.toNat p).1.cells])
theorem dpwL (o : O3) (z : O3) (p : O3) (n : Int) (hg : (decide (0 ≤ 0)) = true ∧ (decide (0 ≤ n)) = true ∧ (decide (n ≤ 1000)) = true) : LoopSem Try.prog 0 (dpwX Try.prog) (dpwH o z p n) (dpwO o z p n).1 (dpwO o z p n).2 := by
  refine loop_rule (C := CCr Try.prog) okCr (f := 24) (B := 0) (loopsOf_in (k := 13) dpwX_eq) 40 [1, 2, 4, 8] [4, 5, 8] [.fix 0, .fix 1, .fix 2] [.fix 0, .fix 1, .fix 2] (fun g : dpwG => dpwH g.o g.z g.p g.n) (fun g => g.n.toNat) (fun g => (decide (0 ≤ 0)) = true ∧ (decide (0 ≤ g.n)) = true ∧ (decide (g.n ≤ 1000)) = true) (fun g => dpwO g.o g.z g.p g.n) ?_ ⟨o, z, p, n⟩ hg
  clear hg
  rintro ⟨o, z, p, n⟩ hg
  simp only at hg
  simp only [dpwR]
  simp only [decide_eq_true_eq] at hg
  obtain ⟨_, h1, h2⟩ := hg
  by_cases hi : n > 0
  · have hd : decide (n > 0) = true := by simpa using hi
    rw [hd]
    have hk : n.toNat = (n - 1).toNat + 1 := by omega
    cases he : (o.rmul p).smallE != 0 with
    | true =>
      right
      have hne : ((o.rmul p).smallE == 0) = false := by simpa using he
      have hp : rpowL o n.toNat p = ((o.rmul p).small, (o.rmul p).smallE) := by rw [hk]; simp only [rpowL, he]
      unfold dpwO
      simp only [hp, hne]
      exact ⟨trivial, by simp⟩
    | false =>
      left
      have hp : rpowL o n.toNat p = rpowL o (n - 1).toNat (o.rmul p).small := by rw [hk]; simp only [rpowL, he]
      have hw : W (n - 1) = n - 1 := W_in (by omega)
      refine ⟨⟨o, z, (o.rmul p).small, n - 1⟩, by simp only [hw], ?_, ?_, ?_⟩
      · simp only [decide_eq_true_eq]; omega
      · simp only; omega
      · unfold dpwO; simp only [hp]
  · have hd : decide (n > 0) = false := by simpa using hi
    rw [hd]
    right
    have hk : n.toNat = 0 := by omega
    unfold dpwO
    simp only [hk, rpowL]
    exact ⟨by first | trivial | rfl, by simp⟩
def dpwS (st : St) : Option (Ans (Exit × St)) :=
  match sized st 54 3 && (ptrIs st.tmps[2]? 0 && (ptrIs st.tmps[4]? 1 && (ptrIs st.tmps[8]? 2))), intAt st.tmps[1]?, opCells (ownCells st.mem[0]?), opCells (ownCells st.mem[1]?), opCells (ownCells st.mem[2]?) with
  | true, some n, some o, some z, some p => some (.br (decide (0 ≤ 0) && (decide (0 ≤ n) && (decide (n ≤ 1000)))) (.br ((rpowL o n.toNat p).2 == 0)
      (.out (.exit 0, stOf 54 [(4, .pointer (some ⟨1, 0, none⟩)), (8, .pointer (some ⟨2, 0, none⟩))] [.cells true 0 o.cells, .cells true 0 z.cells, .cells true 0 (rpowL o n.toNat p).1.cells]))
      (.out (.ret, stOf 54 [(4, .pointer (some ⟨1, 0, none⟩)), (5, vI (rpowL o n.toNat p).2), (8, .pointer (some ⟨2, 0, none⟩))] [.cells true 0 o.cells, .cells true 0 O3.zero.cells, .cells true 0 (rpowL o n.toNat p).1.cells]))) .fail)
  | _, _, _, _, _ => none
theorem dpwK {st : St} {ans : Ans (Exit × St)} {e : Exit} {s : St} (h : dpwS st = some ans) (hr : ans.res = some (e, s)) : LoopSem Try.prog 0 (dpwX Try.prog) st e s := by
  unfold dpwS at h
  split at h
  · rename_i n o z p hb h_n h_o h_z h_p
    simp only [Bool.and_eq_true] at hb
    obtain ⟨hb0, hb1, hb2, hb3⟩ := hb
    simp only [Option.some.injEq] at h
    subst h
    rcases Ans.br_some hr with ⟨hc, hr⟩ | ⟨_, hr⟩
    · simp only [Bool.and_eq_true] at hc
      have hm0 := ownCells_spec (opCells_spec h_o) (by simp [O3.cells])
      have hm1 := ownCells_spec (opCells_spec h_z) (by simp [O3.cells])
      have hm2 := ownCells_spec (opCells_spec h_p) (by simp [O3.cells])
      have hml : st.mem.length = 3 := by unfold sized at hb0; rw [Bool.and_eq_true] at hb0; exact Nat.eq_of_beq_eq_true hb0.2
      have hm : st.mem = [.cells true 0 o.cells, .cells true 0 z.cells, .cells true 0 p.cells] := mem_of hml (fun j hj => by
        simp only [List.length_cons, List.length_nil] at hj
        have : j = 0 ∨ j = 1 ∨ j = 2 := by omega
        rcases this with rfl | rfl | rfl
        · exact hm0
        · exact hm1
        · exact hm2)
      have hk := stOf_keep hb0 [(1, vI n), (2, .pointer (some ⟨0, 0, none⟩)), (4, .pointer (some ⟨1, 0, none⟩)), (8, .pointer (some ⟨2, 0, none⟩))] (by
        intro x hx
        simp only [List.mem_cons, List.not_mem_nil, or_false] at hx
        rcases hx with rfl | rfl | rfl | rfl
        · exact intAt_spec h_n
        · exact ptrIs_spec hb1
        · exact ptrIs_spec hb2
        · exact ptrIs_spec hb3) hm
      have key := dpwL o z p n hc
      unfold dpwH at key
      rw [← hk] at key
      have key := LoopSem.clean key
      unfold dpwO at key
      rcases Ans.br_some hr with ⟨hq, hr⟩ | ⟨hq, hr⟩
      · simp only [hq] at key
        simp only [Ans.res, Option.some.injEq, Prod.mk.injEq] at hr
        obtain ⟨rfl, rfl⟩ := hr
        exact key
      · simp only [hq] at key
        simp only [Ans.res, Option.some.injEq, Prod.mk.injEq] at hr
        obtain ⟨rfl, rfl⟩ := hr
        exact key
    · simp [Ans.res] at hr
  · cases h

def ordAX (P : Program) : Code := (loopsOf P 25 9).headD .skip
theorem ordAX_eq : loopsOf Try.prog 25 9 = [ordAX Try.prog] := by kernel_rfl
def ordAH (o : O3) (s : V3) (t : Int) (n : Int) (i : Int) : St := stOf 41 [(1, .pointer (some ⟨0, 0, none⟩)), (5, vI t), (7, .pointer (some ⟨1, 0, none⟩)), (24, vI n), (25, vI i)] [.cells true 0 o.cells, .cells true 0 s.cells]
theorem ordAR (o : O3) (s : V3) (t : Int) (n : Int) (i : Int) : roundR ((CCr Try.prog).into 25 0) 40 (ordAX Try.prog) [1, 5, 7, 24, 25] [5, 7] [.fix 0, .fix 1] [.fix 0, .fix 1] (ordAH o s t n i) =
    match decide (i < n) with
    | true => some (.normal, ordAH o (o.send s) t n (W (i + 1)))
    | false => some (.exit 0, stOf 41 [(5, vI t), (7, .pointer (some ⟨1, 0, none⟩))] [.cells true 0 o.cells, .cells true 0 s.cells]) := by kernel_rfl
structure ordAG where
  (o : O3) (s : V3) (t : Int) (n : Int) (i : Int)
def ordAO (o : O3) (s : V3) (t : Int) (n : Int) (i : Int) : Exit × St :=
  (.exit 0, stOf 41 [(5, vI t), (7, .pointer (some ⟨1, 0, none⟩))] [.cells true 0 o.cells, .cells true 0 (sendL o (n - i).toNat s).cells])
theorem ordAL (o : O3) (s : V3) (t : Int) (n : Int) (i : Int) (hg : (decide (0 ≤ i)) = true ∧ (decide (i ≤ n)) = true ∧ (decide (n ≤ 1000)) = true) : LoopSem Try.prog 0 (ordAX Try.prog) (ordAH o s t n i) (ordAO o s t n i).1 (ordAO o s t n i).2 := by
  refine loop_rule (C := CCr Try.prog) okCr (f := 25) (B := 0) (loopsOf_in (k := 9) ordAX_eq) 40 [1, 5, 7, 24, 25] [5, 7] [.fix 0, .fix 1] [.fix 0, .fix 1] (fun g : ordAG => ordAH g.o g.s g.t g.n g.i) (fun g => (g.n - g.i).toNat) (fun g => (decide (0 ≤ g.i)) = true ∧ (decide (g.i ≤ g.n)) = true ∧ (decide (g.n ≤ 1000)) = true) (fun g => ordAO g.o g.s g.t g.n g.i) ?_ ⟨o, s, t, n, i⟩ hg
  clear hg
  rintro ⟨o, s, t, n, i⟩ hg
  simp only at hg
  simp only [ordAR]
  simp only [decide_eq_true_eq] at hg
  obtain ⟨h0, h1, h2⟩ := hg
  by_cases hi : i < n
  · have hd : decide (i < n) = true := by simpa using hi
    rw [hd]
    have hk : (n - i).toNat = (n - (i + 1)).toNat + 1 := by omega
    left
    have hw : W (i + 1) = i + 1 := W_in (by omega)
    refine ⟨⟨o, o.send s, t, n, i + 1⟩, by simp only [hw], ?_, ?_, ?_⟩
    · simp only [decide_eq_true_eq]; omega
    · simp only; omega
    · unfold ordAO; rw [hk]; simp only [sendL]
  · have hd : decide (i < n) = false := by simpa using hi
    rw [hd]
    right
    have hk : (n - i).toNat = 0 := by omega
    unfold ordAO
    simp only [hk, sendL]
    exact ⟨by first | trivial | rfl, by simp⟩
def ordAS (st : St) : Option (Ans (Exit × St)) :=
  match sized st 41 2 && (ptrIs st.tmps[1]? 0 && (ptrIs st.tmps[7]? 1)), intAt st.tmps[5]?, intAt st.tmps[24]?, intAt st.tmps[25]?, opCells (ownCells st.mem[0]?), vecCells (ownCells st.mem[1]?) with
  | true, some t, some n, some i, some o, some s => some (.br (decide (0 ≤ i) && (decide (i ≤ n) && (decide (n ≤ 1000)))) (.out (.exit 0, stOf 41 [(5, vI t), (7, .pointer (some ⟨1, 0, none⟩))] [.cells true 0 o.cells, .cells true 0 (sendL o (n - i).toNat s).cells])) .fail)
  | _, _, _, _, _, _ => none
theorem ordAK {st : St} {ans : Ans (Exit × St)} {e : Exit} {s : St} (h : ordAS st = some ans) (hr : ans.res = some (e, s)) : LoopSem Try.prog 0 (ordAX Try.prog) st e s := by
  unfold ordAS at h
  split at h
  · rename_i t n i o s hb h_t h_n h_i h_o h_s
    simp only [Bool.and_eq_true] at hb
    obtain ⟨hb0, hb1, hb2⟩ := hb
    simp only [Option.some.injEq] at h
    subst h
    rcases Ans.br_some hr with ⟨hc, hr⟩ | ⟨_, hr⟩
    · simp only [Bool.and_eq_true] at hc
      have hm0 := ownCells_spec (opCells_spec h_o) (by simp [O3.cells])
      have hm1 := ownCells_spec (vecCells_spec h_s) (by simp [V3.cells])
      have hml : st.mem.length = 2 := by unfold sized at hb0; rw [Bool.and_eq_true] at hb0; exact Nat.eq_of_beq_eq_true hb0.2
      have hm : st.mem = [.cells true 0 o.cells, .cells true 0 s.cells] := mem_of hml (fun j hj => by
        simp only [List.length_cons, List.length_nil] at hj
        have : j = 0 ∨ j = 1 := by omega
        rcases this with rfl | rfl
        · exact hm0
        · exact hm1)
      have hk := stOf_keep hb0 [(1, .pointer (some ⟨0, 0, none⟩)), (5, vI t), (7, .pointer (some ⟨1, 0, none⟩)), (24, vI n), (25, vI i)] (by
        intro x hx
        simp only [List.mem_cons, List.not_mem_nil, or_false] at hx
        rcases hx with rfl | rfl | rfl | rfl | rfl
        · exact ptrIs_spec hb1
        · exact intAt_spec h_t
        · exact ptrIs_spec hb2
        · exact intAt_spec h_n
        · exact intAt_spec h_i) hm
      have key := ordAL o s t n i hc
      unfold ordAH at key
      rw [← hk] at key
      have key := LoopSem.clean key
      unfold ordAO at key
      simp only [Ans.res, Option.some.injEq, Prod.mk.injEq] at hr
      obtain ⟨rfl, rfl⟩ := hr
      exact key
    · simp [Ans.res] at hr
  · cases h

def ordBX (P : Program) : Code := (loopsOf P 25 13).headD .skip
theorem ordBX_eq : loopsOf Try.prog 25 13 = [ordBX Try.prog] := by kernel_rfl
def ordBH (o : O3) (s : V3) (t : Int) (n : Int) : St := stOf 41 [(5, vI t), (7, .pointer (some ⟨1, 0, none⟩)), (8, vI n)] [.cells true 0 o.cells, .cells true 0 s.cells]
theorem ordBR (o : O3) (s : V3) (t : Int) (n : Int) : roundR ((CCr Try.prog).into 25 0) 40 (ordBX Try.prog) [5, 7, 8] [5, 8] [.fix 0, .fix 1] [.fix 0, .fix 1] (ordBH o s t n) =
    match !(((s.smul n).md 24).eqB V3.zero) with
    | true => some (.normal, ordBH o s t (W (n + 1)))
    | false => some (.exit 2, stOf 41 [(5, vI t), (8, vI n)] [.cells true 0 o.cells, .cells true 0 s.cells]) := by kernel_rfl
structure ordBG where
  (o : O3) (s : V3) (t : Int) (n : Int)
def ordBO (o : O3) (s : V3) (t : Int) (n : Int) : Exit × St :=
  (.exit 2, stOf 41 [(5, vI t), (8, vI (findM s (24 - n).toNat n))] [.cells true 0 o.cells, .cells true 0 s.cells])
theorem ordBL (o : O3) (s : V3) (t : Int) (n : Int) (hg : (decide (1 ≤ n)) = true ∧ (decide (n ≤ 24)) = true) : LoopSem Try.prog 0 (ordBX Try.prog) (ordBH o s t n) (ordBO o s t n).1 (ordBO o s t n).2 := by
  refine loop_rule (C := CCr Try.prog) okCr (f := 25) (B := 0) (loopsOf_in (k := 13) ordBX_eq) 40 [5, 7, 8] [5, 8] [.fix 0, .fix 1] [.fix 0, .fix 1] (fun g : ordBG => ordBH g.o g.s g.t g.n) (fun g => (24 - g.n).toNat) (fun g => (decide (1 ≤ g.n)) = true ∧ (decide (g.n ≤ 24)) = true) (fun g => ordBO g.o g.s g.t g.n) ?_ ⟨o, s, t, n⟩ hg
  clear hg
  rintro ⟨o, s, t, n⟩ hg
  simp only at hg
  simp only [ordBR]
  simp only [decide_eq_true_eq] at hg
  obtain ⟨h0, h1⟩ := hg
  by_cases h24 : n = 24
  · subst h24
    have hz : ((s.smul 24).md 24).eqB V3.zero = true := by rw [hit_iff]; exact ⟨⟨_, rfl⟩, ⟨_, rfl⟩, ⟨_, rfl⟩⟩
    rw [hz]
    right
    unfold ordBO
    exact ⟨by first | trivial | rfl, by simp⟩
  · have hk : (24 - n).toNat = (24 - (n + 1)).toNat + 1 := by omega
    cases hz : ((s.smul n).md 24).eqB V3.zero with
    | true =>
      right
      have hf : findM s (24 - n).toNat n = n := by rw [hk]; simp only [findM, hz]
      unfold ordBO
      simp only [hf, Bool.not_true]
      exact ⟨trivial, by simp⟩
    | false =>
      left
      have hf : findM s (24 - n).toNat n = findM s (24 - (n + 1)).toNat (n + 1) := by rw [hk]; simp only [findM, hz]
      have hw : W (n + 1) = n + 1 := W_in (by omega)
      refine ⟨⟨o, s, t, n + 1⟩, by simp only [hw, Bool.not_false], ?_, ?_, ?_⟩
      · simp only [decide_eq_true_eq]; omega
      · simp only; omega
      · unfold ordBO; simp only [hf]
def ordBS (st : St) : Option (Ans (Exit × St)) :=
  match sized st 41 2 && (ptrIs st.tmps[7]? 1), intAt st.tmps[5]?, intAt st.tmps[8]?, opCells (ownCells st.mem[0]?), vecCells (ownCells st.mem[1]?) with
  | true, some t, some n, some o, some s => some (.br (decide (1 ≤ n) && (decide (n ≤ 24))) (.out (.exit 2, stOf 41 [(5, vI t), (8, vI (findM s (24 - n).toNat n))] [.cells true 0 o.cells, .cells true 0 s.cells])) .fail)
  | _, _, _, _, _ => none
theorem ordBK {st : St} {ans : Ans (Exit × St)} {e : Exit} {s : St} (h : ordBS st = some ans) (hr : ans.res = some (e, s)) : LoopSem Try.prog 0 (ordBX Try.prog) st e s := by
  unfold ordBS at h
  split at h
  · rename_i t n o s hb h_t h_n h_o h_s
    simp only [Bool.and_eq_true] at hb
    obtain ⟨hb0, hb1⟩ := hb
    simp only [Option.some.injEq] at h
    subst h
    rcases Ans.br_some hr with ⟨hc, hr⟩ | ⟨_, hr⟩
    · simp only [Bool.and_eq_true] at hc
      have hm0 := ownCells_spec (opCells_spec h_o) (by simp [O3.cells])
      have hm1 := ownCells_spec (vecCells_spec h_s) (by simp [V3.cells])
      have hml : st.mem.length = 2 := by unfold sized at hb0; rw [Bool.and_eq_true] at hb0; exact Nat.eq_of_beq_eq_true hb0.2
      have hm : st.mem = [.cells true 0 o.cells, .cells true 0 s.cells] := mem_of hml (fun j hj => by
        simp only [List.length_cons, List.length_nil] at hj
        have : j = 0 ∨ j = 1 := by omega
        rcases this with rfl | rfl
        · exact hm0
        · exact hm1)
      have hk := stOf_keep hb0 [(5, vI t), (7, .pointer (some ⟨1, 0, none⟩)), (8, vI n)] (by
        intro x hx
        simp only [List.mem_cons, List.not_mem_nil, or_false] at hx
        rcases hx with rfl | rfl | rfl
        · exact intAt_spec h_t
        · exact ptrIs_spec hb1
        · exact intAt_spec h_n) hm
      have key := ordBL o s t n hc
      unfold ordBH at key
      rw [← hk] at key
      have key := LoopSem.clean key
      unfold ordBO at key
      simp only [Ans.res, Option.some.injEq, Prod.mk.injEq] at hr
      obtain ⟨rfl, rfl⟩ := hr
      exact key
    · simp [Ans.res] at hr
  · cases h

def docAX (P : Program) : Code := (loopsOf P 26 10).headD .skip
theorem docAX_eq : loopsOf Try.prog 26 10 = [docAX Try.prog] := by kernel_rfl
def docAH (o : O3) (s : V3) (a : V3) (n : Int) (k : Int) : St := stOf 48 [(1, .pointer (some ⟨0, 0, none⟩)), (5, vI n), (6, .pointer (some ⟨1, 0, none⟩)), (7, .pointer (some ⟨2, 0, none⟩)), (8, vI k)] [.cells true 0 o.cells, .cells true 0 s.cells, .cells true 0 a.cells]
theorem docAR (o : O3) (s : V3) (a : V3) (n : Int) (k : Int) : roundR ((CCr Try.prog).into 26 0) 40 (docAX Try.prog) [1, 5, 6, 7, 8] [5, 6] [.fix 0, .fix 1, .fix 2] [.fix 0, .fix 1, .fix 2] (docAH o s a n k) =
    match decide (k < n) with
    | true => some (.normal, docAH o (((s.add a).w).md 24) (((o.r.app a).w).md 24) n (W (k + 1)))
    | false => some (.exit 0, stOf 48 [(5, vI n), (6, .pointer (some ⟨1, 0, none⟩))] [.cells true 0 o.cells, .cells true 0 s.cells, .cells true 0 a.cells]) := by kernel_rfl
structure docAG where
  (o : O3) (s : V3) (a : V3) (n : Int) (k : Int)
def docAO (o : O3) (s : V3) (a : V3) (n : Int) (k : Int) : Exit × St :=
  (.exit 0, stOf 48 [(5, vI n), (6, .pointer (some ⟨1, 0, none⟩))] [.cells true 0 o.cells, .cells true 0 (docL o (n - k).toNat (s, a)).1.cells, .cells true 0 (docL o (n - k).toNat (s, a)).2.cells])
theorem docAL (o : O3) (s : V3) (a : V3) (n : Int) (k : Int) (hg : (decide (0 ≤ k)) = true ∧ (decide (k ≤ n)) = true ∧ (decide (n ≤ 1000)) = true) : LoopSem Try.prog 0 (docAX Try.prog) (docAH o s a n k) (docAO o s a n k).1 (docAO o s a n k).2 := by
  refine loop_rule (C := CCr Try.prog) okCr (f := 26) (B := 0) (loopsOf_in (k := 10) docAX_eq) 40 [1, 5, 6, 7, 8] [5, 6] [.fix 0, .fix 1, .fix 2] [.fix 0, .fix 1, .fix 2] (fun g : docAG => docAH g.o g.s g.a g.n g.k) (fun g => (g.n - g.k).toNat) (fun g => (decide (0 ≤ g.k)) = true ∧ (decide (g.k ≤ g.n)) = true ∧ (decide (g.n ≤ 1000)) = true) (fun g => docAO g.o g.s g.a g.n g.k) ?_ ⟨o, s, a, n, k⟩ hg
  clear hg
  rintro ⟨o, s, a, n, k⟩ hg
  simp only at hg
  simp only [docAR]
  simp only [decide_eq_true_eq] at hg
  obtain ⟨h0, h1, h2⟩ := hg
  by_cases hi : k < n
  · have hd : decide (k < n) = true := by simpa using hi
    rw [hd]
    have hk : (n - k).toNat = (n - (k + 1)).toNat + 1 := by omega
    left
    have hw : W (k + 1) = k + 1 := W_in (by omega)
    refine ⟨⟨o, ((s.add a).w).md 24, ((o.r.app a).w).md 24, n, k + 1⟩, by simp only [hw], ?_, ?_, ?_⟩
    · simp only [decide_eq_true_eq]; omega
    · simp only; omega
    · unfold docAO; rw [hk]; simp only [docL]
  · have hd : decide (k < n) = false := by simpa using hi
    rw [hd]
    right
    have hk : (n - k).toNat = 0 := by omega
    unfold docAO
    simp only [hk, docL]
    exact ⟨by first | trivial | rfl, by simp⟩
def docAS (st : St) : Option (Ans (Exit × St)) :=
  match sized st 48 3 && (ptrIs st.tmps[1]? 0 && (ptrIs st.tmps[6]? 1 && (ptrIs st.tmps[7]? 2))), intAt st.tmps[5]?, intAt st.tmps[8]?, opCells (ownCells st.mem[0]?), vecCells (ownCells st.mem[1]?), vecCells (ownCells st.mem[2]?) with
  | true, some n, some k, some o, some s, some a => some (.br (decide (0 ≤ k) && (decide (k ≤ n) && (decide (n ≤ 1000)))) (.out (.exit 0, stOf 48 [(5, vI n), (6, .pointer (some ⟨1, 0, none⟩))] [.cells true 0 o.cells, .cells true 0 (docL o (n - k).toNat (s, a)).1.cells, .cells true 0 (docL o (n - k).toNat (s, a)).2.cells])) .fail)
  | _, _, _, _, _, _ => none
theorem docAK {st : St} {ans : Ans (Exit × St)} {e : Exit} {s : St} (h : docAS st = some ans) (hr : ans.res = some (e, s)) : LoopSem Try.prog 0 (docAX Try.prog) st e s := by
  unfold docAS at h
  split at h
  · rename_i n k o s a hb h_n h_k h_o h_s h_a
    simp only [Bool.and_eq_true] at hb
    obtain ⟨hb0, hb1, hb2, hb3⟩ := hb
    simp only [Option.some.injEq] at h
    subst h
    rcases Ans.br_some hr with ⟨hc, hr⟩ | ⟨_, hr⟩
    · simp only [Bool.and_eq_true] at hc
      have hm0 := ownCells_spec (opCells_spec h_o) (by simp [O3.cells])
      have hm1 := ownCells_spec (vecCells_spec h_s) (by simp [V3.cells])
      have hm2 := ownCells_spec (vecCells_spec h_a) (by simp [V3.cells])
      have hml : st.mem.length = 3 := by unfold sized at hb0; rw [Bool.and_eq_true] at hb0; exact Nat.eq_of_beq_eq_true hb0.2
      have hm : st.mem = [.cells true 0 o.cells, .cells true 0 s.cells, .cells true 0 a.cells] := mem_of hml (fun j hj => by
        simp only [List.length_cons, List.length_nil] at hj
        have : j = 0 ∨ j = 1 ∨ j = 2 := by omega
        rcases this with rfl | rfl | rfl
        · exact hm0
        · exact hm1
        · exact hm2)
      have hk := stOf_keep hb0 [(1, .pointer (some ⟨0, 0, none⟩)), (5, vI n), (6, .pointer (some ⟨1, 0, none⟩)), (7, .pointer (some ⟨2, 0, none⟩)), (8, vI k)] (by
        intro x hx
        simp only [List.mem_cons, List.not_mem_nil, or_false] at hx
        rcases hx with rfl | rfl | rfl | rfl | rfl
        · exact ptrIs_spec hb1
        · exact intAt_spec h_n
        · exact ptrIs_spec hb2
        · exact ptrIs_spec hb3
        · exact intAt_spec h_k) hm
      have key := docAL o s a n k hc
      unfold docAH at key
      rw [← hk] at key
      have key := LoopSem.clean key
      unfold docAO at key
      simp only [Ans.res, Option.some.injEq, Prod.mk.injEq] at hr
      obtain ⟨rfl, rfl⟩ := hr
      exact key
    · simp [Ans.res] at hr
  · cases h

def gcdAX (P : Program) : Code := (loopsOf P 61 1).headD .skip
theorem gcdAX_eq : loopsOf Try.prog 61 1 = [gcdAX Try.prog] := by kernel_rfl
def gcdAH (a : Int) (b : Int) : St := stOf 12 [(0, vI a), (1, vI b)] []
theorem gcdAR (a : Int) (b : Int) : roundR ((CCr Try.prog).into 61 0) 40 (gcdAX Try.prog) [0, 1] [0] [] [] (gcdAH a b) =
    match b != 0 with
    | true => match b == 0 with
      | true => none
      | false => some (.normal, gcdAH b (Int.tmod a b))
    | false => some (.exit 0, stOf 12 [(0, vI a)] []) := by kernel_rfl
structure gcdAG where
  (a : Int) (b : Int)
def gcdAO (a : Int) (b : Int) : Exit × St :=
  (.exit 0, stOf 12 [(0, vI (Int.gcd a b : Int))] [])
theorem gcdAL (a : Int) (b : Int) (hg : (posB a) = true ∧ (posB b) = true) : LoopSem Try.prog 0 (gcdAX Try.prog) (gcdAH a b) (gcdAO a b).1 (gcdAO a b).2 := by
  refine loop_rule (C := CCr Try.prog) okCr (f := 61) (B := 0) (loopsOf_in (k := 1) gcdAX_eq) 40 [0, 1] [0] [] [] (fun g : gcdAG => gcdAH g.a g.b) (fun g => g.b.toNat) (fun g => (posB g.a) = true ∧ (posB g.b) = true) (fun g => gcdAO g.a g.b) ?_ ⟨a, b⟩ hg
  clear hg
  rintro ⟨a, b⟩ hg
  simp only at hg
  simp only [gcdAR]
  obtain ⟨h0, h1⟩ := hg
  have h0' : 0 ≤ a := by simpa [posB] using h0
  have h1' : 0 ≤ b := by simpa [posB] using h1
  by_cases hb : b = 0
  · subst hb
    right
    unfold gcdAO
    have : (Int.gcd a 0 : Int) = a := by rw [Int.gcd_zero_right]; omega
    rw [this]
    exact ⟨by first | trivial | rfl, by simp⟩
  · have e1 : (b != 0) = true := by simpa using hb
    have e2 : (b == 0) = false := by simpa using hb
    rw [e1, e2]
    left
    have hm : Int.tmod a b = a % b := Int.tmod_eq_emod_of_nonneg h0'
    have hlt := Int.emod_lt_of_pos a (show 0 < b by omega)
    have hge := Int.emod_nonneg a hb
    refine ⟨⟨b, Int.tmod a b⟩, rfl, ?_, ?_, ?_⟩
    · simp only [hm]; exact ⟨by unfold posB; simp; omega, by unfold posB; simp; omega⟩
    · simp only [hm]; omega
    · unfold gcdAO
      simp only [hm]
      have hz : Int.gcd b (a % b) = Int.gcd a b := by
        obtain ⟨x, rfl⟩ := Int.eq_ofNat_of_zero_le h0'
        obtain ⟨y, rfl⟩ := Int.eq_ofNat_of_zero_le h1'
        rw [← Int.natCast_emod]
        show Nat.gcd y (x % y) = Nat.gcd x y
        rw [Nat.gcd_comm x y, Nat.gcd_rec y x, Nat.gcd_comm]
      rw [hz]
def gcdAS (st : St) : Option (Ans (Exit × St)) :=
  match sized st 12 0, intAt st.tmps[0]?, intAt st.tmps[1]? with
  | true, some a, some b => some (.br (posB a && (posB b)) (.out (.exit 0, stOf 12 [(0, vI (Int.gcd a b : Int))] [])) .fail)
  | _, _, _ => none
theorem gcdAK {st : St} {ans : Ans (Exit × St)} {e : Exit} {s : St} (h : gcdAS st = some ans) (hr : ans.res = some (e, s)) : LoopSem Try.prog 0 (gcdAX Try.prog) st e s := by
  unfold gcdAS at h
  split at h
  · rename_i a b  hb h_a h_b 
    have hb0 := hb
    simp only [Option.some.injEq] at h
    subst h
    rcases Ans.br_some hr with ⟨hc, hr⟩ | ⟨_, hr⟩
    · simp only [Bool.and_eq_true] at hc
      have hm : st.mem = [] := by unfold sized at hb0; rw [Bool.and_eq_true] at hb0; exact List.eq_nil_of_length_eq_zero (Nat.eq_of_beq_eq_true hb0.2)
      have hk := stOf_keep hb0 [(0, vI a), (1, vI b)] (by
        intro x hx
        simp only [List.mem_cons, List.not_mem_nil, or_false] at hx
        rcases hx with rfl | rfl
        · exact intAt_spec h_a
        · exact intAt_spec h_b) hm
      have key := gcdAL a b hc
      unfold gcdAH at key
      rw [← hk] at key
      have key := LoopSem.clean key
      unfold gcdAO at key
      simp only [Ans.res, Option.some.injEq, Prod.mk.injEq] at hr
      obtain ⟨rfl, rfl⟩ := hr
      exact key
    · simp [Ans.res] at hr
  · cases h

def Cl1 (P : Program) : Cx := (Cq P).addLB 24 13 0 dpwS
theorem okc1 : CxOk (Cl1 Try.prog) := Cx.addLB_ok okq dpwX_eq fun _ _ _ _ h hr => dpwK h hr
def Cl2 (P : Program) : Cx := (Cl1 P).addLB 25 9 0 ordAS
theorem okc2 : CxOk (Cl2 Try.prog) := Cx.addLB_ok okc1 ordAX_eq fun _ _ _ _ h hr => ordAK h hr
def Cl3 (P : Program) : Cx := (Cl2 P).addLB 25 13 0 ordBS
theorem okc3 : CxOk (Cl3 Try.prog) := Cx.addLB_ok okc2 ordBX_eq fun _ _ _ _ h hr => ordBK h hr
def Cl4 (P : Program) : Cx := (Cl3 P).addLB 26 10 0 docAS
theorem okc4 : CxOk (Cl4 Try.prog) := Cx.addLB_ok okc3 docAX_eq fun _ _ _ _ h hr => docAK h hr
def Cl5 (P : Program) : Cx := (Cl4 P).addLB 61 1 0 gcdAS
theorem okc5 : CxOk (Cl5 Try.prog) := Cx.addLB_ok okc4 gcdAX_eq fun _ _ _ _ h hr => gcdAK h hr
end Go.Proofs.Ytlkmphmiegegbaa

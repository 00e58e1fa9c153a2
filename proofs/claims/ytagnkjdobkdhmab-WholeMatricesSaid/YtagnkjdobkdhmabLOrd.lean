/-
  The loops of op.Order and of the document's Power, Order and gcd. Nothing here is trusted.
-/
import Derived.Test.YtagnkjdobkdhmabLPow2
import Derived.Test.YtagnkjdobkdhmabOrdT
namespace Go.Proofs.Ytagnkjdobkdhmab
open Go Vx

def ordAX (P : Program) : Code := (loopsOf P 9 9).headD .skip
theorem ordAX_eq : loopsOf Try.prog 9 9 = [ordAX Try.prog] := by kernel_rfl
def ordAH (o : O3) (s : V3) (t : Int) (n : Int) (i : Int) : St := stOf 41 [(1, .pointer (some ⟨0, 0, none⟩)), (5, vI t), (7, .pointer (some ⟨1, 0, none⟩)), (24, vI n), (25, vI i)] [.cells true 0 o.cells, .cells true 0 s.cells]
theorem ordAR (o : O3) (s : V3) (t : Int) (n : Int) (i : Int) : roundR ((CCr Try.prog).at 9) 40 (ordAX Try.prog) [1, 5, 7, 24, 25] [5, 7] 2 (ordAH o s t n i) =
    match decide (i < n) with
    | true => some (.normal, ordAH o (o.send s) t n (W (i + 1)))
    | false => some (.exit 0, stOf 41 [(5, vI t), (7, .pointer (some ⟨1, 0, none⟩))] [.cells true 0 o.cells, .cells true 0 s.cells]) := by kernel_rfl
structure ordAG where
  (o : O3) (s : V3) (t : Int) (n : Int) (i : Int)
def ordAO (o : O3) (s : V3) (t : Int) (n : Int) (i : Int) : Exit × St :=
  (.exit 0, stOf 41 [(5, vI t), (7, .pointer (some ⟨1, 0, none⟩))] [.cells true 0 o.cells, .cells true 0 (sendL o (n - i).toNat s).cells])
theorem ordAL (o : O3) (s : V3) (t : Int) (n : Int) (i : Int) (hg : (decide (0 ≤ i)) = true ∧ (decide (i ≤ n)) = true ∧ (decide (n ≤ 1000)) = true) : LoopSem Try.prog (ordAX Try.prog) (ordAH o s t n i) (ordAO o s t n i).1 (ordAO o s t n i).2 := by
  refine loop_rule (C := CCr Try.prog) okCr (f := 9) (loopsOf_in (k := 9) ordAX_eq) 40 [1, 5, 7, 24, 25] [5, 7] 2 (fun g : ordAG => ordAH g.o g.s g.t g.n g.i) (fun g => (g.n - g.i).toNat) (fun g => (decide (0 ≤ g.i)) = true ∧ (decide (g.i ≤ g.n)) = true ∧ (decide (g.n ≤ 1000)) = true) (fun g => ordAO g.o g.s g.t g.n g.i) (fun _ => rfl) ?_ ⟨o, s, t, n, i⟩ hg
  clear hg
  rintro ⟨o, s, t, n, i⟩ hg
  simp only at hg
  simp only [ordAR]
  simp only [decide_eq_true_eq] at hg
  obtain ⟨h0, h1, h2⟩ := hg
  by_cases hi : i < n
  · have hd : decide (i < n) = true := by simpa using hi
    rw [hd]
    have hk : (n - i).toNat = (n - (i + 1)).toNat + 1 := by omega
    left
    have hw : W (i + 1) = i + 1 := W_in (by omega)
    refine ⟨⟨o, o.send s, t, n, i + 1⟩, by simp only [hw], ?_, ?_, ?_⟩
    · simp only [decide_eq_true_eq]; omega
    · simp only; omega
    · unfold ordAO; rw [hk]; simp only [sendL]
  · have hd : decide (i < n) = false := by simpa using hi
    rw [hd]
    right
    have hk : (n - i).toNat = 0 := by omega
    unfold ordAO
    simp only [hk, sendL]
    exact ⟨by first | trivial | rfl, by simp⟩
def ordAS (st : St) : Option (Ans (Exit × St)) :=
  match sized st 41 2 && (ptrIs st.tmps[1]? 0 && (ptrIs st.tmps[7]? 1)), intAt st.tmps[5]?, intAt st.tmps[24]?, intAt st.tmps[25]?, opCells (ownCells st.mem[0]?), vecCells (ownCells st.mem[1]?) with
  | true, some t, some n, some i, some o, some s => some (.br (decide (0 ≤ i) && (decide (i ≤ n) && (decide (n ≤ 1000)))) (.out (.exit 0, stOf 41 [(5, vI t), (7, .pointer (some ⟨1, 0, none⟩))] [.cells true 0 o.cells, .cells true 0 (sendL o (n - i).toNat s).cells])) .fail)
  | _, _, _, _, _, _ => none
theorem ordAK {st : St} {ans : Ans (Exit × St)} {e : Exit} {s : St} (h : ordAS st = some ans) (hr : ans.res = some (e, s)) : LoopSem Try.prog (ordAX Try.prog) st e s := by
  unfold ordAS at h
  split at h
  · rename_i t n i o s hb h_t h_n h_i h_o h_s
    simp only [Bool.and_eq_true] at hb
    obtain ⟨hb0, hb1, hb2⟩ := hb
    simp only [Option.some.injEq] at h
    subst h
    rcases Ans.br_some hr with ⟨hc, hr⟩ | ⟨_, hr⟩
    · simp only [Bool.and_eq_true] at hc
      have hm0 := ownCells_spec (opCells_spec h_o) (by simp [O3.cells])
      have hm1 := ownCells_spec (vecCells_spec h_s) (by simp [V3.cells])
      have hml : st.mem.length = 2 := by unfold sized at hb0; rw [Bool.and_eq_true] at hb0; exact Nat.eq_of_beq_eq_true hb0.2
      have hm : st.mem = [.cells true 0 o.cells, .cells true 0 s.cells] := mem_of hml (fun j hj => by
        simp only [List.length_cons, List.length_nil] at hj
        have : j = 0 ∨ j = 1 := by omega
        rcases this with rfl | rfl
        · exact hm0
        · exact hm1)
      have hk := stOf_keep hb0 [(1, .pointer (some ⟨0, 0, none⟩)), (5, vI t), (7, .pointer (some ⟨1, 0, none⟩)), (24, vI n), (25, vI i)] (by
        intro x hx
        simp only [List.mem_cons, List.not_mem_nil, or_false] at hx
        rcases hx with rfl | rfl | rfl | rfl | rfl
        · exact ptrIs_spec hb1
        · exact intAt_spec h_t
        · exact ptrIs_spec hb2
        · exact intAt_spec h_n
        · exact intAt_spec h_i) hm
      have key := ordAL o s t n i hc
      unfold ordAH at key
      rw [← hk] at key
      have key := LoopSem.clean key
      unfold ordAO at key
      simp only [Ans.res, Option.some.injEq, Prod.mk.injEq] at hr
      obtain ⟨rfl, rfl⟩ := hr
      exact key
    · simp [Ans.res] at hr
  · cases h

def ordBX (P : Program) : Code := (loopsOf P 9 13).headD .skip
theorem ordBX_eq : loopsOf Try.prog 9 13 = [ordBX Try.prog] := by kernel_rfl
def ordBH (o : O3) (s : V3) (t : Int) (n : Int) : St := stOf 41 [(5, vI t), (7, .pointer (some ⟨1, 0, none⟩)), (8, vI n)] [.cells true 0 o.cells, .cells true 0 s.cells]
theorem ordBR (o : O3) (s : V3) (t : Int) (n : Int) : roundR ((CCr Try.prog).at 9) 40 (ordBX Try.prog) [5, 7, 8] [5, 8] 2 (ordBH o s t n) =
    match !(((s.smul n).md 24).eqB V3.zero) with
    | true => some (.normal, ordBH o s t (W (n + 1)))
    | false => some (.exit 2, stOf 41 [(5, vI t), (8, vI n)] [.cells true 0 o.cells, .cells true 0 s.cells]) := by kernel_rfl
structure ordBG where
  (o : O3) (s : V3) (t : Int) (n : Int)
def ordBO (o : O3) (s : V3) (t : Int) (n : Int) : Exit × St :=
  (.exit 2, stOf 41 [(5, vI t), (8, vI (findM s (24 - n).toNat n))] [.cells true 0 o.cells, .cells true 0 s.cells])
theorem ordBL (o : O3) (s : V3) (t : Int) (n : Int) (hg : (decide (1 ≤ n)) = true ∧ (decide (n ≤ 24)) = true) : LoopSem Try.prog (ordBX Try.prog) (ordBH o s t n) (ordBO o s t n).1 (ordBO o s t n).2 := by
  refine loop_rule (C := CCr Try.prog) okCr (f := 9) (loopsOf_in (k := 13) ordBX_eq) 40 [5, 7, 8] [5, 8] 2 (fun g : ordBG => ordBH g.o g.s g.t g.n) (fun g => (24 - g.n).toNat) (fun g => (decide (1 ≤ g.n)) = true ∧ (decide (g.n ≤ 24)) = true) (fun g => ordBO g.o g.s g.t g.n) (fun _ => rfl) ?_ ⟨o, s, t, n⟩ hg
  clear hg
  rintro ⟨o, s, t, n⟩ hg
  simp only at hg
  simp only [ordBR]
  simp only [decide_eq_true_eq] at hg
  obtain ⟨h0, h1⟩ := hg
  by_cases h24 : n = 24
  · subst h24
    have hz : ((s.smul 24).md 24).eqB V3.zero = true := by rw [hit_iff]; exact ⟨⟨_, rfl⟩, ⟨_, rfl⟩, ⟨_, rfl⟩⟩
    rw [hz]
    right
    unfold ordBO
    exact ⟨by first | trivial | rfl, by simp⟩
  · have hk : (24 - n).toNat = (24 - (n + 1)).toNat + 1 := by omega
    cases hz : ((s.smul n).md 24).eqB V3.zero with
    | true =>
      right
      have hf : findM s (24 - n).toNat n = n := by rw [hk]; simp only [findM, hz]
      unfold ordBO
      simp only [hf, Bool.not_true]
      exact ⟨trivial, by simp⟩
    | false =>
      left
      have hf : findM s (24 - n).toNat n = findM s (24 - (n + 1)).toNat (n + 1) := by rw [hk]; simp only [findM, hz]
      have hw : W (n + 1) = n + 1 := W_in (by omega)
      refine ⟨⟨o, s, t, n + 1⟩, by simp only [hw, Bool.not_false], ?_, ?_, ?_⟩
      · simp only [decide_eq_true_eq]; omega
      · simp only; omega
      · unfold ordBO; simp only [hf]
def ordBS (st : St) : Option (Ans (Exit × St)) :=
  match sized st 41 2 && (ptrIs st.tmps[7]? 1), intAt st.tmps[5]?, intAt st.tmps[8]?, opCells (ownCells st.mem[0]?), vecCells (ownCells st.mem[1]?) with
  | true, some t, some n, some o, some s => some (.br (decide (1 ≤ n) && (decide (n ≤ 24))) (.out (.exit 2, stOf 41 [(5, vI t), (8, vI (findM s (24 - n).toNat n))] [.cells true 0 o.cells, .cells true 0 s.cells])) .fail)
  | _, _, _, _, _ => none
theorem ordBK {st : St} {ans : Ans (Exit × St)} {e : Exit} {s : St} (h : ordBS st = some ans) (hr : ans.res = some (e, s)) : LoopSem Try.prog (ordBX Try.prog) st e s := by
  unfold ordBS at h
  split at h
  · rename_i t n o s hb h_t h_n h_o h_s
    simp only [Bool.and_eq_true] at hb
    obtain ⟨hb0, hb1⟩ := hb
    simp only [Option.some.injEq] at h
    subst h
    rcases Ans.br_some hr with ⟨hc, hr⟩ | ⟨_, hr⟩
    · simp only [Bool.and_eq_true] at hc
      have hm0 := ownCells_spec (opCells_spec h_o) (by simp [O3.cells])
      have hm1 := ownCells_spec (vecCells_spec h_s) (by simp [V3.cells])
      have hml : st.mem.length = 2 := by unfold sized at hb0; rw [Bool.and_eq_true] at hb0; exact Nat.eq_of_beq_eq_true hb0.2
      have hm : st.mem = [.cells true 0 o.cells, .cells true 0 s.cells] := mem_of hml (fun j hj => by
        simp only [List.length_cons, List.length_nil] at hj
        have : j = 0 ∨ j = 1 := by omega
        rcases this with rfl | rfl
        · exact hm0
        · exact hm1)
      have hk := stOf_keep hb0 [(5, vI t), (7, .pointer (some ⟨1, 0, none⟩)), (8, vI n)] (by
        intro x hx
        simp only [List.mem_cons, List.not_mem_nil, or_false] at hx
        rcases hx with rfl | rfl | rfl
        · exact intAt_spec h_t
        · exact ptrIs_spec hb1
        · exact intAt_spec h_n) hm
      have key := ordBL o s t n hc
      unfold ordBH at key
      rw [← hk] at key
      have key := LoopSem.clean key
      unfold ordBO at key
      simp only [Ans.res, Option.some.injEq, Prod.mk.injEq] at hr
      obtain ⟨rfl, rfl⟩ := hr
      exact key
    · simp [Ans.res] at hr
  · cases h

def Cl1 (P : Program) : Cx := (Cq P).addL 9 9 ordAS
theorem okc1 : CxOk (Cl1 Try.prog) := Cx.addL_ok okq ordAX_eq fun _ _ _ _ h hr => ordAK h hr
def Cl2 (P : Program) : Cx := (Cl1 P).addL 9 13 ordBS
theorem okc2 : CxOk (Cl2 Try.prog) := Cx.addL_ok okc1 ordBX_eq fun _ _ _ _ h hr => ordBK h hr
end Go.Proofs.Ytagnkjdobkdhmab

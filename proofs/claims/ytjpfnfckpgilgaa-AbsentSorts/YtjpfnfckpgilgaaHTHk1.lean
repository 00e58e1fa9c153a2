/-
  group.Rotations of lists of any length; hkl.rows, told. Nothing here is trusted.
-/
import Derived.Test.YtjpfnfckpgilgaaHTCo5
namespace Go.Proofs.Ytjpfnfckpgilgaa
open Go Vx Go.RowKit
def rtwF : List Value → Mem → Option (Ans (Value × Mem))
  | [.slice none 0 0], [] => some (.out (nilE 5, [.no]))
  | [.slice (some ⟨0, 0, some 0⟩) N 12], [.rows own true 12 N2 row] => some (.br (Nat.beq N N2 && okOps N row) (.br (chkI (opsOf N row) != 0) (.out (nilE (chkI (opsOf N row)), [.rows own true 12 N (opRow (opsOf N row)), .no])) (.out (.tuple #[.slice (some ⟨1, 0, some 0⟩) (rotsT (opsOf N row)).length 9, vI 0], [.rows own true 12 N (opRow (opsOf N row)), .rows true true 9 (rotsT (opsOf N row)).length (mtRow (rotsT (opsOf N row)))]))) .fail)
  | _, _ => none
theorem rtwS {args : List Value} {m : Mem} {ans : Ans (Value × Mem)} {v : Value} {m' : Mem} (h : rtwF args m = some ans) (hr : ans.res = some (v, m')) : MemSem Try.prog 106 args m v m' := by
  unfold rtwF at h
  split at h
  · simp only [Option.some.injEq] at h
    subst h
    simp only [Ans.res, Option.some.injEq, Prod.mk.injEq] at hr
    obtain ⟨rfl, rfl⟩ := hr
    exact exT_ok okpa Try.func106 (by kernel_rfl) rtE0
  · rename_i N own N2 row
    simp only [Option.some.injEq] at h
    subst h
    rcases Ans.br_some hr with ⟨hc, hr1⟩ | ⟨_, hr1⟩
    rotate_left
    · simp [Ans.res] at hr1
    clear hr
    simp only [Bool.and_eq_true] at hc
    obtain ⟨c1, c2⟩ := hc
    have c1 := beq_len c1
    subst c1
    have hl := opsOf_length N row
    have hE := rtE1 own N (opsOf N row)
    have tg : oT N (opRow (opsOf N row)) = true := by unfold oT; rw [Nat.beq_refl, okOps_opRow]; simp
    rw [opsOf_row hl, opsOf_row hl, tg] at hE
    simp only [gd_true] at hE
    rcases Ans.br_some hr1 with ⟨hq, hr2⟩ | ⟨hq, hr2⟩
    · rw [hq] at hE
      simp only [Ans.res, Option.some.injEq, Prod.mk.injEq] at hr2
      obtain ⟨rfl, rfl⟩ := hr2
      exact (exT_ok okpa Try.func106 (by kernel_rfl) hE).like ⟨.rows (ops_like c2), trivial⟩
    · rw [hq] at hE
      have h0 : chkI (opsOf N row) = 0 := by simpa using hq
      have hN := (chk_len h0).1
      rw [hl] at hN
      have ht : partT2 N (opRow (opsOf N row)) = true := by unfold partT2; rw [Nat.beq_refl, okOps_opRow]; simp; omega
      have hQ : bld (fun i => rotT (opsOf N row) i) (fun i => (atO (opsOf N row) i).r) N 0 [] = rotsT (opsOf N row) := by unfold rotsT; rw [hl]
      rw [ht, hQ] at hE
      simp only [gd_true] at hE
      unfold endM at hE
      rw [rots_ne h0] at hE
      simp only [Ans.res, Option.some.injEq, Prod.mk.injEq] at hr2
      obtain ⟨rfl, rfl⟩ := hr2
      exact (exT_ok okpa Try.func106 (by kernel_rfl) hE).like ⟨.rows (ops_like c2), trivial⟩
  · cases h

def Cau (P : Program) : Cx := (CChk P).addF 106 rtwF
theorem okau : CxOk (Cau Try.prog) := Cx.addF_ok okChk fun _ _ _ _ _ h hr => rtwS h hr
def atM (ms : List M3) (i : Int) : M3 := (ms[i.toNat]?).getD M3.zero
def rwB (P : Program) : Code := bodyOf P 107
theorem rwB_eq : Try.f107.body = some (rwB Try.prog) := by kernel_rfl
def zeroV : Nat → List Value := fun _ => V3.zero.cells
def mkT (n : Nat) : Bool := decide (0 ≤ (n : Int)) && (decide ((n : Int) ≤ (n : Int)) && (decide ((n : Int) * ((24 : Nat) : Int) ≤ 2 ^ 47) && decide ((n : Int) ≤ 2 ^ 62)))
def rw1 (own : Bool) (n : Nat) (ms : List M3) (h : V3) (r : Nat → List Value) : St := stOf 26 [(0, .slice (some ⟨0, 0, some 0⟩) n 9), (3, .pointer (some ⟨1, 0, none⟩)), (4, .slice none 0 0), (5, .slice (some ⟨2, 0, some 0⟩) n 3)] [.rows own true 9 n (mtRow ms), .cells true 0 h.cells, .rows true true 3 n r]
def rwH (own : Bool) (n : Nat) (ms : List M3) (h : V3) (r : Nat → List Value) (i : Int) : St := stOf 26 [(3, .pointer (some ⟨1, 0, none⟩)), (4, .slice none 0 0), (5, .slice (some ⟨2, 0, some 0⟩) n 3), (11, .slice (some ⟨0, 0, some 0⟩) n 9), (12, vI n), (13, vI i)] [.rows own true 9 n (mtRow ms), .cells true 0 h.cells, .rows true true 3 n r]
def rwE (own : Bool) (n : Nat) (ms : List M3) (r : Nat → List Value) : St := stOf 26 [(4, .slice none 0 0), (5, .slice (some ⟨1, 0, some 0⟩) n 3)] [.rows own true 9 n (mtRow ms), .rows true true 3 n r]
theorem rwP (own : Bool) (n : Nat) (ms : List M3) (h : V3) : segR ((Cau Try.prog).into 107 1) 60 2 (rwB Try.prog) [0, 3, 4, 5] [.fix 0, .slot 3, .slot 5] (enter Try.f107 [.slice (some ⟨0, 0, some 0⟩) n 9, h.v] [.rows own true 9 n (mtRow ms)]) = gd (mkT n) (some (rw1 own n ms h zeroV)) := by kernel_rfl
theorem rwFor : isFor 0 (stmt 2 (rwB Try.prog)) = true := by kernel_rfl
theorem rwHas : hasStmt 2 (rwB Try.prog) = true := by kernel_rfl
theorem rwHd (own : Bool) (n : Nat) (ms : List M3) (h : V3) (r : Nat → List Value) : roundR ((Cau Try.prog).into 107 1) 60 (forHead (stmt 2 (rwB Try.prog))) [3, 4, 5, 11, 12, 13] [3, 4, 5, 11, 12, 13] [.fix 0, .slot 3, .slot 5] [.fix 0, .slot 3, .slot 5] (rw1 own n ms h r) = some (.normal, rwH own n ms h r 0) := by kernel_rfl
theorem rwR (own : Bool) (n : Nat) (ms : List M3) (h : V3) (Y : List V3) (i : Nat) : roundR ((Cau Try.prog).into 107 1) 60 (forBody (stmt 2 (rwB Try.prog))) [3, 4, 5, 11, 12, 13] [4, 5] [.fix 0, .slot 3, .slot 5] [.fix 0, .slot 5] (rwH own n ms h (vcRow Y) (i : Int)) =
    (match decide ((i : Int) < (n : Int)) with
    | true => gd (boundsI (i : Int) n) (gd (boundsI (i : Int) n) (some (.normal, rwH own n ms h (stV Y (rowI h (atM ms (i : Int))) (i : Int)) (W ((i : Int) + 1)))))
    | false => some (.exit 0, rwE own n ms (vcRow Y))) := by kernel_rfl
theorem rwEnd (own : Bool) (n : Nat) (ms : List M3) (r : Nat → List Value) : roundR ((Cau Try.prog).into 107 1) 60 (seqDrop 3 (rwB Try.prog)) [4] [4] [.fix 0, .slot 4] [.fix 0, .slot 4] (rwE own n ms r) = some (.ret, stOf 26 [(4, .slice (some ⟨1, 0, some 0⟩) n 3)] [.rows own true 9 n (mtRow ms), .rows true true 3 n r]) := by kernel_rfl
theorem rwRet (own : Bool) (n : Nat) (ms : List M3) (r : Nat → List Value) : (retA Try.prog Try.f107 (.ret, stOf 26 [(4, .slice (some ⟨1, 0, some 0⟩) n 3)] [.rows own true 9 n (mtRow ms), .rows true true 3 n r])).res = some (.slice (some ⟨1, 0, some 0⟩) n 3, [.rows own true 9 n (mtRow ms), .rows true true 3 n r]) := by kernel_rfl
set_option maxRecDepth 100000 in
theorem rwIn : InBody ((Cau Try.prog).into 107 1) (forHead (stmt 2 (rwB Try.prog))) ∧ InBody ((Cau Try.prog).into 107 1) (forBody (stmt 2 (rwB Try.prog))) := for_in (C := Cau Try.prog) (f := 107) (B := 1) (id := 0) (k := 2) (fn := Try.f107) (b := rwB Try.prog) Try.func107 rwB_eq rwFor
theorem rwL (own : Bool) (n : Nat) (ms : List M3) (h : V3) (hn : n ≤ 1000) : ∀ (c i : Nat) (Y : List V3), i + c = n → Y.length = n → LoopSem Try.prog 1 (forBody (stmt 2 (rwB Try.prog))) (rwH own n ms h (vcRow Y) (i : Int)) (.exit 0) (rwE own n ms (vcRow (fillF (fun j => rowI h (atM ms (j : Int))) c i Y))) := by
  intro c
  induction c with
  | zero =>
    intro i Y hi hY
    have hr := rwR own n ms h Y i
    rw [show decide ((i : Int) < (n : Int)) = false by simp; omega] at hr
    exact loop_leave (C := Cau Try.prog) okau (f := 107) (B := 1) rwIn.2 hr (by simp)
  | succ c ih =>
    intro i Y hi hY
    have hr := rwR own n ms h Y i
    rw [show decide ((i : Int) < (n : Int)) = true by simp; omega, bd_ok' (show i < n by omega), show W ((i : Int) + 1) = ((i + 1 : Nat) : Int) by rw [W_in (by omega)]; simp] at hr
    simp only [gd_true] at hr
    exact loop_next (C := Cau Try.prog) okau (f := 107) (B := 1) (s2 := rwH own n ms h (vcRow (Y.set i (rowI h (atM ms (i : Int))))) ((i + 1 : Nat) : Int)) rwIn.2 hr ⟨rfl, .refl _, .refl _, .rows (stV_like Y _ (by omega) n hY.symm), trivial⟩ (ih (i + 1) _ (by omega) (by simpa using hY))
theorem fill_map (ms : List M3) (h : V3) : fillF (fun j => rowI h (atM ms (j : Int))) ms.length 0 (List.replicate ms.length V3.zero) = ms.map (rowI h) := by
  apply List.ext_getElem?
  intro q
  rw [fillF_get, List.getElem?_map]
  by_cases hq : q < ms.length
  · rw [if_pos (by simp; omega), List.getElem?_eq_getElem hq]
    have : atM ms (q : Int) = ms[q] := by unfold atM; rw [Int.toNat_natCast, List.getElem?_eq_getElem hq]; rfl
    rw [this]; rfl
  · rw [if_neg (by simp; omega), List.getElem?_eq_none (by simp; omega), List.getElem?_eq_none (by omega)]
    rfl
theorem rwS (own : Bool) (ms : List M3) (h : V3) (hn : ms.length ≤ 1000) : MemSem Try.prog 107 [.slice (some ⟨0, 0, some 0⟩) ms.length 9, h.v] [.rows own true 9 ms.length (mtRow ms)] (.slice (some ⟨1, 0, some 0⟩) ms.length 3) [.rows own true 9 ms.length (mtRow ms), .rows true true 3 ms.length (vcRow (ms.map (rowI h)))] := by
  have r1 := rwP own ms.length ms h
  rw [show mkT ms.length = true by unfold mkT; simp; omega, gd_true] at r1
  have hl := rwL own ms.length ms h hn ms.length 0 (List.replicate ms.length V3.zero) (by omega) (by simp)
  rw [fill_map] at hl
  have hd := end_rule (C := Cau Try.prog) okau (f := 107) (B := 1) rwIn.1 (rwHd own ms.length ms h zeroV)
  have hd2 : CodeSem Try.prog 1 (forHead (stmt 2 (rwB Try.prog))) (rw1 own ms.length ms h zeroV) .normal (rwH own ms.length ms h (vcRow (List.replicate ms.length V3.zero)) ((0 : Nat) : Int)) := by
    refine CodeSem.likes hd ⟨rfl, .refl _, .refl _, .rows (fun q hq => ?_), trivial⟩
    rw [vcRow_get (by simpa using hq)]
    simp [zeroV]
  have body0 : InBody ((Cau Try.prog).into 107 1) (rwB Try.prog) := Or.inl ⟨Try.f107, rwB Try.prog, Try.func107, rwB_eq, fun _ hx => hx⟩
  exact body_mem (P := Try.prog) (f := 107) (m := [.rows own true 9 ms.length (mtRow ms)]) Try.func107 rwB_eq (by kernel_rfl) (seg_rule (C := Cau Try.prog) okau (f := 107) (B := 1) (k := 2) body0 r1 (stmt_rule rwHas (for_rule rwFor hd2 hl) (end_rule (C := Cau Try.prog) okau (f := 107) (B := 1) (bodyOf_in Try.func107 rwB_eq) (rwEnd own ms.length ms _)))) (rwRet own ms.length ms _)
def rwF : List Value → Mem → Option (Ans (Value × Mem))
  | [.slice (some ⟨0, 0, some 0⟩) N 9, .agg co], [.rows own true 9 N2 row] => match vecCells co.toList with
    | some h => some (.br (Nat.beq N N2 && (okMts N row && Nat.ble N 1000)) (.out (.slice (some ⟨1, 0, some 0⟩) N 3, [.rows own true 9 N (mtRow (mtsOf N row)), .rows true true 3 N (vcRow ((mtsOf N row).map (rowI h)))])) .fail)
    | none => none
  | _, _ => none
theorem rwF_ok {args : List Value} {m : Mem} {ans : Ans (Value × Mem)} {v : Value} {m' : Mem} (h : rwF args m = some ans) (hr : ans.res = some (v, m')) : MemSem Try.prog 107 args m v m' := by
  unfold rwF at h
  split at h
  rotate_left
  · cases h
  rename_i N co own N2 row
  split at h
  rotate_left
  · cases h
  rename_i h1 hh
  simp only [Option.some.injEq] at h
  subst h
  rcases Ans.br_some hr with ⟨hc, hr1⟩ | ⟨_, hr1⟩
  rotate_left
  · simp [Ans.res] at hr1
  simp only [Bool.and_eq_true] at hc
  obtain ⟨c1, c2, c3⟩ := hc
  have c1 := beq_len c1
  subst c1
  have e1 : co = h1.cells.toArray := by rw [← vecCells_spec hh]
  subst e1
  simp only [Ans.res, Option.some.injEq, Prod.mk.injEq] at hr1
  obtain ⟨rfl, rfl⟩ := hr1
  have hl := mtsOf_length N row
  have := rwS own (mtsOf N row) h1 (by rw [hl]; exact Nat.le_of_ble_eq_true c3)
  rw [hl] at this
  exact this.like ⟨.rows (mts_like c2), trivial⟩
end Go.Proofs.Ytjpfnfckpgilgaa

/-
  facettop.awake, parts and grown told. Nothing here is trusted.
-/
import Derived.Test.YtneaibkfglfpaaaKal
import Derived.Test.YtneaibkfglfpaaaHWoD
namespace Go.Proofs.Ytneaibkfglfpaaa
open Go Vx Go.RowKit
def Cwo0 (P : Program) : Cx := (Caw8 P).addF 35 sdF
theorem okwo0 : CxOk (Cwo0 Try.prog) := Cx.addF_ok okaw8 fun _ _ _ _ _ h hr => sdF_ok h hr
theorem awEt : exFun ((Cwo0 Try.prog).at 36) 60 Try.f36 (pack [] []) = some (.bool true) := by kernel_rfl
def Cwo1 (P : Program) : Cx := (Cwo0 P).add 36 [] Faw
theorem okwo1 : CxOk (Cwo1 Try.prog) := Cx.add_ok okwo0 (n := 60) Try.func36 (by kernel_rfl) fun l v hl h => by
  match l, hl, h with
  | [], _, hh => rw [awEt]; exact hh
/-- One of the four. -/
def prt (k : Int) : Int := [24, 48, 96, 192].getD (k.toNat % 4) 24
def runsP (P : Program) (fn : Func) (q : Nat) : List (Option Value) := (List.range 16).map fun r => exFun ((Cwo1 P).at 38) 30 fn [.int .u8 ((16 * q + r : Nat) : Int)]
def valsP (q : Nat) : List (Option Value) := (List.range 16).map fun r => some (vI (prt ((16 * q + r : Nat) : Int)))
theorem rP0 : runsP Try.prog Try.f38 0 = valsP 0 := by kernel_rfl
theorem rP1 : runsP Try.prog Try.f38 1 = valsP 1 := by kernel_rfl
theorem rP2 : runsP Try.prog Try.f38 2 = valsP 2 := by kernel_rfl
theorem rP3 : runsP Try.prog Try.f38 3 = valsP 3 := by kernel_rfl
theorem rP4 : runsP Try.prog Try.f38 4 = valsP 4 := by kernel_rfl
theorem rP5 : runsP Try.prog Try.f38 5 = valsP 5 := by kernel_rfl
theorem rP6 : runsP Try.prog Try.f38 6 = valsP 6 := by kernel_rfl
theorem rP7 : runsP Try.prog Try.f38 7 = valsP 7 := by kernel_rfl
theorem rP8 : runsP Try.prog Try.f38 8 = valsP 8 := by kernel_rfl
theorem rP9 : runsP Try.prog Try.f38 9 = valsP 9 := by kernel_rfl
theorem rP10 : runsP Try.prog Try.f38 10 = valsP 10 := by kernel_rfl
theorem rP11 : runsP Try.prog Try.f38 11 = valsP 11 := by kernel_rfl
theorem rP12 : runsP Try.prog Try.f38 12 = valsP 12 := by kernel_rfl
theorem rP13 : runsP Try.prog Try.f38 13 = valsP 13 := by kernel_rfl
theorem rP14 : runsP Try.prog Try.f38 14 = valsP 14 := by kernel_rfl
theorem rP15 : runsP Try.prog Try.f38 15 = valsP 15 := by kernel_rfl
theorem partsRuns (q : Nat) (h : q < 16) : runsP Try.prog Try.f38 q = valsP q := by
  match q, h with
  | 0, _ => exact rP0
  | 1, _ => exact rP1
  | 2, _ => exact rP2
  | 3, _ => exact rP3
  | 4, _ => exact rP4
  | 5, _ => exact rP5
  | 6, _ => exact rP6
  | 7, _ => exact rP7
  | 8, _ => exact rP8
  | 9, _ => exact rP9
  | 10, _ => exact rP10
  | 11, _ => exact rP11
  | 12, _ => exact rP12
  | 13, _ => exact rP13
  | 14, _ => exact rP14
  | 15, _ => exact rP15
  | q + 16, h => exact absurd h (by omega)
def FPt : List Value → Option (Bool × Value)
  | [.int .u8 k] => some (byteB k, vI (prt k))
  | _ => none
def Cwo2 (P : Program) : Cx := (Cwo1 P).addR 38 FPt
theorem okwo2 : CxOk (Cwo2 Try.prog) := by
  have := Cx.addR_ok (C := (Cwo1 Try.prog).at 38) (okwo1.at 38) (n := 30) (f := 38) (F := FPt) Try.func38 (by kernel_rfl) (Or.inl rfl) (fun args v h => by
    unfold FPt at h
    split at h
    · rename_i k
      simp only [Option.some.injEq, Prod.mk.injEq] at h
      obtain ⟨h1, rfl⟩ := h
      obtain ⟨h0, h1⟩ := byteB_iff.1 h1
      have := congrArg (fun l => l[(k.toNat % 16)]?) (partsRuns (k.toNat / 16) (by omega))
      have hr : k.toNat % 16 < 16 := Nat.mod_lt _ (by omega)
      have hk : ((16 * (k.toNat / 16) + k.toNat % 16 : Nat) : Int) = k := by omega
      simp only [runsP, valsP, List.getElem?_map, List.getElem?_range hr, Option.map_some, hk, Option.some.injEq] at this
      exact this
    · cases h)
  exact ⟨this.mixed, this.tbl, this.tbm, this.keys, this.inl, this.lp, this.rd, this.rd2⟩
def grL (ss : List Sd) : List O3 := sdL (min ss.length 3) ss
def slG (own : Bool) (n : Nat) (ss : List Sd) (Z : List O3) : Option (Value × Mem) := some (.slice (some ⟨1, 0, some 0⟩) (clsG Z).length 12, [.rows own true 6 n (sdRow ss), .rows true true 12 (clsG Z).length (opRow (clsG Z))])
def slN (own : Bool) (n : Nat) (ss : List Sd) : Option (Value × Mem) := some (.slice none 0 0, [.rows own true 6 n (sdRow ss), .no])
def grE (own : Bool) (n : Nat) (ss : List Sd) (Z : List O3) : Option (Value × Mem) := match clsOk Z with
  | true => slG own n ss Z
  | false => match clsErr Z != 0 with
    | true => slN own n ss
    | false => slN own n ss
def Cgr0 (P : Program) : Cx := ((Cwo2 P).road 35 [true, true]).lend 13
theorem okgr0 : CxOk (Cgr0 Try.prog) := Cx.lend_ok (Cx.road_ok okwo2 _ _) _
theorem grE0 (own : Bool) (n : Nat) (ss : List Sd) : exT ((Cgr0 Try.prog).at 37) 60 Try.f37 [.slice (some ⟨0, 0, some 0⟩) n 6] [.rows own true 6 n (sdRow ss)] [.fix 0, .slot 0] = gd (lk n) (gd (okT6 n ss) (gd (Nat.beq n 0) (some (.slice (some ⟨1, 0, some 0⟩) 1 12, [.rows own true 6 n (sdRow ss), .rows true true 12 1 (opRow [O3.one])])))) := by kernel_rfl
def Cgr1 (P : Program) : Cx := ((Cwo2 P).road 35 [true, false, true]).lend 13
theorem okgr1 : CxOk (Cgr1 Try.prog) := Cx.lend_ok (Cx.road_ok okwo2 _ _) _
theorem grE1 (own : Bool) (n : Nat) (ss : List Sd) : exT ((Cgr1 Try.prog).at 37) 60 Try.f37 [.slice (some ⟨0, 0, some 0⟩) n 6] [.rows own true 6 n (sdRow ss)] [.fix 0, .slot 0] = gd (lk n) (gd (okT6 n ss) (gn (Nat.beq n 0) (gd (Nat.beq n 1) (grE own n ss (opsOf 1 (opRow (sdL 1 (sdsOf n (sdRow ss))))))))) := by kernel_rfl
def Cgr2 (P : Program) : Cx := ((Cwo2 P).road 35 [true, false, false, true]).lend 13
theorem okgr2 : CxOk (Cgr2 Try.prog) := Cx.lend_ok (Cx.road_ok okwo2 _ _) _
theorem grE2 (own : Bool) (n : Nat) (ss : List Sd) : exT ((Cgr2 Try.prog).at 37) 60 Try.f37 [.slice (some ⟨0, 0, some 0⟩) n 6] [.rows own true 6 n (sdRow ss)] [.fix 0, .slot 0] = gd (lk n) (gd (okT6 n ss) (gn (Nat.beq n 0) (gn (Nat.beq n 1) (gd (Nat.beq n 2) (grE own n ss (opsOf 2 (opRow (sdL 2 (sdsOf n (sdRow ss)))))))))) := by kernel_rfl
def Cgr3 (P : Program) : Cx := ((Cwo2 P).road 35 [true, false, false, false]).lend 13
theorem okgr3 : CxOk (Cgr3 Try.prog) := Cx.lend_ok (Cx.road_ok okwo2 _ _) _
theorem grE3 (own : Bool) (n : Nat) (ss : List Sd) : exT ((Cgr3 Try.prog).at 37) 60 Try.f37 [.slice (some ⟨0, 0, some 0⟩) n 6] [.rows own true 6 n (sdRow ss)] [.fix 0, .slot 0] = gd (lk n) (gd (okT6 n ss) (gn (Nat.beq n 0) (gn (Nat.beq n 1) (gn (Nat.beq n 2) (grE own n ss (opsOf 3 (opRow (sdL 3 (sdsOf n (sdRow ss)))))))))) := by kernel_rfl
def Cgrz (P : Program) : Cx := (Cwo2 P).lend 13
theorem okgrz : CxOk (Cgrz Try.prog) := Cx.lend_ok okwo2 _
theorem grZ : exT ((Cgrz Try.prog).at 37) 60 Try.f37 [.slice none 0 0] [] [.slot 0] = some (.slice (some ⟨0, 0, some 0⟩) 1 12, [.rows true true 12 1 (opRow [O3.one])]) := by kernel_rfl
theorem nb_ff2 {n m : Nat} (h : n ≠ m) : Nat.beq n m = false := by
  cases hb : Nat.beq n m with
  | false => rfl
  | true => exact absurd (Nat.eq_of_beq_eq_true hb) h
theorem cls_nil : clsOk ([] : List O3) = true ∧ clsG ([] : List O3) = [O3.one] := ⟨by kernel_rfl, by kernel_rfl⟩
theorem grS (own : Bool) (ss : List Sd) (hok : ∀ d ∈ ss, d.ok = true) : (clsOk (grL ss) = true → MemSem Try.prog 37 [.slice (some ⟨0, 0, some 0⟩) ss.length 6] [.rows own true 6 ss.length (sdRow ss)] (.slice (some ⟨1, 0, some 0⟩) (clsG (grL ss)).length 12) [.rows own true 6 ss.length (sdRow ss), .rows true true 12 (clsG (grL ss)).length (opRow (clsG (grL ss)))]) ∧ (clsOk (grL ss) = false → MemSem Try.prog 37 [.slice (some ⟨0, 0, some 0⟩) ss.length 6] [.rows own true 6 ss.length (sdRow ss)] (.slice none 0 0) [.rows own true 6 ss.length (sdRow ss), .no]) := by
  have t6 : okT6 ss.length ss = true := by unfold okT6; rw [Nat.beq_refl, okSds_row hok rfl]; rfl
  have fin : ∀ (C : Cx) (hC : CxOk C) (hP : C.P = Try.prog) (k : Nat), min ss.length 3 = k → exT (C.at 37) 60 Try.f37 [.slice (some ⟨0, 0, some 0⟩) ss.length 6] [.rows own true 6 ss.length (sdRow ss)] [.fix 0, .slot 0] = grE own ss.length ss (sdL k ss) → (clsOk (grL ss) = true → MemSem Try.prog 37 [.slice (some ⟨0, 0, some 0⟩) ss.length 6] [.rows own true 6 ss.length (sdRow ss)] (.slice (some ⟨1, 0, some 0⟩) (clsG (grL ss)).length 12) [.rows own true 6 ss.length (sdRow ss), .rows true true 12 (clsG (grL ss)).length (opRow (clsG (grL ss)))]) ∧ (clsOk (grL ss) = false → MemSem Try.prog 37 [.slice (some ⟨0, 0, some 0⟩) ss.length 6] [.rows own true 6 ss.length (sdRow ss)] (.slice none 0 0) [.rows own true 6 ss.length (sdRow ss), .no]) := fun C hC hP k hk hE => by
    have hg : grL ss = sdL k ss := by unfold grL; rw [hk]
    rw [hg]
    unfold grE at hE
    constructor
    · intro h
      rw [h] at hE
      rw [← hP]
      exact exT_ok hC (by rw [hP]; exact Try.func37) (by rw [hP]; kernel_rfl) hE
    · intro h
      rw [h] at hE
      have hE2 : exT (C.at 37) 60 Try.f37 [.slice (some ⟨0, 0, some 0⟩) ss.length 6] [.rows own true 6 ss.length (sdRow ss)] [.fix 0, .slot 0] = slN own ss.length ss := by
        rw [hE]
        cases (clsErr (sdL k ss) != 0) <;> rfl
      rw [← hP]
      exact exT_ok hC (by rw [hP]; exact Try.func37) (by rw [hP]; kernel_rfl) hE2
  by_cases h0 : ss.length = 0
  · have r := grE0 own ss.length ss
    rw [lk_true, t6, show Nat.beq ss.length 0 = true by rw [h0]; rfl] at r
    have hg : grL ss = [] := by unfold grL; rw [h0]; rfl
    rw [hg]
    constructor
    · intro _
      rw [cls_nil.2]
      exact exT_ok okgr0 Try.func37 (by kernel_rfl) r
    · intro h; rw [cls_nil.1] at h; cases h
  have n0 := nb_ff2 h0
  by_cases h1 : ss.length = 1
  · have r := grE1 own ss.length ss
    rw [lk_true, t6, sdsOf_row rfl, n0, show Nat.beq ss.length 1 = true by rw [h1]; rfl, opsOf_row (sdL_len 1 ss)] at r
    exact fin _ okgr1 rfl 1 (by omega) r
  have n1 := nb_ff2 h1
  by_cases h2 : ss.length = 2
  · have r := grE2 own ss.length ss
    rw [lk_true, t6, sdsOf_row rfl, n0, n1, show Nat.beq ss.length 2 = true by rw [h2]; rfl, opsOf_row (sdL_len 2 ss)] at r
    exact fin _ okgr2 rfl 2 (by omega) r
  · have n2 := nb_ff2 h2
    have r := grE3 own ss.length ss
    rw [lk_true, t6, sdsOf_row rfl, n0, n1, n2, opsOf_row (sdL_len 3 ss)] at r
    exact fin _ okgr3 rfl 3 (by omega) r
def grF : List Value → Mem → Option (Ans (Value × Mem))
  | [.slice none 0 0], [] => some (.out (.slice (some ⟨0, 0, some 0⟩) 1 12, [.rows true true 12 1 (opRow [O3.one])]))
  | [.slice (some ⟨0, 0, some 0⟩) N 6], [.rows own true 6 N2 row] => some (.br (Nat.beq N N2 && okSds N row) (.br (clsOk (grL (sdsOf N row))) (.out (.slice (some ⟨1, 0, some 0⟩) (clsG (grL (sdsOf N row))).length 12, [.rows own true 6 N (sdRow (sdsOf N row)), .rows true true 12 (clsG (grL (sdsOf N row))).length (opRow (clsG (grL (sdsOf N row))))])) (.out (.slice none 0 0, [.rows own true 6 N (sdRow (sdsOf N row)), .no]))) .fail)
  | _, _ => none
theorem grF_ok {args : List Value} {m : Mem} {ans : Ans (Value × Mem)} {v : Value} {m' : Mem} (h : grF args m = some ans) (hr : ans.res = some (v, m')) : MemSem Try.prog 37 args m v m' := by
  unfold grF at h
  split at h
  · simp only [Option.some.injEq] at h
    subst h
    simp only [Ans.res, Option.some.injEq, Prod.mk.injEq] at hr
    obtain ⟨rfl, rfl⟩ := hr
    exact exT_ok okgrz Try.func37 (by kernel_rfl) grZ
  rotate_left
  · cases h
  rename_i N own N2 row
  simp only [Option.some.injEq] at h
  subst h
  rcases Ans.br_some hr with ⟨hc, hr1⟩ | ⟨_, hr1⟩
  rotate_left
  · simp [Ans.res] at hr1
  rw [Bool.and_eq_true] at hc
  obtain ⟨c1, c2⟩ := hc
  have c1 := beq_len c1
  subst c1
  have hl := sdsOf_length N row
  have key := grS own (sdsOf N row) (sds_ok c2)
  rw [hl] at key
  rcases Ans.br_some hr1 with ⟨hq, hr2⟩ | ⟨hq, hr2⟩
  · simp only [Ans.res, Option.some.injEq, Prod.mk.injEq] at hr2
    obtain ⟨rfl, rfl⟩ := hr2
    exact (key.1 hq).like ⟨.rows (sds_like c2), trivial⟩
  · simp only [Ans.res, Option.some.injEq, Prod.mk.injEq] at hr2
    obtain ⟨rfl, rfl⟩ := hr2
    exact (key.2 hq).like ⟨.rows (sds_like c2), trivial⟩
def Cwo (P : Program) : Cx := (Cwo2 P).addF 37 grF
theorem okwo : CxOk (Cwo Try.prog) := Cx.addF_ok okwo2 fun _ _ _ _ _ h hr => grF_ok h hr
end Go.Proofs.Ytneaibkfglfpaaa

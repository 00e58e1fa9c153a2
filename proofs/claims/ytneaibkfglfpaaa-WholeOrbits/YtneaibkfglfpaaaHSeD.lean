/-
  facettop.seeded and facettop.seeds told. Nothing here is trusted.
-/
import Derived.Test.YtneaibkfglfpaaaHSeS0
import Derived.Test.YtneaibkfglfpaaaHSeS1
import Derived.Test.YtneaibkfglfpaaaHSeS2
import Derived.Test.YtneaibkfglfpaaaHSeS3
import Derived.Test.YtneaibkfglfpaaaKak
namespace Go.Proofs.Ytneaibkfglfpaaa
open Go Vx Go.RowKit
theorem seRunsS (q : Nat) (hq : q < 16) (h : Bool) (k a b c : Int) : runsS Try.prog Try.f75 q h k a b c = valsS q h k a b c := by
  match q, hq with
  | 0, _ => exact rSeS0 h k a b c
  | 1, _ => exact rSeS1 h k a b c
  | 2, _ => exact rSeS2 h k a b c
  | 3, _ => exact rSeS3 h k a b c
  | 4, _ => exact rSeS4 h k a b c
  | 5, _ => exact rSeS5 h k a b c
  | 6, _ => exact rSeS6 h k a b c
  | 7, _ => exact rSeS7 h k a b c
  | 8, _ => exact rSeS8 h k a b c
  | 9, _ => exact rSeS9 h k a b c
  | 10, _ => exact rSeS10 h k a b c
  | 11, _ => exact rSeS11 h k a b c
  | 12, _ => exact rSeS12 h k a b c
  | 13, _ => exact rSeS13 h k a b c
  | 14, _ => exact rSeS14 h k a b c
  | 15, _ => exact rSeS15 h k a b c
  | q + 16, h => exact absurd h (by omega)
theorem byteB_iff {k : Int} : byteB k = true ↔ 0 ≤ k ∧ k < 256 := by unfold byteB; simp
theorem sd_run (d : Sd) (h0 : 0 ≤ d.s) (h1 : d.s < 256) : exFun ((Csm2 Try.prog).at 75) 60 Try.f75 [d.v] = sdR d (stp d.s.toNat) := by
  have := congrArg (fun l => l[(d.s.toNat % 16)]?) (seRunsS (d.s.toNat / 16) (by omega) d.h d.k d.a d.b d.c)
  have hr : d.s.toNat % 16 < 16 := Nat.mod_lt _ (by omega)
  have hk : ((16 * (d.s.toNat / 16) + d.s.toNat % 16 : Nat) : Int) = d.s := by omega
  have hk2 : 16 * (d.s.toNat / 16) + d.s.toNat % 16 = d.s.toNat := by omega
  simp only [runsS, valsS, List.getElem?_map, List.getElem?_range hr, Option.map_some, hk, Option.some.injEq] at this
  rw [hk2] at this
  exact this
theorem sdR_eq (d : Sd) (hk : byteB d.k = true) : sdR d (stp d.s.toNat) = some (sdO d).v := by
  unfold sdR sdO
  rw [hk]
  cases d.h <;> rfl
theorem Sd.ok_iff {d : Sd} : d.ok = true ↔ (0 ≤ d.k ∧ d.k < 256) ∧ (0 ≤ d.a ∧ d.a < 256) ∧ (0 ≤ d.b ∧ d.b < 256) ∧ (0 ≤ d.c ∧ d.c < 256) ∧ (0 ≤ d.s ∧ d.s < 256) := by
  unfold Sd.ok
  simp only [Bool.and_eq_true, byteB_iff]
def FSd : List Value → Option (Bool × Value)
  | [.agg co] => match sdCells co.toList with
    | some d => some (d.ok, (sdO d).v)
    | none => none
  | _ => none
def Cse2 (P : Program) : Cx := (Csm2 P).addR 75 FSd
theorem okse2 : CxOk (Cse2 Try.prog) := by
  have := Cx.addR_ok (C := (Csm2 Try.prog).at 75) (oksm2.at 75) (n := 60) (f := 75) (F := FSd) Try.func75 (by kernel_rfl) (Or.inl rfl) (fun args v h => by
    unfold FSd at h
    split at h
    · rename_i co
      split at h
      · rename_i d hd
        simp only [Option.some.injEq, Prod.mk.injEq] at h
        obtain ⟨h1, rfl⟩ := h
        have hs := Sd.ok_iff.1 h1
        have e1 : co = d.cells.toArray := by rw [← sdCells_spec hd]
        subst e1
        show exFun _ _ _ [d.v] = _
        rw [sd_run d hs.2.2.2.2.1 hs.2.2.2.2.2, sdR_eq d (byteB_iff.2 hs.1)]
      · cases h
    · cases h)
  exact ⟨this.mixed, this.tbl, this.tbm, this.keys, this.inl, this.lp, this.rd, this.rd2⟩
def sdRow (l : List Sd) : Nat → List Value := fun i => ((l[i]?).getD Sd.zero).cells
def atS (l : List Sd) (i : Nat) : Sd := (l[i]?).getD Sd.zero
/-- A seed of the list, of the first one's kind. -/
def hx (ss : List Sd) (i : Nat) : Sd := ⟨(atS ss 0).h, (atS ss i).k, (atS ss i).a, (atS ss i).b, (atS ss i).c, (atS ss i).s⟩
def sd1 {α : Type} (n : Nat) (ss : List Sd) (i : Nat) (x : Option α) : Option α := gd (boundsI (i : Int) n) (gd (boundsI 0 n) (gd (hx ss i).ok x))
def sdA (own : Bool) (n : Nat) (ss : List Sd) (k : Nat) (r : Nat → List Value) : Option (Value × Mem) := some (.slice (some ⟨1, 0, some 0⟩) k 12, [.rows own true 6 n (sdRow ss), .rows true true 12 k r])
theorem seedsE (own : Bool) (n : Nat) (ss : List Sd) : exT ((Cse2 Try.prog).at 35) 60 Try.f35 [.slice (some ⟨0, 0, some 0⟩) n 6] [.rows own true 6 n (sdRow ss)] [.fix 0, .slot 0] =
    (match decide ((0 : Int) < (n : Int)) with
    | false => some (.slice none 0 0, [.rows own true 6 n (sdRow ss), .no])
    | true => sd1 n ss 0 (match decide ((1 : Int) < (n : Int)) with
      | false => sdA own n ss 1 (chop 12 0 (sdO (hx ss 0)).cells)
      | true => sd1 n ss 1 (match decide ((2 : Int) < (n : Int)) with
        | false => sdA own n ss 2 (catR 1 (chop 12 0 (sdO (hx ss 0)).cells) (chop 12 0 (sdO (hx ss 1)).cells))
        | true => sd1 n ss 2 (match decide ((3 : Int) < (n : Int)) with
          | false => sdA own n ss 3 (catR 2 (catR 1 (chop 12 0 (sdO (hx ss 0)).cells) (chop 12 0 (sdO (hx ss 1)).cells)) (chop 12 0 (sdO (hx ss 2)).cells))
          | true => sdA own n ss 3 (catR 2 (catR 1 (chop 12 0 (sdO (hx ss 0)).cells) (chop 12 0 (sdO (hx ss 1)).cells)) (chop 12 0 (sdO (hx ss 2)).cells)))))) := by kernel_rfl
theorem seedsZ : exT ((Cse2 Try.prog).at 35) 60 Try.f35 [.slice none 0 0] [] [.slot 0] = some (.slice none 0 0, [.no]) := by kernel_rfl
end Go.Proofs.Ytneaibkfglfpaaa

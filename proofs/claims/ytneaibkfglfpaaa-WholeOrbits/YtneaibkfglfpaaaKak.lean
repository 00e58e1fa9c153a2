/-
  A list of maps as an argument: what a reading says of its cells, and the memory that it is. Nothing here is trusted.
-/
import Derived.Test.YtneaibkfglfpaaaKaf
import Derived.Test.YtneaibkfglfpaaaRows
import Derived.OpenShut
import Derived.Test.YtneaibkfglfpaaaKaj
import Derived.Shelf.SlSortCmp.WholeK
import Derived.Test.YtneaibkfglfpaaaProg
import Derived.Test.YtneaibkfglfpaaaKah

namespace Go.Proofs.Ytneaibkfglfpaaa.Vx
open Go Go.RowKit

/-- The cells of a list of maps, in a world. -/
def OpsAt (W : World) (a : Addr) (xs : List O3) : Prop := a.spot = none ∧ ∃ cs T fz, W.heap[a.block]? = some (.cells cs T fz) ∧ ∀ (i : Nat) o, xs[i]? = some o → ∀ (k : Nat) v, o.cells[k]? = some v → cs[a.off + i * 12 + k]? = some v

section
variable {H : Type} {enc : TypeId × Value → H} {P : Program} {W : World} {base : Nat} {spare : Nat → Bool} {held : Bool}
end

/-- The memory that a list of maps is, which is looked at alone. -/
def allKeep (W : World) : Keep := ⟨fun j => j < W.heap.size, fun j => j < W.heap.size, fun _ h => h⟩
def opsPlace (a : Addr) (n : Nat) : Place := ⟨a.block, a.off, 12, n, 0, false⟩
def oneRen (p : Place) : Ren := fun b => match b with
  | 0 => some (some p)
  | _ => none
theorem ops_blk {W : World} {a : Addr} {xs : List O3} (h : OpsAt W a xs) (r : Ren) : BlkRel W r (opsPlace a xs.length) (.rows false true 12 xs.length (opRow xs)) := by
  obtain ⟨_, cs, T, fz, hh, hx⟩ := h
  refine ⟨rfl, rfl, rfl, fun _ i _ => rfl, cs, T, fz, fun _ => rfl, hh, (fun h => by cases h), fun i hi => ⟨rfl, fun k v hv => ?_⟩⟩
  have hv' : (xs[i]).cells[k]? = some v := by
    unfold opRow at hv
    rw [List.getElem?_eq_getElem hi] at hv
    exact hv
  have hpl : plain0 v = true := by
    have hk : k < 12 := (List.getElem?_eq_some_iff.1 hv').1
    have := allL_iff.1 (show allL plain0 (xs[i]).cells = true from rfl) v (List.mem_of_getElem? hv')
    exact this
  exact ⟨v, hx i _ (List.getElem?_eq_getElem hi) k v hv', (R0_plain hpl).2 rfl⟩
theorem ops_rel {W : World} {a : Addr} {xs : List O3} (h : OpsAt W a xs) : MemRel W (allKeep W) (oneRen (opsPlace a xs.length)) [.rows false true 12 xs.length (opRow xs)] W := by
  have hb := ops_blk h (oneRen (opsPlace a xs.length))
  have key : ∀ {b : Nat} {p : Place}, oneRen (opsPlace a xs.length) b = some (some p) → b = 0 ∧ p = opsPlace a xs.length := fun {b p} hp => by
    unfold oneRen at hp
    split at hp
    · simp only [Option.some.injEq] at hp; exact ⟨rfl, hp.symm⟩
    · cases hp
  refine ⟨rfl, rfl, rfl, Nat.le_refl _, Nat.le_refl _, fun j hj => hj, fun j _ => rfl, fun b hb' => ?_, fun b hb' => ?_, fun b p hp => ?_, fun b p hp ho => ?_, fun b p hp _ _ => ?_, fun b p hp _ hz => ?_, fun b c p q hp _ _ hz => ?_, fun b c p q hp _ ho => ?_⟩
  · cases b with
    | zero => simp at hb'
    | succ b => rfl
  · unfold oneRen at hb'
    split at hb' <;> cases hb'
  · obtain ⟨rfl, rfl⟩ := key hp
    exact ⟨_, rfl, hb⟩
  · obtain ⟨rfl, rfl⟩ := key hp; cases ho
  · obtain ⟨rfl, rfl⟩ := key hp; exact hb.lt
  · obtain ⟨rfl, rfl⟩ := key hp; exact absurd rfl hz
  · obtain ⟨rfl, rfl⟩ := key hp; exact absurd rfl hz
  · obtain ⟨rfl, rfl⟩ := key hp; cases ho
theorem ops_arg {a : Addr} {n cap : Nat} (hs : a.spot = none) (hc : n ≤ cap) : R (oneRen (opsPlace a n)) (.slice (some ⟨0, 0, some 0⟩) n 12) (.slice (some a) n cap) := by
  refine R_sl_mk hc (Or.inr ⟨opsPlace a n, rfl, ?_, hc, fun i hi => ?_, fun _ => rfl, fun _ => rfl, fun h => by cases h⟩)
  · cases a; simp only [Place.addr, opsPlace, Option.getD_some, Nat.zero_mul, Nat.add_zero] at *; rw [hs]
  · simp only [Option.some.injEq] at hi; subst hi; simp [opsPlace]
/-- A law of a list of maps, called. -/
theorem MemSem.calls {P : Program} {f : FuncId} {W : World} {a : Addr} {xs : List O3} {cap : Nat} {m' : Mem} {more more' : List Value} (h : MemSem P f (.slice (some ⟨0, 0, some 0⟩) xs.length 12 :: more) [.rows false true 12 xs.length (opRow xs)] (.bool true) m') (ha : OpsAt W a xs) (hc : xs.length ≤ cap) (hm : RL (R (oneRen (opsPlace a xs.length))) more more') :
    Calls P f (.slice (some a) xs.length cap :: more').toArray W fun e W' => e = .returned (.bool true) ∧ Below W.heap.size W W' := by
  refine (h.2 W _ _ (.slice (some a) xs.length cap :: more') W ⟨ops_arg ha.1 hc, hm⟩ (ops_rel ha)).mono ?_
  rintro e w' ⟨v', r', rfl, h1, h2, h3⟩
  rw [(R_plain (v := .bool true) rfl).1 h1]
  exact ⟨rfl, ⟨h2.os, h2.tape, h2.output, h2.size, fun k hk => h2.kept k hk⟩⟩
end Go.Proofs.Ytneaibkfglfpaaa.Vx


namespace Go.Proofs.Ytneaibkfglfpaaa
open Go Vx Go.RowKit
end Go.Proofs.Ytneaibkfglfpaaa


namespace Go.Proofs.Ytneaibkfglfpaaa
open Go Vx
def imB (P : Program) : Code := bodyOf P 61
theorem imB_eq : Try.f61.body = some (imB Try.prog) := by kernel_rfl
/-- Check answers that it is a group; as it answers. -/
def Cia (P : Program) : Cx := (CCw P).looksG 15 [true]
theorem okia : CxOk (Cia Try.prog) := Cx.looksG_ok okCw _ _
def Cib (P : Program) : Cx := (CCw P).looks 15 [true]
theorem okib : CxOk (Cib Try.prog) := Cx.looks_ok okCw _ _
def im1 (own : Bool) (n : Nat) (xs : List O3) (p : P3) (r : Nat → List Value) : St := stOf 40 [(0, .slice (some ⟨0, 0, some 0⟩) n 12), (3, .pointer (some ⟨1, 0, none⟩)), (4, .slice none 0 0), (5, vI 0), (7, .slice (some ⟨2, 0, some 0⟩) n 4)] [.rows own true 12 n (opRow xs), .cells true 0 p.cells, .rows true true 4 n r]
def zeroP : Nat → List Value := fun _ => P3.zero.cells
def mkT (n : Nat) : Bool := decide (0 ≤ (n : Int)) && (decide ((n : Int) ≤ (n : Int)) && (decide ((n : Int) * ((32 : Nat) : Int) ≤ 2 ^ 47) && decide ((n : Int) ≤ 2 ^ 62)))
theorem imP1 (own : Bool) (n : Nat) (xs : List O3) (p : P3) : segR ((Cia Try.prog).into 61 1) 60 3 (imB Try.prog) [0, 3, 4, 5, 7] [.fix 0, .slot 3, .slot 7] (enter Try.f61 [.slice (some ⟨0, 0, some 0⟩) n 12, p.v] [.rows own true 12 n (opRow xs)]) =
    gd (lk n) (gd (oT n (opRow xs)) (gd (chkI (opsOf n (opRow xs)) == 0) (match leastN 0 p.ckP != 0 with
      | true => none
      | false => gd (mkT n) (some (im1 own n xs p zeroP))))) := by kernel_rfl
theorem imFor : isFor 0 (stmt 3 (imB Try.prog)) = true := by kernel_rfl
theorem imHas : hasStmt 3 (imB Try.prog) = true := by kernel_rfl
def imH (own : Bool) (n : Nat) (xs : List O3) (p : P3) (r : Nat → List Value) (i : Int) : St := stOf 40 [(3, .pointer (some ⟨1, 0, none⟩)), (4, .slice none 0 0), (5, vI 0), (7, .slice (some ⟨2, 0, some 0⟩) n 4), (22, .slice (some ⟨0, 0, some 0⟩) n 12), (23, vI n), (24, vI i)] [.rows own true 12 n (opRow xs), .cells true 0 p.cells, .rows true true 4 n r]
def imE (own : Bool) (n : Nat) (xs : List O3) (r : Nat → List Value) : St := stOf 40 [(4, .slice none 0 0), (5, vI 0), (7, .slice (some ⟨1, 0, some 0⟩) n 4)] [.rows own true 12 n (opRow xs), .rows true true 4 n r]
def stP (Y : List P3) (q : P3) (i : Int) : Nat → List Value := fun k => match Nat.beq k i.toNat with
  | true => setMany (ptRow Y i.toNat) 0 q.cells
  | false => ptRow Y k
theorem im0 (own : Bool) (n : Nat) (xs : List O3) (p : P3) (r : Nat → List Value) : roundR ((CCw Try.prog).into 61 1) 60 (forHead (stmt 3 (imB Try.prog))) [3, 4, 5, 7, 22, 23, 24] [3, 4, 5, 7, 22, 23, 24] [.fix 0, .slot 3, .slot 7] [.fix 0, .slot 3, .slot 7] (im1 own n xs p r) = some (.normal, imH own n xs p r 0) := by kernel_rfl
theorem imR (own : Bool) (n : Nat) (xs : List O3) (p : P3) (Y : List P3) (i : Int) : roundR ((CCw Try.prog).into 61 1) 60 (forBody (stmt 3 (imB Try.prog))) [3, 4, 5, 7, 22, 23, 24] [4, 5, 7] [.fix 0, .slot 3, .slot 7] [.fix 0, .slot 7] (imH own n xs p (ptRow Y) i) =
    (match decide (i < (n : Int)) with
    | true => match boundsI i n with
      | true => gd (boundsI i n) (some (.normal, imH own n xs p (stP Y ((atO xs i).appF p) i) (W (i + 1))))
      | false => none
    | false => some (.exit 0, imE own n xs (ptRow Y))) := by kernel_rfl
theorem imP4 (own : Bool) (n : Nat) (xs : List O3) (r : Nat → List Value) : roundR ((CCw Try.prog).into 61 1) 60 (seqDrop 4 (imB Try.prog)) [4, 5] [4, 5] [.fix 0, .slot 4] [.fix 0, .slot 4] (imE own n xs r) = some (.ret, stOf 40 [(4, .slice (some ⟨1, 0, some 0⟩) n 4), (5, vI 0)] [.rows own true 12 n (opRow xs), .rows true true 4 n r]) := by kernel_rfl
theorem imRet (own : Bool) (n : Nat) (xs : List O3) (r : Nat → List Value) : (retA Try.prog Try.f61 (.ret, stOf 40 [(4, .slice (some ⟨1, 0, some 0⟩) n 4), (5, vI 0)] [.rows own true 12 n (opRow xs), .rows true true 4 n r])).res = some (.tuple #[.slice (some ⟨1, 0, some 0⟩) n 4, vI 0], [.rows own true 12 n (opRow xs), .rows true true 4 n r]) := by kernel_rfl
def imS0 (own : Bool) (n : Nat) (xs : List O3) (p : P3) : St := stOf 40 [(0, .slice (some ⟨0, 0, some 0⟩) n 12), (3, .pointer (some ⟨1, 0, none⟩)), (4, .slice none 0 0), (5, vI 0)] [.rows own true 12 n (opRow xs), .cells true 0 p.cells]
theorem imQ0 (own : Bool) (n : Nat) (xs : List O3) (p : P3) : segR ((Cib Try.prog).into 61 1) 60 1 (imB Try.prog) [0, 3, 4, 5] [.fix 0, .slot 3] (enter Try.f61 [.slice (some ⟨0, 0, some 0⟩) n 12, p.v] [.rows own true 12 n (opRow xs)]) = some (imS0 own n xs p) := by kernel_rfl
theorem imQ1 (own : Bool) (n : Nat) (xs : List O3) (p : P3) : roundR ((Cib Try.prog).into 61 1) 60 (stmt 1 (imB Try.prog)) [4, 5] [4, 5] [.fix 0] [.fix 0] (imS0 own n xs p) =
    gd (lk n) (gd (oT n (opRow xs)) (match leastN (chkI (opsOf n (opRow xs))) p.ckP != 0 with
      | true => some (.ret, stOf 40 [(4, .slice none 0 0), (5, vI (leastN (chkI (opsOf n (opRow xs))) p.ckP))] [.rows own true 12 n (opRow xs)])
      | false => some (.normal, stOf 40 [(4, .slice none 0 0), (5, vI 0)] [.rows own true 12 n (opRow xs)]))) := by kernel_rfl
theorem imRetE (own : Bool) (n : Nat) (xs : List O3) (e : Int) : (retA Try.prog Try.f61 (.ret, stOf 40 [(4, .slice none 0 0), (5, vI e)] [.rows own true 12 n (opRow xs)])).res = some (nilE e, [.rows own true 12 n (opRow xs)]) := by kernel_rfl
theorem imHas1 : hasStmt 1 (imB Try.prog) = true := by kernel_rfl
end Go.Proofs.Ytneaibkfglfpaaa


namespace Go.Proofs.Ytneaibkfglfpaaa
open Go Vx Go.RowKit
theorem ptRow_get {Y : List P3} {q : Nat} (h : q < Y.length) : ptRow Y q = (Y[q]).cells := by unfold ptRow; rw [List.getElem?_eq_getElem h]; rfl
/-- So many places from one on, set one by one. -/
def fillF (f : Nat → P3) : Nat → Nat → List P3 → List P3
  | 0, _, Y => Y
  | c + 1, i, Y => fillF f c (i + 1) (Y.set i (f i))
theorem fillF_get (f : Nat → P3) : ∀ (c i : Nat) (Y : List P3) (q : Nat), (fillF f c i Y)[q]? = if i ≤ q ∧ q < i + c ∧ q < Y.length then some (f q) else Y[q]?
  | 0, i, Y, q => by
    rw [if_neg (by omega)]
    rfl
  | c + 1, i, Y, q => by
    simp only [fillF]
    rw [fillF_get f c (i + 1) (Y.set i (f i)) q]
    simp only [List.length_set]
    by_cases h : q = i
    · subst h
      rw [if_neg (by omega)]
      by_cases hl : q < Y.length
      · rw [List.getElem?_set_self hl, if_pos (by omega)]
      · rw [List.getElem?_eq_none (by simp; omega), if_neg (by omega), List.getElem?_eq_none (by omega)]
    · rw [List.getElem?_set_ne (fun e => h e.symm)]
      by_cases h2 : i + 1 ≤ q ∧ q < i + 1 + c ∧ q < Y.length
      · rw [if_pos h2, if_pos (by omega)]
      · rw [if_neg h2, if_neg (by omega)]
theorem stP_like (Y : List P3) (o : P3) {i : Nat} (hi : i < Y.length) (l : Nat) (hl : l = Y.length) : rowsLike l (stP Y o (i : Int)) (ptRow (Y.set i o)) := fun q hq => by
  have hm : ∀ a b : P3, setMany a.cells 0 b.cells = b.cells := fun _ _ => rfl
  unfold stP
  rw [Int.toNat_natCast, ptRow_get hi, hm, ptRow_get (by simp; omega : q < (Y.set i o).length)]
  cases hb : Nat.beq q i with
  | true =>
    have := Nat.eq_of_beq_eq_true hb
    subst this
    simp
  | false =>
    have hne : i ≠ q := fun e => by subst e; simp at hb
    simp [List.getElem_set_ne hne, ptRow_get (by omega : q < Y.length)]
structure ImG where
  (own : Bool) (n : Nat) (xs : List O3) (p : P3) (Y : List P3) (i : Nat)
set_option maxRecDepth 100000 in
theorem imIn : InBody ((CCw Try.prog).into 61 1) (forHead (stmt 3 (imB Try.prog))) ∧ InBody ((CCw Try.prog).into 61 1) (forBody (stmt 3 (imB Try.prog))) := for_in (C := CCw Try.prog) (f := 61) (B := 1) (id := 0) (k := 3) (fn := Try.f61) (b := imB Try.prog) Try.func61 imB_eq imFor
theorem bd_ok' {i k : Nat} (h : i < k) : boundsI (i : Int) k = true := by simp [boundsI]; omega
theorem imL (own : Bool) (n : Nat) (xs : List O3) (p : P3) (Y : List P3) (hY : Y.length = n) (hn : n ≤ 1000000) : LoopSem Try.prog 1 (forBody (stmt 3 (imB Try.prog))) (imH own n xs p (ptRow Y) 0) (.exit 0) (imE own n xs (ptRow (fillF (fun i => (atO xs (i : Int)).appF p) n 0 Y))) := by
  have key := loop_rule2 (C := CCw Try.prog) okCw (f := 61) (B := 1) imIn.2 60 [3, 4, 5, 7, 22, 23, 24] [4, 5, 7] [.fix 0, .slot 3, .slot 7] [.fix 0, .slot 7] (fun g : ImG => imH g.own g.n g.xs g.p (ptRow g.Y) (g.i : Int)) (fun g => g.n - g.i) (fun g => g.Y.length = g.n ∧ g.i ≤ g.n ∧ g.n ≤ 1000000) (fun g => (.exit 0, imE g.own g.n g.xs (ptRow (fillF (fun i => (atO g.xs (i : Int)).appF g.p) (g.n - g.i) g.i g.Y)))) ?_ ⟨own, n, xs, p, Y, 0⟩ ⟨hY, Nat.zero_le _, hn⟩
  · have key2 : LoopSem Try.prog 1 (forBody (stmt 3 (imB Try.prog))) (imH own n xs p (ptRow Y) ((0 : Nat) : Int)) (.exit 0) (imE own n xs (ptRow (fillF (fun i => (atO xs (i : Int)).appF p) (n - 0) 0 Y))) := key
    simpa using key2
  rintro ⟨own, n, xs, p, Y, i⟩ ⟨h1, h2, h3⟩
  simp only at h1 h2 h3
  by_cases hi : i < n
  · left
    refine ⟨⟨own, n, xs, p, Y.set i ((atO xs (i : Int)).appF p), i + 1⟩, imH own n xs p (stP Y ((atO xs (i : Int)).appF p) (i : Int)) (W ((i : Int) + 1)), ?_, ?_, ⟨by simpa using h1, by simp only; omega, h3⟩, by simp only; omega, ?_⟩
    · simp only
      rw [imR, show decide ((i : Int) < (n : Int)) = true by simpa using hi, bd_ok' hi]
      rfl
    · refine ⟨?_, .refl _, .refl _, .rows (stP_like Y _ (by omega) n h1.symm), trivial⟩
      rw [W_in (by omega)]
      rfl
    · simp only
      rw [show n - i = (n - (i + 1)) + 1 by omega]
      rfl
  · right
    refine ⟨imE own n xs (ptRow Y), ?_, ?_, by simp⟩
    · simp only
      rw [imR, show decide ((i : Int) < (n : Int)) = false by simpa using hi]
    · simp only
      rw [show n - i = 0 by omega]
      exact StLike.refl _
def imgs (X : List O3) (p : P3) : List P3 := X.map fun o => o.app p
theorem fill_imgs {X : List O3} {p : P3} (hp : p.form = true) (hX : ∀ o ∈ X, o.ck = 0) : fillF (fun i => (atO X (i : Int)).appF p) X.length 0 (List.replicate X.length P3.zero) = imgs X p := by
  apply List.ext_getElem?
  intro q
  rw [fillF_get]
  unfold imgs
  rw [List.getElem?_map]
  by_cases hq : q < X.length
  · rw [if_pos (by simp; omega), List.getElem?_eq_getElem hq]
    have : atO X (q : Int) = X[q] := by unfold atO; rw [Int.toNat_natCast, List.getElem?_eq_getElem hq]; rfl
    rw [this, (O3.appF_of (hX _ (List.getElem_mem hq)) hp).2]
    rfl
  · rw [if_neg (by simp; omega), List.getElem?_eq_none (by simp; omega), List.getElem?_eq_none (by omega)]
    rfl
/-- Where the maps of a group send a place. -/
theorem imS (own : Bool) (X : List O3) (p : P3) (hc : chkI X = 0) (hp : p.form = true) : MemSem Try.prog 61 [.slice (some ⟨0, 0, some 0⟩) X.length 12, p.v] [.rows own true 12 X.length (opRow X)] (.tuple #[.slice (some ⟨1, 0, some 0⟩) X.length 4, vI 0]) [.rows own true 12 X.length (opRow X), .rows true true 4 X.length (ptRow (imgs X p))] := by
  have hl := (chk_len hc).1
  have hX := (chk_grp hc).2.1.ck
  refine body_mem (f := 61) Try.func61 imB_eq (by kernel_rfl) ?_ (imRet own X.length X (ptRow (imgs X p)))
  have h4 : CodeSem Try.prog 1 (seqDrop 4 (imB Try.prog)) (imE own X.length X (ptRow (imgs X p))) .ret _ := end_rule (C := CCw Try.prog) okCw (bodyOf_in Try.func61 imB_eq) (imP4 own X.length X (ptRow (imgs X p)))
  have hloop := imL own X.length X p (List.replicate X.length P3.zero) (by simp) (by omega)
  rw [fill_imgs hp hX] at hloop
  have h3 : CodeSem Try.prog 1 (seqDrop 3 (imB Try.prog)) (im1 own X.length X p (ptRow (List.replicate X.length P3.zero))) .ret _ := stmt_rule imHas (for_rule imFor (end_rule (C := CCw Try.prog) okCw imIn.1 (im0 own X.length X p (ptRow (List.replicate X.length P3.zero)))) hloop) h4
  have hz : rowsLike X.length zeroP (ptRow (List.replicate X.length P3.zero)) := fun q hq => by
    rw [ptRow_get (by simpa using hq)]
    simp [zeroP]
  have h1 := imP1 own X.length X p
  have ck : leastN 0 p.ckP = 0 := by unfold P3.ckP; rw [hp]; rfl
  have tm : mkT X.length = true := by unfold mkT; simp; omega
  have to : oT X.length (opRow X) = true := by unfold oT; rw [Nat.beq_refl, okOps_opRow]; rfl
  rw [lk_true, to, opsOf_row rfl, hc, ck, tm] at h1
  exact seg_rule (C := Cia Try.prog) okia (f := 61) (B := 1) (Or.inl ⟨Try.f61, imB Try.prog, Try.func61, imB_eq, fun _ hx => hx⟩) h1 (h3.like ⟨rfl, .refl _, .refl _, .rows hz, trivial⟩)
theorem Vx.CodeSem.seqOut {P : Program} {B : Nat} {x y : Code} {st s : St} {e : Exit} (h : CodeSem P B x st e s) (he : e ≠ .normal) : CodeSem P B (.seq x y) st e s := fun Q w0 keep r0 a w hB hQ hr =>
  wp_seq (h _ w0 keep r0 a w hB (fun a' w' hr' => by cases e <;> first | exact absurd rfl he | exact hQ a' w' hr') hr)
theorem stmt_out {P : Program} {B k : Nat} {c : Code} {st s : St} {e : Exit} (hk : hasStmt k c = true) (h1 : CodeSem P B (stmt k c) st e s) (he : e ≠ .normal) : CodeSem P B (seqDrop k c) st e s := by
  unfold hasStmt at hk
  unfold stmt at h1
  cases hc : seqDrop k c with
  | seq x y =>
    rw [hc] at h1
    exact h1.seqOut he
  | _ => rw [hc] at hk; cases hk
theorem stmt_in {C : Cx} {f B k : Nat} {fn : Func} {b : Code} (hf : C.P.funcs[f]? = some fn) (hb : fn.body = some b) : InBody (C.into f B) (stmt k b) := by
  refine Or.inl ⟨fn, b, hf, hb, fun x hx => seqDrop_loops k b x ?_⟩
  unfold stmt at hx
  cases hc : seqDrop k b with
  | seq p q => rw [hc] at hx; simp only at hx; simp [loopsIn, hx]
  | _ => rw [hc] at hx; simp [loopsIn] at hx
/-- No group, or no place. -/
theorem imS_err (own : Bool) (X : List O3) (p : P3) (h : leastN (chkI X) p.ckP ≠ 0) : MemSem Try.prog 61 [.slice (some ⟨0, 0, some 0⟩) X.length 12, p.v] [.rows own true 12 X.length (opRow X)] (nilE (leastN (chkI X) p.ckP)) [.rows own true 12 X.length (opRow X)] := by
  refine body_mem (f := 61) Try.func61 imB_eq (by kernel_rfl) ?_ (imRetE own X.length X (leastN (chkI X) p.ckP))
  have to : oT X.length (opRow X) = true := by unfold oT; rw [Nat.beq_refl, okOps_opRow]; rfl
  have h1 := imQ1 own X.length X p
  rw [lk_true, to, opsOf_row rfl, show (leastN (chkI X) p.ckP != 0) = true by simpa using h] at h1
  exact seg_rule (C := Cib Try.prog) okib (f := 61) (B := 1) (Or.inl ⟨Try.f61, imB Try.prog, Try.func61, imB_eq, fun _ hx => hx⟩) (imQ0 own X.length X p) (stmt_out imHas1 (end_rule (C := Cib Try.prog) okib (f := 61) (B := 1) (stmt_in Try.func61 imB_eq) h1) (by simp))
end Go.Proofs.Ytneaibkfglfpaaa


namespace Go.Proofs.Ytneaibkfglfpaaa.Vx
open Go Go.RowKit
theorem CodeSem.out {P : Program} {B : Nat} {x y : Code} {st s : St} {e : Exit} (h : CodeSem P B x st e s) (he : e ≠ .normal) : CodeSem P B (.seq x y) st e s := fun Q w0 keep r0 a w hB hQ hr =>
  wp_seq (h _ w0 keep r0 a w hB (fun a' w' hr' => by cases e <;> first | exact absurd rfl he | exact hQ a' w' hr') hr)
theorem CodeSem.condT {P : Program} {B : Nat} {t : Tmp} {x y : Code} {st s : St} {e : Exit} (ht : st.tmps[t]? = some (.bool true)) (h : CodeSem P B x st e s) : CodeSem P B (.cond (.tmp t) x y) st e s := fun Q w0 keep r0 a w hB hQ hr => by
  obtain ⟨r, hx, hr'⟩ := hr
  have he : a.eval (.tmp t) = .bool true := by
    have := eval_R hr' (.tmp t)
    simp only [ev, ht, Option.getD_some] at this
    exact R_bool this
  exact wp_cond_true he (h Q w0 keep r0 a w hB hQ ⟨r, hx, hr'⟩)
theorem CodeSem.condF {P : Program} {B : Nat} {t : Tmp} {x y : Code} {st s : St} {e : Exit} (ht : st.tmps[t]? = some (.bool false)) (h : CodeSem P B y st e s) : CodeSem P B (.cond (.tmp t) x y) st e s := fun Q w0 keep r0 a w hB hQ hr => by
  obtain ⟨r, hx, hr'⟩ := hr
  have he : a.eval (.tmp t) = .bool false := by
    have := eval_R hr' (.tmp t)
    simp only [ev, ht, Option.getD_some] at this
    exact R_bool this
  exact wp_cond_false he (h Q w0 keep r0 a w hB hQ ⟨r, hx, hr'⟩)
theorem CodeSem.blockN {P : Program} {B id : Nat} {x : Code} {st s : St} (h : CodeSem P B x st .normal s) : CodeSem P B (.block id x) st .normal s := fun _ w0 keep r0 a w hB hQ hr =>
  wp_block (h _ w0 keep r0 a w hB (fun a' w' hr' => hQ a' w' hr') hr)
theorem CodeSem.blockR {P : Program} {B id : Nat} {x : Code} {st s : St} (h : CodeSem P B x st .ret s) : CodeSem P B (.block id x) st .ret s := fun _ w0 keep r0 a w hB hQ hr =>
  wp_block (h _ w0 keep r0 a w hB (fun a' w' hr' => hQ a' w' hr') hr)
/-- A loop is told by what its body comes to. -/
theorem loop_code {P : Program} {B : Nat} {x : Code} {σ : Type} (H : σ → St) (μ : σ → Nat) (Inv : σ → Prop) (out : σ → Exit × St)
    (hstep : ∀ g, Inv g → (∃ g', CodeSem P B x (H g) .normal (H g') ∧ Inv g' ∧ μ g' < μ g ∧ out g' = out g) ∨ (CodeSem P B x (H g) (out g).1 (out g).2 ∧ (out g).1 ≠ .normal)) :
    ∀ g, Inv g → LoopSem P B x (H g) (out g).1 (out g).2 := by
  have leave : ∀ g, CodeSem P B x (H g) (out g).1 (out g).2 → (out g).1 ≠ .normal → LoopSem P B x (H g) (out g).1 (out g).2 := by
    intro g h1 h2 Q w0 keep r0 a w hB hQ hr
    refine LoopsTo.round (h1 _ w0 keep r0 a w hB ?_ hr)
    intro a' w' hr'
    revert h2 hQ hr'
    cases (out g).1 <;> intro h2 hQ hr' <;> first | exact absurd rfl h2 | exact hQ a' w' hr'
  have key : ∀ k g, μ g ≤ k → Inv g → LoopSem P B x (H g) (out g).1 (out g).2 := by
    intro k
    induction k with
    | zero =>
      intro g hk hg
      rcases hstep g hg with ⟨g', _, _, hlt, _⟩ | ⟨h1, h2⟩
      · omega
      · exact leave g h1 h2
    | succ k ih =>
      intro g hk hg
      rcases hstep g hg with ⟨g', h1, hg', hlt, ho⟩ | ⟨h1, h2⟩
      · intro Q w0 keep r0 a w hB hQ hr
        refine LoopsTo.round (h1 _ w0 keep r0 a w hB ?_ hr)
        intro a' w' hr'
        refine ih g' (by omega) hg' Q w0 keep r0 a' w' hB ?_ hr'
        rw [ho]; exact hQ
      · exact leave g h1 h2
  exact fun g hg => key (μ g) g (Nat.le_refl _) hg
/-- States that tell the same, behind code. -/
theorem CodeSem.likes {P : Program} {B : Nat} {x : Code} {st s s2 : St} {e : Exit} (h : CodeSem P B x st e s) (hl : StLike s s2) : CodeSem P B x st e s2 := fun Q w0 keep r0 a w hB hQ hr =>
  h Q w0 keep r0 a w hB (fun a' w' hr' => hQ a' w' (hr'.like hl)) hr
/-- Parts of code. -/
def cL : Code → Code
  | .seq x _ => x
  | .block _ x => x
  | .loop x => x
  | .cond _ x _ => x
  | _ => .skip
def cR : Code → Code
  | .seq _ y => y
  | .cond _ _ y => y
  | _ => .skip
theorem cL_loops (c : Code) : ∀ x ∈ loopsIn (cL c), x ∈ loopsIn c := by
  cases c <;> simp [cL, loopsIn] <;> intro x h <;> simp [h]
theorem cR_loops (c : Code) : ∀ x ∈ loopsIn (cR c), x ∈ loopsIn c := by
  cases c <;> simp [cR, loopsIn] <;> intro x h <;> simp [h]
theorem InBody.left {C : Cx} {c : Code} (h : InBody C c) : InBody C (cL c) := h.sub (cL_loops c)
theorem InBody.right {C : Cx} {c : Code} (h : InBody C c) : InBody C (cR c) := h.sub (cR_loops c)
end Go.Proofs.Ytneaibkfglfpaaa.Vx


namespace Go.Proofs.Ytneaibkfglfpaaa
open Go Vx
def atP (Y : List P3) (i : Nat) : P3 := (Y[i]?).getD P3.zero
def cpB (P : Program) : Code := bodyOf P 64
theorem cpB_eq : Try.f64.body = some (cpB Try.prog) := by kernel_rfl
/-- Ahead of the outer loop, and in it. -/
def cp0 (n : Nat) (Y : List P3) : St := stOf 61 [(0, .slice (some ⟨0, 0, some 0⟩) n 4), (2, .slice none 0 0)] [.rows true true 4 n (ptRow Y)]
def cp1 (n : Nat) (Y : List P3) (k : Int) : St := stOf 61 [(0, .slice (some ⟨0, 0, some 0⟩) n 4), (2, .slice none 0 0), (3, vI k)] [.rows true true 4 n (ptRow Y)]
theorem cpE1 (n : Nat) (Y : List P3) : segR ((CCw Try.prog).into 64 1) 40 1 (cpB Try.prog) [0, 2] [.fix 0] (enter Try.f64 [.slice (some ⟨0, 0, some 0⟩) n 4] [.rows true true 4 n (ptRow Y)]) = some (cp0 n Y) := by kernel_rfl
theorem cpE2 (n : Nat) (Y : List P3) : roundR ((CCw Try.prog).into 64 1) 40 (stmt 1 (cpB Try.prog)) [0, 2] [0, 2] [.fix 0] [.fix 0] (cp0 n Y) =
    (match decide ((n : Int) < 2) with
    | true => some (.ret, stOf 61 [(0, .slice (some ⟨0, 0, some 0⟩) n 4), (2, .slice (some ⟨0, 0, some 0⟩) n 4)] [.rows true true 4 n (ptRow Y)])
    | false => some (.normal, cp0 n Y)) := by kernel_rfl
def cpO (P : Program) : Code := forBody (stmt 2 (cpB P))
theorem cpFor : isFor 0 (stmt 2 (cpB Try.prog)) = true := by kernel_rfl
theorem cpHead (n : Nat) (Y : List P3) : roundR ((CCw Try.prog).into 64 1) 40 (forHead (stmt 2 (cpB Try.prog))) [0, 2, 3] [0, 2, 3] [.fix 0] [.fix 0] (cp0 n Y) = some (.normal, cp1 n Y 1) := by kernel_rfl
theorem cpA (n : Nat) (Y : List P3) (k : Int) : roundR ((CCw Try.prog).into 64 1) 40 (cL (cpO Try.prog)) [0, 2, 3] [0, 2, 3] [.fix 0] [.fix 0] (cp1 n Y k) =
    (match decide (k < (n : Int)) with
    | true => some (.normal, cp1 n Y k)
    | false => some (.exit 0, cp1 n Y k)) := by kernel_rfl
/-- The inner part: the test of two neighbours, and what comes behind it. -/
def cpI (P : Program) : Code := cL (cL (cR (cpO P)))
def cp2 (n : Nat) (Y : List P3) (k : Int) (b : Bool) : St := stOf 61 [(0, .slice (some ⟨0, 0, some 0⟩) n 4), (2, .slice none 0 0), (3, vI k), (25, .bool b)] [.rows true true 4 n (ptRow Y)]
theorem cpT (n : Nat) (Y : List P3) (k : Nat) : roundR ((CCw Try.prog).into 64 1) 40 (cL (cpI Try.prog)) [0, 2, 3, 25] [0, 2, 3, 25] [.fix 0] [.fix 0] (cp1 n Y k) =
    gd (boundsI k n) (gd (boundsI (W ((k : Int) - 1)) n) (some (.normal, cp2 n Y k ((atP Y k).eqB (atP Y (W ((k : Int) - 1)).toNat))))) := by kernel_rfl
theorem cpN (n : Nat) (Y : List P3) (k : Int) : roundR ((CCw Try.prog).into 64 1) 40 (cR (cR (cpO Try.prog))) [0, 2, 3] [0, 2, 3] [.fix 0] [.fix 0] (cp2 n Y k false) = some (.normal, cp1 n Y (W (k + 1))) := by kernel_rfl
/-- Where two neighbours are alike. -/
def cpX (P : Program) : Code := cL (cR (cpI P))
def cp3 (n : Nat) (Y : List P3) (j m : Nat) (k k2 : Int) : St := stOf 61 [(0, .slice (some ⟨0, 0, some 0⟩) n 4), (2, .slice none 0 0), (3, vI k), (4, .slice (some ⟨0, 0, some (j + 1)⟩) m 4), (5, vI k2)] [.rows true true 4 n (ptRow Y)]
def cp3a (n : Nat) (Y : List P3) (j m : Nat) (k : Int) : St := stOf 61 [(0, .slice (some ⟨0, 0, some 0⟩) n 4), (2, .slice none 0 0), (3, vI k), (4, .slice (some ⟨0, 0, some (j + 1)⟩) m 4)] [.rows true true 4 n (ptRow Y)]
theorem cpX0 (n : Nat) (Y : List P3) (j : Nat) : segR ((CCw Try.prog).into 64 1) 40 1 (cpX Try.prog) [0, 2, 3, 4] [.fix 0] (cp2 n Y ((j + 1 : Nat) : Int) true) =
    gd (leI ((j + 1 : Nat) : Int) n) (match decide (((j + 1 : Nat) : Int) < (n : Int)) with
      | true => some (cp3a n Y j (n - (j + 1)) ((j + 1 : Nat) : Int))
      | false => some (stOf 61 [(0, .slice (some ⟨0, 0, some 0⟩) n 4), (2, .slice none 0 0), (3, vI ((j + 1 : Nat) : Int)), (4, emp)] [.rows true true 4 n (ptRow Y)])) := by kernel_rfl
theorem cpForI : isFor 2 (stmt 1 (cpX Try.prog)) = true := by kernel_rfl
theorem cpHeadI (n : Nat) (Y : List P3) (j m : Nat) (k : Int) : roundR ((CCw Try.prog).into 64 1) 40 (forHead (stmt 1 (cpX Try.prog))) [0, 2, 3, 4, 5] [0, 2, 3, 4, 5] [.fix 0] [.fix 0] (cp3a n Y j m k) = some (.normal, cp3 n Y j m k 1) := by kernel_rfl
theorem cpR (n : Nat) (Y : List P3) (j m k k2 : Nat) : roundR ((CCw Try.prog).into 64 1) 40 (forBody (stmt 1 (cpX Try.prog))) [0, 2, 3, 4, 5] [0, 2, 3] [.fix 0] [.fix 0] (cp3 n Y j m k k2) =
    (match decide ((k2 : Int) < (m : Int)) with
    | true => gd (boundsI k2 m) (gd (boundsI (W ((k2 : Int) - 1)) m) (match !((atP Y (j + 1 + k2)).eqB (atP Y (j + 1 + (W ((k2 : Int) - 1)).toNat))) with
      | true => gd (boundsI k2 m) (gd (boundsI k n) (some (.normal, stOf 61 [(0, .slice (some ⟨0, 0, some 0⟩) n 4), (2, .slice none 0 0), (3, vI (W ((k : Int) + 1))), (4, .slice (some ⟨0, 0, some (j + 1)⟩) m 4), (5, vI (W ((k2 : Int) + 1)))] [.rows true true 4 n (stP Y (atP Y (j + 1 + k2)) (k : Int))])))
      | false => some (.normal, cp3 n Y j m k (W ((k2 : Int) + 1)))))
    | false => some (.exit 2, cp1 n Y k)) := by kernel_rfl
def zeroTail (Y : List P3) (k m : Nat) : Nat → List Value := fun q => match Nat.ble k q && Nat.blt q (k + m) with
  | true => P3.zero.cells
  | false => ptRow Y q
theorem cpC (n : Nat) (Y : List P3) (k : Nat) : roundR ((CCw Try.prog).into 64 1) 40 (seqDrop 2 (cpX Try.prog)) [0, 2] [0, 2] [.fix 0] [.fix 0] (cp1 n Y k) =
    gd (leI k n) (match decide ((k : Int) < (n : Int)) with
      | true => gd (Nat.blt 0 (n - k) && Nat.ble (k + (n - k)) n) (gd (leI k n) (some (.ret, stOf 61 [(0, .slice (some ⟨0, 0, some 0⟩) n 4), (2, .slice (some ⟨0, 0, some 0⟩) k 4)] [.rows true true 4 n (zeroTail Y k (n - k))])))
      | false => none) := by kernel_rfl
end Go.Proofs.Ytneaibkfglfpaaa


namespace Go.Proofs.Ytneaibkfglfpaaa
open Go Vx Go.RowKit
def cpF (p : P3) : List P3 → List P3
  | [] => []
  | x :: l => match x.eqB p with
    | true => cpF p l
    | false => x :: cpF x l
def cpct : List P3 → List P3
  | [] => []
  | x :: l => x :: cpF x l
theorem P3.eqB_iff' {p q : P3} : p.eqB q = true ↔ p = q := by
  unfold P3.eqB
  rw [Bool.and_eq_true, Bool.and_eq_true, V3.eqB_iff, beq_iff_eq]
  constructor
  · rintro ⟨h1, h2, -⟩
    cases p; cases q
    simp_all
  · rintro rfl
    exact ⟨rfl, rfl, rfl⟩
theorem cpF_snoc (b : P3) : ∀ (l : List P3) (p : P3), cpF p (l ++ [b]) = cpF p l ++ (match b.eqB ((p :: l).getLast (by simp)) with
    | true => []
    | false => [b])
  | [], p => by
    simp only [List.nil_append, cpF, List.getLast_singleton]
  | x :: l, p => by
    simp only [List.cons_append, cpF]
    cases hx : x.eqB p with
    | true =>
      have := P3.eqB_iff'.1 hx
      subst this
      simp only
      rw [cpF_snoc b l x]
      rw [List.getLast_cons (by simp : x :: l ≠ [])]
    | false =>
      simp only
      rw [cpF_snoc b l x, List.getLast_cons (by simp : x :: l ≠ [])]
      rfl
theorem cpct_snoc (b : P3) {l : List P3} (h : l ≠ []) : cpct (l ++ [b]) = cpct l ++ (match b.eqB (l.getLast h) with
    | true => []
    | false => [b]) := by
  cases l with
  | nil => exact absurd rfl h
  | cons x l => simp only [List.cons_append, cpct]; rw [cpF_snoc b l x]
theorem atP_get {Y : List P3} {i : Nat} (h : i < Y.length) : atP Y i = Y[i] := by unfold atP; rw [List.getElem?_eq_getElem h]; rfl
theorem cpct_step {Y : List P3} {i : Nat} (h0 : 0 < i) (hi : i < Y.length) : cpct (Y.take (i + 1)) = cpct (Y.take i) ++ (match (atP Y i).eqB (atP Y (i - 1)) with
    | true => []
    | false => [atP Y i]) := by
  have hne : Y.take i ≠ [] := fun h => by
    have := congrArg List.length h
    rw [List.length_take, List.length_nil] at this
    omega
  have hl : (Y.take i).getLast hne = atP Y (i - 1) := by
    rw [List.getLast_eq_getElem, atP_get (by omega)]
    simp [Nat.min_eq_left (Nat.le_of_lt hi)]
  rw [List.take_succ_eq_append_getElem hi, cpct_snoc _ hne, hl, atP_get hi]
theorem cpF_len : ∀ (l : List P3) (p : P3), (cpF p l).length ≤ l.length
  | [], _ => Nat.le_refl _
  | x :: l, p => by
    simp only [cpF]
    cases x.eqB p with
    | true => have := cpF_len l p; simp; omega
    | false => have := cpF_len l x; simp; omega
theorem cpO_eq : cpO Try.prog = .seq (cL (cpO Try.prog)) (.seq (.block 1 (cpI Try.prog)) (cR (cR (cpO Try.prog)))) := by kernel_rfl
theorem cpI_eq : cpI Try.prog = .seq (cL (cpI Try.prog)) (.cond (.tmp 25) (cpX Try.prog) .skip) := by kernel_rfl
theorem cpHas : hasStmt 1 (cpB Try.prog) = true ∧ hasStmt 2 (cpB Try.prog) = true ∧ hasStmt 1 (cpX Try.prog) = true := ⟨by kernel_rfl, by kernel_rfl, by kernel_rfl⟩
set_option maxRecDepth 100000 in
theorem cpInO : InBody ((CCw Try.prog).into 64 1) (forHead (stmt 2 (cpB Try.prog))) ∧ InBody ((CCw Try.prog).into 64 1) (cpO Try.prog) := for_in (C := CCw Try.prog) (f := 64) (B := 1) (id := 0) (k := 2) (fn := Try.f64) (b := cpB Try.prog) Try.func64 cpB_eq cpFor
theorem cpInI : InBody ((CCw Try.prog).into 64 1) (cpI Try.prog) := cpInO.2.right.left.left
theorem cpInX : InBody ((CCw Try.prog).into 64 1) (cpX Try.prog) := cpInI.right.left
theorem cpInXs (k : Nat) : InBody ((CCw Try.prog).into 64 1) (seqDrop k (cpX Try.prog)) := cpInX.sub (seqDrop_loops k _)
theorem cpInXf : InBody ((CCw Try.prog).into 64 1) (forHead (stmt 1 (cpX Try.prog))) ∧ InBody ((CCw Try.prog).into 64 1) (forBody (stmt 1 (cpX Try.prog))) := by
  have h0 : ∀ x ∈ loopsIn (stmt 1 (cpX Try.prog)), x ∈ loopsIn (cpX Try.prog) := fun x hx => by
    refine seqDrop_loops 1 _ x ?_
    unfold stmt at hx
    cases hc : seqDrop 1 (cpX Try.prog) with
    | seq p q => rw [hc] at hx; simp only at hx; simp [loopsIn, hx]
    | _ => rw [hc] at hx; simp [loopsIn] at hx
  have hs := cpForI
  unfold isFor at hs
  split at hs
  · rename_i x i y hst
    rw [hst] at h0 ⊢
    exact ⟨cpInX.sub fun z hz => h0 z (by simp only [forHead] at hz; simp [loopsIn, hz]), cpInX.sub fun z hz => h0 z (by simp only [forBody] at hz; simp [loopsIn, hz])⟩
  · cases hs
theorem cpLeave {x : Code} {st s : St} {e : Exit} {mask mout : List Nat} {sp so : List From} (hin : InBody ((CCw Try.prog).into 64 1) x) (h : roundR ((CCw Try.prog).into 64 1) 40 x mask mout sp so st = some (.exit 2, s)) (he : e = .exit 2) : LoopSem Try.prog 1 x st e s := by
  subst he
  intro Q w0 keep r0 a w hB hQ hr
  obtain ⟨⟨e1, s1⟩, h3, h4⟩ := Ans.bind_some h
  refine LoopsTo.round ((exCode_sound okCw 40).1 64 1 x hin _ _ _ h3 _ w0 keep r0 a w hB ?_ hr)
  intro a' w' hr'
  obtain ⟨he, hs⟩ := clean_rel h4 hB hr'
  subst he
  exact hQ a' w' hs
theorem cpNext {x : Code} {st s s2 s3 : St} {e : Exit} {mask mout : List Nat} {sp so : List From} (hin : InBody ((CCw Try.prog).into 64 1) x) (h : roundR ((CCw Try.prog).into 64 1) 40 x mask mout sp so st = some (.normal, s)) (hl : StLike s s2) (hn : LoopSem Try.prog 1 x s2 e s3) : LoopSem Try.prog 1 x st e s3 := by
  intro Q w0 keep r0 a w hB hQ hr
  obtain ⟨⟨e1, s1⟩, h3, h4⟩ := Ans.bind_some h
  refine LoopsTo.round ((exCode_sound okCw 40).1 64 1 x hin _ _ _ h3 _ w0 keep r0 a w hB ?_ hr)
  intro a' w' hr'
  obtain ⟨he, hs⟩ := clean_rel h4 hB hr'
  subst he
  exact hn Q w0 keep r0 a' w' hB hQ (hs.like hl)
structure CpG where
  (Z : List P3) (k k2 : Nat)
def cpInv (n j : Nat) (Y : List P3) (g : CpG) : Prop := g.Z.length = n ∧ 1 ≤ g.k2 ∧ j + 1 + g.k2 ≤ n ∧ 1 ≤ g.k ∧ g.k ≤ j + g.k2 ∧ (∀ q, j + g.k2 ≤ q → atP g.Z q = atP Y q) ∧ g.Z.take g.k = cpct (Y.take (j + 1 + g.k2))
theorem take_set_snoc {Z : List P3} {k : Nat} (h : k < Z.length) (o : P3) : (Z.set k o).take (k + 1) = Z.take k ++ [o] := by
  rw [List.take_succ_eq_append_getElem (by simpa using h)]
  simp [List.take_set_of_le (Nat.le_refl k)]
theorem atP_set {Z : List P3} {k q : Nat} (h : k ≠ q) (o : P3) : atP (Z.set k o) q = atP Z q := by unfold atP; rw [List.getElem?_set_ne h]
set_option maxRecDepth 100000 in
theorem cpInner (n j : Nat) (Y : List P3) (hY : Y.length = n) (hn : n ≤ 1000) : ∀ g : CpG, cpInv n j Y g → ∃ (Z : List P3) (k : Nat), LoopSem Try.prog 1 (forBody (stmt 1 (cpX Try.prog))) (cp3 n g.Z j (n - (j + 1)) g.k g.k2) (.exit 2) (cp1 n Z (k : Int)) ∧ Z.length = n ∧ k < n ∧ Z.take k = cpct Y := by
  have key : ∀ (c : Nat) (g : CpG), n - (j + 1) - g.k2 ≤ c → cpInv n j Y g → ∃ (Z : List P3) (k : Nat), LoopSem Try.prog 1 (forBody (stmt 1 (cpX Try.prog))) (cp3 n g.Z j (n - (j + 1)) g.k g.k2) (.exit 2) (cp1 n Z (k : Int)) ∧ Z.length = n ∧ k < n ∧ Z.take k = cpct Y := by
    intro c
    induction c with
    | zero =>
      rintro ⟨Z, k, k2⟩ hc ⟨h1, h2, h3, h4, h5, h6, h7⟩
      simp only at hc h1 h2 h3 h4 h5 h6 h7
      refine ⟨Z, k, ?_, h1, by omega, by rw [h7, List.take_of_length_le (by omega)]⟩
      have hr := cpR n Z j (n - (j + 1)) k k2
      rw [show decide ((k2 : Int) < ((n - (j + 1) : Nat) : Int)) = false by simp; omega] at hr
      exact cpLeave cpInXf.2 hr rfl
    | succ c ih =>
      rintro ⟨Z, k, k2⟩ hc ⟨h1, h2, h3, h4, h5, h6, h7⟩
      simp only at hc h1 h2 h3 h4 h5 h6 h7
      by_cases hlt : k2 < n - (j + 1)
      · have hw : W ((k2 : Int) - 1) = ((k2 - 1 : Nat) : Int) := by rw [W_in (by omega)]; omega
        have hw2 : W ((k2 : Int) + 1) = ((k2 + 1 : Nat) : Int) := by rw [W_in (by omega)]; simp
        have hwk : W ((k : Int) + 1) = ((k + 1 : Nat) : Int) := by rw [W_in (by omega)]; simp
        have hr := cpR n Z j (n - (j + 1)) k k2
        rw [show decide ((k2 : Int) < ((n - (j + 1) : Nat) : Int)) = true by simp; omega, bd_ok' hlt, hw, bd_ok' (show k2 - 1 < n - (j + 1) by omega), Int.toNat_natCast, bd_ok' (show k < n by omega), hw2, hwk] at hr
        simp only [gd_true] at hr
        have e1 : atP Z (j + 1 + k2) = atP Y (j + 1 + k2) := h6 _ (by omega)
        have e2 : atP Z (j + 1 + (k2 - 1)) = atP Y (j + 1 + k2 - 1) := by rw [h6 _ (by omega)]; congr 1; omega
        have hs := cpct_step (Y := Y) (i := j + 1 + k2) (by omega) (by omega)
        rw [e1, e2] at hr
        cases hb : (atP Y (j + 1 + k2)).eqB (atP Y (j + 1 + k2 - 1)) with
        | true =>
          rw [hb] at hr hs
          simp only [Bool.not_true] at hr
          simp only [List.append_nil] at hs
          obtain ⟨Z', k', g1, g2⟩ := ih ⟨Z, k, k2 + 1⟩ (by simp only; omega) ⟨h1, by simp only; omega, by simp only; omega, h4, by simp only; omega, fun q hq => h6 q (by simp only at hq; omega), by simp only; rw [h7, ← hs]; congr 1⟩
          exact ⟨Z', k', cpNext (s2 := cp3 n Z j (n - (j + 1)) (k : Int) ((k2 + 1 : Nat) : Int)) cpInXf.2 hr (StLike.refl _) g1, g2⟩
        | false =>
          rw [hb] at hr hs
          simp only [Bool.not_false] at hr
          obtain ⟨Z', k', g1, g2⟩ := ih ⟨Z.set k (atP Y (j + 1 + k2)), k + 1, k2 + 1⟩ (by simp only; omega) ⟨by simpa using h1, by simp only; omega, by simp only; omega, by simp only; omega, by simp only; omega, fun q hq => by simp only at hq ⊢; rw [atP_set (by omega)]; exact h6 q (by omega), by simp only; rw [take_set_snoc (by omega), h7, ← hs]; congr 1⟩
          exact ⟨Z', k', cpNext (s2 := cp3 n (Z.set k (atP Y (j + 1 + k2))) j (n - (j + 1)) ((k + 1 : Nat) : Int) ((k2 + 1 : Nat) : Int)) cpInXf.2 hr ⟨rfl, .rows (stP_like Z _ (by omega) n h1.symm), trivial⟩ g1, g2⟩
      · refine ⟨Z, k, ?_, h1, by omega, by rw [h7, List.take_of_length_le (by omega)]⟩
        have hr := cpR n Z j (n - (j + 1)) k k2
        rw [show decide ((k2 : Int) < ((n - (j + 1) : Nat) : Int)) = false by simp; omega] at hr
        exact cpLeave cpInXf.2 hr rfl
  exact fun g hg => key _ g (Nat.le_refl _) hg
end Go.Proofs.Ytneaibkfglfpaaa


namespace Go.Proofs.Ytneaibkfglfpaaa
open Go Vx Go.RowKit
theorem cpEnd (n : Nat) (Y : List P3) (k : Int) : roundR ((CCw Try.prog).into 64 1) 40 (seqDrop 3 (cpB Try.prog)) [0, 2] [0, 2] [.fix 0] [.fix 0] (cp1 n Y k) = some (.ret, stOf 61 [(0, .slice (some ⟨0, 0, some 0⟩) n 4), (2, .slice (some ⟨0, 0, some 0⟩) n 4)] [.rows true true 4 n (ptRow Y)]) := by kernel_rfl
theorem cpRet (n c : Nat) (r : Nat → List Value) : (retA Try.prog Try.f64 (.ret, stOf 61 [(0, .slice (some ⟨0, 0, some 0⟩) n 4), (2, .slice (some ⟨0, 0, some 0⟩) c 4)] [.rows true true 4 n r])).res = some (.slice (some ⟨0, 0, some 0⟩) c 4, [.rows true true 4 n r]) := by kernel_rfl
/-- What lies there behind it. -/
def cpAll (Y : List P3) : List P3 := cpct Y ++ List.replicate (Y.length - (cpct Y).length) P3.zero
def cpRes (Y : List P3) : St := stOf 61 [(0, .slice (some ⟨0, 0, some 0⟩) Y.length 4), (2, .slice (some ⟨0, 0, some 0⟩) (cpct Y).length 4)] [.rows true true 4 Y.length (ptRow (cpAll Y))]
theorem zero_like {Z Y : List P3} {k n : Nat} (hZ : Z.length = n) (hY : Y.length = n) (hk : k < n) (ht : Z.take k = cpct Y) : (cpct Y).length = k ∧ rowsLike n (zeroTail Z k (n - k)) (ptRow (cpAll Y)) := by
  have hl : (cpct Y).length = k := by rw [← ht]; simp; omega
  refine ⟨hl, fun q hq => ?_⟩
  have hlen : (cpAll Y).length = n := by unfold cpAll; simp; omega
  rw [ptRow_get (by omega : q < (cpAll Y).length)]
  unfold zeroTail
  by_cases h : q < k
  · have hb : (Nat.ble k q && Nat.blt q (k + (n - k))) = false := by
      cases hx : Nat.ble k q with
      | false => rfl
      | true => have := Nat.le_of_ble_eq_true hx; omega
    rw [hb]
    simp only
    rw [ptRow_get (by omega : q < Z.length)]
    unfold cpAll
    rw [List.getElem_append_left (by omega)]
    simp only [← ht, List.getElem_take]
  · have hb : (Nat.ble k q && Nat.blt q (k + (n - k))) = true := by rw [Bool.and_eq_true]; exact ⟨Nat.ble_eq_true_of_le (by omega), Nat.blt_eq.mpr (by omega)⟩
    rw [hb]
    simp only
    unfold cpAll
    rw [List.getElem_append_right (by omega)]
    simp
theorem cpFound (Y : List P3) (j : Nat) (hn : Y.length ≤ 1000) (hj : j + 1 < Y.length) (heq : (atP Y (j + 1)).eqB (atP Y j) = true) (hpre : cpct (Y.take (j + 1)) = Y.take (j + 1)) : CodeSem Try.prog 1 (cpX Try.prog) (cp2 Y.length Y ((j + 1 : Nat) : Int) true) .ret (cpRes Y) ∧ (cpct Y).length < Y.length := by
  have hs := cpct_step (Y := Y) (i := j + 1) (by omega) hj
  rw [show j + 1 - 1 = j by omega, heq] at hs
  simp only [List.append_nil] at hs
  obtain ⟨Z, k, g1, g2, g3, g4⟩ := cpInner Y.length j Y rfl hn ⟨Y, j + 1, 1⟩ ⟨rfl, Nat.le_refl _, by simp only; omega, by simp only; omega, by simp only; omega, fun _ _ => rfl, by simp only; rw [hs, hpre]⟩
  obtain ⟨hl, hlike⟩ := zero_like g2 rfl g3 g4
  refine ⟨?_, by omega⟩
  have hC := cpC Y.length Z k
  rw [show leI (k : Int) Y.length = true by simp [leI]; omega, show decide ((k : Int) < (Y.length : Int)) = true by simpa using g3, show (Nat.blt 0 (Y.length - k) && Nat.ble (k + (Y.length - k)) Y.length) = true by rw [Bool.and_eq_true]; exact ⟨Nat.blt_eq.mpr (by omega), Nat.ble_eq_true_of_le (by omega)⟩] at hC
  simp only [gd_true] at hC
  have h2 : CodeSem Try.prog 1 (seqDrop 2 (cpX Try.prog)) (cp1 Y.length Z k) .ret (cpRes Y) := by
    refine (end_rule (C := CCw Try.prog) okCw (f := 64) (B := 1) (cpInXs 2) hC).likes ?_
    unfold cpRes
    rw [hl]
    exact ⟨rfl, .rows hlike, trivial⟩
  have h1 : CodeSem Try.prog 1 (seqDrop 1 (cpX Try.prog)) (cp3a Y.length Y j (Y.length - (j + 1)) ((j + 1 : Nat) : Int)) .ret (cpRes Y) :=
    stmt_rule cpHas.2.2 (for_rule cpForI (end_rule (C := CCw Try.prog) okCw (f := 64) (B := 1) cpInXf.1 (cpHeadI Y.length Y j (Y.length - (j + 1)) ((j + 1 : Nat) : Int))) g1) h2
  have h0 := cpX0 Y.length Y j
  rw [show leI ((j + 1 : Nat) : Int) Y.length = true by simp [leI]; omega, show decide (((j + 1 : Nat) : Int) < (Y.length : Int)) = true by simp; omega] at h0
  exact seg_rule (C := CCw Try.prog) okCw (f := 64) (B := 1) (k := 1) cpInX h0 h1
theorem t25 (n : Nat) (Y : List P3) (k : Int) (b : Bool) : (cp2 n Y k b).tmps[25]? = some (.bool b) := rfl
theorem skip_code {P : Program} {B : Nat} {st : St} : CodeSem P B .skip st .normal st := fun _ _ _ _ a w _ hQ hr => wp_skip (hQ a w hr)
theorem cpOuter (Y : List P3) (hn : Y.length ≤ 1000) (h2 : 1 ≤ Y.length) : LoopSem Try.prog 1 (cpO Try.prog) (cp1 Y.length Y ((1 : Nat) : Int)) (if (cpct Y).length = Y.length then (.exit 0, cp1 Y.length Y (Y.length : Int)) else (.ret, cpRes Y) : Exit × St).1 (if (cpct Y).length = Y.length then (.exit 0, cp1 Y.length Y (Y.length : Int)) else (.ret, cpRes Y) : Exit × St).2 := by
  have h1 : cpct (Y.take 1) = Y.take 1 := by
    cases Y with
    | nil => simp at h2
    | cons x l => simp [cpct, cpF]
  refine loop_code (x := cpO Try.prog) (fun k : Nat => cp1 Y.length Y (k : Int)) (fun k => Y.length - k) (fun k => 1 ≤ k ∧ k ≤ Y.length ∧ cpct (Y.take k) = Y.take k) (fun _ => if (cpct Y).length = Y.length then (.exit 0, cp1 Y.length Y (Y.length : Int)) else (.ret, cpRes Y)) ?_ 1 ⟨Nat.le_refl _, h2, h1⟩
  rintro k ⟨k1, k2, k3⟩
  have hA := cpA Y.length Y (k : Int)
  by_cases hk : k < Y.length
  · rw [show decide ((k : Int) < (Y.length : Int)) = true by simpa using hk] at hA
    have cA : CodeSem Try.prog 1 (cL (cpO Try.prog)) (cp1 Y.length Y (k : Int)) .normal (cp1 Y.length Y (k : Int)) := end_rule (C := CCw Try.prog) okCw (f := 64) (B := 1) cpInO.2.left hA
    have hT := cpT Y.length Y k
    have hw : W ((k : Int) - 1) = ((k - 1 : Nat) : Int) := by rw [W_in (by omega)]; omega
    rw [bd_ok' hk, hw, bd_ok' (show k - 1 < Y.length by omega), Int.toNat_natCast] at hT
    simp only [gd_true] at hT
    have cT := end_rule (C := CCw Try.prog) okCw (f := 64) (B := 1) cpInI.left hT
    cases hb : (atP Y k).eqB (atP Y (k - 1)) with
    | true =>
      right
      obtain ⟨j, rfl⟩ : ∃ j, k = j + 1 := ⟨k - 1, by omega⟩
      rw [show j + 1 - 1 = j by omega] at hb cT
      obtain ⟨hX, hlt⟩ := cpFound Y j hn hk hb k3
      rw [if_neg (by omega)]
      refine ⟨?_, by simp⟩
      rw [hb] at cT
      rw [cpO_eq]
      refine CodeSem.seq cA (CodeSem.out (CodeSem.blockR ?_) (by simp))
      rw [cpI_eq]
      exact CodeSem.seq cT (CodeSem.condT (t25 _ _ _ _) hX)
    | false =>
      left
      rw [hb] at cT
      refine ⟨k + 1, ?_, ⟨by omega, by omega, ?_⟩, by omega, rfl⟩
      · rw [cpO_eq]
        refine CodeSem.seq cA (CodeSem.seq (s := cp2 Y.length Y (k : Int) false) (CodeSem.blockN ?_) ?_)
        · rw [cpI_eq]
          exact CodeSem.seq cT (CodeSem.condF (t25 _ _ _ _) skip_code)
        · have hN := cpN Y.length Y (k : Int)
          rw [show W ((k : Int) + 1) = ((k + 1 : Nat) : Int) by rw [W_in (by omega)]; simp] at hN
          exact end_rule (C := CCw Try.prog) okCw (f := 64) (B := 1) cpInO.2.right.right hN
      · rw [cpct_step (by omega) hk, hb, k3, atP_get hk, List.take_succ_eq_append_getElem hk]
  · right
    rw [show decide ((k : Int) < (Y.length : Int)) = false by simpa using hk] at hA
    have hkn : k = Y.length := by omega
    have hc : cpct Y = Y := by rw [hkn, List.take_length] at k3; exact k3
    rw [if_pos (by rw [hc])]
    refine ⟨?_, by simp⟩
    rw [cpO_eq]
    refine CodeSem.out ?_ (by simp)
    have := end_rule (C := CCw Try.prog) okCw (f := 64) (B := 1) cpInO.2.left hA
    rw [hkn] at this ⊢
    exact this
theorem for_ret {P : Program} {B id : Nat} {c : Code} {st s s' : St} (hf : isFor id c = true) (h1 : CodeSem P B (forHead c) st .normal s) (h2 : LoopSem P B (forBody c) s .ret s') : CodeSem P B c st .ret s' := by
  unfold isFor at hf
  split at hf
  · exact h1.seq (CodeSem.blockR (CodeSem.loop h2))
  · cases hf
theorem cpF_same : ∀ (l : List P3) (p : P3), (cpF p l).length = l.length → cpF p l = l
  | [], _, _ => rfl
  | x :: l, p, h => by
    simp only [cpF] at h ⊢
    cases hx : x.eqB p with
    | true => rw [hx] at h; have := cpF_len l p; simp at h; omega
    | false => rw [hx] at h; simp at h; simp only; rw [cpF_same l x h]
theorem cpct_same {Y : List P3} (h : (cpct Y).length = Y.length) : cpct Y = Y := by
  cases Y with
  | nil => rfl
  | cons x l => simp [cpct] at h ⊢; exact cpF_same l x h
theorem short_same : ∀ {Y : List P3}, Y.length < 2 → cpct Y = Y ∧ cpAll Y = Y
  | [], _ => ⟨rfl, rfl⟩
  | [_], _ => ⟨rfl, rfl⟩
  | _ :: _ :: _, h => by simp at h; omega
set_option maxRecDepth 100000 in
/-- slices.Compact. -/
theorem cpS (Y : List P3) (hn : Y.length ≤ 1000) : MemSem Try.prog 64 [.slice (some ⟨0, 0, some 0⟩) Y.length 4] [.rows true true 4 Y.length (ptRow Y)] (.slice (some ⟨0, 0, some 0⟩) (cpct Y).length 4) [.rows true true 4 Y.length (ptRow (cpAll Y))] := by
  have body0 : InBody ((CCw Try.prog).into 64 1) (cpB Try.prog) := Or.inl ⟨Try.f64, cpB Try.prog, Try.func64, cpB_eq, fun _ hx => hx⟩
  have h2 := cpE2 Y.length Y
  by_cases h : Y.length < 2
  · have hc := short_same h
    rw [hc.1, hc.2]
    rw [show decide ((Y.length : Int) < 2) = true by simp; omega] at h2
    exact body_mem (f := 64) Try.func64 cpB_eq (by kernel_rfl) (seg_rule (C := CCw Try.prog) okCw (f := 64) (B := 1) (k := 1) body0 (cpE1 Y.length Y) (stmt_out cpHas.1 (end_rule (C := CCw Try.prog) okCw (f := 64) (B := 1) (stmt_in Try.func64 cpB_eq) h2) (by simp))) (cpRet Y.length Y.length (ptRow Y))
  · rw [show decide ((Y.length : Int) < 2) = false by simp; omega] at h2
    have c2 : CodeSem Try.prog 1 (stmt 1 (cpB Try.prog)) (cp0 Y.length Y) .normal (cp0 Y.length Y) := end_rule (C := CCw Try.prog) okCw (f := 64) (B := 1) (stmt_in Try.func64 cpB_eq) h2
    have cH : CodeSem Try.prog 1 (forHead (stmt 2 (cpB Try.prog))) (cp0 Y.length Y) .normal (cp1 Y.length Y 1) := end_rule (C := CCw Try.prog) okCw (f := 64) (B := 1) cpInO.1 (cpHead Y.length Y)
    have hO := cpOuter Y hn (by omega)
    have cE : CodeSem Try.prog 1 (seqDrop 2 (cpB Try.prog)) (cp0 Y.length Y) .ret (cpRes Y) := by
      by_cases hc : (cpct Y).length = Y.length
      · rw [if_pos hc] at hO
        have hall : cpAll Y = cpct Y := by unfold cpAll; rw [hc]; simp
        have hYY : cpct Y = Y := cpct_same hc
        refine stmt_rule cpHas.2.1 (for_rule cpFor cH hO) ?_
        have := end_rule (C := CCw Try.prog) okCw (f := 64) (B := 1) (bodyOf_in Try.func64 cpB_eq) (cpEnd Y.length Y (Y.length : Int))
        unfold cpRes
        rw [hall, hYY]
        exact this
      · rw [if_neg hc] at hO
        exact stmt_out cpHas.2.1 (for_ret cpFor cH hO) (by simp)
    exact body_mem (f := 64) Try.func64 cpB_eq (by kernel_rfl) (seg_rule (C := CCw Try.prog) okCw (f := 64) (B := 1) (k := 1) body0 (cpE1 Y.length Y) (stmt_rule cpHas.1 c2 cE)) (cpRet Y.length (cpct Y).length (ptRow (cpAll Y)))
end Go.Proofs.Ytneaibkfglfpaaa


namespace Go.Proofs.Ytneaibkfglfpaaa
open Go Go.Proofs Go.Shelf
def sortPt_ren : Go.Shelf.Ren := ⟨fun | 6 => 62 | 15 => 80 | 14 => 90 | 28 => 110 | 29 => 111 | 20 => 112 | 21 => 113 | 22 => 114 | 23 => 115 | 24 => 116 | 25 => 117 | 26 => 118 | 27 => 119 | 46 => 133 | 47 => 129 | 48 => 130 | 49 => 134 | 50 => 135 | 57 => 140 | n => n, fun | 22 => 57 | 24 => 56 | 25 => 108 | 3 => 3 | 39 => 132 | 0 => 0 | 53 => 158 | 55 => 160 | 4 => 4 | 46 => 152 | 45 => 151 | 50 => 96 | 5 => 5 | 9 => 9 | 66 => 173 | 70 => 177 | 76 => 183 | 77 => 49 | n => n, fun | n => n⟩
theorem sortPt : Go.Proofs.SlLaysF0.n6 Try.prog sortPt_ren := {
  mixed := by kernel_rfl
  f6 := ⟨Try.f62.name, by decide, Try.func62.trans (congrArg some (by kernel_rfl))⟩
  f14 := ⟨Try.f90.name, by decide, Try.func90.trans (congrArg some (by kernel_rfl))⟩
  f15 := Try.func80.trans (congrArg some (by kernel_rfl))
  f20 := ⟨Try.f112.name, by decide, Try.func112.trans (congrArg some (by kernel_rfl))⟩
  f21 := ⟨Try.f113.name, by decide, Try.func113.trans (congrArg some (by kernel_rfl))⟩
  f22 := ⟨Try.f114.name, by decide, Try.func114.trans (congrArg some (by kernel_rfl))⟩
  f23 := ⟨Try.f115.name, by decide, Try.func115.trans (congrArg some (by kernel_rfl))⟩
  f24 := ⟨Try.f116.name, by decide, Try.func116.trans (congrArg some (by kernel_rfl))⟩
  f25 := ⟨Try.f117.name, by decide, Try.func117.trans (congrArg some (by kernel_rfl))⟩
  f26 := ⟨Try.f118.name, by decide, Try.func118.trans (congrArg some (by kernel_rfl))⟩
  f27 := ⟨Try.f119.name, by decide, Try.func119.trans (congrArg some (by kernel_rfl))⟩
  f28 := Try.func110.trans (congrArg some (by kernel_rfl))
  f29 := Try.func111.trans (congrArg some (by kernel_rfl))
  f46 := ⟨Try.f133.name, by decide, Try.func133.trans (congrArg some (by kernel_rfl))⟩
  f47 := Try.func129.trans (congrArg some (by kernel_rfl))
  f48 := Try.func130.trans (congrArg some (by kernel_rfl))
  f49 := ⟨Try.f134.name, by decide, Try.func134.trans (congrArg some (by kernel_rfl))⟩
  f50 := ⟨Try.f135.name, by decide, Try.func135.trans (congrArg some (by kernel_rfl))⟩
  f57 := ⟨Try.f140.name, by decide, Try.func140.trans (congrArg some (by kernel_rfl))⟩
  t0 := Try.underlying0
  a0 := Try.isAgg0
  z0 := Try.sizeOf0
  v0 := Try.zeroValue0
  t3 := Try.underlying3
  a3 := Try.isAgg3
  z3 := Try.sizeOf3
  v3 := Try.zeroValue3
  t4 := Try.underlying4
  a4 := Try.isAgg4
  z4 := Try.sizeOf4
  v4 := Try.zeroValue4
  t5 := Try.underlying5
  a5 := Try.isAgg5
  z5 := Try.sizeOf5
  v5 := Try.zeroValue5
  t9 := Try.underlying9
  a9 := Try.isAgg9
  z9 := Try.sizeOf9
  v9 := Try.zeroValue9
  t22 := Try.underlying57
  a22 := Try.isAgg57
  z22 := Try.sizeOf57
  v22 := Try.zeroValue57
  t25 := Try.underlying108
  a25 := Try.isAgg108
  z25 := Try.sizeOf108
  v25 := Try.zeroValue108
  t39 := Try.underlying132
  a39 := Try.isAgg132
  z39 := Try.sizeOf132
  v39 := Try.zeroValue132
  t45 := Try.underlying151
  a45 := Try.isAgg151
  z45 := Try.sizeOf151
  v45 := Try.zeroValue151
  t46 := Try.underlying152
  a46 := Try.isAgg152
  z46 := Try.sizeOf152
  v46 := Try.zeroValue152
  t50 := Try.underlying96
  a50 := Try.isAgg96
  z50 := Try.sizeOf96
  v50 := Try.zeroValue96
  t53 := Try.underlying158
  a53 := Try.isAgg158
  z53 := Try.sizeOf158
  v53 := Try.zeroValue158
  t55 := Try.underlying160
  a55 := Try.isAgg160
  z55 := Try.sizeOf160
  v55 := Try.zeroValue160
  t66 := Try.underlying173
  a66 := Try.isAgg173
  z66 := Try.sizeOf173
  v66 := Try.zeroValue173
  t70 := Try.underlying177
  a70 := Try.isAgg177
  z70 := Try.sizeOf177
  v70 := Try.zeroValue177
  t76 := Try.underlying183
  a76 := Try.isAgg183
  z76 := Try.sizeOf183
  v76 := Try.zeroValue183
  t77 := Try.underlying49
  a77 := Try.isAgg49
  z77 := Try.sizeOf49
  v77 := Try.zeroValue49 }
end Go.Proofs.Ytneaibkfglfpaaa


namespace Go.Proofs.Ytneaibkfglfpaaa
open Go Vx Go.Shelf Go.RowKit Go.Sort
section
variable {α : Type} (ky : α → List Int)
def insK (o : α) : List α → List α
  | [] => [o]
  | x :: l => match decide (lexI (ky x) (ky o) < 0) with
    | true => x :: insK o l
    | false => o :: x :: l
def sortK : List α → List α
  | [] => []
  | o :: l => insK ky o (sortK l)
def SortedK (l : List α) : Prop := l.Pairwise fun a b => lexI (ky a) (ky b) ≤ 0
theorem insK_perm (o : α) : ∀ (l : List α), (insK ky o l).Perm (o :: l)
  | [] => List.Perm.refl _
  | x :: l => by
    simp only [insK]
    split
    · exact ((insK_perm o l).cons x).trans (List.Perm.swap o x l)
    · exact List.Perm.refl _
theorem sortK_perm : ∀ (l : List α), (sortK ky l).Perm l
  | [] => List.Perm.refl _
  | o :: l => (insK_perm ky o (sortK ky l)).trans ((sortK_perm l).cons o)
theorem sortK_len (l : List α) : (sortK ky l).length = l.length := (sortK_perm ky l).length_eq
variable {c : Nat} (hc : ∀ a, (ky a).length = c)
include hc
theorem insK_sorted (o : α) : ∀ (l : List α), SortedK ky l → SortedK ky (insK ky o l)
  | [], _ => by simp [insK, SortedK]
  | x :: l, h => by
    unfold SortedK at h
    rw [List.pairwise_cons] at h
    simp only [insK]
    split
    · rename_i hd
      have hd' : lexI (ky x) (ky o) < 0 := by simpa using hd
      unfold SortedK
      rw [List.pairwise_cons]
      refine ⟨fun y hy => ?_, insK_sorted o l h.2⟩
      rcases List.mem_cons.1 ((insK_perm ky o l).mem_iff.1 hy) with rfl | hy
      · omega
      · exact h.1 y hy
    · rename_i hd
      have hd' : ¬ lexI (ky x) (ky o) < 0 := by simpa using hd
      have ho : lexI (ky o) (ky x) ≤ 0 := by rw [lexI_neg (ky x) (ky o)]; omega
      unfold SortedK
      rw [List.pairwise_cons]
      refine ⟨fun y hy => ?_, List.pairwise_cons.2 h⟩
      rcases List.mem_cons.1 hy with rfl | hy
      · exact ho
      · exact lexI_trans (by rw [hc, hc]) (by rw [hc, hc]) ho (h.1 y hy)
theorem sortK_sorted : ∀ (l : List α), SortedK ky (sortK ky l)
  | [] => List.Pairwise.nil
  | o :: l => insK_sorted ky hc o _ (sortK_sorted l)
theorem sortedK_one (hi : ∀ a b, ky a = ky b → a = b) : ∀ {l m : List α}, SortedK ky l → SortedK ky m → l.Perm m → l = m
  | [], m, _, _, hp => by rw [List.nil_perm.1 hp]
  | x :: l, m, hl, hm, hp => by
    cases m with
    | nil => exact absurd hp.symm (by simp)
    | cons y m =>
      unfold SortedK at hl hm
      rw [List.pairwise_cons] at hl hm
      have hxy : x = y := by
        have hx : x ∈ y :: m := hp.mem_iff.1 (by simp)
        have hy : y ∈ x :: l := hp.mem_iff.2 (by simp)
        rcases List.mem_cons.1 hx with rfl | hx
        · rfl
        · rcases List.mem_cons.1 hy with rfl | hy
          · rfl
          · have h1 := hm.1 x hx
            have h2 := hl.1 y hy
            have h3 := lexI_neg (ky x) (ky y)
            exact hi _ _ ((lexI_zero (by rw [hc, hc])).1 (by omega))
      subst hxy
      rw [sortedK_one hi hl.2 hm.2 ((List.perm_cons x).1 hp)]
end
theorem insK_map {α β : Type} (f : α → β) (k : α → List Int) (k2 : β → List Int) (h : ∀ a, k2 (f a) = k a) (o : α) : ∀ (l : List α), (insK k o l).map f = insK k2 (f o) (l.map f)
  | [] => rfl
  | x :: l => by
    simp only [insK, List.map_cons, h]
    cases decide (lexI (k x) (k o) < 0) with
    | true => simp only [List.map_cons]; rw [insK_map f k k2 h o l]
    | false => rfl
theorem sortK_map {α β : Type} (f : α → β) (k : α → List Int) (k2 : β → List Int) (h : ∀ a, k2 (f a) = k a) : ∀ (l : List α), (sortK k l).map f = sortK k2 (l.map f)
  | [] => rfl
  | o :: l => by
    simp only [sortK, List.map_cons]
    rw [insK_map f k k2 h, sortK_map f k k2 h l]
structure PM (M : Int) where
  (x : V3) (ok : (⟨M, x⟩ : P3).form = true)
def PM.p {M : Int} (a : PM M) : P3 := ⟨M, a.x⟩
def PM.key {M : Int} (a : PM M) : List Int := a.x.l
def PM.cells {M : Int} (a : PM M) : List Value := a.p.cells
def PM.cmp {M : Int} (a b : PM M) : Int := lexI a.key b.key
def pkey (p : P3) : List Int := p.x.l
theorem PM.key_inj {M : Int} (a b : PM M) (h : a.key = b.key) : a = b := by
  obtain ⟨⟨x, y, z⟩, ha⟩ := a
  obtain ⟨⟨x2, y2, z2⟩, hb⟩ := b
  simp only [PM.key, V3.l, List.cons.injEq, and_true] at h
  obtain ⟨rfl, rfl, rfl⟩ := h
  rfl
theorem cmpR_val (a b : Int) : cmpR a b = if a < b then -1 else if a > b then 1 else 0 := by
  unfold cmpR
  by_cases h1 : a < b
  · rw [if_pos h1]
    simp [cmpT, chainL, h1, nth]
  · rw [if_neg h1]
    by_cases h2 : a > b
    · rw [if_pos h2]; simp [cmpT, chainL, h1, h2, nth]
    · rw [if_neg h2]; simp [cmpT, chainL, h1, h2, nth]
theorem cmpR_scale {a b M : Int} (hM : 0 < M) (hM2 : M ≤ 192) (ha : 0 ≤ a ∧ a ≤ 192) (hb : 0 ≤ b ∧ b ≤ 192) : cmpR (W (a * M)) (W (b * M)) = cmpR a b := by
  have e1 : 0 ≤ a * M ∧ a * M ≤ 192 * 192 := ⟨Int.mul_nonneg ha.1 (by omega), Int.le_trans (Int.mul_le_mul_of_nonneg_right ha.2 (by omega)) (Int.mul_le_mul_of_nonneg_left hM2 (by omega))⟩
  have e2 : 0 ≤ b * M ∧ b * M ≤ 192 * 192 := ⟨Int.mul_nonneg hb.1 (by omega), Int.le_trans (Int.mul_le_mul_of_nonneg_right hb.2 (by omega)) (Int.mul_le_mul_of_nonneg_left hM2 (by omega))⟩
  rw [W_in (by omega), W_in (by omega), cmpR_val, cmpR_val]
  have h1 : a * M < b * M ↔ a < b := Int.mul_lt_mul_right hM
  have h2 : b * M < a * M ↔ b < a := Int.mul_lt_mul_right hM
  by_cases k1 : a < b
  · rw [if_pos k1, if_pos (h1.2 k1)]
  · rw [if_neg k1, if_neg (fun h => k1 (h1.1 h))]
    by_cases k2 : a > b
    · rw [if_pos k2, if_pos (h2.2 k2)]
    · rw [if_neg k2, if_neg (fun h => k2 (h2.1 h))]
end Go.Proofs.Ytneaibkfglfpaaa


namespace Go.Proofs.Ytneaibkfglfpaaa
open Go Vx Go.Shelf Go.RowKit Go.Sort
theorem PM.bds {M : Int} (a : PM M) : (0 < M ∧ M ≤ 192) ∧ (0 ≤ a.x.x ∧ a.x.x ≤ 192) ∧ (0 ≤ a.x.y ∧ a.x.y ≤ 192) ∧ (0 ≤ a.x.z ∧ a.x.z ≤ 192) := by
  obtain ⟨h1, h2⟩ := P3.form_spec a.ok
  simp only at h1 h2
  omega
theorem lex_step (a b : Int) (l m : List Int) : lexI (a :: l) (b :: m) = (match cmpR a b != 0 with
    | true => cmpR a b
    | false => lexI l m) := by
  rw [cmpR_val]
  simp only [lexI]
  by_cases h1 : a < b
  · rw [if_pos h1, if_pos h1]; rfl
  · rw [if_neg h1, if_neg h1]
    by_cases h2 : a > b
    · rw [if_pos h2, if_pos h2]; rfl
    · rw [if_neg h2, if_neg h2]; rfl
theorem PM.ord {M : Int} (a b : PM M) : a.p.ordV b.p = a.cmp b := by
  obtain ⟨⟨m1, m2⟩, ax, ay, az⟩ := a.bds
  obtain ⟨_, bx, by', bz⟩ := b.bds
  have e1 : a.p.c1 b.p = cmpR a.x.x b.x.x := cmpR_scale m1 m2 ax bx
  have e2 : a.p.c2 b.p = cmpR a.x.y b.x.y := cmpR_scale m1 m2 ay by'
  have e3 : a.p.c3 b.p = cmpR a.x.z b.x.z := cmpR_scale m1 m2 az bz
  unfold P3.ordV P3.lex PM.cmp
  rw [show a.p.form = true from a.ok, show b.p.form = true from b.ok, e1, e2, e3]
  show _ = lexI [a.x.x, a.x.y, a.x.z] [b.x.x, b.x.y, b.x.z]
  rw [lex_step, lex_step, lex_step]
  simp only [Bool.and_self, cond_true, lexI]
  cases (cmpR a.x.x b.x.x != 0) <;> cases (cmpR a.x.y b.x.y != 0) <;> cases (cmpR a.x.z b.x.z != 0) <;> rfl
theorem PM.key_len {M : Int} (a : PM M) : a.key.length = 3 := rfl
theorem pcmpSem {M : Int} (a b : PM M) : PlainSem Try.prog 63 [a.p.v, b.p.v] (vI (a.cmp b)) := by
  have h := okCw.tbl 63 [a.p.v, b.p.v] (vI (a.p.ordV b.p)) (by intro x hx; simp only [List.mem_cons, List.not_mem_nil, or_false] at hx; rcases hx with rfl | rfl <;> rfl) (by kernel_rfl) rfl
  rw [PM.ord] at h
  exact h
theorem plt_t {M : Int} {x y : PM M} : Go.Proofs.ltOf PM.cmp x y = true ↔ lexI x.key y.key < 0 := decide_eq_true_iff
theorem plt_f {M : Int} {x y : PM M} : Go.Proofs.ltOf PM.cmp x y = false ↔ ¬ lexI x.key y.key < 0 := decide_eq_false_iff_not
theorem pcmp_swo (M : Int) : Go.Sort.SWO (Go.Proofs.ltOf (PM.cmp (M := M))) where
  irrefl x := by
    have := (lexI_zero (l := x.key) (m := x.key) rfl).2 rfl
    rw [plt_f, this]
    omega
  trans x y z h1 h2 := by
    rw [plt_t] at *
    have h3 := lexI_trans (l := x.key) (m := y.key) (n := z.key) rfl rfl (by omega) (by omega)
    by_cases h0 : lexI x.key z.key = 0
    · have e := (lexI_zero (l := x.key) (m := z.key) rfl).1 h0
      rw [e, lexI_neg y.key z.key] at h1
      omega
    · omega
  ntrans x y z h1 h2 := by
    rw [plt_f] at *
    have e1 := lexI_neg x.key y.key
    have e2 := lexI_neg y.key z.key
    have e3 := lexI_neg x.key z.key
    have h3 := lexI_trans (l := z.key) (m := y.key) (n := x.key) rfl rfl (by omega) (by omega)
    omega
theorem PM.cells_len {M : Int} (a : PM M) : a.cells.length = 4 := rfl
theorem PM.cells_plain {M : Int} (a : PM M) : allL plain0 a.cells = true := rfl
theorem PM.cells_cell {M : Int} (o : PM M) (k : Nat) (hk : k < 4) : o.cells[k]? = some o.cells[k]! ∧ plain0 o.cells[k]! = true := by
  match k, hk with
  | 0, _ => exact ⟨rfl, rfl⟩
  | 1, _ => exact ⟨rfl, rfl⟩
  | 2, _ => exact ⟨rfl, rfl⟩
  | 3, _ => exact ⟨rfl, rfl⟩
  | k + 4, h => omega
section
variable {M : Int} [Inhabited (PM M)]
theorem sorted_listP {d d' : Array (PM M)} (hp : Go.Sort.PermIn 0 d.size d d') (hs : Go.Sort.SortedIn (Go.Proofs.ltOf PM.cmp) 0 d.size d') : d'.toList = sortK PM.key d.toList := by
  obtain ⟨h1, -, h3⟩ := hp
  rw [Array.extract_size, show d'.extract 0 d.size = d' by rw [← h1, Array.extract_size]] at h3
  refine sortedK_one PM.key PM.key_len PM.key_inj ?_ (sortK_sorted PM.key PM.key_len _) (h3.trans (sortK_perm PM.key _).symm)
  unfold SortedK
  rw [List.pairwise_iff_getElem]
  intro i j hi hj hij
  have hi' : i < d'.size := by simpa using hi
  have hj' : j < d'.size := by simpa using hj
  have h := hs i j (Nat.zero_le _) hij (by omega)
  rw [getElem!_pos d' j hj', getElem!_pos d' i hi', plt_f] at h
  have h4 := lexI_neg d'[j].key d'[i].key
  simp only [Array.getElem_toList]
  omega
theorem ptRow_arr {xs : List (PM M)} {i : Nat} (hi : i < xs.length) : ptRow (xs.map PM.p) i = (xs.toArray[i]!).cells := by
  rw [ptRow_get (by simpa using hi), getElem!_pos xs.toArray i (by simpa using hi)]
  simp [PM.cells]
theorem holds_pts {w : World} {r : Vx.Ren} {p : Vx.Place} {xs : List (PM M)} (h : BlkRel w r p (.rows true true 4 xs.length (ptRow (xs.map PM.p)))) : HoldsK PM.cells 4 w p.blk p.off xs.toArray := by
  obtain ⟨_, _, _, _, cs, T, fz, _, h3, h4, h5⟩ := h
  obtain ⟨rfl, -⟩ := h4 rfl
  intro t ht
  rw [size_flatK] at ht
  have ht' : t < xs.length * 4 := by simpa using ht
  rw [get_flatK _ _ _ t ht]
  have hi : t / 4 < xs.length := by omega
  obtain ⟨h6, h7⟩ := PM.cells_cell (xs.toArray[t / 4]!) (t % 4) (by omega)
  obtain ⟨v', h8, h9⟩ := (h5 (t / 4) hi).2 (t % 4) _ (by rw [ptRow_arr hi]; exact h6)
  rw [R0_plain h7] at h9
  subst h9
  refine ⟨?_, ?_⟩
  · rw [show p.off + t = p.off + t / 4 * 4 + t % 4 by omega, cell_of h3]
    exact h8
  · simp [World.frozen?, h3]
theorem put_onlyP (w : World) (blk off : Nat) (d : Array (PM M)) : Only blk w (putRowK PM.cells 4 w blk off d) := by
  refine ⟨fun k hk => ?_, ?_, rfl, rfl, rfl, rfl⟩
  · simp only [putRowK, Go.Sort.putRow, Go.Sort.mapBlock, Array.getElem?_modify, if_neg (Ne.symm hk)]
  · simp only [putRowK, Go.Sort.putRow, Go.Sort.mapBlock, Array.size_modify]
theorem put_relP {w : World} {r : Vx.Ren} {p : Vx.Place} {xs ys : List (PM M)} (hl : ys.length = xs.length) (h : BlkRel w r p (.rows true true 4 xs.length (ptRow (xs.map PM.p)))) : BlkRel (putRowK PM.cells 4 w p.blk p.off ys.toArray) r p (.rows true true 4 xs.length (ptRow (ys.map PM.p))) := by
  have hh := holdsK_putRowK PM.cells 4 w p.blk p.off xs.toArray ys.toArray (holds_pts h) (by simpa using hl)
  obtain ⟨h1, h2, h0, _, cs, T, fz, h6, h3, h4, h5⟩ := h
  have hw : (putRowK PM.cells 4 w p.blk p.off ys.toArray).heap[p.blk]? = some (.cells (Go.Sort.putCells id p.off (flatK PM.cells 4 ys.toArray) cs) T fz) := by
    simp only [putRowK, Go.Sort.putRow, Go.Sort.mapBlock, Array.getElem?_modify, h3]
    rfl
  refine ⟨h1, h2, h0, fun _ i hi => ?_, _, T, fz, h6, hw, fun ho => ⟨(h4 ho).1, by simpa [Go.Sort.putCells] using (h4 ho).2⟩, fun i hi => ⟨?_, fun k v hv => ?_⟩⟩
  · rw [ptRow_arr (by omega : i < ys.length)]
    exact PM.cells_plain _
  · rw [ptRow_arr (by omega : i < ys.length)]
    rfl
  have hi' : i < ys.length := by omega
  rw [ptRow_arr hi'] at hv
  have hk : k < 4 := (List.getElem?_eq_some_iff.1 hv).1
  obtain ⟨h7, h8⟩ := PM.cells_cell (ys.toArray[i]!) k hk
  rw [h7] at hv
  have ht : i * 4 + k < ys.toArray.size * 4 := by simp; omega
  have := (hh (i * 4 + k) (by rw [size_flatK]; exact ht)).1
  rw [get_flatK _ _ _ _ ht, show (i * 4 + k) / 4 = i by omega, show (i * 4 + k) % 4 = k by omega] at this
  simp only [World.cell?, hw, id] at this
  simp only [Option.some.injEq] at hv
  subst hv
  exact ⟨_, by rw [Nat.add_assoc]; exact this, (R0_plain h8).2 rfl⟩
theorem cmpLaysP (blk off size : Nat) (w : World) : CmpLays Try.prog 63 #[] (PM.cells (M := M)) 4 PM.cmp blk off size w := fun _ _ _ _ x y =>
  ((pcmpSem x y).2 _).mono fun _ _ ⟨he, hb, hd⟩ => ⟨he, below_grow hb hd⟩
theorem sortSemP0 (xs : List (PM M)) (hl : xs.length ≤ 1000) : MemSem Try.prog 62 [.slice (some ⟨0, 0, some 0⟩) xs.length 4, .func (.func 63) #[] #[]] [.rows true true 4 xs.length (ptRow (xs.map PM.p))] (.tuple #[]) [.rows true true 4 xs.length (ptRow ((sortK PM.key xs).map PM.p))] := by
  refine ⟨okFunc_spec (by kernel_rfl), fun w0 keep r args' w ha hm => ?_⟩
  match args', ha with
  | [a', f'], ha =>
    obtain ⟨h1, h2, -⟩ := ha
    have hf : f' = .func (.func 63) #[] #[] := (R_plain (v := .func (.func 63) #[] #[]) rfl).1 h2
    subst hf
    have h1' : R0 r (.slice (some ⟨0, 0, some 0⟩) xs.length 4) a' := h1
    unfold R0 at h1'
    simp only at h1'
    cases hr : r 0 with
    | none => rw [hr] at h1'; exact h1'.elim
    | some q =>
      rw [hr] at h1'
      cases q with
      | none => have := hm.dead 0 hr; simp at this
      | some p =>
        obtain ⟨c, rfl, hsl⟩ := h1'
        obtain ⟨k, hk1, hk2⟩ := hm.blk 0 p hr
        simp only [List.getElem?_cons_zero, Option.some.injEq] at hk1
        subst hk1
        have hown : p.own = true := hk2.1
        have hcon := AnyQ.slices_SortFunc sortPt 4 Try.isAgg56 Try.sizeOf56 PM.cells PM.cells_len (fun x v hv => by
          have := allL_iff.1 (PM.cells_plain x) v hv
          cases v <;> first | rfl | cases this) PM.cmp (pcmp_swo M) 63 #[] p.blk p.off c xs.toArray w (enters_of Try.func63 (by kernel_rfl) rfl) (cmpLaysP _ _ _ _) (holds_pts hk2) hk2.lt (by simp; omega)
        change Calls Try.prog 62 _ _ _ at hcon
        have hadr : p.addr ⟨0, 0, some 0⟩ = ⟨p.blk, p.off, none⟩ := by simp [Vx.Place.addr]
        rw [hadr]
        have hsz : xs.toArray.size = xs.length := by simp
        rw [hsz] at hcon
        refine hcon.mono ?_
        rintro e w' ⟨rfl, d', n, os, hp, hs, rfl⟩
        have hd : d'.toList = sortK PM.key xs := by
          have := sorted_listP (d := xs.toArray) (d' := d') (by rw [hsz]; exact hp) (by rw [hsz]; exact hs)
          simpa using this
        have hd2 : d' = (sortK PM.key xs).toArray := by rw [← hd]
        subst hd2
        refine ⟨.tuple #[], r, rfl, ⟨#[], rfl, trivial⟩, ?_, Ext.refl r⟩
        unfold sortWorldK
        have m1 := hm.later (below_ahead w n) (by simp [Go.Sort.ahead])
        have b1 : BlkRel (Go.Sort.ahead w n) r p (.rows true true 4 xs.length (ptRow (xs.map PM.p))) := hk2.mono rfl (Ext.refl r)
        have m2 := m1.turn hr hown (by simp [isGrow]) (put_onlyP _ _ _ _) (put_relP (ys := sortK PM.key xs) (sortK_len PM.key xs) b1)
        exact m2.later (below_grown _ os) (Nat.le_refl _)
  | [], ha => exact ha.elim
  | [_], ha => exact ha.2.elim
  | _ :: _ :: _ :: _, ha => exact ha.2.2.elim
end
/-- Places of one fineness, in order. -/
def sortPt' (Y : List P3) : List P3 := sortK pkey Y
theorem lift_pts {M : Int} : ∀ (Y : List P3), (∀ p ∈ Y, p.form = true ∧ p.m = M) → ∃ xs : List (PM M), xs.map PM.p = Y
  | [], _ => ⟨[], rfl⟩
  | p :: Y, h => by
    obtain ⟨xs, hx⟩ := lift_pts (M := M) Y fun q hq => h q (by simp [hq])
    obtain ⟨h1, h2⟩ := h p (by simp)
    obtain ⟨m, x⟩ := p
    simp only at h2
    subst h2
    exact ⟨⟨x, h1⟩ :: xs, by simp [PM.p, hx]⟩
theorem sortSemP (Y : List P3) {M : Int} (hY : ∀ p ∈ Y, p.form = true ∧ p.m = M) (hl : Y.length ≤ 1000) (h0 : Y ≠ []) : MemSem Try.prog 62 [.slice (some ⟨0, 0, some 0⟩) Y.length 4, .func (.func 63) #[] #[]] [.rows true true 4 Y.length (ptRow Y)] (.tuple #[]) [.rows true true 4 Y.length (ptRow (sortPt' Y))] := by
  obtain ⟨xs, hx⟩ := lift_pts Y hY
  have hlen : xs.length = Y.length := by rw [← hx]; simp
  cases hxs : xs with
  | nil => rw [hxs] at hx; exact absurd hx.symm h0
  | cons x l =>
    letI : Inhabited (PM M) := ⟨x⟩
    have := sortSemP0 xs (by omega)
    rw [sortK_map PM.p PM.key pkey (fun _ => rfl), hx, hlen] at this
    exact this
end Go.Proofs.Ytneaibkfglfpaaa


namespace Go.Proofs.Ytneaibkfglfpaaa
open Go Vx Go.RowKit
def imF : List Value → Mem → Option (Ans (Value × Mem))
  | [.slice (some ⟨0, 0, some 0⟩) N 12, .agg co], [.rows own true 12 N2 row] => match ptCells co.toList with
    | some p => some (.br (Nat.beq N N2 && okOps N row) (.br (leastN (chkI (opsOf N row)) p.ckP != 0) (.out (nilE (leastN (chkI (opsOf N row)) p.ckP), [.rows own true 12 N (opRow (opsOf N row))])) (.out (.tuple #[.slice (some ⟨1, 0, some 0⟩) N 4, vI 0], [.rows own true 12 N (opRow (opsOf N row)), .rows true true 4 N (ptRow (imgs (opsOf N row) p))]))) .fail)
    | none => none
  | _, _ => none
theorem ckP_zero {p : P3} (h : p.ckP = 0) : p.form = true := by
  unfold P3.ckP at h
  cases hf : p.form with
  | true => rfl
  | false => rw [hf] at h; cases h
theorem imF_ok {args : List Value} {m : Mem} {ans : Ans (Value × Mem)} {v : Value} {m' : Mem} (h : imF args m = some ans) (hr : ans.res = some (v, m')) : MemSem Try.prog 61 args m v m' := by
  unfold imF at h
  split at h
  rotate_left
  · cases h
  rename_i N co own N2 row
  split at h
  rotate_left
  · cases h
  rename_i p hp
  simp only [Option.some.injEq] at h
  subst h
  rcases Ans.br_some hr with ⟨hc, hr1⟩ | ⟨_, hr1⟩
  rotate_left
  · simp [Ans.res] at hr1
  rw [Bool.and_eq_true] at hc
  obtain ⟨c1, c2⟩ := hc
  have c1 := beq_len c1
  subst c1
  have e1 : co = p.cells.toArray := by rw [← ptCells_spec hp]
  subst e1
  have hl := opsOf_length N row
  rcases Ans.br_some hr1 with ⟨hq, hr2⟩ | ⟨hq, hr2⟩
  · simp only [Ans.res, Option.some.injEq, Prod.mk.injEq] at hr2
    obtain ⟨rfl, rfl⟩ := hr2
    have := imS_err own (opsOf N row) p (by simpa using hq)
    rw [hl] at this
    exact this.like ⟨.rows (ops_like c2), trivial⟩
  · simp only [Ans.res, Option.some.injEq, Prod.mk.injEq] at hr2
    obtain ⟨rfl, rfl⟩ := hr2
    have h0 : leastN (chkI (opsOf N row)) p.ckP = 0 := by simpa using hq
    obtain ⟨z1, z2⟩ := leastN_zero.1 h0
    have := imS own (opsOf N row) p z1 (ckP_zero z2)
    rw [hl] at this
    exact this.like ⟨.rows (ops_like c2), trivial⟩
/-- Places in form, of one fineness. -/
def oneM (Y : List P3) : Bool := Y.all fun p => p.form && p.m == (atP Y 0).m
theorem oneM_spec {Y : List P3} (h : oneM Y = true) : ∀ p ∈ Y, p.form = true ∧ p.m = (atP Y 0).m := fun p hp => by
  have := List.all_eq_true.1 h p hp
  rw [Bool.and_eq_true, beq_iff_eq] at this
  exact this
def srF : List Value → Mem → Option (Ans (Value × Mem))
  | [.slice (some ⟨0, 0, some 0⟩) N 4, .func (.func 63) f c], [.rows true true 4 N2 row] => match f.toList, c.toList with
    | [], [] => some (.br (Nat.beq N N2 && (okPts N row && (oneM (ptsOf N row) && (Nat.blt 0 N && Nat.ble N 1000)))) (.out (.tuple #[], [.rows true true 4 N (ptRow (sortPt' (ptsOf N row)))])) .fail)
    | _, _ => none
  | _, _ => none
theorem srF_ok {args : List Value} {m : Mem} {ans : Ans (Value × Mem)} {v : Value} {m' : Mem} (h : srF args m = some ans) (hr : ans.res = some (v, m')) : MemSem Try.prog 62 args m v m' := by
  unfold srF at h
  split at h
  rotate_left
  · cases h
  rename_i N f c N2 row
  split at h
  rotate_left
  · cases h
  rename_i hf hcl
  simp only [Option.some.injEq] at h
  subst h
  rcases Ans.br_some hr with ⟨hc, hr1⟩ | ⟨_, hr1⟩
  rotate_left
  · simp [Ans.res] at hr1
  simp only [Bool.and_eq_true] at hc
  obtain ⟨c1, c2, c3, c4, c5⟩ := hc
  have c1 := beq_len c1
  subst c1
  simp only [Ans.res, Option.some.injEq, Prod.mk.injEq] at hr1
  obtain ⟨rfl, rfl⟩ := hr1
  have hl := ptsOf_length N row
  have e1 : f = #[] := by apply Array.ext'; simpa using hf
  have e2 : c = #[] := by apply Array.ext'; simpa using hcl
  subst e1 e2
  have := sortSemP (ptsOf N row) (oneM_spec c3) (by rw [hl]; exact Nat.le_of_ble_eq_true c5) (fun e => by rw [e] at hl; have := Nat.blt_eq.mp c4; simp at hl; omega)
  rw [hl] at this
  exact this.like ⟨.rows (pts_like c2), trivial⟩
def cmF : List Value → Mem → Option (Ans (Value × Mem))
  | [.slice (some ⟨0, 0, some 0⟩) N 4], [.rows true true 4 N2 row] => some (.br (Nat.beq N N2 && (okPts N row && Nat.ble N 1000)) (.out (.slice (some ⟨0, 0, some 0⟩) (cpct (ptsOf N row)).length 4, [.rows true true 4 N (ptRow (cpAll (ptsOf N row)))])) .fail)
  | _, _ => none
theorem cmF_ok {args : List Value} {m : Mem} {ans : Ans (Value × Mem)} {v : Value} {m' : Mem} (h : cmF args m = some ans) (hr : ans.res = some (v, m')) : MemSem Try.prog 64 args m v m' := by
  unfold cmF at h
  split at h
  rotate_left
  · cases h
  rename_i N N2 row
  simp only [Option.some.injEq] at h
  subst h
  rcases Ans.br_some hr with ⟨hc, hr1⟩ | ⟨_, hr1⟩
  rotate_left
  · simp [Ans.res] at hr1
  simp only [Bool.and_eq_true] at hc
  obtain ⟨c1, c2, c3⟩ := hc
  have c1 := beq_len c1
  subst c1
  simp only [Ans.res, Option.some.injEq, Prod.mk.injEq] at hr1
  obtain ⟨rfl, rfl⟩ := hr1
  have hl := ptsOf_length N row
  have := cpS (ptsOf N row) (by rw [hl]; exact Nat.le_of_ble_eq_true c3)
  rw [hl] at this
  exact this.like ⟨.rows (pts_like c2), trivial⟩
def Cof (P : Program) : Cx := ((((CCw P).addF 61 imF).addF 62 srF).addF 64 cmF).good 61 [true, false]
theorem okof : CxOk (Cof Try.prog) := Cx.good_ok (Cx.addF_ok (Cx.addF_ok (Cx.addF_ok okCw fun _ _ _ _ _ h hr => imF_ok h hr) fun _ _ _ _ _ h hr => srF_ok h hr) fun _ _ _ _ _ h hr => cmF_ok h hr) _ _
def Coe (P : Program) : Cx := ((CCw P).addF 61 imF).road 61 [true, true]
theorem okoe : CxOk (Coe Try.prog) := Cx.road_ok (Cx.addF_ok okCw fun _ _ _ _ _ h hr => imF_ok h hr) _ _
def srT (n : Nat) (Y : List P3) : Bool := Nat.beq n n && (okPts n (ptRow Y) && (oneM (ptsOf n (ptRow Y)) && (Nat.blt 0 n && Nat.ble n 1000)))
def cmT (n : Nat) (Y : List P3) : Bool := Nat.beq n n && (okPts n (ptRow Y) && Nat.ble n 1000)
theorem ofE1 (own : Bool) (n : Nat) (xs : List O3) (p : P3) : exT ((Cof Try.prog).at 28) 60 Try.f28 [.slice (some ⟨0, 0, some 0⟩) n 12, p.v] [.rows own true 12 n (opRow xs)] [.fix 0, .slot 0] =
    gd (lk n) (gd (oT n (opRow xs)) (gn (leastN (chkI (opsOf n (opRow xs))) p.ckP != 0) (gd (srT n (imgs (opsOf n (opRow xs)) p)) (gd (cmT n (sortPt' (ptsOf n (ptRow (imgs (opsOf n (opRow xs)) p)))))
      (some (.tuple #[.slice (some ⟨1, 0, some 0⟩) (cpct (ptsOf n (ptRow (sortPt' (ptsOf n (ptRow (imgs (opsOf n (opRow xs)) p))))))).length 4, vI 0], [.rows own true 12 n (opRow xs), .rows true true 4 n (ptRow (cpAll (ptsOf n (ptRow (sortPt' (ptsOf n (ptRow (imgs (opsOf n (opRow xs)) p))))))))])))))) := by kernel_rfl
theorem ofE2 (own : Bool) (n : Nat) (xs : List O3) (p : P3) : exT ((Coe Try.prog).at 28) 60 Try.f28 [.slice (some ⟨0, 0, some 0⟩) n 12, p.v] [.rows own true 12 n (opRow xs)] [.fix 0] =
    gd (lk n) (gd (oT n (opRow xs)) (gd (leastN (chkI (opsOf n (opRow xs))) p.ckP != 0) (match leastN (chkI (opsOf n (opRow xs))) p.ckP != 0 with
      | true => some (nilE (leastN (chkI (opsOf n (opRow xs))) p.ckP), [.rows own true 12 n (opRow xs)])
      | false => none))) := by kernel_rfl
end Go.Proofs.Ytneaibkfglfpaaa


namespace Go.Proofs.Ytneaibkfglfpaaa
open Go Vx Go.RowKit
theorem loop_leave {C : Cx} (hC : CxOk C) {f B n : Nat} {x : Code} {st s : St} {e : Exit} {mask mout : List Nat} {sp so : List From} (hin : InBody (C.into f B) x) (h : roundR (C.into f B) n x mask mout sp so st = some (e, s)) (he : e ≠ .normal) : LoopSem C.P B x st e s := by
  intro Q w0 keep r0 a w hB hQ hr
  obtain ⟨⟨e1, s1⟩, h3, h4⟩ := Ans.bind_some h
  refine LoopsTo.round ((exCode_sound hC n).1 f B x hin _ _ _ h3 _ w0 keep r0 a w hB ?_ hr)
  intro a' w' hr'
  obtain ⟨rfl, hs⟩ := clean_rel h4 hB hr'
  revert he hQ hs
  cases e <;> intro he hQ hs <;> first | exact absurd rfl he | exact hQ a' w' hs
theorem loop_next {C : Cx} (hC : CxOk C) {f B n : Nat} {x : Code} {st s s2 s3 : St} {e : Exit} {mask mout : List Nat} {sp so : List From} (hin : InBody (C.into f B) x) (h : roundR (C.into f B) n x mask mout sp so st = some (.normal, s)) (hl : StLike s s2) (hn : LoopSem C.P B x s2 e s3) : LoopSem C.P B x st e s3 := by
  intro Q w0 keep r0 a w hB hQ hr
  obtain ⟨⟨e1, s1⟩, h3, h4⟩ := Ans.bind_some h
  refine LoopsTo.round ((exCode_sound hC n).1 f B x hin _ _ _ h3 _ w0 keep r0 a w hB ?_ hr)
  intro a' w' hr'
  obtain ⟨he, hs⟩ := clean_rel h4 hB hr'
  subst he
  exact hn Q w0 keep r0 a' w' hB hQ (hs.like hl)
def ixB (P : Program) : Code := bodyOf P 72
theorem ixB_eq : Try.f72.body = some (ixB Try.prog) := by kernel_rfl
def ix1 (own : Bool) (n : Nat) (Y : List P3) (v : P3) : St := stOf 19 [(0, .slice (some ⟨0, 0, some 0⟩) n 4), (3, .pointer (some ⟨1, 0, none⟩)), (4, vI 0)] [.rows own true 4 n (ptRow Y), .cells true 0 v.cells]
def ixH (own : Bool) (n : Nat) (Y : List P3) (v : P3) (i : Int) : St := stOf 19 [(0, .slice (some ⟨0, 0, some 0⟩) n 4), (3, .pointer (some ⟨1, 0, none⟩)), (4, vI 0), (7, vI n), (8, vI i)] [.rows own true 4 n (ptRow Y), .cells true 0 v.cells]
def ixR (own : Bool) (n : Nat) (Y : List P3) (k : Int) : St := stOf 19 [(4, vI k)] [.rows own true 4 n (ptRow Y)]
theorem ixE1 (own : Bool) (n : Nat) (Y : List P3) (v : P3) : segR ((CCw Try.prog).into 72 1) 40 1 (ixB Try.prog) [0, 3, 4] [.fix 0, .slot 3] (enter Try.f72 [.slice (some ⟨0, 0, some 0⟩) n 4, v.v] [.rows own true 4 n (ptRow Y)]) = some (ix1 own n Y v) := by kernel_rfl
theorem ixFor : isFor 0 (stmt 1 (ixB Try.prog)) = true := by kernel_rfl
theorem ixHas : hasStmt 1 (ixB Try.prog) = true := by kernel_rfl
theorem ixHead (own : Bool) (n : Nat) (Y : List P3) (v : P3) : roundR ((CCw Try.prog).into 72 1) 40 (forHead (stmt 1 (ixB Try.prog))) [0, 3, 4, 7, 8] [0, 3, 4, 7, 8] [.fix 0, .slot 3] [.fix 0, .slot 3] (ix1 own n Y v) = some (.normal, ixH own n Y v 0) := by kernel_rfl
theorem ixRnd (own : Bool) (n : Nat) (Y : List P3) (v : P3) (i : Nat) : roundR ((CCw Try.prog).into 72 1) 40 (forBody (stmt 1 (ixB Try.prog))) [0, 3, 4, 7, 8] [4] [.fix 0, .slot 3] [.fix 0] (ixH own n Y v (i : Int)) =
    (match decide ((i : Int) < (n : Int)) with
    | true => gd (boundsI i n) (match v.eqB (atP Y i) with
      | true => some (.ret, ixR own n Y (i : Int))
      | false => some (.normal, ixH own n Y v (W ((i : Int) + 1))))
    | false => some (.exit 0, ixR own n Y 0)) := by kernel_rfl
theorem ixEnd (own : Bool) (n : Nat) (Y : List P3) : roundR ((CCw Try.prog).into 72 1) 40 (seqDrop 2 (ixB Try.prog)) [4] [4] [.fix 0] [.fix 0] (ixR own n Y 0) = some (.ret, ixR own n Y (-1)) := by kernel_rfl
theorem ixRet (own : Bool) (n : Nat) (Y : List P3) (k : Int) : (retA Try.prog Try.f72 (.ret, ixR own n Y k)).res = some (vI k, [.rows own true 4 n (ptRow Y)]) := by kernel_rfl
/-- The first place at which one lies, or -1. -/
def ixL (v : P3) : List P3 → Int → Int
  | [], _ => -1
  | x :: l, i => match v.eqB x with
    | true => i
    | false => ixL v l (i + 1)
set_option maxRecDepth 100000 in
theorem ixIn : InBody ((CCw Try.prog).into 72 1) (forHead (stmt 1 (ixB Try.prog))) ∧ InBody ((CCw Try.prog).into 72 1) (forBody (stmt 1 (ixB Try.prog))) := for_in (C := CCw Try.prog) (f := 72) (B := 1) (id := 0) (k := 1) (fn := Try.f72) (b := ixB Try.prog) Try.func72 ixB_eq ixFor
theorem ixLoop (own : Bool) (Y : List P3) (v : P3) (hn : Y.length ≤ 1000000) : ∀ (c i : Nat), Y.length - i ≤ c → i ≤ Y.length →
    (∃ k : Int, LoopSem Try.prog 1 (forBody (stmt 1 (ixB Try.prog))) (ixH own Y.length Y v (i : Int)) .ret (ixR own Y.length Y k) ∧ ixL v (Y.drop i) (i : Int) = k) ∨ (LoopSem Try.prog 1 (forBody (stmt 1 (ixB Try.prog))) (ixH own Y.length Y v (i : Int)) (.exit 0) (ixR own Y.length Y 0) ∧ ixL v (Y.drop i) (i : Int) = -1) := by
  intro c
  induction c with
  | zero =>
    intro i h1 h2
    right
    have hr := ixRnd own Y.length Y v i
    rw [show decide ((i : Int) < (Y.length : Int)) = false by simp; omega] at hr
    refine ⟨loop_leave (C := CCw Try.prog) okCw (f := 72) (B := 1) ixIn.2 hr (by simp), ?_⟩
    rw [List.drop_eq_nil_of_le (by omega)]
    rfl
  | succ c ih =>
    intro i h1 h2
    by_cases hi : i < Y.length
    · have hr := ixRnd own Y.length Y v i
      rw [show decide ((i : Int) < (Y.length : Int)) = true by simpa using hi, bd_ok' hi, show W ((i : Int) + 1) = ((i + 1 : Nat) : Int) by rw [W_in (by omega)]; simp] at hr
      simp only [gd_true] at hr
      have hd : Y.drop i = atP Y i :: Y.drop (i + 1) := by rw [List.drop_eq_getElem_cons hi, atP_get hi]
      rw [hd]
      simp only [ixL]
      cases hb : v.eqB (atP Y i) with
      | true =>
        rw [hb] at hr
        left
        exact ⟨(i : Int), loop_leave (C := CCw Try.prog) okCw (f := 72) (B := 1) ixIn.2 hr (by simp), rfl⟩
      | false =>
        rw [hb] at hr
        rcases ih (i + 1) (by omega) (by omega) with ⟨k, g1, g2⟩ | ⟨g1, g2⟩
        · exact Or.inl ⟨k, loop_next (C := CCw Try.prog) okCw (f := 72) (B := 1) (s2 := ixH own Y.length Y v ((i + 1 : Nat) : Int)) ixIn.2 hr (StLike.refl _) g1, by simpa using g2⟩
        · exact Or.inr ⟨loop_next (C := CCw Try.prog) okCw (f := 72) (B := 1) (s2 := ixH own Y.length Y v ((i + 1 : Nat) : Int)) ixIn.2 hr (StLike.refl _) g1, by simpa using g2⟩
    · right
      have hr := ixRnd own Y.length Y v i
      rw [show decide ((i : Int) < (Y.length : Int)) = false by simp; omega] at hr
      refine ⟨loop_leave (C := CCw Try.prog) okCw (f := 72) (B := 1) ixIn.2 hr (by simp), ?_⟩
      rw [List.drop_eq_nil_of_le (by omega)]
      rfl
/-- slices.Index. -/
theorem ixS (own : Bool) (Y : List P3) (v : P3) (hn : Y.length ≤ 1000000) : MemSem Try.prog 72 [.slice (some ⟨0, 0, some 0⟩) Y.length 4, v.v] [.rows own true 4 Y.length (ptRow Y)] (vI (ixL v Y 0)) [.rows own true 4 Y.length (ptRow Y)] := by
  have body0 : InBody ((CCw Try.prog).into 72 1) (ixB Try.prog) := Or.inl ⟨Try.f72, ixB Try.prog, Try.func72, ixB_eq, fun _ hx => hx⟩
  have cH : CodeSem Try.prog 1 (forHead (stmt 1 (ixB Try.prog))) (ix1 own Y.length Y v) .normal (ixH own Y.length Y v ((0 : Nat) : Int)) := end_rule (C := CCw Try.prog) okCw (f := 72) (B := 1) ixIn.1 (ixHead own Y.length Y v)
  refine body_mem (f := 72) Try.func72 ixB_eq (by kernel_rfl) (seg_rule (C := CCw Try.prog) okCw (f := 72) (B := 1) (k := 1) body0 (ixE1 own Y.length Y v) ?_) (ixRet own Y.length Y (ixL v Y 0))
  rcases ixLoop own Y v hn Y.length 0 (by omega) (by omega) with ⟨k, g1, g2⟩ | ⟨g1, g2⟩
  · simp only [List.drop_zero, Int.natCast_zero] at g2
    rw [g2]
    exact stmt_out ixHas (for_ret ixFor cH g1) (by simp)
  · simp only [List.drop_zero, Int.natCast_zero] at g2
    rw [g2]
    exact stmt_rule ixHas (for_rule ixFor cH g1) (end_rule (C := CCw Try.prog) okCw (f := 72) (B := 1) (bodyOf_in Try.func72 ixB_eq) (ixEnd own Y.length Y))
end Go.Proofs.Ytneaibkfglfpaaa


namespace Go.Proofs.Ytneaibkfglfpaaa
open Go Vx Go.RowKit
def ixF : List Value → Mem → Option (Ans (Value × Mem))
  | [.slice (some ⟨0, 0, some 0⟩) N 4, .agg co], [.rows own true 4 N2 row] => match ptCells co.toList with
    | some v => some (.br (Nat.beq N N2 && (okPts N row && Nat.ble N 1000000)) (.out (vI (ixL v (ptsOf N row) 0), [.rows own true 4 N (ptRow (ptsOf N row))])) .fail)
    | none => none
  | _, _ => none
theorem ixF_ok {args : List Value} {m : Mem} {ans : Ans (Value × Mem)} {v : Value} {m' : Mem} (h : ixF args m = some ans) (hr : ans.res = some (v, m')) : MemSem Try.prog 72 args m v m' := by
  unfold ixF at h
  split at h
  rotate_left
  · cases h
  rename_i N co own N2 row
  split at h
  rotate_left
  · cases h
  rename_i p hp
  simp only [Option.some.injEq] at h
  subst h
  rcases Ans.br_some hr with ⟨hc, hr1⟩ | ⟨_, hr1⟩
  rotate_left
  · simp [Ans.res] at hr1
  simp only [Bool.and_eq_true] at hc
  obtain ⟨c1, c2, c3⟩ := hc
  have c1 := beq_len c1
  subst c1
  have e1 : co = p.cells.toArray := by rw [← ptCells_spec hp]
  subst e1
  have hl := ptsOf_length N row
  simp only [Ans.res, Option.some.injEq, Prod.mk.injEq] at hr1
  obtain ⟨rfl, rfl⟩ := hr1
  have := ixS own (ptsOf N row) p (by rw [hl]; exact Nat.le_of_ble_eq_true c3)
  rw [hl] at this
  exact this.like ⟨.rows (pts_like c2), trivial⟩
def Cix (P : Program) : Cx := ((((CCw P).addF 61 imF).addF 62 srF).addF 64 cmF).addF 72 ixF
theorem okix : CxOk (Cix Try.prog) := Cx.addF_ok (Cx.addF_ok (Cx.addF_ok (Cx.addF_ok okCw fun _ _ _ _ _ h hr => imF_ok h hr) fun _ _ _ _ _ h hr => srF_ok h hr) fun _ _ _ _ _ h hr => cmF_ok h hr) fun _ _ _ _ _ h hr => ixF_ok h hr
def ixT (n : Nat) (Y : List P3) : Bool := Nat.beq n n && (okPts n (ptRow Y) && Nat.ble n 1000000)
theorem ixT_ok {Y : List P3} (h : Y.length ≤ 1000000) : ixT Y.length Y = true := by
  unfold ixT
  rw [Nat.beq_refl, okPts_ptRow, Nat.ble_eq_true_of_le h]
  rfl
def cnB (v : P3) (Y : List P3) : Bool := decide (ixL v Y 0 ≥ 0)
theorem cnE (own : Bool) (n : Nat) (Y : List P3) (v : P3) : exT (((Cix Try.prog).lend 72).at 74) 60 Try.f74 [.slice (some ⟨0, 0, some 0⟩) n 4, v.v] [.rows own true 4 n (ptRow Y)] [.fix 0] =
    gd (lk n) (gd (ixT n Y) (some (.bool (cnB v (ptsOf n (ptRow Y))), [.rows own true 4 n (ptRow Y)]))) := by kernel_rfl
theorem cnS (own : Bool) (Y : List P3) (v : P3) (hn : Y.length ≤ 1000000) : MemSem Try.prog 74 [.slice (some ⟨0, 0, some 0⟩) Y.length 4, v.v] [.rows own true 4 Y.length (ptRow Y)] (.bool (cnB v Y)) [.rows own true 4 Y.length (ptRow Y)] := by
  have hE := cnE own Y.length Y v
  rw [lk_true, ixT_ok hn, ptsOf_row rfl] at hE
  exact exT_ok (Cx.lend_ok okix 72) Try.func74 (by kernel_rfl) hE
def cnF : List Value → Mem → Option (Ans (Value × Mem))
  | [.slice (some ⟨0, 0, some 0⟩) N 4, .agg co], [.rows own true 4 N2 row] => match ptCells co.toList with
    | some v => some (.br (Nat.beq N N2 && (okPts N row && Nat.ble N 1000000)) (.out (.bool (cnB v (ptsOf N row)), [.rows own true 4 N (ptRow (ptsOf N row))])) .fail)
    | none => none
  | _, _ => none
theorem cnF_ok {args : List Value} {m : Mem} {ans : Ans (Value × Mem)} {v : Value} {m' : Mem} (h : cnF args m = some ans) (hr : ans.res = some (v, m')) : MemSem Try.prog 74 args m v m' := by
  unfold cnF at h
  split at h
  rotate_left
  · cases h
  rename_i N co own N2 row
  split at h
  rotate_left
  · cases h
  rename_i p hp
  simp only [Option.some.injEq] at h
  subst h
  rcases Ans.br_some hr with ⟨hc, hr1⟩ | ⟨_, hr1⟩
  rotate_left
  · simp [Ans.res] at hr1
  simp only [Bool.and_eq_true] at hc
  obtain ⟨c1, c2, c3⟩ := hc
  have c1 := beq_len c1
  subst c1
  have e1 : co = p.cells.toArray := by rw [← ptCells_spec hp]
  subst e1
  have hl := ptsOf_length N row
  simp only [Ans.res, Option.some.injEq, Prod.mk.injEq] at hr1
  obtain ⟨rfl, rfl⟩ := hr1
  have := cnS own (ptsOf N row) p (by rw [hl]; exact Nat.le_of_ble_eq_true c3)
  rw [hl] at this
  exact this.like ⟨.rows (pts_like c2), trivial⟩
def Csg (P : Program) : Cx := (((Cix P).addF 74 cnF).good 61 [true, false]).looks 74 [true]
theorem oksg : CxOk (Csg Try.prog) := Cx.looks_ok (Cx.good_ok (Cx.addF_ok okix fun _ _ _ _ _ h hr => cnF_ok h hr) _ _) _ _
def Cse (P : Program) : Cx := (((Cix P).addF 74 cnF).road 61 [true, true]).looks 74 [true]
theorem okse : CxOk (Cse Try.prog) := Cx.looks_ok (Cx.road_ok (Cx.addF_ok okix fun _ _ _ _ _ h hr => cnF_ok h hr) _ _) _ _
def bE (b : Bool) (e : Int) : Value := .tuple #[.bool b, vI e]
theorem smE1 (own : Bool) (n : Nat) (xs : List O3) (p q : P3) : exT ((Csg Try.prog).at 34) 60 Try.f34 [.slice (some ⟨0, 0, some 0⟩) n 12, p.v, q.v] [.rows own true 12 n (opRow xs)] [.fix 0] =
    gd (lk n) (gd (oT n (opRow xs)) (gn (leastN (chkI (opsOf n (opRow xs))) p.ckP != 0) (match leastN 0 q.ckP != 0 with
      | true => some (bE false (leastN 0 q.ckP), [.rows own true 12 n (opRow xs)])
      | false => match p.m != q.m with
        | true => some (bE false 6, [.rows own true 12 n (opRow xs)])
        | false => gd (lk n) (gd (ixT n (imgs (opsOf n (opRow xs)) p)) (some (bE (cnB q (ptsOf n (ptRow (imgs (opsOf n (opRow xs)) p)))) 0, [.rows own true 12 n (opRow xs)])))))) := by kernel_rfl
theorem smE2 (own : Bool) (n : Nat) (xs : List O3) (p q : P3) : exT ((Cse Try.prog).at 34) 60 Try.f34 [.slice (some ⟨0, 0, some 0⟩) n 12, p.v, q.v] [.rows own true 12 n (opRow xs)] [.fix 0] =
    gd (lk n) (gd (oT n (opRow xs)) (gd (leastN (chkI (opsOf n (opRow xs))) p.ckP != 0) (match leastN (leastN (chkI (opsOf n (opRow xs))) p.ckP) q.ckP != 0 with
      | true => some (bE false (leastN (leastN (chkI (opsOf n (opRow xs))) p.ckP) q.ckP), [.rows own true 12 n (opRow xs)])
      | false => match p.m != q.m with
        | true => some (bE false 6, [.rows own true 12 n (opRow xs)])
        | false => none))) := by kernel_rfl
def samV (X : List O3) (p q : P3) : Bool := bif leastN (leastN (chkI X) p.ckP) q.ckP == 0 && p.m == q.m then cnB q (imgs X p) else false
def samE (X : List O3) (p q : P3) : Int := bif leastN (leastN (chkI X) p.ckP) q.ckP == 0 then (bif p.m == q.m then 0 else 6) else leastN (leastN (chkI X) p.ckP) q.ckP
theorem samS (own : Bool) (X : List O3) (p q : P3) : MemSem Try.prog 34 [.slice (some ⟨0, 0, some 0⟩) X.length 12, p.v, q.v] [.rows own true 12 X.length (opRow X)] (bE (samV X p q) (samE X p q)) [.rows own true 12 X.length (opRow X)] := by
  have to : oT X.length (opRow X) = true := by unfold oT; rw [Nat.beq_refl, okOps_opRow]; rfl
  unfold samV samE
  by_cases h1 : leastN (chkI X) p.ckP = 0
  · have hE := smE1 own X.length X p q
    have hl := (chk_len (leastN_zero.1 h1).1).1
    have hi : (imgs X p).length = X.length := by simp [imgs]
    have ti : ixT X.length (imgs X p) = true := by rw [← hi]; exact ixT_ok (by omega)
    rw [lk_true, to, opsOf_row rfl, ti, ptsOf_row hi, show (leastN (chkI X) p.ckP != 0) = false by simpa using h1] at hE
    simp only [gd_true, gn_false] at hE
    rw [h1]
    by_cases h2 : leastN 0 q.ckP = 0
    · rw [show (leastN 0 q.ckP != 0) = false by simpa using h2] at hE
      rw [h2]
      by_cases h3 : p.m = q.m
      · rw [show (p.m != q.m) = false by simpa using h3] at hE
        rw [show (p.m == q.m) = true by simpa using h3]
        exact exT_ok oksg Try.func34 (by kernel_rfl) hE
      · rw [show (p.m != q.m) = true by simpa using h3] at hE
        rw [show (p.m == q.m) = false by simpa using h3]
        exact exT_ok oksg Try.func34 (by kernel_rfl) hE
    · rw [show (leastN 0 q.ckP != 0) = true by simpa using h2] at hE
      rw [show (leastN 0 q.ckP == 0) = false by simpa using h2]
      exact exT_ok oksg Try.func34 (by kernel_rfl) hE
  · have hE := smE2 own X.length X p q
    have h2 : leastN (leastN (chkI X) p.ckP) q.ckP ≠ 0 := fun h => h1 (leastN_zero.1 h).1
    rw [lk_true, to, opsOf_row rfl, show (leastN (chkI X) p.ckP != 0) = true by simpa using h1, show (leastN (leastN (chkI X) p.ckP) q.ckP != 0) = true by simpa using h2] at hE
    rw [show (leastN (leastN (chkI X) p.ckP) q.ckP == 0) = false by simpa using h2]
    exact exT_ok okse Try.func34 (by kernel_rfl) hE
end Go.Proofs.Ytneaibkfglfpaaa


namespace Go.Proofs.Ytneaibkfglfpaaa
open Go Vx
theorem mem_cpF : ∀ (l : List P3) (p q : P3), (q = p ∨ q ∈ cpF p l) ↔ (q = p ∨ q ∈ l)
  | [], _, _ => Iff.rfl
  | x :: l, p, q => by
    simp only [cpF]
    cases hx : x.eqB p with
    | true =>
      have := P3.eqB_iff'.1 hx
      subst this
      simp only [List.mem_cons]
      rw [mem_cpF l x q]
      constructor
      · rintro (h | h)
        · exact Or.inl h
        · exact Or.inr (Or.inr h)
      · rintro (h | h | h)
        · exact Or.inl h
        · exact Or.inl h
        · exact Or.inr h
    | false =>
      simp only [List.mem_cons]
      rw [mem_cpF l x q]
theorem mem_cpct {l : List P3} {q : P3} : q ∈ cpct l ↔ q ∈ l := by
  cases l with
  | nil => rfl
  | cons x l => simp only [cpct, List.mem_cons]; exact mem_cpF l x q
theorem lexI_lt_le {a b c : List Int} (h1 : a.length = b.length) (h2 : b.length = c.length) (h3 : lexI a b < 0) (h4 : lexI b c ≤ 0) : lexI a c < 0 := by
  have h5 := lexI_trans h1 h2 (by omega) h4
  by_cases h0 : lexI a c = 0
  · have e := (lexI_zero (h1.trans h2)).1 h0
    subst e
    have := lexI_neg a b
    omega
  · omega
def StrictP (l : List P3) : Prop := l.Pairwise fun a b => lexI (pkey a) (pkey b) < 0
theorem pkey_len (a b : P3) : (pkey a).length = (pkey b).length := rfl
theorem pkey_inj {a b : P3} (hm : a.m = b.m) (h : pkey a = pkey b) : a = b := by
  obtain ⟨m, x, y, z⟩ := a
  obtain ⟨m2, x2, y2, z2⟩ := b
  simp only [pkey, V3.l, List.cons.injEq, and_true] at h
  simp only at hm
  obtain ⟨rfl, rfl, rfl⟩ := h
  subst hm
  rfl
theorem plt_irrefl (a : P3) : ¬ lexI (pkey a) (pkey a) < 0 := by
  have := (lexI_zero (l := pkey a) (m := pkey a) rfl).2 rfl
  omega
theorem cpF_strict {M : Int} : ∀ (l : List P3) (p : P3), SortedK pkey (p :: l) → (∀ x ∈ p :: l, x.m = M) → StrictP (p :: cpF p l)
  | [], p, _, _ => by simp [cpF, StrictP]
  | x :: l, p, h, hm => by
    unfold SortedK at h
    rw [List.pairwise_cons] at h
    obtain ⟨h1, h2⟩ := h
    simp only [cpF]
    cases hx : x.eqB p with
    | true =>
      have := P3.eqB_iff'.1 hx
      subst this
      exact cpF_strict l x h2 fun y hy => hm y (by simp only [List.mem_cons] at hy ⊢; rcases hy with h | h <;> simp [h])
    | false =>
      have ih := cpF_strict l x h2 fun y hy => hm y (List.mem_cons_of_mem _ hy)
      unfold StrictP
      rw [List.pairwise_cons]
      refine ⟨fun y hy => ?_, ih⟩
      have hpx : lexI (pkey p) (pkey x) < 0 := by
        have hle := h1 x (by simp)
        by_cases h0 : lexI (pkey p) (pkey x) = 0
        · have e := pkey_inj ((hm p (by simp)).trans (hm x (by simp)).symm) ((lexI_zero (pkey_len p x)).1 h0)
          rw [e, P3.eqB_iff'.2 rfl] at hx
          cases hx
        · omega
      rcases List.mem_cons.1 hy with rfl | hy
      · exact hpx
      · have hxy := (List.pairwise_cons.1 ih).1 y hy
        exact lexI_lt_le (pkey_len p x) (pkey_len x y) hpx (by omega)
theorem cpct_strict {M : Int} {l : List P3} (h : SortedK pkey l) (hm : ∀ x ∈ l, x.m = M) : StrictP (cpct l) := by
  cases l with
  | nil => exact List.Pairwise.nil
  | cons x l => exact cpF_strict l x h hm
theorem strictP_nodup {l : List P3} (h : StrictP l) : l.Nodup := h.imp fun {a b} hab e => by subst e; exact plt_irrefl a hab
theorem strict_ext : ∀ {l m : List P3}, StrictP l → StrictP m → (∀ q, q ∈ l ↔ q ∈ m) → l = m
  | [], [], _, _, _ => rfl
  | [], y :: m, _, _, h => by have := (h y).2 (by simp); cases this
  | x :: l, [], _, _, h => by have := (h x).1 (by simp); cases this
  | x :: l, y :: m, hl, hm, h => by
    unfold StrictP at hl hm
    rw [List.pairwise_cons] at hl hm
    have hxy : x = y := by
      rcases List.mem_cons.1 ((h x).1 (by simp)) with e | hx
      · exact e
      · rcases List.mem_cons.1 ((h y).2 (by simp)) with e | hy
        · exact e.symm
        · have h1 := hm.1 x hx
          have h2 := hl.1 y hy
          have h3 := lexI_neg (pkey x) (pkey y)
          omega
    subst hxy
    have := strict_ext (l := l) (m := m) hl.2 hm.2 fun q => by
      constructor
      · intro hq
        rcases List.mem_cons.1 ((h q).1 (List.mem_cons_of_mem _ hq)) with e | hq2
        · subst e; exact absurd (hl.1 q hq) (plt_irrefl q)
        · exact hq2
      · intro hq
        rcases List.mem_cons.1 ((h q).2 (List.mem_cons_of_mem _ hq)) with e | hq2
        · subst e; exact absurd (hm.1 q hq) (plt_irrefl q)
        · exact hq2
    rw [this]
theorem Vx.P3.form_md {p : P3} (h : p.form = true) : p.x.md p.m = p.x := by
  unfold P3.form at h
  rw [Bool.and_eq_true] at h
  exact (V3.eqB_iff.1 h.2).symm
theorem Vx.O3.one_app {p : P3} (h : p.form = true) : O3.one.app p = p := by
  have e : O3.one.app p = ⟨p.m, p.x.md p.m⟩ := by
    unfold O3.app O3.one
    simp only [M3.app_one]
    congr 2
    unfold V3.smul V3.zero V3.add
    simp
  rw [e, P3.form_md h]
/-- Where a group sends a place: unlike places, in order. -/
def orbL (X : List O3) (p : P3) : List P3 := cpct (sortPt' (imgs X p))
theorem mem_imgs {X : List O3} {p q : P3} : q ∈ imgs X p ↔ ∃ o ∈ X, o.app p = q := by unfold imgs; rw [List.mem_map]
theorem mem_orbL {X : List O3} {p q : P3} : q ∈ orbL X p ↔ ∃ o ∈ X, o.app p = q := by
  unfold orbL sortPt'
  rw [mem_cpct, (sortK_perm pkey _).mem_iff, mem_imgs]
theorem imgs_m {X : List O3} {p q : P3} (h : q ∈ imgs X p) : q.m = p.m := by
  obtain ⟨o, _, rfl⟩ := mem_imgs.1 h
  rfl
theorem imgs_form {X : List O3} {p q : P3} (hp : p.form = true) (h : q ∈ imgs X p) : q.form = true := by
  obtain ⟨o, _, rfl⟩ := mem_imgs.1 h
  exact O3.app_form hp
theorem orbL_strict (X : List O3) (p : P3) : StrictP (orbL X p) := cpct_strict (M := p.m) (sortK_sorted pkey (c := 3) (fun _ => rfl) _) fun _ hx => imgs_m ((sortK_perm pkey _).mem_iff.1 hx)
theorem cpF_le : ∀ (l : List P3) (p : P3), (cpF p l).length ≤ l.length
  | [], _ => Nat.le_refl _
  | x :: l, p => by
    simp only [cpF]
    cases x.eqB p with
    | true => have := cpF_le l p; simp only [List.length_cons]; omega
    | false => have := cpF_le l x; simp only [List.length_cons]; omega
theorem cpct_le (l : List P3) : (cpct l).length ≤ l.length := by
  cases l with
  | nil => exact Nat.le_refl _
  | cons x l => have := cpF_le l x; simp only [cpct, List.length_cons]; omega
theorem orbL_len (X : List O3) (p : P3) : (orbL X p).length ≤ X.length := by
  have h := cpct_le (sortPt' (imgs X p))
  unfold orbL
  rw [show (sortPt' (imgs X p)).length = X.length by unfold sortPt'; rw [sortK_len]; simp [imgs]] at h
  exact h
theorem act_back {X : List O3} (hX : Grp X) {o : O3} (ho : o ∈ X) : ∃ b ∈ X, ∀ p : P3, p.form = true → b.app (o.app p) = p := by
  have hi : ∀ h ∈ X, h.Inv := fun h hh => O3.inv_ck (hX.ck h hh)
  obtain ⟨b, hb, e1⟩ := grp_undo hX.nd hi hX.one hX.mul ho
  obtain ⟨c, _, e2⟩ := grp_undo hX.nd hi hX.one hX.mul hb
  have f1 : ∀ p : P3, p.form = true → o.app (b.app p) = p := fun p hp => by rw [← O3.app_mul o b hp, e1, O3.one_app hp]
  have f2 : ∀ p : P3, p.form = true → b.app (c.app p) = p := fun p hp => by rw [← O3.app_mul b c hp, e2, O3.one_app hp]
  refine ⟨b, hb, fun p hp => ?_⟩
  have h3 : o.app p = c.app p := by
    have := f1 (c.app p) (O3.app_form hp)
    rw [f2 p hp] at this
    exact this
  rw [h3, f2 p hp]
theorem orb_self {X : List O3} (hX : Grp X) {p : P3} (hp : p.form = true) : p ∈ imgs X p := mem_imgs.2 ⟨O3.one, hX.one, O3.one_app hp⟩
theorem orb_trans {X : List O3} (hX : Grp X) {p q : P3} (hp : p.form = true) (h : q ∈ imgs X p) (r : P3) : r ∈ imgs X q ↔ r ∈ imgs X p := by
  obtain ⟨o, ho, rfl⟩ := mem_imgs.1 h
  rw [mem_imgs, mem_imgs]
  constructor
  · rintro ⟨a, ha, rfl⟩
    exact ⟨a.mul o, hX.mul a ha o ho, O3.app_mul a o hp⟩
  · rintro ⟨a, ha, rfl⟩
    obtain ⟨b, hb, hbk⟩ := act_back hX ho
    refine ⟨a.mul b, hX.mul a ha b hb, ?_⟩
    rw [O3.app_mul a b (O3.app_form hp), hbk p hp]
theorem orb_one {X : List O3} (hX : Grp X) {p q : P3} (hp : p.form = true) (h : q ∈ imgs X p) : orbL X q = orbL X p :=
  strict_ext (orbL_strict X q) (orbL_strict X p) fun r => by
    rw [mem_orbL, mem_orbL, ← mem_imgs, ← mem_imgs]
    exact orb_trans hX hp h r
theorem ixL_spec (v : P3) : ∀ (l : List P3) (i : Int), 0 ≤ i → (0 ≤ ixL v l i ↔ v ∈ l)
  | [], i, _ => by simp [ixL]
  | x :: l, i, hi => by
    simp only [ixL]
    cases hb : v.eqB x with
    | true =>
      have := P3.eqB_iff'.1 hb
      subst this
      simp [hi]
    | false =>
      have hne : v ≠ x := fun e => by rw [e, P3.eqB_iff'.2 rfl] at hb; cases hb
      simp only
      rw [ixL_spec v l (i + 1) (by omega), List.mem_cons]
      simp [hne]
theorem cnB_iff {v : P3} {Y : List P3} : cnB v Y = true ↔ v ∈ Y := by
  unfold cnB
  rw [decide_eq_true_iff]
  exact ixL_spec v Y 0 (Int.le_refl _)
theorem ckP_cases (p : P3) : p.ckP = 0 ∨ p.ckP = 3 := by unfold P3.ckP; cases p.form <;> simp
end Go.Proofs.Ytneaibkfglfpaaa

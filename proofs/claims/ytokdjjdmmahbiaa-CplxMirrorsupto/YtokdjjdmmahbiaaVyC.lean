/-
  Arguments that are integers, bools, arrays and structs of these: what a reading says of their cells; tables of functions. Nothing here is trusted.
-/
import Derived.Test.YtokdjjdmmahbiaaVyB
import Derived.OpenShut
import Derived.Carry
import Derived.ChangeOld
namespace Go.Proofs.Ytokdjjdmmahbiaa.Vx
open Go Go.RowKit

def leafFields (P : Program) (sub : TypeId → Option (List (Option IntKind))) : List Field → List (Option IntKind) → Option (List (Option IntKind))
  | [], as => some as
  | f :: fs, as => match sub f.type with
    | some ls => if f.offset = as.length ∧ P.cellsOf f.type = ls.length then leafFields P sub fs (as ++ ls) else none
    | none => none

/-- The cells of a type: an integer of a kind, or a bool. -/
def leafs (P : Program) : Nat → TypeId → Option (List (Option IntKind))
  | 0, _ => none
  | d + 1, t => match P.underlying t with
    | some .bool => some [none]
    | some (.int k) => some [some k]
    | some (.array n e) => match leafs P d e with
      | some ls => if P.cellsOf e = ls.length ∧ P.cellsOf t = n * ls.length then some (List.replicate n ls).flatten else none
      | none => none
    | some (.struct fs) => match leafFields P (leafs P d) fs.toList [] with
      | some ls => if P.cellsOf t = ls.length then some ls else none
      | none => none
    | _ => none

def LeafOk : Option IntKind → Value → Prop
  | some k, v => ∃ n, v = .int k n ∧ (Lit.int k n).wf = true
  | none, v => ∃ b, v = .bool b

def Leaves : List (Option IntKind) → List Value → Prop
  | [], [] => True
  | l :: ls, v :: vs => LeafOk l v ∧ Leaves ls vs
  | _, _ => False

theorem Leaves.append : ∀ {ls ms : List (Option IntKind)} {vs us : List Value}, Leaves ls vs → Leaves ms us → Leaves (ls ++ ms) (vs ++ us)
  | [], _, [], _, _, h => h
  | _ :: _, _, _ :: _, _, h, h' => ⟨h.1, Leaves.append h.2 h'⟩
  | [], _, _ :: _, _, h, _ => h.elim
  | _ :: _, _, [], _, h, _ => h.elim

theorem leaves_rows {ls : List (Option IntKind)} : ∀ (n : Nat) (cs : List Value), cs.length = n * ls.length → (∀ i, i < n → Leaves ls ((cs.drop (i * ls.length)).take ls.length)) → Leaves (List.replicate n ls).flatten cs
  | 0, cs, hl, _ => by
    rw [Nat.zero_mul] at hl
    rw [List.eq_nil_of_length_eq_zero hl]
    trivial
  | n + 1, cs, hl, h => by
    rw [List.replicate_succ, List.flatten_cons]
    have h0 := h 0 (by omega)
    simp only [Nat.zero_mul, List.drop_zero] at h0
    rw [show cs = cs.take ls.length ++ cs.drop ls.length from (List.take_append_drop _ _).symm]
    rw [Nat.add_mul, Nat.one_mul] at hl
    refine Leaves.append h0 (leaves_rows n _ (by rw [List.length_drop]; omega) fun i hi => ?_)
    have := h (i + 1) (by omega)
    rw [List.drop_drop]
    rw [Nat.add_mul, Nat.one_mul, Nat.add_comm] at this
    exact this

section
variable {H : Type} {enc : TypeId × Value → H} {P : Program} {w : World} {base : Nat} {spare : Nat → Bool} {held : Bool}

theorem leafs_read : ∀ (d : Nat) (t : TypeId) (ls : List (Option IntKind)), leafs P d t = some ls → ∀ (fuel : Nat) (cs : List Value) (x : DataW H × List MemPlace), DataW.trod enc P w base spare held fuel t cs = some x → Leaves ls cs
  | 0, _, _, h, _, _, _, _ => by simp [leafs] at h
  | d + 1, t, ls, h, 0, cs, x, hx => by simp [DataW.trod] at hx
  | d + 1, t, ls, h, fuel + 1, cs, x, hx => by
    unfold leafs at h
    cases hu : P.underlying t with
    | none => simp [hu] at h
    | some kd =>
      simp only [hu] at h
      cases kd with
      | bool =>
        simp only [Option.some.injEq] at h
        subst h
        unfold DataW.trod at hx
        rw [hu] at hx
        split at hx <;> simp_all [Leaves, LeafOk]
      | int k =>
        simp only [Option.some.injEq] at h
        subst h
        unfold DataW.trod at hx
        rw [hu] at hx
        split at hx <;> simp_all [Leaves, LeafOk]
      | array n e =>
        simp only at h
        cases he : leafs P d e with
        | none => simp [he] at h
        | some ms =>
          simp only [he] at h
          split at h
          · rename_i hc
            simp only [Option.some.injEq] at h
            subst h
            obtain ⟨xs, m, hm, _, hl, hn, hg⟩ := DataW.trod_array hu hx
            refine leaves_rows n cs (by rw [hl, hc.2]) fun i hi => ?_
            have := hg i hi
            rw [List.getElem?_eq_getElem (by omega)] at this
            rw [← hc.1]
            exact leafs_read d e ms he m _ _ this
          · cases h
      | struct fs =>
        simp only at h
        unfold DataW.trod at hx
        rw [hu] at hx
        have hx' : cs.length = P.cellsOf t ∧ ∃ xs, (fs.toList.mapM fun f => DataW.trod enc P w base spare held fuel f.type ((cs.drop f.offset).take (P.cellsOf f.type))) = some xs := by
          split at hx <;> simp_all
          obtain ⟨h1, xs, h2, _⟩ := hx
          exact ⟨xs, h2⟩
        obtain ⟨hlen, xs, hxs⟩ := hx'
        cases hlf : leafFields P (leafs P d) fs.toList [] with
        | none => simp [hlf] at h
        | some rs =>
          simp only [hlf] at h
          split at h
          · rename_i hct
            simp only [Option.some.injEq] at h
            subst h
            have key : ∀ (gs : List Field) (as : List (Option IntKind)) (xs : List (DataW H × List MemPlace)), gs.mapM (fun f => DataW.trod enc P w base spare held fuel f.type ((cs.drop f.offset).take (P.cellsOf f.type))) = some xs →
                leafFields P (leafs P d) gs as = some rs → Leaves as (cs.take as.length) → Leaves rs (cs.take rs.length) := by
              intro gs
              induction gs with
              | nil => intro as xs _ h1 h2; simp [leafFields] at h1; subst h1; exact h2
              | cons f gs ih =>
                intro as xs hm h1 h2
                rw [List.mapM_cons] at hm
                simp only [bind, Option.bind_eq_some_iff, pure, Option.some.injEq] at hm
                obtain ⟨y, hy, ys, hys, _⟩ := hm
                simp only [leafFields] at h1
                cases hf : leafs P d f.type with
                | none => simp [hf] at h1
                | some ms =>
                  simp only [hf] at h1
                  split at h1
                  · rename_i hc
                    have := leafs_read d f.type ms hf fuel _ _ hy
                    refine ih (as ++ ms) ys hys h1 ?_
                    rw [List.length_append, List.take_add]
                    rw [hc.1, hc.2] at this
                    exact Leaves.append h2 this
                  · cases h1
            have := key fs.toList [] xs hxs hlf trivial
            rw [List.take_of_length_le (by omega)] at this
            exact this
          · cases h
      | _ => simp at h
end

/-- A row of integers of one kind. -/
def intsK (k : IntKind) (l : List Int) : List Value := l.map (.int k)

theorem leaves_ints {k : IntKind} : ∀ (n : Nat) (cs : List Value), Leaves (List.replicate n (some k)) cs → ∃ l : List Int, l.length = n ∧ cs = intsK k l ∧ ∀ x ∈ l, (Lit.int k x).wf = true
  | 0, [], _ => ⟨[], rfl, rfl, fun _ h => by cases h⟩
  | 0, _ :: _, h => h.elim
  | n + 1, [], h => h.elim
  | n + 1, c :: cs, h => by
    obtain ⟨⟨x, rfl, hx⟩, h2⟩ := h
    obtain ⟨l, hl, rfl, hw⟩ := leaves_ints n cs h2
    refine ⟨x :: l, by simp [hl], rfl, fun y hy => ?_⟩
    rcases List.mem_cons.1 hy with rfl | hy
    · exact hx
    · exact hw y hy

section
variable {H : Type} {enc : TypeId × Value → H} {P : Program} {w : World} {base : Nat} {spare : Nat → Bool} {held : Bool}
/-- An array or a struct of integers of one kind, as an argument. -/
theorem open_rowK {t : TypeId} {n : Nat} {k : IntKind} {r : Reach} {b0 : Nat} {v : Value} {d : DataW H} {p : List MemPlace} (ha : isAggT P t = some true) (hl : leafs P 9 t = some (List.replicate n (some k))) (hv : Value.okWide P w r b0 t v)
    (h : DataW.Trod enc P w base spare held t v d p) : ∃ l : List Int, l.length = n ∧ v = .agg (intsK k l).toArray ∧ ∀ x ∈ l, (Lit.int k x).wf = true := by
  obtain ⟨fuel, hf⟩ := h
  obtain ⟨l, h1, h2, h3⟩ := leaves_ints n _ (leafs_read 9 t _ hl fuel _ _ hf)
  refine ⟨l, h1, ?_, h3⟩
  have : ∃ cs, v = .agg cs := by
    unfold Value.okWide at hv
    unfold isAggT at ha
    cases hu : P.underlying t with
    | none => simp [hu] at ha
    | some kd =>
      simp only [hu] at ha hv
      cases kd <;> simp at ha
      · obtain ⟨cs, h, _⟩ := hv; exact ⟨cs, h⟩
      · obtain ⟨cs, h, _⟩ := hv; exact ⟨cs, h⟩
  obtain ⟨cs, rfl⟩ := this
  simp only [Value.cells] at h2
  rw [← h2]
end

/-! Tables of functions. -/
def intsOf (k : IntKind) : Nat → List Value → Option (List Int)
  | 0, [] => some []
  | n + 1, .int k' x :: vs => if k' = k then match intsOf k n vs with
      | some l => some (x :: l)
      | none => none
    else none
  | _, _ => none

def unpack : List (Option Nat) → List Value → Option (List Int)
  | [], [] => some []
  | none :: sh, .int k x :: vs => if k = .i64 then match unpack sh vs with
      | some r => some (x :: r)
      | none => none
    else none
  | some n :: sh, .agg cs :: vs => match intsOf .i64 n cs.toList with
    | some l => match unpack sh vs with
      | some r => some (l ++ r)
      | none => none
    | none => none
  | _, _ => none

def pack : List (Option Nat) → List Int → List Value
  | [], _ => []
  | none :: sh, l => match l with
    | x :: l => .int .i64 x :: pack sh l
    | [] => []
  | some n :: sh, l => .agg (intsK .i64 (l.take n)).toArray :: pack sh (l.drop n)

def total : List (Option Nat) → Nat
  | [] => 0
  | none :: sh => 1 + total sh
  | some n :: sh => n + total sh

theorem intsOf_spec {k : IntKind} : ∀ (n : Nat) (vs : List Value) (l : List Int), intsOf k n vs = some l → vs = intsK k l ∧ l.length = n
  | 0, [], l, h => by simp [intsOf] at h; subst h; exact ⟨rfl, rfl⟩
  | 0, _ :: _, l, h => by simp [intsOf] at h
  | n + 1, [], l, h => by simp [intsOf] at h
  | n + 1, v :: vs, l, h => by
    cases v with
    | int k' x =>
      simp only [intsOf] at h
      split at h
      · rename_i hk
        subst hk
        cases hr : intsOf k' n vs with
        | none => simp [hr] at h
        | some r =>
          simp only [hr, Option.some.injEq] at h
          subst h
          obtain ⟨rfl, h2⟩ := intsOf_spec n vs r hr
          exact ⟨rfl, by simp [h2]⟩
      · cases h
    | _ => simp [intsOf] at h

theorem unpack_spec : ∀ (sh : List (Option Nat)) (vs : List Value) (l : List Int), unpack sh vs = some l → vs = pack sh l ∧ l.length = total sh
  | [], [], l, h => by simp [unpack] at h; subst h; exact ⟨rfl, rfl⟩
  | [], _ :: _, l, h => by simp [unpack] at h
  | none :: sh, [], l, h => by simp [unpack] at h
  | some n :: sh, [], l, h => by simp [unpack] at h
  | none :: sh, v :: vs, l, h => by
    cases v with
    | int k x =>
      simp only [unpack] at h
      split at h
      · rename_i hk
        subst hk
        cases hr : unpack sh vs with
        | none => simp [hr] at h
        | some r =>
          simp only [hr, Option.some.injEq] at h
          subst h
          obtain ⟨h1, h2⟩ := unpack_spec sh vs r hr
          exact ⟨by simp only [pack]; rw [← h1], by simp [total, h2]; omega⟩
      · cases h
    | _ => simp [unpack] at h
  | some n :: sh, v :: vs, l, h => by
    cases v with
    | agg cs =>
      simp only [unpack] at h
      cases hi : intsOf .i64 n cs.toList with
      | none => simp [hi] at h
      | some a =>
        simp only [hi] at h
        cases hr : unpack sh vs with
        | none => simp [hr] at h
        | some r =>
          simp only [hr, Option.some.injEq] at h
          subst h
          obtain ⟨h1, h2⟩ := unpack_spec sh vs r hr
          obtain ⟨h3, h4⟩ := intsOf_spec n _ a hi
          refine ⟨?_, by simp [total, h2, h4]⟩
          simp only [pack]
          rw [← h4, List.take_left', List.drop_left', ← h1, ← h3]
          · rfl
          · rfl
    | _ => simp [unpack] at h

theorem plain_ints (k : IntKind) (l : List Int) : plain (.agg (intsK k l).toArray) = true := by
  show allL plain0 (intsK k l) = true
  refine allL_iff.2 fun x hx => ?_
  obtain ⟨n, _, rfl⟩ := List.mem_map.1 hx
  rfl
theorem pack_plain : ∀ (sh : List (Option Nat)) (l : List Int), ∀ x ∈ pack sh l, plain x = true
  | [], _, x, h => by cases h
  | none :: sh, [], x, h => by cases h
  | none :: sh, y :: l, x, h => by
    simp only [pack] at h
    rcases List.mem_cons.1 h with rfl | h
    · rfl
    · exact pack_plain sh l x h
  | some n :: sh, l, x, h => by
    simp only [pack] at h
    rcases List.mem_cons.1 h with rfl | h
    · exact plain_ints _ _
    · exact pack_plain sh _ x h

def okFunc (P : Program) (f : FuncId) : Bool :=
  match P.funcs[f]? with
  | some fn => !(fn.name == "runtime.NumGoroutine") && fn.body.isSome
  | none => false
theorem okFunc_spec {P : Program} {f : FuncId} (h : okFunc P f = true) : ∃ fn, P.funcs[f]? = some fn ∧ (fn.name == "runtime.NumGoroutine") = false ∧ fn.body.isNone = false := by
  unfold okFunc at h
  split at h
  · rename_i fn hf
    simp only [Bool.and_eq_true, Bool.not_eq_true'] at h
    refine ⟨fn, hf, h.1, ?_⟩
    have := h.2
    cases hb : fn.body with
    | none => rw [hb] at this; cases this
    | some b => rfl
  · cases h
theorem okFunc_name {P : Program} {f : FuncId} {fn : Func} (h : okFunc P f = true) (hf : P.funcs[f]? = some fn) : (fn.name == "runtime.NumGoroutine") = false := by
  obtain ⟨fn', h1, h2, _⟩ := okFunc_spec h
  rw [hf] at h1
  simp only [Option.some.injEq] at h1
  subst h1
  exact h2

/-- A function without memory, told of any values. -/
def Cx.addR (C : Cx) (f : FuncId) (F : List Value → Option (Bool × Value)) : Cx :=
  { C with tbl := fun g args => match Nat.beq g f with
    | true => F args
    | false => C.tbl g args }
/-- A function without memory, told of numbers. -/
def Cx.addD (C : Cx) (f : FuncId) (sh : List (Option Nat)) (F : List Int → Option (Bool × Value)) : Cx :=
  { C with tbl := fun g args => match Nat.beq g f with
    | true => match unpack sh args with
      | some l => F l
      | none => none
    | false => C.tbl g args }
def Cx.add (C : Cx) (f : FuncId) (sh : List (Option Nat)) (F : List Int → Option Value) : Cx :=
  C.addD f sh fun l => match F l with
    | some v => some (true, v)
    | none => none
/-- A function with memory. -/
def Cx.addM (C : Cx) (f : FuncId) (F : List Value → Mem → Option (Ans (Value × Mem))) : Cx :=
  { C with tbm := fun g args m => match Nat.beq g f with
    | true => F args m
    | false => C.tbm g args m, rd := fun g => match Nat.beq g f with
    | true => 0
    | false => C.rd g }
/-- A loop, in a function that was entered with at most B blocks. -/
def Cx.addLB (C : Cx) (f : FuncId) (k B : Nat) (S : St → Option (Ans (Exit × St))) : Cx :=
  { C with lp := fun g j n st => match Nat.beq g f && (Nat.beq j k && Nat.ble n B) with
    | true => S st
    | false => C.lp g j n st }
/-- A loop that moves no block. -/
def Cx.addL (C : Cx) (f : FuncId) (k : Nat) (S : St → Option (Ans (Exit × St))) : Cx :=
  { C with lp := fun g j n st => match Nat.beq g f && Nat.beq j k with
    | true => S st
    | false => C.lp g j n st }

theorem Cx.addR_ok {C : Cx} (hC : CxOk C) {n : Nat} {f : FuncId} {fn : Func} (hf : C.P.funcs[f]? = some fn) (hok : okFunc C.P f = true) (hcur : C.cur = f ∨ ∀ k n st, C.lp C.cur k n st = none) {F : List Value → Option (Bool × Value)}
    (h : ∀ args v, F args = some (true, v) → exFun C n fn args = some v) : CxOk (C.addR f F) := by
  refine ⟨hC.mixed, ?_, hC.tbm, hC.keys, hC.inl, hC.lp, hC.rd, hC.rd2, hC.ext⟩
  intro g args v hargs hv hp
  simp only [Cx.addR] at hv
  cases hg : Nat.beq g f with
  | false => simp only [hg] at hv; exact hC.tbl g args v hargs hv hp
  | true =>
    have hgf : g = f := Nat.eq_of_beq_eq_true hg
    subst hgf
    simp only [hg] at hv
    exact (exFun_sem hC hf (okFunc_name hok hf) hcur hargs (h args v hv)).1
theorem Cx.addD_okc {C : Cx} (hC : CxOk C) {n : Nat} {f : FuncId} {fn : Func} (hf : C.P.funcs[f]? = some fn) (hok : okFunc C.P f = true) (hcur : C.cur = f ∨ ∀ k n st, C.lp C.cur k n st = none) {sh : List (Option Nat)} {F : List Int → Option (Bool × Value)}
    (h : ∀ l v, l.length = total sh → F l = some (true, v) → exFun C n fn (pack sh l) = some v) : CxOk (C.addD f sh F) := by
  refine Cx.addR_ok hC hf hok hcur (n := n) fun args v hF => ?_
  cases hu : unpack sh args with
  | none => simp [hu] at hF
  | some l =>
    simp only [hu] at hF
    obtain ⟨rfl, hl⟩ := unpack_spec sh args l hu
    exact h l v hl hF
theorem Cx.addD_ok {C : Cx} (hC : CxOk C) {n : Nat} {f : FuncId} {fn : Func} (hf : C.P.funcs[f]? = some fn) (hok : okFunc C.P f = true) {sh : List (Option Nat)} {F : List Int → Option (Bool × Value)}
    (h : ∀ l v, l.length = total sh → F l = some (true, v) → exFun (C.at f) n fn (pack sh l) = some v) : CxOk (C.addD f sh F) := by
  have := Cx.addD_okc (C := C.at f) (hC.at f) hf hok (Or.inl rfl) h
  exact ⟨this.mixed, this.tbl, this.tbm, this.keys, this.inl, this.lp, this.rd, this.rd2, this.ext⟩
theorem Cx.add_ok {C : Cx} (hC : CxOk C) {n : Nat} {f : FuncId} {fn : Func} (hf : C.P.funcs[f]? = some fn) (hok : okFunc C.P f = true) {sh : List (Option Nat)} {F : List Int → Option Value}
    (h : ∀ l v, l.length = total sh → F l = some v → exFun (C.at f) n fn (pack sh l) = some v) : CxOk (C.add f sh F) := by
  refine Cx.addD_ok hC hf hok fun l v hl hF => h l v hl ?_
  cases hFl : F l with
  | none => simp [hFl] at hF
  | some u => simp [hFl] at hF; rw [hF]
theorem Cx.addM_ok {C : Cx} (hC : CxOk C) {f : FuncId} {F : List Value → Mem → Option (Ans (Value × Mem))} (h : ∀ args m ans v m', F args m = some ans → ans.res = some (v, m') → MemSem C.P f args m v m') : CxOk (C.addM f F) := by
  refine ⟨hC.mixed, hC.tbl, ?_, hC.keys, hC.inl, hC.lp, fun g hg => by
    simp only [Cx.addM] at hg ⊢
    cases hb : Nat.beq g f with
    | true => simp only [hb] at hg; cases hg
    | false => simp only [hb] at hg; exact hC.rd g hg, fun g hg => by
    simp only [Cx.addM] at hg ⊢
    cases hb : Nat.beq g f with
    | true => simp only [hb] at hg; cases hg
    | false => simp only [hb] at hg; exact hC.rd2 g hg, hC.ext⟩
  intro g args m ans v m' ha hr
  simp only [Cx.addM] at ha
  cases hg : Nat.beq g f with
  | false => simp only [hg] at ha; exact hC.tbm g args m ans v m' ha hr
  | true =>
    have hgf : g = f := Nat.eq_of_beq_eq_true hg
    subst hgf
    simp only [hg] at ha
    exact h args m ans v m' ha hr
/-- The bodies of a function's loops that have a key. -/
def loopsOf (P : Program) (f : FuncId) (k : Nat) : List Code :=
  match P.funcs[f]? with
  | some fn => match fn.body with
    | some b => (loopsIn b).filter fun x => Nat.beq (loopKey x) k
    | none => []
  | none => []
theorem LoopSem.mono {P : Program} {B B' : Nat} {x : Code} {st s : St} {e : Exit} (h : LoopSem P B x st e s) (hB : B' ≤ B) : LoopSem P B' x st e s :=
  fun Q w0 keep r0 a w h0 => h Q w0 keep r0 a w fun b hb => h0 b (Nat.le_trans hB hb)
theorem Cx.addLB_ok {C : Cx} (hC : CxOk C) {f : FuncId} {k B : Nat} {x : Code} {S : St → Option (Ans (Exit × St))} (hx : loopsOf C.P f k = [x]) (h : ∀ st ans e s, S st = some ans → ans.res = some (e, s) → LoopSem C.P B x st e s) : CxOk (C.addLB f k B S) := by
  refine ⟨hC.mixed, hC.tbl, hC.tbm, hC.keys, hC.inl, ?_, hC.rd, hC.rd2, hC.ext⟩
  intro g fn b hf hb y hy n st ans e s ha hr
  simp only [Cx.addLB] at ha
  cases hg : Nat.beq g f && (Nat.beq (loopKey y) k && Nat.ble n B) with
  | false => simp only [hg] at ha; exact hC.lp g fn b hf hb y hy n st ans e s ha hr
  | true =>
    simp only [hg] at ha
    rw [Bool.and_eq_true, Bool.and_eq_true] at hg
    have hgf : g = f := Nat.eq_of_beq_eq_true hg.1
    subst hgf
    have hmem : y ∈ loopsOf C.P g k := by
      unfold loopsOf
      rw [show C.P.funcs[g]? = some fn from hf]
      simp only [hb]
      exact List.mem_filter.2 ⟨hy, hg.2.1⟩
    rw [hx] at hmem
    have : y = x := by simpa using hmem
    subst this
    exact (h st ans e s ha hr).mono (Nat.le_of_ble_eq_true hg.2.2)
theorem Cx.addL_ok {C : Cx} (hC : CxOk C) {f : FuncId} {k : Nat} {x : Code} {S : St → Option (Ans (Exit × St))} (hx : loopsOf C.P f k = [x]) (h : ∀ B st ans e s, S st = some ans → ans.res = some (e, s) → LoopSem C.P B x st e s) : CxOk (C.addL f k S) := by
  refine ⟨hC.mixed, hC.tbl, hC.tbm, hC.keys, hC.inl, ?_, hC.rd, hC.rd2, hC.ext⟩
  intro g fn b hf hb y hy n st ans e s ha hr
  simp only [Cx.addL] at ha
  cases hg : Nat.beq g f && Nat.beq (loopKey y) k with
  | false => simp only [hg] at ha; exact hC.lp g fn b hf hb y hy n st ans e s ha hr
  | true =>
    simp only [hg] at ha
    rw [Bool.and_eq_true] at hg
    have hgf : g = f := Nat.eq_of_beq_eq_true hg.1
    subst hgf
    have hmem : y ∈ loopsOf C.P g k := by
      unfold loopsOf
      rw [show C.P.funcs[g]? = some fn from hf]
      simp only [hb]
      exact List.mem_filter.2 ⟨hy, hg.2⟩
    rw [hx] at hmem
    have : y = x := by simpa using hmem
    subst this
    exact h n st ans e s ha hr

/-- A type whose values are so many integers may be a map's key. -/
def Cx.addK (C : Cx) (kt n : Nat) : Cx := { C with keys := fun t => match Nat.beq t kt with
  | true => some n
  | false => C.keys t }
theorem Cx.addK_ok {C : Cx} (hC : CxOk C) {kt n : Nat} (h : KeyOk C.P kt n) : CxOk (C.addK kt n) := by
  refine ⟨hC.mixed, hC.tbl, hC.tbm, fun t m ht => ?_, hC.inl, hC.lp, hC.rd, hC.rd2, hC.ext⟩
  simp only [Cx.addK] at ht
  cases hb : Nat.beq t kt with
  | true =>
    simp only [hb, Option.some.injEq] at ht
    subst ht
    rw [Nat.eq_of_beq_eq_true hb]; exact h
  | false => simp only [hb] at ht; exact hC.keys t m ht
/-- No table; the named functions are walked into. -/
def base (P : Program) (ids : List Nat) : Cx := { P := P, tbl := fun _ _ => none, inl := fun f => match ids.contains f with
  | true => P.funcs[f]?
  | false => none }
theorem base_ok {P : Program} {ids : List Nat} (hm : P.follows .mixedOrders = true) (h : ids.all (okFunc P) = true) : CxOk (base P ids) := by
  refine ⟨hm, fun f args v _ hv => by simp [base] at hv, fun f args m ans v m' ha => by simp [base] at ha, fun kt n h => by simp [base] at h, fun f fn hf => ?_, fun f fn b _ _ x _ n st ans e s ha => by simp [base] at ha, fun f hf => by simp [base] at hf, fun f hf => by simp [base] at hf, fun f hf => absurd rfl hf⟩
  simp only [base] at hf
  split at hf
  · rename_i hc
    obtain ⟨fn', h1, h2, _⟩ := okFunc_spec (List.all_eq_true.1 h f (by simpa using hc))
    rw [h1] at hf
    simp only [Option.some.injEq] at hf
    subst hf
    exact ⟨h1, h2⟩
  · cases hf
/-- A function without a body. -/
def Cx.addX (C : Cx) (f : FuncId) (e : Nat) : Cx := { C with ext := fun g => match Nat.beq g f with
  | true => e
  | false => C.ext g }
theorem Cx.addX_ok {C : Cx} (hC : CxOk C) {f : FuncId} {e : Nat} {fn : Func} (h1 : C.P.funcs[f]? = some fn) (h2 : (fn.name == "runtime.NumGoroutine") = false) (h3 : fn.body.isNone = true) (h4 : (Extern.findNext fn).isNone = true) (h5 : Extern.find fn = some (extRow e)) : CxOk (C.addX f e) := by
  refine ⟨hC.mixed, hC.tbl, hC.tbm, hC.keys, hC.inl, hC.lp, hC.rd, hC.rd2, fun g hg => ?_⟩
  simp only [Cx.addX] at hg ⊢
  cases hb : Nat.beq g f with
  | true =>
    have := Nat.eq_of_beq_eq_true hb
    subst this
    exact ⟨fn, h1, h2, h3, h4, h5⟩
  | false => simp only [hb] at hg; exact hC.ext g hg
/-- A function that the executor runs is called so. -/
theorem exFun_calls {C : Cx} (hC : CxOk C) {n : Nat} {f : FuncId} {fn : Func} {args : List Value} {v : Value} (hf : C.P.funcs[f]? = some fn) (hok : okFunc C.P f = true) (hargs : ∀ x ∈ args, plain x = true) (h : exFun (C.at f) n fn args = some v) (w : World) :
    Calls C.P f args.toArray w fun e w' => e = .returned v ∧ Below w.heap.size w w' :=
  ((exFun_sem (C := C.at f) (hC.at f) hf (okFunc_name hok hf) (Or.inl rfl) hargs h).1.2 w).mono fun _ _ hq => ⟨hq.1, hq.2.1⟩

end Go.Proofs.Ytokdjjdmmahbiaa.Vx

/-
  A region that draws its order: operations that do not meet may change places. Nothing here is trusted.
-/
import Derived.Test.YtagnkjdobkdhmaaVx5
namespace Go.Proofs.Ytagnkjdobkdhmaa.Vx
open Go Go.RowKit

section
variable {P : Program} {call : FuncId → List Value → Option Value} {ops : Array Oper}

theorem ev_congr {st st' : St} {x : Operand} (h : ∀ t, x = .tmp t → st.tmps[t]? = st'.tmps[t]?) : ev st x = ev st' x := by
  cases x with
  | tmp t => simp only [ev]; rw [h t rfl]
  | _ => rfl
theorem okOpnd_congr {st st' : St} {x : Operand} (h : ∀ t, x = .tmp t → st.tmps[t]? = st'.tmps[t]?) : okOpnd st x = okOpnd st' x := by
  cases x with
  | global g => rfl
  | tmp t => simp only [okOpnd]; rw [ev_congr h]
  | const v => rfl
  | func f => rfl

theorem opVal_congr {st st' : St} {o : Oper} (hs : ∀ cs b, o.op ≠ .select cs b) (h : ∀ x ∈ o.op.operands, ∀ t, x = .tmp t → st.tmps[t]? = st'.tmps[t]?) : opVal P st o = opVal P st' o := by
  have h1 : execOp (ev st) o = execOp (ev st') o := execOp_congr o hs fun x hx => ev_congr (h x hx)
  have h2 : o.op.operands.toList.all (okOpnd st) = o.op.operands.toList.all (okOpnd st') := by
    rw [Bool.eq_iff_iff, List.all_eq_true, List.all_eq_true]
    exact ⟨fun g x hx => by rw [← okOpnd_congr (h x (Array.mem_toList_iff.1 hx))]; exact g x hx, fun g x hx => by rw [okOpnd_congr (h x (Array.mem_toList_iff.1 hx))]; exact g x hx⟩
  unfold opVal
  rw [h1, h2]

theorem all_congr {st st' : St} {l : List Operand} (h : ∀ x ∈ l, okOpnd st x = okOpnd st' x) : l.all (okOpnd st) = l.all (okOpnd st') := by
  rw [Bool.eq_iff_iff, List.all_eq_true, List.all_eq_true]
  exact ⟨fun g x hx => by rw [← h x hx]; exact g x hx, fun g x hx => by rw [h x hx]; exact g x hx⟩

theorem act_congr {pos : Option Nat} {st st' : St} (o : Oper) (hm : st.mem = st'.mem) (h : ∀ x ∈ o.op.operands, ∀ t, x = .tmp t → st.tmps[t]? = st'.tmps[t]?) : act P call pos st o = act P call pos st' o := by
  have hE : ∀ x ∈ o.op.operands, ev st x = ev st' x := fun x hx => ev_congr (h x hx)
  have hO : ∀ x ∈ o.op.operands, okOpnd st x = okOpnd st' x := fun x hx => okOpnd_congr (h x hx)
  obtain ⟨dst, op, type, pos, after, guard⟩ := o
  cases op <;> simp only [Op.operands] at h hE hO <;> simp only [act, hm]
  case move x => rw [hE x (by simp)]
  case assign x => rw [hE x (by simp)]
  case pick c x y => rw [hE c (by simp), hE x (by simp), hE y (by simp)]
  case box t x => rw [hE x (by simp), hO x (by simp)]
  case load t x => cases x with
    | tmp x => simp only; rw [hE (.tmp x) (by simp)]
    | _ => rfl
  case store t x y => cases x with
    | tmp x => simp only; rw [hE (.tmp x) (by simp), hE y (by simp), hO y (by simp)]
    | _ => rfl
  case indexAddr t x i => cases x with
    | tmp x => simp only; rw [hE (.tmp x) (by simp), hE i (by simp), hO i (by simp)]
    | _ => rfl
  case fieldAddr t x n => cases x with
    | tmp x => simp only; rw [hE (.tmp x) (by simp)]
    | _ => rfl
  case build t ps =>
    have e1 : (ps.toList.map fun p => (p.1, ev st p.2)) = ps.toList.map fun p => (p.1, ev st' p.2) := List.map_congr_left fun p hp => by
      rw [hE p.2 (by simpa using ⟨p.1, by simpa using hp⟩)]
    have e2 : (ps.toList.map (·.2)).all (okOpnd st) = (ps.toList.map (·.2)).all (okOpnd st') := all_congr fun x hx => hO x (by simpa using hx)
    rw [e1, e2]
  case binOp op t x y yt =>
    have e := opVal_congr (P := P) (st := st) (st' := st') (o := ⟨dst, .binOp op t x y yt, type, pos, after, guard⟩) (by intro cs b; simp) (by simpa only [Op.operands] using h)
    rw [hE x (by simp), hE y (by simp), hO x (by simp), hO y (by simp), e]
  case call c =>
    cases hc : c.callee with
    | value g =>
      cases g with
      | func f =>
        simp only
        have e1 : c.args.toList.map (ev st) = c.args.toList.map (ev st') := List.map_congr_left fun x hx => hE x (by simp [Call.operands, Array.mem_toList_iff.1 hx])
        have e2 : c.args.toList.all (okOpnd st) = c.args.toList.all (okOpnd st') := all_congr fun x hx => hO x (by simp [Call.operands, Array.mem_toList_iff.1 hx])
        rw [e1, e2]
      | _ => rfl
    | builtin b => simp only; rw [opVal_congr (P := P) (st := st) (st' := st') (o := ⟨dst, .call c, type, pos, after, guard⟩) (by intro cs b; simp) (by simpa only [Op.operands] using h)]
    | _ => rfl
  case unOp op t x => rw [opVal_congr (P := P) (st := st) (st' := st') (o := ⟨dst, .unOp op t x, type, pos, after, guard⟩) (by intro cs b; simp) (by simpa only [Op.operands] using h)]
  case convert s d x => rw [opVal_congr (P := P) (st := st) (st' := st') (o := ⟨dst, .convert s d x, type, pos, after, guard⟩) (by intro cs b; simp) (by simpa only [Op.operands] using h)]
  case field t x n => rw [opVal_congr (P := P) (st := st) (st' := st') (o := ⟨dst, .field t x n, type, pos, after, guard⟩) (by intro cs b; simp) (by simpa only [Op.operands] using h)]
  case index t x n => rw [opVal_congr (P := P) (st := st) (st' := st') (o := ⟨dst, .index t x n, type, pos, after, guard⟩) (by intro cs b; simp) (by simpa only [Op.operands] using h)]
  case extract x n => rw [opVal_congr (P := P) (st := st) (st' := st') (o := ⟨dst, .extract x n, type, pos, after, guard⟩) (by intro cs b; simp) (by simpa only [Op.operands] using h)]

/-- Evaluation does not look at the memory. -/
theorem ev_mem (tm : List Value) (m m' : Mem) : ev ⟨tm, m⟩ = ev ⟨tm, m'⟩ := by funext x; cases x <;> rfl
theorem okOpnd_mem (tm : List Value) (m m' : Mem) : okOpnd ⟨tm, m⟩ = okOpnd ⟨tm, m'⟩ := by funext x; cases x <;> rfl
theorem opVal_mem (tm : List Value) (m m' : Mem) (o : Oper) : opVal P ⟨tm, m⟩ o = opVal P ⟨tm, m'⟩ o := by
  unfold opVal; rw [ev_mem tm m m', okOpnd_mem tm m m']

/-- An operation's answer, with its memory put back. -/
def reMem (m' : Mem) (x : Option (Value × Mem)) : Option (Value × Mem) := x.map fun p => (p.1, m')

theorem act_class0 {pos : Option Nat} (o : Oper) (h0 : memClass o.op = 0) (tm : List Value) (m m' : Mem) : act P call pos ⟨tm, m'⟩ o = reMem m' (act P call pos ⟨tm, m⟩ o) := by
  obtain ⟨dst, op, type, pos, after, guard⟩ := o
  cases op <;> simp only [memClass] at h0 <;> first | (simp at h0; done) | skip
  case move x => simp only [act, ev_mem tm m' m]; split <;> rfl
  case assign x => simp only [act, ev_mem tm m' m]; split <;> rfl
  case pick c x y =>
    simp only [act, ev_mem tm m' m]
    split
    · split <;> rfl
    · rfl
  case indexAddr t x i => cases x with
    | tmp x =>
      simp only [act, ev_mem tm m' m, okOpnd_mem tm m' m]
      split
      · split
        · split
          · split <;> rfl
          · rfl
        · rfl
      · rfl
    | _ => rfl
  case fieldAddr t x n => cases x with
    | tmp x =>
      simp only [act, ev_mem tm m' m]
      split
      · split
        · split
          · split <;> rfl
          · rfl
        · rfl
      · rfl
    | _ => rfl
  case build t ps =>
    simp only [act, ev_mem tm m' m, okOpnd_mem tm m' m]
    split
    · split <;> rfl
    · rfl
  case binOp op t x y yt =>
    simp only [act, ev_mem tm m' m, okOpnd_mem tm m' m, opVal_mem tm m' m]
    split
    · split
      · split <;> rfl
      · rfl
    · split
      · split <;> rfl
      · rfl
    · split
      · split <;> rfl
      · rfl
    · split
      · split <;> rfl
      · rfl
    · split <;> rfl
  case call c =>
    simp only [act, ev_mem tm m' m, okOpnd_mem tm m' m, opVal_mem tm m' m]
    split
    · split
      · split
        · split <;> rfl
        · rfl
      · rfl
    · split <;> rfl
    · rfl
  case unOp => simp only [act, opVal_mem tm m' m]; split <;> rfl
  case convert => simp only [act, opVal_mem tm m' m]; split <;> rfl
  case field => simp only [act, opVal_mem tm m' m]; split <;> rfl
  case index => simp only [act, opVal_mem tm m' m]; split <;> rfl
  case extract => simp only [act, opVal_mem tm m' m]; split <;> rfl

/-- A load: it turns nothing; behind a row that is made beside it, it reads the same. -/
theorem act_class1 {pos : Option Nat} (o : Oper) (h1 : memClass o.op = 1) {tm : List Value} {mem m : Mem} {v : Value} (hw : WF ⟨tm, mem⟩) {p : Nat} (hp : mem[p]? = some none) (c : List Value) :
    act P call pos ⟨tm, mem⟩ o = some (v, m) ↔ m = mem ∧ act P call pos ⟨tm, mem.set p (some c)⟩ o = some (v, mem.set p (some c)) := by
  obtain ⟨dst, op, type, pos', after, guard⟩ := o
  cases op <;> simp only [memClass] at h1 <;> first | (simp at h1; done) | skip
  case load t x => cases x with
    | tmp x =>
      simp only [act, ev_mem tm (mem.set p (some c)) mem]
      split
      · rename_i b off hb
        have hin := wf_ev hw (x := .tmp x) rfl
        rw [hb] at hin
        obtain ⟨d, hd⟩ := hin
        simp only at hd
        have hne : p ≠ b := fun e => by subst e; rw [hp] at hd; cases hd
        have hl : loadV P (mem.set p (some c)) t b off = loadV P mem t b off := by
          unfold loadV
          rw [List.getElem?_set_ne hne]
        rw [hl]
        split
        · cases loadV P mem t b off with
          | none => simp
          | some u => simp; exact ⟨fun h => ⟨h.2.symm, h.1⟩, fun h => ⟨h.2, h.1.symm⟩⟩
        · simp
      · simp
    | _ => simp [act]
theorem act_class1' {pos : Option Nat} (o : Oper) (h1 : memClass o.op = 1) {st : St} {v : Value} {m : Mem} (h : act P call pos st o = some (v, m)) : m = st.mem := by
  obtain ⟨dst, op, type, pos', after, guard⟩ := o
  cases op <;> simp only [memClass] at h1 <;> first | (simp at h1; done) | skip
  case load t x => cases x with
    | tmp x =>
      simp only [act] at h
      split at h
      · split at h
        · split at h
          · simp only [Option.some.injEq, Prod.mk.injEq] at h; exact h.2.symm
          · cases h
        · cases h
      · cases h
    | _ => simp [act] at h

/-- What makes a row fills its own place, whatever else is there. -/
theorem act_class2 {pos : Option Nat} (o : Oper) (h2 : memClass o.op = 2) {tm : List Value} {mem m : Mem} {v : Value} (h : act P call pos ⟨tm, mem⟩ o = some (v, m)) :
    ∃ p c, pos = some p ∧ mem[p]? = some none ∧ m = mem.set p (some c) ∧ ∀ mem', mem'[p]? = some none → act P call pos ⟨tm, mem'⟩ o = some (v, mem'.set p (some c)) := by
  obtain ⟨dst, op, type, pos', after, guard⟩ := o
  cases op <;> simp only [memClass] at h2 <;> first | (simp at h2; done) | skip
  case box t x =>
    simp only [act] at h
    split at h
    · rename_i hx
      split at h
      · rename_i p
        split at h
        · rename_i hp
          simp only [Option.some.injEq, Prod.mk.injEq] at h
          obtain ⟨rfl, rfl⟩ := h
          refine ⟨p, _, rfl, hp, rfl, fun mem' hp' => ?_⟩
          simp only [act]
          rw [okOpnd_mem tm mem' mem, ev_mem tm mem' mem, if_pos hx, hp']
        · cases h
      · cases h
    · cases h
  case alloc t =>
    simp only [act] at h
    split at h
    · rename_i i hi
      split at h
      · rename_i z hz
        split at h
        · rename_i p
          split at h
          · rename_i hp
            simp only [Option.some.injEq, Prod.mk.injEq] at h
            obtain ⟨rfl, rfl⟩ := h
            refine ⟨p, _, rfl, hp, rfl, fun mem' hp' => ?_⟩
            simp only [act, hi, hz, hp']
          · cases h
        · cases h
      · cases h
    · cases h

def upd (mem : Mem) (b : Nat) : Option (List Value) → Mem
  | some c => mem.set b (some c)
  | none => mem

/-- What touches a foreseen block touches no other. -/
theorem act_local {b : Nat} (o : Oper) {tm : List Value} {mem m : Mem} {v : Value} (h0 : memClass o.op ≠ 0) (h : act P call (some b) ⟨tm, mem⟩ o = some (v, m)) :
    ∃ u, m = upd mem b u ∧ ∀ (mem' : Mem), mem'[b]? = mem[b]? → act P call (some b) ⟨tm, mem'⟩ o = some (v, upd mem' b u) := by
  obtain ⟨dst, op, type, pos', after, guard⟩ := o
  have hbeq : ∀ {b' : Nat}, okPos (some b) b' = true → b = b' := fun h => Nat.eq_of_beq_eq_true h
  cases op <;> first | (exact absurd rfl h0) | skip
  case box t x =>
    obtain ⟨p, c, hp, h1, rfl, h3⟩ := act_class2 (P := P) (call := call) ⟨dst, .box t x, type, pos', after, guard⟩ rfl h
    simp only [Option.some.injEq] at hp
    subst hp
    exact ⟨some c, rfl, fun mem' hm => h3 mem' (by rw [hm]; exact h1)⟩
  case alloc t =>
    obtain ⟨p, c, hp, h1, rfl, h3⟩ := act_class2 (P := P) (call := call) ⟨dst, .alloc t, type, pos', after, guard⟩ rfl h
    simp only [Option.some.injEq] at hp
    subst hp
    exact ⟨some c, rfl, fun mem' hm => h3 mem' (by rw [hm]; exact h1)⟩
  case load t x => cases x with
    | tmp x =>
      simp only [act] at h
      split at h
      · rename_i b' off hp
        split at h
        · rename_i hb
          have hbb := hbeq hb
          subst hbb
          split at h
          · rename_i u hu
            simp only [Option.some.injEq, Prod.mk.injEq] at h
            obtain ⟨rfl, rfl⟩ := h
            refine ⟨none, rfl, fun mem' hm => ?_⟩
            have hl : loadV P mem' t b off = some u := by rw [← hu]; unfold loadV; rw [hm]
            simp only [act, ev_mem tm mem' mem, hp, hb, if_true, hl, upd]
          · cases h
        · cases h
      · cases h
    | _ => simp [act] at h
  case store t x y => cases x with
    | tmp x =>
      simp only [act] at h
      split at h
      · rename_i hy
        split at h
        · rename_i b' off hp
          split at h
          · rename_i cells i hm0 hi
            split at h
            · rename_i hl
              have hbb := hbeq hl.1
              subst hbb
              simp only [Option.some.injEq, Prod.mk.injEq] at h
              obtain ⟨rfl, rfl⟩ := h
              refine ⟨some _, rfl, fun mem' hm => ?_⟩
              have hm1 : mem'[b]? = some (some cells) := by rw [hm]; exact hm0
              simp only [act, ev_mem tm mem' mem, okOpnd_mem tm mem' mem, hy, if_true, hp, hm1, hi]
              rw [if_pos hl]
              rfl
            · cases h
          · cases h
        · cases h
      · cases h
    | _ => simp [act] at h
  all_goals (simp [act] at h; done)

theorem upd_get {mem : Mem} {a b : Nat} (h : a ≠ b) (u : Option (List Value)) : (upd mem a u)[b]? = mem[b]? := by
  cases u with
  | none => rfl
  | some c => exact List.getElem?_set_ne h
theorem upd_comm {mem : Mem} {a b : Nat} (h : a ≠ b) (u v : Option (List Value)) : upd (upd mem a u) b v = upd (upd mem b v) a u := by
  cases u <;> cases v <;> simp only [upd]
  exact List.set_comm _ _ h

theorem opVal_bare {st : St} {o : Oper} {v : Value} (h : opVal P st o = some v) : bare v = true := by
  unfold opVal at h
  split at h
  · split at h
    · split at h
      · simp only [Option.some.injEq] at h; subst h; assumption
      · cases h
    · cases h
  · cases h

theorem loadV_bare {mem : Mem} {t : TypeId} {b off : Nat} {v : Value} (h : loadV P mem t b off = some v) : bare v = true := by
  unfold loadV at h
  split at h
  · split at h
    · split at h
      · simp only [Option.some.injEq] at h; subst h; rfl
      · cases h
    · cases h
  · split at h
    · split at h
      · simp only [Option.some.injEq] at h; subst h; assumption
      · cases h
    · cases h
  · cases h

theorem buildV_bare {t : TypeId} {ps : List (Nat × Value)} {v : Value} (h : buildV P t ps = some v) : bare v = true := by
  have := (buildV_run (P := P) (parts := ps.toArray) (v := v) (t := t) (by simpa using h) default).2
  exact this

theorem act_wf {pos : Option Nat} {st : St} {o : Oper} {v : Value} {m : Mem} (hw : WF st) (h : act P call pos st o = some (v, m)) : inMem m v ∧ ∀ u, inMem st.mem u → inMem m u := by
  obtain ⟨dst, op, type, pos', after, guard⟩ := o
  have same : ∀ {u : Value}, inMem st.mem u → inMem st.mem u ∧ ∀ u, inMem st.mem u → inMem st.mem u := fun h => ⟨h, fun _ h => h⟩
  cases op <;> simp only [act] at h
  case move x =>
    split at h
    · rename_i hx; simp only [Option.some.injEq, Prod.mk.injEq] at h; obtain ⟨rfl, rfl⟩ := h; exact same (wf_ev hw hx)
    · cases h
  case assign x =>
    split at h
    · rename_i hx; simp only [Option.some.injEq, Prod.mk.injEq] at h; obtain ⟨rfl, rfl⟩ := h; exact same (wf_ev hw hx)
    · cases h
  case pick c x y =>
    split at h
    · rename_i hxy
      simp only [Bool.and_eq_true] at hxy
      split at h
      · rename_i q _
        simp only [Option.some.injEq, Prod.mk.injEq] at h
        obtain ⟨rfl, rfl⟩ := h
        cases q
        · exact same (wf_ev hw hxy.2)
        · exact same (wf_ev hw hxy.1)
      · cases h
    · cases h
  case box t x =>
    split at h
    · split at h
      · split at h
        · rename_i hp
          simp only [Option.some.injEq, Prod.mk.injEq] at h
          obtain ⟨rfl, rfl⟩ := h
          exact ⟨⟨_, by rw [List.getElem?_set_self (List.getElem?_eq_some_iff.1 hp).1]⟩, fun u hu => inMem_mono set_grows hu⟩
        · cases h
      · cases h
    · cases h
  case alloc t =>
    split at h
    · split at h
      · split at h
        · split at h
          · rename_i hp
            simp only [Option.some.injEq, Prod.mk.injEq] at h
            obtain ⟨rfl, rfl⟩ := h
            exact ⟨⟨_, by rw [List.getElem?_set_self (List.getElem?_eq_some_iff.1 hp).1]⟩, fun u hu => inMem_mono set_grows hu⟩
          · cases h
        · cases h
      · cases h
    · cases h
  case load t x => cases x with
    | tmp x =>
      simp only at h
      split at h
      · split at h
        · split at h
          · rename_i u hu
            simp only [Option.some.injEq, Prod.mk.injEq] at h; obtain ⟨rfl, rfl⟩ := h
            exact same (inMem_bare (loadV_bare hu))
          · cases h
        · cases h
      · cases h
    | _ => simp at h
  case store t x y => cases x with
    | tmp x =>
      simp only at h
      split at h
      · split at h
        · split at h
          · split at h
            · simp only [Option.some.injEq, Prod.mk.injEq] at h; obtain ⟨rfl, rfl⟩ := h
              exact ⟨trivial, fun u hu => inMem_mono set_grows hu⟩
            · cases h
          · cases h
        · cases h
      · cases h
    | _ => simp at h
  case indexAddr t x i => cases x with
    | tmp x =>
      simp only at h
      split at h
      · split at h
        · rename_i b off _ _ _ _ hp _ _
          split at h
          · split at h
            · simp only [Option.some.injEq, Prod.mk.injEq] at h; obtain ⟨rfl, rfl⟩ := h
              have hin := wf_ev hw (x := .tmp x) rfl
              rw [hp] at hin
              exact same hin
            · cases h
          · cases h
        · cases h
      · cases h
    | _ => simp at h
  case fieldAddr t x n => cases x with
    | tmp x =>
      simp only at h
      split at h
      · rename_i b off _ hp _
        split at h
        · split at h
          · split at h
            · cases h
            · simp only [Option.some.injEq, Prod.mk.injEq] at h; obtain ⟨rfl, rfl⟩ := h
              have hin := wf_ev hw (x := .tmp x) rfl
              rw [hp] at hin
              exact same hin
          · cases h
        · cases h
      · cases h
    | _ => simp at h
  case build t ps =>
    split at h
    · split at h
      · rename_i u hu
        simp only [Option.some.injEq, Prod.mk.injEq] at h; obtain ⟨rfl, rfl⟩ := h
        exact same (inMem_bare (buildV_bare hu))
      · cases h
    · cases h
  case binOp op t x y yt =>
    split at h
    · split at h
      · split at h
        · simp only [Option.some.injEq, Prod.mk.injEq] at h; obtain ⟨rfl, rfl⟩ := h; exact same trivial
        · cases h
      · cases h
    · split at h
      · split at h
        · simp only [Option.some.injEq, Prod.mk.injEq] at h; obtain ⟨rfl, rfl⟩ := h; exact same trivial
        · cases h
      · cases h
    · split at h
      · split at h
        · cases h
        · simp only [Option.some.injEq, Prod.mk.injEq] at h; obtain ⟨rfl, rfl⟩ := h; exact same trivial
      · cases h
    · split at h
      · split at h
        · cases h
        · simp only [Option.some.injEq, Prod.mk.injEq] at h; obtain ⟨rfl, rfl⟩ := h; exact same trivial
      · cases h
    · split at h
      · rename_i u hu
        simp only [Option.some.injEq, Prod.mk.injEq] at h; obtain ⟨rfl, rfl⟩ := h; exact same (inMem_bare (opVal_bare hu))
      · cases h
  case call c =>
    split at h
    · split at h
      · split at h
        · split at h
          · rename_i hb
            simp only [Option.some.injEq, Prod.mk.injEq] at h; obtain ⟨rfl, rfl⟩ := h; exact same (inMem_bare hb)
          · cases h
        · cases h
      · cases h
    · split at h
      · rename_i u hu; simp only [Option.some.injEq, Prod.mk.injEq] at h; obtain ⟨rfl, rfl⟩ := h; exact same (inMem_bare (opVal_bare hu))
      · cases h
    · cases h
  case unOp =>
    split at h
    · rename_i u hu; simp only [Option.some.injEq, Prod.mk.injEq] at h; obtain ⟨rfl, rfl⟩ := h; exact same (inMem_bare (opVal_bare hu))
    · cases h
  case convert =>
    split at h
    · rename_i u hu; simp only [Option.some.injEq, Prod.mk.injEq] at h; obtain ⟨rfl, rfl⟩ := h; exact same (inMem_bare (opVal_bare hu))
    · cases h
  case field =>
    split at h
    · rename_i u hu; simp only [Option.some.injEq, Prod.mk.injEq] at h; obtain ⟨rfl, rfl⟩ := h; exact same (inMem_bare (opVal_bare hu))
    · cases h
  case index =>
    split at h
    · rename_i u hu; simp only [Option.some.injEq, Prod.mk.injEq] at h; obtain ⟨rfl, rfl⟩ := h; exact same (inMem_bare (opVal_bare hu))
    · cases h
  case extract =>
    split at h
    · rename_i u hu; simp only [Option.some.injEq, Prod.mk.injEq] at h; obtain ⟨rfl, rfl⟩ := h; exact same (inMem_bare (opVal_bare hu))
    · cases h
  all_goals cases h

def actG (P : Program) (call : FuncId → List Value → Option Value) (ops : Array Oper) (pos : Option Nat) (st : St) (o : Oper) : Option (Value × Mem) :=
  if Region.wanted o (yieldedV ops st) then act P call pos st o else some (undef, st.mem)

theorem stepG_eq (o : Oper) (pos : Option Nat) (st : St) : stepG P call ops o pos st = (actG P call ops pos st o).map fun p => ⟨putL st.tmps o.dst p.1, p.2⟩ := by
  unfold stepG actG
  split
  · cases act P call pos st o <;> rfl
  · rfl

theorem map_put {x : Option (Value × Mem)} {tm : List Value} {dst : Option Tmp} {s : St} (h : (x.map fun p => (⟨putL tm dst p.1, p.2⟩ : St)) = some s) : ∃ v m, x = some (v, m) ∧ s = ⟨putL tm dst v, m⟩ := by
  cases x with
  | none => simp at h
  | some p => obtain ⟨v, m⟩ := p; simp at h; exact ⟨v, m, rfl, h.symm⟩

theorem actG_wf {pos : Option Nat} {st : St} {o : Oper} {v : Value} {m : Mem} (hw : WF st) (h : actG P call ops pos st o = some (v, m)) : inMem m v ∧ ∀ u, inMem st.mem u → inMem m u := by
  unfold actG at h
  split at h
  · exact act_wf hw h
  · simp only [Option.some.injEq, Prod.mk.injEq] at h; obtain ⟨rfl, rfl⟩ := h; exact ⟨trivial, fun _ h => h⟩

theorem stepG_wf {o : Oper} {pos : Option Nat} {st s : St} (hw : WF st) (h : stepG P call ops o pos st = some s) : WF s := by
  rw [stepG_eq] at h
  obtain ⟨v, m, hv, rfl⟩ := map_put h
  obtain ⟨h1, h2⟩ := actG_wf hw hv
  intro u hu
  simp only at hu ⊢
  unfold putL at hu
  split at hu
  · rcases List.mem_or_eq_of_mem_set hu with h | h
    · exact h2 u (hw u h)
    · subst h; exact h1
  · exact h2 u (hw u hu)

theorem wanted_congr {st st' : St} (o : Oper) (h : ∀ t ∈ o.looksAt ops, st.tmps[t]? = st'.tmps[t]?) : Region.wanted o (yieldedV ops st) = Region.wanted o (yieldedV ops st') := by
  unfold Region.wanted
  cases hg : o.guard with
  | none => rfl
  | some g =>
    obtain ⟨j, want⟩ := g
    simp only
    unfold yieldedV
    cases hd : (ops[j]?).bind (·.dst) with
    | none => rfl
    | some d =>
      simp only [Option.bind_some]
      rw [h d (by simp [Oper.looksAt, hg, hd])]

theorem looks_opnd {o : Oper} {st st' : St} (h : ∀ t ∈ o.looksAt ops, st.tmps[t]? = st'.tmps[t]?) : ∀ x ∈ o.op.operands, ∀ t, x = .tmp t → st.tmps[t]? = st'.tmps[t]? := by
  intro x hx t ht
  subst ht
  refine h t ?_
  unfold Oper.looksAt
  refine List.mem_append.2 (Or.inl ?_)
  exact List.mem_filterMap.2 ⟨_, Array.mem_toList_iff.2 hx, rfl⟩

theorem actG_congr {pos : Option Nat} {st st' : St} (o : Oper) (hm : st.mem = st'.mem) (h : ∀ t ∈ o.looksAt ops, st.tmps[t]? = st'.tmps[t]?) : actG P call ops pos st o = actG P call ops pos st' o := by
  unfold actG
  rw [wanted_congr o h, act_congr o hm (looks_opnd h), hm]

/-- It looks at no memory and turns none: by its kind, or because it isn't wanted. -/
def Quiet0 (P : Program) (call : FuncId → List Value → Option Value) (ops : Array Oper) (pos : Option Nat) (tm : List Value) (o : Oper) : Prop :=
  ∀ m m', actG P call ops pos ⟨tm, m'⟩ o = reMem m' (actG P call ops pos ⟨tm, m⟩ o)

theorem quiet0_class {pos : Option Nat} {tm : List Value} {o : Oper} (h0 : memClass o.op = 0) : Quiet0 P call ops pos tm o := by
  intro m m'
  unfold actG
  have e : yieldedV ops ⟨tm, m'⟩ = yieldedV ops ⟨tm, m⟩ := rfl
  rw [e]
  split
  · exact act_class0 o h0 tm m m'
  · rfl

theorem quiet0_skip {pos : Option Nat} {tm : List Value} {m0 : Mem} {o : Oper} (h0 : Region.wanted o (yieldedV ops ⟨tm, m0⟩) = false) : Quiet0 P call ops pos tm o := by
  intro m m'
  unfold actG
  have e : yieldedV ops ⟨tm, m'⟩ = yieldedV ops ⟨tm, m0⟩ := rfl
  have e' : yieldedV ops ⟨tm, m⟩ = yieldedV ops ⟨tm, m0⟩ := rfl
  rw [e, e', h0]
  rfl

theorem putL_get {l : List Value} {dst : Option Tmp} {v : Value} {t : Tmp} (h : ∀ d, dst = some d → d ≠ t) : (putL l dst v)[t]? = l[t]? := by
  cases dst with
  | none => rfl
  | some d => simp only [putL]; rw [List.getElem?_set_ne (h d rfl)]

theorem putL_comm (l : List Value) {d e : Option Tmp} (v u : Value) (h : ∀ x, d = some x → e ≠ some x) : putL (putL l d v) e u = putL (putL l e u) d v := by
  cases d with
  | none => rfl
  | some x =>
    cases e with
    | none => rfl
    | some y =>
      have hne : x ≠ y := fun hxy => h x rfl (by rw [hxy])
      simp only [putL]
      exact List.set_comm _ _ hne

/-- The two memories' sides of a change of places. -/
theorem swap_mem {x y : Oper} {px py : Option Nat} (hpos : memClass x.op = 2 → memClass y.op = 2 → px ≠ py) (hcl : (memClass x.op == 0 || memClass y.op == 0 || (Nat.ble (memClass x.op) 2 && Nat.ble (memClass y.op) 2) || apartPos px py) = true) {tm : List Value} {mem mx my : Mem} {vx vy : Value} (hw : WF ⟨tm, mem⟩)
    (ex : actG P call ops px ⟨tm, mem⟩ x = some (vx, mx)) (ey : actG P call ops py ⟨tm, mx⟩ y = some (vy, my)) :
    ∃ m1, actG P call ops py ⟨tm, mem⟩ y = some (vy, m1) ∧ actG P call ops px ⟨tm, m1⟩ x = some (vx, my) := by
  have caseX : Quiet0 P call ops px tm x → ∃ m1, actG P call ops py ⟨tm, mem⟩ y = some (vy, m1) ∧ actG P call ops px ⟨tm, m1⟩ x = some (vx, my) := by
    intro q
    have em := q mem mem
    rw [ex] at em
    simp only [reMem, Option.map_some, Option.some.injEq, Prod.mk.injEq, true_and] at em
    subst em
    refine ⟨my, ey, ?_⟩
    rw [q mx my, ex]
    rfl
  have caseY : Quiet0 P call ops py tm y → ∃ m1, actG P call ops py ⟨tm, mem⟩ y = some (vy, m1) ∧ actG P call ops px ⟨tm, m1⟩ x = some (vx, my) := by
    intro q
    have em := q mx mx
    rw [ey] at em
    simp only [reMem, Option.map_some, Option.some.injEq, Prod.mk.injEq, true_and] at em
    subst em
    refine ⟨mem, ?_, ex⟩
    rw [q my mem, ey]
    rfl
  cases hwx : Region.wanted x (yieldedV ops ⟨tm, mem⟩) with
  | false => exact caseX (quiet0_skip (m0 := mem) hwx)
  | true =>
    cases hwy : Region.wanted y (yieldedV ops ⟨tm, mem⟩) with
    | false => exact caseY (quiet0_skip (m0 := mem) hwy)
    | true =>
      have gx : ∀ m, actG P call ops px ⟨tm, m⟩ x = act P call px ⟨tm, m⟩ x := fun m => by
        unfold actG
        have e : yieldedV ops ⟨tm, m⟩ = yieldedV ops ⟨tm, mem⟩ := rfl
        rw [e, hwx]; rfl
      have gy : ∀ m, actG P call ops py ⟨tm, m⟩ y = act P call py ⟨tm, m⟩ y := fun m => by
        unfold actG
        have e : yieldedV ops ⟨tm, m⟩ = yieldedV ops ⟨tm, mem⟩ := rfl
        rw [e, hwy]; rfl
      simp only [Bool.or_eq_true, Bool.and_eq_true, beq_iff_eq, Nat.ble_eq] at hcl
      rcases hcl with ((h0 | h0) | ⟨hx2, hy2⟩) | hap
      · exact caseX (quiet0_class h0)
      · exact caseY (quiet0_class h0)
      · by_cases hx0 : memClass x.op = 0
        · exact caseX (quiet0_class hx0)
        by_cases hy0 : memClass y.op = 0
        · exact caseY (quiet0_class hy0)
        simp only [gx, gy] at ex ey ⊢
        have hxc : memClass x.op = 1 ∨ memClass x.op = 2 := by omega
        have hyc : memClass y.op = 1 ∨ memClass y.op = 2 := by omega
        rcases hxc with hx1 | hx1 <;> rcases hyc with hy1 | hy1
        · have e1 := act_class1' x hx1 ex
          simp only at e1
          subst e1
          have e2 := act_class1' y hy1 ey
          simp only at e2
          subst e2
          exact ⟨my, ey, ex⟩
        · have e1 := act_class1' x hx1 ex
          simp only at e1
          subst e1
          obtain ⟨_, c, _, hp, rfl, _⟩ := act_class2 y hy1 ey
          exact ⟨_, ey, ((act_class1 x hx1 hw hp c).1 ex).2⟩
        · obtain ⟨_, c, _, hp, rfl, hall⟩ := act_class2 x hx1 ex
          have e2 := act_class1' y hy1 ey
          simp only at e2
          subst e2
          exact ⟨mem, (act_class1 y hy1 hw hp c).2 ⟨rfl, ey⟩, ex⟩
        · obtain ⟨p1, c, hpx, hp, rfl, hall⟩ := act_class2 x hx1 ex
          obtain ⟨p2, d, hpy, hq, rfl, hall'⟩ := act_class2 y hy1 ey
          have hne : p1 ≠ p2 := fun e => hpos hx1 hy1 (by rw [hpx, hpy, e])
          rw [List.getElem?_set_ne hne] at hq
          refine ⟨_, hall' mem hq, ?_⟩
          rw [hall (mem.set p2 (some d)) (by rw [List.getElem?_set_ne (Ne.symm hne)]; exact hp), List.set_comm _ _ hne]
      · by_cases hx0 : memClass x.op = 0
        · exact caseX (quiet0_class hx0)
        by_cases hy0 : memClass y.op = 0
        · exact caseY (quiet0_class hy0)
        simp only [gx, gy] at ex ey ⊢
        cases px with
        | none => simp [apartPos] at hap
        | some bx =>
          cases py with
          | none => simp [apartPos] at hap
          | some bY =>
            have hne : bx ≠ bY := fun e => by subst e; simp [apartPos] at hap
            obtain ⟨ux, rfl, hx'⟩ := act_local x hx0 ex
            obtain ⟨uy, rfl, hy'⟩ := act_local y hy0 ey
            refine ⟨upd mem bY uy, hy' mem (upd_get hne ux).symm, ?_⟩
            rw [hx' (upd mem bY uy) (upd_get (Ne.symm hne) uy), upd_comm hne]

theorem swap {x y : Oper} {px py : Option Nat} (hpos : memClass x.op = 2 → memClass y.op = 2 → px ≠ py) (ok : swapOk ops (x, px) (y, py) = true) {st s1 s2 : St} (hw : WF st) (h1 : stepG P call ops x px st = some s1) (h2 : stepG P call ops y py s1 = some s2) :
    ∃ s1', stepG P call ops y py st = some s1' ∧ stepG P call ops x px s1' = some s2 := by
  unfold swapOk at ok
  rw [Bool.and_eq_true] at ok
  obtain ⟨hap, hcl⟩ := ok
  obtain ⟨a1, a2, a3⟩ := Oper.apart_spec hap
  obtain ⟨tm, mem⟩ := st
  rw [stepG_eq] at h1
  obtain ⟨vx, mx, ex, rfl⟩ := map_put h1
  rw [stepG_eq] at h2
  obtain ⟨vy, my, ey, rfl⟩ := map_put h2
  simp only at ex ey
  have agY : ∀ (m : Mem) t, t ∈ y.looksAt ops → (St.mk (putL tm x.dst vx) m).tmps[t]? = (St.mk tm m).tmps[t]? := fun m t ht => putL_get fun d hd e => a1 d hd (e ▸ ht)
  have agX : ∀ (m : Mem) (u : Value) t, t ∈ x.looksAt ops → (St.mk (putL tm y.dst u) m).tmps[t]? = (St.mk tm m).tmps[t]? := fun m u t ht => putL_get fun d hd e => a3 d hd (e ▸ ht)
  have ey' : actG P call ops py ⟨tm, mx⟩ y = some (vy, my) := by
    rw [← actG_congr (P := P) (call := call) (ops := ops) (st := ⟨putL tm x.dst vx, mx⟩) (st' := ⟨tm, mx⟩) y rfl (agY mx)]; exact ey
  obtain ⟨m1, k1, k2⟩ := swap_mem hpos hcl hw ex ey'
  refine ⟨⟨putL tm y.dst vy, m1⟩, ?_, ?_⟩
  · rw [stepG_eq, k1]; rfl
  · rw [stepG_eq, actG_congr (P := P) (call := call) (ops := ops) (st := ⟨putL tm y.dst vy, m1⟩) (st' := ⟨tm, m1⟩) x rfl (agX m1 vy), k2]
    simp only [Option.map_some, Option.some.injEq]
    rw [putL_comm tm vx vy a2]

theorem front {y : Oper} {py : Option Nat} {post : List (Oper × Option Nat)} {s : St} : ∀ (pre : List (Oper × Option Nat)) (st : St), WF st → (∀ x ∈ pre, swapOk ops x (y, py) = true ∧ (memClass x.1.op = 2 → memClass y.op = 2 → x.2 ≠ py)) → runList P call ops (pre ++ (y, py) :: post) st = some s →
    ∃ s1, stepG P call ops y py st = some s1 ∧ runList P call ops (pre ++ post) s1 = some s
  | [], st, _, _, h => by
    simp only [List.nil_append, runList] at h
    cases hs : stepG P call ops y py st with
    | none => simp [hs] at h
    | some s1 => simp only [hs] at h; exact ⟨s1, rfl, h⟩
  | (x, px) :: pre, st, hw, hok, h => by
    simp only [List.cons_append, runList] at h
    cases hs : stepG P call ops x px st with
    | none => simp [hs] at h
    | some s' =>
      simp only [hs] at h
      obtain ⟨s2, h2, h3⟩ := front pre s' (stepG_wf hw hs) (fun z hz => hok z (by simp [hz])) h
      obtain ⟨s1, k1, k2⟩ := swap (hok (x, px) (by simp)).2 (hok (x, px) (by simp)).1 hw hs h2
      exact ⟨s1, k1, by simp only [List.cons_append, runList, k2]; exact h3⟩

end
end Go.Proofs.Ytagnkjdobkdhmaa.Vx

/-
  The sort of a list of indices. Nothing here is trusted.
-/
import Derived.Test.YtjpfnfckpgilgaaHSortV
import Derived.Test.YtjpfnfckpgilgaaKai
import Derived.Test.YtjpfnfckpgilgaaKak
import Derived.Test.YtjpfnfckpgilgaaHTHk0
namespace Go.Proofs.Ytjpfnfckpgilgaa
open Go Vx Go.Shelf Go.RowKit Go.Sort
/-! Lists in order of a ky -/
section
variable {α : Type} (ky : α → List Int)
def insK (o : α) : List α → List α
  | [] => [o]
  | x :: l => match decide (lexI (ky x) (ky o) < 0) with
    | true => x :: insK o l
    | false => o :: x :: l
def sortK : List α → List α
  | [] => []
  | o :: l => insK ky o (sortK l)
def SortedK (l : List α) : Prop := l.Pairwise fun a b => lexI (ky a) (ky b) ≤ 0
theorem insK_perm (o : α) : ∀ (l : List α), (insK ky o l).Perm (o :: l)
  | [] => List.Perm.refl _
  | x :: l => by
    simp only [insK]
    split
    · exact ((insK_perm o l).cons x).trans (List.Perm.swap o x l)
    · exact List.Perm.refl _
theorem sortK_perm : ∀ (l : List α), (sortK ky l).Perm l
  | [] => List.Perm.refl _
  | o :: l => (insK_perm ky o (sortK ky l)).trans ((sortK_perm l).cons o)
theorem sortK_len (l : List α) : (sortK ky l).length = l.length := (sortK_perm ky l).length_eq
variable {c : Nat} (hc : ∀ a, (ky a).length = c)
include hc
theorem insK_sorted (o : α) : ∀ (l : List α), SortedK ky l → SortedK ky (insK ky o l)
  | [], _ => by simp [insK, SortedK]
  | x :: l, h => by
    unfold SortedK at h
    rw [List.pairwise_cons] at h
    simp only [insK]
    split
    · rename_i hd
      have hd' : lexI (ky x) (ky o) < 0 := by simpa using hd
      unfold SortedK
      rw [List.pairwise_cons]
      refine ⟨fun y hy => ?_, insK_sorted o l h.2⟩
      rcases List.mem_cons.1 ((insK_perm ky o l).mem_iff.1 hy) with rfl | hy
      · omega
      · exact h.1 y hy
    · rename_i hd
      have hd' : ¬ lexI (ky x) (ky o) < 0 := by simpa using hd
      have ho : lexI (ky o) (ky x) ≤ 0 := by rw [lexI_neg (ky x) (ky o)]; omega
      unfold SortedK
      rw [List.pairwise_cons]
      refine ⟨fun y hy => ?_, List.pairwise_cons.2 h⟩
      rcases List.mem_cons.1 hy with rfl | hy
      · exact ho
      · exact lexI_trans (by rw [hc, hc]) (by rw [hc, hc]) ho (h.1 y hy)
theorem sortK_sorted : ∀ (l : List α), SortedK ky (sortK ky l)
  | [] => List.Pairwise.nil
  | o :: l => insK_sorted ky hc o _ (sortK_sorted l)
theorem sortedK_one (hi : ∀ a b, ky a = ky b → a = b) : ∀ {l m : List α}, SortedK ky l → SortedK ky m → l.Perm m → l = m
  | [], m, _, _, hp => by rw [List.nil_perm.1 hp]
  | x :: l, m, hl, hm, hp => by
    cases m with
    | nil => exact absurd hp.symm (by simp)
    | cons y m =>
      unfold SortedK at hl hm
      rw [List.pairwise_cons] at hl hm
      have hxy : x = y := by
        have hx : x ∈ y :: m := hp.mem_iff.1 (by simp)
        have hy : y ∈ x :: l := hp.mem_iff.2 (by simp)
        rcases List.mem_cons.1 hx with rfl | hx
        · rfl
        · rcases List.mem_cons.1 hy with rfl | hy
          · rfl
          · have h1 := hm.1 x hx
            have h2 := hl.1 y hy
            have h3 := lexI_neg (ky x) (ky y)
            exact hi _ _ ((lexI_zero (by rw [hc, hc])).1 (by omega))
      subst hxy
      rw [sortedK_one hi hl.2 hm.2 ((List.perm_cons x).1 hp)]
end
theorem insK_map {α β : Type} (f : α → β) (k : α → List Int) (k2 : β → List Int) (h : ∀ a, k2 (f a) = k a) (o : α) : ∀ (l : List α), (insK k o l).map f = insK k2 (f o) (l.map f)
  | [] => rfl
  | x :: l => by
    simp only [insK, List.map_cons, h]
    cases decide (lexI (k x) (k o) < 0) with
    | true => simp only [List.map_cons]; rw [insK_map f k k2 h o l]
    | false => rfl
theorem sortK_map {α β : Type} (f : α → β) (k : α → List Int) (k2 : β → List Int) (h : ∀ a, k2 (f a) = k a) : ∀ (l : List α), (sortK k l).map f = sortK k2 (l.map f)
  | [] => rfl
  | o :: l => by
    simp only [sortK, List.map_cons]
    rw [insK_map f k k2 h, sortK_map f k k2 h l]
theorem cmpR_val (a b : Int) : cmpR a b = if a < b then -1 else if a > b then 1 else 0 := by
  unfold cmpR
  by_cases h1 : a < b
  · rw [if_pos h1]
    simp [cmpT, chainL, h1, nth]
  · rw [if_neg h1]
    by_cases h2 : a > b
    · rw [if_pos h2]; simp [cmpT, chainL, h1, h2, nth]
    · rw [if_neg h2]; simp [cmpT, chainL, h1, h2, nth]
theorem lex_step (a b : Int) (l m : List Int) : lexI (a :: l) (b :: m) = (match cmpR a b != 0 with
    | true => cmpR a b
    | false => lexI l m) := by
  rw [cmpR_val]
  simp only [lexI]
  by_cases h1 : a < b
  · rw [if_pos h1, if_pos h1]; rfl
  · rw [if_neg h1, if_neg h1]
    by_cases h2 : a > b
    · rw [if_pos h2, if_pos h2]; rfl
    · rw [if_neg h2, if_neg h2]; rfl
/-! Indices -/
def Vx.V3.key (a : V3) : List Int := a.l
def Vx.V3.cmp (a b : V3) : Int := lexI a.key b.key
theorem V3.key_inj (a b : V3) (h : a.key = b.key) : a = b := by
  obtain ⟨x, y, z⟩ := a
  obtain ⟨x2, y2, z2⟩ := b
  simp only [V3.key, V3.l, List.cons.injEq, and_true] at h
  obtain ⟨rfl, rfl, rfl⟩ := h
  rfl
theorem V3.key_len (a : V3) : a.key.length = 3 := rfl
theorem vcRow_get {Y : List V3} {q : Nat} (h : q < Y.length) : vcRow Y q = (Y[q]).cells := by unfold vcRow; rw [List.getElem?_eq_getElem h]; rfl
theorem vcmpSem (a b : V3) : PlainSem Try.prog 109 [a.v, b.v] (vI (a.cmp b)) :=
  okChk.tbl 109 [a.v, b.v] (vI (a.cmp b)) (by intro x hx; simp only [List.mem_cons, List.not_mem_nil, or_false] at hx; rcases hx with rfl | rfl <;> rfl) (by kernel_rfl) rfl
theorem vlt_t {x y : V3} : Go.Proofs.ltOf V3.cmp x y = true ↔ lexI x.key y.key < 0 := decide_eq_true_iff
theorem vlt_f {x y : V3} : Go.Proofs.ltOf V3.cmp x y = false ↔ ¬ lexI x.key y.key < 0 := decide_eq_false_iff_not
theorem vcmp_swo : Go.Sort.SWO (Go.Proofs.ltOf V3.cmp) where
  irrefl x := by
    have := (lexI_zero (l := x.key) (m := x.key) rfl).2 rfl
    rw [vlt_f, this]
    omega
  trans x y z h1 h2 := by
    rw [vlt_t] at *
    have h3 := lexI_trans (l := x.key) (m := y.key) (n := z.key) rfl rfl (by omega) (by omega)
    by_cases h0 : lexI x.key z.key = 0
    · have e := (lexI_zero (l := x.key) (m := z.key) rfl).1 h0
      rw [e, lexI_neg y.key z.key] at h1
      omega
    · omega
  ntrans x y z h1 h2 := by
    rw [vlt_f] at *
    have e1 := lexI_neg x.key y.key
    have e2 := lexI_neg y.key z.key
    have e3 := lexI_neg x.key z.key
    have h3 := lexI_trans (l := z.key) (m := y.key) (n := x.key) rfl rfl (by omega) (by omega)
    omega
theorem V3.cells_len (a : V3) : a.cells.length = 3 := rfl
theorem V3.cells_plain (a : V3) : allL plain0 a.cells = true := rfl
theorem V3.cells_cell (o : V3) (k : Nat) (hk : k < 3) : o.cells[k]? = some o.cells[k]! ∧ plain0 o.cells[k]! = true := by
  match k, hk with
  | 0, _ => exact ⟨rfl, rfl⟩
  | 1, _ => exact ⟨rfl, rfl⟩
  | 2, _ => exact ⟨rfl, rfl⟩
  | k + 3, h => omega
instance : Inhabited V3 := ⟨V3.zero⟩
theorem sorted_listV {d d' : Array V3} (hp : Go.Sort.PermIn 0 d.size d d') (hs : Go.Sort.SortedIn (Go.Proofs.ltOf V3.cmp) 0 d.size d') : d'.toList = sortK V3.key d.toList := by
  obtain ⟨h1, -, h3⟩ := hp
  rw [Array.extract_size, show d'.extract 0 d.size = d' by rw [← h1, Array.extract_size]] at h3
  refine sortedK_one V3.key V3.key_len V3.key_inj ?_ (sortK_sorted V3.key V3.key_len _) (h3.trans (sortK_perm V3.key _).symm)
  unfold SortedK
  rw [List.pairwise_iff_getElem]
  intro i j hi hj hij
  have hi' : i < d'.size := by simpa using hi
  have hj' : j < d'.size := by simpa using hj
  have h := hs i j (Nat.zero_le _) hij (by omega)
  rw [getElem!_pos d' j hj', getElem!_pos d' i hi', vlt_f] at h
  have h4 := lexI_neg d'[j].key d'[i].key
  simp only [Array.getElem_toList]
  omega
theorem vcRow_arr {xs : List V3} {i : Nat} (hi : i < xs.length) : vcRow xs i = (xs.toArray[i]!).cells := by
  rw [vcRow_get (by simpa using hi), getElem!_pos xs.toArray i (by simpa using hi)]
  rfl
theorem holds_vcs {w : World} {r : Vx.Ren} {p : Vx.Place} {xs : List V3} (h : BlkRel w r p (.rows true true 3 xs.length (vcRow xs))) : HoldsK V3.cells 3 w p.blk p.off xs.toArray := by
  obtain ⟨_, _, _, _, cs, T, fz, _, h3, h4, h5⟩ := h
  obtain ⟨rfl, -⟩ := h4 rfl
  intro t ht
  rw [size_flatK] at ht
  have ht' : t < xs.length * 3 := by simpa using ht
  rw [get_flatK _ _ _ t ht]
  have hi : t / 3 < xs.length := by omega
  obtain ⟨h6, h7⟩ := V3.cells_cell (xs.toArray[t / 3]!) (t % 3) (by omega)
  obtain ⟨v', h8, h9⟩ := (h5 (t / 3) hi).2 (t % 3) _ (by rw [vcRow_arr hi]; exact h6)
  rw [R0_plain h7] at h9
  subst h9
  refine ⟨?_, ?_⟩
  · rw [show p.off + t = p.off + t / 3 * 3 + t % 3 by omega, cell_of h3]
    exact h8
  · simp [World.frozen?, h3]
theorem put_onlyV (w : World) (blk off : Nat) (d : Array V3) : Only blk w (putRowK V3.cells 3 w blk off d) := by
  refine ⟨fun k hk => ?_, ?_, rfl, rfl, rfl, rfl⟩
  · simp only [putRowK, Go.Sort.putRow, Go.Sort.mapBlock, Array.getElem?_modify, if_neg (Ne.symm hk)]
  · simp only [putRowK, Go.Sort.putRow, Go.Sort.mapBlock, Array.size_modify]
theorem put_relV {w : World} {r : Vx.Ren} {p : Vx.Place} {xs ys : List V3} (hl : ys.length = xs.length) (h : BlkRel w r p (.rows true true 3 xs.length (vcRow xs))) : BlkRel (putRowK V3.cells 3 w p.blk p.off ys.toArray) r p (.rows true true 3 xs.length (vcRow ys)) := by
  have hh := holdsK_putRowK V3.cells 3 w p.blk p.off xs.toArray ys.toArray (holds_vcs h) (by simpa using hl)
  obtain ⟨h1, h2, h0, _, cs, T, fz, h6, h3, h4, h5⟩ := h
  have hw : (putRowK V3.cells 3 w p.blk p.off ys.toArray).heap[p.blk]? = some (.cells (Go.Sort.putCells id p.off (flatK V3.cells 3 ys.toArray) cs) T fz) := by
    simp only [putRowK, Go.Sort.putRow, Go.Sort.mapBlock, Array.getElem?_modify, h3]
    rfl
  refine ⟨h1, h2, h0, fun _ i hi => ?_, _, T, fz, h6, hw, fun ho => ⟨(h4 ho).1, by simpa [Go.Sort.putCells] using (h4 ho).2⟩, fun i hi => ⟨?_, fun k v hv => ?_⟩⟩
  · rw [vcRow_arr (by omega : i < ys.length)]
    exact V3.cells_plain _
  · rw [vcRow_arr (by omega : i < ys.length)]
    rfl
  have hi' : i < ys.length := by omega
  rw [vcRow_arr hi'] at hv
  have hk : k < 3 := (List.getElem?_eq_some_iff.1 hv).1
  obtain ⟨h7, h8⟩ := V3.cells_cell (ys.toArray[i]!) k hk
  rw [h7] at hv
  have ht : i * 3 + k < ys.toArray.size * 3 := by simp; omega
  have := (hh (i * 3 + k) (by rw [size_flatK]; exact ht)).1
  rw [get_flatK _ _ _ _ ht, show (i * 3 + k) / 3 = i by omega, show (i * 3 + k) % 3 = k by omega] at this
  simp only [World.cell?, hw, id] at this
  simp only [Option.some.injEq] at hv
  subst hv
  exact ⟨_, by rw [Nat.add_assoc]; exact this, (R0_plain h8).2 rfl⟩
theorem cmpLaysV (blk off size : Nat) (w : World) : CmpLays Try.prog 109 #[] (V3.cells ) 3 V3.cmp blk off size w := fun _ _ _ _ x y =>
  ((vcmpSem x y).2 _).mono fun _ _ ⟨he, hb, hd⟩ => ⟨he, below_grow hb hd⟩
theorem sortSemV0 (xs : List V3) (hl : xs.length ≤ 1000) : MemSem Try.prog 108 [.slice (some ⟨0, 0, some 0⟩) xs.length 3, .func (.func 109) #[] #[]] [.rows true true 3 xs.length (vcRow xs)] (.tuple #[]) [.rows true true 3 xs.length (vcRow (sortK V3.key xs))] := by
  refine ⟨okFunc_spec (by kernel_rfl), fun w0 keep r args' w ha hm => ?_⟩
  match args', ha with
  | [a', f'], ha =>
    obtain ⟨h1, h2, -⟩ := ha
    have hf : f' = .func (.func 109) #[] #[] := (R_plain (v := .func (.func 109) #[] #[]) rfl).1 h2
    subst hf
    have h1' : R0 r (.slice (some ⟨0, 0, some 0⟩) xs.length 3) a' := h1
    unfold R0 at h1'
    simp only at h1'
    cases hr : r 0 with
    | none => rw [hr] at h1'; exact h1'.elim
    | some q =>
      rw [hr] at h1'
      cases q with
      | none => have := hm.dead 0 hr; simp at this
      | some p =>
        obtain ⟨c, rfl, hsl⟩ := h1'
        obtain ⟨k, hk1, hk2⟩ := hm.blk 0 p hr
        simp only [List.getElem?_cons_zero, Option.some.injEq] at hk1
        subst hk1
        have hown : p.own = true := hk2.1
        have hcon := AnyQ.slices_SortFunc sortVc 3 Try.isAgg26 Try.sizeOf26 V3.cells V3.cells_len (fun x v hv => by
          have := allL_iff.1 (V3.cells_plain x) v hv
          cases v <;> first | rfl | cases this) V3.cmp vcmp_swo 109 #[] p.blk p.off c xs.toArray w (enters_of Try.func109 (by kernel_rfl) rfl) (cmpLaysV _ _ _ _) (holds_vcs hk2) hk2.lt (by simp; omega)
        change Calls Try.prog 108 _ _ _ at hcon
        have hadr : p.addr ⟨0, 0, some 0⟩ = ⟨p.blk, p.off, none⟩ := by simp [Vx.Place.addr]
        rw [hadr]
        have hsz : xs.toArray.size = xs.length := by simp
        rw [hsz] at hcon
        refine hcon.mono ?_
        rintro e w' ⟨rfl, d', n, os, hp, hs, rfl⟩
        have hd : d'.toList = sortK V3.key xs := by
          have := sorted_listV (d := xs.toArray) (d' := d') (by rw [hsz]; exact hp) (by rw [hsz]; exact hs)
          simpa using this
        have hd2 : d' = (sortK V3.key xs).toArray := by rw [← hd]
        subst hd2
        refine ⟨.tuple #[], r, rfl, ⟨#[], rfl, trivial⟩, ?_, Ext.refl r⟩
        unfold sortWorldK
        have m1 := hm.later (below_ahead w n) (by simp [Go.Sort.ahead])
        have b1 : BlkRel (Go.Sort.ahead w n) r p (.rows true true 3 xs.length (vcRow xs)) := hk2.mono rfl (Ext.refl r)
        have m2 := m1.turn hr hown (by simp [isGrow]) (put_onlyV _ _ _ _) (put_relV (ys := sortK V3.key xs) (sortK_len V3.key xs) b1)
        exact m2.later (below_grown _ os) (Nat.le_refl _)
  | [], ha => exact ha.elim
  | [_], ha => exact ha.2.elim
  | _ :: _ :: _ :: _, ha => exact ha.2.2.elim
end Go.Proofs.Ytjpfnfckpgilgaa

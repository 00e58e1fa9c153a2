/-
  Rows of int8 and int16 in memory. Nothing here is trusted.
-/
import Derived.Test.YtagnkjdobkdhmabWmL
namespace Go.Proofs.Ytagnkjdobkdhmab.Vx
open Go
def i8s : List Value → Option (List Int)
  | [] => some []
  | .int .i8 n :: l => match i8s l with
    | some r => some (n :: r)
    | none => none
  | _ => none
theorem i8s_spec : ∀ {l : List Value} {r : List Int}, i8s l = some r → l = r.map (.int .i8)
  | [], r, h => by simp [i8s] at h; subst h; rfl
  | v :: l, r, h => by
    unfold i8s at h
    split at h
    · rename_i heq; cases heq
    · rename_i n l' heq
      simp only [List.cons.injEq] at heq
      obtain ⟨rfl, rfl⟩ := heq
      split at h
      · rename_i q hq
        simp only [Option.some.injEq] at h
        subst h
        rw [List.map_cons, ← i8s_spec hq]
      · cases h
    · cases h
def i16s : List Value → Option (List Int)
  | [] => some []
  | .int .i16 n :: l => match i16s l with
    | some r => some (n :: r)
    | none => none
  | _ => none
theorem i16s_spec : ∀ {l : List Value} {r : List Int}, i16s l = some r → l = r.map (.int .i16)
  | [], r, h => by simp [i16s] at h; subst h; rfl
  | v :: l, r, h => by
    unfold i16s at h
    split at h
    · rename_i heq; cases heq
    · rename_i n l' heq
      simp only [List.cons.injEq] at heq
      obtain ⟨rfl, rfl⟩ := heq
      split at h
      · rename_i q hq
        simp only [Option.some.injEq] at h
        subst h
        rw [List.map_cons, ← i16s_spec hq]
      · cases h
    · cases h
structure N9 where
  m : M3
structure S3 where
  v : V3
def N9.cells (n : N9) : List Value := [.int .i8 n.m.a, .int .i8 n.m.b, .int .i8 n.m.c, .int .i8 n.m.d, .int .i8 n.m.e, .int .i8 n.m.f, .int .i8 n.m.g, .int .i8 n.m.h, .int .i8 n.m.i]
def S3.cells (n : S3) : List Value := [.int .i16 n.v.x, .int .i16 n.v.y, .int .i16 n.v.z]
def n9Cells (l : List Value) : Option N9 := match i8s l with
  | some [a, b, c, d, e, f, g, h, i] => some ⟨⟨a, b, c, d, e, f, g, h, i⟩⟩
  | _ => none
theorem n9Cells_spec {l : List Value} {o : N9} (h : n9Cells l = some o) : l = o.cells := by
  unfold n9Cells at h
  split at h
  · rename_i hq
    simp only [Option.some.injEq] at h
    subst h
    rw [i8s_spec hq]; rfl
  · cases h
def s3Cells (l : List Value) : Option S3 := match i16s l with
  | some [x, y, z] => some ⟨⟨x, y, z⟩⟩
  | _ => none
theorem s3Cells_spec {l : List Value} {o : S3} (h : s3Cells l = some o) : l = o.cells := by
  unfold s3Cells at h
  split at h
  · rename_i hq
    simp only [Option.some.injEq] at h
    subst h
    rw [i16s_spec hq]; rfl
  · cases h
end Go.Proofs.Ytagnkjdobkdhmab.Vx

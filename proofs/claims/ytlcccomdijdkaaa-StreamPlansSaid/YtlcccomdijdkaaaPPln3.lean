import Derived.Test.YtlcccomdijdkaaaProg
import Derived.Test.YtlcccomdijdkaaaPPln2
import Derived.Shelf.Abstract
namespace Go.Proofs.Ytlcccomdijdkaaa
open Go.RowKit Go.Shelf Go.Proofs.Try
theorem ty3 : TyOK Go.Proofs.Try.prog 3 ⟨.int .i64, 1, [.int .i64 0], false, 8⟩ := ⟨by kernel_rfl, by kernel_rfl, by kernel_rfl, rfl, fun h => by cases h⟩
theorem ty5 : TyOK Go.Proofs.Try.prog 5 ⟨.int .u8, 1, [.int .u8 0], false, 1⟩ := ⟨by kernel_rfl, by kernel_rfl, by kernel_rfl, rfl, fun h => by cases h⟩
theorem eq23 : (true : Bool) = true → ∀ (xs ys : List Int) (w : World), xs.length = 2 → ys.length = 2 → (Op.equal 23 (.agg (xs.map (Value.int .i64)).toArray) (.agg (ys.map (Value.int .i64)).toArray)).run Go.Proofs.Try.prog w = .ok (eqL xs ys) w ∧ Go.Proofs.Try.prog.eqGuardType Go.Proofs.Try.prog.depth 23 = false := by
  intro _ xs ys w hx hy
  match xs, hx, ys, hy with
  | [x0, x1], _, [y0, y1], _ =>
    refine ⟨?_, by kernel_rfl⟩
    have f : Op.equal 23 = Op.equalIn (9999 + 1) 23 := rfl
    have u23 : Go.Proofs.Try.prog.underlying 23 = some (.struct (Go.Proofs.Try.prog.fieldsOf 23)) := by kernel_rfl
    have s23 : Go.Proofs.Try.prog.stoodInHeld 23 = false := by kernel_rfl
    rw [f, run_equalIn_struct w 9999 23 _ _ u23 s23]
    by_cases h0 : x0 = y0 <;> by_cases h1 : x1 = y1 <;> simp [go_sem, eqL, h0, h1]
theorem ty23 : TyOK Go.Proofs.Try.prog 23 ⟨.str [(0, 1, false), (1, 1, false)], 2, [.int .i64 0, .int .i64 0], true, 16⟩ := ⟨by kernel_rfl, by kernel_rfl, by kernel_rfl, rfl, eq23⟩
theorem eq25 : (true : Bool) = true → ∀ (xs ys : List Int) (w : World), xs.length = 4 → ys.length = 4 → (Op.equal 25 (.agg (xs.map (Value.int .i64)).toArray) (.agg (ys.map (Value.int .i64)).toArray)).run Go.Proofs.Try.prog w = .ok (eqL xs ys) w ∧ Go.Proofs.Try.prog.eqGuardType Go.Proofs.Try.prog.depth 25 = false := by
  intro _ xs ys w hx hy
  match xs, hx, ys, hy with
  | [x0, x1, x2, x3], _, [y0, y1, y2, y3], _ =>
    refine ⟨?_, by kernel_rfl⟩
    have f : Op.equal 25 = Op.equalIn (9999 + 1) 25 := rfl
    have u25 : Go.Proofs.Try.prog.underlying 25 = some (.struct (Go.Proofs.Try.prog.fieldsOf 25)) := by kernel_rfl
    have s25 : Go.Proofs.Try.prog.stoodInHeld 25 = false := by kernel_rfl
    have u23 : Go.Proofs.Try.prog.underlying 23 = some (.struct (Go.Proofs.Try.prog.fieldsOf 23)) := by kernel_rfl
    have s23 : Go.Proofs.Try.prog.stoodInHeld 23 = false := by kernel_rfl
    rw [f, run_equalIn_struct w 9999 25 _ _ u25 s25]
    by_cases h0 : x0 = y0 <;> by_cases h1 : x1 = y1 <;> by_cases h2 : x2 = y2 <;> by_cases h3 : x3 = y3 <;> simp [go_sem, eqL, h0, h1, h2, h3]
theorem ty25 : TyOK Go.Proofs.Try.prog 25 ⟨.str [(0, 2, true), (2, 2, true)], 4, [.int .i64 0, .int .i64 0, .int .i64 0, .int .i64 0], true, 32⟩ := ⟨by kernel_rfl, by kernel_rfl, by kernel_rfl, rfl, eq25⟩
theorem ty26 : TyOK Go.Proofs.Try.prog 26 ⟨.sli 47 9, 1, [.slice none 0 0], false, 24⟩ := ⟨by kernel_rfl, by kernel_rfl, by kernel_rfl, rfl, fun h => by cases h⟩
theorem ty29 : TyOK Go.Proofs.Try.prog 29 ⟨.sli 25 4, 1, [.slice none 0 0], false, 24⟩ := ⟨by kernel_rfl, by kernel_rfl, by kernel_rfl, rfl, fun h => by cases h⟩
theorem ty30 : TyOK Go.Proofs.Try.prog 30 ⟨.int .i64, 1, [.int .i64 0], false, 8⟩ := ⟨by kernel_rfl, by kernel_rfl, by kernel_rfl, rfl, fun h => by cases h⟩
theorem ty33 : TyOK Go.Proofs.Try.prog 33 ⟨.sli 3 1, 1, [.slice none 0 0], false, 24⟩ := ⟨by kernel_rfl, by kernel_rfl, by kernel_rfl, rfl, fun h => by cases h⟩
theorem ty42 : TyOK Go.Proofs.Try.prog 42 ⟨.sli 67 4, 1, [.slice none 0 0], false, 24⟩ := ⟨by kernel_rfl, by kernel_rfl, by kernel_rfl, rfl, fun h => by cases h⟩
theorem ty47 : TyOK Go.Proofs.Try.prog 47 ⟨.str [(0, 1, false), (1, 2, true), (3, 2, true), (5, 2, true), (7, 2, true)], 9, [.int .i64 0, .int .i64 0, .int .i64 0, .int .i64 0, .int .i64 0, .int .i64 0, .int .i64 0, .int .i64 0, .int .i64 0], false, 72⟩ := ⟨by kernel_rfl, by kernel_rfl, by kernel_rfl, rfl, fun h => by cases h⟩
theorem ty48 : TyOK Go.Proofs.Try.prog 48 ⟨.int .u32, 1, [.int .u32 0], false, 4⟩ := ⟨by kernel_rfl, by kernel_rfl, by kernel_rfl, rfl, fun h => by cases h⟩
theorem ty49 : TyOK Go.Proofs.Try.prog 49 ⟨.arr 4 1 false, 4, [.int .u32 0, .int .u32 0, .int .u32 0, .int .u32 0], false, 16⟩ := ⟨by kernel_rfl, by kernel_rfl, by kernel_rfl, rfl, fun h => by cases h⟩
theorem ty50 : TyOK Go.Proofs.Try.prog 50 ⟨.one, 1, [.nilFunc], false, 8⟩ := ⟨by kernel_rfl, by kernel_rfl, by kernel_rfl, rfl, fun h => by cases h⟩
theorem ty54 : TyOK Go.Proofs.Try.prog 54 ⟨.sli 48 1, 1, [.slice none 0 0], false, 24⟩ := ⟨by kernel_rfl, by kernel_rfl, by kernel_rfl, rfl, fun h => by cases h⟩
theorem ty59 : TyOK Go.Proofs.Try.prog 59 ⟨.int .u16, 1, [.int .u16 0], false, 2⟩ := ⟨by kernel_rfl, by kernel_rfl, by kernel_rfl, rfl, fun h => by cases h⟩
theorem ty61 : TyOK Go.Proofs.Try.prog 61 ⟨.one, 1, [.nilFunc], false, 8⟩ := ⟨by kernel_rfl, by kernel_rfl, by kernel_rfl, rfl, fun h => by cases h⟩
theorem ty63 : TyOK Go.Proofs.Try.prog 63 ⟨.sli 5 1, 1, [.slice none 0 0], false, 24⟩ := ⟨by kernel_rfl, by kernel_rfl, by kernel_rfl, rfl, fun h => by cases h⟩
theorem ty67 : TyOK Go.Proofs.Try.prog 67 ⟨.str [(0, 1, false), (1, 1, false), (2, 1, false), (3, 1, false)], 4, [.int .i64 0, .int .i64 0, .int .i64 0, .int .i64 0], false, 32⟩ := ⟨by kernel_rfl, by kernel_rfl, by kernel_rfl, rfl, fun h => by cases h⟩
theorem ty76 : TyOK Go.Proofs.Try.prog 76 ⟨.one, 1, [.nilFunc], false, 8⟩ := ⟨by kernel_rfl, by kernel_rfl, by kernel_rfl, rfl, fun h => by cases h⟩
theorem ty85 : TyOK Go.Proofs.Try.prog 85 ⟨.arr 168 1 false, 168, [.int .i64 0, .int .i64 0, .int .i64 0, .int .i64 0, .int .i64 0, .int .i64 0, .int .i64 0, .int .i64 0, .int .i64 0, .int .i64 0, .int .i64 0, .int .i64 0, .int .i64 0, .int .i64 0, .int .i64 0, .int .i64 0, .int .i64 0, .int .i64 0, .int .i64 0, .int .i64 0, .int .i64 0, .int .i64 0, .int .i64 0, .int .i64 0, .int .i64 0, .int .i64 0, .int .i64 0, .int .i64 0, .int .i64 0, .int .i64 0, .int .i64 0, .int .i64 0, .int .i64 0, .int .i64 0, .int .i64 0, .int .i64 0, .int .i64 0, .int .i64 0, .int .i64 0, .int .i64 0, .int .i64 0, .int .i64 0, .int .i64 0, .int .i64 0, .int .i64 0, .int .i64 0, .int .i64 0, .int .i64 0, .int .i64 0, .int .i64 0, .int .i64 0, .int .i64 0, .int .i64 0, .int .i64 0, .int .i64 0, .int .i64 0, .int .i64 0, .int .i64 0, .int .i64 0, .int .i64 0, .int .i64 0, .int .i64 0, .int .i64 0, .int .i64 0, .int .i64 0, .int .i64 0, .int .i64 0, .int .i64 0, .int .i64 0, .int .i64 0, .int .i64 0, .int .i64 0, .int .i64 0, .int .i64 0, .int .i64 0, .int .i64 0, .int .i64 0, .int .i64 0, .int .i64 0, .int .i64 0, .int .i64 0, .int .i64 0, .int .i64 0, .int .i64 0, .int .i64 0, .int .i64 0, .int .i64 0, .int .i64 0, .int .i64 0, .int .i64 0, .int .i64 0, .int .i64 0, .int .i64 0, .int .i64 0, .int .i64 0, .int .i64 0, .int .i64 0, .int .i64 0, .int .i64 0, .int .i64 0, .int .i64 0, .int .i64 0, .int .i64 0, .int .i64 0, .int .i64 0, .int .i64 0, .int .i64 0, .int .i64 0, .int .i64 0, .int .i64 0, .int .i64 0, .int .i64 0, .int .i64 0, .int .i64 0, .int .i64 0, .int .i64 0, .int .i64 0, .int .i64 0, .int .i64 0, .int .i64 0, .int .i64 0, .int .i64 0, .int .i64 0, .int .i64 0, .int .i64 0, .int .i64 0, .int .i64 0, .int .i64 0, .int .i64 0, .int .i64 0, .int .i64 0, .int .i64 0, .int .i64 0, .int .i64 0, .int .i64 0, .int .i64 0, .int .i64 0, .int .i64 0, .int .i64 0, .int .i64 0, .int .i64 0, .int .i64 0, .int .i64 0, .int .i64 0, .int .i64 0, .int .i64 0, .int .i64 0, .int .i64 0, .int .i64 0, .int .i64 0, .int .i64 0, .int .i64 0, .int .i64 0, .int .i64 0, .int .i64 0, .int .i64 0, .int .i64 0, .int .i64 0, .int .i64 0, .int .i64 0, .int .i64 0, .int .i64 0, .int .i64 0, .int .i64 0, .int .i64 0, .int .i64 0, .int .i64 0, .int .i64 0], false, 1344⟩ := ⟨by kernel_rfl, by kernel_rfl, by kernel_rfl, rfl, fun h => by cases h⟩
theorem ty87 : TyOK Go.Proofs.Try.prog 87 ⟨.sli 33 1, 1, [.slice none 0 0], false, 24⟩ := ⟨by kernel_rfl, by kernel_rfl, by kernel_rfl, rfl, fun h => by cases h⟩
theorem ty91 : TyOK Go.Proofs.Try.prog 91 ⟨.str [(0, 4, true), (4, 1, false)], 5, [.int .i64 0, .int .i64 0, .int .i64 0, .int .i64 0, .slice none 0 0], false, 56⟩ := ⟨by kernel_rfl, by kernel_rfl, by kernel_rfl, rfl, fun h => by cases h⟩
theorem ty95 : TyOK Go.Proofs.Try.prog 95 ⟨.int .u64, 1, [.int .u64 0], false, 8⟩ := ⟨by kernel_rfl, by kernel_rfl, by kernel_rfl, rfl, fun h => by cases h⟩
theorem ty97 : TyOK Go.Proofs.Try.prog 97 ⟨.one, 1, [.nilFunc], false, 8⟩ := ⟨by kernel_rfl, by kernel_rfl, by kernel_rfl, rfl, fun h => by cases h⟩
theorem ty109 : TyOK Go.Proofs.Try.prog 109 ⟨.one, 1, [.nilFunc], false, 8⟩ := ⟨by kernel_rfl, by kernel_rfl, by kernel_rfl, rfl, fun h => by cases h⟩
theorem ty111 : TyOK Go.Proofs.Try.prog 111 ⟨.sli 42 1, 1, [.slice none 0 0], false, 24⟩ := ⟨by kernel_rfl, by kernel_rfl, by kernel_rfl, rfl, fun h => by cases h⟩
theorem ty114 : TyOK Go.Proofs.Try.prog 114 ⟨.str [(0, 2, true), (2, 2, true)], 4, [.int .i64 0, .int .i64 0, .int .i64 0, .int .i64 0], false, 32⟩ := ⟨by kernel_rfl, by kernel_rfl, by kernel_rfl, rfl, fun h => by cases h⟩
theorem ty116 : TyOK Go.Proofs.Try.prog 116 ⟨.str [(0, 2, true)], 2, [.int .i64 0, .int .i64 0], false, 16⟩ := ⟨by kernel_rfl, by kernel_rfl, by kernel_rfl, rfl, fun h => by cases h⟩
theorem ty118 : TyOK Go.Proofs.Try.prog 118 ⟨.str [(0, 2, true)], 2, [.int .i64 0, .int .i64 0], false, 16⟩ := ⟨by kernel_rfl, by kernel_rfl, by kernel_rfl, rfl, fun h => by cases h⟩
theorem ty120 : TyOK Go.Proofs.Try.prog 120 ⟨.str [(0, 2, true), (2, 2, true)], 4, [.int .i64 0, .int .i64 0, .int .i64 0, .int .i64 0], false, 32⟩ := ⟨by kernel_rfl, by kernel_rfl, by kernel_rfl, rfl, fun h => by cases h⟩
theorem ty137 : TyOK Go.Proofs.Try.prog 137 ⟨.str [(0, 1, false), (1, 1, false)], 2, [.int .i64 0, .int .i64 0], false, 16⟩ := ⟨by kernel_rfl, by kernel_rfl, by kernel_rfl, rfl, fun h => by cases h⟩
def LAY : Lay := [(3, ⟨.int .i64, 1, [.int .i64 0], false, 8⟩), (5, ⟨.int .u8, 1, [.int .u8 0], false, 1⟩), (23, ⟨.str [(0, 1, false), (1, 1, false)], 2, [.int .i64 0, .int .i64 0], true, 16⟩), (25, ⟨.str [(0, 2, true), (2, 2, true)], 4, [.int .i64 0, .int .i64 0, .int .i64 0, .int .i64 0], true, 32⟩), (26, ⟨.sli 47 9, 1, [.slice none 0 0], false, 24⟩), (29, ⟨.sli 25 4, 1, [.slice none 0 0], false, 24⟩), (30, ⟨.int .i64, 1, [.int .i64 0], false, 8⟩), (33, ⟨.sli 3 1, 1, [.slice none 0 0], false, 24⟩), (42, ⟨.sli 67 4, 1, [.slice none 0 0], false, 24⟩), (47, ⟨.str [(0, 1, false), (1, 2, true), (3, 2, true), (5, 2, true), (7, 2, true)], 9, [.int .i64 0, .int .i64 0, .int .i64 0, .int .i64 0, .int .i64 0, .int .i64 0, .int .i64 0, .int .i64 0, .int .i64 0], false, 72⟩), (48, ⟨.int .u32, 1, [.int .u32 0], false, 4⟩), (49, ⟨.arr 4 1 false, 4, [.int .u32 0, .int .u32 0, .int .u32 0, .int .u32 0], false, 16⟩), (50, ⟨.one, 1, [.nilFunc], false, 8⟩), (54, ⟨.sli 48 1, 1, [.slice none 0 0], false, 24⟩), (59, ⟨.int .u16, 1, [.int .u16 0], false, 2⟩), (61, ⟨.one, 1, [.nilFunc], false, 8⟩), (63, ⟨.sli 5 1, 1, [.slice none 0 0], false, 24⟩), (67, ⟨.str [(0, 1, false), (1, 1, false), (2, 1, false), (3, 1, false)], 4, [.int .i64 0, .int .i64 0, .int .i64 0, .int .i64 0], false, 32⟩), (76, ⟨.one, 1, [.nilFunc], false, 8⟩), (85, ⟨.arr 168 1 false, 168, [.int .i64 0, .int .i64 0, .int .i64 0, .int .i64 0, .int .i64 0, .int .i64 0, .int .i64 0, .int .i64 0, .int .i64 0, .int .i64 0, .int .i64 0, .int .i64 0, .int .i64 0, .int .i64 0, .int .i64 0, .int .i64 0, .int .i64 0, .int .i64 0, .int .i64 0, .int .i64 0, .int .i64 0, .int .i64 0, .int .i64 0, .int .i64 0, .int .i64 0, .int .i64 0, .int .i64 0, .int .i64 0, .int .i64 0, .int .i64 0, .int .i64 0, .int .i64 0, .int .i64 0, .int .i64 0, .int .i64 0, .int .i64 0, .int .i64 0, .int .i64 0, .int .i64 0, .int .i64 0, .int .i64 0, .int .i64 0, .int .i64 0, .int .i64 0, .int .i64 0, .int .i64 0, .int .i64 0, .int .i64 0, .int .i64 0, .int .i64 0, .int .i64 0, .int .i64 0, .int .i64 0, .int .i64 0, .int .i64 0, .int .i64 0, .int .i64 0, .int .i64 0, .int .i64 0, .int .i64 0, .int .i64 0, .int .i64 0, .int .i64 0, .int .i64 0, .int .i64 0, .int .i64 0, .int .i64 0, .int .i64 0, .int .i64 0, .int .i64 0, .int .i64 0, .int .i64 0, .int .i64 0, .int .i64 0, .int .i64 0, .int .i64 0, .int .i64 0, .int .i64 0, .int .i64 0, .int .i64 0, .int .i64 0, .int .i64 0, .int .i64 0, .int .i64 0, .int .i64 0, .int .i64 0, .int .i64 0, .int .i64 0, .int .i64 0, .int .i64 0, .int .i64 0, .int .i64 0, .int .i64 0, .int .i64 0, .int .i64 0, .int .i64 0, .int .i64 0, .int .i64 0, .int .i64 0, .int .i64 0, .int .i64 0, .int .i64 0, .int .i64 0, .int .i64 0, .int .i64 0, .int .i64 0, .int .i64 0, .int .i64 0, .int .i64 0, .int .i64 0, .int .i64 0, .int .i64 0, .int .i64 0, .int .i64 0, .int .i64 0, .int .i64 0, .int .i64 0, .int .i64 0, .int .i64 0, .int .i64 0, .int .i64 0, .int .i64 0, .int .i64 0, .int .i64 0, .int .i64 0, .int .i64 0, .int .i64 0, .int .i64 0, .int .i64 0, .int .i64 0, .int .i64 0, .int .i64 0, .int .i64 0, .int .i64 0, .int .i64 0, .int .i64 0, .int .i64 0, .int .i64 0, .int .i64 0, .int .i64 0, .int .i64 0, .int .i64 0, .int .i64 0, .int .i64 0, .int .i64 0, .int .i64 0, .int .i64 0, .int .i64 0, .int .i64 0, .int .i64 0, .int .i64 0, .int .i64 0, .int .i64 0, .int .i64 0, .int .i64 0, .int .i64 0, .int .i64 0, .int .i64 0, .int .i64 0, .int .i64 0, .int .i64 0, .int .i64 0, .int .i64 0, .int .i64 0, .int .i64 0, .int .i64 0, .int .i64 0, .int .i64 0], false, 1344⟩), (87, ⟨.sli 33 1, 1, [.slice none 0 0], false, 24⟩), (91, ⟨.str [(0, 4, true), (4, 1, false)], 5, [.int .i64 0, .int .i64 0, .int .i64 0, .int .i64 0, .slice none 0 0], false, 56⟩), (95, ⟨.int .u64, 1, [.int .u64 0], false, 8⟩), (97, ⟨.one, 1, [.nilFunc], false, 8⟩), (109, ⟨.one, 1, [.nilFunc], false, 8⟩), (111, ⟨.sli 42 1, 1, [.slice none 0 0], false, 24⟩), (114, ⟨.str [(0, 2, true), (2, 2, true)], 4, [.int .i64 0, .int .i64 0, .int .i64 0, .int .i64 0], false, 32⟩), (116, ⟨.str [(0, 2, true)], 2, [.int .i64 0, .int .i64 0], false, 16⟩), (118, ⟨.str [(0, 2, true)], 2, [.int .i64 0, .int .i64 0], false, 16⟩), (120, ⟨.str [(0, 2, true), (2, 2, true)], 4, [.int .i64 0, .int .i64 0, .int .i64 0, .int .i64 0], false, 32⟩), (137, ⟨.str [(0, 1, false), (1, 1, false)], 2, [.int .i64 0, .int .i64 0], false, 16⟩)]
theorem lay_ok : LayOK Go.Proofs.Try.prog LAY := LayOK.cons ty3 <| LayOK.cons ty5 <| LayOK.cons ty23 <| LayOK.cons ty25 <| LayOK.cons ty26 <| LayOK.cons ty29 <| LayOK.cons ty30 <| LayOK.cons ty33 <| LayOK.cons ty42 <| LayOK.cons ty47 <| LayOK.cons ty48 <| LayOK.cons ty49 <| LayOK.cons ty50 <| LayOK.cons ty54 <| LayOK.cons ty59 <| LayOK.cons ty61 <| LayOK.cons ty63 <| LayOK.cons ty67 <| LayOK.cons ty76 <| LayOK.cons ty85 <| LayOK.cons ty87 <| LayOK.cons ty91 <| LayOK.cons ty95 <| LayOK.cons ty97 <| LayOK.cons ty109 <| LayOK.cons ty111 <| LayOK.cons ty114 <| LayOK.cons ty116 <| LayOK.cons ty118 <| LayOK.cons ty120 <| LayOK.cons ty137 <| LayOK.nil _
theorem mixed : Go.Proofs.Try.prog.follows .mixedOrders = true := by kernel_rfl
theorem enters_3 : EntersOK Go.Proofs.Try.prog 3 := enters_of Go.Proofs.Try.func3 (by kernel_rfl) rfl
theorem enters_4 : EntersOK Go.Proofs.Try.prog 4 := enters_of Go.Proofs.Try.func4 (by kernel_rfl) rfl
theorem enters_5 : EntersOK Go.Proofs.Try.prog 5 := enters_of Go.Proofs.Try.func5 (by kernel_rfl) rfl
theorem enters_6 : EntersOK Go.Proofs.Try.prog 6 := enters_of Go.Proofs.Try.func6 (by kernel_rfl) rfl
theorem enters_7 : EntersOK Go.Proofs.Try.prog 7 := enters_of Go.Proofs.Try.func7 (by kernel_rfl) rfl
theorem enters_8 : EntersOK Go.Proofs.Try.prog 8 := enters_of Go.Proofs.Try.func8 (by kernel_rfl) rfl
theorem enters_9 : EntersOK Go.Proofs.Try.prog 9 := enters_of Go.Proofs.Try.func9 (by kernel_rfl) rfl
theorem enters_10 : EntersOK Go.Proofs.Try.prog 10 := enters_of Go.Proofs.Try.func10 (by kernel_rfl) rfl
theorem enters_11 : EntersOK Go.Proofs.Try.prog 11 := enters_of Go.Proofs.Try.func11 (by kernel_rfl) rfl
theorem enters_12 : EntersOK Go.Proofs.Try.prog 12 := enters_of Go.Proofs.Try.func12 (by kernel_rfl) rfl
theorem enters_13 : EntersOK Go.Proofs.Try.prog 13 := enters_of Go.Proofs.Try.func13 (by kernel_rfl) rfl
theorem enters_14 : EntersOK Go.Proofs.Try.prog 14 := enters_of Go.Proofs.Try.func14 (by kernel_rfl) rfl
theorem enters_15 : EntersOK Go.Proofs.Try.prog 15 := enters_of Go.Proofs.Try.func15 (by kernel_rfl) rfl
theorem enters_16 : EntersOK Go.Proofs.Try.prog 16 := enters_of Go.Proofs.Try.func16 (by kernel_rfl) rfl
theorem enters_17 : EntersOK Go.Proofs.Try.prog 17 := enters_of Go.Proofs.Try.func17 (by kernel_rfl) rfl
theorem enters_18 : EntersOK Go.Proofs.Try.prog 18 := enters_of Go.Proofs.Try.func18 (by kernel_rfl) rfl
theorem enters_19 : EntersOK Go.Proofs.Try.prog 19 := enters_of Go.Proofs.Try.func19 (by kernel_rfl) rfl
theorem enters_20 : EntersOK Go.Proofs.Try.prog 20 := enters_of Go.Proofs.Try.func20 (by kernel_rfl) rfl
theorem enters_21 : EntersOK Go.Proofs.Try.prog 21 := enters_of Go.Proofs.Try.func21 (by kernel_rfl) rfl
theorem enters_22 : EntersOK Go.Proofs.Try.prog 22 := enters_of Go.Proofs.Try.func22 (by kernel_rfl) rfl
theorem enters_23 : EntersOK Go.Proofs.Try.prog 23 := enters_of Go.Proofs.Try.func23 (by kernel_rfl) rfl
theorem enters_24 : EntersOK Go.Proofs.Try.prog 24 := enters_of Go.Proofs.Try.func24 (by kernel_rfl) rfl
theorem enters_25 : EntersOK Go.Proofs.Try.prog 25 := enters_of Go.Proofs.Try.func25 (by kernel_rfl) rfl
theorem enters_26 : EntersOK Go.Proofs.Try.prog 26 := enters_of Go.Proofs.Try.func26 (by kernel_rfl) rfl
theorem enters_27 : EntersOK Go.Proofs.Try.prog 27 := enters_of Go.Proofs.Try.func27 (by kernel_rfl) rfl
theorem enters_28 : EntersOK Go.Proofs.Try.prog 28 := enters_of Go.Proofs.Try.func28 (by kernel_rfl) rfl
theorem enters_29 : EntersOK Go.Proofs.Try.prog 29 := enters_of Go.Proofs.Try.func29 (by kernel_rfl) rfl
theorem enters_30 : EntersOK Go.Proofs.Try.prog 30 := enters_of Go.Proofs.Try.func30 (by kernel_rfl) rfl
theorem enters_31 : EntersOK Go.Proofs.Try.prog 31 := enters_of Go.Proofs.Try.func31 (by kernel_rfl) rfl
theorem enters_32 : EntersOK Go.Proofs.Try.prog 32 := enters_of Go.Proofs.Try.func32 (by kernel_rfl) rfl
theorem enters_33 : EntersOK Go.Proofs.Try.prog 33 := enters_of Go.Proofs.Try.func33 (by kernel_rfl) rfl
theorem enters_34 : EntersOK Go.Proofs.Try.prog 34 := enters_of Go.Proofs.Try.func34 (by kernel_rfl) rfl
theorem enters_35 : EntersOK Go.Proofs.Try.prog 35 := enters_of Go.Proofs.Try.func35 (by kernel_rfl) rfl
theorem enters_36 : EntersOK Go.Proofs.Try.prog 36 := enters_of Go.Proofs.Try.func36 (by kernel_rfl) rfl
theorem enters_37 : EntersOK Go.Proofs.Try.prog 37 := enters_of Go.Proofs.Try.func37 (by kernel_rfl) rfl
theorem enters_38 : EntersOK Go.Proofs.Try.prog 38 := enters_of Go.Proofs.Try.func38 (by kernel_rfl) rfl
theorem enters_39 : EntersOK Go.Proofs.Try.prog 39 := enters_of Go.Proofs.Try.func39 (by kernel_rfl) rfl
theorem enters_40 : EntersOK Go.Proofs.Try.prog 40 := enters_of Go.Proofs.Try.func40 (by kernel_rfl) rfl
theorem enters_41 : EntersOK Go.Proofs.Try.prog 41 := enters_of Go.Proofs.Try.func41 (by kernel_rfl) rfl
theorem enters_42 : EntersOK Go.Proofs.Try.prog 42 := enters_of Go.Proofs.Try.func42 (by kernel_rfl) rfl
theorem enters_43 : EntersOK Go.Proofs.Try.prog 43 := enters_of Go.Proofs.Try.func43 (by kernel_rfl) rfl
theorem enters_44 : EntersOK Go.Proofs.Try.prog 44 := enters_of Go.Proofs.Try.func44 (by kernel_rfl) rfl
theorem enters_45 : EntersOK Go.Proofs.Try.prog 45 := enters_of Go.Proofs.Try.func45 (by kernel_rfl) rfl
theorem enters_46 : EntersOK Go.Proofs.Try.prog 46 := enters_of Go.Proofs.Try.func46 (by kernel_rfl) rfl
theorem enters_47 : EntersOK Go.Proofs.Try.prog 47 := enters_of Go.Proofs.Try.func47 (by kernel_rfl) rfl
theorem enters_48 : EntersOK Go.Proofs.Try.prog 48 := enters_of Go.Proofs.Try.func48 (by kernel_rfl) rfl
theorem enters_49 : EntersOK Go.Proofs.Try.prog 49 := enters_of Go.Proofs.Try.func49 (by kernel_rfl) rfl
theorem enters_50 : EntersOK Go.Proofs.Try.prog 50 := enters_of Go.Proofs.Try.func50 (by kernel_rfl) rfl
theorem enters_51 : EntersOK Go.Proofs.Try.prog 51 := enters_of Go.Proofs.Try.func51 (by kernel_rfl) rfl
theorem enters_52 : EntersOK Go.Proofs.Try.prog 52 := enters_of Go.Proofs.Try.func52 (by kernel_rfl) rfl
theorem enters_53 : EntersOK Go.Proofs.Try.prog 53 := enters_of Go.Proofs.Try.func53 (by kernel_rfl) rfl
theorem enters_54 : EntersOK Go.Proofs.Try.prog 54 := enters_of Go.Proofs.Try.func54 (by kernel_rfl) rfl
theorem enters_55 : EntersOK Go.Proofs.Try.prog 55 := enters_of Go.Proofs.Try.func55 (by kernel_rfl) rfl
theorem enters_56 : EntersOK Go.Proofs.Try.prog 56 := enters_of Go.Proofs.Try.func56 (by kernel_rfl) rfl
theorem enters_57 : EntersOK Go.Proofs.Try.prog 57 := enters_of Go.Proofs.Try.func57 (by kernel_rfl) rfl
theorem enters_58 : EntersOK Go.Proofs.Try.prog 58 := enters_of Go.Proofs.Try.func58 (by kernel_rfl) rfl
theorem enters_59 : EntersOK Go.Proofs.Try.prog 59 := enters_of Go.Proofs.Try.func59 (by kernel_rfl) rfl
theorem enters_60 : EntersOK Go.Proofs.Try.prog 60 := enters_of Go.Proofs.Try.func60 (by kernel_rfl) rfl
theorem enters_61 : EntersOK Go.Proofs.Try.prog 61 := enters_of Go.Proofs.Try.func61 (by kernel_rfl) rfl
theorem enters_62 : EntersOK Go.Proofs.Try.prog 62 := enters_of Go.Proofs.Try.func62 (by kernel_rfl) rfl
theorem enters_63 : EntersOK Go.Proofs.Try.prog 63 := enters_of Go.Proofs.Try.func63 (by kernel_rfl) rfl
theorem enters_64 : EntersOK Go.Proofs.Try.prog 64 := enters_of Go.Proofs.Try.func64 (by kernel_rfl) rfl
theorem enters_65 : EntersOK Go.Proofs.Try.prog 65 := enters_of Go.Proofs.Try.func65 (by kernel_rfl) rfl
theorem enters_66 : EntersOK Go.Proofs.Try.prog 66 := enters_of Go.Proofs.Try.func66 (by kernel_rfl) rfl
theorem enters_67 : EntersOK Go.Proofs.Try.prog 67 := enters_of Go.Proofs.Try.func67 (by kernel_rfl) rfl
theorem enters_68 : EntersOK Go.Proofs.Try.prog 68 := enters_of Go.Proofs.Try.func68 (by kernel_rfl) rfl
theorem enters_69 : EntersOK Go.Proofs.Try.prog 69 := enters_of Go.Proofs.Try.func69 (by kernel_rfl) rfl
theorem enters_85 : EntersOK Go.Proofs.Try.prog 85 := enters_of Go.Proofs.Try.func85 (by kernel_rfl) rfl
theorem enters_86 : EntersOK Go.Proofs.Try.prog 86 := enters_of Go.Proofs.Try.func86 (by kernel_rfl) rfl
theorem enters_87 : EntersOK Go.Proofs.Try.prog 87 := enters_of Go.Proofs.Try.func87 (by kernel_rfl) rfl
theorem enters_88 : EntersOK Go.Proofs.Try.prog 88 := enters_of Go.Proofs.Try.func88 (by kernel_rfl) rfl
theorem enters_89 : EntersOK Go.Proofs.Try.prog 89 := enters_of Go.Proofs.Try.func89 (by kernel_rfl) rfl
theorem enters_90 : EntersOK Go.Proofs.Try.prog 90 := enters_of Go.Proofs.Try.func90 (by kernel_rfl) rfl
theorem enters_91 : EntersOK Go.Proofs.Try.prog 91 := enters_of Go.Proofs.Try.func91 (by kernel_rfl) rfl
theorem enters_92 : EntersOK Go.Proofs.Try.prog 92 := enters_of Go.Proofs.Try.func92 (by kernel_rfl) rfl
theorem enters_93 : EntersOK Go.Proofs.Try.prog 93 := enters_of Go.Proofs.Try.func93 (by kernel_rfl) rfl
theorem enters_94 : EntersOK Go.Proofs.Try.prog 94 := enters_of Go.Proofs.Try.func94 (by kernel_rfl) rfl
theorem enters_95 : EntersOK Go.Proofs.Try.prog 95 := enters_of Go.Proofs.Try.func95 (by kernel_rfl) rfl
theorem enters_96 : EntersOK Go.Proofs.Try.prog 96 := enters_of Go.Proofs.Try.func96 (by kernel_rfl) rfl
end Go.Proofs.Ytlcccomdijdkaaa
namespace Go.Proofs.Ytlcccomdijdkaaa
open Go.RowKit

variable {P : Program} {X : Ctx} {E : Env} {a : Act} {w : World} {st : SState}
/-- a copy is a slice that was returned -/
theorem CopyOf.is {q : Q} {v : Nat → Value} {w : World} (h : CopyOf q v w) : SliceIs 0 q v w := by
  obtain ⟨A, cap, h1, h2⟩ := h
  exact ⟨A, cap, h1, h2.2.2.1, h2.2.2.2⟩
theorem wanted_ok (S : St X st E a w) {ops : List Oper} {o : Oper} {b : Bool} (hb : wantB ops st.slots o = some b) : Region.wanted o (yielded ops.toArray a.tmps) = b := by
  unfold wantB at hb
  unfold Region.wanted
  cases hg : o.guard with
  | none => rw [hg] at hb; simpa using hb
  | some jw =>
    obtain ⟨j, want⟩ := jw
    rw [hg] at hb
    simp only at hb
    cases hj : ops[j]? with
    | none => rw [hj] at hb; simp at hb
    | some oj =>
      rw [hj] at hb
      simp only at hb
      cases hdj : oj.dst with
      | none => rw [hdj] at hb; simp at hb
      | some d =>
        rw [hdj] at hb
        simp only at hb
        have hj' : ops.toArray[j]? = some oj := by simpa using hj
        split at hb
        · rename_i bb hbb
          have hs := S.slot d _ hbb
          simp only [SV.val] at hs
          simp only [Option.some.injEq] at hb
          subst hb
          simp only [yielded, hj', Option.bind_some, hdj, hs]
          cases bb <;> cases want <;> rfl
        · cases hb
theorem wpList_unguard {ops : Array Oper} {o : Oper} {rest : List Oper} {Q : Exit → Act → World → Prop} (hw : Region.wanted o (yielded ops a.tmps) = true) (h : wpList P ops Q ({ o with guard := none } :: rest) a w) : wpList P ops Q (o :: rest) a w := by
  unfold wpList at h ⊢
  rw [if_pos hw]
  have h1 : Region.wanted { o with guard := none } (yielded ops a.tmps) = true := by simp [Region.wanted]
  rw [if_pos h1] at h
  exact h
theorem sym_unguard {ops l r : List Oper} {o : Oper} {Q : Exit → Act → World → Prop} (S : St X st E a w) (hL : l = o :: r) (hw : wantB ops st.slots o = some true) (h : wpList P ops.toArray Q ({ o with guard := none } :: r) a w) : wpList P ops.toArray Q l a w := by
  subst hL
  exact wpList_unguard (wanted_ok S hw) h
theorem St.own_new (S : St X st E a w) (hC : X.C = noC) : ∀ k, st.own E k → X.w0.heap.size ≤ k := by
  rintro k (⟨g, t, cs, hx, rfl⟩ | ⟨j, q, hq, hb⟩)
  · exact (S.sep.base g t cs hx).resolve_right (fun h => by rw [hC] at h; exact h)
  · exact (S.sep.ginj.2 j q k hq hb).resolve_right (fun h => by rw [hC] at h; exact h)
/-- a slice that is read has one number more, and whatever number -/
theorem St.lowrd (S : St X st E a w) (s k : Nat) {q : Q} (hq : look st.m.rds s = some q) (hn : (noSS k st.slots && noSB k st.m.blks) = true) : St { X with sl0 := (E.updS k (E.sl s)).sl } ⟨st.slots, { st.m with rds := (k, q) :: st.m.rds }⟩ (E.updS k (E.sl s)) a w := by
  simp only [Bool.and_eq_true] at hn
  refine ⟨fun t sv ht => ?_, S.size, S.defers, S.kept, ⟨fun g t cs hx => ?_, fun j q' hq' => ?_, S.mem.gr, S.mem.one⟩,
    ⟨S.sep.base, S.sep.inj, S.sep.ginj, S.sep.mix, fun j q' b off hq' hl hA => ?_, S.sep.held⟩, S.pin.1, fun _ _ => rfl, S.pin.2.2⟩
  · rw [SV.val_updS E k _ sv (noSS_ok hn.1 t sv ht)]
    exact S.slot t sv ht
  · rw [SV.vals_updS E k _ cs (noSB_ok hn.2 g t cs hx)]
    exact S.mem.blk g t cs hx
  · rcases look_cases hq' with ⟨rfl, rfl⟩ | ⟨hne, h2⟩
    · rw [Env.updS_same]; exact S.mem.rd s _ hq
    · rw [Env.updS_ne E _ (fun e => hne e.symm)]
      exact S.mem.rd j q' h2
  · rcases look_cases hq' with ⟨rfl, rfl⟩ | ⟨hne, h2⟩
    · rw [Env.updS_same] at hA
      exact S.sep.rd s _ b off hq hl hA
    · rw [Env.updS_ne E _ (fun e => hne e.symm)] at hA
      exact S.sep.rd j q' b off h2 hl hA
def lowL {β : Type} : List (Nat × β) → Bool
  | [] => true
  | (k, _) :: r => Nat.blt k 1000 && lowL r
theorem lowL_ok {β : Type} : ∀ {l : List (Nat × β)}, lowL l = true → ∀ s x, look l s = some x → s < 1000
  | [], _, s, x, h => by simp [look] at h
  | (k, y) :: r, hf, s, x, h => by
    simp only [lowL, Bool.and_eq_true] at hf
    rcases look_cases h with ⟨rfl, _⟩ | ⟨_, h2⟩
    · exact Nat.lt_of_succ_le (Nat.le_of_ble_eq_true hf.1)
    · exact lowL_ok hf.2 s x h2
def allBlk : List (Nat × BE) → Bool
  | [] => true
  | (_, .blk _ _) :: r => allBlk r
  | (_, .held _) :: _ => false
theorem allBlk_ok : ∀ {l : List (Nat × BE)}, allBlk l = true → ∀ g Φ, look l g ≠ some (.held Φ)
  | [], _, g, Φ, h => by simp [look] at h
  | (k, .blk t cs) :: r, hf, g, Φ, h => by
    rcases look_cases h with ⟨_, e⟩ | ⟨_, h2⟩
    · cases e
    · exact allBlk_ok (l := r) hf g Φ h2
  | (k, .held Ψ) :: r, hf, g, Φ, h => by cases hf
/-- such a row, new since N -/
def RowNew (N i : Nat) (q : GQ) : (Nat → Value) → World → Prop := fun v w => GrAt w 0 q (v i) ∧ ∀ b, (v i).ownBlock = some b → N ≤ b
theorem GrAt.held {B i : Nat} {q : GQ} {v : Nat → Value} (h : GrAt w 0 q (v i)) (hB : ∀ b, (v i).ownBlock = some b → B ≤ b) : HeldIn (fun k => B ≤ k) w (RowNew B i q v) :=
  ⟨fun k => (v i).ownBlock = some k, fun k hk => ⟨(World.ownsRow.lt h k hk).2, hB k hk⟩, fun w' hw => ⟨GrAt.move h hw, hB⟩⟩
/-- what a call has returned becomes a row that grows -/
theorem St.takegr (S : St X st E a w) (g i k : Nat) {Φ : (Nat → Value) → World → Prop} (hg : look st.m.blks g = some (.held Φ)) (q : GQ) (hΦ : ∀ v w, Φ v w → RowNew X.w0.heap.size i q v w) (hk : look st.m.grs k = none) (ks gs : List Nat) (hno : allBlk (pickL gs st.m.blks) = true)
    (hrd : ∀ s q b off, look st.m.rds s = some q → 0 < q.len → (E.sl s).A = some ⟨b, off, none⟩ → b < X.w0.heap.size) :
    St X ⟨subSlots k (E.gr k) (pickL ks st.slots), { st.m with blks := subBlks k (E.gr k) (pickL gs st.m.blks), grs := (k, q) :: st.m.grs }⟩ (E.updG k (E.x g i)) a w := by
  obtain ⟨V, hVe⟩ : ∃ V, V = E.x g i := ⟨_, rfl⟩
  rw [← hVe]
  have hH := S.sep.held g Φ hg
  obtain ⟨hG, hN⟩ := hΦ _ _ hH.out
  rw [← hVe] at hG hN
  -- its block is not known otherwise
  have hap0 : ∀ b, V.ownBlock = some b → ¬ OwnB (look st.m.blks) st.m.grs E b := fun b hb => by
    obtain ⟨D, hD, hkD⟩ := hH
    by_cases hDb : D b
    · exact (hD b hDb).2.1
    · exfalso
      have hlt := (World.ownsRow.lt hG b hb).2
      have h1 := (hΦ _ _ (hkD { w with heap := w.heap.setIfInBounds b (.cells #[] 0 (1, 1)) } fun k hkD' => by
        have hne : b ≠ k := fun e => hDb (e ▸ hkD')
        simp [Array.getElem?_setIfInBounds_ne hne])).1
      rw [← hVe] at h1
      rcases h1.2 with ⟨h2, _⟩ | ⟨g', cap, cur, e, _, hb', _⟩
      · rw [h2] at hb; simp [Value.ownBlock] at hb
      · rw [e] at hb
        simp only [Value.ownBlock, Option.some.injEq] at hb
        subst hb
        simp [hlt] at hb'
  have hB : ∀ {j t c}, (look (pickL gs st.m.blks) j).map (BE.subG k (E.gr k)) = some (.blk t c) → ∃ c', look st.m.blks j = some (.blk t c') ∧ c = SV.subGs k (E.gr k) c' := fun hx => by
    obtain ⟨c', h1, h2⟩ := BE.subG_blk hx
    exact ⟨c', pickL_sub _ _ _ _ h1, h2⟩
  have hgk : ∀ j y, look ((k, q) :: st.m.grs) j = some y → (j = k ∧ y = q) ∨ (j ≠ k ∧ look st.m.grs j = some y) := fun j y hj => by
    rcases look_cases hj with ⟨h1, h2⟩ | ⟨h1, h2⟩
    · exact .inl ⟨h1.symm, h2.symm⟩
    · exact .inr ⟨fun e => h1 e.symm, h2⟩
  have ho : ∀ b, OwnB (fun j => (look (pickL gs st.m.blks) j).map (BE.subG k (E.gr k))) ((k, q) :: st.m.grs) (E.updG k V) b → OwnB (look st.m.blks) st.m.grs E b ∨ V.ownBlock = some b := by
    rintro b (⟨j, t, c, hx, e⟩ | ⟨j, y, hy, e⟩)
    · obtain ⟨c', h1, _⟩ := hB hx
      exact .inl (.inl ⟨j, t, c', h1, e⟩)
    · rcases hgk j y hy with ⟨rfl, rfl⟩ | ⟨hne, h2⟩
      · rw [Env.updG_same] at e
        exact .inr e
      · rw [Env.updG_ne E V hne] at e
        exact .inl (.inr ⟨j, y, h2, e⟩)
  unfold St
  simp only
  rw [show look (subSlots k (E.gr k) (pickL ks st.slots)) = fun t => (look (pickL ks st.slots) t).map (SV.subG k (E.gr k)) from funext (look_subSlots _ _ _), show look (subBlks k (E.gr k) (pickL gs st.m.blks)) = fun j => (look (pickL gs st.m.blks) j).map (BE.subG k (E.gr k)) from funext (look_subBlks _ _ _)]
  refine ⟨fun t sv ht => ?_, S.size, S.defers, S.kept, ⟨fun j t c hx => ?_, S.mem.rd, fun j y hy => ?_, S.mem.one⟩,
    ⟨fun j t c hx => ?_, fun j j' t t' c c' hx hy e => ?_, ⟨fun j j' x y b hx hy h1 h2 => ?_, fun j x b hx h1 => ?_⟩, fun j i t c y hx hy => ?_, fun s q' b off hq hl hA => ?_, fun j Φ hx => absurd (BE.subG_held hx) (allBlk_ok hno j Φ)⟩, S.pin⟩
  · cases hsf : look (pickL ks st.slots) t with
    | none => simp [hsf] at ht
    | some x =>
      simp only [hsf, Option.map_some, Option.some.injEq] at ht
      subst ht
      rw [SV.val_subG]
      exact S.slot t x (pickL_sub _ _ _ _ hsf)
  · obtain ⟨c', h1, rfl⟩ := hB hx
    rw [SV.vals_subG]
    exact S.mem.blk j t c' h1
  · rcases hgk j y hy with ⟨rfl, rfl⟩ | ⟨hne, h2⟩
    · rw [Env.updG_same]; exact hG
    · rw [Env.updG_ne E V hne]; exact S.mem.gr j y h2
  · obtain ⟨c', h1, _⟩ := hB hx
    exact S.sep.base j t c' h1
  · obtain ⟨c1, h1, _⟩ := hB hx
    obtain ⟨c2, h2, _⟩ := hB hy
    exact S.sep.inj j j' _ _ _ _ h1 h2 e
  · rcases hgk j x hx with ⟨rfl, rfl⟩ | ⟨n1, x1⟩ <;> rcases hgk j' y hy with ⟨rfl, rfl⟩ | ⟨n2, x2⟩
    · rfl
    · rw [Env.updG_same] at h1
      rw [Env.updG_ne E V n2] at h2
      exact absurd (.inr ⟨j', y, x2, h2⟩) (hap0 b h1)
    · rw [Env.updG_same] at h2
      rw [Env.updG_ne E V n1] at h1
      exact absurd (.inr ⟨j, x, x1, h1⟩) (hap0 b h2)
    · rw [Env.updG_ne E V n1] at h1
      rw [Env.updG_ne E V n2] at h2
      exact S.sep.ginj.1 j j' x y b x1 x2 h1 h2
  · rcases hgk j x hx with ⟨rfl, rfl⟩ | ⟨n1, x1⟩
    · rw [Env.updG_same] at h1
      exact .inl (hN b h1)
    · rw [Env.updG_ne E V n1] at h1
      exact S.sep.ginj.2 j x b x1 h1
  · obtain ⟨c', h1, _⟩ := hB hx
    rcases hgk i y hy with ⟨rfl, rfl⟩ | ⟨n1, x1⟩
    · rw [Env.updG_same]
      intro e
      exact hap0 _ e (.inl ⟨j, t, c', h1, rfl⟩)
    · rw [Env.updG_ne E V n1]
      exact S.sep.mix j i t c' y h1 x1
  · have h1 := S.sep.rd s q' b off hq hl hA
    refine ⟨fun h => ?_, h1.2⟩
    rcases ho b h with h2 | h2
    · exact h1.1 h2
    · have := hrd s q' b off hq hl hA
      have := hN b h2
      omega
end Go.Proofs.Ytlcccomdijdkaaa
namespace Go.Proofs.Ytlcccomdijdkaaa
open Go.RowKit

variable {P : Program} {X : Ctx} {E : Env} {a : Act} {w : World} {st : SState}
theorem St.eval (S : St X st E a w) {z : Operand} {sv : SV} (hz : opnd st.slots z = some sv) : a.eval z = sv.val E := by
  cases z with
  | tmp t => simp only [opnd] at hz; have := S.slot t sv hz; simp [Act.eval, this]
  | const v => simp [opnd] at hz; subst hz; rfl
  | global g => simp [opnd] at hz; subst hz; rfl
  | func f => simp [opnd] at hz; subst hz; rfl
/-- append of a row that grows to a slice without room -/
theorem sym_copyG {lay : Lay} (hl : LayOK P lay) {ops l r : List Oper} {o : Oper} {Po : Exit → Act → World → Prop} (hL : l = o :: r) (x y : Operand) (t : TypeId) (ho : o.op = .call { callee := .builtin .append, args := #[x, y], argTypes := #[t, t] }) (hgd : o.guard = none)
    (S : St X st E a w) (g k gl : Nat) (q : GQ) (qs : Q) (d dt : TyD) (hx : opnd st.slots x = some (.row g 0 0 0)) (hy : opnd st.slots y = some (.gr k)) (hq : look st.m.grs k = some q) (hdt : look lay t = some dt) (hsl : dt.k = .sli q.ty q.n) (hd : look lay q.ty = some d) (hn : d.n = q.n)
    (hlen : qs.len = q.len) (hqn : qs.n = q.n) (hget : ∀ i, i < q.len → ∀ j x, (qs.get i)[j]? = some x → q.xs[i * q.n + j]? = some x) (happ : (∀ j, (qs.get j).length = qs.n ∧ ∀ v ∈ qs.get j, v.oneCell' = true) ∧ qs.len ≤ 4611686018427387904 ∧ qs.len * d.by' ≤ 140737488355328)
    (hf : (freshS gl st.slots && freshBl gl st.m.blks && Nat.blt gl 1000) = true) (hdn : ∀ e, o.dst = some e → e < X.n)
    (kk : ∀ E' a' w', St X ⟨match o.dst with | some d => (d, .ltr gl 0) :: st.slots | none => st.slots, { st.m with blks := (gl, .held (CopyOf qs)) :: st.m.blks }⟩ E' a' w' → wpList P ops.toArray Po r a' w') : wpList P ops.toArray Po l a w := by
  subst hL
  obtain ⟨u, hu, hmm⟩ := (hl t dt hdt).under
  rw [hsl] at hmm
  obtain ⟨rfl, hkn, hes⟩ := hmm
  obtain ⟨_, i, hi, his, zv, hzv, hzc⟩ := (hl q.ty d hd).size
  have hby : i.bytes = d.by' := by have := (hl q.ty d hd).bytes; simpa [Program.bytesOf, hi] using this
  obtain ⟨A, cap, hv, hcap, hs⟩ := (GrAt.slice (S.mem.gr k q hq) (fun _ _ => Nat.zero_le _) 0 (fun _ => E.gr k) rfl qs.get hget).out
  have hr : RdAt w qs ⟨A, qs.len, cap, qs.n⟩ := ⟨rfl, rfl, by rw [hlen]; exact hcap, fun h0 => by
    rw [hlen] at h0
    obtain ⟨b, off, h1, h2, h3⟩ := hs h0
    exact ⟨b, off, h1, h2, fun i hi j v hv => by rw [hqn]; exact h3 i (by have h := hi; dsimp only at h ⊢; rw [hlen] at h; exact h) j v hv⟩⟩
  obtain ⟨v', w', hrun, k1, k2, k3⟩ := append_copy (P := P) (ty := o.type) hu hi hzv ⟨E.ρ g, 0, none⟩ qs ⟨A, qs.len, cap, qs.n⟩ hr (by omega) happ.1 happ.2.1 (by rw [hby]; exact happ.2.2)
  have ex : a.eval x = .slice (some ⟨E.ρ g, 0, none⟩) 0 0 := S.eval hx
  have ey : a.eval y = .slice A qs.len cap := (S.eval hy).trans (by rw [hlen]; exact hv)
  simp only [Bool.and_eq_true] at hf
  obtain ⟨f1, f2⟩ := freshBl_ok hf.1.2
  have hlt : gl < 1000 := Nat.lt_of_succ_le (Nat.le_of_ble_eq_true hf.2)
  refine wpList_plain hgd fun K hK => ?_
  unfold Oper.wp execOp
  simp only [ho, resolve, invoke, builtin, Sem.run_bind, Sem.run_pure, Result.andThen_ok, List.map_toArray, List.map_cons, List.map_nil, ex, ey, hrun]
  simp only [Oper.upon]
  have S2 := ((S.later k1).letter hlt f1 (fun t sv h => freshS_ok hf.1.1 t sv h) f2 (CopyOf qs) (fun _ => v') (fun _ => k2) (k3.mono fun b hb hR => ⟨fun hO => absurd (StF.ltB S hO) (by omega), .inl (Nat.le_trans S.size0 hR)⟩)).putD hdn (.ltr gl 0)
  refine hK _ _ (kk (E.updX gl fun _ => v') _ _ ?_)
  unfold St
  cases hdst : o.dst with
  | none =>
    rw [hdst] at S2
    simp only [look_upd]
    exact S2
  | some e =>
    rw [hdst] at S2
    simp only [look_upd]
    simpa [putF, SV.val, Env.updX] using S2
theorem take_mid {α : Type} (L vs : List α) (off n m : Nat) (hv : vs.length = n) (h1 : off + n ≤ m) (h2 : m ≤ L.length) : (L.take off ++ vs ++ L.drop (off + n)).take m = (L.take m).take off ++ vs ++ (L.take m).drop (off + n) := by
  have hA : (L.take off ++ vs).length = off + n := by rw [List.length_append, List.length_take, hv]; omega
  rw [List.take_append, List.take_of_length_le (by omega), hA, List.take_take, show min off m = off by omega, List.drop_take]
/-- an element of a row that grows is stored -/
theorem sym_storeG {lay : Lay} (hl : LayOK P lay) {ops l r : List Oper} {o1 o2 : Oper} {Po : Exit → Act → World → Prop} (hL : l = o1 :: o2 :: r) (t : TypeId) (x i z : Operand) (d1 : Nat) (S : St X st E a w) (k : Nat) (q : GQ) (h1 : o1.op = .indexAddr t x i) (hd1 : o1.dst = some d1) (hg1 : o1.guard = none)
    (h2 : o2.op = .store q.ty (.tmp d1) z) (hd2 : o2.dst = none) (hg2 : o2.guard = none) (ik : IntKind) (iv : Int) (ys : List SV) (d dt : TyD) (hx : opnd st.slots x = some (.gr k)) (hi : opnd st.slots i = some (.v (.int ik iv))) (hz : opnd ((d1, .v undef) :: st.slots) z = some (.agg ys)) (hz' : opnd st.slots z = some (.agg ys)) (hq : look st.m.grs k = some q)
    (hdt : look lay t = some dt) (hsl : dt.k = .sli q.ty q.n) (hd : look lay q.ty = some d) (hn : d.n = q.n) (hys : ys.length = q.n) (hone : ys.all (oneB st.m) = true) (hr : 0 ≤ iv ∧ iv < q.len) (hdn : d1 < X.n)
    (kk : ∀ u xs v0 E' a' w', E'.gr k = v0 → St X (SState.setgr ⟨(d1, .v u) :: st.slots, st.m⟩ k v0 ⟨q.ty, q.n, q.len, xs⟩) E' a' w' → wpList P ops.toArray Po r a' w') : wpList P ops.toArray Po l a w := by
  subst hL
  obtain ⟨u, hu, hmm⟩ := (hl t dt hdt).under
  rw [hsl] at hmm
  obtain ⟨rfl, hkn, hes⟩ := hmm
  have hG := S.mem.gr k q hq
  obtain ⟨hxl, ⟨_, h0⟩ | ⟨b, cap, cur, hv, _, hb, hcap, hmax, hsz, htake⟩⟩ := hG
  · omega
  obtain ⟨m, rfl⟩ : ∃ m : Nat, iv = m := ⟨iv.toNat, by omega⟩
  have hm : m < q.len := by omega
  have ex : a.eval x = .slice (some ⟨b, 0, none⟩) q.len cap := (S.eval hx).trans hv
  have ei : a.eval i = .int ik m := S.eval hi
  obtain ⟨ptr, hptr⟩ : ∃ ptr : Value, ptr = .pointer (some ⟨b, m * q.n, none⟩) := ⟨_, rfl⟩
  have hrun1 : (execOp a.eval o1).run P w = .ok (.value ptr) w := by
    obtain ⟨dst, op, type, pos, after, guard⟩ := o1
    simp only at h1
    subst h1
    refine run_v rfl ?_
    rw [ex, ei, hptr]
    unfold Instr.indexAt
    simp only [asIntOf, Sem.run_bind, Sem.run_pure, Result.andThen_ok, run_underlying hu]
    rw [if_pos (by omega)]
    simp only [Sem.run_bind, knownB.run_size hkn, Result.andThen_ok, Sem.run_pure, add_plain', Nat.zero_add, Int.toNat_natCast]
    rw [← hes]
  refine wpList_plain hg1 fun K hK => ?_
  unfold Oper.wp
  rw [hrun1]
  simp only [Oper.upon]
  refine hK _ _ ?_
  rw [hd1]
  have S1 : St X ⟨(d1, .v ptr) :: st.slots, st.m⟩ E (a.put (some d1) ptr) w := by
    unfold St
    simp only [look_upd]
    exact StF.put S hdn (.v ptr)
  have ez : (a.put (some d1) ptr).eval z = .agg (SV.vals E ys).toArray := by
    cases z with
    | tmp tz =>
      simp only [opnd] at hz
      have hne : d1 ≠ tz := fun e => by subst e; rw [look_same] at hz; cases hz
      rw [look_ne hne] at hz
      have := S1.slot tz (.agg ys) (by show look ((d1, SV.v ptr) :: st.slots) tz = _; rw [look_ne hne]; exact hz)
      simp [Act.eval, this, SV.val]
    | const v => simp [opnd] at hz
    | global g => simp [opnd] at hz
    | func f => simp [opnd] at hz
  have ep : (a.put (some d1) ptr).eval (.tmp d1) = ptr := by
    have := S1.slot d1 (.v ptr) (look_same _ _ _)
    simp [Act.eval, this, SV.val]
  have hnice : Nice E st.m := ⟨fun k q hq => by
    obtain ⟨A, c, e⟩ := gr_slice (S.mem.gr k q hq)
    exact ⟨A, _, c, e⟩, S.mem.one⟩
  have hone' : ∀ v ∈ SV.vals E ys, v.oneCell' = true := fun v hv => by
    rw [SV.vals_map] at hv
    obtain ⟨s, hs, rfl⟩ := List.mem_map.1 hv
    exact oneB_ok hnice (List.all_eq_true.1 hone s hs)
  have hmul : m * q.n + q.n ≤ q.len * q.n := by
    have := Nat.mul_le_mul_right q.n (show m + 1 ≤ q.len by omega)
    rwa [Nat.add_mul, Nat.one_mul] at this
  have hmul2 : q.len * q.n ≤ cap * q.n := Nat.mul_le_mul_right q.n hcap
  have hB : Blk w b q.ty cur := hb
  have hst := run_storeCells_at (P := P) b (m * q.n) q.ty (SV.vals E ys) 0 cur w hB (by simp [vals_length]; omega) hone'
  have hrun2 : (execOp (a.put (some d1) ptr).eval o2).run P w = .ok .skip (w.setRow b (cur.toList.take (m * q.n) ++ SV.vals E ys ++ cur.toList.drop (m * q.n + q.n)).toArray) := by
    have hsa : (Instr.storeAt q.ty ptr (.agg (SV.vals E ys).toArray)).run P w = .ok () (w.setRow b (cur.toList.take (m * q.n) ++ SV.vals E ys ++ cur.toList.drop (m * q.n + q.n)).toArray) := by
      rw [hptr]
      have e1 : (Value.agg (SV.vals E ys).toArray).cells = (SV.vals E ys).toArray := rfl
      unfold Instr.storeAt storeVar
      simp only [Instr.sureAddr, Sem.run_bind, Sem.run_pure, Result.andThen_ok, (hl q.ty d hd).run_size, e1]
      rw [if_neg (by simp [vals_length, hys, hn])]
      simp only [Nat.add_zero, vals_length, hys] at hst
      exact hst
    obtain ⟨dst, op, type, pos, after, guard⟩ := o2
    simp only at h2
    subst h2
    simp only [execOp, ep, ez, Sem.run_bind, hsa, Result.andThen_ok, Sem.run_pure]
  refine wpList_plain hg2 fun K2 hK2 => ?_
  unfold Oper.wp
  rw [hrun2]
  simp only [Oper.upon]
  refine hK2 _ _ ?_
  rw [hd2]
  have S2 := S1.setgr k ⟨q.ty, q.n, q.len, q.xs.take (m * q.n) ++ SV.vals E ys ++ q.xs.drop (m * q.n + q.n)⟩ (w' := w.setRow b (cur.toList.take (m * q.n) ++ SV.vals E ys ++ cur.toList.drop (m * q.n + q.n)).toArray) (v' := E.gr k) (row := (E.gr k).ownBlock)
    ⟨rfl, rfl, rfl, by simp, fun j _ hj => setRow_other w b j _ (fun e => hj (by rw [hv]; simp [Value.ownBlock, e]))⟩ (fun b' hb' => ⟨q, hq, hb'⟩) ⟨?_, .inr ⟨b, cap, _, hv, Nat.zero_le _, setRow_heap w b cur _ q.ty _ hb, hcap, hmax, ?_, ?_⟩⟩ (fun b' hb' => .inl hb')
  · exact kk ptr _ (E.gr k) (E.updG k (E.gr k)) _ _ (Env.updG_same _ _ _) S2
  · simp only [List.length_append, List.length_take, List.length_drop, vals_length, hys, hxl]
    omega
  · simp only [List.size_toArray, List.length_append, List.length_take, List.length_drop, vals_length, hys, Array.length_toList, hsz]
    omega
  · rw [← htake]
    exact take_mid cur.toList (SV.vals E ys) (m * q.n) q.n (q.len * q.n) (by rw [vals_length, hys]) hmul (by rw [Array.length_toList, hsz]; exact hmul2)
end Go.Proofs.Ytlcccomdijdkaaa
namespace Go.Proofs.Ytlcccomdijdkaaa
open Go.RowKit

variable {P : Program} {E : Env} {a : Act} {w : World} {X : Ctx} {st : SState}

theorem pure_iface {B : Nat} {m : MState} {t d : Nat} {xs : List SV} {vs : List Value} (h : P.concrete t = true) (hv : ∀ E, SV.vals E xs = vs) : (Ob.pure m (.makeInterface t (.tmp d)) [.agg xs] (.v (.iface t (.agg vs.toArray)))).holds P B := by
  intro E w R ρ dst ty pos aft gd _ hx
  have e : ρ (.tmp d) = .agg vs.toArray := by simpa [Op.operands, SV.vals, SV.val, hv] using hx
  simp [execOp, e, run_makeInterface w t _ h, Sem.run_bind, Result.andThen, Sem.run_pure, SV.val]
theorem pure_method {B : Nat} {m : MState} {name : String} {d : Nat} {u : Value} : (Ob.pure m (.makeFunc (.method name) #[.tmp d] #[]) [.v u] (.v (.func (.method name) #[u] #[]))).holds P B := by
  intro E w R ρ dst ty pos aft gd _ hx
  have e : ρ (.tmp d) = u := by simpa [Op.operands, SV.vals, SV.val] using hx
  simp [execOp, Instr.makeFunc, e, Sem.run_bind, Result.andThen, Sem.run_pure, SV.val]
theorem pure_nilMethod {B : Nat} {m : MState} {name : String} {d t : Nat} {u : Value} (h : ∀ w, (nilAhead (P.types.size + Made.depth) t u name).run P w = .ok (some false) w) : (Ob.pure m (.nilCheck (.tmp d)) [.v (.func (.method name) #[.iface t u] #[])] (.v (.func (.method name) #[.iface t u] #[]))).holds P B := by
  intro E w R ρ dst ty pos aft gd _ hx
  have e : ρ (.tmp d) = .func (.method name) #[.iface t u] #[] := by simpa [Op.operands, SV.vals, SV.val] using hx
  simp [execOp, e, Sem.run_bind, Result.andThen, Sem.run_pure, SV.val, program, Sem.run, h]
theorem ent_invoke {B : Nat} {x : Operand} {name : String} {args : Array Operand} {ts : Array TypeId} {t f : Nat} {u : Value} {A : SV} {xs : List SV} (hA : ∀ E, A.val E = u) (hm : ∀ w, (method (P.types.size + Made.depth) t u name).run P w = .ok (f, u) w) (hE : EntersOK P f) :
    (Ob.ent (.call ⟨.invoke x name, args, ts⟩) (.v (.iface t u) :: xs) f (A :: xs)).holds P B := by
  intro E w ρ dst ty pos aft gd hx
  have h0 : ρ x :: args.toList.map ρ = .iface t u :: SV.vals E xs := by simpa [Op.operands, Call.operands, SV.vals, SV.val] using hx
  obtain ⟨e1, e2⟩ := List.cons.inj h0
  have e3 : args.map ρ = (SV.vals E xs).toArray := by apply Array.ext'; simpa using e2
  have e4 : (#[Value.iface t u] ++ (SV.vals E xs).toArray).extract 1 (#[Value.iface t u] ++ (SV.vals E xs).toArray).size = (SV.vals E xs).toArray := by
    apply Array.ext'; simp
  simp only [execOp, resolve, Sem.run_bind, e1, e3, Sem.run_pure, Result.andThen_ok, invoke]
  simp only [Array.getElem?_append, Array.size_singleton, Nat.lt_irrefl, Nat.zero_lt_one, if_true]
  simp only [show (#[Value.iface t u] : Array Value)[0]? = some (.iface t u) from rfl, callMethod, e4]
  simp only [Sem.run_bind, program, Sem.run, Result.andThen_ok, hm]
  rw [show (#[u] : Array Value) ++ (SV.vals E xs).toArray = (SV.vals E (A :: xs)).toArray from by apply Array.ext'; simp [SV.vals, hA]]
  exact hE _ _
theorem AllSl.args {a : Act} {E : Env} : ∀ (svs : List SV) (k : Nat), (∀ i x, svs[i]? = some x → a.tmps[k + i]? = some (x.val E)) → AllSl a E (argSlots k svs)
  | [], _, _ => trivial
  | x :: r, k, h => ⟨by simpa using h 0 x rfl, AllSl.args r (k + 1) fun i y hy => by have := h (i + 1) y (by simpa using hy); rwa [show k + 1 + i = k + (i + 1) by omega]⟩
/-- a method by pointer is entered, with a row that grows -/
theorem sym_closure_g {f : FuncId} {fn : Func} {c : Code} {W : World} {T : Ending → World → Prop} (hf : P.funcs[f]? = some fn) (hb : fn.body = some c) (svs : List SV) (cbs : List CB) (blks : List (Nat × BE)) (hbl : blksOf cbs = blks) (q : GQ) (V : Value) (hn : Nat.ble svs.length fn.ntmps = true)
    (hB : AllCB W (envG cbs V) cbs) (hA : ApartCB cbs) (hG : GrAt W 0 q V) (hV : ∀ b, V.ownBlock = some b → NotCB b cbs)
    (h : ∀ E a w, St ⟨W, fun b => inCB cbs b ∨ V.ownBlock = some b, fn.ntmps, [], allR, rhoOf cbs, (envOf []).sl, (envOf []).x⟩ ⟨argSlots 0 svs, ⟨blks, [], [(0, q)]⟩⟩ E a w → c.wp P (bodyPost P fn T) a w) : Calls P f (SV.vals (envG cbs V) svs).toArray W T := by
  subst hbl
  have hn := Nat.le_of_ble_eq_true hn
  refine calls_of_wp hf hb (h (envG cbs V) _ _ (St.make2 (a := { tmps := (SV.vals (envG cbs V) svs).toArray ++ Array.replicate (fn.ntmps - (SV.vals (envG cbs V) svs).toArray.size) undef, defers := [] }) cbs 0 q V (AllSl.args svs 0 fun i x hx => ?_) ?_ hB hA hG hV))
  · have hlt : i < svs.length := (List.getElem?_eq_some_iff.1 hx).1
    rw [Nat.zero_add, Array.getElem?_append_left (by simp [vals_length, hlt])]
    simp [vals_get, hx]
  · simp [vals_length]; omega
end Go.Proofs.Ytlcccomdijdkaaa

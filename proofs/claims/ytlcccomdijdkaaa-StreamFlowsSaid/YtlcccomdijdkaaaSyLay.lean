/- Models and walks, printed by program. -/
import Derived.Test.YtlcccomdijdkaaaProg
import Derived.Test.YtlcccomdijdkaaaSyY
import Derived.Shelf.Abstract
namespace Go.Proofs.Ytlcccomdijdkaaa
open Go.RowKit Go.Shelf Go.Proofs.Try
theorem ty3 : TyOK Go.Proofs.Try.prog 3 ⟨.int .i64, 1, [.int .i64 0], false, 8⟩ := ⟨by kernel_rfl, by kernel_rfl, by kernel_rfl, rfl, fun h => by cases h⟩
theorem ty5 : TyOK Go.Proofs.Try.prog 5 ⟨.int .u8, 1, [.int .u8 0], false, 1⟩ := ⟨by kernel_rfl, by kernel_rfl, by kernel_rfl, rfl, fun h => by cases h⟩
theorem eq23 : (true : Bool) = true → ∀ (xs ys : List Int) (w : World), xs.length = 2 → ys.length = 2 → (Op.equal 23 (.agg (xs.map (Value.int .i64)).toArray) (.agg (ys.map (Value.int .i64)).toArray)).run Go.Proofs.Try.prog w = .ok (eqL xs ys) w ∧ Go.Proofs.Try.prog.eqGuardType Go.Proofs.Try.prog.depth 23 = false := by
  intro _ xs ys w hx hy
  match xs, hx, ys, hy with
  | [x0, x1], _, [y0, y1], _ =>
    refine ⟨?_, by kernel_rfl⟩
    have f : Op.equal 23 = Op.equalIn (9999 + 1) 23 := rfl
    have u23 : Go.Proofs.Try.prog.underlying 23 = some (.struct (Go.Proofs.Try.prog.fieldsOf 23)) := by kernel_rfl
    have s23 : Go.Proofs.Try.prog.stoodInHeld 23 = false := by kernel_rfl
    rw [f, run_equalIn_struct w 9999 23 _ _ u23 s23]
    by_cases h0 : x0 = y0 <;> by_cases h1 : x1 = y1 <;> simp [go_sem, eqL, h0, h1]
theorem ty23 : TyOK Go.Proofs.Try.prog 23 ⟨.str [(0, 1, false), (1, 1, false)], 2, [.int .i64 0, .int .i64 0], true, 16⟩ := ⟨by kernel_rfl, by kernel_rfl, by kernel_rfl, rfl, eq23⟩
theorem eq25 : (true : Bool) = true → ∀ (xs ys : List Int) (w : World), xs.length = 4 → ys.length = 4 → (Op.equal 25 (.agg (xs.map (Value.int .i64)).toArray) (.agg (ys.map (Value.int .i64)).toArray)).run Go.Proofs.Try.prog w = .ok (eqL xs ys) w ∧ Go.Proofs.Try.prog.eqGuardType Go.Proofs.Try.prog.depth 25 = false := by
  intro _ xs ys w hx hy
  match xs, hx, ys, hy with
  | [x0, x1, x2, x3], _, [y0, y1, y2, y3], _ =>
    refine ⟨?_, by kernel_rfl⟩
    have f : Op.equal 25 = Op.equalIn (9999 + 1) 25 := rfl
    have u25 : Go.Proofs.Try.prog.underlying 25 = some (.struct (Go.Proofs.Try.prog.fieldsOf 25)) := by kernel_rfl
    have s25 : Go.Proofs.Try.prog.stoodInHeld 25 = false := by kernel_rfl
    have u23 : Go.Proofs.Try.prog.underlying 23 = some (.struct (Go.Proofs.Try.prog.fieldsOf 23)) := by kernel_rfl
    have s23 : Go.Proofs.Try.prog.stoodInHeld 23 = false := by kernel_rfl
    rw [f, run_equalIn_struct w 9999 25 _ _ u25 s25]
    by_cases h0 : x0 = y0 <;> by_cases h1 : x1 = y1 <;> by_cases h2 : x2 = y2 <;> by_cases h3 : x3 = y3 <;> simp [go_sem, eqL, h0, h1, h2, h3]
theorem ty25 : TyOK Go.Proofs.Try.prog 25 ⟨.str [(0, 2, true), (2, 2, true)], 4, [.int .i64 0, .int .i64 0, .int .i64 0, .int .i64 0], true, 32⟩ := ⟨by kernel_rfl, by kernel_rfl, by kernel_rfl, rfl, eq25⟩
theorem ty26 : TyOK Go.Proofs.Try.prog 26 ⟨.sli 47 9, 1, [.slice none 0 0], false, 24⟩ := ⟨by kernel_rfl, by kernel_rfl, by kernel_rfl, rfl, fun h => by cases h⟩
theorem ty29 : TyOK Go.Proofs.Try.prog 29 ⟨.sli 25 4, 1, [.slice none 0 0], false, 24⟩ := ⟨by kernel_rfl, by kernel_rfl, by kernel_rfl, rfl, fun h => by cases h⟩
theorem ty30 : TyOK Go.Proofs.Try.prog 30 ⟨.int .i64, 1, [.int .i64 0], false, 8⟩ := ⟨by kernel_rfl, by kernel_rfl, by kernel_rfl, rfl, fun h => by cases h⟩
theorem ty33 : TyOK Go.Proofs.Try.prog 33 ⟨.sli 3 1, 1, [.slice none 0 0], false, 24⟩ := ⟨by kernel_rfl, by kernel_rfl, by kernel_rfl, rfl, fun h => by cases h⟩
theorem ty42 : TyOK Go.Proofs.Try.prog 42 ⟨.sli 67 4, 1, [.slice none 0 0], false, 24⟩ := ⟨by kernel_rfl, by kernel_rfl, by kernel_rfl, rfl, fun h => by cases h⟩
theorem ty47 : TyOK Go.Proofs.Try.prog 47 ⟨.str [(0, 1, false), (1, 2, true), (3, 2, true), (5, 2, true), (7, 2, true)], 9, [.int .i64 0, .int .i64 0, .int .i64 0, .int .i64 0, .int .i64 0, .int .i64 0, .int .i64 0, .int .i64 0, .int .i64 0], false, 72⟩ := ⟨by kernel_rfl, by kernel_rfl, by kernel_rfl, rfl, fun h => by cases h⟩
theorem ty48 : TyOK Go.Proofs.Try.prog 48 ⟨.int .u32, 1, [.int .u32 0], false, 4⟩ := ⟨by kernel_rfl, by kernel_rfl, by kernel_rfl, rfl, fun h => by cases h⟩
theorem ty49 : TyOK Go.Proofs.Try.prog 49 ⟨.arr 4 1 false, 4, [.int .u32 0, .int .u32 0, .int .u32 0, .int .u32 0], false, 16⟩ := ⟨by kernel_rfl, by kernel_rfl, by kernel_rfl, rfl, fun h => by cases h⟩
theorem ty50 : TyOK Go.Proofs.Try.prog 50 ⟨.one, 1, [.nilFunc], false, 8⟩ := ⟨by kernel_rfl, by kernel_rfl, by kernel_rfl, rfl, fun h => by cases h⟩
theorem ty54 : TyOK Go.Proofs.Try.prog 54 ⟨.sli 48 1, 1, [.slice none 0 0], false, 24⟩ := ⟨by kernel_rfl, by kernel_rfl, by kernel_rfl, rfl, fun h => by cases h⟩
theorem ty59 : TyOK Go.Proofs.Try.prog 59 ⟨.int .u16, 1, [.int .u16 0], false, 2⟩ := ⟨by kernel_rfl, by kernel_rfl, by kernel_rfl, rfl, fun h => by cases h⟩
theorem ty61 : TyOK Go.Proofs.Try.prog 61 ⟨.one, 1, [.nilFunc], false, 8⟩ := ⟨by kernel_rfl, by kernel_rfl, by kernel_rfl, rfl, fun h => by cases h⟩
theorem ty63 : TyOK Go.Proofs.Try.prog 63 ⟨.sli 5 1, 1, [.slice none 0 0], false, 24⟩ := ⟨by kernel_rfl, by kernel_rfl, by kernel_rfl, rfl, fun h => by cases h⟩
theorem ty67 : TyOK Go.Proofs.Try.prog 67 ⟨.str [(0, 1, false), (1, 1, false), (2, 1, false), (3, 1, false)], 4, [.int .i64 0, .int .i64 0, .int .i64 0, .int .i64 0], false, 32⟩ := ⟨by kernel_rfl, by kernel_rfl, by kernel_rfl, rfl, fun h => by cases h⟩
theorem ty76 : TyOK Go.Proofs.Try.prog 76 ⟨.one, 1, [.nilFunc], false, 8⟩ := ⟨by kernel_rfl, by kernel_rfl, by kernel_rfl, rfl, fun h => by cases h⟩
theorem ty85 : TyOK Go.Proofs.Try.prog 85 ⟨.arr 168 1 false, 168, [.int .i64 0, .int .i64 0, .int .i64 0, .int .i64 0, .int .i64 0, .int .i64 0, .int .i64 0, .int .i64 0, .int .i64 0, .int .i64 0, .int .i64 0, .int .i64 0, .int .i64 0, .int .i64 0, .int .i64 0, .int .i64 0, .int .i64 0, .int .i64 0, .int .i64 0, .int .i64 0, .int .i64 0, .int .i64 0, .int .i64 0, .int .i64 0, .int .i64 0, .int .i64 0, .int .i64 0, .int .i64 0, .int .i64 0, .int .i64 0, .int .i64 0, .int .i64 0, .int .i64 0, .int .i64 0, .int .i64 0, .int .i64 0, .int .i64 0, .int .i64 0, .int .i64 0, .int .i64 0, .int .i64 0, .int .i64 0, .int .i64 0, .int .i64 0, .int .i64 0, .int .i64 0, .int .i64 0, .int .i64 0, .int .i64 0, .int .i64 0, .int .i64 0, .int .i64 0, .int .i64 0, .int .i64 0, .int .i64 0, .int .i64 0, .int .i64 0, .int .i64 0, .int .i64 0, .int .i64 0, .int .i64 0, .int .i64 0, .int .i64 0, .int .i64 0, .int .i64 0, .int .i64 0, .int .i64 0, .int .i64 0, .int .i64 0, .int .i64 0, .int .i64 0, .int .i64 0, .int .i64 0, .int .i64 0, .int .i64 0, .int .i64 0, .int .i64 0, .int .i64 0, .int .i64 0, .int .i64 0, .int .i64 0, .int .i64 0, .int .i64 0, .int .i64 0, .int .i64 0, .int .i64 0, .int .i64 0, .int .i64 0, .int .i64 0, .int .i64 0, .int .i64 0, .int .i64 0, .int .i64 0, .int .i64 0, .int .i64 0, .int .i64 0, .int .i64 0, .int .i64 0, .int .i64 0, .int .i64 0, .int .i64 0, .int .i64 0, .int .i64 0, .int .i64 0, .int .i64 0, .int .i64 0, .int .i64 0, .int .i64 0, .int .i64 0, .int .i64 0, .int .i64 0, .int .i64 0, .int .i64 0, .int .i64 0, .int .i64 0, .int .i64 0, .int .i64 0, .int .i64 0, .int .i64 0, .int .i64 0, .int .i64 0, .int .i64 0, .int .i64 0, .int .i64 0, .int .i64 0, .int .i64 0, .int .i64 0, .int .i64 0, .int .i64 0, .int .i64 0, .int .i64 0, .int .i64 0, .int .i64 0, .int .i64 0, .int .i64 0, .int .i64 0, .int .i64 0, .int .i64 0, .int .i64 0, .int .i64 0, .int .i64 0, .int .i64 0, .int .i64 0, .int .i64 0, .int .i64 0, .int .i64 0, .int .i64 0, .int .i64 0, .int .i64 0, .int .i64 0, .int .i64 0, .int .i64 0, .int .i64 0, .int .i64 0, .int .i64 0, .int .i64 0, .int .i64 0, .int .i64 0, .int .i64 0, .int .i64 0, .int .i64 0, .int .i64 0, .int .i64 0, .int .i64 0, .int .i64 0, .int .i64 0, .int .i64 0, .int .i64 0], false, 1344⟩ := ⟨by kernel_rfl, by kernel_rfl, by kernel_rfl, rfl, fun h => by cases h⟩
theorem ty87 : TyOK Go.Proofs.Try.prog 87 ⟨.sli 33 1, 1, [.slice none 0 0], false, 24⟩ := ⟨by kernel_rfl, by kernel_rfl, by kernel_rfl, rfl, fun h => by cases h⟩
theorem ty91 : TyOK Go.Proofs.Try.prog 91 ⟨.str [(0, 4, true), (4, 1, false)], 5, [.int .i64 0, .int .i64 0, .int .i64 0, .int .i64 0, .slice none 0 0], false, 56⟩ := ⟨by kernel_rfl, by kernel_rfl, by kernel_rfl, rfl, fun h => by cases h⟩
theorem ty95 : TyOK Go.Proofs.Try.prog 95 ⟨.int .u64, 1, [.int .u64 0], false, 8⟩ := ⟨by kernel_rfl, by kernel_rfl, by kernel_rfl, rfl, fun h => by cases h⟩
theorem ty97 : TyOK Go.Proofs.Try.prog 97 ⟨.one, 1, [.nilFunc], false, 8⟩ := ⟨by kernel_rfl, by kernel_rfl, by kernel_rfl, rfl, fun h => by cases h⟩
theorem ty109 : TyOK Go.Proofs.Try.prog 109 ⟨.one, 1, [.nilFunc], false, 8⟩ := ⟨by kernel_rfl, by kernel_rfl, by kernel_rfl, rfl, fun h => by cases h⟩
theorem ty111 : TyOK Go.Proofs.Try.prog 111 ⟨.sli 42 1, 1, [.slice none 0 0], false, 24⟩ := ⟨by kernel_rfl, by kernel_rfl, by kernel_rfl, rfl, fun h => by cases h⟩
theorem ty114 : TyOK Go.Proofs.Try.prog 114 ⟨.str [(0, 2, true), (2, 2, true)], 4, [.int .i64 0, .int .i64 0, .int .i64 0, .int .i64 0], false, 32⟩ := ⟨by kernel_rfl, by kernel_rfl, by kernel_rfl, rfl, fun h => by cases h⟩
theorem ty116 : TyOK Go.Proofs.Try.prog 116 ⟨.str [(0, 2, true)], 2, [.int .i64 0, .int .i64 0], false, 16⟩ := ⟨by kernel_rfl, by kernel_rfl, by kernel_rfl, rfl, fun h => by cases h⟩
theorem ty118 : TyOK Go.Proofs.Try.prog 118 ⟨.str [(0, 2, true)], 2, [.int .i64 0, .int .i64 0], false, 16⟩ := ⟨by kernel_rfl, by kernel_rfl, by kernel_rfl, rfl, fun h => by cases h⟩
theorem ty120 : TyOK Go.Proofs.Try.prog 120 ⟨.str [(0, 2, true), (2, 2, true)], 4, [.int .i64 0, .int .i64 0, .int .i64 0, .int .i64 0], false, 32⟩ := ⟨by kernel_rfl, by kernel_rfl, by kernel_rfl, rfl, fun h => by cases h⟩
theorem ty137 : TyOK Go.Proofs.Try.prog 137 ⟨.str [(0, 1, false), (1, 1, false)], 2, [.int .i64 0, .int .i64 0], false, 16⟩ := ⟨by kernel_rfl, by kernel_rfl, by kernel_rfl, rfl, fun h => by cases h⟩
def LAY : Lay := [(3, ⟨.int .i64, 1, [.int .i64 0], false, 8⟩), (5, ⟨.int .u8, 1, [.int .u8 0], false, 1⟩), (23, ⟨.str [(0, 1, false), (1, 1, false)], 2, [.int .i64 0, .int .i64 0], true, 16⟩), (25, ⟨.str [(0, 2, true), (2, 2, true)], 4, [.int .i64 0, .int .i64 0, .int .i64 0, .int .i64 0], true, 32⟩), (26, ⟨.sli 47 9, 1, [.slice none 0 0], false, 24⟩), (29, ⟨.sli 25 4, 1, [.slice none 0 0], false, 24⟩), (30, ⟨.int .i64, 1, [.int .i64 0], false, 8⟩), (33, ⟨.sli 3 1, 1, [.slice none 0 0], false, 24⟩), (42, ⟨.sli 67 4, 1, [.slice none 0 0], false, 24⟩), (47, ⟨.str [(0, 1, false), (1, 2, true), (3, 2, true), (5, 2, true), (7, 2, true)], 9, [.int .i64 0, .int .i64 0, .int .i64 0, .int .i64 0, .int .i64 0, .int .i64 0, .int .i64 0, .int .i64 0, .int .i64 0], false, 72⟩), (48, ⟨.int .u32, 1, [.int .u32 0], false, 4⟩), (49, ⟨.arr 4 1 false, 4, [.int .u32 0, .int .u32 0, .int .u32 0, .int .u32 0], false, 16⟩), (50, ⟨.one, 1, [.nilFunc], false, 8⟩), (54, ⟨.sli 48 1, 1, [.slice none 0 0], false, 24⟩), (59, ⟨.int .u16, 1, [.int .u16 0], false, 2⟩), (61, ⟨.one, 1, [.nilFunc], false, 8⟩), (63, ⟨.sli 5 1, 1, [.slice none 0 0], false, 24⟩), (67, ⟨.str [(0, 1, false), (1, 1, false), (2, 1, false), (3, 1, false)], 4, [.int .i64 0, .int .i64 0, .int .i64 0, .int .i64 0], false, 32⟩), (76, ⟨.one, 1, [.nilFunc], false, 8⟩), (85, ⟨.arr 168 1 false, 168, [.int .i64 0, .int .i64 0, .int .i64 0, .int .i64 0, .int .i64 0, .int .i64 0, .int .i64 0, .int .i64 0, .int .i64 0, .int .i64 0, .int .i64 0, .int .i64 0, .int .i64 0, .int .i64 0, .int .i64 0, .int .i64 0, .int .i64 0, .int .i64 0, .int .i64 0, .int .i64 0, .int .i64 0, .int .i64 0, .int .i64 0, .int .i64 0, .int .i64 0, .int .i64 0, .int .i64 0, .int .i64 0, .int .i64 0, .int .i64 0, .int .i64 0, .int .i64 0, .int .i64 0, .int .i64 0, .int .i64 0, .int .i64 0, .int .i64 0, .int .i64 0, .int .i64 0, .int .i64 0, .int .i64 0, .int .i64 0, .int .i64 0, .int .i64 0, .int .i64 0, .int .i64 0, .int .i64 0, .int .i64 0, .int .i64 0, .int .i64 0, .int .i64 0, .int .i64 0, .int .i64 0, .int .i64 0, .int .i64 0, .int .i64 0, .int .i64 0, .int .i64 0, .int .i64 0, .int .i64 0, .int .i64 0, .int .i64 0, .int .i64 0, .int .i64 0, .int .i64 0, .int .i64 0, .int .i64 0, .int .i64 0, .int .i64 0, .int .i64 0, .int .i64 0, .int .i64 0, .int .i64 0, .int .i64 0, .int .i64 0, .int .i64 0, .int .i64 0, .int .i64 0, .int .i64 0, .int .i64 0, .int .i64 0, .int .i64 0, .int .i64 0, .int .i64 0, .int .i64 0, .int .i64 0, .int .i64 0, .int .i64 0, .int .i64 0, .int .i64 0, .int .i64 0, .int .i64 0, .int .i64 0, .int .i64 0, .int .i64 0, .int .i64 0, .int .i64 0, .int .i64 0, .int .i64 0, .int .i64 0, .int .i64 0, .int .i64 0, .int .i64 0, .int .i64 0, .int .i64 0, .int .i64 0, .int .i64 0, .int .i64 0, .int .i64 0, .int .i64 0, .int .i64 0, .int .i64 0, .int .i64 0, .int .i64 0, .int .i64 0, .int .i64 0, .int .i64 0, .int .i64 0, .int .i64 0, .int .i64 0, .int .i64 0, .int .i64 0, .int .i64 0, .int .i64 0, .int .i64 0, .int .i64 0, .int .i64 0, .int .i64 0, .int .i64 0, .int .i64 0, .int .i64 0, .int .i64 0, .int .i64 0, .int .i64 0, .int .i64 0, .int .i64 0, .int .i64 0, .int .i64 0, .int .i64 0, .int .i64 0, .int .i64 0, .int .i64 0, .int .i64 0, .int .i64 0, .int .i64 0, .int .i64 0, .int .i64 0, .int .i64 0, .int .i64 0, .int .i64 0, .int .i64 0, .int .i64 0, .int .i64 0, .int .i64 0, .int .i64 0, .int .i64 0, .int .i64 0, .int .i64 0, .int .i64 0, .int .i64 0, .int .i64 0, .int .i64 0, .int .i64 0, .int .i64 0, .int .i64 0, .int .i64 0, .int .i64 0, .int .i64 0], false, 1344⟩), (87, ⟨.sli 33 1, 1, [.slice none 0 0], false, 24⟩), (91, ⟨.str [(0, 4, true), (4, 1, false)], 5, [.int .i64 0, .int .i64 0, .int .i64 0, .int .i64 0, .slice none 0 0], false, 56⟩), (95, ⟨.int .u64, 1, [.int .u64 0], false, 8⟩), (97, ⟨.one, 1, [.nilFunc], false, 8⟩), (109, ⟨.one, 1, [.nilFunc], false, 8⟩), (111, ⟨.sli 42 1, 1, [.slice none 0 0], false, 24⟩), (114, ⟨.str [(0, 2, true), (2, 2, true)], 4, [.int .i64 0, .int .i64 0, .int .i64 0, .int .i64 0], false, 32⟩), (116, ⟨.str [(0, 2, true)], 2, [.int .i64 0, .int .i64 0], false, 16⟩), (118, ⟨.str [(0, 2, true)], 2, [.int .i64 0, .int .i64 0], false, 16⟩), (120, ⟨.str [(0, 2, true), (2, 2, true)], 4, [.int .i64 0, .int .i64 0, .int .i64 0, .int .i64 0], false, 32⟩), (137, ⟨.str [(0, 1, false), (1, 1, false)], 2, [.int .i64 0, .int .i64 0], false, 16⟩)]
theorem lay_ok : LayOK Go.Proofs.Try.prog LAY := LayOK.cons ty3 <| LayOK.cons ty5 <| LayOK.cons ty23 <| LayOK.cons ty25 <| LayOK.cons ty26 <| LayOK.cons ty29 <| LayOK.cons ty30 <| LayOK.cons ty33 <| LayOK.cons ty42 <| LayOK.cons ty47 <| LayOK.cons ty48 <| LayOK.cons ty49 <| LayOK.cons ty50 <| LayOK.cons ty54 <| LayOK.cons ty59 <| LayOK.cons ty61 <| LayOK.cons ty63 <| LayOK.cons ty67 <| LayOK.cons ty76 <| LayOK.cons ty85 <| LayOK.cons ty87 <| LayOK.cons ty91 <| LayOK.cons ty95 <| LayOK.cons ty97 <| LayOK.cons ty109 <| LayOK.cons ty111 <| LayOK.cons ty114 <| LayOK.cons ty116 <| LayOK.cons ty118 <| LayOK.cons ty120 <| LayOK.cons ty137 <| LayOK.nil _
theorem mixed : Go.Proofs.Try.prog.follows .mixedOrders = true := by kernel_rfl
theorem enters_3 : EntersOK Go.Proofs.Try.prog 3 := enters_of Go.Proofs.Try.func3 (by kernel_rfl) rfl
theorem enters_4 : EntersOK Go.Proofs.Try.prog 4 := enters_of Go.Proofs.Try.func4 (by kernel_rfl) rfl
theorem enters_5 : EntersOK Go.Proofs.Try.prog 5 := enters_of Go.Proofs.Try.func5 (by kernel_rfl) rfl
theorem enters_6 : EntersOK Go.Proofs.Try.prog 6 := enters_of Go.Proofs.Try.func6 (by kernel_rfl) rfl
theorem enters_7 : EntersOK Go.Proofs.Try.prog 7 := enters_of Go.Proofs.Try.func7 (by kernel_rfl) rfl
theorem enters_8 : EntersOK Go.Proofs.Try.prog 8 := enters_of Go.Proofs.Try.func8 (by kernel_rfl) rfl
theorem enters_9 : EntersOK Go.Proofs.Try.prog 9 := enters_of Go.Proofs.Try.func9 (by kernel_rfl) rfl
theorem enters_10 : EntersOK Go.Proofs.Try.prog 10 := enters_of Go.Proofs.Try.func10 (by kernel_rfl) rfl
theorem enters_11 : EntersOK Go.Proofs.Try.prog 11 := enters_of Go.Proofs.Try.func11 (by kernel_rfl) rfl
theorem enters_12 : EntersOK Go.Proofs.Try.prog 12 := enters_of Go.Proofs.Try.func12 (by kernel_rfl) rfl
theorem enters_13 : EntersOK Go.Proofs.Try.prog 13 := enters_of Go.Proofs.Try.func13 (by kernel_rfl) rfl
theorem enters_14 : EntersOK Go.Proofs.Try.prog 14 := enters_of Go.Proofs.Try.func14 (by kernel_rfl) rfl
theorem enters_15 : EntersOK Go.Proofs.Try.prog 15 := enters_of Go.Proofs.Try.func15 (by kernel_rfl) rfl
theorem enters_16 : EntersOK Go.Proofs.Try.prog 16 := enters_of Go.Proofs.Try.func16 (by kernel_rfl) rfl
theorem enters_17 : EntersOK Go.Proofs.Try.prog 17 := enters_of Go.Proofs.Try.func17 (by kernel_rfl) rfl
theorem enters_18 : EntersOK Go.Proofs.Try.prog 18 := enters_of Go.Proofs.Try.func18 (by kernel_rfl) rfl
theorem enters_19 : EntersOK Go.Proofs.Try.prog 19 := enters_of Go.Proofs.Try.func19 (by kernel_rfl) rfl
theorem enters_20 : EntersOK Go.Proofs.Try.prog 20 := enters_of Go.Proofs.Try.func20 (by kernel_rfl) rfl
theorem enters_21 : EntersOK Go.Proofs.Try.prog 21 := enters_of Go.Proofs.Try.func21 (by kernel_rfl) rfl
theorem enters_22 : EntersOK Go.Proofs.Try.prog 22 := enters_of Go.Proofs.Try.func22 (by kernel_rfl) rfl
theorem enters_23 : EntersOK Go.Proofs.Try.prog 23 := enters_of Go.Proofs.Try.func23 (by kernel_rfl) rfl
theorem enters_24 : EntersOK Go.Proofs.Try.prog 24 := enters_of Go.Proofs.Try.func24 (by kernel_rfl) rfl
theorem enters_25 : EntersOK Go.Proofs.Try.prog 25 := enters_of Go.Proofs.Try.func25 (by kernel_rfl) rfl
theorem enters_26 : EntersOK Go.Proofs.Try.prog 26 := enters_of Go.Proofs.Try.func26 (by kernel_rfl) rfl
theorem enters_27 : EntersOK Go.Proofs.Try.prog 27 := enters_of Go.Proofs.Try.func27 (by kernel_rfl) rfl
theorem enters_28 : EntersOK Go.Proofs.Try.prog 28 := enters_of Go.Proofs.Try.func28 (by kernel_rfl) rfl
theorem enters_29 : EntersOK Go.Proofs.Try.prog 29 := enters_of Go.Proofs.Try.func29 (by kernel_rfl) rfl
theorem enters_30 : EntersOK Go.Proofs.Try.prog 30 := enters_of Go.Proofs.Try.func30 (by kernel_rfl) rfl
theorem enters_31 : EntersOK Go.Proofs.Try.prog 31 := enters_of Go.Proofs.Try.func31 (by kernel_rfl) rfl
theorem enters_32 : EntersOK Go.Proofs.Try.prog 32 := enters_of Go.Proofs.Try.func32 (by kernel_rfl) rfl
theorem enters_33 : EntersOK Go.Proofs.Try.prog 33 := enters_of Go.Proofs.Try.func33 (by kernel_rfl) rfl
theorem enters_34 : EntersOK Go.Proofs.Try.prog 34 := enters_of Go.Proofs.Try.func34 (by kernel_rfl) rfl
theorem enters_35 : EntersOK Go.Proofs.Try.prog 35 := enters_of Go.Proofs.Try.func35 (by kernel_rfl) rfl
theorem enters_36 : EntersOK Go.Proofs.Try.prog 36 := enters_of Go.Proofs.Try.func36 (by kernel_rfl) rfl
theorem enters_37 : EntersOK Go.Proofs.Try.prog 37 := enters_of Go.Proofs.Try.func37 (by kernel_rfl) rfl
theorem enters_38 : EntersOK Go.Proofs.Try.prog 38 := enters_of Go.Proofs.Try.func38 (by kernel_rfl) rfl
theorem enters_39 : EntersOK Go.Proofs.Try.prog 39 := enters_of Go.Proofs.Try.func39 (by kernel_rfl) rfl
theorem enters_40 : EntersOK Go.Proofs.Try.prog 40 := enters_of Go.Proofs.Try.func40 (by kernel_rfl) rfl
theorem enters_41 : EntersOK Go.Proofs.Try.prog 41 := enters_of Go.Proofs.Try.func41 (by kernel_rfl) rfl
theorem enters_42 : EntersOK Go.Proofs.Try.prog 42 := enters_of Go.Proofs.Try.func42 (by kernel_rfl) rfl
theorem enters_43 : EntersOK Go.Proofs.Try.prog 43 := enters_of Go.Proofs.Try.func43 (by kernel_rfl) rfl
theorem enters_44 : EntersOK Go.Proofs.Try.prog 44 := enters_of Go.Proofs.Try.func44 (by kernel_rfl) rfl
theorem enters_45 : EntersOK Go.Proofs.Try.prog 45 := enters_of Go.Proofs.Try.func45 (by kernel_rfl) rfl
theorem enters_46 : EntersOK Go.Proofs.Try.prog 46 := enters_of Go.Proofs.Try.func46 (by kernel_rfl) rfl
theorem enters_47 : EntersOK Go.Proofs.Try.prog 47 := enters_of Go.Proofs.Try.func47 (by kernel_rfl) rfl
theorem enters_48 : EntersOK Go.Proofs.Try.prog 48 := enters_of Go.Proofs.Try.func48 (by kernel_rfl) rfl
theorem enters_49 : EntersOK Go.Proofs.Try.prog 49 := enters_of Go.Proofs.Try.func49 (by kernel_rfl) rfl
theorem enters_50 : EntersOK Go.Proofs.Try.prog 50 := enters_of Go.Proofs.Try.func50 (by kernel_rfl) rfl
theorem enters_51 : EntersOK Go.Proofs.Try.prog 51 := enters_of Go.Proofs.Try.func51 (by kernel_rfl) rfl
theorem enters_52 : EntersOK Go.Proofs.Try.prog 52 := enters_of Go.Proofs.Try.func52 (by kernel_rfl) rfl
theorem enters_53 : EntersOK Go.Proofs.Try.prog 53 := enters_of Go.Proofs.Try.func53 (by kernel_rfl) rfl
theorem enters_54 : EntersOK Go.Proofs.Try.prog 54 := enters_of Go.Proofs.Try.func54 (by kernel_rfl) rfl
theorem enters_55 : EntersOK Go.Proofs.Try.prog 55 := enters_of Go.Proofs.Try.func55 (by kernel_rfl) rfl
theorem enters_56 : EntersOK Go.Proofs.Try.prog 56 := enters_of Go.Proofs.Try.func56 (by kernel_rfl) rfl
theorem enters_57 : EntersOK Go.Proofs.Try.prog 57 := enters_of Go.Proofs.Try.func57 (by kernel_rfl) rfl
theorem enters_58 : EntersOK Go.Proofs.Try.prog 58 := enters_of Go.Proofs.Try.func58 (by kernel_rfl) rfl
theorem enters_59 : EntersOK Go.Proofs.Try.prog 59 := enters_of Go.Proofs.Try.func59 (by kernel_rfl) rfl
theorem enters_60 : EntersOK Go.Proofs.Try.prog 60 := enters_of Go.Proofs.Try.func60 (by kernel_rfl) rfl
theorem enters_61 : EntersOK Go.Proofs.Try.prog 61 := enters_of Go.Proofs.Try.func61 (by kernel_rfl) rfl
theorem enters_62 : EntersOK Go.Proofs.Try.prog 62 := enters_of Go.Proofs.Try.func62 (by kernel_rfl) rfl
theorem enters_63 : EntersOK Go.Proofs.Try.prog 63 := enters_of Go.Proofs.Try.func63 (by kernel_rfl) rfl
theorem enters_64 : EntersOK Go.Proofs.Try.prog 64 := enters_of Go.Proofs.Try.func64 (by kernel_rfl) rfl
theorem enters_65 : EntersOK Go.Proofs.Try.prog 65 := enters_of Go.Proofs.Try.func65 (by kernel_rfl) rfl
theorem enters_66 : EntersOK Go.Proofs.Try.prog 66 := enters_of Go.Proofs.Try.func66 (by kernel_rfl) rfl
theorem enters_67 : EntersOK Go.Proofs.Try.prog 67 := enters_of Go.Proofs.Try.func67 (by kernel_rfl) rfl
theorem enters_68 : EntersOK Go.Proofs.Try.prog 68 := enters_of Go.Proofs.Try.func68 (by kernel_rfl) rfl
theorem enters_69 : EntersOK Go.Proofs.Try.prog 69 := enters_of Go.Proofs.Try.func69 (by kernel_rfl) rfl
theorem enters_85 : EntersOK Go.Proofs.Try.prog 85 := enters_of Go.Proofs.Try.func85 (by kernel_rfl) rfl
theorem enters_86 : EntersOK Go.Proofs.Try.prog 86 := enters_of Go.Proofs.Try.func86 (by kernel_rfl) rfl
theorem enters_87 : EntersOK Go.Proofs.Try.prog 87 := enters_of Go.Proofs.Try.func87 (by kernel_rfl) rfl
theorem enters_88 : EntersOK Go.Proofs.Try.prog 88 := enters_of Go.Proofs.Try.func88 (by kernel_rfl) rfl
theorem enters_89 : EntersOK Go.Proofs.Try.prog 89 := enters_of Go.Proofs.Try.func89 (by kernel_rfl) rfl
theorem enters_90 : EntersOK Go.Proofs.Try.prog 90 := enters_of Go.Proofs.Try.func90 (by kernel_rfl) rfl
theorem enters_91 : EntersOK Go.Proofs.Try.prog 91 := enters_of Go.Proofs.Try.func91 (by kernel_rfl) rfl
theorem enters_92 : EntersOK Go.Proofs.Try.prog 92 := enters_of Go.Proofs.Try.func92 (by kernel_rfl) rfl
theorem enters_93 : EntersOK Go.Proofs.Try.prog 93 := enters_of Go.Proofs.Try.func93 (by kernel_rfl) rfl
theorem enters_94 : EntersOK Go.Proofs.Try.prog 94 := enters_of Go.Proofs.Try.func94 (by kernel_rfl) rfl
theorem enters_95 : EntersOK Go.Proofs.Try.prog 95 := enters_of Go.Proofs.Try.func95 (by kernel_rfl) rfl
theorem enters_96 : EntersOK Go.Proofs.Try.prog 96 := enters_of Go.Proofs.Try.func96 (by kernel_rfl) rfl
end Go.Proofs.Ytlcccomdijdkaaa

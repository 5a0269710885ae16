/- Models and walks, printed by program. -/
import Derived.Test.YtnfahoomoelmcaaProg
import Derived.Test.YtnfahoomoelmcaaSyY
import Derived.Shelf.Abstract
namespace Go.Proofs.Ytnfahoomoelmcaa
open Go.RowKit Go.Shelf Go.Proofs.Try
theorem ty3 : TyOK Go.Proofs.Try.prog 3 ⟨.int .i64, 1, [.int .i64 0], false, 8⟩ := ⟨by kernel_rfl, by kernel_rfl, by kernel_rfl, rfl, fun h => by cases h⟩
theorem ty4 : TyOK Go.Proofs.Try.prog 4 ⟨.boo, 1, [.bool false], false, 1⟩ := ⟨by kernel_rfl, by kernel_rfl, by kernel_rfl, rfl, fun h => by cases h⟩
theorem ty5 : TyOK Go.Proofs.Try.prog 5 ⟨.int .u8, 1, [.int .u8 0], false, 1⟩ := ⟨by kernel_rfl, by kernel_rfl, by kernel_rfl, rfl, fun h => by cases h⟩
theorem ty22 : TyOK Go.Proofs.Try.prog 22 ⟨.sli 3 1, 1, [.slice none 0 0], false, 24⟩ := ⟨by kernel_rfl, by kernel_rfl, by kernel_rfl, rfl, fun h => by cases h⟩
theorem ty23 : TyOK Go.Proofs.Try.prog 23 ⟨.sli 27 2, 1, [.slice none 0 0], false, 24⟩ := ⟨by kernel_rfl, by kernel_rfl, by kernel_rfl, rfl, fun h => by cases h⟩
theorem ty25 : TyOK Go.Proofs.Try.prog 25 ⟨.str [(0, 1, false), (1, 1, false)], 2, [.slice none 0 0, .slice none 0 0], false, 48⟩ := ⟨by kernel_rfl, by kernel_rfl, by kernel_rfl, rfl, fun h => by cases h⟩
theorem eq27 : (true : Bool) = true → ∀ (xs ys : List Int) (w : World), xs.length = 2 → ys.length = 2 → (Op.equal 27 (.agg (xs.map (Value.int .i64)).toArray) (.agg (ys.map (Value.int .i64)).toArray)).run Go.Proofs.Try.prog w = .ok (eqL xs ys) w ∧ Go.Proofs.Try.prog.eqGuardType Go.Proofs.Try.prog.depth 27 = false := by
  intro _ xs ys w hx hy
  match xs, hx, ys, hy with
  | [x0, x1], _, [y0, y1], _ =>
    refine ⟨?_, by kernel_rfl⟩
    have f : Op.equal 27 = Op.equalIn (9999 + 1) 27 := rfl
    have u27 : Go.Proofs.Try.prog.underlying 27 = some (.struct (Go.Proofs.Try.prog.fieldsOf 27)) := by kernel_rfl
    have s27 : Go.Proofs.Try.prog.stoodInHeld 27 = false := by kernel_rfl
    rw [f, run_equalIn_struct w 9999 27 _ _ u27 s27]
    by_cases h0 : x0 = y0 <;> by_cases h1 : x1 = y1 <;> simp [go_sem, eqL, h0, h1]
theorem ty27 : TyOK Go.Proofs.Try.prog 27 ⟨.str [(0, 1, false), (1, 1, false)], 2, [.int .i64 0, .int .i64 0], true, 16⟩ := ⟨by kernel_rfl, by kernel_rfl, by kernel_rfl, rfl, eq27⟩
theorem eq29 : (true : Bool) = true → ∀ (xs ys : List Int) (w : World), xs.length = 3 → ys.length = 3 → (Op.equal 29 (.agg (xs.map (Value.int .i64)).toArray) (.agg (ys.map (Value.int .i64)).toArray)).run Go.Proofs.Try.prog w = .ok (eqL xs ys) w ∧ Go.Proofs.Try.prog.eqGuardType Go.Proofs.Try.prog.depth 29 = false := by
  intro _ xs ys w hx hy
  match xs, hx, ys, hy with
  | [x0, x1, x2], _, [y0, y1, y2], _ =>
    refine ⟨?_, by kernel_rfl⟩
    have f : Op.equal 29 = Op.equalIn (9999 + 1) 29 := rfl
    have u29 : Go.Proofs.Try.prog.underlying 29 = some (.struct (Go.Proofs.Try.prog.fieldsOf 29)) := by kernel_rfl
    have s29 : Go.Proofs.Try.prog.stoodInHeld 29 = false := by kernel_rfl
    have u27 : Go.Proofs.Try.prog.underlying 27 = some (.struct (Go.Proofs.Try.prog.fieldsOf 27)) := by kernel_rfl
    have s27 : Go.Proofs.Try.prog.stoodInHeld 27 = false := by kernel_rfl
    rw [f, run_equalIn_struct w 9999 29 _ _ u29 s29]
    by_cases h0 : x0 = y0 <;> by_cases h1 : x1 = y1 <;> by_cases h2 : x2 = y2 <;> simp [go_sem, eqL, h0, h1, h2]
theorem ty29 : TyOK Go.Proofs.Try.prog 29 ⟨.str [(0, 1, false), (1, 2, true)], 3, [.int .i64 0, .int .i64 0, .int .i64 0], true, 24⟩ := ⟨by kernel_rfl, by kernel_rfl, by kernel_rfl, rfl, eq29⟩
theorem ty32 : TyOK Go.Proofs.Try.prog 32 ⟨.int .i64, 1, [.int .i64 0], false, 8⟩ := ⟨by kernel_rfl, by kernel_rfl, by kernel_rfl, rfl, fun h => by cases h⟩
theorem eq36 : (true : Bool) = true → ∀ (xs ys : List Int) (w : World), xs.length = 3 → ys.length = 3 → (Op.equal 36 (.agg (xs.map (Value.int .i64)).toArray) (.agg (ys.map (Value.int .i64)).toArray)).run Go.Proofs.Try.prog w = .ok (eqL xs ys) w ∧ Go.Proofs.Try.prog.eqGuardType Go.Proofs.Try.prog.depth 36 = false := by
  intro _ xs ys w hx hy
  match xs, hx, ys, hy with
  | [x0, x1, x2], _, [y0, y1, y2], _ =>
    refine ⟨?_, by kernel_rfl⟩
    have f : Op.equal 36 = Op.equalIn (9999 + 1) 36 := rfl
    have u36 : Go.Proofs.Try.prog.underlying 36 = some (.struct (Go.Proofs.Try.prog.fieldsOf 36)) := by kernel_rfl
    have s36 : Go.Proofs.Try.prog.stoodInHeld 36 = false := by kernel_rfl
    have u27 : Go.Proofs.Try.prog.underlying 27 = some (.struct (Go.Proofs.Try.prog.fieldsOf 27)) := by kernel_rfl
    have s27 : Go.Proofs.Try.prog.stoodInHeld 27 = false := by kernel_rfl
    rw [f, run_equalIn_struct w 9999 36 _ _ u36 s36]
    by_cases h0 : x0 = y0 <;> by_cases h1 : x1 = y1 <;> by_cases h2 : x2 = y2 <;> simp [go_sem, eqL, h0, h1, h2]
theorem ty36 : TyOK Go.Proofs.Try.prog 36 ⟨.str [(0, 1, false), (1, 2, true)], 3, [.int .i64 0, .int .i64 0, .int .i64 0], true, 24⟩ := ⟨by kernel_rfl, by kernel_rfl, by kernel_rfl, rfl, eq36⟩
theorem ty39 : TyOK Go.Proofs.Try.prog 39 ⟨.sli 36 3, 1, [.slice none 0 0], false, 24⟩ := ⟨by kernel_rfl, by kernel_rfl, by kernel_rfl, rfl, fun h => by cases h⟩
theorem ty58 : TyOK Go.Proofs.Try.prog 58 ⟨.sli 62 1, 1, [.slice none 0 0], false, 24⟩ := ⟨by kernel_rfl, by kernel_rfl, by kernel_rfl, rfl, fun h => by cases h⟩
theorem ty62 : TyOK Go.Proofs.Try.prog 62 ⟨.int .u32, 1, [.int .u32 0], false, 4⟩ := ⟨by kernel_rfl, by kernel_rfl, by kernel_rfl, rfl, fun h => by cases h⟩
theorem eq75 : (true : Bool) = true → ∀ (xs ys : List Int) (w : World), xs.length = 2 → ys.length = 2 → (Op.equal 75 (.agg (xs.map (Value.int .i64)).toArray) (.agg (ys.map (Value.int .i64)).toArray)).run Go.Proofs.Try.prog w = .ok (eqL xs ys) w ∧ Go.Proofs.Try.prog.eqGuardType Go.Proofs.Try.prog.depth 75 = false := by
  intro _ xs ys w hx hy
  match xs, hx, ys, hy with
  | [x0, x1], _, [y0, y1], _ =>
    refine ⟨?_, by kernel_rfl⟩
    have f : Op.equal 75 = Op.equalIn (9999 + 1) 75 := rfl
    have u75 : Go.Proofs.Try.prog.underlying 75 = some (.struct (Go.Proofs.Try.prog.fieldsOf 75)) := by kernel_rfl
    have s75 : Go.Proofs.Try.prog.stoodInHeld 75 = false := by kernel_rfl
    rw [f, run_equalIn_struct w 9999 75 _ _ u75 s75]
    by_cases h0 : x0 = y0 <;> by_cases h1 : x1 = y1 <;> simp [go_sem, eqL, h0, h1]
theorem ty75 : TyOK Go.Proofs.Try.prog 75 ⟨.str [(0, 1, false), (1, 1, false)], 2, [.int .i64 0, .int .i64 0], true, 16⟩ := ⟨by kernel_rfl, by kernel_rfl, by kernel_rfl, rfl, eq75⟩
theorem ty79 : TyOK Go.Proofs.Try.prog 79 ⟨.one, 1, [.nilFunc], false, 8⟩ := ⟨by kernel_rfl, by kernel_rfl, by kernel_rfl, rfl, fun h => by cases h⟩
theorem ty81 : TyOK Go.Proofs.Try.prog 81 ⟨.str [(0, 1, false), (1, 1, false)], 2, [.nilFunc, .nilFunc], false, 16⟩ := ⟨by kernel_rfl, by kernel_rfl, by kernel_rfl, rfl, fun h => by cases h⟩
theorem eq90 : (true : Bool) = true → ∀ (xs ys : List Int) (w : World), xs.length = 3 → ys.length = 3 → (Op.equal 90 (.agg (xs.map (Value.int .i64)).toArray) (.agg (ys.map (Value.int .i64)).toArray)).run Go.Proofs.Try.prog w = .ok (eqL xs ys) w ∧ Go.Proofs.Try.prog.eqGuardType Go.Proofs.Try.prog.depth 90 = false := by
  intro _ xs ys w hx hy
  match xs, hx, ys, hy with
  | [x0, x1, x2], _, [y0, y1, y2], _ =>
    refine ⟨?_, by kernel_rfl⟩
    have f : Op.equal 90 = Op.equalIn (9999 + 1) 90 := rfl
    have u90 : Go.Proofs.Try.prog.underlying 90 = some (.struct (Go.Proofs.Try.prog.fieldsOf 90)) := by kernel_rfl
    have s90 : Go.Proofs.Try.prog.stoodInHeld 90 = false := by kernel_rfl
    have u27 : Go.Proofs.Try.prog.underlying 27 = some (.struct (Go.Proofs.Try.prog.fieldsOf 27)) := by kernel_rfl
    have s27 : Go.Proofs.Try.prog.stoodInHeld 27 = false := by kernel_rfl
    rw [f, run_equalIn_struct w 9999 90 _ _ u90 s90]
    by_cases h0 : x0 = y0 <;> by_cases h1 : x1 = y1 <;> by_cases h2 : x2 = y2 <;> simp [go_sem, eqL, h0, h1, h2]
theorem ty90 : TyOK Go.Proofs.Try.prog 90 ⟨.str [(0, 1, false), (1, 2, true)], 3, [.int .i64 0, .int .i64 0, .int .i64 0], true, 24⟩ := ⟨by kernel_rfl, by kernel_rfl, by kernel_rfl, rfl, eq90⟩
theorem ty92 : TyOK Go.Proofs.Try.prog 92 ⟨.str [(0, 3, true), (3, 2, true)], 5, [.int .i64 0, .int .i64 0, .int .i64 0, .nilFunc, .nilFunc], false, 40⟩ := ⟨by kernel_rfl, by kernel_rfl, by kernel_rfl, rfl, fun h => by cases h⟩
theorem ty94 : TyOK Go.Proofs.Try.prog 94 ⟨.int .i64, 1, [.int .i64 0], false, 8⟩ := ⟨by kernel_rfl, by kernel_rfl, by kernel_rfl, rfl, fun h => by cases h⟩
theorem ty98 : TyOK Go.Proofs.Try.prog 98 ⟨.one, 1, [.nilFunc], false, 8⟩ := ⟨by kernel_rfl, by kernel_rfl, by kernel_rfl, rfl, fun h => by cases h⟩
theorem ty105 : TyOK Go.Proofs.Try.prog 105 ⟨.one, 1, [.nilFunc], false, 8⟩ := ⟨by kernel_rfl, by kernel_rfl, by kernel_rfl, rfl, fun h => by cases h⟩
theorem ty106 : TyOK Go.Proofs.Try.prog 106 ⟨.one, 1, [.pointer none], false, 8⟩ := ⟨by kernel_rfl, by kernel_rfl, by kernel_rfl, rfl, fun h => by cases h⟩
def LAY : Lay := [(3, ⟨.int .i64, 1, [.int .i64 0], false, 8⟩), (4, ⟨.boo, 1, [.bool false], false, 1⟩), (5, ⟨.int .u8, 1, [.int .u8 0], false, 1⟩), (22, ⟨.sli 3 1, 1, [.slice none 0 0], false, 24⟩), (23, ⟨.sli 27 2, 1, [.slice none 0 0], false, 24⟩), (25, ⟨.str [(0, 1, false), (1, 1, false)], 2, [.slice none 0 0, .slice none 0 0], false, 48⟩), (27, ⟨.str [(0, 1, false), (1, 1, false)], 2, [.int .i64 0, .int .i64 0], true, 16⟩), (29, ⟨.str [(0, 1, false), (1, 2, true)], 3, [.int .i64 0, .int .i64 0, .int .i64 0], true, 24⟩), (32, ⟨.int .i64, 1, [.int .i64 0], false, 8⟩), (36, ⟨.str [(0, 1, false), (1, 2, true)], 3, [.int .i64 0, .int .i64 0, .int .i64 0], true, 24⟩), (39, ⟨.sli 36 3, 1, [.slice none 0 0], false, 24⟩), (58, ⟨.sli 62 1, 1, [.slice none 0 0], false, 24⟩), (62, ⟨.int .u32, 1, [.int .u32 0], false, 4⟩), (75, ⟨.str [(0, 1, false), (1, 1, false)], 2, [.int .i64 0, .int .i64 0], true, 16⟩), (79, ⟨.one, 1, [.nilFunc], false, 8⟩), (81, ⟨.str [(0, 1, false), (1, 1, false)], 2, [.nilFunc, .nilFunc], false, 16⟩), (90, ⟨.str [(0, 1, false), (1, 2, true)], 3, [.int .i64 0, .int .i64 0, .int .i64 0], true, 24⟩), (92, ⟨.str [(0, 3, true), (3, 2, true)], 5, [.int .i64 0, .int .i64 0, .int .i64 0, .nilFunc, .nilFunc], false, 40⟩), (94, ⟨.int .i64, 1, [.int .i64 0], false, 8⟩), (98, ⟨.one, 1, [.nilFunc], false, 8⟩), (105, ⟨.one, 1, [.nilFunc], false, 8⟩), (106, ⟨.one, 1, [.pointer none], false, 8⟩)]
theorem lay_ok : LayOK Go.Proofs.Try.prog LAY := LayOK.cons ty3 <| LayOK.cons ty4 <| LayOK.cons ty5 <| LayOK.cons ty22 <| LayOK.cons ty23 <| LayOK.cons ty25 <| LayOK.cons ty27 <| LayOK.cons ty29 <| LayOK.cons ty32 <| LayOK.cons ty36 <| LayOK.cons ty39 <| LayOK.cons ty58 <| LayOK.cons ty62 <| LayOK.cons ty75 <| LayOK.cons ty79 <| LayOK.cons ty81 <| LayOK.cons ty90 <| LayOK.cons ty92 <| LayOK.cons ty94 <| LayOK.cons ty98 <| LayOK.cons ty105 <| LayOK.cons ty106 <| LayOK.nil _
theorem mixed : Go.Proofs.Try.prog.follows .mixedOrders = true := by kernel_rfl
theorem enters_3 : EntersOK Go.Proofs.Try.prog 3 := enters_of Go.Proofs.Try.func3 (by kernel_rfl) rfl
theorem enters_4 : EntersOK Go.Proofs.Try.prog 4 := enters_of Go.Proofs.Try.func4 (by kernel_rfl) rfl
theorem enters_5 : EntersOK Go.Proofs.Try.prog 5 := enters_of Go.Proofs.Try.func5 (by kernel_rfl) rfl
theorem enters_6 : EntersOK Go.Proofs.Try.prog 6 := enters_of Go.Proofs.Try.func6 (by kernel_rfl) rfl
theorem enters_7 : EntersOK Go.Proofs.Try.prog 7 := enters_of Go.Proofs.Try.func7 (by kernel_rfl) rfl
theorem enters_8 : EntersOK Go.Proofs.Try.prog 8 := enters_of Go.Proofs.Try.func8 (by kernel_rfl) rfl
theorem enters_9 : EntersOK Go.Proofs.Try.prog 9 := enters_of Go.Proofs.Try.func9 (by kernel_rfl) rfl
theorem enters_10 : EntersOK Go.Proofs.Try.prog 10 := enters_of Go.Proofs.Try.func10 (by kernel_rfl) rfl
theorem enters_11 : EntersOK Go.Proofs.Try.prog 11 := enters_of Go.Proofs.Try.func11 (by kernel_rfl) rfl
theorem enters_12 : EntersOK Go.Proofs.Try.prog 12 := enters_of Go.Proofs.Try.func12 (by kernel_rfl) rfl
theorem enters_13 : EntersOK Go.Proofs.Try.prog 13 := enters_of Go.Proofs.Try.func13 (by kernel_rfl) rfl
theorem enters_14 : EntersOK Go.Proofs.Try.prog 14 := enters_of Go.Proofs.Try.func14 (by kernel_rfl) rfl
theorem enters_15 : EntersOK Go.Proofs.Try.prog 15 := enters_of Go.Proofs.Try.func15 (by kernel_rfl) rfl
theorem enters_16 : EntersOK Go.Proofs.Try.prog 16 := enters_of Go.Proofs.Try.func16 (by kernel_rfl) rfl
theorem enters_17 : EntersOK Go.Proofs.Try.prog 17 := enters_of Go.Proofs.Try.func17 (by kernel_rfl) rfl
theorem enters_18 : EntersOK Go.Proofs.Try.prog 18 := enters_of Go.Proofs.Try.func18 (by kernel_rfl) rfl
theorem enters_19 : EntersOK Go.Proofs.Try.prog 19 := enters_of Go.Proofs.Try.func19 (by kernel_rfl) rfl
theorem enters_20 : EntersOK Go.Proofs.Try.prog 20 := enters_of Go.Proofs.Try.func20 (by kernel_rfl) rfl
theorem enters_21 : EntersOK Go.Proofs.Try.prog 21 := enters_of Go.Proofs.Try.func21 (by kernel_rfl) rfl
theorem enters_22 : EntersOK Go.Proofs.Try.prog 22 := enters_of Go.Proofs.Try.func22 (by kernel_rfl) rfl
theorem enters_23 : EntersOK Go.Proofs.Try.prog 23 := enters_of Go.Proofs.Try.func23 (by kernel_rfl) rfl
theorem enters_24 : EntersOK Go.Proofs.Try.prog 24 := enters_of Go.Proofs.Try.func24 (by kernel_rfl) rfl
theorem enters_25 : EntersOK Go.Proofs.Try.prog 25 := enters_of Go.Proofs.Try.func25 (by kernel_rfl) rfl
theorem enters_26 : EntersOK Go.Proofs.Try.prog 26 := enters_of Go.Proofs.Try.func26 (by kernel_rfl) rfl
theorem enters_27 : EntersOK Go.Proofs.Try.prog 27 := enters_of Go.Proofs.Try.func27 (by kernel_rfl) rfl
theorem enters_28 : EntersOK Go.Proofs.Try.prog 28 := enters_of Go.Proofs.Try.func28 (by kernel_rfl) rfl
theorem enters_29 : EntersOK Go.Proofs.Try.prog 29 := enters_of Go.Proofs.Try.func29 (by kernel_rfl) rfl
theorem enters_30 : EntersOK Go.Proofs.Try.prog 30 := enters_of Go.Proofs.Try.func30 (by kernel_rfl) rfl
theorem enters_31 : EntersOK Go.Proofs.Try.prog 31 := enters_of Go.Proofs.Try.func31 (by kernel_rfl) rfl
theorem enters_32 : EntersOK Go.Proofs.Try.prog 32 := enters_of Go.Proofs.Try.func32 (by kernel_rfl) rfl
theorem enters_33 : EntersOK Go.Proofs.Try.prog 33 := enters_of Go.Proofs.Try.func33 (by kernel_rfl) rfl
theorem enters_34 : EntersOK Go.Proofs.Try.prog 34 := enters_of Go.Proofs.Try.func34 (by kernel_rfl) rfl
theorem enters_35 : EntersOK Go.Proofs.Try.prog 35 := enters_of Go.Proofs.Try.func35 (by kernel_rfl) rfl
theorem enters_36 : EntersOK Go.Proofs.Try.prog 36 := enters_of Go.Proofs.Try.func36 (by kernel_rfl) rfl
theorem enters_37 : EntersOK Go.Proofs.Try.prog 37 := enters_of Go.Proofs.Try.func37 (by kernel_rfl) rfl
theorem enters_38 : EntersOK Go.Proofs.Try.prog 38 := enters_of Go.Proofs.Try.func38 (by kernel_rfl) rfl
theorem enters_39 : EntersOK Go.Proofs.Try.prog 39 := enters_of Go.Proofs.Try.func39 (by kernel_rfl) rfl
theorem enters_40 : EntersOK Go.Proofs.Try.prog 40 := enters_of Go.Proofs.Try.func40 (by kernel_rfl) rfl
theorem enters_41 : EntersOK Go.Proofs.Try.prog 41 := enters_of Go.Proofs.Try.func41 (by kernel_rfl) rfl
theorem enters_42 : EntersOK Go.Proofs.Try.prog 42 := enters_of Go.Proofs.Try.func42 (by kernel_rfl) rfl
theorem enters_43 : EntersOK Go.Proofs.Try.prog 43 := enters_of Go.Proofs.Try.func43 (by kernel_rfl) rfl
theorem enters_44 : EntersOK Go.Proofs.Try.prog 44 := enters_of Go.Proofs.Try.func44 (by kernel_rfl) rfl
theorem enters_45 : EntersOK Go.Proofs.Try.prog 45 := enters_of Go.Proofs.Try.func45 (by kernel_rfl) rfl
theorem enters_46 : EntersOK Go.Proofs.Try.prog 46 := enters_of Go.Proofs.Try.func46 (by kernel_rfl) rfl
theorem enters_47 : EntersOK Go.Proofs.Try.prog 47 := enters_of Go.Proofs.Try.func47 (by kernel_rfl) rfl
theorem enters_48 : EntersOK Go.Proofs.Try.prog 48 := enters_of Go.Proofs.Try.func48 (by kernel_rfl) rfl
theorem enters_49 : EntersOK Go.Proofs.Try.prog 49 := enters_of Go.Proofs.Try.func49 (by kernel_rfl) rfl
theorem enters_50 : EntersOK Go.Proofs.Try.prog 50 := enters_of Go.Proofs.Try.func50 (by kernel_rfl) rfl
theorem enters_51 : EntersOK Go.Proofs.Try.prog 51 := enters_of Go.Proofs.Try.func51 (by kernel_rfl) rfl
theorem enters_52 : EntersOK Go.Proofs.Try.prog 52 := enters_of Go.Proofs.Try.func52 (by kernel_rfl) rfl
theorem enters_53 : EntersOK Go.Proofs.Try.prog 53 := enters_of Go.Proofs.Try.func53 (by kernel_rfl) rfl
theorem enters_54 : EntersOK Go.Proofs.Try.prog 54 := enters_of Go.Proofs.Try.func54 (by kernel_rfl) rfl
theorem enters_55 : EntersOK Go.Proofs.Try.prog 55 := enters_of Go.Proofs.Try.func55 (by kernel_rfl) rfl
theorem enters_56 : EntersOK Go.Proofs.Try.prog 56 := enters_of Go.Proofs.Try.func56 (by kernel_rfl) rfl
theorem enters_57 : EntersOK Go.Proofs.Try.prog 57 := enters_of Go.Proofs.Try.func57 (by kernel_rfl) rfl
theorem enters_58 : EntersOK Go.Proofs.Try.prog 58 := enters_of Go.Proofs.Try.func58 (by kernel_rfl) rfl
theorem enters_59 : EntersOK Go.Proofs.Try.prog 59 := enters_of Go.Proofs.Try.func59 (by kernel_rfl) rfl
theorem enters_60 : EntersOK Go.Proofs.Try.prog 60 := enters_of Go.Proofs.Try.func60 (by kernel_rfl) rfl
theorem enters_61 : EntersOK Go.Proofs.Try.prog 61 := enters_of Go.Proofs.Try.func61 (by kernel_rfl) rfl
theorem enters_62 : EntersOK Go.Proofs.Try.prog 62 := enters_of Go.Proofs.Try.func62 (by kernel_rfl) rfl
theorem enters_63 : EntersOK Go.Proofs.Try.prog 63 := enters_of Go.Proofs.Try.func63 (by kernel_rfl) rfl
theorem enters_64 : EntersOK Go.Proofs.Try.prog 64 := enters_of Go.Proofs.Try.func64 (by kernel_rfl) rfl
theorem enters_65 : EntersOK Go.Proofs.Try.prog 65 := enters_of Go.Proofs.Try.func65 (by kernel_rfl) rfl
theorem enters_66 : EntersOK Go.Proofs.Try.prog 66 := enters_of Go.Proofs.Try.func66 (by kernel_rfl) rfl
theorem enters_67 : EntersOK Go.Proofs.Try.prog 67 := enters_of Go.Proofs.Try.func67 (by kernel_rfl) rfl
theorem enters_68 : EntersOK Go.Proofs.Try.prog 68 := enters_of Go.Proofs.Try.func68 (by kernel_rfl) rfl
theorem enters_69 : EntersOK Go.Proofs.Try.prog 69 := enters_of Go.Proofs.Try.func69 (by kernel_rfl) rfl
theorem enters_70 : EntersOK Go.Proofs.Try.prog 70 := enters_of Go.Proofs.Try.func70 (by kernel_rfl) rfl
theorem enters_71 : EntersOK Go.Proofs.Try.prog 71 := enters_of Go.Proofs.Try.func71 (by kernel_rfl) rfl
theorem enters_72 : EntersOK Go.Proofs.Try.prog 72 := enters_of Go.Proofs.Try.func72 (by kernel_rfl) rfl
theorem enters_73 : EntersOK Go.Proofs.Try.prog 73 := enters_of Go.Proofs.Try.func73 (by kernel_rfl) rfl
theorem enters_74 : EntersOK Go.Proofs.Try.prog 74 := enters_of Go.Proofs.Try.func74 (by kernel_rfl) rfl
theorem enters_75 : EntersOK Go.Proofs.Try.prog 75 := enters_of Go.Proofs.Try.func75 (by kernel_rfl) rfl
theorem enters_76 : EntersOK Go.Proofs.Try.prog 76 := enters_of Go.Proofs.Try.func76 (by kernel_rfl) rfl
theorem enters_77 : EntersOK Go.Proofs.Try.prog 77 := enters_of Go.Proofs.Try.func77 (by kernel_rfl) rfl
end Go.Proofs.Ytnfahoomoelmcaa

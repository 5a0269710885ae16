/- Walking on from a world of which only some things are known. -/
import Derived.Test.YtjcadgklamhohaaProg
import Derived.WalkKit
import Derived.WalkSpells
import Derived.WalkLawsBesides
import Derived.Deep.RegionWith
import Derived.IntWalk
import Derived.Lib.Hide
import Derived.Deep.DeepCutAuto
import Derived.Deep.RegionHeld3
import Derived.Test.YtjcadgklamhohaaLateOne
namespace Go.Proofs.Ytjcadgklamhohaa
open Go.RowKit Go.Sort

theorem ret_int {k : IntKind} {a b : Int} (h : a = b) : Ending.returned (.int k a) = .returned (.int k b) := by rw [h]
theorem ret_bool {a b : Bool} (h : a = b) : Ending.returned (.bool a) = .returned (.bool b) := by rw [h]
theorem blk_at {w : World} {t : TypeId} {cs : Array Value} {n : Nat} (h : w.heap.size = n) : Blk (w.alloc (.cells cs t)) n t cs := by subst h; exact Blk.new _ _ _
/-- walk on from a world of which only this is known -/
theorem calls_world {P : Program} {f : FuncId} {args : Array Value} {w : World} {Post : Ending → World → Prop} (R : World → Prop) (hR : R w) (h : ∀ W, R W → Calls P f args W Post) : Calls P f args w Post := h w hR
theorem wp_world {P : Program} {c : Code} {Q : Exit → Act → World → Prop} {a : Act} {w : World} (R : World → Prop) (hR : R w) (h : ∀ W, R W → c.wp P Q a W) : c.wp P Q a w := h w hR
theorem ret_world {P : Program} {fn : Func} {Post : Ending → World → Prop} {x : Exit} {a : Act} {w : World} (R : World → Prop) (hR : R w) (h : ∀ W, R W → bodyPost P fn Post x a W) : bodyPost P fn Post x a w := h w hR
/-- it returns whether p, and nothing old has turned -/
def SomeBool (p : Prop) (w : World) (e : Ending) (w' : World) : Prop := ∃ r : Bool, e = .returned (.bool r) ∧ (r = true ↔ p) ∧ Below w.heap.size w w'
theorem SomeBool.yes {p : Prop} {w w' : World} (h : p) (hb : Below w.heap.size w w') : SomeBool p w (.returned (.bool true)) w' := ⟨true, rfl, by simp [h], hb⟩
theorem SomeBool.no {p : Prop} {w w' : World} (h : ¬ p) (hb : Below w.heap.size w w') : SomeBool p w (.returned (.bool false)) w' := ⟨false, rfl, by simp [h], hb⟩
def IntErr (p : Int → Int → Prop) (w : World) (e : Ending) (w' : World) : Prop := ∃ a k : Int, e = .returned (.tuple #[.int .i64 a, .int .i64 k]) ∧ p a k ∧ Below w.heap.size w w'
def SpanErr (p : Int → Int → Int → Prop) (w : World) (e : Ending) (w' : World) : Prop := ∃ a b k : Int, e = .returned (.tuple #[.agg #[.int .i64 a, .int .i64 b], .int .i64 k]) ∧ p a b k ∧ Below w.heap.size w w'
end Go.Proofs.Ytjcadgklamhohaa

/- append of bytes; a quoted text as numbers. -/
import Derived.Test.YthdkbjifjmhgoaaDoorLxTokP
import Derived.Deep.RegionHeldLaw
import Derived.Deep.AppendLies
namespace Go.Proofs.YthdkbjifjmhgoaaDoor
open Go.ChangeShapes Go.WideShapes Go.ChangeAt Go.RowKit
set_option linter.unusedVariables false
set_option linter.unusedSimpArgs false

/-- append of some bytes that are written out. -/
theorem append_lit {ops : Array Oper} {rest : List Oper} {o : Oper} {a : Act} {Q : Exit → Act → World → Prop} (w : World) (hgd : o.guard = none) (s x : Operand)
    (ho : o.op = .call { callee := .builtin .append, args := #[s, x], argTypes := #[59, 59] })
    (base : Nat) (v : Value) (xs : List Int) (hs : a.eval s = v) (hown : Own w base v xs) (ys : List Int) (cs : Array Value) (hcs : cs.toList = ys.map (Value.int .u8)) (q m : Nat) (hx : a.eval x = .slice (some ⟨q, 0, none⟩) m m) (hq : q = w.heap.size) (hm : m = ys.length)
    (hn : xs.length + ys.length ≤ 140737488355328) (hbase : base ≤ w.heap.size)
    (h : ∀ v' w', Own w' base v' (xs ++ ys) → Below base w w' → wpList Tryd.prog ops Q rest (a.put o.dst v') w') :
    wpList Tryd.prog ops Q (o :: rest) a (w.alloc (.cells cs 5)) := by
  subst hq; subst hm
  obtain ⟨i0, hi, hz0, hz1, hz2⟩ := info_parts info5
  refine wpList_append_own _ hgd s x 59 ho base 5 i0 (.int .u8 0) 1 1 Tryd.underlying59 hi hz0 hz1 hz2 rfl (by decide) v xs.length _ hs (World.ownsRow.alloc hown _) ⟨w.heap.size, 0, none⟩ ys.length ys.length cs.toList hx (by rw [hcs]; simp) (World.news_of_block (heap_alloc_new w _)) (by
    rw [hcs]
    intro u hu
    simp at hu
    obtain ⟨z, _, rfl⟩ := hu
    rfl) (by unfold maxLen; omega) (by omega) (by simp; omega) ?_
  intro v' w' hown' hgrow _
  refine h v' w' ?_ (((Below.refl base w).alloc hbase _).grown hgrow (by simp; omega) hown.block)
  unfold Own
  rw [hcs] at hown'
  simpa using hown'
theorem ret_str {a b : ByteArray} (h : a = b) : Ending.returned (.string a) = Ending.returned (.string b) := by rw [h]
theorem own_one (w : World) (b : Int) : Own (w.alloc (.cells #[.int .u8 b] 5)) w.heap.size (.slice (some ⟨w.heap.size, 0, none⟩) 1 1) [b] := by
  refine ⟨rfl, .inr ⟨w.heap.size, 1, #[.int .u8 b], rfl, Nat.le_refl _, ?_, Nat.le_refl _, by unfold maxLen; omega, rfl, rfl⟩⟩
  exact heap_alloc_new w _
theorem quo_snoc (s : ByteArray) (k : Nat) (h : k < s.size) : ((lo s).take (k + 1)).flatMap quoC = ((lo s).take k).flatMap quoC ++ quoC s[k] := by
  have h' : k < (lo s).length := by rw [lo_len]; exact h
  rw [List.take_succ_eq_append_getElem h', List.flatMap_append]
  simp
  rfl
theorem flat_len (l : List UInt8) : (l.flatMap quoC).length ≤ 4 * l.length := by
  induction l with
  | nil => simp
  | cons c s ih =>
    rw [List.flatMap_cons, List.length_append, List.length_cons]
    have : (quoC c).length ≤ 4 := by unfold quoC; repeat (first | split | simp)
    omega
def qz (s : ByteArray) (k : Nat) : List Int := (34 :: ((lo s).take k).flatMap quoC).map zOf
theorem qz_snoc (s : ByteArray) (k : Nat) (h : k < s.size) : qz s (k + 1) = qz s k ++ (quoC s[k]).map zOf := by
  unfold qz
  rw [quo_snoc s k h]
  simp
theorem qz_len (s : ByteArray) (k : Nat) (h : k ≤ s.size) : (qz s k).length ≤ 4 * k + 1 := by
  have := flat_len ((lo s).take k)
  rw [List.length_take, lo_len] at this
  unfold qz
  simp only [List.length_map, List.length_cons]
  omega

theorem lit_hex (n : Nat) (hn : n < 16) : (⟨#[48, 49, 50, 51, 52, 53, 54, 55, 56, 57, 97, 98, 99, 100, 101, 102]⟩ : ByteArray)[n]'hn = hexD n := by
  obtain rfl | rfl | rfl | rfl | rfl | rfl | rfl | rfl | rfl | rfl | rfl | rfl | rfl | rfl | rfl | rfl : n = 0 ∨ n = 1 ∨ n = 2 ∨ n = 3 ∨ n = 4 ∨ n = 5 ∨ n = 6 ∨ n = 7 ∨ n = 8 ∨ n = 9 ∨ n = 10 ∨ n = 11 ∨ n = 12 ∨ n = 13 ∨ n = 14 ∨ n = 15 := by omega
  all_goals rfl
end Go.Proofs.YthdkbjifjmhgoaaDoor

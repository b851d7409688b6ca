/- The contracts of New, made, isSize and num. -/
import Derived.Test.YtpfmnopokfiheaaMState
namespace Go.Proofs.Ytpfmnopokfiheaa
open Go.ChangeShapes Go.WideShapes Go.ChangeAt Go.RowKit Go.Maps
set_option linter.unusedVariables false
set_option linter.unusedSimpArgs false

theorem make_map (w : World) : (Instr.makeMap 60 none).run Try.prog w = .ok (.map (some w.heap.size)) (w.alloc (.map #[] 0)) := by kernel_rfl

theorem map_nil (W : World) : (binOp .neq 60 (.map none) (.map none)).run Try.prog W = .ok (.bool false) W := by kernel_rfl
theorem map_some (g : Nat) (W : World) : (binOp .neq 60 (.map (some g)) (.map none)).run Try.prog W = .ok (.bool true) W := by kernel_rfl

theorem heap_last (w : World) (o : Obj) : (w.alloc o).heap[w.heap.size]? = some o := by
  show (w.heap.push o)[w.heap.size]? = _
  simp

theorem new_any (w : World) :
    Calls Try.prog 8 #[] w fun e w' => e = .returned (.pointer (some ⟨w.heap.size + 1, 0, none⟩)) ∧ MA w' (w.heap.size + 1) w.heap.size (fun _ => 0) [] ∧ Below w.heap.size w w' ∧ w'.heap.size = w.heap.size + 2 := by
  have hm := make_map
  have O1 := World.ownsMap_made w Try.prog 30 RV
  have HO1 : Hid _ := ⟨O1⟩
  have HB : Hid (Below w.heap.size w (w.alloc (.map #[] 0))) := ⟨((Below.refl _ _).alloc (Nat.le_refl _) _)⟩
  clear O1
  go_enter Try.func8, Try.ntmps8
  go_wp2
  go_ret
  refine ⟨by simp, ⟨?_, ⟨_, HO1.out.alloc _, Inv.none⟩, fun p hp => (by cases hp), fun p hp => (by cases hp), ⟨fun p hp => (by cases hp), List.Pairwise.nil⟩⟩, HB.out.alloc (by simp) _, by simp⟩
  have := heap_last (w.alloc (.map #[] 0)) (.cells #[.map (some w.heap.size)] 62)
  simpa using this

theorem made_no (v : Value) (w : World) (h : NM w v) :
    Calls Try.prog 40 #[v] w fun e w' => e = .returned (.bool false) ∧ w' = w := by
  rcases h with rfl | ⟨b, rfl, h⟩
  · have h0 := map_nil
    go_enter Try.func40, Try.ntmps40
    go_wp2
    go_ret
    exact ⟨rfl, rfl⟩
  · have h0 := map_nil
    go_enter Try.func40, Try.ntmps40
    go_wp2
    go_ret
    exact ⟨rfl, rfl⟩

theorem made_ok (mb gb : Nat) (w : World) (h : w.cell? ⟨mb, 0, none⟩ = some (.map (some gb))) :
    Calls Try.prog 40 #[.pointer (some ⟨mb, 0, none⟩)] w fun e w' => e = .returned (.bool true) ∧ w' = w := by
  have h0 := map_some gb
  go_enter Try.func40, Try.ntmps40
  go_wp2
  go_ret
  exact ⟨rfl, rfl⟩

def isSizeB (n : Int) : Bool := n == 1 || n == 4 || n == 8
theorem isSize_any (n : Int) (w : World) :
    Calls Try.prog 47 #[.int .i64 n] w fun e w' => e = .returned (.bool (isSizeB n)) ∧ w' = w := by
  obtain ⟨a, ha⟩ : ∃ x, (n == 1) = x := ⟨_, rfl⟩
  obtain ⟨b, hb⟩ : ∃ x, (n == 4) = x := ⟨_, rfl⟩
  obtain ⟨c, hc⟩ : ∃ x, (n == 8) = x := ⟨_, rfl⟩
  have HR : Hid (isSizeB n = (a || b || c)) := ⟨by unfold isSizeB; rw [ha, hb, hc]⟩
  rcases a with _ | _ <;> rcases b with _ | _ <;> rcases c with _ | _
  all_goals (
    go_enter Try.func47, Try.ntmps47
    go_wp2
    go_ret
    exact ⟨ret_bool (by rw [HR.out]; rfl), rfl⟩)

theorem num_any (n : Int) (w : World) :
    Calls Try.prog 18 #[.int .i64 n] w fun e w' => e = .returned (.int .i64 n) ∧ w' = w := by
  go_enter Try.func18, Try.ntmps18
  go_wp2
  go_ret
  exact ⟨rfl, rfl⟩
end Go.Proofs.Ytpfmnopokfiheaa

/- addFaults; what holds of a row. -/
import Derived.Test.YtgoaegembijdcaaRRise
namespace Go.Proofs.Ytgoaegembijdcaa
open Go.ChangeShapes Go.WideShapes Go.ChangeAt Go.RowKit Go.Maps
set_option linter.unusedVariables false
set_option linter.unusedSimpArgs false

def encF (x : Ft) : List Value := [.int .i64 x.e, .string x.nm]
theorem encF_len (r : Ft) : (encF r).length = 2 := rfl
theorem encF_one (r : Ft) : ∀ v ∈ encF r, v.oneCell' = true := List.all_eq_true.1 rfl
theorem infoFt : (Try.prog.info? 45).map (fun i => (i.zero, i.size, i.bytes)) = some (some (.agg (encF Ft.zero).toArray), 2, 24) := by kernel_rfl
theorem OwnR.at {α : Type} {e k : Nat} {enc : α → List Value} {w : World} {base : Nat} {ao : Option Addr} {cap : Nat} {l : List α} (hk : ∀ x, (enc x).length = k) (h : OwnR e k enc w base (.slice ao l.length cap) l) {i : Nat} (hi : i < l.length) :
    ∃ g, ao = some ⟨g, 0, none⟩ ∧ base ≤ g ∧ g < w.heap.size ∧ ∀ j, j < k → w.cell? ⟨g, i * k + j, none⟩ = (enc l[i])[j]? := by
  obtain ⟨ao', cap', hv, _, _, _, hc⟩ := h.any hk
  injection hv with h1 h2 h3
  subst h1
  rcases hc with hc | ⟨g, hg, hb, hl, hc⟩
  · subst hc; simp at hi
  · exact ⟨g, hg, hb, hl, hc i hi⟩
theorem own_belR {w w' : World} (hb : Below w.heap.size w w') {base e s n : Nat} {v : Value} {xs : List Value} (h : w.ownsRow base e s v n xs) : w'.ownsRow base e s v n xs := (Turn.of_below hb (fun _ => False)).row h (fun _ _ e => e)
theorem ftOf_take {α : Type} (e : Int) (p : α → Bool) (L : List (ByteArray × α)) (k : Nat) (hk : k < L.length) : ftOf e p (L.take (k + 1)) = if p L[k].2 then ftOf e p (L.take k) ++ [⟨e, L[k].1⟩] else ftOf e p (L.take k) := by
  rw [List.take_succ_eq_append_getElem hk]
  unfold ftOf
  rw [List.filter_append]
  cases h : p L[k].2 <;> simp [h]
theorem ftOf_len {α : Type} (e : Int) (p : α → Bool) (L : List (ByteArray × α)) (k : Nat) : (ftOf e p (L.take k)).length ≤ L.length := by
  unfold ftOf
  rw [List.length_map]
  exact Nat.le_trans (List.length_filter_le _ _) (by simp; omega)
theorem cl_twice (u : Us) (w : World) : Calls Try.prog 42 #[u.val] w fun e w' => e = .returned (.bool (twice u)) ∧ Below w.heap.size w w' := by
  obtain ⟨⟨mn, mo, mk, mb, mt⟩, d, st, wa, tl, ot⟩ := u
  have HB : Hid _ := ⟨(Below.refl _ w).alloc (Nat.le_refl _) (.cells #[.string mn, .int .i64 mo, .int .i64 mk, .int .i64 mb, .int .i64 mt, .bool d, .int .i64 st, .bool wa, .bool tl, .bool ot] 82)⟩
  unfold twice
  dsimp only [Us.val]
  obtain ⟨q, hq⟩ : ∃ q, decide (1 < st) = q := ⟨_, rfl⟩
  cases wa <;> cases d <;> cases tl <;> cases ot
  all_goals
    go_enter Try.func42, Try.ntmps42
    go_wp2
    go_ret
    exact ⟨ret_bool (by first | rfl | simp [hq]), HB.out⟩
theorem en_twice : ∀ args w, (callFunc 42 args).run Try.prog w = .ok (.enter 42 args) w := enters_of Try.func42 (by kernel_rfl) rfl
theorem cl_undef1 (u : Us) (w : World) : Calls Try.prog 43 #[u.val] w fun e w' => e = .returned (.bool (undef1 u)) ∧ Below w.heap.size w w' := by
  obtain ⟨⟨mn, mo, mk, mb, mt⟩, d, st, wa, tl, ot⟩ := u
  have HB : Hid _ := ⟨(Below.refl _ w).alloc (Nat.le_refl _) (.cells #[.string mn, .int .i64 mo, .int .i64 mk, .int .i64 mb, .int .i64 mt, .bool d, .int .i64 st, .bool wa, .bool tl, .bool ot] 82)⟩
  unfold undef1
  dsimp only [Us.val]
  obtain ⟨q, hq⟩ : ∃ q, decide (1 < st) = q := ⟨_, rfl⟩
  cases wa <;> cases d <;> cases tl <;> cases ot
  all_goals
    go_enter Try.func43, Try.ntmps43
    go_wp2
    go_ret
    exact ⟨ret_bool (by first | rfl | simp [hq]), HB.out⟩
theorem en_undef1 : ∀ args w, (callFunc 43 args).run Try.prog w = .ok (.enter 43 args) w := enters_of Try.func43 (by kernel_rfl) rfl
theorem cl_mixd (u : Us) (w : World) : Calls Try.prog 44 #[u.val] w fun e w' => e = .returned (.bool (mixd u)) ∧ Below w.heap.size w w' := by
  obtain ⟨⟨mn, mo, mk, mb, mt⟩, d, st, wa, tl, ot⟩ := u
  have HB : Hid _ := ⟨(Below.refl _ w).alloc (Nat.le_refl _) (.cells #[.string mn, .int .i64 mo, .int .i64 mk, .int .i64 mb, .int .i64 mt, .bool d, .int .i64 st, .bool wa, .bool tl, .bool ot] 82)⟩
  unfold mixd
  dsimp only [Us.val]
  obtain ⟨q, hq⟩ : ∃ q, decide (1 < st) = q := ⟨_, rfl⟩
  cases wa <;> cases d <;> cases tl <;> cases ot
  all_goals
    go_enter Try.func44, Try.ntmps44
    go_wp2
    go_ret
    exact ⟨ret_bool (by first | rfl | simp [hq]), HB.out⟩
theorem en_mixd : ∀ args w, (callFunc 44 args).run Try.prog w = .ok (.enter 44 args) w := enters_of Try.func44 (by kernel_rfl) rfl
theorem cl_un (u : Sh) (w : World) : Calls Try.prog 47 #[u.val] w fun e w' => e = .returned (.bool u.un) ∧ Below w.heap.size w w' := by
  obtain ⟨k, f, th, un⟩ := u
  have HB : Hid _ := ⟨(Below.refl _ w).alloc (Nat.le_refl _) (.cells #[.int .i64 k, .int .i64 f, .bool th, .bool un] 87)⟩
  dsimp only [Sh.val]
  go_enter Try.func47, Try.ntmps47
  go_wp2
  go_ret
  exact ⟨rfl, HB.out⟩
theorem en_un : ∀ args w, (callFunc 47 args).run Try.prog w = .ok (.enter 47 args) w := enters_of Try.func47 (by kernel_rfl) rfl

end Go.Proofs.Ytgoaegembijdcaa

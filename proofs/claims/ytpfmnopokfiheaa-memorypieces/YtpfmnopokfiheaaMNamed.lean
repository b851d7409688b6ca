/- The contract of named. -/
import Derived.Test.YtpfmnopokfiheaaMSmall
namespace Go.Proofs.Ytpfmnopokfiheaa
open Go.ChangeShapes Go.WideShapes Go.ChangeAt Go.RowKit Go.Maps
set_option linter.unusedVariables false
set_option linter.unusedSimpArgs false

/-- The error of pages that are named. -/
def namE (a : Nat) (pages may : Int) : Int :=
  if pages < 1 ∨ may < 0 ∨ 7 < may then 1 else if a % 4096 ≠ 0 ∨ 140737488355328 < a then 11 else if (((140737488355328 - a) / 4096 : Nat) : Int) < pages then 11 else 0
/-- A span. -/
def spV (f e : Int) : Value := .agg #[.int .u64 f, .int .u64 e]
/-- What named answers. -/
def namV (a : Nat) (pages may : Int) : Value :=
  if namE a pages may = 0 then .tuple #[spV ((a / 4096 : Nat) : Int) ((a / 4096 : Nat) + pages), .int .i64 0] else .tuple #[spV 0 0, .int .i64 (namE a pages may)]

theorem res_span {fn : Func} {p q : Tmp} (h : fn.results = #[.cell p 90, .tmp q]) (tmps : Array Value) (W : World) (g : Nat) (a b : Value) (hp : tmps.getD p undef = .pointer (some ⟨g, 0, none⟩)) (c0 : W.cell? ⟨g, 0, none⟩ = some a) (c1 : W.cell? ⟨g, 1, none⟩ = some b) :
    (results fn tmps).run Try.prog W = .ok (.tuple #[.agg #[a, b], tmps.getD q undef]) W := by
  have hp' : tmps[p]?.getD undef = .pointer (some ⟨g, 0, none⟩) := by simpa using hp
  simp [results, h, hp', asAddr, loadVar, isAgg, run_underlying Try.underlying90, go_sem, c0, c1]

theorem named_no (v : Value) (a : Nat) (pages may : Int) (w : World) (h : NM w v) :
    Calls Try.prog 49 #[v, .int .u64 a, .int .i64 pages, .int .i64 may] w fun e w' => e = .returned (.tuple #[spV 0 0, .int .i64 1]) ∧ Below w.heap.size w w' := by
  have B0 : Below w.heap.size w (w.alloc (.cells #[.int .u64 0, .int .u64 0] 90)) := (Below.refl _ _).alloc (Nat.le_refl _) _
  have HM := made_no v _ (h.below B0)
  have HB : Hid _ := ⟨B0⟩
  clear B0
  go_enter Try.func49, Try.ntmps49
  go_wp2_with (go_at_call 40; with_reducible refine HM.mono ?_; rintro e w1 ⟨he, hw⟩; subst he; subst hw)
  refine bodyPost_ret (res_span Try.results49 _ _ w.heap.size _ _ rfl (by simp; rfl) (by simp; rfl)) rfl ?_
  exact ⟨rfl, HB.out⟩

theorem named_ok (mb gb a : Nat) (pages may : Int) (w : World) (h : w.cell? ⟨mb, 0, none⟩ = some (.map (some gb))) (ha : a < 18446744073709551616) (hp : -9223372036854775808 ≤ pages ∧ pages ≤ 9223372036854775807) :
    Calls Try.prog 49 #[.pointer (some ⟨mb, 0, none⟩), .int .u64 a, .int .i64 pages, .int .i64 may] w fun e w' => e = .returned (namV a pages may) ∧ Below w.heap.size w w' := by
  have B0 : Below w.heap.size w (w.alloc (.cells #[.int .u64 0, .int .u64 0] 90)) := (Below.refl _ _).alloc (Nat.le_refl _) _
  have HM := made_ok mb gb _ ((B0.cell (p := ⟨mb, 0, none⟩) (World.block_lt_of_cell? _ _ h)).trans h)
  have HB : Hid _ := ⟨B0⟩
  clear B0 h
  have HE : ∀ c : Array Value, Below w.heap.size w (w.alloc (.cells c 90)) := fun c => (Below.refl _ _).alloc (Nat.le_refl _) _
  have HE' : Hid _ := ⟨HE⟩
  clear HE
  by_cases h1 : pages < 1
  · have HV : Hid (namV a pages may = .tuple #[spV 0 0, .int .i64 1]) := ⟨by unfold namV namE; simp [h1]⟩
    go_enter Try.func49, Try.ntmps49
    go_wp2_with (go_at_call 40; with_reducible refine HM.mono ?_; rintro e w1 ⟨he, hw⟩; subst he; subst hw)
    refine bodyPost_ret (res_span Try.results49 _ _ w.heap.size _ _ rfl (by simp; rfl) (by simp; rfl)) rfl ?_
    exact ⟨by rw [HV.out]; rfl, HE'.out _⟩
  by_cases h2 : may < 0
  · have HV : Hid (namV a pages may = .tuple #[spV 0 0, .int .i64 1]) := ⟨by unfold namV namE; simp [h2]⟩
    go_enter Try.func49, Try.ntmps49
    go_wp2_with (go_at_call 40; with_reducible refine HM.mono ?_; rintro e w1 ⟨he, hw⟩; subst he; subst hw)
    refine bodyPost_ret (res_span Try.results49 _ _ w.heap.size _ _ rfl (by simp; rfl) (by simp; rfl)) rfl ?_
    exact ⟨by rw [HV.out]; rfl, HE'.out _⟩
  by_cases h3 : 7 < may
  · have HV : Hid (namV a pages may = .tuple #[spV 0 0, .int .i64 1]) := ⟨by unfold namV namE; simp [h3]⟩
    go_enter Try.func49, Try.ntmps49
    go_wp2_with (go_at_call 40; with_reducible refine HM.mono ?_; rintro e w1 ⟨he, hw⟩; subst he; subst hw)
    refine bodyPost_ret (res_span Try.results49 _ _ w.heap.size _ _ rfl (by simp; rfl) (by simp; rfl)) rfl ?_
    exact ⟨by rw [HV.out]; rfl, HE'.out _⟩
  by_cases h4 : a % 4096 = 0
  rotate_left
  · have HV : Hid (namV a pages may = .tuple #[spV 0 0, .int .i64 11]) := ⟨by unfold namV namE; simp [h1, h2, h3, h4]⟩
    have q4 : ((a : Int) % 4096 == 0) = false := by simp; omega
    go_enter Try.func49, Try.ntmps49
    go_wp2_with (go_at_call 40; with_reducible refine HM.mono ?_; rintro e w1 ⟨he, hw⟩; subst he; subst hw)
    refine bodyPost_ret (res_span Try.results49 _ _ w.heap.size _ _ rfl (by simp; rfl) (by simp; rfl)) rfl ?_
    exact ⟨by rw [HV.out]; rfl, HE'.out _⟩
  have q4 : ((a : Int) % 4096 == 0) = true := by simp; omega
  by_cases h5 : 140737488355328 < a
  · have HV : Hid (namV a pages may = .tuple #[spV 0 0, .int .i64 11]) := ⟨by unfold namV namE; simp [h1, h2, h3, h4, h5]⟩
    have q5 : (140737488355328 : Int) < (a : Int) := by omega
    go_enter Try.func49, Try.ntmps49
    go_wp2_with (go_at_call 40; with_reducible refine HM.mono ?_; rintro e w1 ⟨he, hw⟩; subst he; subst hw)
    refine bodyPost_ret (res_span Try.results49 _ _ w.heap.size _ _ rfl (by simp; rfl) (by simp; rfl)) rfl ?_
    exact ⟨by rw [HV.out]; rfl, HE'.out _⟩
  have h5' : ¬ (140737488355328 : Int) < (a : Int) := by omega
  have e1 : ((140737488355328 - a : Nat) : Int) = 140737488355328 - (a : Int) := by omega
  have p0 : 0 ≤ pages := by omega
  by_cases h6 : (((140737488355328 - a) / 4096 : Nat) : Int) < pages
  · have HV : Hid (namV a pages may = .tuple #[spV 0 0, .int .i64 11]) := ⟨by
      have hE : namE a pages may = 11 := by unfold namE; rw [if_neg (by omega), if_neg (by omega), if_pos h6]
      unfold namV; rw [hE, if_neg (by decide)]⟩
    have q6 : (140737488355328 - (a : Int)) / 4096 < pages := by omega
    clear h6
    go_enter Try.func49, Try.ntmps49
    go_wp2_with (go_at_call 40; with_reducible refine HM.mono ?_; rintro e w1 ⟨he, hw⟩; subst he; subst hw)
    refine bodyPost_ret (res_span Try.results49 _ _ w.heap.size _ _ rfl (by simp; rfl) (by simp; rfl)) rfl ?_
    exact ⟨by rw [HV.out]; rfl, HE'.out _⟩
  · have q6 : ¬ (140737488355328 - (a : Int)) / 4096 < pages := by omega
    have HV : Hid (namV a pages may = .tuple #[spV ((a / 4096 : Nat) : Int) ((a / 4096 : Nat) + pages), .int .i64 0]) := ⟨by
      have hE : namE a pages may = 0 := by unfold namE; rw [if_neg (by omega), if_neg (by omega), if_neg h6]
      unfold namV; rw [hE, if_pos rfl]⟩
    clear h6
    go_enter Try.func49, Try.ntmps49
    go_wp2_with (go_at_call 40; with_reducible refine HM.mono ?_; rintro e w1 ⟨he, hw⟩; subst he; subst hw)
    refine bodyPost_ret (res_span Try.results49 _ _ w.heap.size _ _ rfl (by simp; rfl) (by simp; rfl)) rfl ?_
    exact ⟨by rw [HV.out]; rfl, HE'.out _⟩
end Go.Proofs.Ytpfmnopokfiheaa

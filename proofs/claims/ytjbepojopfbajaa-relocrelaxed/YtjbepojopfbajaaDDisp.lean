/- The contracts of needsDisplacement and displacement. -/
import Derived.Test.YtjbepojopfbajaaDNum
namespace Go.Proofs.Ytjbepojopfbajaa
open Go.ChangeShapes Go.WideShapes Go.ChangeAt Go.RowKit
set_option linter.unusedVariables false
set_option linter.unusedSimpArgs false

/-- An operand, boxed. -/
abbrev O.box (o : O) : Obj := .cells #[.int .i64 o.k, .int .i64 o.r, .int .i64 o.b, .int .i64 o.x, .int .i64 o.s, .bool o.rip, .bool o.fs, .int .i64 o.n, .string o.nm, .int .i64 o.m] 54

/-- An operand lies in a block. -/
structure OA (w : World) (b : Nat) (o : O) : Prop where
  c0 : w.cell? ⟨b, 0, none⟩ = some (.int .i64 o.k)
  c1 : w.cell? ⟨b, 1, none⟩ = some (.int .i64 o.r)
  c2 : w.cell? ⟨b, 2, none⟩ = some (.int .i64 o.b)
  c3 : w.cell? ⟨b, 3, none⟩ = some (.int .i64 o.x)
  c4 : w.cell? ⟨b, 4, none⟩ = some (.int .i64 o.s)
  c5 : w.cell? ⟨b, 5, none⟩ = some (.bool o.rip)
  c6 : w.cell? ⟨b, 6, none⟩ = some (.bool o.fs)
  c7 : w.cell? ⟨b, 7, none⟩ = some (.int .i64 o.n)
  c8 : w.cell? ⟨b, 8, none⟩ = some (.string o.nm)
  c9 : w.cell? ⟨b, 9, none⟩ = some (.int .i64 o.m)
theorem OA.fr {w v : World} {b : Nat} {o : O} (h : OA w b o) {c d : Nat} (g : Fr c d w v) (hc : b ≠ c) (hd : b ≠ d) : OA v b o :=
  ⟨g.cell h.c0 hc hd, g.cell h.c1 hc hd, g.cell h.c2 hc hd, g.cell h.c3 hc hd, g.cell h.c4 hc hd, g.cell h.c5 hc hd, g.cell h.c6 hc hd, g.cell h.c7 hc hd, g.cell h.c8 hc hd, g.cell h.c9 hc hd⟩
theorem OA.new (w : World) (o : O) : OA (w.alloc o.box) w.heap.size o := by constructor <;> simp
theorem OA.bel {w v : World} {b : Nat} {o : O} (h : OA w b o) (g : Below w.heap.size w v) : OA v b o := h.fr (Fr.of g (b + 1) (b + 1)) (by omega) (by omega)

theorem OA.set2 {w : World} {b : Nat} {o : O} (h : OA w b o) (y : Int) : OA (w.setCell ⟨b, 2, none⟩ (.int .i64 y)) b ⟨o.k, o.r, y, o.x, o.s, o.rip, o.fs, o.n, o.nm, o.m⟩ := by
  obtain ⟨c0, c1, c2, c3, c4, c5, c6, c7, c8, c9⟩ := h
  constructor <;> simp [go_sem, c0, c1, c2, c3, c4, c5, c6, c7, c8, c9]
theorem OA.set3 {w : World} {b : Nat} {o : O} (h : OA w b o) (y : Int) : OA (w.setCell ⟨b, 3, none⟩ (.int .i64 y)) b ⟨o.k, o.r, o.b, y, o.s, o.rip, o.fs, o.n, o.nm, o.m⟩ := by
  obtain ⟨c0, c1, c2, c3, c4, c5, c6, c7, c8, c9⟩ := h
  constructor <;> simp [go_sem, c0, c1, c2, c3, c4, c5, c6, c7, c8, c9]
theorem OA.set4 {w : World} {b : Nat} {o : O} (h : OA w b o) (y : Int) : OA (w.setCell ⟨b, 4, none⟩ (.int .i64 y)) b ⟨o.k, o.r, o.b, o.x, y, o.rip, o.fs, o.n, o.nm, o.m⟩ := by
  obtain ⟨c0, c1, c2, c3, c4, c5, c6, c7, c8, c9⟩ := h
  constructor <;> simp [go_sem, c0, c1, c2, c3, c4, c5, c6, c7, c8, c9]
theorem OA.set5 {w : World} {b : Nat} {o : O} (h : OA w b o) (y : Bool) : OA (w.setCell ⟨b, 5, none⟩ (.bool y)) b ⟨o.k, o.r, o.b, o.x, o.s, y, o.fs, o.n, o.nm, o.m⟩ := by
  obtain ⟨c0, c1, c2, c3, c4, c5, c6, c7, c8, c9⟩ := h
  constructor <;> simp [go_sem, c0, c1, c2, c3, c4, c5, c6, c7, c8, c9]
theorem OA.set6 {w : World} {b : Nat} {o : O} (h : OA w b o) (y : Bool) : OA (w.setCell ⟨b, 6, none⟩ (.bool y)) b ⟨o.k, o.r, o.b, o.x, o.s, o.rip, y, o.n, o.nm, o.m⟩ := by
  obtain ⟨c0, c1, c2, c3, c4, c5, c6, c7, c8, c9⟩ := h
  constructor <;> simp [go_sem, c0, c1, c2, c3, c4, c5, c6, c7, c8, c9]
theorem OA.set7 {w : World} {b : Nat} {o : O} (h : OA w b o) (y : Int) : OA (w.setCell ⟨b, 7, none⟩ (.int .i64 y)) b ⟨o.k, o.r, o.b, o.x, o.s, o.rip, o.fs, y, o.nm, o.m⟩ := by
  obtain ⟨c0, c1, c2, c3, c4, c5, c6, c7, c8, c9⟩ := h
  constructor <;> simp [go_sem, c0, c1, c2, c3, c4, c5, c6, c7, c8, c9]

def needB (b : Int) : Bool := bits .and .i64 b 7 == 5

theorem needs_any (o : O) (w : World) :
    Calls Try.prog 106 #[o.val] w fun e w' => e = .returned (.bool (needB o.b)) ∧ Below w.heap.size w w' := by
  go_enter Try.func106, Try.ntmps106
  go_wp2
  go_ret
  exact ⟨rfl, bel_alloc (Below.refl _ _) _⟩

/-- A displacement. -/
def dispM (L : Ln) (a : Nat) (md b : Int) : Except Int (Int × Nat) :=
  if (decide (b < 0) || md == 2) = true then num L a 4 else if (md == 0) = true then .ok (0, a) else num L a 1 >>= fun p => must (p.1 != 0 || needB b) (.ok p)

theorem two0 (y : Int) : ((y != 0) = true ∧ (y == 0) = false) ∨ ((y != 0) = false ∧ (y == 0) = true) := by by_cases e : y = 0 <;> simp [e]

set_option maxHeartbeats 2000000 in
theorem disp_any {w : World} {rb : Nat} {L : Ln} {a : Nat} {fs : Bool} {rex opc sz md rg rm : Int} (o : O) (ha : a ≤ L.len) (h : RS w rb L a fs rex opc sz md rg rm) :
    Calls Try.prog 104 #[.pointer (some ⟨rb, 0, none⟩), o.val] w fun e w' => Ends2 (dispM L a md o.b) (Value.int .i64) (fun a' => RS w' rb L a' fs rex opc sz md rg rm) e ∧ Fr rb rb w w' := by
  have R1 := h.up o.box
  have hlt := h.lt
  have N4 := number4 ha R1
  have N1 := number1 ha R1
  have HN : Hid (∀ u, Calls Try.prog 106 #[o.val] u fun e w' => e = .returned (.bool (needB o.b)) ∧ Below u.heap.size u w') := ⟨needs_any o⟩
  have F1 : Fr rb rb w (w.alloc o.box) := (Fr.refl rb rb w).alloc _
  have HO : Hid (∀ u, Fr rb rb (w.alloc o.box) u → OA u w.heap.size o) := ⟨fun u hu => (OA.new w o).fr hu (by omega) (by omega)⟩
  have HM : Hid (dispM L a md o.b = if (decide (o.b < 0) || md == 2) = true then num L a 4 else if (md == 0) = true then .ok (0, a) else num L a 1 >>= fun p => must (p.1 != 0 || needB o.b) (.ok p)) := ⟨rfl⟩
  generalize dispM L a md o.b = m at *
  generalize needB o.b = nb at *
  have HR1 : Hid (RS (w.alloc o.box) rb L a fs rex opc sz md rg rm) := ⟨R1⟩
  obtain ⟨d0, d1, d2, d3, d4, d5, d6, d7, d8, dz, dl⟩ := R1
  clear h
  cases hb : decide (o.b < 0) <;> cases h2 : (md == 2)
  all_goals
    rw [hb, h2] at HM
    simp only [Bool.or_false, Bool.or_true, Bool.false_eq_true, if_true, if_false] at HM
  case' false.false => cases h0 : (md == 0)
  case' false.false.true =>
    go_enter Try.func104, Try.ntmps104
    go_wp2
    go_ret
    refine ⟨?_, F1⟩
    rw [HM.out, h0]
    exact ⟨rfl, HR1.out⟩
  case' false.true | true.false | true.true =>
    rcases hm : num L a 4 with n | ⟨x, a'⟩
    all_goals
      rw [hm] at N4 HM
      clear hm
      go_enter Try.func104, Try.ntmps104
      go_wp2_with (go_at_call 102; (with_reducible refine N4.mono ?_); rintro e w1 ⟨he, hfr⟩; (first | (obtain ⟨he', hrs⟩ := he; subst he'; (have hrs' : Hid _ := ⟨hrs⟩); clear hrs) | ((have he' : _ = _ := he); subst he')))
      first
      | (go_ret; refine ⟨?_, F1.then hfr⟩; rw [HM.out]; exact ⟨rfl, hrs'.out⟩)
      | (refine ⟨rfl, ?_, F1.then hfr⟩; rw [HM.out]; rfl)
  case' false.false.false =>
    rcases hm : num L a 1 with n | ⟨x, a'⟩
    case' error =>
      rw [hm] at N1 HM
      clear hm
      go_enter Try.func104, Try.ntmps104
      go_wp2_with (go_at_call 102; (with_reducible refine N1.mono ?_); rintro e w1 ⟨he, hfr⟩; (have he' : _ = _ := he); subst he')
      refine ⟨rfl, ?_, F1.then hfr⟩
      rw [HM.out, h0]; rfl
    case' ok =>
      rw [hm] at N1 HM
      clear hm
      rcases two0 x with ⟨t1, t2⟩ | ⟨t1, t2⟩
      case' inr => cases nb
      all_goals
        have HM2 : Hid (m = must (x != 0 || _) (.ok (x, a'))) := ⟨by rw [HM.out, h0]; rfl⟩
        rw [t1] at HM2
        clear HM
        go_enter Try.func104, Try.ntmps104
        go_wp2_with (first
          | (go_at_call 102; (with_reducible refine N1.mono ?_); rintro e w1 ⟨he, hfr⟩; obtain ⟨he', hrs⟩ := he; subst he'; (have hrs' : Hid _ := ⟨hrs⟩); clear hrs; (have ho := HO.out _ hfr); obtain ⟨p0, p1, p2, p3, p4, p5, p6, p7, p8, p9⟩ := ho)
          | (go_at_call 106; (with_reducible refine (HN.out _).mono ?_); rintro e w2 ⟨rfl, hb2⟩)
          | (go_at_call 66; (with_reducible refine (insist_yes _).mono ?_); rintro e w3 ⟨rfl, hw3⟩; subst w3)
          | (go_at_call 66; (with_reducible refine (insist_no _).mono ?_); rintro e w3 ⟨rfl, hw3⟩; subst w3))
        first
        | (go_ret; refine ⟨?_, by first | exact F1.then hfr | exact (F1.then hfr).bel hb2⟩; rw [HM2.out]; first | exact ⟨rfl, hrs'.out⟩ | exact ⟨rfl, hrs'.out.bel hb2⟩)
        | (refine ⟨rfl, ?_, by first | exact F1.then hfr | exact (F1.then hfr).bel hb2⟩; rw [HM2.out]; rfl)
end Go.Proofs.Ytjbepojopfbajaa

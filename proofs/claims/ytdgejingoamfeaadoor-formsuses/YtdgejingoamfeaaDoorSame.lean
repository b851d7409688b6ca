/- Operands that are compared; slices.Contains. -/
import Derived.Test.YtdgejingoamfeaaDoorNames
import Derived.Shelf.Slices.Turned
namespace Go.Proofs.YtdgejingoamfeaaDoor
open Go.ChangeShapes Go.WideShapes Go.ChangeAt Go.RowKit Go.Shelf
set_option linter.unusedVariables false

theorem fields_opd : Tryd.prog.underlying 23 = some (.struct (Tryd.prog.fieldsOf 23)) := by kernel_rfl
theorem held_opd : Tryd.prog.stoodInHeld 23 = false := by kernel_rfl

theorem fields_list : (Tryd.prog.fieldsOf 23).toList.map (fun f => (f.name == "_", f.type, f.offset)) =
    [(false, 3, 0), (false, 3, 1), (false, 3, 2), (false, 3, 3), (false, 3, 4), (false, 4, 5), (false, 4, 6), (false, 3, 7), (false, 9, 8), (false, 3, 9)] := by kernel_rfl

theorem eqStep {d : Nat} {xs ys : Array Value} {f : Field} {fs : List Field} {w : World} {a b : Value} {r s : Bool} (hn : f.name ≠ "_")
    (ha : (part f.type xs f.offset).run Tryd.prog w = .ok a w) (hb : (part f.type ys f.offset).run Tryd.prog w = .ok b w) (he : (Op.equalIn d f.type a b).run Tryd.prog w = .ok r w)
    (hs : (Op.eqFields d xs ys fs).run Tryd.prog w = .ok s w) : (Op.eqFields d xs ys (f :: fs)).run Tryd.prog w = .ok (r && s) w := by
  simp only [Op.eqFields, if_pos hn, Sem.run_bind, ha, hb, he, Result.andThen_ok, Sem.run_ite]
  cases r <;> simp [hs]

theorem opd_eq (a b : O) (w : World) : Sem.run Tryd.prog (binOp .eql 23 a.val b.val) w = .ok (.bool (a.same b)) w := by
  unfold O.val
  rw [run_eql_struct, run_equalIn_struct w 9999 23 _ _ fields_opd held_opd]
  have hl := fields_list
  generalize (Tryd.prog.fieldsOf 23).toList = fs at *
  have hlen : fs.length = 10 := by simpa using congrArg List.length hl
  match fs, hlen, hl with
  | [f0, f1, f2, f3, f4, f5, f6, f7, f8, f9], _, hl =>
    simp only [List.map_cons, List.map_nil, List.cons.injEq, Prod.mk.injEq, and_true, beq_eq_false_iff_ne] at hl
    obtain ⟨⟨n0, t0, o0⟩, ⟨n1, t1, o1⟩, ⟨n2, t2, o2⟩, ⟨n3, t3, o3⟩, ⟨n4, t4, o4⟩, ⟨n5, t5, o5⟩, ⟨n6, t6, o6⟩, ⟨n7, t7, o7⟩, ⟨n8, t8, o8⟩, ⟨n9, t9, o9⟩⟩ := hl
    have key : (Op.eqFields 9999 #[.int .i64 a.k, .int .i64 a.r, .int .i64 a.b, .int .i64 a.x, .int .i64 a.s, .bool a.rip, .bool a.fs, .int .i64 a.n, .string a.nm, .int .i64 a.m] #[.int .i64 b.k, .int .i64 b.r, .int .i64 b.b, .int .i64 b.x, .int .i64 b.s, .bool b.rip, .bool b.fs, .int .i64 b.n, .string b.nm, .int .i64 b.m] [f0, f1, f2, f3, f4, f5, f6, f7, f8, f9]).run Tryd.prog w =
        .ok (a.k == b.k && (a.r == b.r && (a.b == b.b && (a.x == b.x && (a.s == b.s && (a.rip == b.rip && (a.fs == b.fs && (a.n == b.n && (a.nm.toList == b.nm.toList && (a.m == b.m && true)))))))))) w := by
      refine eqStep n0 (a := .int .i64 a.k) (b := .int .i64 b.k) ?_ ?_ ?_ ?_
      case refine_4 =>
        refine eqStep n1 (a := .int .i64 a.r) (b := .int .i64 b.r) ?_ ?_ ?_ ?_
        case refine_4 =>
          refine eqStep n2 (a := .int .i64 a.b) (b := .int .i64 b.b) ?_ ?_ ?_ ?_
          case refine_4 =>
            refine eqStep n3 (a := .int .i64 a.x) (b := .int .i64 b.x) ?_ ?_ ?_ ?_
            case refine_4 =>
              refine eqStep n4 (a := .int .i64 a.s) (b := .int .i64 b.s) ?_ ?_ ?_ ?_
              case refine_4 =>
                refine eqStep n5 (a := .bool a.rip) (b := .bool b.rip) ?_ ?_ ?_ ?_
                case refine_4 =>
                  refine eqStep n6 (a := .bool a.fs) (b := .bool b.fs) ?_ ?_ ?_ ?_
                  case refine_4 =>
                    refine eqStep n7 (a := .int .i64 a.n) (b := .int .i64 b.n) ?_ ?_ ?_ ?_
                    case refine_4 =>
                      refine eqStep n8 (a := .string a.nm) (b := .string b.nm) ?_ ?_ ?_ ?_
                      case refine_4 =>
                        refine eqStep n9 (a := .int .i64 a.m) (b := .int .i64 b.m) ?_ ?_ ?_ (by simp [Op.eqFields])
                        all_goals simp [t9, o9, go_sem]
                      all_goals simp [t8, o8, go_sem]
                    all_goals simp [t7, o7, go_sem]
                  all_goals simp [t6, o6, go_sem]
                all_goals simp [t5, o5, go_sem]
              all_goals simp [t4, o4, go_sem]
            all_goals simp [t3, o3, go_sem]
          all_goals simp [t2, o2, go_sem]
        all_goals simp [t1, o1, go_sem]
      all_goals simp [t0, o0, go_sem]
    rw [key]
    simp [O.same, Result.andThen]

theorem lays107 : Lays.n107 Tryd.prog { f := fun k => if k = 107 then 97 else 101, t := fun k => if k = 28 then 60 else k, g := fun _ => 0 } :=
  { mixed := by kernel_rfl
    f107 := Tryd.func97.trans (congrArg some (by kernel_rfl))
    f108 := Tryd.func101.trans (congrArg some (by kernel_rfl))
    t0 := by kernel_rfl
    a0 := fun _ => by kernel_rfl
    z0 := fun _ => by kernel_rfl
    v0 := fun _ => by kernel_rfl
    t3 := by kernel_rfl
    a3 := fun _ => by kernel_rfl
    z3 := fun _ => by kernel_rfl
    v3 := fun _ => by kernel_rfl
    t4 := by kernel_rfl
    a4 := fun _ => by kernel_rfl
    z4 := fun _ => by kernel_rfl
    v4 := fun _ => by kernel_rfl
    t28 := by kernel_rfl
    a28 := fun _ => by kernel_rfl
    z28 := fun _ => by kernel_rfl
    v28 := fun _ => by kernel_rfl }

/-- A row of numbers lies in a block. -/
def Ints (w : World) (b : Nat) (zs : List Int) : Prop := ∀ j, j < zs.length → w.cell? ⟨b, j, none⟩ = some (.int .i64 (zs.getD j 0))

theorem contains_any (b n c : Nat) (zs : List Int) (x : Int) (w : World) (hn : n = zs.length) (hb : n ≤ 100) (hc : Ints w b zs) :
    Calls Tryd.prog 97 #[.slice (some ⟨b, 0, none⟩) n c, .int .i64 x] w fun e w' => e = .returned (.bool (zs.contains x)) ∧ w' = w := by
  have := Any.slices_Contains_int lays107 b 0 n c zs x w (by omega) (by omega) (fun j hj => by simpa using hc j hj)
  rw [List.take_of_length_le (by omega)] at this
  exact this
end Go.Proofs.YtdgejingoamfeaaDoor

/- Two pages are the same: the contract of what Same hands to maps.EqualFunc. -/
import Derived.Test.YtpfmnopokfiheaaMFetch
import Derived.DeepKeys
import Derived.Laws.Rows
import Derived.Deep.RegionHeld
namespace Go.Proofs.Ytpfmnopokfiheaa
open Go.ChangeShapes Go.WideShapes Go.ChangeAt Go.RowKit Go.Maps
set_option linter.unusedVariables false
set_option linter.unusedSimpArgs false

theorem mapM_some' {α β : Type} {f : α → Option β} {g : α → β} : ∀ (l : List α), (∀ x ∈ l, f x = some (g x)) → l.mapM f = some (l.map g)
  | [], _ => rfl
  | x :: l, h => by
    rw [List.mapM_cons, h x (by simp), mapM_some' l (fun y hy => h y (by simp [hy]))]
    rfl

theorem flat_one {α β : Type} (g : α → β) : ∀ (l : List α), (l.map (fun x => [g x])).flatten = l.map g
  | [] => rfl
  | x :: l => by simp [flat_one g l]
theorem cells73 : Try.prog.cellsOf 73 = 4096 := by kernel_rfl
theorem cells75 : Try.prog.cellsOf 75 = 4097 := by kernel_rfl
theorem cells3' : Try.prog.cellsOf 3 = 1 := by kernel_rfl
theorem cells5' : Try.prog.cellsOf 5 = 1 := by kernel_rfl
theorem size75 : (Try.prog.info? 75).map (·.size) = some 4097 := by kernel_rfl

theorem wf_i64 {m : Int} (h0 : 0 ≤ m) (h7 : m ≤ 7) : (Lit.int .i64 m).wf = true := by
  simp [Lit.wf, IntKind.min, IntKind.max, IntKind.signed, IntKind.bits]; omega
theorem wf_u8 {m : Int} (h0 : 0 ≤ m) (h7 : m < 256) : (Lit.int .u8 m).wf = true := by
  simp [Lit.wf, IntKind.min, IntKind.max, IntKind.signed, IntKind.bits]; omega

theorem lits75 {p : Pz} (h : p.Ok) : Try.prog.keyLits 3 75 (pgC p.may p.B).toList = some (Lit.int .i64 p.may :: p.B.map (Lit.int .u8)) := by
  have hl := h.len
  have h5 : ∀ i, i < 4096 → Try.prog.keyLits 1 5 (((p.B.map (Value.int .u8)).drop (i * 1)).take 1) = some [Lit.int .u8 (p.B.getD i 0)] := fun i hi => by
    have hb := h.byte (p.B.getD i 0) (by simp [List.getD, List.getElem?_eq_getElem (show i < p.B.length by omega)])
    have e : ((p.B.map (Value.int .u8)).drop (i * 1)).take 1 = [.int .u8 (p.B.getD i 0)] := by
      rw [Nat.mul_one, List.drop_eq_getElem_cons (by simp; omega)]
      simp [List.getD, List.getElem?_eq_getElem (show i < p.B.length by omega)]
    rw [e]
    unfold Program.keyLits
    have hw := wf_u8 hb.1 hb.2
    generalize p.B.getD i 0 = y at *
    simp [Try.underlying5, hw]
  have h73 : Try.prog.keyLits 2 73 (p.B.map (Value.int .u8)) = some (p.B.map (Lit.int .u8)) := by
    unfold Program.keyLits
    simp only [Try.underlying73, cells73, cells5', List.length_map, hl, if_true]
    rw [mapM_some' (g := fun i => [Lit.int .u8 (p.B.getD i 0)]) _ (fun i hi => h5 i (by simpa using hi))]
    rw [Option.map_some, flat_one (fun i => Lit.int .u8 (p.B.getD i 0))]
    refine congrArg some ?_
    generalize hN : 4096 = N at hl ⊢
    apply List.ext_getElem
    · simp [hl]
    · intro i h1 h2
      simp [List.getD, List.getElem?_eq_getElem (show i < p.B.length by simpa using h2)]
  have h3 : Try.prog.keyLits 2 3 [Value.int .i64 p.may] = some [Lit.int .i64 p.may] := by
    unfold Program.keyLits
    simp [Try.underlying3, wf_i64 h.lo h.hi]
  unfold Program.keyLits
  simp only [Try.underlying75, pgC, cells75]
  simp [hl, h3, h73, cells3', cells73, List.mapM_cons]
  rw [List.take_of_length_le (by simp [hl]), h73]
  simp

/-- Two pages, compared. -/
theorem eq75 {p q : Pz} (hp : p.Ok) (hq : q.Ok) (W : World) : (binOp .eql 75 (.agg (pgC p.may p.B)) (.agg (pgC q.may q.B))).run Try.prog W = .ok (.bool (decide (p.may = q.may ∧ p.B = q.B))) W := by
  have fx : ∀ r : Pz, r.Ok → (Value.agg (pgC r.may r.B)).formed Try.prog 75 = true := fun r hr => by
    simp [Value.formed, Try.underlying75, cells75, pgC, hr.len]
  obtain ⟨r, hr, hiff⟩ := run_equalIn_deep (P := Try.prog) 9997 3 75 (by kernel_rfl) W 3 3 _ _ _ _ (fx p hp) (fx q hq) (lits75 hp) (lits75 hq)
  have he : (Op.equal 75 (.agg (pgC p.may p.B)) (.agg (pgC q.may q.B))).run Try.prog W = .ok r W := hr
  have hd : r = decide (p.may = q.may ∧ p.B = q.B) := by
    rw [Bool.eq_iff_iff, hiff]
    simp only [List.cons.injEq, decide_eq_true_eq]
    constructor
    · rintro ⟨h1, h2⟩
      injection h1 with _ h1
      refine ⟨h1, ?_⟩
      exact (List.map_inj_right (fun x y e => by injection e)).1 h2
    · rintro ⟨h1, h2⟩
      rw [h1, h2]
      exact ⟨rfl, rfl⟩
  rw [← hd]
  simp only [binOp]
  simp [he]

theorem load75 {w : World} {b : Nat} {m : Int} {B : List Int} (hB : B.length = 4096) (h : w.heap[b]? = some (.cells (pgC m B) 75)) (W : World) (hW : W.heap[b]? = w.heap[b]?) : (loadVar 75 ⟨b, 0, none⟩).run Try.prog W = .ok (.agg (pgC m B)) W :=
  run_loadVar_row W b _ _ _ _ _ (hW.trans h) Try.underlying75 rfl (by rw [size75]; simp [pgC, hB])

theorem exec_loadV {w : World} {a : Act} {o : Oper} {t : TypeId} {x : Operand} {p : Addr} {v : Value} (ho : o.op = .load t x) (hx : a.eval x = .pointer (some p)) (hl : (loadVar t p).run Try.prog w = .ok v w) : (execOp a.eval o).run Try.prog w = .ok (.value v) w := by
  unfold execOp
  simp only [ho, hx, Instr.loadAt, Instr.sureAddr, Sem.run_bind, Sem.run_pure, Result.andThen_ok, hl]
theorem guard75 (x y : Operand) (C1 C2 : Array Value) (w : World) : (eqGuard .eql 75 x y (.agg C1) (.agg C2)).run Try.prog w = .ok () w := by kernel_rfl
theorem exec_bin {w : World} {a : Act} {o : Oper} {t' : TypeId} {x y : Operand} {C1 C2 : Array Value} {v : Value} (ho : o.op = .binOp .eql 75 x y t') (hx : a.eval x = .agg C1) (hy : a.eval y = .agg C2) (hl : (binOp .eql 75 (.agg C1) (.agg C2)).run Try.prog w = .ok v w) : (execOp a.eval o).run Try.prog w = .ok (.value v) w := by
  unfold execOp
  simp only [ho, hx, hy]
  simp [hl, guard75]

set_option maxRecDepth 20000 in
theorem same1_any {w : World} {mb gb mb' gb' : Nat} {pl pl' : Nat → Nat} {L L' : List Pz} (h : MA w mb gb pl L) (h' : MA w mb' gb' pl' L') {p q : Pz} (hp : p ∈ L) (hq : q ∈ L') :
    Calls Try.prog 42 #[pgP (pl p.k), pgP (pl' q.k)] w fun e w' => e = .returned (.bool (decide (p.may = q.may ∧ p.B = q.B))) ∧ Below w.heap.size w w' := by
  have hop := h.mz.ok p hp
  have hoq := h'.mz.ok q hq
  have e1 := eq75 hop hoq
  have l1 : ∀ u : World, u.heap[pl p.k]? = w.heap[pl p.k]? → _ := fun u hu => load75 hop.len (h.pages p hp) u hu
  have l2 : ∀ u : World, u.heap[pl' q.k]? = w.heap[pl' q.k]? → _ := fun u hu => load75 hoq.len (h'.pages q hq) u hu
  generalize pgC p.may p.B = C1 at *
  generalize pgC q.may q.B = C2 at *
  generalize decide (p.may = q.may ∧ p.B = q.B) = r at *
  generalize pl p.k = b1 at *
  generalize pl' q.k = b2 at *
  clear h h' hop hoq
  unfold pgP
  go_enter Try.func42, Try.ntmps42
  go_wp2
  refine wp_region_held_drew (S := fun u => (∀ x : World, x.heap = u.heap → (loadVar 75 ⟨b1, 0, none⟩).run Try.prog x = .ok (.agg C1) x) ∧ (∀ x : World, x.heap = u.heap → (loadVar 75 ⟨b2, 0, none⟩).run Try.prog x = .ok (.agg C2) x)) (by kernel_rfl) ⟨fun x hx => l1 x (by rw [hx]; rfl), fun x hx => l2 x (by rw [hx]; rfl)⟩ (fun hS => ?_)
  refine wpAnyH_take (i := 0) (v := .pointer (some ⟨b1, 0, none⟩)) rfl (by kernel_rfl) (by kernel_rfl) (by kernel_rfl) (fun _ _ _ h => h) (Or.inl ⟨by kernel_rfl, fun u hu => by kernel_rfl⟩) hS ?_
  simp only [Act.put, List.getElem_toArray, List.getElem_cons_succ, List.getElem_cons_zero, List.setIfInBounds_toArray, List.set_cons_zero, List.set_cons_succ]
  refine wpAnyH_take (i := 1) (v := .pointer (some ⟨b1, 0, none⟩)) rfl (by kernel_rfl) (by kernel_rfl) (by kernel_rfl) (fun _ _ _ h => h) (Or.inl ⟨by kernel_rfl, fun u hu => by kernel_rfl⟩) hS ?_
  simp only [Act.put, List.getElem_toArray, List.getElem_cons_succ, List.getElem_cons_zero, List.setIfInBounds_toArray, List.set_cons_zero, List.set_cons_succ]
  refine wpAnyH_take (i := 2) (v := .agg C1) rfl (by kernel_rfl) (by kernel_rfl) (by kernel_rfl) (fun _ _ _ h => h) (Or.inl ⟨by kernel_rfl, fun u hu => exec_loadV (t := 75) (p := ⟨b1, 0, none⟩) rfl (by kernel_rfl) (hu.1 u rfl)⟩) hS ?_
  simp only [Act.put, List.getElem_toArray, List.getElem_cons_succ, List.getElem_cons_zero, List.setIfInBounds_toArray, List.set_cons_zero, List.set_cons_succ]
  refine wpAnyH_take (i := 3) (v := .pointer (some ⟨b2, 0, none⟩)) rfl (by kernel_rfl) (by kernel_rfl) (by kernel_rfl) (fun _ _ _ h => h) (Or.inl ⟨by kernel_rfl, fun u hu => by kernel_rfl⟩) hS ?_
  simp only [Act.put, List.getElem_toArray, List.getElem_cons_succ, List.getElem_cons_zero, List.setIfInBounds_toArray, List.set_cons_zero, List.set_cons_succ]
  refine wpAnyH_take (i := 4) (v := .pointer (some ⟨b2, 0, none⟩)) rfl (by kernel_rfl) (by kernel_rfl) (by kernel_rfl) (fun _ _ _ h => h) (Or.inl ⟨by kernel_rfl, fun u hu => by kernel_rfl⟩) hS ?_
  simp only [Act.put, List.getElem_toArray, List.getElem_cons_succ, List.getElem_cons_zero, List.setIfInBounds_toArray, List.set_cons_zero, List.set_cons_succ]
  refine wpAnyH_take (i := 5) (v := .agg C2) rfl (by kernel_rfl) (by kernel_rfl) (by kernel_rfl) (fun _ _ _ h => h) (Or.inl ⟨by kernel_rfl, fun u hu => exec_loadV (t := 75) (p := ⟨b2, 0, none⟩) rfl (by kernel_rfl) (hu.2 u rfl)⟩) hS ?_
  simp only [Act.put, List.getElem_toArray, List.getElem_cons_succ, List.getElem_cons_zero, List.setIfInBounds_toArray, List.set_cons_zero, List.set_cons_succ]
  refine wpAnyH_take (i := 6) (v := .bool r) rfl (by kernel_rfl) (by kernel_rfl) (by kernel_rfl) (fun _ _ _ h => h) (Or.inl ⟨by kernel_rfl, fun u hu => exec_bin rfl (by kernel_rfl) (by kernel_rfl) (e1 u)⟩) hS ?_
  simp only [Act.put, List.getElem_toArray, List.getElem_cons_succ, List.getElem_cons_zero, List.setIfInBounds_toArray, List.set_cons_zero, List.set_cons_succ]
  refine wpAnyH_take (i := 7) (v := .bool r) rfl (by kernel_rfl) (by kernel_rfl) (by kernel_rfl) (fun _ _ _ h => h) (Or.inl ⟨by kernel_rfl, fun u hu => by kernel_rfl⟩) hS ?_
  simp only [Act.put, List.getElem_toArray, List.getElem_cons_succ, List.getElem_cons_zero, List.setIfInBounds_toArray, List.set_cons_zero, List.set_cons_succ]
  refine wpAnyH_done (by kernel_rfl) ?_ _
  go_wp2_with fail
  go_ret
  exact ⟨rfl, (Below.refl _ _).drew⟩
end Go.Proofs.Ytpfmnopokfiheaa

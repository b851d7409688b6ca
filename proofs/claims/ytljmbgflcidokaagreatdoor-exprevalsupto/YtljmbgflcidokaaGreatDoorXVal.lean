/- Values: what lies in a block; reduced; the ends of calls that hand a value back. -/
import Derived.Test.YtljmbgflcidokaaGreatDoorXPlain
import Derived.Test.YtljmbgflcidokaaGreatDoorQxTurn
import Derived.Laws.StructEq
namespace Go.Proofs.YtljmbgflcidokaaGreatDoor
open Go.ChangeShapes Go.WideShapes Go.ChangeAt Go.RowKit
set_option linter.unusedVariables false
set_option linter.unusedSimpArgs false

@[irreducible] def Vx.val (v : Vx) : Value := .agg #[.string v.p, .string v.m, .int .i64 v.n]
theorem Vx.val_mk (p m : ByteArray) (n : Int) : (⟨p, m, n⟩ : Vx).val = .agg #[.string p, .string m, .int .i64 n] := by unfold Vx.val; rfl
abbrev zV : Obj := .cells #[.string ⟨#[]⟩, .string ⟨#[]⟩, .int .i64 0] 27
/-- A value lies in a block. -/
structure VB (w : World) (g : Nat) (p m : ByteArray) (n : Int) : Prop where
  c0 : w.cell? ⟨g, 0, none⟩ = some (.string p)
  c1 : w.cell? ⟨g, 1, none⟩ = some (.string m)
  c2 : w.cell? ⟨g, 2, none⟩ = some (.int .i64 n)
  fz : ∀ j, w.frozen? ⟨g, j, none⟩ = false
section
variable {w w' : World} {g : Nat} {p m : ByteArray} {n : Int}
theorem VB.lt (h : VB w g p m n) : g < w.heap.size := World.block_lt_of_cell? w ⟨g, 0, none⟩ h.c0
theorem VB.turn (h : VB w g p m n) {S : Nat → Prop} (ht : Turn S w w') (h1 : ¬ S g) : VB w' g p m n := by
  have e : ∀ o, w'.cell? ⟨g, o, none⟩ = w.cell? ⟨g, o, none⟩ := fun o => World.cell?_of_block (ht.block g h.lt h1)
  have e2 : ∀ o, w'.frozen? ⟨g, o, none⟩ = w.frozen? ⟨g, o, none⟩ := fun o => World.frozen?_of_block (w := w) (ht.block g h.lt h1)
  exact ⟨(e _).trans h.c0, (e _).trans h.c1, (e _).trans h.c2, fun j => (e2 j).trans (h.fz j)⟩
theorem VB.bel (h : VB w g p m n) {B : Nat} (hb : Below B w w') (hB : g < B) : VB w' g p m n :=
  h.turn (S := fun k => B ≤ k) ⟨hb.os, hb.tape, hb.output, hb.size, fun k hk hn => hb.block k (by omega)⟩ (fun e => by omega)
theorem VB.new (w : World) (p m : ByteArray) (n : Int) : VB (w.alloc (.cells #[.string p, .string m, .int .i64 n] 27)) w.heap.size p m n := by
  refine ⟨by simp, by simp, by simp, fun j => ?_⟩
  simp only [World.frozen?]
  rw [heap_alloc_new]
  rfl
theorem VB.drewN (h : VB w g p m n) (k : Nat) : VB (w.drewN k) g p m n := h.turn ((Turn.refl (fun _ => False) w).drewN k) (fun e => e)
theorem VB.alloc (h : VB w g p m n) (o : Obj) : VB (w.alloc o) g p m n := h.turn ((Turn.refl (fun _ => False) w).alloc o) (fun e => e)
theorem VB.setAt (h : VB w g p m n) (b o : Nat) (hb : ¬ b = g) (u : Value) : VB (w.setCell ⟨b, o, none⟩ u) g p m n := h.turn (Turn.setCell (Turn.refl (fun k => k = b) w) ⟨b, o, none⟩ rfl u) (fun e => hb e.symm)
theorem VB.set0 (h : VB w g p m n) (q : ByteArray) : VB (w.setCell ⟨g, 0, none⟩ (.string q)) g q m n := by
  obtain ⟨c0, c1, c2, fz⟩ := h
  exact ⟨by simp [go_sem, c0], by simp [go_sem, c1], by simp [go_sem, c2], fun j => (World.frozen?_setCell _ _ _ _).trans (fz j)⟩
theorem VB.set1 (h : VB w g p m n) (q : ByteArray) : VB (w.setCell ⟨g, 1, none⟩ (.string q)) g p q n := by
  obtain ⟨c0, c1, c2, fz⟩ := h
  exact ⟨by simp [go_sem, c0], by simp [go_sem, c1], by simp [go_sem, c2], fun j => (World.frozen?_setCell _ _ _ _).trans (fz j)⟩
theorem VB.set2 (h : VB w g p m n) (q : Int) : VB (w.setCell ⟨g, 2, none⟩ (.int .i64 q)) g p m q := by
  obtain ⟨c0, c1, c2, fz⟩ := h
  exact ⟨by simp [go_sem, c0], by simp [go_sem, c1], by simp [go_sem, c2], fun j => (World.frozen?_setCell _ _ _ _).trans (fz j)⟩
theorem VB.set (h : VB w g p m n) (p' m' : ByteArray) (n' : Int) : VB (((w.setCell ⟨g, 0, none⟩ (.string p')).setCell ⟨g, 1, none⟩ (.string m')).setCell ⟨g, 2, none⟩ (.int .i64 n')) g p' m' n' := ((h.set0 p').set1 m').set2 n'
end
theorem resV_Add (tmps : Array Value) (W : World) (g : Nat) (p m : ByteArray) (n : Int) (hp : tmps.getD 4 undef = .pointer (some ⟨g, 0, none⟩)) (h : VB W g p m n) :
    (results Tryz.f15 tmps).run Tryz.prog W = .ok (.tuple #[.agg #[.string p, .string m, .int .i64 n], tmps.getD 5 undef]) W := by
  have hp' : tmps[4]?.getD undef = .pointer (some ⟨g, 0, none⟩) := by simpa using hp
  simp [results, Tryz.results15, hp', asAddr, loadVar, isAgg, run_underlying Tryz.underlying27, go_sem, h.c0, h.c1, h.c2]
theorem resV_Sub (tmps : Array Value) (W : World) (g : Nat) (p m : ByteArray) (n : Int) (hp : tmps.getD 4 undef = .pointer (some ⟨g, 0, none⟩)) (h : VB W g p m n) :
    (results Tryz.f17 tmps).run Tryz.prog W = .ok (.tuple #[.agg #[.string p, .string m, .int .i64 n], tmps.getD 5 undef]) W := by
  have hp' : tmps[4]?.getD undef = .pointer (some ⟨g, 0, none⟩) := by simpa using hp
  simp [results, Tryz.results17, hp', asAddr, loadVar, isAgg, run_underlying Tryz.underlying27, go_sem, h.c0, h.c1, h.c2]
theorem resV_Two (tmps : Array Value) (W : World) (g : Nat) (p m : ByteArray) (n : Int) (hp : tmps.getD 6 undef = .pointer (some ⟨g, 0, none⟩)) (h : VB W g p m n) :
    (results Tryz.f19 tmps).run Tryz.prog W = .ok (.tuple #[.agg #[.string p, .string m, .int .i64 n], tmps.getD 7 undef]) W := by
  have hp' : tmps[6]?.getD undef = .pointer (some ⟨g, 0, none⟩) := by simpa using hp
  simp [results, Tryz.results19, hp', asAddr, loadVar, isAgg, run_underlying Tryz.underlying27, go_sem, h.c0, h.c1, h.c2]
theorem resV_ofN (tmps : Array Value) (W : World) (g : Nat) (p m : ByteArray) (n : Int) (hp : tmps.getD 5 undef = .pointer (some ⟨g, 0, none⟩)) (h : VB W g p m n) :
    (results Tryz.f68 tmps).run Tryz.prog W = .ok (.tuple #[.agg #[.string p, .string m, .int .i64 n], tmps.getD 6 undef]) W := by
  have hp' : tmps[5]?.getD undef = .pointer (some ⟨g, 0, none⟩) := by simpa using hp
  simp [results, Tryz.results68, hp', asAddr, loadVar, isAgg, run_underlying Tryz.underlying27, go_sem, h.c0, h.c1, h.c2]
theorem resV_one (tmps : Array Value) (W : World) (g : Nat) (p m : ByteArray) (n : Int) (hp : tmps.getD 4 undef = .pointer (some ⟨g, 0, none⟩)) (h : VB W g p m n) :
    (results Tryz.f62 tmps).run Tryz.prog W = .ok (.tuple #[.agg #[.string p, .string m, .int .i64 n], tmps.getD 5 undef]) W := by
  have hp' : tmps[4]?.getD undef = .pointer (some ⟨g, 0, none⟩) := by simpa using hp
  simp [results, Tryz.results62, hp', asAddr, loadVar, isAgg, run_underlying Tryz.underlying27, go_sem, h.c0, h.c1, h.c2]
theorem resV_lev (tmps : Array Value) (W : World) (g : Nat) (p m : ByteArray) (n : Int) (hp : tmps.getD 3 undef = .pointer (some ⟨g, 0, none⟩)) (h : VB W g p m n) :
    (results Tryz.f63 tmps).run Tryz.prog W = .ok (.tuple #[.agg #[.string p, .string m, .int .i64 n], tmps.getD 4 undef]) W := by
  have hp' : tmps[3]?.getD undef = .pointer (some ⟨g, 0, none⟩) := by simpa using hp
  simp [results, Tryz.results63, hp', asAddr, loadVar, isAgg, run_underlying Tryz.underlying27, go_sem, h.c0, h.c1, h.c2]
theorem resV_apply (tmps : Array Value) (W : World) (g : Nat) (p m : ByteArray) (n : Int) (hp : tmps.getD 6 undef = .pointer (some ⟨g, 0, none⟩)) (h : VB W g p m n) :
    (results Tryz.f65 tmps).run Tryz.prog W = .ok (.tuple #[.agg #[.string p, .string m, .int .i64 n], tmps.getD 7 undef]) W := by
  have hp' : tmps[6]?.getD undef = .pointer (some ⟨g, 0, none⟩) := by simpa using hp
  simp [results, Tryz.results65, hp', asAddr, loadVar, isAgg, run_underlying Tryz.underlying27, go_sem, h.c0, h.c1, h.c2]
theorem resV_operand (tmps : Array Value) (W : World) (g : Nat) (p m : ByteArray) (n : Int) (hp : tmps.getD 2 undef = .pointer (some ⟨g, 0, none⟩)) (h : VB W g p m n) :
    (results Tryz.f36 tmps).run Tryz.prog W = .ok (.tuple #[.agg #[.string p, .string m, .int .i64 n], tmps.getD 3 undef]) W := by
  have hp' : tmps[2]?.getD undef = .pointer (some ⟨g, 0, none⟩) := by simpa using hp
  simp [results, Tryz.results36, hp', asAddr, loadVar, isAgg, run_underlying Tryz.underlying27, go_sem, h.c0, h.c1, h.c2]
theorem resV_atom (tmps : Array Value) (W : World) (g : Nat) (p m : ByteArray) (n : Int) (hp : tmps.getD 2 undef = .pointer (some ⟨g, 0, none⟩)) (h : VB W g p m n) :
    (results Tryz.f61 tmps).run Tryz.prog W = .ok (.tuple #[.agg #[.string p, .string m, .int .i64 n], tmps.getD 3 undef]) W := by
  have hp' : tmps[2]?.getD undef = .pointer (some ⟨g, 0, none⟩) := by simpa using hp
  simp [results, Tryz.results61, hp', asAddr, loadVar, isAgg, run_underlying Tryz.underlying27, go_sem, h.c0, h.c1, h.c2]
theorem resV_bracket (tmps : Array Value) (W : World) (g : Nat) (p m : ByteArray) (n : Int) (hp : tmps.getD 2 undef = .pointer (some ⟨g, 0, none⟩)) (h : VB W g p m n) :
    (results Tryz.f85 tmps).run Tryz.prog W = .ok (.tuple #[.agg #[.string p, .string m, .int .i64 n], tmps.getD 3 undef]) W := by
  have hp' : tmps[2]?.getD undef = .pointer (some ⟨g, 0, none⟩) := by simpa using hp
  simp [results, Tryz.results85, hp', asAddr, loadVar, isAgg, run_underlying Tryz.underlying27, go_sem, h.c0, h.c1, h.c2]
theorem resV_reduced (tmps : Array Value) (W : World) (g : Nat) (p m : ByteArray) (n : Int) (hp : tmps.getD 2 undef = .pointer (some ⟨g, 0, none⟩)) (h : VB W g p m n) :
    (results Tryz.f27 tmps).run Tryz.prog W = .ok (.agg #[.string p, .string m, .int .i64 n]) W := by
  have hp' : tmps[2]?.getD undef = .pointer (some ⟨g, 0, none⟩) := by simpa using hp
  simp [results, Tryz.results27, hp', asAddr, loadVar, isAgg, run_underlying Tryz.underlying27, go_sem, h.c0, h.c1, h.c2]
theorem resV_value (tmps : Array Value) (W : World) (g : Nat) (p m : ByteArray) (n : Int) (hp : tmps.getD 4 undef = .pointer (some ⟨g, 0, none⟩)) (h : VB W g p m n) :
    (results Tryz.f86 tmps).run Tryz.prog W = .ok (.agg #[.string p, .string m, .int .i64 n]) W := by
  have hp' : tmps[4]?.getD undef = .pointer (some ⟨g, 0, none⟩) := by simpa using hp
  simp [results, Tryz.results86, hp', asAddr, loadVar, isAgg, run_underlying Tryz.underlying27, go_sem, h.c0, h.c1, h.c2]
theorem resV_Eval (tmps : Array Value) (W : World) (g : Nat) (p m : ByteArray) (n : Int) (hp : tmps.getD 6 undef = .pointer (some ⟨g, 0, none⟩)) (h : VB W g p m n) :
    (results Tryz.f9 tmps).run Tryz.prog W = .ok (.tuple #[.agg #[.string p, .string m, .int .i64 n], tmps.getD 7 undef, tmps.getD 8 undef]) W := by
  have hp' : tmps[6]?.getD undef = .pointer (some ⟨g, 0, none⟩) := by simpa using hp
  simp [results, Tryz.results9, hp', asAddr, loadVar, isAgg, run_underlying Tryz.underlying27, go_sem, h.c0, h.c1, h.c2]

theorem VB.at (w : World) (p m : ByteArray) (n : Int) (g : Nat) (hg : g = w.heap.size) : VB (w.alloc (.cells #[.string p, .string m, .int .i64 n] 27)) g p m n := by
  subst hg; exact VB.new w p m n
theorem reduced_any (p m : ByteArray) (n : Int) (w : World) : Calls Tryz.prog 27 #[.agg #[.string p, .string m, .int .i64 n]] w fun e w' => e = .returned (redV ⟨p, m, n⟩).val ∧ Below w.heap.size w w' := by
  unfold redV
  simp only
  have b1 := (Below.refl w.heap.size w).alloc (Nat.le_refl _) (.cells #[.string p, .string m, .int .i64 n] 27)
  cases h : sB p m
  · have h' : (p.toList == m.toList) = false := h
    rw [if_neg (by simp), Vx.val_mk]
    go_enter Tryz.func27, Tryz.ntmps27
    go_wp2
    refine bodyPost_ret (resV_reduced _ _ (w.heap.size + 1) p m n (by simp) (VB.at _ _ _ _ _ (by simp))) rfl ?_
    exact ⟨rfl, b1.alloc (by simp) _⟩
  · have h' : (p.toList == m.toList) = true := h
    rw [if_pos rfl, Vx.val_mk]
    go_enter Tryz.func27, Tryz.ntmps27
    go_wp2
    refine bodyPost_ret (resV_reduced _ _ (w.heap.size + 1) es es n (by simp) (VB.at _ _ _ _ _ (by simp))) rfl ?_
    exact ⟨rfl, b1.alloc (by simp) _⟩

theorem bel_alloc {a w : World} (h : Below a.heap.size a w) (o : Obj) : Below a.heap.size a (w.alloc o) := h.alloc h.size o
theorem bel_trans {a v w : World} (h : Below a.heap.size a v) (g : Below v.heap.size v w) : Below a.heap.size a w := h.trans (g.mono h.size)
theorem up_alloc {v : World} {a : Addr} {x : Value} (h : v.cell? a = some x) (o : Obj) : (v.alloc o).cell? a = some x := by
  have k := World.block_lt_of_cell? v a h
  exact (((Below.refl v.heap.size v).alloc (Nat.le_refl _) o).cell k).trans h
theorem up_drew {v : World} {a : Addr} {x : Value} (h : v.cell? a = some x) : v.drew.cell? a = some x := h
theorem up_set {v : World} {a : Addr} {x : Value} (h : v.cell? a = some x) {p : Addr} {u : Value} (hp : a.block ≠ p.block) : (v.setCell p u).cell? a = some x := by
  rw [← h]
  exact World.cell?_of_block (Below.heap_setCell _ _ _ _ hp)
theorem to_bel {v u : World} (hb : Below v.heap.size v u) {a : Addr} {x : Value} (h : v.cell? a = some x) : u.cell? a = some x :=
  (hb.cell (World.block_lt_of_cell? v a h)).trans h

theorem toList_nil (s : ByteArray) : (s.toList == (⟨#[]⟩ : ByteArray).toList) = sB s es := rfl
theorem sB_iff (a b : ByteArray) : sB a b = true ↔ a = b := by
  unfold sB
  rw [beq_iff_eq, ByteArray.toList_eq, ByteArray.toList_eq]
  constructor
  · intro h
    exact ByteArray.ext (Array.toList_inj.1 h)
  · intro h
    rw [h]
theorem sB_false (a b : ByteArray) : sB a b = false ↔ ¬ a = b := by
  rw [← Bool.not_eq_true, sB_iff]
theorem sB_comm (a b : ByteArray) : sB a b = sB b a := by
  cases h : sB b a
  · rw [sB_false] at h ⊢; exact fun e => h e.symm
  · rw [sB_iff] at h ⊢; exact h.symm
theorem eqlV (p m q k : ByteArray) (n i : Int) (w : World) : (binOp .eql 27 (.agg #[.string p, .string m, .int .i64 n]) (.agg #[.string q, .string k, .int .i64 i])).run Tryz.prog w = .ok (.bool (p.toList == q.toList && (m.toList == k.toList && (n == i && true)))) w := by
  simp [go_sem]
  by_cases h1 : p.toList = q.toList
  · by_cases h2 : m.toList = k.toList
    · by_cases h3 : n = i <;> simp [h1, h2, h3]
    · simp [h1, h2]
  · simp [h1]
theorem keepV {v u : World} {a : World} {g : Nat} {x y z : Value} (h : v.cell? ⟨g, 0, none⟩ = some x ∧ v.cell? ⟨g, 1, none⟩ = some y ∧ v.cell? ⟨g, 2, none⟩ = some z ∧ Hid (Below a.heap.size a v)) (hb : Below v.heap.size v u) :
    u.cell? ⟨g, 0, none⟩ = some x ∧ u.cell? ⟨g, 1, none⟩ = some y ∧ u.cell? ⟨g, 2, none⟩ = some z ∧ Hid (Below a.heap.size a u) :=
  ⟨to_bel hb h.1, to_bel hb h.2.1, to_bel hb h.2.2.1, ⟨bel_trans h.2.2.2.out hb⟩⟩
theorem isNumber_any (p m : ByteArray) (n : Int) (w : World) : Calls Tryz.prog 69 #[.agg #[.string p, .string m, .int .i64 n]] w fun e w' => e = .returned (.bool (sB p m)) ∧ Below w.heap.size w w' := by
  have HR : Hid _ := ⟨reduced_any p m n⟩
  have k : (w.alloc (.cells #[.string p, .string m, .int .i64 n] 27)).drew.cell? ⟨w.heap.size, 0, none⟩ = some (.string p) ∧ (w.alloc (.cells #[.string p, .string m, .int .i64 n] 27)).drew.cell? ⟨w.heap.size, 1, none⟩ = some (.string m) ∧ (w.alloc (.cells #[.string p, .string m, .int .i64 n] 27)).drew.cell? ⟨w.heap.size, 2, none⟩ = some (.int .i64 n) ∧ Hid (Below w.heap.size w (w.alloc (.cells #[.string p, .string m, .int .i64 n] 27)).drew) :=
    ⟨up_drew (by simp), up_drew (by simp), up_drew (by simp), ⟨(bel_alloc (Below.refl _ _) _).drew⟩⟩
  have q0 := eqlV p m ⟨#[]⟩ ⟨#[]⟩ n n
  have q1 := eqlV ⟨#[]⟩ ⟨#[]⟩ ⟨#[]⟩ ⟨#[]⟩ n n
  unfold redV at HR
  simp only at HR
  cases h : sB p m
  · rw [h, if_neg (by simp), Vx.val_mk] at HR
    have e : (p.toList == (⟨#[]⟩ : ByteArray).toList && (m.toList == (⟨#[]⟩ : ByteArray).toList && (n == n && true))) = false := by
      show (sB p es && (sB m es && _)) = false
      cases h1 : sB p es
      · rfl
      · cases h2 : sB m es
        · rfl
        · rw [sB_iff] at h1 h2
          rw [h1, h2] at h
          rw [sB_false] at h
          exact absurd rfl h
    rw [e] at q0
    clear q1 e
    go_enter Tryz.func69, Tryz.ntmps69
    go_wp2
    go_region_held3 (fun v => v.cell? ⟨w.heap.size, 0, none⟩ = some (.string p) ∧ v.cell? ⟨w.heap.size, 1, none⟩ = some (.string m) ∧ v.cell? ⟨w.heap.size, 2, none⟩ = some (.int .i64 n) ∧ Hid (Below w.heap.size w v))
      (first | (with_reducible assumption) | exact keepV (by with_reducible assumption) hb)
      (first | (go_at_call 27; refine (HR.out _).mono ?_; rintro e wp ⟨rfl, hb⟩))
    go_wp2
    go_ret
    rename_i hS
    exact ⟨rfl, hS.2.2.2.out⟩
  · rw [h, if_pos (by simp), Vx.val_mk] at HR
    have e : ((⟨#[]⟩ : ByteArray).toList == (⟨#[]⟩ : ByteArray).toList && ((⟨#[]⟩ : ByteArray).toList == (⟨#[]⟩ : ByteArray).toList && (n == n && true))) = true := by simp
    rw [e] at q1
    clear q0 e
    unfold es at HR
    go_enter Tryz.func69, Tryz.ntmps69
    go_wp2
    go_region_held3 (fun v => v.cell? ⟨w.heap.size, 0, none⟩ = some (.string p) ∧ v.cell? ⟨w.heap.size, 1, none⟩ = some (.string m) ∧ v.cell? ⟨w.heap.size, 2, none⟩ = some (.int .i64 n) ∧ Hid (Below w.heap.size w v))
      (first | (with_reducible assumption) | exact keepV (by with_reducible assumption) hb)
      (first | (go_at_call 27; refine (HR.out _).mono ?_; rintro e wp ⟨rfl, hb⟩))
    go_wp2
    go_ret
    rename_i hS
    exact ⟨rfl, hS.2.2.2.out⟩

theorem VB.cells {w : World} {g : Nat} {p m : ByteArray} {n : Int} (h : VB w g p m n) : w.cell? ⟨g, 0, none⟩ = some (.string p) ∧ w.cell? ⟨g, 1, none⟩ = some (.string m) ∧ w.cell? ⟨g, 2, none⟩ = some (.int .i64 n) := ⟨h.c0, h.c1, h.c2⟩
end Go.Proofs.YtljmbgflcidokaaGreatDoor

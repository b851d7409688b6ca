/- The document's reader of an expression: what lies in memory; wrong, level, sign. The document's reader: bare. The document's reader: operand. The document's reader: levels, Eval. The document's Eval. -/
import Derived.Test.YtljmbgflcidokaaGreatDoorXKn
import Derived.Test.YtljmbgflcidokaaGreatDoorYTwos
import Derived.Deep.QuietTactic
import Derived.BigQuiet
import Derived.Deep.Cut
import Derived.Deep.CutRange
import Derived.Deep.RegionWith
import Derived.Test.YtljmbgflcidokaaGreatDoorXOper
import Derived.Test.YtljmbgflcidokaaGreatDoorZPre
import Derived.Deep.RegionHeldLaw
import Derived.Deep.AppendLies
import Derived.Deep.RegionHeld3
namespace Go.Proofs.YtljmbgflcidokaaGreatDoor
open Go.ChangeShapes Go.WideShapes Go.ChangeAt Go.RowKit
set_option linter.unusedVariables false
set_option linter.unusedSimpArgs false

/-- What the document's reader stands on. -/
structure Gy where
  rb : Nat
  ao : Option Addr
  cp : Nat
  L : List TL
  ko : Option Addr
  kcp : Nat
  K : List Dx
/-- The document's reader lies in memory: its place, how deep it is, the first error. -/
structure RY (g : Gy) (w : World) (a dep : Nat) (er : Int) : Prop where
  c0 : w.cell? ⟨g.rb, 0, none⟩ = some (.slice g.ao g.L.length g.cp)
  c1 : w.cell? ⟨g.rb, 1, none⟩ = some (.int .i64 a)
  c2 : w.cell? ⟨g.rb, 2, none⟩ = some (.int .i64 dep)
  c3 : w.cell? ⟨g.rb, 3, none⟩ = some (.slice g.ko g.K.length g.kcp)
  c4 : w.cell? ⟨g.rb, 4, none⟩ = some (.int .i64 er)
  fz : ∀ j, w.frozen? ⟨g.rb, j, none⟩ = false
  tk : g.L = [] ∨ ∃ b off, g.ao = some ⟨b, off, none⟩ ∧ b < g.rb ∧ ∀ i, i < g.L.length → TokAt w b (off + i * 4) (g.L.getD i TL.none)
  df : g.K = [] ∨ ∃ b off, g.ko = some ⟨b, off, none⟩ ∧ b < g.rb ∧ ∀ i, i < g.K.length → DefAt w b (off + i * 4) (g.K.getD i Dx.none)
  hl : g.L.length ≤ 8796093022208
  hk : g.K.length ≤ 8796093022208
  ot : ∀ p ∈ g.L, p.1.t.length ≤ 140737488355328
  ok : ∀ d ∈ g.K, d.v.Ok
section
variable {g : Gy} {w w' : World} {a dep : Nat} {er : Int}
theorem RY.lt (h : RY g w a dep er) : g.rb < w.heap.size := World.block_lt_of_cell? w ⟨g.rb, 0, none⟩ h.c0
/-- The reader's own cells as they are told; all that is older stays. -/
theorem RY.move (h : RY g w a dep er) {S : Nat → Prop} (ht : Turn S w w') (hS : ∀ k, S k → g.rb ≤ k) {a' dep' : Nat} {er' : Int} (c0 : w'.cell? ⟨g.rb, 0, none⟩ = w.cell? ⟨g.rb, 0, none⟩) (c1 : w'.cell? ⟨g.rb, 1, none⟩ = some (.int .i64 a')) (c2 : w'.cell? ⟨g.rb, 2, none⟩ = some (.int .i64 dep')) (c3 : w'.cell? ⟨g.rb, 3, none⟩ = w.cell? ⟨g.rb, 3, none⟩) (c4 : w'.cell? ⟨g.rb, 4, none⟩ = some (.int .i64 er')) (fz : ∀ j, w'.frozen? ⟨g.rb, j, none⟩ = false) : RY g w' a' dep' er' := by
  refine ⟨c0.trans h.c0, c1, c2, c3.trans h.c3, c4, fz, h.tk.imp id ?_, h.df.imp id ?_, h.hl, h.hk, h.ot, h.ok⟩
  · rintro ⟨b, off, e1, e2, e3⟩
    exact ⟨b, off, e1, e2, fun i hi => (e3 i hi).turn ht (fun x => by have := hS b x; omega)⟩
  · rintro ⟨b, off, e1, e2, e3⟩
    exact ⟨b, off, e1, e2, fun i hi => (e3 i hi).turn ht (fun x => by have := hS b x; omega)⟩
/-- What is newer than the reader is written. -/
theorem RY.turn (h : RY g w a dep er) {S : Nat → Prop} (ht : Turn S w w') (hS : ∀ k, S k → g.rb < k) : RY g w' a dep er := by
  have hr : ¬ S g.rb := fun x => by have := hS _ x; omega
  have e : ∀ o, w'.cell? ⟨g.rb, o, none⟩ = w.cell? ⟨g.rb, o, none⟩ := fun o => World.cell?_of_block (ht.block g.rb h.lt hr)
  have e2 : ∀ o, w'.frozen? ⟨g.rb, o, none⟩ = w.frozen? ⟨g.rb, o, none⟩ := fun o => World.frozen?_of_block (w := w) (ht.block g.rb h.lt hr)
  exact h.move ht (fun k x => by have := hS k x; omega) (e _) ((e _).trans h.c1) ((e _).trans h.c2) (e _) ((e _).trans h.c4) (fun j => (e2 j).trans (h.fz j))
theorem RY.bel (h : RY g w a dep er) (hb : Below w.heap.size w w') : RY g w' a dep er := h.turn (Turn.of_below hb (fun _ => False)) (fun _ e => e.elim)
theorem RY.alloc (h : RY g w a dep er) (o : Obj) : RY g (w.alloc o) a dep er := h.bel (bel_alloc (Below.refl _ _) o)
theorem RY.drew (h : RY g w a dep er) : RY g w.drew a dep er := h.bel (Below.refl _ _).drew
theorem RY.setN (h : RY g w a dep er) (B o : Nat) (hB : g.rb < B) (u : Value) : RY g (w.setCell ⟨B, o, none⟩ u) a dep er := h.turn (Turn.setCell (S := fun k => k = B) (Turn.refl _ w) ⟨B, o, none⟩ rfl u) (fun k e => by omega)
theorem RY.set3 (h : RY g w a dep er) (B : Nat) (hB : g.rb < B) (u v z : Value) : RY g (((w.setCell ⟨B, 0, none⟩ u).setCell ⟨B, 1, none⟩ v).setCell ⟨B, 2, none⟩ z) a dep er := ((h.setN B 0 hB u).setN B 1 hB v).setN B 2 hB z
theorem RY.setA (h : RY g w a dep er) (a' : Nat) (v : Int) (hv : v = (a' : Int)) : RY g (w.setCell ⟨g.rb, 1, none⟩ (.int .i64 v)) a' dep er := by
  subst hv
  refine h.move (Turn.setCell (S := fun k => k = g.rb) (Turn.refl _ w) ⟨g.rb, 1, none⟩ rfl _) (fun k e => by omega) ?_ ?_ ?_ ?_ ?_ (fun j => (World.frozen?_setCell _ _ _ _).trans (h.fz j))
  · simp [go_sem]
  · simp [go_sem, h.c1]
  · simp [go_sem, h.c2]
  · simp [go_sem]
  · simp [go_sem, h.c4]
theorem RY.setD (h : RY g w a dep er) (dep' : Nat) (v : Int) (hv : v = (dep' : Int)) : RY g (w.setCell ⟨g.rb, 2, none⟩ (.int .i64 v)) a dep' er := by
  subst hv
  refine h.move (Turn.setCell (S := fun k => k = g.rb) (Turn.refl _ w) ⟨g.rb, 2, none⟩ rfl _) (fun k e => by omega) ?_ ?_ ?_ ?_ ?_ (fun j => (World.frozen?_setCell _ _ _ _).trans (h.fz j))
  · simp [go_sem]
  · simp [go_sem, h.c1]
  · simp [go_sem, h.c2]
  · simp [go_sem]
  · simp [go_sem, h.c4]
theorem RY.setE (h : RY g w a dep er) (er' : Int) (v : Int) (hv : v = (er' : Int)) : RY g (w.setCell ⟨g.rb, 4, none⟩ (.int .i64 v)) a dep er' := by
  subst hv
  refine h.move (Turn.setCell (S := fun k => k = g.rb) (Turn.refl _ w) ⟨g.rb, 4, none⟩ rfl _) (fun k e => by omega) ?_ ?_ ?_ ?_ ?_ (fun j => (World.frozen?_setCell _ _ _ _).trans (h.fz j))
  · simp [go_sem]
  · simp [go_sem, h.c1]
  · simp [go_sem, h.c2]
  · simp [go_sem]
  · simp [go_sem, h.c4]
end
theorem resY_wrong (tmps : Array Value) (W : World) (g : Nat) (p m : ByteArray) (n : Int) (hp : tmps.getD 4 undef = .pointer (some ⟨g, 0, none⟩)) (h : VB W g p m n) :
    (results Tryz.f40 tmps).run Tryz.prog W = .ok (.agg #[.string p, .string m, .int .i64 n]) W := by
  have hp' : tmps[4]?.getD undef = .pointer (some ⟨g, 0, none⟩) := by simpa using hp
  simp [results, Tryz.results40, hp', asAddr, loadVar, isAgg, run_underlying Tryz.underlying33, go_sem, h.c0, h.c1, h.c2]
section
variable {g : Gy} {w w' : World} {a dep : Nat} {er : Int}
theorem wrong_any (h : RY g w a dep 0) (e : Int) : Calls Tryz.prog 40 #[.pointer (some ⟨g.rb, 0, none⟩), .int .i64 e] w fun x w' => x = .returned (.agg #[.string ⟨#[]⟩, .string ⟨#[]⟩, .int .i64 0]) ∧ TX g.rb w w' ∧ RY g w' a dep e := by
  have hrb := h.lt
  have hrb' : ¬ w.heap.size = g.rb := by omega
  have hrb2 : ¬ g.rb = w.heap.size := by omega
  have V2 := VB.atY w ⟨#[]⟩ ⟨#[]⟩ 0 w.heap.size rfl
  have X := h.alloc yV
  have T : TX g.rb w (w.alloc yV) := Turn.alloc (Turn.refl _ w) yV
  go_enter Tryz.func40, Tryz.ntmps40
  go_upto_region 1 with (fail)
  generalize hG : w.alloc yV = v at *
  clear hG
  obtain ⟨f0, f1, f2, f3⟩ := id V2
  have c4 := X.c4
  have z4 := X.fz 4
  have HX : Hid _ := ⟨X⟩
  have HT : Hid _ := ⟨T⟩
  have HV : Hid _ := ⟨V2⟩
  clear X T V2 h
  go_wp2
  refine bodyPost_ret (resY_wrong _ _ w.heap.size _ _ _ rfl ((HV.out.setAt _ 4 (fun e => hrb2 e) _).set _ _ _)) rfl ⟨rfl, ?_, ?_⟩
  · exact TX.set3 (TX.set HT.out 4 _) (Nat.le_refl _) _ _ _
  · exact (HX.out.setE e e rfl).set3 _ hrb _ _ _

end
/-- A level, as the document counts. -/
def lvY (t : Tok) : Int := if t.k = 4 then match lvOf t.t with | none => 0 | some n => (n : Int) + 1 else 0
theorem opOf_no9 {s : List UInt8} (e1 : ¬ s = [43]) (e2 : ¬ s = [45]) (e3 : ¬ s = [42]) (e4 : ¬ s = [47]) (e5 : ¬ s = [60, 60]) (e6 : ¬ s = [62, 62]) (e7 : ¬ s = [38]) (e8 : ¬ s = [124]) (e9 : ¬ s = [94]) : opOf s = none := by
  unfold opOf opsL
  rw [Option.map_eq_none_iff, List.find?_eq_none]
  intro x hx
  simp only [List.mem_cons, List.not_mem_nil, or_false] at hx
  rcases hx with rfl | rfl | rfl | rfl | rfl | rfl | rfl | rfl | rfl <;> simp <;> intro h <;> subst h <;> contradiction
theorem level_not (k l n : Int) (S : ByteArray) (hk : (k != 4) = true) (w : World) : Calls Tryz.prog 39 #[.agg #[.int .i64 k, .int .i64 l, .int .i64 n, .string S]] w fun e w' => e = .returned (.int .i64 0) ∧ Below w.heap.size w w' := by
  go_enter Tryz.func39, Tryz.ntmps39
  go_wp2
  go_ret
  exact ⟨rfl, bel_alloc (Below.refl _ _) _⟩
theorem level_none (l n : Int) (S : ByteArray) (h0 : (S.toList == [43]) = false) (h1 : (S.toList == [45]) = false) (h2 : (S.toList == [42]) = false) (h3 : (S.toList == [47]) = false) (h4 : (S.toList == [60, 60]) = false) (h5 : (S.toList == [62, 62]) = false) (h6 : (S.toList == [38]) = false) (h7 : (S.toList == [124]) = false) (h8 : (S.toList == [94]) = false) (w : World) : Calls Tryz.prog 39 #[.agg #[.int .i64 4, .int .i64 l, .int .i64 n, .string S]] w fun e w' => e = .returned (.int .i64 0) ∧ Below w.heap.size w w' := by
  go_enter Tryz.func39, Tryz.ntmps39
  go_wp2
  go_ret
  exact ⟨rfl, bel_alloc (Below.refl _ _) _⟩
theorem level_add (l n : Int) (w : World) : Calls Tryz.prog 39 #[.agg #[.int .i64 4, .int .i64 l, .int .i64 n, .string ⟨#[43]⟩]] w fun e w' => e = .returned (.int .i64 3) ∧ Below w.heap.size w w' := by
  go_enter Tryz.func39, Tryz.ntmps39
  go_wp2
  go_ret
  exact ⟨rfl, bel_alloc (Below.refl _ _) _⟩
theorem level_sub (l n : Int) (w : World) : Calls Tryz.prog 39 #[.agg #[.int .i64 4, .int .i64 l, .int .i64 n, .string ⟨#[45]⟩]] w fun e w' => e = .returned (.int .i64 3) ∧ Below w.heap.size w w' := by
  go_enter Tryz.func39, Tryz.ntmps39
  go_wp2
  go_ret
  exact ⟨rfl, bel_alloc (Below.refl _ _) _⟩
theorem level_mul (l n : Int) (w : World) : Calls Tryz.prog 39 #[.agg #[.int .i64 4, .int .i64 l, .int .i64 n, .string ⟨#[42]⟩]] w fun e w' => e = .returned (.int .i64 1) ∧ Below w.heap.size w w' := by
  go_enter Tryz.func39, Tryz.ntmps39
  go_wp2
  go_ret
  exact ⟨rfl, bel_alloc (Below.refl _ _) _⟩
theorem level_div (l n : Int) (w : World) : Calls Tryz.prog 39 #[.agg #[.int .i64 4, .int .i64 l, .int .i64 n, .string ⟨#[47]⟩]] w fun e w' => e = .returned (.int .i64 1) ∧ Below w.heap.size w w' := by
  go_enter Tryz.func39, Tryz.ntmps39
  go_wp2
  go_ret
  exact ⟨rfl, bel_alloc (Below.refl _ _) _⟩
theorem level_shl (l n : Int) (w : World) : Calls Tryz.prog 39 #[.agg #[.int .i64 4, .int .i64 l, .int .i64 n, .string ⟨#[60, 60]⟩]] w fun e w' => e = .returned (.int .i64 1) ∧ Below w.heap.size w w' := by
  go_enter Tryz.func39, Tryz.ntmps39
  go_wp2
  go_ret
  exact ⟨rfl, bel_alloc (Below.refl _ _) _⟩
theorem level_shr (l n : Int) (w : World) : Calls Tryz.prog 39 #[.agg #[.int .i64 4, .int .i64 l, .int .i64 n, .string ⟨#[62, 62]⟩]] w fun e w' => e = .returned (.int .i64 1) ∧ Below w.heap.size w w' := by
  go_enter Tryz.func39, Tryz.ntmps39
  go_wp2
  go_ret
  exact ⟨rfl, bel_alloc (Below.refl _ _) _⟩
theorem level_and (l n : Int) (w : World) : Calls Tryz.prog 39 #[.agg #[.int .i64 4, .int .i64 l, .int .i64 n, .string ⟨#[38]⟩]] w fun e w' => e = .returned (.int .i64 2) ∧ Below w.heap.size w w' := by
  go_enter Tryz.func39, Tryz.ntmps39
  go_wp2
  go_ret
  exact ⟨rfl, bel_alloc (Below.refl _ _) _⟩
theorem level_or (l n : Int) (w : World) : Calls Tryz.prog 39 #[.agg #[.int .i64 4, .int .i64 l, .int .i64 n, .string ⟨#[124]⟩]] w fun e w' => e = .returned (.int .i64 2) ∧ Below w.heap.size w w' := by
  go_enter Tryz.func39, Tryz.ntmps39
  go_wp2
  go_ret
  exact ⟨rfl, bel_alloc (Below.refl _ _) _⟩
theorem level_xor (l n : Int) (w : World) : Calls Tryz.prog 39 #[.agg #[.int .i64 4, .int .i64 l, .int .i64 n, .string ⟨#[94]⟩]] w fun e w' => e = .returned (.int .i64 2) ∧ Below w.heap.size w w' := by
  go_enter Tryz.func39, Tryz.ntmps39
  go_wp2
  go_ret
  exact ⟨rfl, bel_alloc (Below.refl _ _) _⟩
theorem level_any (t : Tok) (l : Int) (w : World) : Calls Tryz.prog 39 #[.agg #[.int .i64 t.k, .int .i64 l, .int .i64 t.n, .string (St t.t)]] w fun e w' => e = .returned (.int .i64 (lvY t)) ∧ Below w.heap.size w w' := by
  obtain ⟨k, n, s⟩ := t
  unfold lvY
  simp only
  by_cases hk : k = 4
  · subst hk
    rw [if_pos rfl]
    by_cases e1 : s = [43]
    · subst e1; exact level_add l n w
    by_cases e2 : s = [45]
    · subst e2; exact level_sub l n w
    by_cases e3 : s = [42]
    · subst e3; exact level_mul l n w
    by_cases e4 : s = [47]
    · subst e4; exact level_div l n w
    by_cases e5 : s = [60, 60]
    · subst e5; exact level_shl l n w
    by_cases e6 : s = [62, 62]
    · subst e6; exact level_shr l n w
    by_cases e7 : s = [38]
    · subst e7; exact level_and l n w
    by_cases e8 : s = [124]
    · subst e8; exact level_or l n w
    by_cases e9 : s = [94]
    · subst e9; exact level_xor l n w
    unfold lvOf
    rw [opOf_no9 e1 e2 e3 e4 e5 e6 e7 e8 e9]
    exact level_none l n (St s) (St_beq _ _ e1) (St_beq _ _ e2) (St_beq _ _ e3) (St_beq _ _ e4) (St_beq _ _ e5) (St_beq _ _ e6) (St_beq _ _ e7) (St_beq _ _ e8) (St_beq _ _ e9) w
  · rw [if_neg hk]
    exact level_not k l n (St s) (by simpa using hk) w
theorem lvY_is (L : List TL) (a n : Nat) : (lvY (tk L a) == ((n + 1 : Nat) : Int)) = isLv L a n := by
  unfold lvY isLv
  by_cases hk : (tk L a).k = 4
  · rw [if_pos hk, hk]
    cases h : lvOf (tk L a).t with
    | none =>
      simp
      omega
    | some j =>
      by_cases e : j = n
      · subst e; simp
      · have h1 : ¬ ((j : Int) + 1 = ((n + 1 : Nat) : Int)) := by omega
        rw [beq_eq_false_iff_ne.2 h1]
        simp [e]
  · rw [if_neg hk]
    have h1 : ¬ ((0 : Int) = ((n + 1 : Nat) : Int)) := by omega
    rw [beq_eq_false_iff_ne.2 h1]
    simp [hk]

section
variable {g : Gy} {w w' : World} {a dep : Nat} {er : Int}
/-- The token at the reader's place. -/
theorem RY.tok (h : RY g w a dep er) (ha : a < g.L.length) : ∃ b off, g.ao = some ⟨b, off, none⟩ ∧ b < g.rb ∧ TokAt w b (off + a * 4) (g.L.getD a TL.none) := by
  rcases h.tk with e | ⟨b, off, e1, e2, e3⟩
  · rw [e] at ha; simp at ha
  · exact ⟨b, off, e1, e2, e3 a ha⟩
set_option maxHeartbeats 2000000 in
theorem sign_past (h : RY g w a dep er) (ha : ¬ a < g.L.length) (str : ByteArray) : Calls Tryz.prog 66 #[.pointer (some ⟨g.rb, 0, none⟩), .string str] w fun e w' => e = .returned (.bool false) ∧ Below w.heap.size w w' := by
  have c0 := h.c0
  have c1 := h.c1
  have hd : decide ((a : Int) < (g.L.length : Int)) = false := decide_eq_false (by omega)
  have hd' : ¬ (a : Int) < (g.L.length : Int) := by omega
  generalize g.L.length = ll at *
  clear h
  go_enter Tryz.func66, Tryz.ntmps66
  go_upto_region 1 with (fail)
  go_quiet (fail)
  go_wp2
  go_ret
  exact ⟨rfl, below_drewN (Below.refl _ _) _⟩
set_option maxHeartbeats 2000000 in
theorem sign_in (h : RY g w a dep er) (ha : a < g.L.length) (str : ByteArray) (b1 b2 : Bool) (h1 : ((g.L.getD a TL.none).1.k == 4) = b1) (h2 : ((St (g.L.getD a TL.none).1.t).toList == str.toList) = b2) : Calls Tryz.prog 66 #[.pointer (some ⟨g.rb, 0, none⟩), .string str] w fun e w' => e = .returned (.bool (b1 && b2)) ∧ Below w.heap.size w w' := by
  have c0 := h.c0
  have c1 := h.c1
  obtain ⟨b, off, e1, e2, t0, _, _, t3⟩ := h.tok ha
  rw [e1] at c0
  have hlt : (a : Int) < (g.L.length : Int) := by omega
  have h0 : (0 : Int) ≤ (a : Int) := by omega
  have i2 : ¬ (a : Int) < 0 := by omega
  generalize g.L.getD a TL.none = p at *
  generalize g.L.length = ll at *
  clear h e1 e2
  cases b1
  · go_enter Tryz.func66, Tryz.ntmps66
    go_upto_region 1 with (fail)
    go_quiet (fail)
    go_wp2
    go_ret
    exact ⟨rfl, below_drewN (Below.refl _ _) _⟩
  · go_enter Tryz.func66, Tryz.ntmps66
    go_upto_region 1 with (fail)
    go_quiet (fail)
    go_wp2
    go_ret
    exact ⟨by rw [← h2]; rfl, below_drewN (Below.refl _ _) _⟩
theorem ysign_any (h : RY g w a dep er) (s : List UInt8) (str : ByteArray) (hstr : str = St s) : Calls Tryz.prog 66 #[.pointer (some ⟨g.rb, 0, none⟩), .string str] w fun e w' => e = .returned (.bool (isSg g.L a s)) ∧ Below w.heap.size w w' := by
  by_cases ha : a < g.L.length
  · have e : isSg g.L a s = ((g.L.getD a TL.none).1.k == 4 && ((St (g.L.getD a TL.none).1.t).toList == str.toList)) := by
      unfold isSg tk
      subst hstr
      rw [ByteArray.toList_eq, ByteArray.toList_eq]
      rfl
    rw [e]
    exact sign_in h ha str _ _ rfl rfl
  · have e : isSg g.L a s = false := by
      cases hs : isSg g.L a s with
      | false => rfl
      | true => exact absurd (sg_lt hs) ha
    rw [e]
    exact sign_past h ha str
end
theorem resY_name (tmps : Array Value) (W : World) (g : Nat) (p m : ByteArray) (n : Int) (hp : tmps.getD 4 undef = .pointer (some ⟨g, 0, none⟩)) (h : VB W g p m n) :
    (results Tryz.f87 tmps).run Tryz.prog W = .ok (.agg #[.string p, .string m, .int .i64 n]) W := by
  have hp' : tmps[4]?.getD undef = .pointer (some ⟨g, 0, none⟩) := by simpa using hp
  simp [results, Tryz.results87, hp', asAddr, loadVar, isAgg, run_underlying Tryz.underlying33, go_sem, h.c0, h.c1, h.c2]
section
variable {g : Gy} {w w' : World} {a dep : Nat} {er : Int}
set_option maxHeartbeats 2000000 in
theorem yname_any (h : RY g w a dep er) (s : ByteArray) : Calls Tryz.prog 87 #[.pointer (some ⟨g.rb, 0, none⟩), .string s] w fun e w' => e = .returned (.agg #[.string (nameV g.K s).p, .string (nameV g.K s).m, .int .i64 (nameV g.K s).n]) ∧ Below w.heap.size w w' := by
  have hrb := h.lt
  have hrb' : ¬ w.heap.size = g.rb := by omega
  have X := h.alloc yV
  have V2 := VB.atY w ⟨#[]⟩ ⟨#[]⟩ 0 w.heap.size rfl
  have B0 : Below w.heap.size w (w.alloc yV) := bel_alloc (Below.refl _ _) _
  obtain ⟨M, HM⟩ : ∃ M, Hid (idxF g.K s 0 = M) := ⟨_, ⟨rfl⟩⟩
  have hkl := h.hk
  obtain ⟨N, HN⟩ : ∃ N, Hid (nameV g.K s = N) := ⟨_, ⟨rfl⟩⟩
  rw [HN.out]
  have hnv := nameV_idx g.K s
  rw [HM.out, HN.out] at hnv
  have HNV : Hid _ := ⟨hnv⟩
  clear hnv
  go_enter Tryz.func87, Tryz.ntmps87
  go_upto_region 1 with (fail)
  generalize hG : w.alloc yV = v at *
  clear hG
  obtain ⟨f0, f1, f2, f3⟩ := id V2
  have c3 := X.c3
  have HX : Hid _ := ⟨X⟩
  have HV : Hid _ := ⟨V2⟩
  have HB : Hid _ := ⟨B0⟩
  have hkl2 : Hid (g.K.length ≤ 8796093022208) := ⟨hkl⟩
  clear X V2 B0 h
  go_wp2
  go_loopw [5] (fun s5 wr => ∃ k : Nat, s5 = .int .i64 (k : Int) ∧ k ≤ g.K.length ∧ Hid (wr = v ∧ idxF g.K s k = M)) (fun s5 wr => g.K.length - (intOf s5).toNat)
  case atStart => exact ⟨0, rfl, by omega, ⟨rfl, HM.out⟩⟩
  case round =>
    obtain ⟨k, rfl, hk, HW⟩ := hrel
    obtain ⟨hwv, hF⟩ := HW.out
    subst hwv
    clear HW
    by_cases hlt : k < g.K.length
    · have h0 : (0 : Int) ≤ (k : Int) := by omega
      have h1 : (k : Int) < (g.K.length : Int) := by omega
      obtain ⟨b, off, e1, e2, e3⟩ := HX.out.df.resolve_left (fun e => by rw [e] at hlt; simp at hlt)
      obtain ⟨d0, d1, d2, d3⟩ := e3 k hlt
      rw [e1] at c3
      have hst := idx_cons g.K s hlt
      rw [hF] at hst
      have hwk : IntKind.i64.wrap ((k : Int) + 1) = ((k + 1 : Nat) : Int) := by rw [IntKind.wrap_i64]; omega
      clear e3 hF
      cases hb : sB (g.K.getD k Dx.none).s s with
      | true =>
        rw [hb, if_pos rfl] at hst
        have hN : N = redV (g.K.getD k Dx.none).v := by
          rcases HNV.out with ⟨hl, _⟩ | ⟨i, hi, he, hr⟩
          · omega
          · have : i = k := by omega
            subst this
            exact hr
        have HR : Hid (∀ W, _) := ⟨fun W => yplain_any (g.K.getD k Dx.none).v.p (g.K.getD k Dx.none).v.m (g.K.getD k Dx.none).v.n W⟩
        have hb' : ((g.K.getD k Dx.none).s.toList == s.toList) = true := hb
        have hN' : redV ⟨(g.K.getD k Dx.none).v.p, (g.K.getD k Dx.none).v.m, (g.K.getD k Dx.none).v.n⟩ = N := hN.symm
        rw [hN'] at HR
        obtain ⟨n1, n2, n3⟩ := N
        rw [Vx.val_mk] at HR
        generalize g.K.getD k Dx.none = d at *
        clear hst HNV hN hN' HN
        go_wp2_with (go_at_call 28; (with_reducible refine (HR.out _).mono ?_); rintro e w2 ⟨he, hb2⟩; subst he; have W2 := HV.out.bel hb2 HV.out.lt; obtain ⟨q0, q1, q2, q3⟩ := id W2)
        refine bodyPost_ret (resY_name _ _ w.heap.size _ _ _ rfl (W2.set _ _ _)) rfl ⟨rfl, ?_⟩
        exact (((bel_trans HB.out hb2).setCell (Nat.le_refl _) _).setCell (Nat.le_refl _) _).setCell (Nat.le_refl _) _
      | false =>
        rw [hb, if_neg (by simp)] at hst
        have HK : Hid _ := ⟨hst.symm⟩
        have hb' : ((g.K.getD k Dx.none).s.toList == s.toList) = false := hb
        clear hst
        generalize g.K.getD k Dx.none = d at *
        go_wp2
        go_roundw
        case rel => exact ⟨k + 1, by go_num, by omega, ⟨⟨trivial, HK.out⟩⟩⟩
        case measure => simp [intOf]; omega
    · obtain rfl : k = g.K.length := by omega
      have h1 : ¬ (g.K.length : Int) < (g.K.length : Int) := by omega
      have hN : N = ⟨s, es, 0⟩ := by
        rw [idx_end g.K s (Nat.le_refl _)] at hF
        rcases HNV.out with ⟨_, hr⟩ | ⟨i, hi, he, hr⟩
        · exact hr
        · omega
      subst hN
      go_wp2
      refine bodyPost_ret (resY_name _ _ w.heap.size _ _ _ rfl (HV.out.set _ _ _)) rfl ⟨rfl, ?_⟩
      exact ((HB.out.setCell (Nat.le_refl _) _).setCell (Nat.le_refl _) _).setCell (Nat.le_refl _) _
end

/-- Behind an error: what is still read. -/
structure EY (g : Gy) (w : World) (er : Int) : Prop where
  c1 : ∃ x, w.cell? ⟨g.rb, 1, none⟩ = some (.int .i64 x)
  c2 : ∃ y, w.cell? ⟨g.rb, 2, none⟩ = some (.int .i64 y)
  c4 : w.cell? ⟨g.rb, 4, none⟩ = some (.int .i64 er)
  fz : ∀ j, w.frozen? ⟨g.rb, j, none⟩ = false
/-- How a step of the document's reader ends. -/
def SY (m : Res) (g : Gy) (dep : Nat) (w : World) (e : Ending) (w' : World) : Prop :=
  match m with
  | .error er => (∃ v : Vx, e = .returned (.agg #[.string v.p, .string v.m, .int .i64 v.n])) ∧ ¬ er = 0 ∧ TX g.rb w w' ∧ EY g w' er
  | .ok (v, b) => e = .returned (.agg #[.string v.p, .string v.m, .int .i64 v.n]) ∧ v.Ok ∧ TX g.rb w w' ∧ RY g w' b dep 0
def LevC (g : Gy) (n : Int) (d : Nat) (f : Nat → Res) : Prop := ∀ (w : World) (a dep : Nat), RY g w a dep 0 → dep + d = 50 → a ≤ g.L.length → Calls Tryz.prog 26 #[.pointer (some ⟨g.rb, 0, none⟩), .int .i64 n] w fun e w' => SY (f a) g dep w e w'
def BareC (g : Gy) (d : Nat) (f : Nat → Res) : Prop := ∀ (w : World) (a dep : Nat), RY g w a dep 0 → dep + d = 50 → a ≤ g.L.length → Calls Tryz.prog 67 #[.pointer (some ⟨g.rb, 0, none⟩)] w fun e w' => SY (f a) g dep w e w'
section
variable {g : Gy} {w w' : World} {a dep : Nat} {er : Int}
theorem RY.ey (h : RY g w a dep er) : EY g w er := ⟨⟨_, h.c1⟩, ⟨_, h.c2⟩, h.c4, h.fz⟩
theorem EY.turn (h : EY g w er) {S : Nat → Prop} (ht : Turn S w w') (hS : ¬ S g.rb) : EY g w' er := by
  have hlt : g.rb < w.heap.size := World.block_lt_of_cell? w _ h.c4
  have e : ∀ o, w'.cell? ⟨g.rb, o, none⟩ = w.cell? ⟨g.rb, o, none⟩ := fun o => World.cell?_of_block (ht.block g.rb hlt hS)
  have e2 : ∀ o, w'.frozen? ⟨g.rb, o, none⟩ = w.frozen? ⟨g.rb, o, none⟩ := fun o => World.frozen?_of_block (w := w) (ht.block g.rb hlt hS)
  exact ⟨h.c1.imp fun x hx => (e _).trans hx, h.c2.imp fun x hx => (e _).trans hx, (e _).trans h.c4, fun j => (e2 j).trans (h.fz j)⟩
theorem EY.bel (h : EY g w er) (hb : Below w.heap.size w w') : EY g w' er := h.turn (Turn.of_below hb (fun _ => False)) (fun e => e)
theorem EY.setN (h : EY g w er) (B o : Nat) (hB : ¬ B = g.rb) (u : Value) : EY g (w.setCell ⟨B, o, none⟩ u) er := h.turn (Turn.setCell (S := fun k => k = B) (Turn.refl _ w) ⟨B, o, none⟩ rfl u) (fun e => hB e.symm)
theorem EY.set3 (h : EY g w er) (B : Nat) (hB : ¬ B = g.rb) (u v z : Value) : EY g (((w.setCell ⟨B, 0, none⟩ u).setCell ⟨B, 1, none⟩ v).setCell ⟨B, 2, none⟩ z) er := ((h.setN B 0 hB u).setN B 1 hB v).setN B 2 hB z
theorem EY.set1 (h : EY g w er) (v : Int) : EY g (w.setCell ⟨g.rb, 1, none⟩ (.int .i64 v)) er := by
  obtain ⟨x, hx⟩ := h.c1
  obtain ⟨y, hy⟩ := h.c2
  exact ⟨⟨v, by simp [go_sem, hx]⟩, ⟨y, by simp [go_sem, hy]⟩, by simp [go_sem, h.c4], fun j => (World.frozen?_setCell _ _ _ _).trans (h.fz j)⟩
theorem EY.set2 (h : EY g w er) (v : Int) : EY g (w.setCell ⟨g.rb, 2, none⟩ (.int .i64 v)) er := by
  obtain ⟨x, hx⟩ := h.c1
  obtain ⟨y, hy⟩ := h.c2
  exact ⟨⟨x, by simp [go_sem, hx]⟩, ⟨v, by simp [go_sem, hy]⟩, by simp [go_sem, h.c4], fun j => (World.frozen?_setCell _ _ _ _).trans (h.fz j)⟩
end
theorem resY_bare (tmps : Array Value) (W : World) (g : Nat) (p m : ByteArray) (n : Int) (hp : tmps.getD 2 undef = .pointer (some ⟨g, 0, none⟩)) (h : VB W g p m n) :
    (results Tryz.f67 tmps).run Tryz.prog W = .ok (.agg #[.string p, .string m, .int .i64 n]) W := by
  have hp' : tmps[2]?.getD undef = .pointer (some ⟨g, 0, none⟩) := by simpa using hp
  simp [results, Tryz.results67, hp', asAddr, loadVar, isAgg, run_underlying Tryz.underlying33, go_sem, h.c0, h.c1, h.c2]
theorem resY_operand (tmps : Array Value) (W : World) (g : Nat) (p m : ByteArray) (n : Int) (hp : tmps.getD 2 undef = .pointer (some ⟨g, 0, none⟩)) (h : VB W g p m n) :
    (results Tryz.f38 tmps).run Tryz.prog W = .ok (.agg #[.string p, .string m, .int .i64 n]) W := by
  have hp' : tmps[2]?.getD undef = .pointer (some ⟨g, 0, none⟩) := by simpa using hp
  simp [results, Tryz.results38, hp', asAddr, loadVar, isAgg, run_underlying Tryz.underlying33, go_sem, h.c0, h.c1, h.c2]
theorem resY_levels (tmps : Array Value) (W : World) (g : Nat) (p m : ByteArray) (n : Int) (hp : tmps.getD 4 undef = .pointer (some ⟨g, 0, none⟩)) (h : VB W g p m n) :
    (results Tryz.f26 tmps).run Tryz.prog W = .ok (.agg #[.string p, .string m, .int .i64 n]) W := by
  have hp' : tmps[4]?.getD undef = .pointer (some ⟨g, 0, none⟩) := by simpa using hp
  simp [results, Tryz.results26, hp', asAddr, loadVar, isAgg, run_underlying Tryz.underlying33, go_sem, h.c0, h.c1, h.c2]
/-- A token lies in a block of the document's. -/
structure TY (w : World) (B : Nat) (p : TL) : Prop where
  c0 : w.cell? ⟨B, 0, none⟩ = some (.int .i64 p.1.k)
  c1 : w.cell? ⟨B, 1, none⟩ = some (.int .i64 p.2)
  c2 : w.cell? ⟨B, 2, none⟩ = some (.int .i64 p.1.n)
  c3 : w.cell? ⟨B, 3, none⟩ = some (.string (St p.1.t))
/-- What lies there, behind the first steps. -/
structure BX (g : Gy) (w wx : World) (tb : Nat) (a dep : Nat) : Prop where
  ry : RY g wx a dep 0
  tx : TX g.rb w wx
  vb : VB wx w.heap.size ⟨#[]⟩ ⟨#[]⟩ 0
  ty : TY wx tb (g.L.getD a TL.none)
  hb : w.heap.size < tb
section
variable {g : Gy} {w w' : World} {a dep : Nat} {er : Int}
abbrev tzero : Obj := .cells #[.int .i64 0, .int .i64 0, .int .i64 0, .string ⟨#[]⟩] 60
abbrev tcell (p : TL) : Obj := .cells #[.int .i64 p.1.k, .int .i64 p.2, .int .i64 p.1.n, .string (St p.1.t)] 60
theorem TY.new (w : World) (p : TL) : TY (w.alloc (tcell p)) w.heap.size p := ⟨by simp, by simp, by simp, by simp⟩

theorem TY.bel {B : Nat} {p : TL} (h : TY w B p) (hb : Below w.heap.size w w') : TY w' B p := ⟨to_bel hb h.c0, to_bel hb h.c1, to_bel hb h.c2, to_bel hb h.c3⟩
theorem TY.turn {B : Nat} {p : TL} (h : TY w B p) {S : Nat → Prop} (ht : Turn S w w') (hS : ¬ S B) : TY w' B p := by
  have hlt : B < w.heap.size := World.block_lt_of_cell? w _ h.c0
  have e : ∀ o, w'.cell? ⟨B, o, none⟩ = w.cell? ⟨B, o, none⟩ := fun o => World.cell?_of_block (ht.block B hlt hS)
  exact ⟨(e _).trans h.c0, (e _).trans h.c1, (e _).trans h.c2, (e _).trans h.c3⟩
theorem BX.of {v : World} {x : Int} (hx : x = 0) (h : RY g v a dep x) (ht : TX g.rb w v) (hv : VB v w.heap.size ⟨#[]⟩ ⟨#[]⟩ 0) (p : TL) (hp : p = g.L.getD a TL.none) : BX g w (v.alloc (tcell p)) v.heap.size a dep := by
  subst hx hp
  exact ⟨h.alloc _, Turn.alloc ht _, hv.alloc _, TY.new _ _, hv.lt⟩
theorem BX.bel {u v : World} {tb : Nat} (h : BX g w u tb a dep) (hb : Below u.heap.size u v) : BX g w v tb a dep := ⟨h.ry.bel hb, TX.bel h.tx hb, h.vb.bel hb h.vb.lt, h.ty.bel hb, h.hb⟩

theorem atom_num {K : List Dx} {L : List TL} {f : Nat → Res} {a : Nat} (h : ((L.getD a TL.none).1.k == 2) = true) : atomM K L f a = .ok (Vx.num (L.getD a TL.none).1.n, a + 1) := by
  have hk : (tk L a).k = 2 := by simpa [tk] using h
  unfold atomM isSg
  rw [hk]
  rfl
theorem atom_name {K : List Dx} {L : List TL} {f : Nat → Res} {a : Nat} (h : ((L.getD a TL.none).1.k == 1) = true) : atomM K L f a = .ok (nameV K (St (L.getD a TL.none).1.t), a + 1) := by
  have hk : (tk L a).k = 1 := by simpa [tk] using h
  unfold atomM isSg
  rw [hk]
  rfl
theorem atom_open {K : List Dx} {L : List TL} {f : Nat → Res} {a : Nat} (h : isSg L a [40] = true) : atomM K L f a = brM L f (a + 1) := by
  unfold atomM brM
  rw [if_pos h]
  rfl
theorem atom_else {K : List Dx} {L : List TL} {f : Nat → Res} {a : Nat} (h2 : ((L.getD a TL.none).1.k == 2) = false) (h1 : ((L.getD a TL.none).1.k == 1) = false) (h : isSg L a [40] = false) : atomM K L f a = .error 110 := by
  unfold atomM
  rw [if_neg (by rw [h]; simp)]
  have e2 : ((tk L a).k == 2) = false := h2
  have e1 : ((tk L a).k == 1) = false := h1
  rw [e2, e1]
  rfl
theorem sg_kind {L : List TL} {a : Nat} {s : List UInt8} (h : isSg L a s = true) : ((L.getD a TL.none).1.k == 2) = false ∧ ((L.getD a TL.none).1.k == 1) = false := by
  unfold isSg at h
  rw [Bool.and_eq_true] at h
  have hk : (tk L a).k = 4 := by simpa using h.1
  have : (L.getD a TL.none).1.k = 4 := hk
  rw [this]
  exact ⟨by decide, by decide⟩

set_option maxHeartbeats 8000000 in
set_option maxRecDepth 10000 in
theorem ybare_any (g : Gy) (d : Nat) (inner : Nat → Res) (hI : (d = 0 ∧ ∀ a, inner a = .error 6) ∨ ∃ d', d = d' + 1 ∧ LevC g 3 d' inner) : BareC g d (atomM g.K g.L inner) := by
  intro w a dep h hdd hal
  show Calls Tryz.prog 67 #[.pointer (some ⟨g.rb, 0, none⟩)] w fun e w' => SY (atomM g.K g.L inner a) g dep w e w'
  obtain ⟨M, HM⟩ : ∃ M, Hid (atomM g.K g.L inner a = M) := ⟨_, ⟨rfl⟩⟩
  rw [HM.out]
  obtain ⟨p, HP⟩ : ∃ p, Hid (g.L.getD a TL.none = p) := ⟨_, ⟨rfl⟩⟩
  have hrb := h.lt
  have hrb' : ¬ w.heap.size = g.rb := by omega
  have hrb2 : ¬ g.rb = w.heap.size := by omega
  have V2 := VB.atY w ⟨#[]⟩ ⟨#[]⟩ 0 w.heap.size rfl
  have X := h.alloc yV
  have T : TX g.rb w (w.alloc yV) := Turn.alloc (Turn.refl _ w) yV
  have hhl := h.hl
  by_cases ha : a < g.L.length
  · have hd : decide ((g.L.length : Int) ≤ (a : Int)) = false := decide_eq_false (by omega)
    have hd' : ¬ (g.L.length : Int) ≤ (a : Int) := by omega
    have hlt : (a : Int) < (g.L.length : Int) := by omega
    have h0 : (0 : Int) ≤ (a : Int) := by omega
    have i2 : ¬ (a : Int) < 0 := by omega
    have hwa : IntKind.i64.wrap ((a : Int) + 1) = (a : Int) + 1 := by rw [IntKind.wrap_i64]; omega
    obtain ⟨b, off, e1, e2, _⟩ := h.tok ha
    have HTK : Hid (∀ W, RY g W a dep 0 → TokAt W b (off + a * 4) (g.L.getD a TL.none)) := ⟨fun W hW => by
      obtain ⟨b', off', e1', e2', ht⟩ := hW.tok ha
      rw [e1] at e1'
      injection e1' with q
      injection q with q1 q2
      subst q1 q2
      exact ht⟩
    have HH : Hid _ := ⟨h⟩
    have HI : Hid _ := ⟨hI⟩
    clear h hI
    go_enter Tryz.func67, Tryz.ntmps67
    go_upto_region 1 with (fail)
    generalize hG : w.alloc yV = v at *
    clear hG
    have c0 := X.c0
    have c1 := X.c1
    go_quiet (fail)
    have X1 := X.bel (below_drewN (Below.refl _ _) nq)
    have T1 := TX.bel T (below_drewN (Below.refl _ _) nq)
    have V1 := V2.bel (below_drewN (Below.refl _ _) nq) V2.lt
    generalize v.drewN nq = u at *
    clear X T V2 c0 c1
    go_upto_region 3 with (fail)
    go_cut [3] from 17 to 26 (fun s wx => ∃ tb, s = .pointer (some ⟨tb, 0, none⟩) ∧ Hid (BX g w wx tb a dep))
    case first =>
      have D := X1.drew
      have t := HTK.out _ D
      have c0 := D.c0
      have c1 := D.c1
      rw [e1] at c0
      obtain ⟨t0, t1, t2, t3⟩ := id t
      have HX1 : Hid _ := ⟨X1⟩
      have HT1 : Hid _ := ⟨T1⟩
      have HV1 : Hid _ := ⟨V1⟩
      rw [HP.out] at t0 t1 t2 t3
      have c0a := up_alloc c0 tzero
      have c1a := up_alloc c1 tzero
      have t0a := up_alloc t0 tzero
      have t1a := up_alloc t1 tzero
      have t2a := up_alloc t2 tzero
      have t3a := up_alloc t3 tzero
      have D2 := (X1.alloc tzero).drew
      have t' := HTK.out _ D2
      have c0b := D2.c0
      have c1b := D2.c1
      rw [e1] at c0b
      obtain ⟨t0b, t1b, t2b, t3b⟩ := id t'
      rw [HP.out] at t0b t1b t2b t3b
      clear D t X1 T1 V1 HI HTK D2 t'
      go_region_with (fail)
      all_goals
        go_wp2_with (fail)
        go_meet
        first
          | exact ⟨_, rfl, ⟨BX.of rfl HX1.out.drew (TX.bel HT1.out (Below.refl _ _).drew) (HV1.out.drewN 1) p HP.out.symm⟩⟩
          | exact ⟨_, rfl, ⟨(BX.of rfl HX1.out HT1.out HV1.out p HP.out.symm).bel (Below.refl _ _).drew⟩⟩
          | exact ⟨_, rfl, ⟨BX.of rfl HX1.out HT1.out HV1.out p HP.out.symm⟩⟩
    case rest =>
    obtain ⟨tb, hs, HC⟩ := hcut
    subst hs
    clear X1 T1 V1 HTK
    have HSg : Hid (∀ (W : World) (b dep : Nat) (er : Int) (s : List UInt8) (str : ByteArray), str = St s → RY g W b dep er → Calls Tryz.prog 66 #[.pointer (some ⟨g.rb, 0, none⟩), .string str] W fun e w' => e = .returned (.bool (isSg g.L b s)) ∧ Below W.heap.size W w') := ⟨fun W b dep er s str hs hW => ysign_any hW s str hs⟩
    have HWr : Hid (∀ (W : World) (b dep : Nat) (e : Int), RY g W b dep 0 → Calls Tryz.prog 40 #[.pointer (some ⟨g.rb, 0, none⟩), .int .i64 e] W fun x w' => x = .returned (.agg #[.string ⟨#[]⟩, .string ⟨#[]⟩, .int .i64 0]) ∧ TX g.rb W w' ∧ RY g w' b dep e) := ⟨fun W b dep e hW => wrong_any hW e⟩
    have ty := HC.out.ty
    rw [HP.out] at ty
    obtain ⟨t0, t1, t2, t3⟩ := ty
    obtain ⟨f0, f1, f2, f3⟩ := HC.out.vb
    have c1 := HC.out.ry.c1
    have c2 := HC.out.ry.c2
    have z1 := HC.out.ry.fz 1
    have z2 := HC.out.ry.fz 2
    have htb := HC.out.hb
    have htr : ¬ tb = g.rb := by omega
    have htw : ¬ tb = w.heap.size := by omega
    cases k2 : (p.1.k == 2) with
    | true =>
      have hM : M = .ok (Vx.num p.1.n, a + 1) := by rw [← HM.out, ← HP.out]; exact atom_num (by rw [HP.out]; exact k2)
      subst hM
      clear HM
      go_wp2
      refine bodyPost_ret (resY_bare _ _ w.heap.size _ _ _ rfl ((HC.out.vb.setAt _ 1 (fun e => hrb2 e) _).set _ _ _)) rfl ?_
      exact ⟨rfl, Vx.Ok.num _, TX.set3 (TX.set HC.out.tx 1 _) (Nat.le_refl _) _ _ _, (HC.out.ry.setA (a + 1) _ (by omega)).set3 _ hrb _ _ _⟩
    | false =>
    cases k1 : (p.1.k == 1) with
    | true =>
      have hM : M = .ok (nameV g.K (St p.1.t), a + 1) := by rw [← HM.out, ← HP.out]; exact atom_name (by rw [HP.out]; exact k1)
      obtain ⟨N, HNN⟩ : ∃ N, Hid (nameV g.K (St p.1.t) = N) := ⟨_, ⟨rfl⟩⟩
      rw [HNN.out] at hM
      subst hM
      clear HM
      have hok : (nameV g.K (St p.1.t)).Ok := nameV_ok HC.out.ry.ok (by rw [St_size, ← HP.out, getD_at _ _ ha]; exact HC.out.ry.ot _ (List.getElem_mem _))
      have HN : Hid (∀ (W : World) (b : Nat), RY g W b dep 0 → _) := ⟨fun W b hW => yname_any hW (St p.1.t)⟩
      rw [HNN.out] at hok HN
      have HX1 : Hid _ := ⟨HC.out.ry.setA (a + 1) ((a : Int) + 1) (by omega)⟩
      have HV1 : Hid _ := ⟨HC.out.vb.setAt g.rb 1 (fun e => hrb2 e) (.int .i64 ((a : Int) + 1))⟩
      go_wp2_with (go_at_call 87; (with_reducible refine (HN.out _ _ HX1.out).mono ?_); rintro e w2 ⟨he, hb2⟩; subst he; have W2 := HV1.out.bel hb2 HV1.out.lt; obtain ⟨q0, q1, q2, q3⟩ := id W2)
      refine bodyPost_ret (resY_bare _ _ w.heap.size _ _ _ rfl (W2.set _ _ _)) rfl ?_
      exact ⟨rfl, hok, TX.set3 (TX.bel (TX.set HC.out.tx 1 _) hb2) (Nat.le_refl _) _ _ _, (HX1.out.bel hb2).set3 _ hrb _ _ _⟩
    | false =>
    cases sg : isSg g.L a [40] with
    | false =>
      have hM : M = .error 110 := by rw [← HM.out]; exact atom_else (by rw [HP.out]; exact k2) (by rw [HP.out]; exact k1) sg
      subst hM
      clear HM
      have HS1 : Hid _ := ⟨HSg.out _ _ _ _ [40] ⟨#[40]⟩ rfl HC.out.ry⟩
      rw [sg] at HS1
      go_wp2_with (first
        | (go_at_call 66; (with_reducible refine HS1.out.mono ?_); rintro e w2 ⟨he, hb2⟩; subst he; have HC2 : Hid _ := ⟨HC.out.bel hb2⟩)
        | (go_at_call 40; (with_reducible refine (HWr.out _ _ _ _ HC2.out.ry).mono ?_); rintro e w3 ⟨he, ht3, hr3⟩; subst he; have W3 := HC2.out.vb.tx ht3 hrb'; obtain ⟨q0, q1, q2, q3⟩ := id W3))
      refine bodyPost_ret (resY_bare _ _ w.heap.size _ _ _ rfl (W3.set _ _ _)) rfl ?_
      exact ⟨⟨⟨⟨#[]⟩, ⟨#[]⟩, 0⟩, rfl⟩, by decide, TX.set3 (HC2.out.tx.trans ht3) (Nat.le_refl _) _ _ _, (hr3.set3 _ hrb _ _ _).ey⟩
    | true =>
      have hM : M = brM g.L inner (a + 1) := by rw [← HM.out]; exact atom_open sg
      clear HM
      have HS1 : Hid _ := ⟨HSg.out _ _ _ _ [40] ⟨#[40]⟩ rfl HC.out.ry⟩
      rw [sg] at HS1
      rcases HI.out with ⟨hd0, h6⟩ | ⟨d', hd1, hLev⟩
      · have hM6 : M = .error 6 := by rw [hM]; unfold brM; rw [h6]
        subst hM6
        obtain rfl : dep = 50 := by omega
        have c2f : wc.cell? ⟨g.rb, 2, none⟩ = some (.int .i64 50) := c2
        clear c2
        go_wp2_with (first
          | (go_at_call 66; (with_reducible refine HS1.out.mono ?_); rintro e w2 ⟨he, hb2⟩; subst he; have HC2 : Hid _ := ⟨HC.out.bel hb2⟩; have c2' : w2.cell? ⟨g.rb, 2, none⟩ = some (.int .i64 50) := HC2.out.ry.c2)
          | (go_at_call 40; (with_reducible refine (HWr.out _ _ _ _ HC2.out.ry).mono ?_); rintro e w3 ⟨he, ht3, hr3⟩; subst he; have W3 := HC2.out.vb.tx ht3 hrb'; obtain ⟨q0, q1, q2, q3⟩ := id W3))
        refine bodyPost_ret (resY_bare _ _ w.heap.size _ _ _ rfl (W3.set _ _ _)) rfl ?_
        exact ⟨⟨⟨⟨#[]⟩, ⟨#[]⟩, 0⟩, rfl⟩, by decide, TX.set3 (HC2.out.tx.trans ht3) (Nat.le_refl _) _ _ _, (hr3.set3 _ hrb _ _ _).ey⟩
      · have hd50 : ((dep : Int) == 50) = false := by simp; omega
        have hwd : IntKind.i64.wrap ((dep : Int) + 1) = (dep : Int) + 1 := by rw [IntKind.wrap_i64]; omega
        have hwd2 : IntKind.i64.wrap ((dep : Int) + 1 - 1) = (dep : Int) := by rw [IntKind.wrap_i64]; omega
        have hwd3 : IntKind.i64.wrap (dep : Int) = (dep : Int) := by rw [IntKind.wrap_i64]; omega
        have HLv : Hid (∀ W, RY g W (a + 1) (dep + 1) 0 → Calls Tryz.prog 26 #[.pointer (some ⟨g.rb, 0, none⟩), .int .i64 3] W fun e w' => SY (inner (a + 1)) g (dep + 1) W e w') := ⟨fun W hW => hLev W (a + 1) (dep + 1) hW (by omega) (by omega)⟩
        unfold brM at hM
        go_upto_region 11 with (go_at_call 66; (with_reducible refine HS1.out.mono ?_); rintro e w2 ⟨he, hb2⟩; subst he; have HC2 : Hid _ := ⟨HC.out.bel hb2⟩; clear hb2)
        clear t0 t1 t2 t3 f0 f1 f2 f3 c1 c2 z1 z2 HS1 HC
        obtain ⟨f0, f1, f2, f3⟩ := HC2.out.vb
        have c1 := HC2.out.ry.c1
        have c2 := HC2.out.ry.c2
        have z1 := HC2.out.ry.fz 1
        have z2 := HC2.out.ry.fz 2
        have X3 := (HC2.out.ry.setD (dep + 1) ((dep : Int) + 1) (by omega)).setA (a + 1) ((a : Int) + 1) (by omega)
        have T3 := TX.set (TX.set HC2.out.tx 2 (.int .i64 ((dep : Int) + 1))) 1 (.int .i64 ((a : Int) + 1))
        have V3 := (HC2.out.vb.setAt g.rb 2 (fun e => hrb2 e) (.int .i64 ((dep : Int) + 1))).setAt g.rb 1 (fun e => hrb2 e) (.int .i64 ((a : Int) + 1))
        have HX3 : Hid _ := ⟨X3⟩
        have HT3 : Hid _ := ⟨T3⟩
        have HV3 : Hid _ := ⟨V3⟩
        clear X3 T3 V3
        go_upto_region 15 with (fail)
        generalize (w2.setCell ⟨g.rb, 2, none⟩ (.int .i64 ((dep : Int) + 1))).setCell ⟨g.rb, 1, none⟩ (.int .i64 ((a : Int) + 1)) = u3 at *
        clear f0 f1 f2 f3 c1 c2 z1 z2 HC2
        cases hin : inner (a + 1) with
        | error er =>
          rw [hin] at HLv hM
          subst hM
          go_wp2_with (go_at_call 26; (with_reducible refine (HLv.out _ HX3.out).mono ?_); rintro e w4 ⟨⟨x, he⟩, hne, ht4, hE4⟩; subst he; have hne' : (er == 0) = false := beq_eq_false_iff_ne.2 hne; have HE5 : Hid _ := ⟨hE4.bel (bel_alloc (Below.refl _ _) (.cells #[.string x.p, .string x.m, .int .i64 x.n] 33))⟩; have HV5 : Hid _ := ⟨(HV3.out.tx ht4 hrb').alloc (.cells #[.string x.p, .string x.m, .int .i64 x.n] 33)⟩; have HT5 : Hid _ := ⟨Turn.alloc (HT3.out.trans ht4) (.cells #[.string x.p, .string x.m, .int .i64 x.n] 33)⟩; obtain ⟨x1, hx1⟩ := HE5.out.c1; obtain ⟨y1, hy1⟩ := HE5.out.c2; have c4 := HE5.out.c4; have z1 := HE5.out.fz 1; have z2 := HE5.out.fz 2; obtain ⟨f0, f1, f2, f3⟩ := id HV5.out; have hbw : w.heap.size < w4.heap.size := (HV3.out.tx ht4 hrb').lt; have hbw2 : ¬ w4.heap.size = w.heap.size := (by omega); have hbr : ¬ w4.heap.size = g.rb := (by omega); clear ht4 hE4)
          refine bodyPost_ret (resY_bare _ _ w.heap.size _ _ _ rfl (((HV5.out.setAt _ 1 (fun e => hrb2 e) _).setAt _ 2 (fun e => hrb2 e) _).set _ _ _)) rfl ?_
          exact ⟨⟨x, rfl⟩, hne, TX.set3 (TX.set (TX.set HT5.out 1 _) 2 _) (Nat.le_refl _) _ _ _, ((HE5.out.set1 _).set2 _).set3 _ hrb' _ _ _⟩
        | ok vb =>
          obtain ⟨x, b2⟩ := vb
          rw [hin] at HLv hM
          simp only at hM
          cases q : isSg g.L b2 [41] with
          | true =>
            rw [q, if_pos rfl] at hM
            subst hM
            have hb2 := sg_lt q
            have hwb : IntKind.i64.wrap ((b2 : Int) + 1) = (b2 : Int) + 1 := by rw [IntKind.wrap_i64]; omega
            go_wp2_with (first
              | (go_at_call 26; (with_reducible refine (HLv.out _ HX3.out).mono ?_); rintro e w4 ⟨he, hxo, ht4, hr4⟩; subst he; have HX5 : Hid _ := ⟨hr4.alloc (.cells #[.string x.p, .string x.m, .int .i64 x.n] 33)⟩; have HV5 : Hid _ := ⟨(HV3.out.tx ht4 hrb').alloc (.cells #[.string x.p, .string x.m, .int .i64 x.n] 33)⟩; have HT5 : Hid _ := ⟨Turn.alloc (HT3.out.trans ht4) (.cells #[.string x.p, .string x.m, .int .i64 x.n] 33)⟩; have c4 := HX5.out.c4; have HY5 : Hid _ := ⟨VB.atY w4 x.p x.m x.n w4.heap.size rfl⟩; have hbw : w.heap.size < w4.heap.size := (HV3.out.tx ht4 hrb').lt; have hbw2 : ¬ w4.heap.size = w.heap.size := (by omega); have hbr : ¬ w4.heap.size = g.rb := (by omega); have HO : Hid _ := ⟨hxo⟩; clear ht4 hr4 hxo)
              | (go_at_call 66; refine (HSg.out _ _ _ _ [41] ⟨#[41]⟩ rfl HX5.out).mono ?_; rintro e w6 ⟨he, hb6⟩; rw [q] at he; subst he; have HX6 : Hid _ := ⟨HX5.out.bel hb6⟩; have HV6 : Hid _ := ⟨HV5.out.bel hb6 HV5.out.lt⟩; have HT6 : Hid _ := ⟨TX.bel HT5.out hb6⟩; obtain ⟨g0, g1, g2, g3⟩ := (HY5.out.bel hb6 HY5.out.lt); obtain ⟨f0, f1, f2, f3⟩ := id HV6.out; have d1 := HX6.out.c1; have d2 : w6.cell? ⟨g.rb, 2, none⟩ = some (.int .i64 ((dep : Int) + 1)) := (HX6.out.c2).trans (by congr 2); have z1 := HX6.out.fz 1; have z2 := HX6.out.fz 2; clear hb6))
            refine bodyPost_ret (resY_bare _ _ w.heap.size _ _ _ rfl (((HV6.out.setAt _ 1 (fun e => hrb2 e) _).setAt _ 2 (fun e => hrb2 e) _).set _ _ _)) rfl ?_
            exact ⟨rfl, HO.out, TX.set3 (TX.set (TX.set HT6.out 1 _) 2 _) (Nat.le_refl _) _ _ _, ((HX6.out.setA (b2 + 1) _ (by omega)).setD dep _ rfl).set3 _ hrb _ _ _⟩
          | false =>
            rw [q, if_neg (by simp)] at hM
            subst hM
            go_wp2_with (first
              | (go_at_call 26; (with_reducible refine (HLv.out _ HX3.out).mono ?_); rintro e w4 ⟨he, hxo, ht4, hr4⟩; subst he; have HX5 : Hid _ := ⟨hr4.alloc (.cells #[.string x.p, .string x.m, .int .i64 x.n] 33)⟩; have HV5 : Hid _ := ⟨(HV3.out.tx ht4 hrb').alloc (.cells #[.string x.p, .string x.m, .int .i64 x.n] 33)⟩; have HT5 : Hid _ := ⟨Turn.alloc (HT3.out.trans ht4) (.cells #[.string x.p, .string x.m, .int .i64 x.n] 33)⟩; have c4 := HX5.out.c4; clear ht4 hr4 hxo)
              | (go_at_call 66; refine (HSg.out _ _ _ _ [41] ⟨#[41]⟩ rfl HX5.out).mono ?_; rintro e w6 ⟨he, hb6⟩; rw [q] at he; subst he; have HX6 : Hid _ := ⟨HX5.out.bel hb6⟩; have HV6 : Hid _ := ⟨HV5.out.bel hb6 HV5.out.lt⟩; have HT6 : Hid _ := ⟨TX.bel HT5.out hb6⟩; clear hb6)
              | (go_at_call 40; (with_reducible refine (HWr.out _ _ _ _ HX6.out).mono ?_); rintro e w7 ⟨he, ht7, hr7⟩; subst he; have W7 := HV6.out.tx ht7 hrb'; obtain ⟨q0, q1, q2, q3⟩ := id W7))
            refine bodyPost_ret (resY_bare _ _ w.heap.size _ _ _ rfl (W7.set _ _ _)) rfl ?_
            exact ⟨⟨⟨⟨#[]⟩, ⟨#[]⟩, 0⟩, rfl⟩, by decide, TX.set3 (HT6.out.trans ht7) (Nat.le_refl _) _ _ _, (hr7.set3 _ hrb _ _ _).ey⟩
  · have hd : decide ((g.L.length : Int) ≤ (a : Int)) = true := decide_eq_true (by omega)
    have hd' : (g.L.length : Int) ≤ (a : Int) := by omega
    have hM : M = .error 110 := by
      rw [← HM.out]
      unfold atomM isSg
      rw [tk_past (by omega)]
      rfl
    subst hM
    clear HM
    have HWr : Hid (∀ (W : World) (b dep : Nat) (e : Int), RY g W b dep 0 → Calls Tryz.prog 40 #[.pointer (some ⟨g.rb, 0, none⟩), .int .i64 e] W fun x w' => x = .returned (.agg #[.string ⟨#[]⟩, .string ⟨#[]⟩, .int .i64 0]) ∧ TX g.rb W w' ∧ RY g w' b dep e) := ⟨fun W b dep e hW => wrong_any hW e⟩
    clear h hI
    go_enter Tryz.func67, Tryz.ntmps67
    go_upto_region 1 with (fail)
    generalize hG : w.alloc yV = v at *
    clear hG
    have c0 := X.c0
    have c1 := X.c1
    go_quiet (fail)
    have HX1 : Hid _ := ⟨X.bel (below_drewN (Below.refl _ _) nq)⟩
    have HT1 : Hid _ := ⟨TX.bel T (below_drewN (Below.refl _ _) nq)⟩
    have HV1 : Hid _ := ⟨V2.bel (below_drewN (Below.refl _ _) nq) V2.lt⟩
    generalize v.drewN nq = u at *
    clear X T V2 c0 c1
    go_wp2_with (go_at_call 40; (with_reducible refine (HWr.out _ _ _ _ HX1.out).mono ?_); rintro e w3 ⟨he, ht3, hr3⟩; subst he; have W3 := HV1.out.tx ht3 hrb'; obtain ⟨q0, q1, q2, q3⟩ := id W3)
    refine bodyPost_ret (resY_bare _ _ w.heap.size _ _ _ rfl (W3.set _ _ _)) rfl ?_
    exact ⟨⟨⟨⟨#[]⟩, ⟨#[]⟩, 0⟩, rfl⟩, by decide, TX.set3 (HT1.out.trans ht3) (Nat.le_refl _) _ _ _, (hr3.set3 _ hrb _ _ _).ey⟩
end

theorem info9 : (Tryz.prog.info? 9).map (fun i => (i.zero, i.size, i.bytes)) = some (some (.string ⟨#[]⟩), 1, 16) := by kernel_rfl
theorem OwnS.form {w : World} {base : Nat} {v : Value} {l : List ByteArray} (h : OwnS w base v l) : ∃ ao cap, v = .slice ao l.length cap := by
  rcases h.2 with ⟨hv, hn⟩ | ⟨g, cap, cur, hv, _, hg, h1, h2, _⟩
  · exact ⟨none, 0, by rw [hv, hn]⟩
  · exact ⟨_, cap, hv⟩
theorem OwnS.at {w : World} {base : Nat} {v : Value} {l : List ByteArray} (h : OwnS w base v l) {i : Nat} (hi : i < l.length) : ∃ g cap, v = .slice (some ⟨g, 0, none⟩) l.length cap ∧ base ≤ g ∧ w.cell? ⟨g, i, none⟩ = some (.string l[i]) := by
  rcases h.2 with ⟨hv, hn⟩ | ⟨g, cap, cur, hv, hg0, hg, h1, h2, _⟩
  · omega
  · refine ⟨g, cap, hv, hg0, ?_⟩
    subst hv
    have := h.cellAt i (by omega)
    rw [this]
    simp [hi]
theorem OwnS.turn {w w' : World} {base : Nat} {v : Value} {l : List ByteArray} (h : OwnS w base v l) {S : Nat → Prop} (ht : Turn S w w') (hS : ∀ k, v.ownBlock = some k → ¬ S k) : OwnS w' base v l := ht.row h hS
theorem OwnS.bel {w w' : World} {base : Nat} {v : Value} {l : List ByteArray} (h : OwnS w base v l) (hb : Below w.heap.size w w') : OwnS w' base v l := h.turn (Turn.of_below hb (fun _ => False)) (fun _ _ e => e)
def slLen : Value → Nat
  | .slice _ n _ => n
  | _ => 0
theorem OwnS.len {w : World} {base : Nat} {v : Value} {l : List ByteArray} (h : OwnS w base v l) : slLen v = l.length := by
  obtain ⟨ao, cap, rfl⟩ := h.form
  rfl
/-- The texts of operators of one. -/
def onesT (L : List TL) (a j : Nat) : List ByteArray := (List.range j).map fun i => St (L.getD (a + i) TL.none).1.t
theorem onesT_len (L : List TL) (a j : Nat) : (onesT L a j).length = j := by simp [onesT]
theorem onesT_succ (L : List TL) (a j : Nat) : onesT L a (j + 1) = onesT L a j ++ [St (L.getD (a + j) TL.none).1.t] := by simp [onesT, List.range_succ]
theorem onesT_at (L : List TL) (a : Nat) {i j : Nat} (h : i < j) : (onesT L a j)[i]'(by rw [onesT_len]; exact h) = St (L.getD (a + i) TL.none).1.t := by simp [onesT]
theorem ones_all {L : List TL} : ∀ (f a i : Nat), i < onesN L f a → isOne L (a + i) = true
  | 0, a, i, h => by simp [onesN] at h
  | f + 1, a, i, h => by
    cases h1 : isOne L a with
    | false => rw [onesN_end h1] at h; omega
    | true =>
      rw [onesN_more h1] at h
      cases i with
      | zero => exact h1
      | succ i => rw [show a + (i + 1) = a + 1 + i by omega]; exact ones_all f (a + 1) i (by omega)
theorem one_text {L : List TL} {a : Nat} (h : isOne L a = true) : (L.getD a TL.none).1.t = [45] ∨ (L.getD a TL.none).1.t = [43] ∨ (L.getD a TL.none).1.t = [126] := by
  unfold isOne isSg at h
  simp only [Bool.or_eq_true, Bool.and_eq_true, beq_iff_eq] at h
  rcases h with (h | h) | h
  · exact .inl h.2
  · exact .inr (.inl h.2)
  · exact .inr (.inr h.2)
/-- The state of the loop that reads operators of one. -/
def LA (g : Gy) (w : World) (a dep j k : Nat) (s3 : Value) (wr : World) : Prop :=
  OwnS wr (w.heap.size + 1) s3 (onesT g.L a j) ∧ RY g wr k dep 0 ∧ VB wr w.heap.size ⟨#[]⟩ ⟨#[]⟩ 0 ∧ TX g.rb w wr ∧ k ≤ g.L.length ∧ onesN g.L 201 a = j + onesN g.L (201 - j) k
theorem LA.bel {g : Gy} {w u v : World} {a dep j k : Nat} {s3 : Value} (h : LA g w a dep j k s3 u) (hb : Below u.heap.size u v) : LA g w a dep j k s3 v :=
  ⟨h.1.bel hb, h.2.1.bel hb, h.2.2.1.bel hb h.2.2.1.lt, TX.bel h.2.2.2.1 hb, h.2.2.2.2.1, h.2.2.2.2.2⟩

/-- Values as they come up: without both names, if they are one. -/
theorem rdc_num (n : Int) : Rdc (Vx.num n) := fun _ => ⟨rfl, rfl⟩
theorem addV_rdc {a b y : Vx} (h : addV a b = some y) : Rdc y := addR_rdc (redV_rdc a) (redV_rdc b) h
theorem oneV_rdc {s : List UInt8} {v y : Vx} (hv : Rdc v) (h : oneV s v = some y) : Rdc y := by
  unfold oneV at h
  split at h
  · exact addV_rdc h
  · split at h
    · split at h
      · injection h with h; subst h; exact rdc_num _
      · cases h
    · injection h with h; subst h; exact hv
theorem twoV_rdc {s : List UInt8} {a b y : Vx} (h : twoV s a b = some y) : Rdc y := by
  have key : ∀ p ∈ opsL, ∀ y, p.2.2 a b = some y → Rdc y := by
    intro p hp y hy
    have hN : ∀ f : Int → Int → Option Int, ofN f a b = some y → Rdc y := fun f hf => by
      unfold ofN at hf
      split at hf
      · rw [Option.map_eq_some_iff] at hf
        obtain ⟨n, _, rfl⟩ := hf
        exact rdc_num n
      · cases hf
    unfold opsL at hp
    simp only [List.mem_cons, List.not_mem_nil, or_false] at hp
    rcases hp with rfl | rfl | rfl | rfl | rfl | rfl | rfl | rfl | rfl
    · exact hN _ hy
    · exact hN _ hy
    · exact hN _ hy
    · exact hN _ hy
    · exact hN _ hy
    · exact hN _ hy
    · exact hN _ hy
    · exact addV_rdc hy
    · exact addV_rdc hy
  unfold twoV opOf at h
  cases hf : opsL.find? (fun p => p.1 == s) with
  | none => rw [hf] at h; cases h
  | some p =>
    rw [hf] at h
    exact key p (List.mem_of_find?_eq_some hf) y h
/-- All that a step answers is so. -/
def RdF (f : Nat → Res) : Prop := ∀ a v b, f a = .ok (v, b) → Rdc v
theorem rd_atom {K : List Dx} {L : List TL} {f : Nat → Res} (h : RdF f) : RdF (atomM K L f) := by
  intro a v b e
  unfold atomM at e
  split at e
  · cases hi : f (a + 1) with
    | error x => rw [hi] at e; cases e
    | ok p =>
      obtain ⟨x, c⟩ := p
      rw [hi] at e
      simp only at e
      split at e
      · injection e with e
        injection e with e1 e2
        subst e1
        exact h _ _ _ hi
      · cases e
  · split at e
    · injection e with e
      injection e with e1 e2
      subst e1
      exact rdc_num _
    · split at e
      · injection e with e
        injection e with e1 e2
        subst e1
        unfold nameV
        split
        · exact redV_rdc _
        · exact fun hh => ⟨hh, rfl⟩
      · cases e
theorem rd_ones {L : List TL} {a : Nat} : ∀ (j : Nat) (v y : Vx), Rdc v → onesF L a j v = some y → Rdc y
  | 0, v, y, hv, h => by cases h; exact hv
  | j + 1, v, y, hv, h => by
    unfold onesF at h
    cases ho : oneV (tk L (a + j)).t v with
    | none => rw [ho] at h; cases h
    | some x => rw [ho] at h; exact rd_ones j x y (oneV_rdc hv ho) h
theorem rd_oper {K : List Dx} {L : List TL} {f : Nat → Res} (h : RdF f) : RdF (operM K L f) := by
  intro a v b e
  unfold operM at e
  split at e
  · cases e
  · cases hi : atomM K L f (a + onesN L 201 a) with
    | error x => rw [hi] at e; cases e
    | ok p =>
      obtain ⟨x, c⟩ := p
      rw [hi] at e
      simp only at e
      cases ho : onesF L a (onesN L 201 a) x with
      | none => rw [ho] at e; cases e
      | some y =>
        rw [ho] at e
        injection e with e
        injection e with e1 e2
        subst e1
        exact rd_ones _ _ _ (rd_atom h _ _ _ hi) ho
theorem rd_levF {L : List TL} {n : Nat} {f : Nat → Res} (h : RdF f) : ∀ (k : Nat) (v : Vx) (a : Nat) (x : Vx) (b : Nat), Rdc v → levF L n f k v a = .ok (x, b) → Rdc x
  | 0, v, a, x, b, hv, e => by
    unfold levF at e
    injection e with e
    injection e with e1 e2
    subst e1
    exact hv
  | k + 1, v, a, x, b, hv, e => by
    unfold levF at e
    split at e
    · cases hi : f (a + 1) with
      | error x => rw [hi] at e; cases e
      | ok p =>
        obtain ⟨y, c⟩ := p
        rw [hi] at e
        simp only at e
        cases ht : twoV (tk L a).t v y with
        | none => rw [ht] at e; cases e
        | some z => rw [ht] at e; exact rd_levF h k z c x b (twoV_rdc ht) e
    · injection e with e
      injection e with e1 e2
      subst e1
      exact hv
theorem rd_lev {L : List TL} {n : Nat} {f : Nat → Res} (h : RdF f) : RdF (levM L n f) := by
  intro a v b e
  unfold levM at e
  cases hi : f a with
  | error x => rw [hi] at e; cases e
  | ok p =>
    obtain ⟨y, c⟩ := p
    rw [hi] at e
    exact rd_levF h _ _ _ _ _ (h _ _ _ hi) e
theorem rd_inner (K : List Dx) (L : List TL) : ∀ d, RdF (innerM K L d)
  | 0 => fun a v b e => by cases e
  | d + 1 => rd_lev (rd_lev (rd_lev (rd_oper (rd_inner K L d))))

/-- The state of the loop over operators of one, from the last one on. -/
structure LB (g : Gy) (w : World) (a dep b j : Nat) (M : Res) (B : Nat) (s3 : Value) (i : Nat) (v : Vx) (wr : World) : Prop where
  os : OwnS wr (w.heap.size + 1) s3 (onesT g.L a j)
  ry : RY g wr b dep 0
  vb : VB wr w.heap.size ⟨#[]⟩ ⟨#[]⟩ 0
  tx : TX g.rb w wr
  vv : VB wr B v.p v.m v.n
  hB : w.heap.size < B
  ob : ∀ x, s3.ownBlock = some x → ¬ x = B
  ok : v.Ok
  rd : Rdc v
  on : oneR g.L a i v b = M
theorem LB.set {g : Gy} {w wr u : World} {a dep b j : Nat} {M : Res} {B : Nat} {s3 : Value} {i i' : Nat} {v y : Vx} (h : LB g w a dep b j M B s3 i v wr) (hb : Below wr.heap.size wr u) (hrb : g.rb < w.heap.size) (hok : y.Ok) (hrd : Rdc y) (hon : oneR g.L a i' y b = M) : LB g w a dep b j M B s3 i' y (((u.setCell ⟨B, 0, none⟩ (.string y.p)).setCell ⟨B, 1, none⟩ (.string y.m)).setCell ⟨B, 2, none⟩ (.int .i64 y.n)) := by
  have hB := h.hB
  have ht := TX.set3' u B (.string y.p) (.string y.m) (.int .i64 y.n)
  exact ⟨(h.os.bel hb).turn ht (fun x e => h.ob x e), (h.ry.bel hb).set3 B (by omega) _ _ _, ((h.vb.bel hb h.vb.lt)).turn ht (fun e => by omega), TX.set3 (TX.bel h.tx hb) (by omega) _ _ _, (h.vv.bel hb h.vv.lt).set _ _ _, hB, h.ob, hok, hrd, hon⟩
theorem LB.setN {g : Gy} {w wr u : World} {a dep b j : Nat} {M : Res} {B : Nat} {s3 : Value} {i i' : Nat} {v : Vx} (h : LB g w a dep b j M B s3 i v wr) (hb : Below wr.heap.size wr u) (hrb : g.rb < w.heap.size) (n : Int) (hrd : Rdc (⟨v.p, v.m, n⟩ : Vx)) (hon : oneR g.L a i' ⟨v.p, v.m, n⟩ b = M) : LB g w a dep b j M B s3 i' ⟨v.p, v.m, n⟩ (u.setCell ⟨B, 2, none⟩ (.int .i64 n)) := by
  have hB := h.hB
  have ht : Turn (fun x => x = B) u (u.setCell ⟨B, 2, none⟩ (.int .i64 n)) := Turn.setCell (S := fun x => x = B) (Turn.refl _ u) ⟨B, 2, none⟩ rfl _
  exact ⟨(h.os.bel hb).turn ht (fun x e => h.ob x e), (h.ry.bel hb).setN B 2 (by omega) _, ((h.vb.bel hb h.vb.lt)).turn ht (fun e => by omega), Turn.setNew (TX.bel h.tx hb) ⟨B, 2, none⟩ (by dsimp only; omega) _, (h.vv.bel hb h.vv.lt).set2 _, hB, h.ob, ⟨h.ok.p, h.ok.m⟩, hrd, hon⟩
theorem LB.same {g : Gy} {w wr u : World} {a dep b j : Nat} {M : Res} {B : Nat} {s3 : Value} {i i' : Nat} {v : Vx} (h : LB g w a dep b j M B s3 i v wr) (hb : Below wr.heap.size wr u) (hon : oneR g.L a i' v b = M) : LB g w a dep b j M B s3 i' v u :=
  ⟨h.os.bel hb, h.ry.bel hb, h.vb.bel hb h.vb.lt, TX.bel h.tx hb, h.vv.bel hb h.vv.lt, h.hB, h.ob, h.ok, h.rd, hon⟩

set_option maxHeartbeats 8000000 in
set_option maxRecDepth 10000 in
theorem yoperand_any (g : Gy) (d : Nat) (inner : Nat → Res) (hF : Fwd g.L inner) (hRd : RdF inner) (hA : BareC g d (atomM g.K g.L inner)) (w : World) (a dep : Nat) (h : RY g w a dep 0) (hd : dep + d = 50) (hal : a ≤ g.L.length) :
    Calls Tryz.prog 38 #[.pointer (some ⟨g.rb, 0, none⟩)] w fun e w' => SY (operM g.K g.L inner a) g dep w e w' := by
  have hrb := h.lt
  have hrb' : ¬ w.heap.size = g.rb := by omega
  have hrb2 : ¬ g.rb = w.heap.size := by omega
  have hhl := h.hl
  obtain ⟨i0, hi, hz0, hz1, hz2⟩ := info_parts info9
  have HI : Hid (_ ∧ _ ∧ _ ∧ _) := ⟨hi, hz0, hz1, hz2⟩
  clear hi hz0 hz1 hz2
  have HSg : Hid (∀ (W : World) (b : Nat) (s : List UInt8) (str : ByteArray), str = St s → RY g W b dep 0 → Calls Tryz.prog 66 #[.pointer (some ⟨g.rb, 0, none⟩), .string str] W fun e w' => e = .returned (.bool (isSg g.L b s)) ∧ Below W.heap.size W w') := ⟨fun W b s str hs hW => ysign_any hW s str hs⟩
  have HWr : Hid (∀ (W : World) (b : Nat) (e : Int), RY g W b dep 0 → Calls Tryz.prog 40 #[.pointer (some ⟨g.rb, 0, none⟩), .int .i64 e] W fun x w' => x = .returned (.agg #[.string ⟨#[]⟩, .string ⟨#[]⟩, .int .i64 0]) ∧ TX g.rb W w' ∧ RY g w' b dep e) := ⟨fun W b e hW => wrong_any hW e⟩
  have HBare : Hid (∀ W b, RY g W b dep 0 → b ≤ g.L.length → Calls Tryz.prog 67 #[.pointer (some ⟨g.rb, 0, none⟩)] W fun e w' => SY (atomM g.K g.L inner b) g dep W e w') := ⟨fun W b hW hb => hA W b dep hW hd hb⟩
  have HF : Hid _ := ⟨atom_fwd (K := g.K) hF⟩
  have HRD : Hid _ := ⟨rd_atom (K := g.K) (L := g.L) hRd⟩
  obtain ⟨M, HM⟩ : ∃ M, Hid (operM g.K g.L inner a = M) := ⟨_, ⟨rfl⟩⟩
  rw [HM.out]
  have HH : Hid _ := ⟨h⟩
  have HS0 : Hid (LA g w a dep 0 a (.slice none 0 0) (w.alloc yV)) := ⟨OwnS.nil _ _, h.alloc yV, VB.atY w ⟨#[]⟩ ⟨#[]⟩ 0 w.heap.size rfl, Turn.alloc (Turn.refl _ w) yV, hal, by simp⟩
  clear hA hF h hRd
  go_enter Tryz.func38, Tryz.ntmps38
  go_wp2_with fail
  generalize w.alloc yV = w1 at *
  go_loopw [3] (fun s3 wr => ∃ j k, k = a + j ∧ j ≤ 200 ∧ Hid (LA g w a dep j k s3 wr)) (fun s3 wr => 202 - slLen s3)
  case atStart => exact ⟨0, a, rfl, by omega, HS0⟩
  case round =>
    obtain ⟨j, k, hk, hj, HR⟩ := hrel
    have HK : Hid _ := ⟨hk⟩
    clear hk
    obtain ⟨b1, hb1⟩ : ∃ x, isSg g.L k [45] = x := ⟨_, rfl⟩
    obtain ⟨b2, hb2⟩ : ∃ x, isSg g.L k [43] = x := ⟨_, rfl⟩
    obtain ⟨b3, hb3⟩ : ∃ x, isSg g.L k [126] = x := ⟨_, rfl⟩
    have hone : isOne g.L k = (b1 || b2 || b3) := by unfold isOne; rw [hb1, hb2, hb3]
    have HQ1 : Hid (∀ W, Below wr.heap.size wr W → _) := ⟨fun W hW => HSg.out W k [45] ⟨#[45]⟩ rfl (HR.out.2.1.bel hW)⟩
    have HQ2 : Hid (∀ W, Below wr.heap.size wr W → _) := ⟨fun W hW => HSg.out W k [43] ⟨#[43]⟩ rfl (HR.out.2.1.bel hW)⟩
    have HQ3 : Hid (∀ W, Below wr.heap.size wr W → _) := ⟨fun W hW => HSg.out W k [126] ⟨#[126]⟩ rfl (HR.out.2.1.bel hW)⟩
    rw [hb1] at HQ1
    rw [hb2] at HQ2
    rw [hb3] at HQ3
    have HBB : Hid (Below wr.heap.size wr wr) := ⟨Below.refl _ _⟩
    obtain ⟨q, hq⟩ : ∃ x, isOne g.L k = x := ⟨_, rfl⟩
    have HQ : Hid _ := ⟨hone.symm.trans hq⟩
    go_upto_region 2 with (fail)
    go_cut [16] from 7 to 15 (fun s16 wx => s16 = .bool q ∧ Hid (Below wr.heap.size wr wx))
    case first =>
      have e := HQ.out
      cases b1 <;> cases b2 <;> cases b3
      all_goals
        subst e
        go_wp2_with (first
          | (have _ := M2; go_at_call 66; (with_reducible refine (HQ3.out _ hc2).mono ?_); rintro e w4 ⟨he, hc3'⟩; subst he; have hc3 := bel_trans hc2 hc3')
          | (have _ := M1; go_at_call 66; (with_reducible refine (HQ2.out _ hc1).mono ?_); rintro e w3 ⟨he, hc2'⟩; subst he; have hc2 := bel_trans hc1 hc2'; have M2 := True.intro)
          | (go_at_call 66; (with_reducible refine (HQ1.out _ HBB.out).mono ?_); rintro e w2 ⟨he, hc1⟩; subst he; have M1 := True.intro))
        go_meet
        first | exact ⟨rfl, ⟨hc3⟩⟩ | exact ⟨rfl, ⟨hc2⟩⟩ | exact ⟨rfl, ⟨hc1⟩⟩
    case rest =>
      obtain ⟨hs16, HB⟩ := hcut
      subst hs16
      clear HQ1 HQ2 HQ3 hb1 hb2 hb3 hone HQ HBB
      have HL : Hid _ := ⟨HR.out.bel HB.out⟩
      cases q with
      | true =>
        have hlt := one_lt hq
        have hw1 : IntKind.i64.wrap ((k : Int) + 1) = (k : Int) + 1 := by rw [IntKind.wrap_i64]; omega
        obtain ⟨b, off, e1, e2, ht⟩ := HL.out.2.1.tok hlt
        have c0 := HL.out.2.1.c0
        have c1 := HL.out.2.1.c1
        rw [e1] at c0
        have t3 := ht.t
        obtain ⟨tt, HTT⟩ : ∃ tt, Hid ((g.L.getD k TL.none).1.t = tt) := ⟨_, ⟨rfl⟩⟩
        rw [HTT.out] at t3
        clear ht
        have htl := onesT_len g.L a j
        have hS : wc.drew.cell? ⟨g.rb, 0, none⟩ = some (.slice (some ⟨b, off, none⟩) g.L.length g.cp) ∧ wc.drew.cell? ⟨g.rb, 1, none⟩ = some (.int .i64 (k : Int)) ∧ wc.drew.cell? ⟨b, off + k * 4 + 3, none⟩ = some (.string (St tt)) := ⟨c0, c1, t3⟩
        have hrbw := HL.out.2.1.lt
        have hbw : b < wc.heap.size := World.block_lt_of_cell? wc _ t3
        have A0 := up_alloc c0 (.cells #[.string (St tt)] 9)
        have A1 := up_alloc c1 (.cells #[.string (St tt)] 9)
        have A2 := up_alloc t3 (.cells #[.string (St tt)] 9)
        have hbs : w.heap.size + 1 ≤ wc.heap.size := HL.out.2.2.1.lt
        have hvr : u3.ownBlock ≠ some g.rb := fun e => by have := own_block HL.out.1 _ e; omega
        have hvb : u3.ownBlock ≠ some b := fun e => by have := own_block HL.out.1 _ e; omega
        have hk0 : (0 : Int) ≤ (k : Int) := by omega
        have hk1 : (k : Int) < (g.L.length : Int) := by omega
        have hki : ¬ (k : Int) < 0 := by omega
        go_upto_region 3 with (fail)
        go_region_held_law (fun v' => v'.cell? ⟨g.rb, 0, none⟩ = some (.slice (some ⟨b, off, none⟩) g.L.length g.cp) ∧ v'.cell? ⟨g.rb, 1, none⟩ = some (.int .i64 (k : Int)) ∧ v'.cell? ⟨b, off + k * 4 + 3, none⟩ = some (.string (St tt)))
          (first | go_keep | assumption | exact ⟨(hgrow.cell_far _ (by simp; omega) (Ne.symm hvr)).trans A0, (hgrow.cell_far _ (by simp; omega) (Ne.symm hvr)).trans A1, (hgrow.cell_far _ (by simp; omega) (Ne.symm hvb)).trans A2⟩)
          ((refine step_append_lies _ (by rfl) _ _ _ (by rfl) (w.heap.size + 1) 9 i0 (.string ⟨#[]⟩) 1 16 Tryz.underlying57 HI.out.1 HI.out.2.1 HI.out.2.2.1 HI.out.2.2.2 rfl (by decide) _ (onesT g.L a j).length ((onesT g.L a j).map Value.string) (by rfl) (World.ownsRow.alloc HL.out.1 _) ⟨wc.heap.size, 0, none⟩ 1 1 [.string (St tt)] (by rfl) rfl (World.news_of_block (heap_alloc_new wc _)) (by simp [Value.oneCell']) (by omega) (by unfold maxLen; omega) (by omega) (by simp; omega) (wc.heap.size + 1) (by simp) ?_; intro gg cap w5 hown1 hgrow hat hlt2))
        have TT : Turn (fun x => u3.ownBlock = some x) wc w5 := (((Turn.refl _ wc).alloc _).drewN 1).grown hgrow (fun x _ e => e)
        have hown : ∀ x, u3.ownBlock = some x → w.heap.size + 1 ≤ x := own_block HL.out.1
        have HX5 : Hid (RY g w5 k dep 0) := ⟨HL.out.2.1.turn TT (fun x e => by have := hown x e; omega)⟩
        have HV5 : Hid (VB w5 w.heap.size ⟨#[]⟩ ⟨#[]⟩ 0) := ⟨HL.out.2.2.1.turn TT (fun e => by have := hown _ e; omega)⟩
        have HT5 : Hid (TX g.rb w w5) := ⟨HL.out.2.2.2.1.trans' TT (fun x hx e => by have := hown x e; omega)⟩
        have HO5 : Hid (OwnS w5 (w.heap.size + 1) (.slice (some ⟨gg, 0, none⟩) (j + 1) cap) (onesT g.L a (j + 1))) := ⟨by
          unfold OwnS
          rw [onesT_succ, ← HK.out, HTT.out, List.length_append, List.map_append, htl]
          rw [htl] at hown1
          exact hown1⟩
        have hlen5 := HL.out.2.2.2.2.1
        have hon5 := HL.out.2.2.2.2.2
        have HON : Hid _ := ⟨hon5⟩
        clear hS A0 A1 A2 c0 c1 t3 hown1 hgrow hat hlt2 TT hown hvr hvb hon5
        simp only [htl]
        have c1 := HX5.out.c1
        have z1 := HX5.out.fz 1
        obtain ⟨f0, f1, f2, f3⟩ := id HV5.out
        have HX6 : Hid _ := ⟨HX5.out.setA (k + 1) ((k : Int) + 1) (by omega)⟩
        have HT6 : Hid _ := ⟨TX.set HT5.out 1 (.int .i64 ((k : Int) + 1))⟩
        have HV6 : Hid _ := ⟨HV5.out.setAt g.rb 1 (fun e => hrb2 e) (.int .i64 ((k : Int) + 1))⟩
        have HO6 : Hid _ := ⟨HO5.out.turn (Turn.setCell (S := fun x => x = g.rb) (Turn.refl _ w5) ⟨g.rb, 1, none⟩ rfl (.int .i64 ((k : Int) + 1))) (fun x e => by have := own_block HO5.out x e; omega)⟩
        by_cases h2 : j = 200
        · have hm : M = .error 6 := by
            rw [← HM.out]
            unfold operM
            rw [HON.out, if_pos (by rw [h2, show 201 - 200 = 0 + 1 from rfl, onesN_more hq]; omega)]
          subst hm h2
          go_wp2_with (go_at_call 40; (with_reducible refine (HWr.out _ _ _ HX6.out).mono ?_); rintro e w7 ⟨he, ht7, hr7⟩; subst he; have W7 := HV6.out.tx ht7 hrb'; obtain ⟨q0, q1, q2, q3⟩ := id W7)
          refine bodyPost_ret (resY_operand _ _ w.heap.size _ _ _ rfl (W7.set _ _ _)) rfl ?_
          exact ⟨⟨⟨⟨#[]⟩, ⟨#[]⟩, 0⟩, rfl⟩, by decide, TX.set3 (HT6.out.trans ht7) (Nat.le_refl _) _ _ _, (hr7.set3 _ hrb _ _ _).ey⟩
        · have hg : ¬ (200 : Int) < (j : Int) + 1 := by omega
          have hg' : ¬ (200 : Int) < ((j + 1 : Nat) : Int) := by omega
          have hon : onesN g.L 201 a = (j + 1) + onesN g.L (201 - (j + 1)) (k + 1) := by
            rw [HON.out, show 201 - j = (201 - (j + 1)) + 1 by omega, onesN_more hq]
            omega
          have hu3 := HR.out.1.len
          rw [htl] at hu3
          go_wp2
          go_roundw
          case rel => exact ⟨j + 1, k + 1, by have := HK.out; omega, by omega, ⟨HO6.out, HX6.out, HV6.out, HT6.out, by omega, hon⟩⟩
          case measure => rw [hu3]; simp [slLen]; omega
      | false =>
        have hon : onesN g.L 201 a = j := by rw [HL.out.2.2.2.2.2, onesN_end hq]; rfl
        have hlen := HL.out.2.2.2.2.1
        have hM2 : M = match atomM g.K g.L inner k with | .error e => .error e | .ok (v, b) => oneR g.L a j v b := by
          rw [← HM.out]
          unfold operM
          rw [hon, if_neg (by omega), ← HK.out]
          cases atomM g.K g.L inner k with
          | error e => rfl
          | ok p => rfl
        have HON : Hid (∀ i, i < j → isOne g.L (a + i) = true) := ⟨fun i hi => ones_all 201 a i (by rw [hon]; exact hi)⟩
        have HA2 : Hid _ := ⟨HBare.out wc k HL.out.2.1 hlen⟩
        have htl := onesT_len g.L a j
        obtain ⟨ao, cap, hu3⟩ := HL.out.1.form
        rw [htl] at hu3
        have HU3 : Hid _ := ⟨hu3⟩
        have hwj : IntKind.i64.wrap ((j : Int) - 1) = (j : Int) - 1 := by rw [IntKind.wrap_i64]; omega
        obtain ⟨f0, f1, f2, f3⟩ := id HL.out.2.2.1
        cases ham : atomM g.K g.L inner k with
        | error er =>
          rw [ham] at hM2 HA2
          have hm : M = .error er := hM2
          clear hM2
          subst hm
          subst hu3
          go_wp2_with (go_at_call 67; (with_reducible refine HA2.out.mono ?_); rintro e w5 ⟨⟨x, he⟩, hne, T5, hEY⟩; subst he; have W5 := HL.out.2.2.1.tx T5 hrb'; have TT := HL.out.2.2.2.1.trans T5; clear T5)
          have hne' : (er == 0) = false := by simpa using hne
          have HS1 : Hid (VB (w5.alloc (.cells #[.string x.p, .string x.m, .int .i64 x.n] 33)) w5.heap.size x.p x.m x.n ∧ VB (w5.alloc (.cells #[.string x.p, .string x.m, .int .i64 x.n] 33)) w.heap.size ⟨#[]⟩ ⟨#[]⟩ 0 ∧ TX g.rb w (w5.alloc (.cells #[.string x.p, .string x.m, .int .i64 x.n] 33)) ∧ EY g (w5.alloc (.cells #[.string x.p, .string x.m, .int .i64 x.n] 33)) er) := ⟨VB.atY _ _ _ _ _ rfl, W5.alloc _, Turn.alloc TT _, hEY.bel (bel_alloc (Below.refl _ _) _)⟩
          clear hEY W5 TT
          generalize w5.heap.size = B at *
          generalize w5.alloc (.cells #[.string x.p, .string x.m, .int .i64 x.n] 33) = w6 at *
          go_loopw [5, 6] (fun s5 s6 wr => s5 = .int .i64 ((j : Int) - 1) ∧ wr = w6) (fun s5 s6 wr => 0)
          case atStart => exact ⟨rfl, rfl⟩
          case round =>
            obtain ⟨rfl, rfl⟩ := hrel
            obtain ⟨x0, x1, x2, x3⟩ := HS1.out.1
            obtain ⟨y0, y1, y2, y3⟩ := HS1.out.2.1
            have c4 := HS1.out.2.2.2.c4
            by_cases hge : (0 : Int) ≤ (j : Int) - 1
            · go_wp2
              refine bodyPost_ret (resY_operand _ _ w.heap.size _ _ _ rfl (HS1.out.2.1.set _ _ _)) rfl ?_
              exact ⟨⟨x, rfl⟩, hne, TX.set3 HS1.out.2.2.1 (Nat.le_refl _) _ _ _, HS1.out.2.2.2.set3 _ hrb' _ _ _⟩
            · go_wp2
              refine bodyPost_ret (resY_operand _ _ w.heap.size _ _ _ rfl (HS1.out.2.1.set _ _ _)) rfl ?_
              exact ⟨⟨x, rfl⟩, hne, TX.set3 HS1.out.2.2.1 (Nat.le_refl _) _ _ _, HS1.out.2.2.2.set3 _ hrb' _ _ _⟩
        | ok vb =>
          obtain ⟨v0, b⟩ := vb
          rw [ham] at hM2 HA2
          have HM3 : Hid (oneR g.L a j v0 b = M) := ⟨hM2.symm⟩
          have HRV : Hid (Rdc v0) := ⟨HRD.out _ _ _ ham⟩
          clear hM2
          subst hu3
          go_wp2_with (go_at_call 67; (with_reducible refine HA2.out.mono ?_); rintro e w5 ⟨he, hvo, T5, X5⟩; subst he; have W5 := HL.out.2.2.1.tx T5 hrb'; have TT := HL.out.2.2.2.1.trans T5; have O5 := HL.out.1.turn T5 (fun x e1 e2 => by have := own_block HL.out.1 x e1; omega); have HX5 : Hid _ := ⟨X5⟩; clear T5 X5)
          have HS1 : Hid (LB g w a dep b j M w5.heap.size (.slice ao j cap) j v0 (w5.alloc (.cells #[.string v0.p, .string v0.m, .int .i64 v0.n] 33))) := ⟨O5.bel (bel_alloc (Below.refl _ _) _), HX5.out.alloc _, W5.alloc _, Turn.alloc TT _, VB.atY _ _ _ _ _ rfl, W5.lt, fun x e => by have := (World.ownsRow.lt O5 x e).2; omega, hvo, HRV.out, HM3.out⟩
          clear HX5 W5 TT O5 hvo HRV HM3 HA2 f0 f1 f2 f3
          generalize w5.heap.size = B at *
          generalize w5.alloc (.cells #[.string v0.p, .string v0.m, .int .i64 v0.n] 33) = w6 at *
          go_loopw [5, 6] (fun s5 s6 wr => ∃ (v : Vx) (i : Nat) (z : Int), s5 = .int .i64 z ∧ Hid (z = (i : Int) - 1 ∧ i ≤ j) ∧ Hid (LB g w a dep b j M B (.slice ao j cap) i v wr)) (fun s5 s6 wr => (intOf s5 + 1).toNat)
          case atStart => exact ⟨v0, j, (j : Int) - 1, rfl, ⟨rfl, Nat.le_refl _⟩, HS1⟩
          case round =>
            obtain ⟨v, i, z, rfl, HZ, HL2⟩ := hrel
            have c4 := HL2.out.ry.c4
            obtain ⟨x0, x1, x2, x3⟩ := HL2.out.vv
            obtain ⟨y0, y1, y2, y3⟩ := HL2.out.vb
            have hBw := HL2.out.hB
            have hBr : ¬ B = g.rb := by omega
            have hBr2 : ¬ g.rb = B := by omega
            have hBw2 : ¬ w.heap.size = B := by omega
            have hBw3 : ¬ B = w.heap.size := by omega
            cases i with
            | zero =>
              have hz : ¬ (0 : Int) ≤ z := by have := HZ.out; omega
              have hm : M = .ok (v, b) := by rw [← HL2.out.on, oneR_zero]
              subst hm
              go_wp2
              refine bodyPost_ret (resY_operand _ _ w.heap.size _ _ _ rfl (HL2.out.vb.set _ _ _)) rfl ?_
              exact ⟨rfl, HL2.out.ok, TX.set3 HL2.out.tx (Nat.le_refl _) _ _ _, HL2.out.ry.set3 _ hrb _ _ _⟩
            | succ i =>
              obtain rfl : z = (i : Int) := by have := HZ.out; omega
              have hij : i < j := by have := HZ.out; omega
              have hi0 : (0 : Int) ≤ (i : Int) := by omega
              have hi1 : (i : Int) < (j : Int) := by omega
              have hwi : IntKind.i64.wrap ((i : Int) - 1) = (i : Int) - 1 := by rw [IntKind.wrap_i64]; omega
              obtain ⟨gg, cap', e1, e2, e3⟩ := HL2.out.os.at (i := i) (by rw [htl]; exact hij)
              rw [onesT_at g.L a hij] at e3
              rw [htl] at e1
              injection e1 with q1 q2 q3
              subst q1
              clear q2 q3
              have hst := oneR_succ g.L a i v b
              rw [HL2.out.on] at hst
              have HST : Hid _ := ⟨hst⟩
              have hot := one_text (HON.out i hij)
              have HTK : Hid (tk g.L (a + i) = (g.L.getD (a + i) TL.none).1) := ⟨rfl⟩
              rw [HTK.out] at HST
              clear hst HTK
              generalize (g.L.getD (a + i) TL.none).1.t = tt at *
              rcases hot with rfl | rfl | rfl
              · have e3' : wr.cell? ⟨gg, i, none⟩ = some (.string ⟨#[45]⟩) := e3
                clear e3
                have HO : Hid _ := ⟨ysub_any Vx.zero v (Vx.Ok.num 0) HL2.out.ok⟩
                have hov : oneV [45] v = subV Vx.zero v := rfl
                rw [hov] at HST
                cases hs : subV Vx.zero v with
                | none =>
                  rw [hs] at HO HST
                  rw [vE_none] at HO
                  have hm : M = .error 110 := HST.out
                  subst hm
                  simp only [Vx.zero] at HO
                  unfold es at HO
                  go_wp2_with (first
                    | (go_at_call 18; (with_reducible refine (HO.out _).mono ?_); rintro e w7 ⟨he, hb7⟩; subst he; have Z1 := HL2.out.vv.bel hb7 HL2.out.vv.lt; obtain ⟨x0, x1, x2, x3⟩ := id Z1)
                    | (go_at_call 40; (with_reducible refine (HWr.out _ _ _ ((HL2.out.ry.bel hb7).set3 B (by omega) _ _ _)).mono ?_); rintro e w9 ⟨he, ht9, hr9⟩; subst he; have W9 := VB.tx ((HL2.out.vb.bel hb7 HL2.out.vb.lt).turn (TX.set3' w7 B _ _ _) (fun e => hBw2 e)) ht9 hrb'; obtain ⟨q0, q1, q2, q3⟩ := id W9))
                  refine bodyPost_ret (resY_operand _ _ w.heap.size _ _ _ rfl (W9.set _ _ _)) rfl ?_
                  exact ⟨⟨⟨⟨#[]⟩, ⟨#[]⟩, 0⟩, rfl⟩, by decide, TX.set3 ((TX.set3 (TX.bel HL2.out.tx hb7) (by omega) _ _ _).trans ht9) (Nat.le_refl _) _ _ _, (hr9.set3 _ hrb _ _ _).ey⟩
                | some y =>
                  rw [hs] at HO HST
                  have HY : Hid (y.Ok ∧ Rdc y) := ⟨subV_ok (Vx.Ok.num 0) HL2.out.ok hs, addV_rdc hs⟩
                  obtain ⟨y1', y2', y3'⟩ := y
                  rw [vE_some] at HO
                  simp only [Vx.zero] at HO
                  unfold es at HO
                  go_wp2_with (go_at_call 18; (with_reducible refine (HO.out _).mono ?_); rintro e w7 ⟨he, hb7⟩; subst he; have Z1 := HL2.out.vv.bel hb7 HL2.out.vv.lt; obtain ⟨x0, x1, x2, x3⟩ := id Z1)
                  have HLx : Hid _ := ⟨HL2.out.set (i' := i) hb7 hrb HY.out.1 HY.out.2 HST.out.symm⟩
                  go_roundw
                  case rel => exact ⟨⟨y1', y2', y3'⟩, i, (i : Int) - 1, rfl, ⟨⟨rfl, by omega⟩⟩, HLx⟩
                  case measure => simp [intOf]
              · have e3' : wr.cell? ⟨gg, i, none⟩ = some (.string ⟨#[43]⟩) := e3
                clear e3
                have hov : oneV [43] v = some v := rfl
                rw [hov] at HST
                go_wp2
                go_roundw
                case rel => exact ⟨v, i, (i : Int) - 1, rfl, ⟨⟨rfl, by omega⟩⟩, ⟨HL2.out.same (Below.refl _ _) HST.out.symm⟩⟩
                case measure => simp [intOf]
              · have e3' : wr.cell? ⟨gg, i, none⟩ = some (.string ⟨#[126]⟩) := e3
                clear e3
                have HO : Hid _ := ⟨ynumber_any v.p v.m v.n⟩
                have hov : oneV [126] v = if sB v.p v.m = true then some (Vx.num (bits .xor .i64 (-1) v.n)) else none := rfl
                rw [hov] at HST
                cases hs : sB v.p v.m with
                | true =>
                  rw [hs, if_pos rfl] at HST
                  rw [hs] at HO
                  obtain ⟨hp, hm⟩ := HL2.out.rd ((sB_iff _ _).1 hs)
                  have hv : (⟨v.p, v.m, bits .xor .i64 (-1) v.n⟩ : Vx) = Vx.num (bits .xor .i64 (-1) v.n) := by rw [hp, hm]; rfl
                  have HV : Hid _ := ⟨hv⟩
                  clear hp hm hv
                  go_wp2_with (go_at_call 30; (with_reducible refine (HO.out _).mono ?_); rintro e w7 ⟨he, hb7⟩; subst he; have Z1 := HL2.out.vv.bel hb7 HL2.out.vv.lt; obtain ⟨x0, x1, x2, x3⟩ := id Z1)
                  have HLx : Hid _ := ⟨HL2.out.setN (i' := i) hb7 hrb (bits .xor .i64 (-1) v.n) (by rw [HV.out]; exact rdc_num _) (by rw [HV.out]; exact HST.out.symm)⟩
                  go_roundw
                  case rel => exact ⟨⟨v.p, v.m, bits .xor .i64 (-1) v.n⟩, i, (i : Int) - 1, rfl, ⟨⟨rfl, by omega⟩⟩, HLx⟩
                  case measure => simp [intOf]
                | false =>
                  rw [hs, if_neg (by simp)] at HST
                  rw [hs] at HO
                  have hm : M = .error 110 := HST.out
                  subst hm
                  go_wp2_with (first
                    | (go_at_call 30; (with_reducible refine (HO.out _).mono ?_); rintro e w7 ⟨he, hb7⟩; subst he; have Z1 := HL2.out.vv.bel hb7 HL2.out.vv.lt; obtain ⟨x0, x1, x2, x3⟩ := id Z1)
                    | (go_at_call 40; (with_reducible refine (HWr.out _ _ _ ((HL2.out.ry.bel hb7).setN B 2 (by omega) _)).mono ?_); rintro e w9 ⟨he, ht9, hr9⟩; subst he; have W9 := VB.tx ((HL2.out.vb.bel hb7 HL2.out.vb.lt).setAt B 2 (fun e => hBw3 e) _) ht9 hrb'; obtain ⟨q0, q1, q2, q3⟩ := id W9))
                  refine bodyPost_ret (resY_operand _ _ w.heap.size _ _ _ rfl (W9.set _ _ _)) rfl ?_
                  exact ⟨⟨⟨⟨#[]⟩, ⟨#[]⟩, 0⟩, rfl⟩, by decide, TX.set3 ((Turn.setNew (TX.bel HL2.out.tx hb7) ⟨B, 2, none⟩ (by dsimp only; omega) _).trans ht9) (Nat.le_refl _) _ _ _, (hr9.set3 _ hrb _ _ _).ey⟩

theorem twoV_okY {s : List UInt8} {a b y : Vx} (ha : a.Ok) (hb : b.Ok) (h : twoV s a b = some y) : y.Ok := by
  have key : ∀ p ∈ opsL, ∀ y, p.2.2 a b = some y → y.Ok := by
    intro p hp y hy
    have hN : ∀ f : Int → Int → Option Int, ofN f a b = some y → y.Ok := fun f hf => by
      unfold ofN at hf
      split at hf
      · rw [Option.map_eq_some_iff] at hf
        obtain ⟨n, _, rfl⟩ := hf
        exact Vx.Ok.num n
      · cases hf
    unfold opsL at hp
    simp only [List.mem_cons, List.not_mem_nil, or_false] at hp
    rcases hp with rfl | rfl | rfl | rfl | rfl | rfl | rfl | rfl | rfl
    · exact hN _ hy
    · exact hN _ hy
    · exact hN _ hy
    · exact hN _ hy
    · exact hN _ hy
    · exact hN _ hy
    · exact hN _ hy
    · exact addV_ok ha hb hy
    · exact subV_ok ha hb hy
  unfold twoV opOf at h
  cases hf : opsL.find? (fun p => p.1 == s) with
  | none => rw [hf] at h; cases h
  | some p =>
    rw [hf] at h
    exact key p (List.mem_of_find?_eq_some hf) y h

theorem lev_none (g : Gy) (d : Nat) (inner : Nat → Res) (hF : Fwd g.L inner) (hRd : RdF inner) (hA : BareC g d (atomM g.K g.L inner)) : LevC g 0 d (operM g.K g.L inner) := by
  intro w a dep h hd hal
  have hrb := h.lt
  have hrb' : ¬ w.heap.size = g.rb := by omega
  have HO : Hid _ := ⟨yoperand_any g d inner hF hRd hA (w.alloc yV) a dep (h.alloc yV) hd hal⟩
  have HV : Hid _ := ⟨VB.atY w ⟨#[]⟩ ⟨#[]⟩ 0 w.heap.size rfl⟩
  have HT : Hid (TX g.rb w (w.alloc yV)) := ⟨Turn.alloc (Turn.refl _ w) yV⟩
  show Calls Tryz.prog 26 #[.pointer (some ⟨g.rb, 0, none⟩), .int .i64 0] w fun e w' => SY (operM g.K g.L inner a) g dep w e w'
  cases hm : operM g.K g.L inner a with
  | error er =>
    rw [hm] at HO
    clear h
    go_enter Tryz.func26, Tryz.ntmps26
    go_wp2_with (go_at_call 38; (with_reducible refine HO.out.mono ?_); rintro e w2 ⟨⟨x, he⟩, hne, T2, hE2⟩; subst he; have W2 := HV.out.tx T2 hrb'; obtain ⟨f0, f1, f2, f3⟩ := id W2)
    refine bodyPost_ret (resY_levels _ _ w.heap.size _ _ _ rfl (W2.set _ _ _)) rfl ?_
    exact ⟨⟨x, rfl⟩, hne, TX.set3 (HT.out.trans T2) (Nat.le_refl _) _ _ _, hE2.set3 _ hrb' _ _ _⟩
  | ok vb =>
    obtain ⟨v, b⟩ := vb
    rw [hm] at HO
    clear h
    go_enter Tryz.func26, Tryz.ntmps26
    go_wp2_with (go_at_call 38; (with_reducible refine HO.out.mono ?_); rintro e w2 ⟨he, hvo, T2, X2⟩; subst he; have W2 := HV.out.tx T2 hrb'; obtain ⟨f0, f1, f2, f3⟩ := id W2; have HX2 : Hid _ := ⟨X2⟩; clear X2)
    refine bodyPost_ret (resY_levels _ _ w.heap.size _ _ _ rfl (W2.set _ _ _)) rfl ?_
    exact ⟨rfl, hvo, TX.set3 (HT.out.trans T2) (Nat.le_refl _) _ _ _, HX2.out.set3 _ hrb _ _ _⟩

/-- The state of the loop over operators of one level. -/
structure LC (g : Gy) (m : Nat) (f : Nat → Res) (w : World) (dep : Nat) (M : Res) (B : Nat) (b : Nat) (v : Vx) (wr : World) : Prop where
  ry : RY g wr b dep 0
  vb : VB wr w.heap.size ⟨#[]⟩ ⟨#[]⟩ 0
  tx : TX g.rb w wr
  vv : VB wr B v.p v.m v.n
  hB : w.heap.size < B
  ok : v.Ok
  hb : b ≤ g.L.length
  on : ∃ k, g.L.length < k + b ∧ levF g.L m f k v b = M
theorem LC.bel {g : Gy} {m : Nat} {f : Nat → Res} {w u z : World} {dep : Nat} {M : Res} {B b : Nat} {v : Vx} (h : LC g m f w dep M B b v u) (hb : Below u.heap.size u z) : LC g m f w dep M B b v z :=
  ⟨h.ry.bel hb, h.vb.bel hb h.vb.lt, TX.bel h.tx hb, h.vv.bel hb h.vv.lt, h.hB, h.ok, h.hb, h.on⟩
/-- Where the reader stands: for the loop's measure. -/
def atYc (rb : Nat) (w : World) : Nat := match w.cell? ⟨rb, 1, none⟩ with | some (.int _ n) => n.toNat | _ => 0
theorem atYc_of {g : Gy} {w : World} {a dep : Nat} {er : Int} (h : RY g w a dep er) : atYc g.rb w = a := by
  unfold atYc
  rw [h.c1]
  simp
/-- What the region that looks for an operator stands on. -/
abbrev C7 (g : Gy) (b off : Nat) (p : TL) (k : Nat) (W v : World) : Prop := v.cell? ⟨g.rb, 0, none⟩ = some (.slice (some ⟨b, off, none⟩) g.L.length g.cp) ∧ v.cell? ⟨g.rb, 1, none⟩ = some (.int .i64 (k : Int)) ∧ v.cell? ⟨g.rb, 4, none⟩ = some (.int .i64 0) ∧ v.cell? ⟨b, off + k * 4, none⟩ = some (.int .i64 p.1.k) ∧ v.cell? ⟨b, off + k * 4 + 1, none⟩ = some (.int .i64 p.2) ∧ v.cell? ⟨b, off + k * 4 + 2, none⟩ = some (.int .i64 p.1.n) ∧ v.cell? ⟨b, off + k * 4 + 3, none⟩ = some (.string (St p.1.t)) ∧ Hid (Below W.heap.size W v)
theorem C7.bel {g : Gy} {b off : Nat} {p : TL} {k : Nat} {W u v : World} (h : C7 g b off p k W u) (hb : Below u.heap.size u v) : C7 g b off p k W v :=
  ⟨to_bel hb h.1, to_bel hb h.2.1, to_bel hb h.2.2.1, to_bel hb h.2.2.2.1, to_bel hb h.2.2.2.2.1, to_bel hb h.2.2.2.2.2.1, to_bel hb h.2.2.2.2.2.2.1, ⟨bel_trans h.2.2.2.2.2.2.2.out hb⟩⟩

set_option maxHeartbeats 8000000 in
set_option maxRecDepth 10000 in
theorem lev_some (g : Gy) (m d : Nat) (hm3 : m ≤ 2) (f : Nat → Res) (hF : Fwd g.L f) (hC : LevC g (m : Int) d f) : LevC g ((m : Int) + 1) d (levM g.L m f) := by
  intro w a dep h hd hal
  have hrb := h.lt
  have hrb' : ¬ w.heap.size = g.rb := by omega
  have hhl := h.hl
  have HV : Hid _ := ⟨VB.atY w ⟨#[]⟩ ⟨#[]⟩ 0 w.heap.size rfl⟩
  have HT : Hid (TX g.rb w (w.alloc yV)) := ⟨Turn.alloc (Turn.refl _ w) yV⟩
  have HL1 : Hid (∀ W b, RY g W b dep 0 → b ≤ g.L.length → Calls Tryz.prog 26 #[.pointer (some ⟨g.rb, 0, none⟩), .int .i64 (m : Int)] W fun e w' => SY (f b) g dep W e w') := ⟨fun W b hW hb => hC W b dep hW hd hb⟩
  have HX : Hid _ := ⟨h.alloc yV⟩
  have HF : Hid _ := ⟨hF⟩
  show Calls Tryz.prog 26 #[.pointer (some ⟨g.rb, 0, none⟩), .int .i64 ((m : Int) + 1)] w fun e w' => SY (levM g.L m f a) g dep w e w'
  obtain ⟨M, HM⟩ : ∃ M, Hid (levM g.L m f a = M) := ⟨_, ⟨rfl⟩⟩
  rw [HM.out]
  have hn0 : ((m : Int) + 1 == 0) = false := by simp; omega
  have hwm : IntKind.i64.wrap ((m : Int) + 1 - 1) = (m : Int) := by rw [IntKind.wrap_i64]; omega
  have hwm2 : IntKind.i64.wrap (m : Int) = (m : Int) := by rw [IntKind.wrap_i64]; omega
  have HWr : Hid (∀ (W : World) (b : Nat) (e : Int), RY g W b dep 0 → Calls Tryz.prog 40 #[.pointer (some ⟨g.rb, 0, none⟩), .int .i64 e] W fun x w' => x = .returned (.agg #[.string ⟨#[]⟩, .string ⟨#[]⟩, .int .i64 0]) ∧ TX g.rb W w' ∧ RY g w' b dep e) := ⟨fun W b e hW => wrong_any hW e⟩
  clear h hC hF
  have HA2 : Hid _ := ⟨HL1.out (w.alloc yV) a HX.out hal⟩
  cases hfa : f a with
  | error er =>
    have hm : M = .error er := by
      rw [← HM.out]
      unfold levM
      rw [hfa]
    subst hm
    rw [hfa] at HA2
    go_enter Tryz.func26, Tryz.ntmps26
    go_upto_region 3 with (fail)
    generalize w.alloc yV = w1 at *
    go_wp2_with (go_at_call 26; (with_reducible refine HA2.out.mono ?_); rintro e w2 ⟨⟨x, he⟩, hne, T2, hE2⟩; subst he; have W2 := HV.out.tx T2 hrb'; have TT := HT.out.trans T2; clear T2)
    have hne' : (er == 0) = false := by simpa using hne
    have HS1 : Hid (VB (w2.alloc (.cells #[.string x.p, .string x.m, .int .i64 x.n] 33)) w2.heap.size x.p x.m x.n ∧ VB (w2.alloc (.cells #[.string x.p, .string x.m, .int .i64 x.n] 33)) w.heap.size ⟨#[]⟩ ⟨#[]⟩ 0 ∧ TX g.rb w (w2.alloc (.cells #[.string x.p, .string x.m, .int .i64 x.n] 33)) ∧ EY g (w2.alloc (.cells #[.string x.p, .string x.m, .int .i64 x.n] 33)) er) := ⟨VB.atY _ _ _ _ _ rfl, W2.alloc _, Turn.alloc TT _, hE2.bel (bel_alloc (Below.refl _ _) _)⟩
    clear hE2 W2 TT
    generalize w2.heap.size = B at *
    generalize w2.alloc (.cells #[.string x.p, .string x.m, .int .i64 x.n] 33) = w6 at *
    go_loopw [6, 7, 8, 9] (fun s6 s7 s8 s9 wr => wr = w6) (fun s6 s7 s8 s9 wr => 0)
    case atStart => rfl
    case round =>
      subst hrel
      have c4 := HS1.out.2.2.2.c4
      go_upto_region 4 with (fail)
      go_quiet (fail)
      have hbq : Below wr.heap.size wr (wr.drewN nq) := below_drewN (Below.refl _ _) nq
      have HS2 : Hid (VB (wr.drewN nq) B x.p x.m x.n ∧ VB (wr.drewN nq) w.heap.size ⟨#[]⟩ ⟨#[]⟩ 0 ∧ TX g.rb w (wr.drewN nq) ∧ EY g (wr.drewN nq) er) := ⟨HS1.out.1.drewN nq, HS1.out.2.1.drewN nq, TX.bel HS1.out.2.2.1 hbq, HS1.out.2.2.2.bel hbq⟩
      generalize wr.drewN nq = w7 at *
      obtain ⟨x0, x1, x2, x3⟩ := HS2.out.1
      obtain ⟨y0, y1, y2, y3⟩ := HS2.out.2.1
      go_wp2
      refine bodyPost_ret (resY_levels _ _ w.heap.size _ _ _ rfl (HS2.out.2.1.set _ _ _)) rfl ?_
      exact ⟨⟨x, rfl⟩, hne, TX.set3 HS2.out.2.2.1 (Nat.le_refl _) _ _ _, HS2.out.2.2.2.set3 _ hrb' _ _ _⟩
  | ok vb =>
    obtain ⟨v0, b0⟩ := vb
    have hfw := HF.out _ _ _ hfa
    have HM2 : Hid (levF g.L m f (g.L.length + 1 - b0) v0 b0 = M) := ⟨by
      rw [← HM.out]
      unfold levM
      rw [hfa]⟩
    rw [hfa] at HA2
    go_enter Tryz.func26, Tryz.ntmps26
    go_upto_region 3 with (fail)
    generalize w.alloc yV = w1 at *
    go_wp2_with (go_at_call 26; (with_reducible refine HA2.out.mono ?_); rintro e w2 ⟨he, hvo, T2, X2⟩; subst he; have W2 := HV.out.tx T2 hrb'; have TT := HT.out.trans T2; have HX2 : Hid _ := ⟨X2⟩; clear T2 X2)
    have HS1 : Hid (LC g m f w dep M w2.heap.size b0 v0 (w2.alloc (.cells #[.string v0.p, .string v0.m, .int .i64 v0.n] 33))) := ⟨HX2.out.alloc _, W2.alloc _, Turn.alloc TT _, VB.atY _ _ _ _ _ rfl, W2.lt, hvo, hfw.2, ⟨_, by omega, HM2.out⟩⟩
    clear HX2 W2 TT HM2 HM HA2 hvo hfa HX HV HT
    generalize w2.heap.size = B at *
    generalize w2.alloc (.cells #[.string v0.p, .string v0.m, .int .i64 v0.n] 33) = w6 at *
    go_loopw [6, 7, 8, 9] (fun s6 s7 s8 s9 wr => ∃ b v, Hid (LC g m f w dep M B b v wr)) (fun s6 s7 s8 s9 wr => g.L.length + 1 - atYc g.rb wr)
    case atStart => exact ⟨b0, v0, HS1⟩
    case round =>
      obtain ⟨b, v, HR⟩ := hrel
      have eb := atYc_of HR.out.ry
      obtain ⟨q, hq⟩ : ∃ q, isLv g.L b m = q := ⟨_, rfl⟩
      go_upto_region 4 with (fail)
      go_cut [49] from 18 to 48 (fun s49 wx => s49 = .bool q ∧ Hid (Below wr.heap.size wr wx))
      case first =>
        by_cases hlt : b < g.L.length
        · obtain ⟨bb, off, e1, e2, ht⟩ := HR.out.ry.tok hlt
          have hd1 : (b : Int) < (g.L.length : Int) := by omega
          have hd2 : decide ((b : Int) < (g.L.length : Int)) = true := decide_eq_true (by omega)
          have hb0 : (0 : Int) ≤ (b : Int) := by omega
          have hbi : ¬ (b : Int) < 0 := by omega
          have HLv : Hid (∀ W, _) := ⟨fun W => level_any (g.L.getD b TL.none).1 (g.L.getD b TL.none).2 W⟩
          have hlv := lvY_is g.L b m
          rw [hq] at hlv
          have hlv2 : (lvY (g.L.getD b TL.none).1 == (m : Int) + 1) = q := by rw [← hlv]; unfold tk; congr 1
          have c0 := HR.out.ry.c0
          rw [e1] at c0
          have K0 : C7 g bb off (g.L.getD b TL.none) b wr wr.drew := ⟨c0, HR.out.ry.c1, HR.out.ry.c4, ht.k, ht.l, ht.n, ht.t, ⟨(Below.refl _ _).drew⟩⟩
          clear hlv c0 ht HR hq
          generalize g.L.getD b TL.none = p at *
          generalize lvY p.1 = lv at *
          go_region_held3 (fun u => C7 g bb off p b wr u)
            (first | (with_reducible assumption) | exact C7.bel (by with_reducible assumption) hb)
            (first | (go_at_call 39; (with_reducible refine (HLv.out _).mono ?_); rintro e wp ⟨rfl, hb⟩))
          go_wp2_with (fail)
          go_meet
          rename_i hS
          exact ⟨by rw [← hlv2], hS.2.2.2.2.2.2.2⟩
        · have hd2 : decide ((b : Int) < (g.L.length : Int)) = false := decide_eq_false (by omega)
          have hq0 : q = false := by
            rw [← hq]
            cases hz : isLv g.L b m with
            | false => rfl
            | true => exact absurd (lv_lt hz) hlt
          subst hq0
          have c0 := HR.out.ry.c0
          have c1 := HR.out.ry.c1
          have c4 := HR.out.ry.c4
          go_quiet (fail)
          go_wp2_with (fail)
          go_meet
          exact ⟨rfl, ⟨below_drewN (Below.refl _ _) nq⟩⟩
      case rest =>
        obtain ⟨hs49, HB⟩ := hcut
        subst hs49
        have HL : Hid _ := ⟨HR.out.bel HB.out⟩
        have ec := atYc_of HL.out.ry
        obtain ⟨x0, x1, x2, x3⟩ := HL.out.vv
        obtain ⟨y0, y1, y2, y3⟩ := HL.out.vb
        have hBw := HL.out.hB
        have hBr : ¬ B = g.rb := by omega
        have hBw2 : ¬ w.heap.size = B := by omega
        cases q with
        | false =>
          have hm : M = .ok (v, b) := by
            obtain ⟨k, _, hk⟩ := HL.out.on
            rw [← hk]
            exact levF_end hq k
          subst hm
          go_wp2
          refine bodyPost_ret (resY_levels _ _ w.heap.size _ _ _ rfl (HL.out.vb.set _ _ _)) rfl ?_
          exact ⟨rfl, HL.out.ok, TX.set3 HL.out.tx (Nat.le_refl _) _ _ _, HL.out.ry.set3 _ hrb _ _ _⟩
        | true =>
          have hlt := lv_lt hq
          obtain ⟨bb, off, e1, e2, ht⟩ := HL.out.ry.tok hlt
          have c0 := HL.out.ry.c0
          have c1 := HL.out.ry.c1
          rw [e1] at c0
          have t3 := ht.t
          obtain ⟨tt, HTT⟩ : ∃ tt, Hid ((g.L.getD b TL.none).1.t = tt) := ⟨_, ⟨rfl⟩⟩
          rw [HTT.out] at t3
          have hb1 : (b : Int) < (g.L.length : Int) := by omega
          have hb0 : (0 : Int) ≤ (b : Int) := by omega
          have hbi : ¬ (b : Int) < 0 := by omega
          have hwb : IntKind.i64.wrap ((b : Int) + 1) = (b : Int) + 1 := by rw [IntKind.wrap_i64]; omega
          go_upto_region 5 with (fail)
          go_quiet (fail)
          have hbq : Below wc.heap.size wc (wc.drewN nq) := below_drewN (Below.refl _ _) nq
          have HL3 : Hid _ := ⟨HL.out.bel hbq⟩
          obtain ⟨k, hk1, hk2⟩ := HL.out.on
          clear c0 c1 t3 ht x0 x1 x2 x3 y0 y1 y2 y3 hbq
          generalize wc.drewN nq = w7 at *
          obtain ⟨k', rfl⟩ : ∃ k', k = k' + 1 := ⟨k - 1, by omega⟩
          have hst : M = (match f (b + 1) with | .error e => .error e | .ok (x, c) => (match twoV (tk g.L b).t v x with | none => .error 110 | some y => levF g.L m f k' y c)) := by
            rw [← hk2]
            conv => lhs; unfold levF
            rw [if_pos hq]
            rfl
          have HTK : Hid ((tk g.L b).t = tt) := ⟨HTT.out⟩
          rw [HTK.out] at hst
          clear HTK hk2
          have HST : Hid _ := ⟨hst⟩
          have c1 := HL3.out.ry.c1
          have z1 := HL3.out.ry.fz 1
          have HX8 : Hid _ := ⟨HL3.out.ry.setA (b + 1) ((b : Int) + 1) (by omega)⟩
          have HT8 : Hid _ := ⟨TX.set HL3.out.tx 1 (.int .i64 ((b : Int) + 1))⟩
          have HV8 : Hid _ := ⟨HL3.out.vb.setAt g.rb 1 (fun e => hrb' e.symm) (.int .i64 ((b : Int) + 1))⟩
          have HW8 : Hid _ := ⟨HL3.out.vv.setAt g.rb 1 (fun e => hBr e.symm) (.int .i64 ((b : Int) + 1))⟩
          have HVO : Hid _ := ⟨HL3.out.ok⟩
          clear hst HR HB HL HL3 HS1
          go_upto_region 7 with (fail)
          generalize w7.setCell ⟨g.rb, 1, none⟩ (.int .i64 ((b : Int) + 1)) = w8 at *
          clear c1 z1
          have HA3 : Hid _ := ⟨HL1.out w8 (b + 1) HX8.out (by omega)⟩
          cases hf1 : f (b + 1) with
          | error er =>
            rw [hf1] at HA3 HST
            have hm : M = .error er := HST.out
            subst hm
            go_wp2_with (go_at_call 26; (with_reducible refine HA3.out.mono ?_); rintro e w9 ⟨⟨x, he⟩, hne, T9, hE9⟩; subst he; have hne' : (er != 0) = true := (bne_iff_ne.2 hne); have HE9 : Hid _ := ⟨hE9.bel (bel_alloc (Below.refl _ _) (.cells #[.string x.p, .string x.m, .int .i64 x.n] 33))⟩; have HV9 : Hid _ := ⟨(HV8.out.tx T9 hrb').alloc (.cells #[.string x.p, .string x.m, .int .i64 x.n] 33)⟩; have HT9 : Hid _ := ⟨Turn.alloc (HT8.out.trans T9) (.cells #[.string x.p, .string x.m, .int .i64 x.n] 33)⟩; have c4 := HE9.out.c4; obtain ⟨y0, y1, y2, y3⟩ := id HV9.out; clear T9 hE9)
            refine bodyPost_ret (resY_levels _ _ w.heap.size _ _ _ rfl (HV9.out.set _ _ _)) rfl ?_
            exact ⟨⟨⟨⟨#[]⟩, ⟨#[]⟩, 0⟩, rfl⟩, hne, TX.set3 HT9.out (Nat.le_refl _) _ _ _, HE9.out.set3 _ hrb' _ _ _⟩
          | ok xc =>
            obtain ⟨x, cc⟩ := xc
            rw [hf1] at HA3 HST
            have hfw2 := HF.out _ _ _ hf1
            have LARM : True := trivial
            cases ht2 : twoV tt v x with
            | none =>
              have hm : M = .error 110 := by have := HST.out; simp only [ht2] at this; exact this
              subst hm
              go_wp2_with (first
                | (go_at_call 26; (with_reducible refine HA3.out.mono ?_); rintro e w9 ⟨he, hxo, T9, X9⟩; subst he; have HX9 : Hid _ := ⟨X9.alloc (.cells #[.string x.p, .string x.m, .int .i64 x.n] 33)⟩; have HV9 : Hid _ := ⟨(HV8.out.tx T9 hrb').alloc (.cells #[.string x.p, .string x.m, .int .i64 x.n] 33)⟩; have HW9 : Hid _ := ⟨(HW8.out.tx T9 hBr).alloc (.cells #[.string x.p, .string x.m, .int .i64 x.n] 33)⟩; have HT9 : Hid _ := ⟨Turn.alloc (HT8.out.trans T9) (.cells #[.string x.p, .string x.m, .int .i64 x.n] 33)⟩; have c4 := HX9.out.c4; obtain ⟨x0, x1, x2, x3⟩ := id HW9.out; have HTw : Hid _ := ⟨ytwo_any tt v x HVO.out hxo⟩; rw [ht2, vE_none] at HTw; clear T9 X9)
                | (go_at_call 20; (with_reducible refine (HTw.out _).mono ?_); rintro e wa ⟨he, hba⟩; subst he; have HXa : Hid _ := ⟨(HX9.out.bel hba).alloc (.cells #[.string ⟨#[]⟩, .string ⟨#[]⟩, .int .i64 0] 33)⟩; have HVa : Hid _ := ⟨(HV9.out.bel hba HV9.out.lt).alloc (.cells #[.string ⟨#[]⟩, .string ⟨#[]⟩, .int .i64 0] 33)⟩; have HTa : Hid _ := ⟨Turn.alloc (TX.bel HT9.out hba) (.cells #[.string ⟨#[]⟩, .string ⟨#[]⟩, .int .i64 0] 33)⟩; clear hba)
                | (go_at_call 40; (with_reducible refine (HWr.out _ _ _ HXa.out).mono ?_); rintro e wb ⟨he, htb, hrb9⟩; subst he; have Wb := HVa.out.tx htb hrb'; obtain ⟨q0, q1, q2, q3⟩ := id Wb))
              refine bodyPost_ret (resY_levels _ _ w.heap.size _ _ _ rfl (Wb.set _ _ _)) rfl ?_
              exact ⟨⟨⟨⟨#[]⟩, ⟨#[]⟩, 0⟩, rfl⟩, by decide, TX.set3 (HTa.out.trans htb) (Nat.le_refl _) _ _ _, (hrb9.set3 _ hrb _ _ _).ey⟩
            | some y =>
              have HST2 : Hid (levF g.L m f k' y cc = M) := ⟨by have := HST.out; simp only [ht2] at this; exact this.symm⟩
              have HY : Hid (x.Ok → y.Ok) := ⟨fun hx => twoV_okY HVO.out hx ht2⟩
              obtain ⟨y1', y2', y3'⟩ := y
              go_wp2_with (first
                | (go_at_call 26; (with_reducible refine HA3.out.mono ?_); rintro e w9 ⟨he, hxo, T9, X9⟩; subst he; have HX9 : Hid _ := ⟨X9.alloc (.cells #[.string x.p, .string x.m, .int .i64 x.n] 33)⟩; have HV9 : Hid _ := ⟨(HV8.out.tx T9 hrb').alloc (.cells #[.string x.p, .string x.m, .int .i64 x.n] 33)⟩; have HW9 : Hid _ := ⟨(HW8.out.tx T9 hBr).alloc (.cells #[.string x.p, .string x.m, .int .i64 x.n] 33)⟩; have HT9 : Hid _ := ⟨Turn.alloc (HT8.out.trans T9) (.cells #[.string x.p, .string x.m, .int .i64 x.n] 33)⟩; have c4 := HX9.out.c4; obtain ⟨x0, x1, x2, x3⟩ := id HW9.out; have HTw : Hid _ := ⟨ytwo_any tt v x HVO.out hxo⟩; rw [ht2, vE_some] at HTw; have HYO : Hid _ := ⟨HY.out hxo⟩; clear T9 X9)
                | (go_at_call 20; (with_reducible refine (HTw.out _).mono ?_); rintro e wa ⟨he, hba⟩; subst he; have HXa : Hid _ := ⟨(HX9.out.bel hba).alloc (.cells #[.string y1', .string y2', .int .i64 y3'] 33)⟩; have HVa : Hid _ := ⟨(HV9.out.bel hba HV9.out.lt).alloc (.cells #[.string y1', .string y2', .int .i64 y3'] 33)⟩; have HWa : Hid _ := ⟨(HW9.out.bel hba HW9.out.lt).alloc (.cells #[.string y1', .string y2', .int .i64 y3'] 33)⟩; have HTa : Hid _ := ⟨Turn.alloc (TX.bel HT9.out hba) (.cells #[.string y1', .string y2', .int .i64 y3'] 33)⟩; obtain ⟨q0, q1, q2, q3⟩ := id HWa.out; have hnwa : ¬ wa.heap.size = B := (by have := (HW9.out.bel hba HW9.out.lt).lt; omega); clear hba))
              have HLx : Hid (LC g m f w dep M B cc ⟨y1', y2', y3'⟩ ((((wa.alloc (.cells #[.string y1', .string y2', .int .i64 y3'] 33)).setCell ⟨B, 0, none⟩ (.string y1')).setCell ⟨B, 1, none⟩ (.string y2')).setCell ⟨B, 2, none⟩ (.int .i64 y3'))) := ⟨HXa.out.set3 B (by omega) _ _ _, HVa.out.turn (TX.set3' _ B _ _ _) (fun e => hBw2 e), TX.set3 HTa.out (by omega) _ _ _, HWa.out.set _ _ _, hBw, HYO.out, hfw2.2, ⟨k', by omega, HST2.out⟩⟩
              have ed := atYc_of HLx.out.ry
              go_roundw
              case rel => exact ⟨cc, ⟨y1', y2', y3'⟩, HLx⟩
              case measure => rw [eb, ed]; omega

theorem lev_all (g : Gy) (d : Nat) (inner : Nat → Res) (hF : Fwd g.L inner) (hRd : RdF inner) (hA : BareC g d (atomM g.K g.L inner)) : LevC g 3 d (exprOf g.K g.L inner) := by
  have h0 : LevC g ((0 : Nat) : Int) d (operM g.K g.L inner) := lev_none g d inner hF hRd hA
  have h1 := lev_some g 0 d (by omega) _ (oper_fwd hF) h0
  have h1' : LevC g ((1 : Nat) : Int) d (levM g.L 0 (operM g.K g.L inner)) := h1
  have h2 := lev_some g 1 d (by omega) _ (lev_fwd (oper_fwd hF)) h1'
  have h2' : LevC g ((2 : Nat) : Int) d (levM g.L 1 (levM g.L 0 (operM g.K g.L inner))) := h2
  exact lev_some g 2 d (by omega) _ (lev_fwd (lev_fwd (oper_fwd hF))) h2'
theorem lev_inner (g : Gy) : ∀ d, LevC g 3 d (innerM g.K g.L (d + 1))
  | 0 => lev_all g 0 _ (inner_fwd g.K g.L 0) (rd_inner g.K g.L 0) (ybare_any g 0 _ (.inl ⟨rfl, fun _ => rfl⟩))
  | d + 1 => lev_all g (d + 1) _ (inner_fwd g.K g.L (d + 1)) (rd_inner g.K g.L (d + 1)) (ybare_any g (d + 1) _ (.inr ⟨d, rfl, lev_inner g d⟩))
theorem lev_eval (g : Gy) : LevC g 3 50 (evalM g.K g.L) := lev_inner g 50

theorem resY_Eval (tmps : Array Value) (W : World) (g : Nat) (p m : ByteArray) (n : Int) (hp : tmps.getD 6 undef = .pointer (some ⟨g, 0, none⟩)) (h : VB W g p m n) :
    (results Tryz.f11 tmps).run Tryz.prog W = .ok (.tuple #[.agg #[.string p, .string m, .int .i64 n], tmps.getD 7 undef, tmps.getD 8 undef]) W := by
  have hp' : tmps[6]?.getD undef = .pointer (some ⟨g, 0, none⟩) := by simpa using hp
  simp [results, Tryz.results11, hp', asAddr, loadVar, isAgg, run_underlying Tryz.underlying33, go_sem, h.c0, h.c1, h.c2]
abbrev rcell (ao : Option Addr) (n cp : Nat) (a : Int) (ko : Option Addr) (kn kcp : Nat) : Obj := .cells #[.slice ao n cp, .int .i64 a, .int .i64 0, .slice ko kn kcp, .int .i64 0] 77
theorem RY.new {w W : World} {ao ko : Option Addr} {cp kcp : Nat} {L : List TL} {K : List Dx} {a : Nat} (hi : EvIn w ao L ko K) (hk : K.length ≤ 8796093022208) (hb : Below w.heap.size w W) (hlt : w.heap.size < W.heap.size) : RY ⟨W.heap.size, ao, cp, L, ko, kcp, K⟩ (W.alloc (rcell ao L.length cp a ko K.length kcp)) a 0 0 := by
  have hb2 : Below w.heap.size w (W.alloc (rcell ao L.length cp a ko K.length kcp)) := bel_alloc hb _
  refine ⟨by simp, by simp, by simp, by simp, by simp, fun j => by simp only [World.frozen?]; rw [heap_alloc_new]; rfl, ?_, ?_, hi.hl, hk, hi.ot, hi.ok⟩
  · rcases hi.tk with h1 | ⟨b, off, e1, e2⟩
    · exact .inl h1
    · by_cases hz : L.length = 0
      · exact .inl (List.eq_nil_of_length_eq_zero hz)
      · have hbl : b < w.heap.size := World.block_lt_of_cell? w _ (e2 0 (by omega)).k
        exact .inr ⟨b, off, e1, by dsimp only; omega, fun i hi => (e2 i hi).below hb2 (Nat.le_refl _)⟩
  · rcases hi.df with h1 | ⟨b, off, e1, e2⟩
    · exact .inl h1
    · by_cases hz : K.length = 0
      · exact .inl (List.eq_nil_of_length_eq_zero hz)
      · have hbl : b < w.heap.size := World.block_lt_of_cell? w _ (e2 0 (by omega)).s
        exact .inr ⟨b, off, e1, by dsimp only; omega, fun i hi => (e2 i hi).turn (Turn.of_below hb2 (fun _ => False)) (fun e => e)⟩

set_option maxHeartbeats 4000000 in
set_option maxRecDepth 10000 in
theorem yEval_any (w : World) (ao ko : Option Addr) (cp kcp : Nat) (L : List TL) (K : List Dx) (a : Int) (hi : EvIn w ao L ko K) (hk : K.length ≤ 8796093022208) :
    Calls Tryz.prog 11 #[.slice ao L.length cp, .int .i64 a, .slice ko K.length kcp] w fun e w' => e = .returned (evE (evI K L a)) ∧ Below w.heap.size w w' := by
  unfold evI
  have V6 := VB.atY w ⟨#[]⟩ ⟨#[]⟩ 0 w.heap.size rfl
  obtain ⟨v0, v1, v2, v3⟩ := id V6
  by_cases h1 : a < 0
  · rw [if_pos (.inl h1)]
    go_enter Tryz.func11, Tryz.ntmps11
    go_wp2
    refine bodyPost_ret (resY_Eval _ _ w.heap.size _ _ _ rfl (VB.atY _ _ _ _ _ rfl)) rfl ⟨rfl, bel_alloc (Below.refl _ _) _⟩
  · by_cases h2 : (L.length : Int) < a
    · rw [if_pos (.inr h2)]
      go_enter Tryz.func11, Tryz.ntmps11
      go_wp2
      refine bodyPost_ret (resY_Eval _ _ w.heap.size _ _ _ rfl (VB.atY _ _ _ _ _ rfl)) rfl ⟨rfl, bel_alloc (Below.refl _ _) _⟩
    · rw [if_neg (by omega)]
      obtain ⟨n, rfl⟩ : ∃ n : Nat, a = (n : Int) := ⟨a.toNat, by omega⟩
      rw [Int.toNat_natCast]
      have hnl : n ≤ L.length := by omega
      have B1 : Below w.heap.size w (w.alloc yV) := bel_alloc (Below.refl _ _) yV
      have HX : Hid _ := ⟨RY.new (cp := cp) (kcp := kcp) (a := n) hi hk B1 (by simp)⟩
      have HLe : Hid _ := ⟨lev_eval _ _ n 0 HX.out rfl hnl⟩
      have HV : Hid _ := ⟨V6.alloc (rcell ao L.length cp n ko K.length kcp)⟩
      have HB : Hid (Below w.heap.size w ((w.alloc yV).alloc (rcell ao L.length cp n ko K.length kcp))) := ⟨bel_alloc B1 _⟩
      have hrb : (w.alloc yV).heap.size = w.heap.size + 1 := by simp
      rw [hrb] at HX HLe
      dsimp only at HLe
      have HGE : Hid (∀ u, TX (w.heap.size + 1) ((w.alloc yV).alloc (rcell ao L.length cp n ko K.length kcp)) u → Below w.heap.size w u) := ⟨fun u hu => HB.out.trans (hu.below (by simp; omega) (fun k e => by omega))⟩
      have hne1 : ¬ w.heap.size + 1 = w.heap.size := by omega
      have hne2 : ¬ w.heap.size = w.heap.size + 1 := by omega
      clear hi v0 v1 v2 v3 V6 B1
      cases hm : evalM K L n with
      | error er =>
        rw [hm] at HLe
        go_enter Tryz.func11, Tryz.ntmps11
        go_upto_region 6 with (go_at_call 26; (with_reducible refine HLe.out.mono ?_); rintro e w3 ⟨⟨x, he⟩, hne, T3, hE3⟩; subst he; have hne' : (er != 0) = true := (bne_iff_ne.2 hne); have HE3 : Hid _ := ⟨hE3.bel (bel_alloc (Below.refl _ _) (.cells #[.string x.p, .string x.m, .int .i64 x.n] 33))⟩; have HV3 : Hid _ := ⟨(HV.out.tx T3 hne2).alloc (.cells #[.string x.p, .string x.m, .int .i64 x.n] 33)⟩; have HB3 : Hid _ := ⟨bel_alloc (HGE.out _ T3) (.cells #[.string x.p, .string x.m, .int .i64 x.n] 33)⟩; have c4 : (w3.alloc (.cells #[.string x.p, .string x.m, .int .i64 x.n] 33)).cell? ⟨w.heap.size + 1, 4, none⟩ = some (.int .i64 er) := HE3.out.c4; clear T3 hE3)
        generalize w3.alloc (.cells #[.string x.p, .string x.m, .int .i64 x.n] 33) = u at *
        obtain ⟨y0, y1, y2, y3⟩ := id HV3.out
        have c4d := up_drew c4
        have y0d := up_drew y0
        have y1d := up_drew y1
        have y2d := up_drew y2
        have y3d : ∀ j, u.drew.frozen? ⟨w.heap.size, j, none⟩ = false := y3
        go_region_with (fail)
        all_goals
          go_wp2
          refine bodyPost_ret (resY_Eval _ _ w.heap.size _ _ _ rfl ((HV3.out.drewN 1).set _ _ _)) rfl ⟨rfl, ?_⟩
          exact ((HB3.out.drew.setCell (Nat.le_refl _) _).setCell (Nat.le_refl _) _).setCell (Nat.le_refl _) _
      | ok vb =>
        obtain ⟨x, b⟩ := vb
        rw [hm] at HLe
        go_enter Tryz.func11, Tryz.ntmps11
        go_upto_region 7 with (go_at_call 26; (with_reducible refine HLe.out.mono ?_); rintro e w3 ⟨he, hxo, T3, X3⟩; subst he; have HX3 : Hid _ := ⟨X3.alloc (.cells #[.string x.p, .string x.m, .int .i64 x.n] 33)⟩; have HV3 : Hid _ := ⟨(HV.out.tx T3 hne2).alloc (.cells #[.string x.p, .string x.m, .int .i64 x.n] 33)⟩; have HB3 : Hid _ := ⟨bel_alloc (HGE.out _ T3) (.cells #[.string x.p, .string x.m, .int .i64 x.n] 33)⟩; have HY3 : Hid _ := ⟨VB.atY w3 x.p x.m x.n w3.heap.size rfl⟩; have c4 : (w3.alloc (.cells #[.string x.p, .string x.m, .int .i64 x.n] 33)).cell? ⟨w.heap.size + 1, 4, none⟩ = some (.int .i64 0) := HX3.out.c4; have c1 : (w3.alloc (.cells #[.string x.p, .string x.m, .int .i64 x.n] 33)).cell? ⟨w.heap.size + 1, 1, none⟩ = some (.int .i64 (b : Int)) := HX3.out.c1; have hb3 : ¬ w3.heap.size = w.heap.size := (by have := (HV.out.tx T3 hne2).lt; omega); clear T3 X3)
        generalize w3.alloc (.cells #[.string x.p, .string x.m, .int .i64 x.n] 33) = u at *
        obtain ⟨y0, y1, y2, y3⟩ := id HV3.out
        obtain ⟨k0, k1, k2, k3⟩ := id HY3.out
        have c1d := up_drew c1
        have y0d := up_drew y0
        have y1d := up_drew y1
        have y2d := up_drew y2
        have k0d := up_drew k0
        have k1d := up_drew k1
        have k2d := up_drew k2
        have y3d : ∀ j, u.drew.frozen? ⟨w.heap.size, j, none⟩ = false := y3
        go_region_with (fail)
        all_goals
          go_wp2
          refine bodyPost_ret (resY_Eval _ _ w.heap.size _ _ _ rfl ((HV3.out.drewN 1).set _ _ _)) rfl ⟨rfl, ?_⟩
          exact ((HB3.out.drew.setCell (Nat.le_refl _) _).setCell (Nat.le_refl _) _).setCell (Nat.le_refl _) _
end Go.Proofs.YtljmbgflcidokaaGreatDoor

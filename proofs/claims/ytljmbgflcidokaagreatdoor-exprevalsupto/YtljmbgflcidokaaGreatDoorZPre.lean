/- Sums and brackets, plainly: P1107. firstPlaces of no Defs: a range over a function that comes to no round. Law ExprLaws: tokens that are handed in, as the program has them. -/
import Derived.Test.YtljmbgflcidokaaGreatDoorXLev
import Derived.Test.YtljmbgflcidokaaGreatDoorXOper
import Derived.Test.YtljmbgflcidokaaGreatDoorXKn
import Derived.RangeFuncNested
import Derived.RangeFuncBound
import Derived.RangeFuncCalls
import Derived.RangeFuncLeaves
import Derived.RangeFuncBox
import Derived.Shelf.Abstract
import Derived.Shelf.RegionOpen
import Derived.OwnWalkIn
import Derived.TacticsInMore
import Derived.LoopNIn
import Derived.LoopIn
import Derived.Maps.OwnIn
import Derived.Deep.RegionHeldLaw
import Derived.Deep.AppendLies
import Derived.LaidLaws
import Derived.Deep.Slices
import Derived.ChangeOld
import Derived.OpenShut
namespace Go.Proofs.YtljmbgflcidokaaGreatDoor
open Go.ChangeShapes Go.WideShapes Go.ChangeAt Go.RowKit
open Go.ChangeShapes Go.WideShapes Go.ChangeAt Go.RowKit Go.Maps Go.Shelf
set_option linter.unusedVariables false
set_option linter.unusedSimpArgs false

/-! brackets -/
def tkO : TL := (⟨4, 0, [40]⟩, 0)
def tkC : TL := (⟨4, 0, [41]⟩, 0)
/-- Tokens in brackets. -/
def inB (L : List TL) : List TL := tkO :: (L ++ [tkC])
theorem inB_len (L : List TL) : (inB L).length = L.length + 2 := by unfold inB; simp
theorem inB_lt {L : List TL} {a : Nat} (h : a < L.length) : tk (inB L) (a + 1) = tk L a := by
  unfold tk inB
  rw [List.getD_cons_succ]
  simp [List.getD, List.getElem?_append, h]
theorem inB_end (L : List TL) : tk (inB L) (L.length + 1) = ⟨4, 0, [41]⟩ := by
  unfold tk inB
  rw [List.getD_cons_succ]
  simp [List.getD, tkC]
theorem inB_past (L : List TL) : tk (inB L) (L.length + 2) = ⟨0, 0, []⟩ := tk_past (by rw [inB_len]; omega)
theorem inB_one {L : List TL} {a : Nat} (h : a ≤ L.length) : isOne (inB L) (a + 1) = isOne L a := by
  by_cases h1 : a < L.length
  · unfold isOne isSg
    rw [inB_lt h1]
  · obtain rfl : a = L.length := by omega
    unfold isOne isSg
    rw [inB_end, tk_past (Nat.le_refl _)]
    rfl
theorem inB_lv {L : List TL} {a : Nat} (n : Nat) (h : a ≤ L.length) : isLv (inB L) (a + 1) n = isLv L a n := by
  by_cases h1 : a < L.length
  · unfold isLv
    rw [inB_lt h1]
  · obtain rfl : a = L.length := by omega
    unfold isLv
    rw [inB_end, tk_past (Nat.le_refl _)]
    rfl
theorem inB_ones {L : List TL} : ∀ (f a : Nat), a ≤ L.length → onesN (inB L) f (a + 1) = onesN L f a
  | 0, a, h => rfl
  | f + 1, a, h => by
    show (if isOne (inB L) (a + 1) = true then 1 + onesN (inB L) f (a + 1 + 1) else 0) = (if isOne L a = true then 1 + onesN L f (a + 1) else 0)
    rw [inB_one h]
    cases h1 : isOne L a with
    | false => rfl
    | true => rw [if_pos rfl, if_pos rfl, inB_ones f (a + 1) (by have hz : a < L.length := one_lt h1; omega)]
theorem ones_le {L : List TL} : ∀ (f a : Nat), a ≤ L.length → a + onesN L f a ≤ L.length
  | 0, a, h => h
  | f + 1, a, h => by
    show a + (if isOne L a = true then 1 + onesN L f (a + 1) else 0) ≤ _
    cases h1 : isOne L a with
    | false => simpa using h
    | true =>
      rw [if_pos rfl]
      have := ones_le (L := L) f (a + 1) (by have hz : a < L.length := one_lt h1; omega)
      omega
theorem inB_onesF {L : List TL} {a : Nat} : ∀ (j : Nat) (v : Vx), a + j ≤ L.length → onesF (inB L) (a + 1) j v = onesF L a j v
  | 0, v, h => rfl
  | j + 1, v, h => by
    show (match oneV (tk (inB L) (a + 1 + j)).t v with | none => none | some v => onesF (inB L) (a + 1) j v) = (match oneV (tk L (a + j)).t v with | none => none | some v => onesF L a j v)
    rw [show a + 1 + j = a + j + 1 by omega, inB_lt (show a + j < L.length by omega)]
    cases oneV (tk L (a + j)).t v with
    | none => rfl
    | some y => exact inB_onesF j y (by omega)
/-- What is answered in brackets, as it is without them, or: too deep. -/
def Sh (L : List TL) (f g : Nat → Res) : Prop := ∀ a v b, a ≤ L.length → f a = .ok (v, b) → g (a + 1) = .ok (v, b + 1) ∨ g (a + 1) = .error 6
theorem sh_atom {L : List TL} {f g : Nat → Res} (h : Sh L f g) : Sh L (atomM [] L f) (atomM [] (inB L) g) := by
  intro a v b ha e
  have halt : a < L.length := by
    apply Classical.byContradiction
    intro hn
    unfold atomM isSg at e
    rw [tk_past (by omega)] at e
    cases e
  unfold atomM at e ⊢
  have hs : isSg (inB L) (a + 1) [40] = isSg L a [40] := by unfold isSg; rw [inB_lt halt]
  rw [hs, inB_lt halt]
  cases h40 : isSg L a [40] with
  | true =>
    rw [h40, if_pos rfl] at e
    rw [if_pos rfl]
    cases hf : f (a + 1) with
    | error x => rw [hf] at e; cases e
    | ok p =>
      obtain ⟨y, c⟩ := p
      rw [hf] at e
      simp only at e
      cases h41 : isSg L c [41] with
      | false => rw [h41] at e; cases e
      | true =>
        rw [h41, if_pos rfl] at e
        have hc := sg_lt h41
        have h41' : isSg (inB L) (c + 1) [41] = true := by unfold isSg at h41 ⊢; rw [inB_lt hc]; exact h41
        injection e with e
        injection e with e1 e2
        subst e1 e2
        rcases h (a + 1) y c (by omega) hf with hg | hg
        · left
          rw [hg]
          simp only
          rw [h41', if_pos rfl]
        · right
          rw [hg]
  | false =>
    rw [h40, if_neg (by simp)] at e
    rw [if_neg (by simp)]
    left
    split at e
    · rename_i h2
      rw [if_pos h2]
      injection e with e
      injection e with e1 e2
      subst e1 e2
      rfl
    · rename_i h2
      rw [if_neg h2]
      split at e
      · rename_i h3
        rw [if_pos h3]
        injection e with e
        injection e with e1 e2
        subst e1 e2
        rfl
      · cases e
theorem sh_oper {L : List TL} {f g : Nat → Res} (h : Sh L f g) : Sh L (operM [] L f) (operM [] (inB L) g) := by
  intro a v b ha e
  unfold operM at e ⊢
  rw [inB_ones 201 a ha]
  split at e
  · cases e
  · rename_i h2
    rw [if_neg h2]
    have hle := ones_le 201 a ha
    generalize onesN L 201 a = n at *
    cases hf : atomM [] L f (a + n) with
    | error x => rw [hf] at e; cases e
    | ok p =>
      obtain ⟨y, c⟩ := p
      rw [hf] at e
      simp only at e
      cases ho : onesF L a n y with
      | none => rw [ho] at e; cases e
      | some z =>
        rw [ho] at e
        injection e with e
        injection e with e1 e2
        subst e1 e2
        rw [show a + 1 + n = a + n + 1 by omega]
        rcases sh_atom h (a + n) y c hle hf with hg | hg
        · left
          rw [hg]
          simp only
          rw [inB_onesF n y hle, ho]
        · right
          rw [hg]
theorem sh_levF {L : List TL} {f g : Nat → Res} (n : Nat) (h : Sh L f g) (hF : Fwd L f) : ∀ (k : Nat) (v : Vx) (a : Nat) (x : Vx) (b : Nat), a ≤ L.length → L.length < k + a → levF L n f k v a = .ok (x, b) → levF (inB L) n g (k + 1) v (a + 1) = .ok (x, b + 1) ∨ levF (inB L) n g (k + 1) v (a + 1) = .error 6
  | 0, v, a, x, b, ha, hk, e => by omega
  | k + 1, v, a, x, b, ha, hk, e => by
    have u1 : levF L n f (k + 1) v a = (if isLv L a n = true then match f (a + 1) with | .error e => .error e | .ok (x, b) => (match twoV (tk L a).t v x with | none => .error 110 | some y => levF L n f k y b) else .ok (v, a)) := rfl
    have u2 : levF (inB L) n g (k + 1 + 1) v (a + 1) = (if isLv (inB L) (a + 1) n = true then match g (a + 1 + 1) with | .error e => .error e | .ok (x, b) => (match twoV (tk (inB L) (a + 1)).t v x with | none => .error 110 | some y => levF (inB L) n g (k + 1) y b) else .ok (v, a + 1)) := rfl
    rw [u1] at e
    rw [u2, inB_lv n ha]
    cases hl : isLv L a n with
    | false =>
      rw [hl, if_neg (by simp)] at e
      rw [if_neg (by simp)]
      injection e with e
      injection e with e1 e2
      subst e1 e2
      exact .inl rfl
    | true =>
      rw [hl, if_pos rfl] at e
      rw [if_pos rfl, inB_lt (lv_lt hl)]
      cases hf : f (a + 1) with
      | error x => rw [hf] at e; cases e
      | ok p =>
        obtain ⟨y, c⟩ := p
        rw [hf] at e
        simp only at e
        have hc := hF _ _ _ hf
        cases ht : twoV (tk L a).t v y with
        | none => rw [ht] at e; cases e
        | some z =>
          rw [ht] at e
          simp only at e
          rcases h (a + 1) y c (by omega) hf with hg | hg
          · rw [hg]
            simp only
            rw [ht]
            exact sh_levF n h hF k z c x b hc.2 (by omega) e
          · right
            rw [hg]
theorem sh_lev {L : List TL} {f g : Nat → Res} (n : Nat) (h : Sh L f g) (hF : Fwd L f) : Sh L (levM L n f) (levM (inB L) n g) := by
  intro a v b ha e
  unfold levM at e ⊢
  cases hf : f a with
  | error x => rw [hf] at e; cases e
  | ok p =>
    obtain ⟨y, c⟩ := p
    rw [hf] at e
    simp only at e
    have hc := hF _ _ _ hf
    rcases h a y c ha hf with hg | hg
    · rw [hg]
      simp only
      rw [show (inB L).length + 1 - (c + 1) = L.length + 1 - c + 1 by rw [inB_len]; omega]
      exact sh_levF n h hF _ y c v b hc.2 (by omega) e
    · right
      rw [hg]
theorem sh_expr {L : List TL} {f g : Nat → Res} (h : Sh L f g) (hF : Fwd L f) : Sh L (exprOf [] L f) (exprOf [] (inB L) g) :=
  sh_lev 2 (sh_lev 1 (sh_lev 0 (sh_oper h) (oper_fwd hF)) (lev_fwd (oper_fwd hF))) (lev_fwd (lev_fwd (oper_fwd hF)))
theorem sh_inner (L : List TL) : ∀ d, Sh L (innerM [] L (d + 1)) (innerM [] (inB L) d)
  | 0 => fun a v b _ _ => .inr rfl
  | d + 1 => sh_expr (sh_inner L d) (inner_fwd [] L (d + 1))
/-- Brackets change nothing. -/
theorem brackets {L : List TL} {v : Vx} (h : evalM [] L 0 = .ok (v, L.length)) : evalM [] (inB L) 0 = .ok (v, L.length + 2) ∨ evalM [] (inB L) 0 = .error 6 := by
  have h1 : innerM [] (inB L) 50 1 = .ok (v, L.length + 1) ∨ innerM [] (inB L) 50 1 = .error 6 := sh_expr (sh_inner L 49) (inner_fwd [] L 50) 0 v L.length (by omega) h
  have hone : isOne (inB L) 0 = false := rfl
  have h40 : isSg (inB L) 0 [40] = true := rfl
  have h41 : isSg (inB L) (L.length + 1) [41] = true := by unfold isSg; rw [inB_end]; rfl
  have hop : operM [] (inB L) (innerM [] (inB L) 50) 0 = (match innerM [] (inB L) 50 1 with | .error e => .error e | .ok (v, b) => if isSg (inB L) b [41] = true then .ok (v, b + 1) else .error 110) := by
    unfold operM
    rw [onesN_end hone, if_neg (by omega)]
    unfold atomM
    rw [h40, if_pos rfl]
    cases innerM [] (inB L) 50 1 with
    | error x => rfl
    | ok p =>
      obtain ⟨y, c⟩ := p
      simp only
      cases isSg (inB L) c [41] <;> rfl
  have hend : ∀ n, isLv (inB L) (L.length + 2) n = false := fun n => by unfold isLv; rw [inB_past]; rfl
  unfold evalM exprOf
  rcases h1 with h1 | h1
  · left
    rw [h1] at hop
    simp only at hop
    rw [h41, if_pos rfl] at hop
    have hl : ∀ n (f : Nat → Res), f 0 = .ok (v, L.length + 2) → levM (inB L) n f 0 = .ok (v, L.length + 2) := fun n f hf => by
      unfold levM
      rw [hf]
      exact levF_end (hend n) _
    exact hl 2 _ (hl 1 _ (hl 0 _ hop))
  · right
    rw [h1] at hop
    simp only at hop
    have hl : ∀ n (f : Nat → Res), f 0 = .error 6 → levM (inB L) n f 0 = .error 6 := fun n f hf => by
      unfold levM
      rw [hf]
    exact hl 2 _ (hl 1 _ (hl 0 _ hop))

/-! sums -/
theorem cutN_comm (a b : ByteArray) : cutN b a = ((cutN a b).2, (cutN a b).1) := by
  unfold cutN
  rw [sB_comm b a]
  split <;> rfl
theorem twoN_comm (a b c d : ByteArray) : twoN b a d c = twoN a b c d := by
  unfold twoN
  rw [Bool.and_comm (!sB b es), Bool.and_comm (!sB d es)]
theorem one_es {a b c d : ByteArray} (h : twoN a b c d = false) : (a = es ∨ b = es) ∧ (c = es ∨ d = es) := by
  unfold twoN at h
  rw [Bool.or_eq_false_iff, Bool.and_eq_false_iff, Bool.and_eq_false_iff] at h
  simp only [Bool.not_eq_false', sB_iff] at h
  exact h
theorem app_comm {a b : ByteArray} (h : a = es ∨ b = es) : a ++ b = b ++ a := by
  rcases h with rfl | rfl
  · rw [cat_left, cat_right]
  · rw [cat_left, cat_right]
theorem addR_comm (a b : Vx) : addR b a = addR a b := by
  unfold addR
  rw [cutN_comm a.m b.p, cutN_comm a.p b.m]
  simp only
  rw [twoN_comm (cutN a.p b.m).1 (cutN a.m b.p).2 (cutN a.m b.p).1 (cutN a.p b.m).2]
  cases h : twoN (cutN a.p b.m).1 (cutN a.m b.p).2 (cutN a.m b.p).1 (cutN a.p b.m).2 with
  | true => rfl
  | false =>
    obtain ⟨h1, h2⟩ := one_es h
    rw [if_neg (by simp), if_neg (by simp), app_comm h1, app_comm h2, Int.add_comm]
theorem addV_comm (a b : Vx) : addV b a = addV a b := addR_comm _ _
/-- A value without both names, if they are one. -/
def Rdc (v : Vx) : Prop := v.p = v.m → v.p = es ∧ v.m = es
theorem redV_rdc (v : Vx) : Rdc (redV v) := by
  unfold redV
  split
  · exact fun _ => ⟨rfl, rfl⟩
  · rename_i h
    rw [sB_iff] at h
    exact fun e => absurd e h
theorem redV_id {v : Vx} (h : Rdc v) : redV v = v := by
  unfold redV
  split
  · rename_i hs
    obtain ⟨h1, h2⟩ := h ((sB_iff _ _).1 hs)
    cases v
    simp only at h1 h2
    rw [h1, h2]
  · rfl
theorem turn_red (b : Vx) : redV (turnV b) = turnV (redV b) := by
  unfold redV turnV
  simp only
  rw [sB_comm b.m b.p]
  split <;> rfl
theorem cutN_eq {a b : ByteArray} (h : a = b) : cutN a b = (es, es) := by
  unfold cutN
  rw [if_pos ((sB_iff a b).2 h)]
theorem cutN_ne {a b : ByteArray} (h : ¬ a = b) : cutN a b = (a, b) := by
  unfold cutN
  rw [if_neg (fun e => h ((sB_iff a b).1 e))]
theorem addR_rdc {a b x : Vx} (ha : Rdc a) (hb : Rdc b) (h : addR a b = some x) : Rdc x := by
  obtain ⟨p, m, n⟩ := a
  obtain ⟨q, k, i⟩ := b
  unfold addR at h
  simp only [Rdc] at h ha hb ⊢
  split at h
  · cases h
  · rename_i h2
    obtain ⟨h3, h4⟩ := one_es (Bool.not_eq_true _ ▸ h2)
    injection h with h
    subst h
    simp only
    by_cases e1 : p = k <;> by_cases e2 : m = q
    · rw [cutN_eq e1, cutN_eq e2] at *
      intro _
      exact ⟨cat_left es, cat_left es⟩
    · rw [cutN_eq e1, cutN_ne e2] at *
      simp only [cat_left, cat_right] at *
      intro e
      exact absurd e.symm e2
    · rw [cutN_ne e1, cutN_eq e2] at *
      simp only [cat_left, cat_right] at *
      intro e
      exact absurd e e1
    · rw [cutN_ne e1, cutN_ne e2] at *
      simp only at *
      rcases h3 with rfl | rfl <;> rcases h4 with rfl | rfl
      · simp only [cat_left, cat_right]; exact hb
      · simp only [cat_left, cat_right]; exact fun e => absurd e.symm e2
      · simp only [cat_left, cat_right]; exact fun e => absurd e e1
      · simp only [cat_left, cat_right]; exact ha
theorem add_zero {a : Vx} : addV a Vx.zero = some ⟨(redV a).p, (redV a).m, wrap64 ((redV a).n + 0)⟩ := by
  unfold addV
  have h0 : redV Vx.zero = ⟨es, es, 0⟩ := redV_id (v := ⟨es, es, 0⟩) (fun _ => ⟨rfl, rfl⟩)
  rw [h0]
  have hr := redV_rdc a
  generalize redV a = v at *
  obtain ⟨p, m, n⟩ := v
  have hc : ∀ x, cutN x es = (x, es) := fun x => by
    by_cases h : x = es
    · rw [cutN_eq h, h]
    · rw [cutN_ne h]
  unfold addR
  simp only [hc]
  rw [if_neg, cat_left, cat_left]
  unfold twoN
  rw [sB_es]
  simp
/-- What is added and taken away again changes nothing. -/
theorem add_sub {a b x y : Vx} (h : addV a b = some x) (hy : subV x b = some y) : addV a Vx.zero = some y := by
  rw [add_zero]
  unfold subV addV at *
  rw [turn_red] at hy
  have ha := redV_rdc a
  have hb := redV_rdc b
  generalize redV a = a at *
  generalize redV b = b at *
  rw [redV_id (addR_rdc ha hb h)] at hy
  obtain ⟨p, m, n⟩ := a
  obtain ⟨q, k, i⟩ := b
  unfold addR turnV at *
  simp only [Rdc] at *
  split at h
  · cases h
  · rename_i h2
    obtain ⟨h3, h4⟩ := one_es (Bool.not_eq_true _ ▸ h2)
    clear h2
    injection h with h
    subst h
    simp only at hy
    split at hy
    · cases hy
    · rename_i h5
      obtain ⟨h6, h7⟩ := one_es (Bool.not_eq_true _ ▸ h5)
      clear h5
      injection hy with hy
      subst hy
      have hw : wrap64 (n + 0) = wrap64 (wrap64 (n + i) + wrap64 (-i)) := by unfold wrap64; omega
      rw [hw]
      generalize wrap64 (wrap64 (n + i) + wrap64 (-i)) = z
      have hce : ∀ x, cutN x es = (x, es) := fun x => by
        by_cases h : x = es
        · rw [cutN_eq h, h]
        · rw [cutN_ne h]
      have hec : ∀ x, cutN es x = (es, x) := fun x => by
        by_cases h : es = x
        · rw [cutN_eq h, ← h]
        · rw [cutN_ne h]
      by_cases e1 : p = k
      · by_cases e2 : m = q
        · simp only [cutN_eq e1, cutN_eq e2, cat_left, cat_right, hec]
          rw [e1, e2]
        · simp only [cutN_eq e1, cutN_ne e2, cat_left, cat_right, cutN_eq (rfl : q = q)]
          by_cases e3 : m = k
          · obtain ⟨rfl, rfl⟩ := ha (e1.trans e3.symm)
            simp only [cutN_eq e3]
          · simp only [cutN_ne e3]
            rw [e1]
      · by_cases e2 : m = q
        · simp only [cutN_ne e1, cutN_eq e2, cat_left, cat_right, cutN_eq (rfl : k = k)]
          by_cases e3 : p = q
          · obtain ⟨rfl, rfl⟩ := ha (e3.trans e2.symm)
            simp only [cutN_eq e3]
          · simp only [cutN_ne e3]
            rw [e2]
        · simp only [cutN_ne e1, cutN_ne e2] at h3 h4 ⊢
          rcases h3 with rfl | rfl <;> rcases h4 with rfl | rfl
          · simp only [cat_left, cat_right, cutN_eq (rfl : q = q), cutN_eq (rfl : k = k)]
          · exact absurd rfl e1
          · exact absurd rfl e2
          · simp only [cat_left, cat_right, hce]
attribute [local go_sem] Oper.semAt_some

theorem backward_nil (w : World) : Calls Tryz.prog 129 #[.slice none 0 0] w fun e w' => e = .returned (.func (.func 131) #[] #[.pointer (some ⟨w.heap.size, 0, none⟩)]) ∧ w' = w.alloc (.cells #[.slice none 0 0] 31) := by
  have hmf : ∀ (fn : Fn) (first cap : Array Value) (w : World), (Instr.makeFunc fn first cap).run Tryz.prog w = .ok (.func fn first cap) w := by intros; rfl
  go_enter Tryz.func129, Tryz.ntmps129
  go_wp2
  go_ret
  exact ⟨rfl, rfl⟩

theorem backward1_nil (f : Value) (b : Nat) (w : World) (hc : w.cell? ⟨b, 0, none⟩ = some (.slice none 0 0)) : Calls Tryz.prog 131 #[f, .pointer (some ⟨b, 0, none⟩)] w fun e w' => (∃ v, e = .returned v) ∧ w' = w := by
  go_enter Tryz.func131, Tryz.ntmps131
  go_wp2
  go_loopw [3] (fun i wr => i = .int .i64 (-1) ∧ wr = w) (fun _ _ => 0)
  case atStart => exact ⟨by go_num, rfl⟩
  case round =>
    obtain ⟨rfl, rfl⟩ := hrel
    go_wp2
    go_end0
    exact ⟨⟨_, rfl⟩, rfl⟩

theorem stops_nil (n Bs n₀ : Nat) (w : World) (hBs : Bs < w.heap.size) (hc : w.cell? ⟨Bs, 0, none⟩ = some (.slice none 0 0)) :
    SeqStopsK Fence.wide n Tryz.prog 131 #[.pointer (some ⟨Bs, 0, none⟩)] (fun x : Empty => (x.elim : Array Value)) (Below n₀) (fun ys => ys = []) (fun _ => False) 0 w := fun l J Jx W hW _ _ hY h0 => by
  have hc' := (hW.cell (p := ⟨Bs, 0, none⟩) hBs).trans hc
  refine callsIn_wide.2 ((backward1_nil (.func (.yield l) #[] #[]) Bs W hc').mono ?_)
  rintro e w' ⟨he, rfl⟩
  exact ⟨he, .inl ⟨[], rfl, h0⟩⟩

set_option maxRecDepth 100000 in
set_option maxHeartbeats 2000000 in
theorem firstPlaces_nil (w : World) : Calls Tryz.prog 116 #[.slice none 0 0] w fun e w' => e = .returned (.map (some w.heap.size)) ∧ w'.ownsMap Tryz.prog 9 RV w.heap.size 0 (.map []) ∧ Below w.heap.size w w' := by
  have hmm : ∀ w : World, (Instr.makeMap 63 (some (.int .i64 0))).run Tryz.prog w = .ok (.map (some w.heap.size)) (w.alloc (.map #[] 0)) := by intro w; kernel_rfl
  refine (callsIn_wide (n := 3)).1 ?_
  refine callsIn_of_wp_marks Tryz.func116 rfl trivial ?_ rfl
  simp only [Tryz.ntmps116, List.size_toArray, List.length_cons, List.length_nil, Nat.reduceAdd, Nat.reduceSub, Array.replicate_succ, Array.replicate_zero, List.push_toArray, List.append_toArray, List.nil_append, List.cons_append]
  gi_wp2_with (refine ⟨trivial, ?_⟩; gi_at_call 129; refine (callsIn_wide.2 (backward_nil _)).mono ?_; rintro e w' ⟨rfl, rfl⟩)
  have hm0 := World.ownsMap_made w Tryz.prog 9 RV
  have bS := (Boxed.new (w.alloc (.map #[] 0)) 63 (.map (some w.heap.size))).alloc (.cells #[.slice none 0 0] 31)
  have bN := Boxed.new ((w.alloc (.map #[] 0)).alloc (.cells #[.map (some w.heap.size)] 63)) 31 (.slice none 0 0)
  simp only [World.size_alloc] at bS bN
  have hB0 : Below w.heap.size w (((w.alloc (.map #[] 0)).alloc (.cells #[.map (some w.heap.size)] 63)).alloc (.cells #[.slice none 0 0] 31)) := bel_alloc (bel_alloc (bel_alloc (Below.refl _ _) _) _) _
  refine wpIn_rangeFunc_ownG rfl (by omega) (gf := 131) (lb := #[.pointer (some ⟨w.heap.size + 1 + 1, 0, none⟩)]) rfl trivial (enters_of Tryz.func131 (by kernel_rfl) rfl)
    (stops_nil (3 - 1) (w.heap.size + 1 + 1) w.heap.size _ (by simp) bN.cell) belowK_t (belowK_b (by simp; omega)) (Below.refl _ _) (fun x => x.elim)
    (fun pre W => (W.cell? ⟨w.heap.size + 1, 0, none⟩ = some (.map (some w.heap.size)) ∧ W.ownsMap Tryz.prog 9 RV w.heap.size 0 (.map [])) ∧ Below w.heap.size w W)
    (fun _ _ _ => False) ?hI (fun _ _ _ _ _ hs _ _ => hs) ?h0 (fun x => x.elim) (fun l x => x.elim) (fun l pre x => x.elim) ?done ?stop
  case hI => exact OwnFrom.and (fun s A B row hs hg hr => ⟨cell_kept hs.1 hg (fun r e => (hr r e).2), hs.2.kept hg (fun e => by have := (hr _ e.symm).1; simp at this; omega)⟩) (ownFrom_below (Nat.le_refl _) (by simp; omega))
  case h0 => exact ⟨⟨bS.cell, (hm0.alloc _).alloc _⟩, hB0⟩
  case done =>
    rintro D ys W hD rfl ⟨⟨hc, hm⟩, hB⟩ hK
    gi_wp2
    refine ⟨by simp, .inl ⟨_, _, rfl, run_takeDeferred hK, ?_⟩⟩
    exact ⟨_, results_tmp rfl _ _ _, rfl, hm.kept (grownBy_putObj' _ D _) (fun e => by cases e; simp at hD; omega), hB.trans (belowK_b (w := w) (Nat.le_refl _) W D _ _ (by simp at hD; omega) hK rfl rfl)⟩
  case stop =>
    rintro D c pre W _ h _
    exact h.elim

section
variable {g : Gx} {w w' : World} {a dep ask : Nat} {pv : Value}
theorem RX.setPl (h : RX g w a dep ask pv) (v : Value) (hp : PlOk w g.rb g.K v) : RX g (w.setCell ⟨g.rb, 5, none⟩ v) a dep ask v := by
  have ht : TX g.rb w (w.setCell ⟨g.rb, 5, none⟩ v) := Turn.setCell (S := fun k => k = g.rb) (Turn.refl _ w) ⟨g.rb, 5, none⟩ rfl _
  refine h.move ht ?_ ?_ ?_ ?_ ?_ ?_ ?_ ?_ (fun j => (World.frozen?_setCell _ _ _ _).trans (h.fz j)) h.ak (hp.turn ht)
  · simp [go_sem, h.c1]
  · simp [go_sem, h.c2]
  · simp [go_sem, h.c4]
  · simp [go_sem, h.c5]
  · simp [go_sem]
  · simp [go_sem]
  · simp [go_sem]
  · simp [go_sem]
end

theorem zeroI (w : World) : (zeroValue 3).run Tryz.prog w = .ok (.int .i64 0) w := by kernel_rfl
theorem undPl : Tryz.prog.underlying 63 = some (.map 9 3) := by kernel_rfl
/-- The places of all Defs, as they were noted. -/
def PlM (u : World) (b : Nat) (K : List Dx) : Prop := ∃ n D, u.ownsMap Tryz.prog 9 RV b n D ∧ Inv D (plE K)
theorem look_pl (K : List Dx) (s : ByteArray) (hz : s.size ≤ 140737488355328) : ∃ (i : Int) (q : Bool), ((q = true ∧ idxF K s 0 = i) ∨ (q = false ∧ idxF K s 0 = -1)) ∧ ∀ (u : World) (b : Nat), PlM u b K → (Instr.lookup 63 (.map (some b)) (.string s) true).run Tryz.prog u = .ok (.tuple #[.int .i64 i, .bool q]) u := by
  have hk := WideMaps.keyOf_string_mk (P := Tryz.prog) Tryz.underlying9 (s := s) (by unfold maxLen; omega)
  unfold idxF
  rw [List.drop_zero]
  cases hf : K.findIdx? (fun d => sB d.s s) with
  | none =>
    refine ⟨0, false, .inr ⟨rfl, rfl⟩, fun u b h => ?_⟩
    obtain ⟨n, D, h1, h2⟩ := h
    obtain ⟨v, ps, hrun, hv⟩ := h1.look_ok law9 undPl (zeroI u) (zd := .held (.int .i64 0)) (zp := []) rfl hk
    have hh : has D (kl s) = false := by
      cases e : has D (kl s) with
      | false => rfl
      | true =>
        obtain ⟨v, ⟨i, hi, _⟩, _⟩ := h2.snd s (.held (.int .i64 0)) e
        rw [hf] at hi
        cases hi
    rw [show Lit.string s.data.toList = kl s from rfl] at hrun hv
    have e : v = .int .i64 0 := held_inj hv (by rw [atKey_of_not_has hh])
    rw [hrun, hh, e]
  | some i =>
    refine ⟨((0 + i : Nat) : Int), true, .inl ⟨rfl, rfl⟩, fun u b h => ?_⟩
    obtain ⟨n, D, h1, h2⟩ := h
    obtain ⟨v, ps, hrun, hv⟩ := h1.look_ok law9 undPl (zeroI u) (zd := .held (.int .i64 0)) (zp := []) rfl hk
    have hh := h2.cmp s (.int .i64 (i : Int)) ⟨i, hf, rfl⟩
    obtain ⟨x, ⟨j, hj, hx⟩, hat⟩ := h2.snd s (.held (.int .i64 0)) hh
    rw [hf] at hj
    have hj2 : i = j := Option.some.inj hj
    subst hj2
    subst hx
    rw [show Lit.string s.data.toList = kl s from rfl] at hrun hv
    have e : v = .int .i64 (i : Int) := held_inj hv hat
    rw [Nat.zero_add, hrun, hh, e]

/-- What firstPlaces is asked for. -/
def FirstC (g : Gx) : Prop := ∀ W : World, Defs W g.rb g.kv g.K → Calls Tryz.prog 116 #[g.kv] W fun e w' => ∃ pb, e = .returned (.map (some pb)) ∧ W.heap.size ≤ pb ∧ PlM w' pb g.K ∧ Below W.heap.size W w'
theorem first_nil (g : Gx) (hk : g.kv = .slice none 0 0) (hK : g.K = []) : FirstC g := fun W _ => by
  rw [hk, hK]
  refine (firstPlaces_nil W).mono ?_
  rintro e w' ⟨rfl, h1, h2⟩
  exact ⟨_, rfl, Nat.le_refl _, ⟨0, .map [], h1, Inv.none (fun t v ⟨i, hi, _⟩ => by cases hi)⟩, h2⟩

section
variable {g : Gx} {w w' : World} {a dep ask : Nat} {pv : Value}
theorem mapnil_yes (w : World) : (binOp .eql 63 (.map none) (.map none)).run Tryz.prog w = .ok (.bool true) w := by kernel_rfl
theorem mapnil_no (b : Nat) (w : World) : (binOp .eql 63 (.map (some b)) (.map none)).run Tryz.prog w = .ok (.bool false) w := by kernel_rfl
set_option maxHeartbeats 1000000 in
theorem place_old (h : RX g w a dep ask pv) (hk : ask < a) (hal : a ≤ g.L.length) (h8 : ¬ ask < 8) (s : ByteArray) (hz : s.size ≤ 140737488355328) (pb : Nat) (hp : pv = .map (some pb)) : Calls Tryz.prog 100 #[.pointer (some ⟨g.rb, 3, none⟩), .string s] w fun e w' => e = .returned (.int .i64 (idxF g.K s 0)) ∧ TX g.rb w w' ∧ RX g w' a dep (ask + 1) pv := by
  subst hp
  have hmn := mapnil_no pb
  have hrb := h.lt
  have hrb' : ¬ w.heap.size = g.rb := by omega
  have hrb2 : ¬ g.rb = w.heap.size := by omega
  have c4 := h.c4
  have c5 := h.c5
  have z4 := h.fz 4
  have hw : IntKind.i64.wrap ((ask : Int) + 1) = (ask : Int) + 1 := by rw [IntKind.wrap_i64]; have := h.hl; omega
  have hle : ¬ (ask : Int) + 1 ≤ 8 := by omega
  have X1 := (h.setAsk (ask + 1) ((ask : Int) + 1) (by omega) (by omega)).alloc (.cells #[.string s] 9)
  have T1 : TX g.rb w ((w.setCell ⟨g.rb, 4, none⟩ (.int .i64 ((ask : Int) + 1))).alloc (.cells #[.string s] 9)) := Turn.alloc (TX.set (Turn.refl _ w) 4 _) _
  obtain ⟨i, q, hiq, hl⟩ := look_pl g.K s hz
  have hpl : PlM ((w.setCell ⟨g.rb, 4, none⟩ (.int .i64 ((ask : Int) + 1))).alloc (.cells #[.string s] 9)).drew pb g.K := by
    rcases X1.drew.pl with e | ⟨pb', n, D, e, _, e3, e4⟩
    · cases e
    · cases e
      exact ⟨n, D, e3, e4⟩
  have hlk := hl _ _ hpl
  have hc1 : ((w.setCell ⟨g.rb, 4, none⟩ (.int .i64 ((ask : Int) + 1))).alloc (.cells #[.string s] 9)).drew.cell? ⟨w.heap.size, 0, none⟩ = some (.string s) := by
    have e : (w.setCell ⟨g.rb, 4, none⟩ (.int .i64 ((ask : Int) + 1))).heap.size = w.heap.size := by simp [World.setCell]
    simp only [World.cell?, World.drew]
    rw [← e, heap_alloc_new]
    rfl
  have k5 := X1.drew.c5
  have HX : Hid _ := ⟨X1.drew⟩
  have HT : Hid _ := ⟨T1⟩
  have HD : Hid (∀ u : World, TX g.rb w u → TX g.rb w u.drew) := ⟨fun u hu => TX.bel hu (Below.refl _ _).drew⟩
  clear X1 T1 hpl hl h
  generalize idxF g.K s 0 = M at *
  go_enter Tryz.func100, Tryz.ntmps100
  go_upto_region 6 with (fail)
  go_region_held3 (fun u => u.cell? ⟨g.rb, 5, none⟩ = some (.map (some pb)) ∧ u.cell? ⟨w.heap.size, 0, none⟩ = some (.string s) ∧ Sem.run Tryz.prog (Instr.lookup 63 (.map (some pb)) (.string s) true) u = .ok (.tuple #[.int .i64 i, .bool q]) u)
    (first | (with_reducible assumption) | exact ⟨k5, hc1, hlk⟩)
    (fail)
  rcases hiq with ⟨rfl, rfl⟩ | ⟨rfl, rfl⟩
  all_goals
    go_wp2
    go_ret
    exact ⟨rfl, HD.out _ HT.out, HX.out⟩

set_option maxHeartbeats 1000000 in
theorem place_new (h : RX g w a dep ask (.map none)) (hk : ask < a) (hal : a ≤ g.L.length) (h8 : ¬ ask < 8) (s : ByteArray) (hz : s.size ≤ 140737488355328) (hF : FirstC g) : Calls Tryz.prog 100 #[.pointer (some ⟨g.rb, 3, none⟩), .string s] w fun e w' => e = .returned (.int .i64 (idxF g.K s 0)) ∧ TX g.rb w w' ∧ ∃ pv', RX g w' a dep (ask + 1) pv' := by
  have hmn := mapnil_yes
  have hrb := h.lt
  have hrb' : ¬ w.heap.size = g.rb := by omega
  have hrb2 : ¬ g.rb = w.heap.size := by omega
  have c3 := h.c3
  have c4 := h.c4
  have c5 := h.c5
  have z4 := h.fz 4
  have hw : IntKind.i64.wrap ((ask : Int) + 1) = (ask : Int) + 1 := by rw [IntKind.wrap_i64]; have := h.hl; omega
  have hle : ¬ (ask : Int) + 1 ≤ 8 := by omega
  have X1 := (h.setAsk (ask + 1) ((ask : Int) + 1) (by omega) (by omega)).alloc (.cells #[.string s] 9)
  have T1 : TX g.rb w ((w.setCell ⟨g.rb, 4, none⟩ (.int .i64 ((ask : Int) + 1))).alloc (.cells #[.string s] 9)) := Turn.alloc (TX.set (Turn.refl _ w) 4 _) _
  obtain ⟨i, q, hiq, hl⟩ := look_pl g.K s hz
  have HC : Hid (((w.setCell ⟨g.rb, 4, none⟩ (.int .i64 ((ask : Int) + 1))).alloc (.cells #[.string s] 9)).cell? ⟨w.heap.size, 0, none⟩ = some (.string s)) := ⟨by
    have e : (w.setCell ⟨g.rb, 4, none⟩ (.int .i64 ((ask : Int) + 1))).heap.size = w.heap.size := by simp [World.setCell]
    simp only [World.cell?]
    rw [← e, heap_alloc_new]
    rfl⟩
  have HF : Hid _ := ⟨hF _ X1.df⟩
  have HX : Hid _ := ⟨X1⟩
  have HT : Hid _ := ⟨T1⟩
  have HL : Hid _ := ⟨hl⟩
  have hsz : w.heap.size < ((w.setCell ⟨g.rb, 4, none⟩ (.int .i64 ((ask : Int) + 1))).alloc (.cells #[.string s] 9)).heap.size := World.block_lt_of_cell? _ _ HC.out
  have HS : Hid _ := ⟨hsz⟩
  clear X1 T1 hl h hsz
  generalize idxF g.K s 0 = M at *
  go_enter Tryz.func100, Tryz.ntmps100
  go_upto_region 6 with (go_at_call 116; (with_reducible refine HF.out.mono ?_); rintro e w2 ⟨pb, he, hpb, hpm, hb2⟩; subst he; have X2 := HX.out.bel hb2; have z5 := X2.fz 5; have k5 := X2.c5; have HX2 : Hid _ := ⟨X2⟩; have HB2 : Hid _ := ⟨hb2⟩; have HPM : Hid _ := ⟨hpm⟩; have HPB : Hid _ := ⟨hpb⟩; have e0 := to_bel hb2 HC.out; clear X2 hb2 hpm hpb)
  have hpr : ¬ pb = g.rb := by have := HPB.out; have := HS.out; omega
  have X3 := (HX2.out.setPl (.map (some pb)) (.inr (by obtain ⟨n, D, h1, h2⟩ := HPM.out; exact ⟨pb, n, D, rfl, hpr, h1, h2⟩))).drew
  have T3 : TX g.rb w (w2.setCell ⟨g.rb, 5, none⟩ (.map (some pb))).drew := TX.bel (TX.set (TX.bel HT.out HB2.out) 5 _) (Below.refl _ _).drew
  have j5 := X3.c5
  have j0 : (w2.setCell ⟨g.rb, 5, none⟩ (.map (some pb))).drew.cell? ⟨w.heap.size, 0, none⟩ = some (.string s) := up_drew (up_set e0 hrb')
  have hlk := HL.out (w2.setCell ⟨g.rb, 5, none⟩ (.map (some pb))).drew pb (by
    rcases X3.pl with e | ⟨pb', n, D, e, _, e3, e4⟩
    · cases e
    · cases e
      exact ⟨n, D, e3, e4⟩)
  have HX3 : Hid _ := ⟨X3⟩
  have HT3 : Hid _ := ⟨T3⟩
  clear X3 T3
  go_region_held3 (fun u => u.cell? ⟨g.rb, 5, none⟩ = some (.map (some pb)) ∧ u.cell? ⟨w.heap.size, 0, none⟩ = some (.string s) ∧ Sem.run Tryz.prog (Instr.lookup 63 (.map (some pb)) (.string s) true) u = .ok (.tuple #[.int .i64 i, .bool q]) u)
    (first | (with_reducible assumption) | exact ⟨j5, j0, hlk⟩)
    (fail)
  rcases hiq with ⟨rfl, rfl⟩ | ⟨rfl, rfl⟩
  all_goals
    go_wp2
    go_ret
    exact ⟨rfl, HT3.out, _, HX3.out⟩

/-- Of any names. -/
theorem name_all (g : Gx) (hF : FirstC g) (hKl : g.K.length ≤ 8796093022208) : NameC g := by
  intro w a dep ask pv i h hk hal hi h1
  refine value_of h _ ?_ hKl
  have hz : (St (g.L.getD i TL.none).1.t).size ≤ 140737488355328 := by
    rw [St_size, getD_at _ _ hi]
    exact h.ot _ (List.getElem_mem _)
  by_cases h8 : ask < 8
  · refine (place_few (h.alloc zV) hk h8 _ hKl).mono ?_
    rintro e w' ⟨he, ht, hx⟩
    exact ⟨he, ht, pv, hx⟩
  · rcases h.pl with rfl | ⟨pb, n, D, rfl, _, _, _⟩
    · exact place_new (h.alloc zV) hk hal h8 _ hz hF
    · refine (place_old (h.alloc zV) hk hal h8 _ hz pb rfl).mono ?_
      rintro e w' ⟨he, ht, hx⟩
      exact ⟨he, ht, _, hx⟩
end
/-- Eval of any tokens, nothing known. -/
theorem eval_nil {w : World} {ao : Option Addr} {cp : Nat} {L : List TL} (h : EvIn w ao L none []) : Calls Tryz.prog 9 #[.slice ao L.length cp, .int .i64 0, .slice none 0 0] w fun e w' => e = .returned (evE (evI [] L 0)) ∧ Below w.heap.size w w' :=
  xEval_any w ao none cp 0 L [] 0 h (fun rb mb => name_all _ (first_nil _ rfl rfl) (by simp))

set_option maxHeartbeats 4000000 in
set_option maxRecDepth 10000 in
theorem tokens_any (ao : Option Addr) (c : Nat) (l : List TL) (w : World) (hl : l.length ≤ 2199023255551) (hr : Toks w ao l) :
    Calls Tryz.prog 8 #[.slice ao l.length c] w fun e w' => ∃ v, e = .returned v ∧ OwnTP w' w.heap.size v l ∧ Below w.heap.size w w' := by
  have HR : Hid _ := ⟨hr⟩
  obtain ⟨i0, hi, hz0, hz1, hz2⟩ := info_parts infoTP
  have HI : Hid (_ ∧ _ ∧ _ ∧ _) := ⟨hi, hz0, hz1, hz2⟩
  clear hr hi hz0 hz1 hz2
  go_enter Tryz.func8, Tryz.ntmps8
  go_wp2
  go_loopw [4, 3] (fun i v wr => ∃ k : Nat, k ≤ l.length ∧ i = .int .i64 k ∧ Hid (OwnTP wr w.heap.size v (l.take k) ∧ Below w.heap.size w wr)) (fun i _ _ => l.length - (intOf i).toNat)
  case atStart => exact ⟨0, by omega, rfl, ⟨OwnTP.nil _ _, Below.refl _ _⟩⟩
  case round =>
    obtain ⟨k, hk, rfl, HW⟩ := hrel
    by_cases hlt : k < l.length
    · obtain ⟨b, off, rfl, hat⟩ : ∃ b off, ao = some ⟨b, off, none⟩ ∧ ∀ i, i < l.length → TokAt wr b (off + i * 4) (l.getD i TL.none) := by
        rcases HR.out.below HW.out.2 (Nat.le_refl _) with h | h
        · rw [h] at hlt; simp at hlt
        · exact h
      obtain ⟨c0, c1, c2, c3⟩ := hat k hlt
      have hlti : (k : Int) < (l.length : Int) := by omega
      have hk0 : (0 : Int) ≤ (k : Int) := by omega
      have hget : l.getD k TL.none = l[k] := by simp [hlt]
      have HT : Hid (l.take (k + 1) = l.take k ++ [l.getD k TL.none]) := ⟨by rw [hget]; exact List.take_succ_eq_append_getElem hlt⟩
      have htl : (l.take k).length = k := by rw [List.length_take]; omega
      have hbl : b < wr.heap.size := World.block_lt_of_cell? wr _ c0
      have hbs := HW.out.2.size
      clear hat hget
      generalize l.getD k TL.none = p at *
      obtain ⟨⟨pk, pn, pt⟩, pl⟩ := p
      dsimp only at c0 c1 c2 c3
      have hS : wr.drew.cell? ⟨b, off + k * 4, none⟩ = some (.int .i64 pk) ∧ wr.drew.cell? ⟨b, off + k * 4 + 1, none⟩ = some (.int .i64 pl) ∧ wr.drew.cell? ⟨b, off + k * 4 + 2, none⟩ = some (.int .i64 pn) ∧ wr.drew.cell? ⟨b, off + k * 4 + 3, none⟩ = some (.string (St pt)) := ⟨c0, c1, c2, c3⟩
      have hne : ¬ wr.heap.size = b := by omega
      have hbw : b < w.heap.size := by
        rcases HR.out with h | ⟨b', off', e, h⟩
        · rw [h] at hlt; simp at hlt
        · simp only [Option.some.injEq, Addr.mk.injEq] at e
          obtain ⟨rfl, _⟩ := e
          exact World.block_lt_of_cell? w _ (h k hlt).k
      have A0 : (wr.alloc (.cells #[.int .i64 pk, .int .i64 pl, .int .i64 pn, .string (St pt)] 37)).cell? ⟨b, off + k * 4, none⟩ = some (.int .i64 pk) := ((Below.refl wr.heap.size wr).alloc (Nat.le_refl _) (.cells #[.int .i64 pk, .int .i64 pl, .int .i64 pn, .string (St pt)] 37) |>.cell (p := ⟨b, off + k * 4, none⟩) hbl).trans c0
      have A1 : (wr.alloc (.cells #[.int .i64 pk, .int .i64 pl, .int .i64 pn, .string (St pt)] 37)).cell? ⟨b, off + k * 4 + 1, none⟩ = some (.int .i64 pl) := ((Below.refl wr.heap.size wr).alloc (Nat.le_refl _) (.cells #[.int .i64 pk, .int .i64 pl, .int .i64 pn, .string (St pt)] 37) |>.cell (p := ⟨b, off + k * 4 + 1, none⟩) hbl).trans c1
      have A2 : (wr.alloc (.cells #[.int .i64 pk, .int .i64 pl, .int .i64 pn, .string (St pt)] 37)).cell? ⟨b, off + k * 4 + 2, none⟩ = some (.int .i64 pn) := ((Below.refl wr.heap.size wr).alloc (Nat.le_refl _) (.cells #[.int .i64 pk, .int .i64 pl, .int .i64 pn, .string (St pt)] 37) |>.cell (p := ⟨b, off + k * 4 + 2, none⟩) hbl).trans c2
      have A3 : (wr.alloc (.cells #[.int .i64 pk, .int .i64 pl, .int .i64 pn, .string (St pt)] 37)).cell? ⟨b, off + k * 4 + 3, none⟩ = some (.string (St pt)) := ((Below.refl wr.heap.size wr).alloc (Nat.le_refl _) (.cells #[.int .i64 pk, .int .i64 pl, .int .i64 pn, .string (St pt)] 37) |>.cell (p := ⟨b, off + k * 4 + 3, none⟩) hbl).trans c3
      have hvb : u3.ownBlock ≠ some b := fun e => by have := own_block HW.out.1 b e; omega
      go_wp2
      go_region_held_law (fun v' => v'.cell? ⟨b, off + k * 4, none⟩ = some (.int .i64 pk) ∧ v'.cell? ⟨b, off + k * 4 + 1, none⟩ = some (.int .i64 pl) ∧ v'.cell? ⟨b, off + k * 4 + 2, none⟩ = some (.int .i64 pn) ∧ v'.cell? ⟨b, off + k * 4 + 3, none⟩ = some (.string (St pt)))
        (first | go_keep | assumption | exact ⟨(hgrow.cell_far _ (by simp; omega) (Ne.symm hvb)).trans A0, (hgrow.cell_far _ (by simp; omega) (Ne.symm hvb)).trans A1, (hgrow.cell_far _ (by simp; omega) (Ne.symm hvb)).trans A2, (hgrow.cell_far _ (by simp; omega) (Ne.symm hvb)).trans A3⟩)
        ((refine step_append_lies _ (by rfl) _ _ _ (by rfl) w.heap.size 37 i0 (.agg zeroTP) 4 40 Tryz.underlying24 HI.out.1 HI.out.2.1 HI.out.2.2.1 HI.out.2.2.2 rfl (by decide) _ (l.take k).length (tlCells (l.take k)) (by rfl) (World.ownsRow.alloc HW.out.1 _) ⟨wr.heap.size, 0, none⟩ 1 1 (TL.cells (⟨pk, pn, pt⟩, pl)) (by rfl) rfl (World.news_of_block (heap_alloc_new wr _)) (by have := tlCells_one [(⟨pk, pn, pt⟩, pl)]; simpa [tlCells] using this) (by omega) (by unfold maxLen; omega) (by omega) (by simp; omega) (wr.heap.size + 1) (by simp) ?_; intro g cap w1 hown1 hgrow hat hlt2))
      have hO : OwnTP w1 w.heap.size (.slice (some ⟨g, 0, none⟩) ((l.take k).length + 1) cap) (l.take (k + 1)) := by
        rw [HT.out]
        unfold OwnTP
        rw [tlCells_append, List.length_append]
        simpa [tlCells] using hown1
      have hB : Below w.heap.size w w1 := HW.out.2.trans ((((Below.refl w.heap.size wr).alloc hbs _).drew).grown hgrow (by simp; omega) (own_block HW.out.1))
      have HO : Hid _ := ⟨hO⟩
      have HBB : Hid _ := ⟨hB⟩
      clear hO hB hown1 hgrow
      go_wp2
      go_roundw
      case rel => exact ⟨k + 1, hlt, by go_num, ⟨by have := HO.out; rwa [htl] at this, HBB.out⟩⟩
      case measure => simp [intOf]; omega
    · obtain rfl : k = l.length := by omega
      have hO : OwnTP wr w.heap.size u3 l := by have := HW.out.1; rwa [List.take_of_length_le (Nat.le_refl _)] at this
      have HO : Hid _ := ⟨hO⟩
      clear hO
      go_wp2
      go_ret
      exact ⟨_, rfl, HO.out, HW.out.2⟩

theorem cellsTok : Tryz.prog.cellsOf 60 = 4 := by kernel_rfl
theorem cellsTI : Tryz.prog.cellsOf 3 = 1 := by kernel_rfl
theorem cellsTS : Tryz.prog.cellsOf 9 = 1 := by kernel_rfl
def dTok (H : Type) (p : TL) : DataW H := .agg [.lit (.int .i64 p.1.k), .lit (.int .i64 p.2), .lit (.int .i64 p.1.n), .lit (.string p.1.t)]
def Fit (p : TL) : Prop := -9223372036854775808 ≤ p.1.n ∧ p.1.n ≤ 9223372036854775807

set_option maxRecDepth 10000 in
/-- One token's cells. -/
theorem tok_cells {H : Type} {enc : TypeId × Value → H} {w : World} {base : Nat} {sp : Nat → Bool} {held : Bool} {fuel : Nat} {cs : List Value} {x : DataW H × List MemPlace}
    (h : DataW.trod enc Tryz.prog w base sp held fuel 60 cs = some x) : ∃ p : TL, cs = p.cells ∧ x.1 = dTok H p ∧ Fit p := by
  obtain ⟨xs, n, _, hx, hl, hlen, hfs⟩ := DataW.trod_struct Tryz.underlying60 h
  rw [cellsTok] at hl
  match cs, hl, xs, hlen with
  | [x0, x1, x2, x3], _, [y0, y1, y2, y3], _ =>
    have h0 := hfs 0 _ rfl
    have h1 := hfs 1 _ rfl
    have h2 := hfs 2 _ rfl
    have h3 := hfs 3 _ rfl
    simp [cellsTI, cellsTS] at h0 h1 h2 h3
    obtain ⟨n0, e0, f0, _⟩ := DataW.trod_int Tryz.underlying3 h0
    obtain ⟨n1, e1, f1, _⟩ := DataW.trod_int Tryz.underlying3 h1
    obtain ⟨n2, e2, f2, z2⟩ := DataW.trod_int Tryz.underlying3 h2
    obtain ⟨s3, e3, f3, _⟩ := DataW.trod_string Tryz.underlying9 h3
    simp at e0 e1 e2 e3
    refine ⟨(⟨n0, n2, s3.data.toList⟩, n1), by rw [e0, e1, e2, e3]; rfl, ?_, i64_bounds z2⟩
    rw [hx, f0, f1, f2, f3]
    rfl

set_option maxRecDepth 10000 in
theorem open_toks {H : Type} {enc : TypeId × Value → H} {W : World} {base : Nat} {v : Value} {d : DataW H} {p : List MemPlace} (hv : Value.okWide Tryz.prog W .any base 22 v) (h : DataW.Trod enc Tryz.prog W 0 (fun _ => true) true 22 v d p) :
    ∃ ao c l, v = .slice ao l.length c ∧ Toks W ao l ∧ (∀ p ∈ l, Fit p) ∧ (l = [] ∨ ∃ sp : List (DataW H), d = .slice (l.map (dTok H)) sp) := by
  obtain ⟨a0, len0, cap0, rfl⟩ := okWide_slice Tryz.underlying22 hv
  obtain ⟨fuel, hf⟩ := h
  rcases Deep.open_slice Tryz.underlying22 hf with ⟨hcs, _⟩ | ⟨a, len, cap, m, n, D, Pl, hcs, _, hl, hm, hmm, hx, hcell⟩
  · simp [Value.cells] at hcs
    obtain ⟨rfl, rfl, rfl⟩ := hcs
    exact ⟨none, 0, [], rfl, .inl rfl, (fun s hs => by cases hs), .inl rfl⟩
  · simp [Value.cells] at hcs
    obtain ⟨rfl, rfl, rfl⟩ := hcs
    obtain ⟨hx1, hx2⟩ := Prod.mk.inj hx
    have hlm : len0 ≤ m := by rw [hmm]; split <;> omega
    have each : ∀ i, i < m → ∃ s : TL, W.cells? 0 (a.add (i * 4)) 4 = some s.cells ∧ D i = dTok H s ∧ Fit s := fun i hi => by
      obtain ⟨cs', h1, h2⟩ := hcell i hi
      rw [cellsTok] at h1
      obtain ⟨s, rfl, h3, h4⟩ := tok_cells h2
      exact ⟨s, h1, h3, h4⟩
    haveI : Inhabited TL := ⟨TL.none⟩
    obtain ⟨Sx, hS⟩ := Deep.choose_lt each
    refine ⟨some a, cap0, (List.range len0).map Sx, by simp, ?_, fun s hs => ?_, .inr ⟨(List.range (m - len0)).map fun j => D (len0 + j), ?_⟩⟩
    · by_cases h0 : len0 = 0
      · left; subst h0; rfl
      · right
        obtain ⟨b, off, spot⟩ := a
        have cellAt : ∀ i, i < m → ∀ j, j < 4 → W.cell? ((⟨b, off, spot⟩ : Addr).add (i * 4) |>.add j) = (Sx i).cells[j]? := fun i hi j hj => by
          have := (World.cells?_some (hS i hi).1)
          exact this.2.2 j hj
        have hc := cellAt 0 (by omega) 0 (by omega)
        have hspot : spot = Option.none := World.cell?_spot (v := .int .i64 (Sx 0).1.k) hc
        subst hspot
        refine ⟨b, off, rfl, fun i hi => ?_⟩
        have hi' : i < len0 := by simpa using hi
        have e : ((List.range len0).map Sx).getD i TL.none = Sx i := by simp [hi']
        rw [e]
        have k := cellAt i (by omega)
        have k0 := k 0 (by omega); have k1 := k 1 (by omega); have k2 := k 2 (by omega); have k3 := k 3 (by omega)
        rw [addr_add, addr_add] at k0 k1 k2 k3
        exact ⟨k0, k1, k2, k3⟩
    · simp only [List.mem_map, List.mem_range] at hs
      obtain ⟨i, hi, rfl⟩ := hs
      exact (hS i (by omega)).2.2
    · have e : (List.range len0).map D = ((List.range len0).map Sx).map (dTok H) := by
        rw [List.map_map]
        refine List.map_congr_left fun i hi => ?_
        exact (hS i (by have := List.mem_range.1 hi; omega)).2.1
      rw [← e]
      exact hx1


/-- An error is one. -/
def NZ (f : Nat → Res) : Prop := ∀ a e, f a = .error e → ¬ e = 0
theorem nz_atom {K : List Dx} {L : List TL} {f : Nat → Res} (h : NZ f) : NZ (atomM K L f) := by
  intro a e he
  unfold atomM at he
  split at he
  · cases hf : f (a + 1) with
    | error x => rw [hf] at he; cases he; exact h _ _ hf
    | ok p =>
      obtain ⟨v, b⟩ := p
      rw [hf] at he
      simp only at he
      split at he
      · cases he
      · cases he; decide
  · split at he
    · cases he
    · split at he
      · cases he
      · cases he; decide
theorem nz_oper {K : List Dx} {L : List TL} {f : Nat → Res} (h : NZ f) : NZ (operM K L f) := by
  intro a e he
  unfold operM at he
  split at he
  · cases he; decide
  · cases hf : atomM K L f (a + onesN L 201 a) with
    | error x => rw [hf] at he; cases he; exact nz_atom h _ _ hf
    | ok p =>
      obtain ⟨v, b⟩ := p
      rw [hf] at he
      simp only at he
      cases ho : onesF L a (onesN L 201 a) v with
      | none => rw [ho] at he; cases he; decide
      | some y => rw [ho] at he; cases he
theorem nz_levF {L : List TL} {n : Nat} {f : Nat → Res} (h : NZ f) : ∀ (k : Nat) (v : Vx) (a : Nat) (e : Int), levF L n f k v a = .error e → ¬ e = 0
  | 0, v, a, e, he => by cases he
  | k + 1, v, a, e, he => by
    unfold levF at he
    split at he
    · cases hf : f (a + 1) with
      | error x => rw [hf] at he; cases he; exact h _ _ hf
      | ok p =>
        obtain ⟨y, c⟩ := p
        rw [hf] at he
        simp only at he
        cases ht : twoV (tk L a).t v y with
        | none => rw [ht] at he; cases he; decide
        | some z => rw [ht] at he; exact nz_levF h k z c e he
    · cases he
theorem nz_lev {L : List TL} {n : Nat} {f : Nat → Res} (h : NZ f) : NZ (levM L n f) := by
  intro a e he
  unfold levM at he
  cases hf : f a with
  | error x => rw [hf] at he; cases he; exact h _ _ hf
  | ok p =>
    obtain ⟨y, c⟩ := p
    rw [hf] at he
    exact nz_levF h _ _ _ _ he
theorem nz_inner (K : List Dx) (L : List TL) : ∀ d, NZ (innerM K L d)
  | 0 => fun a e he => by cases he; decide
  | d + 1 => nz_lev (nz_lev (nz_lev (nz_oper (nz_inner K L d))))
theorem nz_eval {K : List Dx} {L : List TL} {a : Int} {e : Int} (h : evI K L a = .error e) : ¬ e = 0 := by
  unfold evI at h
  split at h
  · cases h; decide
  · exact nz_lev (nz_lev (nz_lev (nz_oper (nz_inner K L 50)))) _ _ h
end Go.Proofs.YtljmbgflcidokaaGreatDoor

/- The laws' own: num, knows. Numbers with operators of one level between, plainly. -/
import Derived.Test.YtljmbgflcidokaaGreatDoorXEval2
import Derived.Test.YtljmbgflcidokaaGreatDoorQxD
import Derived.Laws.StructEq
namespace Go.Proofs.YtljmbgflcidokaaGreatDoor
open Go.ChangeShapes Go.WideShapes Go.ChangeAt Go.RowKit Go.Maps
set_option linter.unusedVariables false
set_option linter.unusedSimpArgs false

theorem num_any (n : Int) (w : World) : Calls Tryz.prog 13 #[.int .i64 n] w fun e w' => e = .returned (.int .i64 n) ∧ w' = w := by
  go_enter Tryz.func13, Tryz.ntmps13
  go_wp2
  go_ret
  exact ⟨rfl, rfl⟩
def knT : List UInt8 := [102, 111, 111, 32, 43, 32, 50, 32, 42, 32, 51, 32, 45, 32, 98, 97, 114]
def knL : List TL := [(⟨1, 0, [102, 111, 111]⟩, 1), (⟨4, 0, [43]⟩, 1), (⟨2, 2, []⟩, 1), (⟨4, 0, [42]⟩, 1), (⟨2, 3, []⟩, 1), (⟨4, 0, [45]⟩, 1), (⟨1, 0, [98, 97, 114]⟩, 1), (⟨6, 0, []⟩, 1)]
theorem kn_cut : allM knT = .ok knL := by kernel_rfl
theorem kn_eval : evI [] knL 0 = .ok (⟨⟨#[102, 111, 111]⟩, ⟨#[98, 97, 114]⟩, 6⟩, 7) := by kernel_rfl
/-- Tokens that a call of All handed back. -/
theorem EvIn.own {w : World} {base : Nat} {v : Value} {L : List TL} (h : OwnTP w base v L) (hl : L.length ≤ 8796093022208) (ot : ∀ p ∈ L, p.1.t.length ≤ 140737488355328) : ∃ ao cp, v = .slice ao L.length cp ∧ EvIn w ao L none [] := by
  obtain ⟨ao, cap, hv, _, _, ht, _⟩ := OwnTP.any h
  exact ⟨ao, cap, hv, ⟨ht, .inl rfl, hl, ot, fun d hd => by cases hd⟩⟩
/-- Eval of few tokens, nothing known. -/
theorem eval_few {w : World} {ao : Option Addr} {cp : Nat} {L : List TL} (h : EvIn w ao L none []) (hL : L.length ≤ 8) : Calls Tryz.prog 9 #[.slice ao L.length cp, .int .i64 0, .slice none 0 0] w fun e w' => e = .returned (evE (evI [] L 0)) ∧ Below w.heap.size w w' :=
  xEval_any w ao none cp 0 L [] 0 h (fun rb mb => name_few _ hL (by simp))

set_option maxHeartbeats 4000000 in
set_option maxRecDepth 10000 in
theorem knows_any (w : World) (hE : Er w) : Calls Tryz.prog 14 #[] w fun e w' => e = .returned (.bool true) ∧ Below w.heap.size w w' := by
  have h := pall ⟨#[102, 111, 111, 32, 43, 32, 50, 32, 42, 32, 51, 32, 45, 32, 98, 97, 114]⟩ w hE
  rw [show lo ⟨#[102, 111, 111, 32, 43, 32, 50, 32, 42, 32, 51, 32, 45, 32, 98, 97, 114]⟩ = knT from rfl, kn_cut] at h
  have HC : Hid _ := ⟨h⟩
  have HE : Hid (∀ (W : World) (ao : Option Addr) (cp : Nat), EvIn W ao knL none [] → Calls Tryz.prog 9 #[.slice ao 8 cp, .int .i64 0, .slice none 0 0] W fun e w' => e = .returned (.tuple #[.agg #[.string ⟨#[102, 111, 111]⟩, .string ⟨#[98, 97, 114]⟩, .int .i64 6], .int .i64 7, .int .i64 0]) ∧ Below W.heap.size W w') := ⟨fun W ao cp hW => by
    have := eval_few (cp := cp) hW (by decide)
    rw [kn_eval] at this
    exact this⟩
  have he := eqlV ⟨#[102, 111, 111]⟩ ⟨#[98, 97, 114]⟩ ⟨#[102, 111, 111]⟩ ⟨#[98, 97, 114]⟩ 6 6
  have e1 : ((⟨#[102, 111, 111]⟩ : ByteArray).toList == (⟨#[102, 111, 111]⟩ : ByteArray).toList && ((⟨#[98, 97, 114]⟩ : ByteArray).toList == (⟨#[98, 97, 114]⟩ : ByteArray).toList && ((6 : Int) == 6 && true))) = true := by simp
  rw [e1] at he
  clear h e1
  go_enter Tryz.func14, Tryz.ntmps14
  go_wp2_with (first
    | (go_at_call 24; (with_reducible refine HC.out.mono ?_); rintro e w1 ⟨v1, he1, o1, hb1⟩; subst he1; obtain ⟨ao, cp, hv, hin⟩ := EvIn.own o1 (by decide) (by decide); rw [show knL.length = 8 from rfl] at hv; subst hv; have HIN : Hid _ := ⟨hin⟩; clear hin o1)
    | (go_at_call 9; (with_reducible refine (HE.out _ _ _ HIN.out).mono ?_); rintro e w2 ⟨he2, hb2⟩; subst he2)
    | (go_at_call 13; refine (num_any _ _).mono ?_; rintro e w' ⟨rfl, hw'⟩; subst w'))
  go_ret
  exact ⟨rfl, bel_alloc (bel_trans hb1 hb2) _⟩

/-- The tokens of a number, and of operators with their numbers. -/
def tkN (n : Int) : TL := (⟨2, n, []⟩, 0)
def tkS (s : List UInt8) : TL := (⟨4, 0, s⟩, 0)
def tksF (ps : List (List UInt8 × Int)) : List TL := ps.flatMap fun p => [tkS p.1, tkN p.2]
def tksT (n : Int) (ps : List (List UInt8 × Int)) : List TL := tkN n :: tksF ps
theorem tksF_len (ps : List (List UInt8 × Int)) : (tksF ps).length = 2 * ps.length := by
  induction ps with
  | nil => rfl
  | cons p ps ih =>
    show ([tkS p.1, tkN p.2] ++ tksF ps).length = _
    rw [List.length_append, ih]
    simp; omega
theorem tksT_len (n : Int) (ps : List (List UInt8 × Int)) : (tksT n ps).length = 2 * ps.length + 1 := by
  unfold tksT
  rw [List.length_cons, tksF_len]
theorem tksF_app (ps qs : List (List UInt8 × Int)) : tksF (ps ++ qs) = tksF ps ++ tksF qs := by simp [tksF]
/-- What operators make of a value, one after the other. -/
def foldT : List (List UInt8 × Int) → Vx → Option Vx
  | [], v => some v
  | p :: ps, v => match twoV p.1 v (Vx.num p.2) with | none => none | some y => foldT ps y
theorem foldT_app (ps qs : List (List UInt8 × Int)) : ∀ v, foldT (ps ++ qs) v = match foldT ps v with | none => none | some y => foldT qs y := by
  induction ps with
  | nil => intro v; rfl
  | cons p ps ih =>
    intro v
    show (match twoV p.1 v (Vx.num p.2) with | none => none | some y => foldT (ps ++ qs) y) = _
    cases h : twoV p.1 v (Vx.num p.2) with
    | none => simp [foldT, h]
    | some y => simp [foldT, h, ih]
theorem tksF_sg : ∀ (ps : List (List UInt8 × Int)) (i : Nat) (hi : i < ps.length), (tksF ps).getD (2 * i) TL.none = tkS ps[i].1 ∧ (tksF ps).getD (2 * i + 1) TL.none = tkN ps[i].2
  | p :: ps, 0, hi => ⟨rfl, rfl⟩
  | p :: ps, i + 1, hi => by
    have := tksF_sg ps i (by simpa using hi)
    have e : tksF (p :: ps) = tkS p.1 :: tkN p.2 :: tksF ps := rfl
    rw [e, show 2 * (i + 1) = 2 * i + 1 + 1 by omega]
    simpa using this
/-- A list of tokens as it is asked for: m operators of one level, m + 1 numbers. -/
structure Alt (L : List TL) (lv m : Nat) (ss : Nat → List UInt8) (ns : Nat → Int) : Prop where
  len : L.length = 2 * m + 1
  num : ∀ i, i ≤ m → tk L (2 * i) = ⟨2, ns i, []⟩
  sig : ∀ i, i < m → tk L (2 * i + 1) = ⟨4, 0, ss i⟩
  lev : ∀ i, i < m → lvOf (ss i) = some lv
theorem alt_of (n : Int) (ps : List (List UInt8 × Int)) (lv : Nat) (h : ∀ p ∈ ps, lvOf p.1 = some lv) : Alt (tksT n ps) lv ps.length (fun i => (ps.getD i ([], 0)).1) (fun i => if i = 0 then n else (ps.getD (i - 1) ([], 0)).2) := by
  refine ⟨tksT_len n ps, fun i hi => ?_, fun i hi => ?_, fun i hi => ?_⟩
  · cases i with
    | zero => rfl
    | succ i =>
      unfold tk tksT
      rw [show 2 * (i + 1) = 2 * i + 1 + 1 by omega, List.getD_cons_succ, (tksF_sg ps i (by omega)).2]
      show (⟨2, ps[i].2, []⟩ : Tok) = _
      simp only [Nat.add_sub_cancel]
      rw [if_neg (by omega), getD_at ps i (by omega)]
  · unfold tk tksT
    rw [List.getD_cons_succ, (tksF_sg ps i hi).1]
    simp only [tkS, getD_at ps i hi]
  · rw [getD_at ps i hi]
    exact h _ (List.getElem_mem _)
section
variable {L : List TL} {lv m : Nat} {ss : Nat → List UInt8} {ns : Nat → Int}
theorem Alt.one (h : Alt L lv m ss ns) {i : Nat} (hi : i ≤ m) : isOne L (2 * i) = false := by
  unfold isOne isSg
  rw [h.num i hi]
  rfl
theorem Alt.oper (h : Alt L lv m ss ns) (inner : Nat → Res) {i : Nat} (hi : i ≤ m) : operM [] L inner (2 * i) = .ok (Vx.num (ns i), 2 * i + 1) := by
  unfold operM
  rw [onesN_end (h.one hi), if_neg (by omega), Nat.add_zero]
  have : atomM [] L inner (2 * i) = .ok (Vx.num (ns i), 2 * i + 1) := by
    unfold atomM isSg
    rw [h.num i hi]
    rfl
  rw [this]
  rfl
theorem Alt.isLv (h : Alt L lv m ss ns) (n : Nat) {i : Nat} (hi : i < m) : isLv L (2 * i + 1) n = (lv == n) := by
  unfold Go.Proofs.YtljmbgflcidokaaGreatDoor.isLv
  rw [h.sig i hi]
  simp only
  rw [h.lev i hi]
  by_cases e : lv = n
  · subst e; simp
  · have h1 : ¬ (some lv = some n) := fun x => e (Option.some.inj x)
    have h2 : (lv == n) = false := by simpa using e
    rw [h2]
    simp [e]
theorem Alt.isEnd (h : Alt L lv m ss ns) (n : Nat) : Go.Proofs.YtljmbgflcidokaaGreatDoor.isLv L (2 * m + 1) n = false := by
  cases e : Go.Proofs.YtljmbgflcidokaaGreatDoor.isLv L (2 * m + 1) n with
  | false => rfl
  | true => have := lv_lt e; have := h.len; omega
/-- A level that is not theirs does nothing. -/
theorem Alt.skip (h : Alt L lv m ss ns) (n : Nat) (hn : ¬ lv = n) (f : Nat → Res) (hf : ∀ i, i ≤ m → f (2 * i) = .ok (Vx.num (ns i), 2 * i + 1)) {i : Nat} (hi : i ≤ m) : levM L n f (2 * i) = .ok (Vx.num (ns i), 2 * i + 1) := by
  unfold levM
  rw [hf i hi]
  simp only
  refine levF_end ?_ _
  by_cases hm : i = m
  · subst hm; exact h.isEnd n
  · rw [h.isLv n (by omega)]
    simpa using hn
def rE (R : Option Vx) (b : Nat) : Res := match R with | none => .error 110 | some y => .ok (y, b)
/-- The numbers from the j-th operator on. -/
def altP (ss : Nat → List UInt8) (ns : Nat → Int) (j : Nat) : Nat → List (List UInt8 × Int)
  | 0 => []
  | k + 1 => (ss j, ns (j + 1)) :: altP ss ns (j + 1) k
theorem Alt.run (h : Alt L lv m ss ns) (f : Nat → Res) (hf : ∀ i, i ≤ m → f (2 * i) = .ok (Vx.num (ns i), 2 * i + 1)) : ∀ (k j : Nat) (v : Vx), j + k = m → ∀ fuel, k < fuel → levF L lv f fuel v (2 * j + 1) = rE (foldT (altP ss ns j k) v) (2 * m + 1)
  | 0, j, v, hj, fuel, hfu => by
    obtain rfl : j = m := by omega
    rw [levF_end (h.isEnd lv)]
    rfl
  | k + 1, j, v, hj, fuel, hfu => by
    cases fuel with
    | zero => omega
    | succ fuel =>
      unfold levF
      rw [h.isLv lv (by omega)]
      simp only [BEq.rfl, if_true]
      rw [show 2 * j + 1 + 1 = 2 * (j + 1) by omega, hf (j + 1) (by omega), h.sig j (by omega)]
      simp only [altP, foldT]
      cases twoV (ss j) v (Vx.num (ns (j + 1))) with
      | none => rfl
      | some y => exact Alt.run h f hf k (j + 1) y (by omega) fuel (by omega)
theorem Alt.top (h : Alt L lv m ss ns) (n : Nat) (f : Nat → Res) (R : Option Vx) (hf : f 0 = rE (R) (2 * m + 1)) : levM L n f 0 = rE (R) (2 * m + 1) := by
  unfold levM
  rw [hf]
  cases R with
  | none => rfl
  | some y => exact levF_end (h.isEnd n) _
theorem Alt.eval (h : Alt L lv m ss ns) (hlv : lv < 3) : evI [] L 0 = rE (foldT (altP ss ns 0 m) (Vx.num (ns 0))) (2 * m + 1) := by
  have e0 : evI [] L 0 = evalM [] L 0 := by unfold evI; rw [if_neg (by omega)]; rfl
  rw [e0]
  unfold evalM exprOf
  have h0 : ∀ i, i ≤ m → operM [] L (innerM [] L 50) (2 * i) = .ok (Vx.num (ns i), 2 * i + 1) := fun i hi => h.oper _ hi
  have hrun : ∀ (f : Nat → Res), (∀ i, i ≤ m → f (2 * i) = .ok (Vx.num (ns i), 2 * i + 1)) → levM L lv f 0 = rE (foldT (altP ss ns 0 m) (Vx.num (ns 0))) (2 * m + 1) := fun f hf => by
    unfold levM
    rw [show (0 : Nat) = 2 * 0 from rfl, hf 0 (by omega)]
    simp only
    exact h.run f hf m 0 _ (by omega) _ (by have := h.len; omega)
  have hc : lv = 0 ∨ lv = 1 ∨ lv = 2 := by omega
  rcases hc with rfl | rfl | rfl
  · exact h.top 2 _ _ (h.top 1 _ _ (hrun _ h0))
  · exact h.top 2 _ _ (hrun _ (fun i hi => h.skip 0 (by decide) _ h0 hi))
  · exact hrun _ (fun i hi => h.skip 1 (by decide) _ (fun i hi => h.skip 0 (by decide) _ h0 hi) hi)
end
theorem altP_of (n : Int) (qs : List (List UInt8 × Int)) : ∀ (ps pre : List (List UInt8 × Int)), qs = pre ++ ps → altP (fun i => (qs.getD i ([], 0)).1) (fun i => if i = 0 then n else (qs.getD (i - 1) ([], 0)).2) pre.length ps.length = ps
  | [], pre, h => rfl
  | p :: ps, pre, h => by
    have e : qs.getD pre.length ([], 0) = p := by rw [h]; simp
    have := altP_of n qs ps (pre ++ [p]) (by rw [h]; simp)
    rw [List.length_append] at this
    show (_, _) :: _ = _
    rw [show pre.length + [p].length = pre.length + 1 from rfl] at this
    rw [this]
    simp only [Nat.add_sub_cancel]
    rw [e, if_neg (by omega)]
theorem levels_eval (n : Int) (ps : List (List UInt8 × Int)) (lv : Nat) (hlv : lv < 3) (h : ∀ p ∈ ps, lvOf p.1 = some lv) : evI [] (tksT n ps) 0 = rE (foldT ps (Vx.num n)) (tksT n ps).length := by
  have ha := (alt_of n ps lv h).eval hlv
  rw [ha, tksT_len]
  have := altP_of n ps ps [] rfl
  rw [show ([] : List (List UInt8 × Int)).length = 0 from rfl] at this
  rw [this]
  rfl
end Go.Proofs.YtljmbgflcidokaaGreatDoor

/- Two texts, one behind the other; clean tokens. -/
import Derived.Test.YtljmbgflcidokaaGreatDoorLxPure
namespace Go.Proofs.YtljmbgflcidokaaGreatDoor
open Go.ChangeShapes Go.WideShapes Go.ChangeAt Go.RowKit
set_option linter.unusedVariables false
set_option linter.unusedSimpArgs false

theorem lines_split (b : List UInt8) : ∀ (a acc : List UInt8), linesF (a ++ 10 :: b) acc = linesF (a ++ [10]) acc ++ linesF b []
  | [], acc => by simp [linesF]
  | c :: a, acc => by
    by_cases h : c = 10
    · subst h
      simp only [List.cons_append, linesF, if_true]
      rw [lines_split b a []]
    · simp only [List.cons_append, linesF, if_neg h]
      rw [lines_split b a _]

theorem cut_app : ∀ (x y : List (List UInt8)) (k : Nat) (acc : List TL), cutF (x ++ y) k acc = match cutF x k acc with | .error e => .error e | .ok acc' => cutF y (k + x.length) acc'
  | [], y, k, acc => by simp [cutF]
  | s :: x, y, k, acc => by
    simp only [List.cons_append, cutF]
    cases lineM s with
    | none => rfl
    | some ts =>
      simp only
      rw [cut_app x y (k + 1) _, List.length_cons, show k + 1 + x.length = k + (x.length + 1) by omega]

def shiftT (d : Int) (p : TL) : TL := (p.1, p.2 + d)
theorem cut_shift : ∀ (y : List (List UInt8)) (k d : Nat) (pre acc : List TL), cutF y (k + d) (pre ++ acc.map (shiftT d)) = match cutF y k acc with | .error m => .error (m + d) | .ok ts => .ok (pre ++ ts.map (shiftT d))
  | [], k, d, pre, acc => by simp [cutF]
  | s :: y, k, d, pre, acc => by
    simp only [cutF]
    cases lineM s with
    | none => simp
    | some ts =>
      simp only
      have := cut_shift y (k + 1) d pre (acc ++ ts.map fun t => (t, (k : Int)))
      rw [← this, show k + 1 + d = k + d + 1 by omega]
      congr 1
      rw [List.map_append, List.append_assoc, List.map_map]
      congr 2
      try (apply List.map_congr_left; intro t _; simp [shiftT])

/-- P10.5, of the cutting alone. -/
theorem cut_two (a b : List UInt8) : cutF (linesM (a ++ 10 :: b)) 1 [] = match cutF (linesM (a ++ [10])) 1 [] with
    | .error m => .error m
    | .ok xs => match cutF (linesM b) 1 [] with
      | .error m => .error (m + ((linesM (a ++ [10])).length : Int))
      | .ok ys => .ok (xs ++ ys.map (shiftT ((linesM (a ++ [10])).length : Int))) := by
  have hs : linesM (a ++ 10 :: b) = linesM (a ++ [10]) ++ linesM b := lines_split b a []
  rw [hs, cut_app]
  cases cutF (linesM (a ++ [10])) 1 [] with
  | error m => rfl
  | ok xs =>
    simp only
    have := cut_shift (linesM b) 1 (linesM (a ++ [10])).length xs []
    rw [List.map_nil, List.append_nil] at this
    rw [this]

/-- A token's bytes are plain ones, but a text's. -/
def okT (t : Tok) : Prop := 1 ≤ t.k ∧ t.k ≤ 6 ∧ (¬ t.k = 3 → t.t.length ≤ 65536 ∧ ∀ c ∈ t.t, 32 < zOf c ∧ zOf c ≤ 126)
theorem let_plain {c : UInt8} (h : isLet c = true) : 32 < zOf c ∧ zOf c ≤ 126 := by
  unfold isLet letZ at h
  simp at h
  omega
theorem dig_plain {c : UInt8} (h : isDig c = true) : 32 < zOf c ∧ zOf c ≤ 126 := by
  unfold isDig digZ at h
  simp at h
  omega
theorem in_plain {c : UInt8} (h : isIn c = true) : 32 < zOf c ∧ zOf c ≤ 126 := by
  unfold isIn inZ at h
  simp only [Bool.or_eq_true, beq_iff_eq] at h
  rcases h with h | h | h | h
  · exact let_plain h
  · exact dig_plain h
  · omega
  · omega
theorem take_while_mem {p : UInt8 → Bool} {l : List UInt8} {n : Nat} (hn : n ≤ (l.takeWhile p).length) : ∀ c ∈ l.take n, p c = true := by
  intro c hc
  have h1 : l.take n = (l.takeWhile p).take n := by
    conv => lhs; rw [← List.takeWhile_append_dropWhile (p := p) (l := l)]
    rw [List.take_append_of_le_length hn]
  rw [h1] at hc
  exact List.all_eq_true.1 List.all_takeWhile c (List.mem_of_mem_take hc)
theorem reg_mem (r : List UInt8) : ∀ c ∈ r.take (regN r), 32 < zOf c ∧ zOf c ≤ 126 := by
  intro c hc
  cases r with
  | nil => simp [regN] at hc
  | cons d r =>
    unfold regN at hc
    simp only at hc
    split at hc
    · rename_i hd
      rw [Nat.add_comm, List.take_succ_cons] at hc
      rcases List.mem_cons.1 hc with rfl | hc
      · exact let_plain hd
      · have := take_while_mem (p := fun c => isLet c || isDig c) (Nat.le_refl _) c hc
        simp only [Bool.or_eq_true] at this
        rcases this with h | h
        · exact let_plain h
        · exact dig_plain h
    · simp at hc
theorem sign_mem (l : List UInt8) : ∀ c ∈ l.take (signN l), 32 < zOf c ∧ zOf c ≤ 126 := by
  intro c hc
  have hsg : ∀ c ∈ signs, 32 < zOf c ∧ zOf c ≤ 126 := by decide
  cases l with
  | nil => simp at hc
  | cons d r =>
    unfold signN at hc
    simp only at hc
    split at hc
    · rename_i h2
      cases r with
      | nil => simp at h2
      | cons e r =>
        simp at hc h2
        rcases h2 with ⟨h1, h2⟩ | ⟨h1, h2⟩
        · rcases hc with rfl | rfl
          · rw [h1]; decide
          · rw [h2]; decide
        · rcases hc with rfl | rfl
          · rw [h1]; decide
          · rw [h2]; decide
    · split at hc
      · rename_i hs
        simp at hc
        subst hc
        exact hsg _ (by simpa using hs)
      · simp at hc
theorem one_ok {l : List UInt8} {t : Tok} {n : Nat} (hl : l.length ≤ 65536) (h : oneM l = some (t, n)) : okT t := by
  unfold oneM at h
  cases l with
  | nil => cases h
  | cons c r =>
    simp only at h
    split at h
    · simp only [Option.some.injEq, Prod.mk.injEq] at h
      obtain ⟨rfl, _⟩ := h
      exact ⟨by decide, by decide, fun _ => ⟨by simp, fun c hc => by cases hc⟩⟩
    · split at h
      · simp only [Option.map_eq_some_iff, Prod.mk.injEq] at h
        obtain ⟨p, _, rfl, _⟩ := h
        exact ⟨by show (1 : Int) ≤ 2; omega, by show (2 : Int) ≤ 6; omega, fun _ => ⟨by simp, fun c hc => by cases hc⟩⟩
      · split at h
        · simp only [Option.map_eq_some_iff, Prod.mk.injEq] at h
          obtain ⟨p, _, rfl, _⟩ := h
          exact ⟨by show (1 : Int) ≤ 3; omega, by show (3 : Int) ≤ 6; omega, fun h => absurd rfl h⟩
        · split at h
          · split at h
            · cases h
            · simp only [Option.some.injEq, Prod.mk.injEq] at h
              obtain ⟨rfl, _⟩ := h
              exact ⟨by show (1 : Int) ≤ 5; omega, by show (5 : Int) ≤ 6; omega, fun _ => ⟨by simp only [List.length_cons] at hl; show (r.take (regN r)).length ≤ 65536; rw [List.length_take]; omega, reg_mem r⟩⟩
          · split at h
            · split at h
              · simp only [Option.some.injEq, Prod.mk.injEq] at h
                obtain ⟨rfl, _⟩ := h
                exact ⟨by show (1 : Int) ≤ 1; omega, by show (1 : Int) ≤ 6; omega, fun _ => ⟨by show ((c :: r).take _).length ≤ 65536; rw [List.length_take]; omega, fun c hc => in_plain (take_while_mem (p := isIn) (Nat.le_refl _) c hc)⟩⟩
              · cases h
            · split at h
              · cases h
              · simp only [Option.some.injEq, Prod.mk.injEq] at h
                obtain ⟨rfl, _⟩ := h
                exact ⟨by show (1 : Int) ≤ 4; omega, by show (4 : Int) ≤ 6; omega, fun _ => ⟨by show ((c :: r).take _).length ≤ 65536; rw [List.length_take]; omega, sign_mem _⟩⟩
theorem lineF_ok : ∀ (n : Nat) (l : List UInt8) (ts : List Tok), l.length ≤ 65536 → lineF n l = some ts → ∀ t ∈ ts, okT t
  | 0, l, ts, _, h => by cases h; intro t ht; cases ht
  | n + 1, [], ts, _, h => by cases h; intro t ht; cases ht
  | n + 1, c :: r, ts, hl, h => by
    unfold lineF at h
    split at h
    · cases h; intro t ht; cases ht
    · split at h
      · exact lineF_ok n r ts (by simp only [List.length_cons] at hl; omega) h
      · split at h
        · cases h
        · rename_i t k ho
          simp only [Option.map_eq_some_iff] at h
          obtain ⟨ts', h', rfl⟩ := h
          intro x hx
          rcases List.mem_cons.1 hx with rfl | hx
          · exact one_ok hl ho
          · exact lineF_ok n _ ts' (by rw [List.length_drop]; omega) h' x hx
theorem line_ok {l : List UInt8} {ts : List Tok} (hl : l.length ≤ 65536) (h : lineM l = some ts) : (∀ t ∈ ts, okT t) ∧ (ts = [] ∨ ∃ ts', ts = ts' ++ [⟨6, 0, []⟩]) := by
  unfold lineM at h
  simp only [Option.map_eq_some_iff] at h
  obtain ⟨ts', h', rfl⟩ := h
  have := lineF_ok _ _ _ hl h'
  split
  · exact ⟨fun t ht => (by cases ht), .inl rfl⟩
  · refine ⟨fun t ht => ?_, .inr ⟨ts', rfl⟩⟩
    rcases List.mem_append.1 ht with ht | ht
    · exact this t ht
    · rw [List.mem_singleton.1 ht]
      exact ⟨by decide, by decide, fun _ => ⟨by simp, fun c hc => by cases hc⟩⟩

/-- One token behind another. -/
def Nxt (p q : TL) : Prop := p.2 ≤ q.2 ∧ (¬ q.2 = p.2 → p.1.k = 6)
def ChainF : List TL → Prop
  | [] => True
  | [_] => True
  | p :: q :: r => Nxt p q ∧ ChainF (q :: r)
theorem chain_app : ∀ (l m : List TL), ChainF l → ChainF m → (∀ x y, l.getLast? = some x → m.head? = some y → Nxt x y) → ChainF (l ++ m)
  | [], m, _, hm, _ => hm
  | [p], m, _, hm, h => by
    cases m with
    | nil => trivial
    | cons q m => exact ⟨h p q rfl rfl, hm⟩
  | p :: q :: r, m, hl, hm, h => ⟨hl.1, chain_app (q :: r) m hl.2 hm (fun x y h1 h2 => h x y (by rw [List.getLast?_cons_cons]; exact h1) h2)⟩
theorem chain_at : ∀ (l : List TL) (i : Nat), ChainF l → i + 1 < l.length → Nxt (l.getD i TL.none) (l.getD (i + 1) TL.none)
  | [], i, _, h => by simp at h
  | [_], i, _, h => by simp at h
  | p :: q :: r, 0, hl, _ => hl.1
  | p :: q :: r, i + 1, hl, h => by
    have := chain_at (q :: r) i hl.2 (by simpa using h)
    simpa using this
theorem chain_same (k : Int) : ∀ ts : List Tok, ChainF (ts.map fun t => (t, k))
  | [] => trivial
  | [_] => trivial
  | t :: u :: r => ⟨⟨Int.le_refl _, fun h => absurd rfl h⟩, chain_same k (u :: r)⟩

/-- All that is asked of tokens: P10.1, P10.6. -/
structure Clean (ts : List TL) (k : Nat) : Prop where
  ok : ∀ p ∈ ts, okT p.1 ∧ p.2 < k
  chain : ChainF ts
  last : ∀ p, ts.getLast? = some p → p.1.k = 6

theorem cut_clean : ∀ (L : List (List UInt8)) (k : Nat) (acc ts : List TL), (∀ s ∈ L, s.length ≤ 65536) → Clean acc k → cutF L k acc = .ok ts → ∃ k', Clean ts k'
  | [], k, acc, ts, _, hc, h => by
    cases h
    exact ⟨k, hc⟩
  | s :: L, k, acc, ts, hL, hc, h => by
    simp only [cutF] at h
    cases hs : lineM s with
    | none => rw [hs] at h; cases h
    | some l =>
      rw [hs] at h
      obtain ⟨o1, o2⟩ := line_ok (hL s (by simp)) hs
      refine cut_clean L (k + 1) _ ts (fun x hx => hL x (by simp [hx])) ⟨fun p hp => ?_, ?_, fun p hp => ?_⟩ h
      · rcases List.mem_append.1 hp with hp | hp
        · have := hc.ok p hp
          exact ⟨this.1, by omega⟩
        · obtain ⟨t, ht, rfl⟩ := List.mem_map.1 hp
          exact ⟨o1 t ht, by show (k : Int) < ((k + 1 : Nat) : Int); omega⟩
      · refine chain_app _ _ hc.chain (chain_same _ _) (fun x y hx hy => ?_)
        have h1 := hc.ok x (List.mem_of_getLast? hx)
        have h2 := hc.last x hx
        have h3 : y.2 = (k : Int) := by
          have := List.mem_of_mem_head? hy
          obtain ⟨t, _, rfl⟩ := List.mem_map.1 this
          rfl
        exact ⟨by omega, fun _ => h2⟩
      · rcases o2 with rfl | ⟨l', rfl⟩
        · rw [List.map_nil, List.append_nil] at hp
          exact hc.last p hp
        · rw [List.map_append, ← List.append_assoc] at hp
          simp at hp
          subst hp
          rfl
theorem all_clean {l : List UInt8} {ts : List TL} (h : allM l = .ok ts) : ∃ k, Clean ts k := by
  unfold allM at h
  split at h
  · cases h
  · rename_i hlen
    split at h
    · cases h
    · cases hc : cutF (linesM l) 1 [] with
      | error k => rw [hc] at h; cases h
      | ok x =>
        rw [hc] at h
        cases h
        exact cut_clean _ 1 [] _ (fun s hs => by have := (lines_all l []).2 s hs; simp at this; omega) ⟨fun p hp => (by cases hp), trivial, fun p hp => (by cases hp)⟩ hc
theorem cut_err : ∀ (L : List (List UInt8)) (k : Nat) (acc : List TL) (m : Int), 1 ≤ k → cutF L k acc = .error m → 0 < m
  | [], k, acc, m, _, h => by cases h
  | s :: L, k, acc, m, hk, h => by
    simp only [cutF] at h
    cases hs : lineM s with
    | none => rw [hs] at h; cases h; omega
    | some l => rw [hs] at h; exact cut_err L (k + 1) _ m (by omega) h
theorem all_err {l : List UInt8} {m x : Int} (h : allM l = .error (m, x)) : (m = 0 ∧ x = 6) ∨ (0 < m ∧ x = 100) := by
  unfold allM at h
  split at h
  · cases h; exact .inl ⟨rfl, rfl⟩
  · split at h
    · cases h; exact .inl ⟨rfl, rfl⟩
    · cases hc : cutF (linesM l) 1 [] with
      | error k => rw [hc] at h; cases h; exact .inr ⟨cut_err _ 1 [] _ (by omega) hc, rfl⟩
      | ok x => rw [hc] at h; cases h
end Go.Proofs.YtljmbgflcidokaaGreatDoor

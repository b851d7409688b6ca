/- Names, signs and registers, printed; what was printed is cut as it was. -/
import Derived.Test.YtljmbgflcidokaaGreatDoorLxPrint
namespace Go.Proofs.YtljmbgflcidokaaGreatDoor
open Go.ChangeShapes Go.WideShapes Go.ChangeAt Go.RowKit
set_option linter.unusedVariables false
set_option linter.unusedSimpArgs false

theorem reg_stop {d : UInt8} {r q : List UInt8} (h : regN (d :: r) = (d :: r).length) (hq : Stop q) : regN (d :: r ++ q) = (d :: r).length := by
  unfold regN at h
  simp only at h
  split at h
  · rename_i hd
    have hall : ∀ c ∈ r, (isLet c || isDig c) = true := by
      intro c hc
      exact take_while_mem (p := fun c => isLet c || isDig c) (l := r) (n := r.length) (by simp at h; omega) c (by rwa [List.take_length])
    unfold regN
    rw [List.cons_append]
    simp only
    rw [if_pos hd, takeWhile_stop _ (by decide) r q hall hq]
    simp; omega
  · simp at h

theorem tok_eq {t : Tok} {k : Int} {l : List UInt8} (h1 : k = t.k) (h2 : l = t.t) (h3 : t.n = 0) : (⟨k, 0, l⟩ : Tok) = t := by
  obtain ⟨a, b, c⟩ := t
  simp only at h1 h2 h3
  subst h1; subst h2; subst h3
  rfl

theorem wok_word (t : Tok) (w : List UInt8) (x : Tok) (h : oneM w = some (x, w.length)) (hk : x.k = t.k) (ht : x.t = t.t) (hn : t.n = 0) (h145 : t.k = 1 ∨ t.k = 4 ∨ t.k = 5) : WOK t w := by
  unfold oneM at h
  cases w with
  | nil => cases h
  | cons c r =>
    simp only at h
    split at h
    · simp only [Option.some.injEq, Prod.mk.injEq] at h
      obtain ⟨rfl, _⟩ := h
      simp only at hk
      omega
    · rename_i h59
      split at h
      · simp only [Option.map_eq_some_iff, Prod.mk.injEq] at h
        obtain ⟨p, _, rfl, _⟩ := h
        simp only at hk
        omega
      · rename_i hdig
        split at h
        · simp only [Option.map_eq_some_iff, Prod.mk.injEq] at h
          obtain ⟨p, _, rfl, _⟩ := h
          simp only at hk
          omega
        · rename_i h34
          split at h
          · rename_i h37
            split at h
            · cases h
            · rename_i hz
              simp only [Option.some.injEq, Prod.mk.injEq, List.length_cons] at h
              obtain ⟨rfl, hl⟩ := h
              have hr : regN r = r.length := by omega
              have hm := reg_mem r
              rw [hr, List.take_length] at hm
              simp only [hr, List.take_length] at ht hk
              cases r with
              | nil => simp at hr; exact absurd hr hz
              | cons d r =>
                refine ⟨⟨c, d :: r, rfl, by subst h37; decide, by subst h37; decide⟩, fun y hy => ?_, fun q hq => ?_⟩
                · rcases List.mem_cons.1 hy with rfl | hy
                  · subst h37; decide
                  · exact not_ten (hm y hy)
                · have hs := reg_stop hr hq
                  unfold oneM
                  rw [List.cons_append]
                  simp only
                  rw [if_neg h59, if_neg hdig, if_neg h34, if_pos h37, hs, if_neg (by simp)]
                  rw [show (d :: r ++ q).take (d :: r).length = d :: r by simp, tok_eq hk ht hn]
                  simp; omega
          · rename_i h37
            split at h
            · rename_i hin
              split at h
              · rename_i h255
                simp only [Option.some.injEq, Prod.mk.injEq] at h
                obtain ⟨rfl, hl⟩ := h
                have hall := word_full hl
                simp only [hl, List.take_length] at ht hk
                have c35 : ¬ c = 35 := by intro e; subst e; cases hin
                refine ⟨⟨c, r, rfl, in_head (in_plain hin) c35⟩, fun y hy => not_ten (in_plain (hall y hy)), fun q hq => ?_⟩
                have hw := word_stop hall hq
                unfold oneM
                rw [List.cons_append] at hw ⊢
                simp only
                rw [if_neg h59, if_neg hdig, if_neg h34, if_neg h37, if_pos hin, hw, if_pos (by omega)]
                rw [show (c :: (r ++ q)).take (c :: r).length = c :: r by rw [← List.cons_append]; simp, tok_eq hk ht hn]
              · cases h
            · rename_i hin
              split at h
              · cases h
              · rename_i hz
                simp only [Option.some.injEq, Prod.mk.injEq] at h
                obtain ⟨rfl, hl⟩ := h
                have hm := sign_mem (c :: r)
                rw [hl, List.take_length] at hm
                simp only [hl, List.take_length] at ht hk
                have c35 : ¬ c = 35 := by
                  intro e
                  subst e
                  apply hz
                  unfold signN
                  simp only
                  rw [if_neg (by rintro (⟨h, _⟩ | ⟨h, _⟩) <;> cases h)]
                  rfl
                refine ⟨⟨c, r, rfl, in_head (hm c (by simp)) c35⟩, fun y hy => not_ten (hm y hy), fun q hq => ?_⟩
                have hs : signN (c :: r ++ q) = (c :: r).length := by
                  unfold signN at hl ⊢
                  simp only [List.cons_append] at hl ⊢
                  cases r with
                  | nil =>
                    simp only [List.head?_nil, reduceCtorEq, and_false, or_false, if_false, List.length_cons, List.length_nil] at hl
                    have hqh : ¬ ((c = 60 ∧ ([] ++ q).head? = some 60) ∨ (c = 62 ∧ ([] ++ q).head? = some 62)) := by
                      rcases hq with rfl | ⟨y, rfl⟩
                      · simp
                      · rintro (⟨_, h⟩ | ⟨_, h⟩) <;> cases h
                    rw [if_neg hqh]
                    simpa using hl
                  | cons d r =>
                    by_cases h2 : (c = 60 ∧ (d :: r).head? = some 60) ∨ (c = 62 ∧ (d :: r).head? = some 62)
                    · rw [if_pos h2] at hl
                      have : (d :: r ++ q).head? = (d :: r).head? := rfl
                      rw [this, if_pos h2]
                      exact hl
                    · rw [if_neg h2] at hl
                      split at hl <;> simp at hl
                unfold oneM
                rw [List.cons_append] at hs ⊢
                simp only
                rw [if_neg h59, if_neg hdig, if_neg h34, if_neg h37, if_neg hin, hs, if_neg (by simp)]
                rw [show (c :: (r ++ q)).take (c :: r).length = c :: r by rw [← List.cons_append]; simp, tok_eq hk ht hn]

theorem wordM_ok {t : Tok} {w v : List UInt8} (h : wordM t w = some v) (h145 : t.k = 1 ∨ t.k = 4 ∨ t.k = 5) : v = w ∧ WOK t w := by
  unfold wordM at h
  split at h
  · cases h
  · rename_i hc
    split at h
    · cases h
    · rename_i x m ho
      split at h
      · rename_i hx
        obtain ⟨rfl, h2, h3⟩ := hx
        cases h
        exact ⟨rfl, wok_word t w x ho h2 h3 (Classical.byContradiction fun e => hc (.inr e)) h145⟩
      · cases h

/-- Every word that may be printed. -/
theorem writ_ok {t : Tok} {w : List UInt8} (h : writM t = some w) (hr : -9223372036854775808 ≤ t.n ∧ t.n ≤ 9223372036854775807) (h6 : ¬ t.k = 6) : WOK t w := by
  unfold writM at h
  split at h
  · rename_i hk
    obtain ⟨rfl, hw⟩ := wordM_ok h (by omega)
    exact hw
  · split at h
    · rename_i hk
      obtain ⟨rfl, hw⟩ := wordM_ok h (.inr (.inr hk))
      exact hw
    · split at h
      · rename_i hk
        split at h
        · rename_i ht
          cases h
          exact wok_num t hk ht hr
        · cases h
      · split at h
        · rename_i hk
          split at h
          · rename_i hn
            cases h
            exact wok_text t hk hn
          · cases h
        · first
            | (cases h; done)
            | (rw [if_neg h6] at h; cases h)
theorem writ_end {t : Tok} {w : List UInt8} (h : writM t = some w) (h6 : t.k = 6) : t = ⟨6, 0, []⟩ := by
  unfold writM at h
  rw [if_neg (by omega), if_neg (by omega), if_neg (by omega), if_neg (by omega), if_pos h6] at h
  split at h
  · rename_i hc
    exact (tok_eq h6.symm hc.1.symm hc.2).symm
  · cases h

/-- A line so far: its tokens. -/
def Jn (cur : List UInt8) (cs : List Tok) : Prop := ∀ rest, Stop rest → ∀ n, (cur ++ rest).length < n → ∃ m, rest.length < m ∧ lineF n (cur ++ rest) = (lineF m rest).map (cs ++ ·)
theorem Jn.nil : Jn [] [] := fun rest _ n hn => ⟨n, hn, by rw [show (fun x : List Tok => [] ++ x) = id from rfl, Option.map_id]; rfl⟩
theorem Jn.line {cur : List UInt8} {cs : List Tok} (h : Jn cur cs) : lineM cur = some (if cs = [] then [] else cs ++ [⟨6, 0, []⟩]) := by
  obtain ⟨m, _, he⟩ := h [] (.inl rfl) (cur.length + 1) (by simp)
  rw [List.append_nil] at he
  have : lineF m ([] : List UInt8) = some [] := by cases m <;> rfl
  rw [this] at he
  unfold lineM
  rw [he]
  simp
theorem word_line {t : Tok} {w : List UInt8} (hw : WOK t w) (rest : List UInt8) (hr : Stop rest) (n : Nat) (hn : (w ++ rest).length < n) : ∃ m, rest.length < m ∧ lineF n (w ++ rest) = (lineF m rest).map (t :: ·) := by
  obtain ⟨c, r, e, h35, hbl⟩ := hw.ne
  have ho := hw.one rest hr
  cases n with
  | zero => omega
  | succ n =>
    have hl : 1 ≤ w.length := by rw [e]; simp
    rw [List.length_append] at hn
    refine ⟨n, by omega, ?_⟩
    have hd : (w ++ rest).drop w.length = rest := by simp
    generalize hwr : w ++ rest = x at *
    have hx : x = c :: (r ++ rest) := by rw [← hwr, e]; rfl
    have key : ∀ (l : List UInt8) (c : UInt8) (r' : List UInt8), l = c :: r' → lineF (n + 1) l = if c = 35 then some [] else if c = 32 ∨ c = 9 then lineF n r' else match oneM l with | none => none | some (t, k) => (lineF n (l.drop k)).map (t :: ·) := by
      rintro l c r' rfl
      rfl
    rw [key x c (r ++ rest) hx, if_neg h35, if_neg hbl, ho]
    simp only
    rw [hd]
theorem Jn.first {t : Tok} {w : List UInt8} (hw : WOK t w) : Jn w [t] := fun rest hr n hn => word_line hw rest hr n hn
theorem Jn.more {cur : List UInt8} {cs : List Tok} {t : Tok} {w : List UInt8} (h : Jn cur cs) (hw : WOK t w) : Jn (cur ++ (32 :: w)) (cs ++ [t]) := fun rest hr n hn => by
  rw [List.append_assoc] at hn ⊢
  obtain ⟨m, hm, he⟩ := h (32 :: w ++ rest) (.inr ⟨w ++ rest, rfl⟩) n hn
  rw [he]
  cases m with
  | zero => omega
  | succ m =>
    have h32 : lineF (m + 1) (32 :: w ++ rest) = lineF m (w ++ rest) := by
      rw [List.cons_append]
      show (if (32 : UInt8) = 35 then some [] else if (32 : UInt8) = 32 ∨ (32 : UInt8) = 9 then lineF m (w ++ rest) else _) = _
      rw [if_neg (by decide), if_pos (.inl rfl)]
    rw [h32]
    simp only [List.length_cons, List.cons_append] at hm
    obtain ⟨k, hk, he2⟩ := word_line hw rest hr m (by omega)
    refine ⟨k, hk, ?_⟩
    rw [he2, Option.map_map]
    congr 1
    funext x
    simp

/-- All lines' tokens. -/
def toksL : List (List UInt8) → Option (List Tok)
  | [] => some []
  | s :: r => match lineM s with | none => none | some ts => (toksL r).map (ts ++ ·)
theorem lines_word : ∀ (w a cur : List UInt8), (∀ x ∈ w, ¬ x = 10) → linesF (w ++ a) cur = linesF a (cur ++ w)
  | [], a, cur, _ => by simp
  | c :: w, a, cur, h => by
    rw [List.cons_append, linesF, if_neg (h c (by simp)), lines_word w a _ (fun x hx => h x (by simp [hx]))]
    simp

/-- What was printed is cut as it was: P10.4. -/
theorem print_back : ∀ (l : List Tok) (b : Bool) (cur : List UInt8) (cs : List Tok) (a : List UInt8), (∀ t ∈ l, -9223372036854775808 ≤ t.n ∧ t.n ≤ 9223372036854775807) → restT l b = some a → Jn cur cs → (b = true ↔ ¬ cs = []) → (cs = [] → cur = []) →
    toksL (linesF a cur) = some (cs ++ wantF l b)
  | [], b, cur, cs, a, _, h, hj, hb, hc => by
    unfold restT at h
    cases h
    cases b
    · have : cs = [] := Classical.byContradiction fun e => (by have := hb.2 e; cases this)
      have hcur := hc this
      subst this; subst hcur
      rfl
    · have hne := hb.1 rfl
      rw [if_pos rfl]
      show toksL (linesF [10] cur) = _
      have : linesF [10] cur = [cur] := by simp [linesF]
      rw [this]
      unfold toksL
      rw [hj.line, if_neg hne]
      simp [toksL, wantF]
  | t :: r, b, cur, cs, a, hr, h, hj, hb, hc => by
    unfold restT at h
    cases hw : writM t with
    | none => rw [hw] at h; cases h
    | some w =>
      rw [hw] at h
      simp only at h
      have hr' : ∀ t ∈ r, -9223372036854775808 ≤ t.n ∧ t.n ≤ 9223372036854775807 := fun x hx => hr x (by simp [hx])
      by_cases h6 : t.k = 6
      · rw [if_pos h6] at h
        simp only [Option.map_eq_some_iff] at h
        obtain ⟨a', ha, rfl⟩ := h
        have ih := print_back r false [] [] a' hr' ha Jn.nil (by simp) (fun _ => rfl)
        have ht := writ_end hw h6
        have hl : linesF (10 :: a') cur = cur :: linesF a' [] := by simp [linesF]
        rw [hl]
        unfold toksL
        rw [hj.line]
        simp only
        rw [ih]
        have hwf : wantF (t :: r) b = if t.k = 6 then (if b = true then t :: wantF r false else wantF r false) else t :: wantF r true := rfl
        rw [hwf, if_pos h6]
        cases b
        · have : cs = [] := Classical.byContradiction fun e => (by have := hb.2 e; cases this)
          subst this
          simp
        · have hne := hb.1 rfl
          rw [if_neg hne, ht]
          simp
      · rw [if_neg h6] at h
        simp only [Option.map_eq_some_iff] at h
        obtain ⟨a', ha, rfl⟩ := h
        have hok := writ_ok hw (hr t (by simp)) h6
        have hwf : wantF (t :: r) b = if t.k = 6 then (if b = true then t :: wantF r false else wantF r false) else t :: wantF r true := rfl
        rw [hwf, if_neg h6]
        cases b
        · have : cs = [] := Classical.byContradiction fun e => (by have := hb.2 e; cases this)
          have hcur := hc this
          subst this; subst hcur
          simp only [Bool.false_eq_true, if_false]
          rw [lines_word w a' [] hok.lf, List.nil_append, print_back r true w [t] a' hr' ha (Jn.first hok) (by simp) (by simp)]
          simp
        · have hne := hb.1 rfl
          simp only [if_true]
          rw [lines_word (32 :: w) a' cur (fun x hx => (List.mem_cons.1 hx).elim (fun e => by rw [e]; decide) (hok.lf x)), print_back r true (cur ++ 32 :: w) (cs ++ [t]) a' hr' ha (hj.more hok) (by simp) (by simp)]
          simp

theorem toks_cut : ∀ (L : List (List UInt8)) (k : Nat) (acc : List TL) (ts : List Tok), toksL L = some ts → ∃ x, cutF L k acc = .ok (acc ++ x) ∧ x.map Prod.fst = ts
  | [], k, acc, ts, h => by
    cases h
    exact ⟨[], by simp [cutF], rfl⟩
  | s :: L, k, acc, ts, h => by
    unfold toksL at h
    cases hs : lineM s with
    | none => rw [hs] at h; cases h
    | some l =>
      rw [hs] at h
      simp only [Option.map_eq_some_iff] at h
      obtain ⟨ts', h', rfl⟩ := h
      obtain ⟨x, hx, hm⟩ := toks_cut L (k + 1) (acc ++ l.map fun t => (t, (k : Int))) ts' h'
      refine ⟨(l.map fun t => (t, (k : Int))) ++ x, ?_, ?_⟩
      · have hcf : cutF (s :: L) k acc = match lineM s with | none => .error (k : Int) | some ts => cutF L (k + 1) (acc ++ ts.map fun t => (t, (k : Int))) := rfl
        rw [hcf, hs]
        show cutF L (k + 1) _ = _
        rw [hx, List.append_assoc]
      · rw [List.map_append, hm, List.map_map]
        congr 1
        conv => rhs; rw [← List.map_id l]
        rfl

/-- P10.4, whole. -/
theorem back_whole (l : List Tok) (a : List UInt8) (hr : ∀ t ∈ l, -9223372036854775808 ≤ t.n ∧ t.n ≤ 9223372036854775807) (h : printM l = .ok a) :
    (4000 < (linesM a).length ∧ allM a = .error (0, 6)) ∨ ∃ ts, allM a = .ok ts ∧ ts.map Prod.fst = wantF l false := by
  unfold printM at h
  cases hp : restT l false with
  | none => rw [hp] at h; cases h
  | some x =>
    rw [hp] at h
    simp only at h
    split at h
    · cases h
    · rename_i hlen
      cases h
      have hb := print_back l false [] [] a hr hp Jn.nil (by simp) (fun _ => rfl)
      unfold allM
      rw [if_neg hlen]
      by_cases h4 : 4000 < (linesM a).length
      · rw [if_pos h4]
        exact .inl ⟨h4, rfl⟩
      · rw [if_neg h4]
        obtain ⟨x, hx, hm⟩ := toks_cut (linesM a) 1 [] _ hb
        rw [hx]
        exact .inr ⟨x, by simp, by rw [hm]; simp⟩
end Go.Proofs.YtljmbgflcidokaaGreatDoor

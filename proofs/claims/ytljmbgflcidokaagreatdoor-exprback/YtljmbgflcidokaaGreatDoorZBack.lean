/- A value's text, cut and read again, plainly: P1106. Law ExprBack: is it a name of the lexer? Law ExprBack: the walk. -/
import Derived.Test.YtljmbgflcidokaaGreatDoorYTxt
import Derived.Test.YtljmbgflcidokaaGreatDoorXLev
import Derived.Test.YtljmbgflcidokaaGreatDoorXOper
import Derived.Test.YtljmbgflcidokaaGreatDoorYVal
import Derived.Deep.RegionHeld3
namespace Go.Proofs.YtljmbgflcidokaaGreatDoor
open Go.ChangeShapes Go.WideShapes Go.ChangeAt Go.RowKit
set_option linter.unusedVariables false
set_option linter.unusedSimpArgs false

/-- What ends a name or a number. -/
def Stp (r : List UInt8) : Prop := r = [] ∨ ∃ c x, r = c :: x ∧ isIn c = false
theorem tw_stp : ∀ (w r : List UInt8), (∀ c ∈ w, isIn c = true) → Stp r → (w ++ r).takeWhile isIn = w
  | [], r, _, hr => by
    rcases hr with rfl | ⟨c, x, rfl, h⟩
    · rfl
    · simp [h]
  | c :: w, r, h, hr => by
    rw [List.cons_append, List.takeWhile_cons, h c (by simp), if_pos rfl, tw_stp w r (fun x hx => h x (by simp [hx])) hr]
theorem word_stp {w r : List UInt8} (h : ∀ c ∈ w, isIn c = true) (hr : Stp r) : wordN (w ++ r) = w.length := by
  unfold wordN
  rw [tw_stp w r h hr]

/-- A word, whatever ends it. -/
structure WO (t : Tok) (w : List UInt8) : Prop where
  ne : ∃ c r, w = c :: r ∧ ¬ c = 35 ∧ ¬ (c = 32 ∨ c = 9)
  lf : ∀ x ∈ w, ¬ x = 10
  one : ∀ r, Stp r → oneM (w ++ r) = some (t, w.length)

/-- A name of the lexer. -/
structure NameOk (l : List UInt8) : Prop where
  all : ∀ c ∈ l, isIn c = true
  fst : ∀ c r, l = c :: r → isDig c = false
  len : l.length ≤ 255

theorem wo_name {w : List UInt8} (h : NameOk w) (hne : w ≠ []) : WO ⟨1, 0, w⟩ w := by
  cases w with
  | nil => exact absurd rfl hne
  | cons c r =>
    have hin := h.all c (by simp)
    have hd := h.fst c r rfl
    have c35 : ¬ c = 35 := by intro e; subst e; cases hin
    refine ⟨⟨c, r, rfl, in_head (in_plain hin) c35⟩, fun y hy => not_ten (in_plain (h.all y hy)), fun q hq => ?_⟩
    have hw := word_stp h.all hq
    have hl := h.len
    have h39 : ¬ (isDig c = true ∨ c = 39) := by
      rintro (e | e)
      · rw [hd] at e; cases e
      · subst e; cases hin
    unfold oneM
    rw [List.cons_append] at hw ⊢
    simp only
    rw [if_neg (by intro e; subst e; cases hin), if_neg h39, if_neg (by intro e; subst e; cases hin), if_neg (by intro e; subst e; cases hin), if_pos hin, hw, if_pos hl]
    rw [show (c :: (r ++ q)).take (c :: r).length = c :: r by rw [← List.cons_append]; simp]

theorem wo_num (n : Nat) (hn1 : n ≤ 18446744073709551615) : WO ⟨2, wrap64 n, []⟩ (digM n) := by
  have hall := dig_all 20 n
  have hne := dig_ne 20 n (by omega)
  have hdec := dec_dig n hn1
  unfold digM at hdec ⊢
  generalize digF 20 n = w at *
  cases w with
  | nil => exact absurd rfl hne
  | cons c r =>
    have hc := hall c (by simp)
    have hp := dig_plain hc
    have c35 : ¬ c = 35 := by intro e; subst e; cases hc
    refine ⟨⟨c, r, rfl, in_head hp c35⟩, fun x hx => not_ten (dig_plain (hall x hx)), fun q hq => ?_⟩
    have hwd : wordN (c :: r ++ q) = (c :: r).length := word_stp (fun x hx => dig_in (hall x hx)) hq
    have hnum : numM (c :: r ++ q) = some ((n : Int), (c :: r).length) := by
      have c39 : ¬ c = 39 := by intro e; subst e; cases hc
      have h120 : ¬ ((c :: r).length > 2 ∧ (r ++ q).head? = some 120) := by
        rintro ⟨h2, h3⟩
        cases r with
        | nil => simp at h2
        | cons d r =>
          have hd := hall d (by simp)
          simp at h3
          subst h3
          cases hd
      unfold numM
      rw [List.cons_append] at hwd ⊢
      simp only
      rw [if_neg c39, hwd, if_neg (fun h => h120 ⟨h.1, h.2.2.2⟩)]
      rw [show (c :: (r ++ q)).take (c :: r).length = c :: r by rw [← List.cons_append]; simp, hdec]
      rfl
    unfold oneM
    rw [List.cons_append] at hnum ⊢
    simp only
    rw [if_neg (by intro e; subst e; cases hc), if_pos (.inl hc), hnum]
    rfl

/-- A line's rest: its tokens. -/
structure LnW (l : List UInt8) (ts : List Tok) : Prop where
  run : ∀ n, l.length < n → lineF n l = some ts
  lf : ∀ x ∈ l, ¬ x = 10
theorem LnW.nil : LnW [] [] := ⟨fun n _ => by cases n <;> rfl, fun x hx => by cases hx⟩
theorem line_key (n : Nat) : ∀ (l : List UInt8) (c : UInt8) (r' : List UInt8), l = c :: r' → lineF (n + 1) l = if c = 35 then some [] else if c = 32 ∨ c = 9 then lineF n r' else match oneM l with | none => none | some (t, k) => (lineF n (l.drop k)).map (t :: ·) := by
  rintro l c r' rfl
  rfl
theorem LnW.word {t : Tok} {w r : List UInt8} {ts : List Tok} (hw : WO t w) (hr : Stp r) (h : LnW r ts) : LnW (w ++ r) (t :: ts) := by
  refine ⟨fun n hn => ?_, fun x hx => (List.mem_append.1 hx).elim (hw.lf x) (h.lf x)⟩
  obtain ⟨c, r', e, h35, hbl⟩ := hw.ne
  have ho := hw.one r hr
  cases n with
  | zero => omega
  | succ n =>
    have hl : 1 ≤ w.length := by rw [e]; simp
    rw [List.length_append] at hn
    have hd : (w ++ r).drop w.length = r := by simp
    have hrun := h.run n (by omega)
    generalize hwr : w ++ r = x at *
    have hx : x = c :: (r' ++ r) := by rw [← hwr, e]; rfl
    rw [line_key n x c _ hx, if_neg h35, if_neg hbl, ho]
    simp only
    rw [hd, hrun]
    rfl
theorem LnW.sign {c : UInt8} {r : List UInt8} {ts : List Tok} (hc : c = 45 ∨ c = 43) (h : LnW r ts) : LnW (c :: r) (⟨4, 0, [c]⟩ :: ts) := by
  refine ⟨fun n hn => ?_, fun x hx => (List.mem_cons.1 hx).elim (fun e => by rw [e]; rcases hc with rfl | rfl <;> decide) (h.lf x)⟩
  cases n with
  | zero => omega
  | succ n =>
    have hrun := h.run n (by simp only [List.length_cons] at hn; omega)
    have ho : oneM (c :: r) = some (⟨4, 0, [c]⟩, 1) := by
      unfold oneM signN
      rcases hc with rfl | rfl <;> rfl
    rw [line_key n (c :: r) c r rfl, if_neg (by rcases hc with rfl | rfl <;> decide), if_neg (by rcases hc with rfl | rfl <;> decide), ho]
    simp only [List.drop_succ_cons, List.drop_zero]
    rw [hrun]
    rfl
theorem stp_sign {c : UInt8} {r : List UInt8} (hc : c = 45 ∨ c = 43) : Stp (c :: r) := .inr ⟨c, r, rfl, by rcases hc with rfl | rfl <;> decide⟩
theorem LnW.last {t : Tok} {w : List UInt8} (hw : WO t w) : LnW w [t] := by
  have := LnW.word hw (.inl rfl) LnW.nil
  rwa [List.append_nil] at this

/-- One line's tokens, and its End. -/
theorem all_line {l : List UInt8} {ts : List Tok} (h : LnW l ts) (hn : l.length ≤ 60000) (hne : l ≠ []) (hts : ts ≠ []) : allM l = .ok ((ts ++ [(⟨6, 0, []⟩ : Tok)]).map fun t => (t, (1 : Int))) := by
  have hL : linesM l = [l] := by
    unfold linesM
    rw [lines_plain _ _ h.lf, List.nil_append, if_neg hne]
  have h1 : lineM l = some (ts ++ [⟨6, 0, []⟩]) := by
    unfold lineM
    rw [h.run _ (by omega)]
    simp only [Option.map_some, if_neg hts]
  unfold allM
  rw [if_neg (by omega), hL, if_neg (by simp)]
  unfold cutF
  rw [h1]
  rfl

/-! the tokens of a value's text -/
def mn : Tok := ⟨4, 0, [45]⟩
def pl : Tok := ⟨4, 0, [43]⟩
def numT (e : Bool) (n : Int) : List Tok := if n < 0 then [mn, ⟨2, wrap64 (n.natAbs : Int), []⟩] else if e = true then [⟨2, n, []⟩] else if n = 0 then [] else [pl, ⟨2, n, []⟩]
def nameT (p m : List UInt8) : List Tok := (if p = [] then [] else [⟨1, 0, p⟩]) ++ (if m = [] then [] else [mn, ⟨1, 0, m⟩])
def valT (p m : List UInt8) (n : Int) : List Tok := nameT p m ++ numT (decide (p = []) && decide (m = [])) n
/-- A number's text behind names. -/
def numL (e : Bool) (n : Int) : List UInt8 := if n < 0 then 45 :: digM n.natAbs else if e = true then digM n.toNat else if n = 0 then [] else 43 :: digM n.toNat
def nameL (p m : List UInt8) : List UInt8 := p ++ (if m = [] then [] else 45 :: m)
def valL (p m : List UInt8) (n : Int) : List UInt8 := nameL p m ++ numL (decide (p = []) && decide (m = [])) n

theorem num_ln (e : Bool) (n : Int) (hn : i64 n) : LnW (numL e n) (numT e n) := by
  unfold numL numT
  unfold i64 at hn
  by_cases h0 : n < 0
  · rw [if_pos h0, if_pos h0]
    exact LnW.sign (.inl rfl) (LnW.last (wo_num n.natAbs (by omega)))
  · rw [if_neg h0, if_neg h0]
    have hw : wrap64 (n.toNat : Int) = n := by unfold wrap64; omega
    have := wo_num n.toNat (by omega)
    rw [hw] at this
    cases e
    · simp only [Bool.false_eq_true, if_false]
      by_cases h1 : n = 0
      · rw [if_pos h1, if_pos h1]; exact LnW.nil
      · rw [if_neg h1, if_neg h1]; exact LnW.sign (.inr rfl) (LnW.last this)
    · simp only [if_true]; exact LnW.last this
theorem num_stp (n : Int) : Stp (numL false n) := by
  unfold numL
  split
  · exact stp_sign (.inl rfl)
  · simp only [Bool.false_eq_true, if_false]
    split
    · exact .inl rfl
    · exact stp_sign (.inr rfl)
theorem val_ln {p m : List UInt8} {n : Int} (hp : NameOk p) (hm : NameOk m) (hn : i64 n) : LnW (valL p m n) (valT p m n) := by
  unfold valL valT nameL nameT
  by_cases p0 : p = []
  · subst p0
    by_cases m0 : m = []
    · subst m0
      simp only [if_true, List.nil_append, decide_true, Bool.and_self]
      exact num_ln true n hn
    · simp only [if_neg m0, if_true, List.nil_append, decide_true, Bool.true_and, m0, decide_false, List.cons_append]
      exact LnW.sign (.inl rfl) (LnW.word (wo_name hm m0) (num_stp n) (num_ln false n hn))
  · by_cases m0 : m = []
    · subst m0
      simp only [if_neg p0, if_true, List.append_nil, decide_true, Bool.and_true, p0, decide_false, List.cons_append, List.nil_append]
      exact LnW.word (wo_name hp p0) (num_stp n) (num_ln false n hn)
    · simp only [if_neg p0, if_neg m0, p0, m0, decide_false, Bool.and_self, List.append_assoc, List.cons_append, List.nil_append]
      exact LnW.word (wo_name hp p0) (stp_sign (.inl rfl)) (LnW.sign (.inl rfl) (LnW.word (wo_name hm m0) (num_stp n) (num_ln false n hn)))
theorem numL_len (e : Bool) (n : Int) : (numL e n).length ≤ 21 := by
  unfold numL
  have h1 := dig_len 20 n.natAbs
  have h2 := dig_len 20 n.toNat
  unfold digM
  split
  · simp; omega
  · split
    · omega
    · split
      · simp
      · simp; omega
theorem valT_ne (p m : List UInt8) (n : Int) : valT p m n ≠ [] := by
  unfold valT nameT numT
  by_cases p0 : p = []
  · by_cases m0 : m = []
    · simp only [p0, m0, decide_true, Bool.and_self, if_true]
      split <;> simp
    · simp [m0]
  · simp [p0]
theorem valL_ne (p m : List UInt8) (n : Int) : valL p m n ≠ [] := by
  unfold valL nameL numL
  have h1 := dig_ne 20 n.natAbs (by omega)
  have h2 := dig_ne 20 n.toNat (by omega)
  by_cases p0 : p = []
  · by_cases m0 : m = []
    · simp only [p0, m0, decide_true, Bool.and_self, if_true, List.append_nil, List.nil_append]
      split
      · simp
      · exact h2
    · simp [m0]
  · simp [p0]
theorem val_all {p m : List UInt8} {n : Int} (hp : NameOk p) (hm : NameOk m) (hn : i64 n) : allM (valL p m n) = .ok ((valT p m n ++ [(⟨6, 0, []⟩ : Tok)]).map fun t => (t, (1 : Int))) := by
  refine all_line (val_ln hp hm hn) ?_ (valL_ne p m n) (valT_ne p m n)
  unfold valL nameL
  have := numL_len (decide (p = []) && decide (m = [])) n
  have := hp.len
  have := hm.len
  simp only [List.length_append]
  split <;> simp <;> omega
theorem lo_app (a b : ByteArray) : lo (a ++ b) = lo a ++ lo b := by
  unfold lo
  simp
theorem sBes (a : ByteArray) : sB a es = decide (lo a = []) := by
  by_cases h : lo a = []
  · have : a = es := by rw [← St_lo a, h]; rfl
    rw [(sB_iff a es).2 this]
    simp [h]
  · have : ¬ a = es := fun e => h (by rw [e]; rfl)
    rw [(sB_false a es).2 this]
    simp [h]
theorem text_val (p m : ByteArray) (n : Int) (hn : i64 n) : lo (textV ⟨p, m, n⟩) = valL (lo p) (lo m) n := by
  unfold i64 at hn
  have hN : lo (namesV ⟨p, m, n⟩) = nameL (lo p) (lo m) := by
    unfold namesV nameL
    simp only [sBes]
    by_cases m0 : lo m = []
    · simp [m0]
    · simp only [m0, decide_false, Bool.false_eq_true, if_false, lo_app]
      rfl
  have hE : sB (namesV ⟨p, m, n⟩) es = (decide (lo p = []) && decide (lo m = [])) := by
    rw [sBes, hN]
    unfold nameL
    by_cases p0 : lo p = []
    · by_cases m0 : lo m = []
      · simp [p0, m0]
      · simp [p0, m0]
    · simp [p0]
  have hpos : 0 ≤ n → lo (itoaS n) = digM n.toNat := fun h => by
    rw [itoa_pos n h, ← dec_digM n.toNat (by omega)]
    rfl
  have hneg : n < 0 → lo (itoaS n) = 45 :: digM n.natAbs := fun h => by
    rw [itoa_low n h, lo_app, ← dec_digM n.natAbs (by omega)]
    rfl
  unfold textV textN valL
  rw [hE, ← hN]
  simp only
  generalize namesV ⟨p, m, n⟩ = N at *
  by_cases he : (decide (lo p = []) && decide (lo m = [])) = true
  · rw [if_pos he]
    rw [he]
    have hN0 : lo N = [] := by
      rw [hN]
      simp only [Bool.and_eq_true, decide_eq_true_eq] at he
      unfold nameL
      simp [he.1, he.2]
    rw [hN0, List.nil_append]
    unfold numL
    by_cases h0 : n < 0
    · rw [if_pos h0, hneg h0]
    · rw [if_neg h0, if_pos rfl, hpos (by omega)]
  · rw [if_neg he]
    rw [Bool.not_eq_true] at he
    rw [he]
    unfold numL
    by_cases h0 : n < 0
    · rw [if_neg (by omega), if_neg (by omega), if_pos h0, lo_app, hneg h0]
    · rw [if_neg h0]
      simp only [Bool.false_eq_true, if_false]
      by_cases h1 : n = 0
      · rw [if_pos h1, if_pos h1, List.append_nil]
      · rw [if_neg h1, if_neg h1, if_pos (by omega), lo_app, lo_app, hpos (by omega), List.append_assoc]
        rfl

/-! what the tokens are read as -/
theorem redV_any (p m : ByteArray) (n : Int) (h : sB p m = true → p = es ∧ m = es) : redV ⟨p, m, n⟩ = ⟨p, m, n⟩ := by
  unfold redV
  simp only
  split
  · rename_i hs
    obtain ⟨rfl, rfl⟩ := h hs
    rfl
  · rfl
theorem cut_es (p : ByteArray) : cutN p es = (p, es) := by
  unfold cutN
  rw [sBes]
  by_cases h : lo p = []
  · have : p = es := by rw [← St_lo p, h]; rfl
    simp [this]
  · simp [h]
theorem cut_es' (p : ByteArray) : cutN es p = (es, p) := by
  unfold cutN
  by_cases h : sB es p = true
  · rw [if_pos h]
    rw [sB_iff] at h
    rw [← h]
  · rw [if_neg h]
theorem app_es (p : ByteArray) : p ++ es = p := by
  rw [← St_lo (p ++ es), lo_app]
  show St (lo p ++ []) = p
  rw [List.append_nil]
  rfl
theorem es_app (p : ByteArray) : es ++ p = p := by
  rw [← St_lo (es ++ p), lo_app]
  rfl
/-- A number more. -/
theorem add_num (p m : ByteArray) (a b : Int) (h : sB p m = true → p = es ∧ m = es) : addV ⟨p, m, a⟩ ⟨es, es, b⟩ = some ⟨p, m, wrap64 (a + b)⟩ := by
  unfold addV
  rw [redV_any p m a h, redV_any es es b (fun _ => ⟨rfl, rfl⟩)]
  unfold addR
  simp only
  rw [cut_es, cut_es]
  simp only
  rw [app_es, app_es, if_neg]
  unfold twoN
  rw [sB_es]
  simp
theorem sub_num (p m : ByteArray) (a b : Int) (h : sB p m = true → p = es ∧ m = es) : subV ⟨p, m, a⟩ ⟨es, es, b⟩ = some ⟨p, m, wrap64 (a + wrap64 (-b))⟩ := add_num p m a _ h
/-- A name less. -/
theorem sub_name (p m : ByteArray) (hpm : sB p m = true → p = es ∧ m = es) : subV ⟨p, es, 0⟩ ⟨m, es, 0⟩ = some ⟨p, m, 0⟩ := by
  show addV ⟨p, es, 0⟩ ⟨es, m, wrap64 (-0)⟩ = _
  unfold addV
  rw [redV_any p es 0 (fun h => ⟨by rw [sB_iff] at h; exact h, rfl⟩), redV_any es m _ (fun h => ⟨rfl, by rw [sB_iff] at h; exact h.symm⟩)]
  unfold addR
  simp only
  have hc : cutN p m = (p, m) := by
    unfold cutN
    split
    · rename_i hs
      obtain ⟨rfl, rfl⟩ := hpm hs
      rfl
    · rfl
  rw [hc, cut_es']
  simp only
  rw [app_es, es_app, if_neg, show wrap64 (0 + wrap64 (-0)) = 0 by unfold wrap64; omega]
  unfold twoN
  rw [sB_es]
  simp

theorem nameV_nil (s : ByteArray) : nameV [] s = ⟨s, es, 0⟩ := rfl
def evalW (L : List TL) (inner : Nat → Res) : Res := exprOf [] L inner 0
section
variable {L : List TL} {inner : Nat → Res}
def atomV (t : Tok) : Vx := if t.k = 2 then Vx.num t.n else ⟨St t.t, es, 0⟩
def isAt (t : Tok) : Prop := t.k = 2 ∨ t.k = 1
theorem at_one {a : Nat} (h : isAt (tk L a)) : isOne L a = false := by
  unfold isOne isSg
  rcases h with h | h <;> rw [h] <;> rfl
theorem at_atom {a : Nat} (h : isAt (tk L a)) : atomM [] L inner a = .ok (atomV (tk L a), a + 1) := by
  unfold atomM isSg atomV
  rcases h with h | h <;> rw [h] <;> rfl
theorem at_oper {a : Nat} (h : isAt (tk L a)) : operM [] L inner a = .ok (atomV (tk L a), a + 1) := by
  unfold operM
  rw [onesN_end (at_one h), if_neg (by omega), Nat.add_zero, at_atom h]
  rfl
theorem mn_oper {a : Nat} (hm : tk L a = mn) (h : isAt (tk L (a + 1))) (v : Vx) (hv : subV Vx.zero (atomV (tk L (a + 1))) = some v) : operM [] L inner a = .ok (v, a + 2) := by
  have h1 : onesN L 201 a = 1 := by
    have h0 : isOne L a = true := by unfold isOne isSg; rw [hm]; rfl
    show (if isOne L a = true then 1 + onesN L 200 (a + 1) else 0) = 1
    rw [if_pos h0, onesN_end (at_one h)]
  unfold operM
  rw [h1, if_neg (by omega), at_atom h]
  simp only
  have : onesF L a 1 (atomV (tk L (a + 1))) = some v := by
    show (match oneV (tk L (a + 0)).t (atomV (tk L (a + 1))) with | none => none | some v => some v) = _
    rw [Nat.add_zero, hm]
    show (match subV Vx.zero (atomV (tk L (a + 1))) with | none => none | some v => some v) = _
    rw [hv]
  rw [this]
/-- A sum's sign, or an end. -/
def ends01 (t : Tok) : Prop := t = mn ∨ t = pl ∨ t = ⟨6, 0, []⟩
theorem lv01 {a n : Nat} (h : ends01 (tk L a)) (hn : n = 0 ∨ n = 1) : isLv L a n = false := by
  unfold isLv
  rcases h with h | h | h <;> rw [h] <;> rcases hn with rfl | rfl <;> rfl
theorem skip01 {a b : Nat} {v : Vx} {f : Nat → Res} (hf : f a = .ok (v, b)) (h : ends01 (tk L b)) : levM L 1 (levM L 0 f) a = .ok (v, b) := by
  have h0 : levM L 0 f a = .ok (v, b) := by
    unfold levM
    rw [hf]
    exact levF_end (lv01 h (.inl rfl)) _
  unfold levM at h0 ⊢
  rw [h0]
  exact levF_end (lv01 h (.inr rfl)) _
/-- A sum, read up to a place. -/
def Rd (L : List TL) (inner : Nat → Res) (b : Nat) (v : Vx) : Prop := ∃ n, L.length < n + b ∧ evalW L inner = levF L 2 (levM L 1 (levM L 0 (operM [] L inner))) n v b
theorem Rd.first {v : Vx} {b : Nat} (hf : operM [] L inner 0 = .ok (v, b)) (h : ends01 (tk L b)) (hb : b ≤ L.length) : Rd L inner b v := by
  refine ⟨L.length + 1 - b, by omega, ?_⟩
  unfold evalW exprOf
  rw [show levM L 2 (levM L 1 (levM L 0 (operM [] L inner))) 0 = (match levM L 1 (levM L 0 (operM [] L inner)) 0 with | .error e => .error e | .ok (v, b) => levF L 2 (levM L 1 (levM L 0 (operM [] L inner))) (L.length + 1 - b) v b) from rfl, skip01 hf h]
theorem Rd.next {v y : Vx} {b : Nat} {sg : Tok} (h : Rd L inner b v) (hs : sg = mn ∨ sg = pl) (ht : tk L b = sg) (ha : isAt (tk L (b + 1))) (he : ends01 (tk L (b + 2))) (hl : b + 2 ≤ L.length) (hy : twoV sg.t v (atomV (tk L (b + 1))) = some y) : Rd L inner (b + 2) y := by
  obtain ⟨n, hn, e⟩ := h
  cases n with
  | zero => omega
  | succ n =>
    refine ⟨n, by omega, ?_⟩
    rw [e]
    have hv : isLv L b 2 = true := by
      unfold isLv
      rw [ht]
      rcases hs with rfl | rfl <;> rfl
    rw [show levF L 2 (levM L 1 (levM L 0 (operM [] L inner))) (n + 1) v b = (if isLv L b 2 = true then match levM L 1 (levM L 0 (operM [] L inner)) (b + 1) with | .error e => .error e | .ok (x, c) => (match twoV (tk L b).t v x with | none => .error 110 | some y => levF L 2 (levM L 1 (levM L 0 (operM [] L inner))) n y c) else .ok (v, b)) from rfl, if_pos hv, skip01 (at_oper ha) he]
    simp only
    rw [ht, hy]
theorem Rd.done {v : Vx} {b : Nat} (h : Rd L inner b v) (ht : tk L b = ⟨6, 0, []⟩) : evalW L inner = .ok (v, b) := by
  obtain ⟨n, hn, e⟩ := h
  rw [e]
  refine levF_end ?_ _
  unfold isLv
  rw [ht]
  rfl
end
def ln1 (ts : List Tok) : List TL := (ts ++ [(⟨6, 0, []⟩ : Tok)]).map fun t => (t, (1 : Int))
theorem tk_app (pre x : List TL) (i : Nat) : tk (pre ++ x) (pre.length + i) = tk x i := by
  unfold tk
  rw [List.getD_eq_getElem?_getD, List.getD_eq_getElem?_getD, List.getElem?_append_right (by omega), Nat.add_sub_cancel_left]
theorem num_ends (n : Int) : ends01 (tk (ln1 (numT false n)) 0) := by
  unfold numT
  split
  · exact .inl rfl
  · simp only [Bool.false_eq_true, if_false]
    split
    · exact .inr (.inr rfl)
    · exact .inr (.inl rfl)
/-- The number, behind the names. -/
theorem num_run {inner : Nat → Res} (pre : List TL) (p m : ByteArray) (n : Int) (hn : i64 n) (hpm : sB p m = true → p = es ∧ m = es) (h : Rd (pre ++ ln1 (numT false n)) inner pre.length ⟨p, m, 0⟩) :
    evalW (pre ++ ln1 (numT false n)) inner = .ok (⟨p, m, n⟩, (pre ++ ln1 (numT false n)).length - 1) := by
  unfold i64 at hn
  obtain ⟨L, hL⟩ : ∃ L, pre ++ ln1 (numT false n) = L := ⟨_, rfl⟩
  have hk : ∀ i, tk L (pre.length + i) = tk (ln1 (numT false n)) i := fun i => by rw [← hL]; exact tk_app _ _ i
  have hlen : L.length = pre.length + (numT false n).length + 1 := by
    rw [← hL]
    unfold ln1
    simp; omega
  rw [hL] at h ⊢
  unfold numT at hk hlen
  by_cases h0 : n < 0
  · rw [if_pos h0] at hk hlen
    have hw : wrap64 (0 + wrap64 (-wrap64 (n.natAbs : Int))) = n := by unfold wrap64; omega
    have h2 := h.next (sg := mn) (y := ⟨p, m, n⟩) (.inl rfl) (hk 0) (.inl (by rw [hk 1]; rfl)) (.inr (.inr (hk 2))) (by rw [hlen]; simp) (by
      rw [hk 1]
      show subV ⟨p, m, 0⟩ (Vx.num (wrap64 (n.natAbs : Int))) = _
      unfold Vx.num
      rw [sub_num p m 0 _ hpm, hw])
    rw [h2.done (hk 2), hlen]
    rfl
  · rw [if_neg h0] at hk hlen
    simp only [Bool.false_eq_true, if_false] at hk hlen
    by_cases h1 : n = 0
    · subst h1
      simp only [if_true] at hk hlen
      rw [h.done (hk 0), hlen]
      rfl
    · rw [if_neg h1] at hk hlen
      have hw : wrap64 (0 + n) = n := by unfold wrap64; omega
      have h2 := h.next (sg := pl) (y := ⟨p, m, n⟩) (.inr rfl) (hk 0) (.inl (by rw [hk 1]; rfl)) (.inr (.inr (hk 2))) (by rw [hlen]; simp) (by
        rw [hk 1]
        show addV ⟨p, m, 0⟩ (Vx.num n) = _
        unfold Vx.num
        rw [add_num p m 0 _ hpm, hw])
      rw [h2.done (hk 2), hlen]
      rfl
/-- P1106. -/
theorem val_eval {inner : Nat → Res} (p m : ByteArray) (n : Int) (hn : i64 n) (hpm : sB p m = true → p = es ∧ m = es) :
    evalW (ln1 (valT (lo p) (lo m) n)) inner = .ok (⟨p, m, n⟩, (ln1 (valT (lo p) (lo m) n)).length - 1) := by
  have hcat : ∀ a b, ln1 (a ++ b) = (a.map fun t => (t, (1 : Int))) ++ ln1 b := fun a b => by unfold ln1; simp
  have hnl := num_ends n
  unfold valT
  by_cases p0 : lo p = []
  · have hp : p = es := by rw [← St_lo p, p0]; rfl
    subst hp
    by_cases m0 : lo m = []
    · have hm : m = es := by rw [← St_lo m, m0]; rfl
      subst hm
      show evalW (ln1 (numT true n)) inner = .ok (_, (ln1 (numT true n)).length - 1)
      unfold numT
      unfold i64 at hn
      by_cases h0 : n < 0
      · rw [if_pos h0]
        have hw : wrap64 (0 + wrap64 (-wrap64 (n.natAbs : Int))) = n := by unfold wrap64; omega
        refine (Rd.first (mn_oper rfl (.inl rfl) ⟨es, es, n⟩ ?_) (.inr (.inr rfl)) (by simp [ln1])).done rfl
        show subV ⟨es, es, 0⟩ ⟨es, es, wrap64 (n.natAbs : Int)⟩ = _
        rw [sub_num es es 0 _ (fun _ => ⟨rfl, rfl⟩), hw]
      · rw [if_neg h0, if_pos rfl]
        exact (Rd.first (at_oper (.inl rfl)) (.inr (.inr rfl)) (by simp [ln1])).done rfl
    · rw [show nameT (lo es) (lo m) = [mn, ⟨1, 0, lo m⟩] by unfold nameT; rw [if_pos (show lo es = [] from rfl), if_neg m0]; rfl, show (decide (lo es = []) && decide (lo m = [])) = false by simp [m0], hcat]
      refine num_run _ es m n hn hpm ?_
      refine Rd.first (mn_oper rfl (.inr rfl) ⟨es, m, 0⟩ ?_) ?_ (by simp)
      · exact sub_name es m hpm
      · exact hnl
  · by_cases m0 : lo m = []
    · have hm : m = es := by rw [← St_lo m, m0]; rfl
      subst hm
      rw [show nameT (lo p) (lo es) = [⟨1, 0, lo p⟩] by unfold nameT; rw [if_neg p0, if_pos (show lo es = [] from rfl)]; rfl, show (decide (lo p = []) && decide (lo es = [])) = false by simp [p0], hcat]
      refine num_run _ p es n hn hpm ?_
      exact Rd.first (at_oper (.inr rfl)) hnl (by simp)
    · rw [show nameT (lo p) (lo m) = [⟨1, 0, lo p⟩, mn, ⟨1, 0, lo m⟩] by unfold nameT; rw [if_neg p0, if_neg m0]; rfl, show (decide (lo p = []) && decide (lo m = [])) = false by simp [p0], hcat]
      refine num_run _ p m n hn hpm ?_
      have h1 : Rd (([⟨1, 0, lo p⟩, mn, ⟨1, 0, lo m⟩] : List Tok).map (fun t => (t, (1 : Int))) ++ ln1 (numT false n)) inner 1 ⟨p, es, 0⟩ := Rd.first (at_oper (.inr rfl)) (.inl rfl) (by simp)
      exact h1.next (sg := mn) (.inl rfl) rfl (.inr rfl) hnl (by simp) (sub_name p m hpm)
theorem val_few (p m : List UInt8) (n : Int) : (ln1 (valT p m n)).length ≤ 8 := by
  unfold ln1 valT nameT numT
  simp only [List.length_map, List.length_append, List.length_cons, List.length_nil]
  have h1 : (if p = [] then ([] : List Tok) else [⟨1, 0, p⟩]).length ≤ 1 := by split <;> simp
  have h2 : (if m = [] then ([] : List Tok) else [mn, ⟨1, 0, m⟩]).length ≤ 2 := by split <;> simp
  have h3 : (if n < 0 then [mn, ⟨2, wrap64 (n.natAbs : Int), []⟩] else if (decide (p = []) && decide (m = [])) = true then [⟨2, n, []⟩] else if n = 0 then [] else [pl, ⟨2, n, []⟩] : List Tok).length ≤ 2 := by
    split
    · simp
    · split
      · simp
      · split <;> simp
  omega

def letW (z : Int) : Bool := letZ z || (z == 95 || z == 46)
def okI (i : Nat) (z : Int) : Bool := letW z || (decide (¬ i = 0) && digZ z)
def wordF : List UInt8 → Nat → Bool
  | [], _ => true
  | c :: r, i => okI i (zOf c) && wordF r (i + 1)
def wordB (s : ByteArray) : Bool := wordF (lo s) 0 && decide ((s.size : Int) ≤ 255)
theorem wordF_all : ∀ (l : List UInt8) (i : Nat), wordF l i = true → ∀ c ∈ l, isIn c = true
  | [], i, _, c, hc => by cases hc
  | d :: l, i, h, c, hc => by
    unfold wordF at h
    rw [Bool.and_eq_true] at h
    rcases List.mem_cons.1 hc with rfl | hc
    · have := h.1
      unfold okI letW at this
      unfold isIn inZ
      cases h1 : letZ (zOf c) with
      | true => rfl
      | false =>
        rw [h1] at this
        cases h2 : digZ (zOf c) with
        | true => rfl
        | false =>
          rw [h2] at this
          simpa using this
    · exact wordF_all l (i + 1) h.2 c hc
theorem word_ok {s : ByteArray} (h : wordB s = true) : NameOk (lo s) := by
  unfold wordB at h
  rw [Bool.and_eq_true, decide_eq_true_eq] at h
  refine ⟨wordF_all _ 0 h.1, fun c r e => ?_, by rw [lo_len]; omega⟩
  have h1 := h.1
  rw [e] at h1
  unfold wordF at h1
  rw [Bool.and_eq_true] at h1
  have h2 := h1.1
  unfold okI letW letZ at h2
  unfold isDig digZ
  cases hd : (decide (48 ≤ zOf c) && decide (zOf c ≤ 57)) with
  | false => rfl
  | true =>
    rw [Bool.and_eq_true, decide_eq_true_eq, decide_eq_true_eq] at hd
    simp at h2
    omega

/-- What the tests of one byte say. -/
def wordR (i : Nat) (z : Int) : Bool := okI i z
theorem word_cases (z : Int) : (97 ≤ z ∧ z ≤ 122) ∨ (¬ 97 ≤ z ∧ 65 ≤ z ∧ z ≤ 90) ∨ (¬ 97 ≤ z ∧ 65 ≤ z ∧ ¬ z ≤ 90 ∧ z = 95) ∨ (¬ 97 ≤ z ∧ 65 ≤ z ∧ ¬ z ≤ 90 ∧ ¬ z = 95) ∨ (¬ 97 ≤ z ∧ ¬ 65 ≤ z ∧ z = 46) ∨ (¬ 97 ≤ z ∧ ¬ 65 ≤ z ∧ ¬ z = 46 ∧ z < 48) ∨ (¬ 97 ≤ z ∧ ¬ 65 ≤ z ∧ 48 ≤ z ∧ z ≤ 57) ∨ (¬ 97 ≤ z ∧ ¬ 65 ≤ z ∧ 57 < z) ∨ (97 ≤ z ∧ ¬ z ≤ 122) := by omega

set_option maxHeartbeats 4000000 in
set_option maxRecDepth 10000 in
theorem word_any (s : ByteArray) (hs : s.size ≤ 562949953421312) (w : World) : Calls Tryz.prog 23 #[.string s] w fun e w' => e = .returned (.bool (wordB s)) ∧ w' = w := by
  obtain ⟨R, HR⟩ : ∃ R, Hid (wordF (lo s) 0 = R) := ⟨_, ⟨rfl⟩⟩
  have hB : wordB s = (R && decide ((s.size : Int) ≤ 255)) := by unfold wordB; rw [HR.out]
  rw [hB]
  clear hB
  go_enter Tryz.func23, Tryz.ntmps23
  go_wp2
  go_loopw [3] (fun i wr => ∃ k : Nat, i = .int .i64 (k : Int) ∧ k ≤ s.size ∧ Hid (wr = w ∧ wordF ((lo s).drop k) k = R)) (fun i _ => s.size - (intOf i).toNat)
  case atStart => exact ⟨0, rfl, by omega, ⟨rfl, HR.out⟩⟩
  case round =>
    obtain ⟨k, rfl, hk, HW⟩ := hrel
    obtain ⟨hw, hF⟩ := HW.out
    subst hw
    by_cases hlt : k < s.size
    · have h0 : (0 : Int) ≤ (k : Int) := by omega
      have h1 : (k : Int) < (s.size : Int) := by omega
      have hll : k < (lo s).length := by rw [lo_len]; exact hlt
      rw [List.drop_eq_getElem_cons hll, lo_at s k hlt] at hF
      have hwr : IntKind.i64.wrap ((k : Int) + 1) = ((k + 1 : Nat) : Int) := by rw [IntKind.wrap_i64]; omega
      unfold wordF at hF
      have hF2 : (okI k (((s[k]'hlt).toNat : Int)) && wordF ((lo s).drop (k + 1)) (k + 1)) = R := hF
      clear hF
      obtain ⟨z, hzz⟩ : ∃ z : Int, ((s[k]'hlt).toNat : Int) = z := ⟨_, rfl⟩
      rw [hzz] at hF2
      have HF : Hid _ := ⟨hF2⟩
      clear hF2 HW
      have yes : okI k z = true → wordF ((lo s).drop (k + 1)) (k + 1) = R := fun h => by
        have := HF.out
        rwa [h, Bool.true_and] at this
      have no : okI k z = false → R = false := fun h => by
        have := HF.out
        rw [h, Bool.false_and] at this
        exact this.symm
      have HY : Hid _ := ⟨yes⟩
      have HN : Hid _ := ⟨no⟩
      clear yes no HF
      rcases word_cases z with ⟨a1, a2⟩ | ⟨a1, a2, a3⟩ | ⟨a1, a2, a3, a4⟩ | ⟨a1, a2, a3, a4⟩ | ⟨a1, a2, a3⟩ | ⟨a1, a2, a3, a4⟩ | ⟨a1, a2, a3, a4⟩ | ⟨a1, a2, a3⟩ | ⟨a1, a2⟩
      · have HK : Hid _ := ⟨HY.out (by unfold okI letW letZ digZ; simp; omega)⟩
        go_wp2
        go_roundw
        case rel => exact ⟨k + 1, by go_num, by omega, ⟨⟨trivial, HK.out⟩⟩⟩
        case measure => simp [intOf]; omega
      · have HK : Hid _ := ⟨HY.out (by unfold okI letW letZ digZ; simp; omega)⟩
        go_wp2
        go_roundw
        case rel => exact ⟨k + 1, by go_num, by omega, ⟨⟨trivial, HK.out⟩⟩⟩
        case measure => simp [intOf]; omega
      · have b5 : (z == 95) = true := by simp [a4]
        have HK : Hid _ := ⟨HY.out (by unfold okI letW letZ digZ; simp; omega)⟩
        go_wp2
        go_roundw
        case rel => exact ⟨k + 1, by go_num, by omega, ⟨⟨trivial, HK.out⟩⟩⟩
        case measure => simp [intOf]; omega
      · have b5 : (z == 95) = false := by simpa using a4
        have b6 : (z == 46) = false := by simp; omega
        have c1 : ¬ z < 48 := by omega
        have c2 : 57 < z := by omega
        have hR := HN.out (by unfold okI letW letZ digZ; simp; omega)
        subst hR
        go_wp2
        all_goals
          go_ret
          exact ⟨ret_bool (by simp), rfl⟩
      · have b5 : (z == 95) = false := by simp; omega
        have b6 : (z == 46) = true := by simp [a3]
        have HK : Hid _ := ⟨HY.out (by unfold okI letW letZ digZ; simp; omega)⟩
        go_wp2
        go_roundw
        case rel => exact ⟨k + 1, by go_num, by omega, ⟨⟨trivial, HK.out⟩⟩⟩
        case measure => simp [intOf]; omega
      · have b5 : (z == 95) = false := by simp; omega
        have b6 : (z == 46) = false := by simpa using a3
        have hR := HN.out (by unfold okI letW letZ digZ; simp; omega)
        subst hR
        go_wp2
        all_goals
          go_ret
          exact ⟨ret_bool (by simp), rfl⟩
      · have b5 : (z == 95) = false := by simp; omega
        have b6 : (z == 46) = false := by simp; omega
        have c1 : ¬ z < 48 := by omega
        have c2 : ¬ 57 < z := by omega
        by_cases k0 : k = 0
        · subst k0
          have hR := HN.out (by unfold okI letW letZ digZ; simp; omega)
          subst hR
          go_wp2
          go_ret
          exact ⟨ret_bool (by simp), rfl⟩
        · have k1 : ((k : Int) == 0) = false := by simpa using k0
          have HK : Hid _ := ⟨HY.out (by unfold okI letW letZ digZ; simp; omega)⟩
          go_wp2
          go_roundw
          case rel => exact ⟨k + 1, by go_num, by omega, ⟨⟨trivial, HK.out⟩⟩⟩
          case measure => simp [intOf]; omega
      · have b5 : (z == 95) = false := by simp; omega
        have b6 : (z == 46) = false := by simp; omega
        have c1 : ¬ z < 48 := by omega
        have hR := HN.out (by unfold okI letW letZ digZ; simp; omega)
        subst hR
        go_wp2
        all_goals
          go_ret
          exact ⟨ret_bool (by simp), rfl⟩
      · have b5 : (z == 95) = false := by simp; omega
        have b6 : (z == 46) = false := by simp; omega
        have c0 : 65 ≤ z := by omega
        have c3 : ¬ z ≤ 90 := by omega
        have c1 : ¬ z < 48 := by omega
        have c2 : 57 < z := by omega
        have hR := HN.out (by unfold okI letW letZ digZ; simp; omega)
        subst hR
        go_wp2
        all_goals
          go_ret
          exact ⟨ret_bool (by simp), rfl⟩
    · obtain rfl : k = s.size := by omega
      have h1 : ¬ (s.size : Int) < (s.size : Int) := by omega
      have hr : R = true := by
        rw [← hF, List.drop_of_length_le (by rw [lo_len]; omega)]
        rfl
      subst hr
      go_wp2
      go_ret
      exact ⟨ret_bool (by simp), rfl⟩

theorem bel_same {v u : World} (h : u = v) : Below v.heap.size v u := by subst h; exact Below.refl _ _
theorem val_small {p m : List UInt8} {n : Int} (hp : NameOk p) (hm : NameOk m) : ∀ x ∈ ln1 (valT p m n), x.1.t.length ≤ 140737488355328 := by
  have h1 := hp.len
  have h2 := hm.len
  intro x hx
  unfold ln1 valT nameT numT at hx
  simp only [List.mem_map, List.mem_append] at hx
  obtain ⟨t, ht, rfl⟩ := hx
  simp only
  have key : t.t = [] ∨ t.t = p ∨ t.t = m ∨ t.t = [45] ∨ t.t = [43] := by
    rcases ht with ((ht | ht) | ht) | ht
    · split at ht
      · cases ht
      · simp only [List.mem_cons, List.not_mem_nil, or_false] at ht; subst ht; exact .inr (.inl rfl)
    · split at ht
      · cases ht
      · simp only [List.mem_cons, List.not_mem_nil, or_false] at ht
        rcases ht with rfl | rfl
        · exact .inr (.inr (.inr (.inl rfl)))
        · exact .inr (.inr (.inl rfl))
    · split at ht
      · simp only [List.mem_cons, List.not_mem_nil, or_false] at ht
        rcases ht with rfl | rfl
        · exact .inr (.inr (.inr (.inl rfl)))
        · exact .inl rfl
      · split at ht
        · simp only [List.mem_cons, List.not_mem_nil, or_false] at ht; subst ht; exact .inl rfl
        · split at ht
          · cases ht
          · simp only [List.mem_cons, List.not_mem_nil, or_false] at ht
            rcases ht with rfl | rfl
            · exact .inr (.inr (.inr (.inr rfl)))
            · exact .inl rfl
    · simp only [List.mem_cons, List.not_mem_nil, or_false] at ht; subst ht; exact .inl rfl
  rcases key with e | e | e | e | e <;> rw [e] <;> first | omega | simp
/-- The value, and what was read. -/
abbrev C2 (w v : World) (p m : ByteArray) (n : Int) (g : Nat) : Prop := v.cell? ⟨w.heap.size, 0, none⟩ = some (.string p) ∧ v.cell? ⟨w.heap.size, 1, none⟩ = some (.string m) ∧ v.cell? ⟨w.heap.size, 2, none⟩ = some (.int .i64 n) ∧ v.cell? ⟨g, 0, none⟩ = some (.string p) ∧ v.cell? ⟨g, 1, none⟩ = some (.string m) ∧ v.cell? ⟨g, 2, none⟩ = some (.int .i64 n) ∧ Hid (Below w.heap.size w v)
theorem C2.bel {w v : World} {p m : ByteArray} {n : Int} {g : Nat} {u : World} (h : C2 w v p m n g) (hb : Below v.heap.size v u) : C2 w u p m n g :=
  ⟨to_bel hb h.1, to_bel hb h.2.1, to_bel hb h.2.2.1, to_bel hb h.2.2.2.1, to_bel hb h.2.2.2.2.1, to_bel hb h.2.2.2.2.2.1, ⟨bel_trans h.2.2.2.2.2.2.out hb⟩⟩
theorem C2.below {w v : World} {p m : ByteArray} {n : Int} {g : Nat} (h : C2 w v p m n g) : Below w.heap.size w v := h.2.2.2.2.2.2.out

set_option maxRecDepth 20000 in
set_option maxHeartbeats 8000000 in
/-- What is no value of names, or of one name twice. -/
theorem back_none (w : World) (hE : Er w) (p m : ByteArray) (n : Int) (ha : (⟨p, m, n⟩ : Vx).Ok) (h : wordB p = false ∨ wordB m = false ∨ (sB p m = true ∧ sB p es = false)) : Calls Tryz.prog 5 #[.agg #[.string p, .string m, .int .i64 n]] w fun e w' => e = .returned (.bool true) ∧ Below w.heap.size w w' := by
  obtain ⟨A, hA⟩ : ∃ A, wordB p = A := ⟨_, rfl⟩
  obtain ⟨B, hB⟩ : ∃ B, wordB m = B := ⟨_, rfl⟩
  have HP : Hid (∀ v, Calls Tryz.prog 23 #[.string p] v fun e w' => e = .returned (.bool A) ∧ w' = v) := ⟨fun v => by have := word_any p (Nat.le_trans ha.1 (by decide)) v; rwa [hA] at this⟩
  have HM : Hid (∀ v, Calls Tryz.prog 23 #[.string m] v fun e w' => e = .returned (.bool B) ∧ w' = v) := ⟨fun v => by have := word_any m (Nat.le_trans ha.2 (by decide)) v; rwa [hB] at this⟩
  have HK : Hid (∀ v, Below w.heap.size w v → Calls Tryz.prog 14 #[] v fun e w' => e = .returned (.bool true) ∧ Below v.heap.size v w') := ⟨fun v h => knows_any v (hE.bel h)⟩
  have B0 : Below w.heap.size w (w.alloc (.cells #[.string p, .string m, .int .i64 n] 33)) := bel_alloc (Below.refl _ _) _
  have V0 := VB.newY w p m n
  have hpm : (p.toList == m.toList) = sB p m := rfl
  have hpi : p.toList.isEmpty = sB p es := by
    unfold sB
    have : es.toList = [] := by rw [ByteArray.toList_eq]; rfl
    rw [this]
    cases p.toList <;> rfl
  rw [hA, hB] at h
  clear hA hB ha hE
  generalize sB p m = C at *
  generalize sB p es = D at *
  go_enter Tryz.func5, Tryz.ntmps5
  go_upto_region 1 with (fail)
  generalize w.alloc (.cells #[.string p, .string m, .int .i64 n] 33) = v0 at *
  obtain ⟨d0, d1, d2, d3⟩ := id V0
  have HB0 : Hid _ := ⟨B0⟩
  clear V0 B0
  cases A
  · go_wp2_with (first
      | (go_at_call 23; (with_reducible refine (HP.out _).mono ?_); rintro e w' ⟨rfl, hw'⟩; subst w')
      | (go_at_call 14; refine (HK.out _ HB0.out).mono ?_; rintro e wp ⟨rfl, hb⟩))
    go_ret
    exact ⟨rfl, bel_trans HB0.out hb⟩
  · cases B
    · go_wp2_with (first
        | (go_at_call 23; (with_reducible refine (HP.out _).mono ?_); rintro e w' ⟨rfl, hw'⟩; subst w')
        | (go_at_call 23; (with_reducible refine (HM.out _).mono ?_); rintro e w' ⟨rfl, hw'⟩; subst w')
        | (go_at_call 14; refine (HK.out _ HB0.out).mono ?_; rintro e wp ⟨rfl, hb⟩))
      go_ret
      exact ⟨rfl, bel_trans HB0.out hb⟩
    · obtain ⟨rfl, rfl⟩ : C = true ∧ D = false := by simpa using h
      go_wp2_with (first
        | (go_at_call 23; (with_reducible refine (HP.out _).mono ?_); rintro e w' ⟨rfl, hw'⟩; subst w')
        | (go_at_call 23; (with_reducible refine (HM.out _).mono ?_); rintro e w' ⟨rfl, hw'⟩; subst w')
        | (go_at_call 14; refine (HK.out _ HB0.out).mono ?_; rintro e wp ⟨rfl, hb⟩))
      go_ret
      exact ⟨rfl, bel_trans HB0.out hb⟩

set_option maxRecDepth 20000 in
set_option maxHeartbeats 8000000 in
/-- A value's text is read as that value. -/
theorem back_some (w : World) (hE : Er w) (p m : ByteArray) (n : Int) (ha : (⟨p, m, n⟩ : Vx).Ok) (hn : i64 n) (h1 : wordB p = true) (h2 : wordB m = true) (h3 : sB p m = true → sB p es = true) : Calls Tryz.prog 5 #[.agg #[.string p, .string m, .int .i64 n]] w fun e w' => e = .returned (.bool true) ∧ Below w.heap.size w w' := by
  have hp := word_ok h1
  have hm := word_ok h2
  have hpq : sB p m = true → p = es ∧ m = es := fun h => by
    have e1 := (sB_iff _ _).1 (h3 h)
    have e2 := (sB_iff _ _).1 h
    exact ⟨e1, e2 ▸ e1⟩
  obtain ⟨T, hT⟩ : ∃ T, ln1 (valT (lo p) (lo m) n) = T := ⟨_, rfl⟩
  obtain ⟨X, hX⟩ : ∃ X, textV ⟨p, m, n⟩ = X := ⟨_, rfl⟩
  have hall : allM (lo X) = .ok T := by rw [← hX, text_val p m n hn, val_all hp hm hn, ← hT]; rfl
  have hev : evI [] T 0 = .ok (⟨p, m, n⟩, T.length - 1) := by
    have := val_eval (inner := innerM [] T 50) p m n hn hpq
    rw [hT] at this
    unfold evI
    rw [if_neg (by omega)]
    exact this
  have hfew : T.length ≤ 8 := by rw [← hT]; exact val_few _ _ _
  have hone : 1 ≤ T.length := by rw [← hT]; unfold ln1; simp
  have hsm : ∀ x ∈ T, x.1.t.length ≤ 140737488355328 := by rw [← hT]; exact val_small hp hm
  have HP : Hid (∀ v, Calls Tryz.prog 23 #[.string p] v fun e w' => e = .returned (.bool true) ∧ w' = v) := ⟨fun v => by have := word_any p (Nat.le_trans ha.1 (by decide)) v; rwa [h1] at this⟩
  have HM : Hid (∀ v, Calls Tryz.prog 23 #[.string m] v fun e w' => e = .returned (.bool true) ∧ w' = v) := ⟨fun v => by have := word_any m (Nat.le_trans ha.2 (by decide)) v; rwa [h2] at this⟩
  have HK : Hid (∀ v, Below w.heap.size w v → Calls Tryz.prog 14 #[] v fun e w' => e = .returned (.bool true) ∧ Below v.heap.size v w') := ⟨fun v h => knows_any v (hE.bel h)⟩
  have HT : Hid (∀ v, Below w.heap.size w v → Calls Tryz.prog 21 #[.agg #[.string p, .string m, .int .i64 n]] v fun e w' => e = .returned (.string X) ∧ Below v.heap.size v w') := ⟨fun v h => by have := text_any p m n ha hn v (hE.bel h); rwa [hX] at this⟩
  have HA : Hid (∀ v, Below w.heap.size w v → Calls Tryz.prog 24 #[.string X] v fun e w' => ∃ ao cp, e = .returned (.tuple #[.slice ao T.length cp, .int .i64 0, .int .i64 0]) ∧ EvIn w' ao T none [] ∧ Below v.heap.size v w') := ⟨fun v h => by
    have := pall X v (hE.bel h)
    rw [hall] at this
    refine this.mono ?_
    rintro e w1 ⟨v1, he1, o1, hb1⟩
    obtain ⟨ao, cp, hv, hin⟩ := EvIn.own o1 (by omega) hsm
    subst hv
    exact ⟨ao, cp, he1, hin, hb1⟩⟩
  have HE : Hid (∀ (W : World) (ao : Option Addr) (cp : Nat), EvIn W ao T none [] → Calls Tryz.prog 9 #[.slice ao T.length cp, .int .i64 0, .slice none 0 0] W fun e w' => e = .returned (.tuple #[.agg #[.string p, .string m, .int .i64 n], .int .i64 ((T.length : Int) - 1), .int .i64 0]) ∧ Below W.heap.size W w') := ⟨fun W ao cp hW => by
    have := eval_few (cp := cp) hW hfew
    rw [hev] at this
    rw [show ((T.length : Int) - 1) = ((T.length - 1 : Nat) : Int) by omega]
    exact this⟩
  have HVal : Hid _ := ⟨valY_any⟩
  have hwL : IntKind.i64.wrap ((T.length : Int) - 1) = (T.length : Int) - 1 := by rw [IntKind.wrap_i64]; omega
  have q1 : ∀ v, (binOp .eql 27 (.agg #[.string p, .string m, .int .i64 n]) (.agg #[.string p, .string m, .int .i64 n])).run Tryz.prog v = .ok (.bool true) v := fun v => by rw [eqlV]; simp
  have B0 : Below w.heap.size w (w.alloc (.cells #[.string p, .string m, .int .i64 n] 33)) := bel_alloc (Below.refl _ _) _
  have V0 := VB.newY w p m n
  have hpm : (p.toList == m.toList) = sB p m := rfl
  have hpi : p.toList.isEmpty = sB p es := by
    unfold sB
    have : es.toList = [] := by rw [ByteArray.toList_eq]; rfl
    rw [this]
    cases p.toList <;> rfl
  have HIN : Hid (∀ W W' ao, EvIn W ao T none [] → Below W.heap.size W W' → EvIn W' ao T none []) := ⟨fun W W' ao h hb => h.bel hb⟩
  generalize T.length = l at *
  generalize sB p m = C at *
  generalize sB p es = D at *
  clear hall hev hfew hsm hp hm ha hn h1 h2 hE hX
  go_enter Tryz.func5, Tryz.ntmps5
  go_upto_region 1 with (fail)
  generalize w.alloc (.cells #[.string p, .string m, .int .i64 n] 33) = v0 at *
  obtain ⟨d0, d1, d2, d3⟩ := id V0
  have HB0 : Hid _ := ⟨B0⟩
  have HV0 : Hid _ := ⟨V0⟩
  clear V0 B0
  have hcase : C = false ∨ (C = true ∧ D = true) := by cases C <;> simp_all
  clear HIN hT hone hpq h3
  rcases hcase with rfl | ⟨rfl, rfl⟩
  all_goals
    go_upto_region 3 with (first
      | (go_at_call 23; (with_reducible refine (HP.out _).mono ?_); rintro e w' ⟨rfl, hw'⟩; subst w')
      | (go_at_call 23; (with_reducible refine (HM.out _).mono ?_); rintro e w' ⟨rfl, hw'⟩; subst w'))
    go_upto_region 4 with (first
      | (go_at_call 12; (with_reducible refine (HVal.out _ _ _ _).mono ?_); rintro e w1 ⟨rfl, hb1⟩; have HB1 : Hid (Below w.heap.size w w1) := ⟨bel_trans HB0.out hb1⟩; have HV1 := hid (HV0.out.bel hb1 HV0.out.lt); clear hb1)
      | (go_at_call 21; refine (HT.out _ HB1.out).mono ?_; rintro e w2 ⟨rfl, hb2⟩; have HB2 : Hid (Below w.heap.size w w2) := ⟨bel_trans HB1.out hb2⟩; have HV2 := hid (HV1.out.bel hb2 HV1.out.lt); clear hb2)
      | (go_at_call 24; refine (HA.out _ HB2.out).mono ?_; rintro e w3 ⟨ao, cp, he, hi, hb3⟩; subst he; have HI3 : Hid _ := ⟨hi⟩; have HB3 : Hid (Below w.heap.size w w3) := ⟨bel_trans HB2.out hb3⟩; have HV3 := hid (HV2.out.bel hb3 HV2.out.lt); clear hb3 hi))
    go_upto_region 5 with (go_at_call 9; refine (HE.out _ _ _ HI3.out).mono ?_; rintro e w4 ⟨rfl, hb4⟩; have HB4 : Hid (Below w.heap.size w w4) := ⟨bel_trans HB3.out hb4⟩; have HV4 := hid (HV3.out.bel hb4 HV3.out.lt); clear hb4)
    have K0 : C2 w (w4.alloc (.cells #[.string p, .string m, .int .i64 n] 27)).drew p m n w4.heap.size := by
      have a := (HV4.out.alloc (.cells #[.string p, .string m, .int .i64 n] 27)).drewN 1
      have b := (VB.new w4 p m n).drewN 1
      exact ⟨a.c0, a.c1, a.c2, b.c0, b.c1, b.c2, ⟨bel_trans HB4.out (bel_alloc (Below.refl _ _) _).drew⟩⟩
    go_region_held3 (fun v => C2 w v p m n w4.heap.size)
      (first | (with_reducible assumption) | exact C2.bel (by with_reducible assumption) hb)
      (first
        | (go_at_call 12; (with_reducible refine (HVal.out _ _ _ _).mono ?_); rintro e wp ⟨rfl, hb⟩)
        | (go_at_call 13; refine (num_any _ _).mono ?_; rintro e wp ⟨rfl, hw'⟩; have hb := bel_same hw'; clear hw')
        | (go_at_call 14; refine (HK.out _ (C2.below (by with_reducible assumption))).mono ?_; rintro e wp ⟨rfl, hb⟩))
    go_wp2
    go_ret
    rename_i hS
    exact ⟨rfl, C2.below hS⟩

theorem exprBack_walk (w : World) (hE : Er w) (p m : ByteArray) (n : Int) (ha : (⟨p, m, n⟩ : Vx).Ok) (hn : i64 n) : Calls Tryz.prog 5 #[.agg #[.string p, .string m, .int .i64 n]] w fun e w' => e = .returned (.bool true) ∧ Below w.heap.size w w' := by
  by_cases h : wordB p = false ∨ wordB m = false ∨ (sB p m = true ∧ sB p es = false)
  · exact back_none w hE p m n ha h
  · refine back_some w hE p m n ha hn ?_ ?_ ?_
    · cases e : wordB p with
      | true => rfl
      | false => exact absurd (.inl e) h
    · cases e : wordB m with
      | true => rfl
      | false => exact absurd (.inr (.inl e)) h
    · intro h1
      cases e : sB p es with
      | true => rfl
      | false => exact absurd (.inr (.inr ⟨h1, e⟩)) h
end Go.Proofs.YtljmbgflcidokaaGreatDoor

/- What Print asks of a token, plainly. The program's spelling of a token. The program's test of a token: is what it spells cut into it? The program's test of a token: may it come out of All? The program's Print: may every token come out of All? The program's Print. -/
import Derived.Test.YthdkbjifjmhgoaaDoorLxBackP
import Derived.Test.YthdkbjifjmhgoaaDoorQxP
import Derived.Test.YthdkbjifjmhgoaaDoorQxF
import Derived.Test.YthdkbjifjmhgoaaDoorQxQ
import Derived.Test.YthdkbjifjmhgoaaDoorQxA
import Derived.Test.YthdkbjifjmhgoaaDoorQxT9
import Derived.Test.YthdkbjifjmhgoaaDoorLxLaw
import Derived.Deep.RegionWith
import Derived.Test.YthdkbjifjmhgoaaDoorLxWalks
namespace Go.Proofs.YthdkbjifjmhgoaaDoor
open Go.ChangeShapes Go.WideShapes Go.ChangeAt Go.RowKit
set_option linter.unusedVariables false
set_option linter.unusedSimpArgs false

/-- As the program spells a token. -/
def spellM (t : Tok) : List UInt8 :=
  if t.k = 2 then digM (t.n % 18446744073709551616).toNat else if t.k = 3 then quoteM t.t else if t.k = 5 then 37 :: t.t else if t.k = 6 then [10] else t.t
/-- Whether the program takes it for one that comes out of All. -/
def CutsTo (t : Tok) : Prop := (spellM t).length ≤ 65536 ∧ ∃ m, oneM (Ln (St (spellM t)) 0) = some (t, m)
def Come (t : Tok) : Prop :=
  t.t.length ≤ 65536 ∧ if t.k = 3 then t.n = 0 ∧ ((quoteM t.t).length : Int) - 2 * ((t.t.count 0 : Nat) : Int) ≤ 65536 else if t.k = 6 then t.n = 0 ∧ t.t = [] else CutsTo t

theorem sign_lel (l : List UInt8) : signN l ≤ l.length := by
  unfold signN
  match l with
  | [] => exact Nat.le_refl _
  | c :: r =>
    simp only
    split
    · rename_i h
      have : r ≠ [] := by
        rintro rfl
        simp at h
      have := List.length_pos_iff.2 this
      simp only [List.length_cons]; omega
    · split <;> simp
theorem reg_lel (r : List UInt8) : regN r ≤ r.length := by
  unfold regN
  match r with
  | [] => exact Nat.le_refl _
  | c :: r =>
    simp only
    split
    · have := (List.takeWhile_sublist (fun c => isLet c || isDig c) (l := r)).length_le
      simp only [List.length_cons]; omega
    · exact Nat.zero_le _
theorem word_lel (l : List UInt8) : wordN l ≤ l.length := (List.takeWhile_sublist _).length_le

/-- How a token is made. -/
theorem one_inv {l : List UInt8} {x : Tok} {m : Nat} (h : oneM l = some (x, m)) :
    l ≠ [] ∧ (x.k = 6 ∨ (x.k = 2 ∧ x.t = []) ∨ x.k = 3 ∨ (x.k = 5 ∧ x.n = 0 ∧ ∃ r, l = 37 :: r ∧ x.t = r.take (regN r) ∧ m = 1 + regN r) ∨ ((x.k = 1 ∨ x.k = 4) ∧ x.n = 0 ∧ x.t = l.take m ∧ m ≤ l.length)) := by
  unfold oneM at h
  match l with
  | [] => cases h
  | c :: r =>
    refine ⟨by simp, ?_⟩
    simp only at h
    split at h
    · cases h; exact .inl rfl
    · split at h
      · cases hn : numM (c :: r) with
        | none => rw [hn] at h; cases h
        | some p => rw [hn] at h; cases h; exact .inr (.inl ⟨rfl, rfl⟩)
      · split at h
        · cases hn : quoM (c :: r) with
          | none => rw [hn] at h; cases h
          | some p => rw [hn] at h; cases h; exact .inr (.inr (.inl rfl))
        · split at h
          · rename_i h37
            split at h
            · cases h
            · cases h
              exact .inr (.inr (.inr (.inl ⟨rfl, rfl, r, by rw [h37], rfl, rfl⟩)))
          · split at h
            · split at h
              · cases h
                exact .inr (.inr (.inr (.inr ⟨.inl rfl, rfl, rfl, word_lel _⟩)))
              · cases h
            · split at h
              · cases h
              · cases h
                exact .inr (.inr (.inr (.inr ⟨.inr rfl, rfl, rfl, sign_lel _⟩)))
theorem Ln_St (w : List UInt8) : Ln (St w) 0 = w.takeWhile (fun c => !(c == 10)) := by
  unfold Ln
  rw [List.drop_zero, lo_St]
theorem tw_len {p : UInt8 → Bool} {w : List UInt8} (h : w.length ≤ (w.takeWhile p).length) : w.takeWhile p = w := by
  have h1 := List.takeWhile_prefix p (l := w)
  exact h1.eq_of_length_le h
theorem Ln_plain {w : List UInt8} (h : ∀ c ∈ w, ¬ c = 10) : Ln (St w) 0 = w := by
  rw [Ln_St]
  induction w with
  | nil => rfl
  | cons c r ih =>
    rw [List.takeWhile_cons, if_pos (by simpa using h c (by simp)), ih fun d hd => h d (by simp [hd])]

theorem come_writ {t : Tok} (h : Come t) : ∃ w, writM t = some w ∧ (¬ t.k = 6 → w = spellM t) := by
  obtain ⟨hl, h⟩ := h
  by_cases k3 : t.k = 3
  · rw [if_pos k3] at h
    refine ⟨quoteM t.t, ?_, fun _ => ?_⟩
    · unfold writM
      rw [if_neg (by omega), if_neg (by omega), if_neg (by omega), if_pos k3, if_pos h.1]
    · unfold spellM
      rw [if_neg (by omega), if_pos k3]
  · rw [if_neg k3] at h
    by_cases k6 : t.k = 6
    · rw [if_pos k6] at h
      refine ⟨[], ?_, fun e => (e k6).elim⟩
      unfold writM
      rw [if_neg (by omega), if_neg (by omega), if_neg (by omega), if_neg k3, if_pos k6, if_pos ⟨h.2, h.1⟩]
    · rw [if_neg k6] at h
      obtain ⟨_, m, hm⟩ := h
      have hi := one_inv hm
      obtain ⟨hne, hi⟩ := hi
      rcases hi with e | ⟨e, et⟩ | e | ⟨e, en, r, hr, ht, hmm⟩ | ⟨e, en, ht, hmm⟩
      · exact (k6 e).elim
      · refine ⟨digM (t.n % 18446744073709551616).toNat, ?_, fun _ => ?_⟩
        · unfold writM
          rw [if_neg (by omega), if_neg (by omega), if_pos e, if_pos et]
        · unfold spellM
          rw [if_pos e]
      · exact (k3 e).elim
      · have hs : spellM t = 37 :: t.t := by
          unfold spellM
          rw [if_neg (by omega), if_neg k3, if_pos e]
        rw [hs] at hm hr
        have hL := Ln_St (37 :: t.t)
        rw [List.takeWhile_cons, if_pos (by decide)] at hL
        rw [hL] at hr
        obtain ⟨_, hr⟩ := List.cons.inj hr
        have h1 := reg_lel r
        have h2 : t.t.length = min (regN r) r.length := by rw [congrArg List.length ht, List.length_take]
        have h3 : t.t.length ≤ (t.t.takeWhile (fun c => !(c == 10))).length := by rw [hr]; omega
        have h4 := tw_len h3
        rw [h4] at hr hL
        rw [hL] at hm
        subst hr
        refine ⟨37 :: t.t, ?_, fun _ => hs.symm⟩
        unfold writM
        rw [if_neg (by omega), if_pos e]
        unfold wordM
        rw [if_neg (by simp [en]), hm]
        simp only
        rw [if_pos ⟨by simp only [List.length_cons]; omega, trivial, trivial⟩]
      · have hs : spellM t = t.t := by
          unfold spellM
          rw [if_neg (by omega), if_neg k3, if_neg (by omega), if_neg k6]
        rw [hs] at hm ht hmm hne
        have hL := Ln_St t.t
        rw [hL] at ht hmm hm hne
        have h2 : t.t.length = min m (t.t.takeWhile (fun c => !(c == 10))).length := by
          have := congrArg List.length ht
          rw [List.length_take] at this
          exact this
        have h4 := tw_len (p := fun c => !(c == 10)) (w := t.t) (by omega)
        rw [h4] at hm hmm hne h2
        refine ⟨t.t, ?_, fun _ => hs.symm⟩
        unfold writM
        rw [if_pos (by omega)]
        unfold wordM
        rw [if_neg (by rintro (e1 | e1); exact hne e1; exact e1 en), hm]
        simp only
        rw [if_pos ⟨by omega, trivial, trivial⟩]
theorem quo_long : ∀ l : List UInt8, l.length ≤ (l.flatMap quoC).length
  | [] => Nat.le_refl _
  | c :: r => by
    have := quo_long r
    rw [List.flatMap_cons, List.length_append, List.length_cons]
    have : 1 ≤ (quoC c).length := by unfold quoC; repeat (first | split | simp)
    omega
theorem writ_come {t : Tok} {w : List UInt8} (h : writM t = some w) (hw : w.length ≤ 65536) (hr : -9223372036854775808 ≤ t.n ∧ t.n ≤ 9223372036854775807) : Come t := by
  have h0 := h
  by_cases k6 : t.k = 6
  · have e := writ_end h k6
    subst e
    exact ⟨by simp, by rw [if_neg (by decide), if_pos rfl]; exact ⟨rfl, rfl⟩⟩
  · have hok := writ_ok h hr k6
    have hone := hok.one [] (.inl rfl)
    rw [List.append_nil] at hone
    have hln := Ln_plain hok.lf
    unfold writM at h
    by_cases k14 : t.k = 1 ∨ t.k = 4
    · rw [if_pos k14] at h
      obtain ⟨rfl, _⟩ := wordM_ok h (by omega)
      have hs : spellM t = t.t := by
        unfold spellM
        rw [if_neg (by omega), if_neg (by omega), if_neg (by omega), if_neg k6]
      refine ⟨hw, ?_⟩
      rw [if_neg (by omega), if_neg k6]
      unfold CutsTo
      rw [hs, hln]
      exact ⟨hw, _, hone⟩
    · rw [if_neg k14] at h
      by_cases k5 : t.k = 5
      · rw [if_pos k5] at h
        obtain ⟨rfl, _⟩ := wordM_ok h (by omega)
        have hs : spellM t = 37 :: t.t := by
          unfold spellM
          rw [if_neg (by omega), if_neg (by omega), if_pos k5]
        refine ⟨by simp only [List.length_cons] at hw; omega, ?_⟩
        rw [if_neg (by omega), if_neg k6]
        unfold CutsTo
        rw [hs, hln]
        exact ⟨hw, _, hone⟩
      · rw [if_neg k5] at h
        by_cases k2 : t.k = 2
        · rw [if_pos k2] at h
          have hs : spellM t = digM (t.n % 18446744073709551616).toNat := by
            unfold spellM
            rw [if_pos k2]
          split at h
          · rename_i ht
            cases h
            refine ⟨by rw [ht]; simp, ?_⟩
            rw [if_neg (by omega), if_neg k6]
            unfold CutsTo
            rw [hs, hln]
            exact ⟨hw, _, hone⟩
          · cases h
        · rw [if_neg k2] at h
          by_cases k3 : t.k = 3
          · rw [if_pos k3] at h
            split at h
            · rename_i hn
              cases h
              have := quo_long t.t
              refine ⟨?_, ?_⟩
              · unfold quoteM at hw
                simp only [List.length_cons, List.length_append] at hw
                omega
              · rw [if_pos k3]
                exact ⟨hn, by omega⟩
            · cases h
          · rw [if_neg k3, if_neg k6] at h
            cases h
theorem rest_each : ∀ (l : List Tok) (b : Bool) (a : List UInt8), restT l b = some a → ∀ t ∈ l, ∃ w, writM t = some w ∧ w.length ≤ a.length
  | [], _, _, _, _, h => by cases h
  | t :: r, b, a, h, x, hx => by
    unfold restT at h
    cases hw : writM t with
    | none => rw [hw] at h; cases h
    | some w =>
      rw [hw] at h
      simp only at h
      split at h
      · rename_i h6
        cases hr : restT r false with
        | none => rw [hr] at h; cases h
        | some a' =>
          rw [hr] at h
          cases h
          rcases List.mem_cons.1 hx with rfl | hx
          · refine ⟨w, hw, ?_⟩
            have e := writ_end hw h6
            subst e
            have : w = [] := by
              have := hw
              simp [writM] at this
              exact this
            rw [this]; simp
          · obtain ⟨v, h1, h2⟩ := rest_each r false a' hr x hx
            exact ⟨v, h1, by simp only [List.length_cons]; omega⟩
      · cases hr : restT r true with
        | none => rw [hr] at h; cases h
        | some a' =>
          rw [hr] at h
          cases h
          rcases List.mem_cons.1 hx with rfl | hx
          · refine ⟨w, hw, ?_⟩
            rw [List.length_append]
            split
            · simp only [List.length_cons]; omega
            · omega
          · obtain ⟨v, h1, h2⟩ := rest_each r true a' hr x hx
            exact ⟨v, h1, by rw [List.length_append]; omega⟩
/-- What is still to be written, where every token may be. -/
def remM : List Tok → Bool → List UInt8
  | [], b => if b = true then [10] else []
  | t :: r, b => (if b = true ∧ ¬ t.k = 6 then [32] else []) ++ spellM t ++ remM r (!(t.k == 6))
theorem rest_rem : ∀ (l : List Tok) (b : Bool), (∀ t ∈ l, Come t) → restT l b = some (remM l b)
  | [], b, _ => rfl
  | t :: r, b, h => by
    obtain ⟨w, hw, hs⟩ := come_writ (h t (by simp))
    unfold restT remM
    rw [hw]
    simp only
    by_cases h6 : t.k = 6
    · have : (t.k == 6) = true := by simpa using h6
      rw [if_pos h6, if_neg (by simp [h6]), rest_rem r false fun x hx => h x (by simp [hx]), this]
      have h2 : spellM t = [10] := by unfold spellM; rw [if_neg (by omega), if_neg (by omega), if_neg (by omega), if_pos h6]
      rw [h2]
      rfl
    · have : (t.k == 6) = false := by simpa using h6
      rw [if_neg h6, rest_rem r true fun x hx => h x (by simp [hx]), this, hs h6]
      cases b
      · simp
      · simp [h6]
theorem come_dec {l : List Tok} (h : ∀ t ∈ l, -9223372036854775808 ≤ t.n ∧ t.n ≤ 9223372036854775807) {a : List UInt8} (hp : printM l = .ok a) : ∀ t ∈ l, Come t := fun t ht => by
  unfold printM at hp
  split at hp
  · cases hp
  · rename_i a' hr
    split at hp
    · cases hp
    · cases hp
      obtain ⟨w, h1, h2⟩ := rest_each l false a hr t ht
      exact writ_come h1 (by omega) (h t ht)
theorem print_rem {l : List Tok} (h : ∀ t ∈ l, Come t) : printM l = if 65536 < (remM l false).length then .error 6 else .ok (remM l false) := by
  unfold printM
  rw [rest_rem l false h]

theorem st_add37 (t : List UInt8) : (⟨#[37]⟩ : ByteArray) ++ St t = St (37 :: t) := by
  apply ByteArray.ext
  apply Array.ext'
  simp [St]
set_option maxHeartbeats 4000000 in
set_option maxRecDepth 10000 in
theorem spelled_any (k ln n : Int) (t : List UInt8) (w : World) (hE : Er w) (hn : -9223372036854775808 ≤ n ∧ n ≤ 9223372036854775807) (ht : t.length ≤ 8796093022208) :
    Calls Tryd.prog 25 #[.agg #[.int .i64 k, .int .i64 ln, .int .i64 n, .string (St t)]] w fun e w' => e = .returned (.string (St (spellM ⟨k, n, t⟩))) ∧ Below w.heap.size w w' := by
  have hB0 : Hid (∀ o : Obj, Below w.heap.size w (w.alloc o)) := ⟨fun o => (Below.refl _ _).alloc (Nat.le_refl _) o⟩
  have HE : Hid (∀ o : Obj, Er (w.alloc o)) := ⟨fun o => hE.bel (hB0.out o)⟩
  by_cases k2 : k = 2
  · subst k2
    have hs : spellM ⟨2, n, t⟩ = digM (n % 18446744073709551616).toNat := rfl
    rw [hs]
    have hwr : IntKind.u64.wrap n = (((n % 18446744073709551616).toNat : Nat) : Int) := by rw [IntKind.wrap_u64]; omega
    have hlt : (n % 18446744073709551616).toNat < 18446744073709551616 := by omega
    generalize (n % 18446744073709551616).toNat = u at *
    have HF : Hid (∀ W, Er W → Calls Tryd.prog 39 #[.int .u64 (u : Int), .int .i64 10] W fun e w' => e = .returned (.string (St (digM u))) ∧ Below W.heap.size W w') := ⟨fun W hW => fu_any u hlt W hW⟩
    clear hE hn ht hs hlt
    go_enter Tryd.func25, Tryd.ntmps25
    go_wp2_with (go_at_call 39; (with_reducible refine (HF.out _ (HE.out _)).mono ?_); rintro e w' ⟨rfl, hb⟩)
    go_ret
    exact ⟨rfl, (hB0.out _).trans (hb.mono (hB0.out _).size)⟩
  · have q2 : (k == 2) = false := by simpa using k2
    by_cases k3 : k = 3
    · subst k3
      have hs : spellM ⟨3, n, t⟩ = quoteM t := rfl
      rw [hs]
      have HF : Hid (∀ W, Calls Tryd.prog 17 #[.string (St t)] W fun e w' => e = .returned (.string (St (quoteM t))) ∧ Below W.heap.size W w') := ⟨fun W => by
        have := pquote (St t) W (by rw [St_size]; exact ht)
        rw [lo_St] at this
        exact this⟩
      clear hE hn ht hs k2
      go_enter Tryd.func25, Tryd.ntmps25
      go_wp2_with (go_at_call 17; (with_reducible refine (HF.out _).mono ?_); rintro e w' ⟨rfl, hb⟩)
      go_ret
      exact ⟨rfl, (hB0.out _).trans (hb.mono (hB0.out _).size)⟩
    · have q3 : (k == 3) = false := by simpa using k3
      by_cases k5 : k = 5
      · subst k5
        have hs : spellM ⟨5, n, t⟩ = 37 :: t := rfl
        rw [hs]
        have hadd := st_add37 t
        have hsz : (St t).size ≤ 8796093022208 := by rw [St_size]; exact ht
        have hsum : ¬ (9223372036854775807 < 1 + (St t).size) := by omega
        have HR : Hid ((⟨#[37]⟩ : ByteArray) ++ St t = St (37 :: t)) := ⟨hadd⟩
        clear hE hn ht hs k2 k3 hadd
        go_enter Tryd.func25, Tryd.ntmps25
        go_wp2
        go_ret
        exact ⟨ret_str HR.out, hB0.out _⟩
      · have q5 : (k == 5) = false := by simpa using k5
        by_cases k6 : k = 6
        · subst k6
          have hs : spellM ⟨6, n, t⟩ = [10] := rfl
          rw [hs]
          clear hE hn ht hs k2 k3 k5
          go_enter Tryd.func25, Tryd.ntmps25
          go_wp2
          go_ret
          exact ⟨rfl, hB0.out _⟩
        · have q6 : (k == 6) = false := by simpa using k6
          have hs : spellM ⟨k, n, t⟩ = t := by
            unfold spellM
            rw [if_neg k2, if_neg k3, if_neg k5, if_neg k6]
          rw [hs]
          clear hE hn ht hs k2 k3 k5 k6
          go_enter Tryd.func25, Tryd.ntmps25
          go_wp2
          go_ret
          exact ⟨rfl, hB0.out _⟩

set_option maxHeartbeats 4000000 in
set_option maxRecDepth 10000 in
theorem least_any (t : List UInt8) (w : World) (ht : t.length ≤ 65536) :
    Calls Tryd.prog 60 #[.string (St t)] w fun e w' => e = .returned (.int .i64 (((quoteM t).length : Int) - 2 * ((t.count 0 : Nat) : Int))) ∧ Below w.heap.size w w' := by
  have HF : Hid (∀ W, Calls Tryd.prog 17 #[.string (St t)] W fun e w' => e = .returned (.string (St (quoteM t))) ∧ Below W.heap.size W w') := ⟨fun W => by
    have := pquote (St t) W (by rw [St_size]; omega)
    rw [lo_St] at this
    exact this⟩
  have HC : Hid (∀ W, Calls Tryd.prog 28 #[.string (St t), .string ⟨#[0]⟩] W fun e w' => e = .returned (.int .i64 ((t.count 0 : Nat) : Int)) ∧ w' = W) := ⟨fun W => by
    have := count_one (St t) 0 W
    rw [lo_St] at this
    exact this⟩
  have hq : (quoteM t).length ≤ 4 * t.length + 2 := by
    have := flat_len t
    unfold quoteM
    simp only [List.length_cons, List.length_append, List.length_nil]
    omega
  have hc : t.count 0 ≤ t.length := List.count_le_length
  have hz : ((St (quoteM t)).size : Int) = ((quoteM t).length : Int) := by rw [St_size]
  generalize (quoteM t).length = q at *
  generalize t.count 0 = c at *
  have w1 : IntKind.i64.wrap (2 * (c : Int)) = 2 * (c : Int) := by rw [IntKind.wrap_i64]; omega
  have w2 : IntKind.i64.wrap ((q : Int) - 2 * (c : Int)) = (q : Int) - 2 * (c : Int) := by rw [IntKind.wrap_i64]; omega
  clear hq hc ht
  go_enter Tryd.func60, Tryd.ntmps60
  go_wp2_with (first
    | (go_at_call 17; (with_reducible refine (HF.out _).mono ?_); rintro e w' ⟨rfl, hb⟩)
    | (go_at_call 28; (with_reducible refine (HC.out _).mono ?_); rintro e w2 ⟨rfl, rfl⟩))
  go_ret
  exact ⟨rfl, hb⟩

theorem toList_inj {a b : ByteArray} : a.toList = b.toList ↔ a = b := by
  rw [ByteArray.toList_eq, ByteArray.toList_eq]
  obtain ⟨⟨x⟩⟩ := a
  obtain ⟨⟨y⟩⟩ := b
  simp
theorem eqg_tok (a b c a' c' : Int) (s s' : ByteArray) (w : World) : (binOp .eql 32 (.agg #[.int .i64 a, .int .i64 b, .int .i64 c, .string s]) (.agg #[.int .i64 a', .int .i64 b, .int .i64 c', .string s'])).run Tryd.prog w = .ok (.bool (decide (a = a' ∧ c = c' ∧ s = s'))) w := by
  simp only [go_sem, toList_inj]
  by_cases h1 : a = a' <;> by_cases h2 : c = c' <;> by_cases h3 : s = s' <;> simp [go_sem, toList_inj, h1, h2, h3]

section
variable {w : World} {rb : Nat} {s : ByteArray} {a : Nat} {ln : Int} {lv : Value}
theorem RD.setCursor (h : RD w rb s a ln lv) (x : ByteArray) : RD ((w.setCell ⟨rb, 0, none⟩ (.string x)).setCell ⟨rb, 1, none⟩ (.int .i64 0)) rb x 0 ln lv := by
  have e : ∀ o, ¬ o = 0 → ¬ o = 1 → ((w.setCell ⟨rb, 0, none⟩ (.string x)).setCell ⟨rb, 1, none⟩ (.int .i64 0)).cell? ⟨rb, o, none⟩ = w.cell? ⟨rb, o, none⟩ := fun o h0 h1 => by
    rw [World.cell?_setCell_other _ _ _ _ (by simp [Ne.symm h1, h1]), World.cell?_setCell_other _ _ _ _ (by simp [Ne.symm h0, h0])]
  have e1 : (w.setCell ⟨rb, 0, none⟩ (.string x)).cell? ⟨rb, 1, none⟩ = some (.int .i64 a) := by
    rw [World.cell?_setCell_other _ _ _ _ (by simp)]; exact h.c1
  refine ⟨?_, ?_, fun j hj => (e _ (by omega) (by omega)).trans (h.ck j hj), (e _ (by omega) (by omega)).trans h.c2, (e _ (by omega) (by omega)).trans h.c3, fun j => ?_, ?_, h.hi⟩
  · rw [World.cell?_setCell_other _ _ _ _ (by simp)]
    exact World.cell?_setCell_same _ _ _ h.c0
  · exact World.cell?_setCell_same _ _ _ e1
  · rw [World.frozen?_setCell, World.frozen?_setCell]; exact h.fz j
  · have ht : TR rb w ((w.setCell ⟨rb, 0, none⟩ (.string x)).setCell ⟨rb, 1, none⟩ (.int .i64 0)) := ((TR.self rb w).set 0 _).set 1 _
    exact h.er.turn ht (fun k hk => by rw [hk]; exact h.hi)
end

section
variable {w : World} {rb : Nat} {s : ByteArray} {a : Nat} {ln : Int} {lv : Value}
/-- The token that was handed in lies in the first new block. -/
structure Bx (w W : World) (k lw n : Int) (t : List UInt8) : Prop where
  z : w.heap.size < W.heap.size
  d0 : W.cell? ⟨w.heap.size, 0, none⟩ = some (.int .i64 k)
  d1 : W.cell? ⟨w.heap.size, 1, none⟩ = some (.int .i64 lw)
  d2 : W.cell? ⟨w.heap.size, 2, none⟩ = some (.int .i64 n)
  d3 : W.cell? ⟨w.heap.size, 3, none⟩ = some (.string (St t))
theorem Bx.new (w : World) (x : ByteArray) (k lw n : Int) (t : List UInt8) : Bx w (((w.setCell ⟨rb, 0, none⟩ (.string x)).setCell ⟨rb, 1, none⟩ (.int .i64 0)).alloc (.cells #[.int .i64 k, .int .i64 lw, .int .i64 n, .string (St t)] 32)) k lw n t := by
  have hs : ((w.setCell ⟨rb, 0, none⟩ (.string x)).setCell ⟨rb, 1, none⟩ (.int .i64 0)).heap.size = w.heap.size := by simp [go_sem]
  refine ⟨by rw [← hs]; simp [World.alloc], ?_, ?_, ?_, ?_⟩ <;> (rw [← hs, World.cell?_alloc_new]; rfl)
theorem TR.cell {x y : World} (h : TR rb x y) {g o : Nat} {v : Value} (hg : ¬ g = rb) (hc : x.cell? ⟨g, o, none⟩ = some v) : y.cell? ⟨g, o, none⟩ = some v :=
  (World.cell?_of_block (h.block g (World.block_lt_of_cell? x ⟨g, o, none⟩ hc) hg)).trans hc
theorem Bx.turn {W x : World} {k lw n : Int} {t : List UInt8} (B : Bx w W k lw n t) (h : TR rb W x) (hg : rb < w.heap.size) : Bx w x k lw n t :=
  ⟨Nat.lt_of_lt_of_le B.z h.size, h.cell (by omega) B.d0, h.cell (by omega) B.d1, h.cell (by omega) B.d2, h.cell (by omega) B.d3⟩

set_option maxHeartbeats 4000000 in
set_option maxRecDepth 10000 in
theorem cuts_no (h : RD w rb s a ln lv) (k lw n : Int) (t txt : List UInt8) (hl : txt.length ≤ 8796093022208) (ho : oneM (Ln (St txt) 0) = none) :
    Calls Tryd.prog 61 #[.pointer (some ⟨rb, 0, none⟩), .string (St txt), .agg #[.int .i64 k, .int .i64 lw, .int .i64 n, .string (St t)]] w fun e w' => ∃ a', e = .returned (.bool false) ∧ RD w' rb (St txt) a' ln lv ∧ TR rb w w' := by
  have HTo0 : ∀ W, RD W rb (St txt) 0 ln lv → Calls Tryd.prog 36 #[.pointer (some ⟨rb, 0, none⟩)] W fun e w' => TokE (oneM (Ln (St txt) 0)) rb (St txt) 0 ln lv W e w' := fun W hW => token_any hW (by rw [St_size]; exact hl) (Nat.zero_le _)
  rw [ho] at HTo0
  have HTo : Hid _ := ⟨HTo0⟩
  have HR1 : Hid _ := ⟨(h.setCursor (St txt)).alloc (.cells #[.int .i64 k, .int .i64 lw, .int .i64 n, .string (St t)] 32)⟩
  have HT1 : Hid _ := ⟨Turn.alloc (TR.set (TR.set (TR.self rb w) 0 (.string (St txt))) 1 (.int .i64 0)) (.cells #[.int .i64 k, .int .i64 lw, .int .i64 n, .string (St t)] 32)⟩
  have c0 := h.c0
  have c1 := h.c1
  have f0 := h.fz 0
  have f1 := h.fz 1
  have hlt := h.lt
  have HX : Hid _ := ⟨Bx.new (rb := rb) w (St txt) k lw n t⟩
  clear HTo0 h ho hl
  go_enter Tryd.func61, Tryd.ntmps61
  go_wp2_with (go_at_call 36; (with_reducible refine (HTo.out _ HR1.out).mono ?_); rintro e x6 ⟨p', q', r', t', a', rfl, R6, T6⟩; have hx := HX.out.turn T6 hlt; obtain ⟨hz, d0, d1, d2, d3⟩ := hx; have HR6 : Hid _ := ⟨R6⟩; have HT6 : Hid _ := ⟨HT1.out.trans T6⟩; clear R6 T6)
  go_ret
  exact ⟨a', rfl, HR6.out.alloc _, Turn.alloc HT6.out _⟩

set_option maxHeartbeats 4000000 in
set_option maxRecDepth 10000 in
theorem cuts_yes (h : RD w rb s a ln lv) (k lw n : Int) (t txt : List UInt8) (hl : txt.length ≤ 8796093022208) (k' n' : Int) (t' : List UInt8) (m : Nat) (ho : oneM (Ln (St txt) 0) = some (⟨k', n', t'⟩, m)) :
    Calls Tryd.prog 61 #[.pointer (some ⟨rb, 0, none⟩), .string (St txt), .agg #[.int .i64 k, .int .i64 lw, .int .i64 n, .string (St t)]] w fun e w' => ∃ a', e = .returned (.bool (decide (txt.length ≤ 65536) && decide (k' = k ∧ n' = n ∧ St t' = St t))) ∧ RD w' rb (St txt) a' ln lv ∧ TR rb w w' := by
  have HTo0 : ∀ W, RD W rb (St txt) 0 ln lv → Calls Tryd.prog 36 #[.pointer (some ⟨rb, 0, none⟩)] W fun e w' => TokE (oneM (Ln (St txt) 0)) rb (St txt) 0 ln lv W e w' := fun W hW => token_any hW (by rw [St_size]; exact hl) (Nat.zero_le _)
  rw [ho] at HTo0
  have HTo : Hid _ := ⟨HTo0⟩
  have HR1 : Hid _ := ⟨(h.setCursor (St txt)).alloc (.cells #[.int .i64 k, .int .i64 lw, .int .i64 n, .string (St t)] 32)⟩
  have HT1 : Hid _ := ⟨Turn.alloc (TR.set (TR.set (TR.self rb w) 0 (.string (St txt))) 1 (.int .i64 0)) (.cells #[.int .i64 k, .int .i64 lw, .int .i64 n, .string (St t)] 32)⟩
  have c0 := h.c0
  have c1 := h.c1
  have f0 := h.fz 0
  have f1 := h.fz 1
  have hlt := h.lt
  have HX : Hid _ := ⟨Bx.new (rb := rb) w (St txt) k lw n t⟩
  have heq := eqg_tok k' lw n' k n (St t') (St t)
  have hsz : ((St txt).size : Int) = (txt.length : Int) := by rw [St_size]
  generalize decide (k' = k ∧ n' = n ∧ St t' = St t) = B at *
  clear HTo0 h ho hl
  by_cases hle : txt.length ≤ 65536
  · have hlei : (txt.length : Int) ≤ 65536 := by omega
    rw [decide_eq_true hle, Bool.true_and]
    clear hle
    go_enter Tryd.func61, Tryd.ntmps61
    go_wp2_with (go_at_call 36; (with_reducible refine (HTo.out _ HR1.out).mono ?_); rintro e x6 ⟨rfl, R6, T6⟩; have hx := HX.out.turn T6 hlt; obtain ⟨hz, d0, d1, d2, d3⟩ := hx; have HR6 : Hid _ := ⟨R6⟩; have HT6 : Hid _ := ⟨HT1.out.trans T6⟩; clear R6 T6)
    go_ret
    exact ⟨_, rfl, HR6.out.alloc _, Turn.alloc HT6.out _⟩
  · have hlei : (65536 : Int) < (txt.length : Int) := by omega
    rw [decide_eq_false hle, Bool.false_and]
    clear hle
    go_enter Tryd.func61, Tryd.ntmps61
    go_wp2_with (go_at_call 36; (with_reducible refine (HTo.out _ HR1.out).mono ?_); rintro e x6 ⟨rfl, R6, T6⟩; have hx := HX.out.turn T6 hlt; obtain ⟨hz, d0, d1, d2, d3⟩ := hx; have HR6 : Hid _ := ⟨R6⟩; have HT6 : Hid _ := ⟨HT1.out.trans T6⟩; clear R6 T6)
    go_ret
    exact ⟨rfl, ⟨_, HR6.out.alloc _⟩, Turn.alloc HT6.out _⟩
/-- Both ways. -/
theorem cuts_any (h : RD w rb s a ln lv) (t : Tok) (lw : Int) (txt : List UInt8) (hl : txt.length ≤ 8796093022208) :
    Calls Tryd.prog 61 #[.pointer (some ⟨rb, 0, none⟩), .string (St txt), .agg #[.int .i64 t.k, .int .i64 lw, .int .i64 t.n, .string (St t.t)]] w fun e w' => ∃ (b : Bool) (a' : Nat), e = .returned (.bool b) ∧ (b = true ↔ txt.length ≤ 65536 ∧ ∃ m, oneM (Ln (St txt) 0) = some (t, m)) ∧ RD w' rb (St txt) a' ln lv ∧ TR rb w w' := by
  cases ho : oneM (Ln (St txt) 0) with
  | none =>
    refine (cuts_no h t.k lw t.n t.t txt hl ho).mono ?_
    rintro e w' ⟨a', rfl, h1, h2⟩
    exact ⟨false, a', rfl, by simp, h1, h2⟩
  | some p =>
    obtain ⟨⟨k', n', t'⟩, m⟩ := p
    refine (cuts_yes h t.k lw t.n t.t txt hl k' n' t' m ho).mono ?_
    rintro e w' ⟨a', rfl, h1, h2⟩
    refine ⟨_, a', rfl, ?_, h1, h2⟩
    rw [Bool.and_eq_true, decide_eq_true_iff, decide_eq_true_iff]
    constructor
    · rintro ⟨e1, e2, e3, e4⟩
      refine ⟨e1, m, ?_⟩
      have e5 := congrArg lo e4
      rw [lo_St, lo_St] at e5
      obtain ⟨tk, tn, tt⟩ := t
      simp only at e2 e3 e5
      rw [e2, e3, e5]
    · rintro ⟨e1, m', e2⟩
      have e3 := congrArg Prod.fst (Option.some.inj e2)
      simp only at e3
      rw [← e3]
      exact ⟨e1, rfl, rfl, rfl⟩
end

theorem spell_len (t : Tok) (h : t.t.length ≤ 65536) : (spellM t).length ≤ 8796093022208 := by
  unfold spellM
  split
  · have := dig_len 20 (t.n % 18446744073709551616).toNat
    unfold digM
    omega
  · split
    · have := flat_len t.t
      unfold quoteM
      simp only [List.length_cons, List.length_append, List.length_nil]
      omega
    · split
      · simp only [List.length_cons]; omega
      · split
        · simp
        · omega

section
variable {w : World} {rb : Nat} {s : ByteArray} {a : Nat} {ln : Int} {lv : Value}
theorem TR.of_below {x y : World} (h : Below x.heap.size x y) : TR rb x y := Turn.of_below h _

theorem Bx.box (w : World) (k lw n : Int) (t : List UInt8) : Bx w (w.alloc (.cells #[.int .i64 k, .int .i64 lw, .int .i64 n, .string (St t)] 32)).drew k lw n t := by
  refine ⟨by simp, ?_, ?_, ?_, ?_⟩ <;> simp
theorem Bx.below {W x : World} {k lw n : Int} {t : List UInt8} (B : Bx w W k lw n t) (h : Below W.heap.size W x) : Bx w x k lw n t :=
  ⟨Nat.lt_of_lt_of_le B.z h.size, (h.cell (p := ⟨w.heap.size, 0, none⟩) B.z).trans B.d0, (h.cell (p := ⟨w.heap.size, 1, none⟩) B.z).trans B.d1, (h.cell (p := ⟨w.heap.size, 2, none⟩) B.z).trans B.d2, (h.cell (p := ⟨w.heap.size, 3, none⟩) B.z).trans B.d3⟩

/-- How the test ends. -/
def CoE (P : Prop) (rb : Nat) (ln : Int) (lv : Value) (w : World) (e : Ending) (w' : World) : Prop :=
  ∃ (b : Bool) (s' : ByteArray) (a' : Nat), e = .returned (.bool b) ∧ (b = true ↔ P) ∧ RD w' rb s' a' ln lv ∧ TR rb w w'

set_option maxHeartbeats 4000000 in
set_option maxRecDepth 10000 in
theorem comesOut_any (h : RD w rb s a ln lv) (t : Tok) (lw : Int) (hn : -9223372036854775808 ≤ t.n ∧ t.n ≤ 9223372036854775807) :
    Calls Tryd.prog 38 #[.pointer (some ⟨rb, 0, none⟩), .agg #[.int .i64 t.k, .int .i64 lw, .int .i64 t.n, .string (St t.t)]] w fun e w' => CoE (Come t) rb ln lv w e w' := by
  have hsz : ((St t.t).size : Int) = (t.t.length : Int) := by rw [St_size]
  have HB : Hid (∀ o : Obj, RD (w.alloc o) rb s a ln lv ∧ TR rb w (w.alloc o)) := ⟨fun o => ⟨h.alloc o, Turn.alloc (TR.self rb w) o⟩⟩
  by_cases hl : t.t.length ≤ 65536
  · have hli : ¬ (65536 : Int) < (t.t.length : Int) := by omega
    have hli2 : (t.t.length : Int) ≤ 65536 := by omega
    by_cases k3 : t.k = 3
    · have hC : Come t ↔ (t.n = 0 ∧ ((quoteM t.t).length : Int) - 2 * ((t.t.count 0 : Nat) : Int) ≤ 65536) := by
        unfold Come
        rw [if_pos k3]
        exact ⟨fun h => h.2, fun h => ⟨hl, h⟩⟩
      have HL : Hid (∀ W, Calls Tryd.prog 60 #[.string (St t.t)] W fun e w' => e = .returned (.int .i64 (((quoteM t.t).length : Int) - 2 * ((t.t.count 0 : Nat) : Int))) ∧ Below W.heap.size W w') := ⟨fun W => least_any t.t W hl⟩
      generalize ((quoteM t.t).length : Int) - 2 * ((t.t.count 0 : Nat) : Int) = q at *
      obtain ⟨tk, tn, tt⟩ := t
      simp only at *
      subst k3
      have HC : Hid _ := ⟨hC⟩
      clear h hn hl hC
      by_cases n0 : tn = 0
      · subst n0
        have HT : Hid (Come ⟨3, 0, tt⟩ ↔ q ≤ 65536) := ⟨⟨fun e => (HC.out.1 e).2, fun e => HC.out.2 ⟨rfl, e⟩⟩⟩
        clear HC
        go_enter Tryd.func38, Tryd.ntmps38
        go_wp2_with (go_at_call 60; (with_reducible refine (HL.out _).mono ?_); rintro e w' ⟨rfl, hb⟩)
        go_ret
        exact ⟨decide (q ≤ 65536), _, _, rfl, by rw [decide_eq_true_iff]; exact HT.out.symm, (HB.out _).1.below hb, (HB.out _).2.trans (TR.of_below hb)⟩
      · have q0 : (tn == 0) = false := by simpa using n0
        have HT : Hid (¬ Come ⟨3, tn, tt⟩) := ⟨fun e => n0 (HC.out.1 e).1⟩
        clear HC n0
        go_enter Tryd.func38, Tryd.ntmps38
        go_wp2
        go_ret
        exact ⟨false, _, _, rfl, by simp [HT.out], (HB.out _).1, (HB.out _).2⟩
    · by_cases k6 : t.k = 6
      · have hC : Come t ↔ (t.n = 0 ∧ t.t = []) := by
          unfold Come
          rw [if_neg k3, if_pos k6]
          exact ⟨fun h => h.2, fun h => ⟨hl, h⟩⟩
        obtain ⟨tk, tn, tt⟩ := t
        simp only at *
        subst k6
        have HC : Hid _ := ⟨hC⟩
        clear h hn hl hC k3
        by_cases n0 : tn = 0
        · subst n0
          have HT : Hid ((St tt).toList.isEmpty = true ↔ Come ⟨6, 0, tt⟩) := ⟨by
            rw [HC.out, ByteArray.toList_eq]
            simp [St]⟩
          clear HC
          go_enter Tryd.func38, Tryd.ntmps38
          go_wp2
          go_ret
          exact ⟨(St tt).toList.isEmpty, _, _, rfl, HT.out, (HB.out _).1, (HB.out _).2⟩
        · have q0 : (tn == 0) = false := by simpa using n0
          have HT : Hid (¬ Come ⟨6, tn, tt⟩) := ⟨fun e => n0 (HC.out.1 e).1⟩
          clear HC n0
          go_enter Tryd.func38, Tryd.ntmps38
          go_wp2
          go_ret
          exact ⟨false, _, _, rfl, by simp [HT.out], (HB.out _).1, (HB.out _).2⟩
      · have hC : Come t ↔ CutsTo t := by
          unfold Come
          rw [if_neg k3, if_neg k6]
          exact ⟨fun h => h.2, fun h => ⟨hl, h⟩⟩
        have HS : Hid (∀ W, Er W → Calls Tryd.prog 25 #[.agg #[.int .i64 t.k, .int .i64 lw, .int .i64 t.n, .string (St t.t)]] W fun e w' => e = .returned (.string (St (spellM t))) ∧ Below W.heap.size W w') := ⟨fun W hW => spelled_any t.k lw t.n t.t W hW hn (by omega)⟩
        have HK : Hid (∀ W, RD W rb s a ln lv → Calls Tryd.prog 61 #[.pointer (some ⟨rb, 0, none⟩), .string (St (spellM t)), .agg #[.int .i64 t.k, .int .i64 lw, .int .i64 t.n, .string (St t.t)]] W fun e w' => ∃ (b : Bool) (a' : Nat), e = .returned (.bool b) ∧ (b = true ↔ CutsTo t) ∧ RD w' rb (St (spellM t)) a' ln lv ∧ TR rb W w') := ⟨fun W hW => cuts_any hW t lw (spellM t) (spell_len t hl)⟩
        rw [← hC] at HK
        generalize hP : Come t = P at *
        obtain ⟨tk, tn, tt⟩ := t
        simp only at *
        have q3 : (tk == 3) = false := by simpa using k3
        have q6 : (tk == 6) = false := by simpa using k6
        generalize spellM ⟨tk, tn, tt⟩ = sp at *
        have HR0 : Hid (RD (w.alloc (.cells #[.int .i64 tk, .int .i64 lw, .int .i64 tn, .string (St tt)] 32)).drew rb s a ln lv) := ⟨(h.alloc _).drew⟩
        have HT0 : Hid (TR rb w (w.alloc (.cells #[.int .i64 tk, .int .i64 lw, .int .i64 tn, .string (St tt)] 32)).drew) := ⟨(Turn.alloc (TR.self rb w) _).trans (TR.of_below (Below.refl _ _).drew)⟩
        have HX : Hid _ := ⟨Bx.box w tk lw tn tt⟩
        clear h hn hl hC k3 k6 hP
        go_enter Tryd.func38, Tryd.ntmps38
        go_wp2
        go_region_with (first
          | (go_at_call 25; (with_reducible refine (HS.out _ HR0.out.er).mono ?_); rintro e x1 ⟨rfl, hb1⟩; have hx := HX.out.below hb1; obtain ⟨_, d0, d1, d2, d3⟩ := hx; have HR1 : Hid _ := ⟨HR0.out.below hb1⟩; have HT1 : Hid _ := ⟨HT0.out.trans (TR.of_below hb1)⟩; clear hb1)
          | (go_at_call 61; (with_reducible refine (HK.out _ HR1.out).mono ?_); rintro e x2 ⟨b, a', rfl, hiff, R2, T2⟩; have HR2 : Hid _ := ⟨R2⟩; have HT2 : Hid _ := ⟨HT1.out.trans T2⟩; clear R2 T2))
        all_goals (go_wp2; go_ret; exact ⟨b, _, a', rfl, hiff, HR2.out, HT2.out⟩)
  · have hli : (65536 : Int) < (t.t.length : Int) := by omega
    have HT : Hid (¬ Come t) := ⟨fun e => hl e.1⟩
    generalize hP : Come t = P at *
    obtain ⟨tk, tn, tt⟩ := t
    simp only at *
    clear h hn hl hP
    go_enter Tryd.func38, Tryd.ntmps38
    go_wp2
    go_ret
    exact ⟨false, _, _, rfl, by simp [HT.out], (HB.out _).1, (HB.out _).2⟩
end

set_option maxHeartbeats 4000000 in
set_option maxRecDepth 10000 in
theorem allComeOut_any (ao : Option Addr) (c : Nat) (l : List TL) (w : World) (hE : Er w) (hlen : l.length ≤ 2199023255551) (hr : ∀ p ∈ l, -9223372036854775808 ≤ p.1.n ∧ p.1.n ≤ 9223372036854775807) (ht : ToksP w ao l) :
    Calls Tryd.prog 24 #[.slice ao l.length c] w fun e w' => ∃ b : Bool, e = .returned (.bool b) ∧ (b = true ↔ ∀ p ∈ l, Come p.1) ∧ Below w.heap.size w w' := by
  have HN : Hid _ := ⟨newReader_any ⟨#[]⟩ w hE⟩
  have HT : Hid _ := ⟨ht⟩
  have HR : Hid (∀ k, k < l.length → -9223372036854775808 ≤ (l.getD k TL.none).1.n ∧ (l.getD k TL.none).1.n ≤ 9223372036854775807) := ⟨fun k hk => by
    have e : l.getD k TL.none = l[k] := by simp [hk]
    rw [e]
    exact hr _ (List.getElem_mem hk)⟩
  have HM : Hid ((∀ k, k < l.length → Come (l.getD k TL.none).1) ↔ ∀ p ∈ l, Come p.1) := ⟨⟨fun h p hp => by
    obtain ⟨k, hk, e⟩ := List.getElem_of_mem hp
    have := h k hk
    have e2 : l.getD k TL.none = l[k] := by simp [hk]
    rw [e2, e] at this
    exact this, fun h k hk => by
    have e : l.getD k TL.none = l[k] := by simp [hk]
    rw [e]
    exact h _ (List.getElem_mem hk)⟩⟩
  clear ht hr hE
  go_enter Tryd.func24, Tryd.ntmps24
  go_wp2_with (go_at_call 21; (with_reducible refine HN.out.mono ?_); rintro e w1 ⟨rb, rfl, hrb, R1, hb1⟩; have HR1 : Hid _ := ⟨R1⟩; have HB1 : Hid _ := ⟨hb1⟩; clear R1 hb1)
  go_loopw [9] (fun i wr => ∃ (k : Nat) (s : ByteArray) (a : Nat), k ≤ l.length ∧ i = .int .i64 k ∧ Hid (RD wr rb s a 0 (.slice none 0 0) ∧ Below w.heap.size w wr ∧ ∀ j, j < k → Come (l.getD j TL.none).1)) (fun i _ => l.length - (intOf i).toNat)
  case atStart => exact ⟨0, _, _, by omega, rfl, ⟨HR1.out, HB1.out, fun j hj => by omega⟩⟩
  case round =>
    clear HR1 HB1 HN
    obtain ⟨k, s, a, hk, rfl, HW⟩ := hrel
    by_cases hlt : k < l.length
    · obtain ⟨b1, o1, rfl, hc1⟩ : ∃ b off, ao = some ⟨b, off, none⟩ ∧ ∀ i, i < l.length → TokAt wr b (off + i * 4) (l.getD i TL.none) := by
        rcases HT.out.below HW.out.2.1 (Nat.le_refl _) with h | h
        · rw [h] at hlt; simp at hlt
        · exact h
      obtain ⟨c0, c1, c2, c3⟩ := hc1 k hlt
      have hrg := HR.out k hlt
      have HP : Hid (∀ x : Prop, (Come (l.getD k TL.none).1 ↔ x) → (x → ∀ j, j < k + 1 → Come (l.getD j TL.none).1) ∧ (¬ x → ¬ ∀ p ∈ l, Come p.1)) := ⟨fun x hx => ⟨fun hx2 j hj => by
        by_cases e : j = k
        · subst e; exact hx.2 hx2
        · exact HW.out.2.2 j (by omega), fun hx2 h => hx2 (hx.1 (HM.out.2 h k hlt))⟩⟩
      generalize l.getD k TL.none = p at *
      obtain ⟨t, pl⟩ := p
      have HK0 : ∀ W, RD W rb s a 0 (.slice none 0 0) → Calls Tryd.prog 38 #[.pointer (some ⟨rb, 0, none⟩), .agg #[.int .i64 t.k, .int .i64 pl, .int .i64 t.n, .string (St t.t)]] W fun e w' => CoE (Come t) rb 0 (.slice none 0 0) W e w' := fun W hW => comesOut_any hW t pl hrg
      have HP2 := HP.out (Come t) Iff.rfl
      have HA : Hid (∀ o : Obj, RD (wr.alloc o) rb s a 0 (.slice none 0 0)) := ⟨fun o => HW.out.1.alloc o⟩
      have HBw : Hid (∀ (o : Obj) (x : World), TR rb (wr.alloc o) x → Below w.heap.size w x) := ⟨fun o x hx => (HW.out.2.1.alloc (HW.out.2.1.size) o).trans (Turn.below hx (by have := HW.out.2.1.size; simp; omega) (fun k hk => by omega))⟩
      have i1 : (0 : Int) ≤ (k : Int) := by omega
      have i2 : (k : Int) < (l.length : Int) := by omega
      by_cases hc : Come t
      · have HK : Hid (∀ W, RD W rb s a 0 (.slice none 0 0) → Calls Tryd.prog 38 #[.pointer (some ⟨rb, 0, none⟩), .agg #[.int .i64 t.k, .int .i64 pl, .int .i64 t.n, .string (St t.t)]] W fun e w' => ∃ (s' : ByteArray) (a' : Nat), e = .returned (.bool true) ∧ RD w' rb s' a' 0 (.slice none 0 0) ∧ TR rb W w') := ⟨fun W hW => (HK0 W hW).mono (by
          rintro e w' ⟨b, s', a', rfl, hb, h1, h2⟩
          have : b = true := hb.2 hc
          subst this
          exact ⟨s', a', rfl, h1, h2⟩)⟩
        have HQ : Hid _ := ⟨HP2.1 hc⟩
        obtain ⟨tk, tn, tt⟩ := t
        dsimp only at c0 c1 c2 c3 HK
        generalize St tt = sx at *
        clear HK0 HP HP2 hc1 hrg hc HM HR HT HW
        go_wp2_with (go_at_call 38; (with_reducible refine (HK.out _ (HA.out _)).mono ?_); rintro e x2 ⟨s', a', rfl, R2, T2⟩)
        go_roundw
        case rel => exact ⟨k + 1, s', a', hlt, by go_num, ⟨R2, HBw.out _ _ T2, HQ.out⟩⟩
        case measure => simp [intOf]; omega
      · have HK : Hid (∀ W, RD W rb s a 0 (.slice none 0 0) → Calls Tryd.prog 38 #[.pointer (some ⟨rb, 0, none⟩), .agg #[.int .i64 t.k, .int .i64 pl, .int .i64 t.n, .string (St t.t)]] W fun e w' => ∃ (s' : ByteArray) (a' : Nat), e = .returned (.bool false) ∧ RD w' rb s' a' 0 (.slice none 0 0) ∧ TR rb W w') := ⟨fun W hW => (HK0 W hW).mono (by
          rintro e w' ⟨b, s', a', rfl, hb, h1, h2⟩
          have : b = false := by
            cases b
            · rfl
            · exact (hc (hb.1 rfl)).elim
          subst this
          exact ⟨s', a', rfl, h1, h2⟩)⟩
        have HQ : Hid _ := ⟨HP2.2 hc⟩
        obtain ⟨tk, tn, tt⟩ := t
        dsimp only at c0 c1 c2 c3 HK
        generalize St tt = sx at *
        clear HK0 HP HP2 hc1 hrg hc HM HR HT HW
        go_wp2_with (go_at_call 38; (with_reducible refine (HK.out _ (HA.out _)).mono ?_); rintro e x2 ⟨s', a', rfl, R2, T2⟩)
        go_ret
        exact ⟨false, rfl, by simp only [Bool.false_eq_true, false_iff]; exact HQ.out, HBw.out _ _ T2⟩
    · obtain rfl : k = l.length := by omega
      have HQ : Hid (∀ p ∈ l, Come p.1) := ⟨HM.out.1 HW.out.2.2⟩
      have HBw : Hid _ := ⟨HW.out.2.1⟩
      clear HM HR HT HW
      go_wp2
      go_ret
      exact ⟨true, rfl, by simp only [true_iff]; exact HQ.out, HBw.out⟩

theorem Own.any {w : World} {base : Nat} {v : Value} {xs : List Int} (h : Own w base v xs) : ∃ ao cap, v = .slice ao xs.length cap := by
  obtain ⟨_, ⟨h1, h2⟩ | ⟨g, cap, cur, hv, _⟩⟩ := h
  · exact ⟨none, 0, by rw [h1, h2]⟩
  · exact ⟨_, cap, hv⟩
/-- One byte more; where the literal lies is given apart. -/
theorem append_byteQ {ops : Array Oper} {rest : List Oper} {o : Oper} {a : Act} {Q : Exit → Act → World → Prop} (w : World) (hgd : o.guard = none) (s x : Operand)
    (ho : o.op = .call { callee := .builtin .append, args := #[s, x], argTypes := #[59, 59] })
    (base : Nat) (v : Value) (xs : List Int) (hs : a.eval s = v) (hown : Own w base v xs) (b : Int) (q : Nat) (hx : a.eval x = .slice (some ⟨q, 0, none⟩) 1 1) (hq : q = w.heap.size)
    (hn : xs.length + 1 ≤ 140737488355328) (hbase : base ≤ w.heap.size)
    (h : ∀ v' w', Own w' base v' (xs ++ [b]) → (w.alloc (.cells #[.int .u8 b] 5)).grownBy w' v.ownBlock → wpList Tryd.prog ops Q rest (a.put o.dst v') w') :
    wpList Tryd.prog ops Q (o :: rest) a (w.alloc (.cells #[.int .u8 b] 5)) := by
  subst hq
  exact append_byteG w hgd s x ho base v xs hs hown b hx hn hbase h
theorem bts_St (l : List UInt8) : bts (St l) = l.map zOf := rfl

set_option maxHeartbeats 4000000 in
set_option maxRecDepth 10000 in
theorem print_bad (ao : Option Addr) (c : Nat) (l : List TL) (w : World) (hE : Er w) (hm : Room l) (ht : ToksP w ao l) (hall : ¬ ∀ p ∈ l, Come p.1) :
    Calls Tryd.prog 15 #[.slice ao l.length c] w fun e w' => PrQ (printM (l.map Prod.fst)) e ∧ Below w.heap.size w w' := by
  have HA : Hid (Calls Tryd.prog 24 #[.slice ao l.length c] w fun e w' => e = .returned (.bool false) ∧ Below w.heap.size w w') := ⟨(allComeOut_any ao c l w hE hm.1 hm.2.1 ht).mono (by
    rintro e w' ⟨b, rfl, hb, h1⟩
    cases b
    · exact ⟨rfl, h1⟩
    · exact (hall (hb.1 rfl)).elim)⟩
  have HQ : Hid (PrQ (printM (l.map Prod.fst)) (.returned (.tuple #[.string ⟨#[]⟩, .int .i64 100]))) := ⟨by
    cases hp : printM (l.map Prod.fst) with
    | error x => exact ⟨100, by decide, rfl⟩
    | ok a =>
      refine (hall fun p hp' => ?_).elim
      exact come_dec (l := l.map Prod.fst) (fun t ht => by
        obtain ⟨q, hq, rfl⟩ := List.mem_map.1 ht
        exact hm.2.1 q hq) hp p.1 (List.mem_map.2 ⟨p, hp', rfl⟩)⟩
  clear hE hm ht hall
  go_enter Tryd.func15, Tryd.ntmps15
  go_wp2_with (go_at_call 24; (with_reducible refine HA.out.mono ?_); rintro e w1 ⟨rfl, hb1⟩)
  go_ret2
  exact ⟨HQ.out, hb1⟩

/-- The text so far, and the token that is being written. -/
structure PS (w0 W : World) (g : Nat) (k lw n : Int) (t : List UInt8) (v : Value) (D : List UInt8) : Prop where
  own : Own W w0.heap.size v (D.map zOf)
  bel : Below w0.heap.size w0 W
  tk : W.heap[g]? = some (.cells #[.int .i64 k, .int .i64 lw, .int .i64 n, .string (St t)] 32 (0, 0))
section
variable {w0 W x : World} {g : Nat} {k lw n : Int} {t D : List UInt8} {v v' : Value}
theorem PS.new (h : Own W w0.heap.size v (D.map zOf)) (hb : Below w0.heap.size w0 W) : PS w0 (W.alloc (.cells #[.int .i64 k, .int .i64 lw, .int .i64 n, .string (St t)] 32)) W.heap.size k lw n t v D :=
  ⟨own_bel h ((Below.refl _ _).alloc (Nat.le_refl _) _), hb.alloc hb.size _, heap_alloc_new W _⟩
theorem PS.lt (h : PS w0 W g k lw n t v D) : g < W.heap.size := (Array.getElem?_eq_some_iff.1 h.tk).1
theorem PS.apart (h : PS w0 W g k lw n t v D) : some g ≠ v.ownBlock := by
  intro e
  obtain ⟨_, ⟨h1, h2⟩ | ⟨b, cap, cur, hv, _, hb, _⟩⟩ := h.own
  · rw [h1] at e; cases e
  · rw [hv] at e
    have e2 : g = b := Option.some.inj e
    subst e2
    rw [h.tk] at hb
    have := Option.some.inj hb
    simp at this
theorem PS.cells (h : PS w0 W g k lw n t v D) : W.cell? ⟨g, 0, none⟩ = some (.int .i64 k) ∧ W.cell? ⟨g, 1, none⟩ = some (.int .i64 lw) ∧ W.cell? ⟨g, 2, none⟩ = some (.int .i64 n) ∧ W.cell? ⟨g, 3, none⟩ = some (.string (St t)) := by
  refine ⟨?_, ?_, ?_, ?_⟩ <;> simp [World.cell?, h.tk]
theorem PS.onto (h : PS w0 W g k lw n t v D) (hb : Below W.heap.size W x) : PS w0 x g k lw n t v D :=
  ⟨own_bel h.own hb, h.bel.trans (hb.mono h.bel.size), (hb.block g h.lt).trans h.tk⟩
theorem PS.byte (h : PS w0 W g k lw n t v D) {b : Int} {c : UInt8} (hc : b = zOf c) (ho : Own x w0.heap.size v' (D.map zOf ++ [b])) (hg : (W.alloc (.cells #[.int .u8 b] 5)).grownBy x v.ownBlock) : PS w0 x g k lw n t v' (D ++ [c]) := by
  have h1 := h.onto ((Below.refl _ _).alloc (Nat.le_refl _) (.cells #[.int .u8 b] 5))
  refine ⟨by rw [List.map_append, List.map_cons, List.map_nil, ← hc]; exact ho, h1.bel.grown hg h1.bel.size h1.own.block, (hg.block g h1.lt h1.apart).trans h1.tk⟩
theorem PS.str (h : PS w0 W g k lw n t v D) {y D' : List UInt8} (he : D' = D ++ y) (ho : Own x w0.heap.size v' (D.map zOf ++ bts (St y))) (hg : W.grownBy x v.ownBlock) : PS w0 x g k lw n t v' D' := by
  refine ⟨by rw [he, List.map_append]; exact ho, h.bel.grown hg h.bel.size h.own.block, (hg.block g h.lt h.apart).trans h.tk⟩
theorem PS.shape (h : PS w0 W g k lw n t v D) : ∃ ao cap, v = .slice ao D.length cap := by
  obtain ⟨ao, cap, e⟩ := h.own.any
  rw [List.length_map] at e
  exact ⟨ao, cap, e⟩
end

theorem rem_cons (t : Tok) (r : List Tok) (b : Bool) : remM (t :: r) b = (if b = true ∧ ¬ t.k = 6 then [32] else []) ++ spellM t ++ remM r (!(t.k == 6)) := rfl

set_option maxHeartbeats 8000000 in
set_option maxRecDepth 10000 in
theorem print_good (ao : Option Addr) (c : Nat) (l : List TL) (w : World) (hE : Er w) (hm : Room l) (ht : ToksP w ao l) (hall : ∀ p ∈ l, Come p.1) :
    Calls Tryd.prog 15 #[.slice ao l.length c] w fun e w' => PrQ (printM (l.map Prod.fst)) e ∧ Below w.heap.size w w' := by
  have HA : Hid (Calls Tryd.prog 24 #[.slice ao l.length c] w fun e w' => e = .returned (.bool true) ∧ Below w.heap.size w w') := ⟨(allComeOut_any ao c l w hE hm.1 hm.2.1 ht).mono (by
    rintro e w' ⟨b, rfl, hb, h1⟩
    have := hb.2 hall
    subst this
    exact ⟨rfl, h1⟩)⟩
  have hpr := print_rem (l := l.map Prod.fst) (fun t ht => by
    obtain ⟨q, hq, rfl⟩ := List.mem_map.1 ht
    exact hall q hq)
  have HBad : Hid (65536 < (remM (l.map Prod.fst) false).length → PrQ (printM (l.map Prod.fst)) (.returned (.tuple #[.string ⟨#[]⟩, .int .i64 6]))) := ⟨fun h => by
    rw [hpr, if_pos h]
    exact ⟨6, by decide, rfl⟩⟩
  have HOk : Hid (∀ s : ByteArray, (remM (l.map Prod.fst) false).length ≤ 65536 → s = St (remM (l.map Prod.fst) false) → PrQ (printM (l.map Prod.fst)) (.returned (.tuple #[.string s, .int .i64 0]))) := ⟨fun s h e => by
    rw [hpr, if_neg (by omega), e]
    rfl⟩
  generalize PrQ (printM (l.map Prod.fst)) = Pr at *
  have HT : Hid _ := ⟨ht⟩
  have HEr : Hid _ := ⟨hE⟩
  have HR : Hid (∀ k, k < l.length → (-9223372036854775808 ≤ (l.getD k TL.none).1.n ∧ (l.getD k TL.none).1.n ≤ 9223372036854775807) ∧ (l.getD k TL.none).1.t.length ≤ 65536 ∧ (l.drop k).map Prod.fst = (l.getD k TL.none).1 :: (l.drop (k + 1)).map Prod.fst) := ⟨fun k hk => by
    have e : l.getD k TL.none = l[k] := by simp [hk]
    rw [e]
    refine ⟨hm.2.1 _ (List.getElem_mem hk), (hall _ (List.getElem_mem hk)).1, ?_⟩
    rw [List.drop_eq_getElem_cons hk, List.map_cons]⟩
  have hlen := hm.1
  generalize hG : remM (l.map Prod.fst) false = G at *
  have HG : Hid _ := ⟨hG⟩
  clear hE hm ht hall hpr hG
  go_enter Tryd.func15, Tryd.ntmps15
  go_wp2_with (go_at_call 24; (with_reducible refine HA.out.mono ?_); rintro e w1 ⟨rfl, hb1⟩)
  go_loopw [13, 4, 5] (fun i v o wr => ∃ (k : Nat) (b : Bool) (D : List UInt8), k ≤ l.length ∧ i = .int .i64 k ∧ o = .bool b ∧ D.length ≤ 65536 ∧ Hid (Own wr w.heap.size v (D.map zOf) ∧ Below w.heap.size w wr ∧ D ++ remM ((l.drop k).map Prod.fst) b = G)) (fun i _ _ _ => l.length - (intOf i).toNat)
  case atStart => exact ⟨0, false, [], by omega, rfl, rfl, by simp, ⟨Own.nil _ _, hb1, by rw [List.drop_zero, List.nil_append]; exact HG.out⟩⟩
  case round =>
    clear hb1 HA HG
    obtain ⟨k, b, D, hk, rfl, rfl, hD, HW⟩ := hrel
    have HO1 : Hid _ := ⟨HW.out.1⟩
    have HB1 : Hid _ := ⟨HW.out.2.1⟩
    have hbs := HW.out.2.1.size
    have hDl : (D.map zOf).length = D.length := List.length_map ..
    obtain ⟨av, cv, hv⟩ := HW.out.1.any
    rw [hDl] at hv
    by_cases hlt : k < l.length
    · obtain ⟨b1, o1, rfl, hc1⟩ : ∃ b off, ao = some ⟨b, off, none⟩ ∧ ∀ i, i < l.length → TokAt wr b (off + i * 4) (l.getD i TL.none) := by
        rcases HT.out.below HW.out.2.1 (Nat.le_refl _) with h | h
        · rw [h] at hlt; simp at hlt
        · exact h
      obtain ⟨c0, c1, c2, c3⟩ := hc1 k hlt
      obtain ⟨hrg, htl, hdr⟩ := HR.out k hlt
      have hrem := HW.out.2.2
      rw [hdr, rem_cons] at hrem
      generalize l.getD k TL.none = p at *
      obtain ⟨t, pl⟩ := p
      have hsl := spell_len t htl
      have HS0 : ∀ W, Below w.heap.size w W → Calls Tryd.prog 25 #[.agg #[.int .i64 t.k, .int .i64 pl, .int .i64 t.n, .string (St t.t)]] W fun e w' => e = .returned (.string (St (spellM t))) ∧ Below W.heap.size W w' := fun W hW => spelled_any t.k pl t.n t.t W (HEr.out.below hW HEr.out.sz) hrg (Nat.le_trans htl (by decide))
      have HP0 : Hid _ := ⟨PS.new (k := t.k) (lw := pl) (n := t.n) (t := t.t) HW.out.1 HW.out.2.1⟩
      have i1 : (0 : Int) ≤ (k : Int) := by omega
      have i2 : (k : Int) < (l.length : Int) := by omega
      generalize spellM t = sp at *
      obtain ⟨tk, tn, tt⟩ := t
      dsimp only at c0 c1 c2 c3 HS0 HP0 hrem
      have HS : Hid _ := ⟨HS0⟩
      clear HS0 hc1 hrg htl hdr HT HR HW HOk HEr hv
      by_cases k6 : tk = 6
      · have q6 : (tk != 6) = false := by simpa using k6
        have q7 : (tk == 6) = true := by simpa using k6
        rw [if_neg (by rintro ⟨_, e⟩; exact e k6), List.nil_append, q7, ← List.append_assoc] at hrem
        clear k6
        obtain ⟨D4, hD4⟩ : ∃ D4, D4 = D ++ sp := ⟨_, rfl⟩
        have HD4 : Hid _ := ⟨hD4⟩
        rw [← hD4] at hrem
        have HE4 : Hid (D4 ++ remM ((l.drop (k + 1)).map Prod.fst) false = G) := ⟨hrem⟩
        clear hD4 hrem
        cases b
        · by_cases hbig : ¬ 65536 < D4.length
          · have hgi : ¬ (65536 : Int) < (D4.length : Int) := by omega
            go_wp2_with (first
              | (go_at_call 25; (with_reducible refine (HS.out _ HP0.out.bel).mono ?_); rintro e x3 ⟨rfl, hb3⟩; have hp3 := HP0.out.onto hb3; have HP3 : Hid _ := ⟨hp3⟩; clear hp3 hb3)
              | (at_builtin; refine append_str _ rfl _ _ rfl w.heap.size _ _ rfl (by exact HP3.out.own) _ rfl (by rw [hDl, St_size]; omega) HP3.out.bel.size ?_; intro v4 w4 ho4 hg4; have hp4 := HP3.out.str HD4.out ho4 hg4; have hs4 := hp4.shape; obtain ⟨ao4, cp4, hv4⟩ := hs4; subst hv4; have hc4 := hp4.cells; obtain ⟨f0, f1, f2, f3⟩ := hc4; have HP4 : Hid _ := ⟨hp4⟩; clear hp4 ho4 hg4))
            
            go_roundw
            case rel => exact ⟨k + 1, false, D4, hlt, by go_num, by first | rfl | simp [q6], by omega, ⟨HP4.out.own, HP4.out.bel, HE4.out⟩⟩
            case measure => simp [intOf]; omega
          · have hgi : (65536 : Int) < (D4.length : Int) := by omega
            have HBd : Hid (65536 < G.length) := ⟨by rw [← HE4.out, List.length_append]; omega⟩
            clear hbig
            go_wp2_with (first
              | (go_at_call 25; (with_reducible refine (HS.out _ HP0.out.bel).mono ?_); rintro e x3 ⟨rfl, hb3⟩; have hp3 := HP0.out.onto hb3; have HP3 : Hid _ := ⟨hp3⟩; clear hp3 hb3)
              | (at_builtin; refine append_str _ rfl _ _ rfl w.heap.size _ _ rfl (by exact HP3.out.own) _ rfl (by rw [hDl, St_size]; omega) HP3.out.bel.size ?_; intro v4 w4 ho4 hg4; have hp4 := HP3.out.str HD4.out ho4 hg4; have hs4 := hp4.shape; obtain ⟨ao4, cp4, hv4⟩ := hs4; subst hv4; have hc4 := hp4.cells; obtain ⟨f0, f1, f2, f3⟩ := hc4; have HP4 : Hid _ := ⟨hp4⟩; clear hp4 ho4 hg4))
            
            go_ret2
            exact ⟨HBad.out HBd.out, HP4.out.bel⟩
        · by_cases hbig : ¬ 65536 < D4.length
          · have hgi : ¬ (65536 : Int) < (D4.length : Int) := by omega
            go_wp2_with (first
              | (go_at_call 25; (with_reducible refine (HS.out _ HP0.out.bel).mono ?_); rintro e x3 ⟨rfl, hb3⟩; have hp3 := HP0.out.onto hb3; have HP3 : Hid _ := ⟨hp3⟩; clear hp3 hb3)
              | (at_builtin; refine append_str _ rfl _ _ rfl w.heap.size _ _ rfl (by exact HP3.out.own) _ rfl (by rw [hDl, St_size]; omega) HP3.out.bel.size ?_; intro v4 w4 ho4 hg4; have hp4 := HP3.out.str HD4.out ho4 hg4; have hs4 := hp4.shape; obtain ⟨ao4, cp4, hv4⟩ := hs4; subst hv4; have hc4 := hp4.cells; obtain ⟨f0, f1, f2, f3⟩ := hc4; have HP4 : Hid _ := ⟨hp4⟩; clear hp4 ho4 hg4))
            
            go_roundw
            case rel => exact ⟨k + 1, false, D4, hlt, by go_num, by first | rfl | simp [q6], by omega, ⟨HP4.out.own, HP4.out.bel, HE4.out⟩⟩
            case measure => simp [intOf]; omega
          · have hgi : (65536 : Int) < (D4.length : Int) := by omega
            have HBd : Hid (65536 < G.length) := ⟨by rw [← HE4.out, List.length_append]; omega⟩
            clear hbig
            go_wp2_with (first
              | (go_at_call 25; (with_reducible refine (HS.out _ HP0.out.bel).mono ?_); rintro e x3 ⟨rfl, hb3⟩; have hp3 := HP0.out.onto hb3; have HP3 : Hid _ := ⟨hp3⟩; clear hp3 hb3)
              | (at_builtin; refine append_str _ rfl _ _ rfl w.heap.size _ _ rfl (by exact HP3.out.own) _ rfl (by rw [hDl, St_size]; omega) HP3.out.bel.size ?_; intro v4 w4 ho4 hg4; have hp4 := HP3.out.str HD4.out ho4 hg4; have hs4 := hp4.shape; obtain ⟨ao4, cp4, hv4⟩ := hs4; subst hv4; have hc4 := hp4.cells; obtain ⟨f0, f1, f2, f3⟩ := hc4; have HP4 : Hid _ := ⟨hp4⟩; clear hp4 ho4 hg4))
            
            go_ret2
            exact ⟨HBad.out HBd.out, HP4.out.bel⟩
      · have q6 : (tk != 6) = true := by simpa using k6
        have q7 : (tk == 6) = false := by simpa using k6
        cases b
        · rw [if_neg (by rintro ⟨e, _⟩; cases e), List.nil_append, q7, ← List.append_assoc] at hrem
          clear k6
          obtain ⟨D4, hD4⟩ : ∃ D4, D4 = D ++ sp := ⟨_, rfl⟩
          have HD4 : Hid _ := ⟨hD4⟩
          rw [← hD4] at hrem
          have HE4 : Hid (D4 ++ remM ((l.drop (k + 1)).map Prod.fst) true = G) := ⟨hrem⟩
          clear hD4 hrem
          by_cases hbig : ¬ 65536 < D4.length
          · have hgi : ¬ (65536 : Int) < (D4.length : Int) := by omega
            go_wp2_with (first
              | (go_at_call 25; (with_reducible refine (HS.out _ HP0.out.bel).mono ?_); rintro e x3 ⟨rfl, hb3⟩; have hp3 := HP0.out.onto hb3; have HP3 : Hid _ := ⟨hp3⟩; clear hp3 hb3)
              | (at_builtin; refine append_str _ rfl _ _ rfl w.heap.size _ _ rfl (by exact HP3.out.own) _ rfl (by rw [hDl, St_size]; omega) HP3.out.bel.size ?_; intro v4 w4 ho4 hg4; have hp4 := HP3.out.str HD4.out ho4 hg4; have hs4 := hp4.shape; obtain ⟨ao4, cp4, hv4⟩ := hs4; subst hv4; have hc4 := hp4.cells; obtain ⟨f0, f1, f2, f3⟩ := hc4; have HP4 : Hid _ := ⟨hp4⟩; clear hp4 ho4 hg4))
            
            go_roundw
            case rel => exact ⟨k + 1, true, D4, hlt, by go_num, by first | rfl | simp [q6], by omega, ⟨HP4.out.own, HP4.out.bel, HE4.out⟩⟩
            case measure => simp [intOf]; omega
          · have hgi : (65536 : Int) < (D4.length : Int) := by omega
            have HBd : Hid (65536 < G.length) := ⟨by rw [← HE4.out, List.length_append]; omega⟩
            clear hbig
            go_wp2_with (first
              | (go_at_call 25; (with_reducible refine (HS.out _ HP0.out.bel).mono ?_); rintro e x3 ⟨rfl, hb3⟩; have hp3 := HP0.out.onto hb3; have HP3 : Hid _ := ⟨hp3⟩; clear hp3 hb3)
              | (at_builtin; refine append_str _ rfl _ _ rfl w.heap.size _ _ rfl (by exact HP3.out.own) _ rfl (by rw [hDl, St_size]; omega) HP3.out.bel.size ?_; intro v4 w4 ho4 hg4; have hp4 := HP3.out.str HD4.out ho4 hg4; have hs4 := hp4.shape; obtain ⟨ao4, cp4, hv4⟩ := hs4; subst hv4; have hc4 := hp4.cells; obtain ⟨f0, f1, f2, f3⟩ := hc4; have HP4 : Hid _ := ⟨hp4⟩; clear hp4 ho4 hg4))
            
            go_ret2
            exact ⟨HBad.out HBd.out, HP4.out.bel⟩
        · rw [if_pos ⟨rfl, k6⟩, q7, ← List.append_assoc, ← List.append_assoc] at hrem
          clear k6
          obtain ⟨D4, hD4⟩ : ∃ D4, D4 = D ++ [32] ++ sp := ⟨_, rfl⟩
          have HD4 : Hid _ := ⟨hD4⟩
          have hDl1 : ((D ++ [32]).map zOf).length = D.length + 1 := by simp
          rw [← hD4] at hrem
          have HE4 : Hid (D4 ++ remM ((l.drop (k + 1)).map Prod.fst) true = G) := ⟨hrem⟩
          clear hD4 hrem
          by_cases hbig : ¬ 65536 < D4.length
          · have hgi : ¬ (65536 : Int) < (D4.length : Int) := by omega
            go_wp2_with (first
              | (at_builtin; refine append_byteQ _ rfl _ _ rfl w.heap.size _ _ rfl (by exact HP0.out.own) 32 _ rfl (by simp) (by rw [hDl]; omega) HP0.out.bel.size ?_; intro v2 w2 ho2 hg2; have hp2 := HP0.out.byte (c := 32) rfl ho2 hg2; have hc2 := hp2.cells; obtain ⟨d0, d1, d2, d3⟩ := hc2; have HP2 : Hid _ := ⟨hp2⟩; clear hp2 ho2 hg2)
              | (go_at_call 25; (with_reducible refine (HS.out _ HP2.out.bel).mono ?_); rintro e x3 ⟨rfl, hb3⟩; have hp3 := HP2.out.onto hb3; have HP3 : Hid _ := ⟨hp3⟩; clear hp3 hb3)
              | (at_builtin; refine append_str _ rfl _ _ rfl w.heap.size _ _ rfl (by exact HP3.out.own) _ rfl (by rw [hDl1, St_size]; omega) HP3.out.bel.size ?_; intro v4 w4 ho4 hg4; have hp4 := HP3.out.str HD4.out ho4 hg4; have hs4 := hp4.shape; obtain ⟨ao4, cp4, hv4⟩ := hs4; subst hv4; have hc4 := hp4.cells; obtain ⟨f0, f1, f2, f3⟩ := hc4; have HP4 : Hid _ := ⟨hp4⟩; clear hp4 ho4 hg4))
            
            go_roundw
            case rel => exact ⟨k + 1, true, D4, hlt, by go_num, by first | rfl | simp [q6], by omega, ⟨HP4.out.own, HP4.out.bel, HE4.out⟩⟩
            case measure => simp [intOf]; omega
          · have hgi : (65536 : Int) < (D4.length : Int) := by omega
            have HBd : Hid (65536 < G.length) := ⟨by rw [← HE4.out, List.length_append]; omega⟩
            clear hbig
            go_wp2_with (first
              | (at_builtin; refine append_byteQ _ rfl _ _ rfl w.heap.size _ _ rfl (by exact HP0.out.own) 32 _ rfl (by simp) (by rw [hDl]; omega) HP0.out.bel.size ?_; intro v2 w2 ho2 hg2; have hp2 := HP0.out.byte (c := 32) rfl ho2 hg2; have hc2 := hp2.cells; obtain ⟨d0, d1, d2, d3⟩ := hc2; have HP2 : Hid _ := ⟨hp2⟩; clear hp2 ho2 hg2)
              | (go_at_call 25; (with_reducible refine (HS.out _ HP2.out.bel).mono ?_); rintro e x3 ⟨rfl, hb3⟩; have hp3 := HP2.out.onto hb3; have HP3 : Hid _ := ⟨hp3⟩; clear hp3 hb3)
              | (at_builtin; refine append_str _ rfl _ _ rfl w.heap.size _ _ rfl (by exact HP3.out.own) _ rfl (by rw [hDl1, St_size]; omega) HP3.out.bel.size ?_; intro v4 w4 ho4 hg4; have hp4 := HP3.out.str HD4.out ho4 hg4; have hs4 := hp4.shape; obtain ⟨ao4, cp4, hv4⟩ := hs4; subst hv4; have hc4 := hp4.cells; obtain ⟨f0, f1, f2, f3⟩ := hc4; have HP4 : Hid _ := ⟨hp4⟩; clear hp4 ho4 hg4))
            
            go_ret2
            exact ⟨HBad.out HBd.out, HP4.out.bel⟩
    · obtain rfl : k = l.length := by omega
      have hrem := HW.out.2.2
      rw [List.drop_length, List.map_nil] at hrem
      clear HR HT HEr
      cases b
      · have e : D = G := by
          have h2 : remM [] false = [] := rfl
          rw [h2, List.append_nil] at hrem; exact hrem
        subst e
        have hgi : ¬ (65536 : Int) < (D.length : Int) := by omega
        have k1 := own_conv HW.out.1
        rw [str_St] at k1
        rw [hv] at k1 ⊢
        have HF : Hid _ := ⟨HOk.out (St D) hD rfl⟩
        clear hrem HW HOk HBad HO1
        go_wp2
        go_ret2
        exact ⟨HF.out, HB1.out⟩
      · have e : D ++ [10] = G := hrem
        have HO2 : Hid (∀ v2 w2, Own w2 w.heap.size v2 (D.map zOf ++ [10]) → (∃ ao cap, v2 = .slice ao G.length cap) ∧ Sem.run Tryd.prog (convert 59 9 v2) w2 = .ok (.string (St G)) w2) := ⟨fun v2 w2 h => by
          have h2 : Own w2 w.heap.size v2 (G.map zOf) := by rw [← e, List.map_append]; exact h
          refine ⟨?_, ?_⟩
          · obtain ⟨ao, cap, e2⟩ := h2.any
            rw [List.length_map] at e2
            exact ⟨ao, cap, e2⟩
          · have := own_conv h2
            rw [str_St] at this
            exact this⟩
        clear hrem HW e hv
        by_cases hbig : 65536 < G.length
        · have hgi : (65536 : Int) < (G.length : Int) := by omega
          have HF : Hid _ := ⟨HBad.out hbig⟩
          clear hbig HOk HBad
          go_wp2_with (at_builtin; refine append_lit _ rfl _ _ rfl w.heap.size _ _ rfl (by exact HO1.out) [10] _ rfl _ _ rfl rfl rfl (by rw [hDl]; simp only [List.length_cons, List.length_nil]; omega) hbs ?_; intro v2 w2 ho2 hb2; have h2 := HO2.out _ _ ho2; obtain ⟨⟨a2, c2, hv2⟩, k2⟩ := h2; subst hv2; clear ho2)
          go_ret2
          exact ⟨HF.out, HB1.out.trans hb2⟩
        · have hgi : ¬ (65536 : Int) < (G.length : Int) := by omega
          have HF : Hid _ := ⟨HOk.out (St G) (by omega) rfl⟩
          clear hbig HOk HBad
          go_wp2_with (at_builtin; refine append_lit _ rfl _ _ rfl w.heap.size _ _ rfl (by exact HO1.out) [10] _ rfl _ _ rfl rfl rfl (by rw [hDl]; simp only [List.length_cons, List.length_nil]; omega) hbs ?_; intro v2 w2 ho2 hb2; have h2 := HO2.out _ _ ho2; obtain ⟨⟨a2, c2, hv2⟩, k2⟩ := h2; subst hv2; clear ho2)
          go_ret2
          exact ⟨HF.out, HB1.out.trans hb2⟩

theorem pprint : PPrint := fun ao c l w hE hm ht => by
  by_cases h : ∀ p ∈ l, Come p.1
  · exact print_good ao c l w hE hm ht h
  · exact print_bad ao c l w hE hm ht h
end Go.Proofs.YthdkbjifjmhgoaaDoor

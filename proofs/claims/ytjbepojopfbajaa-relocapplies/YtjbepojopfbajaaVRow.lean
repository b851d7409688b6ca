/- Apply, whatever comes in; what was put is read again; append within a region that draws. -/
import Derived.Test.YtjbepojopfbajaaVGet
import Derived.Deep.Upon
import Derived.Maps.AppendAt
import Derived.Deep.RegionHeld3
import Derived.Deep.CutRange
namespace Go.Proofs.Ytjbepojopfbajaa
open Go.ChangeShapes Go.WideShapes Go.ChangeAt Go.RowKit
set_option linter.unusedVariables false
set_option linter.unusedSimpArgs false

theorem bacc_mod {f : Nat → Int} {a : Nat} {n : Int} : ∀ k, (∀ i, i < k → f (a + i) = n / 2 ^ (8 * i) % 256) → bacc f a k = n % 2 ^ (8 * k)
  | 0, _ => by simp [bacc, Int.emod_one]
  | k + 1, h => by
    have ih := bacc_mod k fun i hi => h i (by omega)
    have hk := h k (by omega)
    show bacc f a k + f (a + k) * 2 ^ (8 * k) = _
    rw [ih, hk]
    have e : (2 : Int) ^ (8 * (k + 1)) = 2 ^ (8 * k) * 256 := by
      rw [show 8 * (k + 1) = 8 * k + 8 from by omega, Int.pow_add]; rfl
    have hp := pow_pos_i (8 * k)
    rw [e]
    generalize (2 : Int) ^ (8 * k) = P at *
    have h1 := Int.emod_add_mul_ediv n P
    have h2 := Int.emod_add_mul_ediv (n / P) 256
    have h3 : n = P * 256 * (n / P / 256) + (n % P + n / P % 256 * P) := by
      have : P * (n / P) = P * (n / P % 256 + 256 * (n / P / 256)) := by rw [h2]
      rw [Int.mul_add, ← Int.mul_assoc, Int.mul_comm P (n / P % 256)] at this
      omega
    have h4 : 0 ≤ n % P := Int.emod_nonneg _ (by omega)
    have h5 : n % P < P := Int.emod_lt_of_pos _ hp
    have h6 : 0 ≤ n / P % 256 := Int.emod_nonneg _ (by omega)
    have h7 : n / P % 256 ≤ 255 := by have := Int.emod_lt_of_pos (n / P) (show (0 : Int) < 256 by omega); omega
    have h8 : n / P % 256 * P ≤ 255 * P := Int.mul_le_mul_of_nonneg_right h7 (by omega)
    have h9 : 0 ≤ n / P % 256 * P := Int.mul_nonneg h6 (by omega)
    have h10 : (n % P + n / P % 256 * P) % (P * 256) = n % P + n / P % 256 * P := Int.emod_eq_of_lt (by omega) (by omega)
    have h11 : n % (P * 256) = (n % P + n / P % 256 * P) % (P * 256) := by
      conv => lhs; rw [h3]
      rw [Int.mul_add_emod_self_left]
    rw [h11, h10]

theorem lst_congr {f g : Nat → Int} {n : Nat} (h : ∀ i, i < n → f i = g i) : lst f n = lst g n := by
  unfold lst
  exact List.map_congr_left fun i hi => h i (List.mem_range.1 hi)
theorem putB_byte {bs : Nat → Int} (h : ∀ i, 0 ≤ bs i ∧ bs i < 256) (v : Int) (a s : Nat) : ∀ i, 0 ≤ putB bs v a s i ∧ putB bs v a s i < 256 := fun i => by
  unfold putB
  split
  · exact ⟨Int.emod_nonneg _ (by omega), Int.emod_lt_of_pos _ (by omega)⟩
  · exact h i
/-- What was put is read again. -/
theorem get_put (bs : Nat → Int) (v : Int) (a s : Nat) (sg : Bool) (h : (s = 8 ∧ sg = true ∧ -3458764513820540928 ≤ v ∧ v ≤ 3458764513820540928) ∨ (s = 4 ∧ sg = true ∧ fitsB v 32 true = true) ∨ (s = 4 ∧ sg = false ∧ fitsB v 32 false = true)) : gval (putB bs v a s) a s sg = v := by
  have e : bacc (putB bs v a s) a s = v % 2 ^ (8 * s) := bacc_mod s fun i hi => by
    unfold putB
    rw [if_pos ⟨by omega, by omega⟩, show a + i - a = i by omega]
  unfold gval
  rw [e]
  rcases h with ⟨rfl, rfl, h1, h2⟩ | ⟨rfl, rfl, h⟩ | ⟨rfl, rfl, h⟩
  · show sx 64 (v % 18446744073709551616) = v
    unfold sx
    rw [show (2 : Int) ^ (64 - 1) = 9223372036854775808 from rfl, show (2 : Int) ^ 64 = 18446744073709551616 from rfl]
    omega
  · rw [fits_s32] at h
    simp at h
    show sx 32 (v % 4294967296) = v
    unfold sx
    rw [show (2 : Int) ^ (32 - 1) = 2147483648 from rfl, show (2 : Int) ^ 32 = 4294967296 from rfl]
    omega
  · rw [fits_u32] at h
    simp at h
    show wrap64 (v % 4294967296) = v
    unfold wrap64
    omega
theorem own_isRow {w : World} {base n c : Nat} {va : Option Addr} {f : Nat → Int} (h : Own w base (.slice va n c) (lst f n)) (hf : ∀ i, 0 ≤ f i ∧ f i < 256) : IsRow w va n c f := by
  rcases h.2 with ⟨hv, hn⟩ | ⟨g, cap, cur, hv, hb, hg, h1, h2, h3, h4⟩
  · injection hv with e1 e2 e3
    subst e1 e2 e3
    exact ⟨.inl rfl, hf, Nat.le_refl _, by omega, fun _ => ⟨rfl, rfl⟩⟩
  · injection hv with e1 e2 e3
    subst e1 e3
    rw [lst_len] at h1
    refine ⟨?_, hf, h1, by unfold maxLen at h2; omega, fun e => by cases e⟩
    by_cases h0 : n = 0
    · exact .inl h0
    · refine .inr ⟨g, 0, rfl, fun i hi => ?_⟩
      rw [Nat.zero_add]
      obtain ⟨g2, c2, e, _, _, hc⟩ := h.lies (by rw [lst_len]; omega)
      injection e with e1 e2 e3
      injection e1 with e1
      injection e1 with e1
      subst e1
      rw [hc i (by rw [lst_len]; exact hi), lst_at f n i hi]
theorem own_sl5 {w : World} {base : Nat} {v : Value} {xs : List Int} (h : Own w base v xs) : ∃ va vc, v = .slice va xs.length vc := by
  rcases h.2 with ⟨hv, hn⟩ | ⟨g, cap, cur, hv, _⟩
  · exact ⟨none, 0, by rw [hv, hn]⟩
  · exact ⟨_, _, hv⟩
theorem run_append_row (w : World) (t ty : TypeId) (ht : Try.prog.underlying t = some (.slice 5)) (base : Nat) (v : Value) (xs : List Int) (hown : Own w base v xs) (ao : Option Addr) (m c : Nat) (bs : Nat → Int) (hr : Row w ao m bs) (hz : ao = none → m = 0) (hn : xs.length + m ≤ 140737488355328) (hbase : base ≤ w.heap.size) :
    ∃ va vc w', (Builtin.append_ #[t, t] ty #[v, .slice ao m c]).run Try.prog w = .ok (.slice va (xs.length + m) vc) w' ∧ Own w' base (.slice va (xs.length + m) vc) (xs ++ lst bs m) ∧ Below base w w' := by
  obtain ⟨i0, hi, hz0, hz1, hz2⟩ := info_parts info5
  by_cases h0 : m = 0
  · subst h0
    have hle : ∃ va cap, v = .slice va xs.length cap ∧ xs.length ≤ cap := by
      rcases hown.2 with ⟨hv, hn⟩ | ⟨g, cap, cur, hv, _, _, h1, _⟩
      · exact ⟨none, 0, by rw [hv, hn], by omega⟩
      · exact ⟨_, _, hv, h1⟩
    obtain ⟨va, cap, rfl, hle⟩ := hle
    refine ⟨va, cap, w, ?_, ?_, Below.refl _ _⟩
    · refine run_append_nothing w t t ty 5 i0 ht hi va xs.length cap hle _ ?_
      cases ao with
      | none => exact Src.ofNil w ht c
      | some a => exact Src.ofSlice w ht a 0 c [] (by simp) (fun j u h => by simp at h) (fun u h => by cases h)
    · simpa [lst] using hown
  · rcases hr with h | ⟨b, off, rfl, hc⟩
    · exact absurd h h0
    · obtain ⟨v', w', hr, h2, h3, _, h5⟩ := run_append_own_at (P := Try.prog) w base t ty 5 i0 (.int .u8 0) 1 1 ht hi hz0 hz1 hz2 rfl (by decide) v xs.length (xs.map (Value.int .u8)) hown ⟨b, off, none⟩ m c ((lst bs m).map (Value.int .u8)) (by simp [lst]) (fun j u hj => by
        have hjm : j < m := by have := (List.getElem?_eq_some_iff.1 hj).1; simpa [lst] using this
        rw [addr_add, hc j hjm]
        rw [List.getElem?_map, lst_at? bs m j hjm] at hj
        exact hj) (fun u hu => by simp at hu; obtain ⟨z, _, rfl⟩ := hu; rfl) (by unfold maxLen; omega) (by omega) hbase
      have ho : Own w' base v' (xs ++ lst bs m) := by
        unfold Own
        simpa [lst_len] using h2
      obtain ⟨va, vc, rfl⟩ := own_sl5 ho
      rw [List.length_append, lst_len] at hr ho
      exact ⟨va, vc, w', hr, ho, (Below.refl _ _).grown h3 hbase hown.block⟩
theorem step_append_row {w : World} {ops : Array Oper} {o : Oper} {a : Act} {K : Act → World → Prop} {Q : Exit → Act → World → Prop} {E : Prop} (hgd : o.guard = none) (s x : Operand) (t : TypeId)
    (ho : o.op = .call { callee := .builtin .append, args := #[s, x], argTypes := #[t, t] }) (ht : Try.prog.underlying t = some (.slice 5)) (base : Nat) (v : Value) (xs : List Int) (hs : a.eval s = v) (hown : Own w base v xs)
    (ao : Option Addr) (m c : Nat) (bs : Nat → Int) (hx : a.eval x = .slice ao m c) (hr : Row w ao m bs) (hz : ao = none → m = 0) (hn : xs.length + m ≤ 140737488355328) (hbase : base ≤ w.heap.size)
    (h : ∀ va vc w', Own w' base (.slice va (xs.length + m) vc) (xs ++ lst bs m) → Below base w w' → K (a.put o.dst (.slice va (xs.length + m) vc)) w') :
    if Region.wanted o (yielded ops a.tmps) = true then Oper.wp Try.prog o a w K Q else E := by
  have hw : Region.wanted o (yielded ops a.tmps) = true := by simp [Region.wanted, hgd]
  rw [if_pos hw]
  obtain ⟨va, vc, w', hr', h2, h3⟩ := run_append_row w t o.type ht base v xs hown ao m c bs hr hz hn hbase
  unfold Oper.wp execOp
  simp only [ho, resolve, invoke, builtin, Sem.run_bind, Sem.run_pure, Result.andThen_ok, List.map_toArray, List.map_cons, List.map_nil, hs, hx, hr']
  exact h va vc w' h2 h3
theorem kd_s : ∀ t, ((kdOf t).f = 58 → (kdOf t).sz = 8) ∧ ((kdOf t).f = 60 → (kdOf t).sz = 4) ∧ ((kdOf t).f = 62 → (kdOf t).sz = 4) ∧ ((kdOf t).f = 62 ↔ t = 10) := by
  apply kd_cases (fun t k => (k.f = 58 → k.sz = 8) ∧ (k.f = 60 → k.sz = 4) ∧ (k.f = 62 → k.sz = 4) ∧ (k.f = 62 ↔ t = 10))
  · intro t ht
    refine ⟨by decide, by decide, by decide, ⟨fun h => (by cases h), fun h => ?_⟩⟩
    subst h
    have h9 : (kdOf 10).sz ≠ Kd.zero.sz := by decide +kernel
    exact absurd (congrArg Kd.sz ht) h9
  · intro t ht
    have : ∀ k, k < 38 → ((kdsL.getD k Kd.zero).f = 58 → (kdsL.getD k Kd.zero).sz = 8) ∧ ((kdsL.getD k Kd.zero).f = 60 → (kdsL.getD k Kd.zero).sz = 4) ∧ ((kdsL.getD k Kd.zero).f = 62 → (kdsL.getD k Kd.zero).sz = 4) ∧ ((kdsL.getD k Kd.zero).f = 62 ↔ k = 10) := by decide +kernel
    obtain ⟨a, b, c, d⟩ := this t ht
    exact ⟨a, b, c, ⟨fun h => by rw [d.1 h]; rfl, fun h => d.2 (by omega)⟩⟩
/-- What Apply answers. -/
def ApU (bs : Nat → Int) (n : Nat) (at' t : Int) (p : Pl) (w : World) (e : Ending) (w' : World) : Prop :=
  (aplE n at' t p ≠ 0 ∧ e = .returned (.tuple #[.slice none 0 0, .int .i64 (aplE n at' t p)]) ∧ Below w.heap.size w w') ∨
  (aplE n at' t p = 0 ∧ ∃ a s : Nat, at' = a ∧ (wkM t).sz = s ∧ wkE t = 0 ∧ valE t p = 0 ∧ a + s ≤ n ∧ n ≤ 1048576 ∧ (s = 8 ∨ s = 4) ∧ gval (putB bs (valM t p) a s) a s (t != 10) = valM t p ∧ AplEnd bs n (valM t p) a s w e w')
theorem apply_any (ao : Option Addr) (n cap : Nat) (bs : Nat → Int) (at' t : Int) (p : Pl) (w : World) (hrow : IsRow w ao n cap bs) (hn : n ≤ 140737488355328) (ht : -9223372036854775808 ≤ at' ∧ at' ≤ 9223372036854775807) :
    Calls Try.prog 23 #[.slice ao n cap, .int .i64 at', .int .i64 t, p.val] w fun e w' => ApU bs n at' t p w e w' := by
  by_cases h1 : 1048576 < n ∨ valE t p ≠ 0
  · have e1 : aplE n at' t p = if 1048576 < n then 6 else valE t p := by
      unfold aplE
      by_cases h2 : 1048576 < n
      · rw [if_pos h2, if_pos h2]
      · rw [if_neg h2, if_neg h2, if_pos (h1.resolve_left h2)]
    refine (apply_1 ao n cap at' t p w hn h1).mono ?_
    rintro e w' ⟨rfl, hb⟩
    refine .inl ⟨?_, by rw [e1], hb⟩
    rw [e1]
    by_cases h2 : 1048576 < n
    · rw [if_pos h2]; decide
    · rw [if_neg h2]; exact h1.resolve_left h2
  · have hn2 : ¬ 1048576 < n := fun e => h1 (.inl e)
    have h0 : valE t p = 0 := Classical.byContradiction fun e => h1 (.inr e)
    by_cases h3 : at' < 0 ∨ (n : Int) - (kdOf t).sz < at'
    · have e1 : aplE n at' t p = 200 := by
        unfold aplE
        rw [if_neg hn2, if_neg (by rw [h0]; simp), if_pos h3]
      refine (apply_2 ao n cap at' t p w (by omega) h0 ht h3).mono ?_
      rintro e w' ⟨rfl, hb⟩
      exact .inl ⟨by rw [e1]; decide, by rw [e1], hb⟩
    · obtain ⟨hv, _, _⟩ := val_ok h0
      have hk := (kd_f t).resolve_left hv
      have hks := kd_s t
      have e1 : aplE n at' t p = if fOf (kdOf t).f (valM t p) = false then 201 else 0 := by
        unfold aplE
        rw [if_neg hn2, if_neg (by rw [h0]; simp), if_neg h3]
      have hwm : (wkM t).sz = (kdOf t).sz := by unfold wkM; rw [if_neg hv]
      have hwe : wkE t = 0 := by unfold wkE; rw [if_neg hv]
      obtain ⟨a, rfl⟩ : ∃ a : Nat, at' = a := ⟨at'.toNat, by omega⟩
      have hvi := val_in h0
      rcases hk with hf | hf | hf
      · have hs := hks.1 hf
        have ht10 : (t != 10) = true := by
          have : t ≠ 10 := fun e => by have := hks.2.2.2.2 e; rw [hf] at this; cases this
          simpa using this
        refine (apply_ok_always ao n cap bs a t p w hrow (by omega) h0 hv hf hs (by omega) rfl).mono ?_
        rintro e w' h
        exact .inr ⟨by rw [e1, hf]; rfl, a, 8, rfl, by rw [hwm, hs]; rfl, hwe, h0, by omega, by omega, .inl rfl, get_put bs _ a 8 _ (.inl ⟨rfl, ht10, hvi⟩), h⟩
      · have hs := hks.2.1 hf
        have ht10 : (t != 10) = true := by
          have : t ≠ 10 := fun e => by have := hks.2.2.2.2 e; rw [hf] at this; cases this
          simpa using this
        have hff : fOf (kdOf t).f (valM t p) = fitsB (valM t p) 32 true := by rw [hf]; rfl
        by_cases hfit : fitsB (valM t p) 32 true = true
        · refine (apply_ok_signed ao n cap bs a t p w hrow (by omega) h0 hv hf hs (by omega) hfit).mono ?_
          rintro e w' h
          exact .inr ⟨by rw [e1, hff, hfit]; rfl, a, 4, rfl, by rw [hwm, hs]; rfl, hwe, h0, by omega, by omega, .inr rfl, get_put bs _ a 4 _ (.inr (.inl ⟨rfl, ht10, hfit⟩)), h⟩
        · have hfit : fitsB (valM t p) 32 true = false := by simpa using hfit
          refine (apply_3signed ao n cap a t p w (by omega) h0 ht hv hf h3 hfit).mono ?_
          rintro e w' ⟨rfl, hb⟩
          have e2 : aplE n a t p = 201 := by rw [e1, hff, hfit]; rfl
          exact .inl ⟨by rw [e2]; decide, by rw [e2], hb⟩
      · have hs := hks.2.2.1 hf
        have ht10 : (t != 10) = false := by
          have := hks.2.2.2.1 hf
          simp [this]
        have hff : fOf (kdOf t).f (valM t p) = fitsB (valM t p) 32 false := by rw [hf]; rfl
        by_cases hfit : fitsB (valM t p) 32 false = true
        · refine (apply_ok_unsigned ao n cap bs a t p w hrow (by omega) h0 hv hf hs (by omega) hfit).mono ?_
          rintro e w' h
          exact .inr ⟨by rw [e1, hff, hfit]; rfl, a, 4, rfl, by rw [hwm, hs]; rfl, hwe, h0, by omega, by omega, .inr rfl, get_put bs _ a 4 _ (.inr (.inr ⟨rfl, ht10, hfit⟩)), h⟩
        · have hfit : fitsB (valM t p) 32 false = false := by simpa using hfit
          refine (apply_3unsigned ao n cap a t p w (by omega) h0 ht hv hf h3 hfit).mono ?_
          rintro e w' ⟨rfl, hb⟩
          have e2 : aplE n a t p = 201 := by rw [e1, hff, hfit]; rfl
          exact .inl ⟨by rw [e2]; decide, by rw [e2], hb⟩
end Go.Proofs.Ytjbepojopfbajaa

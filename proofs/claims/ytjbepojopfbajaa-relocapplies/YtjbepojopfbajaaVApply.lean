/- Apply. -/
import Derived.Test.YtjbepojopfbajaaVFits
import Derived.Test.YtjbepojopfbajaaVRelax
import Derived.Laws.CopyOwn
namespace Go.Proofs.Ytjbepojopfbajaa
open Go.ChangeShapes Go.WideShapes Go.ChangeAt Go.RowKit
set_option linter.unusedVariables false
set_option linter.unusedSimpArgs false

/-- What Apply answers, if it is an error. -/
def aplE (n : Nat) (at' t : Int) (p : Pl) : Int :=
  if 1048576 < n then 6 else if valE t p ≠ 0 then valE t p else if at' < 0 ∨ (n : Int) - (kdOf t).sz < at' then 200 else if fOf (kdOf t).f (valM t p) = false then 201 else 0
/-- The bytes behind it. -/
def putB (bs : Nat → Int) (v : Int) (a s : Nat) (i : Nat) : Int := if a ≤ i ∧ i < a + s then v / 2 ^ (8 * (i - a)) % 256 else bs i
theorem splice_at {L cs : List Value} {off : Nat} (h : off + cs.length ≤ L.length) (i : Nat) : (splice L off cs)[i]? = if off ≤ i ∧ i < off + cs.length then cs[i - off]? else L[i]? := by
  unfold splice
  have hl : (L.take off).length = off := by simp; omega
  by_cases h1 : i < off
  · rw [if_neg (by omega), List.getElem?_append_left (by omega), List.getElem?_take_of_lt h1]
  · rw [List.getElem?_append_right (by omega), hl]
    by_cases h2 : i < off + cs.length
    · rw [if_pos ⟨by omega, h2⟩, List.getElem?_append_left (by omega)]
    · rw [if_neg (by omega), List.getElem?_append_right (by omega), List.getElem?_drop]
      congr 1
      omega
theorem own_put {w w' : World} {base g n c a s : Nat} {bs : Nat → Int} {v : Int} {cur : Array Value} (hb : base ≤ g) (h1 : n ≤ c) (h2 : c ≤ maxLen) (hs : cur.size = c) (ht : cur.toList.take n = (lst bs n).map (Value.int .u8)) (ha : a + s ≤ n)
    (hg : w'.heap[g]? = some (.cells (splice cur.toList a (part v s s)).toArray 5 (0, 0))) : Own w' base (.slice (some ⟨g, 0, none⟩) n c) (lst (putB bs v a s) n) := by
  have hpl := part_len v s s
  have hl : (splice cur.toList a (part v s s)).length = c := by rw [length_splice _ _ _ (by rw [hpl]; simp; omega)]; simpa using hs
  refine ⟨by simp [lst_len], .inr ⟨g, c, _, by rw [lst_len], hb, hg, by rw [lst_len]; exact h1, h2, by simpa using hl, ?_⟩⟩
  simp only [lst_len, Nat.mul_one]
  apply List.ext_getElem?
  intro i
  by_cases hi : i < n
  · rw [List.getElem?_take_of_lt hi, splice_at (by rw [hpl]; simp; omega), hpl, List.getElem?_map, lst_at? _ n i hi]
    unfold putB
    by_cases hin : a ≤ i ∧ i < a + s
    · rw [if_pos hin, if_pos hin]
      unfold part
      have : i - a < s := by omega
      simp [this]
    · rw [if_neg hin, if_neg hin]
      have h3 : (cur.toList.take n)[i]? = ((lst bs n).map (Value.int .u8))[i]? := by rw [ht]
      rw [List.getElem?_take_of_lt hi, List.getElem?_map, lst_at? _ n i hi] at h3
      exact h3
  · rw [List.getElem?_eq_none (by simp; omega), List.getElem?_eq_none (by simp [lst_len]; omega)]
set_option maxHeartbeats 400000 in
set_option maxRecDepth 20000 in
theorem apply_1 (ao : Option Addr) (n cap : Nat) (at' t : Int) (p : Pl) (w : World) (hn2 : n ≤ 140737488355328) (h : 1048576 < n ∨ valE t p ≠ 0) :
    Calls Try.prog 23 #[.slice ao n cap, .int .i64 at', .int .i64 t, p.val] w fun e w' => e = .returned (.tuple #[.slice none 0 0, .int .i64 (if 1048576 < n then 6 else valE t p)]) ∧ Below w.heap.size w w' := by
  have HV : Hid (∀ W, _) := ⟨fun W => value_any t p W⟩
  generalize valE t p = ve at *
  generalize valM t p = v at *
  obtain ⟨s, a, pp, g, tt⟩ := p
  have HB : Hid (Below w.heap.size w (w.alloc (.cells #[.int .i64 s, .int .i64 a, .int .i64 pp, .int .i64 g, .int .i64 tt] 23))) := ⟨vb_alloc (Below.refl _ _) _⟩
  dsimp only [Pl.val] at *
  by_cases hn : 1048576 < n
  · rw [if_pos hn]
    clear h
    go_enter Try.func23, Try.ntmps23
    go_wp2
    go_ret2
    exact ⟨rfl, HB.out⟩
  · rw [if_neg hn]
    have h0 : ve ≠ 0 := h.resolve_left hn
    have d1 : (ve != 0) = true := by simpa using h0
    clear h h0
    go_enter Try.func23, Try.ntmps23
    go_wp2_with (go_at_call 10; refine (HV.out _).mono ?_; rintro e w1 ⟨rfl, hb1⟩; have HB1 : Hid _ := ⟨hb1⟩; clear hb1)
    go_ret2
    exact ⟨rfl, HB.out.trans (HB1.out.mono HB.out.size)⟩

/-- Apply, as far as the kind's number. -/
theorem sz_in : ∀ t, 0 ≤ (kdOf t).sz ∧ (kdOf t).sz ≤ 8 := by
  apply kd_cases (fun _ k => 0 ≤ k.sz ∧ k.sz ≤ 8)
  · intro t _; decide
  · intro t ht
    have : ∀ k, k < 38 → (0 ≤ (kdsL.getD k Kd.zero).sz ∧ (kdsL.getD k Kd.zero).sz ≤ 8) := by decide +kernel
    exact this t ht
set_option maxHeartbeats 400000 in
set_option maxRecDepth 20000 in
theorem apply_2 (ao : Option Addr) (n cap : Nat) (at' t : Int) (p : Pl) (w : World) (hn : n ≤ 1048576) (h0 : valE t p = 0) (ht : -9223372036854775808 ≤ at' ∧ at' ≤ 9223372036854775807) (h : at' < 0 ∨ (n : Int) - (kdOf t).sz < at') :
    Calls Try.prog 23 #[.slice ao n cap, .int .i64 at', .int .i64 t, p.val] w fun e w' => e = .returned (.tuple #[.slice none 0 0, .int .i64 200]) ∧ Below w.heap.size w w' := by
  have HV : Hid (∀ W, _) := ⟨fun W => value_any t p W⟩
  rw [h0] at HV
  have HK : Hid (∀ W, _) := ⟨fun W => kindOf_any t W⟩
  have hsz := sz_in t
  generalize valM t p = v at *
  generalize kdOf t = x at *
  obtain ⟨s, a, pp, g, tt⟩ := p
  have HB0 : Hid (Below w.heap.size w (w.alloc (.cells #[.int .i64 s, .int .i64 a, .int .i64 pp, .int .i64 g, .int .i64 tt] 23))) := ⟨vb_alloc (Below.refl _ _) _⟩
  dsimp only [Pl.val] at *
  clear h0
  go_enter Try.func23, Try.ntmps23
  go_upto_region 7 with (first
    | (go_at_call 10; refine (HV.out _).mono ?_; rintro e w1 ⟨rfl, hb1⟩; have HB1 : Hid _ := ⟨hb1⟩; clear hb1)
    | (go_at_call 32; refine (HK.out _).mono ?_; rintro e w2 ⟨rfl, hb2⟩; have HB2 : Hid _ := ⟨hb2⟩; clear hb2)
    | ((with_reducible refine wpList_store_row rfl 62 (.tmp 12) (.tmp 29) rfl w2.heap.size x.cells.toArray ?_ ?_ 62 _ (heap_alloc_last _ _) ?_ ?_ ?_ ?_); rfl; rfl; kernel_rfl; kernel_rfl; exact kd_one x))
  have hk := kd_new w2 x.cells.toArray
  have HB : Hid (Below w.heap.size w ((w2.alloc (.cells #[.string ⟨#[]⟩, .int .i64 0, .nilFunc, .nilFunc] 62)).setRow w2.heap.size x.cells.toArray)) := ⟨by
    have h1 := HB0.out.trans (HB1.out.mono HB0.out.size)
    have h2 := h1.trans (HB2.out.mono h1.size)
    exact vb_setRow (h2.alloc h2.size _) h2.size _⟩
  obtain ⟨G, hG⟩ : ∃ g, w2.heap.size = g := ⟨_, rfl⟩
  rw [hG] at hk HB ⊢
  generalize (w2.alloc (.cells #[.string ⟨#[]⟩, .int .i64 0, .nilFunc, .nilFunc] 62)).setRow G x.cells.toArray = W at *
  clear HB0 HB1 HB2 hG HK HV
  have k1 : W.cell? ⟨G, 1, none⟩ = some (.int .i64 x.sz) := hk.cell 1 rfl
  clear hk
  obtain ⟨nm, sz, v', f⟩ := x
  dsimp only at *
  by_cases h1 : at' < 0
  · have d1 : decide (at' < 0) = true := decide_eq_true h1
    clear h
    go_wp2
    go_ret2
    exact ⟨rfl, HB.out⟩
  · have h2 := h.resolve_left h1
    have d1 : decide (at' < 0) = false := decide_eq_false h1
    have d2 : decide ((n : Int) - sz < at') = true := decide_eq_true h2
    clear h
    go_wp2
    go_ret2
    exact ⟨rfl, HB.out⟩
set_option maxHeartbeats 400000 in
set_option maxRecDepth 20000 in
theorem apply_3signed (ao : Option Addr) (n cap : Nat) (at' t : Int) (p : Pl) (w : World) (hn : n ≤ 1048576) (h0 : valE t p = 0) (ht : -9223372036854775808 ≤ at' ∧ at' ≤ 9223372036854775807) (hv : (kdOf t).v ≠ 0) (hf : (kdOf t).f = 60) (h : ¬ (at' < 0 ∨ (n : Int) - (kdOf t).sz < at')) (hfit : fitsB (valM t p) 32 true = false) :
    Calls Try.prog 23 #[.slice ao n cap, .int .i64 at', .int .i64 t, p.val] w fun e w' => e = .returned (.tuple #[.slice none 0 0, .int .i64 201]) ∧ Below w.heap.size w w' := by
  have HV : Hid (∀ W, _) := ⟨fun W => value_any t p W⟩
  rw [h0] at HV
  have HK : Hid (∀ W, _) := ⟨fun W => kindOf_any t W⟩
  have HF : Hid (∀ W, _) := ⟨fun W => signed_any (valM t p) W⟩
  rw [hfit] at HF
  have hsz := sz_in t
  generalize valM t p = v at *
  generalize kdOf t = x at *
  obtain ⟨s, a, pp, g, tt⟩ := p
  have HB0 : Hid (Below w.heap.size w (w.alloc (.cells #[.int .i64 s, .int .i64 a, .int .i64 pp, .int .i64 g, .int .i64 tt] 23))) := ⟨vb_alloc (Below.refl _ _) _⟩
  dsimp only [Pl.val] at *
  obtain ⟨nm, sz, v', f⟩ := x
  dsimp only at hv hf h hsz
  subst hf
  rw [kd_valN nm sz v' _ hv (by decide)] at HK
  clear h0
  go_enter Try.func23, Try.ntmps23
  go_upto_region 7 with (first
    | (go_at_call 10; refine (HV.out _).mono ?_; rintro e w1 ⟨rfl, hb1⟩; have HB1 : Hid _ := ⟨hb1⟩; clear hb1)
    | (go_at_call 32; refine (HK.out _).mono ?_; rintro e w2 ⟨rfl, hb2⟩; have HB2 : Hid _ := ⟨hb2⟩; clear hb2)
    | ((with_reducible refine wpList_store_row rfl 62 (.tmp 12) (.tmp 29) rfl w2.heap.size #[.string nm, .int .i64 sz, .func (.func v') #[] #[], .func (.func 60) #[] #[]] ?_ ?_ 62 _ (heap_alloc_last _ _) ?_ ?_ ?_ ?_); rfl; rfl; kernel_rfl; kernel_rfl; kernel_rfl))
  have hk := kd_new w2 #[.string nm, .int .i64 sz, .func (.func v') #[] #[], .func (.func 60) #[] #[]]
  have HB : Hid (Below w.heap.size w ((w2.alloc (.cells #[.string ⟨#[]⟩, .int .i64 0, .nilFunc, .nilFunc] 62)).setRow w2.heap.size #[.string nm, .int .i64 sz, .func (.func v') #[] #[], .func (.func 60) #[] #[]])) := ⟨by
    have h1 := HB0.out.trans (HB1.out.mono HB0.out.size)
    have h2 := h1.trans (HB2.out.mono h1.size)
    exact vb_setRow (h2.alloc h2.size _) h2.size _⟩
  obtain ⟨G, hG⟩ : ∃ g, w2.heap.size = g := ⟨_, rfl⟩
  rw [hG] at hk HB ⊢
  generalize (w2.alloc (.cells #[.string ⟨#[]⟩, .int .i64 0, .nilFunc, .nilFunc] 62)).setRow G #[.string nm, .int .i64 sz, .func (.func v') #[] #[], .func (.func 60) #[] #[]] = W at *
  clear HB0 HB1 HB2 hG HK HV
  have k1 : W.cell? ⟨G, 1, none⟩ = some (.int .i64 sz) := hk.cell 1 rfl
  have k3 : W.cell? ⟨G, 3, none⟩ = some (.func (.func 60) #[] #[]) := hk.cell 3 rfl
  clear hk
  have d1 : decide (at' < 0) = false := decide_eq_false (fun e => h (.inl e))
  have d2 : decide ((n : Int) - sz < at') = false := decide_eq_false (fun e => h (.inr e))
  clear h hfit
  go_wp2_with (go_at_call 60; refine (HF.out _).mono ?_; rintro e wq ⟨rfl, hwq⟩; subst wq)
  go_ret2
  exact ⟨rfl, HB.out⟩
set_option maxHeartbeats 400000 in
set_option maxRecDepth 20000 in
theorem apply_3unsigned (ao : Option Addr) (n cap : Nat) (at' t : Int) (p : Pl) (w : World) (hn : n ≤ 1048576) (h0 : valE t p = 0) (ht : -9223372036854775808 ≤ at' ∧ at' ≤ 9223372036854775807) (hv : (kdOf t).v ≠ 0) (hf : (kdOf t).f = 62) (h : ¬ (at' < 0 ∨ (n : Int) - (kdOf t).sz < at')) (hfit : fitsB (valM t p) 32 false = false) :
    Calls Try.prog 23 #[.slice ao n cap, .int .i64 at', .int .i64 t, p.val] w fun e w' => e = .returned (.tuple #[.slice none 0 0, .int .i64 201]) ∧ Below w.heap.size w w' := by
  have HV : Hid (∀ W, _) := ⟨fun W => value_any t p W⟩
  rw [h0] at HV
  have HK : Hid (∀ W, _) := ⟨fun W => kindOf_any t W⟩
  have HF : Hid (∀ W, _) := ⟨fun W => unsigned_any (valM t p) W⟩
  rw [hfit] at HF
  have hsz := sz_in t
  generalize valM t p = v at *
  generalize kdOf t = x at *
  obtain ⟨s, a, pp, g, tt⟩ := p
  have HB0 : Hid (Below w.heap.size w (w.alloc (.cells #[.int .i64 s, .int .i64 a, .int .i64 pp, .int .i64 g, .int .i64 tt] 23))) := ⟨vb_alloc (Below.refl _ _) _⟩
  dsimp only [Pl.val] at *
  obtain ⟨nm, sz, v', f⟩ := x
  dsimp only at hv hf h hsz
  subst hf
  rw [kd_valN nm sz v' _ hv (by decide)] at HK
  clear h0
  go_enter Try.func23, Try.ntmps23
  go_upto_region 7 with (first
    | (go_at_call 10; refine (HV.out _).mono ?_; rintro e w1 ⟨rfl, hb1⟩; have HB1 : Hid _ := ⟨hb1⟩; clear hb1)
    | (go_at_call 32; refine (HK.out _).mono ?_; rintro e w2 ⟨rfl, hb2⟩; have HB2 : Hid _ := ⟨hb2⟩; clear hb2)
    | ((with_reducible refine wpList_store_row rfl 62 (.tmp 12) (.tmp 29) rfl w2.heap.size #[.string nm, .int .i64 sz, .func (.func v') #[] #[], .func (.func 62) #[] #[]] ?_ ?_ 62 _ (heap_alloc_last _ _) ?_ ?_ ?_ ?_); rfl; rfl; kernel_rfl; kernel_rfl; kernel_rfl))
  have hk := kd_new w2 #[.string nm, .int .i64 sz, .func (.func v') #[] #[], .func (.func 62) #[] #[]]
  have HB : Hid (Below w.heap.size w ((w2.alloc (.cells #[.string ⟨#[]⟩, .int .i64 0, .nilFunc, .nilFunc] 62)).setRow w2.heap.size #[.string nm, .int .i64 sz, .func (.func v') #[] #[], .func (.func 62) #[] #[]])) := ⟨by
    have h1 := HB0.out.trans (HB1.out.mono HB0.out.size)
    have h2 := h1.trans (HB2.out.mono h1.size)
    exact vb_setRow (h2.alloc h2.size _) h2.size _⟩
  obtain ⟨G, hG⟩ : ∃ g, w2.heap.size = g := ⟨_, rfl⟩
  rw [hG] at hk HB ⊢
  generalize (w2.alloc (.cells #[.string ⟨#[]⟩, .int .i64 0, .nilFunc, .nilFunc] 62)).setRow G #[.string nm, .int .i64 sz, .func (.func v') #[] #[], .func (.func 62) #[] #[]] = W at *
  clear HB0 HB1 HB2 hG HK HV
  have k1 : W.cell? ⟨G, 1, none⟩ = some (.int .i64 sz) := hk.cell 1 rfl
  have k3 : W.cell? ⟨G, 3, none⟩ = some (.func (.func 62) #[] #[]) := hk.cell 3 rfl
  clear hk
  have d1 : decide (at' < 0) = false := decide_eq_false (fun e => h (.inl e))
  have d2 : decide ((n : Int) - sz < at') = false := decide_eq_false (fun e => h (.inr e))
  clear h hfit
  go_wp2_with (go_at_call 62; refine (HF.out _).mono ?_; rintro e wq ⟨rfl, hwq⟩; subst wq)
  go_ret2
  exact ⟨rfl, HB.out⟩
theorem fits64 {v : Int} (h : -3458764513820540928 ≤ v ∧ v ≤ 3458764513820540928) : fitsB v 64 true = true := by
  unfold fitsB
  rw [show (64 : Int).toNat - 1 = 63 from rfl]
  simp
  omega
def AplEnd (bs : Nat → Int) (n : Nat) (v : Int) (a s : Nat) (w : World) (e : Ending) (w' : World) : Prop :=
  ∃ g c, e = .returned (.tuple #[.slice (some ⟨g, 0, none⟩) n c, .int .i64 0]) ∧ Own w' w.heap.size (.slice (some ⟨g, 0, none⟩) n c) (lst (putB bs v a s) n) ∧ Below w.heap.size w w'
end Go.Proofs.Ytjbepojopfbajaa

/- The document's Apply. -/
import Derived.Test.YtjbepojopfbajaaVRow
import Derived.Test.YtjbepojopfbajaaVRefF
namespace Go.Proofs.Ytjbepojopfbajaa
open Go.ChangeShapes Go.WideShapes Go.ChangeAt Go.RowKit
set_option linter.unusedVariables false
set_option linter.unusedSimpArgs false

theorem lst_set (f : Nat → Int) (n k : Nat) (x : Int) : (lst f n).set k x = lst (fun i => if i = k then x else f i) n := by
  unfold lst
  apply List.ext_getElem?
  intro i
  by_cases hi : i < n
  · by_cases e : k = i
    · subst e
      rw [List.getElem?_set_self (by simpa using hi)]
      simp [hi]
    · rw [List.getElem?_set_ne e]
      simp [hi, show ¬ i = k from fun h => e h.symm]
  · rw [List.getElem?_eq_none (by simp; omega), List.getElem?_eq_none (by simp; omega)]
theorem Own.setB {w : World} {base g n c : Nat} {f : Nat → Int} (h : Own w base (.slice (some ⟨g, 0, none⟩) n c) (lst f n)) (k : Nat) (x : Int) : Own (w.setCell ⟨g, k, none⟩ (.int .u8 x)) base (.slice (some ⟨g, 0, none⟩) n c) (lst (fun i => if i = k then x else f i) n) ∧ w.grownBy (w.setCell ⟨g, k, none⟩ (.int .u8 x)) (some g) := by
  have hv : (.slice (some ⟨g, 0, none⟩) n c : Value) = .slice (some ⟨g, 0, none⟩) (lst f n).length c := by rw [lst_len]
  have h2 : Own w base (.slice (some ⟨g, 0, none⟩) (lst f n).length c) (lst f n) := by rw [lst_len]; exact h
  have hst := World.ownsRow.stored h2 k (.int .u8 x)
  refine ⟨?_, hst.2⟩
  have h3 := hst.1
  rw [← List.map_set, lst_set, lst_len] at h3
  unfold Own
  rw [lst_len]
  exact h3
theorem own_low5 {w : World} {B B' : Nat} {v : Value} {xs : List Int} (h : Own w B v xs) (hb : B' ≤ B) : Own w B' v xs := by
  refine ⟨h.1, ?_⟩
  rcases h.2 with h | ⟨g, cap, cur, hv, hg, r⟩
  · exact .inl h
  · exact .inr ⟨g, cap, cur, hv, Nat.le_trans hb hg, r⟩
theorem putB_step (bs : Nat → Int) (v : Int) (a k : Nat) : (fun i => if i = a + k then v / 2 ^ (8 * k) % 256 else putB bs v a k i) = putB bs v a (k + 1) := by
  funext i
  unfold putB
  by_cases e : i = a + k
  · subst e
    rw [if_pos rfl, if_pos ⟨by omega, by omega⟩, show a + k - a = k by omega]
  · rw [if_neg e]
    by_cases h : a ≤ i ∧ i < a + k
    · rw [if_pos h, if_pos ⟨h.1, by omega⟩]
    · rw [if_neg h, if_neg (by omega)]
theorem putB_0 (bs : Nat → Int) (v : Int) (a : Nat) : putB bs v a 0 = bs := by
  funext i
  unfold putB
  rw [if_neg (by omega)]
theorem low_byte (v : Int) (k : Nat) (hk : k < 8) : v % 18446744073709551616 / 2 ^ (8 * k) % 256 = v / 2 ^ (8 * k) % 256 := by
  have e : (18446744073709551616 : Int) = 2 ^ (8 * k) * (256 * 2 ^ (8 * (7 - k))) := by
    rw [show (256 : Int) = 2 ^ 8 from rfl, ← Int.pow_add, ← Int.pow_add, show 8 * k + (8 + 8 * (7 - k)) = 64 by omega]; rfl
  rw [e]
  exact mod_div_mod v (2 ^ (8 * k)) (2 ^ (8 * (7 - k))) (Int.ne_of_gt (pow_pos_i _))
theorem shr_byte (v : Int) (k : Nat) : v % 18446744073709551616 / 2 ^ (8 * k) / 256 = v % 18446744073709551616 / 2 ^ (8 * (k + 1)) := by
  rw [show 8 * (k + 1) = 8 * k + 8 by omega, Int.pow_add, ← Int.ediv_ediv_of_nonneg (Int.le_of_lt (pow_pos_i _))]
  rfl
set_option maxHeartbeats 400000 in
set_option maxRecDepth 20000 in
theorem rapply_1 (ao : Option Addr) (n cap : Nat) (at' t : Int) (p : Pl) (w : World) (hn2 : n ≤ 140737488355328) (h : 1048576 < n ∨ valE t p ≠ 0) :
    Calls Try.prog 24 #[.slice ao n cap, .int .i64 at', .int .i64 t, p.val] w fun e w' => e = .returned (.tuple #[.slice none 0 0, .int .i64 (if 1048576 < n then 6 else valE t p)]) ∧ Below w.heap.size w w' := by
  have HV : Hid (∀ W, _) := ⟨fun W => rvalue_any t p W⟩
  generalize valE t p = ve at *
  generalize valM t p = v at *
  obtain ⟨s, a, pp, g, tt⟩ := p
  have HB : Hid (Below w.heap.size w (w.alloc (.cells #[.int .i64 s, .int .i64 a, .int .i64 pp, .int .i64 g, .int .i64 tt] 31))) := ⟨vb_alloc (Below.refl _ _) _⟩
  dsimp only [Pl.val] at *
  by_cases hn : 1048576 < n
  · rw [if_pos hn]
    clear h
    go_enter Try.func24, Try.ntmps24
    go_wp2
    go_ret2
    exact ⟨rfl, HB.out⟩
  · rw [if_neg hn]
    have h0 : ve ≠ 0 := h.resolve_left hn
    have d1 : (ve != 0) = true := by simpa using h0
    clear h h0
    go_enter Try.func24, Try.ntmps24
    go_wp2_with (go_at_call 11; refine (HV.out _).mono ?_; rintro e w1 ⟨rfl, hb1⟩; have HB1 : Hid _ := ⟨hb1⟩; clear hb1)
    go_ret2
    exact ⟨rfl, HB.out.trans (HB1.out.mono HB.out.size)⟩
set_option maxHeartbeats 400000 in
set_option maxRecDepth 20000 in
theorem rapply_2 (ao : Option Addr) (n cap : Nat) (at' t : Int) (p : Pl) (w : World) (hn : n ≤ 1048576) (h0 : valE t p = 0) (ht : -9223372036854775808 ≤ at' ∧ at' ≤ 9223372036854775807) (h : (at' < 0 ∨ (n : Int) - (wkM t).sz < at') ∨ fitM t (valM t p) = false) :
    Calls Try.prog 24 #[.slice ao n cap, .int .i64 at', .int .i64 t, p.val] w fun e w' => e = .returned (.tuple #[.slice none 0 0, .int .i64 (if at' < 0 ∨ (n : Int) - (wkM t).sz < at' then 200 else 201)]) ∧ Below w.heap.size w w' := by
  have HV : Hid (∀ W, _) := ⟨fun W => rvalue_any t p W⟩
  have HS : Hid (∀ W, _) := ⟨fun W => rsize_any t W⟩
  have HF : Hid (∀ W, _) := ⟨fun W => rfits_any t (valM t p) W⟩
  have hv := (val_ok h0).1
  have hwe : wkE t = 0 := if_neg hv
  have hwm : wkM t = kdOf t := if_neg hv
  rw [h0] at HV
  rw [hwe] at HS HF
  have hsz := sz_in t
  rw [← hwm] at hsz
  clear hwe hwm h0 hv
  generalize fitM t (valM t p) = fb at *
  generalize valM t p = v at *
  generalize (wkM t).sz = sz at *
  obtain ⟨s, a, pp, g, tt⟩ := p
  have HB0 : Hid (Below w.heap.size w (w.alloc (.cells #[.int .i64 s, .int .i64 a, .int .i64 pp, .int .i64 g, .int .i64 tt] 31))) := ⟨vb_alloc (Below.refl _ _) _⟩
  dsimp only [Pl.val] at *
  by_cases h1 : at' < 0
  · rw [if_pos (.inl h1)]
    have d1 : decide (at' < 0) = true := decide_eq_true h1
    clear h
    go_enter Try.func24, Try.ntmps24
    go_wp2_with (first
      | (go_at_call 11; refine (HV.out _).mono ?_; rintro e w1 ⟨rfl, hb1⟩; have HB1 : Hid _ := ⟨hb1⟩; clear hb1)
      | (go_at_call 9; refine (HS.out _).mono ?_; rintro e wq ⟨rfl, hwq⟩; subst wq))
    go_ret2
    exact ⟨rfl, HB0.out.trans (HB1.out.mono HB0.out.size)⟩
  · have d1 : decide (at' < 0) = false := decide_eq_false h1
    by_cases h2 : (n : Int) - sz < at'
    · rw [if_pos (.inr h2)]
      have d2 : decide ((n : Int) - sz < at') = true := decide_eq_true h2
      clear h
      go_enter Try.func24, Try.ntmps24
      go_wp2_with (first
        | (go_at_call 11; refine (HV.out _).mono ?_; rintro e w1 ⟨rfl, hb1⟩; have HB1 : Hid _ := ⟨hb1⟩; clear hb1)
        | (go_at_call 9; refine (HS.out _).mono ?_; rintro e wq ⟨rfl, hwq⟩; subst wq))
      go_ret2
      exact ⟨rfl, HB0.out.trans (HB1.out.mono HB0.out.size)⟩
    · rw [if_neg (fun e => e.elim h1 h2)]
      obtain rfl : fb = false := h.resolve_left (fun e => e.elim h1 h2)
      have d2 : decide ((n : Int) - sz < at') = false := decide_eq_false h2
      clear h
      go_enter Try.func24, Try.ntmps24
      go_wp2_with (first
        | (go_at_call 11; refine (HV.out _).mono ?_; rintro e w1 ⟨rfl, hb1⟩; have HB1 : Hid _ := ⟨hb1⟩; clear hb1)
        | (go_at_call 9; refine (HS.out _).mono ?_; rintro e wq ⟨rfl, hwq⟩; subst wq)
        | (go_at_call 14; refine (HF.out _).mono ?_; rintro e wq ⟨rfl, hwq⟩; subst wq))
      go_ret2
      exact ⟨rfl, HB0.out.trans (HB1.out.mono HB0.out.size)⟩
set_option maxHeartbeats 400000 in
set_option maxRecDepth 20000 in
theorem rapply_ok (ao : Option Addr) (n cap : Nat) (bs : Nat → Int) (b sn : Nat) (t : Int) (p : Pl) (w : World) (hrow : IsRow w ao n cap bs) (hn : n ≤ 1048576) (h0 : valE t p = 0) (hs : (wkM t).sz = sn) (hs8 : sn = 8 ∨ sn = 4) (hb : b + sn ≤ n) (hfit : fitM t (valM t p) = true) :
    Calls Try.prog 24 #[.slice ao n cap, .int .i64 b, .int .i64 t, p.val] w fun e w' => AplEnd bs n (valM t p) b sn w e w' := by
  have HV : Hid (∀ W, _) := ⟨fun W => rvalue_any t p W⟩
  have HS : Hid (∀ W, _) := ⟨fun W => rsize_any t W⟩
  have HF : Hid (∀ W, _) := ⟨fun W => rfits_any t (valM t p) W⟩
  have hv := (val_ok h0).1
  have hwe : wkE t = 0 := if_neg hv
  rw [h0] at HV
  rw [hwe, hs] at HS
  rw [hwe, hfit] at HF
  have HR : Hid (∀ W, Below w.heap.size w W → Row W ao n bs) := ⟨fun W h => hrow.row.below h (Nat.le_refl _)⟩
  have HZ : Hid (ao = none → n = 0 ∧ cap = 0) := ⟨hrow.nil⟩
  have HE : Hid (∀ w' g c, Own w' w.heap.size (.slice (some ⟨g, 0, none⟩) n c) (lst (putB bs (valM t p) b sn) n) → Below w.heap.size w w' → AplEnd bs n (valM t p) b sn w (.returned (.tuple #[.slice (some ⟨g, 0, none⟩) n c, .int .i64 0])) w') := ⟨fun w' g c h1 h2 => ⟨g, c, rfl, h1, h2⟩⟩
  clear hrow hfit hwe hs h0 hv
  generalize valM t p = v at *
  obtain ⟨s, a, pp, g, tt⟩ := p
  have HB0 : Hid (Below w.heap.size w (w.alloc (.cells #[.int .i64 s, .int .i64 a, .int .i64 pp, .int .i64 g, .int .i64 tt] 31))) := ⟨vb_alloc (Below.refl _ _) _⟩
  dsimp only [Pl.val] at *
  have d1 : decide ((b : Int) < 0) = false := decide_eq_false (by omega)
  have d2 : decide ((n : Int) - sn < b) = false := decide_eq_false (by omega)
  go_enter Try.func24, Try.ntmps24
  go_upto_region 12 with (first
    | (go_at_call 11; refine (HV.out _).mono ?_; rintro e w1 ⟨rfl, hb1⟩; have HB1 : Hid _ := ⟨hb1⟩; clear hb1)
    | (go_at_call 9; refine (HS.out _).mono ?_; rintro e wq ⟨rfl, hwq⟩; subst wq)
    | (go_at_call 14; refine (HF.out _).mono ?_; rintro e wq ⟨rfl, hwq⟩; subst wq))
  have HB2 : Hid (Below w.heap.size w w1) := ⟨HB0.out.trans (HB1.out.mono HB0.out.size)⟩
  clear HB0 HB1 HV HS HF
  go_upto_region 15 with (at_builtin; refine append_row _ rfl _ _ rfl w1.heap.size w1.heap.size 0 0 [] rfl (Own.empty w1 _ (Nat.le_refl _)) ao n cap bs rfl ((HR.out _ HB2.out).alloc _) HZ.out n (by omega) (by simp; omega) (by simp) ?_; intro g2 c2 w2 hown h1 h2 hbel; have HO : Hid (Own w2 w1.heap.size (.slice (some ⟨g2, 0, none⟩) n c2) (lst bs n)) := ⟨by simpa using hown⟩; have HB3 : Hid (Below w1.heap.size w1 w2) := ⟨((Below.refl _ _).alloc (Nat.le_refl _) _).trans hbel⟩; clear hown hbel h1 h2)
  rw [show IntKind.u64.wrap v = v % 18446744073709551616 / 2 ^ (8 * 0) by rw [IntKind.wrap_u64]; simp]
  have HO0 : Hid (Own w2 w1.heap.size (.slice (some ⟨g2, 0, none⟩) n c2) (lst (putB bs v b 0) n)) := ⟨by rw [putB_0]; exact HO.out⟩
  have HGL : Hid (w1.heap.size ≤ g2) := ⟨HO.out.block g2 rfl⟩
  clear HO HR HZ
  go_loopw [17, 18] (fun u x wr => ∃ k : Nat, k ≤ sn ∧ u = .int .u64 (v % 18446744073709551616 / 2 ^ (8 * k)) ∧ x = .int .i64 k ∧ Hid (Own wr w1.heap.size (.slice (some ⟨g2, 0, none⟩) n c2) (lst (putB bs v b k) n) ∧ Below w1.heap.size w1 wr)) (fun _ x _ => sn - (intOf x).toNat)
  case atStart => exact ⟨0, by omega, rfl, rfl, ⟨HO0.out, HB3.out⟩⟩
  case round =>
    clear HO0 HB3
    obtain ⟨k, hk, rfl, rfl, HW⟩ := hrel
    by_cases hlt : k < sn
    · have hlow := low_byte v k (by omega)
      have HSH : Hid _ := ⟨shr_byte v k⟩
      have hU1 : 0 ≤ v % 18446744073709551616 / 2 ^ (8 * k) := Int.ediv_nonneg (by omega) (Int.le_of_lt (pow_pos_i _))
      have hU2 : v % 18446744073709551616 / 2 ^ (8 * k) ≤ v % 18446744073709551616 := Int.ediv_le_self _ (by omega)
      have hU3 : v % 18446744073709551616 / 2 ^ (8 * k) < 18446744073709551616 := by omega
      have HST : Hid _ := ⟨HW.out.1.setB (b + k) (v / 2 ^ (8 * k) % 256)⟩
      have hln : (lst (putB bs v b k) n).length = n := lst_len _ _
      have h5 : Own wr w1.heap.size (.slice (some ⟨g2, 0, none⟩) (lst (putB bs v b k) n).length c2) (lst (putB bs v b k) n) := by rw [hln]; exact HW.out.1
      have hcell := World.ownsRow.cellAt h5 (b + k) (by rw [hln]; omega)
      have hfz := World.ownsRow.frozenAt h5 (b + k)
      rw [List.getElem?_map, lst_at? _ n (b + k) (by omega)] at hcell
      have HN1 : Hid (Own (wr.setCell ⟨g2, b + k, none⟩ (.int .u8 (v / 2 ^ (8 * k) % 256))) w1.heap.size (.slice (some ⟨g2, 0, none⟩) n c2) (lst (putB bs v b (k + 1)) n) ∧ Below w1.heap.size w1 (wr.setCell ⟨g2, b + k, none⟩ (.int .u8 (v / 2 ^ (8 * k) % 256)))) := ⟨by
        refine ⟨?_, HW.out.2.grown HST.out.2 HW.out.2.size (fun q e => by cases e; exact HGL.out)⟩
        have := HST.out.1
        rw [putB_step bs v b k] at this
        exact this⟩
      clear h5 hln HST HW hU2
      have e8 : ((b : Int) + (k : Int)).toNat = b + k := by omega
      have h6 : b + k < n := by omega
      generalize v / 2 ^ (8 * k) % 256 = Y at *
      generalize v % 18446744073709551616 / 2 ^ (8 * k) = U at *
      go_wp2
      go_roundw
      case rel => exact ⟨k + 1, hlt, by rw [HSH.out], by go_num, HN1⟩
      case measure => simp [intOf]; omega
    · have hke : k = sn := by omega
      subst hke
      have HB9 : Hid (Below w.heap.size w wr) := ⟨HB2.out.trans (HW.out.2.mono HB2.out.size)⟩
      have HO9 : Hid (Own wr w.heap.size (.slice (some ⟨g2, 0, none⟩) n c2) (lst (putB bs v b k) n)) := ⟨own_low5 HW.out.1 HB2.out.size⟩
      go_wp2
      go_ret2
      exact HE.out wr g2 c2 HO9.out HB9.out
theorem rapply_any (ao : Option Addr) (n cap : Nat) (bs : Nat → Int) (at' t : Int) (p : Pl) (w : World) (hrow : IsRow w ao n cap bs) (hn : n ≤ 140737488355328) (ht : -9223372036854775808 ≤ at' ∧ at' ≤ 9223372036854775807) :
    Calls Try.prog 24 #[.slice ao n cap, .int .i64 at', .int .i64 t, p.val] w fun e w' =>
      (aplE n at' t p ≠ 0 ∧ e = .returned (.tuple #[.slice none 0 0, .int .i64 (aplE n at' t p)]) ∧ Below w.heap.size w w') ∨
      (aplE n at' t p = 0 ∧ ∃ a s : Nat, at' = a ∧ (wkM t).sz = s ∧ AplEnd bs n (valM t p) a s w e w') := by
  by_cases h1 : 1048576 < n ∨ valE t p ≠ 0
  · have e1 : aplE n at' t p = if 1048576 < n then 6 else valE t p := by
      unfold aplE
      by_cases h2 : 1048576 < n
      · rw [if_pos h2, if_pos h2]
      · rw [if_neg h2, if_neg h2, if_pos (h1.resolve_left h2)]
    refine (rapply_1 ao n cap at' t p w hn h1).mono ?_
    rintro e w' ⟨rfl, hb⟩
    refine .inl ⟨?_, by rw [e1], hb⟩
    rw [e1]
    by_cases h2 : 1048576 < n
    · rw [if_pos h2]; decide
    · rw [if_neg h2]; exact h1.resolve_left h2
  · have hn2 : ¬ 1048576 < n := fun e => h1 (.inl e)
    have h0 : valE t p = 0 := Classical.byContradiction fun e => h1 (.inr e)
    have hv := (val_ok h0).1
    have hwm : wkM t = kdOf t := if_neg hv
    have hfm : fitM t (valM t p) = fOf (kdOf t).f (valM t p) := if_neg hv
    by_cases h3 : (at' < 0 ∨ (n : Int) - (wkM t).sz < at') ∨ fitM t (valM t p) = false
    · have e1 : aplE n at' t p = if at' < 0 ∨ (n : Int) - (wkM t).sz < at' then 200 else 201 := by
        unfold aplE
        rw [if_neg hn2, if_neg (by rw [h0]; simp), hwm]
        by_cases h4 : at' < 0 ∨ (n : Int) - (kdOf t).sz < at'
        · rw [if_pos h4, if_pos h4]
        · rw [if_neg h4, if_neg h4]
          rw [hwm, hfm] at h3
          rw [if_pos (h3.resolve_left h4)]
      refine (rapply_2 ao n cap at' t p w (by omega) h0 ht h3).mono ?_
      rintro e w' ⟨rfl, hb⟩
      refine .inl ⟨?_, by rw [e1], hb⟩
      rw [e1]
      split <;> decide
    · have h4 : ¬ (at' < 0 ∨ (n : Int) - (wkM t).sz < at') := fun e => h3 (.inl e)
      have h5 : fitM t (valM t p) = true := by
        cases h : fitM t (valM t p)
        · exact absurd (.inr h) h3
        · rfl
      have hs : ∃ s : Nat, (wkM t).sz = s ∧ (s = 8 ∨ s = 4) := by
        have hks := kd_s t
        rw [hwm]
        rcases (kd_f t).resolve_left hv with hf | hf | hf
        · exact ⟨8, hks.1 hf, .inl rfl⟩
        · exact ⟨4, hks.2.1 hf, .inr rfl⟩
        · exact ⟨4, hks.2.2.1 hf, .inr rfl⟩
      obtain ⟨s, hs, hs8⟩ := hs
      rw [hs] at h4
      obtain ⟨a, rfl⟩ : ∃ a : Nat, at' = a := ⟨at'.toNat, by omega⟩
      refine (rapply_ok ao n cap bs a s t p w hrow (by omega) h0 hs hs8 (by omega) h5).mono ?_
      rintro e w' h
      refine .inr ⟨?_, a, s, rfl, hs, h⟩
      unfold aplE
      rw [if_neg hn2, if_neg (by rw [h0]; simp), ← hwm, hs, if_neg h4, hwm, ← hfm, h5]
      rfl
end Go.Proofs.Ytjbepojopfbajaa

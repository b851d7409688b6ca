/- The laws CfaWrites, CfaReads, CfaBack, given what the program's calls answer. -/
import Derived.Test.YtgldijohpfihaaaDoorCRReadX
import Derived.Test.YtgldijohpfihaaaDoorCBack
import Derived.Test.YtgldijohpfihaaaDoorCIs
namespace Go.Proofs.YtgldijohpfihaaaDoor
open Go.ChangeShapes Go.WideShapes Go.ChangeAt Go.RowKit
set_option linter.unusedVariables false
set_option linter.unusedSimpArgs false

theorem rdM_len (len : Nat) (bs : Nat → Int) : ∀ (f t : Nat) (out l : List Oq), out.length ≤ 4000 → rdM len bs f t out = .ok l → l.length ≤ 4000
  | 0, t, out, l, h, e => by
    simp only [rdM, Except.ok.injEq] at e
    subst e; exact h
  | f + 1, t, out, l, h, e => by
    simp only [rdM] at e
    split at e
    · split at e
      · cases e
      · split at e
        · cases e
        · split at e
          · cases e
          · rename_i hn
            exact rdM_len len bs f _ _ l (by simp; omega) e
    · simp only [Except.ok.injEq] at e
      subst e; exact h
theorem readL_len (len : Nat) (bs : Nat → Int) : (readL len bs).length ≤ 9223372036854775806 := by
  unfold readL
  split
  · simp
  · cases h : rdM len bs (len + 1) 0 [] with
    | error x => simp [exL]
    | ok l =>
      have := rdM_len len bs (len + 1) 0 [] l (by simp) h
      simp [exL]
      omega
/-- What the program's Write, Read and the law's knows answer. -/
def PWrite : Prop := ∀ (ao : Option Addr) (c : Nat) (l : List Oq) (w : World), l.length ≤ 5864062014634 → IsOq w ao c l → Fz w →
  Calls Tryd.prog 23 #[.slice ao l.length c] w fun e w' => ∃ v, e = .returned (.tuple #[v, .int .i64 (writE l)]) ∧ Own w' w.heap.size v (writB l) ∧ Below w.heap.size w w'
def PRead : Prop := ∀ (ao : Option Addr) (len cap : Nat) (bs : Nat → Int) (w : World), len ≤ 140737488355328 → IsRow w ao len cap bs → Fz w →
  Calls Tryd.prog 25 #[.slice ao len cap] w fun e w' => ∃ v, e = .returned (.tuple #[v, .int .i64 (readE len bs)]) ∧ OwnP w' w.heap.size v (readL len bs) ∧ Below w.heap.size w w'

theorem lst_gd (xs : List Int) : lst (fun i => xs.getD i 0) xs.length = xs := by
  apply List.ext_getElem
  · rw [lst_len]
  · intro i h1 h2
    simp [lst, h2]
theorem Bt.conv {w : World} {v : Value} {xs : List Int} (h : Bt w v xs) : Sem.run Tryd.prog (convert 64 9 v) w = .ok (.string (strOfNums xs)) w := by
  obtain ⟨ao, cap, rfl, hr, hn⟩ := h
  have := conv_row w ao xs.length cap _ hr (fun e => (hn e).1)
  rwa [lst_gd] at this
/-- Bytes of the call's own, as they may be handed on. -/
theorem Own.isr {w : World} {base : Nat} {v : Value} {xs : List Int} (h : Own w base v xs) (hb : ∀ x ∈ xs, 0 ≤ x ∧ x < 256) : ∃ ao cap, v = .slice ao xs.length cap ∧ IsRow w ao xs.length cap (fun i => xs.getD i 0) := by
  by_cases h0 : 1 ≤ xs.length
  · obtain ⟨g, cap, hv, hc1, hc2, hr⟩ := h.row h0
    exact ⟨_, cap, hv, ⟨hr w (Below.refl _ _), fun i => getD_byte hb i, hc1, hc2, fun e => by cases e⟩⟩
  · have h0' : xs.length = 0 := by omega
    rcases h.2 with ⟨rfl, _⟩ | ⟨g, cap, cur, rfl, _, _, h3, h4, _⟩
    · exact ⟨none, 0, by rw [h0'], ⟨.inl h0', fun i => getD_byte hb i, by omega, by omega, fun _ => ⟨h0', rfl⟩⟩⟩
    · exact ⟨_, cap, rfl, ⟨.inl h0', fun i => getD_byte hb i, h3, by unfold maxLen at h4; omega, fun e => by cases e⟩⟩
theorem IsRow.bel {w w' : World} {ao : Option Addr} {len cap : Nat} {bs : Nat → Int} (h : IsRow w ao len cap bs) (hb : Below w.heap.size w w') : IsRow w' ao len cap bs := ⟨h.row.below hb (Nat.le_refl _), h.byte, h.fit, h.top, h.nil⟩

theorem sl_bytes (n : Int) : ∀ x ∈ sl n, 0 ≤ x ∧ x < 256 := sl_byte n.natAbs n (Nat.le_refl _)
theorem pl_bytes (n : Int) (s : Nat) : ∀ x ∈ pl n s, 0 ≤ x ∧ x < 256 := by
  intro x hx
  unfold pl at hx
  obtain ⟨j, _, rfl⟩ := List.mem_map.1 hx
  omega
theorem oneB_byte {o : Oq} (hm : mayB o = true) : ∀ x ∈ oneB o, 0 ≤ x ∧ x < 256 := by
  have hu : ∀ n : Int, ∀ x ∈ ulB n, 0 ≤ x ∧ x < 256 := fun n => ul_byte _
  have hs := sl_bytes (-(o.n.tdiv 8))
  have hp := pl_bytes o.n
  have ha : o.k = 1 → 0 ≤ o.n ∧ o.n < 2147483648 := fun h => may_adv hm h
  have hr : o.k = 5 ∨ o.k = 6 → 0 ≤ o.r ∧ o.r ≤ 16 := fun h => may_reg hm (by omega)
  intro x hx
  unfold oneB at hx
  split at hx
  · rename_i h1
    have := ha h1
    unfold advB at hx
    repeat' (split at hx)
    · simp at hx; omega
    all_goals
      rcases List.mem_cons.1 hx with rfl | hx
      · omega
      · exact hp _ x hx
  · repeat' (split at hx)
    all_goals first
      | (simp at hx; omega)
      | (rcases List.mem_cons.1 hx with rfl | hx
         · omega
         · first
           | exact hu _ x hx
           | (rcases List.mem_append.1 hx with hx | hx
              · exact hu _ x hx
              · first | exact hu _ x hx | exact hs x hx))
      | (simp at hx; have := hr (by omega); omega)
theorem writB_byte (l : List Oq) : ∀ x ∈ writB l, 0 ≤ x ∧ x < 256 := by
  unfold writB
  split
  · intro x hx; cases hx
  · split
    · rename_i ha
      intro x hx
      obtain ⟨o, ho, hx⟩ := List.mem_flatMap.1 hx
      exact oneB_byte (List.all_eq_true.1 ha o ho) x hx
    · intro x hx; cases hx
theorem writB_len (l : List Oq) : (writB l).length ≤ 88000 := by
  unfold writB
  split
  · simp
  · split
    · rename_i h1 ha
      have := flat_len l ha
      omega
    · simp
theorem writB_no {l : List Oq} (h : writE l ≠ 0) : writB l = [] := by
  unfold writE at h
  unfold writB
  split
  · rfl
  · rename_i h1
    rw [if_neg h1] at h
    split
    · rename_i ha
      rw [if_pos ha] at h
      exact absurd rfl h
    · rfl

set_option maxHeartbeats 2000000 in
set_option maxRecDepth 10000 in
theorem cfaWrites_walk (hW : PWrite) (hK : PKnows) (ao : Option Addr) (c : Nat) (l : List Oq) (w : World) (hI : IsOq w ao c l) (hl : l.length ≤ 5864062014634) (hf : Fz w) :
    Calls Tryd.prog 5 #[.slice ao l.length c] w fun e w' => e = .returned (.bool true) ∧ Below w.heap.size w w' := by
  have HO := ops_any ao c l w hl hI.ops
  have HI : Hid _ := ⟨hI⟩
  have HWk : Hid _ := ⟨hW⟩
  have HKk : Hid (∀ W : World, Below w.heap.size w W → Calls Tryd.prog 15 #[] W fun e w' => e = .returned (.bool true) ∧ Below W.heap.size W w') := ⟨fun W hb => hK W (hf.bel hb hf.z)⟩
  have HL : Hid (l.length ≤ 5864062014634) := ⟨hl⟩
  have HFz : Hid _ := ⟨hf⟩
  clear hI hW hK hl hf
  obtain ⟨E, hE⟩ : ∃ E, writE l = E := ⟨_, rfl⟩
  obtain ⟨xs, hxs⟩ : ∃ xs, writB l = xs := ⟨_, rfl⟩
  obtain ⟨Y, hY⟩ : ∃ Y, strOfNums xs = Y := ⟨_, rfl⟩
  have hEE : (E == E) = true := by simp
  have hyy : (Y.toList == Y.toList) = true := by simp
  go_enter Tryd.func5, Tryd.ntmps5
  go_upto_region 2 with (go_at_call 9; (with_reducible refine HO.mono ?_); rintro e w1 ⟨v1, he, ho1, hb1⟩; subst he; have H1 : Hid _ := ⟨ho1⟩; have HB1 : Hid _ := ⟨hb1⟩; clear ho1 hb1)
  obtain ⟨a1, c1, hv1, hI1⟩ := H1.out.is
  subst hv1
  have HI1 : Hid _ := ⟨hI1⟩
  have HP := HWk.out a1 c1 l w1 HL.out hI1 (HFz.out.bel HB1.out HFz.out.z)
  rw [hE, hxs] at HP
  clear hI1
  go_upto_region 3 with (go_at_call 23; (with_reducible refine HP.mono ?_); rintro e w2 ⟨v2, he, ho2, hb2⟩; subst he; have H2 : Hid (Bt w2 v2 xs) := ⟨ho2.bt⟩; have HB2 : Hid (Below w.heap.size w w2 ∧ IsOq w2 a1 c1 l) := ⟨HB1.out.trans (hb2.mono HB1.out.size), HI1.out.bel hb2⟩; clear ho2 hb2)
  have HQ := rwrite_any ao c l w2 HL.out (HI.out.ops.bel HB2.out.1)
  rw [hE, hxs] at HQ
  go_upto_region 4 with (go_at_call 24; (with_reducible refine HQ.mono ?_); rintro e w3 ⟨v3, he, ho3, hb3⟩; subst he; have H3 : Hid (Bt w3 v2 xs ∧ Bt w3 v3 xs) := ⟨H2.out.bel hb3, ho3.bt⟩; have HB3 : Hid (Below w.heap.size w w3 ∧ IsOq w3 a1 c1 l ∧ IsOq w3 ao c l) := ⟨HB2.out.1.trans (hb3.mono HB2.out.1.size), HB2.out.2.bel hb3, HI.out.bel (HB2.out.1.trans (hb3.mono HB2.out.1.size))⟩; clear ho3 hb3)
  have q1 := H3.out.1.conv
  have q2 := H3.out.2.conv
  rw [hY] at q1 q2
  have HSm : Hid _ := ⟨same_any a1 ao c1 c l w3 (by have := HL.out; omega) HB3.out.2.1.ops HB3.out.2.2.ops⟩
  clear HP HQ HO
  go_wp2_with (first
    | (go_at_call 12; (with_reducible refine (cnum_any _ _).mono ?_); rintro e wn ⟨he, hwn⟩; subst he; subst wn)
    | (go_at_call 14; (with_reducible refine HSm.out.mono ?_); rintro e w4 ⟨he, hb4⟩; subst he; have HB4 : Hid (Below w.heap.size w w4) := ⟨HB3.out.1.trans (hb4.mono HB3.out.1.size)⟩; clear hb4)
    | (go_at_call 15; (with_reducible refine (HKk.out _ HB4.out).mono ?_); rintro e w5 ⟨he, hb5⟩; subst he; have HB5 : Hid (Below w.heap.size w w5) := ⟨HB4.out.trans (hb5.mono HB4.out.size)⟩; clear hb5))
  go_ret
  exact ⟨rfl, HB5.out⟩

set_option maxHeartbeats 2000000 in
set_option maxRecDepth 10000 in
theorem cfaBack_walk (hW : PWrite) (hRd : PRead) (hK : PKnows) (ao : Option Addr) (c : Nat) (l : List Oq) (w : World) (hI : IsOq w ao c l) (hl : l.length ≤ 5864062014634) (hf : Fz w) :
    Calls Tryd.prog 7 #[.slice ao l.length c] w fun e w' => e = .returned (.bool true) ∧ Below w.heap.size w w' := by
  have HO := ops_any ao c l w hl hI.ops
  have HI : Hid _ := ⟨hI⟩
  have HKk : Hid (∀ W : World, Below w.heap.size w W → Calls Tryd.prog 15 #[] W fun e w' => e = .returned (.bool true) ∧ Below W.heap.size W w') := ⟨fun W hb => hK W (hf.bel hb hf.z)⟩
  have HL : Hid (l.length ≤ 5864062014634) := ⟨hl⟩
  have HFz : Hid _ := ⟨hf⟩
  have HWk : Hid (∀ (v : Value) (w1 : World), OwnP w1 w.heap.size v l → Below w.heap.size w w1 → Calls Tryd.prog 23 #[v] w1 fun e w' => ∃ v, e = .returned (.tuple #[v, .int .i64 (writE l)]) ∧ Own w' w.heap.size v (writB l) ∧ Below w.heap.size w w') := ⟨fun v w1 ho hb => by
    obtain ⟨a1, c1, rfl, hI1⟩ := ho.is
    refine (hW a1 c1 l w1 hl hI1 (hf.bel hb hf.z)).mono ?_
    rintro e w' ⟨v', rfl, h1, h2⟩
    exact ⟨v', rfl, h1.low hb.size, hb.trans (h2.mono hb.size)⟩⟩
  have HRk : Hid _ := ⟨hRd⟩
  clear hI hW hK hl hRd hf
  obtain ⟨E, hE⟩ : ∃ E, writE l = E := ⟨_, rfl⟩
  rw [hE] at HWk
  by_cases e0 : E = 0
  · subst e0
    go_enter Tryd.func7, Tryd.ntmps7
    go_upto_region 4 with (first
      | (go_at_call 9; (with_reducible refine HO.mono ?_); rintro e w1 ⟨v1, he, ho1, hb1⟩; subst he; have H1 : Hid _ := ⟨ho1⟩; have HB1 : Hid _ := ⟨hb1⟩; clear ho1 hb1)
      | (go_at_call 23; (with_reducible refine (HWk.out _ _ H1.out HB1.out).mono ?_); rintro e w2 ⟨v2, he, ho2, hb2⟩; subst he; have H2 : Hid _ := ⟨ho2⟩; have HB2 : Hid _ := ⟨hb2⟩; clear ho2 hb2)
      | (go_at_call 12; (with_reducible refine (cnum_any _ _).mono ?_); rintro e wn ⟨he, hwn⟩; subst he; subst wn)
      | (go_at_call 15; (with_reducible refine (HKk.out _ HB2.out).mono ?_); rintro e w3 ⟨he, hb3⟩; subst he; have HB3 : Hid (Below w.heap.size w w3 ∧ Own w3 w.heap.size v2 (writB l)) := ⟨HB2.out.trans (hb3.mono HB2.out.size), H2.out.bel hb3⟩; clear hb3))
    obtain ⟨a3, c3, hv3, hI3⟩ := HB3.out.2.isr (writB_byte l)
    have hrw := read_writ hE (bs := fun i => (writB l).getD i 0) (fun i hi => by simp)
    have HP := HRk.out a3 (writB l).length c3 _ w3 (by have := writB_len l; omega) hI3 (HFz.out.bel HB3.out.1 HFz.out.z)
    rw [hrw.1, hrw.2] at HP
    subst hv3
    obtain ⟨n3, hn3⟩ : ∃ n3, (writB l).length = n3 := ⟨_, rfl⟩
    rw [hn3] at HP ⊢
    have HPP : Hid _ := ⟨HP⟩
    clear HP hrw hI3 hn3
    go_upto_region 5 with (go_at_call 25; (with_reducible refine HPP.out.mono ?_); rintro e w4 ⟨v4, he, ho4, hb4⟩; subst he; have H4 : Hid _ := ⟨ho4⟩; have HB4 : Hid (Below w.heap.size w w4) := ⟨HB3.out.1.trans (hb4.mono HB3.out.1.size)⟩; clear ho4 hb4)
    obtain ⟨a4, c4, hv4, hI4⟩ := H4.out.is
    subst hv4
    have HSm : Hid _ := ⟨same_any a4 ao c4 c l w4 (by have := HL.out; omega) hI4.ops (HI.out.ops.bel HB4.out)⟩
    clear hI4
    go_wp2_with (first
      | (go_at_call 12; (with_reducible refine (cnum_any _ _).mono ?_); rintro e wn ⟨he, hwn⟩; subst he; subst wn)
      | (go_at_call 14; (with_reducible refine HSm.out.mono ?_); rintro e w5 ⟨he, hb5⟩; subst he; have HB5 : Hid (Below w.heap.size w w5) := ⟨HB4.out.trans (hb5.mono HB4.out.size)⟩; clear hb5))
    go_ret
    exact ⟨rfl, HB5.out⟩
  · have b1 : (E == 0) = false := by simpa using e0
    have b2 : (E != 0) = true := by simpa using e0
    have HN : Hid (writB l = []) := ⟨writB_no (by rw [hE]; exact e0)⟩
    go_enter Tryd.func7, Tryd.ntmps7
    go_upto_region 2 with (first
      | (go_at_call 9; (with_reducible refine HO.mono ?_); rintro e w1 ⟨v1, he, ho1, hb1⟩; subst he; have H1 : Hid _ := ⟨ho1⟩; have HB1 : Hid _ := ⟨hb1⟩; clear ho1 hb1)
      | (go_at_call 23; (with_reducible refine (HWk.out _ _ H1.out HB1.out).mono ?_); rintro e w2 ⟨v2, he, ho2, hb2⟩; subst he; have H2 : Hid _ := ⟨ho2⟩; have HB2 : Hid _ := ⟨hb2⟩; clear ho2 hb2))
    obtain ⟨a2, c2, hv2, _⟩ : ∃ ao cap, v2 = .slice ao 0 cap ∧ True := by
      have h := H2.out
      rw [HN.out] at h
      obtain ⟨ao', cap', h1, _⟩ := h.bt
      exact ⟨ao', cap', h1, trivial⟩
    subst hv2
    go_wp2_with (first
      | (go_at_call 12; (with_reducible refine (cnum_any _ _).mono ?_); rintro e wn ⟨he, hwn⟩; subst he; subst wn)
      | (go_at_call 15; (with_reducible refine (HKk.out _ HB2.out).mono ?_); rintro e w3 ⟨he, hb3⟩; subst he; have HB3 : Hid (Below w.heap.size w w3) := ⟨HB2.out.trans (hb3.mono HB2.out.size)⟩; clear hb3))
    go_ret
    exact ⟨rfl, HB3.out⟩

theorem Row.congr {w : World} {ao : Option Addr} {len : Nat} {bs bs' : Nat → Int} (h : Row w ao len bs) (e : ∀ i, i < len → bs i = bs' i) : Row w ao len bs' := by
  rcases h with h | ⟨b, off, e', h⟩
  · exact .inl h
  · exact .inr ⟨b, off, e', fun i hi => by rw [← e i hi]; exact h i hi⟩
set_option maxHeartbeats 2000000 in
set_option maxRecDepth 10000 in
theorem cfaReads_walk (hRd : PRead) (hK : PKnows) (ao : Option Addr) (len cap : Nat) (bs : Nat → Int) (w : World) (hI : IsRow w ao len cap bs) (hl : len ≤ 140737488351232) (hf : Fz w) :
    Calls Tryd.prog 6 #[.slice ao len cap] w fun e w' => e = .returned (.bool true) ∧ Below w.heap.size w w' := by
  have HKk : Hid (∀ W : World, Below w.heap.size w W → Calls Tryd.prog 15 #[] W fun e w' => e = .returned (.bool true) ∧ Below W.heap.size W w') := ⟨fun W hb => hK W (hf.bel hb hf.z)⟩
  have HRk : Hid _ := ⟨hRd⟩
  obtain ⟨xs, hxs⟩ : ∃ xs, lst bs len = xs := ⟨_, rfl⟩
  have hlen : xs.length = len := by rw [← hxs, lst_len]
  have hbx : ∀ x ∈ xs, 0 ≤ x ∧ x < 256 := by
    rw [← hxs]
    intro x hx
    unfold lst at hx
    obtain ⟨i, _, rfl⟩ := List.mem_map.1 hx
    exact hI.byte i
  have hrow : Row w ao xs.length (fun i => xs.getD i 0) := by
    rw [hlen]
    exact hI.row.congr fun i hi => by rw [← hxs]; exact (lst_at bs len i hi).symm
  subst hlen
  have hbt : Bt w (.slice ao xs.length cap) xs := ⟨ao, cap, rfl, hrow, hI.nil⟩
  have HBt : Hid _ := ⟨hbt⟩
  have HRow : Hid _ := ⟨hrow⟩
  have HX : Hid (∀ x ∈ xs, 0 ≤ x ∧ x < 256) := ⟨hbx⟩
  have HL : Hid (xs.length ≤ 140737488351232) := ⟨hl⟩
  have HFz : Hid _ := ⟨hf⟩
  clear hI hK hRd hl hrow hbt hbx hxs hf
  obtain ⟨E, hE⟩ : ∃ E, readE xs.length (fun i => xs.getD i 0) = E := ⟨_, rfl⟩
  obtain ⟨l, hl⟩ : ∃ l, readL xs.length (fun i => xs.getD i 0) = l := ⟨_, rfl⟩
  have HLl : Hid (l.length ≤ 9223372036854775806) := ⟨by rw [← hl]; exact readL_len _ _⟩
  obtain ⟨Y, hY⟩ : ∃ Y, strOfNums xs = Y := ⟨_, rfl⟩
  have hEE : (E == E) = true := by simp
  have hyy : (Y.toList == Y.toList) = true := by simp
  have HE0 : Hid _ := ⟨Own.empty w w.heap.size (Nat.le_refl _)⟩
  obtain ⟨nl, hnl⟩ : ∃ nl, xs.length = nl := ⟨_, rfl⟩
  rw [hnl] at HBt ⊢
  go_enter Tryd.func6, Tryd.ntmps6
  go_upto_region 2 with (at_builtin; refine append_bt _ rfl _ _ rfl w.heap.size _ [] rfl HE0.out _ xs rfl (HBt.out.bel ((Below.refl _ _).alloc (Nat.le_refl _) _)) (by have := HL.out; simp; omega) (by simp) ?_; intro v1 w1 ho1 hb1; rw [List.nil_append] at ho1; have H1 : Hid _ := ⟨ho1⟩; have HB1 : Hid (Below w.heap.size w w1) := ⟨((Below.refl _ _).alloc (Nat.le_refl _) _).trans hb1⟩; clear ho1 hb1)
  obtain ⟨a1, c1, hv1, hI1⟩ := H1.out.isr HX.out
  have HP := HRk.out a1 xs.length c1 _ w1 (by have := HL.out; omega) hI1 (HFz.out.bel HB1.out HFz.out.z)
  rw [hE, hl, hnl] at HP
  rw [hnl] at hv1
  subst hv1
  clear hI1
  go_upto_region 3 with (go_at_call 25; (with_reducible refine HP.mono ?_); rintro e w2 ⟨v2, he, ho2, hb2⟩; subst he; have H2 : Hid (OwnP w2 w1.heap.size v2 l ∧ Own w2 w.heap.size (.slice a1 nl c1) xs ∧ Below w.heap.size w w2) := ⟨ho2, H1.out.bel hb2, HB1.out.trans (hb2.mono HB1.out.size)⟩; clear ho2 hb2)
  have HQ := rread_any ao xs.length cap (fun i => xs.getD i 0) w2 (HRow.out.below H2.out.2.2 (Nat.le_refl _)) (fun i => getD_byte HX.out i) (by have := HL.out; omega)
  rw [hE, hl, hnl] at HQ
  go_upto_region 4 with (go_at_call 26; (with_reducible refine HQ.mono ?_); rintro e w3 ⟨v3, he, ho3, hb3⟩; subst he; have H3 : Hid (OwnP w3 w1.heap.size v2 l ∧ OwnR w3 w2.heap.size v3 l ∧ Own w3 w.heap.size (.slice a1 nl c1) xs ∧ Below w.heap.size w w3) := ⟨H2.out.1.bel hb3, ho3, H2.out.2.1.bel hb3, H2.out.2.2.trans (hb3.mono H2.out.2.2.size)⟩; clear ho3 hb3)
  obtain ⟨a2, c2, hv2, hI2⟩ := H3.out.1.is
  obtain ⟨a3, c3, hv3, hI3⟩ := H3.out.2.1.is
  subst hv2 hv3
  have HSm : Hid (Calls Tryd.prog 14 #[.slice a2 l.length c2, .slice a3 l.length c3] w3 fun e w' => e = .returned (.bool true) ∧ Below w.heap.size w w' ∧ Below w3.heap.size w3 w') := ⟨by
    refine (same_any a2 a3 c2 c3 l w3 HLl.out hI2.ops hI3.ops).mono ?_
    rintro e w' ⟨rfl, hb⟩
    exact ⟨rfl, H3.out.2.2.2.trans (hb.mono H3.out.2.2.2.size), hb⟩⟩
  clear hI2 hI3 HP HQ
  generalize l.length = ll at *
  have HCv : Hid (∀ w4, Below w3.heap.size w3 w4 → Sem.run Tryd.prog (convert 64 9 (.slice a1 nl c1)) w4 = .ok (.string Y) w4 ∧ Sem.run Tryd.prog (convert 64 9 (.slice ao nl cap)) w4 = .ok (.string Y) w4) := ⟨fun w4 hb => by
    rw [← hY]
    exact ⟨(H3.out.2.2.1.bel hb).bt.conv, (HBt.out.bel (H3.out.2.2.2.trans (hb.mono H3.out.2.2.2.size))).conv⟩⟩
  go_wp2_with (first
    | (go_at_call 12; (with_reducible refine (cnum_any _ _).mono ?_); rintro e wn ⟨he, hwn⟩; subst he; subst wn)
    | (go_at_call 14; (with_reducible refine HSm.out.mono ?_); rintro e w4 ⟨he, hb4, hc4⟩; subst he; have HB4 : Hid (Below w.heap.size w w4) := ⟨hb4⟩; (obtain ⟨q1, q2⟩ := HCv.out _ hc4); clear hb4 hc4)
    | (go_at_call 15; (with_reducible refine (HKk.out _ HB4.out).mono ?_); rintro e w5 ⟨he, hb5⟩; subst he; have HB5 : Hid (Below w.heap.size w w5) := ⟨HB4.out.trans (hb5.mono HB4.out.size)⟩; clear hb5))
  go_ret
  exact ⟨rfl, HB5.out⟩
end Go.Proofs.YtgldijohpfihaaaDoor

/- The first part of a unit. -/
import Derived.Test.YtbhdledlahbokaaLSeq
import Derived.Lib.SlBytesConst
namespace Go.Proofs.Ytbhdledlahbokaa
open Go.ChangeShapes Go.WideShapes Go.ChangeAt Go.RowKit
set_option linter.unusedVariables false
set_option linter.unusedSimpArgs false

theorem word_any (n : Int) (h : 0 ≤ n ∧ n ≤ 4294967295) (w : World) : Calls Try.prog 42 #[.int .i64 n] w fun e w' => e = .returned (.slice (some ⟨w.heap.size, 0, none⟩) 4 4) ∧ Own w' w.heap.size (.slice (some ⟨w.heap.size, 0, none⟩) 4 4) (pl n 4) ∧ Below w.heap.size w w' := by
  have HP : Hid (∀ W, Calls Try.prog 37 #[.int .i64 n, .int .i64 4] W fun e w' => e = .returned (.tuple #[.slice (some ⟨W.heap.size, 0, none⟩) 4 4, .int .i64 0]) ∧ Own w' W.heap.size (.slice (some ⟨W.heap.size, 0, none⟩) 4 4) (pl n 4) ∧ Below W.heap.size W w') := ⟨fun W => (put_4 n W (.inr (by unfold fitsB; simp; omega))).mono (fun e w' h => ⟨h.1, Own.of_part h.2.1, h.2.2⟩)⟩
  clear h
  go_enter Try.func42, Try.ntmps42
  go_wp2_with (go_at_call 37; (with_reducible refine (HP.out _).mono ?_); rintro e w1 ⟨he, ho1, hb1⟩; subst he; have H1 : Hid _ := ⟨ho1⟩; have HB1 : Hid _ := ⟨hb1⟩; clear ho1 hb1)
  go_ret
  exact ⟨rfl, H1.out, HB1.out⟩
def alwaysC : Array Value := #[.int .u8 1, .int .u8 1, .int .u8 1, .int .u8 251, .int .u8 14, .int .u8 13, .int .u8 0, .int .u8 1, .int .u8 1, .int .u8 1, .int .u8 1, .int .u8 0, .int .u8 0, .int .u8 0, .int .u8 1, .int .u8 0, .int .u8 0, .int .u8 1, .int .u8 1, .int .u8 1, .int .u8 8, .int .u8 1, .int .u8 0, .int .u8 1, .int .u8 1, .int .u8 8]
theorem alwaysC_at : ∀ (j : Nat) (u : Value), (always.map (Value.int .u8))[j]? = some u → alwaysC[j]? = some u := by
  intro j u h
  have e : alwaysC = (always.map (Value.int .u8)).toArray := rfl
  rw [e]
  simpa using h
theorem always_cell (w : World) (j : Nat) (u : Value) (h : (always.map (Value.int .u8))[j]? = some u) : (w.alloc (.cells alwaysC 5 (26, 27))).cell? ⟨w.heap.size, j, none⟩ = some u := by
  have h1 := heap_alloc_new w (.cells alwaysC 5 (26, 27))
  have h2 := alwaysC_at j u h
  simp only [World.cell?, h1]
  simpa using h2
/-- Bytes behind bytes whose row is full: a row of the call's own. -/
theorem append_full {ops : Array Oper} {rest : List Oper} {o : Oper} {a : Act} {Q : Exit → Act → World → Prop} (w : World) (hgd : o.guard = none) (s x : Operand)
    (ho : o.op = .call { callee := .builtin .append, args := #[s, x], argTypes := #[30, 30] })
    (b : Nat) (xs : List Int) (hs : a.eval s = .slice (some ⟨b, 0, none⟩) xs.length xs.length) (hc : ∀ j u, (xs.map (Value.int .u8))[j]? = some u → w.cell? ⟨b, j, none⟩ = some u)
    (u : Value) (m : List Int) (hx : a.eval x = u) (hb : Bt w u m) (hm : 1 ≤ m.length) (hn : xs.length + m.length ≤ 1000000000)
    (h : ∀ v' w', Own w' w.heap.size v' (xs ++ m) → Below w.heap.size w w' → wpList Try.prog ops Q rest (a.put o.dst v') w') :
    wpList Try.prog ops Q (o :: rest) a w := by
  obtain ⟨ao, c, rfl, hr, hnil⟩ := hb
  obtain ⟨i0, hi, hz0, hz1, hz2⟩ := info_parts info5
  cases ao with
  | none => have := (hnil rfl).1; omega
  | some ad =>
    have hr2 : ∀ j v, (m.map (Value.int .u8))[j]? = some v → w.cell? (ad.add j) = some v := by
      intro j v hj
      rcases hr with hr | ⟨b', off, e, hcell⟩
      · omega
      · cases e
        by_cases hjm : j < m.length
        · rw [caddr_add, hcell j hjm]
          simp [hjm] at hj
          simp [hjm, hj]
        · simp [hjm] at hj
    have hrun := run_append_grow (P := Try.prog) w 30 o.type 5 i0 (.int .u8 0) Try.underlying30 hi hz0 ⟨b, 0, none⟩ xs.length xs.length (xs.map (Value.int .u8)) (by rw [hz1]; simp) (fun j v hj => by rw [caddr_add, Nat.zero_add]; exact hc j v hj) ad m.length c (m.map (Value.int .u8)) (by rw [hz1]; simp) hr2 (by omega) (by omega) (by rw [hz2]; exact growslice_fits (by omega) (by omega))
    have hge := grownCap_ge w (xs.length + m.length) xs.length 5
    have hcm := grownCap_le_maxLen w (xs.length + m.length) xs.length 5 (by unfold maxLen; omega)
    refine wpList_plain hgd fun K hK => ?_
    unfold Oper.wp execOp
    simp only [ho, resolve, invoke, builtin, Sem.run_bind, Sem.run_pure, Result.andThen_ok, List.map_toArray, List.map_cons, List.map_nil, hs, hx, hrun]
    refine hK _ _ (h _ _ ⟨by simp, .inr ⟨w.heap.size, _, _, by rw [List.length_append], Nat.le_refl _, heap_alloc_new w.drew _, by rw [List.length_append]; exact hge, hcm, ?_, ?_⟩⟩ ?_)
    · have hz1 : (Value.int IntKind.u8 0).cells.size = 1 := rfl
      simp only [Array.size_append, List.size_toArray, size_zeroCells, hz1, List.length_map]
      omega
    · simp only [Array.toList_append, List.append_assoc, List.map_append]
      rw [← List.append_assoc]
      exact List.take_left' (by simp)
    · exact (Below.refl _ w).trans ⟨rfl, rfl, rfl, by simp, fun k hk => heap_alloc_old w.drew _ hk⟩
theorem namesR_at (l : List ByteArray) (k : Nat) (hk : k < l.length) : namesR (l.take (k + 1)) = namesR (l.take k) ++ (bts (l.getD k ByteArray.empty) ++ [0]) := by
  rw [take_at l ByteArray.empty k hk]; simp [namesR]
theorem all_take {α : Type} {p : α → Bool} {l : List α} (h : l.all p = true) (k : Nat) : (l.take k).all p = true := by
  rw [List.all_eq_true] at h ⊢
  exact fun x hx => h x (List.mem_of_mem_take hx)

set_option maxRecDepth 20000 in
set_option maxHeartbeats 4000000 in
theorem firstPart_any (fa : Option Addr) (fc : Nat) (l : List ByteArray) (n : Int) (w : World) (hF : filesB l = true) (hn : 0 ≤ n ∧ n ≤ 1000000000) (hS : Strs w fa l) :
    Calls Try.prog 22 #[.slice fa l.length fc, .int .i64 n] w fun e w' => ∃ v, e = .returned v ∧ Own w' w.heap.size v (headR l n) ∧ Below w.heap.size w w' := by
  unfold filesB at hF
  simp only [Bool.and_eq_true, decide_eq_true_eq] at hF
  obtain ⟨hl, hall⟩ := hF
  have hl' : (l.length : Int) ≤ 255 := by omega
  have HA : Hid _ := ⟨hall⟩
  have HS : Hid _ := ⟨hS⟩
  have HU : Hid (∀ W, Calls Try.prog 41 #[.int .i64 (l.length : Int)] W fun e w' => ∃ v, e = .returned v ∧ Own w' W.heap.size v (ulB (l.length : Int)) ∧ Below W.heap.size W w') := ⟨fun W => uleb_any _ W⟩
  have HUl : Hid _ := ⟨ulB_len (l.length : Int)⟩
  have hal : always.length = 26 := rfl
  clear hall hS
  have hcv := fun (w : World) (C : Array Value) (n c : Nat) => Lib.run_convert_bytes_const (P := Try.prog) w 30 5 C n c Try.underlying30 Try.underlying5
  go_enter Try.func22, Try.ntmps22
  go_wp2_with (first
    | (go_at_call 41; (with_reducible refine (HU.out _).mono ?_); rintro e w5 ⟨v5, he, ho5, hb5⟩; subst he; have H5 : Hid _ := ⟨ho5⟩; have HB5 : Hid _ := ⟨hb5⟩; clear ho5 hb5)
    | (at_builtin; refine append_full w5 rfl _ _ rfl w.heap.size always rfl (fun j u hj => up_belL (always_cell w j u hj) HB5.out) _ (ulB (l.length : Int)) rfl H5.out.bt (ul_len_pos _) (by have := HUl.out; rw [hal]; omega) ?_; intro v6 w6 hO6 hB6; have H6 : Hid (Own w6 w.heap.size v6 (always ++ ulB (l.length : Int)) ∧ Below w.heap.size w w6) := ⟨hO6.low (by have := HB5.out.size; simp at this; omega), (((Below.refl _ w).alloc (Nat.le_refl _) _).trans (HB5.out.mono (by simp))).trans (hB6.mono (by have := HB5.out.size; simp at this; omega))⟩; clear hO6 hB6))
  clear hcv HU
  go_loopw [17, 5] (fun iv s5 wr => ∃ k : Nat, k ≤ l.length ∧ iv = .int .i64 k ∧ Hid (Own wr w.heap.size s5 (always ++ (ulB (l.length : Int) ++ namesR (l.take k))) ∧ Below w.heap.size w wr)) (fun iv _ _ => l.length - (intOf iv).toNat)
  case atStart => exact ⟨0, by omega, rfl, ⟨by simpa [namesR] using H6.out.1, H6.out.2⟩⟩
  case round =>
    obtain ⟨k, hk, rfl, HW⟩ := hrel
    by_cases hlt : k < l.length
    · obtain ⟨b, off, rfl, hat⟩ : ∃ b off, fa = some ⟨b, off, none⟩ ∧ ∀ j, j < l.length → wr.cell? ⟨b, off + j, none⟩ = some (.string (l.getD j ByteArray.empty)) := by
        rcases HS.out.bel HW.out.2 with h | h
        · omega
        · exact h
      have q1 : (k : Int) < (l.length : Int) := by omega
      have q0 : (0 : Int) ≤ (k : Int) := by omega
      have c0 := hat k hlt
      clear hat
      have HN : Hid _ := ⟨namesR_at l k hlt⟩
      have HLn : Hid ((always ++ (ulB (l.length : Int) ++ namesR (l.take k))).length ≤ 80000) := ⟨by
        have h1 := namesR_len (all_take HA.out k)
        have h2 := HUl.out
        have h3 : (l.take k).length ≤ 255 := by simp; omega
        simp only [List.length_append, hal]; omega⟩
      have HF : Hid ((l.getD k ByteArray.empty).size ≤ 255) := ⟨by
        have := List.all_eq_true.1 HA.out (l.getD k ByteArray.empty) (by simp [hlt])
        unfold fileB at this
        simp only [Bool.and_eq_true] at this
        have := inB_of this.1; omega⟩
      generalize l.getD k ByteArray.empty = s at *
      have HE : Hid (always ++ (ulB (l.length : Int) ++ namesR (l.take k)) ++ bts s ++ [0] = always ++ (ulB (l.length : Int) ++ namesR (l.take (k + 1)))) := ⟨by rw [HN.out]; simp⟩
      generalize always ++ (ulB (l.length : Int) ++ namesR (l.take k)) = X at *
      have tk : True := trivial
      go_wp2_with (first
        | (at_builtin; have _t := tk; refine append_str wr rfl _ _ rfl w.heap.size u5 X rfl HW.out.1 s rfl (by have := HLn.out; have := HF.out; omega) HW.out.2.size ?_; intro v7 w7 hA7; clear tk _t; have H7 : Hid (AE w.heap.size wr u5 w7 v7 (X ++ bts s)) := ⟨hA7⟩; clear hA7)
        | (at_builtin; refine append_bk (w7.alloc (.cells #[.int .u8 0] 5)) rfl _ _ rfl w.heap.size v7 (X ++ bts s) rfl (H7.out.own.bel ((Below.refl _ _).alloc (Nat.le_refl _) _)) _ [0] rfl (bt_lit w7 0) (by have := HLn.out; have := HF.out; simp [bts_len]; omega) (by have := HW.out.2.size; have := H7.out.gr.size; simp; omega) ?_; intro v8 w8 hA8; have H8 : Hid (AE w.heap.size wr u5 w8 v8 (X ++ bts s ++ [0])) := ⟨H7.out.trans (AE.byte hA8)⟩; clear hA8))
      go_roundw
      case rel => exact ⟨k + 1, hlt, by go_num, ⟨by have := H8.out.own; rwa [HE.out] at this, HW.out.2.trans (H8.out.bel HW.out.1 HW.out.2.size)⟩⟩
      case measure => simp [intOf]; omega
    · obtain rfl : k = l.length := by omega
      rw [List.take_of_length_le (Nat.le_refl _)] at HW
      have HLn : Hid ((behindR l).length ≤ 80000) := ⟨by
        have h1 := namesR_len HA.out
        have h2 := HUl.out
        unfold behindR
        simp only [List.length_append, hal]; omega⟩
      have HH : Hid (headR l n = pl (8 + ((behindR l).length : Int) + n) 4 ++ ([5, 0, 8, 0] ++ (pl ((behindR l).length : Int) 4 ++ behindR l))) := ⟨rfl⟩
      have HW2 : Hid (Own wr w.heap.size u5 (behindR l) ∧ Below w.heap.size w wr) := ⟨HW.out⟩
      clear HW
      generalize behindR l = X at *
      obtain ⟨xa, xc, hxv, hxr, _⟩ := HW2.out.1.bt
      subst hxv
      have HN1 : Hid _ := ⟨word_any (8 + (X.length : Int) + n) (by have := HLn.out; omega)⟩
      have HN2 : Hid _ := ⟨word_any (X.length : Int) (by have := HLn.out; omega)⟩
      have hw1 : wrap64 (8 + (X.length : Int)) = 8 + (X.length : Int) := by have := HLn.out; unfold wrap64; omega
      have hw2 : wrap64 (8 + (X.length : Int) + n) = 8 + (X.length : Int) + n := by have := HLn.out; unfold wrap64; omega
      generalize hN1 : 8 + (X.length : Int) + n = N1 at *
      have HXb : Hid (Below w.heap.size w wr ∧ Own wr w.heap.size (.slice xa X.length xc) X) := ⟨HW2.out.2, HW2.out.1⟩
      clear hxr HW2
      clear H5 HB5 H6
      have tk : True := trivial
      have tk2 : True := trivial
      go_wp2_with (first
        | (go_at_call 42; have _t := tk; (with_reducible refine (HN1.out _).mono ?_); rintro e wa ⟨he, ho1, hb1⟩; subst he; clear tk _t; have HOa : Hid _ := ⟨ho1⟩; have HBa : Hid _ := ⟨hb1⟩; clear ho1 hb1)
        | (at_builtin; have _t := tk2; refine append_str wa rfl _ _ rfl wr.heap.size (.slice (some ⟨wr.heap.size, 0, none⟩) 4 4) (pl N1 4) rfl HOa.out ⟨#[5, 0, 8, 0]⟩ rfl (by rw [pl_len]; decide) HBa.out.size ?_; intro vb wb hAb; clear tk2 _t; have HAb : Hid (AE wr.heap.size wa (.slice (some ⟨wr.heap.size, 0, none⟩) 4 4) wb vb (pl N1 4 ++ bts ⟨#[5, 0, 8, 0]⟩)) := ⟨hAb⟩; have HBb : Hid (Below wr.heap.size wr wb) := ⟨HBa.out.trans (hAb.bel HOa.out HBa.out.size)⟩; clear hAb)
        | (go_at_call 42; (with_reducible refine (HN2.out _).mono ?_); rintro e wd ⟨he, ho1, hb1⟩; subst he; have HOd : Hid _ := ⟨ho1⟩; have HBd : Hid _ := ⟨hb1⟩; clear ho1 hb1)
        | (at_builtin; refine append_bk wd rfl _ _ rfl wr.heap.size vb (pl N1 4 ++ bts ⟨#[5, 0, 8, 0]⟩) rfl (HAb.out.own.bel HBd.out) _ (pl (X.length : Int) 4) rfl HOd.out.bt (by simp [pl_len, bts_len]; decide) (Nat.le_trans HBb.out.size HBd.out.size) ?_; intro ve we hAe; have HAe : Hid (Own we wr.heap.size ve (pl N1 4 ++ bts ⟨#[5, 0, 8, 0]⟩ ++ pl (X.length : Int) 4) ∧ Below wr.heap.size wr we) := ⟨hAe.own, (HBb.out.trans (HBd.out.mono HBb.out.size)).trans (hAe.bel (HAb.out.own.bel HBd.out) (Nat.le_trans HBb.out.size HBd.out.size))⟩; clear hAe)
        | (at_builtin; refine append_bk we rfl _ _ rfl wr.heap.size ve (pl N1 4 ++ bts ⟨#[5, 0, 8, 0]⟩ ++ pl (X.length : Int) 4) rfl HAe.out.1 _ X rfl ((HXb.out.2.bel HAe.out.2).bt) (by have := HLn.out; have : (ByteArray.size ⟨#[5, 0, 8, 0]⟩) = 4 := rfl; simp [pl_len, bts_len]; omega) HAe.out.2.size ?_; intro vf wf hAf; have HAf : Hid (Own wf wr.heap.size vf (pl N1 4 ++ bts ⟨#[5, 0, 8, 0]⟩ ++ pl (X.length : Int) 4 ++ X) ∧ Below wr.heap.size wr wf) := ⟨hAf.own, HAe.out.2.trans (hAf.bel HAe.out.1 HAe.out.2.size)⟩; clear hAf))
      go_ret
      refine ⟨_, rfl, ?_, HXb.out.1.trans (HAf.out.2.mono HXb.out.1.size)⟩
      rw [HH.out]
      have h1 := HAf.out.1.low HXb.out.1.size
      have e : pl N1 4 ++ bts ⟨#[5, 0, 8, 0]⟩ ++ pl (X.length : Int) 4 ++ X = pl N1 4 ++ ([5, 0, 8, 0] ++ (pl (X.length : Int) 4 ++ X)) := by simp; rfl
      rwa [e] at h1
end Go.Proofs.Ytbhdledlahbokaa

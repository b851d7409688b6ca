/- The document's One, Begin and Rows, whole. The document's Begin and Rows, whole. The document's Rows, whole. -/
import Derived.Test.YtomboebfbipaaaaDoorCDB
namespace Go.Proofs.YtomboebfbipaaaaDoor
open Go.ChangeShapes Go.WideShapes Go.ChangeAt Go.RowKit
set_option linter.unusedVariables false
set_option linter.unusedSimpArgs false

theorem oneM_t {b : Bool} {t : Tb} {o : Oq} (h : mayB o = true) (hb : b = true → notB o = false) : oneM b t o = doM t o := by
  unfold oneM
  rw [if_neg (by simp [h]; intro e; simp [hb e])]
theorem oneM_f {t : Tb} {o : Oq} (hb : notB o = true) : oneM true t o = none := by
  unfold oneM
  rw [if_pos (.inr ⟨rfl, hb⟩)]
/-- Every op. -/
theorem rone_any {base tb m : Nat} {w : World} {t : Tb} {vL vK : Value} (h : TD base w tb t vL vK) (b : Bool) (hp : Pl m (!b) t) (hmm : m ≤ 90000) (o : Oq) :
    Calls Tryd.prog 87 #[.pointer (some ⟨tb, 0, none⟩), .agg (oqD o.k o.r o.n), .bool b] w fun e w' => e = .returned (.bool (oneM b t o).isSome) ∧ DEnd base tb w w' (oneM b t o) := by
  obtain ⟨k, r, n⟩ := o
  dsimp only
  cases hm : mayB ⟨k, r, n⟩ with
  | false =>
    have e1 : oneM b t ⟨k, r, n⟩ = none := by unfold oneM; rw [if_pos (.inl hm)]
    rw [e1]
    refine (one_may h k r n b hm).mono ?_
    rintro e w' ⟨rfl, hb⟩
    exact ⟨rfl, hb, fun t' ht => by cases ht⟩
  | true =>
    obtain ⟨j, hj, e⟩ := may_kind hm
    dsimp only at e
    subst e
    have hL := hp.L
    have no : ∀ {k' : Int}, k' = 1 ∨ k' = 9 ∨ k' = 10 ∨ k' = 6 → (j : Int) = k' → b = true → Calls Tryd.prog 87 #[.pointer (some ⟨tb, 0, none⟩), .agg (oqD (j : Int) r n), .bool b] w fun e w' => e = .returned (.bool (oneM b t ⟨(j : Int), r, n⟩).isSome) ∧ DEnd base tb w w' (oneM b t ⟨(j : Int), r, n⟩) := by
      intro k' hk' hjk hb
      subst hb
      have hn : notB ⟨(j : Int), r, n⟩ = true := by rcases hk' with h | h | h | h <;> simp [notB, hjk, h]
      rw [oneM_f hn]
      rw [hjk] at hm ⊢
      have key : Calls Tryd.prog 87 #[.pointer (some ⟨tb, 0, none⟩), .agg (oqD k' r n), .bool true] w fun e w' => e = .returned (.bool false) ∧ Below base w w' := by
        rcases hk' with rfl | rfl | rfl | rfl
        · exact one_beg1 h r n hm
        · exact one_beg9 h r n hm
        · exact one_beg10 h r n hm
        · exact one_beg6 h r n hm
      refine key.mono ?_
      rintro e w' ⟨rfl, hb⟩
      exact ⟨rfl, hb, fun t' ht => by cases ht⟩
    have hcases : j = 0 ∨ j = 1 ∨ j = 2 ∨ j = 3 ∨ j = 4 ∨ j = 5 ∨ j = 6 ∨ j = 7 ∨ j = 8 ∨ j = 9 ∨ j = 10 := by omega
    have yes : ∀ {t2 : Tb} {f : Ending → World → Prop}, True := fun {_ _} => trivial
    rcases hcases with rfl | rfl | rfl | rfl | rfl | rfl | rfl | rfl | rfl | rfl | rfl
    · have e1 : oneM b t ⟨((0 : Nat) : Int), r, n⟩ = some t := by rw [oneM_t hm (fun _ => by simp [notB])]; simp [doM]
      rw [e1]
      exact tone_0 h r n b hm
    · cases b with
      | true => exact no (.inl rfl) rfl rfl
      | false =>
        have e1 := oneM_t (b := false) (t := t) hm (fun e => by cases e)
        have hn := may_adv hm rfl
        dsimp only at hn
        by_cases hpos : 0 < n
        · have e2 : oneM false t ⟨((1 : Nat) : Int), r, n⟩ = if t.now.p + n ≤ t.size then some ⟨t.L ++ [t.now], ⟨t.now.p + n, t.now.r, t.now.n, t.now.z⟩, t.first, t.kept, t.size⟩ else none := by
            rw [e1]; simp [doM, advM, hpos]
          rw [e2]
          refine (tone_1p h r n hm hpos hn.2 hp.p0 (by have := hp.p1; have := hp.s; omega) (by omega)).mono ?_
          rintro e w' ⟨rfl, hb, vL', vK', hT⟩
          by_cases hs : t.now.p + n ≤ t.size
          · rw [if_pos hs]
            exact ⟨by simp [hs], hb, fun t' ht => by cases ht; exact ⟨_, _, hT⟩⟩
          · rw [if_neg hs]
            exact ⟨by simp [hs], hb, fun t' ht => by cases ht⟩
        · obtain rfl : n = 0 := by omega
          have e2 : oneM false t ⟨((1 : Nat) : Int), r, 0⟩ = some t := by
            rw [e1]; simp [doM, advM, hp.p1]
          rw [e2]
          refine (tone_1z h r 0 hm rfl).mono ?_
          rintro e w' ⟨rfl, hb, vL', vK', hT⟩
          exact ⟨by simp [hp.p1], hb, fun t' ht => by cases ht; exact ⟨_, _, hT⟩⟩
    · have e1 : oneM b t ⟨((2 : Nat) : Int), r, n⟩ = some ⟨t.L, ⟨t.now.p, r, n, t.now.z⟩, t.first, t.kept, t.size⟩ := by rw [oneM_t hm (fun _ => by simp [notB])]; simp [doM]
      rw [e1]
      exact tone_2 h r n b hm
    · have e1 : oneM b t ⟨((3 : Nat) : Int), r, n⟩ = if 0 ≤ t.now.r then some ⟨t.L, ⟨t.now.p, t.now.r, n, t.now.z⟩, t.first, t.kept, t.size⟩ else none := by rw [oneM_t hm (fun _ => by simp [notB])]; simp [doM]
      rw [e1]
      refine (tone_3 h r n b hm).mono ?_
      rintro e w' ⟨rfl, hb, vL', vK', hT⟩
      by_cases hs : 0 ≤ t.now.r
      · rw [if_pos hs]
        exact ⟨by simp [hs], hb, fun t' ht => by cases ht; exact ⟨_, _, hT⟩⟩
      · rw [if_neg hs]
        exact ⟨by simp [hs], hb, fun t' ht => by cases ht⟩
    · have e1 : oneM b t ⟨((4 : Nat) : Int), r, n⟩ = if 0 ≤ t.now.r then some ⟨t.L, ⟨t.now.p, r, t.now.n, t.now.z⟩, t.first, t.kept, t.size⟩ else none := by rw [oneM_t hm (fun _ => by simp [notB])]; simp [doM]
      rw [e1]
      refine (tone_4 h r n b hm).mono ?_
      rintro e w' ⟨rfl, hb, vL', vK', hT⟩
      by_cases hs : 0 ≤ t.now.r
      · rw [if_pos hs]
        exact ⟨by simp [hs], hb, fun t' ht => by cases ht; exact ⟨_, _, hT⟩⟩
      · rw [if_neg hs]
        exact ⟨by simp [hs], hb, fun t' ht => by cases ht⟩
    · have e1 : oneM b t ⟨((5 : Nat) : Int), r, n⟩ = some ⟨t.L, t.now.set r (2, n), t.first, t.kept, t.size⟩ := by rw [oneM_t hm (fun _ => by simp [notB])]; simp [doM]
      rw [e1]
      refine (tone_5 h r n b hm).mono ?_
      rintro e w' ⟨rfl, hb, vL', vK', hT⟩
      exact ⟨rfl, hb, fun t' ht => by cases ht; exact ⟨_, _, hT⟩⟩
    · cases b with
      | true => exact no (.inr (.inr (.inr rfl))) rfl rfl
      | false =>
        have e1 : oneM false t ⟨((6 : Nat) : Int), r, n⟩ = some ⟨t.L, t.now.set r (t.first.z.getD r.toNat (0, 0)), t.first, t.kept, t.size⟩ := by rw [oneM_t hm (fun e => by cases e)]; simp [doM]
        rw [e1]
        refine (tone_6 h r n hm).mono ?_
        rintro e w' ⟨rfl, hb, vL', vK', hT⟩
        exact ⟨rfl, hb, fun t' ht => by cases ht; exact ⟨_, _, hT⟩⟩
    · have e1 : oneM b t ⟨((7 : Nat) : Int), r, n⟩ = some ⟨t.L, t.now.set r (1, 0), t.first, t.kept, t.size⟩ := by rw [oneM_t hm (fun _ => by simp [notB])]; simp [doM]
      rw [e1]
      refine (tone_7 h r n b hm).mono ?_
      rintro e w' ⟨rfl, hb, vL', vK', hT⟩
      exact ⟨rfl, hb, fun t' ht => by cases ht; exact ⟨_, _, hT⟩⟩
    · have e1 : oneM b t ⟨((8 : Nat) : Int), r, n⟩ = some ⟨t.L, t.now.set r (0, 0), t.first, t.kept, t.size⟩ := by rw [oneM_t hm (fun _ => by simp [notB])]; simp [doM]
      rw [e1]
      refine (tone_8 h r n b hm).mono ?_
      rintro e w' ⟨rfl, hb, vL', vK', hT⟩
      exact ⟨rfl, hb, fun t' ht => by cases ht; exact ⟨_, _, hT⟩⟩
    · cases b with
      | true => exact no (.inr (.inl rfl)) rfl rfl
      | false =>
        have e1 : oneM false t ⟨((9 : Nat) : Int), r, n⟩ = if t.kept.length + 1 ≤ 64 then some ⟨t.L, t.now, t.first, t.kept ++ [t.now], t.size⟩ else none := by rw [oneM_t hm (fun e => by cases e)]; simp [doM]
        rw [e1]
        refine (tone_9 h r n hm hp.K).mono ?_
        rintro e w' ⟨rfl, hb, vL', vK', hT⟩
        by_cases hs : t.kept.length + 1 ≤ 64
        · rw [if_pos hs]
          exact ⟨by simp [hs], hb, fun t' ht => by cases ht; exact ⟨_, _, hT⟩⟩
        · rw [if_neg hs]
          exact ⟨by simp [hs], hb, fun t' ht => by cases ht⟩
    · cases b with
      | true => exact no (.inr (.inr (.inl rfl))) rfl rfl
      | false =>
        have e1 : oneM false t ⟨((10 : Nat) : Int), r, n⟩ = recM t := by rw [oneM_t hm (fun e => by cases e)]; simp [doM]
        rw [e1]
        rcases List.eq_nil_or_concat t.kept with hk | ⟨l, q, hk⟩
        · have e2 : recM t = none := by unfold recM; rw [hk]; rfl
          rw [e2]
          refine (tone_10n h r n hm hk).mono ?_
          rintro e w' ⟨rfl, hb⟩
          exact ⟨rfl, hb, fun t' ht => by cases ht⟩
        · rw [List.concat_eq_append] at hk
          have e2 : recM t = some ⟨t.L, ⟨t.now.p, q.r, q.n, q.z⟩, t.first, l, t.size⟩ := by unfold recM; rw [hk]; simp
          rw [e2]
          refine (tone_10s h r n hm l q hk hp.K).mono ?_
          rintro e w' ⟨rfl, hb, vL', vK', hT⟩
          exact ⟨rfl, hb, fun t' ht => by cases ht; exact ⟨_, _, hT⟩⟩


set_option maxRecDepth 10000 in
set_option maxHeartbeats 1000000 in
/-- The initial ops. -/
theorem rbegin_any {base tb : Nat} {w0 w : World} {t : Tb} {vL vK : Value} (h : TD base w tb t vL vK) (hp : Pl 0 false t) (ao : Option Addr) (c : Nat) (l : List Oq) (hm : l.length ≤ 4000) (hb : base = w0.heap.size) (hq : Oqs w0 ao l) (hB : Below base w0 w) :
    Calls Tryd.prog 86 #[.pointer (some ⟨tb, 0, none⟩), .slice ao l.length c] w fun e w' => e = .returned (.bool (begM t l).isSome) ∧ DEnd base tb w w' (begM t l) := by
  subst hb
  obtain ⟨R, hR⟩ : ∃ R, begM t l = R := ⟨_, rfl⟩
  obtain ⟨r, hr⟩ : ∃ r, R.isSome = r := ⟨_, rfl⟩
  rw [hR, hr]
  have HX : Hid (begM t l = R ∧ R.isSome = r) := ⟨hR, hr⟩
  have HH : Hid _ := ⟨h⟩
  have HP : Hid _ := ⟨hp⟩
  have HQ : Hid _ := ⟨hq⟩
  have HBB : Hid _ := ⟨hB⟩
  clear hR hr h hp hq hB
  go_enter Tryd.func86, Tryd.ntmps86
  go_wp2
  go_loopw [5] (fun iv wr => ∃ k : Nat, k ≤ l.length ∧ iv = .int .i64 k ∧ Hid (∃ tk vL vK, opsM true t (l.take k) = some tk ∧ TD w0.heap.size wr tb tk vL vK ∧ Pl (0 + k) false tk ∧ Below w0.heap.size w wr)) (fun iv _ => l.length - (intOf iv).toNat)
  case atStart => exact ⟨0, by omega, rfl, ⟨t, vL, vK, rfl, HH.out, HP.out, Below.refl _ _⟩⟩
  case round =>
    obtain ⟨k, hk, rfl, HW⟩ := hrel
    by_cases hlt : k < l.length
    · have hlti : (k : Int) < (l.length : Int) := by omega
      obtain ⟨tk, vL1, vK1, hops, hT, hPl, hBw⟩ := HW.out
      obtain ⟨b, off, rfl, hat⟩ : ∃ b off, ao = some ⟨b, off, none⟩ ∧ ∀ i, i < l.length → OqAt wr b (off + i * 3) (l.getD i Oq.none) := by
        rcases HQ.out.below (HBB.out.trans hBw) (Nat.le_refl _) with h | h
        · rw [h] at hlt; simp at hlt
        · exact h
      obtain ⟨c0, c1, c2⟩ := hat k hlt
      have hnext := ops_take hlt hops
      clear hat HW
      generalize l.getD k Oq.none = o at *
      have HN : Hid _ := ⟨hnext⟩
      have HD : Hid _ := ⟨rone_any hT true hPl (by omega) o⟩
      have HBw : Hid _ := ⟨hBw⟩
      have HPl : Hid _ := ⟨hPl⟩
      clear hnext hops hT hPl hBw
      cases hone : oneM true tk o with
      | none =>
        rw [hone] at HD HN
        have hRn : R = none := by rw [← HX.out.1]; unfold begM; rw [ops_none HN.out]
        obtain rfl : r = false := by rw [← HX.out.2, hRn]; rfl
        subst hRn
        clear hone
        go_wp2_with (go_at_call 87; (with_reducible refine HD.out.mono ?_); rintro e w4 ⟨he, hb4⟩; subst he; have HB4 : Hid _ := ⟨hb4⟩; clear hb4)
        go_ret
        exact ⟨rfl, HBw.out.trans HB4.out.1, fun t' ht => by cases ht⟩
      | some t2 =>
        rw [hone] at HD HN
        have hd2 : Pl (0 + k + 1) false t2 := pl_do HPl.out (oneM_some hone).1 (by rw [← oneM_d (oneM_some hone).1]; exact hone)
        have HP2 : Hid _ := ⟨hd2⟩
        clear hone hd2
        go_wp2_with (go_at_call 87; (with_reducible refine HD.out.mono ?_); rintro e w4 ⟨he, hb4⟩; subst he; have HB4 : Hid _ := ⟨hb4⟩; clear hb4)
        go_roundw
        case rel =>
          obtain ⟨v1, v2, hT4⟩ := HB4.out.2 t2 rfl
          exact ⟨k + 1, hlt, by go_num, ⟨t2, v1, v2, HN.out, hT4, HP2.out, HBw.out.trans HB4.out.1⟩⟩
        case measure => simp [intOf]; omega
    · obtain rfl : k = l.length := by omega
      obtain ⟨tk, vL1, vK1, hops, hT, hPl, hBw⟩ := HW.out
      rw [List.take_of_length_le (Nat.le_refl _)] at hops
      have hX : begM t l = if 0 ≤ tk.now.r then some ⟨tk.L, tk.now, tk.now, tk.kept, tk.size⟩ else none := by unfold begM; rw [hops]
      rw [HX.out.1] at hX
      have HXX : Hid _ := ⟨hX⟩
      have HT : Hid _ := ⟨hT⟩
      have HBw : Hid _ := ⟨hBw⟩
      have hb0 : w0.heap.size ≤ tb := hT.lo
      have hwf := hT.wf
      clear hPl hBw HW hops hX
      have H5 : TD w0.heap.size (wr.setRow tb (dC ⟨tk.L, tk.now, tk.now, tk.kept, tk.size⟩ vL1 vK1).toArray) tb ⟨tk.L, tk.now, tk.now, tk.kept, tk.size⟩ vL1 vK1 := hT.put (t' := ⟨tk.L, tk.now, tk.now, tk.kept, tk.size⟩) rfl rfl ⟨hwf.L, hwf.now, hwf.now, hwf.kept⟩ rfl
      go_upto_region 7 with (first
        | (refine wpList_load_mid rfl 143 _ rfl tb 1 (by rfl) tk.now.cells _ hT.rnow Tryd.underlying143 rfl (by rw [sizeRowD, Rw.cells_len hwf.now]) ?_)
        | (refine wpList_part (g := tb) (off := 38) (val := .agg tk.now.cells.toArray) (new := (dC ⟨tk.L, tk.now, tk.now, tk.kept, tk.size⟩ vL1 vK1).toArray) rfl rfl (by rfl) (by rfl) hT.bk (by rw [sizeRowD]; simp [Value.cells, Rw.cells_len hwf.now]) (by rw [hT.len]; simp [Value.cells, Rw.cells_len hwf.now]) (by simpa [Value.cells] using rw_one tk.now) (by simpa [Value.cells] using dput_first hwf tk.now hwf.now) ?_))
      have B5 := below_set wr tb (dC ⟨tk.L, tk.now, tk.now, tk.kept, tk.size⟩ vL1 vK1).toArray hb0
      have HH5 : Hid _ := ⟨H5⟩
      have HB5 : Hid _ := ⟨B5⟩
      have d0 := H5.r
      dsimp only at d0
      clear hT H5 B5
      generalize wr.setRow tb (dC ⟨tk.L, tk.now, tk.now, tk.kept, tk.size⟩ vL1 vK1).toArray = W5 at *
      by_cases hr : 0 ≤ tk.now.r
      · have hRR : R = some ⟨tk.L, tk.now, tk.now, tk.kept, tk.size⟩ := by have := HXX.out; rw [if_pos hr] at this; exact this
        obtain rfl : r = true := by rw [← HX.out.2, hRR]; rfl
        go_wp2_with fail
        go_ret
        refine ⟨rfl, HBw.out.trans HB5.out, fun t' ht => ?_⟩
        first | rw [hRR] at ht | skip
        cases ht
        exact ⟨vL1, vK1, HH5.out⟩
      · have hRR : R = none := by have := HXX.out; rw [if_neg hr] at this; exact this
        obtain rfl : r = false := by rw [← HX.out.2, hRR]; rfl
        go_wp2_with fail
        go_ret
        refine ⟨rfl, HBw.out.trans HB5.out, fun t' ht => ?_⟩
        first | rw [hRR] at ht | skip
        cases ht

set_option maxRecDepth 10000 in
set_option maxHeartbeats 1000000 in
theorem rrows_any (a1 : Option Addr) (c1 : Nat) (i : List Oq) (a2 : Option Addr) (c2 : Nat) (l : List Oq) (size : Int) (w : World) (hi1 : i.length ≤ 5864062014634) (hl1 : l.length ≤ 11728124029268) (hs : -9223372036854775808 ≤ size ∧ size ≤ 9223372036854775807) (hI : Oqs w a1 i) (hL : Oqs w a2 l) :
    Calls Tryd.prog 67 #[.slice a1 i.length c1, .slice a2 l.length c2, .int .i64 size] w fun e w' => ∃ v, e = .returned (.tuple #[v, .int .i64 (rowsE i l size)]) ∧ OwnV w' w.heap.size v (rowsL i l size) ∧ Below w.heap.size w w' := by
  obtain ⟨E, hE⟩ : ∃ E, rowsE i l size = E := ⟨_, rfl⟩
  obtain ⟨R, hR⟩ : ∃ R, rowsL i l size = R := ⟨_, rfl⟩
  rw [hE, hR]
  have hno : E ≠ 0 → R = [] := fun h => by rw [← hR]; exact rows_no (by rw [hE]; exact h)
  have HNo : Hid _ := ⟨hno⟩
  have HER : Hid (rowsE i l size = E ∧ rowsL i l size = R) := ⟨hE, hR⟩
  have HI : Hid _ := ⟨hI⟩
  have HL : Hid _ := ⟨hL⟩
  clear hE hR hno hI hL
  by_cases hz : size < 0 ∨ 1048576 < size
  · obtain rfl : E = 11 := by rw [← HER.out.1]; unfold rowsE; rw [if_pos hz]
    obtain rfl : R = [] := HNo.out (by decide)
    by_cases hz1 : size < 0
    · go_enter Tryd.func67, Tryd.ntmps67
      go_wp2_with fail
      go_ret2
      exact ⟨_, rfl, OwnV.nil _ _, Below.refl _ _⟩
    · have hz2 : 1048576 < size := by omega
      go_enter Tryd.func67, Tryd.ntmps67
      go_wp2_with fail
      go_ret2
      exact ⟨_, rfl, OwnV.nil _ _, Below.refl _ _⟩
  have hz1 : ¬ size < 0 := by omega
  have hz2 : ¬ 1048576 < size := by omega
  by_cases hn : 4000 < i.length ∨ 4000 < l.length
  · obtain rfl : E = 6 := by rw [← HER.out.1]; unfold rowsE; rw [if_neg hz, if_pos hn]
    obtain rfl : R = [] := HNo.out (by decide)
    by_cases hn1 : 4000 < i.length
    · have g1 : (4000 : Int) < (i.length : Int) := by omega
      go_enter Tryd.func67, Tryd.ntmps67
      go_wp2_with fail
      go_ret2
      exact ⟨_, rfl, OwnV.nil _ _, Below.refl _ _⟩
    · have g1 : ¬ (4000 : Int) < (i.length : Int) := by omega
      have g2 : (4000 : Int) < (l.length : Int) := by omega
      go_enter Tryd.func67, Tryd.ntmps67
      go_wp2_with fail
      go_ret2
      exact ⟨_, rfl, OwnV.nil _ _, Below.refl _ _⟩
  have g1 : ¬ (4000 : Int) < (i.length : Int) := by omega
  have g2 : ¬ (4000 : Int) < (l.length : Int) := by omega
  have hi4 : i.length ≤ 4000 := by omega
  have hl4 : l.length ≤ 4000 := by omega
  have hE := rowsE_tab hz hn
  have hRR : rowsL i l size = (match tabM i l size with | none => [] | some t => t.L ++ [t.now]) := by
    unfold rowsL; rw [if_neg hz, if_neg hn]; cases tabM i l size <;> rfl
  rw [HER.out.1] at hE
  rw [HER.out.2] at hRR
  have HE2 : Hid _ := ⟨hE⟩
  have HR2 : Hid _ := ⟨hRR⟩
  clear hE hRR
  have HNew : Hid _ := ⟨rnew_any size w⟩
  have HBg : Hid (∀ (tb : Nat) (w1 : World), TD w.heap.size w1 tb (tbNew size) (.slice none 0 0) (.slice none 0 0) → Below w.heap.size w w1 → Calls Tryd.prog 86 #[.pointer (some ⟨tb, 0, none⟩), .slice a1 i.length c1] w1 fun e w' => e = .returned (.bool (begM (tbNew size) i).isSome) ∧ DEnd w.heap.size tb w1 w' (begM (tbNew size) i)) := ⟨fun tb w1 hT hB => rbegin_any hT (pl_new (by omega) (by omega)) a1 c1 i hi4 rfl HI.out hB⟩
  cases hb : begM (tbNew size) i with
  | none =>
    have hT : tabM i l size = none := by unfold tabM; rw [hb]
    have hE := HE2.out
    rw [hT] at hE
    dsimp only at hE
    subst hE
    obtain rfl : R = [] := HNo.out (by decide)
    rw [hb] at HBg
    clear hb hT
    go_enter Tryd.func67, Tryd.ntmps67
    go_wp2_with (first
      | (go_at_call 85; (with_reducible refine HNew.out.mono ?_); rintro e w1 ⟨tb, he, hT1, hB1⟩; subst he; have HT1 : Hid _ := ⟨hT1⟩; have HB1 : Hid _ := ⟨hB1⟩; clear hT1 hB1)
      | (go_at_call 86; (with_reducible refine (HBg.out _ _ HT1.out HB1.out).mono ?_); rintro e w2 ⟨he, hE2⟩; subst he; have HB2 : Hid _ := ⟨hE2.1⟩; clear hE2))
    go_ret2
    exact ⟨_, rfl, OwnV.nil _ _, HB1.out.trans HB2.out⟩
  | some t1 =>
    have hT : tabM i l size = opsM false t1 l := by unfold tabM; rw [hb]
    have hP1 : Pl 4000 true t1 := by
      unfold begM at hb
      cases ho : opsM true (tbNew size) i with
      | none => rw [ho] at hb; cases hb
      | some t0 =>
        rw [ho] at hb
        have hp := pl_ops (bg := false) (pl_new (by omega) (by omega)) ho
        by_cases hr : 0 ≤ t0.now.r
        · simp [hr] at hb
          subst hb
          exact ⟨hp.p0, hp.p1, hp.s, by have := hp.L; dsimp only; omega, hp.K, (fun e => by cases e), hp.r, hp.kr⟩
        · simp [hr] at hb
    have HP1 : Hid _ := ⟨hP1⟩
    rw [hb] at HBg
    rw [hT] at HE2 HR2
    clear hb hT hP1
    go_enter Tryd.func67, Tryd.ntmps67
    go_wp2_with (first
      | (go_at_call 85; (with_reducible refine HNew.out.mono ?_); rintro e w1 ⟨tb, he, hT1, hB1⟩; subst he; have HT1 : Hid _ := ⟨hT1⟩; have HB1 : Hid _ := ⟨hB1⟩; clear hT1 hB1)
      | (go_at_call 86; (with_reducible refine (HBg.out _ _ HT1.out HB1.out).mono ?_); rintro e w2 ⟨he, hE2⟩; subst he; obtain ⟨vL2, vK2, hT2⟩ := hE2.2 t1 rfl; have HT2 : Hid _ := ⟨hT2⟩; have HB2 : Hid (Below w.heap.size w w2) := ⟨HB1.out.trans hE2.1⟩; clear hE2 hT2))
    go_loopw [9] (fun iv wr => ∃ k : Nat, k ≤ l.length ∧ iv = .int .i64 k ∧ Hid (∃ tk vL vK, opsM false t1 (l.take k) = some tk ∧ TD w.heap.size wr tb tk vL vK ∧ Pl (4000 + k) true tk ∧ Below w.heap.size w wr)) (fun iv _ => l.length - (intOf iv).toNat)
    case atStart => exact ⟨0, by omega, rfl, ⟨t1, vL2, vK2, rfl, HT2.out, HP1.out, HB2.out⟩⟩
    case round =>
      obtain ⟨k, hk, rfl, HW⟩ := hrel
      by_cases hlt : k < l.length
      · have hlti : (k : Int) < (l.length : Int) := by omega
        obtain ⟨tk, vL1, vK1, hops, hT, hPl, hBw⟩ := HW.out
        obtain ⟨b, off, rfl, hat⟩ : ∃ b off, a2 = some ⟨b, off, none⟩ ∧ ∀ i, i < l.length → OqAt wr b (off + i * 3) (l.getD i Oq.none) := by
          rcases HL.out.below hBw (Nat.le_refl _) with h | h
          · rw [h] at hlt; simp at hlt
          · exact h
        obtain ⟨c0, c1, c2⟩ := hat k hlt
        have hnext := ops_take hlt hops
        clear hat HW
        generalize l.getD k Oq.none = o at *
        have HN : Hid _ := ⟨hnext⟩
        have HD : Hid _ := ⟨rone_any hT false hPl (by omega) o⟩
        have HBw : Hid _ := ⟨hBw⟩
        have HPl : Hid _ := ⟨hPl⟩
        clear hnext hops hT hPl hBw
        cases hone : oneM false tk o with
        | none =>
          rw [hone] at HD HN
          have hE := HE2.out
          rw [ops_none HN.out] at hE
          dsimp only at hE
          subst hE
          obtain rfl : R = [] := HNo.out (by decide)
          clear hone
          go_wp2_with (go_at_call 87; (with_reducible refine HD.out.mono ?_); rintro e w4 ⟨he, hb4⟩; subst he; have HB4 : Hid _ := ⟨hb4⟩; clear hb4)
          go_ret2
          exact ⟨_, rfl, OwnV.nil _ _, HBw.out.trans HB4.out.1⟩
        | some t2 =>
          rw [hone] at HD HN
          have hd2 : Pl (4000 + k + 1) true t2 := pl_do HPl.out (oneM_some hone).1 (by rw [← oneM_d (oneM_some hone).1]; exact hone)
          have HP2 : Hid _ := ⟨hd2⟩
          clear hone hd2
          go_wp2_with (go_at_call 87; (with_reducible refine HD.out.mono ?_); rintro e w4 ⟨he, hb4⟩; subst he; have HB4 : Hid _ := ⟨hb4⟩; clear hb4)
          go_roundw
          case rel =>
            obtain ⟨v1, v2, hT4⟩ := HB4.out.2 t2 rfl
            exact ⟨k + 1, hlt, by go_num, ⟨t2, v1, v2, HN.out, hT4, HP2.out, HBw.out.trans HB4.out.1⟩⟩
          case measure => simp [intOf]; omega
      · obtain rfl : k = l.length := by omega
        obtain ⟨t, vL, vK, hops, hTA, hPl, hBB⟩ := HW.out
        rw [List.take_of_length_le (Nat.le_refl _)] at hops
        have hE := HE2.out
        rw [hops] at hE
        dsimp only at hE
        subst hE
        have hRR := HR2.out
        rw [hops] at hRR
        dsimp only at hRR
        have h8 : t.L.length ≤ 8000 := by have := hPl.L; omega
        clear hops hPl HW
        clear HNew HBg HT1 HB1 HT2 HB2 HNo HER HE2 HR2 HI HL
        go_upto_region 13 with fail
        have H4 := hTA.bel ((Below.refl wr.heap.size wr).drew)
        have B4 := hBB.trans ((Below.refl w.heap.size wr).drew)
        obtain ⟨ar, cr, hvr, _⟩ := hTA.L.any
        refine wp_region_held_drew (S := fun u => u.cell? ⟨tb, 0, none⟩ = some (.slice ar t.L.length cr) ∧ u.rangeAt tb 1 t.now.cells) (by kernel_rfl) ⟨hvr ▸ H4.rows, H4.rnow⟩ (fun hS => ?_)
        generalize wr.drew = W4 at *
        refine wpAnyH_take (i := 0) (v := .pointer (some ⟨tb, 0, none⟩)) rfl (by kernel_rfl) (by kernel_rfl) (by kernel_rfl) (fun _ _ _ h => h) (Or.inl ⟨by kernel_rfl, fun u hu => by kernel_rfl⟩) hS ?_
        simp only [Act.put, List.getElem_toArray, List.getElem_cons_succ, List.getElem_cons_zero, List.setIfInBounds_toArray, List.set_cons_zero, List.set_cons_succ]
        refine wpAnyH_take (i := 1) (v := .pointer (some ⟨tb, 0, none⟩)) rfl (by kernel_rfl) (by kernel_rfl) (by kernel_rfl) (fun _ _ _ h => h) (Or.inl ⟨by kernel_rfl, fun u hu => by kernel_rfl⟩) hS ?_
        simp only [Act.put, List.getElem_toArray, List.getElem_cons_succ, List.getElem_cons_zero, List.setIfInBounds_toArray, List.set_cons_zero, List.set_cons_succ]
        refine wpAnyH_take (i := 2) (v := .pointer (some ⟨tb, 0, none⟩)) rfl (by kernel_rfl) (by kernel_rfl) (by kernel_rfl) (fun _ _ _ h => h) (Or.inl ⟨by kernel_rfl, fun u hu => by kernel_rfl⟩) hS ?_
        simp only [Act.put, List.getElem_toArray, List.getElem_cons_succ, List.getElem_cons_zero, List.setIfInBounds_toArray, List.set_cons_zero, List.set_cons_succ]
        refine wpAnyH_take (i := 3) (v := .slice ar t.L.length cr) rfl (by kernel_rfl) (by kernel_rfl) (by kernel_rfl) (fun _ _ _ h => h) (Or.inl ⟨by kernel_rfl, fun u hu => exec_loadV (t := 109) (p := ⟨tb, 0, none⟩) rfl (by kernel_rfl) (load_rowsD hu.1)⟩) hS ?_
        simp only [Act.put, List.getElem_toArray, List.getElem_cons_succ, List.getElem_cons_zero, List.setIfInBounds_toArray, List.set_cons_zero, List.set_cons_succ]
        refine wpAnyH_take (i := 4) (v := .pointer (some ⟨tb, 0, none⟩)) rfl (by kernel_rfl) (by kernel_rfl) (by kernel_rfl) (fun _ _ _ h => h) (Or.inl ⟨by kernel_rfl, fun u hu => by kernel_rfl⟩) hS ?_
        simp only [Act.put, List.getElem_toArray, List.getElem_cons_succ, List.getElem_cons_zero, List.setIfInBounds_toArray, List.set_cons_zero, List.set_cons_succ]
        refine wpAnyH_take (i := 5) (v := .pointer (some ⟨tb, 0, none⟩)) rfl (by kernel_rfl) (by kernel_rfl) (by kernel_rfl) (fun _ _ _ h => h) (Or.inl ⟨by kernel_rfl, fun u hu => by kernel_rfl⟩) hS ?_
        simp only [Act.put, List.getElem_toArray, List.getElem_cons_succ, List.getElem_cons_zero, List.setIfInBounds_toArray, List.set_cons_zero, List.set_cons_succ]
        refine wpAnyH_take (i := 6) (v := .pointer (some ⟨tb, 1, none⟩)) rfl (by kernel_rfl) (by kernel_rfl) (by kernel_rfl) (fun _ _ _ h => h) (Or.inl ⟨by kernel_rfl, fun u hu => by kernel_rfl⟩) hS ?_
        simp only [Act.put, List.getElem_toArray, List.getElem_cons_succ, List.getElem_cons_zero, List.setIfInBounds_toArray, List.set_cons_zero, List.set_cons_succ]
        refine wpAnyH_take (i := 7) (v := .agg t.now.cells.toArray) rfl (by kernel_rfl) (by kernel_rfl) (by kernel_rfl) (fun _ _ _ h => h) (Or.inl ⟨by kernel_rfl, fun u hu => exec_loadV (t := 143) (p := ⟨tb, 1, none⟩) rfl (by kernel_rfl) (load_rowD hTA.wf.now hu.2)⟩) hS ?_
        simp only [Act.put, List.getElem_toArray, List.getElem_cons_succ, List.getElem_cons_zero, List.setIfInBounds_toArray, List.set_cons_zero, List.set_cons_succ]
        have B5 : Below W4.heap.size W4 (W4.alloc (.cells t.now.cells.toArray 143)) := (Below.refl _ _).alloc (Nat.le_refl _) _
        have H5 := H4.bel B5
        have N5 : Bk (W4.alloc (.cells t.now.cells.toArray 143)) W4.heap.size 143 t.now.cells.toArray := Bk.new _ _ _
        have hb4 : w.heap.size ≤ W4.heap.size := B4.size
        have hb5 : w.heap.size ≤ (W4.alloc (.cells t.now.cells.toArray 143)).heap.size := Nat.le_trans hb4 B5.size
        refine wpAnyH_ready (rs := [8]) (by kernel_rfl) (by simp) ?_
        refine AllReadyH.cons rfl (fun K hK => ?_) AllReadyH.nil
        simp only [List.getElem_toArray, List.getElem_cons_succ, List.getElem_cons_zero]
        refine wp_if (by kernel_rfl) ?_
        refine wp_val (v := .slice (some ⟨W4.heap.size, 0, none⟩) 1 1) (exec_build_rowD W4 t.now hTA.wf.now rfl (by kernel_rfl)) ?_
        refine hK.out _ _ ⟨hvr ▸ H5.rows, H5.rnow⟩ (fun hS => ?_)
        clear hK
        simp only [Act.put, List.getElem_toArray, List.getElem_cons_succ, List.getElem_cons_zero, List.setIfInBounds_toArray, List.set_cons_zero, List.set_cons_succ]
        refine wpAnyH_ready (rs := [9]) (by kernel_rfl) (by simp) ?_
        refine AllReadyH.cons rfl (fun K hK => ?_) AllReadyH.nil
        simp only [List.getElem_toArray, List.getElem_cons_succ, List.getElem_cons_zero]
        refine wp_if (by kernel_rfl) ?_
        refine wp_append_rowD rfl H5.L (by rw [hvr]; rfl) (by kernel_rfl) N5 hTA.wf.now (by omega) hb5 (fun v6 w6 ho6 hg hbk => ?_)
        have B6 : Below w.heap.size w w6 := (B4.trans (B5.mono hb4)).trans (bel_grown hg (fun k hk => (hTA.L.2.lt k hk).1) hb5)
        refine hK.out _ _ ⟨hvr ▸ (World.cell?_of_block (a := ⟨tb, 0, none⟩) (hg.block tb H5.bk.lt (Ne.symm hTA.nr))).trans H5.rows, rnow_grownD H5 hg hTA.nr⟩ (fun hS => ?_)
        clear hK
        simp only [Act.put, List.getElem_toArray, List.getElem_cons_succ, List.getElem_cons_zero, List.setIfInBounds_toArray, List.set_cons_zero, List.set_cons_succ]
        refine wpAnyH_take (i := 10) (v := v6) rfl (by kernel_rfl) (by kernel_rfl) (by kernel_rfl) (fun _ _ _ h => h) (Or.inl ⟨by kernel_rfl, fun u hu => by kernel_rfl⟩) hS ?_
        simp only [Act.put, List.getElem_toArray, List.getElem_cons_succ, List.getElem_cons_zero, List.setIfInBounds_toArray, List.set_cons_zero, List.set_cons_succ]
        refine wpAnyH_take (i := 11) (v := .int .i64 0) rfl (by kernel_rfl) (by kernel_rfl) (by kernel_rfl) (fun _ _ _ h => h) (Or.inl ⟨by kernel_rfl, fun u hu => by kernel_rfl⟩) hS ?_
        simp only [Act.put, List.getElem_toArray, List.getElem_cons_succ, List.getElem_cons_zero, List.setIfInBounds_toArray, List.set_cons_zero, List.set_cons_succ]
        refine wpAnyH_done (by kernel_rfl) ?_ _
        have HO6 : Hid _ := ⟨ho6⟩
        have HB6 : Hid _ := ⟨B6⟩
        clear hS hvr ho6 B6
        go_wp2_with fail
        go_ret2
        refine ⟨_, rfl, ?_, HB6.out⟩
        rw [hRR]
        exact HO6.out
end Go.Proofs.YtomboebfbipaaaaDoor

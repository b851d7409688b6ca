/- ResolveLooks: the law's walk. -/
import Derived.Test.YtgoaegembijdcaaRRefL
import Derived.Test.YtgoaegembijdcaaRLive
import Derived.Test.YtgoaegembijdcaaROpen
import Derived.Deep.RegionHeldLaw
import Derived.Deep.AppendLies
namespace Go.Proofs.Ytgoaegembijdcaa
open Go.ChangeShapes Go.WideShapes Go.ChangeAt Go.RowKit Go.Maps
set_option linter.unusedVariables false
set_option linter.unusedSimpArgs false

theorem own_ents {e : Nat} {w : World} {base : Nat} {ao : Option Addr} {cap : Nat} {l : List En} (h : OwnR e 5 encE w base (.slice ao l.length cap) l) : Ents w ao l := by
  obtain ⟨ao', cap', hv, _, _, _, hc⟩ := h.any encE_len
  injection hv with h1 h2 h3
  subst h1
  rcases hc with hc | ⟨g, hg, _, _, hc⟩
  · exact .inl hc
  · refine .inr ⟨g, 0, hg, fun i hi => ?_⟩
    have h := hc i hi
    have e : l.getD i En.zero = l[i] := by simp [hi]
    rw [e]
    rw [Nat.zero_add]
    exact ⟨h 0 (by decide), h 1 (by decide), h 2 (by decide), h 3 (by decide), h 4 (by decide)⟩

set_option maxHeartbeats 16000000 in
set_option maxRecDepth 20000 in
theorem resolveLooks_walk (ao : Option Addr) (c : Nat) (l : List Fl) (ta : Option Addr) (tc : Nat) (t : List En) (o : Int) (n : ByteArray) (w : World) (hl : Fls w ao l ∧ FlsC l ∧ (ao = none → c = 0)) (ht : Ents w ta t ∧ t.length ≤ 1048576) (ho : (Lit.int .i64 o).wf = true) :
    Calls Try.prog 3 #[.slice ao l.length c, .slice ta t.length tc, .int .i64 o, .string n] w fun e w' => e = .returned (.bool true) ∧ Below w.heap.size w w' := by
  obtain ⟨hr, hC, _⟩ := hl
  obtain ⟨hte, htl0⟩ := ht
  have HR : Hid _ := ⟨hr⟩
  have HTE : Hid _ := ⟨hte⟩
  have HC : Hid _ := ⟨hC⟩
  have HF : Hid (Below w.heap.size w w) := ⟨Below.refl _ _⟩
  obtain ⟨i0, hi, hz0, hz1, hz2⟩ := info_parts infoEn
  have HI : Hid (_ ∧ _ ∧ _ ∧ _) := ⟨hi, hz0, hz1, hz2⟩
  clear hr hte hC hi hz0 hz1 hz2
  go_enter Try.func3, Try.ntmps3
  go_upto_region 3 with (fail)
  go_loopw [9, 10] (fun v i wr => ∃ k : Nat, k ≤ t.length ∧ i = .int .i64 k ∧ Hid (OwnR 27 5 encE wr w.heap.size v (t.take k) ∧ Below w.heap.size w wr)) (fun _ i _ => t.length - (intOf i).toNat)
  case atStart => exact ⟨0, by omega, rfl, ⟨OwnR.nil _ _, HF.out⟩⟩
  case round =>
    obtain ⟨k, hk, rfl, HW⟩ := hrel
    by_cases hlt : k < t.length
    · obtain ⟨b, off, rfl, hat⟩ : ∃ b off, ta = some ⟨b, off, none⟩ ∧ ∀ i, i < t.length → EntAt wr b (off + i * 5) (t.getD i En.zero) := by
        rcases HTE.out.below HW.out.2 (Nat.le_refl _) with h | h
        · rw [h] at hlt; simp at hlt
        · exact h
      obtain ⟨c0, c1, c2, c3, c4⟩ := hat k hlt
      have hlti : (k : Int) < (t.length : Int) := by omega
      have hk0 : (0 : Int) ≤ (k : Int) := by omega
      have hget : t.getD k En.zero = t[k] := by simp [hlt]
      have HT : Hid (t.take (k + 1) = t.take k ++ [t.getD k En.zero]) := ⟨by rw [hget]; exact List.take_succ_eq_append_getElem hlt⟩
      have htl : (t.take k).length = k := by rw [List.length_take]; omega
      have hbl : b < wr.heap.size := World.block_lt_of_cell? wr _ c0
      have hbs := HW.out.2.size
      have hbw : b < w.heap.size := by
        rcases HTE.out with h | ⟨b', off', e, h⟩
        · rw [h] at hlt; simp at hlt
        · simp only [Option.some.injEq, Addr.mk.injEq] at e
          obtain ⟨rfl, _⟩ := e
          exact World.block_lt_of_cell? w _ (h k hlt).c0
      clear hat hget
      generalize t.getD k En.zero = p at *
      obtain ⟨nm, o1, o2, o3, o4⟩ := p
      dsimp only at c0 c1 c2 c3 c4
      have hS : wr.drew.cell? ⟨b, off + k * 5, none⟩ = some (.string nm) ∧ wr.drew.cell? ⟨b, off + k * 5 + 1, none⟩ = some (.int .i64 o1) ∧ wr.drew.cell? ⟨b, off + k * 5 + 2, none⟩ = some (.int .i64 o2) ∧ wr.drew.cell? ⟨b, off + k * 5 + 3, none⟩ = some (.int .i64 o3) ∧ wr.drew.cell? ⟨b, off + k * 5 + 4, none⟩ = some (.int .i64 o4) := ⟨c0, c1, c2, c3, c4⟩
      have hne : ¬ wr.heap.size = b := by omega
      have A0 : (wr.alloc (.cells #[.string nm, .int .i64 o1, .int .i64 o2, .int .i64 o3, .int .i64 o4] 27)).cell? ⟨b, off + k * 5, none⟩ = some (.string nm) := up_c c0 ((Below.refl wr.heap.size wr).alloc (Nat.le_refl _) (.cells #[.string nm, .int .i64 o1, .int .i64 o2, .int .i64 o3, .int .i64 o4] 27))
      have A1 : (wr.alloc (.cells #[.string nm, .int .i64 o1, .int .i64 o2, .int .i64 o3, .int .i64 o4] 27)).cell? ⟨b, off + k * 5 + 1, none⟩ = some (.int .i64 o1) := up_c c1 ((Below.refl wr.heap.size wr).alloc (Nat.le_refl _) (.cells #[.string nm, .int .i64 o1, .int .i64 o2, .int .i64 o3, .int .i64 o4] 27))
      have A2 : (wr.alloc (.cells #[.string nm, .int .i64 o1, .int .i64 o2, .int .i64 o3, .int .i64 o4] 27)).cell? ⟨b, off + k * 5 + 2, none⟩ = some (.int .i64 o2) := up_c c2 ((Below.refl wr.heap.size wr).alloc (Nat.le_refl _) (.cells #[.string nm, .int .i64 o1, .int .i64 o2, .int .i64 o3, .int .i64 o4] 27))
      have A3 : (wr.alloc (.cells #[.string nm, .int .i64 o1, .int .i64 o2, .int .i64 o3, .int .i64 o4] 27)).cell? ⟨b, off + k * 5 + 3, none⟩ = some (.int .i64 o3) := up_c c3 ((Below.refl wr.heap.size wr).alloc (Nat.le_refl _) (.cells #[.string nm, .int .i64 o1, .int .i64 o2, .int .i64 o3, .int .i64 o4] 27))
      have A4 : (wr.alloc (.cells #[.string nm, .int .i64 o1, .int .i64 o2, .int .i64 o3, .int .i64 o4] 27)).cell? ⟨b, off + k * 5 + 4, none⟩ = some (.int .i64 o4) := up_c c4 ((Below.refl wr.heap.size wr).alloc (Nat.le_refl _) (.cells #[.string nm, .int .i64 o1, .int .i64 o2, .int .i64 o3, .int .i64 o4] 27))
      have hvb : u9.ownBlock ≠ some b := fun e => by have := (HW.out.1.lt b e).1; omega
      go_wp2
      go_region_held_law (fun v' => v'.cell? ⟨b, off + k * 5, none⟩ = some (.string nm) ∧ v'.cell? ⟨b, off + k * 5 + 1, none⟩ = some (.int .i64 o1) ∧ v'.cell? ⟨b, off + k * 5 + 2, none⟩ = some (.int .i64 o2) ∧ v'.cell? ⟨b, off + k * 5 + 3, none⟩ = some (.int .i64 o3) ∧ v'.cell? ⟨b, off + k * 5 + 4, none⟩ = some (.int .i64 o4))
        (first | go_keep | assumption | exact ⟨(hgrow.cell_far _ (by simp; omega) (Ne.symm hvb)).trans A0, (hgrow.cell_far _ (by simp; omega) (Ne.symm hvb)).trans A1, (hgrow.cell_far _ (by simp; omega) (Ne.symm hvb)).trans A2, (hgrow.cell_far _ (by simp; omega) (Ne.symm hvb)).trans A3, (hgrow.cell_far _ (by simp; omega) (Ne.symm hvb)).trans A4⟩)
        ((refine step_append_lies _ (by rfl) _ _ _ (by rfl) w.heap.size 27 i0 (.agg (encE En.zero).toArray) 5 48 Try.underlying24 HI.out.1 HI.out.2.1 HI.out.2.2.1 HI.out.2.2.2 (by kernel_rfl) (by decide) _ (t.take k).length ((t.take k).flatMap encE) (by rfl) (World.ownsRow.alloc HW.out.1 _) ⟨wr.heap.size, 0, none⟩ 1 1 (encE ⟨nm, o1, o2, o3, o4⟩) (by rfl) rfl (World.news_of_block (heap_alloc_new wr _)) (encE_one _) (by omega) (by unfold maxLen; omega) (by omega) (by simp; omega) (wr.heap.size + 1) (by simp) ?_; intro g cap w1 hown1 hgrow hat hlt2))
      have hO : OwnR 27 5 encE w1 w.heap.size (.slice (some ⟨g, 0, none⟩) ((t.take k).length + 1) cap) (t.take (k + 1)) := by
        rw [HT.out]
        unfold OwnR
        rw [List.flatMap_append, List.length_append]
        simpa using hown1
      have hB : Below w.heap.size w w1 := HW.out.2.trans ((((Below.refl w.heap.size wr).alloc hbs _).drew).grown hgrow (by simp; omega) (fun j hj => (HW.out.1.lt j hj).1))
      have HO : Hid _ := ⟨hO⟩
      have HBB : Hid _ := ⟨hB⟩
      clear hO hB hown1 hgrow
      go_wp2
      go_roundw
      case rel => exact ⟨k + 1, hlt, by go_num, ⟨by have := HO.out; rwa [htl] at this, HBB.out⟩⟩
      case measure => simp [intOf]; omega
    · obtain rfl : k = t.length := by omega
      rw [List.take_of_length_le (Nat.le_refl _)] at HW
      obtain ⟨xa, xc, hv, _, _, _, _⟩ := HW.out.1.any encE_len
      subst hv
      have hbs := HW.out.2.size
      have HX : Hid (∀ W, Below wr.heap.size wr W → Ents W xa t) := ⟨fun W h => (own_ents HW.out.1).below h (Nat.le_refl _)⟩
      have HTW : Hid (∀ W, Below wr.heap.size wr W → Ents W ta t) := ⟨fun W h => HTE.out.below (HW.out.2.trans (h.mono hbs)) (Nat.le_refl _)⟩
      have HLW : Hid (∀ W, Below wr.heap.size wr W → Fls W ao l) := ⟨fun W h => HR.out.below (HW.out.2.trans (h.mono hbs)) (Nat.le_refl _)⟩
      have HBW : Hid _ := ⟨HW.out.2⟩
      have hyn : ∀ f ∈ l, f.syms.length ≤ 2097152 := fun f hf => by have := (HC.out.each f hf).ny; omega
      have hln : l.length ≤ 2097152 := by have := HC.out.n; omega
      have H1 : Hid (∀ W, Below wr.heap.size wr W → _) := ⟨fun W h => pfind_any xa xc t n W (by omega) (HX.out W h)⟩
      have H2 : Hid (∀ W, Below wr.heap.size wr W → _) := ⟨fun W h => rfind_any ta tc t n W (by omega) (HTW.out W h)⟩
      have H3 : Hid (∀ W, Below wr.heap.size wr W → _) := ⟨fun W h => plook_any ao xa c xc l t o n W hln hyn (by omega) (HLW.out W h) (HX.out W h)⟩
      have H4 : Hid (∀ W, Below wr.heap.size wr W → _) := ⟨fun W h => rlook_any ao ta c tc l t o n W hln hyn (by omega) (HLW.out W h) (HTW.out W h)⟩
      have HN : Hid (∀ x W, _) := ⟨num18_any⟩
      have HV : Hid (∀ W, _) := ⟨live18_any⟩
      clear hyn HX HTW HLW HW
      generalize findX t n = fx at *
      generalize (findO t n).isSome = q3 at *
      generalize lookE l t o n = lk at *
      obtain ⟨fn, fo, fk, fb, ft⟩ := fx
      obtain ⟨lo, lkk, le⟩ := lk
      dsimp only [En.val, Lk.val] at *
      have s0 : (fn.toList == fn.toList) = true := by simp
      have HB0 : Hid (Below wr.heap.size wr wr) := ⟨Below.refl _ _⟩
      go_upto_region 7 with (go_at_call 7; (with_reducible refine (H1.out _ HB0.out).mono ?_); rintro e w1 ⟨rfl, hb1⟩)
      have K1 := Bk.new w1 #[.string fn, .int .i64 fo, .int .i64 fk, .int .i64 fb, .int .i64 ft] 27
      have HB1 : Hid _ := ⟨hb1.alloc hb1.size (.cells #[.string fn, .int .i64 fo, .int .i64 fk, .int .i64 fb, .int .i64 ft] 27)⟩
      obtain ⟨P, hP⟩ : ∃ P, w1.heap.size = P := ⟨_, rfl⟩
      rw [hP] at K1 ⊢
      have HK1 : Hid _ := ⟨K1⟩
      clear K1 hb1 hP
      generalize w1.alloc (.cells #[.string fn, .int .i64 fo, .int .i64 fk, .int .i64 fb, .int .i64 ft] 27) = w2 at *
      go_upto_region 8 with (go_at_call 8; (with_reducible refine (H2.out _ HB1.out).mono ?_); rintro e w3 ⟨rfl, hb3⟩)
      have K3 := Bk.new w3 #[.string fn, .int .i64 fo, .int .i64 fk, .int .i64 fb, .int .i64 ft] 26
      have HK3 : Hid _ := ⟨(HK1.out.bel hb3 HK1.out.lt).alloc (.cells #[.string fn, .int .i64 fo, .int .i64 fk, .int .i64 fb, .int .i64 ft] 26)⟩
      have HB3 : Hid (Below wr.heap.size wr (w3.alloc (.cells #[.string fn, .int .i64 fo, .int .i64 fk, .int .i64 fb, .int .i64 ft] 26))) := ⟨(HB1.out.trans (hb3.mono HB1.out.size)).alloc (by have := HB1.out.size; have := hb3.size; omega) _⟩
      obtain ⟨Q, hQ⟩ : ∃ Q, w3.heap.size = Q := ⟨_, rfl⟩
      rw [hQ] at K3 ⊢
      have HQ3 : Hid _ := ⟨K3⟩
      clear K3 hb3 hQ
      generalize w3.alloc (.cells #[.string fn, .int .i64 fo, .int .i64 fk, .int .i64 fb, .int .i64 ft] 26) = w4 at *
      go_upto_region 9 with (go_at_call 9; (with_reducible refine (H3.out _ HB3.out).mono ?_); rintro e w5 ⟨rfl, hb5⟩)
      have HB5 : Hid (Below wr.heap.size wr w5) := ⟨HB3.out.trans (hb5.mono HB3.out.size)⟩
      go_upto_region 10 with (go_at_call 10; (with_reducible refine (H4.out _ HB5.out).mono ?_); rintro e w6 ⟨rfl, hb6⟩)
      have HB6 : Hid (Below w.heap.size w w6) := ⟨HBW.out.trans ((HB5.out.trans (hb6.mono HB5.out.size)).mono hbs)⟩
      have K6 := (HK3.out.bel hb5 HK3.out.lt).bel hb6 (HK3.out.bel hb5 HK3.out.lt).lt
      have Q6 := (HQ3.out.bel hb5 HQ3.out.lt).bel hb6 (HQ3.out.bel hb5 HQ3.out.lt).lt
      have p0 : w6.cell? ⟨P, 0, none⟩ = some (.string fn) := K6.cell 0 rfl
      have p1 : w6.cell? ⟨P, 1, none⟩ = some (.int .i64 fo) := K6.cell 1 rfl
      have p2 : w6.cell? ⟨P, 2, none⟩ = some (.int .i64 fk) := K6.cell 2 rfl
      have p3 : w6.cell? ⟨P, 3, none⟩ = some (.int .i64 fb) := K6.cell 3 rfl
      have p4 : w6.cell? ⟨P, 4, none⟩ = some (.int .i64 ft) := K6.cell 4 rfl
      have q0 : w6.cell? ⟨Q, 0, none⟩ = some (.string fn) := Q6.cell 0 rfl
      have q1 : w6.cell? ⟨Q, 1, none⟩ = some (.int .i64 fo) := Q6.cell 1 rfl
      have q2 : w6.cell? ⟨Q, 2, none⟩ = some (.int .i64 fk) := Q6.cell 2 rfl
      have qq3 : w6.cell? ⟨Q, 3, none⟩ = some (.int .i64 fb) := Q6.cell 3 rfl
      have q4 : w6.cell? ⟨Q, 4, none⟩ = some (.int .i64 ft) := Q6.cell 4 rfl
      clear K6 Q6 hb5 hb6
      go_wp2_with (first
        | (go_at_call 11; (with_reducible refine (HN.out _ _).mono ?_); rintro e w' ⟨rfl, hw'⟩; subst w')
        | (go_at_call 12; (with_reducible refine (HV.out _).mono ?_); rintro e w7 ⟨rfl, hb7⟩))
      go_ret
      exact ⟨rfl, HB6.out.trans (hb7.mono HB6.out.size)⟩
end Go.Proofs.Ytgoaegembijdcaa

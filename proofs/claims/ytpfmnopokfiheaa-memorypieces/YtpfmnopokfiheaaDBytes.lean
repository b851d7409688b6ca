/- The contract of the document's bytes. -/
import Derived.Test.YtpfmnopokfiheaaDMap3
import Derived.Deep.RegionHeld3
import Derived.Lib.MinMax
namespace Go.Proofs.Ytpfmnopokfiheaa
open Go.ChangeShapes Go.WideShapes Go.ChangeAt Go.RowKit Go.Maps
set_option linter.unusedVariables false
set_option linter.unusedSimpArgs false

/-- Bytes of a list, copied behind a row of the call's own. -/
theorem append_bs {ops : Array Oper} {rest : List Oper} {o : Oper} {a : Act} {Q : Exit → Act → World → Prop} (w : World) (hgd : o.guard = none) (s x : Operand)
    (ho : o.op = .call { callee := .builtin .append, args := #[s, x], argTypes := #[31, 31] })
    (base : Nat) (v : Value) (l : List Int) (hs : a.eval s = v) (hown : Own w base v l) (b off c N : Nat) (m : List Int) (hx : a.eval x = .slice (some ⟨b, off, none⟩) N c) (hN : N = m.length) (hr : ∀ j, j < m.length → w.cell? ⟨b, off + j, none⟩ = some (.int .u8 (m.getD j 0)))
    (hn : l.length + m.length ≤ 1048576) (hbase : base ≤ w.heap.size)
    (h : ∀ v' w', Own w' base v' (l ++ m) → Below base w w' → wpList Try.prog ops Q rest (a.put o.dst v') w') :
    wpList Try.prog ops Q (o :: rest) a w := by
  subst hN
  obtain ⟨i0, hi, hz0, hz1, hz2⟩ := info_parts info5
  refine wpList_append_own _ hgd s x 31 ho base 5 i0 _ 1 1 Try.underlying31 hi hz0 hz1 hz2 rfl (by decide) _ l.length _ hs hown ⟨b, off, none⟩ m.length c (m.map (Value.int .u8)) hx (by simp) ?_ ?_ (by unfold maxLen; omega) (by omega) hbase ?_
  · intro j u hj
    by_cases hjm : j < m.length
    · rw [addr_add, hr j hjm]
      simp [hjm] at hj
      simp [hjm, hj]
    · simp [hjm] at hj
  · intro u hu
    simp at hu
    obtain ⟨z, _, rfl⟩ := hu
    rfl
  · intro v' w' hown' hgrow hnn
    refine h v' w' ?_ ((Below.refl base w).grown hgrow hbase (own_block hown))
    unfold Own
    simpa using hown'

theorem slice_mid (q c k : Nat) (x y : Int) (hx : x = (c : Int)) (hy : y = ((c + k : Nat) : Int)) (hc : c < 4096) (hk : c + k ≤ 4096) (W : World) :
    (Instr.slice 31 (.slice (some ⟨q, 0, none⟩) 4096 4096) (some (.int .i64 x)) (some (.int .i64 y)) none).run Try.prog W = .ok (.slice (some ⟨q, c, none⟩) k (4096 - c)) W := by
  subst hx
  subst hy
  have hs := info5'
  cases hq : Try.prog.info? 5 with
  | none => rw [hq] at hs; cases hs
  | some i =>
    have hi1 : i.size = 1 := by rw [hq] at hs; simpa using hs
    have g1 : (0 : Int) ≤ (c : Int) ∧ (c : Int) ≤ ((c + k : Nat) : Int) := by omega
    have g2 : (0 : Int) ≤ ((c + k : Nat) : Int) ∧ ((c + k : Nat) : Int) ≤ 4096 := by omega
    have g3 : ¬ 4096 = c := by omega
    have g4 : c + k - c = k := by omega
    simp only [Instr.slice, run_underlying Try.underlying31]
    simp [Instr.slice, run_underlying Try.underlying31, Instr.sliceBounds, Instr.sliceBound, asIntOf, g1, g2, g3, g4, sizeOf, typeInfo, hq, hi1, addr_add]
    rw [if_pos (by omega), if_pos (by omega)]
    have g5 : ((c : Int) + (k : Int)).toNat - c = k := by omega
    rw [g5]

theorem up_al {w : World} {p : Addr} {v : Value} {o : Obj} (h : w.cell? p = some v) : (w.alloc o).cell? p = some v :=
  (((Below.refl w.heap.size w).alloc (Nat.le_refl _) o).cell (p := p) (World.block_lt_of_cell? _ _ h)).trans h
theorem up_dr {w : World} {p : Addr} {v : Value} (h : w.cell? p = some v) : w.drew.cell? p = some v := h

/-- A page of the list, in memory. -/
structure PC (w : World) (rb b i : Nat) (lv : Value) (p : Pz) (g : Nat) : Prop where
  l : w.cell? ⟨rb, 0, none⟩ = some lv
  a : w.cell? ⟨b, i * 3, none⟩ = some (.int .u64 ((p.k * 4096 : Nat) : Int))
  m : w.cell? ⟨b, i * 3 + 1, none⟩ = some (.int .i64 p.may)
  b : w.cell? ⟨b, i * 3 + 2, none⟩ = some (.slice (some ⟨g, 0, none⟩) 4096 4096)

set_option maxHeartbeats 2000000 in
set_option maxRecDepth 10000 in
theorem bytes_any (rb a n : Nat) (so : Int) (lv : Value) (pb : Nat → Nat) (L : List Pz) (w : World) (h : RA w rb lv pb L) (ha : a < 18446744073709551616) (hL : L.length ≤ 1048576) (hn : n ≤ 1048576) (hr : reachB L so a n = true) :
    Calls Try.prog 64 #[.pointer (some ⟨rb, 0, none⟩), .int .u64 a, .int .i64 n] w fun e w' => ∃ v, e = .returned v ∧ Own w' w.heap.size v (rdB L so a n) ∧ Below w.heap.size w w' := by
  have HF : Hid (∀ A : Nat, A < 18446744073709551616 → ∀ W, Below w.heap.size w W → Calls Try.prog 58 #[.pointer (some ⟨rb, 0, none⟩), .int .u64 A] W fun e w' => e = .returned (.int .i64 (fix L (A / 4096))) ∧ w' = W) := ⟨fun A hA W hW => find_any rb A lv pb L W (h.below hW) hA hL⟩
  have HM : Hid _ := ⟨h⟩
  have HR : Hid (smQ (pcsA L so a n) = n) := ⟨by simpa [reachB] using hr⟩
  have HRD : Hid (rdB L so a n = flQ (pcsA L so a n)) := ⟨rfl⟩
  obtain ⟨R, hR⟩ : ∃ R, rdB L so a n = R := ⟨_, rfl⟩
  rw [hR]
  rw [hR] at HRD
  have hrl := h.rlt
  clear h hr hR
  go_enter Try.func64, Try.ntmps64
  go_wp2
  go_loopw [1, 2, 7, 8, 9, 10] (fun u1 u2 u7 _ _ _ wr => ∃ A m : Nat, m ≤ n ∧ u1 = .int .u64 A ∧ u2 = .int .i64 m ∧ Hid (A < 18446744073709551616 ∧ Below w.heap.size w wr ∧ ∃ f xs, Own wr w.heap.size u7 xs ∧ xs.length + m = n ∧ R = xs ++ flQ (pcs L so f (A / 4096) (A % 4096) m) ∧ smQ (pcs L so f (A / 4096) (A % 4096) m) = m ∧ m < f)) (fun _ u2 _ _ _ _ _ => (intOf u2).toNat)
  case atStart => exact ⟨a, n, by omega, rfl, rfl, ⟨ha, Below.refl _ _, n + 1, [], Own.nil _ _, by simp, by rw [HRD.out]; rfl, HR.out, by omega⟩⟩
  case round =>
    obtain ⟨A, m, hm, rfl, rfl, HW⟩ := hrel
    by_cases hm0 : 0 < m
    · obtain ⟨hA, hbel, f, xs, hown, hxm, hRx, hsm, hmf⟩ := HW.out
      obtain ⟨f, rfl⟩ : ∃ g, f = g + 1 := ⟨f - 1, by omega⟩
      have htop := pcs_top HM.out.mz _ _ _ _ (Nat.mod_lt _ (by omega)) hm0 hsm
      have htop' : A + m ≤ 140737488355328 := by omega
      cases hp : fnd L (A / 4096) with
      | none => rw [pcs_none hp] at hsm; simp [smQ] at hsm; omega
      | some p =>
        by_cases hb : bits .and .i64 p.may so = so
        rotate_left
        · rw [pcs_not hp hb] at hsm; simp [smQ] at hsm; omega
        rw [pcs_more hp hb (by omega)] at hsm hRx
        obtain ⟨hi, hpi⟩ := fix_some HM.out.mz.up hp
        have hra := HM.out.below hbel
        obtain ⟨b, cap, hv, hcap1, hcap2, c0, c1, c2⟩ := hra.at' hi
        rw [hpi] at c0 c1 c2
        have cl := hra.rcell
        have hF := fun W hW => HF.out A hA W hW
        have hpm : p ∈ L := (fnd_mem hp).1
        obtain ⟨i, hii⟩ : ∃ i, fix L (A / 4096) = i := ⟨_, rfl⟩
        simp only [hii] at hF c0 c1 c2
        rw [hii] at hi
        subst hv
        obtain ⟨x, hx⟩ : ∃ x : Int, (A : Int) = x := ⟨_, rfl⟩
        simp only [hx] at hF
        rw [hx]
        have x0 : 0 ≤ x := by omega
        have x1 : x + (m : Int) ≤ 140737488355328 := by omega
        have i1 : (i : Int) < (L.length : Int) := by omega
        have m1 : (m : Int) ≤ 1048576 := by omega
        have m0 : (0 : Int) < (m : Int) := by omega
        have HF2 : Hid _ := ⟨hF⟩
        have HB2 : Hid _ := ⟨hbel⟩
        have K0 : PC wr rb b i (.slice (some ⟨b, 0, none⟩) L.length cap) p (pb p.k) := ⟨cl, c0, c1, c2⟩
        have HX : Hid ((A : Int) = x) := ⟨hx⟩
        clear hx hF hbel hra
        generalize ((p.k * 4096 : Nat) : Int) = pa at *
        obtain ⟨c, hc⟩ : ∃ c, c = A % 4096 := ⟨_, rfl⟩
        obtain ⟨kk, hkk⟩ : ∃ kk, kk = min m (4096 - c) := ⟨_, rfl⟩
        have hkm : kk ≤ m ∧ c + kk ≤ 4096 ∧ 1 ≤ kk := by omega
        have eAt : x % 4096 = (c : Int) := by have := HX.out; omega
        have eK : min (m : Int) (4096 - (c : Int)) = (kk : Int) := by omega
        have hc1 : (c : Int) < 4096 := by omega
        have hk1 : (kk : Int) ≤ (m : Int) := by omega
        have hsl := slice_mid (pb p.k) c kk (c : Int) ((c : Int) + (kk : Int)) rfl (by omega) (by omega) (by omega)
        have HQ : Hid ((byQ (p, c, kk)).length = kk ∧ ∀ W, Below w.heap.size w W → ∀ j, j < (byQ (p, c, kk)).length → W.cell? ⟨pb p.k, c + j, none⟩ = some (.int .u8 ((byQ (p, c, kk)).getD j 0))) := ⟨by
          have hl := (HM.out.mz.ok p hpm).len
          have hlen : (byQ (p, c, kk)).length = kk := by simp [byQ, hl]; omega
          refine ⟨hlen, fun W hW j hj => ?_⟩
          rw [(HM.out.below hW).bcell hpm (by omega)]
          have h1 : c + j < p.B.length := by omega
          have h2 : j < kk := by omega
          simp [byQ, h1, h2]⟩
        have HXN : Hid (xs.length + (byQ (p, c, kk)).length ≤ 1048576) := ⟨by rw [HQ.out.1]; omega⟩
        have HO1 : Hid _ := ⟨hown⟩
        have HKM : Hid (c = A % 4096 ∧ kk = min m (4096 - c) ∧ kk ≤ m ∧ c + kk ≤ 4096 ∧ 1 ≤ kk) := ⟨hc, hkk, hkm⟩
        have HRx : Hid _ := ⟨hRx⟩
        have HSm : Hid _ := ⟨hsm⟩
        have Hxm : Hid (xs.length + m = n ∧ m < f + 1 ∧ A + m ≤ 140737488355328) := ⟨hxm, hmf, htop'⟩
        clear HW hii hpi hi hown hc hkk hkm hRx hsm hxm hmf htop htop' hA hb hp hm
        go_upto_region 3 with (fail)
        go_region_held3 (fun v => v.cell? ⟨rb, 0, none⟩ = some (.slice (some ⟨b, 0, none⟩) L.length cap) ∧ v.cell? ⟨b, i * 3, none⟩ = some (.int .u64 pa) ∧ v.cell? ⟨b, i * 3 + 1, none⟩ = some (.int .i64 p.may) ∧ v.cell? ⟨b, i * 3 + 2, none⟩ = some (.slice (some ⟨pb p.k, 0, none⟩) 4096 4096))
          (first | (with_reducible assumption) | exact ⟨cl, c0, c1, c2⟩ | (refine ⟨?_, ?_, ?_, ?_⟩ <;> first | (with_reducible assumption) | exact up_al (by with_reducible assumption) | exact up_dr (by with_reducible assumption)) | exact cl | exact c0 | exact c1 | exact c2 | exact up_al (by with_reducible assumption) | exact up_al (up_dr (by with_reducible assumption)) | exact up_dr (by with_reducible assumption))
          (first | (go_at_call 58; (with_reducible refine (HF2.out _ (by first | exact HB2.out.drew | exact (HB2.out.alloc HB2.out.size _).drew)).mono ?_); rintro e wp ⟨he, hwp⟩; subst he; subst hwp))
        all_goals
          have s2 : (wr.alloc (.cells #[.int .u64 pa, .int .i64 p.may, .slice (some ⟨pb p.k, 0, none⟩) 4096 4096] 78)).drew.cell? ⟨wr.heap.size, 2, none⟩ = some (.slice (some ⟨pb p.k, 0, none⟩) 4096 4096) := by
            show (wr.alloc (.cells #[.int .u64 pa, .int .i64 p.may, .slice (some ⟨pb p.k, 0, none⟩) 4096 4096] 78)).cell? ⟨wr.heap.size, 2, none⟩ = _
            simp
          have HB3 : Hid _ := ⟨(HB2.out.alloc HB2.out.size (.cells #[.int .u64 pa, .int .i64 p.may, .slice (some ⟨pb p.k, 0, none⟩) 4096 4096] 78)).drew⟩
          have HO3 : Hid (Own (wr.alloc (.cells #[.int .u64 pa, .int .i64 p.may, .slice (some ⟨pb p.k, 0, none⟩) 4096 4096] 78)).drew w.heap.size u7 xs) := ⟨World.ownsRow.alloc HO1.out _⟩
          generalize (wr.alloc (.cells #[.int .u64 pa, .int .i64 p.may, .slice (some ⟨pb p.k, 0, none⟩) 4096 4096] 78)).drew = W1 at *
          generalize wr.heap.size = sb at *
          clear K0 cl c0 c1 c2
          go_wp2_with (at_builtin; refine append_bs _ rfl _ _ rfl w.heap.size u7 xs rfl HO3.out (pb p.k) c (4096 - c) kk (byQ (p, c, kk)) rfl HQ.out.1.symm (fun j hj => HQ.out.2 W1 HB3.out j hj) HXN.out HB3.out.size ?_; intro v' w' ho' hb')
          go_roundw
          case rel =>
            obtain ⟨k1, k2, k3, k4, k5⟩ := HKM.out
            obtain ⟨z1, z2, z3⟩ := Hxm.out
            have hX := HX.out
            have hsm := HSm.out
            rw [← k1, ← k2] at hsm
            have hRx := HRx.out
            rw [← k1, ← k2] at hRx
            have hsm' : kk + smQ (pcs L so f (A / 4096 + 1) 0 (m - kk)) = m := by simpa [smQ] using hsm
            have hpc : pcs L so f (A / 4096 + 1) 0 (m - kk) = pcs L so f ((A + kk) / 4096) ((A + kk) % 4096) (m - kk) := by
              by_cases hz : m - kk = 0
              · rw [hz, pcs_end, pcs_end]
              · rw [show (A + kk) / 4096 = A / 4096 + 1 by omega, show (A + kk) % 4096 = 0 by omega]
            refine ⟨A + kk, m - kk, by omega, ?_, ?_, ⟨by omega, HB3.out.trans hb', f, xs ++ byQ (p, c, kk), ho', ?_, ?_, ?_, by omega⟩⟩
            · simp only [Value.int.injEq, true_and]; omega
            · simp only [Value.int.injEq, true_and]; omega
            · rw [List.length_append, HQ.out.1]; omega
            · rw [hRx, ← hpc, List.append_assoc]; rfl
            · rw [← hpc]; omega
          case measure =>
            obtain ⟨k1, k2, k3, k4, k5⟩ := HKM.out
            simp [intOf]; omega
    · obtain rfl : m = 0 := by omega
      obtain ⟨hA, hbel, f, xs, hown, hxm, hRx, hsm, hmf⟩ := HW.out
      rw [pcs_end] at hRx
      have HO : Hid _ := ⟨hown⟩
      have HB2 : Hid _ := ⟨hbel⟩
      have HR2 : Hid (R = xs) := ⟨by rw [hRx]; simp [flQ]⟩
      clear hown hbel hRx hsm hmf HW
      go_wp2
      go_ret
      exact ⟨_, rfl, by rw [HR2.out]; exact HO.out, HB2.out⟩
end Go.Proofs.Ytpfmnopokfiheaa

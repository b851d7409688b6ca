/- gather: what all objects together have of each name. -/
import Derived.Test.YtgoaegembijdcaaRChk
import Derived.Test.YtgoaegembijdcaaRUse
namespace Go.Proofs.Ytgoaegembijdcaa
open Go.ChangeShapes Go.WideShapes Go.ChangeAt Go.RowKit Go.Maps
set_option linter.unusedVariables false
set_option linter.unusedSimpArgs false

/-- The blocks of gather. -/
structure GN (B R X bu bs : Nat) : Prop where
  a1 : R ≠ bu
  a2 : R ≠ bs
  a3 : X ≠ bu
  a4 : X ≠ bs
  a5 : bu ≠ bs
  a6 : B ≤ bu
  a7 : B ≤ bs
  a8 : R ≠ X
  a9 : B ≤ R
structure GI (w : World) (B R X bu bs : Nat) (wr : World) (U : List Oc) (S : List Sec) : Prop where
  r : Bk wr R 71 #[.map none, .map none]
  x : Bk wr X 71 #[.map (some bu), .map (some bs)]
  u : Mp Us.val wr bu U.length (mU U)
  s : Mp Sh.val wr bs S.length (mS S)
  b : Below B w wr
theorem bsz {B : Nat} {w v : World} (h : Below B w v) (hB : w.heap.size = B) : B ≤ v.heap.size := by have := h.size; omega
section
variable {w wr v : World} {B R X bu bs : Nat} {U : List Oc} {S : List Sec}
theorem GI.bel (h : GI w B R X bu bs wr U S) (hB : w.heap.size = B) (g : Below wr.heap.size wr v) : GI w B R X bu bs v U S :=
  ⟨h.r.bel g h.r.lt, h.x.bel g h.x.lt, h.u.below g h.u.lt, h.s.below g h.s.lt, bt hB h.b g⟩
theorem GI.alloc (h : GI w B R X bu bs wr U S) (hB : w.heap.size = B) (o : Obj) : GI w B R X bu bs (wr.alloc o) U S := h.bel hB ((Below.refl _ _).alloc (Nat.le_refl _) o)
theorem GI.putU (h : GI w B R X bu bs wr U S) (n : GN B R X bu bs) (hB : w.heap.size = B) (x : Oc) (hx : (x.s.b == 0) = false) (hm : Mp Us.val v bu (U.length + 1) (putN (mU U) x.s.nm (withU ((mU U x.s.nm).getD Us.zero) x.s x.o x.k))) (ht : Turn (fun k => k = bu) wr v) : GI w B R X bu bs v (U ++ [x]) S :=
  ⟨h.r.turn ht n.a1, h.x.turn ht n.a3, by rw [mU_snoc U x hx, List.length_append]; exact hm, h.s.turn ht (fun e => n.a5 e.symm), h.b.trans (ht.below (bsz h.b hB) (fun k hk => by have := n.a6; omega))⟩
theorem GI.putS (h : GI w B R X bu bs wr U S) (n : GN B R X bu bs) (hB : w.heap.size = B) (x : Sec) (hm : Mp Sh.val v bs (S.length + 1) (putN (mS S) x.nm (withS ((mS S x.nm).getD Sh.zero) x.ty x.fl))) (ht : Turn (fun k => k = bs) wr v) : GI w B R X bu bs v U (S ++ [x]) :=
  ⟨h.r.turn ht n.a2, h.x.turn ht n.a4, h.u.turn ht n.a5, by rw [mS_snoc S x, List.length_append]; exact hm, h.b.trans (ht.below (bsz h.b hB) (fun k hk => by have := n.a7; omega))⟩
theorem GI.loc (h : GI w B R X bu bs wr U S) (x : Oc) (hx : (x.s.b == 0) = true) : GI w B R X bu bs wr (U ++ [x]) S :=
  ⟨h.r, h.x, by rw [mU_local U x hx]; exact h.u.mono (by simp), h.s, h.b⟩
end
theorem ocs_take (o : Nat) (l : List Sym) (j : Nat) (hj : j < l.length) : ocs o (l.take (j + 1)) = ocs o (l.take j) ++ [⟨o, j, l[j]⟩] := by
  rw [List.take_succ_eq_append_getElem hj, ocs_snoc]
  have : (l.take j).length = j := by simp; omega
  rw [this]
theorem occ_take (l : List Fl) (k : Nat) (hk : k < l.length) : occ (l.take (k + 1)) = occ (l.take k) ++ ocs k l[k].syms := by
  rw [List.take_succ_eq_append_getElem hk, occ_snoc]
  have : (l.take k).length = k := by simp; omega
  rw [this]
theorem secs_take (l : List Fl) (k : Nat) (hk : k < l.length) : (l.take (k + 1)).flatMap (·.secs) = (l.take k).flatMap (·.secs) ++ l[k].secs := by
  rw [List.take_succ_eq_append_getElem hk, List.flatMap_append]; simp
theorem ocs_len (o : Nat) (l : List Sym) : (ocs o l).length = l.length := by simp [ocs]
theorem occ_sub (l : List Fl) (k j : Nat) (hk : k < l.length) : (occ (l.take k) ++ ocs k (l[k].syms.take j)).length ≤ (occ l).length := by
  have e : l = l.take k ++ (l[k] :: l.drop (k + 1)) := by rw [List.getElem_cons_drop, List.take_append_drop]
  have h : (occ (l.take (k + 1))).length ≤ (occ l).length := by
    have : ∀ a b : List Fl, (occ a).length ≤ (occ (a ++ b)).length := by
      intro a b
      unfold occ
      rw [List.zipIdx_append, List.flatMap_append]
      simp
    have := this (l.take (k + 1)) (l.drop (k + 1))
    rwa [List.take_append_drop] at this
  rw [occ_take l k hk] at h
  rw [List.length_append, ocs_len] at *
  simp only [List.length_take]
  omega
theorem secs_sub (l : List Fl) (k j : Nat) (hk : k < l.length) : ((l.take k).flatMap (·.secs) ++ l[k].secs.take j).length ≤ (l.flatMap (·.secs)).length := by
  have h : ((l.take (k + 1)).flatMap (·.secs)).length ≤ (l.flatMap (·.secs)).length := by
    have e : l.flatMap (·.secs) = (l.take (k + 1)).flatMap (·.secs) ++ (l.drop (k + 1)).flatMap (·.secs) := by rw [← List.flatMap_append, List.take_append_drop]
    rw [e, List.length_append]
    omega
  rw [secs_take l k hk] at h
  rw [List.length_append] at *
  simp only [List.length_take]
  omega
theorem sizeNames : (Try.prog.info? 71).map (·.size) = some 2 := by kernel_rfl

set_option maxHeartbeats 16000000 in
set_option maxRecDepth 20000 in
theorem gather_any (ao : Option Addr) (c : Nat) (l : List Fl) (w : World) (hb : FlsB l) (hin : Fls w ao l) : Calls Try.prog 28 #[.slice ao l.length c] w fun e w' => ∃ bu bs, e = .returned (.agg #[.map (some bu), .map (some bs)]) ∧ bu ≠ bs ∧ w.heap.size ≤ bu ∧ w.heap.size ≤ bs ∧ Mp Us.val w' bu (occ l).length (mU (occ l)) ∧ Mp Sh.val w' bs (l.flatMap (·.secs)).length (mS (l.flatMap (·.secs))) ∧ Below w.heap.size w w' := by
  have HIN : Hid _ := ⟨hin⟩
  have HBD : Hid _ := ⟨hb.each⟩
  have HSUM : Hid _ := ⟨hb.sum⟩
  have hln := hb.n
  clear hin hb
  obtain ⟨B, hB⟩ : ∃ B, w.heap.size = B := ⟨_, rfl⟩
  go_enter Try.func28, Try.ntmps28
  have hz0 : (w.alloc (.cells #[.map none, .map none] 71)).heap.size = B + 1 := by rw [← hB]; simp
  have K0 : Bk (w.alloc (.cells #[.map none, .map none] 71)) B 71 #[.map none, .map none] := by rw [← hB]; exact Bk.new _ _ _
  have F0 : Below B w (w.alloc (.cells #[.map none, .map none] 71)) := by rw [← hB]; exact (Below.refl _ _).alloc (Nat.le_refl _) _
  go_upto_region 1 with (fail)
  generalize w.alloc (.cells #[.map none, .map none] 71) = w0 at *
  go_upto_region 2 with (first
    | (go_at_call 32; refine (newUs_any _).mono ?_; rintro e w1 ⟨bu, rfl, hbu, hMu, hb1⟩)
    | (go_at_call 33; refine (newSh_any _).mono ?_; rintro e w2 ⟨bs, rfl, hbs, hMs, hb2⟩))
  obtain ⟨X, hX⟩ : ∃ X, w2.heap.size = X := ⟨_, rfl⟩
  rw [hX]
  have hu1 := hMu.lt
  have hu2 := hMs.lt
  have hsz1 := hb1.size
  have hsz2 := hb2.size
  have GNN : Hid (GN B B X bu bs) := ⟨by omega, by omega, by omega, by omega, by omega, by omega, by omega, by omega, by omega⟩
  have GI0 : Hid (GI w B B X bu bs (w2.alloc (.cells #[.map (some bu), .map (some bs)] 71)) [] []) := by
    have r1 := (K0.bel hb1 K0.lt)
    have r2 := (r1.bel hb2 r1.lt).alloc (.cells #[.map (some bu), .map (some bs)] 71)
    refine ⟨r2, by rw [← hX]; exact Bk.new _ _ _, ?_, ?_, ?_⟩
    · have := (hMu.below hb2 hMu.lt).alloc (.cells #[.map (some bu), .map (some bs)] 71)
      exact this
    · have := hMs.alloc (.cells #[.map (some bu), .map (some bs)] 71)
      exact this
    · exact (bt hB (bt hB F0 hb1) hb2).alloc (by omega) _
  clear K0 F0 hMu hMs hb1 hb2 hbu hbs hu1 hu2 hsz1 hsz2 hz0 hX
  generalize w2.alloc (.cells #[.map (some bu), .map (some bs)] 71) = w3 at *
  go_upto_region 3 with (fail)
  go_loopw [15] (fun i wr => ∃ k : Nat, k ≤ l.length ∧ i = .int .i64 k ∧ Hid (GI w B B X bu bs wr (occ (l.take k)) ((l.take k).flatMap (·.secs)))) (fun i _ => l.length - (intOf i).toNat)
  case atStart => exact ⟨0, by omega, rfl, ⟨GI0.out⟩⟩
  case round =>
    obtain ⟨k, hk, rfl, HG⟩ := hrel
    have hbs := bsz HG.out.b hB
    by_cases hlt : k < l.length
    · obtain ⟨b, off, rfl, hcell⟩ : ∃ b off, ao = some ⟨b, off, none⟩ ∧ ∀ i, i < l.length → FlAt wr b (off + i * 2) (l.getD i Fl.zero) := by
        rcases HIN.out.below HG.out.b (by omega) with h | h
        · subst h; simp at hlt
        · exact h
      obtain ⟨c0, c1, hfi⟩ := hcell k hlt
      have hget : l.getD k Fl.zero = l[k] := by simp [hlt]
      rw [hget] at c0 c1 hfi
      have hfb := HBD.out _ (List.getElem_mem hlt)
      have hfw : FlIn w l[k] := by
        rcases HIN.out with h | ⟨b', o', _, h⟩
        · subst h; simp at hlt
        · have h2 := (h k hlt).ins
          rwa [hget] at h2
      have HFI : Hid _ := ⟨hfw⟩
      clear hfw
      have HOC : Hid (occ (l.take (k + 1)) = occ (l.take k) ++ ocs k l[k].syms) := ⟨occ_take l k hlt⟩
      have HSC : Hid ((l.take (k + 1)).flatMap (·.secs) = (l.take k).flatMap (·.secs) ++ l[k].secs) := ⟨secs_take l k hlt⟩
      have HLU : Hid (∀ j, (occ (l.take k) ++ ocs k (l[k].syms.take j)).length ≤ 2097152) := ⟨fun j => Nat.le_trans (occ_sub l k j hlt) HSUM.out.1⟩
      have HLS : Hid (∀ j, ((l.take k).flatMap (·.secs) ++ l[k].secs.take j).length ≤ 2097152) := ⟨fun j => Nat.le_trans (secs_sub l k j hlt) HSUM.out.2⟩
      clear hcell hget
      obtain ⟨U1, hU1⟩ : ∃ u, u = occ (l.take (k + 1)) := ⟨_, rfl⟩
      obtain ⟨S1, hS1⟩ : ∃ u, u = (l.take (k + 1)).flatMap (·.secs) := ⟨_, rfl⟩
      rw [← hU1] at HOC
      rw [← hS1] at HSC
      have HU1 : Hid _ := ⟨hU1⟩
      have HS1 : Hid _ := ⟨hS1⟩
      clear hU1 hS1
      generalize occ (l.take k) = U0 at *
      generalize (l.take k).flatMap (·.secs) = S0 at *
      obtain ⟨f, hf⟩ : ∃ f, f = l[k] := ⟨_, rfl⟩
      rw [← hf] at c0 c1 hfi hfb HOC HSC HLU HLS HFI
      clear hf
      obtain ⟨sa, sc, secs, ya, yc, syms⟩ := f
      obtain ⟨hse, hsy⟩ := hfi
      obtain ⟨ns, ny, zs, zy⟩ := hfb
      have HZS : Hid _ := ⟨zs⟩
      have HZY : Hid _ := ⟨zy⟩
      clear zs zy
      dsimp only [Fl.val] at *
      obtain ⟨P, hP⟩ : ∃ P, wr.heap.size = P := ⟨_, rfl⟩
      have hnu : P ≠ bu := by have := HG.out.u.lt; omega
      have hns : P ≠ bs := by have := HG.out.s.lt; omega
      have KP : Bk (wr.alloc (.cells #[.slice sa secs.length sc, .slice ya syms.length yc] 52)) P 52 #[.slice sa secs.length sc, .slice ya syms.length yc] := by rw [← hP]; exact Bk.new _ _ _
      have HG1 : Hid (GI w B B X bu bs (wr.alloc (.cells #[.slice sa secs.length sc, .slice ya syms.length yc] 52)) U0 S0) := ⟨HG.out.alloc hB _⟩
      have hbl : Below wr.heap.size wr (wr.alloc (.cells #[.slice sa secs.length sc, .slice ya syms.length yc] 52)) := (Below.refl _ _).alloc (Nat.le_refl _) _
      have c11 : (wr.alloc (.cells #[.slice sa secs.length sc, .slice ya syms.length yc] 52)).cell? ⟨P, 1, none⟩ = some (.slice ya syms.length yc) := KP.cell 1 rfl
      have HKP : Hid _ := ⟨KP⟩
      clear KP hse hsy HG hbl
      go_upto_region 5 with (fail)
      clear c0 c1
      generalize wr.alloc (.cells #[.slice sa secs.length sc, .slice ya syms.length yc] 52) = v0 at *
      go_upto_region 6 with (fail)
      go_loopw [23] (fun i wr => ∃ j : Nat, j ≤ syms.length ∧ i = .int .i64 j ∧ Hid (GI w B B X bu bs wr (U0 ++ ocs k (syms.take j)) S0 ∧ Bk wr P 52 #[.slice sa secs.length sc, .slice ya syms.length yc])) (fun i _ => syms.length - (intOf i).toNat)
      case atStart => exact ⟨0, by omega, rfl, ⟨by simpa [ocs] using HG1.out, HKP.out⟩⟩
      case round =>
        obtain ⟨j, hj, rfl, HV⟩ := hrel
        have hbv := bsz HV.out.1.b hB
        by_cases hlj : j < syms.length
        · obtain ⟨b, off, rfl, hcell⟩ : ∃ b off, ya = some ⟨b, off, none⟩ ∧ ∀ i, i < syms.length → SymAt wr b (off + i * 6) (syms.getD i Sym.none) := by
            rcases HFI.out.sy.below HV.out.1.b (by omega) with h | h
            · dsimp only at h; subst h; simp at hlj
            · exact h
          obtain ⟨c0, c1, c2, c3, c4, c5⟩ := hcell j hlj
          have hget : syms.getD j Sym.none = syms[j] := by simp [hlj]
          rw [hget] at c0 c1 c2 c3 c4 c5
          have hz := (HZY.out _ (List.getElem_mem hlj)).1
          have HTK : Hid (ocs k (syms.take (j + 1)) = ocs k (syms.take j) ++ [⟨k, j, syms[j]⟩]) := ⟨ocs_take k syms j hlj⟩
          have hlu := HLU.out j
          clear hcell hget
          obtain ⟨s, hs⟩ : ∃ s, s = syms[j] := ⟨_, rfl⟩
          rw [← hs] at c0 c1 c2 c3 c4 c5 hz HTK
          clear hs
          obtain ⟨Us0, hUs⟩ : ∃ u, u = U0 ++ ocs k (syms.take j) := ⟨_, rfl⟩
          have HTK2 : Hid (U0 ++ ocs k (syms.take (j + 1)) = Us0 ++ [⟨k, j, s⟩]) := ⟨by rw [HTK.out, hUs, List.append_assoc]⟩
          rw [← hUs] at HV hlu
          clear hUs HTK
          obtain ⟨Q, hQ⟩ : ∃ Q, wr.heap.size = Q := ⟨_, rfl⟩
          have hqu : Q ≠ bu := by have := HV.out.1.u.lt; omega
          have HW0 : Hid (∀ u W, Calls Try.prog 36 #[u.val, s.val, .int .i64 k, .int .i64 j] W fun e w' => e = .returned (withU u s k j).val ∧ Below W.heap.size W w') := ⟨fun u W => withU_any u s k j W⟩
          have HPU : Hid ((s.b == 0) = false → ∀ W W', GI w B B X bu bs W Us0 S0 → Mp Us.val W' bu (Us0.length + 1) (putN (mU Us0) s.nm (withU ((mU Us0 s.nm).getD Us.zero) s k j)) → Turn (fun k => k = bu) W W' → GI w B B X bu bs W' (U0 ++ ocs k (syms.take (j + 1))) S0) := ⟨fun h W W' g m t => by rw [HTK2.out]; exact g.putU GNN.out hB ⟨k, j, s⟩ h m t⟩
          have HLO : Hid ((s.b == 0) = true → ∀ W, GI w B B X bu bs W Us0 S0 → GI w B B X bu bs W (U0 ++ ocs k (syms.take (j + 1))) S0) := ⟨fun h W g => by rw [HTK2.out]; exact g.loc ⟨k, j, s⟩ h⟩
          have HOF : Hid (∀ W, GI w B B X bu bs W Us0 S0 → Calls Try.prog 35 #[.agg #[.map (some bu)], .string s.nm] W fun e w' => e = .returned ((mU Us0 s.nm).getD Us.zero).val ∧ Below W.heap.size W w') := ⟨fun W g => ofUs_any g.u s.nm (by unfold maxLen; omega)⟩
          have HPT : Hid (∀ u W, GI w B B X bu bs W Us0 S0 → Calls Try.prog 34 #[.agg #[.map (some bu)], .string s.nm, u.val] W fun e w' => e = .returned (.tuple #[]) ∧ Mp Us.val w' bu (Us0.length + 1) (putN (mU Us0) s.nm u) ∧ Turn (fun k => k = bu) W w') := ⟨fun u W g => putUs_any g.u (by unfold maxLen; omega) s.nm (by unfold maxLen; omega) u⟩
          generalize (mU Us0 s.nm).getD Us.zero = y0 at *
          have HW1 : Hid (∀ W, _) := ⟨fun W => HW0.out y0 W⟩
          generalize withU y0 s k j = y1 at *
          have HPT1 : Hid (∀ W, GI w B B X bu bs W Us0 S0 → _) := ⟨fun W => HPT.out y1 W⟩
          clear HW0 HPT
          obtain ⟨nm, sn, sv, sz, bd, ty⟩ := s
          obtain ⟨⟨p0, p1, p2, p3, p4⟩, p5, p6, p7, p8, p9⟩ := y0
          obtain ⟨⟨q0, q1, q2, q3, q4⟩, q5, q6, q7, q8, q9⟩ := y1
          dsimp only [Us.val, Sym.val] at *
          obtain ⟨z, hz0⟩ : ∃ z, (bd == 0) = z := ⟨_, rfl⟩
          have hz0' : (bd != 0) = !z := by rw [bne, hz0]
          rw [hz0] at HPU HLO
          have KQ : Bk (wr.alloc (.cells #[.string nm, .string sn, .int .i64 sv, .int .i64 sz, .int .i64 bd, .int .i64 ty] 54)) Q 54 #[.string nm, .string sn, .int .i64 sv, .int .i64 sz, .int .i64 bd, .int .i64 ty] := by rw [← hQ]; exact Bk.new _ _ _
          have HV2 : Hid (GI w B B X bu bs (wr.alloc (.cells #[.string nm, .string sn, .int .i64 sv, .int .i64 sz, .int .i64 bd, .int .i64 ty] 54)) Us0 S0 ∧ Bk (wr.alloc (.cells #[.string nm, .string sn, .int .i64 sv, .int .i64 sz, .int .i64 bd, .int .i64 ty] 54)) P 52 #[.slice sa secs.length sc, .slice (some ⟨b, off, none⟩) syms.length yc]) := ⟨HV.out.1.alloc hB _, HV.out.2.alloc _⟩
          have d4 : (wr.alloc (.cells #[.string nm, .string sn, .int .i64 sv, .int .i64 sz, .int .i64 bd, .int .i64 ty] 54)).cell? ⟨Q, 4, none⟩ = some (.int .i64 bd) := KQ.cell 4 rfl
          have HKQ : Hid _ := ⟨KQ⟩
          clear KQ
          go_upto_region 8 with (fail)
          generalize wr.alloc (.cells #[.string nm, .string sn, .int .i64 sv, .int .i64 sz, .int .i64 bd, .int .i64 ty] 54) = v2 at *
          clear c0 c1 c2 c3 c4 c5
          cases z
          · go_upto_region 9 with (fail)
            have HG0 : Hid (GI w B B X bu bs v2.drew Us0 S0) := ⟨HV2.out.1.bel hB (Below.refl _ _).drew⟩
            have hPU := HPU.out rfl
            have HPU1 : Hid _ := ⟨hPU⟩
            have x0 : v2.drew.cell? ⟨X, 0, none⟩ = some (.map (some bu)) := HV2.out.1.x.cell 0 rfl
            have d0 : v2.drew.cell? ⟨Q, 0, none⟩ = some (.string nm) := HKQ.out.cell 0 rfl
            have d1 : v2.drew.cell? ⟨Q, 1, none⟩ = some (.string sn) := HKQ.out.cell 1 rfl
            have d2 : v2.drew.cell? ⟨Q, 2, none⟩ = some (.int .i64 sv) := HKQ.out.cell 2 rfl
            have d3 : v2.drew.cell? ⟨Q, 3, none⟩ = some (.int .i64 sz) := HKQ.out.cell 3 rfl
            have d4' : v2.drew.cell? ⟨Q, 4, none⟩ = some (.int .i64 bd) := d4
            have d5 : v2.drew.cell? ⟨Q, 5, none⟩ = some (.int .i64 ty) := HKQ.out.cell 5 rfl
            have HKP3 : Hid (Bk v2.drew P 52 #[.slice sa secs.length sc, .slice (some ⟨b, off, none⟩) syms.length yc]) := ⟨⟨HV2.out.2.hp⟩⟩
            have hXu : X ≠ bu := GNN.out.a3
            clear d4 hPU
            go_region_held3 (fun x => x.cell? ⟨X, 0, none⟩ = some (.map (some bu)) ∧ x.cell? ⟨Q, 0, none⟩ = some (.string nm) ∧ x.cell? ⟨Q, 1, none⟩ = some (.string sn) ∧ x.cell? ⟨Q, 2, none⟩ = some (.int .i64 sv) ∧ x.cell? ⟨Q, 3, none⟩ = some (.int .i64 sz) ∧ x.cell? ⟨Q, 4, none⟩ = some (.int .i64 bd) ∧ x.cell? ⟨Q, 5, none⟩ = some (.int .i64 ty))
              (first | (with_reducible assumption) | exact ⟨x0, d0, d1, d2, d3, d4', d5⟩ | exact ⟨x1, e0, e1, e2, e3, e4, e5⟩ | exact ⟨x2, f0, f1, f2, f3, f4, f5⟩ | exact ⟨x3, g0, g1, g2, g3, g4, g5⟩)
              (first
                | (go_at_call 35; (with_reducible refine (HOF.out _ HG0.out).mono ?_); rintro e u1 ⟨rfl, hu1⟩; have HG1' : Hid (GI w B B X bu bs u1 Us0 S0) := ⟨HG0.out.bel hB hu1⟩; have HKP4 : Hid (Bk u1 P 52 #[.slice sa secs.length sc, .slice (some ⟨b, off, none⟩) syms.length yc]) := ⟨HKP3.out.bel hu1 HKP3.out.lt⟩; have x1 := up_c x0 hu1; have e0 := up_c d0 hu1; have e1 := up_c d1 hu1; have e2 := up_c d2 hu1; have e3 := up_c d3 hu1; have e4 := up_c d4' hu1; have e5 := up_c d5 hu1; clear hu1)
                | (go_at_call 36; (with_reducible refine (HW1.out _).mono ?_); rintro e u2 ⟨rfl, hu2⟩; have HG2 : Hid (GI w B B X bu bs u2 Us0 S0) := ⟨HG1'.out.bel hB hu2⟩; have HKP5 : Hid (Bk u2 P 52 #[.slice sa secs.length sc, .slice (some ⟨b, off, none⟩) syms.length yc]) := ⟨HKP4.out.bel hu2 HKP4.out.lt⟩; have x2 := up_c x1 hu2; have f0 := up_c e0 hu2; have f1 := up_c e1 hu2; have f2 := up_c e2 hu2; have f3 := up_c e3 hu2; have f4 := up_c e4 hu2; have f5 := up_c e5 hu2; clear hu2)
                | (go_at_call 34; (with_reducible refine (HPT1.out _ HG2.out).mono ?_); rintro e u3 ⟨rfl, hm3, ht3⟩; have HG3 : Hid (GI w B B X bu bs u3 (U0 ++ ocs k (syms.take (j + 1))) S0 ∧ Bk u3 P 52 #[.slice sa secs.length sc, .slice (some ⟨b, off, none⟩) syms.length yc]) := ⟨HPU1.out _ _ HG2.out hm3 ht3, HKP5.out.turn ht3 hnu⟩; have x3 := Turn.cell x2 ht3 hXu; have g0 := Turn.cell f0 ht3 hqu; have g1 := Turn.cell f1 ht3 hqu; have g2 := Turn.cell f2 ht3 hqu; have g3 := Turn.cell f3 ht3 hqu; have g4 := Turn.cell f4 ht3 hqu; have g5 := Turn.cell f5 ht3 hqu; clear hm3 ht3))
            go_wp2
            go_roundw
            case rel => exact ⟨j + 1, hlj, by go_num, HG3⟩
            case measure => simp [intOf]; omega
          · have HL := HLO.out rfl v2 HV2.out.1
            have HLL : Hid _ := ⟨HL⟩
            clear HL
            go_wp2
            go_roundw
            case rel => exact ⟨j + 1, hlj, by go_num, ⟨HLL.out, HV2.out.2⟩⟩
            case measure => simp [intOf]; omega
        · obtain rfl : j = syms.length := by omega
          rw [List.take_of_length_le (Nat.le_refl _)] at HV
          rw [← HOC.out] at HV
          have s0 : wr.cell? ⟨P, 0, none⟩ = some (.slice sa secs.length sc) := HV.out.2.cell 0 rfl
          go_upto_region 12 with (fail)
          have HGL : Hid (GI w B B X bu bs wr U1 S0) := ⟨HV.out.1⟩
          clear HV s0
          go_loopw [49] (fun i wr => ∃ j : Nat, j ≤ secs.length ∧ i = .int .i64 j ∧ Hid (GI w B B X bu bs wr U1 (S0 ++ secs.take j))) (fun i _ => secs.length - (intOf i).toNat)
          case atStart => exact ⟨0, by omega, rfl, ⟨by simpa using HGL.out⟩⟩
          case round =>
            obtain ⟨j, hj, rfl, HV⟩ := hrel
            have hbv := bsz HV.out.b hB
            by_cases hlj : j < secs.length
            · obtain ⟨b, off, rfl, hcell⟩ : ∃ b off, sa = some ⟨b, off, none⟩ ∧ ∀ i, i < secs.length → SecAt wr b (off + i * 7) (secs.getD i Sec.zero) := by
                rcases HFI.out.se.below HV.out.b (by omega) with h | h
                · dsimp only at h; subst h; simp at hlj
                · exact h
              obtain ⟨c0, c1, c2, c3, c4, c5, c6⟩ := hcell j hlj
              have hget : secs.getD j Sec.zero = secs[j] := by simp [hlj]
              rw [hget] at c0 c1 c2 c3 c4 c5 c6
              have hz := HZS.out _ (List.getElem_mem hlj)
              have HTK : Hid (secs.take (j + 1) = secs.take j ++ [secs[j]]) := ⟨List.take_succ_eq_append_getElem hlj⟩
              have hlu := HLS.out j
              clear hcell hget
              obtain ⟨s, hs⟩ : ∃ s, s = secs[j] := ⟨_, rfl⟩
              rw [← hs] at c0 c1 c2 c3 c4 c5 c6 hz HTK
              clear hs
              obtain ⟨Ss0, hUs⟩ : ∃ u, u = S0 ++ secs.take j := ⟨_, rfl⟩
              have HTK2 : Hid (S0 ++ secs.take (j + 1) = Ss0 ++ [s]) := ⟨by rw [HTK.out, hUs, List.append_assoc]⟩
              rw [← hUs] at HV hlu
              clear hUs HTK
              obtain ⟨Q, hQ⟩ : ∃ Q, wr.heap.size = Q := ⟨_, rfl⟩
              have hqu : Q ≠ bs := by have := HV.out.s.lt; omega
              have HW0 : Hid (∀ u W, Calls Try.prog 39 #[u.val, .agg #[.int .i64 s.ty, .int .i64 s.fl]] W fun e w' => e = .returned (withS u s.ty s.fl).val ∧ Below W.heap.size W w') := ⟨fun u W => withS_any u s.ty s.fl W⟩
              have HPU : Hid (∀ W W', GI w B B X bu bs W U1 Ss0 → Mp Sh.val W' bs (Ss0.length + 1) (putN (mS Ss0) s.nm (withS ((mS Ss0 s.nm).getD Sh.zero) s.ty s.fl)) → Turn (fun k => k = bs) W W' → GI w B B X bu bs W' U1 (S0 ++ secs.take (j + 1))) := ⟨fun W W' g m t => by rw [HTK2.out]; exact g.putS GNN.out hB s m t⟩
              have HOF : Hid (∀ W, GI w B B X bu bs W U1 Ss0 → Calls Try.prog 38 #[.agg #[.map (some bs)], .string s.nm] W fun e w' => e = .returned ((mS Ss0 s.nm).getD Sh.zero).val ∧ Below W.heap.size W w') := ⟨fun W g => ofSh_any g.s s.nm (by unfold maxLen; omega)⟩
              have HPT : Hid (∀ u W, GI w B B X bu bs W U1 Ss0 → Calls Try.prog 37 #[.agg #[.map (some bs)], .string s.nm, u.val] W fun e w' => e = .returned (.tuple #[]) ∧ Mp Sh.val w' bs (Ss0.length + 1) (putN (mS Ss0) s.nm u) ∧ Turn (fun k => k = bs) W w') := ⟨fun u W g => putSh_any g.s (by unfold maxLen; omega) s.nm (by unfold maxLen; omega) u⟩
              generalize (mS Ss0 s.nm).getD Sh.zero = y0 at *
              have HW1 : Hid (∀ W, _) := ⟨fun W => HW0.out y0 W⟩
              generalize withS y0 s.ty s.fl = y1 at *
              have HPT1 : Hid (∀ W, GI w B B X bu bs W U1 Ss0 → _) := ⟨fun W => HPT.out y1 W⟩
              clear HW0 HPT
              obtain ⟨nm, ty, fl, al, da, dn, dc, sz, ra, rn, rc⟩ := s
              obtain ⟨p0, p1, p2, p3⟩ := y0
              obtain ⟨q0, q1, q2, q3⟩ := y1
              dsimp only [Sh.val, Sec.val] at *
              have KQ : Bk (wr.alloc (.cells #[.string nm, .int .i64 ty, .int .i64 fl, .int .i64 al, .slice da dn dc, .int .i64 sz, .slice ra rn rc] 79)) Q 79 #[.string nm, .int .i64 ty, .int .i64 fl, .int .i64 al, .slice da dn dc, .int .i64 sz, .slice ra rn rc] := by rw [← hQ]; exact Bk.new _ _ _
              have HV2 : Hid (GI w B B X bu bs (wr.alloc (.cells #[.string nm, .int .i64 ty, .int .i64 fl, .int .i64 al, .slice da dn dc, .int .i64 sz, .slice ra rn rc] 79)) U1 Ss0) := ⟨HV.out.alloc hB _⟩
              have HKQ : Hid _ := ⟨KQ⟩
              clear KQ
              go_upto_region 14 with (fail)
              generalize wr.alloc (.cells #[.string nm, .int .i64 ty, .int .i64 fl, .int .i64 al, .slice da dn dc, .int .i64 sz, .slice ra rn rc] 79) = v2 at *
              clear c0 c1 c2 c3 c4 c5 c6
              have HG0 : Hid (GI w B B X bu bs v2.drew U1 Ss0) := ⟨HV2.out.bel hB (Below.refl _ _).drew⟩
              have x0 : v2.drew.cell? ⟨X, 1, none⟩ = some (.map (some bs)) := HV2.out.x.cell 1 rfl
              have d0 : v2.drew.cell? ⟨Q, 0, none⟩ = some (.string nm) := HKQ.out.cell 0 rfl
              have d1 : v2.drew.cell? ⟨Q, 1, none⟩ = some (.int .i64 ty) := HKQ.out.cell 1 rfl
              have d2 : v2.drew.cell? ⟨Q, 2, none⟩ = some (.int .i64 fl) := HKQ.out.cell 2 rfl
              have hXu : X ≠ bs := GNN.out.a4
              go_region_held3 (fun x => x.cell? ⟨X, 1, none⟩ = some (.map (some bs)) ∧ x.cell? ⟨Q, 0, none⟩ = some (.string nm) ∧ x.cell? ⟨Q, 1, none⟩ = some (.int .i64 ty) ∧ x.cell? ⟨Q, 2, none⟩ = some (.int .i64 fl))
                (first | (with_reducible assumption) | exact ⟨x0, d0, d1, d2⟩ | exact ⟨x1, e0, e1, e2⟩ | exact ⟨x2, f0, f1, f2⟩ | exact ⟨x3, g0, g1, g2⟩)
                (first
                  | (go_at_call 38; (with_reducible refine (HOF.out _ HG0.out).mono ?_); rintro e u1 ⟨rfl, hu1⟩; have HG1' : Hid (GI w B B X bu bs u1 U1 Ss0) := ⟨HG0.out.bel hB hu1⟩; have x1 := up_c x0 hu1; have e0 := up_c d0 hu1; have e1 := up_c d1 hu1; have e2 := up_c d2 hu1; clear hu1)
                  | (go_at_call 39; (with_reducible refine (HW1.out _).mono ?_); rintro e u2 ⟨rfl, hu2⟩; have HG2 : Hid (GI w B B X bu bs u2 U1 Ss0) := ⟨HG1'.out.bel hB hu2⟩; have x2 := up_c x1 hu2; have f0 := up_c e0 hu2; have f1 := up_c e1 hu2; have f2 := up_c e2 hu2; clear hu2)
                  | (go_at_call 37; (with_reducible refine (HPT1.out _ HG2.out).mono ?_); rintro e u3 ⟨rfl, hm3, ht3⟩; have HG3 : Hid (GI w B B X bu bs u3 U1 (S0 ++ secs.take (j + 1))) := ⟨HPU.out _ _ HG2.out hm3 ht3⟩; have x3 := Turn.cell x2 ht3 hXu; have g0 := Turn.cell f0 ht3 hqu; have g1 := Turn.cell f1 ht3 hqu; have g2 := Turn.cell f2 ht3 hqu; clear hm3 ht3))
              go_wp2
              go_roundw
              case rel => exact ⟨j + 1, hlj, by go_num, HG3⟩
              case measure => simp [intOf]; omega
            · obtain rfl : j = secs.length := by omega
              rw [List.take_of_length_le (Nat.le_refl _), ← HSC.out] at HV
              have HGE : Hid _ := ⟨HV.out⟩
              clear HV
              go_wp2
              go_roundw
              case rel => exact ⟨k + 1, hlt, by go_num, ⟨by rw [← HU1.out, ← HS1.out]; exact HGE.out⟩⟩
              case measure => simp [intOf]; omega
    · obtain rfl : k = l.length := by omega
      rw [List.take_of_length_le (Nat.le_refl _)] at HG
      have KX := HG.out.x
      have KB := HG.out.r
      have HNX : B ≠ X := GNN.out.a8
      go_upto_region 17 with (fail)
      iterate 1 go_step
      refine wpList_load_of (p := ⟨X, 0, none⟩) (v := .agg #[.map (some bu), .map (some bs)]) rfl (by kernel_rfl) (by kernel_rfl) (KX.loadA 0 _ Try.underlying71 sizeNames rfl rfl) ?_
      try simp only [Act.put, List.getElem_toArray, List.getElem_cons_succ, List.getElem_cons_zero, List.setIfInBounds_toArray, List.set_cons_zero, List.set_cons_succ]
      refine wpList_part (g := B) (off := 0) (val := .agg #[.map (some bu), .map (some bs)]) (new := #[.map (some bu), .map (some bs)]) rfl rfl (by kernel_rfl) (by kernel_rfl) KB (by kernel_rfl) (Nat.le_of_ble_eq_true (by kernel_rfl)) (oneAll (by kernel_rfl)) (by kernel_rfl) ?_
      try simp only [Act.put, List.getElem_toArray, List.getElem_cons_succ, List.getElem_cons_zero, List.setIfInBounds_toArray, List.set_cons_zero, List.set_cons_succ]
      have KE := KB.setR #[.map (some bu), .map (some bs)]
      have FE : Below B w (wr.setRow B #[.map (some bu), .map (some bs)]) := bel_setR HG.out.b B (Nat.le_refl _) _
      have TE : Turn (fun k => k = B) wr (wr.setRow B #[.map (some bu), .map (some bs)]) := ⟨rfl, rfl, rfl, by simp, fun k _ hk => setRow_other wr B k _ hk⟩
      refine wpList_nil ?_
      go_wp2_with fail
      exact bodyPost_ret (v := .agg #[.map (some bu), .map (some bs)]) (results_cell_row (p := 2) (ty := 71) (by kernel_rfl) _ _ B 71 _ (0, 0) _ (by kernel_rfl) KE.hp Try.underlying71 rfl (by kernel_rfl)) rfl ⟨bu, bs, rfl, GNN.out.a5, by rw [hB]; exact GNN.out.a6, by rw [hB]; exact GNN.out.a7, HG.out.u.turn TE (fun e => GNN.out.a1 e.symm), HG.out.s.turn TE (fun e => GNN.out.a2 e.symm), by rw [hB]; exact FE⟩
end Go.Proofs.Ytgoaegembijdcaa

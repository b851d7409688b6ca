/- Faults, All. -/
import Derived.Test.YtgoaegembijdcaaREnt
import Derived.Test.YtgoaegembijdcaaRGath
import Derived.Laws.ResultCell
namespace Go.Proofs.Ytgoaegembijdcaa
open Go.ChangeShapes Go.WideShapes Go.ChangeAt Go.RowKit Go.Maps
set_option linter.unusedVariables false
set_option linter.unusedSimpArgs false

noncomputable def FaultsA (l : List Fl) : List Ft := if checkL l == 0 then faultsL l else []
noncomputable def AllT (l : List Fl) : List En := if checkL l == 0 then (if faultsL l = [] then entsL l else []) else []
noncomputable def AllF (l : List Fl) : Ft := if checkL l == 0 then (match faultsL l with | [] => Ft.zero | f :: _ => f) else ⟨checkL l, ByteArray.empty⟩
/-- What objects that may be say of their names. -/
structure RowsL (l : List Fl) : Prop where
  u : RowsOf (rowsU l) (mU (occ l))
  s : RowsOf (rowsS l) (mS (l.flatMap (·.secs)))
  n : (rowsU l).length ≤ 2097152
  n2 : (rowsS l).length ≤ 2097152

theorem sizeFt : (Try.prog.info? 45).map (·.size) = some 2 := by kernel_rfl
theorem res_all {fn : Func} {p u : Tmp} (h : fn.results = #[.tmp u, .cell p 45]) (tmps : Array Value) (w : World) (g : Nat) (x y v : Value) (hp : tmps.getD p undef = .pointer (some ⟨g, 0, none⟩)) (hg : w.heap[g]? = some (.cells #[x, y] 45 (0, 0))) (hv : tmps.getD u undef = v) :
    (results fn tmps).run Try.prog w = .ok (.tuple #[v, .agg #[x, y]]) w := by
  have hp' : tmps[p]?.getD undef = .pointer (some ⟨g, 0, none⟩) := by simpa using hp
  have hv' : tmps[u]?.getD undef = v := by simpa using hv
  have hl := run_loadVar_row (P := Try.prog) w g 45 45 #[x, y] (0, 0) _ hg Try.underlying45 rfl (by rw [sizeFt]; rfl)
  simp only [results, h]
  simp [Sem.run_bind, Result.andThen, hp', hv', asAddr, hl]

set_option maxHeartbeats 8000000 in
set_option maxRecDepth 20000 in
theorem pfaults_any (ao : Option Addr) (c : Nat) (l : List Fl) (w : World) (hb : FlsB l) (hin : Fls w ao l) :
    Calls Try.prog 13 #[.slice ao l.length c] w fun e w' => ∃ v, e = .returned v ∧ (checkL l = 0 → RowsL l) ∧ OwnR 45 2 encF w' w.heap.size v (FaultsA l) ∧ Below w.heap.size w w' := by
  have HC : Hid _ := ⟨pcheck_any ao c l w hb hin⟩
  have HG : Hid (∀ W, Below w.heap.size w W → _) := ⟨fun W h => gather_any ao c l W hb (hin.below h (Nat.le_refl _))⟩
  have HSUM : Hid _ := ⟨hb.sum⟩
  have HFA : Hid (FaultsA l = if checkL l == 0 then faultsL l else []) := ⟨rfl⟩
  have HRL : Hid (RowsOf (rowsU l) (mU (occ l)) → RowsOf (rowsS l) (mS (l.flatMap (·.secs))) → (rowsU l).length ≤ 2097152 → (rowsS l).length ≤ 2097152 → RowsL l) := ⟨fun a b c d => ⟨a, b, c, d⟩⟩
  generalize FaultsA l = FA at *
  generalize checkL l = E at *
  obtain ⟨q, hq⟩ : ∃ q, (E == 0) = q := ⟨_, rfl⟩
  have hq' : (E != 0) = !q := by rw [bne, hq]
  rw [hq] at HFA
  clear hin hb
  obtain ⟨B, hB⟩ : ∃ B, w.heap.size = B := ⟨_, rfl⟩
  go_enter Try.func13, Try.ntmps13
  cases q
  · obtain rfl : FA = [] := HFA.out
    go_wp2_with (go_at_call 15; refine HC.out.mono ?_; rintro e w1 ⟨rfl, hb1⟩)
    go_ret
    exact ⟨_, rfl, fun h => (by rw [h] at hq; cases hq), OwnR.nil _ _, hb1⟩
  · obtain rfl : FA = faultsL l := HFA.out
    go_wp2_with (first
      | (go_at_call 15; refine HC.out.mono ?_; rintro e w1 ⟨rfl, hb1⟩)
      | (go_at_call 28; refine (HG.out _ hb1).mono ?_; rintro e w2 ⟨bu, bs, rfl, hne, hbu, hbs, hMu, hMs, hb2⟩)
      | (go_at_call 29; refine (faults_any hMu hMs HSUM.out.1 HSUM.out.2).mono ?_; rintro e w3 ⟨v3, rfl, hRU, hRS, hlU, hlS, ho3, hb3⟩))
    go_ret
    have hs1 := hb1.size
    have hs2 := hb2.size
    have hfin : Below B w w3 := by
      rw [← hB]
      exact hb1.trans ((hb2.trans (hb3.mono (by omega))).mono (by omega))
    have ho := ownR_base ho3 (show B ≤ w2.heap.size by omega)
    refine ⟨_, rfl, fun _ => HRL.out hRU hRS (by have := HSUM.out.1; unfold rowsU; omega) (by have := HSUM.out.2; unfold rowsS; omega), ?_, by first | exact hfin | (rw [hB]; exact hfin)⟩
    rw [faultsM_is] at ho
    first | exact ho | (rw [hB]; exact ho)

set_option maxHeartbeats 8000000 in
set_option maxRecDepth 20000 in
theorem pall_any (ao : Option Addr) (c : Nat) (l : List Fl) (w : World) (hb : FlsB l) (hin : Fls w ao l) :
    Calls Try.prog 16 #[.slice ao l.length c] w fun e w' => ∃ v, e = .returned (.tuple #[v, (AllF l).val]) ∧ (checkL l = 0 → RowsL l) ∧ OwnR 27 5 encE w' w.heap.size v (AllT l) ∧ Below w.heap.size w w' := by
  obtain ⟨B, hB⟩ : ∃ B, w.heap.size = B := ⟨_, rfl⟩
  have hz0 : (w.alloc (.cells #[.int .i64 0, .string ⟨#[]⟩] 45)).heap.size = B + 1 := by rw [← hB]; simp
  have F0 : Below B w (w.alloc (.cells #[.int .i64 0, .string ⟨#[]⟩] 45)) := by rw [← hB]; exact (Below.refl _ _).alloc (Nat.le_refl _) _
  have K0 : Bk (w.alloc (.cells #[.int .i64 0, .string ⟨#[]⟩] 45)) B 45 #[.int .i64 0, .string ⟨#[]⟩] := by rw [← hB]; exact Bk.new _ _ _
  have HC : Hid (∀ W, Below B w W → _) := ⟨fun W h => pcheck_any ao c l W hb (hin.below (B := B) h (by omega))⟩
  have HG : Hid (∀ W, Below B w W → _) := ⟨fun W h => gather_any ao c l W hb (hin.below (B := B) h (by omega))⟩
  have HSUM : Hid _ := ⟨hb.sum⟩
  have HFA : Hid (AllF l = if checkL l == 0 then (match faultsL l with | [] => Ft.zero | f :: _ => f) else ⟨checkL l, ByteArray.empty⟩) := ⟨rfl⟩
  have HTA : Hid (AllT l = if checkL l == 0 then (if faultsL l = [] then entsL l else []) else []) := ⟨rfl⟩
  generalize AllF l = FA at *
  generalize AllT l = TA at *
  generalize checkL l = E at *
  obtain ⟨q, hq⟩ : ∃ q, (E == 0) = q := ⟨_, rfl⟩
  have hq' : (E != 0) = !q := by rw [bne, hq]
  rw [hq] at HFA HTA
  clear hin hb
  have HF0 : Hid _ := ⟨F0⟩
  have HK0 : Hid _ := ⟨K0⟩
  clear F0 K0
  go_enter Try.func16, Try.ntmps16
  go_upto_region 1 with (fail)
  generalize w.alloc (.cells #[.int .i64 0, .string ⟨#[]⟩] 45) = w0 at *
  go_upto_region 2 with (go_at_call 15; refine (HC.out _ HF0.out).mono ?_; rintro e w1 ⟨rfl, hb1⟩)
  have HF1 : Hid (Below B w w1) := ⟨bt hB HF0.out hb1⟩
  have HK1 : Hid _ := ⟨HK0.out.bel hb1 HK0.out.lt⟩
  have hs1 := hb1.size
  clear hb1
  cases q
  · obtain rfl : TA = [] := HTA.out
    obtain rfl : FA = ⟨E, ByteArray.empty⟩ := HFA.out
    have c0 : w1.cell? ⟨B, 0, none⟩ = some (.int .i64 0) := HK1.out.cell 0 rfl
    have c1 : w1.cell? ⟨B, 1, none⟩ = some (.string ⟨#[]⟩) := HK1.out.cell 1 rfl
    have f0 := HK1.out.fro 0
    have f1 := HK1.out.fro 1
    go_wp2
    have KE := (HK1.out.setC 0 (.int .i64 E)).setC 1 (.string ByteArray.empty)
    have FE := bel_setC (bel_setC HF1.out ⟨B, 0, none⟩ (Nat.le_refl _) (.int .i64 E)) ⟨B, 1, none⟩ (Nat.le_refl _) (.string ByteArray.empty)
    refine bodyPost_ret (res_all (p := 3) (u := 2) (by kernel_rfl) _ _ B _ _ _ (by kernel_rfl) KE.hp rfl) rfl ?_
    exact ⟨_, rfl, fun h => (by rw [h] at hq; cases hq), OwnR.nil _ _, by rw [hB]; exact FE⟩
  · go_upto_region 5 with (go_at_call 28; refine (HG.out _ HF1.out).mono ?_; rintro e w2 ⟨bu, bs, rfl, hne, hbu, hbs, hMu, hMs, hb2⟩)
    have hs2 := hb2.size
    obtain ⟨X, hX⟩ : ∃ X, w2.heap.size = X := ⟨_, rfl⟩
    rw [hX]
    have HF3 : Hid (Below B w (w2.alloc (.cells #[.map (some bu), .map (some bs)] 71))) := ⟨(bt hB HF1.out hb2).alloc (by omega) _⟩
    have HK3 : Hid _ := ⟨(HK1.out.bel hb2 HK1.out.lt).alloc (.cells #[.map (some bu), .map (some bs)] 71)⟩
    have HX3 : Hid (Bk (w2.alloc (.cells #[.map (some bu), .map (some bs)] 71)) X 71 #[.map (some bu), .map (some bs)]) := ⟨by rw [← hX]; exact Bk.new _ _ _⟩
    have HMu : Hid _ := ⟨hMu.alloc (.cells #[.map (some bu), .map (some bs)] 71)⟩
    have HMs : Hid _ := ⟨hMs.alloc (.cells #[.map (some bu), .map (some bs)] 71)⟩
    clear hMu hMs hb2 hbu hbs hX
    generalize w2.alloc (.cells #[.map (some bu), .map (some bs)] 71) = w3 at *
    have x0 : w3.cell? ⟨X, 0, none⟩ = some (.map (some bu)) := HX3.out.cell 0 rfl
    have x1 : w3.cell? ⟨X, 1, none⟩ = some (.map (some bs)) := HX3.out.cell 1 rfl
    have hz3 := HF3.out.size
    go_upto_region 6 with (go_at_call 29; refine (faults_any HMu.out HMs.out HSUM.out.1 HSUM.out.2).mono ?_; rintro e w4 ⟨v4, rfl, hRU, hRS, hlU, hlS, ho4, hb4⟩; obtain ⟨af, cf, hv4, _, _, hno, hcf⟩ := ho4.any encF_len; subst hv4)
    rw [faultsM_is] at *
    have HROW : Hid (RowsL l) := ⟨⟨hRU, hRS, by have := HSUM.out.1; unfold rowsU; omega, by have := HSUM.out.2; unfold rowsS; omega⟩⟩
    have HF4 : Hid (Below B w w4) := ⟨bt hB HF3.out hb4⟩
    have HK4 : Hid _ := ⟨HK3.out.bel hb4 HK3.out.lt⟩
    have HX4 : Hid _ := ⟨HX3.out.bel hb4 HX3.out.lt⟩
    have HMu4 : Hid _ := ⟨HMu.out.below hb4 HMu.out.lt⟩
    have hz4 := hb4.size
    have hlL : (faultsL l).length ≤ 16777216 := by
      have h1 := ftOf_le 180 twice (rowsU l)
      have h2 := ftOf_le 181 undef1 (rowsU l)
      have h3 := ftOf_le 182 mixd (rowsU l)
      have h4 := HROW.out.n
      have h5 := ftOf_le 182 Sh.un (rowsS l)
      have h6 := HROW.out.n2
      unfold faultsL
      simp only [List.length_append]
      omega
    clear hRU hRS hlU hlS ho4 hb4 x0 x1 hno
    have k0 : w4.cell? ⟨B, 0, none⟩ = some (.int .i64 0) := HK4.out.cell 0 rfl
    have k1 : w4.cell? ⟨B, 1, none⟩ = some (.string ⟨#[]⟩) := HK4.out.cell 1 rfl
    have f0 := HK4.out.fro 0
    have f1 := HK4.out.fro 1
    cases hfl : faultsL l with
    | cons f r =>
      rw [hfl] at hcf HFA HTA hlL
      obtain ⟨fe, fn⟩ := f
      obtain rfl : FA = ⟨fe, fn⟩ := HFA.out
      obtain rfl : TA = [] := HTA.out
      rcases hcf with hcf | ⟨g, rfl, hg1, hg2, hgc⟩
      · cases hcf
      · have g0 : w4.cell? ⟨g, 0, none⟩ = some (.int .i64 fe) := hgc 0 (by simp) 0 (by decide)
        have g1 : w4.cell? ⟨g, 1, none⟩ = some (.string fn) := hgc 0 (by simp) 1 (by decide)
        have hln : 0 < ((⟨fe, fn⟩ :: r : List Ft).length : Int) := by simp
        clear hgc hfl HFA HTA
        generalize (⟨fe, fn⟩ :: r : List Ft).length = n at *
        have hgt : (0 < n) := by omega
        go_upto_region 7 with (fail)
        go_region
        go_wp2
        have KE := (HK4.out.setC 0 (.int .i64 fe)).setC 1 (.string fn)
        have FE : Below B w ((w4.setCell ⟨B, 0, none⟩ (.int .i64 fe)).setCell ⟨B, 1, none⟩ (.string fn)).drew := (bel_setC (bel_setC HF4.out ⟨B, 0, none⟩ (Nat.le_refl _) (.int .i64 fe)) ⟨B, 1, none⟩ (Nat.le_refl _) (.string fn)).trans (Below.refl _ _).drew
        refine bodyPost_ret (res_all (p := 3) (u := 2) (by kernel_rfl) _ _ B _ _ _ (by kernel_rfl) (show _ = _ from KE.hp) rfl) rfl ?_
        exact ⟨_, rfl, fun _ => HROW.out, OwnR.nil _ _, by rw [hB]; exact FE⟩
    | nil =>
      rw [hfl] at hcf HFA HTA hlL
      obtain rfl : FA = ⟨0, ByteArray.empty⟩ := HFA.out
      obtain rfl : TA = entsL l := by rw [HTA.out]; simp
      have x0 : w4.cell? ⟨X, 0, none⟩ = some (.map (some bu)) := HX4.out.cell 0 rfl
      have x1 : w4.cell? ⟨X, 1, none⟩ = some (.map (some bs)) := HX4.out.cell 1 rfl
      clear hcf hfl HFA HTA
      go_upto_region 8 with (fail)
      go_wp2_with (go_at_call 31; refine (entries_any (bs := bs) HMu4.out HSUM.out.1).mono ?_; rintro e w5 ⟨v5, rfl, hRU5, hlU5, ho5, hb5⟩; have HF5 : Hid (Below B w w5) := ⟨bt hB HF4.out hb5⟩; have HK5 : Hid _ := ⟨HK4.out.bel hb5 HK4.out.lt⟩; have HO5 : Hid _ := ⟨ho5⟩; have k05 : w5.cell? ⟨B, 0, none⟩ = some (.int .i64 0) := HK5.out.cell 0 rfl; have k15 : w5.cell? ⟨B, 1, none⟩ = some (.string ⟨#[]⟩) := HK5.out.cell 1 rfl; have f05 := HK5.out.fro 0; have f15 := HK5.out.fro 1; clear hb5 ho5 hRU5 hlU5)
      have KE := (HK5.out.setC 0 (.int .i64 0)).setC 1 (.string ⟨#[]⟩)
      have FE := bel_setC (bel_setC HF5.out ⟨B, 0, none⟩ (Nat.le_refl _) (.int .i64 0)) ⟨B, 1, none⟩ (Nat.le_refl _) (.string ⟨#[]⟩)
      have TE := ((Turn.refl (fun k => k = B) w5).setCell ⟨B, 0, none⟩ rfl (.int .i64 0)).setCell ⟨B, 1, none⟩ rfl (.string ⟨#[]⟩)
      have OE := TE.row HO5.out (fun k hk e => by have e2 : k = B := e; have := (HO5.out.lt k hk).1; have := HK4.out.lt; omega)
      have OE2 := ownR_base (show OwnR 27 5 encE _ _ _ _ from OE) (show B ≤ w4.heap.size by have := HK4.out.lt; omega)
      refine bodyPost_ret (res_all (p := 3) (u := 2) (by kernel_rfl) _ _ B _ _ _ (by kernel_rfl) (show _ = _ from KE.hp) rfl) rfl ?_
      exact ⟨_, rfl, fun _ => HROW.out, by first | exact OE2 | (rw [hB]; exact OE2), by first | exact FE | (rw [hB]; exact FE)⟩
end Go.Proofs.Ytgoaegembijdcaa

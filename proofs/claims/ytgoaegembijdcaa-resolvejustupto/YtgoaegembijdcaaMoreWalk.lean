/- ResolveMore: the law's walk. -/
import Derived.Test.YtgoaegembijdcaaRApp
import Derived.Test.YtgoaegembijdcaaOrderWalk
import Derived.Deep.CutRange
namespace Go.Proofs.Ytgoaegembijdcaa
open Go.ChangeShapes Go.WideShapes Go.ChangeAt Go.RowKit Go.Maps
set_option linter.unusedVariables false
set_option linter.unusedSimpArgs false

theorem flsB_more {l : List Fl} {f : Fl} (hC : FlsC l) (hf : FlB f ∧ f.secs.length + f.syms.length ≤ 1048576) : FlsB (l ++ [f]) := by
  refine ⟨?_, ?_, ?_, ?_⟩
  · have := hC.n; simp; omega
  · intro x hx
    rcases List.mem_append.1 hx with h | h
    · exact hC.each x h
    · simp at h; subst h; exact hf.1
  · rw [occ_snoc, List.length_append]
    have h1 := occ_len l
    have h2 := hC.sum
    have h3 : (ocs l.length f.syms).length = f.syms.length := by simp [ocs]
    omega
  · rw [List.flatMap_append, List.length_append]
    have h1 := secs_len l
    have h2 := hC.sum
    have h3 : ([f].flatMap (fun x => x.secs)).length = f.secs.length := by simp
    omega
/-- What the law asks of the entries. -/
def MoreE (T2 : List En) (x : En) : Prop := (findO T2 x.nm).isSome = true ∧ (x.b = 1 → findX T2 x.nm = x)
theorem more_all {l : List Fl} {f : Fl} (R : checkL l = 0 → RowsL l) (R2 : checkL (l ++ [f]) = 0 → RowsL (l ++ [f])) (hl : (occ l).length ≤ 2097152) (hl2 : (occ (l ++ [f])).length ≤ 2097152) (h1 : (AllF l).e = 0) (h2 : (AllF (l ++ [f])).e = 0) : ∀ i, i < (AllT l).length → MoreE (AllT (l ++ [f])) ((AllT l).getD i En.zero) := by
  intro i hi
  obtain ⟨a1, a2⟩ := (allF_ok l).1 h1
  obtain ⟨b1, b2⟩ := (allF_ok _).1 h2
  rw [allT_ok l h1] at hi ⊢
  rw [allT_ok _ h2]
  have g : (entsL l).getD i En.zero = (entsL l)[i] := by simp [hi]
  rw [g]
  exact more_ok (R a1) (R2 b1) hl hl2 b2 (List.getElem_mem hi)

set_option maxHeartbeats 16000000 in
set_option maxRecDepth 20000 in
theorem resolveMore_walk (ao : Option Addr) (c : Nat) (l : List Fl) (f : Fl) (w : World) (hl : Fls w ao l ∧ FlsC l ∧ (ao = none → c = 0)) (hf : FlIn w f ∧ FlB f ∧ f.secs.length + f.syms.length ≤ 1048576) :
    Calls Try.prog 6 #[.slice ao l.length c, f.val] w fun e w' => e = .returned (.bool true) ∧ Below w.heap.size w w' := by
  obtain ⟨hr, hC, _⟩ := hl
  have hB2 := flsB_more hC hf.2
  have hoc : (occ l).length ≤ 2097152 := by have := occ_len l; have := hC.sum; omega
  have hln : l.length ≤ 1048576 := hC.n
  have H1 : Hid (∀ W, Below w.heap.size w W → _) := ⟨fun W h => all_s ao c l W hC.b (hr.below h (Nat.le_refl _))⟩
  have H2 : Hid (∀ va vc W, Fls W va (l ++ [f]) → Calls Try.prog 16 #[.slice va (l.length + 1) vc] W fun e w' => ∃ va vc, e = .returned (.tuple #[.slice va (AllT (l ++ [f])).length vc, (AllF (l ++ [f])).val]) ∧ (checkL (l ++ [f]) = 0 → RowsL (l ++ [f])) ∧ OwnR 27 5 encE w' W.heap.size (.slice va (AllT (l ++ [f])).length vc) (AllT (l ++ [f])) ∧ Below W.heap.size W w') := ⟨fun va vc W h => by have := all_o va vc (l ++ [f]) W hB2 h; rwa [List.length_append, List.length_singleton] at this⟩
  have HFW : Hid (∀ W, Below w.heap.size w W → Fls W ao l) := ⟨fun W h => hr.below h (Nat.le_refl _)⟩
  have HIN : Hid (∀ W, Below w.heap.size w W → ∀ x ∈ l ++ [f], FlIn W x) := ⟨fun W h x hx => by
    rcases List.mem_append.1 hx with h1 | h1
    · exact (fls_in hr x h1).below h (Nat.le_refl _)
    · simp at h1; subst h1; exact hf.1.below h (Nat.le_refl _)⟩
  have HLF : Hid ((l ++ [f]).length = l.length + 1) := ⟨by simp⟩
  have HN : Hid (∀ x W, _) := ⟨num18_any⟩
  have HV : Hid (∀ W, _) := ⟨live18_any⟩
  have HM : Hid ((checkL l = 0 → RowsL l) → (checkL (l ++ [f]) = 0 → RowsL (l ++ [f])) → (AllF l).e = 0 → (AllF (l ++ [f])).e = 0 → _) := ⟨fun a b c d => more_all a b hoc hB2.sum.1 c d⟩
  have HT0 : Hid ((AllF l).e ≠ 0 → AllT l = []) := ⟨allT_bad l⟩
  have HL1 : Hid ((checkL l = 0 → RowsL l) → (AllT l).length ≤ 2097152) := ⟨fun h => allT_len h⟩
  have HL2 : Hid ((checkL (l ++ [f]) = 0 → RowsL (l ++ [f])) → (AllT (l ++ [f])).length ≤ 2097152) := ⟨fun h => allT_len h⟩
  clear hr hC hB2 hf hoc
  generalize AllT l = T at *
  generalize AllT (l ++ [f]) = T2 at *
  generalize AllF l = X at *
  generalize AllF (l ++ [f]) = Y at *
  generalize hE : (checkL l = 0 → RowsL l) = E1 at *
  generalize hE' : (checkL (l ++ [f]) = 0 → RowsL (l ++ [f])) = E2 at *
  clear hE hE'
  obtain ⟨xe, xn⟩ := X
  obtain ⟨ye, yn⟩ := Y
  dsimp only [Ft.val] at *
  have KB := Bk.new w #[.slice f.sa f.secs.length f.sc, .slice f.ya f.syms.length f.yc] 52
  have HB0 : Hid (Below w.heap.size w (w.alloc (.cells #[.slice f.sa f.secs.length f.sc, .slice f.ya f.syms.length f.yc] 52))) := ⟨(Below.refl _ _).alloc (Nat.le_refl _) _⟩
  go_enter Try.func6, Try.ntmps6
  dsimp only [Fl.val] at *
  go_upto_region 1 with (fail)
  have HKB : Hid _ := ⟨KB⟩
  clear KB
  obtain ⟨P, hP⟩ : ∃ P, w.heap.size = P := ⟨_, rfl⟩
  rw [hP] at HKB ⊢
  have HPP : Hid _ := ⟨hP⟩
  clear hP
  generalize w.alloc (.cells #[.slice f.sa f.secs.length f.sc, .slice f.ya f.syms.length f.yc] 52) = w0 at *
  go_upto_region 2 with (go_at_call 16; (with_reducible refine (H1.out _ HB0.out).mono ?_); rintro e w1 ⟨ta, tc, rfl, hR1, he1, hb1⟩)
  have K2 := Bk.new w1 #[.int .i64 xe, .string xn] 45
  have HB2 : Hid (Below w.heap.size w (w1.alloc (.cells #[.int .i64 xe, .string xn] 45))) := ⟨(HB0.out.trans (hb1.mono HB0.out.size)).alloc (by have := HB0.out.size; have := hb1.size; omega) _⟩
  have HE2 : Hid (Ents (w1.alloc (.cells #[.int .i64 xe, .string xn] 45)) ta T) := ⟨he1.below ((Below.refl _ _).alloc (Nat.le_refl _) _) (Nat.le_refl _)⟩
  have HKB2 : Hid _ := ⟨(HKB.out.bel hb1 HKB.out.lt).alloc (.cells #[.int .i64 xe, .string xn] 45)⟩
  have HRR1 : Hid _ := ⟨hR1⟩
  obtain ⟨Q, hQ⟩ : ∃ Q, w1.heap.size = Q := ⟨_, rfl⟩
  rw [hQ] at K2 ⊢
  have HK2 : Hid _ := ⟨K2⟩
  clear K2 he1 hb1 hQ hR1
  generalize w1.alloc (.cells #[.int .i64 xe, .string xn] 45) = w2 at *
  have q0 : w2.cell? ⟨Q, 0, none⟩ = some (.int .i64 xe) := HK2.out.cell 0 rfl
  by_cases hx : xe = 0
  · subst hx
    go_upto_region 4 with (go_at_call 11; (with_reducible refine (HN.out _ _).mono ?_); rintro e w' ⟨rfl, hw'⟩; subst w')
    have p0 : w2.drew.cell? ⟨P, 0, none⟩ = some (.slice f.sa f.secs.length f.sc) := HKB2.out.cell 0 rfl
    have p1 : w2.drew.cell? ⟨P, 1, none⟩ = some (.slice f.ya f.syms.length f.yc) := HKB2.out.cell 1 rfl
    have HSK : Hid (∀ W, Below w2.heap.size w2 W → W.cell? ⟨P, 0, none⟩ = some (.slice f.sa f.secs.length f.sc) ∧ W.cell? ⟨P, 1, none⟩ = some (.slice f.ya f.syms.length f.yc)) := ⟨fun W h => ⟨up_c (show w2.cell? _ = _ from p0) h, up_c (show w2.cell? _ = _ from p1) h⟩⟩
    have HFL : Hid (∀ W, Below w2.heap.size w2 W → Fls W ao l) := ⟨fun W h => HFW.out W (HB2.out.trans (h.mono HB2.out.size))⟩
    have HIL : Hid (∀ W, Below w2.heap.size w2 W → ∀ x ∈ l ++ [f], FlIn W x) := ⟨fun W h => HIN.out W (HB2.out.trans (h.mono HB2.out.size))⟩
    go_cut [7, 8] from 27 to 36 (fun s7 s8 wx => ∃ ua uc q, s7 = .slice ua T2.length uc ∧ s8 = .pointer (some ⟨q, 0, none⟩) ∧ Hid (E2 ∧ Below w2.heap.size w2 wx ∧ Ents wx ua T2 ∧ wx.cell? ⟨q, 0, none⟩ = some (.int .i64 ye)))
    case first =>
      go_region_held3 (fun x => x.cell? ⟨P, 0, none⟩ = some (.slice f.sa f.secs.length f.sc) ∧ x.cell? ⟨P, 1, none⟩ = some (.slice f.ya f.syms.length f.yc))
        (first | (with_reducible assumption) | (refine HSK.out _ ?_; (focus ((repeat (first | exact HB8.out | exact HB7.out | exact HB5.out | exact Below.refl _ _ | refine Below.drew ?_ | refine bal ?_ _)); done))) | (refine HSK.out _ (bel_setC ?_ _ ?_ _); (focus ((repeat (first | exact HB8.out | exact HB7.out | exact HB5.out | exact Below.refl _ _ | refine Below.drew ?_ | refine bal ?_ _)); done)); (focus (first | (simp; done) | (have h5 := HB5.out.size; have h7 := HB7.out.size; have h8 := HB8.out.size; simp; omega)))) | (refine HSK.out _ (bel_setC (bel_setC ?_ _ ?_ _) _ ?_ _); (focus ((repeat (first | exact HB8.out | exact HB7.out | exact HB5.out | exact Below.refl _ _ | refine Below.drew ?_ | refine bal ?_ _)); done)); (focus (first | (simp; done) | (have h5 := HB5.out.size; have h7 := HB7.out.size; have h8 := HB8.out.size; simp; omega))); (focus (first | (simp; done) | (have h5 := HB5.out.size; have h7 := HB7.out.size; have h8 := HB8.out.size; simp; omega)))))
        (first
          | (refine step_append_fl (by rfl) _ _ _ (by rfl) (by kernel_rfl) w2.heap.size _ l (by rfl) ?_ _ [f] 1 1 rfl (by rfl) (row2_one (t := 52) (Ap.bk (v := .slice va5 l.length vc5) ?_)) ?_ ?_ (l.length + 1) ?_ ?_; (focus (first | exact HO5.out | exact World.ownsRow.alloc HO5.out _ | exact World.ownsRow.alloc (World.ownsRow.alloc HO5.out _) _)); (focus ((repeat (first | (refine Ap.fresh ?_ ?_; (focus (first | omega | (simp; done) | (simp; omega))); (focus (first | (simp [Value.ownBlock]; done) | (simp [Value.ownBlock]; omega) | (refine ne_own HLT7.out ?_; (focus (first | omega | (simp; done) | (simp; omega)))) | (refine ne_own HLT5.out ?_; (focus (first | omega | (simp; done) | (simp; omega))))))) | refine Ap.alloc ?_ _ | refine Ap.drew ?_ | refine HA7.out _ _ _ ?_ | refine HA5.out _ _ _ ?_)); done)); (focus (first | (simp; done) | (simp; omega) | omega)); (focus (first | omega | (simp; done) | (simp; omega) | exact HB5.out.size | (have h5 := HB5.out.size; simp; omega))); (focus (first | (simp; done) | rfl)); intro va7 vc7 w7 ho7 hb7 ha7; have HB7 : Hid (Below w2.heap.size w2 w7) := (by refine ⟨Below.trans ?_ hb7⟩; (focus ((repeat (first | exact HB8.out | exact HB7.out | exact HB5.out | exact Below.refl _ _ | refine Below.drew ?_ | refine bal ?_ _)); done))); have HF7 : Hid (∀ W, Below w7.heap.size w7 W → Fls W va7 (l ++ [f])) := ⟨fun W hW => (own_flsN HLF.out ho7 (HIL.out _ HB7.out)).below hW (Nat.le_refl _)⟩; have HA7 : Hid _ := ⟨ha7⟩; have HLT7 : Hid _ := ⟨fun k hk => (World.ownsRow.lt ho7 k hk).2⟩; clear ho7 hb7 ha7)
          | (refine step_append_fl (by rfl) _ _ _ (by rfl) (by kernel_rfl) w2.heap.size _ [] (by rfl) (own_empty (Ap.bk (v := .slice none 0 0) ?_) ?_) ao l c l.length rfl (by rfl) (row2_of (HFL.out _ ?_)) ?_ ?_ l.length ?_ ?_; (focus ((repeat (first | (refine Ap.fresh ?_ ?_; (focus (first | omega | (simp; done) | (simp; omega))); (focus (first | (simp [Value.ownBlock]; done) | (simp [Value.ownBlock]; omega) | (refine ne_own HLT7.out ?_; (focus (first | omega | (simp; done) | (simp; omega)))) | (refine ne_own HLT5.out ?_; (focus (first | omega | (simp; done) | (simp; omega))))))) | refine Ap.alloc ?_ _ | refine Ap.drew ?_ | refine HA7.out _ _ _ ?_ | refine HA5.out _ _ _ ?_)); done)); (focus (first | omega | (simp; done) | (simp; omega))); (focus ((repeat (first | exact HB8.out | exact HB7.out | exact HB5.out | exact Below.refl _ _ | refine Below.drew ?_ | refine bal ?_ _)); done)); (focus (first | (simp; done) | (simp; omega) | omega)); (focus (first | omega | (simp; done) | (simp; omega) | exact HB5.out.size | (have h5 := HB5.out.size; simp; omega))); (focus (first | (simp; done) | rfl)); intro va5 vc5 w5 ho5 hb5 ha5; have HO5 : Hid (OwnR 52 2 encFl w5 w2.heap.size (.slice va5 l.length vc5) l) := ⟨ho5⟩; have HB5 : Hid (Below w2.heap.size w2 w5) := (by refine ⟨Below.trans ?_ hb5⟩; (focus ((repeat (first | exact HB8.out | exact HB7.out | exact HB5.out | exact Below.refl _ _ | refine Below.drew ?_ | refine bal ?_ _)); done))); have HA5 : Hid _ := ⟨ha5⟩; have HLT5 : Hid _ := ⟨fun k hk => (World.ownsRow.lt ho5 k hk).2⟩; clear ho5 hb5 ha5)
          | (go_at_call 16; (with_reducible refine (H2.out _ _ _ (HF7.out _ ?_)).mono ?_); (focus ((repeat (first | exact Below.refl _ _ | refine Below.drew ?_ | refine bal ?_ _)); done)); rintro e w8 ⟨ua, uc, rfl, hR8, ho8, hb8⟩; have HB8 : Hid (Below w2.heap.size w2 w8) := (by refine ⟨btr ?_ hb8⟩; (focus ((repeat (first | exact HB8.out | exact HB7.out | exact HB5.out | exact Below.refl _ _ | refine Below.drew ?_ | refine bal ?_ _)); done))); have HO8 : Hid _ := ⟨ho8⟩; have HR8 : Hid _ := ⟨hR8⟩; (first | (have HQ8 : Hid (Ap w8 (w2.heap.size) 45 #[.int .i64 0, .string ⟨#[]⟩] (.slice ua T2.length uc)) := ?hq8; (case hq8 => (refine ⟨al_bel (v := .slice va7 (l.length + 1) vc7) ?_ hb8 ho8⟩; (focus ((repeat (first | (refine Ap.fresh ?_ ?_; (focus (first | omega | (simp; done) | (simp; omega))); (focus (first | (simp [Value.ownBlock]; done) | (simp [Value.ownBlock]; omega) | (refine ne_own HLT7.out ?_; (focus (first | omega | (simp; done) | (simp; omega)))) | (refine ne_own HLT5.out ?_; (focus (first | omega | (simp; done) | (simp; omega))))))) | refine Ap.alloc ?_ _ | refine Ap.drew ?_ | refine HA7.out _ _ _ ?_ | refine HA5.out _ _ _ ?_)); done)))); have z0 : w8.cell? ⟨w2.heap.size, 0, none⟩ = some (.int .i64 0) := HQ8.out.bk.cell 0 rfl; have z1 : w8.cell? ⟨w2.heap.size, 1, none⟩ = some (.string ⟨#[]⟩) := HQ8.out.bk.cell 1 rfl; have zf0 := HQ8.out.bk.fro 0; have zf1 := HQ8.out.bk.fro 1) | (have HQ8 : Hid (Ap w8 (w2.heap.size + 1) 45 #[.int .i64 0, .string ⟨#[]⟩] (.slice ua T2.length uc)) := ?hq8; (case hq8 => (refine ⟨al_bel (v := .slice va7 (l.length + 1) vc7) ?_ hb8 ho8⟩; (focus ((repeat (first | (refine Ap.fresh ?_ ?_; (focus (first | omega | (simp; done) | (simp; omega))); (focus (first | (simp [Value.ownBlock]; done) | (simp [Value.ownBlock]; omega) | (refine ne_own HLT7.out ?_; (focus (first | omega | (simp; done) | (simp; omega)))) | (refine ne_own HLT5.out ?_; (focus (first | omega | (simp; done) | (simp; omega))))))) | refine Ap.alloc ?_ _ | refine Ap.drew ?_ | refine HA7.out _ _ _ ?_ | refine HA5.out _ _ _ ?_)); done)))); have z0 : w8.cell? ⟨w2.heap.size + 1, 0, none⟩ = some (.int .i64 0) := HQ8.out.bk.cell 0 rfl; have z1 : w8.cell? ⟨w2.heap.size + 1, 1, none⟩ = some (.string ⟨#[]⟩) := HQ8.out.bk.cell 1 rfl; have zf0 := HQ8.out.bk.fro 0; have zf1 := HQ8.out.bk.fro 1) | (have HQ8 : Hid (Ap w8 (w2.heap.size + 2) 45 #[.int .i64 0, .string ⟨#[]⟩] (.slice ua T2.length uc)) := ?hq8; (case hq8 => (refine ⟨al_bel (v := .slice va7 (l.length + 1) vc7) ?_ hb8 ho8⟩; (focus ((repeat (first | (refine Ap.fresh ?_ ?_; (focus (first | omega | (simp; done) | (simp; omega))); (focus (first | (simp [Value.ownBlock]; done) | (simp [Value.ownBlock]; omega) | (refine ne_own HLT7.out ?_; (focus (first | omega | (simp; done) | (simp; omega)))) | (refine ne_own HLT5.out ?_; (focus (first | omega | (simp; done) | (simp; omega))))))) | refine Ap.alloc ?_ _ | refine Ap.drew ?_ | refine HA7.out _ _ _ ?_ | refine HA5.out _ _ _ ?_)); done)))); have z0 : w8.cell? ⟨w2.heap.size + 2, 0, none⟩ = some (.int .i64 0) := HQ8.out.bk.cell 0 rfl; have z1 : w8.cell? ⟨w2.heap.size + 2, 1, none⟩ = some (.string ⟨#[]⟩) := HQ8.out.bk.cell 1 rfl; have zf0 := HQ8.out.bk.fro 0; have zf1 := HQ8.out.bk.fro 1) | (have HQ8 : Hid (Ap w8 (w5.heap.size) 45 #[.int .i64 0, .string ⟨#[]⟩] (.slice ua T2.length uc)) := ?hq8; (case hq8 => (refine ⟨al_bel (v := .slice va7 (l.length + 1) vc7) ?_ hb8 ho8⟩; (focus ((repeat (first | (refine Ap.fresh ?_ ?_; (focus (first | omega | (simp; done) | (simp; omega))); (focus (first | (simp [Value.ownBlock]; done) | (simp [Value.ownBlock]; omega) | (refine ne_own HLT7.out ?_; (focus (first | omega | (simp; done) | (simp; omega)))) | (refine ne_own HLT5.out ?_; (focus (first | omega | (simp; done) | (simp; omega))))))) | refine Ap.alloc ?_ _ | refine Ap.drew ?_ | refine HA7.out _ _ _ ?_ | refine HA5.out _ _ _ ?_)); done)))); have z0 : w8.cell? ⟨w5.heap.size, 0, none⟩ = some (.int .i64 0) := HQ8.out.bk.cell 0 rfl; have z1 : w8.cell? ⟨w5.heap.size, 1, none⟩ = some (.string ⟨#[]⟩) := HQ8.out.bk.cell 1 rfl; have zf0 := HQ8.out.bk.fro 0; have zf1 := HQ8.out.bk.fro 1) | (have HQ8 : Hid (Ap w8 (w5.heap.size + 1) 45 #[.int .i64 0, .string ⟨#[]⟩] (.slice ua T2.length uc)) := ?hq8; (case hq8 => (refine ⟨al_bel (v := .slice va7 (l.length + 1) vc7) ?_ hb8 ho8⟩; (focus ((repeat (first | (refine Ap.fresh ?_ ?_; (focus (first | omega | (simp; done) | (simp; omega))); (focus (first | (simp [Value.ownBlock]; done) | (simp [Value.ownBlock]; omega) | (refine ne_own HLT7.out ?_; (focus (first | omega | (simp; done) | (simp; omega)))) | (refine ne_own HLT5.out ?_; (focus (first | omega | (simp; done) | (simp; omega))))))) | refine Ap.alloc ?_ _ | refine Ap.drew ?_ | refine HA7.out _ _ _ ?_ | refine HA5.out _ _ _ ?_)); done)))); have z0 : w8.cell? ⟨w5.heap.size + 1, 0, none⟩ = some (.int .i64 0) := HQ8.out.bk.cell 0 rfl; have z1 : w8.cell? ⟨w5.heap.size + 1, 1, none⟩ = some (.string ⟨#[]⟩) := HQ8.out.bk.cell 1 rfl; have zf0 := HQ8.out.bk.fro 0; have zf1 := HQ8.out.bk.fro 1) | (have HQ8 : Hid (Ap w8 (w7.heap.size) 45 #[.int .i64 0, .string ⟨#[]⟩] (.slice ua T2.length uc)) := ?hq8; (case hq8 => (refine ⟨al_bel (v := .slice va7 (l.length + 1) vc7) ?_ hb8 ho8⟩; (focus ((repeat (first | (refine Ap.fresh ?_ ?_; (focus (first | omega | (simp; done) | (simp; omega))); (focus (first | (simp [Value.ownBlock]; done) | (simp [Value.ownBlock]; omega) | (refine ne_own HLT7.out ?_; (focus (first | omega | (simp; done) | (simp; omega)))) | (refine ne_own HLT5.out ?_; (focus (first | omega | (simp; done) | (simp; omega))))))) | refine Ap.alloc ?_ _ | refine Ap.drew ?_ | refine HA7.out _ _ _ ?_ | refine HA5.out _ _ _ ?_)); done)))); have z0 : w8.cell? ⟨w7.heap.size, 0, none⟩ = some (.int .i64 0) := HQ8.out.bk.cell 0 rfl; have z1 : w8.cell? ⟨w7.heap.size, 1, none⟩ = some (.string ⟨#[]⟩) := HQ8.out.bk.cell 1 rfl; have zf0 := HQ8.out.bk.fro 0; have zf1 := HQ8.out.bk.fro 1) | skip); clear hb8 ho8 hR8))
      all_goals first
        | (go_wp2; go_meet; exact ⟨_, _, _, rfl, rfl, ⟨HR8.out, fin_late HO8.out HB8.out _ _⟩⟩)
        | (go_wp2; go_meet; exact ⟨_, _, _, rfl, rfl, ⟨HR8.out, fin_early HQ8.out HO8.out HB8.out (by first | omega | (have h5 := HB5.out.size; omega) | (have h5 := HB7.out.size; omega)) _ _⟩⟩)
    case rest =>
      obtain ⟨ua, uc, q, hs7, hs8, HC⟩ := hcut
      subst hs7 hs8
      have HB9 : Hid (Below w.heap.size w wc) := ⟨HB2.out.trans (HC.out.2.1.mono HB2.out.size)⟩
      have HE9 : Hid (Ents wc ta T) := ⟨HE2.out.below HC.out.2.1 (Nat.le_refl _)⟩
      have HU9 : Hid (Ents wc ua T2) := ⟨HC.out.2.2.1⟩
      have q1 : wc.cell? ⟨q, 0, none⟩ = some (.int .i64 ye) := HC.out.2.2.2
      have HEE : Hid E2 := ⟨HC.out.1⟩
      have hT1 := HL1.out HRR1.out
      have HFI : Hid (∀ n W, Ents W ua T2 → _) := ⟨fun n W h => pfind_any ua uc T2 n W (HL2.out HEE.out) h⟩
      clear HC HSK HFL HIL H1 H2 HFW HIN HKB HKB2 p0 p1 HL1 HL2
      by_cases hy : ye = 0
      · subst hy
        have HMM : Hid _ := ⟨HM.out HRR1.out HEE.out (by simp) (by simp)⟩
        go_upto_region 8 with (go_at_call 11; (with_reducible refine (HN.out _ _).mono ?_); rintro e w' ⟨rfl, hw'⟩; subst w')
        clear q1 q0
        go_loopw [9] (fun i wr => ∃ k : Nat, k ≤ T.length ∧ i = .int .i64 k ∧ Hid (Below wc.heap.size wc wr)) (fun i _ => T.length - (intOf i).toNat)
        case atStart => exact ⟨0, by omega, rfl, ⟨Below.refl _ _⟩⟩
        case round =>
          obtain ⟨k, hk, rfl, HW⟩ := hrel
          by_cases hlt : k < T.length
          · obtain ⟨b, off, rfl, hat⟩ : ∃ b off, ta = some ⟨b, off, none⟩ ∧ ∀ i, i < T.length → EntAt wr b (off + i * 5) (T.getD i En.zero) := by
              rcases HE9.out.below HW.out (Nat.le_refl _) with h | h
              · rw [h] at hlt; simp at hlt
              · exact h
            obtain ⟨c0, c1, c2, c3, c4⟩ := hat k hlt
            obtain ⟨r1, r2⟩ := HMM.out k hlt
            clear hat
            generalize T.getD k En.zero = p at *
            obtain ⟨nm, x1, x2, x3, x4⟩ := p
            dsimp only at c0 c1 c2 c3 c4 r1 r2
            have hlti : (k : Int) < (T.length : Int) := by omega
            have s0 : (nm.toList == nm.toList) = true := by simp
            have HFK : Hid _ := ⟨HFI.out nm wr (HU9.out.below HW.out (Nat.le_refl _))⟩
            rw [r1] at HFK
            clear r1
            generalize findX T2 nm = fx at *
            obtain ⟨fn, fo, fk, fb, ft⟩ := fx
            dsimp only [En.val] at *
            go_upto_region 11 with (go_at_call 7; (with_reducible refine HFK.out.mono ?_); rintro e w10 ⟨rfl, hb10⟩)
            have K11 := Bk.new w10 #[.string fn, .int .i64 fo, .int .i64 fk, .int .i64 fb, .int .i64 ft] 27
            have hb11 : Below wr.heap.size wr (w10.alloc (.cells #[.string fn, .int .i64 fo, .int .i64 fk, .int .i64 fb, .int .i64 ft] 27)) := bal hb10 _
            have a0 := up_c c0 hb11
            have a1 := up_c c1 hb11
            have a2 := up_c c2 hb11
            have a3 := up_c c3 hb11
            have a4 := up_c c4 hb11
            have HB11 : Hid (Below wc.heap.size wc (w10.alloc (.cells #[.string fn, .int .i64 fo, .int .i64 fk, .int .i64 fb, .int .i64 ft] 27))) := ⟨btr HW.out hb11⟩
            obtain ⟨Z, hZ⟩ : ∃ Z, w10.heap.size = Z := ⟨_, rfl⟩
            rw [hZ] at K11 ⊢
            clear c0 c1 c2 c3 c4 hb10 hb11 hZ HFK
            generalize w10.alloc (.cells #[.string fn, .int .i64 fo, .int .i64 fk, .int .i64 fb, .int .i64 ft] 27) = w11 at *
            have z0 : w11.cell? ⟨Z, 0, none⟩ = some (.string fn) := K11.cell 0 rfl
            have z1 : w11.cell? ⟨Z, 1, none⟩ = some (.int .i64 fo) := K11.cell 1 rfl
            have z2 : w11.cell? ⟨Z, 2, none⟩ = some (.int .i64 fk) := K11.cell 2 rfl
            have z3 : w11.cell? ⟨Z, 3, none⟩ = some (.int .i64 fb) := K11.cell 3 rfl
            have z4 : w11.cell? ⟨Z, 4, none⟩ = some (.int .i64 ft) := K11.cell 4 rfl
            clear K11
            by_cases hx1 : x3 = 1
            · subst hx1
              have r3 := r2 rfl
              clear r2
              simp only [En.mk.injEq] at r3
              obtain ⟨rfl, rfl, rfl, rfl, rfl⟩ := r3
              go_quiet (fail)
              go_wp2
              go_roundw
              case rel => exact ⟨k + 1, hlt, by go_num, ⟨bdN HB11.out _⟩⟩
              case measure => simp [intOf]; omega
            · have hd : decide (x3 = 1) = false := by simpa using hx1
              have hd2 : (x3 == 1) = false := by simpa using hx1
              clear r2
              go_quiet (fail)
              go_wp2
              go_roundw
              case rel => exact ⟨k + 1, hlt, by go_num, ⟨bdN HB11.out _⟩⟩
              case measure => simp [intOf]; omega
          · obtain rfl : k = T.length := by omega
            have HBW : Hid (Below w.heap.size w wr) := ⟨HB9.out.trans (HW.out.mono HB9.out.size)⟩
            go_wp2_with (go_at_call 12; (with_reducible refine (HV.out _).mono ?_); rintro e wz ⟨rfl, hbz⟩)
            go_ret
            exact ⟨rfl, HBW.out.trans (hbz.mono HBW.out.size)⟩
      · go_wp2_with (first
          | (go_at_call 11; (with_reducible refine (HN.out _ _).mono ?_); rintro e w' ⟨rfl, hw'⟩; subst w')
          | (go_at_call 12; (with_reducible refine (HV.out _).mono ?_); rintro e w5 ⟨rfl, hb5⟩))
        go_ret
        exact ⟨rfl, HB9.out.trans (hb5.mono HB9.out.size)⟩
  · obtain rfl : T = [] := HT0.out hx
    go_wp2_with (first
      | (go_at_call 11; (with_reducible refine (HN.out _ _).mono ?_); rintro e w' ⟨rfl, hw'⟩; subst w')
      | (go_at_call 12; (with_reducible refine (HV.out _).mono ?_); rintro e w5 ⟨rfl, hb5⟩))
    go_ret
    exact ⟨rfl, HB2.out.trans (hb5.mono HB2.out.size)⟩
end Go.Proofs.Ytgoaegembijdcaa
